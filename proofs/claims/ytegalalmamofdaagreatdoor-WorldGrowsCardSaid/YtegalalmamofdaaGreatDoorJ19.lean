/- -/
import Derived.Test.YtegalalmamofdaaGreatDoorJ18
namespace Go.Proofs.YtegalalmamofdaaGreatDoor
set_option linter.all false
set_option maxRecDepth 100000
open Go.RowKit
set_option maxHeartbeats 8000000
noncomputable section
open Pm
attribute [local irreducible] aN aQ bq
def RH:List A->(bC->Prop)->Prop
 |[.agg [.bools 8 ad]],K=>K (.d (.v (.int .i64 (mJ ad:Nat))))
 |_,_=>False
theorem ag1(ad:List Bool):aV 161 [.agg [.bools 8 ad]] (.d (.v (.int .i64 (mJ ad:Nat)))):=by
 refine iY fun hl=>?_
 replace hl:ad.length=8:=hl.1.1
 refine eO (E:=sV) Tryz.func161 Tryz.ntmps161 ?_
 refine dG ?_
 refine aX.mk (lG [3,6,7] 1 (fun s=>∃k:Nat,k<=8/\s=⟨[.au,.au,.au,.d (.v (.int .i64 (mJ (ad.take k):Nat))),.au,.au,.d (.agg [.bools 8 ad]),.d (.v (.int .i64 (k:Nat))),.au,.au,.au,.au,.au,.au,.au],[some (.var [.bools 8 ad])]⟩) (fun s=>8-vI s 7) rfl ⟨0,by omega,rfl⟩ ?_)
 rintro s ⟨k,hk,rfl⟩
 have hw:IntKind.i64.wrap ((k:Int)+1)=((k+1:Nat):Int):=by rw[gH (by omega) (by omega)];omega
 have hc:mJ (ad.take k)<=8:=Nat.le_trans (br1 _) (by simp;omega)
 have hwc:IntKind.i64.wrap ((mJ (ad.take k):Nat)+1)=((mJ (ad.take k)+1:Nat):Int):=by rw[gH (by omega) (by omega)];omega
 by_cases hk8:k<8
 ·have hs:=ae7 ad k (by omega)
  cases hb:ad.getD k false with
  |true=>
   rw[hb,if_pos rfl]at hs
   refine dG ?_
   refine⟨⟨k+1,by omega,by rw[hs,<-hwc,<-hw];rfl⟩,?_⟩
   show 8- (IntKind.i64.wrap ((k:Int)+1)).toNat<8- (k:Int).toNat
   rw[hw];omega
  |false=>
   rw[hb,if_neg (by simp)]at hs
   refine dG ?_
   refine⟨⟨k+1,by omega,by rw[hs,<-hw];rfl⟩,?_⟩
   show 8- (IntKind.i64.wrap ((k:Int)+1)).toNat<8- (k:Int).toNat
   rw[hw];omega
 ·obtain rfl:k=8:=by omega
  have e:ad.take 8=ad:=List.take_of_length_le (by omega)
  rw[e]
  refine dG ?_;(try exact⟨⟩)
theorem XK:∀args K,RH args K->∃r,aV 161 args r/\K r:=by
 intro args K h
 unfold RH at h
 split at h
 ·exact⟨_,ag1 _,h⟩
 ·exact h.elim
abbrev eD(e:Int)(zs:List Int)(ad:List Bool)(k:Int)(ch:List UInt8):List Seg:=[.ints .i64 1 [e],.ints .i64 31 zs,.bools 8 ad,.ints .i64 1 [k],.bytes 32 ch]
def bZ5:ak:=bj2.add 159 SA Yh (.of Tryz.func159)
def bZ6:ak:=bZ5.add 161 RH XK (.of Tryz.func161)
def bZ7:ak:=bZ6
def bZ8:ak:=bZ7
def bZ9:ak:=bZ8.add 209 bB3 (aS1 Yi) (.of Tryz.func209)
def ca0:ak:=bZ9.add 170 isS (aq3 fun y=>Ca fun w=>Ch y w) (.of Tryz.func170)
def ca3:ak:=ca0.add 224 aX2 (Wm aA1) (.of Tryz.func224)
def bj3:ak:=ca3
def oq(zs:List Int)(ad:List Bool)(n:Nat):Bool:=(List.range n).all fun i=>!ad.getD i false||eH zs i
def gF(e:Int)(zs:List Int)(ad:List Bool)(k:Int):Bool:=decide (0<=e)&&decide (e<=1099511627776)&&wQ zs&&oq zs ad 8&&decide (1<=k)&&decide (k<=(mJ ad:Nat))
theorem EW(zs:List Int)(ad:List Bool)(n:Nat):oq zs ad (n+1)=(oq zs ad n&&(!ad.getD n false||eH zs n)):=by
 unfold oq
 rw[List.range_succ,List.all_append]
 simp
theorem EU(zs:List Int)(ad:List Bool):∀(d n:Nat),oq zs ad (n+d)=true->oq zs ad n=true
 |0,n,h=>h
 |d+1,n,h=>by
  rw[<-Nat.add_assoc,EW]at h
  simp only[Bool.and_eq_true]at h
  exact EU zs ad d n h.1
theorem Ut(e:Int)(zs:List Int)(ad:List Bool)(th:Int)(ch:List UInt8):aV 156 [.agg (eD e zs ad th ch)] (.d (.v (.bool (gF e zs ad th)))):=by
 refine eO (E:=bj3) Tryz.func156 Tryz.ntmps156 ?_
 by_cases h0:e<0
 ·have hr:gF e zs ad th=false:=by simp[gF];intro h;omega
  rw[hr]
  clear hr
  refine dG ?_;(try exact⟨⟩)
 by_cases h1:e>1099511627776
 ·have hr:gF e zs ad th=false:=by simp[gF];intros;omega
  rw[hr]
  clear hr
  refine dG ?_;(try exact⟨⟩)
 cases hT:wQ zs with
 |false=>
  have hr:gF e zs ad th=false:=by simp[gF,hT]
  rw[hr]
  clear hr
  refine dG ?_;(try exact⟨⟩)
 |true=>
  have hr:gF e zs ad th=(oq zs ad 8&&decide (1<=th)&&decide (th<=(mJ ad:Nat))):=by
   have a0:decide (0<=e)=true:=decide_eq_true (by omega)
   have a1:decide (e<=1099511627776)=true:=decide_eq_true (by omega)
   simp only[gF,hT,a0,a1,Bool.true_and]
  rw[hr]
  clear hr
  refine dG ?_
  refine aX.mk (lG [1,20,21] 1 (fun s=>∃k:Nat,k<=8/\oq zs ad k=true/\s=⟨.au::.ptr 0 0::dz 18 (.d (.agg [.bools 8 ad])::.d (.v (.int .i64 (k:Nat)))::dz 23 []),[some (.var (eD e zs ad th ch))]⟩) (fun s=>8-vI s 21) rfl ⟨0,by omega,rfl,rfl⟩ ?_)
  rintro s ⟨k,hk,hA,rfl⟩
  have hw:IntKind.i64.wrap ((k:Int)+1)=((k+1:Nat):Int):=by rw[gH (by omega) (by omega)];omega
  by_cases hk8:k<8
  ·have hs:=EW zs ad k
   have hm:dS zs (k:Int)=eH zs k:=by simp[dS,aL];omega
   rw[hA,Bool.true_and]at hs
   cases hb:ad.getD k false with
   |false=>
    rw[hb]at hs
    clear hm
    refine dG ?_
    refine⟨⟨k+1,by omega,hs,by rw[<-hw];rfl⟩,?_⟩
    show 8- (IntKind.i64.wrap ((k:Int)+1)).toNat<8- (k:Int).toNat
    rw[hw];omega
   |true=>
    rw[hb]at hs
    cases hm2:eH zs k with
    |true=>
     rw[hm2]at hs hm
     clear hm2
     refine dG ?_
     refine⟨⟨k+1,by omega,hs,by rw[<-hw];rfl⟩,?_⟩
     show 8- (IntKind.i64.wrap ((k:Int)+1)).toNat<8- (k:Int).toNat
     rw[hw];omega
    |false=>
     rw[hm2]at hs hm
     have hr:oq zs ad 8=false:=by
      cases h:oq zs ad 8 with
      |false=>rfl
      |true=>
       have:=EU zs ad (8- (k+1)) (k+1) (by rw[show k+1+(8- (k+1))=8 by omega];exact h)
       rw[hs]at this;cases this
     rw[hr]
     clear hm2 hr hs
     refine dG ?_;(try exact⟨⟩)
     rfl
  ·obtain rfl:k=8:=by omega
   rw[hA]
   clear hA
   by_cases h2:th>=1
   ·have d1:decide (1<=th)=true:=decide_eq_true h2
    rw[d1]
    clear d1
    refine dG ?_;(try exact⟨⟩)
    simp
   ·have d1:decide (1<=th)=false:=decide_eq_false h2
    rw[d1]
    clear d1
    refine dG ?_;(try exact⟨⟩)
    simp
def aH0:List A->(bC->Prop)->Prop
 |[.agg [.ints .i64 1 [e],.ints .i64 31 zs,.bools 8 ad,.ints .i64 1 [k],.bytes 32 ch]],K=>K (.d (.v (.bool (gF e zs ad k))))
 |_,_=>False
theorem MU{f:FuncId}(hx:∀e zs ad k ch,aV f [.agg (eD e zs ad k ch)] (.d (.v (.bool (gF e zs ad k))))):∀args K,aH0 args K->∃r,aV f args r/\K r:=by
 intro args K h
 unfold aH0 at h
 split at h
 ·exact⟨_,hx _ _ _ _ _,h⟩
 ·exact h.elim
def ca4:ak:=bj3.add 156 aH0 (MU Ut) (.of Tryz.func156)
def ca5:ak:=ca4
end
end Go.Proofs.YtegalalmamofdaaGreatDoor
