/-
  Views: whether one may be.
-/
import Derived.Test.YtjhgelfnmhdihaaGreatDoorJ18
namespace Go.Proofs.YtjhgelfnmhdihaaGreatDoor
set_option linter.unusedVariables false
set_option linter.unusedSimpArgs false
set_option maxRecDepth 100000
open Go.RowKit
section
open Pm
attribute [local irreducible] aU aZ bR
def NV:List A→(bP→Prop)→Prop
 |[.agg [.bools 8 ad]],K=>K (.d (.v (.int .i64 (jh ad:Nat))))
 |_,_=>False
set_option maxHeartbeats 4000000 in
theorem XG(ad:List Bool):aP 200 [.agg [.bools 8 ad]] (.d (.v (.int .i64 (jh ad:Nat)))):=by
 refine iq fun hl=>?_
 replace hl:ad.length=8:=hl.1.1
 refine dK (E:=uF) Tryz.func200 Tryz.ntmps200 ?_
 refine aX ?_;(try exact⟨⟩)
 refine aM.mk (gG [3,6,7] 1 (fun s=>∃k:Nat,k≤8∧s=⟨[.ah,.ah,.ah,.d (.v (.int .i64 (jh (ad.take k):Nat))),.ah,.ah,.d (.agg [.bools 8 ad]),.d (.v (.int .i64 (k:Nat))),.ah,.ah,.ah,.ah,.ah,.ah,.ah],[some (.var [.bools 8 ad])]⟩) (fun s=>8-lX s 7) rfl ⟨0,by omega,rfl⟩ ?_)
 rintro s ⟨k,hk,rfl⟩
 have hw:IntKind.i64.wrap ((k:Int)+1)=((k+1:Nat):Int):=by rw[dR (by omega) (by omega)];omega
 have hc:jh (ad.take k)≤8:=Nat.le_trans (Xu _) (by simp;omega)
 have hwc:IntKind.i64.wrap ((jh (ad.take k):Nat)+1)=((jh (ad.take k)+1:Nat):Int):=by rw[dR (by omega) (by omega)];omega
 by_cases Nq:k<8
 ·have hs:=Kv ad k (by omega)
  cases hb:ad.getD k false with
  |true=>
   rw[hb,if_pos rfl]at hs
   refine aX ?_;(try exact⟨⟩)
   refine⟨⟨k+1,by omega,by rw[hs,←hwc,←hw];rfl⟩,?_⟩
   show 8- (IntKind.i64.wrap ((k:Int)+1)).toNat<8- (k:Int).toNat
   rw[hw];omega
  |false=>
   rw[hb,if_neg (by simp)]at hs
   refine aX ?_;(try exact⟨⟩)
   refine⟨⟨k+1,by omega,by rw[hs,←hw];rfl⟩,?_⟩
   show 8- (IntKind.i64.wrap ((k:Int)+1)).toNat<8- (k:Int).toNat
   rw[hw];omega
 ·obtain rfl:k=8:=by omega
  have e:ad.take 8=ad:=List.take_of_length_le (by omega)
  rw[e]
  refine aX ?_;(try exact⟨⟩)
theorem TP:∀args K,NV args K→∃r,aP 200 args r∧K r:=by
 intro args K h
 unfold NV at h
 split at h
 ·exact⟨_,XG _,h⟩
 ·exact h.elim
abbrev bS(e:Int)(zs:List Int)(ad:List Bool)(k:Int)(ch:List UInt8):List Seg:=[.ints .i64 1 [e],.ints .i64 31 zs,.bools 8 ad,.ints .i64 1 [k],.bytes 32 ch]
def Ij:List A→(bP→Prop)→Prop
 |[.agg [.ints .i64 1 [e],.ints .i64 31 zs,.bools 8 ad,.ints .i64 1 [k],.bytes 32 ch]],K=>K (.d (.v (.int .i64 (jh ad:Nat))))
 |_,_=>False
set_option maxHeartbeats 4000000 in
theorem Td(e:Int)(zs:List Int)(ad:List Bool)(th:Int)(ch:List UInt8):aP 138 [.agg (bS e zs ad th ch)] (.d (.v (.int .i64 (jh ad:Nat)))):=by
 refine iq fun hl=>?_
 replace hl:ad.length=8:=hl.1.2.2.1
 refine dK (E:=uF) Tryz.func138 Tryz.ntmps138 ?_
 refine aX ?_;(try exact⟨⟩)
 refine aM.mk (gG [1,3,4] 1 (fun s=>∃k:Nat,k≤8∧s=⟨[.ah,.ptr 0 0,.ah,.d (.v (.int .i64 (jh (ad.take k):Nat))),.d (.v (.int .i64 (k:Nat))),.ah,.ah,.ah,.ah,.ah,.ah,.ah,.ah,.ah,.ah,.ah],[some (.var (bS e zs ad th ch))]⟩) (fun s=>8-lX s 4) rfl ⟨0,by omega,rfl⟩ ?_)
 rintro s ⟨k,hk,rfl⟩
 have hw:IntKind.i64.wrap ((k:Int)+1)=((k+1:Nat):Int):=by rw[dR (by omega) (by omega)];omega
 have hc:jh (ad.take k)≤8:=Nat.le_trans (Xu _) (by simp;omega)
 have hwc:IntKind.i64.wrap ((jh (ad.take k):Nat)+1)=((jh (ad.take k)+1:Nat):Int):=by rw[dR (by omega) (by omega)];omega
 by_cases Nq:k<8
 ·have hs:=Kv ad k (by omega)
  cases hb:ad.getD k false with
  |true=>
   rw[hb,if_pos rfl]at hs
   refine aX ?_;(try exact⟨⟩)
   refine⟨⟨k+1,by omega,by rw[hs,←hwc,←hw];rfl⟩,?_⟩
   show 8- (IntKind.i64.wrap ((k:Int)+1)).toNat<8- (k:Int).toNat
   rw[hw];omega
  |false=>
   rw[hb,if_neg (by simp)]at hs
   refine aX ?_;(try exact⟨⟩)
   refine⟨⟨k+1,by omega,by rw[hs,←hw];rfl⟩,?_⟩
   show 8- (IntKind.i64.wrap ((k:Int)+1)).toNat<8- (k:Int).toNat
   rw[hw];omega
 ·obtain rfl:k=8:=by omega
  have e:ad.take 8=ad:=List.take_of_length_le (by omega)
  rw[e]
  refine aX ?_;(try exact⟨⟩)
theorem Nw:∀args K,Ij args K→∃r,aP 138 args r∧K r:=by
 intro args K h
 unfold Ij at h
 split at h
 ·exact⟨_,Td _ _ _ _ _,h⟩
 ·exact h.elim
def Sb:List A→(bP→Prop)→Prop
 |[.agg [.ints .i64 1 [e],.ints .i64 31 zs,.bools 8 ad,.ints .i64 1 [k],.bytes 32 ch],.v (.int .i64 i)],K=>K (.d (.v (.bool (bn zs i))))
 |_,_=>False
set_option maxHeartbeats 4000000 in
theorem aw5(e:Int)(zs:List Int)(ad:List Bool)(th:Int)(ch:List UInt8)(i:Int):aP 19 [.agg (bS e zs ad th ch),.v (.int .i64 i)] (.d (.v (.bool (bn zs i)))):=by
 refine dK (E:=uF) Tryz.func19 Tryz.ntmps19 ?_
 by_cases h0:0≤i
 ·by_cases h1:i<8
  ·obtain⟨n,rfl⟩:=Int.eq_ofNat_of_zero_le h0
   have hn:n<8:=by omega
   have hm:bn zs (n:Int)=decide ((zs.drop (n*2)).take 2≠[0,0]):=by
    simp[bn,aG,h1,dF,pJ zs hn]
   rw[hm]
   clear hm
   refine aX ?_;(try exact⟨⟩)
   simp[bf]
  ·have hm:bn zs i=false:=by simp[bn,aG,h1]
   rw[hm]
   clear hm
   refine aX ?_;(try exact⟨⟩)
 ·have hm:bn zs i=false:=by simp[bn,aG,h0]
  rw[hm]
  clear hm
  refine aX ?_;(try exact⟨⟩)
theorem Mg:∀args K,Sb args K→∃r,aP 19 args r∧K r:=by
 intro args K h
 unfold Sb at h
 split at h
 ·exact⟨_,aw5 _ _ _ _ _ _,h⟩
 ·exact h.elim
noncomputable def bj1:ay:=aD4.add 199 OO Uu ⟨_,Tryz.func199,by kernel_rfl,by kernel_rfl⟩
noncomputable def bj2:ay:=bj1.add 200 NV TP ⟨_,Tryz.func200,by kernel_rfl,by kernel_rfl⟩
noncomputable def bj3:ay:=bj2.add 138 Ij Nw ⟨_,Tryz.func138,by kernel_rfl,by kernel_rfl⟩
noncomputable def bj4:ay:=bj3.add 19 Sb Mg ⟨_,Tryz.func19,by kernel_rfl,by kernel_rfl⟩
noncomputable def bj5:ay:=bj4.add 198 ar2 (RD Uv) ⟨_,Tryz.func198,by kernel_rfl,by kernel_rfl⟩
noncomputable def bj6:ay:=bj5.add 175 isS (IV fun y=>rA fun w=>zZ y w) ⟨_,Tryz.func175,by kernel_rfl,by kernel_rfl⟩
noncomputable def bj7:ay:=bj6.add 225 U9 (Cq aa7) ⟨_,Tryz.func225,by kernel_rfl,by kernel_rfl⟩
noncomputable def Ye:ay:=bj7.add 190 U9 (Cq Sq) ⟨_,Tryz.func190,by kernel_rfl,by kernel_rfl⟩
def kV(zs:List Int)(ad:List Bool)(n:Nat):Bool:=(List.range n).all fun i=>!ad.getD i false||dF zs i
def dU(e:Int)(zs:List Int)(ad:List Bool)(k:Int):Bool:=decide (0≤e)&&decide (e≤1099511627776)&&rQ zs&&kV zs ad 8&&decide (1≤k)&&decide (k≤(jh ad:Nat))
theorem wW(zs:List Int)(ad:List Bool)(n:Nat):kV zs ad (n+1)=(kV zs ad n&&(!ad.getD n false||dF zs n)):=by
 unfold kV
 rw[List.range_succ,List.all_append]
 simp
theorem wV(zs:List Int)(ad:List Bool):∀(d n:Nat),kV zs ad (n+d)=true→kV zs ad n=true
 |0,n,h=>h
 |d+1,n,h=>by
  rw[←Nat.add_assoc,wW]at h
  simp only[Bool.and_eq_true]at h
  exact wV zs ad d n h.1
set_option maxHeartbeats 8000000 in
theorem ah3(e:Int)(zs:List Int)(ad:List Bool)(th:Int)(ch:List UInt8):aP 157 [.agg (bS e zs ad th ch)] (.d (.v (.bool (dU e zs ad th)))):=by
 refine dK (E:=Ye) Tryz.func157 Tryz.ntmps157 ?_
 by_cases h0:e<0
 ·have hr:dU e zs ad th=false:=by simp[dU];intro h;omega
  rw[hr]
  clear hr
  refine aX ?_;(try exact⟨⟩)
 by_cases h1:e>1099511627776
 ·have hr:dU e zs ad th=false:=by simp[dU];intros;omega
  rw[hr]
  clear hr
  refine aX ?_;(try exact⟨⟩)
 cases hT:rQ zs with
 |false=>
  have hr:dU e zs ad th=false:=by simp[dU,hT]
  rw[hr]
  clear hr
  refine aX ?_;(try exact⟨⟩)
 |true=>
  have hr:dU e zs ad th=(kV zs ad 8&&decide (1≤th)&&decide (th≤(jh ad:Nat))):=by
   have a0:decide (0≤e)=true:=decide_eq_true (by omega)
   have a1:decide (e≤1099511627776)=true:=decide_eq_true (by omega)
   simp only[dU,hT,a0,a1,Bool.true_and]
  rw[hr]
  clear hr
  refine aX ?_;(try exact⟨⟩)
  refine aM.mk (gG [1,20,21] 1 (fun s=>∃k:Nat,k≤8∧kV zs ad k=true∧s=⟨[.ah,.ptr 0 0,.ah,.ah,.ah,.ah,.ah,.ah,.ah,.ah,.ah,.ah,.ah,.ah,.ah,.ah,.ah,.ah,.ah,.ah,.d (.agg [.bools 8 ad]),.d (.v (.int .i64 (k:Nat))),.ah,.ah,.ah,.ah,.ah,.ah,.ah,.ah,.ah,.ah,.ah,.ah,.ah,.ah,.ah,.ah,.ah,.ah,.ah,.ah,.ah,.ah,.ah],[some (.var (bS e zs ad th ch))]⟩) (fun s=>8-lX s 21) rfl ⟨0,by omega,rfl,rfl⟩ ?_)
  rintro s ⟨k,hk,hA,rfl⟩
  have hw:IntKind.i64.wrap ((k:Int)+1)=((k+1:Nat):Int):=by rw[dR (by omega) (by omega)];omega
  by_cases Nq:k<8
  ·have hs:=wW zs ad k
   have hm:bn zs (k:Int)=dF zs k:=by simp[bn,aG];omega
   rw[hA,Bool.true_and]at hs
   cases hb:ad.getD k false with
   |false=>
    rw[hb]at hs
    clear hm
    refine aX ?_;(try exact⟨⟩)
    refine⟨⟨k+1,by omega,hs,by rw[←hw];rfl⟩,?_⟩
    show 8- (IntKind.i64.wrap ((k:Int)+1)).toNat<8- (k:Int).toNat
    rw[hw];omega
   |true=>
    rw[hb]at hs
    cases hm2:dF zs k with
    |true=>
     rw[hm2]at hs hm
     clear hm2
     refine aX ?_;(try exact⟨⟩)
     refine⟨⟨k+1,by omega,hs,by rw[←hw];rfl⟩,?_⟩
     show 8- (IntKind.i64.wrap ((k:Int)+1)).toNat<8- (k:Int).toNat
     rw[hw];omega
    |false=>
     rw[hm2]at hs hm
     have hr:kV zs ad 8=false:=by
      cases h:kV zs ad 8 with
      |false=>rfl
      |true=>
       have:=wV zs ad (8- (k+1)) (k+1) (by rw[show k+1+(8- (k+1))=8 by omega];exact h)
       rw[hs]at this;cases this
     rw[hr]
     clear hm2 hr hs
     refine aX ?_;(try exact⟨⟩)
     rfl
  ·obtain rfl:k=8:=by omega
   rw[hA]
   clear hA
   by_cases h2:th≥1
   ·have d1:decide (1≤th)=true:=decide_eq_true h2
    rw[d1]
    clear d1
    refine aX ?_;(try exact⟨⟩)
    simp
   ·have d1:decide (1≤th)=false:=decide_eq_false h2
    rw[d1]
    clear d1
    refine aX ?_;(try exact⟨⟩)
    simp
def VN:List A→(bP→Prop)→Prop
 |[.agg [.ints .i64 1 [e],.ints .i64 31 zs,.bools 8 ad,.ints .i64 1 [k],.bytes 32 ch]],K=>K (.d (.v (.bool (dU e zs ad k))))
 |_,_=>False
theorem Cx{f:FuncId}(hx:∀e zs ad k ch,aP f [.agg (bS e zs ad k ch)] (.d (.v (.bool (dU e zs ad k))))):∀args K,VN args K→∃r,aP f args r∧K r:=by
 intro args K h
 unfold VN at h
 split at h
 ·exact⟨_,hx _ _ _ _ _,h⟩
 ·exact h.elim
set_option maxHeartbeats 8000000 in
theorem Sv(e:Int)(zs:List Int)(ad:List Bool)(th:Int)(ch:List UInt8):aP 88 [.agg (bS e zs ad th ch)] (.d (.v (.bool (dU e zs ad th)))):=by
 refine dK (E:=Ye) Tryz.func88 Tryz.ntmps88 ?_
 refine aX ?_;(try exact⟨⟩)
 refine aM.mk (gG [1,3] 1 (fun s=>∃k:Nat,k≤8∧kV zs ad k=true∧s=⟨[.ah,.ptr 0 0,.ah,.d (.v (.int .i64 (k:Nat))),.ah,.ah,.ah,.ah,.ah,.ah,.ah,.ah,.ah,.ah,.ah,.ah,.ah,.ah,.ah,.ah,.ah,.ah,.ah,.ah,.ah,.ah,.ah,.ah,.ah,.ah,.ah,.ah,.ah,.ah,.ah,.ah,.ah,.ah,.ah,.ah,.ah,.ah,.ah],[some (.var (bS e zs ad th ch))]⟩) (fun s=>8-lX s 3) rfl ⟨0,by omega,rfl,rfl⟩ ?_)
 rintro s ⟨k,hk,hA,rfl⟩
 have hw:IntKind.i64.wrap ((k:Int)+1)=((k+1:Nat):Int):=by rw[dR (by omega) (by omega)];omega
 by_cases Nq:k<8
 ·have hs:=wW zs ad k
  have hm:bn zs (k:Int)=dF zs k:=by simp[bn,aG];omega
  rw[hA,Bool.true_and]at hs
  cases hb:ad.getD k false with
  |false=>
   rw[hb]at hs
   clear hm
   refine aX ?_;(try exact⟨⟩)
   refine⟨⟨k+1,by omega,hs,by rw[←hw];rfl⟩,?_⟩
   show 8- (IntKind.i64.wrap ((k:Int)+1)).toNat<8- (k:Int).toNat
   rw[hw];omega
  |true=>
   rw[hb]at hs
   cases hm2:dF zs k with
   |true=>
    rw[hm2]at hs hm
    clear hm2
    refine aX ?_;(try exact⟨⟩)
    refine⟨⟨k+1,by omega,hs,by rw[←hw];rfl⟩,?_⟩
    show 8- (IntKind.i64.wrap ((k:Int)+1)).toNat<8- (k:Int).toNat
    rw[hw];omega
   |false=>
    rw[hm2]at hs hm
    have hr:dU e zs ad th=false:=by
     have:kV zs ad 8=false:=by
      cases h:kV zs ad 8 with
      |false=>rfl
      |true=>
       have:=wV zs ad (8- (k+1)) (k+1) (by rw[show k+1+(8- (k+1))=8 by omega];exact h)
       rw[hs]at this;cases this
     simp[dU,this]
    rw[hr]
    clear hm2 hr hs
    refine aX ?_;(try exact⟨⟩)
 ·obtain rfl:k=8:=by omega
  have hc:jh ad≤8∨True:=.inr trivial
  clear hc
  unfold dU
  rw[hA]
  clear hA
  by_cases h0:e≥0
  ·rw[decide_eq_true (show 0≤e from h0)]
   by_cases h1:e≤1099511627776
   ·rw[decide_eq_true h1]
    cases hT:rQ zs with
    |false=>
     refine aX ?_;(try exact⟨⟩)
     rfl
    |true=>
     by_cases h2:th≥1
     ·rw[decide_eq_true (show 1≤th from h2)]
      refine aX ?_;(try exact⟨⟩)
      simp
     ·rw[decide_eq_false (show ¬1≤th from h2)]
      refine aX ?_;(try exact⟨⟩)
      rfl
   ·rw[decide_eq_false h1]
    refine aX ?_;(try exact⟨⟩)
    rfl
  ·rw[decide_eq_false (show ¬0≤e from h0)]
   refine aX ?_;(try exact⟨⟩)
   rfl
noncomputable def bj8:ay:=Ye.add 157 VN (Cx ah3) ⟨_,Tryz.func157,by kernel_rfl,by kernel_rfl⟩
noncomputable def bj9:ay:=bj8.add 88 VN (Cx Sv) ⟨_,Tryz.func88,by kernel_rfl,by kernel_rfl⟩
end
end Go.Proofs.YtjhgelfnmhdihaaGreatDoor
