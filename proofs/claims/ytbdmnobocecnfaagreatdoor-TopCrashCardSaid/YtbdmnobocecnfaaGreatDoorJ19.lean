/-
  Views: whether one may be.
-/
import Derived.Test.YtbdmnobocecnfaaGreatDoorJ18
namespace Go.Proofs.YtbdmnobocecnfaaGreatDoor
set_option linter.unusedVariables false
set_option linter.unusedSimpArgs false
set_option maxRecDepth 100000
open Go.RowKit
section
open Pm
attribute [local irreducible] condK LoopA regA
def countS:List A→(Res→Prop)→Prop
 |[.agg [.bools 8 ad]],K=>K (.d (.v (.int .i64 (cntB ad:Nat))))
 |_,_=>False
set_option maxHeartbeats 4000000 in
theorem count_ok(ad:List Bool):FnO 157 [.agg [.bools 8 ad]] (.d (.v (.int .i64 (cntB ad:Nat)))):=by
 refine fn_lens fun hl=>?_
 replace hl:ad.length=8:=hl.1.1
 refine fnA (E:=env0) Tryz.func157 Tryz.ntmps157 ?_
 refine agom ?_;(try exact⟨⟩)
 refine StopL.mk (loop_inv [3,6,7] 1 (fun s=>∃k:Nat,k≤8∧s=⟨[.dead,.dead,.dead,.d (.v (.int .i64 (cntB (ad.take k):Nat))),.dead,.dead,.d (.agg [.bools 8 ad]),.d (.v (.int .i64 (k:Nat))),.dead,.dead,.dead,.dead,.dead,.dead,.dead],[some (.var [.bools 8 ad])]⟩) (fun s=>8-intAt s 7) rfl ⟨0,by omega,rfl⟩ ?_)
 rintro s ⟨k,hk,rfl⟩
 have hw:IntKind.i64.wrap ((k:Int)+1)=((k+1:Nat):Int):=by rw[wrapS (by omega) (by omega)];omega
 have hc:cntB (ad.take k)≤8:=Nat.le_trans (cnt_le _) (by simp;omega)
 have hwc:IntKind.i64.wrap ((cntB (ad.take k):Nat)+1)=((cntB (ad.take k)+1:Nat):Int):=by rw[wrapS (by omega) (by omega)];omega
 by_cases hk8:k<8
 ·have hs:=cnt_step ad k (by omega)
  cases hb:ad.getD k false with
  |true=>
   rw[hb,if_pos rfl]at hs
   refine agom ?_;(try exact⟨⟩)
   refine⟨⟨k+1,by omega,by rw[hs,←hwc,←hw];rfl⟩,?_⟩
   show 8- (IntKind.i64.wrap ((k:Int)+1)).toNat<8- (k:Int).toNat
   rw[hw];omega
  |false=>
   rw[hb,if_neg (by simp)]at hs
   refine agom ?_;(try exact⟨⟩)
   refine⟨⟨k+1,by omega,by rw[hs,←hw];rfl⟩,?_⟩
   show 8- (IntKind.i64.wrap ((k:Int)+1)).toNat<8- (k:Int).toNat
   rw[hw];omega
 ·obtain rfl:k=8:=by omega
  have e:ad.take 8=ad:=List.take_of_length_le (by omega)
  rw[e]
  refine agom ?_;(try exact⟨⟩)
theorem countS_ok:∀args K,countS args K→∃r,FnO 157 args r∧K r:=by
 intro args K h
 unfold countS at h
 split at h
 ·exact⟨_,count_ok _,h⟩
 ·exact h.elim
abbrev vSegs(e:Int)(zs:List Int)(ad:List Bool)(k:Int)(ch:List UInt8):List Seg:=[.ints .i64 1 [e],.ints .i64 31 zs,.bools 8 ad,.ints .i64 1 [k],.bytes 32 ch]
noncomputable def envV4:EnvX:=envV3.add 155 isMemS isMemS_ok ⟨_,Tryz.func155,by kernel_rfl,by kernel_rfl⟩
noncomputable def envV5:EnvX:=envV4.add 157 countS countS_ok ⟨_,Tryz.func157,by kernel_rfl,by kernel_rfl⟩
noncomputable def envV6:EnvX:=envV5
noncomputable def envV7:EnvX:=envV6
noncomputable def envV8:EnvX:=envV7.add 205 isTS (isTS_ok isTree_ok) ⟨_,Tryz.func205,by kernel_rfl,by kernel_rfl⟩
noncomputable def envV9:EnvX:=envV8.add 166 isS (isS_ok fun y=>fn_plain1 fun w=>is_any y w) ⟨_,Tryz.func166,by kernel_rfl,by kernel_rfl⟩
noncomputable def envVa:EnvX:=envV9.add 221 putS (putS_ok put_ok) ⟨_,Tryz.func221,by kernel_rfl,by kernel_rfl⟩
noncomputable def envVb:EnvX:=envVa
def admTo(zs:List Int)(ad:List Bool)(n:Nat):Bool:=(List.range n).all fun i=>!ad.getD i false||memL zs i
def mayV(e:Int)(zs:List Int)(ad:List Bool)(k:Int):Bool:=decide (0≤e)&&decide (e≤1099511627776)&&isT zs&&admTo zs ad 8&&decide (1≤k)&&decide (k≤(cntB ad:Nat))
theorem admTo_step(zs:List Int)(ad:List Bool)(n:Nat):admTo zs ad (n+1)=(admTo zs ad n&&(!ad.getD n false||memL zs n)):=by
 unfold admTo
 rw[List.range_succ,List.all_append]
 simp
theorem admTo_mono(zs:List Int)(ad:List Bool):∀(d n:Nat),admTo zs ad (n+d)=true→admTo zs ad n=true
 |0,n,h=>h
 |d+1,n,h=>by
  rw[←Nat.add_assoc,admTo_step]at h
  simp only[Bool.and_eq_true]at h
  exact admTo_mono zs ad d n h.1
set_option maxHeartbeats 8000000 in
theorem vIs_ok(e:Int)(zs:List Int)(ad:List Bool)(th:Int)(ch:List UInt8):FnO 152 [.agg (vSegs e zs ad th ch)] (.d (.v (.bool (mayV e zs ad th)))):=by
 refine fnA (E:=envVb) Tryz.func152 Tryz.ntmps152 ?_
 by_cases h0:e<0
 ·have hr:mayV e zs ad th=false:=by simp[mayV];intro h;omega
  rw[hr]
  clear hr
  refine agom ?_;(try exact⟨⟩)
 by_cases h1:e>1099511627776
 ·have hr:mayV e zs ad th=false:=by simp[mayV];intros;omega
  rw[hr]
  clear hr
  refine agom ?_;(try exact⟨⟩)
 cases hT:isT zs with
 |false=>
  have hr:mayV e zs ad th=false:=by simp[mayV,hT]
  rw[hr]
  clear hr
  refine agom ?_;(try exact⟨⟩)
 |true=>
  have hr:mayV e zs ad th=(admTo zs ad 8&&decide (1≤th)&&decide (th≤(cntB ad:Nat))):=by
   have a0:decide (0≤e)=true:=decide_eq_true (by omega)
   have a1:decide (e≤1099511627776)=true:=decide_eq_true (by omega)
   simp only[mayV,hT,a0,a1,Bool.true_and]
  rw[hr]
  clear hr
  refine agom ?_;(try exact⟨⟩)
  refine StopL.mk (loop_inv [1,20,21] 1 (fun s=>∃k:Nat,k≤8∧admTo zs ad k=true∧s=⟨[.dead,.ptr 0 0,.dead,.dead,.dead,.dead,.dead,.dead,.dead,.dead,.dead,.dead,.dead,.dead,.dead,.dead,.dead,.dead,.dead,.dead,.d (.agg [.bools 8 ad]),.d (.v (.int .i64 (k:Nat))),.dead,.dead,.dead,.dead,.dead,.dead,.dead,.dead,.dead,.dead,.dead,.dead,.dead,.dead,.dead,.dead,.dead,.dead,.dead,.dead,.dead,.dead,.dead],[some (.var (vSegs e zs ad th ch))]⟩) (fun s=>8-intAt s 21) rfl ⟨0,by omega,rfl,rfl⟩ ?_)
  rintro s ⟨k,hk,hA,rfl⟩
  have hw:IntKind.i64.wrap ((k:Int)+1)=((k+1:Nat):Int):=by rw[wrapS (by omega) (by omega)];omega
  by_cases hk8:k<8
  ·have hs:=admTo_step zs ad k
   have hm:memB zs (k:Int)=memL zs k:=by simp[memB,leafB];omega
   rw[hA,Bool.true_and]at hs
   cases hb:ad.getD k false with
   |false=>
    rw[hb]at hs
    clear hm
    refine agom ?_;(try exact⟨⟩)
    refine⟨⟨k+1,by omega,hs,by rw[←hw];rfl⟩,?_⟩
    show 8- (IntKind.i64.wrap ((k:Int)+1)).toNat<8- (k:Int).toNat
    rw[hw];omega
   |true=>
    rw[hb]at hs
    cases hm2:memL zs k with
    |true=>
     rw[hm2]at hs hm
     clear hm2
     refine agom ?_;(try exact⟨⟩)
     refine⟨⟨k+1,by omega,hs,by rw[←hw];rfl⟩,?_⟩
     show 8- (IntKind.i64.wrap ((k:Int)+1)).toNat<8- (k:Int).toNat
     rw[hw];omega
    |false=>
     rw[hm2]at hs hm
     have hr:admTo zs ad 8=false:=by
      cases h:admTo zs ad 8 with
      |false=>rfl
      |true=>
       have:=admTo_mono zs ad (8- (k+1)) (k+1) (by rw[show k+1+(8- (k+1))=8 by omega];exact h)
       rw[hs]at this;cases this
     rw[hr]
     clear hm2 hr hs
     refine agom ?_;(try exact⟨⟩)
     rfl
  ·obtain rfl:k=8:=by omega
   rw[hA]
   clear hA
   by_cases h2:th≥1
   ·have d1:decide (1≤th)=true:=decide_eq_true h2
    rw[d1]
    clear d1
    refine agom ?_;(try exact⟨⟩)
    simp
   ·have d1:decide (1≤th)=false:=decide_eq_false h2
    rw[d1]
    clear d1
    refine agom ?_;(try exact⟨⟩)
    simp
def vIsS:List A→(Res→Prop)→Prop
 |[.agg [.ints .i64 1 [e],.ints .i64 31 zs,.bools 8 ad,.ints .i64 1 [k],.bytes 32 ch]],K=>K (.d (.v (.bool (mayV e zs ad k))))
 |_,_=>False
theorem vIsS_of{f:FuncId}(hx:∀e zs ad k ch,FnO f [.agg (vSegs e zs ad k ch)] (.d (.v (.bool (mayV e zs ad k))))):∀args K,vIsS args K→∃r,FnO f args r∧K r:=by
 intro args K h
 unfold vIsS at h
 split at h
 ·exact⟨_,hx _ _ _ _ _,h⟩
 ·exact h.elim
noncomputable def envVc:EnvX:=envVb.add 152 vIsS (vIsS_of vIs_ok) ⟨_,Tryz.func152,by kernel_rfl,by kernel_rfl⟩
noncomputable def envVd:EnvX:=envVc
end
end Go.Proofs.YtbdmnobocecnfaaGreatDoor
