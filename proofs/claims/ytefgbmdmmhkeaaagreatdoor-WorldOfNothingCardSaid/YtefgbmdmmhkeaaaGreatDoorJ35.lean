/-
  Operations done: what stays of the committer, who is new. Mathematics; no function is named here.
-/
import Derived.Test.YtefgbmdmmhkeaaaGreatDoorJ34
namespace Go.Proofs.YtefgbmdmmhkeaaaGreatDoor
set_option linter.unusedVariables false
set_option linter.unusedSimpArgs false
set_option maxRecDepth 100000
open Go.RowKit
section
open Pm
structure Stay(zs0:List Int)(fr:Nat)(s:Vw):Prop where
 zl:s.zs.length=31
 al:s.ad.length=8
 nl:s.ng.length=8
 gl:s.gn.length=8
 mem:memL s.zs fr=true
 own:leafP s.zs fr=leafP zs0 fr
 ng:s.ng.getD fr false=false
 gn:s.gn.getD fr false=false
theorem Stay.step{zs0:List Int}{fr:Nat}(hfr:fr<8){s:Vw}(h:Stay zs0 fr s){o:List Int}(he:errOp s fr o=0):Stay zs0 fr (nextOp s o):=by
 obtain⟨h1,h2,h3,h4,h5,h6,h7,h8⟩:=h
 unfold nextOp
 unfold errOp at he
 by_cases k1:o.getD 0 0=1
 ·rw[if_pos k1]at he ⊢
  obtain⟨hf,hi1,hi2⟩:=errAdd_0 he
  obtain⟨hf8,hfm⟩:=free_lt hf
  have hne:fr≠freeN s.zs:=fun e=>by rw[←e,h5]at hfm;cases hfm
  refine⟨putL_length h1 rfl,h2,by simp[h3],h4,?_,?_,?_,h8⟩
  ·rw[memL_put h1 rfl hf8 hfr,if_neg hne];exact h5
  ·rw[leafP_put h1 rfl hf8 hfr,if_neg hne];exact h6
  ·show(s.ng.set (freeN s.zs) true).getD fr false=false
   rw[getD_setB,if_neg (fun e=>hne e.1.symm)];exact h7
 rw[if_neg k1]at he ⊢
 by_cases k2:o.getD 0 0=2
 ·rw[if_pos k2]at he ⊢
  unfold errRem at he
  have hw:¬(o.getD 1 0=(fr:Int)∨memB s.zs (o.getD 1 0)=false):=fun hx=>by rw[if_pos hx]at he;cases he
  have hm:memB s.zs (o.getD 1 0)=true:=by
   cases hq:memB s.zs (o.getD 1 0)with
   |true=>rfl
   |false=>exact(hw (.inr hq)).elim
  obtain⟨hb0,hb1⟩:=memB_bd hm
  obtain⟨n,hn⟩:=Int.eq_ofNat_of_zero_le hb0
  rw[hn]at hb1 hw ⊢
  have hne:fr≠n:=fun e=>hw (.inl (by rw[e]))
  refine⟨putL_length h1 rfl,by simp[h2],by simp[h3],by simp[h4],?_,?_,?_,?_⟩
  ·rw[memL_put h1 rfl (by omega) hfr,if_neg hne];exact h5
  ·rw[leafP_put h1 rfl (by omega) hfr,if_neg hne];exact h6
  ·show(s.ng.set (n:Int).toNat false).getD fr false=false
   rw[Int.toNat_natCast,getD_setB,if_neg (fun e=>hne e.1.symm)];exact h7
  ·show(s.gn.set (n:Int).toNat true).getD fr false=false
   rw[Int.toNat_natCast,getD_setB,if_neg (fun e=>hne e.1.symm)];exact h8
 rw[if_neg k2]
 by_cases k3:o.getD 0 0=3
 ·rw[if_pos k3];exact⟨h1,by simp[h2],h3,h4,h5,h6,h7,h8⟩
 rw[if_neg k3]
 by_cases k4:o.getD 0 0=4
 ·rw[if_pos k4];exact⟨h1,by simp[h2],h3,h4,h5,h6,h7,h8⟩
 rw[if_neg k4]
 exact⟨h1,h2,h3,h4,h5,h6,h7,h8⟩
end
section
open Pm
attribute [local irreducible] condK LoopA regA powI scal mulI isI fourB deriveW numB numsB bodyB nodeW nextW viewHV sealB keyZ
end
end Go.Proofs.YtefgbmdmmhkeaaaGreatDoor
