/-
  Operations done, their bytes, views' sums: as the laws of later stages call them.
-/
import Derived.Test.YtefgbmdmmhkeaaaGreatDoorJ24
import Derived.Test.YtefgbmdmmhkeaaaGreatDoorJ26
import Derived.Test.YtefgbmdmmhkeaaaGreatDoorJ27
namespace Go.Proofs.YtefgbmdmmhkeaaaGreatDoor
set_option linter.unusedVariables false
set_option linter.unusedSimpArgs false
set_option maxRecDepth 100000
open Go.RowKit
section
open Pm
attribute [local irreducible] condK LoopA regA powI scal isI putL numsB viewHV numB deriveW fourB mulI
def opsK:A→(Nat→List Int→Prop)→Prop
 | .row n [.ints .i64 m ops],K=>m=n*5∧n≤1000000∧K n ops
 | .v (.slice none 0 0),K=>K 0 []
 |_,_=>False
theorem opsK_spec{x:A}{K:Nat→List Int→Prop}(h:opsK x K):∃n ops,n≤1000000∧K n ops∧∀{S:Nat→Prop} {w:World} {v:Value},RA S w x v→RA S w (.row n [.ints .i64 (n*5) ops]) v:=by
 unfold opsK at h
 split at h
 ·obtain⟨rfl,h1,h2⟩:=h
  exact⟨_,_,h1,h2,fun h=>h⟩
 ·refine⟨0,[],by omega,h,fun {S w v} hv=>?_⟩
  rw[RA.plain hv]
  exact .row (cs:=[]) (.ofInts (by simp) rfl) (Nat.le_refl _) (Nat.zero_le _) (fun _=>rfl) (.inl rfl)
 ·exact h.elim
theorem ra_two{S:Nat→Prop}{w:World}{a b:A}{vs:List Value}(h:RAs S w [a,b] vs):∃x y,vs=[x,y]∧RA S w a x∧RA S w b y:=by
 cases h with|cons h r=>cases r with|cons h2 r=>cases r;exact⟨_,_,rfl,h,h2⟩
end
end Go.Proofs.YtefgbmdmmhkeaaaGreatDoor
