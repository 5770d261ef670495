/-
  The machine without memory: what a whnf alone doesn't decide. No program is named here.
-/
import Derived.Test.YtefgbmdmmhkeaaaGreatDoorJ28
namespace Go.Proofs.YtefgbmdmmhkeaaaGreatDoor
set_option linter.unusedVariables false
set_option linter.unusedSimpArgs false
set_option maxRecDepth 100000
open Go.RowKit
section
open Pm
attribute [local irreducible] condK LoopA regA powI scal isI putL numsB viewHV numB deriveW fourB mulI
end
section
open Pm
attribute [local irreducible] condK LoopA regA powI scal isI putL numsB viewHV numB deriveW fourB mulI
end
section
open Pm
attribute [local irreducible] condK LoopA regA powI scal isI putL numsB viewHV numB deriveW fourB mulI
def votK:A→(Nat→List Int→Prop)→Prop
 | .row n [.ints .i64 m vs],K=>m=n*3∧n≤1000000∧K n vs
 | .v (.slice none 0 0),K=>K 0 []
 |_,_=>False
theorem votK_spec{x:A}{K:Nat→List Int→Prop}(h:votK x K):∃n vs,n≤1000000∧K n vs∧∀{S:Nat→Prop} {w:World} {v:Value},RA S w x v→RA S w (.row n [.ints .i64 (n*3) vs]) v:=by
 unfold votK at h
 split at h
 ·obtain⟨rfl,h1,h2⟩:=h
  exact⟨_,_,h1,h2,fun h=>h⟩
 ·refine⟨0,[],by omega,h,fun {S w v} hv=>?_⟩
  rw[RA.plain hv]
  exact .row (cs:=[]) (.ofInts (by simp) rfl) (Nat.le_refl _) (Nat.zero_le _) (fun _=>rfl) (.inl rfl)
 ·exact h.elim
end
end Go.Proofs.YtefgbmdmmhkeaaaGreatDoor
