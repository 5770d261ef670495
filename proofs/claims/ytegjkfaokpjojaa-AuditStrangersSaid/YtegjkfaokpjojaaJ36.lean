/-
  Parties: welcomes.
-/
import Derived.Test.YtegjkfaokpjojaaJ35
namespace Go.Proofs.Ytegjkfaokpjojaa
set_option maxRecDepth 100000
open Go.RowKit Pm
set_option linter.unusedVariables false
set_option linter.unusedSimpArgs false
attribute [local irreducible] condK LoopA regA powI scal mulI isI fourB deriveW numB numsB bodyB nodeW nextW viewHV doR chkV planL sealB boxD keyZ helD commonI placeI

theorem joinS_big {l m : List Seg} (h : 2 ≤ m.length) : joinS l m = l ++ m := by
  unfold joinS
  split <;> first | rfl | (simp at h)
theorem place_in : ∀ a < 8, ∀ b < 8, a ≠ b → 0 ≤ idx3 (((b : Nat) : Int) / 2 * 4 + 1) ((b : Int) / 4 * 8 + 3) 7 (if leafB (a : Int) = true ∧ leafB (b : Int) = true then (if (a : Int) = b then 2 * (a : Int) else if (a : Int) / 2 = b / 2 then (a : Int) / 2 * 4 + 1 else if (a : Int) / 4 = b / 4 then (a : Int) / 4 * 8 + 3 else 7) else 0) ∧
    idx3 (((b : Nat) : Int) / 2 * 4 + 1) ((b : Int) / 4 * 8 + 3) 7 (if leafB (a : Int) = true ∧ leafB (b : Int) = true then (if (a : Int) = b then 2 * (a : Int) else if (a : Int) / 2 = b / 2 then (a : Int) / 2 * 4 + 1 else if (a : Int) / 4 = b / 4 then (a : Int) / 4 * 8 + 3 else 7) else 0) < 3 := by decide +kernel
theorem place_bd {j : Nat} (hj : j < 8) {lf : Int} (h0 : 0 ≤ lf) (h1 : lf < 8) (hne : (j : Int) ≠ lf) : 0 ≤ placeI lf (commonI (j : Nat) lf) ∧ placeI lf (commonI (j : Nat) lf) < 3 := by
  obtain ⟨n, rfl⟩ := Int.eq_ofNat_of_zero_le h0
  have h := place_in j hj n (by omega) (by omega)
  unfold placeI commonI
  exact h
theorem welN_le (ng : List Bool) : ∀ j, welN ng j ≤ j
  | 0 => Nat.le_refl _
  | j + 1 => by
    have := welN_le ng j
    rw [welN]
    split <;> omega
noncomputable def envR2 : EnvX := envR1
end Go.Proofs.Ytegjkfaokpjojaa
