/-
  Facts in a region that writes: where the operation that they speak of is not done yet. No program is named here.
-/
import Derived.Test.YtgghkeinkcpboaaMuts3
namespace Go.Proofs.Ytgghkeinkcpboaa
set_option maxRecDepth 100000
open Go.RowKit
set_option linter.unusedVariables false

theorem hasF.never {k : Nat} {φ : Value → World → Prop} {S : Nat → Bool} {vals : Nat → Value} {w' : World} {i : Nat} (hS : S k = false) (hk : k ≠ i) : hasF k φ (add1 S i) vals w' := by
  intro h
  rw [add1_other S hk, hS] at h; cases h
theorem tmpF.never {k m : Nat} {φ : Value → World → Prop} {S : Nat → Bool} {vals : Nat → Value} {w' : World} {i : Nat} (hS : S k = false) (hk : k ≠ i) : tmpF k m φ (add1 S i) vals w' := by
  intro h
  rw [add1_other S hk, hS] at h; cases h
theorem tmpF.over {k m : Nat} {φ : Value → World → Prop} {S : Nat → Bool} {vals : Nat → Value} {w' : World} {i : Nat} (hm : S m = true) (hi : m ≠ i) : tmpF k m φ (add1 S i) vals w' := by
  intro _ h
  rw [add1_other S hi, hm] at h; cases h
theorem newAt.never {B : Nat} {T : TypeId} {a b : Nat} {c0 c1 : Array Value} {S : Nat → Bool} {vals : Nat → Value} {w' : World} {i : Nat} (hS : S a = false) (hk : a ≠ i) : newAt B T a b c0 c1 (add1 S i) vals w' := by
  intro h
  rw [add1_other S hk, hS] at h; cases h
end Go.Proofs.Ytgghkeinkcpboaa
