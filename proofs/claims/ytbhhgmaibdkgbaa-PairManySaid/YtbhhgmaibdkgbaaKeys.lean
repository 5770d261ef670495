/-
  Keys in whichever state: what each method does to it, in one contract each.
-/
import Derived.Test.YtbhhgmaibdkgbaaPairLaws
namespace Go.Proofs.Ytbhhgmaibdkgbaa
set_option maxRecDepth 100000
open Go.RowKit Pm
set_option linter.unusedVariables false
set_option linter.unusedSimpArgs false

/-- a key: its secret number, whether its public number was worked out, its uses -/
def CD (s : Int) (d : Bool) (us : Int) : Array Value := CK s (if d then 1 else 0) (if d then powI 4 s else 0) (if d then 1 else 0) us
/-- what is shared, or noughts -/
def shW (p s : Int) : List UInt8 := if isI p then shareW p s else List.replicate 32 0
theorem shW_length (p s : Int) : (shW p s).length = 32 := by
  unfold shW
  split
  · exact shareW_length _ _
  · rfl
def cnt (b : Bool) : Int := if b then 1 else 0
theorem cnt_bd (b : Bool) : 0 ≤ cnt b ∧ cnt b ≤ 1 := by cases b <;> simp [cnt]

theorem public_st (g : Nat) (s us : Int) (d : Bool) (hs : 0 ≤ s ∧ s < 1073741789) (w : World) (hk : Blk w g (CD s d us) 61) :
    Calls Try.prog 15 #[.pointer (some ⟨g, 0, none⟩)] w fun e w' => e = .returned (.int .i64 (powI 4 s)) ∧ Blk w' g (CD s true us) 61 ∧ w.grownBy w' (some g) := by
  cases d with
  | false => exact public_first g s us hs w hk
  | true =>
    refine (public_again g s (powI 4 s) 1 us w hk).mono ?_
    rintro e w' ⟨rfl, hb⟩
    exact ⟨rfl, Blk.keep hk hb, grown_below (grown_refl w _) hb⟩
theorem shared_st (g : Nat) (s us p : Int) (d : Bool) (hu : 0 ≤ us ∧ us < 1000000) (w : World) (hk : Blk w g (CD s d us) 61) :
    Calls Try.prog 19 #[.pointer (some ⟨g, 0, none⟩), .int .i64 p] w fun e w' => e = .returned (.tuple #[HV (shW p s), .bool (isI p)]) ∧ Blk w' g (CD s d (us + cnt (isI p))) 61 ∧ w.grownBy w' (some g) := by
  unfold shW
  by_cases hp : isI p = true
  · rw [hp]
    exact shared_yes g s _ _ _ us p hp hu w hk
  · have hp := Bool.eq_false_iff.2 hp
    rw [hp]
    refine (shared_no g s _ _ _ us p hp w hk).mono ?_
    rintro e w' ⟨rfl, hb⟩
    refine ⟨rfl, ?_, grown_below (grown_refl w _) hb⟩
    have e1 : us + cnt false = us := by simp [cnt]
    rw [e1]; exact Blk.keep hk hb
theorem rshared_st (x y p : Int) (w : World) :
    Calls Try.prog 20 #[.agg #[.int .i64 x, .int .i64 y], .int .i64 p] w fun e w' => e = .returned (.tuple #[HV (shW p x), .bool (isI p)]) ∧ Below w.heap.size w w' := by
  unfold shW
  by_cases hp : isI p = true
  · rw [hp]; exact rshared_yes x y p hp w
  · have hp := Bool.eq_false_iff.2 hp
    rw [hp]; exact rshared_no x y p hp w
theorem made_st (g : Nat) (s us : Int) (d : Bool) (w : World) (hk : Blk w g (CD s d us) 61) :
    Calls Try.prog 13 #[.pointer (some ⟨g, 0, none⟩)] w fun e w' => e = .returned (.bool d) ∧ w = w' := by
  cases d with
  | false => exact made_any g s _ _ 0 us w hk
  | true => exact made_any g s _ _ 1 us w hk
theorem uses_st (g : Nat) (s us : Int) (d : Bool) (hu : 0 ≤ us ∧ us < 1000000) (w : World) (hk : Blk w g (CD s d us) 61) :
    Calls Try.prog 21 #[.pointer (some ⟨g, 0, none⟩)] w fun e w' => e = .returned (.int .i64 us) ∧ w = w' := uses_any g s _ _ _ us hu w hk
end Go.Proofs.Ytbhhgmaibdkgbaa
