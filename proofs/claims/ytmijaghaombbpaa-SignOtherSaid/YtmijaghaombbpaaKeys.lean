/-
  Keys in whichever state: what each method does to it, in one contract each.
-/
import Derived.Test.YtmijaghaombbpaaPairLaws
namespace Go.Proofs.Ytmijaghaombbpaa
set_option maxRecDepth 100000
open Go.RowKit Pm
set_option linter.unusedVariables false
set_option linter.unusedSimpArgs false

/-- a key: its secret number, whether its public number was worked out, its uses -/
def CD (s : Int) (d : Bool) (us : Int) : Array Value := CK s (if d then 1 else 0) (if d then powI 4 s else 0) (if d then 1 else 0) us
/-- what is shared, or noughts -/
def shW (p s : Int) : List UInt8 := if isI p then shareW p s else List.replicate 32 0
theorem shW_length (p s : Int) : (shW p s).length = 32 := by
  unfold shW
  split
  · exact shareW_length _ _
  · rfl
def cnt (b : Bool) : Int := if b then 1 else 0
theorem cnt_bd (b : Bool) : 0 ≤ cnt b ∧ cnt b ≤ 1 := by cases b <;> simp [cnt]

theorem public_st (g : Nat) (s us : Int) (d : Bool) (hs : 0 ≤ s ∧ s < 1073741789) (w : World) (hk : Blk w g (CD s d us) 59) :
    Calls Try.prog 27 #[.pointer (some ⟨g, 0, none⟩)] w fun e w' => e = .returned (.int .i64 (powI 4 s)) ∧ Blk w' g (CD s true us) 59 ∧ w.grownBy w' (some g) := by
  cases d with
  | false => exact public_first g s us hs w hk
  | true =>
    refine (public_again g s (powI 4 s) 1 us w hk).mono ?_
    rintro e w' ⟨rfl, hb⟩
    exact ⟨rfl, Blk.keep hk hb, grown_below (grown_refl w _) hb⟩
theorem public_done (g : Nat) (s us : Int) (w : World) (hk : Blk w g (CD s true us) 59) :
    Calls Try.prog 27 #[.pointer (some ⟨g, 0, none⟩)] w fun e w' => e = .returned (.int .i64 (powI 4 s)) ∧ Below w.heap.size w w' := public_again g s (powI 4 s) 1 us w hk
end Go.Proofs.Ytmijaghaombbpaa
