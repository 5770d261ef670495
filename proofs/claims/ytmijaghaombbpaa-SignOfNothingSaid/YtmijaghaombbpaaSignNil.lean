/-
  The law SignNil, walked.
-/
import Derived.Test.YtmijaghaombbpaaSignLaws
import Derived.Test.YtmijaghaombbpaaMuts2
import Derived.Test.YtmijaghaombbpaaOpenI
namespace Go.Proofs.Ytmijaghaombbpaa
set_option maxRecDepth 100000
open Go.RowKit Pm
set_option linter.unusedVariables false
set_option linter.unusedSimpArgs false
attribute [local go_sem] eqh_guard key_y key_x

theorem sign_nil (a : Option Addr) (l c : Nat) (w : World) :
    Calls Try.prog 13 #[.pointer none, .slice a l c] w fun e w' => e = .returned (.agg #[.int .i64 0, .int .i64 0]) ∧ Below w.heap.size w w' := by
  have hT : Blk (w.alloc (.cells #[.int .i64 0, .int .i64 0] 31)) w.heap.size #[.int .i64 0, .int .i64 0] 31 := Blk.new w _ _
  go_enter Try.func13, Try.ntmps13
  go_wp2
  exact bodyPost_ret (v := .agg #[.int .i64 0, .int .i64 0]) (results_cell_row rfl _ _ w.heap.size _ #[.int .i64 0, .int .i64 0] (0, 0) _ rfl (Blk.new w _ 31) Try.underlying31 rfl (by kernel_rfl)) rfl
    ⟨rfl, (Below.refl _ w).next (Nat.le_refl _) _⟩

set_option maxRecDepth 100000 in
theorem signOfNothing_walk {w : World} (la : Option Addr) (ll lc : Nat) (p : List UInt8) (hp : Arg8 w la ll lc p) :
    Calls Try.prog 7 #[.slice la ll lc] w fun e w' => e = .returned (.bool true) ∧ Below w.heap.size w w' := by
  have hle := hp.le
  have hsm := hp.small
  have HP := Lib.hid hp
  clear hp
  by_cases h1 : ((ll : Int) > 500)
  · go_enter Try.func7, Try.ntmps7
    go_wp2
    go_ret
    exact ⟨rfl, Below.refl _ _⟩
  go_enter Try.func7, Try.ntmps7
  go_wp2_with (first
    | (go_at_call 13; with_reducible refine (sign_nil _ _ _ _).mono ?_; rintro e w1 ⟨rfl, hb1⟩)
    | (go_at_call 16; with_reducible refine (known_sign _).mono ?_; rintro e w9 ⟨rfl, hb9⟩))
  go_ret
  exact ⟨rfl, hb1.trans (hb9.mono hb1.size)⟩
end Go.Proofs.Ytmijaghaombbpaa
