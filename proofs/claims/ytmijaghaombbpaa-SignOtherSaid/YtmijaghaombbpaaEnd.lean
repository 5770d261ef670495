/-
  The walks of the sponge's beginning and end.
-/
import Derived.Test.YtmijaghaombbpaaTurnT
import Derived.Test.YtmijaghaombbpaaSpWords
import Derived.Test.YtmijaghaombbpaaTake
namespace Go.Proofs.Ytmijaghaombbpaa
set_option maxRecDepth 100000
open Go.RowKit

theorem turn_32 (w : World) : Calls Try.prog 49 #[.agg #[.int .u64 32, .int .u64 0, .int .u64 0, .int .u64 0, .int .u64 0]] w fun e w' => e = .returned (V5 (turnW ⟨32, 0, 0, 0, 0⟩)) ∧ Below w.heap.size w w' :=
  turn_any ⟨32, 0, 0, 0, 0⟩ w

theorem begin_any (w : World) : Calls Try.prog 39 #[] w fun e w' => e = .returned (.agg (C6 beginW)) ∧ Below w.heap.size w w' := by
  go_enter Try.func39, Try.ntmps39
  go_wp2_with fail
  refine (turn_32 _).mono ?_
  rintro e w1 ⟨rfl, b1⟩
  generalize hz : turnW ⟨32, 0, 0, 0, 0⟩ = z
  have HZ := Lib.hid hz
  have hb : beginW = ⟨z, 0⟩ := by unfold beginW; rw [hz]
  have HB := Lib.hid hb
  clear hz hb
  have g := (Blk.new w #[.int .u64 0, .int .u64 0, .int .u64 0, .int .u64 0, .int .u64 0, .int .i64 0] 74).keep b1
  have f := g.frozen
  obtain ⟨c0, c1, c2, c3, c4, c5⟩ := g.six
  have B := ((Below.refl w.heap.size w).alloc (Nat.le_refl _) (.cells #[.int .u64 0, .int .u64 0, .int .u64 0, .int .u64 0, .int .u64 0, .int .i64 0] 74)).lift b1 (by simp)
  have G := Lib.hid g; have HBB := Lib.hid B
  clear g B b1
  go_wp2
  have g2 := ((((((G.out.set 0 (.int .u64 (U z.a))).set 1 (.int .u64 (U z.b))).set 2 (.int .u64 (U z.c))).set 3 (.int .u64 (U z.d))).set 4 (.int .u64 (U z.e))).set 5 (.int .i64 0)).copy (cs' := C6 beginW) (by rw [HB.out]; simp)
  exact bodyPost_ret (v := .agg (C6 beginW)) (results_cell_row rfl _ _ _ _ _ (0, 0) _ rfl g2 Try.underlying74 rfl (by kernel_rfl)) rfl
    ⟨rfl, (((((HBB.out.setCell (by simp) _).setCell (by simp) _).setCell (by simp) _).setCell (by simp) _).setCell (by simp) _).setCell (by simp) _⟩
end Go.Proofs.Ytmijaghaombbpaa
