/-
  The walks of sponge's Turn: spread, mix, Turn.
-/
import Derived.Test.YtpemaphgmfaioaaGreatRot
import Derived.Test.YtpemaphgmfaioaaGreatHBase
import Derived.BigRegion
namespace Go.Proofs.YtpemaphgmfaioaaGreat
set_option maxRecDepth 100000
open Go.RowKit

theorem tw1 (x : BitVec 64) (w : World) : Calls Tryz.prog 114 #[.int .u64 (U x), .int .i64 19, .int .i64 28] w fun e w' => e = .returned (.int .u64 (U (tw x 19 28))) ∧ w = w' :=
  twice_any x 19 28 (by decide) (by decide) (by decide) (by decide) (by decide) (by decide) w
theorem tw2 (x : BitVec 64) (w : World) : Calls Tryz.prog 114 #[.int .u64 (U x), .int .i64 61, .int .i64 39] w fun e w' => e = .returned (.int .u64 (U (tw x 61 39))) ∧ w = w' :=
  twice_any x 61 39 (by decide) (by decide) (by decide) (by decide) (by decide) (by decide) w
theorem tw3 (x : BitVec 64) (w : World) : Calls Tryz.prog 114 #[.int .u64 (U x), .int .i64 1, .int .i64 6] w fun e w' => e = .returned (.int .u64 (U (tw x 1 6))) ∧ w = w' :=
  twice_any x 1 6 (by decide) (by decide) (by decide) (by decide) (by decide) (by decide) w
theorem tw4 (x : BitVec 64) (w : World) : Calls Tryz.prog 114 #[.int .u64 (U x), .int .i64 10, .int .i64 17] w fun e w' => e = .returned (.int .u64 (U (tw x 10 17))) ∧ w = w' :=
  twice_any x 10 17 (by decide) (by decide) (by decide) (by decide) (by decide) (by decide) w
theorem tw5 (x : BitVec 64) (w : World) : Calls Tryz.prog 114 #[.int .u64 (U x), .int .i64 7, .int .i64 41] w fun e w' => e = .returned (.int .u64 (U (tw x 7 41))) ∧ w = w' :=
  twice_any x 7 41 (by decide) (by decide) (by decide) (by decide) (by decide) (by decide) w

theorem spread_any (x : W5) (w : World) :
    Calls Tryz.prog 106 #[V5 x] w fun e w' => e = .returned (V5 (spreadW x)) ∧ Below w.heap.size w w' := by
  go_enter Tryz.func106, Tryz.ntmps106
  go_wp2
  refine region_tail 16 (by kernel_rfl) (by kernel_rfl) ?_
  simp only [List.take_succ_cons, List.take_zero, List.drop_succ_cons, List.drop_zero]
  still_step
  still_step
  still_call ((tw1 _ _).mono fun _ _ h => ⟨h.1, h.2.symm⟩)
  still_step
  still_step
  still_call ((tw2 _ _).mono fun _ _ h => ⟨h.1, h.2.symm⟩)
  still_step
  still_step
  still_call ((tw3 _ _).mono fun _ _ h => ⟨h.1, h.2.symm⟩)
  still_step
  still_step
  still_call ((tw4 _ _).mono fun _ _ h => ⟨h.1, h.2.symm⟩)
  still_step
  still_step
  still_call ((tw5 _ _).mono fun _ _ h => ⟨h.1, h.2.symm⟩)
  still_step
  refine wpStill_nil ?_
  go_wp2
  exact bodyPost_ret (v := V5 (spreadW x)) (by simp [results, Tryz.results106, go_sem]; exact ⟨rfl, rfl, rfl, rfl, rfl⟩) rfl ⟨rfl, (((Below.refl _ _).alloc (Nat.le_refl _) _).alloc (by simp) _).drew⟩

theorem wr1 : IntKind.i64.wrap 1 = 1 := by decide
theorem wr2 : IntKind.i64.wrap 2 = 2 := by decide
theorem wr3 : IntKind.i64.wrap 3 = 3 := by decide
theorem wr4 : IntKind.i64.wrap 4 = 4 := by decide
theorem wr5 : IntKind.i64.wrap 5 = 5 := by decide
theorem tm1 : (1 : Int).tmod 5 = 1 := by decide
theorem tm2 : (2 : Int).tmod 5 = 2 := by decide
theorem tm3 : (3 : Int).tmod 5 = 3 := by decide
theorem tm4 : (4 : Int).tmod 5 = 4 := by decide
theorem tm5 : (5 : Int).tmod 5 = 0 := by decide
attribute [local go_sem] wr1 wr2 wr3 wr4 wr5 tm1 tm2 tm3 tm4 tm5 U_xor U_and U_not

set_option maxHeartbeats 1000000 in
theorem mix_any (x : W5) (w : World) :
    Calls Tryz.prog 107 #[V5 x] w fun e w' => e = .returned (V5 (mixW x)) ∧ Below w.heap.size w w' := by
  go_enter Tryz.func107, Tryz.ntmps107
  go_wp2
  refine wp_loop_rounds 6 ?_
  iterate 5
    rw [rounds_succ]
    go_wp2
    refine region_tail 12 (by kernel_rfl) (by kernel_rfl) ?_
    simp only [List.take_succ_cons, List.take_zero, List.drop_succ_cons, List.drop_zero]
    repeat still_step
    refine wpStill_nil ?_
    go_wp2
  rw [rounds_succ]
  go_wp2
  refine wp_loop_rounds 6 ?_
  iterate 5
    rw [rounds_succ]
    go_wp2
    refine region_tail 10 (by kernel_rfl) (by kernel_rfl) ?_
    simp only [List.take_succ_cons, List.take_zero, List.drop_succ_cons, List.drop_zero]
    repeat still_step
    refine wpStill_nil ?_
    go_wp2
  rw [rounds_succ]
  go_wp2
  exact bodyPost_ret (v := V5 (mixW x)) (by simp [results, Tryz.results107, go_sem]; exact ⟨rfl, rfl, rfl, rfl, rfl⟩) rfl ⟨rfl, ((((Below.refl _ _).alloc (Nat.le_refl _) _).alloc (by simp) _).alloc (by simp; omega) _).drew.drew.drew.drew.drew.drew.drew.drew.drew.drew⟩
end Go.Proofs.YtpemaphgmfaioaaGreat
