/-
  A nil key.
-/
import Derived.Test.YtbhhgmaibdkgbaaPairLaws
namespace Go.Proofs.Ytbhhgmaibdkgbaa
set_option maxRecDepth 100000
open Go.RowKit Pm
set_option linter.unusedVariables false
set_option linter.unusedSimpArgs false

theorem secret_nil (w : World) : Calls Try.prog 14 #[.pointer none] w fun e w' => e = .returned (.int .i64 0) ∧ w = w' := by
  go_enter Try.func14, Try.ntmps14
  go_wp2
  go_ret
  exact ⟨rfl, rfl⟩
theorem uses_nil (w : World) : Calls Try.prog 21 #[.pointer none] w fun e w' => e = .returned (.int .i64 0) ∧ w = w' := by
  go_enter Try.func21, Try.ntmps21
  go_wp2
  go_ret
  exact ⟨rfl, rfl⟩
theorem made_nil (w : World) : Calls Try.prog 13 #[.pointer none] w fun e w' => e = .returned (.bool false) ∧ w = w' := by
  go_enter Try.func13, Try.ntmps13
  go_wp2
  go_ret
  exact ⟨rfl, rfl⟩
theorem public_nil (w : World) : Calls Try.prog 15 #[.pointer none] w fun e w' => e = .returned (.int .i64 0) ∧ Below w.heap.size w w' := by
  have hp0 : Blk (w.alloc (.cells #[.pointer none] 24)) w.heap.size #[.pointer none] 24 := Blk.new w _ _
  have c0 : (w.alloc (.cells #[.pointer none] 24)).cell? ⟨w.heap.size, 0, none⟩ = some (.pointer none) := hp0.cell 0
  clear hp0
  go_enter Try.func15, Try.ntmps15
  go_wp2
  go_ret
  exact ⟨rfl, (Below.refl _ w).next (Nat.le_refl _) _⟩
theorem shared_nil (p : Int) (w : World) : Calls Try.prog 19 #[.pointer none, .int .i64 p] w fun e w' => e = .returned (.tuple #[HV (List.replicate 32 0), .bool false]) ∧ Below w.heap.size w w' := by
  have hR : Blk (w.alloc (.cells zeros32 23)) w.heap.size zeros32 23 := Blk.new w _ _
  have HR := Lib.hid hR
  clear hR
  go_enter Try.func19, Try.ntmps19
  go_wp2_with (refine wpList_store_row rfl 23 _ _ rfl w.heap.size zeros32 rfl rfl 23 zeros32 HR.out zsize rfl zone ?_)
  exact bodyPost_ret (v := .tuple #[.agg zeros32, .bool false]) (results_row_tmp rfl _ _ w.heap.size _ _ (0, 0) _ _ rfl rfl (HR.out.setRow _) Try.underlying23 rfl zsize) rfl
    ⟨rfl, below_setRow ((Below.refl _ w).next (Nat.le_refl _) _) _ (Nat.le_refl _)⟩
theorem sum_nothing : (sumW [] == List.replicate 32 0) = false := by decide +kernel
theorem rsum_nil (w : World) : Calls Try.prog 23 #[.slice none 0 0] w fun e w' => e = .returned (HV (sumW [])) ∧ Below w.heap.size w w' :=
  rsum_any none 0 0 [] w (Row8.nil _ _) (fun _ => rfl) (by simp)
end Go.Proofs.Ytbhhgmaibdkgbaa
