/-
  The types of later stages, and an environment that knows them.
-/
import Derived.Test.YtpemaphgmfaioaaGreatHA2
import Derived.Test.YtpemaphgmfaioaaGreatY7
namespace Go.Proofs.YtpemaphgmfaioaaGreat
set_option maxRecDepth 100000
open Go.RowKit
set_option linter.unusedVariables false
set_option linter.unusedSimpArgs false

def yTab2 (t0 : TypeId) : Option TI :=
  match t0 with
  | 37 => some (tiStruct 2 [.ints .i64 2 [0, 0]] [0, 1] [3, 3] 16 true [(0, 1), (1, 1)])
  | 39 => some (tiStruct 3 [.ints .i64 3 [0, 0, 0]] [0, 1] [3, 37] 24 true [(0, 1), (1, 2)])
  | 34 => some (tiSl 39 3)
  | _ => yTab t0
set_option maxRecDepth 100000 in
theorem yOK2 : ∀ t i, yTab2 t = some i → TyOK Tryz.prog t i := by
  intro t i h
  unfold yTab2 at h
  split at h <;> first | (cases h; exact tyB_spec (by kernel_rfl)) | exact yOK _ _ h
set_option maxRecDepth 100000 in
theorem yEq2 : ∀ t i, yTab2 t = some i → i.eq = true → EqT Tryz.prog t i := by
  intro t i h
  unfold yTab2 at h
  split at h <;> first | (cases h; intro he; cases he; done) | (cases h; intro _; exact eqB_spec (by kernel_rfl)) | exact yEq _ _ h
/-- an environment with more types -/
noncomputable def EnvX.withY (E : EnvX) (Y : TypeId → Option TI) (h1 : ∀ t i, Y t = some i → TyOK E.P t i) (h2 : ∀ t i, Y t = some i → i.eq = true → EqT E.P t i) : EnvX :=
  { P := E.P, Y := Y, G := E.G, C := E.C, M := E.M, hY := h1, hC := E.hC, hMu := E.hMu, hF := E.hF, hE := h2, hM := E.hM }
end Go.Proofs.YtpemaphgmfaioaaGreat
