/-
  The types of the trees' program, as the machine without memory is told of them.
-/
import Derived.Test.YtmddonmjigkjoaaChecked
import Derived.Test.YtmddonmjigkjoaaA15
namespace Go.Proofs.Ytmddonmjigkjoaa
set_option maxRecDepth 100000
open Go.RowKit
set_option linter.unusedVariables false
set_option linter.unusedSimpArgs false

def zLeaf : List Seg := [.ints .i64 2 (List.replicate 2 0)]
def yTab : TypeId → Option TI
  | 3 => some (tiInt .i64 8)
  | 4 => some tiBool
  | 23 => some (tiStruct 2 [.ints .i64 2 [0, 0]] [0, 1] [3, 3] 16 true [(0, 1), (1, 1)])
  | 24 => some (tiArr 8 23 2 [.ints .i64 16 [0, 0, 0, 0, 0, 0, 0, 0, 0, 0, 0, 0, 0, 0, 0, 0]] 128)
  | 25 => some (tiArr 15 3 1 [.ints .i64 15 [0, 0, 0, 0, 0, 0, 0, 0, 0, 0, 0, 0, 0, 0, 0]] 120)
  | 27 => some (tiStruct 31 [.ints .i64 31 [0, 0, 0, 0, 0, 0, 0, 0, 0, 0, 0, 0, 0, 0, 0, 0, 0, 0, 0, 0, 0, 0, 0, 0, 0, 0, 0, 0, 0, 0, 0]] [0, 16] [24, 25] 248 true [(0, 16), (16, 15)])
  | 31 => some (tiArr 3 3 1 [.ints .i64 3 [0, 0, 0]] 24)
  | 40 => some (tiSl 3 1)
  | _ => none
set_option maxRecDepth 100000 in
theorem yOK : ∀ t i, yTab t = some i → TyOK Try.prog t i := by
  intro t i h
  unfold yTab at h
  split at h <;> first | (cases h; exact tyB_spec (by kernel_rfl)) | cases h
set_option maxRecDepth 100000 in
theorem yEq : ∀ t i, yTab t = some i → i.eq = true → EqT Try.prog t i := by
  intro t i h
  unfold yTab at h
  split at h <;> first | (cases h; intro he; cases he; done) | (cases h; intro _; exact eqB_spec (by kernel_rfl)) | cases h
/-- no function is known -/
noncomputable def env0 : EnvX := { P := Try.prog, Y := yTab, C := fun _ _ _ => False, hY := yOK, hC := fun _ _ _ h => h.elim, hF := fun _ _ _ h => h.elim, hE := yEq, hM := by kernel_rfl }
theorem env0_P : env0.P = Try.prog := rfl
theorem env0_Y (t : TypeId) : env0.Y t = yTab t := rfl
theorem env0_C (f : FuncId) (args : List A) (K : Res → Prop) : env0.C f args K = False := rfl
end Go.Proofs.Ytmddonmjigkjoaa
