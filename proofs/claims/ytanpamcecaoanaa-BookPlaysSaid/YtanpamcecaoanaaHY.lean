/-
  What the package variables hold that are looked into.
-/
import Derived.Test.YtanpamcecaoanaaChecked
import Derived.Test.YtanpamcecaoanaaHA3
namespace Go.Proofs.Ytanpamcecaoanaa
set_option maxRecDepth 100000
open Go.RowKit
def gTab : Nat → Option (List Seg) := fun _ => none
end Go.Proofs.Ytanpamcecaoanaa

/-
  The types of the trees' program, as the machine without memory is told of them.
-/
namespace Go.Proofs.Ytanpamcecaoanaa
set_option maxRecDepth 100000
open Go.RowKit
set_option linter.unusedVariables false
set_option linter.unusedSimpArgs false

def zLeaf : List Seg := [.ints .i64 2 (List.replicate 2 0)]
def yTab : TypeId → Option TI
  | 3 => some (tiInt .i64 8)
  | 4 => some tiBool
  | 76 => some (tiInt .u64 8)
  | 5 => some tiByte
  | 30 => some (tiArr 32 5 1 [.bytes 32 (List.replicate 32 0)] 32)
  | 9 => some tiStr'
  | 33 => some (tiInt .i64 8)
  | 58 => some (tiStruct 33 [.ints .i64 1 [0], .bytes 32 (List.replicate 32 0)] [0, 1] [3, 30] 40 true [(0, 1), (1, 32)])
  | 48 => some (tiSl 58 33)
  | 32 => some (tiStruct 34 [.ints .i64 2 [0, 0], .bytes 32 (List.replicate 32 0)] [0, 1, 2] [3, 3, 30] 48 true [(0, 1), (1, 1), (2, 32)])
  | 22 => some (tiSl 32 34)
  | 60 => some (tiStruct 33 [.ints .i64 1 [0], .bytes 32 (List.replicate 32 0)] [0, 1] [3, 30] 40 true [(0, 1), (1, 32)])
  | 26 => some (tiSl 60 33)
  | 28 => some (tiStruct 2 [.gen 1 [.v (.slice none 0 0)], .ints .i64 1 [0]] [0, 1] [26, 3] 32 false [(0, 1), (1, 1)])
  | 54 => some (tiStruct 5 [.ints .i32 1 [0], .ints .u32 1 [0], .gen 1 [.v (.slice none 0 0)], .ints .i64 2 [0, 0]] [0, 2, 3, 4] [47, 48, 3, 52] 48 false [(0, 2), (2, 1), (3, 1), (4, 1)])
  | 23 => some tiPtr
  | 25 => some tiPtr
  | _ => none
set_option maxRecDepth 100000 in
theorem yOK : ∀ t i, yTab t = some i → TyOK Try.prog t i := by
  intro t i h
  unfold yTab at h
  split at h <;> first | (cases h; exact tyB_spec (by kernel_rfl)) | cases h
set_option maxRecDepth 100000 in
theorem yEq : ∀ t i, yTab t = some i → i.eq = true → EqT Try.prog t i := by
  intro t i h
  unfold yTab at h
  split at h <;> first | (cases h; intro he; cases he; done) | (cases h; intro _; exact eqB_spec (by kernel_rfl)) | cases h
/-- no function is known -/
abbrev FnO (f : FuncId) (args : List A) (res : Res) : Prop := FnOK Try.prog gTab f args res
abbrev FnMO (f : FuncId) (pos : Nat) (x : Bk) (args : List A) (res : Res) (x' : Bk) : Prop := FnM Try.prog gTab f pos x args res x'
noncomputable def env0 : EnvX := { P := Try.prog, Y := yTab, G := gTab, C := fun _ _ _ => False, M := fun _ _ _ _ _ => False, hY := yOK, hC := fun _ _ _ h => h.elim, hMu := fun _ _ _ _ _ h => h.elim, hF := fun _ _ _ h => h.elim, hE := yEq, hM := by kernel_rfl }
theorem env0_P : env0.P = Try.prog := rfl
theorem env0_Y (t : TypeId) : env0.Y t = yTab t := rfl
theorem env0_C (f : FuncId) (args : List A) (K : Res → Prop) : env0.C f args K = False := rfl
end Go.Proofs.Ytanpamcecaoanaa
