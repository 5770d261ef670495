/-
  The types of the trees' program, as the machine without memory is told of them.
-/
import Derived.Test.YtpemaphgmfaioaaChecked
import Derived.Test.YtpemaphgmfaioaaHA2
import Derived.Test.YtpemaphgmfaioaaG7
namespace Go.Proofs.Ytpemaphgmfaioaa
set_option maxRecDepth 100000
open Go.RowKit
set_option linter.unusedVariables false
set_option linter.unusedSimpArgs false

def zLeaf : List Seg := [.ints .i64 2 (List.replicate 2 0)]
def yTab : TypeId → Option TI
  | 3 => some (tiInt .i64 8)
  | 4 => some tiBool
  | 28 => some (tiStruct 2 [.ints .i64 2 [0, 0]] [0, 1] [3, 3] 16 true [(0, 1), (1, 1)])
  | 29 => some (tiArr 8 28 2 [.ints .i64 16 [0, 0, 0, 0, 0, 0, 0, 0, 0, 0, 0, 0, 0, 0, 0, 0]] 128)
  | 30 => some (tiArr 15 3 1 [.ints .i64 15 [0, 0, 0, 0, 0, 0, 0, 0, 0, 0, 0, 0, 0, 0, 0]] 120)
  | 32 => some (tiStruct 31 [.ints .i64 31 [0, 0, 0, 0, 0, 0, 0, 0, 0, 0, 0, 0, 0, 0, 0, 0, 0, 0, 0, 0, 0, 0, 0, 0, 0, 0, 0, 0, 0, 0, 0]] [0, 16] [29, 30] 248 true [(0, 16), (16, 15)])
  | 121 => some (tiArr 3 3 1 [.ints .i64 3 [0, 0, 0]] 24)
  | 111 => some (tiSl 3 1)
  | 94 => some (tiInt .u64 8)
  | 92 => some (tiInt .u64 8)
  | 5 => some tiByte
  | 33 => some (tiArr 8 4 1 [.bools 8 (List.replicate 8 false)] 8)
  | 35 => some (tiArr 32 5 1 [.bytes 32 (List.replicate 32 0)] 32)
  | 46 => some (tiStruct 2 [.ints .i64 2 [0, 0]] [0, 1] [3, 3] 16 true [(0, 1), (1, 1)])
  | 9 => some tiStr'
  | 23 => some (tiSl 5 1)
  | 95 => some (tiSl 23 1)
  | 102 => some (tiArr 8 5 1 [.bytes 8 (List.replicate 8 0)] 8)
  | 60 => some (tiArr 5 3 1 [.ints .i64 5 [0, 0, 0, 0, 0]] 40)
  | 49 => some (tiInt .i64 8)
  | 55 => some (tiStruct 5 [.ints .i64 5 [0, 0, 0, 0, 0]] [0, 1, 2, 3] [3, 3, 3, 28] 40 true [(0, 1), (1, 1), (2, 1), (3, 2)])
  | 22 => some (tiSl 55 5)
  | 37 => some (tiStruct 73 [.ints .i64 1 [0], .ints .i64 31 (List.replicate 31 0), .bools 8 (List.replicate 8 false), .ints .i64 1 [0], .bytes 32 (List.replicate 32 0)] [0, 1, 32, 40, 41] [3, 32, 33, 3, 35] 304 true [(0, 1), (1, 31), (32, 8), (40, 1), (41, 32)])
  | 79 => some (tiStruct 90 [.ints .i64 1 [0], .ints .i64 31 (List.replicate 31 0), .bools 8 (List.replicate 8 false), .ints .i64 1 [0], .bytes 32 (List.replicate 32 0), .ints .i64 1 [0], .bools 8 (List.replicate 8 false), .bools 8 (List.replicate 8 false)] [0, 73, 74, 82] [37, 3, 33, 33] 328 true [(0, 73), (73, 1), (74, 8), (82, 8)])
  | 107 => some tiPtr
  | 87 => some tiPtr
  | _ => none
set_option maxRecDepth 100000 in
theorem yOK : ∀ t i, yTab t = some i → TyOK Try.prog t i := by
  intro t i h
  unfold yTab at h
  split at h <;> first | (cases h; exact tyB_spec (by kernel_rfl)) | cases h
set_option maxRecDepth 100000 in
theorem yEq : ∀ t i, yTab t = some i → i.eq = true → EqT Try.prog t i := by
  intro t i h
  unfold yTab at h
  split at h <;> first | (cases h; intro he; cases he; done) | (cases h; intro _; exact eqB_spec (by kernel_rfl)) | cases h
/-- no function is known -/
abbrev FnO (f : FuncId) (args : List A) (res : Res) : Prop := FnOK Try.prog gTab f args res
abbrev FnMO (f : FuncId) (pos : Nat) (x : Bk) (args : List A) (res : Res) (x' : Bk) : Prop := FnM Try.prog gTab f pos x args res x'
noncomputable def env0 : EnvX := { P := Try.prog, Y := yTab, G := gTab, C := fun _ _ _ => False, M := fun _ _ _ _ _ => False, hY := yOK, hC := fun _ _ _ h => h.elim, hMu := fun _ _ _ _ _ h => h.elim, hF := fun _ _ _ h => h.elim, hE := yEq, hM := by kernel_rfl }
theorem env0_P : env0.P = Try.prog := rfl
theorem env0_Y (t : TypeId) : env0.Y t = yTab t := rfl
theorem env0_C (f : FuncId) (args : List A) (K : Res → Prop) : env0.C f args K = False := rfl
end Go.Proofs.Ytpemaphgmfaioaa
