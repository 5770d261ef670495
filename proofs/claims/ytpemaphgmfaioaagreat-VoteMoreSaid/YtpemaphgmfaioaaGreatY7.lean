/-
  The types of the trees' program, as the machine without memory is told of them.
-/
import Derived.Test.YtpemaphgmfaioaaGreatChecked
import Derived.Test.YtpemaphgmfaioaaGreatHA2
import Derived.Test.YtpemaphgmfaioaaGreatG7
namespace Go.Proofs.YtpemaphgmfaioaaGreat
set_option maxRecDepth 100000
open Go.RowKit
set_option linter.unusedVariables false
set_option linter.unusedSimpArgs false

def zLeaf : List Seg := [.ints .i64 2 (List.replicate 2 0)]
def yTab : TypeId → Option TI
  | 3 => some (tiInt .i64 8)
  | 4 => some tiBool
  | 23 => some (tiStruct 2 [.ints .i64 2 [0, 0]] [0, 1] [3, 3] 16 true [(0, 1), (1, 1)])
  | 24 => some (tiArr 8 23 2 [.ints .i64 16 [0, 0, 0, 0, 0, 0, 0, 0, 0, 0, 0, 0, 0, 0, 0, 0]] 128)
  | 25 => some (tiArr 15 3 1 [.ints .i64 15 [0, 0, 0, 0, 0, 0, 0, 0, 0, 0, 0, 0, 0, 0, 0]] 120)
  | 27 => some (tiStruct 31 [.ints .i64 31 [0, 0, 0, 0, 0, 0, 0, 0, 0, 0, 0, 0, 0, 0, 0, 0, 0, 0, 0, 0, 0, 0, 0, 0, 0, 0, 0, 0, 0, 0, 0]] [0, 16] [24, 25] 248 true [(0, 16), (16, 15)])
  | 146 => some (tiArr 3 3 1 [.ints .i64 3 [0, 0, 0]] 24)
  | 145 => some (tiSl 3 1)
  | 116 => some (tiInt .u64 8)
  | 112 => some (tiInt .u64 8)
  | 5 => some tiByte
  | 28 => some (tiArr 8 4 1 [.bools 8 (List.replicate 8 false)] 8)
  | 30 => some (tiArr 32 5 1 [.bytes 32 (List.replicate 32 0)] 32)
  | 48 => some (tiStruct 2 [.ints .i64 2 [0, 0]] [0, 1] [3, 3] 16 true [(0, 1), (1, 1)])
  | 9 => some tiStr'
  | 70 => some (tiSl 5 1)
  | 117 => some (tiSl 70 1)
  | 124 => some (tiArr 8 5 1 [.bytes 8 (List.replicate 8 0)] 8)
  | 126 => some (tiArr 5 3 1 [.ints .i64 5 [0, 0, 0, 0, 0]] 40)
  | 40 => some (tiInt .i64 8)
  | 61 => some (tiStruct 5 [.ints .i64 5 [0, 0, 0, 0, 0]] [0, 1, 2, 3] [3, 3, 3, 23] 40 true [(0, 1), (1, 1), (2, 1), (3, 2)])
  | 33 => some (tiSl 61 5)
  | 32 => some (tiStruct 73 [.ints .i64 1 [0], .ints .i64 31 (List.replicate 31 0), .bools 8 (List.replicate 8 false), .ints .i64 1 [0], .bytes 32 (List.replicate 32 0)] [0, 1, 32, 40, 41] [3, 27, 28, 3, 30] 304 true [(0, 1), (1, 31), (32, 8), (40, 1), (41, 32)])
  | 107 => some (tiStruct 90 [.ints .i64 1 [0], .ints .i64 31 (List.replicate 31 0), .bools 8 (List.replicate 8 false), .ints .i64 1 [0], .bytes 32 (List.replicate 32 0), .ints .i64 1 [0], .bools 8 (List.replicate 8 false), .bools 8 (List.replicate 8 false)] [0, 73, 74, 82] [32, 3, 28, 28] 328 true [(0, 73), (73, 1), (74, 8), (82, 8)])
  | 132 => some tiPtr
  | 103 => some tiPtr
  | 43 => some tiPtr
  | _ => none
set_option maxRecDepth 100000 in
theorem yOK : ∀ t i, yTab t = some i → TyOK Tryz.prog t i := by
  intro t i h
  unfold yTab at h
  split at h <;> first | (cases h; exact tyB_spec (by kernel_rfl)) | cases h
set_option maxRecDepth 100000 in
theorem yEq : ∀ t i, yTab t = some i → i.eq = true → EqT Tryz.prog t i := by
  intro t i h
  unfold yTab at h
  split at h <;> first | (cases h; intro he; cases he; done) | (cases h; intro _; exact eqB_spec (by kernel_rfl)) | cases h
/-- no function is known -/
abbrev FnO (f : FuncId) (args : List A) (res : Res) : Prop := FnOK Tryz.prog gTab f args res
abbrev FnMO (f : FuncId) (pos : Nat) (x : Bk) (args : List A) (res : Res) (x' : Bk) : Prop := FnM Tryz.prog gTab f pos x args res x'
noncomputable def env0 : EnvX := { P := Tryz.prog, Y := yTab, G := gTab, C := fun _ _ _ => False, M := fun _ _ _ _ _ => False, hY := yOK, hC := fun _ _ _ h => h.elim, hMu := fun _ _ _ _ _ h => h.elim, hF := fun _ _ _ h => h.elim, hE := yEq, hM := by kernel_rfl }
theorem env0_P : env0.P = Tryz.prog := rfl
theorem env0_Y (t : TypeId) : env0.Y t = yTab t := rfl
theorem env0_C (f : FuncId) (args : List A) (K : Res → Prop) : env0.C f args K = False := rfl
end Go.Proofs.YtpemaphgmfaioaaGreat
