/-
  The types of the trees' program, as the machine without memory is told of them.
-/
import Derived.Test.YtmddonmjigkjoaaDoorChecked
import Derived.Test.YtmddonmjigkjoaaDoorHA2
import Derived.Test.YtmddonmjigkjoaaDoorG7
namespace Go.Proofs.YtmddonmjigkjoaaDoor
set_option maxRecDepth 100000
open Go.RowKit
set_option linter.unusedVariables false
set_option linter.unusedSimpArgs false

def zLeaf : List Seg := [.ints .i64 2 (List.replicate 2 0)]
def yTab : TypeId → Option TI
  | 3 => some (tiInt .i64 8)
  | 4 => some tiBool
  | 23 => some (tiStruct 2 [.ints .i64 2 [0, 0]] [0, 1] [3, 3] 16 true [(0, 1), (1, 1)])
  | 24 => some (tiArr 8 23 2 [.ints .i64 16 [0, 0, 0, 0, 0, 0, 0, 0, 0, 0, 0, 0, 0, 0, 0, 0]] 128)
  | 25 => some (tiArr 15 3 1 [.ints .i64 15 [0, 0, 0, 0, 0, 0, 0, 0, 0, 0, 0, 0, 0, 0, 0]] 120)
  | 27 => some (tiStruct 31 [.ints .i64 31 [0, 0, 0, 0, 0, 0, 0, 0, 0, 0, 0, 0, 0, 0, 0, 0, 0, 0, 0, 0, 0, 0, 0, 0, 0, 0, 0, 0, 0, 0, 0]] [0, 16] [24, 25] 248 true [(0, 16), (16, 15)])
  | 51 => some (tiArr 3 3 1 [.ints .i64 3 [0, 0, 0]] 24)
  | 29 => some (tiSl 3 1)
  | 90 => some (tiInt .u64 8)
  | 94 => some (tiInt .u64 8)
  | 5 => some tiByte
  | 115 => some (tiArr 64 5 1 [.bytes 64 (List.replicate 64 0)] 64)
  | 53 => some (tiArr 2 3 1 [.ints .i64 2 [0, 0]] 16)
  | 49 => some (tiSl 53 2)
  | 48 => some (tiArr 8 4 1 [.bools 8 (List.replicate 8 false)] 8)
  | 36 => some (tiArr 32 5 1 [.bytes 32 (List.replicate 32 0)] 32)
  | 39 => some (tiArr 3 36 32 [.bytes 96 (List.replicate 96 0)] 96)
  | 44 => some (tiStruct 2 [.ints .i64 2 [0, 0]] [0, 1] [3, 3] 16 true [(0, 1), (1, 1)])
  | 9 => some tiStr'
  | 100 => some (tiSl 5 1)
  | 93 => some (tiSl 100 1)
  | 37 => some tiPtr
  | _ => none
set_option maxRecDepth 100000 in
theorem yOK : ∀ t i, yTab t = some i → TyOK Tryd.prog t i := by
  intro t i h
  unfold yTab at h
  split at h <;> first | (cases h; exact tyB_spec (by kernel_rfl)) | cases h
set_option maxRecDepth 100000 in
theorem yEq : ∀ t i, yTab t = some i → i.eq = true → EqT Tryd.prog t i := by
  intro t i h
  unfold yTab at h
  split at h <;> first | (cases h; intro he; cases he; done) | (cases h; intro _; exact eqB_spec (by kernel_rfl)) | cases h
/-- no function is known -/
abbrev FnO (f : FuncId) (args : List A) (res : Res) : Prop := FnOK Tryd.prog gTab f args res
abbrev FnMO (f : FuncId) (pos : Nat) (x : Bk) (args : List A) (res : Res) (x' : Bk) : Prop := FnM Tryd.prog gTab f pos x args res x'
noncomputable def env0 : EnvX := { P := Tryd.prog, Y := yTab, G := gTab, C := fun _ _ _ => False, M := fun _ _ _ _ _ => False, hY := yOK, hC := fun _ _ _ h => h.elim, hMu := fun _ _ _ _ _ h => h.elim, hF := fun _ _ _ h => h.elim, hE := yEq, hM := by kernel_rfl }
theorem env0_P : env0.P = Tryd.prog := rfl
theorem env0_Y (t : TypeId) : env0.Y t = yTab t := rfl
theorem env0_C (f : FuncId) (args : List A) (K : Res → Prop) : env0.C f args K = False := rfl
end Go.Proofs.YtmddonmjigkjoaaDoor
