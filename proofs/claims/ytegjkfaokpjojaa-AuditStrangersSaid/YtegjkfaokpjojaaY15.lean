/-
  The types of audits, and of a map; an environment that knows them.
-/
import Derived.Test.YtegjkfaokpjojaaJ31
namespace Go.Proofs.Ytegjkfaokpjojaa
set_option maxRecDepth 100000
open Go.RowKit
set_option linter.unusedVariables false
set_option linter.unusedSimpArgs false

def yTab5 (t0 : TypeId) : Option TI :=
  match t0 with
  | 62 => some (tiStruct 105 [.ints .i64 1 [0], .ints .i64 31 (List.replicate 31 0), .bools 8 (List.replicate 8 false), .ints .i64 1 [0], .bytes 32 (List.replicate 32 0), .bytes 32 (List.replicate 32 0)] [0, 73] [44, 25] 336 true [(0, 73), (73, 32)])
  | 30 => some (tiSl 22 1)
  | 32 => some (tiSl 27 1)
  | _ => yTab3 t0
set_option maxRecDepth 100000 in
theorem yOK5 : ∀ t i, yTab5 t = some i → TyOK Try.prog t i := by
  intro t i h
  unfold yTab5 at h
  split at h <;> first | (cases h; exact tyB_spec (by kernel_rfl)) | exact yOK3 _ _ h
set_option maxRecDepth 100000 in
theorem yEq5 : ∀ t i, yTab5 t = some i → i.eq = true → EqT Try.prog t i := by
  intro t i h
  unfold yTab5 at h
  split at h <;> first | (cases h; intro he; cases he; done) | (cases h; intro _; exact eqB_spec (by kernel_rfl)) | exact yEq3 _ _ h
noncomputable def EnvX.withM (E : EnvX) (m : TypeId → Option (Nat × TypeId)) (h : ∀ t x, m t = some x → MapT E.P t x.1 x.2) : EnvX := { E with mz := m, hmz := h }
def mzT (t : TypeId) : Option (Nat × TypeId) :=
  match t with
  | 58 => some (32, 62)
  | _ => none
set_option maxRecDepth 100000 in
theorem mzT_ok : ∀ t x, mzT t = some x → MapT Try.prog t x.1 x.2 := by
  intro t x h
  unfold mzT at h
  split at h
  · cases h
    exact mapT_of (kt := 25) (b := 5) (zs := List.replicate 32 0) (by kernel_rfl) (by kernel_rfl) (by kernel_rfl) (by kernel_rfl) (by kernel_rfl) (yOK5 25 _ rfl) (yEq5 25 _ rfl rfl) rfl (by simp)
  · cases h
end Go.Proofs.Ytegjkfaokpjojaa
