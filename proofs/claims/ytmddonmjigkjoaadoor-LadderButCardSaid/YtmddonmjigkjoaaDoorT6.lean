/-
  Trees: a leaf put.
-/
import Derived.Test.YtmddonmjigkjoaaDoorT4
namespace Go.Proofs.YtmddonmjigkjoaaDoor
set_option maxRecDepth 100000
open Go.RowKit
set_option linter.unusedVariables false
set_option linter.unusedSimpArgs false
attribute [local irreducible] condK LoopA regA

def putL (zs xs : List Int) (i : Int) : List Int :=
  if leafB i = true then (((zs.take (i.toNat * 2) ++ (xs ++ zs.drop (i.toNat * 2 + 2))).set (16 + (i / 2 * 4 + 1).toNat) 0).set (16 + (i / 4 * 8 + 3).toNat) 0).set (16 + 7) 0 else List.replicate 31 0
def putS : List A → (Res → Prop) → Prop
  | [.agg [.ints .i64 31 zs], .v (.int .i64 i), .agg [.ints .i64 2 xs]], K => K (.d (.agg [.ints .i64 31 (putL zs xs i)]))
  | _, _ => False
theorem putS_ok {f : FuncId} (hx : ∀ zs i xs, FnO f [.agg [.ints .i64 31 zs], .v (.int .i64 i), .agg [.ints .i64 2 xs]] (.d (.agg [.ints .i64 31 (putL zs xs i)]))) : ∀ args K, putS args K → ∃ r, FnO f args r ∧ K r := by
  intro args K h
  unfold putS at h
  split at h
  · exact ⟨_, hx _ _ _, h⟩
  · exact h.elim
noncomputable def env6a : EnvX := env5
noncomputable def env6 : EnvX := env6a

end Go.Proofs.YtmddonmjigkjoaaDoor
