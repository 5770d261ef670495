/-
  Views: applied, the law's call.
-/
import Derived.Test.YtkeabmnmeheeiaaW6
import Derived.Test.YtkeabmnmeheeiaaW9
namespace Go.Proofs.Ytkeabmnmeheeiaa
set_option maxRecDepth 100000
open Go.RowKit Pm
set_option linter.unusedVariables false
theorem gok_none2 {w : World} : GOK gTab (fun _ => True) w := fun q l e => by cases (show (none : Option (List Seg)) = some l from e)
theorem viewApplies_walk {w : World} (v : Value) (hv : ∃ (e : Int) (zs : List Int) (ad : List Bool) (k : Int) (ch : List UInt8), RA (fun _ => True) w (.agg (vSegs e zs ad k ch)) v) (f : Int) (hf : (Lit.int .i64 f).wf = true) (l : Value) (n : Nat) (zs : List Int) (hn : n ≤ 140737488351232) (hl : RA (fun _ => True) w (.row n [.ints .i64 (n * 5) zs]) l) :
    Calls Try.prog 4 #[v, .int .i64 f, l] w fun e w' => e = .returned (.bool true) ∧ Below w.heap.size w w' := by
  obtain ⟨e, ys, ad, k, ch, hv⟩ := hv
  exact law_of_fn (viewApplies_ok e ys ad k ch f zs n (by omega)) gok_none2 (.cons hv (.cons (.v _) (.cons hl .nil)))
end Go.Proofs.Ytkeabmnmeheeiaa
