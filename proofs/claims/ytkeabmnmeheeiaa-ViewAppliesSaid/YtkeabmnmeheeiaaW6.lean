/-
  Views: applied, the same on both sides.
-/
import Derived.Test.YtkeabmnmeheeiaaHW
namespace Go.Proofs.Ytkeabmnmeheeiaa
set_option maxRecDepth 100000
open Go.RowKit Pm
set_option linter.unusedVariables false
set_option linter.unusedSimpArgs false
attribute [local irreducible] condK LoopA regA powI scal keyV someZ someA isI mayV doR putL

set_option maxHeartbeats 400000 in
theorem viewApplies_ok (e : Int) (zs : List Int) (ad : List Bool) (k : Int) (ch : List UInt8) (fr : Int) (ops : List Int) (n : Nat) (hn : n ≤ 140737488351232) :
    FnO 4 [.agg (vSegs e zs ad k ch), .v (.int .i64 fr), .row n [.ints .i64 (n * 5) ops]] (.d (.v (.bool true))) := by
  refine fnA (E := envW6) Try.func4 Try.ntmps4 ?_
  by_cases h5 : (n : Int) > 50
  · refine agom ?_; (try with_reducible exact True.intro)
  have h50 : n ≤ 50 := by omega
  by_cases he : (doR e ⟨zs, ad, k, F8, F8⟩ fr ops n).1 = 0
  · have he1 : decide ((doR e ⟨zs, ad, k, F8, F8⟩ fr ops n).1 = 0) = true := decide_eq_true he
    generalize hR : doR e ⟨zs, ad, k, F8, F8⟩ fr ops n = R at *
    refine agom ?_; (try with_reducible exact True.intro)
  · have he1 : decide ((doR e ⟨zs, ad, k, F8, F8⟩ fr ops n).1 = 0) = false := decide_eq_false he
    refine agom ?_; (try with_reducible exact True.intro)
end Go.Proofs.Ytkeabmnmeheeiaa
