/-
  Approvals: the laws in which little is approved.
-/
import Derived.Test.YtpemaphgmfaioaaO4
import Derived.Test.YtpemaphgmfaioaaU4
import Derived.Test.YtpemaphgmfaioaaP9
namespace Go.Proofs.Ytpemaphgmfaioaa
set_option maxRecDepth 100000
set_option pp.deepTerms true
set_option pp.maxSteps 1000000
open Go.RowKit Pm
set_option linter.unusedVariables false
set_option linter.unusedSimpArgs false
attribute [local irreducible] condK LoopA regA powI scal isI putL doR mayV numsB viewHV numB deriveW fourB mulI askW nonceW sigE sigS verW paperV admB someZ someA keyB keyV chkV appE

set_option maxHeartbeats 1000000 in
theorem voteEmpty_ok (e : Int) (zs : List Int) (ad : List Bool) (k : Int) (ch : List UInt8) (fr a b who : Int) :
    FnO 6 [.agg (vSegs e zs ad k ch), .v (.int .i64 fr), .agg [.ints .i64 2 [a, b]], .v (.int .i64 who)] (.d (.v (.bool true))) := by
  refine fnA (E := envP7) Try.func6 Try.ntmps6 ?_
  have c0 := chk_none
  have c1 := chk_some
  refine agox ?_; (try with_reducible exact True.intro)
theorem chk_forged (zs : List Int) (ad : List Bool) (k : Int) (ops : List Int) (who a b : Int) (h : ¬ (0 ≤ a ∧ a < 1073741789) ∨ ¬ (0 ≤ b ∧ b < 1073741789)) : chkV 0 zs ad k Z32 0 ops 1 [who, a, b] 1 ≠ 0 := by
  have hp : ∀ p, ¬ passB zs ad p [who, a, b] 0 = true := fun p hp => by
    unfold passB at hp
    rw [Bool.and_eq_true] at hp
    have h2 : verW (zs.getD (([who, a, b].getD (0 * 3) 0).toNat * 2) 0) p a b = true := hp.2
    rcases h with h | h
    · rw [ver_e h] at h2; cases h2
    · rw [ver_s h] at h2; cases h2
  unfold chkV
  rw [if_neg (by decide)]
  split
  · assumption
  · rw [chkE_at (N := 0) (by decide) (fun j hj => absurd hj (by omega)) (hp _), if_pos (codeJ_ne _ _ _)]
    exact codeJ_ne _ _ _
set_option maxHeartbeats 1000000 in
theorem voteForged_ok (a b who : Int) :
    FnO 5 [.agg [.ints .i64 2 [a, b]], .v (.int .i64 who)] (.d (.v (.bool true))) := by
  refine fnA (E := envP7) Try.func5 Try.ntmps5 ?_
  have hx : (¬ (0 ≤ a ∧ a < 1073741789) ∨ ¬ (0 ≤ b ∧ b < 1073741789)) → chkV 0 (someZ (min 3 8)) (someA 3 (min 3 8)) 1 Z32 0 [5, 0, 2, 0, 0] 1 [who, a, b] 1 ≠ 0 := chk_forged _ _ _ _ _ _ _
  by_cases h1 : a < 0
  · have hy := bne_iff_ne.2 (hx (.inl (by omega)))
    clear hx
    refine agox ?_; (try with_reducible exact True.intro)
  by_cases h2 : a ≥ 1073741789
  · have hy := bne_iff_ne.2 (hx (.inl (by omega)))
    clear hx
    refine agox ?_; (try with_reducible exact True.intro)
  by_cases h3 : b < 0
  · have hy := bne_iff_ne.2 (hx (.inr (by omega)))
    clear hx
    refine agox ?_; (try with_reducible exact True.intro)
  by_cases h4 : b ≥ 1073741789
  · have hy := bne_iff_ne.2 (hx (.inr (by omega)))
    clear hx
    refine agox ?_; (try with_reducible exact True.intro)
  clear hx
  refine agox ?_; (try with_reducible exact True.intro)
theorem ra_sig {S : Nat → Prop} {w : World} (a b : Int) : RA S w (.agg [.ints .i64 2 [a, b]]) (.agg #[.int .i64 a, .int .i64 b]) := ra_ints (zs := [a, b]) rfl
theorem gok_nil {w : World} : GOK gTab (fun _ => True) w := fun q l e => by cases (show (none : Option (List Seg)) = some l from e)
theorem voteEmpty_walk {w : World} (v : Value) (hv : ∃ (e : Int) (zs : List Int) (ad : List Bool) (k : Int) (ch : List UInt8), RA (fun _ => True) w (.agg (vSegs e zs ad k ch)) v) (fr : Int) (hf : (Lit.int .i64 fr).wf = true) (a b : Int) (ha : (Lit.int .i64 a).wf = true) (hb : (Lit.int .i64 b).wf = true) (who : Int) (hw : (Lit.int .i64 who).wf = true) :
    Calls Try.prog 6 #[v, .int .i64 fr, .agg #[.int .i64 a, .int .i64 b], .int .i64 who] w fun e w' => e = .returned (.bool true) ∧ Below w.heap.size w w' := by
  obtain ⟨e, zs, ad, k, ch, hv⟩ := hv
  exact law_of_fn (voteEmpty_ok e zs ad k ch fr a b who) gok_nil (.cons hv (.cons (.v _) (.cons (ra_sig a b) (.cons (.v _) .nil))))
theorem voteForged_walk {w : World} (a b : Int) (ha : (Lit.int .i64 a).wf = true) (hb : (Lit.int .i64 b).wf = true) (who : Int) (hw : (Lit.int .i64 who).wf = true) :
    Calls Try.prog 5 #[.agg #[.int .i64 a, .int .i64 b], .int .i64 who] w fun e w' => e = .returned (.bool true) ∧ Below w.heap.size w w' :=
  law_of_fn (voteForged_ok a b who) gok_nil (.cons (ra_sig a b) (.cons (.v _) .nil))
end Go.Proofs.Ytpemaphgmfaioaa
