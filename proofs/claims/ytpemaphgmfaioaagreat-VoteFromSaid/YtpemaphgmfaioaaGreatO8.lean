/-
  Approvals: who is no admin, or has not its key.
-/
import Derived.Test.YtpemaphgmfaioaaGreatO6
namespace Go.Proofs.YtpemaphgmfaioaaGreat
set_option maxRecDepth 100000
set_option pp.deepTerms true
set_option pp.maxSteps 1000000
open Go.RowKit Pm
set_option linter.unusedVariables false
set_option linter.unusedSimpArgs false
attribute [local irreducible] condK LoopA regA powI scal isI putL doR mayV numsB viewHV numB deriveW fourB mulI askW nonceW sigE sigS verW paperV admB someZ someA keyB keyV chkV appE

theorem from_nothing (zs : List Int) (ad : List Bool) (who s : Int) : appE 0 zs ad 1 who s 0 [] 0 = 1 := by
  unfold appE; rw [if_pos rfl]
theorem from_adm (who : Int) : admB (someA 2 (min 4 8)) who = (decide (0 ≤ who) && decide (who < 2)) := by
  by_cases h0 : 0 ≤ who
  · by_cases h8 : who < 8
    · obtain ⟨j, rfl⟩ := Int.eq_ofNat_of_zero_le h0
      rw [adm_t h0 h8, Int.toNat_natCast, show min 4 8 = 4 from rfl, someA_get 2 j (by omega) 4 (by decide), decide_eq_true h0, Bool.true_and]
      by_cases h2 : (j : Int) < 2
      · rw [decide_eq_true h2, decide_eq_true (show j < 4 by omega)]; rfl
      · rw [decide_eq_false h2, Bool.and_false]
    · rw [adm_hi h8, decide_eq_false (show ¬ who < 2 by omega), Bool.and_false]
  · rw [adm_lo h0, decide_eq_false h0]; rfl
theorem from_no (who s : Int) (h : who < 0 ∨ 2 ≤ who) : appE 0 (someZ (min 4 8)) (someA 2 (min 4 8)) 1 who s 0 [3, 3, 0, 0, 0] 1 = 6 := by
  have ha : admB (someA 2 (min 4 8)) who = false := by
    rw [from_adm]
    rcases h with h | h
    · rw [decide_eq_false (show ¬ 0 ≤ who by omega)]; rfl
    · rw [decide_eq_false (show ¬ who < 2 by omega), Bool.and_false]
  unfold appE
  rw [if_neg (by decide), if_neg (fun g => g pro_do), ha, if_pos rfl]
theorem from_key (who s : Int) (h0 : 0 ≤ who) (h1 : who < 2) : appE 0 (someZ (min 4 8)) (someA 2 (min 4 8)) 1 who s 0 [3, 3, 0, 0, 0] 1 = if powI 4 s = (someZ (min 4 8)).getD (who.toNat * 2) 0 then 0 else 10 := by
  have ha : admB (someA 2 (min 4 8)) who = true := by rw [from_adm, decide_eq_true h0, decide_eq_true h1]; rfl
  unfold appE
  rw [if_neg (by decide), if_neg (fun g => g pro_do), ha, if_neg (by decide)]
  by_cases h : powI 4 s = (someZ (min 4 8)).getD (who.toNat * 2) 0
  · rw [if_neg (fun g => g h), if_pos h]
  · rw [if_pos h, if_neg h]
set_option maxHeartbeats 4000000 in
theorem voteFrom_ok (who : Int) (h : List UInt8) (way : Int) :
    FnO 5 [.v (.int .i64 who), .agg [.bytes 32 h], .v (.int .i64 way)] (.d (.v (.bool true))) := by
  refine fnA (E := envP7) Tryz.func5 Tryz.ntmps5 ?_
  by_cases h1 : way < 0
  · refine agox ?_; (try with_reducible exact True.intro)
  by_cases h2 : way > 2
  · refine agox ?_; (try with_reducible exact True.intro)
  have hw : way = 0 ∨ way = 1 ∨ way = 2 := by omega
  obtain ⟨b1, b2⟩ := scal_bd h
  clear h1 h2
  rcases hw with rfl | rfl | rfl
  · by_cases hi : who < 0 ∨ 2 ≤ who
    · have e := from_no who (scal h) hi
      have e1 := decide_eq_false (show ¬ appE 0 (someZ (min 4 8)) (someA 2 (min 4 8)) 1 who (scal h) 0 [3, 3, 0, 0, 0] 1 = 0 by rw [e]; decide)
      have e2 : (who == 0) = false := beq_eq_false_iff_ne.2 (by omega)
      have e3 : (who == 1) = false := beq_eq_false_iff_ne.2 (by omega)
      clear hi
      refine agox ?_; (try with_reducible exact True.intro)
    · have i0 : 0 ≤ who := by omega
      have i1 : who < 2 := by omega
      have e := from_key who (scal h) i0 i1
      have e3 : ((who == 0) || (who == 1)) = true := by
        have : who = 0 ∨ who = 1 := by omega
        rcases this with rfl | rfl <;> decide
      by_cases hk : powI 4 (scal h) = (someZ (min 4 8)).getD (who.toNat * 2) 0
      · rw [if_pos hk] at e
        have e1 := decide_eq_true e
        have hk1 := beq_iff_eq.2 hk
        clear hi hk
        by_cases e4 : who = 0
        · subst e4
          have hk2 : (powI 4 (scal h) == (someZ (min 4 8)).getD 0 0) = true := hk1
          refine agox ?_; (try with_reducible exact True.intro)
        · obtain rfl : who = 1 := by omega
          have hk2 : (powI 4 (scal h) == (someZ (min 4 8)).getD 2 0) = true := hk1
          refine agox ?_; (try with_reducible exact True.intro)
      · rw [if_neg hk] at e
        have e1 := decide_eq_false (show ¬ appE 0 (someZ (min 4 8)) (someA 2 (min 4 8)) 1 who (scal h) 0 [3, 3, 0, 0, 0] 1 = 0 by rw [e]; decide)
        have hk1 := beq_eq_false_iff_ne.2 hk
        clear hi hk
        by_cases e4 : who = 0
        · subst e4
          have hk2 : (powI 4 (scal h) == (someZ (min 4 8)).getD 0 0) = false := hk1
          refine agox ?_; (try with_reducible exact True.intro)
        · obtain rfl : who = 1 := by omega
          have hk2 : (powI 4 (scal h) == (someZ (min 4 8)).getD 2 0) = false := hk1
          refine agox ?_; (try with_reducible exact True.intro)
  · by_cases hi : who < 0 ∨ 2 ≤ who
    · have e2 : (who == 0) = false := beq_eq_false_iff_ne.2 (by omega)
      have e3 : (who == 1) = false := beq_eq_false_iff_ne.2 (by omega)
      obtain ⟨c1, c2⟩ := scal_bd (keyB who)
      by_cases hj : 0 ≤ who
      · by_cases h8 : who < 8
        · have e := from_no who (scal (keyB who)) hi
          have e1 := decide_eq_false (show ¬ appE 0 (someZ (min 4 8)) (someA 2 (min 4 8)) 1 who (scal (keyB who)) 0 [3, 3, 0, 0, 0] 1 = 0 by rw [e]; decide)
          clear hi
          refine agox ?_; (try with_reducible exact True.intro)
        · have e := from_no who (scal h) hi
          have e1 := decide_eq_false (show ¬ appE 0 (someZ (min 4 8)) (someA 2 (min 4 8)) 1 who (scal h) 0 [3, 3, 0, 0, 0] 1 = 0 by rw [e]; decide)
          clear hi
          refine agox ?_; (try with_reducible exact True.intro)
      · have e := from_no who (scal h) hi
        have e1 := decide_eq_false (show ¬ appE 0 (someZ (min 4 8)) (someA 2 (min 4 8)) 1 who (scal h) 0 [3, 3, 0, 0, 0] 1 = 0 by rw [e]; decide)
        clear hi
        refine agox ?_; (try with_reducible exact True.intro)
    · have hj : who = 0 ∨ who = 1 := by omega
      clear hi
      rcases hj with rfl | rfl
      · obtain ⟨c1, c2⟩ := scal_bd (keyB 0)
        have e : appE 0 (someZ (min 4 8)) (someA 2 (min 4 8)) 1 0 (scal (keyB 0)) 0 [3, 3, 0, 0, 0] 1 = 0 := (app_some 4 2 1 0 (by decide) (by decide) (by decide) 0 [3, 3, 0, 0, 0] 1 (by decide)).trans pro_do
        have e1 := decide_eq_true e
        refine agox ?_; (try with_reducible exact True.intro)
      · obtain ⟨c1, c2⟩ := scal_bd (keyB 1)
        have e : appE 0 (someZ (min 4 8)) (someA 2 (min 4 8)) 1 1 (scal (keyB 1)) 0 [3, 3, 0, 0, 0] 1 = 0 := (app_some 4 2 1 1 (by decide) (by decide) (by decide) 0 [3, 3, 0, 0, 0] 1 (by decide)).trans pro_do
        have e1 := decide_eq_true e
        refine agox ?_; (try with_reducible exact True.intro)
  · have e := from_nothing (someZ (min 4 8)) (someA 2 (min 4 8)) who (scal h)
    have e1 := decide_eq_false (show ¬ appE 0 (someZ (min 4 8)) (someA 2 (min 4 8)) 1 who (scal h) 0 [] 0 = 0 by rw [e]; decide)
    by_cases hi : who = 0
    · subst hi
      refine agox ?_; (try with_reducible exact True.intro)
    · have e2 : (who == 0) = false := beq_eq_false_iff_ne.2 hi
      refine agox ?_; (try with_reducible exact True.intro)
theorem voteFrom_walk {w : World} (who : Int) (hw : (Lit.int .i64 who).wf = true) (h : List UInt8) (hh : h.length = 32) (way : Int) (hy : (Lit.int .i64 way).wf = true) :
    Calls Tryz.prog 5 #[.int .i64 who, HV h, .int .i64 way] w fun e w' => e = .returned (.bool true) ∧ Below w.heap.size w w' :=
  law_of_fn (voteFrom_ok who h way) gok_nil6 (.cons (.v _) (.cons (ra_hash hh) (.cons (.v _) .nil)))
end Go.Proofs.YtpemaphgmfaioaaGreat
