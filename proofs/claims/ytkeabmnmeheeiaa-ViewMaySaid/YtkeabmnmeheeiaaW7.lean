/-
  Views: one admin more.
-/
import Derived.Test.YtkeabmnmeheeiaaHW
namespace Go.Proofs.Ytkeabmnmeheeiaa
set_option maxRecDepth 100000
open Go.RowKit Pm
set_option linter.unusedVariables false
set_option linter.unusedSimpArgs false
attribute [local irreducible] condK LoopA regA powI scal keyV someZ someA isI doR putL

theorem cnt_set : ∀ n < 9, ∀ b < 9, ∀ i < 8, cntB (((List.range 8).map fun j => decide (j < n) && decide (j < b)).set i true) = if i < min n b then min n b else min n b + 1 := by decide +kernel
theorem may_set (n : Nat) (hn : n ≤ 8) (b : Nat) (hb : b ≤ n) (i : Nat) (hi : i < 8) (k : Int) :
    mayV 0 (someZ n) ((someA (b : Nat) n).set i true) k = (decide (i < n) && (decide (1 ≤ k) && decide (k ≤ if i < b then (b : Int) else (b : Int) + 1))) := by
  have hc : cntB ((someA (b : Nat) n).set i true) = if i < b then b else b + 1 := by
    rw [someA_map _ n hn, show (min (max (b : Int) 0) 8).toNat = b by omega, cnt_set n (by omega) b (by omega) i hi, show min n b = b by omega]
  by_cases h : i < n
  · have ha : admTo (someZ n) ((someA (b : Nat) n).set i true) 8 = true := (admTo_iff _ _).2 fun j hj h2 => by
      rw [getD_setB] at h2
      rw [someZ_mem j n hj hn]
      split at h2
      · next e => rw [← e.1]; exact decide_eq_true h
      · rw [someA_get _ j hj n hn] at h2
        simp only [Bool.and_eq_true] at h2
        exact h2.1
    unfold mayV
    rw [someZ_isT n hn, ha, hc, decide_eq_true h]
    split <;> simp
  · have ha : admTo (someZ n) ((someA (b : Nat) n).set i true) 8 = false := by
      cases hq : admTo (someZ n) ((someA (b : Nat) n).set i true) 8 with
      | false => rfl
      | true =>
        have := (admTo_iff _ _).1 hq i hi (by rw [getD_setB, if_pos ⟨rfl, by rw [someA_len]; exact hi⟩])
        rw [someZ_mem i n hi hn] at this
        exact absurd (of_decide_eq_true this) h
    unfold mayV
    rw [ha, decide_eq_false h]
    simp
theorem some_may2 (n : Nat) (hn : n ≤ 8) (b : Nat) (hb : b ≤ n) (k : Int) : mayV 0 (someZ n) (someA (b : Nat) n) k = (decide (1 ≤ k) && decide (k ≤ (b : Int))) := by
  rw [some_may n hn, show (min n (min (max (b : Int) 0) 8).toNat) = b by omega]
attribute [local irreducible] mayV
set_option maxHeartbeats 4000000 in
theorem viewMay_ok (m a k i : Int) : FnO 13 [.v (.int .i64 m), .v (.int .i64 a), .v (.int .i64 k), .v (.int .i64 i)] (.d (.v (.bool true))) := by
  refine fnA (E := envW6) Try.func13 Try.ntmps13 ?_
  by_cases h1 : m < 0
  · refine agom ?_; (try with_reducible exact True.intro)
  by_cases h2 : m > 8
  · refine agom ?_; (try with_reducible exact True.intro)
  by_cases h3 : a < 0
  · refine agom ?_; (try with_reducible exact True.intro)
  by_cases h4 : a > m
  · refine agom ?_; (try with_reducible exact True.intro)
  by_cases h5 : i < 0
  · refine agom ?_; (try with_reducible exact True.intro)
  by_cases h6 : i > 7
  · refine agom ?_; (try with_reducible exact True.intro)
  have F1 := some_may2 (min m.toNat 8) (by omega) a.toNat (by omega) k
  have F2 := may_set (min m.toNat 8) (by omega) a.toNat (by omega) i.toNat (by omega) k
  rw [show ((a.toNat : Nat) : Int) = a by omega] at F1 F2
  rw [show decide (i.toNat < min m.toNat 8) = decide (i < m) from decide_eq_decide.2 (by omega)] at F2
  have hw : IntKind.i64.wrap (a + 1) = a + 1 := wrapS (by omega) (by omega)
  by_cases q : i < a
  · rw [if_pos (show i.toNat < a.toNat by omega)] at F2
    have p : i < m := by omega
    rw [decide_eq_true p] at F2
    by_cases k1 : 1 ≤ k
    · rw [decide_eq_true k1] at F1 F2
      by_cases k2 : k ≤ a
      · rw [decide_eq_true k2] at F1 F2
        refine agom ?_; (try with_reducible exact True.intro)
      · rw [decide_eq_false k2] at F1 F2
        refine agom ?_; (try with_reducible exact True.intro)
    · rw [decide_eq_false k1] at F1 F2
      refine agom ?_; (try with_reducible exact True.intro)
  · rw [if_neg (show ¬ i.toNat < a.toNat by omega)] at F2
    by_cases k1 : 1 ≤ k
    · rw [decide_eq_true k1] at F1 F2
      by_cases p : i < m
      · rw [decide_eq_true p] at F2
        by_cases k2 : k ≤ a
        · rw [decide_eq_true k2] at F1
          rw [decide_eq_true (show k ≤ a + 1 by omega)] at F2
          refine agom ?_; (try with_reducible exact True.intro)
        · rw [decide_eq_false k2] at F1
          by_cases k3 : k ≤ a + 1
          · rw [decide_eq_true k3] at F2
            refine agom ?_; (try with_reducible exact True.intro)
          · rw [decide_eq_false k3] at F2
            refine agom ?_; (try with_reducible exact True.intro)
      · rw [decide_eq_false p, Bool.false_and] at F2
        by_cases k2 : k ≤ a
        · rw [decide_eq_true k2] at F1
          refine agom ?_; (try with_reducible exact True.intro)
        · rw [decide_eq_false k2] at F1
          refine agom ?_; (try with_reducible exact True.intro)
    · rw [decide_eq_false k1] at F1 F2
      rw [Bool.false_and, Bool.and_false] at F2
      by_cases p : i < m
      · refine agom ?_; (try with_reducible exact True.intro)
      · refine agom ?_; (try with_reducible exact True.intro)
theorem gok_none {w : World} : GOK gTab (fun _ => True) w := fun q l e => by cases (show (none : Option (List Seg)) = some l from e)
theorem viewMay_walk (m : Int) (hm : (Lit.int .i64 m).wf = true) (a : Int) (ha : (Lit.int .i64 a).wf = true) (k : Int) (hk : (Lit.int .i64 k).wf = true) (i : Int) (hi : (Lit.int .i64 i).wf = true) {w : World} :
    Calls Try.prog 13 #[.int .i64 m, .int .i64 a, .int .i64 k, .int .i64 i] w fun e w' => e = .returned (.bool true) ∧ Below w.heap.size w w' :=
  law_of_fn (viewMay_ok m a k i) gok_none (.cons (.v _) (.cons (.v _) (.cons (.v _) (.cons (.v _) .nil))))
end Go.Proofs.Ytkeabmnmeheeiaa
