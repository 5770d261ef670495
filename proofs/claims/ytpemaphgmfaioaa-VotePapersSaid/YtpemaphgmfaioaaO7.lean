/-
  Approvals: of other operations, and papers.
-/
import Derived.Test.YtpemaphgmfaioaaO4
import Derived.Test.YtpemaphgmfaioaaU4
import Derived.Test.YtpemaphgmfaioaaP9
import Derived.Test.YtpemaphgmfaioaaO5
namespace Go.Proofs.Ytpemaphgmfaioaa
set_option maxRecDepth 100000
set_option pp.deepTerms true
set_option pp.maxSteps 1000000
open Go.RowKit Pm
set_option linter.unusedVariables false
set_option linter.unusedSimpArgs false
attribute [local irreducible] condK LoopA regA powI scal isI putL doR mayV numsB viewHV numB deriveW fourB mulI askW nonceW sigE sigS verW paperV admB someZ someA keyB keyV chkV appE

theorem chk_own (e : Int) (zs : List Int) (ad : List Bool) (k : Int) (ch : List UInt8) (who s : Int) (hs : 1 ≤ s ∧ s < 1073741789) (fr : Int) (ops : List Int) (n : Nat) (hk : k ≤ 1) (h : appE e zs ad k who s fr ops n = 0) :
    chkV e zs ad k ch fr ops n [who, sigE s (paperV e zs ad k ch fr ops), sigS s (paperV e zs ad k ch fr ops)] 1 = 0 := by
  unfold appE at h
  by_cases hn : n = 0
  · rw [if_pos hn] at h; cases h
  rw [if_neg hn] at h
  by_cases hd : (doR e ⟨zs, ad, k, F8, F8⟩ fr ops n).1 = 0
  · rw [if_neg (fun g => g hd)] at h
    cases ha : admB ad who with
    | false => rw [ha, if_pos rfl] at h; cases h
    | true =>
      rw [ha, if_neg (by decide)] at h
      by_cases hy : powI 4 s = zs.getD (who.toNat * 2) 0
      · obtain ⟨b1, b2⟩ := adm_bd ha
        unfold chkV
        rw [if_neg hn, if_neg (fun g => g hd), chkE_all (fun j hj => ?_), if_neg (fun g => g rfl), if_neg (by omega)]
        obtain rfl : j = 0 := by omega
        show (admB ad who && decide ((-1 : Int) < who) && verW (zs.getD (who.toNat * 2) 0) _ (sigE s (paperV e zs ad k ch fr ops)) (sigS s (paperV e zs ad k ch fr ops))) = true
        rw [ha, decide_eq_true (show (-1 : Int) < who by omega), ← hy, verW_own s _ hs]; rfl
      · rw [if_pos hy] at h; cases h
  · rw [if_pos hd] at h; exact absurd h hd
set_option maxHeartbeats 2000000 in
theorem voteOther_ok (ops : List Int) (n : Nat) (hn : n ≤ 140737488351232) (ops2 : List Int) (m : Nat) (hm : m ≤ 140737488351232) (fr ep : Int) :
    FnO 4 [.row n [.ints .i64 (n * 5) ops], .row m [.ints .i64 (m * 5) ops2], .v (.int .i64 fr), .v (.int .i64 ep)] (.d (.v (.bool true))) := by
  refine fnA (E := envP7) Try.func4 Try.ntmps4 ?_
  by_cases h0 : n = 0
  · subst h0
    refine agox ?_; (try with_reducible exact True.intro)
  have h00 : ((n : Int) == 0) = false := by simpa using h0
  by_cases h1 : (n : Int) > 4
  · refine agox ?_; (try with_reducible exact True.intro)
  by_cases h2 : (m : Int) > 4
  · refine agox ?_; (try with_reducible exact True.intro)
  by_cases h3 : ep < 0
  · refine agox ?_; (try with_reducible exact True.intro)
  by_cases h4 : ep > 1000
  · refine agox ?_; (try with_reducible exact True.intro)
  have h5 : n ≤ 4 := by omega
  have h6 : m ≤ 4 := by omega
  obtain ⟨b1, b2⟩ := scal_bd (keyB 0)
  by_cases he : appE 0 (someZ (min 4 8)) (someA 2 (min 4 8)) 1 0 (scal (keyB 0)) 0 ops n = 0
  · have he1 := decide_eq_true he
    have hc := beq_iff_eq.2 (chk_own 0 (someZ (min 4 8)) (someA 2 (min 4 8)) 1 Z32 0 (scal (keyB 0)) ⟨b1, b2⟩ 0 ops n (Int.le_refl _) he)
    clear he h0
    refine agox ?_; (try with_reducible exact True.intro)
    trace_state
  · have he1 := decide_eq_false he
    have he2 := bne_iff_ne.2 he
    clear he h0
    refine agox ?_; (try with_reducible exact True.intro)
    trace_state
set_option maxHeartbeats 2000000 in
theorem votePapers_ok (ops : List Int) (n : Nat) (hn : n ≤ 140737488351232) (fr : Int) :
    FnO 7 [.row n [.ints .i64 (n * 5) ops], .v (.int .i64 fr)] (.d (.v (.bool true))) := by
  refine fnA (E := envP7) Try.func7 Try.ntmps7 ?_
  by_cases h1 : (n : Int) > 4
  · refine agox ?_; (try with_reducible exact True.intro)
  have h5 : n ≤ 4 := by omega
  refine agox ?_; (try with_reducible exact True.intro)
  trace_state
theorem voteOther_walk {w : World} (l : Value) (n : Nat) (zs : List Int) (hn : n ≤ 140737488351232) (hl : RA (fun _ => True) w (.row n [.ints .i64 (n * 5) zs]) l) (l' : Value) (n' : Nat) (zs' : List Int) (hn' : n' ≤ 140737488351232) (hl' : RA (fun _ => True) w (.row n' [.ints .i64 (n' * 5) zs']) l') (fr : Int) (hf : (Lit.int .i64 fr).wf = true) (ep : Int) (he : (Lit.int .i64 ep).wf = true) :
    Calls Try.prog 4 #[l, l', .int .i64 fr, .int .i64 ep] w fun e w' => e = .returned (.bool true) ∧ Below w.heap.size w w' :=
  law_of_fn (voteOther_ok zs n hn zs' n' hn' fr ep) gok_nil (.cons hl (.cons hl' (.cons (.v _) (.cons (.v _) .nil))))
theorem votePapers_walk {w : World} (l : Value) (n : Nat) (zs : List Int) (hn : n ≤ 140737488351232) (hl : RA (fun _ => True) w (.row n [.ints .i64 (n * 5) zs]) l) (fr : Int) (hf : (Lit.int .i64 fr).wf = true) :
    Calls Try.prog 7 #[l, .int .i64 fr] w fun e w' => e = .returned (.bool true) ∧ Below w.heap.size w w' :=
  law_of_fn (votePapers_ok zs n hn fr) gok_nil (.cons hl (.cons (.v _) .nil))
end Go.Proofs.Ytpemaphgmfaioaa
