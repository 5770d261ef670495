/-
  Approvals: one, as the program and the document give it.
-/
import Derived.Test.YtpemaphgmfaioaaGreatO1
namespace Go.Proofs.YtpemaphgmfaioaaGreat
set_option maxRecDepth 100000
open Go.RowKit Pm
set_option linter.unusedVariables false
set_option linter.unusedSimpArgs false
attribute [local irreducible] condK LoopA regA powI scal isI putL doR mayV numsB viewHV numB deriveW fourB mulI askW nonceW sigE sigS verW paperV admB

/-- what an approval errs by -/
def appE (e : Int) (zs : List Int) (ad : List Bool) (k : Int) (who s fr : Int) (ops : List Int) (n : Nat) : Int :=
  if n = 0 then 1 else if (doR e ⟨zs, ad, k, F8, F8⟩ fr ops n).1 ≠ 0 then (doR e ⟨zs, ad, k, F8, F8⟩ fr ops n).1 else if admB ad who = false then 6 else if powI 4 s ≠ zs.getD (who.toNat * 2) 0 then 10 else 0
def appS (e : Int) (zs : List Int) (ad : List Bool) (k : Int) (ch : List UInt8) (who s fr : Int) (ops : List Int) (n : Nat) : List A :=
  if appE e zs ad k who s fr ops n = 0 then [.agg [.ints .i64 3 [who, sigE s (paperV e zs ad k ch fr ops), sigS s (paperV e zs ad k ch fr ops)]], .v (.int .i64 0)] else [.agg [.ints .i64 3 [0, 0, 0]], .v (.int .i64 (appE e zs ad k who s fr ops n))]
theorem adm_bd {ad : List Bool} {i : Int} (h : admB ad i = true) : 0 ≤ i ∧ i < 8 := by
  unfold admB leafB at h
  simp only [Bool.and_eq_true, decide_eq_true_eq] at h
  exact h.1
set_option maxHeartbeats 1000000 in
theorem approve_fn (e : Int) (zs : List Int) (ad : List Bool) (k : Int) (ch : List UInt8) (who s : Int) (hs : 1 ≤ s ∧ s < 1073741789) (fr : Int) (ops : List Int) (n : Nat) (hn : n ≤ 1000000) :
    FnMO 9 2 (.obj (KeyP s)) [.agg (vSegs e zs ad k ch), .v (.int .i64 who), .v (.int .i64 fr), .row n [.ints .i64 (n * 5) ops]] (.t (appS e zs ad k ch who s fr ops n)) (.obj (KeyP s)) := by
  refine fnMB (E := envO9) Tryz.func9 Tryz.ntmps9 ?_
  have hs0 : 0 ≤ s := by omega
  have hpl := paperV_length e zs ad k ch fr ops
  by_cases h0 : n = 0
  · subst h0
    have hr : appE e zs ad k who s fr ops 0 = 1 := by simp [appE]
    rw [appS, if_neg (by rw [hr]; decide), hr]
    clear hr
    refine agow ?_; (try with_reducible exact True.intro)
  have h01 : ((n : Int) == 0) = false := by simpa using h0
  by_cases hd : (doR e ⟨zs, ad, k, F8, F8⟩ fr ops n).1 = 0
  · have hd1 : decide ((doR e ⟨zs, ad, k, F8, F8⟩ fr ops n).1 = 0) = true := decide_eq_true hd
    cases ha : admB ad who with
    | false =>
      have hr : appE e zs ad k who s fr ops n = 6 := by simp [appE, h0, hd, ha]
      rw [appS, if_neg (by rw [hr]; decide), hr]
      clear hr hd h0
      refine agow ?_; (try with_reducible exact True.intro)
    | true =>
      obtain ⟨b0, b1⟩ := adm_bd ha
      by_cases hk : powI 4 s = zs.getD (who.toNat * 2) 0
      · have hr : appE e zs ad k who s fr ops n = 0 := by unfold appE; rw [if_neg h0, if_neg (fun h => h hd), if_neg (by rw [ha]; decide), if_neg (fun h => h hk)]
        rw [appS, if_pos hr]
        clear hr hd h0
        refine agow ?_; (try with_reducible exact True.intro)
      · have hr : appE e zs ad k who s fr ops n = 10 := by unfold appE; rw [if_neg h0, if_neg (fun h => h hd), if_neg (by rw [ha]; decide), if_pos hk]
        rw [appS, if_neg (by rw [hr]; decide), hr]
        have hk1 : (powI 4 s != zs.getD (who.toNat * 2) 0) = true := bne_iff_ne.2 hk
        clear hr hd h0 hk
        refine agow ?_; (try with_reducible exact True.intro)
  · have hd1 : decide ((doR e ⟨zs, ad, k, F8, F8⟩ fr ops n).1 = 0) = false := decide_eq_false hd
    have hr : appE e zs ad k who s fr ops n = (doR e ⟨zs, ad, k, F8, F8⟩ fr ops n).1 := by simp [appE, h0, hd]
    have hd2 : ((doR e ⟨zs, ad, k, F8, F8⟩ fr ops n).1 != 0) = true := by simpa using hd
    rw [appS, if_neg (by rw [hr]; exact hd), hr]
    clear hr hd h0
    refine agow ?_; (try with_reducible exact True.intro)
set_option maxHeartbeats 1000000 in
theorem rapprove_fn (e : Int) (zs : List Int) (ad : List Bool) (k : Int) (ch : List UInt8) (who s : Int) (hs : 1 ≤ s ∧ s < 1073741789) (fr : Int) (ops : List Int) (n : Nat) (hn : n ≤ 1000000) :
    FnO 11 [.agg (vSegs e zs ad k ch), .v (.int .i64 who), .agg [.ints .i64 2 [s, powI 4 s]], .v (.int .i64 fr), .row n [.ints .i64 (n * 5) ops]] (.t (appS e zs ad k ch who s fr ops n)) := by
  refine fnA (E := envO9) Tryz.func11 Tryz.ntmps11 ?_
  have hs0 : 0 ≤ s := by omega
  have hpl := paperV_length e zs ad k ch fr ops
  by_cases h0 : n = 0
  · subst h0
    have hr : appE e zs ad k who s fr ops 0 = 1 := by simp [appE]
    rw [appS, if_neg (by rw [hr]; decide), hr]
    clear hr
    refine agow ?_; (try with_reducible exact True.intro)
  have h01 : ((n : Int) == 0) = false := by simpa using h0
  by_cases hd : (doR e ⟨zs, ad, k, F8, F8⟩ fr ops n).1 = 0
  · have hd1 : decide ((doR e ⟨zs, ad, k, F8, F8⟩ fr ops n).1 = 0) = true := decide_eq_true hd
    cases ha : admB ad who with
    | false =>
      have hr : appE e zs ad k who s fr ops n = 6 := by simp [appE, h0, hd, ha]
      rw [appS, if_neg (by rw [hr]; decide), hr]
      clear hr hd h0
      refine agow ?_; (try with_reducible exact True.intro)
    | true =>
      obtain ⟨b0, b1⟩ := adm_bd ha
      by_cases hk : powI 4 s = zs.getD (who.toNat * 2) 0
      · have hr : appE e zs ad k who s fr ops n = 0 := by unfold appE; rw [if_neg h0, if_neg (fun h => h hd), if_neg (by rw [ha]; decide), if_neg (fun h => h hk)]
        rw [appS, if_pos hr]
        clear hr hd h0
        refine agow ?_; (try with_reducible exact True.intro)
      · have hr : appE e zs ad k who s fr ops n = 10 := by unfold appE; rw [if_neg h0, if_neg (fun h => h hd), if_neg (by rw [ha]; decide), if_pos hk]
        rw [appS, if_neg (by rw [hr]; decide), hr]
        have hk1 : (powI 4 s != zs.getD (who.toNat * 2) 0) = true := bne_iff_ne.2 hk
        clear hr hd h0 hk
        refine agow ?_; (try with_reducible exact True.intro)
  · have hd1 : decide ((doR e ⟨zs, ad, k, F8, F8⟩ fr ops n).1 = 0) = false := decide_eq_false hd
    have hr : appE e zs ad k who s fr ops n = (doR e ⟨zs, ad, k, F8, F8⟩ fr ops n).1 := by simp [appE, h0, hd]
    have hd2 : ((doR e ⟨zs, ad, k, F8, F8⟩ fr ops n).1 != 0) = true := by simpa using hd
    rw [appS, if_neg (by rw [hr]; exact hd), hr]
    clear hr hd h0
    refine agow ?_; (try with_reducible exact True.intro)
end Go.Proofs.YtpemaphgmfaioaaGreat
