/-
  Approvals: whether they are enough, by the document.
-/
import Derived.Test.YtpemaphgmfaioaaGreatO3
import Derived.Test.YtpemaphgmfaioaaGreatY9
namespace Go.Proofs.YtpemaphgmfaioaaGreat
set_option maxRecDepth 100000
open Go.RowKit Pm
set_option linter.unusedVariables false
set_option linter.unusedSimpArgs false
attribute [local irreducible] condK LoopA regA powI scal isI putL doR mayV numsB viewHV numB deriveW fourB mulI askW nonceW sigE sigS verW paperV admB chkE lastJ

set_option maxHeartbeats 3000000 in
theorem rcheck_fn (e : Int) (zs : List Int) (ad : List Bool) (k : Int) (ch : List UInt8) (fr : Int) (ops : List Int) (n : Nat) (hn : n ≤ 1000000) (vs : List Int) (m : Nat) (hm : m ≤ 1000000) (hv : vs.length = m * 3) :
    FnO 16 [.agg (vSegs e zs ad k ch), .v (.int .i64 fr), .row n [.ints .i64 (n * 5) ops], .row m [.ints .i64 (m * 3) vs]] (.d (.v (.int .i64 (chkV e zs ad k ch fr ops n vs m)))) := by
  refine fnA (E := envOa) Tryz.func16 Tryz.ntmps16 ?_
  have hpl := paperV_length e zs ad k ch fr ops
  by_cases h0 : n = 0
  · subst h0
    have hr : chkV e zs ad k ch fr ops 0 vs m = if m = 0 then 0 else 8 := by simp [chkV]
    rw [hr]
    clear hr
    by_cases h : m = 0
    · subst h
      rw [if_pos rfl]
      refine agox ?_; (try with_reducible exact True.intro)
    · rw [if_neg h]
      have h1 : (m : Int) > 0 := by omega
      clear h
      refine agox ?_; (try with_reducible exact True.intro)
  have h01 : ((n : Int) == 0) = false := by simpa using h0
  by_cases hd : (doR e ⟨zs, ad, k, F8, F8⟩ fr ops n).1 = 0
  · have hd1 : decide ((doR e ⟨zs, ad, k, F8, F8⟩ fr ops n).1 = 0) = true := decide_eq_true hd
    obtain ⟨N, hN, hok, hend⟩ := first_noO (p := fun j => passB zs ad (paperV e zs ad k ch fr ops) vs j = true) m
    have hC : chkV e zs ad k ch fr ops n vs m = if N = m then (if (m : Int) < k then 8 else 0) else codeJ ad vs N := by
      rcases hend with rfl | ⟨h1, h2⟩
      · simp only [chkV, h0, hd, chkE_all hok]; simp
      · simp only [chkV, h0, hd, chkE_at h1 hok h2]
        rw [if_neg (show ¬ N = m by omega)]
        simp [codeJ_ne]
    rw [hC]
    clear hC hd
    refine agox ?_; (try with_reducible exact True.intro)
    refine StopL.mk (loop_forG [3, 4, 8, 13, 14] [0, 4] N (fun j => ⟨[.dead, .dead, .dead, .d (.row m [.ints .i64 (m * 3) vs]), .ptr 0 0, .dead, .dead, .dead, .d (.v (.int .i64 0)), .dead, .dead, .dead, .dead, .ptr 1 0, .d (.v (.int .i64 (j : Nat))), .dead, .dead, .dead, .dead, .dead, .dead, .dead, .dead, .dead, .dead, .dead, .dead, .dead, .dead, .dead, .dead, .dead, .dead, .dead, .dead, .dead, .dead, .dead, .dead, .dead, .dead, .dead, .dead, .dead, .dead, .dead, .dead, .dead, .dead, .dead, .dead, .dead, .dead, .dead, .dead, .dead, .dead, .dead, .dead, .dead, .dead, .dead, .dead, .dead, .dead, .dead, .dead, .dead, .dead, .dead, .dead, .dead, .dead, .dead, .dead, .dead, .dead, .dead, .dead, .dead, .dead, .dead, .dead, .dead, .dead, .dead, .dead, .dead, .dead, .dead, .dead, .dead], [some (.var (vSegs e zs ad k ch)), some (.var [.bytes 32 (paperV e zs ad k ch fr ops)])]⟩) ?_)
    intro j hj hl
    by_cases h3 : j < m
    · have h2 : (j : Int) < m := by omega
      have hF := vote_facts hv hj h3 hok hend (if (m : Int) < k then 8 else 0)
      clear hok hend hj
      cases j with
      | zero =>
        have h2a : List.take 2 (List.drop 1 vs) = [vs.getD 1 0, vs.getD 2 0] := two_at (j := 0) hv h3
        simp only [Nat.zero_mul, Nat.zero_add, h2a, List.getD_cons_zero, List.getD_cons_succ] at hF
        rcases hF with ⟨f1, f2, f3⟩ | ⟨f1, f2, f3, f4, f5, f6⟩ | ⟨f1, f2, f3, f4, f5, f6, f7⟩ | ⟨f1, f2, f3, f4, f5, f6⟩
        · rw [f3]
          clear f3
          refine agox ?_; (try with_reducible exact True.intro)
        · exact absurd f2 (by simp only [lastJ] at f4; omega)
        · rw [f7]
          clear f7 f4
          refine agox ?_; (try with_reducible exact True.intro)
          rw [h2a]
          clear h2a
          refine agox ?_; (try with_reducible exact True.intro)
        · clear f4
          refine agox ?_; (try with_reducible exact True.intro)
          rw [h2a]
          clear h2a
          refine agox ?_; (try with_reducible exact True.intro)
          refine hl.go f6 [3, 4, 8, 13, 14] [0, 1] ?_
          rfl
      | succ i =>
        have hi : (((i + 1 : Nat) : Int) - 1).toNat = i := by omega
        have eL : lastJ vs (i + 1) = vs.getD ((((i + 1 : Nat) : Int) - 1).toNat * 3) 0 := by rw [hi, lastJ]
        rw [eL] at hF
        have h2a : List.take 2 (List.drop ((i + 1) * 3 + 1) vs) = [vs.getD ((i + 1) * 3 + 1) 0, vs.getD ((i + 1) * 3 + 2) 0] := two_at (j := i + 1) hv h3
        simp only [h2a, List.getD_cons_zero, List.getD_cons_succ] at hF
        clear eL hi
        rcases hF with ⟨f1, f2, f3⟩ | ⟨f1, f2, f3, f4, f5, f6⟩ | ⟨f1, f2, f3, f4, f5, f6, f7⟩ | ⟨f1, f2, f3, f4, f5, f6⟩
        · rw [f3]
          clear f3
          refine agox ?_; (try with_reducible exact True.intro)
        · rw [f6]
          clear f6
          refine agox ?_; (try with_reducible exact True.intro)
        · rw [f7]
          clear f7
          refine agox ?_; (try with_reducible exact True.intro)
          rw [h2a]
          clear h2a
          refine agox ?_; (try with_reducible exact True.intro)
        · refine agox ?_; (try with_reducible exact True.intro)
          rw [h2a]
          clear h2a
          refine agox ?_; (try with_reducible exact True.intro)
          refine hl.go f6 [3, 4, 8, 13, 14] [0, 1] ?_
          rfl
    · have h4 : ¬ (j : Int) < m := by omega
      rw [if_pos (show N = m by omega)]
      clear hok hend hl
      by_cases hk : (m : Int) < k
      · rw [if_pos hk]
        refine agox ?_; (try with_reducible exact True.intro)
      · rw [if_neg hk]
        refine agox ?_; (try with_reducible exact True.intro)
  · have hd1 : decide ((doR e ⟨zs, ad, k, F8, F8⟩ fr ops n).1 = 0) = false := decide_eq_false hd
    have hr : chkV e zs ad k ch fr ops n vs m = (doR e ⟨zs, ad, k, F8, F8⟩ fr ops n).1 := by simp [chkV, h0, hd]
    have hd2 : ((doR e ⟨zs, ad, k, F8, F8⟩ fr ops n).1 != 0) = true := by simpa using hd
    rw [hr]
    clear hr hd h0
    refine agox ?_; (try with_reducible exact True.intro)
end Go.Proofs.YtpemaphgmfaioaaGreat
