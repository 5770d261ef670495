/-
  Approvals: whether they are enough, by the document.
-/
import Derived.Test.YtegjkfaokpjojaaGreatDoorJ29
import Derived.Test.YtegjkfaokpjojaaGreatDoorJ30
namespace Go.Proofs.YtegjkfaokpjojaaGreatDoor
set_option maxRecDepth 100000
open Go.RowKit Pm
set_option linter.unusedVariables false
set_option linter.unusedSimpArgs false
attribute [local irreducible] condK LoopA regA powI scal isI putL doR mayV numsB viewHV numB deriveW fourB mulI askW nonceW sigE sigS verW paperV admB chkE lastJ

set_option maxHeartbeats 3000000 in
theorem rcheck_fn (e : Int) (zs : List Int) (ad : List Bool) (k : Int) (ch : List UInt8) (fr : Int) (ops : List Int) (n : Nat) (hn : n ≤ 1000000) (vs : List Int) (m : Nat) (hm : m ≤ 1000000) (hv : vs.length = m * 3) :
    FnO 41 [.agg (vSegs e zs ad k ch), .v (.int .i64 fr), .row n [.ints .i64 (n * 5) ops], .row m [.ints .i64 (m * 3) vs]] (.d (.v (.int .i64 (chkV e zs ad k ch fr ops n vs m)))) := by
  refine fnA (E := envOa) Tryz.func41 Tryz.ntmps41 ?_
  have hpl := paperV_length e zs ad k ch fr ops
  by_cases h0 : n = 0
  · subst h0
    have hr : chkV e zs ad k ch fr ops 0 vs m = if m = 0 then 0 else 8 := by simp [chkV]
    rw [hr]
    clear hr
    by_cases h : m = 0
    · subst h
      rw [if_pos rfl]
      refine agox ?_; (try with_reducible exact True.intro)
    · rw [if_neg h]
      have h1 : (m : Int) > 0 := by omega
      clear h
      refine agox ?_; (try with_reducible exact True.intro)
  have h01 : ((n : Int) == 0) = false := by simpa using h0
  by_cases hd : (doR e ⟨zs, ad, k, F8, F8⟩ fr ops n).1 = 0
  · have hd1 : decide ((doR e ⟨zs, ad, k, F8, F8⟩ fr ops n).1 = 0) = true := decide_eq_true hd
    obtain ⟨N, hN, hok, hend⟩ := first_noO (p := fun j => passB zs ad (paperV e zs ad k ch fr ops) vs j = true) m
    have hC : chkV e zs ad k ch fr ops n vs m = if N = m then (if (m : Int) < k then 8 else 0) else codeJ ad vs N := by
      rcases hend with rfl | ⟨h1, h2⟩
      · simp only [chkV, h0, hd, chkE_all hok]; simp
      · simp only [chkV, h0, hd, chkE_at h1 hok h2]
        rw [if_neg (show ¬ N = m by omega)]
        simp [codeJ_ne]
    rw [hC]
    clear hC hd
    refine agox ?_; (try with_reducible exact True.intro)
    refine StopL.mk (loop_forG [3, 4, 8, 13, 14] [0, 4] N (fun j => ⟨[.dead, .dead, .dead, .d (.row m [.ints .i64 (m * 3) vs]), .ptr 0 0, .dead, .dead, .dead, .d (.v (.int .i64 0)), .dead, .dead, .dead, .dead, .ptr 1 0, .d (.v (.int .i64 (j : Nat))), .dead, .dead, .dead, .dead, .dead, .dead, .dead, .dead, .dead, .dead, .dead, .dead, .dead, .dead, .dead, .dead, .dead, .dead, .dead, .dead, .dead, .dead, .dead, .dead, .dead, .dead, .dead, .dead, .dead, .dead, .dead, .dead, .dead, .dead, .dead, .dead, .dead, .dead, .dead, .dead, .dead, .dead, .dead, .dead, .dead, .dead, .dead, .dead, .dead, .dead, .dead, .dead, .dead, .dead, .dead, .dead, .dead, .dead, .dead, .dead, .dead, .dead, .dead, .dead, .dead, .dead, .dead, .dead, .dead, .dead, .dead, .dead, .dead, .dead, .dead, .dead, .dead], [some (.var (vSegs e zs ad k ch)), some (.var [.bytes 32 (paperV e zs ad k ch fr ops)])]⟩) ?_)
    intro j hj hl
    by_cases h3 : j < m
    · have h2 : (j : Int) < m := by omega
      have hF := vote_facts hv hj h3 hok hend (if (m : Int) < k then 8 else 0)
      clear hok hend hj
      cases j with
      | zero =>
        have h2a : List.take 2 (List.drop 1 vs) = [vs.getD 1 0, vs.getD 2 0] := two_at (j := 0) hv h3
        simp only [Nat.zero_mul, Nat.zero_add, h2a, List.getD_cons_zero, List.getD_cons_succ] at hF
        rcases hF with ⟨f1, f2, f3⟩ | ⟨f1, f2, f3, f4, f5, f6⟩ | ⟨f1, f2, f3, f4, f5, f6, f7⟩ | ⟨f1, f2, f3, f4, f5, f6⟩
        · rw [f3]
          clear f3
          refine agox ?_; (try with_reducible exact True.intro)
        · exact absurd f2 (by simp only [lastJ] at f4; omega)
        · rw [f7]
          clear f7 f4
          refine agox ?_; (try with_reducible exact True.intro)
          rw [h2a]
          clear h2a
          refine agox ?_; (try with_reducible exact True.intro)
        · clear f4
          refine agox ?_; (try with_reducible exact True.intro)
          rw [h2a]
          clear h2a
          refine agox ?_; (try with_reducible exact True.intro)
          refine hl.go f6 [3, 4, 8, 13, 14] [0, 1] ?_
          rfl
      | succ i =>
        have hi : (((i + 1 : Nat) : Int) - 1).toNat = i := by omega
        have eL : lastJ vs (i + 1) = vs.getD ((((i + 1 : Nat) : Int) - 1).toNat * 3) 0 := by rw [hi, lastJ]
        rw [eL] at hF
        have h2a : List.take 2 (List.drop ((i + 1) * 3 + 1) vs) = [vs.getD ((i + 1) * 3 + 1) 0, vs.getD ((i + 1) * 3 + 2) 0] := two_at (j := i + 1) hv h3
        simp only [h2a, List.getD_cons_zero, List.getD_cons_succ] at hF
        clear eL hi
        rcases hF with ⟨f1, f2, f3⟩ | ⟨f1, f2, f3, f4, f5, f6⟩ | ⟨f1, f2, f3, f4, f5, f6, f7⟩ | ⟨f1, f2, f3, f4, f5, f6⟩
        · rw [f3]
          clear f3
          refine agox ?_; (try with_reducible exact True.intro)
        · rw [f6]
          clear f6
          refine agox ?_; (try with_reducible exact True.intro)
        · rw [f7]
          clear f7
          refine agox ?_; (try with_reducible exact True.intro)
          rw [h2a]
          clear h2a
          refine agox ?_; (try with_reducible exact True.intro)
        · refine agox ?_; (try with_reducible exact True.intro)
          rw [h2a]
          clear h2a
          refine agox ?_; (try with_reducible exact True.intro)
          refine hl.go f6 [3, 4, 8, 13, 14] [0, 1] ?_
          rfl
    · have h4 : ¬ (j : Int) < m := by omega
      rw [if_pos (show N = m by omega)]
      clear hok hend hl
      by_cases hk : (m : Int) < k
      · rw [if_pos hk]
        refine agox ?_; (try with_reducible exact True.intro)
      · rw [if_neg hk]
        refine agox ?_; (try with_reducible exact True.intro)
  · have hd1 : decide ((doR e ⟨zs, ad, k, F8, F8⟩ fr ops n).1 = 0) = false := decide_eq_false hd
    have hr : chkV e zs ad k ch fr ops n vs m = (doR e ⟨zs, ad, k, F8, F8⟩ fr ops n).1 := by simp [chkV, h0, hd]
    have hd2 : ((doR e ⟨zs, ad, k, F8, F8⟩ fr ops n).1 != 0) = true := by simpa using hd
    rw [hr]
    clear hr hd h0
    refine agox ?_; (try with_reducible exact True.intro)
end Go.Proofs.YtegjkfaokpjojaaGreatDoor

/-
  Commits: whether one may be, the other program.
-/
namespace Go.Proofs.YtegjkfaokpjojaaGreatDoor
set_option maxRecDepth 100000
open Go.RowKit Pm
set_option linter.unusedVariables false
set_option linter.unusedSimpArgs false
attribute [local irreducible] condK LoopA regA numB numsB boxB idxP bodyB
end Go.Proofs.YtegjkfaokpjojaaGreatDoor

/-
  Commits as bytes, the other program.
-/
namespace Go.Proofs.YtegjkfaokpjojaaGreatDoor
set_option maxRecDepth 100000
open Go.RowKit Pm
set_option linter.unusedVariables false
set_option linter.unusedSimpArgs false
attribute [local irreducible] condK LoopA regA numB numsB boxB idxP
theorem numsB_three' (zs : List Int) {i : Nat} (h : i + 3 ≤ zs.length) : numsB (zs.take (i + 3)) = numsB (zs.take i) ++ numsB [zs.getD i 0, zs.getD (i + 1) 0, zs.getD (i + 2) 0] := by
  rw [numsB_three zs h]
  simp [List.getD_eq_getElem?_getD, List.getElem?_take, List.getElem?_drop]
set_option maxHeartbeats 8000000 in
theorem rbody_ok (c : CS) (hc : CSok c) : FnO 110 [.agg (cSegs c)] (.o 5 1 (bodyN c) [.bytes (bodyN c) (bodyB c)]) := by
  refine fnA (E := envC4) Tryz.func110 Tryz.ntmps110 ?_
  obtain ⟨h1, h2, h3, h4, h5, h6⟩ := hc
  refine agow ?_; (try with_reducible exact True.intro)
  generalize hp : ptsOf _ _ _ = o
  obtain rfl : o = some [.own 3 24, .own 4 (c.n * 40), .own 6 8] := hp.symm.trans (ptsOf_cons rfl (ptOf_own rfl rfl) (ptsOf_cons rfl (ptOf_own rfl rfl) (ptsOf_cons rfl (ptOf_own rfl rfl) ptsOf_nil)))
  clear hp
  have g1 : (numsB [c.e, c.fr, (c.n : Int)]).length = 24 := numsB_length _
  have g2 : (numsB c.ops).length = c.n * 40 := by rw [numsB_length, h4]; omega
  have g3 : (numB (c.m : Int)).length = 8 := numB_length _
  refine agow ?_; (try with_reducible exact True.intro)
  have k1 : (numsB [c.e, c.fr, (c.n : Int)] ++ (numsB c.ops ++ numB (c.m : Int))).length = 24 + c.n * 40 + 8 := by
    rw [List.length_append, List.length_append, g1, g2, g3]; omega
  have k2 : numsB [c.e, c.fr, (c.n : Int)] ++ (numsB c.ops ++ numB (c.m : Int)) = bodyHead c := by
    unfold bodyHead; rw [numsB_one, List.append_assoc]
  rw [k1, k2]
  clear k1 k2 g1 g2 g3
  refine StopL.mk (loop_forG [1, 3, 4] [0, 8] c.m (fun j => ⟨[.dead, .ptr 0 0, .dead, .own 1 (24 + c.n * 40 + 8 + j * 24), .d (.v (.int .i64 (j : Nat))), .dead, .dead, .dead, .dead, .dead, .dead, .dead, .dead, .dead, .dead, .dead, .dead, .dead, .dead, .dead, .dead, .dead, .dead, .dead, .dead, .dead, .dead, .dead, .dead, .dead, .dead, .dead, .dead, .dead, .dead, .dead, .dead, .dead, .dead, .dead, .dead, .dead, .dead, .dead, .dead, .dead, .dead, .dead, .dead, .dead, .dead, .dead, .dead, .dead, .dead, .dead, .dead, .dead, .dead, .dead, .dead, .dead, .dead, .dead, .dead, .dead, .dead, .dead, .dead, .dead, .dead, .dead, .dead, .dead, .dead, .dead, .dead, .dead, .dead, .dead, .dead, .dead, .dead, .dead, .dead, .dead, .dead, .dead, .dead, .dead, .dead, .dead, .dead, .dead, .dead, .dead], [some (.var (cSegs c)), some (.sl 5 1 (24 + c.n * 40 + 8 + j * 24) [.bytes (24 + c.n * 40 + 8 + j * 24) (bodyHead c ++ numsB (c.vs.take (j * 3)))])]⟩) ?_ (h2 := by simp only [Nat.zero_mul, List.take_zero, numsB_nil, List.append_nil, Nat.add_zero]; exact rfl))
  intro j hj hl
  by_cases hjm : j < c.m
  · have g1 : (j : Int) < (c.m : Int) := by omega
    refine agow ?_; (try with_reducible exact True.intro)
    refine hl.go hjm [1, 3, 4] [0, 1] ?_
    rw [show (j + 1) * 3 = j * 3 + 3 by omega, numsB_three' c.vs (by omega), show (j + 1) * 24 = j * 24 + 24 by omega, ← List.append_assoc, ← Nat.add_assoc]
    rfl
  · obtain rfl : j = c.m := by omega
    have g1 : ¬ (c.m : Int) < (c.m : Int) := by omega
    rw [show c.vs.take (c.m * 3) = c.vs from List.take_of_length_le (by omega)]
    refine agow ?_; (try with_reducible exact True.intro)
    refine StopL.mk (loop_forG [1, 3, 5] [0, 1] c.k (fun j => ⟨[.dead, .ptr 0 0, .dead, .own 1 (24 + c.n * 40 + 8 + c.m * 24 + 40 + bxN c.bx j), .dead, .d (.v (.int .i64 (j : Nat))), .dead, .dead, .dead, .dead, .dead, .dead, .dead, .dead, .dead, .dead, .dead, .dead, .dead, .dead, .dead, .dead, .dead, .dead, .dead, .dead, .dead, .dead, .dead, .dead, .dead, .dead, .dead, .dead, .dead, .dead, .dead, .dead, .dead, .dead, .dead, .dead, .dead, .dead, .dead, .dead, .dead, .dead, .dead, .dead, .dead, .dead, .dead, .dead, .dead, .dead, .dead, .dead, .dead, .dead, .dead, .dead, .dead, .dead, .dead, .dead, .dead, .dead, .dead, .dead, .dead, .dead, .dead, .dead, .dead, .dead, .dead, .dead, .dead, .dead, .dead, .dead, .dead, .dead, .dead, .dead, .dead, .dead, .dead, .dead, .dead, .dead, .dead, .dead, .dead, .dead], [some (.var (cSegs c)), some (.sl 5 1 (24 + c.n * 40 + 8 + c.m * 24 + 40 + bxN c.bx j) [.bytes (24 + c.n * 40 + 8 + c.m * 24 + 40 + bxN c.bx j) (bodyMid c ++ bxB c.bx j)])]⟩) ?_ (h2 := by simp only [bxN, bxB, List.append_nil, Nat.add_zero]; exact rfl))
    intro i hi hl2
    by_cases hik : i < c.k
    · have g2 : (i : Int) < (c.k : Int) := by omega
      have g3 := h6 i hik
      have g4 : (c.bx i).length ≤ 1000000 := by omega
      have g5 : bxN c.bx i ≤ 18030000 := by have := bxN_le (bx := c.bx) (k := i) (fun j hj => h6 j (by omega)); omega
      refine agow ?_; (try with_reducible exact True.intro)
      refine hl2.go hik [1, 3, 5] [0, 1] ?_
      have e1 : 24 + c.n * 40 + 8 + c.m * 24 + 40 + bxN c.bx (i + 1) = 24 + c.n * 40 + 8 + c.m * 24 + 40 + bxN c.bx i + 8 + (c.bx i).length := by
        show _ + (bxN c.bx i + (8 + (c.bx i).length)) = _
        omega
      have e2 : bodyMid c ++ bxB c.bx (i + 1) = ((bodyMid c ++ bxB c.bx i) ++ numB ((c.bx i).length : Int)) ++ c.bx i := by
        show bodyMid c ++ (bxB c.bx i ++ boxB (c.bx i)) = _
        rw [boxB, numsB_one]; simp only [List.append_assoc]
      rw [e1, e2]
      rfl
    · obtain rfl : i = c.k := by omega
      have g2 : ¬ (c.k : Int) < (c.k : Int) := by omega
      refine agow ?_; (try with_reducible exact True.intro)
      rfl
attribute [local irreducible] bodyB
end Go.Proofs.YtegjkfaokpjojaaGreatDoor
