/-
  Approvals: whether they are enough, by the document.
-/
import Derived.Test.YtmaaknolbmdekaaGreatDoorJ29
import Derived.Test.YtmaaknolbmdekaaGreatDoorJ30
namespace Go.Proofs.YtmaaknolbmdekaaGreatDoor
set_option maxRecDepth 100000
open Go.RowKit Pm
set_option linter.unusedVariables false
set_option linter.unusedSimpArgs false
attribute [local irreducible] condK LoopA regA powI scal isI putL doR mayV numsB viewHV numB deriveW fourB mulI askW nonceW sigE sigS verW paperV admB chkE lastJ

set_option maxHeartbeats 3000000 in
theorem rcheck_fn (e : Int) (zs : List Int) (ad : List Bool) (k : Int) (ch : List UInt8) (fr : Int) (ops : List Int) (n : Nat) (hn : n ≤ 1000000) (vs : List Int) (m : Nat) (hm : m ≤ 1000000) (hv : vs.length = m * 3) :
    FnO 61 [.agg (vSegs e zs ad k ch), .v (.int .i64 fr), .row n [.ints .i64 (n * 5) ops], .row m [.ints .i64 (m * 3) vs]] (.d (.v (.int .i64 (chkV e zs ad k ch fr ops n vs m)))) := by
  refine fnA (E := envOa) Tryz.func61 Tryz.ntmps61 ?_
  have hpl := paperV_length e zs ad k ch fr ops
  by_cases h0 : n = 0
  · subst h0
    have hr : chkV e zs ad k ch fr ops 0 vs m = if m = 0 then 0 else 8 := by simp [chkV]
    rw [hr]
    clear hr
    by_cases h : m = 0
    · subst h
      rw [if_pos rfl]
      refine agox ?_; (try with_reducible exact True.intro)
    · rw [if_neg h]
      have h1 : (m : Int) > 0 := by omega
      clear h
      refine agox ?_; (try with_reducible exact True.intro)
  have h01 : ((n : Int) == 0) = false := by simpa using h0
  by_cases hd : (doR e ⟨zs, ad, k, F8, F8⟩ fr ops n).1 = 0
  · have hd1 : decide ((doR e ⟨zs, ad, k, F8, F8⟩ fr ops n).1 = 0) = true := decide_eq_true hd
    obtain ⟨N, hN, hok, hend⟩ := first_noO (p := fun j => passB zs ad (paperV e zs ad k ch fr ops) vs j = true) m
    have hC : chkV e zs ad k ch fr ops n vs m = if N = m then (if (m : Int) < k then 8 else 0) else codeJ ad vs N := by
      rcases hend with rfl | ⟨h1, h2⟩
      · simp only [chkV, h0, hd, chkE_all hok]; simp
      · simp only [chkV, h0, hd, chkE_at h1 hok h2]
        rw [if_neg (show ¬ N = m by omega)]
        simp [codeJ_ne]
    rw [hC]
    clear hC hd
    refine agox ?_; (try with_reducible exact True.intro)
    refine StopL.mk (loop_forG [3, 4, 8, 13, 14] [0, 4] N (fun j => ⟨[.dead, .dead, .dead, .d (.row m [.ints .i64 (m * 3) vs]), .ptr 0 0, .dead, .dead, .dead, .d (.v (.int .i64 0)), .dead, .dead, .dead, .dead, .ptr 1 0, .d (.v (.int .i64 (j : Nat))), .dead, .dead, .dead, .dead, .dead, .dead, .dead, .dead, .dead, .dead, .dead, .dead, .dead, .dead, .dead, .dead, .dead, .dead, .dead, .dead, .dead, .dead, .dead, .dead, .dead, .dead, .dead, .dead, .dead, .dead, .dead, .dead, .dead, .dead, .dead, .dead, .dead, .dead, .dead, .dead, .dead, .dead, .dead, .dead, .dead, .dead, .dead, .dead, .dead, .dead, .dead, .dead, .dead, .dead, .dead, .dead, .dead, .dead, .dead, .dead, .dead, .dead, .dead, .dead, .dead, .dead, .dead, .dead, .dead, .dead, .dead, .dead, .dead, .dead, .dead, .dead, .dead], [some (.var (vSegs e zs ad k ch)), some (.var [.bytes 32 (paperV e zs ad k ch fr ops)])]⟩) ?_)
    intro j hj hl
    by_cases h3 : j < m
    · have h2 : (j : Int) < m := by omega
      have hF := vote_facts hv hj h3 hok hend (if (m : Int) < k then 8 else 0)
      clear hok hend hj
      cases j with
      | zero =>
        have h2a : List.take 2 (List.drop 1 vs) = [vs.getD 1 0, vs.getD 2 0] := two_at (j := 0) hv h3
        simp only [Nat.zero_mul, Nat.zero_add, h2a, List.getD_cons_zero, List.getD_cons_succ] at hF
        rcases hF with ⟨f1, f2, f3⟩ | ⟨f1, f2, f3, f4, f5, f6⟩ | ⟨f1, f2, f3, f4, f5, f6, f7⟩ | ⟨f1, f2, f3, f4, f5, f6⟩
        · rw [f3]
          clear f3
          refine agox ?_; (try with_reducible exact True.intro)
        · exact absurd f2 (by simp only [lastJ] at f4; omega)
        · rw [f7]
          clear f7 f4
          refine agox ?_; (try with_reducible exact True.intro)
          rw [h2a]
          clear h2a
          refine agox ?_; (try with_reducible exact True.intro)
        · clear f4
          refine agox ?_; (try with_reducible exact True.intro)
          rw [h2a]
          clear h2a
          refine agox ?_; (try with_reducible exact True.intro)
          refine hl.go f6 [3, 4, 8, 13, 14] [0, 1] ?_
          rfl
      | succ i =>
        have hi : (((i + 1 : Nat) : Int) - 1).toNat = i := by omega
        have eL : lastJ vs (i + 1) = vs.getD ((((i + 1 : Nat) : Int) - 1).toNat * 3) 0 := by rw [hi, lastJ]
        rw [eL] at hF
        have h2a : List.take 2 (List.drop ((i + 1) * 3 + 1) vs) = [vs.getD ((i + 1) * 3 + 1) 0, vs.getD ((i + 1) * 3 + 2) 0] := two_at (j := i + 1) hv h3
        simp only [h2a, List.getD_cons_zero, List.getD_cons_succ] at hF
        clear eL hi
        rcases hF with ⟨f1, f2, f3⟩ | ⟨f1, f2, f3, f4, f5, f6⟩ | ⟨f1, f2, f3, f4, f5, f6, f7⟩ | ⟨f1, f2, f3, f4, f5, f6⟩
        · rw [f3]
          clear f3
          refine agox ?_; (try with_reducible exact True.intro)
        · rw [f6]
          clear f6
          refine agox ?_; (try with_reducible exact True.intro)
        · rw [f7]
          clear f7
          refine agox ?_; (try with_reducible exact True.intro)
          rw [h2a]
          clear h2a
          refine agox ?_; (try with_reducible exact True.intro)
        · refine agox ?_; (try with_reducible exact True.intro)
          rw [h2a]
          clear h2a
          refine agox ?_; (try with_reducible exact True.intro)
          refine hl.go f6 [3, 4, 8, 13, 14] [0, 1] ?_
          rfl
    · have h4 : ¬ (j : Int) < m := by omega
      rw [if_pos (show N = m by omega)]
      clear hok hend hl
      by_cases hk : (m : Int) < k
      · rw [if_pos hk]
        refine agox ?_; (try with_reducible exact True.intro)
      · rw [if_neg hk]
        refine agox ?_; (try with_reducible exact True.intro)
  · have hd1 : decide ((doR e ⟨zs, ad, k, F8, F8⟩ fr ops n).1 = 0) = false := decide_eq_false hd
    have hr : chkV e zs ad k ch fr ops n vs m = (doR e ⟨zs, ad, k, F8, F8⟩ fr ops n).1 := by simp [chkV, h0, hd]
    have hd2 : ((doR e ⟨zs, ad, k, F8, F8⟩ fr ops n).1 != 0) = true := by simpa using hd
    rw [hr]
    clear hr hd h0
    refine agox ?_; (try with_reducible exact True.intro)
end Go.Proofs.YtmaaknolbmdekaaGreatDoor

/-
  Commits: whether one may be, the other program.
-/
namespace Go.Proofs.YtmaaknolbmdekaaGreatDoor
set_option maxRecDepth 100000
open Go.RowKit Pm
set_option linter.unusedVariables false
set_option linter.unusedSimpArgs false
attribute [local irreducible] condK LoopA regA numB numsB boxB anyP idxP mayB bodyB
def inS : List A → (Res → Prop) → Prop
  | [.v (.int .i64 n), .v (.int .i64 a), .v (.int .i64 m)], K => a = 0 ∧ K (.d (.v (.bool (withinB n m))))
  | _, _ => False
attribute [local irreducible] withinB
attribute [local irreducible] sigB
theorem oddOp5 {o : List Int} (h : o.length = 5) : oddOpB o = !(withinB (o.getD 0 0) 1099511627776 && (withinB (o.getD 1 0) 1099511627776 && (withinB (o.getD 2 0) 1099511627776 && (withinB (o.getD 3 0) 1099511627776 && withinB (o.getD 4 0) 1099511627776)))) := by
  rcases o with _ | ⟨a, _ | ⟨b, _ | ⟨c, _ | ⟨d, _ | ⟨e, _ | ⟨f, l⟩⟩⟩⟩⟩⟩ <;> first | (simp at h; done) | skip
  simp only [oddOpB, List.any_cons, List.any_nil, List.getD_cons_zero, List.getD_cons_succ, Bool.not_and, Bool.or_false]
attribute [local irreducible] oddOpB
def opsMayB (zs : List Int) (n : Nat) : Bool := !anyP (fun i => oddOpB (atK 5 zs i)) n && decide ((n : Int) ≤ 4)
theorem anyP_no {p : Nat → Bool} {n : Nat} (h : ∀ j, j < n → p j = false) : anyP p n = false := by
  cases e : anyP p n with
  | false => rfl
  | true => obtain ⟨j, h1, h2⟩ := (anyP_iff p n).1 e; rw [h j h1] at h2; cases h2
theorem anyP_at {p : Nat → Bool} {n N : Nat} (h1 : N < n) (h2 : p N = true) : anyP p n = true := (anyP_iff p n).2 ⟨N, h1, h2⟩
theorem first_A (p : Nat → Bool) (n : Nat) : ∃ N, N ≤ n ∧ (∀ j, j < N → p j = false) ∧ (N = n ∧ anyP p n = false ∨ N < n ∧ p N = true ∧ anyP p n = true) := by
  obtain ⟨N, h1, h2, h3⟩ := first_P p n
  refine ⟨N, h1, h2, ?_⟩
  rcases h3 with ⟨h3, _⟩ | ⟨h3, h4, _⟩
  · exact .inl ⟨h3, anyP_no (h3 ▸ h2)⟩
  · exact .inr ⟨h3, h4, anyP_at h3 h4⟩
def opsMayS : List A → (Res → Prop) → Prop
  | [.row n [.ints .i64 m zs]], K => m = n * 5 ∧ n ≤ 3000 ∧ zs.length = n * 5 ∧ K (.d (.v (.bool (opsMayB zs n))))
  | _, _ => False
attribute [local irreducible] opsMayB
theorem mayB_alt (c : CS) : mayB c = (!anyP (fun i => oddVoteB (atK 3 c.vs i)) c.m && (!anyP (fun i => decide (((c.bx i).length : Int) > 300)) c.k && (withinB c.sl 2147483579 && (withinB c.p0 2147483579 && (withinB c.p1 2147483579 && (withinB c.p2 2147483579 && (withinB c.e 1099511627776 && (withinB c.fr 7 && (opsMayB c.ops c.n && (decide ((c.m : Int) ≤ 8) && (decide ((c.k : Int) ≤ 16) && sigB c.sE c.sS))))))))))) := by
  unfold mayB opsMayB
  simp only [Bool.and_assoc]
  ac_rfl
theorem oddVote3 (o : List Int) : oddVoteB o = !(withinB (o.getD 0 0) 7 && sigB (o.getD 1 0) (o.getD 2 0)) := by
  unfold oddVoteB; rw [Bool.not_and]
attribute [local irreducible] oddVoteB
theorem atK_getD (zs : List Int) (j : Nat) {K i : Nat} (h : i < K) : (atK K zs j).getD i 0 = zs.getD (j * K + i) 0 := by
  simp only [atK, List.getD_eq_getElem?_getD, List.getElem?_take, h, if_true, List.getElem?_drop]
theorem voteAt (zs : List Int) (j : Nat) : oddVoteB (atK 3 zs j) = !(withinB (zs.getD (j * 3) 0) 7 && sigB ((List.take 2 (List.drop (j * 3 + 1) zs)).getD 0 0) ((List.take 2 (List.drop (j * 3 + 1) zs)).getD 1 0)) := by
  have e1 : (List.take 2 (List.drop (j * 3 + 1) zs)).getD 0 0 = zs.getD (j * 3 + 1) 0 := by
    simp [List.getD_eq_getElem?_getD, List.getElem?_take, List.getElem?_drop]
  have e2 : (List.take 2 (List.drop (j * 3 + 1) zs)).getD 1 0 = zs.getD (j * 3 + 2) 0 := by
    simp [List.getD_eq_getElem?_getD, List.getElem?_take, List.getElem?_drop]
  rw [oddVote3, atK_getD _ _ (by omega), atK_getD _ _ (by omega), atK_getD _ _ (by omega), e1, e2]; rfl
end Go.Proofs.YtmaaknolbmdekaaGreatDoor

/-
  Commits as bytes, the other program.
-/
namespace Go.Proofs.YtmaaknolbmdekaaGreatDoor
set_option maxRecDepth 100000
open Go.RowKit Pm
set_option linter.unusedVariables false
set_option linter.unusedSimpArgs false
attribute [local irreducible] condK LoopA regA numB numsB boxB anyP idxP mayB withinB sigB oddOpB oddVoteB
theorem numsB_three' (zs : List Int) {i : Nat} (h : i + 3 ≤ zs.length) : numsB (zs.take (i + 3)) = numsB (zs.take i) ++ numsB [zs.getD i 0, zs.getD (i + 1) 0, zs.getD (i + 2) 0] := by
  rw [numsB_three zs h]
  simp [List.getD_eq_getElem?_getD, List.getElem?_take, List.getElem?_drop]
set_option maxHeartbeats 8000000 in
theorem rbody_ok (c : CS) (hc : CSok c) : FnO 39 [.agg (cSegs c)] (.o 5 1 (bodyN c) [.bytes (bodyN c) (bodyB c)]) := by
  refine fnA (E := envC4) Tryz.func39 Tryz.ntmps39 ?_
  obtain ⟨h1, h2, h3, h4, h5, h6⟩ := hc
  refine agow ?_; (try with_reducible exact True.intro)
  generalize hp : ptsOf _ _ _ = o
  obtain rfl : o = some [.own 3 24, .own 4 (c.n * 40), .own 6 8] := hp.symm.trans (ptsOf_cons rfl (ptOf_own rfl rfl) (ptsOf_cons rfl (ptOf_own rfl rfl) (ptsOf_cons rfl (ptOf_own rfl rfl) ptsOf_nil)))
  clear hp
  have g1 : (numsB [c.e, c.fr, (c.n : Int)]).length = 24 := numsB_length _
  have g2 : (numsB c.ops).length = c.n * 40 := by rw [numsB_length, h4]; omega
  have g3 : (numB (c.m : Int)).length = 8 := numB_length _
  refine agow ?_; (try with_reducible exact True.intro)
  have k1 : (numsB [c.e, c.fr, (c.n : Int)] ++ (numsB c.ops ++ numB (c.m : Int))).length = 24 + c.n * 40 + 8 := by
    rw [List.length_append, List.length_append, g1, g2, g3]; omega
  have k2 : numsB [c.e, c.fr, (c.n : Int)] ++ (numsB c.ops ++ numB (c.m : Int)) = bodyHead c := by
    unfold bodyHead; rw [numsB_one, List.append_assoc]
  rw [k1, k2]
  clear k1 k2 g1 g2 g3
  refine StopL.mk (loop_forG [1, 3, 4] [0, 8] c.m (fun j => ⟨[.dead, .ptr 0 0, .dead, .own 1 (24 + c.n * 40 + 8 + j * 24), .d (.v (.int .i64 (j : Nat))), .dead, .dead, .dead, .dead, .dead, .dead, .dead, .dead, .dead, .dead, .dead, .dead, .dead, .dead, .dead, .dead, .dead, .dead, .dead, .dead, .dead, .dead, .dead, .dead, .dead, .dead, .dead, .dead, .dead, .dead, .dead, .dead, .dead, .dead, .dead, .dead, .dead, .dead, .dead, .dead, .dead, .dead, .dead, .dead, .dead, .dead, .dead, .dead, .dead, .dead, .dead, .dead, .dead, .dead, .dead, .dead, .dead, .dead, .dead, .dead, .dead, .dead, .dead, .dead, .dead, .dead, .dead, .dead, .dead, .dead, .dead, .dead, .dead, .dead, .dead, .dead, .dead, .dead, .dead, .dead, .dead, .dead, .dead, .dead, .dead, .dead, .dead, .dead, .dead, .dead, .dead], [some (.var (cSegs c)), some (.sl 5 1 (24 + c.n * 40 + 8 + j * 24) [.bytes (24 + c.n * 40 + 8 + j * 24) (bodyHead c ++ numsB (c.vs.take (j * 3)))])]⟩) ?_ (h2 := by simp only [Nat.zero_mul, List.take_zero, numsB_nil, List.append_nil, Nat.add_zero]; exact rfl))
  intro j hj hl
  by_cases hjm : j < c.m
  · have g1 : (j : Int) < (c.m : Int) := by omega
    refine agow ?_; (try with_reducible exact True.intro)
    refine hl.go hjm [1, 3, 4] [0, 1] ?_
    rw [show (j + 1) * 3 = j * 3 + 3 by omega, numsB_three' c.vs (by omega), show (j + 1) * 24 = j * 24 + 24 by omega, ← List.append_assoc, ← Nat.add_assoc]
    rfl
  · obtain rfl : j = c.m := by omega
    have g1 : ¬ (c.m : Int) < (c.m : Int) := by omega
    rw [show c.vs.take (c.m * 3) = c.vs from List.take_of_length_le (by omega)]
    refine agow ?_; (try with_reducible exact True.intro)
    refine StopL.mk (loop_forG [1, 3, 5] [0, 1] c.k (fun j => ⟨[.dead, .ptr 0 0, .dead, .own 1 (24 + c.n * 40 + 8 + c.m * 24 + 40 + bxN c.bx j), .dead, .d (.v (.int .i64 (j : Nat))), .dead, .dead, .dead, .dead, .dead, .dead, .dead, .dead, .dead, .dead, .dead, .dead, .dead, .dead, .dead, .dead, .dead, .dead, .dead, .dead, .dead, .dead, .dead, .dead, .dead, .dead, .dead, .dead, .dead, .dead, .dead, .dead, .dead, .dead, .dead, .dead, .dead, .dead, .dead, .dead, .dead, .dead, .dead, .dead, .dead, .dead, .dead, .dead, .dead, .dead, .dead, .dead, .dead, .dead, .dead, .dead, .dead, .dead, .dead, .dead, .dead, .dead, .dead, .dead, .dead, .dead, .dead, .dead, .dead, .dead, .dead, .dead, .dead, .dead, .dead, .dead, .dead, .dead, .dead, .dead, .dead, .dead, .dead, .dead, .dead, .dead, .dead, .dead, .dead, .dead], [some (.var (cSegs c)), some (.sl 5 1 (24 + c.n * 40 + 8 + c.m * 24 + 40 + bxN c.bx j) [.bytes (24 + c.n * 40 + 8 + c.m * 24 + 40 + bxN c.bx j) (bodyMid c ++ bxB c.bx j)])]⟩) ?_ (h2 := by simp only [bxN, bxB, List.append_nil, Nat.add_zero]; exact rfl))
    intro i hi hl2
    by_cases hik : i < c.k
    · have g2 : (i : Int) < (c.k : Int) := by omega
      have g3 := h6 i hik
      have g4 : (c.bx i).length ≤ 1000000 := by omega
      have g5 : bxN c.bx i ≤ 18030000 := by have := bxN_le (bx := c.bx) (k := i) (fun j hj => h6 j (by omega)); omega
      refine agow ?_; (try with_reducible exact True.intro)
      refine hl2.go hik [1, 3, 5] [0, 1] ?_
      have e1 : 24 + c.n * 40 + 8 + c.m * 24 + 40 + bxN c.bx (i + 1) = 24 + c.n * 40 + 8 + c.m * 24 + 40 + bxN c.bx i + 8 + (c.bx i).length := by
        show _ + (bxN c.bx i + (8 + (c.bx i).length)) = _
        omega
      have e2 : bodyMid c ++ bxB c.bx (i + 1) = ((bodyMid c ++ bxB c.bx i) ++ numB ((c.bx i).length : Int)) ++ c.bx i := by
        show bodyMid c ++ (bxB c.bx i ++ boxB (c.bx i)) = _
        rw [boxB, numsB_one]; simp only [List.append_assoc]
      rw [e1, e2]
      rfl
    · obtain rfl : i = c.k := by omega
      have g2 : ¬ (c.k : Int) < (c.k : Int) := by omega
      refine agow ?_; (try with_reducible exact True.intro)
      rfl
attribute [local irreducible] bodyB
end Go.Proofs.YtmaaknolbmdekaaGreatDoor
