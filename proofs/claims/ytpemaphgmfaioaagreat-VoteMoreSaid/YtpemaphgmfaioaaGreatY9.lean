/-
  The machine without memory: what a whnf alone doesn't decide. No program is named here.
-/
import Derived.Test.YtpemaphgmfaioaaGreatHA2
namespace Go.Proofs.YtpemaphgmfaioaaGreat
set_option maxRecDepth 100000
open Go.RowKit
set_option linter.unusedVariables false
set_option linter.unusedSimpArgs false

theorem ptOf_own {s : St} {b n m : Nat} {e : TypeId} {z : Nat} {l : List Seg} (h : s.bk b = some (.sl e z m l)) (hn : n = m) : ptOf s (.own b n) = some (.own b n) := by
  subst hn; unfold ptOf; simp only [h, if_true]
theorem ptsOf_cons {s : St} {x : Operand} {r : List (Nat × Operand)} {k : Nat} {t : T} {p : Pt} {l : List Pt} (h1 : s.ev x = t) (h2 : ptOf s t = some p) (h3 : ptsOf s r (k + 1) = some l) : ptsOf s ((k, x) :: r) k = some (p :: l) := by
  rw [ptsOf, if_pos rfl, h1, h2, h3]
theorem ptsOf_nil {s : St} {k : Nat} : ptsOf s [] k = some [] := rfl
theorem agox {p q : Prop} (left : q) (h : (Left q → p) ∧ Isq q := by
    refine And.intro ?_ ?_
    · intro left_is
      (conv => whnf); repeat ((first | ((first | refine toA ?_ | refine toE ?_ | refine toD ?_); (try (conv => arg 2; simp (disch := omega) only [wrapS, Int.toNat_natCast, Seg.n, wn1, wn2, wn3, wn4, wn5, wn6, wn7, wn8, wn9, wn10, wn11, wn12, wn13, wn14, wn15, wn16, Int.reduceAdd, Int.zero_add, Seg.cell, Seg.sub, List.set_nil, isAlloc, trimH, List.take_append_drop, St.app, St.app2, St.ev, List.getD_cons_zero, List.getD_cons_succ, List.getD_nil, St.sl, St.bk, tiInt, tiBool, tiSl, tiArr, tiStruct, weaken, keepT, List.set_cons_zero, List.set_cons_succ, List.length_cons, List.length_nil, List.cons_append, List.nil_append, List.append_nil, List.map_cons, List.map_nil, List.replicate_succ, List.replicate_zero, List.take_succ_cons, List.take_zero, List.drop_succ_cons, List.drop_zero, List.take_nil, List.drop_nil, Nat.reduceAdd, Nat.reduceSub, Nat.reduceMul, Nat.reduceEqDiff, Nat.reduceLT, Nat.reduceLeDiff, Nat.zero_add, Nat.add_zero, Nat.sub_self, Nat.sub_zero, Nat.one_mul, Nat.mul_one, Nat.zero_mul, joinS, manyS, List.flatten_cons, List.flatten_nil, eq_self, ite_true, if_true, if_false, ↓reduceIte, reduceCtorEq, Int.reduceToNat, cntAlloc, opRefs])); first | (refine ofA ?_; (conv => arg 3; whnf); first | refine regA_cons ?_ | refine regA_nil ?_) | (refine ofD ?_; (conv => arg 5; whnf); first | refine regD_cons ?_ | refine regD_nil ?_) | (refine ofE ?_; (conv => arg 2; whnf); (refine regDr_intro _ rfl ?_ ?_); focus (kernel_rfl))) | (refine StopC.mk ?_; first | (refine condK_is ?_ ?_; focus (first | rfl | assumption | (simp only [bne, Bool.true_beq, Bool.false_beq, beq_true, beq_false, Bool.not_true, Bool.not_false, Bool.true_and, Bool.and_true, Bool.false_and, Bool.and_false, Bool.true_or, Bool.or_true, Bool.false_or, Bool.or_false, beq_iff_eq, beq_eq_false_iff_ne, ne_eq, Bool.not_eq_true', Bool.not_eq_false', decide_eq_true_eq, decide_eq_false_iff_not, ge_iff_le, gt_iff_lt, *] <;> omega) | (simp [eqSegs, *] <;> omega))) | (refine condK_isnt ?_ ?_; focus (first | rfl | assumption | (simp only [bne, Bool.true_beq, Bool.false_beq, beq_true, beq_false, Bool.not_true, Bool.not_false, Bool.true_and, Bool.and_true, Bool.false_and, Bool.and_false, Bool.true_or, Bool.or_true, Bool.false_or, Bool.or_false, beq_iff_eq, beq_eq_false_iff_ne, ne_eq, Bool.not_eq_true', Bool.not_eq_false', decide_eq_true_eq, decide_eq_false_iff_not, ge_iff_le, gt_iff_lt, *] <;> omega) | (simp [eqSegs, *] <;> omega)))) | (refine And.intro ?_ ?_; focus (first | exact rfl | exact Nat.le_of_ble_eq_true rfl | exact Or.inr rfl | exact Or.inl rfl | (intro hx; cases hx <;> fail) | (intro _; rfl) | exact ⟨_, rfl, rfl⟩ | omega | (simp only [Seg.n, segN, tiByte, tiPtr, tiInt, tiBool, tiSl, tiArr, tiStruct]; omega) | (refine leLe ?_; (try simp only [Seg.n, segN, tiByte, tiPtr, tiInt, tiBool, tiSl, tiArr, tiStruct]); omega) | assumption | decide | (simp [Seg.n, segN, tiByte, tiPtr, tiInt, tiBool, tiSl, tiArr, tiStruct, *] <;> omega))) | (refine Exists.intro _ (And.intro rfl ?_))); (conv => whnf))
      all_goals exact left_is.out
    · first | with_reducible exact isqT | exact isqA) : p := h.1 ⟨left⟩
end Go.Proofs.YtpemaphgmfaioaaGreat
