/-
  Approvals: whether they are enough, by the document.
-/
import Derived.Test.YtegjkfaokpjojaaJ29
import Derived.Test.YtegjkfaokpjojaaJ30
namespace Go.Proofs.Ytegjkfaokpjojaa
set_option maxRecDepth 100000
open Go.RowKit Pm
set_option linter.unusedVariables false
set_option linter.unusedSimpArgs false
attribute [local irreducible] condK LoopA regA powI scal isI putL doR mayV numsB viewHV numB deriveW fourB mulI askW nonceW sigE sigS verW paperV admB chkE lastJ

end Go.Proofs.Ytegjkfaokpjojaa

/-
  Commits: whether one may be, the other program.
-/
namespace Go.Proofs.Ytegjkfaokpjojaa
set_option maxRecDepth 100000
open Go.RowKit Pm
set_option linter.unusedVariables false
set_option linter.unusedSimpArgs false
attribute [local irreducible] condK LoopA regA numB numsB boxB anyP idxP mayB bodyB
def inS : List A → (Res → Prop) → Prop
  | [.v (.int .i64 n), .v (.int .i64 a), .v (.int .i64 m)], K => a = 0 ∧ K (.d (.v (.bool (withinB n m))))
  | _, _ => False
attribute [local irreducible] withinB
noncomputable def envCl : EnvX := envCk
attribute [local irreducible] sigB
noncomputable def envCm : EnvX := envCl
theorem oddOp5 {o : List Int} (h : o.length = 5) : oddOpB o = !(withinB (o.getD 0 0) 1099511627776 && (withinB (o.getD 1 0) 1099511627776 && (withinB (o.getD 2 0) 1099511627776 && (withinB (o.getD 3 0) 1099511627776 && withinB (o.getD 4 0) 1099511627776)))) := by
  rcases o with _ | ⟨a, _ | ⟨b, _ | ⟨c, _ | ⟨d, _ | ⟨e, _ | ⟨f, l⟩⟩⟩⟩⟩⟩ <;> first | (simp at h; done) | skip
  simp only [oddOpB, List.any_cons, List.any_nil, List.getD_cons_zero, List.getD_cons_succ, Bool.not_and, Bool.or_false]
attribute [local irreducible] oddOpB
def opsMayB (zs : List Int) (n : Nat) : Bool := !anyP (fun i => oddOpB (atK 5 zs i)) n && decide ((n : Int) ≤ 4)
theorem anyP_no {p : Nat → Bool} {n : Nat} (h : ∀ j, j < n → p j = false) : anyP p n = false := by
  cases e : anyP p n with
  | false => rfl
  | true => obtain ⟨j, h1, h2⟩ := (anyP_iff p n).1 e; rw [h j h1] at h2; cases h2
theorem anyP_at {p : Nat → Bool} {n N : Nat} (h1 : N < n) (h2 : p N = true) : anyP p n = true := (anyP_iff p n).2 ⟨N, h1, h2⟩
theorem first_A (p : Nat → Bool) (n : Nat) : ∃ N, N ≤ n ∧ (∀ j, j < N → p j = false) ∧ (N = n ∧ anyP p n = false ∨ N < n ∧ p N = true ∧ anyP p n = true) := by
  obtain ⟨N, h1, h2, h3⟩ := first_P p n
  refine ⟨N, h1, h2, ?_⟩
  rcases h3 with ⟨h3, _⟩ | ⟨h3, h4, _⟩
  · exact .inl ⟨h3, anyP_no (h3 ▸ h2)⟩
  · exact .inr ⟨h3, h4, anyP_at h3 h4⟩
def opsMayS : List A → (Res → Prop) → Prop
  | [.row n [.ints .i64 m zs]], K => m = n * 5 ∧ n ≤ 3000 ∧ zs.length = n * 5 ∧ K (.d (.v (.bool (opsMayB zs n))))
  | _, _ => False
attribute [local irreducible] opsMayB
noncomputable def envCn : EnvX := envCm
theorem mayB_alt (c : CS) : mayB c = (!anyP (fun i => oddVoteB (atK 3 c.vs i)) c.m && (!anyP (fun i => decide (((c.bx i).length : Int) > 300)) c.k && (withinB c.sl 2147483579 && (withinB c.p0 2147483579 && (withinB c.p1 2147483579 && (withinB c.p2 2147483579 && (withinB c.e 1099511627776 && (withinB c.fr 7 && (opsMayB c.ops c.n && (decide ((c.m : Int) ≤ 8) && (decide ((c.k : Int) ≤ 16) && sigB c.sE c.sS))))))))))) := by
  unfold mayB opsMayB
  simp only [Bool.and_assoc]
  ac_rfl
theorem oddVote3 (o : List Int) : oddVoteB o = !(withinB (o.getD 0 0) 7 && sigB (o.getD 1 0) (o.getD 2 0)) := by
  unfold oddVoteB; rw [Bool.not_and]
attribute [local irreducible] oddVoteB
theorem atK_getD (zs : List Int) (j : Nat) {K i : Nat} (h : i < K) : (atK K zs j).getD i 0 = zs.getD (j * K + i) 0 := by
  simp only [atK, List.getD_eq_getElem?_getD, List.getElem?_take, h, if_true, List.getElem?_drop]
theorem voteAt (zs : List Int) (j : Nat) : oddVoteB (atK 3 zs j) = !(withinB (zs.getD (j * 3) 0) 7 && sigB ((List.take 2 (List.drop (j * 3 + 1) zs)).getD 0 0) ((List.take 2 (List.drop (j * 3 + 1) zs)).getD 1 0)) := by
  have e1 : (List.take 2 (List.drop (j * 3 + 1) zs)).getD 0 0 = zs.getD (j * 3 + 1) 0 := by
    simp [List.getD_eq_getElem?_getD, List.getElem?_take, List.getElem?_drop]
  have e2 : (List.take 2 (List.drop (j * 3 + 1) zs)).getD 1 0 = zs.getD (j * 3 + 2) 0 := by
    simp [List.getD_eq_getElem?_getD, List.getElem?_take, List.getElem?_drop]
  rw [oddVote3, atK_getD _ _ (by omega), atK_getD _ _ (by omega), atK_getD _ _ (by omega), e1, e2]; rfl
noncomputable def envCo : EnvX := envCn
end Go.Proofs.Ytegjkfaokpjojaa

/-
  Commits as bytes, the other program.
-/
namespace Go.Proofs.Ytegjkfaokpjojaa
set_option maxRecDepth 100000
open Go.RowKit Pm
set_option linter.unusedVariables false
set_option linter.unusedSimpArgs false
attribute [local irreducible] condK LoopA regA numB numsB boxB anyP idxP mayB withinB sigB oddOpB oddVoteB
theorem numsB_three' (zs : List Int) {i : Nat} (h : i + 3 ≤ zs.length) : numsB (zs.take (i + 3)) = numsB (zs.take i) ++ numsB [zs.getD i 0, zs.getD (i + 1) 0, zs.getD (i + 2) 0] := by
  rw [numsB_three zs h]
  simp [List.getD_eq_getElem?_getD, List.getElem?_take, List.getElem?_drop]
noncomputable def envCp : EnvX := envCo
attribute [local irreducible] bodyB
noncomputable def envCq : EnvX := envCp
end Go.Proofs.Ytegjkfaokpjojaa
