/-
  Trees: a tree with a key that is none may not be.
-/
import Derived.Test.YtmddonmjigkjoaaDoorT8
namespace Go.Proofs.YtmddonmjigkjoaaDoor
set_option maxRecDepth 100000
open Go.RowKit Pm
set_option linter.unusedVariables false
set_option linter.unusedSimpArgs false
attribute [local irreducible] condK LoopA regA

def isTS : List A → (Res → Prop) → Prop
  | [.agg [.ints .i64 31 zs]], K => K (.d (.v (.bool (isT zs))))
  | _, _ => False
theorem isTS_ok {f : FuncId} (hx : ∀ zs, FnO f [.agg [.ints .i64 31 zs]] (.d (.v (.bool (isT zs))))) : ∀ args K, isTS args K → ∃ r, FnO f args r ∧ K r := by
  intro args K h
  unfold isTS at h
  split at h
  · exact ⟨_, hx _, h⟩
  · exact h.elim
noncomputable def env8 : EnvX := env7

theorem i4 : isI 4 = true := by
  have h := isI_four 1 (by decide) (by decide)
  have e : ((pw 4 1 : Nat) : Int) = 4 := by rw [pw_def]; rfl
  rw [e] at h; exact h
theorem i0 : isI 0 = false := by simp [isI]
theorem isT_eq (zs : List Int) : isT zs = ((leafOK zs 0 && (leafOK zs 1 && (leafOK zs 2 && (leafOK zs 3 && (leafOK zs 4 && (leafOK zs 5 && (leafOK zs 6 && (leafOK zs 7 && true)))))))) &&
    (nodeOK zs 0 && (nodeOK zs 1 && (nodeOK zs 2 && (nodeOK zs 3 && (nodeOK zs 4 && (nodeOK zs 5 && (nodeOK zs 6 && (nodeOK zs 7 && (nodeOK zs 8 && (nodeOK zs 9 && (nodeOK zs 10 && (nodeOK zs 11 && (nodeOK zs 12 && (nodeOK zs 13 && (nodeOK zs 14 && true)))))))))))))))) := rfl
theorem leafOK_of {zs : List Int} {k : Nat} {a b : Int} (h : leafP zs k = [a, b]) : leafOK zs k = (decide (a = 0 ∧ b = 0) || (isI a && isI b)) := by unfold leafOK; rw [h]; simp
theorem nodeOK_of {zs : List Int} {k : Nat} {a : Int} (h : nodeV zs k = a) : nodeOK zs k = (decide (a = 0) || (!((k : Int).tmod 2 == 0) && isI a)) := by unfold nodeOK; rw [h]
theorem eights9 {x : Int} (h : 0 ≤ x ∧ x < 8) : x = 0 ∨ x = 1 ∨ x = 2 ∨ x = 3 ∨ x = 4 ∨ x = 5 ∨ x = 6 ∨ x = 7 := by omega
theorem fifteen9 {x : Int} (h : 0 ≤ x ∧ x < 15) : x = 0 ∨ x = 1 ∨ x = 2 ∨ x = 3 ∨ x = 4 ∨ x = 5 ∨ x = 6 ∨ x = 7 ∨ x = 8 ∨ x = 9 ∨ x = 10 ∨ x = 11 ∨ x = 12 ∨ x = 13 ∨ x = 14 := by omega
theorem isT_zero : isT [0, 0, 0, 0, 0, 0, 0, 0, 0, 0, 0, 0, 0, 0, 0, 0, 0, 0, 0, 0, 0, 0, 0, 0, 0, 0, 0, 0, 0, 0, 0] = true := by
  rw [isT_eq]; rfl
set_option maxHeartbeats 4000000 in
theorem may_a {i : Int} (hi : 0 ≤ i ∧ i < 8) (y : Int) : isT (List.take (i.toNat * 2) [0, 0, 0, 0, 0, 0, 0, 0, 0, 0, 0, 0, 0, 0, 0, 0, 0, 0, 0, 0, 0, 0, 0, 0, 0, 0, 0, 0, 0, 0, 0] ++ 4 :: y :: List.drop (i.toNat * 2) [0, 0, 0, 0, 0, 0, 0, 0, 0, 0, 0, 0, 0, 0, 0, 0, 0, 0, 0, 0, 0, 0, 0, 0, 0, 0, 0, 0, 0]) = isI y := by
  rcases eights9 hi with rfl | rfl | rfl | rfl | rfl | rfl | rfl | rfl <;> (simp [isT_eq, leafOK, leafP, nodeOK, nodeV, i4])
set_option maxHeartbeats 4000000 in
theorem may_b {i : Int} (hi : 0 ≤ i ∧ i < 8) (y : Int) : isT (List.take (i.toNat * 2) [0, 0, 0, 0, 0, 0, 0, 0, 0, 0, 0, 0, 0, 0, 0, 0, 0, 0, 0, 0, 0, 0, 0, 0, 0, 0, 0, 0, 0, 0, 0] ++ y :: 4 :: List.drop (i.toNat * 2) [0, 0, 0, 0, 0, 0, 0, 0, 0, 0, 0, 0, 0, 0, 0, 0, 0, 0, 0, 0, 0, 0, 0, 0, 0, 0, 0, 0, 0]) = isI y := by
  rcases eights9 hi with rfl | rfl | rfl | rfl | rfl | rfl | rfl | rfl <;> (simp [isT_eq, leafOK, leafP, nodeOK, nodeV, i4])
set_option maxHeartbeats 4000000 in
theorem may_c {n : Int} (hn : 0 ≤ n ∧ n < 15) (y : Int) : isT ([0, 0, 0, 0, 0, 0, 0, 0, 0, 0, 0, 0, 0, 0, 0, 0, 0, 0, 0, 0, 0, 0, 0, 0, 0, 0, 0, 0, 0, 0, 0].set (16 + n.toNat) y) = (y == 0 || (isI y && (bits .and .i64 n 1 == 1))) := by
  have hb : (bits .and .i64 n 1 == 1) = decide (n % 2 = 1) := by
    rcases fifteen9 hn with rfl | rfl | rfl | rfl | rfl | rfl | rfl | rfl | rfl | rfl | rfl | rfl | rfl | rfl | rfl <;> rfl
  rw [hb]
  rcases fifteen9 hn with rfl | rfl | rfl | rfl | rfl | rfl | rfl | rfl | rfl | rfl | rfl | rfl | rfl | rfl | rfl <;> (simp [isT_eq, leafOK, leafP, nodeOK, nodeV]; first | done | rfl | (by_cases h : y = 0 <;> simp [h]))
end Go.Proofs.YtmddonmjigkjoaaDoor
