/-
  Views: what some view holds, and that it may be.
-/
import Derived.Test.YtpemaphgmfaioaaGreatU2
namespace Go.Proofs.YtpemaphgmfaioaaGreat
set_option maxRecDepth 100000
open Go.RowKit Pm
set_option linter.unusedVariables false
set_option linter.unusedSimpArgs false
attribute [local irreducible] condK LoopA regA powI scal keyV someZ someA

theorem someZ_zero : someZ 0 = List.replicate 31 0 := by rw [someZ]
theorem someZ_succ (i : Nat) : someZ (i + 1) = (someZ i).take (i * 2) ++ ([keyV (i : Nat), keyV ((i : Nat) + 20)] ++ (someZ i).drop (i * 2 + 2)) := by rw [someZ]
theorem someA_zero (a : Int) : someA a 0 = List.replicate 8 false := by rw [someA]
theorem someA_succ (a : Int) (i : Nat) : someA a (i + 1) = (someA a i).set i (decide ((i : Int) < a)) := by rw [someA]
theorem rep_get (n i : Nat) : (List.replicate n (0 : Int)).getD i 0 = 0 := by
  rw [List.getD_eq_getElem?_getD, List.getElem?_replicate]
  split <;> simp
theorem rep_getB (n i : Nat) : (List.replicate n false).getD i false = false := by
  rw [List.getD_eq_getElem?_getD, List.getElem?_replicate]
  split <;> simp
set_option maxHeartbeats 100000 in
/-- the leaves of such a view -/
theorem someZ_at (m n : Nat) (h : n ≤ 8) : (someZ (n + 1)).getD m 0 = if n * 2 ≤ m ∧ m < n * 2 + 2 then [keyV (n : Nat), keyV ((n : Nat) + 20)].getD (m - n * 2) 0 else (someZ n).getD m 0 := by
  rw [someZ_succ]
  exact splice_get (xs := [keyV (n : Nat), keyV ((n : Nat) + 20)]) (by simp) (by rw [someZ_len n h]; omega) m
set_option maxHeartbeats 100000 in
theorem someZ_get (i : Nat) (hi : i < 8) : ∀ n, n ≤ 8 → (someZ n).getD (i * 2) 0 = if i < n then keyV (i : Nat) else 0
  | 0, _ => by
    rw [if_neg (by omega), someZ_zero, rep_get]
  | n + 1, hn => by
    rw [someZ_at _ _ (by omega)]
    by_cases e : i = n
    · subst e
      rw [if_pos ⟨Nat.le_refl _, by omega⟩, if_pos (by omega), Nat.sub_self, List.getD_cons_zero]
    · rw [if_neg (by omega), someZ_get i hi n (by omega)]
      by_cases h : i < n
      · rw [if_pos h, if_pos (by omega)]
      · rw [if_neg h, if_neg (by omega)]
set_option maxHeartbeats 100000 in
theorem someZ_get1 (i : Nat) (hi : i < 8) : ∀ n, n ≤ 8 → (someZ n).getD (i * 2 + 1) 0 = if i < n then keyV ((i : Nat) + 20) else 0
  | 0, _ => by
    rw [if_neg (by omega), someZ_zero, rep_get]
  | n + 1, hn => by
    rw [someZ_at _ _ (by omega)]
    by_cases e : i = n
    · subst e
      rw [if_pos ⟨by omega, by omega⟩, if_pos (by omega), show i * 2 + 1 - i * 2 = 0 + 1 by omega, List.getD_cons_succ, List.getD_cons_zero]
    · rw [if_neg (by omega), someZ_get1 i hi n (by omega)]
      by_cases h : i < n
      · rw [if_pos h, if_pos (by omega)]
      · rw [if_neg h, if_neg (by omega)]
set_option maxHeartbeats 100000 in
theorem someZ_node (i : Nat) : ∀ n, n ≤ 8 → (someZ n).getD (16 + i) 0 = 0
  | 0, _ => by
    rw [someZ_zero, rep_get]
  | n + 1, hn => by
    rw [someZ_at _ _ (by omega), if_neg (by omega), someZ_node i n (by omega)]
set_option maxHeartbeats 100000 in
theorem someA_get (a : Int) (i : Nat) (hi : i < 8) : ∀ n, n ≤ 8 → (someA a n).getD i false = (decide (i < n) && decide ((i : Int) < a))
  | 0, _ => by
    rw [someA_zero, rep_getB]; simp
  | n + 1, hn => by
    rw [someA_succ, getD_setB, someA_len, someA_get a i hi n (by omega)]
    by_cases e : n = i
    · subst e
      rw [if_pos ⟨rfl, hi⟩, decide_eq_true (show n < n + 1 by omega), Bool.true_and]
    · rw [if_neg (by omega), show decide (i < n) = decide (i < n + 1) from decide_eq_decide.2 (by omega)]
set_option maxHeartbeats 400000 in
theorem someZ_leaf (j n : Nat) (hj : j < 8) (hn : n ≤ 8) : leafP (someZ n) j = if j < n then [keyV (j : Nat), keyV ((j : Nat) + 20)] else [0, 0] := by
  rw [leafP_two (by rw [someZ_len n hn]; omega) hj, someZ_get j hj n hn, someZ_get1 j hj n hn]
  split <;> rfl
theorem someZ_mem (j n : Nat) (hj : j < 8) (hn : n ≤ 8) : memL (someZ n) j = decide (j < n) := by
  unfold memL
  rw [someZ_leaf j n hj hn]
  refine decide_eq_decide.2 ?_
  split
  · next h => exact ⟨fun _ => h, fun _ e => isI_ne (keyV_isI _) (List.cons.inj e).1⟩
  · next h => exact ⟨fun e => absurd rfl e, fun h2 => absurd h2 h⟩
theorem someZ_isT (n : Nat) (hn : n ≤ 8) : isT (someZ n) = true := by
  unfold isT
  rw [Bool.and_eq_true, List.all_eq_true, List.all_eq_true]
  constructor
  · intro j hj
    have hj' : j < 8 := by simpa using hj
    unfold leafOK
    rw [someZ_leaf j n hj' hn]
    split
    · rw [List.getD_cons_zero, List.getD_cons_succ, List.getD_cons_zero, keyV_isI, keyV_isI]; simp
    · simp
  · intro j hj
    have hj' : j < 15 := by simpa using hj
    unfold nodeOK
    have : nodeV (someZ n) j = 0 := by
      have h := someZ_node j n hn
      unfold nodeV
      rw [List.getD_eq_getElem?_getD, List.getElem?_take, if_pos hj', List.getElem?_drop, ← List.getD_eq_getElem?_getD]
      exact h
    rw [this]; simp
theorem someA_map (a : Int) (n : Nat) (hn : n ≤ 8) : someA a n = (List.range 8).map fun i => decide (i < n) && decide (i < (min (max a 0) 8).toNat) := by
  refine List.ext_getElem (by rw [someA_len]; simp) fun i h1 h2 => ?_
  have hi : i < 8 := by rw [someA_len] at h1; exact h1
  have h := someA_get a i hi n hn
  rw [List.getD_eq_getElem?_getD, List.getElem?_eq_getElem h1] at h
  rw [List.getElem_map, List.getElem_range]
  have e : decide ((i : Int) < a) = decide (i < (min (max a 0) 8).toNat) := decide_eq_decide.2 (by omega)
  rw [← e]
  simpa using h
theorem cnt_some : ∀ n < 9, ∀ b < 9, cntB ((List.range 8).map fun i => decide (i < n) && decide (i < b)) = min n b := by decide +kernel
theorem someA_cnt (a : Int) (n : Nat) (hn : n ≤ 8) : cntB (someA a n) = min n (min (max a 0) 8).toNat := by
  rw [someA_map a n hn]
  exact cnt_some n (by omega) _ (by omega)
theorem some_may (n : Nat) (hn : n ≤ 8) (a k : Int) : mayV 0 (someZ n) (someA a n) k = (decide (1 ≤ k) && decide (k ≤ (min n (min (max a 0) 8).toNat : Nat))) := by
  unfold mayV
  have ha : admTo (someZ n) (someA a n) 8 = true := (admTo_iff _ _).2 fun i hi h => by
    rw [someA_get a i hi n hn] at h
    rw [someZ_mem i n hi hn]
    simp only [Bool.and_eq_true] at h
    exact h.1
  rw [someZ_isT n hn, ha, someA_cnt a n hn]
  simp
end Go.Proofs.YtpemaphgmfaioaaGreat
