/-
  Ladders: whom each node of a plan is for. Mathematics; no function is named here.
-/
import Derived.Test.YtegjkfaokpjojaaJ18
import Derived.Test.YtegjkfaokpjojaaJ17
namespace Go.Proofs.Ytegjkfaokpjojaa
set_option maxRecDepth 100000
open Go.RowKit Pm
set_option linter.unusedVariables false
set_option linter.unusedSimpArgs false

/-- how many of these nodes a leaf is under -/
def cuP (l : List (Int × Int)) (i : Nat) : Nat := l.countP fun p => underB p.2 (i : Int)
theorem cuP_step (l : List (Int × Int)) (i k : Nat) (hk : k < l.length) : cuP (l.take (k + 1)) i = cuP (l.take k) i + (if underB (l.getD k (0, 0)).2 (i : Int) = true then 1 else 0) := by
  unfold cuP
  rw [List.take_succ_eq_append_getElem hk, List.countP_append, List.countP_singleton]
  simp [List.getD_eq_getElem?_getD, hk]
theorem cuP_le (l : List (Int × Int)) (i : Nat) : cuP l i ≤ l.length := List.countP_le_length
theorem cuP_pairs (bt : List Bool) (k : Int) (r : List Int) (i : Nat) : cuP (pairsK bt k r) i = (r.filter fun m => !skipB bt m).countP fun m => underB m (i : Int) := by
  unfold cuP pairsK
  rw [List.countP_map]
  rfl
theorem side_under {x i : Nat} (hx : x < 8) (hi : i < 8) (hne : i ≠ x) : (if underB ((sideL x).getD 0 0) i = true then 1 else 0) + (if underB ((sideL x).getD 1 0) i = true then 1 else 0) + (if underB ((sideL x).getD 2 0) i = true then 1 else 0) = 1 ∧
    ∀ k < 3, underB ((sideL x).getD k 0) i = true → (pathT x).getD k 0 = commonI x i := by
  have hx2 : x = 0 ∨ x = 1 ∨ x = 2 ∨ x = 3 ∨ x = 4 ∨ x = 5 ∨ x = 6 ∨ x = 7 := by omega
  have hi2 : i = 0 ∨ i = 1 ∨ i = 2 ∨ i = 3 ∨ i = 4 ∨ i = 5 ∨ i = 6 ∨ i = 7 := by omega
  clear hx hi
  rcases hx2 with rfl | rfl | rfl | rfl | rfl | rfl | rfl | rfl <;> rcases hi2 with rfl | rfl | rfl | rfl | rfl | rfl | rfl | rfl <;> first | exact absurd rfl hne | decide
/-- one place's nodes: at most one, only if the leaf stands beside there; just one if it is a member and not left out -/
theorem part_count (zs : List Int) (bt : List Bool) (k s : Int) {i : Nat} (hi : i < 8) : cuP (pairsK bt k (resF 3 zs s)) i ≤ (if underB s (i : Int) = true then 1 else 0) ∧ (bt.getD i false = false → underB s (i : Int) = true → zs.getD (i * 2 + 1) 0 ≠ 0 → cuP (pairsK bt k (resF 3 zs s)) i = 1) := by
  obtain ⟨h1, h2⟩ := count_res zs hi 3 s (by simp [okD])
  rw [cuP_pairs]
  have hle : ((resF 3 zs s).filter fun m => !skipB bt m).countP (fun m => underB m (i : Int)) ≤ (resF 3 zs s).countP fun m => underB m (i : Int) := by
    rw [List.countP_filter]
    exact List.countP_mono_left fun m _ h => by simp at h; exact h.1
  refine ⟨Nat.le_trans hle h1, fun hb hu hk => ?_⟩
  have e := h2 hu (by rw [keyZ_leaf zs hi]; exact hk)
  rw [← e]
  unfold cu
  rw [List.countP_filter]
  refine List.countP_congr fun m hm => ?_
  obtain ⟨m0, m1⟩ := resF_node zs 3 s m hm
  constructor
  · intro h; simp at h; exact h.1
  · intro h
    have hs : skipB bt m = false := by
      cases hq : skipB bt m with
      | false => rfl
      | true =>
        exfalso
        unfold skipB at hq
        rw [Int.tdiv_eq_ediv_of_nonneg m0, Int.tmod_eq_emod_of_nonneg m0] at hq
        simp only [Bool.and_eq_true, decide_eq_true_eq] at hq
        have hn : oddB m = false := by simp [oddB]; omega
        rw [under_even hn hi] at h
        have hm2 : m = 2 * (i : Int) := by simpa using h
        have : (m / 2).toNat = i := by omega
        rw [this, hb] at hq
        simp at hq
    simp [h, hs]
theorem planTo_count (zs : List Int) (bt : List Bool) {x i : Nat} (hx : x < 8) (hi : i < 8) (hne : i ≠ x) : cuP (planTo zs bt x 3) i ≤ 1 ∧ (bt.getD i false = false → zs.getD (i * 2 + 1) 0 ≠ 0 → cuP (planTo zs bt x 3) i = 1) := by
  obtain ⟨s1, _⟩ := side_under hx hi hne
  have e : cuP (planTo zs bt x 3) i = cuP (pairsK bt 0 (resF 3 zs ((sideL x).getD 0 0))) i + cuP (pairsK bt 1 (resF 3 zs ((sideL x).getD 1 0))) i + cuP (pairsK bt 2 (resF 3 zs ((sideL x).getD 2 0))) i := by
    simp [planTo, cuP, Nat.add_assoc]
  obtain ⟨a1, a2⟩ := part_count zs bt 0 ((sideL x).getD 0 0) hi
  obtain ⟨b1, b2⟩ := part_count zs bt 1 ((sideL x).getD 1 0) hi
  obtain ⟨c1, c2⟩ := part_count zs bt 2 ((sideL x).getD 2 0) hi
  rw [e]
  refine ⟨by omega, fun hb hk => ?_⟩
  cases ha : underB ((sideL x).getD 0 0) i <;> cases hbb : underB ((sideL x).getD 1 0) i <;> cases hc : underB ((sideL x).getD 2 0) i <;> simp only [ha, hbb, hc, if_true, Bool.false_eq_true, if_false] at s1 a1 b1 c1 <;> first | omega | (have := a2 hb ha hk; omega) | (have := b2 hb hbb hk; omega) | (have := c2 hb hc hk; omega)
/-- where a pair of the plan stands -/
theorem planTo_at (zs : List Int) (bt : List Bool) {x i : Nat} (hx : x < 8) (hi : i < 8) (hne : i ≠ x) : ∀ n ≤ 3, ∀ p ∈ planTo zs bt x n, (0 ≤ p.1 ∧ p.1 ≤ 2) ∧ (underB p.2 (i : Int) = true → (pathT x).getD p.1.toNat 0 = commonI x i)
  | 0, _, p, hp => by simp [planTo] at hp
  | n + 1, hn, p, hp => by
    rw [planTo, List.mem_append] at hp
    rcases hp with hp | hp
    · exact planTo_at zs bt hx hi hne n (by omega) p hp
    · unfold pairsK at hp
      rw [List.mem_map] at hp
      obtain ⟨m, hm, rfl⟩ := hp
      rw [List.mem_filter] at hm
      refine ⟨⟨by simp, by simp; omega⟩, fun hu => ?_⟩
      have hs : underB ((sideL x).getD n 0) i = true := by
        cases hq : underB ((sideL x).getD n 0) i with
        | true => rfl
        | false =>
          exfalso
          have h1 := (count_res zs hi 3 ((sideL x).getD n 0) (by simp [okD])).1
          rw [hq, if_neg (by simp)] at h1
          have : 0 < cu (resF 3 zs ((sideL x).getD n 0)) i := List.countP_pos_iff.2 ⟨m, hm.1, hu⟩
          omega
      simpa using (side_under hx hi hne).2 n (by omega) hs
end Go.Proofs.Ytegjkfaokpjojaa
