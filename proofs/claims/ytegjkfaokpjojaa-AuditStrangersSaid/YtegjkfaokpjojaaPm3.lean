/-
  Trees with new keys: whom a secret is for hangs on none of them. Mathematics; no function is named here.
-/
import Derived.Test.YtegjkfaokpjojaaJ30
namespace Go.Proofs.Ytegjkfaokpjojaa
set_option maxRecDepth 100000
open Go.RowKit Pm
set_option linter.unusedVariables false
set_option linter.unusedSimpArgs false

/-- nodes that are looked at below a node -/
def belF : Nat → Int → List Int
  | 0, n => [n]
  | d + 1, n => n :: (if oddB n = true then belF d (n - stepZ n) ++ belF d (n + stepZ n) else [])
theorem resF_congr {zs zs' : List Int} : ∀ (d : Nat) (n : Int), (∀ m ∈ belF d n, keyZ zs m = keyZ zs' m) → resF d zs n = resF d zs' n
  | 0, n, h => by
    unfold resF
    rw [h n (by simp [belF])]
  | d + 1, n, h => by
    unfold resF
    rw [h n (by simp [belF])]
    by_cases ho : oddB n = true
    · have h1 : ∀ m ∈ belF d (n - stepZ n), keyZ zs m = keyZ zs' m := fun m hm => h m (by rw [belF, if_pos ho]; simp [hm])
      have h2 : ∀ m ∈ belF d (n + stepZ n), keyZ zs m = keyZ zs' m := fun m hm => h m (by rw [belF, if_pos ho]; simp [hm])
      rw [resF_congr d _ h1, resF_congr d _ h2]
    · rw [if_neg ho, if_neg ho]
theorem resF_in {zs : List Int} : ∀ (d : Nat) (n m : Int), m ∈ resF d zs n → m ∈ belF d n
  | 0, n, m, h => by
    unfold resF at h
    split at h
    · cases h
    · exact h
  | d + 1, n, m, h => by
    unfold resF at h
    rw [belF]
    split at h
    · split at h
      · next ho =>
        rw [if_pos ho]
        rcases List.mem_append.1 h with h | h
        · exact List.mem_cons_of_mem _ (List.mem_append_left _ (resF_in d _ m h))
        · exact List.mem_cons_of_mem _ (List.mem_append_right _ (resF_in d _ m h))
      · cases h
    · rw [List.mem_singleton.1 h]
      exact List.mem_cons_self
theorem keyZ_set (zs : List Int) (i : Nat) (v m : Int) (h : m % 2 = 0 → m.toNat + 1 ≠ i) (h' : m % 2 ≠ 0 → 16 + m.toNat ≠ i) : keyZ (zs.set i v) m = keyZ zs m := by
  unfold keyZ
  split
  · split
    · next h1 => rw [getD_set_list, if_neg (fun e => h h1 e.1.symm)]
    · next h1 => rw [getD_set_list, if_neg (fun e => h' h1 e.1.symm)]
  · rfl
theorem side_offB : ∀ x < 8, ∀ k < 3, ((belF 3 ((sideL ((x : Nat) : Int)).getD k 0)).all fun m => decide ((0 ≤ m ∧ m < 15) ∧ m ≠ 2 * (x : Int) ∧ m ≠ (x : Int) / 2 * 4 + 1 ∧ m ≠ (x : Int) / 4 * 8 + 3 ∧ m ≠ 7)) = true := by decide +kernel
theorem side_off (x : Nat) (hx : x < 8) (k : Nat) (hk : k < 3) (m : Int) (hm : m ∈ belF 3 ((sideL ((x : Nat) : Int)).getD k 0)) : (0 ≤ m ∧ m < 15) ∧ m ≠ 2 * (x : Int) ∧ m ≠ (x : Int) / 2 * 4 + 1 ∧ m ≠ (x : Int) / 4 * 8 + 3 ∧ m ≠ 7 := of_decide_eq_true (List.all_eq_true.1 (side_offB x hx k hk) m hm)
theorem behZ_key {fr : Int} (f0 : 0 ≤ fr) (f1 : fr < 8) (zs : List Int) (sl a b c : Int) {m : Int} (m0 : 0 ≤ m) (m1 : m < 15) (h1 : m ≠ 2 * fr) (h2 : m ≠ fr / 2 * 4 + 1) (h3 : m ≠ fr / 4 * 8 + 3) (h4 : m ≠ 7) : keyZ (behZ zs fr sl a b c) m = keyZ zs m := by
  unfold behZ
  rw [keyZ_set _ _ _ _ (by omega) (by omega), keyZ_set _ _ _ _ (by omega) (by omega), keyZ_set _ _ _ _ (by omega) (by omega), keyZ_set _ _ _ _ (by omega) (by omega)]
theorem side_key {fr : Int} (f0 : 0 ≤ fr) (f1 : fr < 8) (zs : List Int) (sl a b c : Int) {k : Nat} (hk : k < 3) {m : Int} (hm : m ∈ belF 3 ((sideL fr).getD k 0)) : keyZ (behZ zs fr sl a b c) m = keyZ zs m := by
  obtain ⟨n, rfl⟩ := Int.eq_ofNat_of_zero_le f0
  obtain ⟨⟨m0, m1⟩, h1, h2, h3, h4⟩ := side_off n (by omega) k hk m hm
  exact behZ_key f0 f1 zs sl a b c m0 m1 h1 h2 h3 h4
theorem planTo_beh {fr : Int} (f0 : 0 ≤ fr) (f1 : fr < 8) (zs : List Int) (sl a b c : Int) (bt : List Bool) : ∀ n, n ≤ 3 → planTo (behZ zs fr sl a b c) bt fr n = planTo zs bt fr n
  | 0, _ => rfl
  | n + 1, h => by
    rw [planTo, planTo, planTo_beh f0 f1 zs sl a b c bt n (by omega), resF_congr 3 _ fun m hm => side_key f0 f1 zs sl a b c (by omega) hm]
/-- whom a secret is for hangs on no key of one's own -/
theorem plan_beh {fr : Int} (f0 : 0 ≤ fr) (f1 : fr < 8) (zs : List Int) (sl a b c : Int) (bt : List Bool) : planL (behZ zs fr sl a b c) fr bt = planL zs fr bt := by
  unfold planL
  rw [planTo_beh f0 f1 zs sl a b c bt 3 (Nat.le_refl _)]
theorem planTo_key {fr : Int} (f0 : 0 ≤ fr) (f1 : fr < 8) (zs : List Int) (sl a b c : Int) (bt : List Bool) : ∀ n, n ≤ 3 → ∀ p ∈ planTo zs bt fr n, keyZ (behZ zs fr sl a b c) p.2 = keyZ zs p.2
  | 0, _, p, h => by simp [planTo] at h
  | n + 1, hn, p, h => by
    rw [planTo, List.mem_append] at h
    rcases h with h | h
    · exact planTo_key f0 f1 zs sl a b c bt n (by omega) p h
    · unfold pairsK at h
      obtain ⟨m, hm, rfl⟩ := List.mem_map.1 h
      exact side_key f0 f1 zs sl a b c (by omega) (resF_in 3 _ m (List.mem_filter.1 hm).1)
theorem plan_key {fr : Int} (f0 : 0 ≤ fr) (f1 : fr < 8) (zs : List Int) (sl a b c : Int) {bt : List Bool} {p : Int × Int} (h : p ∈ planL zs fr bt) : keyZ (behZ zs fr sl a b c) p.2 = keyZ zs p.2 := by
  unfold planL at h
  split at h
  · exact planTo_key f0 f1 zs sl a b c bt 3 (Nat.le_refl _) p h
  · cases h
end Go.Proofs.Ytegjkfaokpjojaa
