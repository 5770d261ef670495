/-
  Trees with new keys: whom a secret is for hangs on none of them. Mathematics; no function is named here.
-/
import Derived.Test.YtegjkfaokpjojaaGreatDoorJ30
import Derived.Test.YtegjkfaokpjojaaGreatDoorJ18
import Derived.Test.YtegjkfaokpjojaaGreatDoorJ17
import Derived.Test.YtegjkfaokpjojaaGreatDoorJ33
import Derived.Test.YtegjkfaokpjojaaGreatDoorJ34
import Derived.Test.YtegjkfaokpjojaaGreatDoorJ35
namespace Go.Proofs.YtegjkfaokpjojaaGreatDoor
set_option maxRecDepth 100000
open Go.RowKit Pm
set_option linter.unusedVariables false
set_option linter.unusedSimpArgs false

/-- nodes that are looked at below a node -/
def belF : Nat → Int → List Int
  | 0, n => [n]
  | d + 1, n => n :: (if oddB n = true then belF d (n - stepZ n) ++ belF d (n + stepZ n) else [])
theorem resF_congr {zs zs' : List Int} : ∀ (d : Nat) (n : Int), (∀ m ∈ belF d n, keyZ zs m = keyZ zs' m) → resF d zs n = resF d zs' n
  | 0, n, h => by
    unfold resF
    rw [h n (by simp [belF])]
  | d + 1, n, h => by
    unfold resF
    rw [h n (by simp [belF])]
    by_cases ho : oddB n = true
    · have h1 : ∀ m ∈ belF d (n - stepZ n), keyZ zs m = keyZ zs' m := fun m hm => h m (by rw [belF, if_pos ho]; simp [hm])
      have h2 : ∀ m ∈ belF d (n + stepZ n), keyZ zs m = keyZ zs' m := fun m hm => h m (by rw [belF, if_pos ho]; simp [hm])
      rw [resF_congr d _ h1, resF_congr d _ h2]
    · rw [if_neg ho, if_neg ho]
theorem resF_in {zs : List Int} : ∀ (d : Nat) (n m : Int), m ∈ resF d zs n → m ∈ belF d n
  | 0, n, m, h => by
    unfold resF at h
    split at h
    · cases h
    · exact h
  | d + 1, n, m, h => by
    unfold resF at h
    rw [belF]
    split at h
    · split at h
      · next ho =>
        rw [if_pos ho]
        rcases List.mem_append.1 h with h | h
        · exact List.mem_cons_of_mem _ (List.mem_append_left _ (resF_in d _ m h))
        · exact List.mem_cons_of_mem _ (List.mem_append_right _ (resF_in d _ m h))
      · cases h
    · rw [List.mem_singleton.1 h]
      exact List.mem_cons_self
theorem keyZ_set (zs : List Int) (i : Nat) (v m : Int) (h : m % 2 = 0 → m.toNat + 1 ≠ i) (h' : m % 2 ≠ 0 → 16 + m.toNat ≠ i) : keyZ (zs.set i v) m = keyZ zs m := by
  unfold keyZ
  split
  · split
    · next h1 => rw [getD_set_list, if_neg (fun e => h h1 e.1.symm)]
    · next h1 => rw [getD_set_list, if_neg (fun e => h' h1 e.1.symm)]
  · rfl
theorem side_offB : ∀ x < 8, ∀ k < 3, ((belF 3 ((sideL ((x : Nat) : Int)).getD k 0)).all fun m => decide ((0 ≤ m ∧ m < 15) ∧ m ≠ 2 * (x : Int) ∧ m ≠ (x : Int) / 2 * 4 + 1 ∧ m ≠ (x : Int) / 4 * 8 + 3 ∧ m ≠ 7)) = true := by decide +kernel
theorem side_off (x : Nat) (hx : x < 8) (k : Nat) (hk : k < 3) (m : Int) (hm : m ∈ belF 3 ((sideL ((x : Nat) : Int)).getD k 0)) : (0 ≤ m ∧ m < 15) ∧ m ≠ 2 * (x : Int) ∧ m ≠ (x : Int) / 2 * 4 + 1 ∧ m ≠ (x : Int) / 4 * 8 + 3 ∧ m ≠ 7 := of_decide_eq_true (List.all_eq_true.1 (side_offB x hx k hk) m hm)
theorem behZ_key {fr : Int} (f0 : 0 ≤ fr) (f1 : fr < 8) (zs : List Int) (sl a b c : Int) {m : Int} (m0 : 0 ≤ m) (m1 : m < 15) (h1 : m ≠ 2 * fr) (h2 : m ≠ fr / 2 * 4 + 1) (h3 : m ≠ fr / 4 * 8 + 3) (h4 : m ≠ 7) : keyZ (behZ zs fr sl a b c) m = keyZ zs m := by
  unfold behZ
  rw [keyZ_set _ _ _ _ (by omega) (by omega), keyZ_set _ _ _ _ (by omega) (by omega), keyZ_set _ _ _ _ (by omega) (by omega), keyZ_set _ _ _ _ (by omega) (by omega)]
theorem side_key {fr : Int} (f0 : 0 ≤ fr) (f1 : fr < 8) (zs : List Int) (sl a b c : Int) {k : Nat} (hk : k < 3) {m : Int} (hm : m ∈ belF 3 ((sideL fr).getD k 0)) : keyZ (behZ zs fr sl a b c) m = keyZ zs m := by
  obtain ⟨n, rfl⟩ := Int.eq_ofNat_of_zero_le f0
  obtain ⟨⟨m0, m1⟩, h1, h2, h3, h4⟩ := side_off n (by omega) k hk m hm
  exact behZ_key f0 f1 zs sl a b c m0 m1 h1 h2 h3 h4
theorem planTo_beh {fr : Int} (f0 : 0 ≤ fr) (f1 : fr < 8) (zs : List Int) (sl a b c : Int) (bt : List Bool) : ∀ n, n ≤ 3 → planTo (behZ zs fr sl a b c) bt fr n = planTo zs bt fr n
  | 0, _ => rfl
  | n + 1, h => by
    rw [planTo, planTo, planTo_beh f0 f1 zs sl a b c bt n (by omega), resF_congr 3 _ fun m hm => side_key f0 f1 zs sl a b c (by omega) hm]
/-- whom a secret is for hangs on no key of one's own -/
theorem plan_beh {fr : Int} (f0 : 0 ≤ fr) (f1 : fr < 8) (zs : List Int) (sl a b c : Int) (bt : List Bool) : planL (behZ zs fr sl a b c) fr bt = planL zs fr bt := by
  unfold planL
  rw [planTo_beh f0 f1 zs sl a b c bt 3 (Nat.le_refl _)]
theorem planTo_key {fr : Int} (f0 : 0 ≤ fr) (f1 : fr < 8) (zs : List Int) (sl a b c : Int) (bt : List Bool) : ∀ n, n ≤ 3 → ∀ p ∈ planTo zs bt fr n, keyZ (behZ zs fr sl a b c) p.2 = keyZ zs p.2
  | 0, _, p, h => by simp [planTo] at h
  | n + 1, hn, p, h => by
    rw [planTo, List.mem_append] at h
    rcases h with h | h
    · exact planTo_key f0 f1 zs sl a b c bt n (by omega) p h
    · unfold pairsK at h
      obtain ⟨m, hm, rfl⟩ := List.mem_map.1 h
      exact side_key f0 f1 zs sl a b c (by omega) (resF_in 3 _ m (List.mem_filter.1 hm).1)
theorem plan_key {fr : Int} (f0 : 0 ≤ fr) (f1 : fr < 8) (zs : List Int) (sl a b c : Int) {bt : List Bool} {p : Int × Int} (h : p ∈ planL zs fr bt) : keyZ (behZ zs fr sl a b c) p.2 = keyZ zs p.2 := by
  unfold planL at h
  split at h
  · exact planTo_key f0 f1 zs sl a b c bt 3 (Nat.le_refl _) p h
  · cases h
end Go.Proofs.YtegjkfaokpjojaaGreatDoor

/-
  Ladders: whom each node of a plan is for. Mathematics; no function is named here.
-/
namespace Go.Proofs.YtegjkfaokpjojaaGreatDoor
set_option maxRecDepth 100000
open Go.RowKit Pm
set_option linter.unusedVariables false
set_option linter.unusedSimpArgs false

end Go.Proofs.YtegjkfaokpjojaaGreatDoor

/-
  Boxes are opened by whom they are for. Mathematics; no function is named here.
-/
namespace Go.Proofs.YtegjkfaokpjojaaGreatDoor
set_option maxRecDepth 100000
open Go.RowKit Pm
set_option linter.unusedVariables false
set_option linter.unusedSimpArgs false

end Go.Proofs.YtegjkfaokpjojaaGreatDoor

/-
  Parties: what taking another one's step comes to, and joining. Mathematics; no function is named here.
-/
namespace Go.Proofs.YtegjkfaokpjojaaGreatDoor
set_option maxRecDepth 100000
open Go.RowKit Pm
set_option linter.unusedVariables false
set_option linter.unusedSimpArgs false

/-- has a node a key? -/
def nodeK (zs : List Int) (m : Nat) : Bool := zs.getD m 0 != 0
/-- the nodes above a leaf -/
abbrev n1 (lf : Int) : Nat := (lf / 2 * 4 + 1).toNat
abbrev n2 (lf : Int) : Nat := (lf / 4 * 8 + 3).toNat
def setAb (p : PS) (q : Nat) (h : List UInt8) : PS := { p with ab := p.ab.take (q * 32) ++ (h ++ p.ab.drop (q * 32 + 32)) }
end Go.Proofs.YtegjkfaokpjojaaGreatDoor

/-
  Views behind operations, and behind a commit: what stays, what is new. Mathematics; no function is named here.
-/
namespace Go.Proofs.YtegjkfaokpjojaaGreatDoor
set_option maxRecDepth 100000
open Go.RowKit Pm
set_option linter.unusedVariables false
set_option linter.unusedSimpArgs false

theorem putL_hi {zs xs : List Int} (hz : zs.length = 31) (hx : xs.length = 2) {i : Nat} (hi : i < 8) {m : Nat} (hm : 16 ≤ m) : (putL zs xs (i : Nat)).getD m 0 = if m = 16 + n1 (i : Nat) ∨ m = 16 + n2 (i : Nat) ∨ m = 23 then 0 else zs.getD m 0 := by
  have hlb : leafB (i : Int) = true := by simp [leafB]; omega
  have hl : (zs.take (i * 2) ++ (xs ++ zs.drop (i * 2 + 2))).length = 31 := by simp [hx, hz]; omega
  have e0 : (zs.take (i * 2) ++ (xs ++ zs.drop (i * 2 + 2))).getD m 0 = zs.getD m 0 := by rw [splice_get hx (by omega), if_neg (by omega)]
  unfold putL
  rw [if_pos hlb, Int.toNat_natCast, getD_set_list, getD_set_list, getD_set_list, e0]
  simp only [List.length_set, hl]
  unfold n1 n2
  by_cases e1 : m = 23
  · rw [if_pos ⟨e1.symm, by decide⟩, if_pos (.inr (.inr e1))]
  · rw [if_neg (fun h => e1 h.1.symm)]
    by_cases e2 : m = 16 + ((i : Int) / 4 * 8 + 3).toNat
    · rw [if_pos ⟨e2.symm, by omega⟩, if_pos (.inr (.inl e2))]
    · rw [if_neg (fun h => e2 h.1.symm)]
      by_cases e3 : m = 16 + ((i : Int) / 2 * 4 + 1).toNat
      · rw [if_pos ⟨e3.symm, by omega⟩, if_pos (.inl e3)]
      · rw [if_neg (fun h => e3 h.1.symm), if_neg (by rintro (h | h | h); exact e3 h; exact e2 h; exact e1 h)]
theorem behZ_len {zs : List Int} (hz : zs.length = 31) (fr sl a b c : Int) : (behZ zs fr sl a b c).length = 31 := by unfold behZ; simp [hz]
theorem behZ_get {zs : List Int} (hz : zs.length = 31) {fr : Int} (f0 : 0 ≤ fr) (f1 : fr < 8) (sl a b c : Int) (m : Nat) : (behZ zs fr sl a b c).getD m 0 = if m = 23 then c else if m = 16 + n2 fr then b else if m = 16 + n1 fr then a else if m = fr.toNat * 2 + 1 then sl else zs.getD m 0 := by
  unfold behZ
  rw [getD_set_list, getD_set_list, getD_set_list, getD_set_list]
  simp only [List.length_set, hz]
  unfold n1 n2
  by_cases e1 : m = 23
  · rw [if_pos ⟨e1.symm, by decide⟩, if_pos e1]
  · rw [if_neg (fun h => e1 h.1.symm), if_neg e1]
    by_cases e2 : m = 16 + (fr / 4 * 8 + 3).toNat
    · rw [if_pos ⟨e2.symm, by omega⟩, if_pos e2]
    · rw [if_neg (fun h => e2 h.1.symm), if_neg e2]
      by_cases e3 : m = 16 + (fr / 2 * 4 + 1).toNat
      · rw [if_pos ⟨e3.symm, by omega⟩, if_pos e3]
      · rw [if_neg (fun h => e3 h.1.symm), if_neg e3]
        by_cases e4 : m = fr.toNat * 2 + 1
        · rw [if_pos ⟨e4.symm, by omega⟩, if_pos e4]
        · rw [if_neg (fun h => e4 h.1.symm), if_neg e4]
/-- what is so of a member's place behind each operation -/
structure Keep (zs0 : List Int) (j : Nat) (s : Vw) : Prop where
  zl : s.zs.length = 31
  nl : s.ng.length = 8
  gl : s.gn.length = 8
  or : s.gn.getD j false = true ∨ (memL s.zs j = true ∧ leafP s.zs j = leafP zs0 j ∧ s.ng.getD j false = false)
theorem Keep.step {zs0 : List Int} {j : Nat} (hj : j < 8) {s : Vw} (h : Keep zs0 j s) (fr : Int) {o : List Int} (he : errOp s fr o = 0) : Keep zs0 j (nextOp s o) := by
  obtain ⟨h1, h2, h3, h4⟩ := h
  unfold nextOp
  unfold errOp at he
  by_cases k1 : o.getD 0 0 = 1
  · rw [if_pos k1] at he ⊢
    obtain ⟨hf, hi1, hi2⟩ := errAdd_0 he
    obtain ⟨hf8, hfm⟩ := free_lt hf
    refine ⟨putL_length h1 rfl, by simp [h2], h3, ?_⟩
    rcases h4 with h4 | ⟨h5, h6, h7⟩
    · exact .inl h4
    · have hne : j ≠ freeN s.zs := fun e => by rw [← e, h5] at hfm; cases hfm
      refine .inr ⟨?_, ?_, ?_⟩
      · rw [memL_put h1 rfl hf8 hj, if_neg hne]; exact h5
      · rw [leafP_put h1 rfl hf8 hj, if_neg hne]; exact h6
      · show (s.ng.set (freeN s.zs) true).getD j false = false
        rw [getD_setB, if_neg (fun e => hne e.1.symm)]; exact h7
  rw [if_neg k1] at he ⊢
  by_cases k2 : o.getD 0 0 = 2
  · rw [if_pos k2] at he ⊢
    unfold errRem at he
    have hw : ¬ (o.getD 1 0 = fr ∨ memB s.zs (o.getD 1 0) = false) := fun hx => by rw [if_pos hx] at he; cases he
    have hm : memB s.zs (o.getD 1 0) = true := by
      cases hq : memB s.zs (o.getD 1 0) with
      | true => rfl
      | false => exact (hw (.inr hq)).elim
    obtain ⟨hb0, hb1⟩ := memB_bd hm
    obtain ⟨n, hn⟩ := Int.eq_ofNat_of_zero_le hb0
    rw [hn] at hb1 ⊢
    refine ⟨putL_length h1 rfl, by simp [h2], by simp [h3], ?_⟩
    by_cases hne : j = n
    · left
      show (s.gn.set (n : Int).toNat true).getD j false = true
      rw [Int.toNat_natCast, getD_setB, if_pos ⟨hne.symm, by omega⟩]
    · rcases h4 with h4 | ⟨h5, h6, h7⟩
      · left
        show (s.gn.set (n : Int).toNat true).getD j false = true
        rw [Int.toNat_natCast, getD_setB, if_neg (fun e => hne e.1.symm)]; exact h4
      · refine .inr ⟨?_, ?_, ?_⟩
        · rw [memL_put h1 rfl (by omega) hj, if_neg hne]; exact h5
        · rw [leafP_put h1 rfl (by omega) hj, if_neg hne]; exact h6
        · show (s.ng.set (n : Int).toNat false).getD j false = false
          rw [Int.toNat_natCast, getD_setB, if_neg (fun e => hne e.1.symm)]; exact h7
  rw [if_neg k2]
  by_cases k3 : o.getD 0 0 = 3
  · rw [if_pos k3]; exact ⟨h1, h2, h3, h4⟩
  rw [if_neg k3]
  by_cases k4 : o.getD 0 0 = 4
  · rw [if_pos k4]; exact ⟨h1, h2, h3, h4⟩
  rw [if_neg k4]
  exact ⟨h1, h2, h3, h4⟩
/-- what is so of the whole view behind each operation -/
structure Goes (zs0 : List Int) (s : Vw) : Prop where
  zl : s.zs.length = 31
  al : s.ad.length = 8
  nl : s.ng.length = 8
  t : isT s.zs = true
  adm : admTo s.zs s.ad 8 = true
  k : 1 ≤ s.k
  nd : ∀ m, 16 ≤ m → s.zs.getD m 0 = 0 ∨ s.zs.getD m 0 = zs0.getD m 0
  new : ∀ j, j < 8 → s.ng.getD j false = true → memL s.zs j = true ∧ s.zs.getD (16 + n1 (j : Nat)) 0 = 0 ∧ s.zs.getD (16 + n2 (j : Nat)) 0 = 0 ∧ s.zs.getD 23 0 = 0
theorem isT_iff (zs : List Int) : isT zs = true ↔ (∀ k, k < 8 → leafOK zs k = true) ∧ ∀ k, k < 15 → nodeOK zs k = true := by
  unfold isT
  rw [Bool.and_eq_true, List.all_eq_true, List.all_eq_true]
  simp only [List.mem_range]
theorem leafOK_is {zs : List Int} {k : Nat} {a b : Int} (h : leafP zs k = [a, b]) (ha : isI a = true) (hb : isI b = true) : leafOK zs k = true := by
  unfold leafOK; rw [h]; simp [ha, hb]
theorem leafOK_zero {zs : List Int} {k : Nat} (h : leafP zs k = [0, 0]) : leafOK zs k = true := by
  unfold leafOK; rw [h]; rfl
theorem leafOK_eq {zs zs' : List Int} {k : Nat} (h : leafP zs k = leafP zs' k) : leafOK zs k = leafOK zs' k := by
  unfold leafOK; rw [h]
theorem nodeOK_get {zs : List Int} {k : Nat} (hk : k < 15) : nodeOK zs k = (decide (zs.getD (16 + k) 0 = 0) || (!((k : Int).tmod 2 == 0) && isI (zs.getD (16 + k) 0))) := by
  unfold nodeOK; rw [nodeV_eq zs hk]
theorem isT_putK {zs xs : List Int} (hz : zs.length = 31) (h : isT zs = true) {i : Nat} (hi : i < 8) (hx : xs = [0, 0] ∨ ∃ a b, xs = [a, b] ∧ isI a = true ∧ isI b = true) : isT (putL zs xs (i : Nat)) = true := by
  have hx2 : xs.length = 2 := by rcases hx with rfl | ⟨a, b, rfl, _⟩ <;> rfl
  obtain ⟨h1, h2⟩ := (isT_iff zs).1 h
  refine (isT_iff _).2 ⟨fun k hk => ?_, fun k hk => ?_⟩
  · have e := leafP_put hz hx2 hi hk
    by_cases hki : k = i
    · rw [if_pos hki] at e
      rcases hx with rfl | ⟨a, b, rfl, ha, hb⟩
      · exact leafOK_zero e
      · exact leafOK_is e ha hb
    · rw [if_neg hki] at e
      rw [leafOK_eq e]; exact h1 k hk
  · have := h2 k hk
    rw [nodeOK_get hk] at this ⊢
    rw [putL_hi hz hx2 hi (by omega)]
    split
    · rfl
    · exact this
theorem memL_of {zs : List Int} {k : Nat} {a b : Int} (h : leafP zs k = [a, b]) (ha : isI a = true) : memL zs k = true := by
  unfold memL; rw [h]
  have := isI_ne ha
  simp [this]
theorem Goes.step {zs0 : List Int} {s : Vw} (h : Goes zs0 s) (fr : Int) {o : List Int} (he : errOp s fr o = 0) : Goes zs0 (nextOp s o) := by
  have hinv : Inv s := ⟨h.adm, h.zl, h.al⟩
  have hnx := nextOp_inv hinv fr he
  obtain ⟨h1, h2, h3, h4, h5, h6, h7, h8⟩ := h
  refine ⟨hnx.zl, hnx.al, ?_, ?_, hnx.adm, ?_, ?_, ?_⟩ <;> unfold nextOp <;> unfold errOp at he <;> by_cases k1 : o.getD 0 0 = 1
  · rw [if_pos k1]; simp [h3]
  · rw [if_neg k1]; split
    · simp [h3]
    · split
      · exact h3
      · split <;> exact h3
  · rw [if_pos k1] at he ⊢
    obtain ⟨hf, hi1, hi2⟩ := errAdd_0 he
    obtain ⟨hf8, hfm⟩ := free_lt hf
    exact isT_putK h1 h4 hf8 (.inr ⟨_, _, rfl, hi1, hi2⟩)
  · rw [if_neg k1] at he ⊢
    by_cases k2 : o.getD 0 0 = 2
    · rw [if_pos k2] at he ⊢
      unfold errRem at he
      have hm : memB s.zs (o.getD 1 0) = true := by
        cases hq : memB s.zs (o.getD 1 0) with
        | true => rfl
        | false => rw [if_pos (.inr hq)] at he; cases he
      obtain ⟨hb0, hb1⟩ := memB_bd hm
      obtain ⟨n, hn⟩ := Int.eq_ofNat_of_zero_le hb0
      rw [hn] at hb1 ⊢
      exact isT_putK h1 h4 (by omega) (.inl rfl)
    · rw [if_neg k2]; split
      · exact h4
      · split <;> exact h4
  · rw [if_pos k1]; exact h6
  · rw [if_neg k1] at he ⊢
    split
    · exact h6
    · next k2 =>
      rw [if_neg k2] at he
      split
      · exact h6
      · next k3 =>
        rw [if_neg k3] at he
        split
        · exact h6
        · next k4 =>
          rw [if_neg k4] at he
          unfold errLim at he
          show 1 ≤ o.getD 2 0
          by_cases hk : o.getD 2 0 < 1 ∨ o.getD 2 0 > 8
          · rw [if_pos hk] at he; cases he
          · omega
  · rw [if_pos k1] at he ⊢
    obtain ⟨hf, hi1, hi2⟩ := errAdd_0 he
    obtain ⟨hf8, hfm⟩ := free_lt hf
    intro m hm
    show (putL s.zs _ _).getD m 0 = 0 ∨ (putL s.zs _ _).getD m 0 = _
    rw [putL_hi h1 rfl hf8 hm]
    split
    · exact .inl rfl
    · exact h7 m hm
  · rw [if_neg k1] at he ⊢
    by_cases k2 : o.getD 0 0 = 2
    · rw [if_pos k2] at he ⊢
      unfold errRem at he
      have hm : memB s.zs (o.getD 1 0) = true := by
        cases hq : memB s.zs (o.getD 1 0) with
        | true => rfl
        | false => rw [if_pos (.inr hq)] at he; cases he
      obtain ⟨hb0, hb1⟩ := memB_bd hm
      obtain ⟨n, hn⟩ := Int.eq_ofNat_of_zero_le hb0
      rw [hn] at hb1 ⊢
      intro m hm
      show (putL s.zs _ _).getD m 0 = 0 ∨ (putL s.zs _ _).getD m 0 = _
      rw [putL_hi h1 rfl (by omega) hm]
      split
      · exact .inl rfl
      · exact h7 m hm
    · rw [if_neg k2]; split
      · exact h7
      · split <;> exact h7
  · rw [if_pos k1] at he ⊢
    obtain ⟨hf, hi1, hi2⟩ := errAdd_0 he
    obtain ⟨hf8, hfm⟩ := free_lt hf
    intro j hj hng
    have hng : (s.ng.set (freeN s.zs) true).getD j false = true := hng
    show memL (putL s.zs _ _) j = true ∧ (putL s.zs _ _).getD _ 0 = 0 ∧ (putL s.zs _ _).getD _ 0 = 0 ∧ (putL s.zs _ _).getD _ 0 = 0
    rw [putL_hi h1 rfl hf8 (by omega), putL_hi h1 rfl hf8 (by omega), putL_hi h1 rfl hf8 (by omega)]
    by_cases hje : j = freeN s.zs
    · subst hje
      refine ⟨memL_of (by rw [leafP_put h1 rfl hf8 hf8, if_pos rfl]) hi1, ?_, ?_, ?_⟩
      · rw [if_pos (.inl rfl)]
      · rw [if_pos (.inr (.inl rfl))]
      · rw [if_pos (.inr (.inr rfl))]
    · rw [getD_setB, if_neg (fun e => hje e.1.symm)] at hng
      obtain ⟨a1, a2, a3, a4⟩ := h8 j hj hng
      refine ⟨by rw [memL_put h1 rfl hf8 hj, if_neg hje]; exact a1, ?_, ?_, ?_⟩
      · split
        · rfl
        · exact a2
      · split
        · rfl
        · exact a3
      · split
        · rfl
        · exact a4
  · rw [if_neg k1] at he ⊢
    by_cases k2 : o.getD 0 0 = 2
    · rw [if_pos k2] at he ⊢
      unfold errRem at he
      have hm : memB s.zs (o.getD 1 0) = true := by
        cases hq : memB s.zs (o.getD 1 0) with
        | true => rfl
        | false => rw [if_pos (.inr hq)] at he; cases he
      obtain ⟨hb0, hb1⟩ := memB_bd hm
      obtain ⟨n, hn⟩ := Int.eq_ofNat_of_zero_le hb0
      rw [hn] at hb1 ⊢
      intro j hj hng
      have hng : (s.ng.set (n : Int).toNat false).getD j false = true := hng
      rw [Int.toNat_natCast] at hng
      show memL (putL s.zs _ _) j = true ∧ (putL s.zs _ _).getD _ 0 = 0 ∧ (putL s.zs _ _).getD _ 0 = 0 ∧ (putL s.zs _ _).getD _ 0 = 0
      rw [putL_hi h1 rfl (by omega) (by omega), putL_hi h1 rfl (by omega) (by omega), putL_hi h1 rfl (by omega) (by omega)]
      by_cases hje : j = n
      · subst hje
        rw [getD_setB, if_pos ⟨rfl, by omega⟩] at hng
        cases hng
      · rw [getD_setB, if_neg (fun e => hje e.1.symm)] at hng
        obtain ⟨a1, a2, a3, a4⟩ := h8 j hj hng
        refine ⟨by rw [memL_put h1 rfl (by omega) hj, if_neg hje]; exact a1, ?_, ?_, ?_⟩
        · split
          · rfl
          · exact a2
        · split
          · rfl
          · exact a3
        · split
          · rfl
          · exact a4
    · rw [if_neg k2]; split
      · exact h8
      · split <;> exact h8
theorem mayV_parts {e : Int} {zs : List Int} {ad : List Bool} {k : Int} : mayV e zs ad k = true ↔ 0 ≤ e ∧ e ≤ 1099511627776 ∧ isT zs = true ∧ admTo zs ad 8 = true ∧ 1 ≤ k ∧ k ≤ ((cntB ad : Nat) : Int) := by
  unfold mayV
  simp only [Bool.and_eq_true, decide_eq_true_eq]
  constructor
  · rintro ⟨⟨⟨⟨⟨a, b⟩, c⟩, d⟩, e⟩, f⟩; exact ⟨a, b, c, d, e, f⟩
  · rintro ⟨a, b, c, d, e, f⟩; exact ⟨⟨⟨⟨⟨a, b⟩, c⟩, d⟩, e⟩, f⟩
/-- the view behind operations that are done -/
theorem goes_of {e : Int} {zs : List Int} {ad : List Bool} {k : Int} {fr : Int} {ops : List Int} {n : Nat} (hz : zs.length = 31) (ha : ad.length = 8) (h : (doR e ⟨zs, ad, k, F8, F8⟩ fr ops n).1 = 0) :
    Goes zs (doR e ⟨zs, ad, k, F8, F8⟩ fr ops n).2 ∧ (doR e ⟨zs, ad, k, F8, F8⟩ fr ops n).2.k ≤ ((cntB (doR e ⟨zs, ad, k, F8, F8⟩ fr ops n).2.ad : Nat) : Int) ∧ mayV e zs ad k = true ∧ memB zs fr = true := by
  obtain ⟨h1, h2, h3, h4, h5, h6, h7⟩ := doR_yes h
  obtain ⟨_, _, m3, m4, m5, _⟩ := mayV_parts.1 h1
  rw [h6]
  refine ⟨runE_keeps (I := Goes zs) (fun s o hs he => hs.step fr he) _ _ _ ⟨hz, ha, rfl, m3, m4, m5, fun m _ => .inr rfl, fun j hj hn => ?_⟩ h5, h7, h1, h4⟩
  have : F8.getD j false = false := by rcases j with _ | _ | _ | _ | _ | _ | _ | _ | j <;> first | rfl | omega
  rw [show (⟨zs, ad, k, F8, F8⟩ : Vw).ng = F8 from rfl, this] at hn
  cases hn
end Go.Proofs.YtegjkfaokpjojaaGreatDoor

/-
  Members of one group: whose keys its view tells; a commit, and another one's step taken. Mathematics; no function is named here.
-/
namespace Go.Proofs.YtegjkfaokpjojaaGreatDoor
set_option maxRecDepth 100000
open Go.RowKit Pm
set_option linter.unusedVariables false
set_option linter.unusedSimpArgs false

/-- what holds of each party: sums of their lengths; no secret where there is no key -/
structure PInv (p : PS) : Prop where
  lf0 : 0 ≤ p.lf
  lf1 : p.lf < 8
  zl : p.zs.length = 31
  al : p.ad.length = 8
  cl : p.ch.length = 32
  gl : p.sg.length = 32
  sl : p.sc.length = 32
  bl : p.ab.length = 96
  el : p.ep.length = 32
  il : p.ini.length = 32
  a0 : nodeK p.zs (16 + n1 p.lf) = false → abK p.ab 0 = zB 32
  a1 : nodeK p.zs (16 + n2 p.lf) = false → abK p.ab 1 = zB 32
  a2 : nodeK p.zs 23 = false → abK p.ab 2 = zB 32
theorem abK_len {ab : List UInt8} (h : ab.length = 96) {k : Nat} (hk : k < 3) : (abK ab k).length = 32 := by unfold abK; simp; omega
/-- a party's keys are those that its view tells -/
structure Own (p : PS) : Prop where
  inv : PInv p
  may : mayV p.e p.zs p.ad p.k = true
  lf : leafP p.zs p.lf.toNat = [powI 4 (scal p.sg), nodeY p.sc]
  k0 : nodeK p.zs (16 + n1 p.lf) = true → p.zs.getD (16 + n1 p.lf) 0 = nodeY (abK p.ab 0)
  k1 : nodeK p.zs (16 + n2 p.lf) = true → p.zs.getD (16 + n2 p.lf) 0 = nodeY (abK p.ab 1)
  k2 : nodeK p.zs 23 = true → p.zs.getD 23 0 = nodeY (abK p.ab 2)
/-- of one view, with one secret -/
structure Like (p q : PS) : Prop where
  e : p.e = q.e
  zs : p.zs = q.zs
  ad : p.ad = q.ad
  k : p.k = q.k
  ch : p.ch = q.ch
  ep : p.ep = q.ep
  ini : p.ini = q.ini
theorem nodeY_isI (h : List UInt8) : isI (nodeY h) = true := isI_pub (scal (nodeW h)) (scal_bd _)
theorem nodeY_ne (h : List UInt8) : nodeY h ≠ 0 := isI_ne (nodeY_isI h)
theorem nodeK_not (zs : List Int) (m : Nat) : nodeK zs m = false ↔ zs.getD m 0 = 0 := by unfold nodeK; simp
theorem up_k0 (h : List UInt8) : abK (upW h) 0 = nextW h := by
  unfold abK upW
  have h1 := nextW_len h
  simp [List.take_append, h1]
theorem up_k1 (h : List UInt8) : abK (upW h) 1 = nextW (nextW h) := by
  unfold abK upW
  have h1 := nextW_len h
  have h2 := nextW_len (nextW h)
  simp [List.take_append, List.drop_append, h1, h2]
theorem up_k2 (h : List UInt8) : abK (upW h) 2 = nextW (nextW (nextW h)) := by
  unfold abK upW
  have h1 := nextW_len h
  have h2 := nextW_len (nextW h)
  have h3 := nextW_len (nextW (nextW h))
  have e1 : List.drop 64 (nextW h) = [] := List.drop_eq_nil_of_le (by omega)
  have e2 : List.take 32 (nextW (nextW (nextW h))) = nextW (nextW (nextW h)) := List.take_of_length_le (by omega)
  simp [List.take_append, List.drop_append, h1, h2, h3, e1, e2]
/-- what is so of the parties that a climb, or forgetting, leaves -/
structure SameP (p p' : PS) : Prop where
  e : p'.e = p.e
  zs : p'.zs = p.zs
  ad : p'.ad = p.ad
  k : p'.k = p.k
  ch : p'.ch = p.ch
  lf : p'.lf = p.lf
  sg : p'.sg = p.sg
  sc : p'.sc = p.sc
  ep : p'.ep = p.ep
  ini : p'.ini = p.ini
theorem SameP.refl (p : PS) : SameP p p := ⟨rfl, rfl, rfl, rfl, rfl, rfl, rfl, rfl, rfl, rfl⟩
theorem SameP.trans {p q r : PS} (h : SameP p q) (k : SameP q r) : SameP p r := ⟨k.1.trans h.1, k.2.trans h.2, k.3.trans h.3, k.4.trans h.4, k.5.trans h.5, k.6.trans h.6, k.7.trans h.7, k.8.trans h.8, k.9.trans h.9, k.10.trans h.10⟩
theorem SameP.set (p : PS) (q : Nat) (h : List UInt8) : SameP p (setAb p q h) := ⟨rfl, rfl, rfl, rfl, rfl, rfl, rfl, rfl, rfl, rfl⟩
end Go.Proofs.YtegjkfaokpjojaaGreatDoor

/-
  Members of one group: all take a commit that one of them makes. Mathematics; no function is named here.
-/
namespace Go.Proofs.YtegjkfaokpjojaaGreatDoor
set_option maxRecDepth 100000
open Go.RowKit Pm
set_option linter.unusedVariables false
set_option linter.unusedSimpArgs false

theorem leafP_beh {zs : List Int} (hz : zs.length = 31) {fr : Int} (f0 : 0 ≤ fr) (f1 : fr < 8) (sl a b c : Int) {j : Nat} (hj : j < 8) : leafP (behZ zs fr sl a b c) j = if j = fr.toNat then [zs.getD (fr.toNat * 2) 0, sl] else leafP zs j := by
  have hl := behZ_len hz fr sl a b c
  rw [leafP_two (by omega) hj, behZ_get hz f0 f1, behZ_get hz f0 f1, leafP_two (by omega) hj]
  unfold n1 n2
  by_cases e : j = fr.toNat
  · rw [if_neg (by omega), if_neg (by omega), if_neg (by omega), if_neg (by omega), if_neg (by omega), if_neg (by omega), if_neg (by omega), if_pos (by omega), if_pos e, e]
  · rw [if_neg (by omega), if_neg (by omega), if_neg (by omega), if_neg (by omega), if_neg (by omega), if_neg (by omega), if_neg (by omega), if_neg (by omega), if_neg e]
theorem isT_beh {zs : List Int} (hz : zs.length = 31) (h : isT zs = true) {fr : Int} (f0 : 0 ≤ fr) (f1 : fr < 8) {sl a b c x y : Int} (hx : leafP zs fr.toNat = [x, y]) (ix : isI x = true) (i0 : isI sl = true) (i1 : isI a = true) (i2 : isI b = true) (i3 : isI c = true) : isT (behZ zs fr sl a b c) = true := by
  obtain ⟨h1, h2⟩ := (isT_iff zs).1 h
  refine (isT_iff _).2 ⟨fun k hk => ?_, fun k hk => ?_⟩
  · have e := leafP_beh hz f0 f1 sl a b c hk
    by_cases hki : k = fr.toNat
    · rw [if_pos hki] at e
      have hx2 := hx
      rw [leafP_two (by omega) (by omega)] at hx2
      have e1 : zs.getD (fr.toNat * 2) 0 = x := (List.cons.inj hx2).1
      rw [e1] at e
      exact leafOK_is e ix i0
    · rw [if_neg hki] at e
      rw [leafOK_eq e]; exact h1 k hk
  · have := h2 k hk
    rw [nodeOK_get hk] at this ⊢
    rw [behZ_get hz f0 f1]
    unfold n1 n2
    have odd : ∀ v : Int, isI v = true → (k : Int) % 2 = 1 → (decide (v = 0) || (!((k : Int).tmod 2 == 0) && isI v)) = true := fun v hv ho => by
      have : (k : Int).tmod 2 = 1 := by rw [Int.tmod_eq_emod_of_nonneg (by omega)]; exact ho
      rw [this, hv]; simp
    split
    · exact odd c i3 (by omega)
    · split
      · exact odd b i2 (by omega)
      · split
        · exact odd a i1 (by omega)
        · rw [if_neg (by omega)]; exact this
theorem memL_beh {zs : List Int} (hz : zs.length = 31) {fr : Int} (f0 : 0 ≤ fr) (f1 : fr < 8) (sl a b c : Int) {j : Nat} (hj : j < 8) (hs : sl ≠ 0) (h : memL zs j = true) : memL (behZ zs fr sl a b c) j = true := by
  unfold memL at h ⊢
  rw [leafP_beh hz f0 f1 sl a b c hj]
  split
  · simp [hs]
  · exact h
theorem may_beh {zs0 : List Int} {s : Vw} (g : Goes zs0 s) (hk : s.k ≤ ((cntB s.ad : Nat) : Int)) {fr : Int} (f0 : 0 ≤ fr) (f1 : fr < 8) {sl a b c x y : Int} (hx : leafP s.zs fr.toNat = [x, y]) (ix : isI x = true) (i0 : isI sl = true) (i1 : isI a = true) (i2 : isI b = true) (i3 : isI c = true) {e : Int} (e0 : 0 ≤ e) (e1 : e ≤ 1099511627776) :
    mayV e (behZ s.zs fr sl a b c) s.ad s.k = true := by
  refine mayV_parts.2 ⟨e0, e1, isT_beh g.zl g.t f0 f1 hx ix i0 i1 i2 i3, ?_, g.k, hk⟩
  rw [admTo_iff]
  intro i hi ha
  exact memL_beh g.zl f0 f1 sl a b c hi (isI_ne i0) ((admTo_iff _ _).1 g.adm i hi ha)
/-- a commit that is made: no error ahead -/
theorem comE_0 {q : PS} {n : Nat} {ops : List Int} {m : Nat} {vs : List Int} (h : comE q n ops m vs = 0) : chkV q.e q.zs q.ad q.k q.ch q.lf ops n vs m = 0 ∧ (doR q.e ⟨q.zs, q.ad, q.k, F8, F8⟩ q.lf ops n).1 = 0 ∧ q.e < 1099511627776 := by
  unfold comE at h
  by_cases h1 : chkV q.e q.zs q.ad q.k q.ch q.lf ops n vs m = 0
  · rw [if_neg (fun x => x h1)] at h
    by_cases h2 : (doR q.e ⟨q.zs, q.ad, q.k, F8, F8⟩ q.lf ops n).1 = 0
    · rw [if_neg (fun x => x h2)] at h
      refine ⟨h1, h2, ?_⟩
      by_cases h3 : q.e ≥ 1099511627776
      · rw [if_pos h3] at h; cases h
      · omega
    · rw [if_pos h2] at h; exact absurd h h2
  · rw [if_pos h1] at h; exact absurd h h1
theorem Own.mem {p : PS} (h : Own p) : memL p.zs p.lf.toNat = true := memL_of h.lf (isI_pub _ (scal_bd _))
theorem Own.memB {p : PS} (h : Own p) : memB p.zs p.lf = true := by
  unfold Go.Proofs.YtegjkfaokpjojaaGreatDoor.memB
  rw [h.mem]
  have h0 := h.inv.lf0
  have h1 := h.inv.lf1
  simp [leafB, h0, h1]
theorem nextP_zs (p : PS) (s : Vw) (n : Nat) (ops : List Int) (m : Nat) (vs : List Int) (d : List UInt8) : (nextP p s n ops m vs d).zs = behZ s.zs p.lf (nodeY (lefW d)) (nodeY (nextW (lefW d))) (nodeY (nextW (nextW (lefW d)))) (nodeY (nextW (nextW (nextW (lefW d))))) := by
  dsimp only [nextP, reachP, enterP, behP, renewP, com0]
theorem com_own {q : PS} (hq : Own q) {n : Nat} {ops : List Int} {m : Nat} {vs : List Int} (hc : comE q n ops m vs = 0) (d : List UInt8) : Own (nextP q (doP q q.lf n ops) n ops m vs d) := by
  obtain ⟨h1, h2, h3⟩ := comE_0 hc
  obtain ⟨g, gk, gm, _⟩ := goes_of hq.inv.zl hq.inv.al h2
  obtain ⟨l0, l1⟩ := (⟨hq.inv.lf0, hq.inv.lf1⟩ : 0 ≤ q.lf ∧ q.lf < 8)
  have hst : Stay q.zs q.lf.toNat (doP q q.lf n ops) := by
    have e : ((q.lf.toNat : Nat) : Int) = q.lf := by omega
    have h2' := h2
    rw [← e] at h2'
    have := (stay_of hq.inv.zl hq.inv.al h2').2
    rw [e] at this
    exact this
  obtain ⟨e0, _⟩ := mayV_parts.1 gm
  have hg : Goes q.zs (doP q q.lf n ops) := g
  have hgk : (doP q q.lf n ops).k ≤ ((cntB (doP q q.lf n ops).ad : Nat) : Int) := gk
  generalize doP q q.lf n ops = s at hst hg hgk
  have hx : leafP s.zs q.lf.toNat = [powI 4 (scal q.sg), nodeY q.sc] := hst.own.trans hq.lf
  have ix : isI (powI 4 (scal q.sg)) = true := isI_pub _ (scal_bd _)
  have y0 := nodeY_isI (lefW d)
  have y1 := nodeY_isI (nextW (lefW d))
  have y2 := nodeY_isI (nextW (nextW (lefW d)))
  have y3 := nodeY_isI (nextW (nextW (nextW (lefW d))))
  obtain ⟨zs, hzs⟩ : ∃ zs, zs = behZ s.zs q.lf (nodeY (lefW d)) (nodeY (nextW (lefW d))) (nodeY (nextW (nextW (lefW d)))) (nodeY (nextW (nextW (nextW (lefW d))))) := ⟨_, rfl⟩
  have ez : (nextP q s n ops m vs d).zs = zs := (nextP_zs q s n ops m vs d).trans hzs.symm
  have hlen : zs.length = 31 := by rw [hzs]; exact behZ_len hg.zl _ _ _ _ _
  have get := behZ_get hg.zl l0 l1 (nodeY (lefW d)) (nodeY (nextW (lefW d))) (nodeY (nextW (nextW (lefW d)))) (nodeY (nextW (nextW (nextW (lefW d)))))
  rw [← hzs] at get
  have g0 : zs.getD (16 + n1 q.lf) 0 = nodeY (nextW (lefW d)) := by rw [get]; unfold n1 n2; rw [if_neg (by omega), if_neg (by omega), if_pos rfl]
  have g1 : zs.getD (16 + n2 q.lf) 0 = nodeY (nextW (nextW (lefW d))) := by rw [get]; unfold n2; rw [if_neg (by omega), if_pos rfl]
  have g2 : zs.getD 23 0 = nodeY (nextW (nextW (nextW (lefW d)))) := by rw [get, if_pos rfl]
  have eab : (nextP q s n ops m vs d).ab = upW (lefW d) := rfl
  have elf : (nextP q s n ops m vs d).lf = q.lf := rfl
  have yes : ∀ {k : Nat} {x : List UInt8} {P : Prop}, zs.getD k 0 = nodeY x → nodeK zs k = false → P := fun e h => ((nodeY_ne _) (e.symm.trans ((nodeK_not _ _).1 h))).elim
  refine ⟨⟨l0, l1, by rw [ez]; exact hlen, hg.al, chnW_len _ _, hq.inv.gl, lefW_len d, by rw [eab]; exact upW_len _, epoW_len _ _, iniW_len _, ?_, ?_, ?_⟩, ?_, ?_, ?_, ?_, ?_⟩
  · rw [ez, elf]; exact yes g0
  · rw [ez, elf]; exact yes g1
  · rw [ez]; exact yes g2
  · show mayV (q.e + 1) (nextP q s n ops m vs d).zs s.ad s.k = true
    rw [ez, hzs]
    exact may_beh hg hgk l0 l1 hx ix y0 y1 y2 y3 (by omega) (by omega)
  · show leafP (nextP q s n ops m vs d).zs q.lf.toNat = [powI 4 (scal q.sg), nodeY (lefW d)]
    rw [ez, hzs, leafP_beh hg.zl l0 l1 _ _ _ _ (by omega), if_pos rfl]
    have h4 := hx
    rw [leafP_two (by have := hg.zl; omega) (by omega)] at h4
    rw [(List.cons.inj h4).1]
  · intro _; rw [ez, elf, eab, up_k0]; exact g0
  · intro _; rw [ez, elf, eab, up_k1]; exact g1
  · intro _; rw [ez, eab, up_k2]; exact g2
end Go.Proofs.YtegjkfaokpjojaaGreatDoor
