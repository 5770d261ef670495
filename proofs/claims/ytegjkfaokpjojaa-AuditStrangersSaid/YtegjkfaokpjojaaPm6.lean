/-
  Views behind operations, and behind a commit: what stays, what is new. Mathematics; no function is named here.
-/
import Derived.Test.YtegjkfaokpjojaaJ35
import Derived.Test.YtegjkfaokpjojaaPm4
namespace Go.Proofs.Ytegjkfaokpjojaa
set_option maxRecDepth 100000
open Go.RowKit Pm
set_option linter.unusedVariables false
set_option linter.unusedSimpArgs false

theorem putL_hi {zs xs : List Int} (hz : zs.length = 31) (hx : xs.length = 2) {i : Nat} (hi : i < 8) {m : Nat} (hm : 16 ≤ m) : (putL zs xs (i : Nat)).getD m 0 = if m = 16 + n1 (i : Nat) ∨ m = 16 + n2 (i : Nat) ∨ m = 23 then 0 else zs.getD m 0 := by
  have hlb : leafB (i : Int) = true := by simp [leafB]; omega
  have hl : (zs.take (i * 2) ++ (xs ++ zs.drop (i * 2 + 2))).length = 31 := by simp [hx, hz]; omega
  have e0 : (zs.take (i * 2) ++ (xs ++ zs.drop (i * 2 + 2))).getD m 0 = zs.getD m 0 := by rw [splice_get hx (by omega), if_neg (by omega)]
  unfold putL
  rw [if_pos hlb, Int.toNat_natCast, getD_set_list, getD_set_list, getD_set_list, e0]
  simp only [List.length_set, hl]
  unfold n1 n2
  by_cases e1 : m = 23
  · rw [if_pos ⟨e1.symm, by decide⟩, if_pos (.inr (.inr e1))]
  · rw [if_neg (fun h => e1 h.1.symm)]
    by_cases e2 : m = 16 + ((i : Int) / 4 * 8 + 3).toNat
    · rw [if_pos ⟨e2.symm, by omega⟩, if_pos (.inr (.inl e2))]
    · rw [if_neg (fun h => e2 h.1.symm)]
      by_cases e3 : m = 16 + ((i : Int) / 2 * 4 + 1).toNat
      · rw [if_pos ⟨e3.symm, by omega⟩, if_pos (.inl e3)]
      · rw [if_neg (fun h => e3 h.1.symm), if_neg (by rintro (h | h | h); exact e3 h; exact e2 h; exact e1 h)]
theorem behZ_len {zs : List Int} (hz : zs.length = 31) (fr sl a b c : Int) : (behZ zs fr sl a b c).length = 31 := by unfold behZ; simp [hz]
theorem behZ_get {zs : List Int} (hz : zs.length = 31) {fr : Int} (f0 : 0 ≤ fr) (f1 : fr < 8) (sl a b c : Int) (m : Nat) : (behZ zs fr sl a b c).getD m 0 = if m = 23 then c else if m = 16 + n2 fr then b else if m = 16 + n1 fr then a else if m = fr.toNat * 2 + 1 then sl else zs.getD m 0 := by
  unfold behZ
  rw [getD_set_list, getD_set_list, getD_set_list, getD_set_list]
  simp only [List.length_set, hz]
  unfold n1 n2
  by_cases e1 : m = 23
  · rw [if_pos ⟨e1.symm, by decide⟩, if_pos e1]
  · rw [if_neg (fun h => e1 h.1.symm), if_neg e1]
    by_cases e2 : m = 16 + (fr / 4 * 8 + 3).toNat
    · rw [if_pos ⟨e2.symm, by omega⟩, if_pos e2]
    · rw [if_neg (fun h => e2 h.1.symm), if_neg e2]
      by_cases e3 : m = 16 + (fr / 2 * 4 + 1).toNat
      · rw [if_pos ⟨e3.symm, by omega⟩, if_pos e3]
      · rw [if_neg (fun h => e3 h.1.symm), if_neg e3]
        by_cases e4 : m = fr.toNat * 2 + 1
        · rw [if_pos ⟨e4.symm, by omega⟩, if_pos e4]
        · rw [if_neg (fun h => e4 h.1.symm), if_neg e4]
/-- what is so of a member's place behind each operation -/
structure Keep (zs0 : List Int) (j : Nat) (s : Vw) : Prop where
  zl : s.zs.length = 31
  nl : s.ng.length = 8
  gl : s.gn.length = 8
  or : s.gn.getD j false = true ∨ (memL s.zs j = true ∧ leafP s.zs j = leafP zs0 j ∧ s.ng.getD j false = false)
theorem Keep.step {zs0 : List Int} {j : Nat} (hj : j < 8) {s : Vw} (h : Keep zs0 j s) (fr : Int) {o : List Int} (he : errOp s fr o = 0) : Keep zs0 j (nextOp s o) := by
  obtain ⟨h1, h2, h3, h4⟩ := h
  unfold nextOp
  unfold errOp at he
  by_cases k1 : o.getD 0 0 = 1
  · rw [if_pos k1] at he ⊢
    obtain ⟨hf, hi1, hi2⟩ := errAdd_0 he
    obtain ⟨hf8, hfm⟩ := free_lt hf
    refine ⟨putL_length h1 rfl, by simp [h2], h3, ?_⟩
    rcases h4 with h4 | ⟨h5, h6, h7⟩
    · exact .inl h4
    · have hne : j ≠ freeN s.zs := fun e => by rw [← e, h5] at hfm; cases hfm
      refine .inr ⟨?_, ?_, ?_⟩
      · rw [memL_put h1 rfl hf8 hj, if_neg hne]; exact h5
      · rw [leafP_put h1 rfl hf8 hj, if_neg hne]; exact h6
      · show (s.ng.set (freeN s.zs) true).getD j false = false
        rw [getD_setB, if_neg (fun e => hne e.1.symm)]; exact h7
  rw [if_neg k1] at he ⊢
  by_cases k2 : o.getD 0 0 = 2
  · rw [if_pos k2] at he ⊢
    unfold errRem at he
    have hw : ¬ (o.getD 1 0 = fr ∨ memB s.zs (o.getD 1 0) = false) := fun hx => by rw [if_pos hx] at he; cases he
    have hm : memB s.zs (o.getD 1 0) = true := by
      cases hq : memB s.zs (o.getD 1 0) with
      | true => rfl
      | false => exact (hw (.inr hq)).elim
    obtain ⟨hb0, hb1⟩ := memB_bd hm
    obtain ⟨n, hn⟩ := Int.eq_ofNat_of_zero_le hb0
    rw [hn] at hb1 ⊢
    refine ⟨putL_length h1 rfl, by simp [h2], by simp [h3], ?_⟩
    by_cases hne : j = n
    · left
      show (s.gn.set (n : Int).toNat true).getD j false = true
      rw [Int.toNat_natCast, getD_setB, if_pos ⟨hne.symm, by omega⟩]
    · rcases h4 with h4 | ⟨h5, h6, h7⟩
      · left
        show (s.gn.set (n : Int).toNat true).getD j false = true
        rw [Int.toNat_natCast, getD_setB, if_neg (fun e => hne e.1.symm)]; exact h4
      · refine .inr ⟨?_, ?_, ?_⟩
        · rw [memL_put h1 rfl (by omega) hj, if_neg hne]; exact h5
        · rw [leafP_put h1 rfl (by omega) hj, if_neg hne]; exact h6
        · show (s.ng.set (n : Int).toNat false).getD j false = false
          rw [Int.toNat_natCast, getD_setB, if_neg (fun e => hne e.1.symm)]; exact h7
  rw [if_neg k2]
  by_cases k3 : o.getD 0 0 = 3
  · rw [if_pos k3]; exact ⟨h1, h2, h3, h4⟩
  rw [if_neg k3]
  by_cases k4 : o.getD 0 0 = 4
  · rw [if_pos k4]; exact ⟨h1, h2, h3, h4⟩
  rw [if_neg k4]
  exact ⟨h1, h2, h3, h4⟩
/-- what is so of the whole view behind each operation -/
structure Goes (zs0 : List Int) (s : Vw) : Prop where
  zl : s.zs.length = 31
  al : s.ad.length = 8
  nl : s.ng.length = 8
  t : isT s.zs = true
  adm : admTo s.zs s.ad 8 = true
  k : 1 ≤ s.k
  nd : ∀ m, 16 ≤ m → s.zs.getD m 0 = 0 ∨ s.zs.getD m 0 = zs0.getD m 0
  new : ∀ j, j < 8 → s.ng.getD j false = true → memL s.zs j = true ∧ s.zs.getD (16 + n1 (j : Nat)) 0 = 0 ∧ s.zs.getD (16 + n2 (j : Nat)) 0 = 0 ∧ s.zs.getD 23 0 = 0
theorem isT_iff (zs : List Int) : isT zs = true ↔ (∀ k, k < 8 → leafOK zs k = true) ∧ ∀ k, k < 15 → nodeOK zs k = true := by
  unfold isT
  rw [Bool.and_eq_true, List.all_eq_true, List.all_eq_true]
  simp only [List.mem_range]
theorem leafOK_is {zs : List Int} {k : Nat} {a b : Int} (h : leafP zs k = [a, b]) (ha : isI a = true) (hb : isI b = true) : leafOK zs k = true := by
  unfold leafOK; rw [h]; simp [ha, hb]
theorem leafOK_zero {zs : List Int} {k : Nat} (h : leafP zs k = [0, 0]) : leafOK zs k = true := by
  unfold leafOK; rw [h]; rfl
theorem leafOK_eq {zs zs' : List Int} {k : Nat} (h : leafP zs k = leafP zs' k) : leafOK zs k = leafOK zs' k := by
  unfold leafOK; rw [h]
theorem nodeOK_get {zs : List Int} {k : Nat} (hk : k < 15) : nodeOK zs k = (decide (zs.getD (16 + k) 0 = 0) || (!((k : Int).tmod 2 == 0) && isI (zs.getD (16 + k) 0))) := by
  unfold nodeOK; rw [nodeV_eq zs hk]
theorem isT_putK {zs xs : List Int} (hz : zs.length = 31) (h : isT zs = true) {i : Nat} (hi : i < 8) (hx : xs = [0, 0] ∨ ∃ a b, xs = [a, b] ∧ isI a = true ∧ isI b = true) : isT (putL zs xs (i : Nat)) = true := by
  have hx2 : xs.length = 2 := by rcases hx with rfl | ⟨a, b, rfl, _⟩ <;> rfl
  obtain ⟨h1, h2⟩ := (isT_iff zs).1 h
  refine (isT_iff _).2 ⟨fun k hk => ?_, fun k hk => ?_⟩
  · have e := leafP_put hz hx2 hi hk
    by_cases hki : k = i
    · rw [if_pos hki] at e
      rcases hx with rfl | ⟨a, b, rfl, ha, hb⟩
      · exact leafOK_zero e
      · exact leafOK_is e ha hb
    · rw [if_neg hki] at e
      rw [leafOK_eq e]; exact h1 k hk
  · have := h2 k hk
    rw [nodeOK_get hk] at this ⊢
    rw [putL_hi hz hx2 hi (by omega)]
    split
    · rfl
    · exact this
theorem memL_of {zs : List Int} {k : Nat} {a b : Int} (h : leafP zs k = [a, b]) (ha : isI a = true) : memL zs k = true := by
  unfold memL; rw [h]
  have := isI_ne ha
  simp [this]
theorem Goes.step {zs0 : List Int} {s : Vw} (h : Goes zs0 s) (fr : Int) {o : List Int} (he : errOp s fr o = 0) : Goes zs0 (nextOp s o) := by
  have hinv : Inv s := ⟨h.adm, h.zl, h.al⟩
  have hnx := nextOp_inv hinv fr he
  obtain ⟨h1, h2, h3, h4, h5, h6, h7, h8⟩ := h
  refine ⟨hnx.zl, hnx.al, ?_, ?_, hnx.adm, ?_, ?_, ?_⟩ <;> unfold nextOp <;> unfold errOp at he <;> by_cases k1 : o.getD 0 0 = 1
  · rw [if_pos k1]; simp [h3]
  · rw [if_neg k1]; split
    · simp [h3]
    · split
      · exact h3
      · split <;> exact h3
  · rw [if_pos k1] at he ⊢
    obtain ⟨hf, hi1, hi2⟩ := errAdd_0 he
    obtain ⟨hf8, hfm⟩ := free_lt hf
    exact isT_putK h1 h4 hf8 (.inr ⟨_, _, rfl, hi1, hi2⟩)
  · rw [if_neg k1] at he ⊢
    by_cases k2 : o.getD 0 0 = 2
    · rw [if_pos k2] at he ⊢
      unfold errRem at he
      have hm : memB s.zs (o.getD 1 0) = true := by
        cases hq : memB s.zs (o.getD 1 0) with
        | true => rfl
        | false => rw [if_pos (.inr hq)] at he; cases he
      obtain ⟨hb0, hb1⟩ := memB_bd hm
      obtain ⟨n, hn⟩ := Int.eq_ofNat_of_zero_le hb0
      rw [hn] at hb1 ⊢
      exact isT_putK h1 h4 (by omega) (.inl rfl)
    · rw [if_neg k2]; split
      · exact h4
      · split <;> exact h4
  · rw [if_pos k1]; exact h6
  · rw [if_neg k1] at he ⊢
    split
    · exact h6
    · next k2 =>
      rw [if_neg k2] at he
      split
      · exact h6
      · next k3 =>
        rw [if_neg k3] at he
        split
        · exact h6
        · next k4 =>
          rw [if_neg k4] at he
          unfold errLim at he
          show 1 ≤ o.getD 2 0
          by_cases hk : o.getD 2 0 < 1 ∨ o.getD 2 0 > 8
          · rw [if_pos hk] at he; cases he
          · omega
  · rw [if_pos k1] at he ⊢
    obtain ⟨hf, hi1, hi2⟩ := errAdd_0 he
    obtain ⟨hf8, hfm⟩ := free_lt hf
    intro m hm
    show (putL s.zs _ _).getD m 0 = 0 ∨ (putL s.zs _ _).getD m 0 = _
    rw [putL_hi h1 rfl hf8 hm]
    split
    · exact .inl rfl
    · exact h7 m hm
  · rw [if_neg k1] at he ⊢
    by_cases k2 : o.getD 0 0 = 2
    · rw [if_pos k2] at he ⊢
      unfold errRem at he
      have hm : memB s.zs (o.getD 1 0) = true := by
        cases hq : memB s.zs (o.getD 1 0) with
        | true => rfl
        | false => rw [if_pos (.inr hq)] at he; cases he
      obtain ⟨hb0, hb1⟩ := memB_bd hm
      obtain ⟨n, hn⟩ := Int.eq_ofNat_of_zero_le hb0
      rw [hn] at hb1 ⊢
      intro m hm
      show (putL s.zs _ _).getD m 0 = 0 ∨ (putL s.zs _ _).getD m 0 = _
      rw [putL_hi h1 rfl (by omega) hm]
      split
      · exact .inl rfl
      · exact h7 m hm
    · rw [if_neg k2]; split
      · exact h7
      · split <;> exact h7
  · rw [if_pos k1] at he ⊢
    obtain ⟨hf, hi1, hi2⟩ := errAdd_0 he
    obtain ⟨hf8, hfm⟩ := free_lt hf
    intro j hj hng
    have hng : (s.ng.set (freeN s.zs) true).getD j false = true := hng
    show memL (putL s.zs _ _) j = true ∧ (putL s.zs _ _).getD _ 0 = 0 ∧ (putL s.zs _ _).getD _ 0 = 0 ∧ (putL s.zs _ _).getD _ 0 = 0
    rw [putL_hi h1 rfl hf8 (by omega), putL_hi h1 rfl hf8 (by omega), putL_hi h1 rfl hf8 (by omega)]
    by_cases hje : j = freeN s.zs
    · subst hje
      refine ⟨memL_of (by rw [leafP_put h1 rfl hf8 hf8, if_pos rfl]) hi1, ?_, ?_, ?_⟩
      · rw [if_pos (.inl rfl)]
      · rw [if_pos (.inr (.inl rfl))]
      · rw [if_pos (.inr (.inr rfl))]
    · rw [getD_setB, if_neg (fun e => hje e.1.symm)] at hng
      obtain ⟨a1, a2, a3, a4⟩ := h8 j hj hng
      refine ⟨by rw [memL_put h1 rfl hf8 hj, if_neg hje]; exact a1, ?_, ?_, ?_⟩
      · split
        · rfl
        · exact a2
      · split
        · rfl
        · exact a3
      · split
        · rfl
        · exact a4
  · rw [if_neg k1] at he ⊢
    by_cases k2 : o.getD 0 0 = 2
    · rw [if_pos k2] at he ⊢
      unfold errRem at he
      have hm : memB s.zs (o.getD 1 0) = true := by
        cases hq : memB s.zs (o.getD 1 0) with
        | true => rfl
        | false => rw [if_pos (.inr hq)] at he; cases he
      obtain ⟨hb0, hb1⟩ := memB_bd hm
      obtain ⟨n, hn⟩ := Int.eq_ofNat_of_zero_le hb0
      rw [hn] at hb1 ⊢
      intro j hj hng
      have hng : (s.ng.set (n : Int).toNat false).getD j false = true := hng
      rw [Int.toNat_natCast] at hng
      show memL (putL s.zs _ _) j = true ∧ (putL s.zs _ _).getD _ 0 = 0 ∧ (putL s.zs _ _).getD _ 0 = 0 ∧ (putL s.zs _ _).getD _ 0 = 0
      rw [putL_hi h1 rfl (by omega) (by omega), putL_hi h1 rfl (by omega) (by omega), putL_hi h1 rfl (by omega) (by omega)]
      by_cases hje : j = n
      · subst hje
        rw [getD_setB, if_pos ⟨rfl, by omega⟩] at hng
        cases hng
      · rw [getD_setB, if_neg (fun e => hje e.1.symm)] at hng
        obtain ⟨a1, a2, a3, a4⟩ := h8 j hj hng
        refine ⟨by rw [memL_put h1 rfl (by omega) hj, if_neg hje]; exact a1, ?_, ?_, ?_⟩
        · split
          · rfl
          · exact a2
        · split
          · rfl
          · exact a3
        · split
          · rfl
          · exact a4
    · rw [if_neg k2]; split
      · exact h8
      · split <;> exact h8
theorem mayV_parts {e : Int} {zs : List Int} {ad : List Bool} {k : Int} : mayV e zs ad k = true ↔ 0 ≤ e ∧ e ≤ 1099511627776 ∧ isT zs = true ∧ admTo zs ad 8 = true ∧ 1 ≤ k ∧ k ≤ ((cntB ad : Nat) : Int) := by
  unfold mayV
  simp only [Bool.and_eq_true, decide_eq_true_eq]
  constructor
  · rintro ⟨⟨⟨⟨⟨a, b⟩, c⟩, d⟩, e⟩, f⟩; exact ⟨a, b, c, d, e, f⟩
  · rintro ⟨a, b, c, d, e, f⟩; exact ⟨⟨⟨⟨⟨a, b⟩, c⟩, d⟩, e⟩, f⟩
/-- the view behind operations that are done -/
theorem goes_of {e : Int} {zs : List Int} {ad : List Bool} {k : Int} {fr : Int} {ops : List Int} {n : Nat} (hz : zs.length = 31) (ha : ad.length = 8) (h : (doR e ⟨zs, ad, k, F8, F8⟩ fr ops n).1 = 0) :
    Goes zs (doR e ⟨zs, ad, k, F8, F8⟩ fr ops n).2 ∧ (doR e ⟨zs, ad, k, F8, F8⟩ fr ops n).2.k ≤ ((cntB (doR e ⟨zs, ad, k, F8, F8⟩ fr ops n).2.ad : Nat) : Int) ∧ mayV e zs ad k = true ∧ memB zs fr = true := by
  obtain ⟨h1, h2, h3, h4, h5, h6, h7⟩ := doR_yes h
  obtain ⟨_, _, m3, m4, m5, _⟩ := mayV_parts.1 h1
  rw [h6]
  refine ⟨runE_keeps (I := Goes zs) (fun s o hs he => hs.step fr he) _ _ _ ⟨hz, ha, rfl, m3, m4, m5, fun m _ => .inr rfl, fun j hj hn => ?_⟩ h5, h7, h1, h4⟩
  have : F8.getD j false = false := by rcases j with _ | _ | _ | _ | _ | _ | _ | _ | j <;> first | rfl | omega
  rw [show (⟨zs, ad, k, F8, F8⟩ : Vw).ng = F8 from rfl, this] at hn
  cases hn
theorem keep_of {e : Int} {zs : List Int} {ad : List Bool} {k : Int} {fr : Int} {ops : List Int} {n : Nat} (hz : zs.length = 31) {j : Nat} (hj : j < 8) (hm : memL zs j = true) (h : (doR e ⟨zs, ad, k, F8, F8⟩ fr ops n).1 = 0) : Keep zs j (doR e ⟨zs, ad, k, F8, F8⟩ fr ops n).2 := by
  obtain ⟨h1, h2, h3, h4, h5, h6, h7⟩ := doR_yes h
  rw [h6]
  have : F8.getD j false = false := by rcases j with _ | _ | _ | _ | _ | _ | _ | _ | j <;> first | rfl | omega
  exact runE_keeps (I := Keep zs j) (fun s o hs he => hs.step hj fr he) _ _ _ ⟨hz, rfl, rfl, .inr ⟨hm, rfl, this⟩⟩ h5
end Go.Proofs.Ytegjkfaokpjojaa
