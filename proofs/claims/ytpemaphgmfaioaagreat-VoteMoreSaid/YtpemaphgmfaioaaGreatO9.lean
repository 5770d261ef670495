/-
  Approvals: as many as the threshold are enough.
-/
import Derived.Test.YtpemaphgmfaioaaGreatO6
namespace Go.Proofs.YtpemaphgmfaioaaGreat
set_option maxRecDepth 100000
open Go.RowKit Pm
set_option linter.unusedVariables false
set_option linter.unusedSimpArgs false
attribute [local irreducible] condK LoopA regA powI scal isI putL doR mayV numsB viewHV numB deriveW fourB mulI askW nonceW sigE sigS verW paperV admB someZ someA keyB keyV appE

/-- how many of the first admins approve -/
def votC (wh : List Bool) : Nat → Nat
  | 0 => 0
  | i + 1 => if wh.getD i false = true then votC wh i + 1 else votC wh i
/-- their approvals -/
def votL (P : List UInt8) (wh : List Bool) : Nat → List Int
  | 0 => []
  | i + 1 => if wh.getD i false = true then votL P wh i ++ [((i : Nat) : Int), sigE (scal (keyB (i : Nat))) P, sigS (scal (keyB (i : Nat))) P] else votL P wh i
theorem votL_len (P : List UInt8) (wh : List Bool) : ∀ i, (votL P wh i).length = votC wh i * 3
  | 0 => rfl
  | i + 1 => by
    have := votL_len P wh i
    simp only [votL, votC]
    split <;> simp [this, Nat.add_mul]
theorem votC_le (wh : List Bool) : ∀ i, votC wh i ≤ i
  | 0 => Nat.le_refl _
  | i + 1 => by
    have := votC_le wh i
    simp only [votC]
    split <;> omega
theorem getD_app_l {L M : List Int} {i : Nat} (h : i < L.length) : (L ++ M).getD i 0 = L.getD i 0 := by
  rw [List.getD_eq_getElem?_getD, List.getD_eq_getElem?_getD, List.getElem?_append_left h]
theorem getD_app_r {L M : List Int} {i : Nat} (h : L.length ≤ i) : (L ++ M).getD i 0 = M.getD (i - L.length) 0 := by
  rw [List.getD_eq_getElem?_getD, List.getD_eq_getElem?_getD, List.getElem?_append_right h]
/-- each of them is an admin's, the one ahead an elder's -/
theorem votL_at (P : List UInt8) (wh : List Bool) : ∀ i j, j < votC wh i → ∃ q : Nat, q < i ∧ (votL P wh i).getD (j * 3) 0 = (q : Nat) ∧ (votL P wh i).getD (j * 3 + 1) 0 = sigE (scal (keyB (q : Nat))) P ∧ (votL P wh i).getD (j * 3 + 2) 0 = sigS (scal (keyB (q : Nat))) P ∧ lastJ (votL P wh i) j < (q : Nat)
  | 0, j, h => absurd h (by simp [votC])
  | i + 1, j, h => by
    have hl := votL_len P wh i
    simp only [votC, votL] at h ⊢
    by_cases hw : wh.getD i false = true
    · rw [if_pos hw] at h
      rw [if_pos hw]
      have hla : ∀ j, j ≤ votC wh i → lastJ (votL P wh i ++ [((i : Nat) : Int), sigE (scal (keyB (i : Nat))) P, sigS (scal (keyB (i : Nat))) P]) j = lastJ (votL P wh i) j := fun j hj => by
        cases j with
        | zero => rfl
        | succ j => exact getD_app_l (by rw [hl]; omega)
      by_cases hj : j < votC wh i
      · obtain ⟨q, h1, h2, h3, h4, h5⟩ := votL_at P wh i j hj
        refine ⟨q, by omega, ?_, ?_, ?_, ?_⟩
        · rw [getD_app_l (by rw [hl]; omega), h2]
        · rw [getD_app_l (by rw [hl]; omega), h3]
        · rw [getD_app_l (by rw [hl]; omega), h4]
        · rw [hla j (by omega)]; exact h5
      · obtain rfl : j = votC wh i := by omega
        refine ⟨i, by omega, ?_, ?_, ?_, ?_⟩
        · rw [getD_app_r (by rw [hl]; omega), hl, Nat.sub_self]; rfl
        · rw [getD_app_r (by rw [hl]; omega), hl, show votC wh i * 3 + 1 - votC wh i * 3 = 1 by omega]; rfl
        · rw [getD_app_r (by rw [hl]; omega), hl, show votC wh i * 3 + 2 - votC wh i * 3 = 2 by omega]; rfl
        · rw [hla _ (Nat.le_refl _)]
          cases hc : votC wh i with
          | zero => simp only [lastJ]; omega
          | succ c =>
            obtain ⟨q, h1, h2, _⟩ := votL_at P wh i c (by omega)
            show (votL P wh i).getD (c * 3) 0 < _
            rw [h2]; omega
    · rw [if_neg hw] at h
      rw [if_neg hw]
      obtain ⟨q, h1, h2, h3, h4, h5⟩ := votL_at P wh i j h
      exact ⟨q, by omega, h2, h3, h4, h5⟩
theorem chk_list {e : Int} {zs : List Int} {ad : List Bool} {k : Int} {ch : List UInt8} {fr : Int} {ops : List Int} {n : Nat} {vs : List Int} {m : Nat} (hn : n ≠ 0) (hd : (doR e ⟨zs, ad, k, F8, F8⟩ fr ops n).1 = 0) (h : ∀ j, j < m → passB zs ad (paperV e zs ad k ch fr ops) vs j = true) :
    chkV e zs ad k ch fr ops n vs m = if (m : Int) < k then 8 else 0 := by
  unfold chkV
  rw [if_neg hn, if_neg (fun g => g hd), chkE_all h, if_neg (fun g => g rfl)]
theorem chk_six {e : Int} {zs : List Int} {ad : List Bool} {k : Int} {ch : List UInt8} {fr : Int} {ops : List Int} {n : Nat} {a b c a' b' c' : Int} {rest : List Int} {m : Nat} (hn : n ≠ 0) (hd : (doR e ⟨zs, ad, k, F8, F8⟩ fr ops n).1 = 0) (hm : 2 ≤ m)
    (h : passB zs ad (paperV e zs ad k ch fr ops) (a :: b :: c :: a' :: b' :: c' :: rest) 0 = true) (hlt : ¬ a < a') : chkV e zs ad k ch fr ops n (a :: b :: c :: a' :: b' :: c' :: rest) m = 6 := by
  have hf : ¬ passB zs ad (paperV e zs ad k ch fr ops) (a :: b :: c :: a' :: b' :: c' :: rest) 1 = true := fun hp => by
    have h2 : (admB ad a' && decide (a < a') && verW (zs.getD (a'.toNat * 2) 0) (paperV e zs ad k ch fr ops) b' c') = true := hp
    rw [decide_eq_false hlt, Bool.and_false, Bool.false_and] at h2
    cases h2
  have hc : codeJ ad (a :: b :: c :: a' :: b' :: c' :: rest) 1 = 6 := by
    show (if (admB ad a' && decide (a < a')) = true then (4 : Int) else 6) = 6
    rw [decide_eq_false hlt, Bool.and_false]; rfl
  have h0 : ∀ j, j < 1 → passB zs ad (paperV e zs ad k ch fr ops) (a :: b :: c :: a' :: b' :: c' :: rest) j = true := fun j hj => by
    obtain rfl : j = 0 := by omega
    exact h
  have hE := chkE_at (N := 1) (m := m) (by omega) h0 hf
  unfold chkV
  rw [if_neg hn, if_neg (fun g => g hd), hE, hc]; rfl
theorem vot_pass {p q : Nat} {k : Int} {ch : List UInt8} {fr : Int} {ops : List Int} {wh : List Bool} (hq : q ≤ p) (hp : p ≤ 8) (j : Nat) (h : j < votC wh q) :
    passB (someZ (min p 8)) (someA (q : Nat) (min p 8)) (paperV 0 (someZ (min p 8)) (someA (q : Nat) (min p 8)) k ch fr ops) (votL (paperV 0 (someZ (min p 8)) (someA (q : Nat) (min p 8)) k ch fr ops) wh q) j = true := by
  generalize hP : paperV 0 (someZ (min p 8)) (someA (q : Nat) (min p 8)) k ch fr ops = P
  obtain ⟨i, h1, h2, h3, h4, h5⟩ := votL_at P wh q j h
  unfold passB
  rw [h2, h3, h4, adm_at p q i (by omega) h1 hp, decide_eq_true h5, ← key_at p q 0 i (by omega) hp, verW_own _ _ (scal_bd _)]; rfl
/-- the first two exchanged, or one of them twice -/
theorem vot_turned {p q : Nat} {k : Int} {ch : List UInt8} {fr : Int} {ops : List Int} {n : Nat} {wh : List Bool} (hn : n ≠ 0) (hd : (doR 0 ⟨someZ (min p 8), someA (q : Nat) (min p 8), k, F8, F8⟩ fr ops n).1 = 0) (hq : q ≤ p) (hp : p ≤ 8) (h : 2 ≤ votC wh q) :
    ∃ (a b c a' b' c' : Int) (rest : List Int), votL (paperV 0 (someZ (min p 8)) (someA (q : Nat) (min p 8)) k ch fr ops) wh q = a :: b :: c :: a' :: b' :: c' :: rest ∧
      chkV 0 (someZ (min p 8)) (someA (q : Nat) (min p 8)) k ch fr ops n (a' :: b' :: c' :: a :: b :: c :: rest) (votC wh q) = 6 ∧
      chkV 0 (someZ (min p 8)) (someA (q : Nat) (min p 8)) k ch fr ops n (a' :: b' :: c' :: a' :: b' :: c' :: rest) (votC wh q) = 6 := by
  have p0 := vot_pass (k := k) (ch := ch) (fr := fr) (ops := ops) (wh := wh) hq hp 0 (by omega)
  have p1 := vot_pass (k := k) (ch := ch) (fr := fr) (ops := ops) (wh := wh) hq hp 1 (by omega)
  have hl := votL_len (paperV 0 (someZ (min p 8)) (someA (q : Nat) (min p 8)) k ch fr ops) wh q
  generalize hL : votL (paperV 0 (someZ (min p 8)) (someA (q : Nat) (min p 8)) k ch fr ops) wh q = L at p0 p1 hl
  rcases L with _ | ⟨a, _ | ⟨b, _ | ⟨c, _ | ⟨a', _ | ⟨b', _ | ⟨c', rest⟩⟩⟩⟩⟩⟩ <;> simp only [List.length_nil, List.length_cons] at hl <;> try omega
  have q1 : (admB (someA (q : Nat) (min p 8)) a' && decide (a < a') && verW ((someZ (min p 8)).getD (a'.toNat * 2) 0) (paperV 0 (someZ (min p 8)) (someA (q : Nat) (min p 8)) k ch fr ops) b' c') = true := p1
  rw [Bool.and_eq_true, Bool.and_eq_true, decide_eq_true_eq] at q1
  obtain ⟨⟨r1, r2⟩, r3⟩ := q1
  obtain ⟨b1, b2⟩ := adm_bd r1
  have hp0 : ∀ x y z (t : List Int), passB (someZ (min p 8)) (someA (q : Nat) (min p 8)) (paperV 0 (someZ (min p 8)) (someA (q : Nat) (min p 8)) k ch fr ops) (a' :: b' :: c' :: x :: y :: z :: t) 0 = true := fun x y z t => by
    show (admB (someA (q : Nat) (min p 8)) a' && decide ((-1 : Int) < a') && verW ((someZ (min p 8)).getD (a'.toNat * 2) 0) (paperV 0 (someZ (min p 8)) (someA (q : Nat) (min p 8)) k ch fr ops) b' c') = true
    rw [r1, r3, decide_eq_true (show (-1 : Int) < a' by omega)]; rfl
  exact ⟨a, b, c, a', b', c', rest, rfl, chk_six hn hd h (hp0 _ _ _ _) (by omega), chk_six hn hd h (hp0 _ _ _ _) (by omega)⟩
theorem loc1 {k : IntKind} {n b : Nat} {L : List Int} (h : b < n) : loc [.ints k n L] b = some ([], .ints k n L, [], b) := if_pos h
attribute [local irreducible] votC votL chkV
set_option maxHeartbeats 4000000 in
theorem voteEnough_ok (m a k : Int) (wh : List Bool) (hwh : wh.length = 8) (ops : List Int) (n : Nat) (tn : Bool) :
    FnO 4 [.v (.int .i64 m), .v (.int .i64 a), .v (.int .i64 k), .agg [.bools 8 wh], .row n [.ints .i64 (n * 5) ops], .v (.bool tn)] (.d (.v (.bool true))) := by
  refine fnA (E := envP7) Tryz.func4 Tryz.ntmps4 ?_
  by_cases h1 : m < 2
  · refine agox ?_; (try with_reducible exact True.intro)
  by_cases h2 : m > 8
  · refine agox ?_; (try with_reducible exact True.intro)
  by_cases h3 : a < 1
  · refine agox ?_; (try with_reducible exact True.intro)
  by_cases h4 : a > m
  · refine agox ?_; (try with_reducible exact True.intro)
  by_cases h5 : k < 1
  · refine agox ?_; (try with_reducible exact True.intro)
  by_cases h6 : k > a
  · refine agox ?_; (try with_reducible exact True.intro)
  by_cases h7 : n = 0
  · subst h7
    refine agox ?_; (try with_reducible exact True.intro)
  have h70 : ((n : Int) == 0) = false := by simpa using h7
  by_cases h8 : (n : Int) > 4
  · refine agox ?_; (try with_reducible exact True.intro)
  obtain ⟨p, rfl⟩ := Int.eq_ofNat_of_zero_le (show 0 ≤ m by omega)
  obtain ⟨q, rfl⟩ := Int.eq_ofNat_of_zero_le (show 0 ≤ a by omega)
  have hn4 : n ≤ 4 := by omega
  by_cases hd : (doR 0 ⟨someZ (min p 8), someA (q : Nat) (min p 8), k, F8, F8⟩ 0 ops n).1 = 0
  · have hd1 := decide_eq_true hd
    have z0 : votC wh 0 = 0 := by rw [votC]
    have z1 : votL (paperV 0 (someZ (min p 8)) (someA (q : Nat) (min p 8)) k Z32 0 ops) wh 0 = [] := by rw [votL]
    have hds : (doR 0 ⟨someZ (min p 8), someA (q : Nat) (min p 8), k, F8, F8⟩ 0 ops n).1 = 0 ∧ n ≠ 0 := ⟨hd, h7⟩
    clear hd h7
    refine agox ?_; (try with_reducible exact True.intro)
    refine StopL.mk (loop_forN [1, 2, 4, 5, 9, 12, 13, 18, 19] [0, 1, 5] 18 39 3 [.ints .i64 0 []] q (fun j => ⟨[.dead, .d (.v (.int .i64 (q : Nat))), .d (.v (.int .i64 k)), .dead, .d (.row n [.ints .i64 (n * 5) ops]), .d (.v (.bool tn)), .dead, .dead, .dead, .ptr 0 0, .dead, .dead, .d (.v (.bool false)), .ptr 1 0, .dead, .dead, .dead, .dead, .own 2 (votC wh j), .d (.v (.int .i64 (j : Nat))), .dead, .dead, .dead, .dead, .dead, .dead, .dead, .dead, .dead, .dead, .dead, .dead, .dead, .dead, .dead, .dead, .dead, .dead, .dead, .dead, .dead, .dead, .dead, .dead, .dead, .dead, .dead, .dead, .dead, .dead, .dead, .dead, .dead, .dead, .dead, .dead, .dead, .dead, .dead, .dead, .dead, .dead, .dead, .dead, .dead, .dead, .dead, .dead, .dead, .dead, .dead, .dead, .dead, .dead, .dead, .dead, .dead, .dead, .dead, .dead, .dead, .dead, .dead, .dead, .dead, .dead, .dead, .dead, .dead, .dead, .dead, .dead, .dead, .dead, .dead, .dead, .dead, .dead, .dead, .dead, .dead, .dead, .dead, .dead, .dead, .dead, .dead, .dead, .dead, .dead, .dead, .dead, .dead, .dead, .dead, .dead, .dead, .dead, .dead, .dead, .dead, .dead, .dead, .dead, .dead, .dead, .dead, .dead, .dead, .dead, .dead, .dead, .dead, .dead, .dead, .dead, .dead, .dead, .dead, .dead, .dead, .dead, .dead, .dead, .dead, .dead, .dead, .dead, .dead, .dead, .dead, .dead, .dead, .dead, .dead], [some (.var [.bools 8 wh]), some (.var (vSegs 0 (someZ (min p 8)) (someA (q : Nat) (min p 8)) k Z32)), some (.sl 39 3 (votC wh j) [.ints .i64 (votC wh j * 3) (votL (paperV 0 (someZ (min p 8)) (someA (q : Nat) (min p 8)) k Z32 0 ops) wh j)])]⟩) ?_ (h2 := by rw [z0, z1]; exact rfl))
    clear z0 z1
    intro j hj hl
    by_cases hjq : j < q
    · have e1 := app_some p q k j (by omega) hjq (by omega) 0 ops n hds.2
      rw [hds.1] at e1
      have e2 := decide_eq_true e1
      obtain ⟨b1, b2⟩ := scal_bd (keyB (j : Nat))
      have hj8 : j < 8 := by omega
      clear e1
      cases hw : wh.getD j false with
      | true =>
        have v1 : votC wh (j + 1) = votC wh j + 1 := by rw [votC, if_pos hw]
        have v2 : votL (paperV 0 (someZ (min p 8)) (someA (q : Nat) (min p 8)) k Z32 0 ops) wh (j + 1) = votL (paperV 0 (someZ (min p 8)) (someA (q : Nat) (min p 8)) k Z32 0 ops) wh j ++ [((j : Nat) : Int), sigE (scal (keyB (j : Nat))) (paperV 0 (someZ (min p 8)) (someA (q : Nat) (min p 8)) k Z32 0 ops), sigS (scal (keyB (j : Nat))) (paperV 0 (someZ (min p 8)) (someA (q : Nat) (min p 8)) k Z32 0 ops)] := by rw [votL, if_pos hw]
        have hC8 : votC wh j ≤ j := votC_le wh j
        refine agox ?_; (try with_reducible exact True.intro)
        refine hl.go hjq [1, 2, 4, 5, 9, 12, 13, 18, 19] [0, 1, 2] ?_
        show gather _ _ _ = St.mk _ _
        rw [v1, v2, Nat.add_mul, Nat.one_mul]
        rfl
      | false =>
        have v1 : votC wh (j + 1) = votC wh j := by rw [votC, if_neg (by rw [hw]; decide)]
        have v2 : votL (paperV 0 (someZ (min p 8)) (someA (q : Nat) (min p 8)) k Z32 0 ops) wh (j + 1) = votL (paperV 0 (someZ (min p 8)) (someA (q : Nat) (min p 8)) k Z32 0 ops) wh j := by rw [votL, if_neg (by rw [hw]; decide)]
        refine agox ?_; (try with_reducible exact True.intro)
        refine hl.go hjq [1, 2, 4, 5, 9, 12, 13, 18, 19] [0, 1, 2] ?_
        show gather _ _ _ = St.mk _ _
        rw [v1, v2]
        rfl
    · obtain rfl : j = q := by omega
      have hc8 : votC wh j ≤ j := votC_le wh j
      have hX := chk_list (k := k) (ch := Z32) (vs := votL (paperV 0 (someZ (min p 8)) (someA (j : Nat) (min p 8)) k Z32 0 ops) wh j) (m := votC wh j) hds.2 hds.1 (vot_pass (by omega) (by omega))
      have hT := vot_turned (ch := Z32) (wh := wh) hds.2 hds.1 (show j ≤ p by omega) (by omega)
      have hj8 : j ≤ 8 := by omega
      clear hl hds hd1 h70 hn4
      generalize hP : votL (paperV 0 (someZ (min p 8)) (someA (j : Nat) (min p 8)) k Z32 0 ops) wh j = L at *
      generalize votC wh j = c at *
      clear hP
      replace hX : chkV 0 (someZ (min p 8)) (someA (j : Nat) (min p 8)) k [0, 0, 0, 0, 0, 0, 0, 0, 0, 0, 0, 0, 0, 0, 0, 0, 0, 0, 0, 0, 0, 0, 0, 0, 0, 0, 0, 0, 0, 0, 0, 0] 0 ops n L c = if (c : Int) < k then 8 else 0 := hX
      by_cases hk : (c : Int) < k
      · rw [if_pos hk] at hX
        have hk1 : decide ((c : Int) ≥ k) = false := decide_eq_false (by omega)
        by_cases h2 : (c : Int) ≥ 2
        · cases tn with
          | true =>
            obtain ⟨x0, x1, x2, x3, x4, x5, rest, rfl, t1, t2⟩ := hT (by omega)
            clear hT
            replace t1 : chkV 0 (someZ (min p 8)) (someA (j : Nat) (min p 8)) k [0, 0, 0, 0, 0, 0, 0, 0, 0, 0, 0, 0, 0, 0, 0, 0, 0, 0, 0, 0, 0, 0, 0, 0, 0, 0, 0, 0, 0, 0, 0, 0] 0 ops n (x3 :: x4 :: x5 :: x0 :: x1 :: x2 :: rest) c = 6 := t1
            replace t2 : chkV 0 (someZ (min p 8)) (someA (j : Nat) (min p 8)) k [0, 0, 0, 0, 0, 0, 0, 0, 0, 0, 0, 0, 0, 0, 0, 0, 0, 0, 0, 0, 0, 0, 0, 0, 0, 0, 0, 0, 0, 0, 0, 0] 0 ops n (x3 :: x4 :: x5 :: x3 :: x4 :: x5 :: rest) c = 6 := t2
            refine agox ?_; (try with_reducible exact True.intro)
            generalize hp : loc _ _ = o
            obtain rfl := hp.symm.trans (loc1 (by omega))
            clear hp
            refine agox ?_; (try with_reducible exact True.intro)
            generalize hp : loc _ _ = o
            obtain rfl := hp.symm.trans (loc1 (by omega))
            clear hp
            refine agox ?_; (try with_reducible exact True.intro)
            generalize hp : loc _ _ = o
            obtain rfl := hp.symm.trans (loc1 (by omega))
            clear hp
            refine agox ?_; (try with_reducible exact True.intro)
          | false =>
            clear hT
            refine agox ?_; (try with_reducible exact True.intro)
        · clear hT
          refine agox ?_; (try with_reducible exact True.intro)
      · rw [if_neg hk] at hX
        have hk1 : decide ((c : Int) ≥ k) = true := decide_eq_true (by omega)
        by_cases h2 : (c : Int) ≥ 2
        · cases tn with
          | true =>
            obtain ⟨x0, x1, x2, x3, x4, x5, rest, rfl, t1, t2⟩ := hT (by omega)
            clear hT
            replace t1 : chkV 0 (someZ (min p 8)) (someA (j : Nat) (min p 8)) k [0, 0, 0, 0, 0, 0, 0, 0, 0, 0, 0, 0, 0, 0, 0, 0, 0, 0, 0, 0, 0, 0, 0, 0, 0, 0, 0, 0, 0, 0, 0, 0] 0 ops n (x3 :: x4 :: x5 :: x0 :: x1 :: x2 :: rest) c = 6 := t1
            replace t2 : chkV 0 (someZ (min p 8)) (someA (j : Nat) (min p 8)) k [0, 0, 0, 0, 0, 0, 0, 0, 0, 0, 0, 0, 0, 0, 0, 0, 0, 0, 0, 0, 0, 0, 0, 0, 0, 0, 0, 0, 0, 0, 0, 0] 0 ops n (x3 :: x4 :: x5 :: x3 :: x4 :: x5 :: rest) c = 6 := t2
            refine agox ?_; (try with_reducible exact True.intro)
            generalize hp : loc _ _ = o
            obtain rfl := hp.symm.trans (loc1 (by omega))
            clear hp
            refine agox ?_; (try with_reducible exact True.intro)
            generalize hp : loc _ _ = o
            obtain rfl := hp.symm.trans (loc1 (by omega))
            clear hp
            refine agox ?_; (try with_reducible exact True.intro)
            generalize hp : loc _ _ = o
            obtain rfl := hp.symm.trans (loc1 (by omega))
            clear hp
            refine agox ?_; (try with_reducible exact True.intro)
          | false =>
            clear hT
            refine agox ?_; (try with_reducible exact True.intro)
        · clear hT
          refine agox ?_; (try with_reducible exact True.intro)
  · have hd1 := decide_eq_false hd
    have hd2 := bne_iff_ne.2 hd
    clear hd h7
    refine agox ?_; (try with_reducible exact True.intro)
theorem ra_bools8 {S : Nat → Prop} {w : World} {bs : List Bool} (h : bs.length = 8) : RA S w (.agg [.bools 8 bs]) (.agg (bs.map Value.bool).toArray) := .agg (.ofBools h rfl)
theorem voteEnough_walk {w : World} (m : Int) (hm : (Lit.int .i64 m).wf = true) (a : Int) (ha : (Lit.int .i64 a).wf = true) (k : Int) (hk : (Lit.int .i64 k).wf = true) (wh : List Bool) (hw : wh.length = 8) (l : Value) (n : Nat) (zs : List Int) (hn : n ≤ 140737488351232) (hl : RA (fun _ => True) w (.row n [.ints .i64 (n * 5) zs]) l) (tn : Bool) :
    Calls Tryz.prog 4 #[.int .i64 m, .int .i64 a, .int .i64 k, .agg (wh.map Value.bool).toArray, l, .bool tn] w fun e w' => e = .returned (.bool true) ∧ Below w.heap.size w w' :=
  law_of_fn (voteEnough_ok m a k wh hw zs n tn) gok_nil6 (.cons (.v _) (.cons (.v _) (.cons (.v _) (.cons (ra_bools8 hw) (.cons hl (.cons (.v _) .nil))))))
end Go.Proofs.YtpemaphgmfaioaaGreat
