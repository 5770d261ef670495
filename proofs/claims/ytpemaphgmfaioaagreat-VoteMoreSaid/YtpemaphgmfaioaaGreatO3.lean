/-
  Approvals: whether they are enough.
-/
import Derived.Test.YtpemaphgmfaioaaGreatO2
namespace Go.Proofs.YtpemaphgmfaioaaGreat
set_option maxRecDepth 100000
open Go.RowKit Pm
set_option linter.unusedVariables false
set_option linter.unusedSimpArgs false
attribute [local irreducible] condK LoopA regA powI scal isI putL doR mayV numsB viewHV numB deriveW fourB mulI askW nonceW sigE sigS verW paperV admB

/-- the admin ahead of the j-th -/
def lastJ (vs : List Int) : Nat → Int
  | 0 => -1
  | j + 1 => vs.getD (j * 3) 0
/-- is the j-th approval as it must be? -/
def passB (zs : List Int) (ad : List Bool) (p : List UInt8) (vs : List Int) (j : Nat) : Bool :=
  admB ad (vs.getD (j * 3) 0) && decide (lastJ vs j < vs.getD (j * 3) 0) && verW (zs.getD ((vs.getD (j * 3) 0).toNat * 2) 0) p (vs.getD (j * 3 + 1) 0) (vs.getD (j * 3 + 2) 0)
def codeJ (ad : List Bool) (vs : List Int) (j : Nat) : Int := if (admB ad (vs.getD (j * 3) 0) && decide (lastJ vs j < vs.getD (j * 3) 0)) = true then 4 else 6
def chkE (zs : List Int) (ad : List Bool) (p : List UInt8) (vs : List Int) (m : Nat) : Int :=
  if idxP (fun j => !passB zs ad p vs j) m < 0 then 0 else codeJ ad vs (idxP (fun j => !passB zs ad p vs j) m).toNat
def chkV (e : Int) (zs : List Int) (ad : List Bool) (k : Int) (ch : List UInt8) (fr : Int) (ops : List Int) (n : Nat) (vs : List Int) (m : Nat) : Int :=
  if n = 0 then (if m = 0 then 0 else 8) else if (doR e ⟨zs, ad, k, F8, F8⟩ fr ops n).1 ≠ 0 then (doR e ⟨zs, ad, k, F8, F8⟩ fr ops n).1 else
  if chkE zs ad (paperV e zs ad k ch fr ops) vs m ≠ 0 then chkE zs ad (paperV e zs ad k ch fr ops) vs m else if (m : Int) < k then 8 else 0
theorem first_noO {p : Nat → Prop} : ∀ (n : Nat), ∃ N, N ≤ n ∧ (∀ j, j < N → p j) ∧ (N = n ∨ (N < n ∧ ¬ p N))
  | 0 => ⟨0, Nat.le_refl _, fun j hj => absurd hj (by omega), .inl rfl⟩
  | n + 1 => by
    obtain ⟨N, h1, h2, h3⟩ := first_noO (p := p) n
    rcases h3 with rfl | ⟨h3, h4⟩
    · by_cases h : p N
      · exact ⟨N + 1, Nat.le_refl _, fun j hj => by
          rcases Nat.lt_or_ge j N with h5 | h5
          · exact h2 j h5
          · exact (show j = N by omega) ▸ h, .inl rfl⟩
      · exact ⟨N, by omega, h2, .inr ⟨by omega, h⟩⟩
    · exact ⟨N, by omega, h2, .inr ⟨by omega, h4⟩⟩
theorem chkE_all {zs : List Int} {ad : List Bool} {p : List UInt8} {vs : List Int} {m : Nat} (h : ∀ j, j < m → passB zs ad p vs j = true) : chkE zs ad p vs m = 0 := by
  unfold chkE
  rw [idxP_none fun j hj => by rw [h j hj]; rfl, if_pos (by decide)]
theorem chkE_at {zs : List Int} {ad : List Bool} {p : List UInt8} {vs : List Int} {m N : Nat} (hN : N < m) (h : ∀ j, j < N → passB zs ad p vs j = true) (hf : ¬ passB zs ad p vs N = true) : chkE zs ad p vs m = codeJ ad vs N := by
  unfold chkE
  rw [idxP_at hN (by simpa using hf) fun j hj => by rw [h j hj]; rfl, if_neg (by omega), Int.toNat_natCast]
attribute [local irreducible] chkE
theorem codeJ_ne (ad : List Bool) (vs : List Int) (j : Nat) : codeJ ad vs j ≠ 0 := by unfold codeJ; split <;> decide
theorem three_get (L : List Int) (i k : Nat) (hk : k < 3) : ((L.drop i).take 3).getD k 0 = L.getD (i + k) 0 := by
  rw [List.getD_eq_getElem?_getD, List.getElem?_take, if_pos hk, List.getElem?_drop, ← List.getD_eq_getElem?_getD]
/-- approvals that are handed in -/
def votK : A → (Nat → List Int → Prop) → Prop
  | .row n [.ints .i64 m vs], K => m = n * 3 ∧ n ≤ 1000000 ∧ K n vs
  | .v (.slice none 0 0), K => K 0 []
  | _, _ => False
theorem votK_spec {x : A} {K : Nat → List Int → Prop} (h : votK x K) : ∃ n vs, n ≤ 1000000 ∧ K n vs ∧ ∀ {S : Nat → Prop} {w : World} {v : Value}, RA S w x v → RA S w (.row n [.ints .i64 (n * 3) vs]) v := by
  unfold votK at h
  split at h
  · obtain ⟨rfl, h1, h2⟩ := h
    exact ⟨_, _, h1, h2, fun h => h⟩
  · refine ⟨0, [], by omega, h, fun {S w v} hv => ?_⟩
    rw [RA.plain hv]
    exact .row (cs := []) (.ofInts (by simp) rfl) (Nat.le_refl _) (Nat.zero_le _) (fun _ => rfl) (.inl rfl)
  · exact h.elim
def nothS : List A → (Res → Prop) → Prop
  | [x], K => votK x fun m vs => K (.d (.v (.int .i64 (if m = 0 then 0 else 8))))
  | _, _ => False
theorem nothS_of {f : FuncId} (hx : ∀ vs m, m ≤ 1000000 → FnO f [.row m [.ints .i64 (m * 3) vs]] (.d (.v (.int .i64 (if m = 0 then 0 else 8))))) : ∀ args K, nothS args K → ∃ r, FnO f args r ∧ K r := by
  intro args K h
  unfold nothS at h
  split at h
  · next x =>
    obtain ⟨n, vs, hn, h, hv⟩ := votK_spec h
    refine ⟨_, fun S w vs' hG ha => ?_, h⟩
    obtain ⟨v, rfl, h1⟩ := ra_one ha
    exact hx vs n hn S w _ hG (.cons (hv h1) .nil)
  · exact h.elim
theorem noth_fn (vs : List Int) (m : Nat) (hm : m ≤ 1000000) : FnO 39 [.row m [.ints .i64 (m * 3) vs]] (.d (.v (.int .i64 (if m = 0 then 0 else 8)))) := by
  refine fnA (E := envO9) Tryz.func39 Tryz.ntmps39 ?_
  by_cases h : m = 0
  · subst h
    rw [if_pos rfl]
    refine agow ?_; (try with_reducible exact True.intro)
  · rw [if_neg h]
    have h1 : (m : Int) > 0 := by omega
    clear h
    refine agow ?_; (try with_reducible exact True.intro)
noncomputable def envOa : EnvX := envO9.add 39 nothS (nothS_of noth_fn) ⟨_, Tryz.func39, by kernel_rfl, by kernel_rfl⟩

set_option maxHeartbeats 1000000 in
theorem three_at {vs : List Int} {m j : Nat} (hv : vs.length = m * 3) (hj : j < m) : (vs.drop (j * 3)).take 3 = [vs.getD (j * 3) 0, vs.getD (j * 3 + 1) 0, vs.getD (j * 3 + 2) 0] := by
  refine List.ext_getElem (by simp; omega) fun i h1 h2 => ?_
  simp only [List.length_cons, List.length_nil] at h2
  rw [List.getElem_take, List.getElem_drop]
  rcases i with _ | _ | _ | i
  · simp [List.getD_eq_getElem?_getD, List.getElem?_eq_getElem (show j * 3 < vs.length by omega)]
  · simp [List.getD_eq_getElem?_getD, List.getElem?_eq_getElem (show j * 3 + 1 < vs.length by omega)]
  · simp [List.getD_eq_getElem?_getD, List.getElem?_eq_getElem (show j * 3 + 2 < vs.length by omega)]
  · omega
theorem two_at {vs : List Int} {m j : Nat} (hv : vs.length = m * 3) (hj : j < m) : (vs.drop (j * 3 + 1)).take 2 = [vs.getD (j * 3 + 1) 0, vs.getD (j * 3 + 2) 0] := by
  refine List.ext_getElem (by simp; omega) fun i h1 h2 => ?_
  simp only [List.length_cons, List.length_nil] at h2
  rw [List.getElem_take, List.getElem_drop]
  rcases i with _ | _ | i
  · simp [List.getD_eq_getElem?_getD, List.getElem?_eq_getElem (show j * 3 + 1 < vs.length by omega)]
  · simp [List.getD_eq_getElem?_getD, List.getElem?_eq_getElem (show j * 3 + 2 < vs.length by omega)]
  · omega
/-- of one approval: what is known of it, whether it passes or not -/
theorem vote_facts {zs : List Int} {ad : List Bool} {p : List UInt8} {vs : List Int} {m N j : Nat} (hv : vs.length = m * 3) (hj : j ≤ N) (h3 : j < m) (hok : ∀ j, j < N → passB zs ad p vs j = true) (hend : N = m ∨ (N < m ∧ ¬ passB zs ad p vs N = true)) (x : Int) :
    (admB ad (vs.getD (j * 3) 0) = false ∧ ¬ j < N ∧ (if N = m then x else codeJ ad vs N) = 6) ∨
    (admB ad (vs.getD (j * 3) 0) = true ∧ 0 ≤ vs.getD (j * 3) 0 ∧ vs.getD (j * 3) 0 < 8 ∧ ¬ lastJ vs j < vs.getD (j * 3) 0 ∧ ¬ j < N ∧ (if N = m then x else codeJ ad vs N) = 6) ∨
    (admB ad (vs.getD (j * 3) 0) = true ∧ 0 ≤ vs.getD (j * 3) 0 ∧ vs.getD (j * 3) 0 < 8 ∧ lastJ vs j < vs.getD (j * 3) 0 ∧ ¬ j < N ∧ verW (zs.getD ((vs.getD (j * 3) 0).toNat * 2) 0) p ((List.take 2 (List.drop (j * 3 + 1) vs)).getD 0 0) ((List.take 2 (List.drop (j * 3 + 1) vs)).getD 1 0) = false ∧ (if N = m then x else codeJ ad vs N) = 4) ∨
    (admB ad (vs.getD (j * 3) 0) = true ∧ 0 ≤ vs.getD (j * 3) 0 ∧ vs.getD (j * 3) 0 < 8 ∧ lastJ vs j < vs.getD (j * 3) 0 ∧ verW (zs.getD ((vs.getD (j * 3) 0).toNat * 2) 0) p ((List.take 2 (List.drop (j * 3 + 1) vs)).getD 0 0) ((List.take 2 (List.drop (j * 3 + 1) vs)).getD 1 0) = true ∧ j < N) := by
  rw [two_at hv h3]
  show (_ ∧ _ ∧ _) ∨ (_ ∧ _ ∧ _ ∧ _ ∧ _ ∧ _) ∨ (_ ∧ _ ∧ _ ∧ _ ∧ _ ∧ verW _ _ (vs.getD (j * 3 + 1) 0) (vs.getD (j * 3 + 2) 0) = false ∧ _) ∨ (_ ∧ _ ∧ _ ∧ _ ∧ verW _ _ (vs.getD (j * 3 + 1) 0) (vs.getD (j * 3 + 2) 0) = true ∧ _)
  by_cases h1 : j < N
  · have hp := hok j h1
    rw [passB, Bool.and_eq_true, Bool.and_eq_true, decide_eq_true_eq] at hp
    obtain ⟨⟨p1, p2⟩, p3⟩ := hp
    obtain ⟨b1, b2⟩ := adm_bd p1
    exact .inr (.inr (.inr ⟨p1, b1, b2, p2, p3, h1⟩))
  · obtain rfl : N = j := by omega
    have hf : ¬ passB zs ad p vs N = true := by
      rcases hend with h | h
      · omega
      · exact h.2
    rw [passB] at hf
    rw [if_neg (show ¬ N = m by omega), codeJ]
    cases ha : admB ad (vs.getD (N * 3) 0) with
    | false => exact .inl ⟨rfl, h1, rfl⟩
    | true =>
      obtain ⟨b1, b2⟩ := adm_bd ha
      by_cases hlt : lastJ vs N < vs.getD (N * 3) 0
      · rw [ha, decide_eq_true hlt, Bool.true_and, Bool.true_and] at hf
        exact .inr (.inr (.inl ⟨rfl, b1, b2, hlt, h1, Bool.eq_false_iff.2 hf, by rw [decide_eq_true hlt]; rfl⟩))
      · exact .inr (.inl ⟨rfl, b1, b2, hlt, h1, by rw [decide_eq_false hlt]; rfl⟩)
set_option maxHeartbeats 1000000 in
theorem check_fn (e : Int) (zs : List Int) (ad : List Bool) (k : Int) (ch : List UInt8) (fr : Int) (ops : List Int) (n : Nat) (hn : n ≤ 1000000) (vs : List Int) (m : Nat) (hm : m ≤ 1000000) (hv : vs.length = m * 3) :
    FnO 15 [.agg (vSegs e zs ad k ch), .v (.int .i64 fr), .row n [.ints .i64 (n * 5) ops], .row m [.ints .i64 (m * 3) vs]] (.d (.v (.int .i64 (chkV e zs ad k ch fr ops n vs m)))) := by
  refine fnA (E := envOa) Tryz.func15 Tryz.ntmps15 ?_
  have hpl := paperV_length e zs ad k ch fr ops
  by_cases h0 : n = 0
  · subst h0
    have hr : chkV e zs ad k ch fr ops 0 vs m = if m = 0 then 0 else 8 := by simp [chkV]
    rw [hr]
    clear hr
    refine agow ?_; (try with_reducible exact True.intro)
  have h01 : ((n : Int) == 0) = false := by simpa using h0
  by_cases hd : (doR e ⟨zs, ad, k, F8, F8⟩ fr ops n).1 = 0
  · have hd1 : decide ((doR e ⟨zs, ad, k, F8, F8⟩ fr ops n).1 = 0) = true := decide_eq_true hd
    obtain ⟨N, hN, hok, hend⟩ := first_noO (p := fun j => passB zs ad (paperV e zs ad k ch fr ops) vs j = true) m
    have hC : chkV e zs ad k ch fr ops n vs m = if N = m then (if (m : Int) < k then 8 else 0) else codeJ ad vs N := by
      rcases hend with rfl | ⟨h1, h2⟩
      · simp only [chkV, h0, hd, chkE_all hok]; simp
      · simp only [chkV, h0, hd, chkE_at h1 hok h2]
        rw [if_neg (show ¬ N = m by omega)]
        simp [codeJ_ne]
    rw [hC]
    clear hC hd
    refine agow ?_; (try with_reducible exact True.intro)
    refine StopL.mk (loop_forG [3, 4, 8, 13, 14, 38, 39, 40] [0, 4] N (fun j => ⟨[.dead, .dead, .dead, .d (.row m [.ints .i64 (m * 3) vs]), .ptr 0 0, .dead, .dead, .dead, .d (.v (.int .i64 0)), .dead, .dead, .dead, .dead, .ptr 1 0, .d (.v (.int .i64 (lastJ vs j))), .dead, .dead, .dead, .dead, .dead, .dead, .dead, .dead, .dead, .dead, .dead, .dead, .dead, .dead, .dead, .dead, .dead, .dead, .dead, .dead, .dead, .dead, .dead, .d (.row m [.ints .i64 (m * 3) vs]), .d (.v (.int .i64 (m : Nat))), .d (.v (.int .i64 (j : Nat))), .dead, .dead, .dead, .dead, .dead, .dead, .dead, .dead, .dead, .dead, .dead, .dead, .dead, .dead, .dead, .dead, .dead, .dead, .dead, .dead, .dead, .dead, .dead, .dead, .dead, .dead, .dead, .dead, .dead, .dead, .dead, .dead, .dead, .dead], [some (.var (vSegs e zs ad k ch)), some (.var [.bytes 32 (paperV e zs ad k ch fr ops)])]⟩) ?_)
    intro j hj hl
    by_cases h3 : j < m
    · have h2 : (j : Int) < m := by omega
      have hj3 := three_at hv h3
      refine agow ?_; (try with_reducible exact True.intro)
      rw [hj3]
      clear hj3
      have eP : passB zs ad (paperV e zs ad k ch fr ops) vs j = (admB ad (vs.getD (j * 3) 0) && decide (lastJ vs j < vs.getD (j * 3) 0) && verW (zs.getD ((vs.getD (j * 3) 0).toNat * 2) 0) (paperV e zs ad k ch fr ops) (vs.getD (j * 3 + 1) 0) (vs.getD (j * 3 + 2) 0)) := rfl
      have eC : codeJ ad vs j = if (admB ad (vs.getD (j * 3) 0) && decide (lastJ vs j < vs.getD (j * 3) 0)) = true then 4 else 6 := rfl
      have eL : lastJ vs (j + 1) = vs.getD (j * 3) 0 := rfl
      generalize lastJ vs j = l0 at *
      generalize vs.getD (j * 3) 0 = a at *
      generalize vs.getD (j * 3 + 1) 0 = b at *
      generalize vs.getD (j * 3 + 2) 0 = c at *
      by_cases h1 : j < N
      · have hp := hok j h1
        rw [eP, Bool.and_eq_true, Bool.and_eq_true, decide_eq_true_eq] at hp
        obtain ⟨⟨p1, p2⟩, p3⟩ := hp
        obtain ⟨b1, b2⟩ := adm_bd p1
        clear eP eC hok hend
        refine agow ?_; (try with_reducible exact True.intro)
        refine hl.go h1 [3, 4, 8, 13, 14, 38, 39, 40] [0, 1] ?_
        show gather _ _ _ = St.mk _ _
        rw [eL]
        rfl
      · obtain rfl : N = j := by omega
        have hf : ¬ passB zs ad (paperV e zs ad k ch fr ops) vs N = true := by
          rcases hend with h | h
          · omega
          · exact h.2
        rw [eP] at hf
        rw [if_neg (show ¬ N = m by omega)]
        clear eL hok hend hl h1
        cases ha : admB ad a with
        | false =>
          have eC6 : codeJ ad vs N = 6 := by rw [eC, ha]; rfl
          rw [eC6]
          clear eC eC6 eP hf
          refine agow ?_; (try with_reducible exact True.intro)
        | true =>
          obtain ⟨b1, b2⟩ := adm_bd ha
          by_cases hlt : l0 < a
          · have eC4 : codeJ ad vs N = 4 := by rw [eC, ha, decide_eq_true hlt]; rfl
            rw [eC4]
            have hver : verW (zs.getD (a.toNat * 2) 0) (paperV e zs ad k ch fr ops) b c = false := by
              rw [ha, decide_eq_true hlt, Bool.true_and, Bool.true_and] at hf
              exact Bool.eq_false_iff.2 hf
            clear eC eC4 eP hf
            refine agow ?_; (try with_reducible exact True.intro)
          · have eC6 : codeJ ad vs N = 6 := by rw [eC, ha, decide_eq_false hlt]; rfl
            rw [eC6]
            clear eC eC6 eP hf
            refine agow ?_; (try with_reducible exact True.intro)
    · have h4 : ¬ (j : Int) < m := by omega
      rw [if_pos (show N = m by omega)]
      clear hok hend hl
      by_cases hk : (m : Int) < k
      · rw [if_pos hk]
        refine agow ?_; (try with_reducible exact True.intro)
      · rw [if_neg hk]
        refine agow ?_; (try with_reducible exact True.intro)
  · have hd1 : decide ((doR e ⟨zs, ad, k, F8, F8⟩ fr ops n).1 = 0) = false := decide_eq_false hd
    have hr : chkV e zs ad k ch fr ops n vs m = (doR e ⟨zs, ad, k, F8, F8⟩ fr ops n).1 := by simp [chkV, h0, hd]
    have hd2 : ((doR e ⟨zs, ad, k, F8, F8⟩ fr ops n).1 != 0) = true := by simpa using hd
    rw [hr]
    clear hr hd h0
    refine agow ?_; (try with_reducible exact True.intro)
end Go.Proofs.YtpemaphgmfaioaaGreat
