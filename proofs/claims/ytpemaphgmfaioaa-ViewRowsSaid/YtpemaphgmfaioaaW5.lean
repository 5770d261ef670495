/-
  Views: the laws' first look, walked.
-/
import Derived.Test.YtpemaphgmfaioaaW4
namespace Go.Proofs.Ytpemaphgmfaioaa
set_option maxRecDepth 100000
open Go.RowKit Pm
set_option linter.unusedVariables false
set_option linter.unusedSimpArgs false
attribute [local irreducible] condK LoopA regA powI scal keyV someZ someA isI mayV doR putL

theorem leafOK_of2 {zs : List Int} {j : Nat} {x y : Int} (h : leafP zs j = [x, y]) (hx : isI x = true) (hy : isI y = true) : leafOK zs j = true := by
  unfold leafOK
  rw [h, List.getD_cons_zero, List.getD_cons_succ, List.getD_cons_zero, hx, hy]; simp
theorem isT_put {zs : List Int} (hz : zs.length = 31) {x y : Int} {i : Nat} (hi : i < 8) (hx : isI x = true) (hy : isI y = true) (h : isT zs = true) : isT (putL zs [x, y] (i : Nat)) = true := by
  unfold isT at h ⊢
  rw [Bool.and_eq_true, List.all_eq_true, List.all_eq_true] at h ⊢
  refine ⟨fun j hj => ?_, fun j hj => ?_⟩
  · have hj' : j < 8 := by simpa using hj
    by_cases e : j = i
    · refine leafOK_of2 (x := x) (y := y) ?_ hx hy
      rw [leafP_put hz rfl hi hj', if_pos e]
    · have h1 := h.1 j hj
      unfold leafOK at h1 ⊢
      rw [leafP_put hz rfl hi hj', if_neg e]
      exact h1
  · have hj' : j < 15 := by simpa using hj
    have h1 := h.2 j hj
    have e : nodeV (putL zs [x, y] (i : Nat)) j = 0 ∨ nodeV (putL zs [x, y] (i : Nat)) j = nodeV zs j := by
      unfold nodeV putL
      rw [if_pos (by simp [leafB]; omega), Int.toNat_natCast]
      rw [List.getD_eq_getElem?_getD, List.getD_eq_getElem?_getD, List.getElem?_take, if_pos hj', List.getElem?_take, if_pos hj', List.getElem?_drop, List.getElem?_drop, ← List.getD_eq_getElem?_getD, ← List.getD_eq_getElem?_getD, getD_set_list, getD_set_list, getD_set_list]
      split
      · exact .inl rfl
      · split
        · exact .inl rfl
        · split
          · exact .inl rfl
          · exact .inr (by rw [splice_get (xs := [x, y]) (by simp) (by omega), if_neg (by omega)])
    unfold nodeOK at h1 ⊢
    rcases e with e | e
    · rw [e]; simp
    · rw [e]
      exact h1
theorem may_put {e : Int} {zs : List Int} {ad : List Bool} {k : Int} (hz : zs.length = 31) {x y : Int} {i : Nat} (hi : i < 8) (hx : isI x = true) (hy : isI y = true) (h : mayV e zs ad k = true) : mayV e (putL zs [x, y] (i : Nat)) ad k = true := by
  unfold mayV at h ⊢
  simp only [Bool.and_eq_true] at h ⊢
  refine ⟨⟨⟨⟨h.1.1.1.1, isT_put hz hi hx hy h.1.1.1.2⟩, (admTo_iff _ _).2 fun j hj ha => ?_⟩, h.1.2⟩, h.2⟩
  rw [memL_put hz rfl hi hj]
  split
  · exact decide_eq_true fun e => isI_ne hx (List.cons.inj e).1
  · exact (admTo_iff _ _).1 h.1.1.2 j hj ha
set_option maxHeartbeats 400000 in
theorem known_facts : decide ((doR 0 ⟨someZ (min 1 8), someA 1 (min 1 8), 1, F8, F8⟩ 0 [4, 0, 0, 0, 0] 1).1 = 0) = false ∧ ((doR 0 ⟨someZ (min 1 8), someA 1 (min 1 8), 1, F8, F8⟩ 0 [4, 0, 0, 0, 0] 1).1 == 7) = true ∧ decide ((doR 0 ⟨someZ (min 1 8), someA 1 (min 1 8), 1, F8, F8⟩ 0 [1, 0, 0, keyV 5, keyV 6] 1).1 = 0) = true ∧
    (doR 0 ⟨someZ (min 1 8), someA 1 (min 1 8), 1, F8, F8⟩ 0 [1, 0, 0, keyV 5, keyV 6] 1).2.ng.getD 1 false = true ∧ ((doR 0 ⟨someZ (min 1 8), someA 1 (min 1 8), 1, F8, F8⟩ 0 [1, 0, 0, keyV 5, keyV 6] 1).2.zs.getD 2 0 == keyV 5) = true ∧
    mayV 0 (doR 0 ⟨someZ (min 1 8), someA 1 (min 1 8), 1, F8, F8⟩ 0 [1, 0, 0, keyV 5, keyV 6] 1).2.zs (doR 0 ⟨someZ (min 1 8), someA 1 (min 1 8), 1, F8, F8⟩ 0 [1, 0, 0, keyV 5, keyV 6] 1).2.ad (doR 0 ⟨someZ (min 1 8), someA 1 (min 1 8), 1, F8, F8⟩ 0 [1, 0, 0, keyV 5, keyV 6] 1).2.k = true := by
  have hm := memB_some 1 (by omega) (by omega)
  have hv : mayV 0 (someZ 1) T8 1 = true := by
    have h := some_may 1 (by omega) 1 1
    rw [someA_one] at h
    rw [h]
    rfl
  have hA := demote_gen (someZ 1) hm hv
  have h5 : isI (keyV 5) = true := keyV_isI 5
  have h6 : isI (keyV 6) = true := keyV_isI 6
  have he : errAdd (someZ 1) [keyV 5, keyV 6] = 0 := errAdd_some 1 (by omega) 5 _ (by omega) h6
  have hB := add_gen (someZ 1) (keyV 5) (keyV 6) hm hv he (free_some 1 (by omega))
  have hV : mayV 0 (putL (someZ 1) [keyV 5, keyV 6] 1) T8 1 = true := may_put (someZ_len 1 (by omega)) (i := 1) (by omega) h5 h6 hv
  have hl := leafP_put (zs := someZ 1) (xs := [keyV 5, keyV 6]) (someZ_len 1 (by omega)) rfl (i := 1) (j := 1) (by omega) (by omega)
  rw [if_pos rfl, leafP_two (by rw [putL_length (someZ_len 1 (by omega)) rfl]; omega) (by omega)] at hl
  have hg : (putL (someZ 1) [keyV 5, keyV 6] 1).getD 2 0 = keyV 5 := (List.cons.inj hl).1
  rw [show min 1 8 = 1 from rfl, someA_one, hA, hB]
  refine ⟨rfl, rfl, rfl, rfl, ?_, hV⟩
  show ((putL (someZ 1) [keyV 5, keyV 6] 1).getD 2 0 == keyV 5) = true
  rw [hg]
  simp
set_option maxHeartbeats 400000 in
theorem vknown_ok : FnO 9 [] (.d (.v (.bool true))) := by
  refine fnA (E := envW5) Try.func9 Try.ntmps9 ?_
  obtain ⟨fA0, fA7, fB0, fB1, fB2, fB3⟩ := known_facts
  refine agom ?_; (try with_reducible exact True.intro)
  exact congrArg (fun b => Res.d (.v (.bool b))) fB3
noncomputable def envW6 : EnvX := envW5.add 9 knownS (knownS_ok vknown_ok) ⟨_, Try.func9, by kernel_rfl, by kernel_rfl⟩
end Go.Proofs.Ytpemaphgmfaioaa
