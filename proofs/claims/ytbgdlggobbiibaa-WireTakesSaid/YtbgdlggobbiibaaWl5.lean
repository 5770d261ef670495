/-
  Welcomes: what was written is read as it was; the law.
-/
import Derived.Test.YtbgdlggobbiibaaWl3
import Derived.Test.YtbgdlggobbiibaaWl4
import Derived.Test.YtbgdlggobbiibaaS6
namespace Go.Proofs.Ytbgdlggobbiibaa
set_option maxRecDepth 100000
open Go.RowKit Pm
set_option linter.unusedVariables false
set_option linter.unusedSimpArgs false

theorem isI_i63 {y : Int} (h : isI y = true) : I63 y := by
  obtain ⟨h1, h2, _⟩ := (isI_iff y).1 h
  exact ⟨by omega, by omega⟩
attribute [local irreducible] isI
theorem leafP_getW {zs : List Int} {k r : Nat} (hk : k < 8) (hr : r < 2) : (leafP zs k).getD r 0 = zs.getD (k * 2 + r) 0 := by
  unfold leafP
  rw [List.getD_eq_getElem?_getD, List.getElem?_take, if_pos hr, List.getElem?_drop, List.getElem?_take, if_pos (by omega), ← List.getD_eq_getElem?_getD]
theorem nodeV_getW {zs : List Int} {k : Nat} (hk : k < 15) : nodeV zs k = zs.getD (16 + k) 0 := by
  unfold nodeV
  rw [List.getD_eq_getElem?_getD, List.getElem?_take, if_pos hk, List.getElem?_drop, ← List.getD_eq_getElem?_getD]
theorem isT_i63 {zs : List Int} (h : isT zs = true) (hl : zs.length = 31) : ∀ z ∈ zs, I63 z := by
  intro z hz
  unfold isT at h
  rw [Bool.and_eq_true, List.all_eq_true, List.all_eq_true] at h
  obtain ⟨h1, h2⟩ := h
  obtain ⟨i, hi, rfl⟩ := List.getElem_of_mem hz
  have e : zs[i] = zs.getD i 0 := by rw [List.getD_eq_getElem?_getD, List.getElem?_eq_getElem hi]; rfl
  rw [e]
  by_cases h16 : i < 16
  · have h3 := h1 (i / 2) (List.mem_range.2 (by omega))
    unfold leafOK at h3
    rw [Bool.or_eq_true, Bool.and_eq_true, decide_eq_true_eq] at h3
    have h4 := leafP_getW (zs := zs) (k := i / 2) (r := 0) (by omega) (by omega)
    have h5 := leafP_getW (zs := zs) (k := i / 2) (r := 1) (by omega) (by omega)
    rcases h3 with h3 | ⟨h6, h7⟩
    · rw [h3] at h4 h5
      have h4 : 0 = zs.getD (i / 2 * 2 + 0) 0 := h4
      have h5 : 0 = zs.getD (i / 2 * 2 + 1) 0 := h5
      rcases (show i = i / 2 * 2 + 0 ∨ i = i / 2 * 2 + 1 by omega) with h | h
      · rw [h, ← h4]; exact ⟨by decide, by decide⟩
      · rw [h, ← h5]; exact ⟨by decide, by decide⟩
    · rw [h4] at h6
      rw [h5] at h7
      rcases (show i = i / 2 * 2 + 0 ∨ i = i / 2 * 2 + 1 by omega) with h | h
      · rw [h]; exact isI_i63 h6
      · rw [h]; exact isI_i63 h7
  · have h3 := h2 (i - 16) (List.mem_range.2 (by omega))
    unfold nodeOK at h3
    rw [Bool.or_eq_true, Bool.and_eq_true, decide_eq_true_eq, nodeV_getW (by omega), show 16 + (i - 16) = i by omega] at h3
    rcases h3 with h3 | ⟨_, h3⟩
    · rw [h3]; exact ⟨by decide, by decide⟩
    · exact isI_i63 h3
theorem cntB_le8 : ∀ (ad : List Bool), cntB ad ≤ ad.length := by
  intro ad
  unfold cntB
  exact List.countP_le_length
structure MW (w : WS) : Prop where
  leaf : I63 w.leaf
  fr : I63 w.fr
  e : I63 w.e
  k : I63 w.k
  zs : ∀ z ∈ w.zs, I63 z
  box : w.box.length ≤ 300
theorem mayW_facts {w : WS} (h : mayW w = true) (hw : WSok w) : MW w := by
  unfold mayW at h
  simp only [Bool.and_eq_true, decide_eq_true_eq] at h
  obtain ⟨h1, h2, h3, h4⟩ := h
  unfold mayV at h3
  simp only [Bool.and_eq_true, decide_eq_true_eq] at h3
  obtain ⟨⟨⟨⟨⟨h5, h6⟩, h7⟩, h8⟩, h9⟩, h10⟩ := h3
  have h11 := cntB_le8 w.ad
  have h12 := hw.ad
  exact ⟨withinB_i63 h1, withinB_i63 h2, ⟨h5, by omega⟩, ⟨by omega, by omega⟩, isT_i63 h7 hw.zs, by omega⟩
attribute [local irreducible] nmV nmN cntV cntN tkV tkN nmsV nmsN hashV numB numsB boxV boxN flsV flsN
theorem wl_parse {w : WS} (t : List UInt8) (h : MW w) (hw : WSok w) : wlRd ⟨restW w t, false⟩ = w ∧ wlN2 ⟨restW w t, false⟩ = ⟨t, false⟩ := by
  unfold restW
  obtain ⟨a1, b1⟩ := num_app (t := numB w.fr ++ (numB w.e ++ (numB w.k ++ (flagsB w.ad ++ (w.ch ++ (numsB w.zs ++ ((numB (w.box.length : Int) ++ w.box) ++ (w.tag ++ t)))))))) h.leaf
  generalize (⟨numB w.leaf ++ _, false⟩ : Rd) = R at *
  obtain ⟨a2, b2⟩ := num_app (t := numB w.e ++ (numB w.k ++ (flagsB w.ad ++ (w.ch ++ (numsB w.zs ++ ((numB (w.box.length : Int) ++ w.box) ++ (w.tag ++ t))))))) h.fr
  rw [← b1] at a2 b2
  obtain ⟨a3, b3⟩ := num_app (t := numB w.k ++ (flagsB w.ad ++ (w.ch ++ (numsB w.zs ++ ((numB (w.box.length : Int) ++ w.box) ++ (w.tag ++ t)))))) h.e
  have q1 : va R = nmN (nmN R) := rfl
  rw [← b2, ← q1] at a3 b3
  obtain ⟨a4, b4⟩ := num_app (t := flagsB w.ad ++ (w.ch ++ (numsB w.zs ++ ((numB (w.box.length : Int) ++ w.box) ++ (w.tag ++ t))))) h.k
  rw [← b3] at a4 b4
  obtain ⟨a5, b5⟩ := fls_app (ad := w.ad) (t := w.ch ++ (numsB w.zs ++ ((numB (w.box.length : Int) ++ w.box) ++ (w.tag ++ t))))
  have q2 : va (va R) = nmN (nmN (va R)) := rfl
  rw [← b4, ← q2, hw.ad] at a5 b5
  obtain ⟨a6, b6⟩ := hash_app (t := numsB w.zs ++ ((numB (w.box.length : Int) ++ w.box) ++ (w.tag ++ t))) hw.ch
  have q3 : vc (va R) = flsN 8 (va (va R)) := rfl
  rw [← b5, ← q3] at a6 b6
  obtain ⟨a7, b7⟩ := nums_app (zs := w.zs) (t := (numB (w.box.length : Int) ++ w.box) ++ (w.tag ++ t)) h.zs
  have q4 : vd (va R) = tkN 32 (vc (va R)) := rfl
  rw [← b6, ← q4, hw.zs] at a7 b7
  obtain ⟨a8, b8⟩ := box_app (m := 300) (p := w.box) (t := w.tag ++ t) (by have := h.box; omega) (by have := h.box; omega)
  have q5 : vg R = nmsN 31 (vd (va R)) := rfl
  rw [← b7, ← q5] at a8 b8
  obtain ⟨a9, b9⟩ := hash_app (t := t) hw.tag
  rw [← b8] at a9 b9
  refine ⟨?_, b9⟩
  unfold wlRd
  rw [a1, a2, a3, a7, a5, a4, a6, a8, a9]
theorem okW_app {w : WS} (h : mayW w = true) (hw : WSok w) : okW (wlB w) = true ∧ wlOf (wlB w) = w := by
  obtain ⟨h2, h3⟩ := wl_parse [] (mayW_facts h hw) hw
  have h1 := wl_form (w := w) hw.zs []
  rw [List.append_nil] at h1
  unfold okW wlOf
  rw [h1, kd_app, h3, h2, h]
  exact ⟨rfl, rfl⟩
theorem okW_less {w : WS} {b t : List UInt8} (h : mayW w = true) (hw : WSok w) (hb : wlB w = b ++ t) (hk : okW b = true) : t = [] := by
  obtain ⟨h1, h2, h4⟩ := okW_back hk
  obtain ⟨_, q1⟩ := wl_parse [] (mayW_facts h hw) hw
  obtain ⟨_, q2⟩ := wl_parse t (mayW_facts h1 h2) h2
  have e1 := wl_form (w := w) hw.zs []
  rw [List.append_nil] at e1
  have e2 := wl_form (w := wlOf b) h2.zs t
  rw [← h4, ← hb, e1] at e2
  have e3 : restW w [] = restW (wlOf b) t := by injection e2
  rw [e3, q2] at q1
  injection q1
attribute [local irreducible] condK LoopA regA wlB wlN wlR mayW okW owRes wlOf flagsB
theorem owRes_less {w : WS} {k : Nat} (h : mayW w = true) (hw : WSok w) (hk : k < (wlB w).length) : owRes ((wlB w).take k) = .t [welcome0, .v (.int .i64 2)] := by
  refine owRes_no ?_
  cases h1 : okW ((wlB w).take k) with
  | false => rfl
  | true =>
    have := okW_less h hw (t := (wlB w).drop k) (List.take_append_drop k _).symm h1
    have h2 := congrArg List.length this
    rw [List.length_drop] at h2
    simp at h2; omega
theorem owRes_good {w : WS} (h : mayW w = true) (hw : WSok w) : owRes (wlB w) = .t [.agg (wlSegs w), .v (.int .i64 0)] := by
  obtain ⟨h1, h2⟩ := okW_app h hw
  rw [owRes_yes h1, h2]
theorem wlR_no0 {w : WS} (h : mayW w = false) : wlR w = .t [.v (.slice none 0 0), .v (.int .i64 1)] := by unfold wlR; rw [if_neg (by rw [h]; decide)]
theorem wlR_yes0 {w : WS} (h : mayW w = true) : wlR w = .t [.row (wlN w) [.bytes (wlN w) (wlB w)], .v (.int .i64 0)] := by unfold wlR; rw [if_pos h]
set_option maxHeartbeats 4000000 in
theorem welcomes_ok (w : WS) (hw : WSok w) : FnO 9 [.agg (wlSegs w), .agg (wlSegs w)] (.d (.v (.bool true))) := by
  refine fnA (E := envS2) Try.func9 Try.ntmps9 ?_
  have hb := hw.box
  refine agow ?_; (try with_reducible exact True.intro)
  simp [eqSegs]
def twoW : List A → (Res → Prop) → Prop
  | [.agg l, .agg l'], K => ∃ w, l = wlSegs w ∧ l' = wlSegs w ∧ WSok w ∧ K (.d (.v (.bool true)))
  | _, _ => False
theorem twoW_of {f : FuncId} (h : ∀ w, WSok w → FnO f [.agg (wlSegs w), .agg (wlSegs w)] (.d (.v (.bool true)))) : ∀ args K, twoW args K → ∃ r, FnO f args r ∧ K r := by
  intro args K hd
  unfold twoW at hd
  split at hd
  · obtain ⟨w, rfl, rfl, h1, hd⟩ := hd; exact ⟨_, h _ h1, hd⟩
  · exact hd.elim
noncomputable def envS3 : EnvX := envS2.add 24 (wlS wlR) (wlS_of rwelcome_ok) ⟨_, Try.func24, by kernel_rfl, by kernel_rfl⟩
noncomputable def envS4 : EnvX := envS3.add 9 twoW (twoW_of welcomes_ok) ⟨_, Try.func9, by kernel_rfl, by kernel_rfl⟩
end Go.Proofs.Ytbgdlggobbiibaa
