/-
  Bytes as a welcome, or refused: the other program answers as the program does.
-/
import Derived.Test.YtbgdlggobbiibaaRw3
import Derived.Test.YtbgdlggobbiibaaWl5
import Derived.Test.YtbgdlggobbiibaaRd8
namespace Go.Proofs.Ytbgdlggobbiibaa
set_option maxRecDepth 100000
set_option pp.deepTerms true
set_option pp.maxSteps 1000000
open Go.RowKit Pm
set_option linter.unusedVariables false
set_option linter.unusedSimpArgs false

/-- a welcome as the other program reads it, behind the first byte; where it stops -/
def rwN (R : Rd) : Rd := nmN (xe (va R))
def rwZ (R : Rd) : Nat := (nmV (xe (va R))).toNat
def rwRd (R : Rd) : WS := ⟨nmV R, nmV (nmN R), nmV (va R), nmsV 31 (xd (va R)), rfV (va (va R)), nmV (nmN (va R)), hashV (xc (va R)), tkV (rwZ R) (rwN R), hashV (tkN (rwZ R) (rwN R))⟩
def rwE (R : Rd) : Rd := tkN 32 (tkN (rwZ R) (rwN R))
theorem Bt_flag (b : Bool) : (Bt (if b = true then 1 else 0) == 1) = b := by cases b <;> decide
theorem flags_back (ad : List Bool) : (flagsB ad).map (fun x => Bt x == 1) = ad := by
  unfold flagsB
  rw [List.map_map]
  conv => rhs; rw [← List.map_id ad]
  exact List.map_congr_left fun b _ => Bt_flag b
theorem rfV_len (Q : Rd) : (rfV Q).length = 8 := by
  unfold rfV
  split
  · next h =>
    unfold tkV; rw [if_pos h, List.length_map, List.length_take]
    unfold Rd.ok at h; simp at h; omega
  · simp
theorem tkV_le (n : Nat) (R : Rd) : (tkV n R).length ≤ R.bs.length := by
  unfold tkV
  split
  · rw [List.length_take]; omega
  · simp
theorem rf_app {ad : List Bool} {t : List UInt8} (h : ad.length = 8) : rfV ⟨flagsB ad ++ t, false⟩ = ad ∧ tkN 8 ⟨flagsB ad ++ t, false⟩ = ⟨t, false⟩ := by
  have hl : (flagsB ad).length = 8 := by unfold flagsB; rw [List.length_map]; exact h
  obtain ⟨h1, h2⟩ := tk_app (t := t) hl
  have h3 : Rd.ok ⟨flagsB ad ++ t, false⟩ 8 = true := by unfold Rd.ok; simp; omega
  refine ⟨?_, h2⟩
  unfold rfV
  rw [if_pos h3, h1, flags_back]
attribute [local irreducible] nmV nmN cntV cntN tkV tkN nmsV nmsN hashV numB numsB boxV boxN flsV flsN rfV
theorem rwRd_ok (R : Rd) (h : (rwN R).bs.length ≤ 6000) : WSok (rwRd R) :=
  ⟨nmsV_length _ _, rfV_len _, hashV_length _, hashV_length _, Nat.le_trans (tkV_le (rwZ R) (rwN R)) h⟩
theorem xe_len (R : Rd) : (xe R).bs.length ≤ (va R).bs.length := by
  have h1 : (xe R).bs.length ≤ (xd R).bs.length := nmsN_len 31 _
  have h2 : (xd R).bs.length ≤ (xc R).bs.length := tkN_len 32 _
  have h3 : (xc R).bs.length ≤ (va R).bs.length := tkN_len 8 _
  omega
theorem rw_parse {w : WS} (t : List UInt8) (h : MW w) (hw : WSok w) : rwRd ⟨restW w t, false⟩ = w ∧ rwE ⟨restW w t, false⟩ = ⟨t, false⟩ := by
  unfold restW
  obtain ⟨a1, b1⟩ := num_app (t := numB w.fr ++ (numB w.e ++ (numB w.k ++ (flagsB w.ad ++ (w.ch ++ (numsB w.zs ++ ((numB (w.box.length : Int) ++ w.box) ++ (w.tag ++ t)))))))) h.leaf
  generalize (⟨numB w.leaf ++ _, false⟩ : Rd) = R at *
  obtain ⟨a2, b2⟩ := num_app (t := numB w.e ++ (numB w.k ++ (flagsB w.ad ++ (w.ch ++ (numsB w.zs ++ ((numB (w.box.length : Int) ++ w.box) ++ (w.tag ++ t))))))) h.fr
  rw [← b1] at a2 b2
  obtain ⟨a3, b3⟩ := num_app (t := numB w.k ++ (flagsB w.ad ++ (w.ch ++ (numsB w.zs ++ ((numB (w.box.length : Int) ++ w.box) ++ (w.tag ++ t)))))) h.e
  have q1 : va R = nmN (nmN R) := rfl
  rw [← b2, ← q1] at a3 b3
  obtain ⟨a4, b4⟩ := num_app (t := flagsB w.ad ++ (w.ch ++ (numsB w.zs ++ ((numB (w.box.length : Int) ++ w.box) ++ (w.tag ++ t))))) h.k
  rw [← b3] at a4 b4
  obtain ⟨a5, b5⟩ := rf_app (ad := w.ad) (t := w.ch ++ (numsB w.zs ++ ((numB (w.box.length : Int) ++ w.box) ++ (w.tag ++ t)))) hw.ad
  have q2 : va (va R) = nmN (nmN (va R)) := rfl
  rw [← b4, ← q2] at a5 b5
  obtain ⟨a6, b6⟩ := hash_app (t := numsB w.zs ++ ((numB (w.box.length : Int) ++ w.box) ++ (w.tag ++ t))) hw.ch
  have q3 : xc (va R) = tkN 8 (va (va R)) := rfl
  rw [← b5, ← q3] at a6 b6
  obtain ⟨a7, b7⟩ := nums_app (zs := w.zs) (t := (numB (w.box.length : Int) ++ w.box) ++ (w.tag ++ t)) h.zs
  have q4 : xd (va R) = tkN 32 (xc (va R)) := rfl
  rw [← b6, ← q4, hw.zs] at a7 b7
  have hb := h.box
  obtain ⟨a8, b8⟩ := num_app (z := (w.box.length : Int)) (t := w.box ++ (w.tag ++ t)) ⟨by omega, by omega⟩
  have q5 : xe (va R) = nmsN 31 (xd (va R)) := rfl
  rw [List.append_assoc, ← q5] at b7
  rw [← b7] at a8 b8
  have q6 : rwN R = nmN (xe (va R)) := rfl
  rw [← q6] at b8
  have z6 : rwZ R = w.box.length := by unfold rwZ; rw [a8]; simp
  obtain ⟨a9, b9⟩ := tk_app (n := w.box.length) (p := w.box) (t := w.tag ++ t) rfl
  rw [← b8, ← z6] at a9 b9
  obtain ⟨a10, b10⟩ := hash_app (t := t) hw.tag
  rw [← b9] at a10 b10
  refine ⟨?_, b10⟩
  unfold rwRd
  rw [a1, a2, a3, a7, a5, a4, a6, a9, a10]
/-- all that the other program asks -/
structure RwAll (b : List UInt8) : Prop where
  good : (rwE (tkN 1 ⟨b, false⟩)).bad = false
  first : tkV 1 ⟨b, false⟩ = [2]
  may : mayW (rwRd (tkN 1 ⟨b, false⟩)) = true
  same : wlB (rwRd (tkN 1 ⟨b, false⟩)) = b
theorem rw_yes {b : List UInt8} (hw : WSok (rwRd (tkN 1 ⟨b, false⟩))) (h : RwAll b) : okW b = true ∧ wlOf b = rwRd (tkN 1 ⟨b, false⟩) := by
  have := okW_app h.may hw
  rwa [h.same] at this
theorem rw_all {b : List UInt8} (h : okW b = true) : RwAll b := by
  obtain ⟨h1, h2, h3⟩ := okW_back h
  have f := wl_form (w := wlOf b) h2.zs []
  rw [List.append_nil, ← h3] at f
  obtain ⟨k1, k2⟩ := rw_parse [] (mayW_facts h1 h2) h2
  obtain ⟨g1, g2⟩ := tk_app (n := 1) (p := [2]) (t := restW (wlOf b) []) rfl
  have e : (⟨b, false⟩ : Rd) = ⟨[2] ++ restW (wlOf b) [], false⟩ := congrArg (fun x => (⟨x, false⟩ : Rd)) f
  rw [← e] at g1 g2
  refine ⟨?_, g1, ?_, ?_⟩
  · rw [g2, k2]
  · rw [g2, k1]; exact h1
  · rw [g2, k1]; exact h3.symm
theorem rw_no {b : List UInt8} (h : ¬ RwAll b) : owRes b = .t [welcome0, .v (.int .i64 2)] := by
  refine owRes_no ?_
  cases hk : okW b with
  | false => rfl
  | true => exact (h (rw_all hk)).elim
attribute [local irreducible] condK LoopA regA wlB wlN wlR mayW okW owRes wlOf flagsB
/-- the view that the other program reads -/
def rviewS : Nat → Bk → List A → (Res → Bk → Prop) → Prop
  | 0, .var l, [], K => ∃ R : Rd, l = rdL R ∧ R.bs.length ≤ 1000000 ∧ K (.d (.agg (xwSegs R))) (.var (rdL (xe R)))
  | _, _, _, _ => False
theorem rviewS_ok : ∀ pos x args K, rviewS pos x args K → ∃ r x', FnMO 23 pos x args r x' ∧ K r x' := by
  intro pos x args K hd
  unfold rviewS at hd
  split at hd
  · obtain ⟨R, rfl, h, hd⟩ := hd
    exact ⟨_, _, rview_rd R h, hd⟩
  · exact hd.elim
def wlT : List A → (Res → Prop) → Prop
  | [.agg [.ints .i64 2 [lf, fr], .ints .i64 1 [e], .ints .i64 31 zs, .bools 8 ad, .ints .i64 1 [k], .bytes 32 ch, .gen 1 [.row n [.bytes n' box]], .bytes 32 tag]], K => n = box.length ∧ n' = box.length ∧ WSok ⟨lf, fr, e, zs, ad, k, ch, box, tag⟩ ∧ ∀ r, r = wlR ⟨lf, fr, e, zs, ad, k, ch, box, tag⟩ → K r
  | _, _ => False
theorem wlT_ok : ∀ args K, wlT args K → ∃ r, FnO 24 args r ∧ K r := by
  intro args K h
  unfold wlT at h
  split at h
  · obtain ⟨rfl, rfl, hw, h⟩ := h
    exact ⟨_, rwelcome_ok _ hw, h _ rfl⟩
  · exact h.elim
noncomputable def envT1 : EnvX := envXd5.add 24 wlT wlT_ok ⟨_, Try.func24, by kernel_rfl, by kernel_rfl⟩
noncomputable def envT2 : EnvX := envT1.addM 23 rviewS rviewS_ok ⟨_, Try.func23, by kernel_rfl, by kernel_rfl⟩
set_option maxHeartbeats 4000000 in
theorem rtoWelcome_ok (b : List UInt8) (hb : b.length ≤ 6000) : FnO 7 [.row b.length [.bytes b.length b]] (owRes b) := by
  refine fnA (E := envT2) Try.func7 Try.ntmps7 ?_
  have i0 : b.length ≤ 1000000 := by omega
  have i1 : (tkN 1 ⟨b, false⟩).bs.length ≤ b.length := tkN_len 1 ⟨b, false⟩
  have i2 : (nmN (tkN 1 ⟨b, false⟩)).bs.length ≤ b.length := Nat.le_trans (nmN_len _) i1
  have i3 : (nmN (nmN (tkN 1 ⟨b, false⟩))).bs.length ≤ b.length := Nat.le_trans (nmN_len _) i2
  have i4 : (xe (nmN (nmN (tkN 1 ⟨b, false⟩)))).bs.length ≤ b.length := Nat.le_trans (xe_len _) (Nat.le_trans (Nat.le_trans (nmN_len _) (nmN_len _)) i3)
  have i5 : (nmN (xe (nmN (nmN (tkN 1 ⟨b, false⟩))))).bs.length ≤ b.length := Nat.le_trans (nmN_len _) i4
  have i6 : (tkN (nmV (xe (nmN (nmN (tkN 1 ⟨b, false⟩))))).toNat ⟨(nmN (xe (nmN (nmN (tkN 1 ⟨b, false⟩))))).bs, (nmN (xe (nmN (nmN (tkN 1 ⟨b, false⟩))))).bad⟩).bs.length ≤ b.length := Nat.le_trans (tkN_len _ _) i5
  have z0 := nmV_nat (xe (nmN (nmN (tkN 1 ⟨b, false⟩))))
  have hw : WSok (rwRd (tkN 1 ⟨b, false⟩)) := rwRd_ok _ (Nat.le_trans i5 hb)
  refine agow ?_; (try with_reducible exact True.intro)
  intro r hr
  have hr : r = wlR (rwRd (tkN 1 ⟨b, false⟩)) := hr
  have hx : WSok (rwRd (tkN 1 ⟨b, false⟩)) := hw
  cases h1 : (tkN 32 (tkN (nmV (xe (nmN (nmN (tkN 1 ⟨b, false⟩))))).toNat ⟨(nmN (xe (nmN (nmN (tkN 1 ⟨b, false⟩))))).bs, (nmN (xe (nmN (nmN (tkN 1 ⟨b, false⟩))))).bad⟩)).bad with
  | true =>
    have hn : ¬ RwAll b := fun h => by
      have := h.good
      have e : (rwE (tkN 1 ⟨b, false⟩)).bad = true := h1
      rw [e] at this; cases this
    rw [rw_no hn]
    rcases hm : mayW (rwRd (tkN 1 ⟨b, false⟩)) with _ | _
    · rw [hr, wlR_no0 hm]
      refine agow ?_; (try with_reducible exact True.intro)
      try rfl
    · rw [hr, wlR_yes0 hm]
      refine agow ?_; (try with_reducible exact True.intro)
      try rfl
  | false =>
    by_cases hF : (tkV 1 ⟨b, false⟩).length = 1
    · have hF1 : (((tkV 1 ⟨b, false⟩).length : Nat) : Int) = 1 := by omega
      have hF0 : 0 < (tkV 1 ⟨b, false⟩).length := by omega
      obtain ⟨y, hy⟩ := List.length_eq_one_iff.1 hF
      have hg : (tkV 1 ⟨b, false⟩).getD 0 0 = y := by rw [hy]; rfl
      by_cases h2 : y = 2
      · have hB : (Bt ((tkV 1 ⟨b, false⟩).getD 0 0) != 2) = false := by rw [hg, h2]; decide
        rcases hm : mayW (rwRd (tkN 1 ⟨b, false⟩)) with _ | _
        · have hn : ¬ RwAll b := fun h => by rw [h.may] at hm; cases hm
          rw [rw_no hn, hr, wlR_no0 hm]
          refine agow ?_; (try with_reducible exact True.intro)
          try rfl
        · have hl := wlB_length hw
          have hN : wlN (rwRd (tkN 1 ⟨b, false⟩)) ≤ 900000 := by unfold wlN; have := hw.box; omega
          rw [hr, wlR_yes0 hm]
          by_cases hs : wlB (rwRd (tkN 1 ⟨b, false⟩)) = b
          · obtain ⟨k1, k2⟩ := rw_yes hw ⟨h1, by rw [hy, h2], hm, hs⟩
            rw [owRes_yes k1, k2]
            rw [hs] at hl ⊢
            refine agow ?_; (try with_reducible exact True.intro)
            rfl
          · have hn : ¬ RwAll b := fun h => hs h.same
            rw [rw_no hn]
            have hsd : (wlB (rwRd (tkN 1 ⟨b, false⟩)) == b) = false := by simpa using hs
            refine agow ?_; (try with_reducible exact True.intro)
            try rfl
      · have hB : (Bt ((tkV 1 ⟨b, false⟩).getD 0 0) != 2) = true := by
          rw [hg, bne_iff_ne]
          intro h
          apply h2
          have : Bt y = Bt 2 := by rw [h]; decide
          unfold Bt at this
          exact UInt8.toNat_inj.1 (by omega)
        have hn : ¬ RwAll b := fun h => by
          have := h.first
          rw [hy] at this
          exact h2 (List.cons.inj this).1
        rw [rw_no hn]
        rcases hm : mayW (rwRd (tkN 1 ⟨b, false⟩)) with _ | _
        · rw [hr, wlR_no0 hm]
          refine agow ?_; (try with_reducible exact True.intro)
          try rfl
        · rw [hr, wlR_yes0 hm]
          refine agow ?_; (try with_reducible exact True.intro)
          try rfl
    · have hF1 : ¬ (((tkV 1 ⟨b, false⟩).length : Nat) : Int) = 1 := by omega
      have hn : ¬ RwAll b := fun h => by
        have := h.first
        rw [this] at hF
        exact hF rfl
      rw [rw_no hn]
      rcases hm : mayW (rwRd (tkN 1 ⟨b, false⟩)) with _ | _
      · rw [hr, wlR_no0 hm]
        refine agow ?_; (try with_reducible exact True.intro)
        try rfl
      · rw [hr, wlR_yes0 hm]
        refine agow ?_; (try with_reducible exact True.intro)
        try rfl
end Go.Proofs.Ytbgdlggobbiibaa
