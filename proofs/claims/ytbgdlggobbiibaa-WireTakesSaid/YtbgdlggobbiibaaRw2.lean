/-
  Bytes as a welcome: what is read, whole, was written so; the program.
-/
import Derived.Test.YtbgdlggobbiibaaRw1
namespace Go.Proofs.Ytbgdlggobbiibaa
set_option maxRecDepth 100000
open Go.RowKit Pm
set_option linter.unusedVariables false
set_option linter.unusedSimpArgs false
attribute [local irreducible] condK LoopA regA numB numsB tkV tkN numT isNum nmV nmN cntV cntN hashV boxV boxN nmsV nmsN flV flN flsV flsN ve

theorem numsB_31 {zs : List Int} (h : zs.length = 31) : numsB (zs.take 16) ++ numsB ((zs.drop 16).take 15) = numsB zs := by
  rw [List.take_of_length_le (show (zs.drop 16).length ≤ 15 by rw [List.length_drop]; omega), ← numsB_append, List.take_append_drop]
theorem viewB_form {e : Int} {zs : List Int} {ad : List Bool} {k : Int} {ch : List UInt8} (h : zs.length = 31) (t : List UInt8) : viewB e zs ad k ch ++ t = numB e ++ (numB k ++ (flagsB ad ++ (ch ++ (numsB zs ++ t)))) := by
  unfold viewB
  rw [numsB_31 h]
  simp only [numsB_cons, numsB_nil, List.append_assoc, List.append_nil]
/-- a welcome's bytes behind the first one, and more -/
def restW (w : WS) (t : List UInt8) : List UInt8 :=
  numB w.leaf ++ (numB w.fr ++ (numB w.e ++ (numB w.k ++ (flagsB w.ad ++ (w.ch ++ (numsB w.zs ++ ((numB (w.box.length : Int) ++ w.box) ++ (w.tag ++ t))))))))
theorem wl_form {w : WS} (h : w.zs.length = 31) (t : List UInt8) : wlB w ++ t = 2 :: restW w t := by
  unfold wlB restW boxB
  rw [List.append_assoc, List.append_assoc, List.append_assoc, viewB_form h]
  simp only [numsB_cons, numsB_nil, List.append_assoc, List.append_nil]
  rfl
theorem wl_back (R : Rd) (h : (wlN2 R).bad = false) : R.bad = false ∧ R.bs = restW (wlRd R) (wlN2 R).bs := by
  obtain ⟨h10, e10⟩ := hashV_back (R := boxN 300 (vg R)) h
  obtain ⟨h9, e9, _⟩ := boxN_back (R := vg R) h10
  have q9 : vg R = nmsN 31 (vd (va R)) := by unfold vg va; unfold ve; rfl
  rw [q9] at h9
  obtain ⟨h8, e8, _⟩ := nmsN_back (R := vd (va R)) h9
  obtain ⟨h7, e7⟩ := hashV_back (R := vc (va R)) h8
  obtain ⟨h6, e6⟩ := flsN_back (R := va (va R)) h7
  obtain ⟨h5, e5, _⟩ := nmN_back (R := nmN (va R)) h6
  obtain ⟨h4, e4, _⟩ := nmN_back h5
  obtain ⟨h3, e3, _⟩ := nmN_back (R := nmN R) h4
  obtain ⟨h2, e2, _⟩ := nmN_back h3
  refine ⟨h2, ?_⟩
  unfold restW
  show R.bs = numB (nmV R) ++ (numB (nmV (nmN R)) ++ (numB (nmV (va R)) ++ (numB (nmV (nmN (va R))) ++ (flagsB (flsV 8 (va (va R))) ++ (hashV (vc (va R)) ++ (numsB (nmsV 31 (vd (va R))) ++ ((numB ((boxV 300 (vg R)).length : Int) ++ boxV 300 (vg R)) ++ (hashV (boxN 300 (vg R)) ++ (wlN2 R).bs))))))))
  have p10 : (wlN2 R).bs = (tkN 32 (boxN 300 (vg R))).bs := rfl
  rw [p10, ← e10, ← e9, q9, ← e8]
  have p8 : vd (va R) = tkN 32 (vc (va R)) := rfl
  rw [p8, ← e7]
  have p7 : vc (va R) = flsN 8 (va (va R)) := rfl
  rw [p7, ← e6]
  have p6 : va (va R) = nmN (nmN (va R)) := rfl
  rw [p6, ← e5, ← e4]
  have p4 : va R = nmN (nmN R) := rfl
  rw [p4, ← e3, ← e2]
/-- bytes as a welcome -/
def wlOf (b : List UInt8) : WS := wlRd (kdN 2 ⟨b, false⟩)
def okW (b : List UInt8) : Bool := !(wlN2 (kdN 2 ⟨b, false⟩)).bad && (decide ((wlN2 (kdN 2 ⟨b, false⟩)).bs.length = 0) && mayW (wlOf b))
theorem wlRd_ok (R : Rd) : WSok (wlRd R) := by
  refine ⟨nmsV_length _ _, flsV_length _ _, hashV_length _, hashV_length _, ?_⟩
  show (boxV 300 (vg R)).length ≤ 6000
  have h1 := tkV_length (cntV 300 (vg R)).toNat (cntN 300 (vg R))
  have h2 := cntV_le (m := 300) (R := vg R) (by decide)
  unfold boxV
  omega
theorem okW_back {b : List UInt8} (h : okW b = true) : mayW (wlOf b) = true ∧ WSok (wlOf b) ∧ b = wlB (wlOf b) := by
  unfold okW at h
  simp only [Bool.and_eq_true, Bool.not_eq_true', decide_eq_true_eq] at h
  obtain ⟨h1, h2, h3⟩ := h
  obtain ⟨h4, h5⟩ := wl_back _ h1
  have h6 := kd_back h4
  have h7 := wlRd_ok (kdN 2 ⟨b, false⟩)
  refine ⟨h3, h7, ?_⟩
  have h9 : (wlN2 (kdN 2 ⟨b, false⟩)).bs = [] := List.length_eq_zero_iff.1 h2
  rw [h9] at h5
  rw [h5] at h6
  have h10 := wl_form (w := wlOf b) h7.zs []
  rw [List.append_nil] at h10
  rw [h10]
  exact h6
/-- no bytes are both -/
theorem not_both {b : List UInt8} (h1 : okC b = true) (h2 : okW b = true) : False := by
  obtain ⟨_, _, _, e1⟩ := okC_back h1
  obtain ⟨_, k2, e2⟩ := okW_back h2
  have f1 := commit_form (cOf b) []
  have f2 := wl_form (w := wlOf b) k2.zs []
  rw [List.append_nil, ← e1] at f1
  rw [List.append_nil, ← e2, f1] at f2
  injection f2 with f3
  exact absurd f3 (by decide)
noncomputable def envW3 : EnvX := envWe.addM 11 kindX kindX_ok ⟨_, Try.func11, by kernel_rfl, by kernel_rfl⟩
noncomputable def envW4 : EnvX := envW3.addM 21 (rdM (fun R => .d (.agg (wlSegs (wlRd R)))) wlN2) (rdM_of wwelcome_rd) ⟨_, Try.func21, by kernel_rfl, by kernel_rfl⟩
noncomputable def envW5 : EnvX := envW4.addM 13 (rdM (fun R => .d (.v (.bool (!R.bad && decide (R.bs.length = 0))))) (fun R => R)) (rdM_of ended_ok) ⟨_, Try.func13, by kernel_rfl, by kernel_rfl⟩
theorem Bt_two : Bt 2 = 2 := by decide
def welcome0 : A := .agg [.ints .i64 2 [0, 0], .ints .i64 1 [0], .ints .i64 31 (List.replicate 31 0), .bools 8 (List.replicate 8 false), .ints .i64 1 [0], .bytes 32 (List.replicate 32 0), .gen 1 [.v (.slice none 0 0)], .bytes 32 (List.replicate 32 0)]
/-- bytes as a welcome, or refused -/
def owRes (b : List UInt8) : Res := if okW b = true then .t [.agg (wlSegs (wlOf b)), .v (.int .i64 0)] else .t [welcome0, .v (.int .i64 2)]
attribute [local irreducible] mayW
set_option maxHeartbeats 2000000 in
theorem wtoWelcome_ok (b : List UInt8) (hb : b.length ≤ 1000000) : FnO 6 [.row b.length [.bytes b.length b]] (owRes b) := by
  refine fnA (E := envW5) Try.func6 Try.ntmps6 ?_
  have h1' : (kdN 2 ⟨b, false⟩).bs.length ≤ 1000000 := Nat.le_trans (kdN_len 2 ⟨b, false⟩) hb
  have h2 : (wlN2 (kdN 2 ⟨b, false⟩)).bs.length ≤ 1000000 := by
    refine Nat.le_trans ?_ h1'
    generalize kdN 2 ⟨b, false⟩ = R
    have i1 := nmN_len R; have i2 := nmN_len (nmN R)
    have i3 := ve_len (nmN (nmN R))
    have i4 : (boxN 300 (vg R)).bs.length ≤ (ve (nmN (nmN R))).bs.length := boxN_len 300 _
    have i5 : (wlN2 R).bs.length ≤ (boxN 300 (vg R)).bs.length := tkN_len _ _
    omega
  have hc := wlRd_ok (kdN 2 ⟨b, false⟩)
  have e1 := Bt_two
  cases h3 : (!(wlN2 (kdN 2 ⟨b, false⟩)).bad && decide ((wlN2 (kdN 2 ⟨b, false⟩)).bs.length = 0)) with
  | false =>
    have e : owRes b = .t [welcome0, .v (.int .i64 2)] := by
      unfold owRes okW
      rw [← Bool.and_assoc, h3]; rfl
    rw [e]
    clear e
    refine agow ?_; (try with_reducible exact True.intro)
    refine ⟨2, Bt_two.symm, ?_⟩
    refine agow ?_; (try with_reducible exact True.intro)
    try rfl
  | true =>
    cases h4 : mayW (wlRd (kdN 2 ⟨b, false⟩)) with
    | false =>
      have e : owRes b = .t [welcome0, .v (.int .i64 2)] := by
        unfold owRes okW wlOf
        rw [← Bool.and_assoc, h3, h4]; rfl
      rw [e]
      clear e
      refine agow ?_; (try with_reducible exact True.intro)
      refine ⟨2, Bt_two.symm, ?_⟩
      refine agow ?_; (try with_reducible exact True.intro)
      try rfl
    | true =>
      have e : owRes b = .t [.agg (wlSegs (wlOf b)), .v (.int .i64 0)] := by
        unfold owRes okW wlOf
        rw [← Bool.and_assoc, h3, h4]; rfl
      rw [e]
      clear e
      refine agow ?_; (try with_reducible exact True.intro)
      refine ⟨2, Bt_two.symm, ?_⟩
      refine agow ?_; (try with_reducible exact True.intro)
      try rfl
end Go.Proofs.Ytbgdlggobbiibaa
