/-
  The document's parties: a commit, from its beginning.
-/
import Derived.Test.YtegjkfaokpjojaaGreatDoorJ43
namespace Go.Proofs.YtegjkfaokpjojaaGreatDoor
set_option maxRecDepth 100000
open Go.RowKit Pm
set_option linter.unusedVariables false
set_option linter.unusedSimpArgs false
attribute [local irreducible] condK LoopA regA powI scal mulI isI deriveW numB numsB bodyB nodeW nextW viewHV doR chkV planL sealB boxD helD commonI keyZ placeI apE doP comE comP nextP joinP upW z480

/-- the tree with the committer's keys -/
def comZ (p : XS) (s : Vw) (own U : List UInt8) : List Int :=
  (((s.zs.set (p.lf.toNat * 2 + 1) (powI 4 (scal (nodeW own)))).set (16 + (p.lf / 2 * 4 + 1).toNat) (powI 4 (scal (nodeW (List.take 32 U))))).set (16 + (p.lf / 4 * 8 + 3).toNat) (powI 4 (scal (nodeW (List.take 32 (List.drop 32 U)))))).set 23 (powI 4 (scal (nodeW (List.take 32 (List.drop 64 U)))))
/-- the committer's secrets -/
def comSS (p : XS) (own U : List UInt8) : List UInt8 :=
  sPut (sPut (sPut (sPut z480 (2 * p.lf).toNat own) (p.lf / 2 * 4 + 1).toNat (List.take 32 U)) (p.lf / 4 * 8 + 3).toNat (List.take 32 (List.drop 32 U))) 7 (List.take 32 (List.drop 64 U))
def comHH (p : XS) : List Bool := (((F15.set (2 * p.lf).toNat true).set (p.lf / 2 * 4 + 1).toNat true).set (p.lf / 4 * 8 + 3).toNat true).set 7 true
/-- what a commit answers -/
def xcomR (p : XS) (n : Nat) (ops : List Int) (m : Nat) (vs : List Int) (d : List UInt8) : List A :=
  if chkV p.e p.zs p.ad p.k p.ch p.lf ops n vs m = 0 then
    if (doR p.e ⟨p.zs, p.ad, p.k, F8, F8⟩ p.lf ops n).1 = 0 then
      if p.e ≥ 1099511627776 then [.agg cSZ, .v (.slice none 0 0), .v (.pointer none), .v (.int .i64 12)]
      else comA p n ops m vs d (doR p.e ⟨p.zs, p.ad, p.k, F8, F8⟩ p.lf ops n).2 (deriveW d (sb ⟨#[108, 101, 97, 102]⟩) []) (upW (deriveW d (sb ⟨#[108, 101, 97, 102]⟩) [])) (topW (deriveW d (sb ⟨#[108, 101, 97, 102]⟩) []))
        (comZ p (doR p.e ⟨p.zs, p.ad, p.k, F8, F8⟩ p.lf ops n).2 (deriveW d (sb ⟨#[108, 101, 97, 102]⟩) []) (upW (deriveW d (sb ⟨#[108, 101, 97, 102]⟩) []))) (comSS p (deriveW d (sb ⟨#[108, 101, 97, 102]⟩) []) (upW (deriveW d (sb ⟨#[108, 101, 97, 102]⟩) []))) (comHH p)
    else [.agg cSZ, .v (.slice none 0 0), .v (.pointer none), .v (.int .i64 (doR p.e ⟨p.zs, p.ad, p.k, F8, F8⟩ p.lf ops n).1)]
  else [.agg cSZ, .v (.slice none 0 0), .v (.pointer none), .v (.int .i64 (chkV p.e p.zs p.ad p.k p.ch p.lf ops n vs m))]
attribute [local irreducible] comA comZ comSS comHH
set_option maxHeartbeats 16000000 in
theorem xcommit_fn (p : XS) (n : Nat) (ops : List Int) (hn : n ≤ 3000) (m : Nat) (vs : List Int) (hm : m ≤ 3000) (d : List UInt8) (hf : leafB p.lf = true) (he : -4611686018427387904 ≤ p.e ∧ p.e ≤ 4611686018427387904) (hx0 : 1 ≤ p.x) (hx1 : p.x < 1073741789) (hy : p.y = powI 4 p.x)
    (hng : (doR p.e ⟨p.zs, p.ad, p.k, F8, F8⟩ p.lf ops n).1 = 0 → ∀ j : Nat, (doR p.e ⟨p.zs, p.ad, p.k, F8, F8⟩ p.lf ops n).2.ng.getD j false = true → (j : Int) ≠ p.lf) :
    FnO 11 [.sref (xSegs p) 0, .row n [.ints .i64 (n * 5) ops], .row m [.ints .i64 (m * 3) vs], .agg [.bytes 32 d]] (.t (xcomR p n ops m vs d)) := by
  refine fn_lens fun hL => ?_
  have ho : ops.length = n * 5 := hL.1.1
  have hv : vs.length = m * 3 := hL.2.1.1
  clear hL
  obtain ⟨R, hR⟩ : ∃ R, R = xcomR p n ops m vs d := ⟨_, rfl⟩
  rw [← hR]
  unfold xcomR at hR
  refine fnA (E := envZg) Tryz.func11 Tryz.ntmps11 ?_
  obtain ⟨f0, f1⟩ := leafB_t hf
  have e1 : IntKind.i64.wrap (2 * p.lf) = 2 * p.lf := wrapS (by omega) (by omega)
  have q0 : 0 ≤ IntKind.i64.wrap (2 * p.lf) := by rw [e1]; omega
  have q1 : IntKind.i64.wrap (2 * p.lf) < 15 := by rw [e1]; omega
  have HO := Lib.hid ho
  have HV := Lib.hid hv
  have HG := Lib.hid hng
  have HR := Lib.hid hR
  have HE := Lib.hid e1
  clear e1 hR hng ho hv
  refine agow ?_; (try with_reducible exact True.intro)
  intro er her
  by_cases h1 : er = 0
  · subst h1
    refine agow ?_; (try with_reducible exact True.intro)
    intro er2 her2
    by_cases h2 : er2 = 0
    · have g2 := decide_eq_true h2
      subst h2
      refine agow ?_; (try with_reducible exact True.intro)
      intro s hs
      by_cases h5 : p.e ≥ 1099511627776
      · refine agow ?_; (try with_reducible exact True.intro)
        have hR := HR.out
        rw [if_pos her.symm, if_pos her2.symm, if_pos h5] at hR
        rw [hR]
        rfl
      · refine agow ?_; (try with_reducible exact True.intro)
        intro own hown
        refine agow ?_; (try with_reducible exact True.intro)
        intro U T hU hT
        refine agow ?_; (try with_reducible exact True.intro)
        have hR := HR.out
        rw [if_pos her.symm, if_pos her2.symm, if_neg h5, ← hown, ← hU, ← hT, ← hs] at hR
        have hng := HG.out her2.symm
        rw [← hs] at hng
        obtain ⟨zJ, z0, z1, z2, z3⟩ : ∃ zJ : Nat → List Int, zJ 0 = s.zs.set (p.lf.toNat * 2 + 1) (powI 4 (scal (nodeW own))) ∧ zJ 1 = (zJ 0).set (16 + (p.lf / 2 * 4 + 1).toNat) (powI 4 (scal (nodeW (List.take 32 U)))) ∧ zJ 2 = (zJ 1).set (16 + (p.lf / 4 * 8 + 3).toNat) (powI 4 (scal (nodeW (List.take 32 (List.drop 32 U))))) ∧ zJ 3 = (zJ 2).set 23 (powI 4 (scal (nodeW (List.take 32 (List.drop 64 U))))) :=
          seq4 _ (fun z => List.set z (16 + (p.lf / 2 * 4 + 1).toNat) (powI 4 (scal (nodeW (List.take 32 U))))) (fun z => List.set z (16 + (p.lf / 4 * 8 + 3).toNat) (powI 4 (scal (nodeW (List.take 32 (List.drop 32 U)))))) (fun z => List.set z 23 (powI 4 (scal (nodeW (List.take 32 (List.drop 64 U))))))
        obtain ⟨sJ, s0, s1, s2, s3⟩ : ∃ sJ : Nat → List UInt8, sJ 0 = sPut z480 (2 * p.lf).toNat own ∧ sJ 1 = sPut (sJ 0) (p.lf / 2 * 4 + 1).toNat (List.take 32 U) ∧ sJ 2 = sPut (sJ 1) (p.lf / 4 * 8 + 3).toNat (List.take 32 (List.drop 32 U)) ∧ sJ 3 = sPut (sJ 2) 7 (List.take 32 (List.drop 64 U)) :=
          seq4 _ (fun z => sPut z (p.lf / 2 * 4 + 1).toNat (List.take 32 U)) (fun z => sPut z (p.lf / 4 * 8 + 3).toNat (List.take 32 (List.drop 32 U))) (fun z => sPut z 7 (List.take 32 (List.drop 64 U)))
        obtain ⟨hJ, b0, b1, b2, b3⟩ : ∃ hJ : Nat → List Bool, hJ 0 = F15.set (2 * p.lf).toNat true ∧ hJ 1 = (hJ 0).set (p.lf / 2 * 4 + 1).toNat true ∧ hJ 2 = (hJ 1).set (p.lf / 4 * 8 + 3).toNat true ∧ hJ 3 = (hJ 2).set 7 true :=
          seq4 _ (fun z => List.set z (p.lf / 2 * 4 + 1).toNat true) (fun z => List.set z (p.lf / 4 * 8 + 3).toNat true) (fun z => List.set z 7 true)
        obtain ⟨cJ, c0, c1, c2, c3⟩ : ∃ cJ : Nat → List Int, cJ 0 = [powI 4 (scal (nodeW own)), 0, 0, 0] ∧ cJ 1 = (cJ 0).set 1 (powI 4 (scal (nodeW (List.take 32 U)))) ∧ cJ 2 = (cJ 1).set 2 (powI 4 (scal (nodeW (List.take 32 (List.drop 32 U))))) ∧ cJ 3 = (cJ 2).set 3 (powI 4 (scal (nodeW (List.take 32 (List.drop 64 U))))) :=
          seq4 _ (fun z => List.set z 1 (powI 4 (scal (nodeW (List.take 32 U))))) (fun z => List.set z 2 (powI 4 (scal (nodeW (List.take 32 (List.drop 32 U)))))) (fun z => List.set z 3 (powI 4 (scal (nodeW (List.take 32 (List.drop 64 U))))))
        have hZ : zJ 3 = comZ p s own U := by unfold comZ; rw [z3, z2, z1, z0]
        have hS : sJ 3 = comSS p own U := by unfold comSS; rw [s3, s2, s1, s0]
        have hH : hJ 3 = comHH p := by unfold comHH; rw [b3, b2, b1, b0]
        have hl0 : own.length = 32 := by rw [hown]; exact lefW_len d
        have hlU : U.length = 96 := by rw [hU]; exact upW_len _
        have hSS : (sJ 3).length = 480 := by
          rw [s3, s2, s1, s0]
          exact sPut_len (sPut_len (sPut_len (sPut_len z480_len hl0 (by omega)) (by simp; omega) (by omega)) (by simp; omega) (by omega)) (by simp; omega) (by decide)
        rw [← hZ, ← hS, ← hH] at hR
        rw [hR]
        exact StopL.mk (loop_forG [0, 7, 8, 13, 14, 17, 19, 20, 21, 22, 23] [0, 1, 3, 4, 6, 8, 9, 10, 12] 3 (c2F p n ops m vs d s own U T zJ sJ hJ cJ) (xcom2 p n ops hn m vs hm HO.out HV.out d hf he hx0 hx1 hy s own U T zJ sJ hJ cJ z1 z2 z3 s1 s2 s3 (by rw [c0]; rfl) c1 b1 (by rw [c1, c0]; rfl) c2 b2 (by rw [c2, c1, c0]; rfl) c3 b3 (by rw [c3, c2, c1, c0]; simp only [List.set_cons_zero, List.set_cons_succ]) hSS hng) (h2 := by unfold c2F; rw [z0, s0, b0, c0]; unfold sPut; exact rfl))
    · have g2 := decide_eq_false h2
      refine agow ?_; (try with_reducible exact True.intro)
      have hR := HR.out
      rw [if_pos her.symm, if_neg (fun e => h2 (her2.trans e))] at hR
      rw [hR, ← her2]
      rfl
  · refine agow ?_; (try with_reducible exact True.intro)
    have hR := HR.out
    rw [if_neg (fun e => h1 (her.trans e))] at hR
    rw [hR, ← her]
    rfl
end Go.Proofs.YtegjkfaokpjojaaGreatDoor
