/-
  The document's parties: a commit; its own nodes and its plan.
-/
import Derived.Test.YtegjkfaokpjojaaGreatDoorJ42
namespace Go.Proofs.YtegjkfaokpjojaaGreatDoor
set_option maxRecDepth 100000
open Go.RowKit Pm
set_option linter.unusedVariables false
set_option linter.unusedSimpArgs false
attribute [local irreducible] condK LoopA regA powI scal mulI isI deriveW numB numsB bodyB nodeW nextW viewHV doR chkV planL sealB boxD helD commonI keyZ placeI apE doP comE comP nextP joinP upW z480

theorem get_same {l : List Int} {i : Nat} {v : Int} (h : i < l.length) : (l.set i v).getD i 0 = v := by
  rw [List.getD_eq_getElem?_getD, List.getElem?_set_self h]; rfl
/-- what is to be shown of one round -/
def Rnd1 (N j : Nat) (f : Nat → St) (body : St → (Exit → St → Prop) → Prop) (k : Exit → St → Prop) : Prop :=
  LastR N f j → body (f j) fun e s' => match e with | .normal => RoundE N f j s' | e => k e s'
abbrev c2F (p : XS) (n : Nat) (ops : List Int) (m : Nat) (vs : List Int) (d : List UInt8) (s : Vw) (own U T : List UInt8) (zJ : Nat → List Int) (sJ : Nat → List UInt8) (hJ : Nat → List Bool) (cJ : Nat → List Int) (j : Nat) : St := ⟨[.d (.sref (xSegs p) 0), .dead, .dead, .dead, .dead, .dead, .dead, .ptr 0 0, .ptr 1 0, .dead, .dead, .dead, .dead, .ptr 2 0, .ptr 3 0, .dead, .dead, .ptr 4 0, .dead, .ptr 5 0, .ptr 6 0, .ptr 7 0, .ptr 8 0, .d (.v (.int .i64 (j : Nat))), .dead, .dead, .dead, .dead, .dead, .dead, .dead, .dead, .dead, .dead, .dead, .dead, .dead, .dead, .dead, .dead, .dead, .dead, .dead, .dead, .dead, .dead, .dead, .dead, .dead, .dead, .dead, .dead, .dead, .dead, .dead, .dead, .dead, .dead, .dead, .dead, .dead, .dead, .dead, .dead, .dead, .dead, .dead, .dead, .dead, .dead, .dead, .dead, .dead, .dead, .dead, .dead, .dead, .dead, .dead, .dead, .dead, .dead, .dead, .dead, .dead, .dead, .dead, .dead, .dead, .dead, .dead, .dead, .dead, .dead, .dead, .dead, .dead, .dead, .dead, .dead, .dead, .dead, .dead, .dead, .dead, .dead, .dead, .dead, .dead, .dead, .dead, .dead, .dead, .dead, .dead, .dead, .dead, .dead, .dead, .dead, .dead, .dead, .dead, .dead, .dead, .dead, .dead, .dead, .dead, .dead, .dead, .dead, .dead, .dead, .dead, .dead, .dead, .dead, .dead, .dead, .dead, .dead, .dead, .dead, .dead, .dead, .dead, .dead, .dead, .dead, .dead, .dead, .dead, .dead, .dead, .dead, .dead, .dead, .dead, .dead, .dead, .dead, .dead, .dead, .dead, .dead, .dead, .dead, .dead, .dead, .dead, .dead, .dead, .dead, .dead, .dead, .dead, .dead, .dead, .dead, .dead, .dead, .dead, .dead, .dead, .dead, .dead, .dead, .dead, .dead, .dead, .dead, .dead, .dead, .dead, .dead, .dead, .dead, .dead, .dead, .dead, .dead, .dead, .dead, .dead, .dead, .dead, .dead, .dead, .dead, .dead, .dead, .dead, .dead, .dead, .dead, .dead, .dead, .dead, .dead, .dead, .dead, .dead, .dead, .dead, .dead, .dead, .dead, .dead, .dead, .dead, .dead, .dead, .dead, .dead, .dead, .dead, .dead, .dead, .dead, .dead, .dead, .dead, .dead, .dead, .dead, .dead, .dead, .dead, .dead, .dead, .dead, .dead, .dead, .dead, .dead, .dead, .dead, .dead, .dead, .dead, .dead, .dead, .dead, .dead, .dead, .dead, .dead, .dead, .dead, .dead, .dead, .dead, .dead, .dead, .dead, .dead, .dead, .dead, .dead, .dead, .dead, .dead, .dead, .dead, .dead, .dead, .dead, .dead, .dead, .dead, .dead, .dead, .dead, .dead, .dead, .dead], [some (.var [.bytes 32 d]), some (.var cSZ), some (.var [.ints .i64 1 [p.e], .ints .i64 31 (zJ j), .bools 8 s.ad, .ints .i64 1 [s.k], .bytes 32 p.ch]), some (.var [.bools 8 s.ng]), some (.var (nSeg p (sJ j) (hJ j))), some (.var [.bytes 96 U]), some (.var [.bytes 32 T]), some (.var [.ints .i64 3 [p.lf / 2 * 4 + 1, p.lf / 4 * 8 + 3, 7]]), some (.var (cS0 p n ops m vs (cJ j)))]⟩
/-- what a commit answers, told by the tree, the secrets and the plan -/
def comA (p : XS) (n : Nat) (ops : List Int) (m : Nat) (vs : List Int) (d : List UInt8) (s : Vw) (own U T : List UInt8) (Z : List Int) (SS : List UInt8) (HH : List Bool) : List A :=
  let pl := planL Z p.lf s.ng
  let bx : Nat → List UInt8 := fun j => sealB (keyZ Z (pl.getD j (0, 0)).2) (scal (boxD d (j : Nat))) (abK U (pl.getD j (0, 0)).1.toNat)
  let ch1 := cch p n ops m vs own U pl bx
  let tg := ctg p s ch1 T Z
  let q := cq p s ch1 T Z SS HH
  [.agg (cSegs2 (cC p n ops m vs own U pl bx tg)), .row (welN s.ng 8) (welTo (cW p Z s ch1 tg (cB p d Z (joiW p.ini T) q)) s.ng 8), .sref (xSegs q) 0, .v (.int .i64 0)]
set_option maxHeartbeats 16000000 in
theorem xcom2r0 (p : XS) (n : Nat) (ops : List Int) (m : Nat) (vs : List Int) (d : List UInt8) (f0 : 0 ≤ p.lf) (f1 : p.lf < 8) (s : Vw) (own U T : List UInt8) (zJ : Nat → List Int) (sJ : Nat → List UInt8) (hJ : Nat → List Bool) (cJ : Nat → List Int)
    (z1 : zJ 1 = (zJ 0).set (16 + (p.lf / 2 * 4 + 1).toNat) (powI 4 (scal (nodeW (List.take 32 U))))) (s1 : sJ 1 = sPut (sJ 0) (p.lf / 2 * 4 + 1).toNat (List.take 32 U)) (cl0 : (cJ 0).length = 4) (c1 : cJ 1 = (cJ 0).set 1 (powI 4 (scal (nodeW (List.take 32 U))))) (b1 : hJ 1 = (hJ 0).set (p.lf / 2 * 4 + 1).toNat true) (K : Exit → St → Prop) : atL envZg (wayL 16 0b1111111111111010) ((Tryz.f11).body.getD .skip) K (Rnd1 3 0 (c2F p n ops m vs d s own U T zJ sJ hJ cJ)) := by
  intro hl
  have h : 0 < 3 := by decide
  have h1 : ((0 : Nat) : Int) < 3 := by decide
  refine agow ?_; (try with_reducible exact True.intro)
  refine hl.go h [0, 7, 8, 13, 14, 17, 19, 20, 21, 22, 23] [0, 1, 2, 3, 4, 5, 6, 7, 8] ?_
  unfold c2F
  rw [get_same (show 1 < (cJ 0).length by rw [cl0]; decide), z1, s1, b1, c1]
  unfold sPut
  rfl
set_option maxHeartbeats 16000000 in
theorem xcom2r1 (p : XS) (n : Nat) (ops : List Int) (m : Nat) (vs : List Int) (d : List UInt8) (f0 : 0 ≤ p.lf) (f1 : p.lf < 8) (s : Vw) (own U T : List UInt8) (zJ : Nat → List Int) (sJ : Nat → List UInt8) (hJ : Nat → List Bool) (cJ : Nat → List Int)
    (z2 : zJ 2 = (zJ 1).set (16 + (p.lf / 4 * 8 + 3).toNat) (powI 4 (scal (nodeW (List.take 32 (List.drop 32 U)))))) (s2 : sJ 2 = sPut (sJ 1) (p.lf / 4 * 8 + 3).toNat (List.take 32 (List.drop 32 U))) (cl1 : (cJ 1).length = 4) (c2 : cJ 2 = (cJ 1).set 2 (powI 4 (scal (nodeW (List.take 32 (List.drop 32 U)))))) (b2 : hJ 2 = (hJ 1).set (p.lf / 4 * 8 + 3).toNat true) (K : Exit → St → Prop) : atL envZg (wayL 16 0b1111111111111010) ((Tryz.f11).body.getD .skip) K (Rnd1 3 1 (c2F p n ops m vs d s own U T zJ sJ hJ cJ)) := by
  intro hl
  have h : 1 < 3 := by decide
  have h1 : ((1 : Nat) : Int) < 3 := by decide
  refine agow ?_; (try with_reducible exact True.intro)
  refine hl.go h [0, 7, 8, 13, 14, 17, 19, 20, 21, 22, 23] [0, 1, 2, 3, 4, 5, 6, 7, 8] ?_
  unfold c2F
  rw [get_same (show 2 < (cJ 1).length by rw [cl1]; decide), z2, s2, b2, c2]
  unfold sPut
  rfl
set_option maxHeartbeats 16000000 in
theorem xcom2r2 (p : XS) (n : Nat) (ops : List Int) (m : Nat) (vs : List Int) (d : List UInt8) (f0 : 0 ≤ p.lf) (f1 : p.lf < 8) (s : Vw) (own U T : List UInt8) (zJ : Nat → List Int) (sJ : Nat → List UInt8) (hJ : Nat → List Bool) (cJ : Nat → List Int)
    (z3 : zJ 3 = (zJ 2).set 23 (powI 4 (scal (nodeW (List.take 32 (List.drop 64 U)))))) (s3 : sJ 3 = sPut (sJ 2) 7 (List.take 32 (List.drop 64 U))) (cl2 : (cJ 2).length = 4) (c3 : cJ 3 = (cJ 2).set 3 (powI 4 (scal (nodeW (List.take 32 (List.drop 64 U)))))) (b3 : hJ 3 = (hJ 2).set 7 true) (K : Exit → St → Prop) : atL envZg (wayL 16 0b1111111111111010) ((Tryz.f11).body.getD .skip) K (Rnd1 3 2 (c2F p n ops m vs d s own U T zJ sJ hJ cJ)) := by
  intro hl
  have h : 2 < 3 := by decide
  have h1 : ((2 : Nat) : Int) < 3 := by decide
  refine agow ?_; (try with_reducible exact True.intro)
  refine hl.go h [0, 7, 8, 13, 14, 17, 19, 20, 21, 22, 23] [0, 1, 2, 3, 4, 5, 6, 7, 8] ?_
  unfold c2F
  rw [get_same (show 3 < (cJ 2).length by rw [cl2]; decide), z3, s3, b3, c3]
  unfold sPut
  rfl
set_option maxHeartbeats 16000000 in
theorem xcom2e (p : XS) (n : Nat) (ops : List Int) (hn : n ≤ 3000) (m : Nat) (vs : List Int) (hm : m ≤ 3000) (ho : ops.length = n * 5) (hv : vs.length = m * 3) (d : List UInt8) (hf : leafB p.lf = true) (he : -4611686018427387904 ≤ p.e ∧ p.e ≤ 4611686018427387904) (hx0 : 1 ≤ p.x) (hx1 : p.x < 1073741789) (hy : p.y = powI 4 p.x) (s : Vw) (own U T : List UInt8)
    (zJ : Nat → List Int) (sJ : Nat → List UInt8) (hJ : Nat → List Bool) (cJ : Nat → List Int)
    (hc : cJ 3 = [powI 4 (scal (nodeW own)), powI 4 (scal (nodeW (List.take 32 U))), powI 4 (scal (nodeW (List.take 32 (List.drop 32 U)))), powI 4 (scal (nodeW (List.take 32 (List.drop 64 U))))]) (hSS : (sJ 3).length = 480) (hng : ∀ j : Nat, s.ng.getD j false = true → (j : Int) ≠ p.lf) :
    atL envZg (wayL 16 0b1111111111111010) ((Tryz.f11).body.getD .skip) (endC (.t (comA p n ops m vs d s own U T (zJ 3) (sJ 3) (hJ 3)))) (Rnd1 3 3 (c2F p n ops m vs d s own U T zJ sJ hJ cJ)) := by
  unfold endC
  obtain ⟨f0, f1⟩ := leafB_t hf
  intro hl
  unfold c2F
  rw [hc]
  refine agow ?_; (try with_reducible exact True.intro)
  intro N L hN hL
  obtain ⟨pl, hpl⟩ : ∃ pl, pl = planL (zJ 3) p.lf s.ng := ⟨_, rfl⟩
  rw [← hpl] at hN hL
  subst hN hL
  refine agow ?_; (try with_reducible exact True.intro)
  unfold comA
  rw [← hpl]
  exact StopL.mk (loop_forV [0, 7, 8, 13, 14, 17, 19, 20, 22, 24, 25] [0, 1, 2, 3, 4, 5, 6, 8, 9] 8 8 96 1 [.gen 0 []] pl.length _ (xcom3 p n ops hn m vs hm ho hv d f0 f1 he hx0 hx1 hy s own U T (zJ 3) (sJ 3) (hJ 3) pl _ (hpl ▸ planL_len _ _ _) (fun q hq => planL_in (hpl ▸ hq)) (fun _ => rfl) hSS hng _ _ _ _ rfl rfl rfl rfl))
set_option maxHeartbeats 16000000 in
theorem xcom2 (p : XS) (n : Nat) (ops : List Int) (hn : n ≤ 3000) (m : Nat) (vs : List Int) (hm : m ≤ 3000) (ho : ops.length = n * 5) (hv : vs.length = m * 3) (d : List UInt8) (hf : leafB p.lf = true) (he : -4611686018427387904 ≤ p.e ∧ p.e ≤ 4611686018427387904) (hx0 : 1 ≤ p.x) (hx1 : p.x < 1073741789) (hy : p.y = powI 4 p.x) (s : Vw) (own U T : List UInt8)
    (zJ : Nat → List Int) (sJ : Nat → List UInt8) (hJ : Nat → List Bool) (cJ : Nat → List Int)
    (z1 : zJ 1 = (zJ 0).set (16 + (p.lf / 2 * 4 + 1).toNat) (powI 4 (scal (nodeW (List.take 32 U))))) (z2 : zJ 2 = (zJ 1).set (16 + (p.lf / 4 * 8 + 3).toNat) (powI 4 (scal (nodeW (List.take 32 (List.drop 32 U)))))) (z3 : zJ 3 = (zJ 2).set 23 (powI 4 (scal (nodeW (List.take 32 (List.drop 64 U))))))
    (s1 : sJ 1 = sPut (sJ 0) (p.lf / 2 * 4 + 1).toNat (List.take 32 U)) (s2 : sJ 2 = sPut (sJ 1) (p.lf / 4 * 8 + 3).toNat (List.take 32 (List.drop 32 U))) (s3 : sJ 3 = sPut (sJ 2) 7 (List.take 32 (List.drop 64 U)))
    (cl0 : (cJ 0).length = 4) (c1 : cJ 1 = (cJ 0).set 1 (powI 4 (scal (nodeW (List.take 32 U))))) (b1 : hJ 1 = (hJ 0).set (p.lf / 2 * 4 + 1).toNat true) (cl1 : (cJ 1).length = 4) (c2 : cJ 2 = (cJ 1).set 2 (powI 4 (scal (nodeW (List.take 32 (List.drop 32 U)))))) (b2 : hJ 2 = (hJ 1).set (p.lf / 4 * 8 + 3).toNat true) (cl2 : (cJ 2).length = 4) (c3 : cJ 3 = (cJ 2).set 3 (powI 4 (scal (nodeW (List.take 32 (List.drop 64 U)))))) (b3 : hJ 3 = (hJ 2).set 7 true)
    (hc : cJ 3 = [powI 4 (scal (nodeW own)), powI 4 (scal (nodeW (List.take 32 U))), powI 4 (scal (nodeW (List.take 32 (List.drop 32 U)))), powI 4 (scal (nodeW (List.take 32 (List.drop 64 U))))]) (hSS : (sJ 3).length = 480) (hng : ∀ j : Nat, s.ng.getD j false = true → (j : Int) ≠ p.lf) :
    atL envZg (wayL 16 0b1111111111111010) ((Tryz.f11).body.getD .skip) (endC (.t (comA p n ops m vs d s own U T (zJ 3) (sJ 3) (hJ 3)))) (Rnds 3 (c2F p n ops m vs d s own U T zJ sJ hJ cJ)) := by
  obtain ⟨f0, f1⟩ := leafB_t hf
  intro j hj
  obtain rfl | rfl | rfl | rfl : j = 0 ∨ j = 1 ∨ j = 2 ∨ j = 3 := by omega
  · exact xcom2r0 p n ops m vs d f0 f1 s own U T zJ sJ hJ cJ z1 s1 cl0 c1 b1 _
  · exact xcom2r1 p n ops m vs d f0 f1 s own U T zJ sJ hJ cJ z2 s2 cl1 c2 b2 _
  · exact xcom2r2 p n ops m vs d f0 f1 s own U T zJ sJ hJ cJ z3 s3 cl2 c3 b3 _
  · exact xcom2e p n ops hn m vs hm ho hv d hf he hx0 hx1 hy s own U T zJ sJ hJ cJ hc hSS hng
end Go.Proofs.YtegjkfaokpjojaaGreatDoor
