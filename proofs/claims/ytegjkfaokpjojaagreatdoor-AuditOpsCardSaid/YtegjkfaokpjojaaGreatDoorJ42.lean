/-
  The document's parties: a commit; its boxes, and what is reckoned behind them.
-/
import Derived.Test.YtegjkfaokpjojaaGreatDoorJ41
namespace Go.Proofs.YtegjkfaokpjojaaGreatDoor
set_option maxRecDepth 100000
open Go.RowKit Pm
set_option linter.unusedVariables false
set_option linter.unusedSimpArgs false
attribute [local irreducible] condK LoopA regA powI scal mulI isI deriveW numB numsB bodyB nodeW nextW viewHV doR chkV planL sealB boxD helD commonI keyZ placeI apE doP comE comP nextP joinP upW z480

theorem xseal_bd (y x : Int) (p : List UInt8) : (sealB y x p).length ≤ 212 := by
  unfold sealB
  split
  · next h =>
    unfold sealOk at h
    simp only [Bool.and_eq_true, decide_eq_true_eq] at h
    unfold boxW
    rw [List.length_append, List.length_append, tagW_length, xorW_length]
    have : (fourB (powI 4 x)).length = 4 := rfl
    omega
  · simp
theorem xbodyT_bd {c : CS} {t : List UInt8} (hn : c.n ≤ 3000) (hm : c.m ≤ 3000) (hk : c.k ≤ 24) (ho : c.ops.length = c.n * 5) (hv : c.vs.length = c.m * 3) (hb : ∀ j, j < c.k → (c.bx j).length ≤ 6000) (ht : t.length = 32) : (bodyB c ++ t).length ≤ 1000000 := by
  rw [List.length_append, ht, body_length ⟨hn, hm, by omega, ho, hv, hb⟩]
  have := bxN_le hb
  unfold bodyN
  omega
abbrev c3F (p : XS) (n : Nat) (ops : List Int) (m : Nat) (vs : List Int) (d : List UInt8) (s : Vw) (own U T : List UInt8) (Z : List Int) (SS : List UInt8) (HH : List Bool) (pl : List (Int × Int)) (bx : Nat → List UInt8) (j : Nat) : St := ⟨[.d (.sref (xSegs p) 0), .dead, .dead, .dead, .dead, .dead, .dead, .ptr 0 0, .ptr 1 0, .dead, .dead, .dead, .dead, .ptr 2 0, .ptr 3 0, .dead, .dead, .ptr 4 0, .dead, .ptr 5 0, .ptr 6 0, .dead, .ptr 7 0, .dead, .own 8 pl.length, .d (.v (.int .i64 (j : Nat))), .dead, .dead, .dead, .dead, .dead, .dead, .dead, .dead, .dead, .dead, .dead, .dead, .dead, .dead, .dead, .dead, .dead, .dead, .dead, .dead, .dead, .dead, .dead, .dead, .dead, .dead, .dead, .dead, .dead, .dead, .dead, .dead, .dead, .dead, .dead, .dead, .dead, .dead, .dead, .dead, .dead, .dead, .dead, .dead, .dead, .dead, .dead, .dead, .dead, .dead, .dead, .dead, .dead, .dead, .dead, .dead, .dead, .dead, .dead, .dead, .dead, .dead, .dead, .dead, .dead, .dead, .dead, .dead, .dead, .dead, .dead, .dead, .dead, .dead, .dead, .dead, .dead, .dead, .dead, .dead, .dead, .dead, .dead, .dead, .dead, .dead, .dead, .dead, .dead, .dead, .dead, .dead, .dead, .dead, .dead, .dead, .dead, .dead, .dead, .dead, .dead, .dead, .dead, .dead, .dead, .dead, .dead, .dead, .dead, .dead, .dead, .dead, .dead, .dead, .dead, .dead, .dead, .dead, .dead, .dead, .dead, .dead, .dead, .dead, .dead, .dead, .dead, .dead, .dead, .dead, .dead, .dead, .dead, .dead, .dead, .dead, .dead, .dead, .dead, .dead, .dead, .dead, .dead, .dead, .dead, .dead, .dead, .dead, .dead, .dead, .dead, .dead, .dead, .dead, .dead, .dead, .dead, .dead, .dead, .dead, .dead, .dead, .dead, .dead, .dead, .dead, .dead, .dead, .dead, .dead, .dead, .dead, .dead, .dead, .dead, .dead, .dead, .dead, .dead, .dead, .dead, .dead, .dead, .dead, .dead, .dead, .dead, .dead, .dead, .dead, .dead, .dead, .dead, .dead, .dead, .dead, .dead, .dead, .dead, .dead, .dead, .dead, .dead, .dead, .dead, .dead, .dead, .dead, .dead, .dead, .dead, .dead, .dead, .dead, .dead, .dead, .dead, .dead, .dead, .dead, .dead, .dead, .dead, .dead, .dead, .dead, .dead, .dead, .dead, .dead, .dead, .dead, .dead, .dead, .dead, .dead, .dead, .dead, .dead, .dead, .dead, .dead, .dead, .dead, .dead, .dead, .dead, .dead, .dead, .dead, .dead, .dead, .dead, .dead, .dead, .dead, .dead, .dead, .dead, .dead, .dead, .dead, .dead, .dead, .dead, .dead, .dead, .dead, .dead, .dead, .dead], [some (.var [.bytes 32 d]), some (.var cSZ), some (.var [.ints .i64 1 [p.e], .ints .i64 31 Z, .bools 8 s.ad, .ints .i64 1 [s.k], .bytes 32 p.ch]), some (.var [.bools 8 s.ng]), some (.var (nSeg p SS HH)), some (.var [.bytes 96 U]), some (.var [.bytes 32 T]), some (.vh (cS0 p n ops m vs [powI 4 (scal (nodeW own)), powI 4 (scal (nodeW (List.take 32 U))), powI 4 (scal (nodeW (List.take 32 (List.drop 32 U)))), powI 4 (scal (nodeW (List.take 32 (List.drop 64 U))))]) 8 true 96 1 j [.gen j (rowsF bx j)]), some (.sl 112 2 pl.length [.ints .i64 (pl.length * 2) (flat2 pl)])]⟩
/-- the commit before its tag -/
abbrev cc0 (p : XS) (n : Nat) (ops : List Int) (m : Nat) (vs : List Int) (own U : List UInt8) (pl : List (Int × Int)) (bx : Nat → List UInt8) (tag : List UInt8) (sE sS : Int) : CS :=
  { e := p.e, fr := p.lf, n := n, ops := ops, m := m, vs := vs, sl := powI 4 (scal (nodeW own)), p0 := powI 4 (scal (nodeW (List.take 32 U))), p1 := powI 4 (scal (nodeW (List.take 32 (List.drop 32 U)))), p2 := powI 4 (scal (nodeW (List.take 32 (List.drop 64 U)))), k := pl.length, bx := bx, tag := tag, sE := sE, sS := sS }
/-- the next chain -/
abbrev cch (p : XS) (n : Nat) (ops : List Int) (m : Nat) (vs : List Int) (own U : List UInt8) (pl : List (Int × Int)) (bx : Nat → List UInt8) : List UInt8 := chnW p.ch (bodyB (cc0 p n ops m vs own U pl bx (List.replicate 32 0) 0 0))
abbrev cq (p : XS) (s : Vw) (ch1 T : List UInt8) (Z : List Int) (SS : List UInt8) (HH : List Bool) : XS :=
  enterX ⟨0, List.replicate 31 0, List.replicate 8 false, 0, List.replicate 32 0, p.lf, p.x, p.y, SS, HH, List.replicate 32 0, List.replicate 32 0⟩ (p.e + 1) Z s.ad s.k ch1 (joiW p.ini T)
abbrev ctg (p : XS) (s : Vw) (ch1 T : List UInt8) (Z : List Int) : List UInt8 := tagE (epoW (joiW p.ini T) (viewHV (p.e + 1) Z s.ad s.k ch1))
abbrev cC (p : XS) (n : Nat) (ops : List Int) (m : Nat) (vs : List Int) (own U : List UInt8) (pl : List (Int × Int)) (bx : Nat → List UInt8) (tg : List UInt8) : CS :=
  cc0 p n ops m vs own U pl bx tg (sigE p.x (bodyB (cc0 p n ops m vs own U pl bx tg 0 0) ++ tg)) (sigS p.x (bodyB (cc0 p n ops m vs own U pl bx tg 0 0) ++ tg))
abbrev cB (p : XS) (d : List UInt8) (Z : List Int) (J : List UInt8) (q : XS) (j : Nat) : List UInt8 := sealB (Z.getD (j * 2 + 1) 0) (scal (helD d j)) (J ++ blk q.s (commonI (j : Nat) p.lf).toNat)
abbrev cW (p : XS) (Z : List Int) (s : Vw) (ch1 tg : List UInt8) (B : Nat → List UInt8) (j : Nat) : List Seg :=
  [.ints .i64 2 [(j : Int), p.lf], .ints .i64 1 [p.e + 1], .ints .i64 31 Z, .bools 8 s.ad, .ints .i64 1 [s.k], .bytes 32 ch1, .gen 1 [.row (B j).length [.bytes (B j).length (B j)]], .bytes 32 tg]
set_option maxHeartbeats 4000000 in
theorem xcom3 (p : XS) (n : Nat) (ops : List Int) (hn : n ≤ 3000) (m : Nat) (vs : List Int) (hm : m ≤ 3000) (ho : ops.length = n * 5) (hv : vs.length = m * 3) (d : List UInt8) (f0 : 0 ≤ p.lf) (f1 : p.lf < 8) (he : -4611686018427387904 ≤ p.e ∧ p.e ≤ 4611686018427387904) (hx0 : 1 ≤ p.x) (hx1 : p.x < 1073741789) (hy : p.y = powI 4 p.x) (s : Vw) (own U T : List UInt8) (Z : List Int) (SS : List UInt8) (HH : List Bool) (pl : List (Int × Int)) (bx : Nat → List UInt8)
    (hpl24 : pl.length ≤ 24) (hin : ∀ q ∈ pl, 0 ≤ q.1 ∧ q.1 < 3 ∧ 0 ≤ q.2 ∧ q.2 < 15) (hbx : ∀ j, bx j = sealB (keyZ Z (pl.getD j (0, 0)).2) (scal (boxD d (j : Nat))) (abK U (pl.getD j (0, 0)).1.toNat)) (hSS : SS.length = 480) (hng : ∀ j : Nat, s.ng.getD j false = true → (j : Int) ≠ p.lf)
    (ch1 tg : List UInt8) (q : XS) (W : Nat → List Seg) (hch : ch1 = cch p n ops m vs own U pl bx) (htg : tg = ctg p s ch1 T Z) (hq : q = cq p s ch1 T Z SS HH) (hW : W = cW p Z s ch1 tg (cB p d Z (joiW p.ini T) q)) :
    atL envZg (wayL 18 0b111111111111111010) ((Tryz.f11).body.getD .skip) (endC (.t [.agg (cSegs2 (cC p n ops m vs own U pl bx tg)), .row (welN s.ng 8) (welTo W s.ng 8), .sref (xSegs q) 0, .v (.int .i64 0)])) (Rnds pl.length (c3F p n ops m vs d s own U T Z SS HH pl bx)) := by
  unfold endC
  intro j hj hl
  by_cases h : j < pl.length
  · have h1 : (j : Int) < (pl.length : Int) := by omega
    have hf2 := flat2_at pl j h
    have hg2 := (flat2_get pl j).1
    have hm2 : pl.getD j (0, 0) ∈ pl := by rw [List.getD_eq_getElem?_getD, List.getElem?_eq_getElem h]; exact List.getElem_mem h
    obtain ⟨a0, a1, b0, b1⟩ := hin _ hm2
    have hbj := hbx j
    have hsucc := rowsF_succ bx j
    have hget1 := (flat2_get pl j).1
    have hget2 := (flat2_get pl j).2
    clear hbx hin hm2 hf2 hg2
    generalize pl.getD j (0, 0) = q at *
    obtain ⟨q, mm⟩ := q
    simp only at a0 a1 b0 b1 hget1 hget2 hbj
    rw [← hget1] at a0 a1
    rw [← hget2] at b0 b1
    refine agow ?_; (try with_reducible exact True.intro)
    refine ⟨by rw [numB_length]; decide, ?_⟩
    refine agow ?_; (try with_reducible exact True.intro)
    rw [cut_b96 (show ((flat2 pl).getD (j * 2) 0).toNat < 3 by omega)]
    refine agow ?_; (try with_reducible exact True.intro)
    refine hl.go h [0, 7, 8, 13, 14, 17, 19, 20, 22, 24, 25] [0, 1, 2, 3, 4, 5, 6, 7, 8] ?_
    unfold c3F
    rw [hsucc, hbj, ← hget1, ← hget2]
    unfold boxD abK
    rfl
  · obtain rfl : j = pl.length := by omega
    have h1 : ¬ (pl.length : Int) < (pl.length : Int) := by omega
    refine agow ?_; (try with_reducible exact True.intro)
    refine ⟨fun j _ => (hbx j).symm ▸ Nat.le_trans (xseal_bd _ _ _) (by decide), he.1, he.2, ?_⟩
    refine agow ?_; (try with_reducible exact True.intro)
    refine ⟨fun j _ => (hbx j).symm ▸ Nat.le_trans (xseal_bd _ _ _) (by decide), ?_⟩
    refine agow ?_; (try with_reducible exact True.intro)
    refine ⟨xbodyT_bd hn hm hpl24 ho hv (fun j _ => by show (bx j).length ≤ 6000; rw [hbx]; exact Nat.le_trans (xseal_bd _ _ _) (by decide)) (tagE_len _), ?_⟩
    refine agow ?_; (try with_reducible exact True.intro)
    subst hW hq htg hch
    exact StopL.mk (loop_forN [0, 7, 8, 13, 14, 17, 22, 28, 29, 30, 31] [0, 2, 3, 4, 7, 9, 10, 1, 12] 30 122 108 [] 8 _ (xcom4 p d f0 f1 (p.e + 1) Z s.ad s.k (cch p n ops m vs own U pl bx) s.ng (cq p s (cch p n ops m vs own U pl bx) T Z SS HH) (cC p n ops m vs own U pl bx (ctg p s (cch p n ops m vs own U pl bx) T Z)) (joiW p.ini T) _ (cB p d Z (joiW p.ini T) (cq p s (cch p n ops m vs own U pl bx) T Z SS HH)) hng (joiW_len _ _) hSS (fun _ => rfl) (fun _ => rfl)))
end Go.Proofs.YtegjkfaokpjojaaGreatDoor
