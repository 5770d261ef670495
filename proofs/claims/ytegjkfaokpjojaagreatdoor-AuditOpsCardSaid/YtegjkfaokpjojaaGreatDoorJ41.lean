/-
  The document's parties: a commit; its welcomes.
-/
import Derived.Test.YtegjkfaokpjojaaGreatDoorJ40
import Derived.Test.YtegjkfaokpjojaaGreatDoorJ38
import Derived.Test.YtegjkfaokpjojaaGreatDoorJ37
namespace Go.Proofs.YtegjkfaokpjojaaGreatDoor
set_option maxRecDepth 100000
open Go.RowKit Pm
set_option linter.unusedVariables false
set_option linter.unusedSimpArgs false
attribute [local irreducible] condK LoopA regA powI scal mulI isI deriveW numB numsB bodyB nodeW nextW viewHV doR chkV planL sealB boxD helD commonI keyZ placeI apE doP comE comP nextP joinP upW z480

abbrev cS0 (p : XS) (n : Nat) (ops : List Int) (m : Nat) (vs : List Int) (c : List Int) : List Seg := [.ints .i64 2 [p.e, p.lf], .gen 2 [.row n [.ints .i64 (n * 5) ops], .row m [.ints .i64 (m * 3) vs]], .ints .i64 4 c, .gen 1 [.v (.slice none 0 0)], .bytes 32 (List.replicate 32 0), .ints .i64 2 [0, 0]]
abbrev cSZ : List Seg := [.ints .i64 2 [0, 0], .gen 2 [.v (.slice none 0 0), .v (.slice none 0 0)], .ints .i64 4 [0, 0, 0, 0], .gen 1 [.v (.slice none 0 0)], .bytes 32 (List.replicate 32 0), .ints .i64 2 [0, 0]]
abbrev nSeg (p : XS) (s : List UInt8) (h : List Bool) : List Seg := [.ints .i64 1 [0], .ints .i64 31 (List.replicate 31 0), .bools 8 (List.replicate 8 false), .ints .i64 1 [0], .bytes 32 (List.replicate 32 0), .ints .i64 1 [p.lf], .ints .i64 2 [p.x, p.y], .bytes 480 s, .bools 15 h, .bytes 32 (List.replicate 32 0), .bytes 32 (List.replicate 32 0)]
theorem seq4 {α : Type} (a : α) (f g h : α → α) : ∃ J : Nat → α, J 0 = a ∧ J 1 = f (J 0) ∧ J 2 = g (J 1) ∧ J 3 = h (J 2) := ⟨fun j => match j with | 0 => a | 1 => f a | 2 => g (f a) | _ => h (g (f a)), rfl, rfl, rfl, rfl⟩
abbrev endC (R : Res) : Exit → St → Prop := fun e s => (e = .normal ∨ e = .ret) ∧ resK' envZg s (Tryz.f11).results.toList fun r => r = R
theorem cut_b96 {U : List UInt8} {x : Nat} (h : x < 3) : cut [.bytes 96 U] (x * 32) 32 = some [.bytes 32 ((U.drop (x * 32)).take 32)] := by
  unfold cut
  rw [if_neg (by decide), if_neg (show ¬ (Seg.bytes 96 U).n ≤ x * 32 from by simp only [Seg.n]; omega), if_pos (show x * 32 + 32 ≤ (Seg.bytes 96 U).n from by simp only [Seg.n]; omega), if_neg (show ¬ (x * 32 = 0 ∧ 32 = (Seg.bytes 96 U).n) from by simp only [Seg.n]; omega)]
  rfl
theorem common_in : ∀ a : Nat, a < 8 → ∀ b : Nat, b < 8 → 0 ≤ (if leafB (a : Int) = true ∧ leafB (b : Int) = true then (if (a : Int) = b then 2 * (a : Int) else if (a : Int) / 2 = b / 2 then (a : Int) / 2 * 4 + 1 else if (a : Int) / 4 = b / 4 then (a : Int) / 4 * 8 + 3 else 7) else 0) ∧ (if leafB (a : Int) = true ∧ leafB (b : Int) = true then (if (a : Int) = b then 2 * (a : Int) else if (a : Int) / 2 = b / 2 then (a : Int) / 2 * 4 + 1 else if (a : Int) / 4 = b / 4 then (a : Int) / 4 * 8 + 3 else 7) else 0) < 15 := by decide
theorem common_bd {j : Nat} (hj : j < 8) {lf : Int} (h0 : 0 ≤ lf) (h1 : lf < 8) : 0 ≤ commonI (j : Nat) lf ∧ commonI (j : Nat) lf < 15 := by
  obtain ⟨n, rfl⟩ := Int.eq_ofNat_of_zero_le h0
  have h := common_in j hj n (by omega)
  unfold commonI
  exact h
abbrev c4F (p : XS) (d : List UInt8) (ne : Int) (Z : List Int) (ad : List Bool) (k : Int) (ch1 : List UInt8) (ng : List Bool) (q : XS) (C : CS) (J : List UInt8) (W : Nat → List Seg) (j : Nat) : St :=
  ⟨[.d (.sref (xSegs p) 0), .dead, .dead, .dead, .dead, .dead, .dead, .ptr 0 0, .ptr 7 0, .dead, .dead, .dead, .dead, .ptr 1 0, .ptr 2 0, .dead, .dead, .ptr 3 0, .dead, .dead, .dead, .dead, .ptr 4 0, .dead, .dead, .dead, .dead, .dead, .ptr 5 0, .ptr 6 0, .own 8 (welN ng j), .d (.v (.int .i64 (j : Nat))), .dead, .dead, .dead, .dead, .dead, .dead, .dead, .dead, .dead, .dead, .dead, .dead, .dead, .dead, .dead, .dead, .dead, .dead, .dead, .dead, .dead, .dead, .dead, .dead, .dead, .dead, .dead, .dead, .dead, .dead, .dead, .dead, .dead, .dead, .dead, .dead, .dead, .dead, .dead, .dead, .dead, .dead, .dead, .dead, .dead, .dead, .dead, .dead, .dead, .dead, .dead, .dead, .dead, .dead, .dead, .dead, .dead, .dead, .dead, .dead, .dead, .dead, .dead, .dead, .dead, .dead, .dead, .dead, .dead, .dead, .dead, .dead, .dead, .dead, .dead, .dead, .dead, .dead, .dead, .dead, .dead, .dead, .dead, .dead, .dead, .dead, .dead, .dead, .dead, .dead, .dead, .dead, .dead, .dead, .dead, .dead, .dead, .dead, .dead, .dead, .dead, .dead, .dead, .dead, .dead, .dead, .dead, .dead, .dead, .dead, .dead, .dead, .dead, .dead, .dead, .dead, .dead, .dead, .dead, .dead, .dead, .dead, .dead, .dead, .dead, .dead, .dead, .dead, .dead, .dead, .dead, .dead, .dead, .dead, .dead, .dead, .dead, .dead, .dead, .dead, .dead, .dead, .dead, .dead, .dead, .dead, .dead, .dead, .dead, .dead, .dead, .dead, .dead, .dead, .dead, .dead, .dead, .dead, .dead, .dead, .dead, .dead, .dead, .dead, .dead, .dead, .dead, .dead, .dead, .dead, .dead, .dead, .dead, .dead, .dead, .dead, .dead, .dead, .dead, .dead, .dead, .dead, .dead, .dead, .dead, .dead, .dead, .dead, .dead, .dead, .dead, .dead, .dead, .dead, .dead, .dead, .dead, .dead, .dead, .dead, .dead, .dead, .dead, .dead, .dead, .dead, .dead, .dead, .dead, .dead, .dead, .dead, .dead, .dead, .dead, .dead, .dead, .dead, .dead, .dead, .dead, .dead, .dead, .dead, .dead, .dead, .dead, .dead, .dead, .dead, .dead, .dead, .dead, .dead, .dead, .dead, .dead, .dead, .dead, .dead, .dead, .dead, .dead, .dead, .dead, .dead, .dead, .dead, .dead, .dead, .dead, .dead, .dead, .dead, .dead, .dead, .dead, .dead, .dead, .dead, .dead, .dead, .dead, .dead, .dead], [some (.var [.bytes 32 d]), some (.var [.ints .i64 1 [p.e], .ints .i64 31 Z, .bools 8 ad, .ints .i64 1 [k], .bytes 32 p.ch]), some (.var [.bools 8 ng]), some (.var (xSegs q)), some (.var [.ints .i64 2 [C.e, C.fr], .gen 2 [.row C.n [.ints .i64 (C.n * 5) C.ops], .row C.m [.ints .i64 (C.m * 3) C.vs]], .ints .i64 4 [C.sl, C.p0, C.p1, C.p2], .gen 1 [.row C.k [.gen C.k (rowsF C.bx C.k)]], .bytes 32 C.tag, .ints .i64 2 [C.sE, C.sS]]), some (.var [.ints .i64 1 [ne], .ints .i64 31 Z, .bools 8 ad, .ints .i64 1 [k], .bytes 32 ch1]), some (.var [.bytes 32 J]), some (.var cSZ), some (.sl 122 108 (welN ng j) (welTo W ng j))]⟩
set_option maxHeartbeats 16000000 in
theorem xcom4 (p : XS) (d : List UInt8) (f0 : 0 ≤ p.lf) (f1 : p.lf < 8) (ne : Int) (Z : List Int) (ad : List Bool) (k : Int) (ch1 : List UInt8) (ng : List Bool) (q : XS) (C : CS) (J : List UInt8) (W : Nat → List Seg) (B : Nat → List UInt8)
    (hng : ∀ j : Nat, ng.getD j false = true → (j : Int) ≠ p.lf) (hj32 : J.length = 32) (hs : q.s.length = 480)
    (hB : ∀ j, B j = sealB (Z.getD (j * 2 + 1) 0) (scal (helD d j)) (J ++ blk q.s (commonI (j : Nat) p.lf).toNat))
    (hW : ∀ j, W j = [.ints .i64 2 [(j : Int), p.lf], .ints .i64 1 [ne], .ints .i64 31 Z, .bools 8 ad, .ints .i64 1 [k], .bytes 32 ch1, .gen 1 [.row (B j).length [.bytes (B j).length (B j)]], .bytes 32 C.tag])
    : atL envZg (wayL 23 0b11111111111111111111010) ((Tryz.f11).body.getD .skip) (endC (.t [.agg (cSegs2 C), .row (welN ng 8) (welTo W ng 8), .sref (xSegs q) 0, .v (.int .i64 0)])) (Rnds 8 (c4F p d ne Z ad k ch1 ng q C J W)) := by
  unfold endC
  intro j hj hl
  by_cases h : j < 8
  · have h1 : (j : Int) < 8 := by omega
    cases hb : ng.getD j false with
    | false =>
      have e1 : welN ng (j + 1) = welN ng j := by rw [welN, hb]; rfl
      have e2 : welTo W ng (j + 1) = welTo W ng j := by rw [welTo, hb]; rfl
      refine agow ?_; (try with_reducible exact True.intro)
      refine hl.go h [0, 7, 8, 13, 14, 17, 22, 28, 29, 30, 31] [0, 1, 2, 3, 4, 5, 6, 7, 8] ?_
      unfold c4F
      rw [e1, e2]
      rfl
    | true =>
      have e1 : welN ng (j + 1) = welN ng j + 1 := by rw [welN, hb]; rfl
      have e2 : welTo W ng (j + 1) = joinS (welTo W ng j) (W j) := by rw [welTo, hb, if_pos rfl, joinS_big (by rw [hW]; simp)]
      obtain ⟨p0, p1⟩ := common_bd h f0 f1
      have hwn := welN_le ng j
      have hne := hng j hb
      refine agow ?_; (try with_reducible exact True.intro)
      refine ⟨by rw [numB_length]; decide, ?_⟩
      refine agow ?_; (try with_reducible exact True.intro)
      refine hl.go h [0, 7, 8, 13, 14, 17, 22, 28, 29, 30, 31] [0, 1, 2, 3, 4, 5, 6, 7, 8] ?_
      unfold c4F
      rw [e1, e2, hW, hB]
      unfold helD blk
      rfl
  · obtain rfl : j = 8 := by omega
    have h1 : ¬ (8 : Int) < 8 := by omega
    refine agow ?_; (try with_reducible exact True.intro)
    rfl
end Go.Proofs.YtegjkfaokpjojaaGreatDoor
