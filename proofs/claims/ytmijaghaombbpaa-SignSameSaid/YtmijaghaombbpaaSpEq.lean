/-
  Taking bytes one by one, and by padded eights: one sum. No program is named here.
-/
import Derived.Test.YtmijaghaombbpaaSpWords
namespace Go.Proofs.Ytmijaghaombbpaa
set_option maxRecDepth 100000
open Go.RowKit

/-- the word of the first j of eight bytes from p on -/
def wordN (P : List UInt8) (p : Nat) : Nat → BitVec 64
  | 0 => 0
  | j + 1 => (wordN P p j <<< 8) ||| w8 (P[p + j]?.getD 0)
/-- k eights taken in -/
def rabs (P : List UInt8) : Nat → W5
  | 0 => turnW ⟨32, 0, 0, 0, 0⟩
  | k + 1 => turnW { rabs P k with a := (rabs P k).a ^^^ wordN P (8 * k) 8 }

theorem or_low (x : BitVec 64) (c : UInt8) : (x <<< 8) ||| w8 c = (x <<< 8) ^^^ w8 c := by
  apply BitVec.eq_of_getLsbD_eq
  intro i hi
  rw [BitVec.getLsbD_or, BitVec.getLsbD_xor]
  by_cases h : i < 8
  · have : (x <<< 8).getLsbD i = false := by simp [h]
    rw [this]; simp
  · have : (w8 c).getLsbD i = false := by
      unfold w8
      rw [BitVec.getLsbD_ofNat]
      have h1 := c.toNat_lt
      have h2 : c.toNat < 2 ^ i := Nat.lt_of_lt_of_le (by omega : c.toNat < 2 ^ 8) (Nat.pow_le_pow_right (by decide) (by omega))
      rw [Nat.testBit_lt_two_pow h2, Bool.and_false]
    rw [this]; simp
theorem word8 (P : List UInt8) (p : Nat) : wordN P p 8 = (w8 (P[p]?.getD 0) <<< 56) ^^^ (w8 (P[p + 1]?.getD 0) <<< 48) ^^^ (w8 (P[p + 2]?.getD 0) <<< 40) ^^^ (w8 (P[p + 3]?.getD 0) <<< 32) ^^^
    (w8 (P[p + 4]?.getD 0) <<< 24) ^^^ (w8 (P[p + 5]?.getD 0) <<< 16) ^^^ (w8 (P[p + 6]?.getD 0) <<< 8) ^^^ w8 (P[p + 7]?.getD 0) := by
  have hs : ∀ j, wordN P p (j + 1) = (wordN P p j <<< 8) ^^^ w8 (P[p + j]?.getD 0) := fun j => or_low _ _
  have h0 : wordN P p 0 = 0#64 := rfl
  rw [hs 7, hs 6, hs 5, hs 4, hs 3, hs 2, hs 1, hs 0, h0, Nat.add_zero]
  simp only [BitVec.shiftLeft_xor_distrib, ← BitVec.shiftLeft_add, BitVec.zero_shiftLeft, BitVec.zero_xor]
theorem takes_eight (P : List UInt8) (p : Nat) (x : W5) (h : p + 8 ≤ P.length) : takes ⟨x, 0⟩ ((P.drop p).take 8) = ⟨turnW { x with a := x.a ^^^ wordN P p 8 }, 0⟩ := by
  have e : (P.drop p).take 8 = [P[p]?.getD 0, P[p + 1]?.getD 0, P[p + 2]?.getD 0, P[p + 3]?.getD 0, P[p + 4]?.getD 0, P[p + 5]?.getD 0, P[p + 6]?.getD 0, P[p + 7]?.getD 0] := by
    apply List.ext_getElem?
    intro i
    by_cases hi : i < 8
    · rw [List.getElem?_take_of_lt hi, List.getElem?_drop]
      have hg : ∀ j, j < 8 → P[p + j]? = some (P[p + j]?.getD 0) := by
        intro j hj; rw [List.getElem?_eq_getElem (by omega)]; rfl
      match i, hi with
      | 0, _ => exact hg 0 (by decide)
      | 1, _ => exact hg 1 (by decide)
      | 2, _ => exact hg 2 (by decide)
      | 3, _ => exact hg 3 (by decide)
      | 4, _ => exact hg 4 (by decide)
      | 5, _ => exact hg 5 (by decide)
      | 6, _ => exact hg 6 (by decide)
      | 7, _ => exact hg 7 (by decide)
      | n + 8, h8 => omega
    · rw [List.getElem?_take, if_neg hi, List.getElem?_eq_none (by simp; omega)]
  rw [e, word8]
  simp only [takes, List.foldl, takeB]
  simp [BitVec.xor_assoc]
theorem takes_blocks (P : List UInt8) : ∀ k, 8 * k ≤ P.length → takes beginW (P.take (8 * k)) = ⟨rabs P k, 0⟩
  | 0, _ => rfl
  | k + 1, h => by
    have e : P.take (8 * (k + 1)) = P.take (8 * k) ++ (P.drop (8 * k)).take 8 := by
      rw [show 8 * (k + 1) = 8 * k + 8 by omega, List.take_add]
    rw [e, takes_append, takes_blocks P k (by omega), takes_eight P (8 * k) _ (by omega)]
    rfl
theorem w8_zero : w8 0 = 0#64 := by decide
theorem takeB_zero (x : W5) (a : Nat) : takeB ⟨x, a⟩ 0 = if a = 7 then ⟨turnW x, 0⟩ else ⟨x, a + 1⟩ := by
  unfold takeB
  simp only [w8_zero, BitVec.zero_shiftLeft, BitVec.xor_zero]
theorem takes_zeros : ∀ (n : Nat) (x : W5) (a : Nat), a + n = 8 → 0 < n → takes ⟨x, a⟩ (List.replicate n 0) = ⟨turnW x, 0⟩
  | 0, _, _, _, h => by omega
  | n + 1, x, a, h, _ => by
    rw [List.replicate_succ]
    show takes (takeB ⟨x, a⟩ 0) (List.replicate n 0) = _
    rw [takeB_zero]
    by_cases h7 : a = 7
    · have : n = 0 := by omega
      subst this
      rw [if_pos h7]; rfl
    · rw [if_neg h7]
      exact takes_zeros n x (a + 1) (by omega) (by omega)
theorem takes_at_mod (l : List UInt8) : ∀ s : Sp, s.at_ ≤ 7 → (takes s l).at_ = (s.at_ + l.length) % 8 := by
  induction l with
  | nil => intro s h; show s.at_ = (s.at_ + 0) % 8; omega
  | cons c l ih =>
    intro s h
    show (takes (takeB s c) l).at_ = _
    rw [ih _ (takeB_at s c h)]
    have e : (takeB s c).at_ = (s.at_ + 1) % 8 := by
      unfold takeB
      by_cases h7 : s.at_ = 7
      · simp [h7]
      · simp [h7]; omega
    rw [e, List.length_cons]
    omega
/-- padded eights come to the same -/
theorem rabs_sum (l : List UInt8) (n K : Nat) (h : l.length + 1 + n = 8 * K) (hn : n ≤ 7) : rabs (l ++ [128] ++ List.replicate n 0) K = tIter 1 (lastW (takes beginW l)) := by
  have h1 := takes_blocks (l ++ [128] ++ List.replicate n 0) K (by simp; omega)
  rw [List.take_of_length_le (by simp; omega), takes_append, takes_append] at h1
  have hat := takes_at_mod l beginW (by decide)
  generalize hs : takes beginW l = s at *
  have ha : s.at_ + n = 7 := by
    have : beginW.at_ = 0 := rfl
    rw [this] at hat
    omega
  have e : takes s [128] = takeB s 128 := rfl
  have hl : (⟨(lastW s), s.at_ + 1⟩ : Sp) = ⟨{ s.x with a := s.x.a ^^^ (w8 128 <<< (56 - 8 * s.at_)) }, s.at_ + 1⟩ := by
    unfold lastW; rw [show w8 128 = 0x80#64 by decide]
  rw [e] at h1
  unfold takeB at h1
  by_cases h7 : s.at_ = 7
  · have : n = 0 := by omega
    subst this
    rw [if_pos h7] at h1
    have h2 : turnW { s.x with a := s.x.a ^^^ (w8 128 <<< (56 - 8 * s.at_)) } = rabs (l ++ [128] ++ List.replicate 0 0) K := congrArg Sp.x h1
    rw [← h2]
    show _ = turnW (lastW s)
    unfold lastW; rw [show w8 128 = 0x80#64 by decide]
  · rw [if_neg h7, ← hl, takes_zeros n _ _ (by omega) (by omega)] at h1
    exact (congrArg Sp.x h1).symm
end Go.Proofs.Ytmijaghaombbpaa
