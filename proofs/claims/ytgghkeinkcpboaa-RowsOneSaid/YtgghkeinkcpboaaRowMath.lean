/-
  Numbers and rows as bytes. No function is named here.
-/
import Derived.Test.YtgghkeinkcpboaaPairF
import Derived.Test.YtgghkeinkcpboaaMake
namespace Go.Proofs.Ytgghkeinkcpboaa
set_option maxRecDepth 100000
open Go.RowKit
set_option linter.unusedVariables false

/-- a number's eight bytes -/
def numB (n : Int) : List UInt8 := [lowB n 56, lowB n 48, lowB n 40, lowB n 32, lowB n 24, lowB n 16, lowB n 8, lowB n 0]
theorem numB_length (n : Int) : (numB n).length = 8 := rfl
theorem numB_get (n : Int) (k : Nat) (h : k < 8) : (numB n)[k]? = some (lowB n (56 - 8 * k)) := by
  match k, h with
  | 0, _ => rfl
  | 1, _ => rfl
  | 2, _ => rfl
  | 3, _ => rfl
  | 4, _ => rfl
  | 5, _ => rfl
  | 6, _ => rfl
  | 7, _ => rfl
def partN (n : Int) (k : Nat) : List UInt8 := (numB n).take k ++ List.replicate (8 - k) 0
theorem partN_zero (n : Int) : partN n 0 = List.replicate 8 0 := rfl
theorem partN_all (n : Int) : partN n 8 = numB n := rfl
theorem partN_length (n : Int) (k : Nat) (h : k ≤ 8) : (partN n k).length = 8 := by simp [partN, numB_length]; omega
theorem partN_set (n : Int) (k : Nat) (h : k < 8) : (partN n k).set k (lowB n (56 - 8 * k)) = partN n (k + 1) := by
  match k, h with
  | 0, _ => rfl
  | 1, _ => rfl
  | 2, _ => rfl
  | 3, _ => rfl
  | 4, _ => rfl
  | 5, _ => rfl
  | 6, _ => rfl
  | 7, _ => rfl
theorem shift_factsR (k : Nat) (h : k ≤ 7) : IntKind.i64.wrap (8 * (k : Int)) = 8 * (k : Int) ∧ IntKind.i64.wrap (56 - 8 * (k : Int)) = 56 - 8 * (k : Int) ∧ 0 ≤ 56 - 8 * (k : Int) ∧ (56 - 8 * (k : Int)).toNat = 56 - 8 * k ∧ 56 - 8 * k ≤ 64 :=
  ⟨IntWalk.i64_in _ (by omega), IntWalk.i64_in _ (by omega), by omega, by omega, by omega⟩

/-- a row's length in two bytes -/
def rowHead (n : Nat) : List UInt8 := [UInt8.ofNat (n / 256), UInt8.ofNat n]
/-- rows as bytes, so many of them -/
def packP (L : List (List UInt8)) (k : Nat) : List UInt8 := UInt8.ofNat L.length :: (L.take k).flatMap fun p => rowHead p.length ++ p
def packW (L : List (List UInt8)) : List UInt8 := packP L L.length
def okRows (L : List (List UInt8)) : Bool := decide (L.length ≤ 60) && L.all fun p => decide (p.length ≤ 2000)
theorem packP_zero (L : List (List UInt8)) : packP L 0 = [UInt8.ofNat L.length] := by simp [packP]
theorem packP_succ (L : List (List UInt8)) (k : Nat) (h : k < L.length) : packP L (k + 1) = packP L k ++ rowHead L[k].length ++ L[k] := by
  unfold packP
  rw [List.take_add_one, List.getElem?_eq_getElem h, List.flatMap_append]
  simp
theorem Bt_ofNat (n : Nat) : Bt (UInt8.ofNat n) = (n : Int) % 256 := by
  unfold Bt
  rw [UInt8.toNat_ofNat']
  omega
theorem okRows_many {L : List (List UInt8)} (h : ¬ L.length ≤ 60) : okRows L = false := by unfold okRows; rw [decide_eq_false h]; rfl
theorem okRows_long {L : List (List UInt8)} (k : Nat) (hk : k < L.length) (h : ¬ L[k].length ≤ 2000) : okRows L = false := by
  unfold okRows
  rw [Bool.and_eq_false_iff]
  right
  rw [Bool.eq_false_iff]
  intro hall
  exact h (of_decide_eq_true (List.all_eq_true.1 hall L[k] (List.getElem_mem hk)))
theorem okRows_all {L : List (List UInt8)} (h1 : L.length ≤ 60) (h : ∀ (i : Nat) (hi : i < L.length), L[i].length ≤ 2000) : okRows L = true := by
  unfold okRows
  rw [decide_eq_true h1, Bool.true_and, List.all_eq_true]
  intro p hp
  obtain ⟨i, hi, rfl⟩ := List.getElem_of_mem hp
  exact decide_eq_true (h i hi)

/-- bytes as a number -/
def numK (b : List UInt8) : Nat := b.foldl (fun n c => n * 256 + c.toNat) 0
def isNum (b : List UInt8) : Bool := b.length == 8 && decide ((b.getD 0 0).toNat ≤ 127)
def numT (b : List UInt8) : Int := if isNum b then (numK b : Int) else 0
theorem numK_zero (b : List UInt8) : numK (b.take 0) = 0 := by simp [numK]
theorem numK_succ (b : List UInt8) (k : Nat) (h : k < b.length) : numK (b.take (k + 1)) = numK (b.take k) * 256 + b[k].toNat := by
  unfold numK
  rw [List.take_add_one, List.getElem?_eq_getElem h, List.foldl_append]
  simp
theorem numK_bd (b : List UInt8) (h0 : (b.getD 0 0).toNat ≤ 127) : ∀ (k : Nat), k < b.length → numK (b.take (k + 1)) < 128 * 256 ^ k
  | 0, h => by
    rw [numK_succ b 0 h, numK_zero]
    rw [List.getD_eq_getElem?_getD, List.getElem?_eq_getElem h] at h0
    simp at h0 ⊢
    omega
  | k + 1, h => by
    have ih := numK_bd b h0 k (by omega)
    rw [numK_succ b (k + 1) h]
    have hc := UInt8.toNat_lt b[k + 1]
    have e : 128 * 256 ^ (k + 1) = 128 * 256 ^ k * 256 := by rw [Nat.pow_succ, Nat.mul_assoc]
    rw [e]
    omega
theorem numK_lim (b : List UInt8) (h0 : (b.getD 0 0).toNat ≤ 127) (hl : b.length = 8) (k : Nat) (h : k < 8) : numK (b.take k) * 256 + 255 < 9223372036854775808 := by
  match k, h with
  | 0, _ => rw [numK_zero]; decide
  | k + 1, h =>
    have h1 := numK_bd b h0 k (by omega)
    have h2 : 256 ^ k ≤ 256 ^ 6 := Nat.pow_le_pow_right (by decide) (by omega)
    have e : (256 : Nat) ^ 6 = 281474976710656 := by decide
    rw [e] at h2
    omega
theorem or_join (a b : Nat) (hb : b < 256) (hs : a * 256 + b < 9223372036854775808) : bits .or .i64 ((a : Int) * 256) (b : Int) = ((a * 256 + b : Nat) : Int) := by
  have e1 : (a : Int) * 256 = ((a * 256 : Nat) : Int) := by omega
  rw [e1]
  show IntKind.i64.wrap ((BitVec.ofInt 64 ((a * 256 : Nat) : Int) ||| BitVec.ofInt 64 (b : Int)).toNat : Int) = _
  rw [BitVec.ofInt_natCast, BitVec.ofInt_natCast, BitVec.toNat_or, BitVec.toNat_ofNat, BitVec.toNat_ofNat, Nat.mod_eq_of_lt (by omega), Nat.mod_eq_of_lt (by omega)]
  have h := Nat.shiftLeft_add_eq_or_of_lt (show b < 2 ^ 8 by omega) a
  rw [Nat.shiftLeft_eq] at h
  have h2 : a * 256 ||| b = a * 256 + b := h.symm
  rw [h2, IntWalk.i64_in _ (by omega)]
end Go.Proofs.Ytgghkeinkcpboaa
