/-
  The document's parties: what they hold is told by what the program's hold. Mathematics; no function is named here.
-/
import Derived.Test.YtegjkfaokpjojaaJ35
import Derived.Test.YtegjkfaokpjojaaPm7
namespace Go.Proofs.Ytegjkfaokpjojaa
set_option maxRecDepth 100000
open Go.RowKit Pm
set_option linter.unusedVariables false
set_option linter.unusedSimpArgs false

/-- the i-th of fifteen sums, written -/
def sPut (s : List UInt8) (i : Nat) (h : List UInt8) : List UInt8 := s.take (i * 32) ++ (h ++ s.drop (i * 32 + 32))
/-- the i-th of fifteen sums -/
def blk (s : List UInt8) (i : Nat) : List UInt8 := (s.drop (i * 32)).take 32
theorem z480_len : z480.length = 480 := by unfold z480; simp
theorem z480_blk {j : Nat} (hj : j < 15) : blk z480 j = zB 32 := by
  unfold blk z480
  rw [List.drop_replicate, List.take_replicate, show min 32 (480 - j * 32) = 32 by omega]
theorem sPut_len {s h : List UInt8} {i : Nat} (hs : s.length = 480) (hh : h.length = 32) (hi : i < 15) : (sPut s i h).length = 480 := by
  unfold sPut; simp; omega
theorem sPut_blk {s h : List UInt8} {i j : Nat} (hs : s.length = 480) (hh : h.length = 32) (hi : i < 15) (hj : j < 15) : blk (sPut s i h) j = if j = i then h else blk s j := by
  unfold blk sPut
  have h1 : (s.take (i * 32)).length = i * 32 := by simp; omega
  by_cases e : j = i
  · subst e
    rw [if_pos rfl, List.drop_append_of_le_length (by omega), List.drop_eq_nil_of_le (by omega), List.nil_append, List.take_append_of_le_length (by omega), List.take_of_length_le (by omega)]
  · rw [if_neg e]
    rcases Nat.lt_or_ge j i with h2 | h2
    · rw [List.drop_append_of_le_length (by omega), List.take_append_of_le_length (by simp; omega), List.drop_take, List.take_take, show min 32 (i * 32 - j * 32) = 32 by omega]
    · rw [List.drop_append, List.drop_eq_nil_of_le (by omega), List.nil_append, h1, List.drop_append, List.drop_eq_nil_of_le (by omega), List.nil_append, List.drop_drop, hh]
      congr 2
      omega
/-- fifteen sums are told one by one -/
theorem blk_ext {s t : List UInt8} (hs : s.length = 480) (ht : t.length = 480) (h : ∀ j, j < 15 → blk s j = blk t j) : s = t := by
  apply List.ext_getElem (by omega)
  intro n h1 h2
  have k := h (n / 32) (by omega)
  unfold blk at k
  have k2 := congrArg (fun l => l[n % 32]?) k
  simp only [List.getElem?_take, List.getElem?_drop, if_pos (Nat.mod_lt n (show 32 > 0 by decide))] at k2
  rw [show n / 32 * 32 + n % 32 = n by omega, List.getElem?_eq_getElem h1, List.getElem?_eq_getElem h2] at k2
  exact Option.some.inj k2
theorem sPut_same {s h : List UInt8} {i : Nat} (hs : s.length = 480) (hh : h.length = 32) (hi : i < 15) (e : blk s i = h) : sPut s i h = s := by
  refine blk_ext (sPut_len hs hh hi) hs fun j hj => ?_
  rw [sPut_blk hs hh hi hj]
  split
  · next e2 => rw [e2, e]
  · rfl
def sP (p : PS) : List UInt8 := sPut (sPut (sPut (sPut z480 (2 * p.lf).toNat p.sc) (n1 p.lf) (abK p.ab 0)) (n2 p.lf) (abK p.ab 1)) 7 (abK p.ab 2)
abbrev F15 : List Bool := List.replicate 15 false
def hasP (lf : Int) (a b c : Bool) : List Bool := (((F15.set (2 * lf).toNat true).set (n1 lf) a).set (n2 lf) b).set 7 c
def hasZ (p : PS) : List Bool := hasP p.lf (nodeK p.zs (16 + n1 p.lf)) (nodeK p.zs (16 + n2 p.lf)) (nodeK p.zs 23)
/-- what such a party holds -/
structure XS where
  e : Int
  zs : List Int
  ad : List Bool
  k : Int
  ch : List UInt8
  lf : Int
  x : Int
  y : Int
  s : List UInt8
  has : List Bool
  ep : List UInt8
  ini : List UInt8
/-- the document's party that is alike -/
def xOf (p : PS) : XS := ⟨p.e, p.zs, p.ad, p.k, p.ch, p.lf, scal p.sg, powI 4 (scal p.sg), sP p, hasZ p, p.ep, p.ini⟩
theorem lf_cases {lf : Int} (h0 : 0 ≤ lf) (h1 : lf < 8) : lf = 0 ∨ lf = 1 ∨ lf = 2 ∨ lf = 3 ∨ lf = 4 ∨ lf = 5 ∨ lf = 6 ∨ lf = 7 := by omega
theorem ns_lt {lf : Int} (h0 : 0 ≤ lf) (h1 : lf < 8) : (2 * lf).toNat < 15 ∧ n1 lf < 15 ∧ n2 lf < 15 ∧ (2 * lf).toNat ≠ n1 lf ∧ (2 * lf).toNat ≠ n2 lf ∧ (2 * lf).toNat ≠ 7 ∧ n1 lf ≠ n2 lf ∧ n1 lf ≠ 7 ∧ n2 lf ≠ 7 := by
  unfold n1 n2; omega
theorem sP_len {p : PS} (h : PInv p) : (sP p).length = 480 := by
  obtain ⟨k1, k2, k3, _⟩ := ns_lt h.lf0 h.lf1
  unfold sP
  exact sPut_len (sPut_len (sPut_len (sPut_len z480_len h.sl k1) (abK_len h.bl (by decide)) k2) (abK_len h.bl (by decide)) k3) (abK_len h.bl (by decide)) (by decide)
theorem sP_blk {p : PS} (h : PInv p) {j : Nat} (hj : j < 15) : blk (sP p) j = if j = 7 then abK p.ab 2 else if j = n2 p.lf then abK p.ab 1 else if j = n1 p.lf then abK p.ab 0 else if j = (2 * p.lf).toNat then p.sc else zB 32 := by
  obtain ⟨k1, k2, k3, _⟩ := ns_lt h.lf0 h.lf1
  have l0 := sPut_len z480_len h.sl k1
  have l1 := sPut_len l0 (abK_len h.bl (show 0 < 3 by decide)) k2
  have l2 := sPut_len l1 (abK_len h.bl (show 1 < 3 by decide)) k3
  unfold sP
  rw [sPut_blk l2 (abK_len h.bl (by decide)) (by decide) hj, sPut_blk l1 (abK_len h.bl (by decide)) k3 hj, sPut_blk l0 (abK_len h.bl (by decide)) k2 hj, sPut_blk z480_len h.sl k1 hj, z480_blk hj]
theorem getD_setF (l : List Bool) (i j : Nat) (x : Bool) : (l.set i x).getD j false = if i = j ∧ i < l.length then x else l.getD j false := getD_set_list l i x false j
theorem hasP_get {lf : Int} (h0 : 0 ≤ lf) (h1 : lf < 8) (a b c : Bool) {j : Nat} (hj : j < 15) : (hasP lf a b c).getD j false = if j = 7 then c else if j = n2 lf then b else if j = n1 lf then a else decide (j = (2 * lf).toNat) := by
  obtain ⟨k1, k2, k3, _⟩ := ns_lt h0 h1
  have l0 : F15.length = 15 := by simp
  have l1 : (F15.set (2 * lf).toNat true).length = 15 := by simp
  have l2 : ((F15.set (2 * lf).toNat true).set (n1 lf) a).length = 15 := by simp
  have l3 : (((F15.set (2 * lf).toNat true).set (n1 lf) a).set (n2 lf) b).length = 15 := by simp
  have hz : F15.getD j false = false := by rw [List.getD_eq_getElem?_getD, List.getElem?_replicate, if_pos hj]; rfl
  unfold hasP
  rw [getD_setF, getD_setF, getD_setF, getD_setF, l0, l1, l2, l3, hz]
  by_cases e1 : j = 7
  · rw [if_pos e1, if_pos ⟨e1.symm, by decide⟩]
  · rw [if_neg e1, if_neg (fun e => e1 e.1.symm)]
    by_cases e2 : j = n2 lf
    · rw [if_pos e2, if_pos ⟨e2.symm, k3⟩]
    · rw [if_neg e2, if_neg (fun e => e2 e.1.symm)]
      by_cases e3 : j = n1 lf
      · rw [if_pos e3, if_pos ⟨e3.symm, k2⟩]
      · rw [if_neg e3, if_neg (fun e => e3 e.1.symm)]
        by_cases e4 : j = (2 * lf).toNat
        · rw [if_pos ⟨e4.symm, k1⟩]; simp [e4]
        · rw [if_neg (fun e => e4 e.1.symm)]; simp [e4]
theorem hasP_len (lf : Int) (a b c : Bool) : (hasP lf a b c).length = 15 := by simp [hasP]
end Go.Proofs.Ytegjkfaokpjojaa
