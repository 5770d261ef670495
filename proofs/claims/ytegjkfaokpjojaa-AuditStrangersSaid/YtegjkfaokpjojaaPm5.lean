/-
  Boxes are opened by whom they are for. Mathematics; no function is named here.
-/
import Derived.Test.YtegjkfaokpjojaaJ33
namespace Go.Proofs.Ytegjkfaokpjojaa
set_option maxRecDepth 100000
open Go.RowKit Pm
set_option linter.unusedVariables false
set_option linter.unusedSimpArgs false

theorem num4_append {O r : List UInt8} (h : O.length = 4) : num4 (O ++ r) = num4 O := by rw [← num4_take, List.take_left' h]
theorem num4_fourB (n : Int) (h0 : 0 ≤ n) (h1 : n < 4294967296) : num4 (fourB n) = n := by
  obtain ⟨m, rfl⟩ : ∃ m : Nat, n = m := ⟨n.toNat, by omega⟩
  have e : ∀ s, (lowB (m : Int) s).toNat = m / 2 ^ s % 256 := fun s => by
    unfold lowB
    rw [UInt8.toNat_ofNat']
    have : ((m : Int) / 2 ^ s % 256).toNat = m / 2 ^ s % 256 := by
      have h2 : ((m : Int) / 2 ^ s % 256) = ((m / 2 ^ s % 256 : Nat) : Int) := by simp
      rw [h2]; rfl
    rw [this]; omega
  show ((((lowB m 24).toNat * 256 + (lowB m 16).toNat) * 256 + (lowB m 8).toNat) * 256 + (lowB m 0).toNat : Nat) = (m : Int)
  rw [e, e, e, e]
  simp only [Nat.reducePow, Nat.div_one]
  omega
theorem fourB_len (n : Int) : (fourB n).length = 4 := rfl
theorem box_parts (y x : Int) (p : List UInt8) : (boxW y x p).take 4 = fourB (powI 4 x) ∧ ((boxW y x p).drop 4).take 8 = tagW (shW y x) (fourB (powI 4 x)) (xorW (shW y x) p) ∧ (boxW y x p).drop 12 = xorW (shW y x) p := by
  have hT := tagW_length (shW y x) (fourB (powI 4 x)) (xorW (shW y x) p)
  unfold boxW
  obtain ⟨T, hTe⟩ : ∃ T, tagW (shW y x) (fourB (powI 4 x)) (xorW (shW y x) p) = T := ⟨_, rfl⟩
  rw [hTe] at hT ⊢
  have hF := fourB_len (powI 4 x)
  obtain ⟨F, hFe⟩ : ∃ F, fourB (powI 4 x) = F := ⟨_, rfl⟩
  rw [hFe] at hF ⊢
  refine ⟨?_, ?_, ?_⟩
  · rw [List.append_assoc, List.take_left' hF]
  · rw [List.append_assoc, List.drop_left' hF, List.take_left' hT]
  · rw [List.drop_left' (by rw [List.length_append, hF, hT])]
theorem shW_both (x d : Int) (hx : 1 ≤ x ∧ x < 1073741789) (hd : 1 ≤ d ∧ d < 1073741789) : shW (powI 4 d) x = shW (powI 4 x) d := by
  unfold shW
  rw [isI_pub d hd, isI_pub x hx]
  unfold shareW
  rw [raised d x ⟨by omega, hd.2⟩ ⟨by omega, hx.2⟩]
theorem seal_back (x d : Int) (hx : 1 ≤ x ∧ x < 1073741789) (hd : 1 ≤ d ∧ d < 1073741789) (p : List UInt8) (hp : p.length ≤ 200) : openE x (boxW (powI 4 x) d p) = 0 ∧ openB x (boxW (powI 4 x) d p) = p := by
  have hl := boxW_length (powI 4 x) d p
  obtain ⟨h1, h2, h3⟩ := box_parts (powI 4 x) d p
  have hb := powI_bd 4 d
  have hY : num4 (boxW (powI 4 x) d p) = powI 4 d := by rw [← num4_take, h1, num4_fourB _ hb.1 (by omega)]
  have hok : openOk x (boxW (powI 4 x) d p) = true := by
    unfold openOk
    rw [hY, h1, h2, h3, shW_both x d hx hd, isI_pub d hd, beq_self_eq_true]; rfl
  unfold openE openB
  rw [if_neg (by omega), if_pos hok, hY, h3, shW_both x d hx hd, xorW_back]
  exact ⟨rfl, rfl⟩
/-- what is sealed to a sum's number is opened by that sum -/
theorem box_back (a b p : List UInt8) (hp : p.length ≤ 200) : openE (scal a) (sealB (powI 4 (scal a)) (scal b) p) = 0 ∧ openB (scal a) (sealB (powI 4 (scal a)) (scal b) p) = p ∧ (sealB (powI 4 (scal a)) (scal b) p).length = 12 + p.length := by
  have ha := scal_bd a
  have hb := scal_bd b
  have e : sealB (powI 4 (scal a)) (scal b) p = boxW (powI 4 (scal a)) (scal b) p := by
    unfold sealB sealOk
    rw [isI_pub _ ha, decide_eq_true hp]; rfl
  rw [e]
  obtain ⟨h1, h2⟩ := seal_back (scal a) (scal b) ha hb p hp
  exact ⟨h1, h2, boxW_length _ _ _⟩
end Go.Proofs.Ytegjkfaokpjojaa
