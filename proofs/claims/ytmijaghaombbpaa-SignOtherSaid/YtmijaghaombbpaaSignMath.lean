/-
  Signatures as numbers. No program is named here.
-/
import Derived.Test.YtmijaghaombbpaaPairF
import Derived.Test.YtmijaghaombbpaaPowMath
import Derived.Test.YtmijaghaombbpaaDerive
import Derived.Test.YtmijaghaombbpaaPowFirst
namespace Go.Proofs.Ytmijaghaombbpaa
set_option maxRecDepth 100000
open Go.RowKit Pm
set_option linter.unusedVariables false

/-- what a signature has to answer -/
def askW (b y : Int) (p : List UInt8) : Int := U (numN (deriveW (List.replicate 32 0) (sb ⟨#[115, 105, 103, 110]⟩) [fourB b, fourB y, p].flatten) 8) % 1073741789
/-- the number that nobody may know -/
def nonceW (x : Int) (p : List UInt8) : Int := U (numN (deriveW (List.replicate 32 0) (sb ⟨#[110, 111, 110, 99, 101]⟩) [fourB x, p].flatten) 8) % 1073741788 + 1
def sigE (s : Int) (p : List UInt8) : Int := askW (powI 4 (nonceW s p)) (powI 4 s) p
def sigS (s : Int) (p : List UInt8) : Int := (nonceW s p + sigE s p * s) % 1073741789
/-- whether a signature holds -/
def verW (y : Int) (p : List UInt8) (e s : Int) : Bool := isI y && decide (0 ≤ e ∧ e < 1073741789) && decide (0 ≤ s ∧ s < 1073741789) && (e == askW (mulI (powI 4 s) (powI y (1073741789 - e))) y p)

theorem askW_bd (b y : Int) (p : List UInt8) : 0 ≤ askW b y p ∧ askW b y p < 1073741789 := by
  unfold askW
  omega
theorem nonceW_bd (x : Int) (p : List UInt8) : 1 ≤ nonceW x p ∧ nonceW x p < 1073741789 := by
  unfold nonceW
  omega
theorem sigE_bd (s : Int) (p : List UInt8) : 0 ≤ sigE s p ∧ sigE s p < 1073741789 := askW_bd _ _ _
theorem sigS_bd (s : Int) (p : List UInt8) : 0 ≤ sigS s p ∧ sigS s p < 1073741789 := by
  unfold sigS
  omega

theorem pw_round (m k : Nat) : pw 4 (m + 1073741789 * k) = pw 4 m := by
  rw [← pw_add, ← pw_pw, four_Q, pw_one_base, Nat.mul_one, Nat.mod_eq_of_lt (pw_lt _ _)]
theorem pw_mod (m : Nat) : pw 4 (m % 1073741789) = pw 4 m := by
  have h := pw_round (m % 1073741789) (m / 1073741789)
  rw [Nat.mod_add_div] at h
  exact h.symm
/-- the point that a signature began with -/
theorem begun (x r e : Int) (hx : 0 ≤ x ∧ x < 1073741789) (hr : 0 ≤ r ∧ r < 1073741789) (he : 0 ≤ e ∧ e < 1073741789) :
    mulI (powI 4 ((r + e * x) % 1073741789)) (powI (powI 4 x) (1073741789 - e)) = powI 4 r := by
  obtain ⟨x, rfl⟩ := Int.eq_ofNat_of_zero_le hx.1
  obtain ⟨r, rfl⟩ := Int.eq_ofNat_of_zero_le hr.1
  obtain ⟨e, rfl⟩ := Int.eq_ofNat_of_zero_le he.1
  have e1 : ((r : Int) + e * x) % 1073741789 = (((r + e * x) % 1073741789 : Nat) : Int) := by
    have hm : ((e * x : Nat) : Int) = (e : Int) * x := Int.natCast_mul e x
    rw [← hm]
    generalize e * x = m
    omega
  have e2 : (1073741789 - (e : Int)) = ((1073741789 - e : Nat) : Int) := by omega
  have h1 : powI 4 (((r + e * x) % 1073741789 : Nat) : Int) = (pw 4 ((r + e * x) % 1073741789) : Int) := powI_nat 4 _ (by decide) (by omega)
  have h2 : powI 4 (x : Int) = (pw 4 x : Int) := powI_nat 4 x (by decide) (by omega)
  have h3 : powI 4 (r : Int) = (pw 4 r : Int) := powI_nat 4 r (by decide) (by omega)
  rw [e1, e2, h1, h2, h3, powI_nat (pw 4 x) (1073741789 - e) (pw_lt _ _) (by omega), pw_pw, pw_mod, mulI_nat _ _ (pw_lt _ _) (pw_lt _ _), pw_add]
  have e3 : r + e * x + x * (1073741789 - e) = r + 1073741789 * x := by
    have h4 : x * (1073741789 - e) + x * e = x * 1073741789 := by rw [← Nat.mul_add, Nat.sub_add_cancel (by omega)]
    have h5 : e * x = x * e := Nat.mul_comm _ _
    have h6 : 1073741789 * x = x * 1073741789 := Nat.mul_comm _ _
    omega
  rw [e3, pw_round]
theorem isI_pubS (s : Int) (hs : 1 ≤ s ∧ s < 1073741789) : isI (powI 4 s) = true := by
  obtain ⟨n, rfl⟩ := Int.eq_ofNat_of_zero_le (show 0 ≤ s by omega)
  rw [show powI 4 (n : Int) = (pw 4 n : Int) from powI_nat 4 n (by decide) (by omega)]
  exact isI_four n (by omega) (by omega)
theorem verW_own (s : Int) (p : List UInt8) (hs : 1 ≤ s ∧ s < 1073741789) : verW (powI 4 s) p (sigE s p) (sigS s p) = true := by
  have hn := nonceW_bd s p
  have hE := sigE_bd s p
  unfold verW
  rw [isI_pubS s hs, decide_eq_true hE, decide_eq_true (sigS_bd s p)]
  have h := begun s (nonceW s p) (sigE s p) ⟨by omega, hs.2⟩ ⟨by omega, hn.2⟩ hE
  have h2 : sigS s p = (nonceW s p + sigE s p * s) % 1073741789 := rfl
  rw [h2, h]
  simp [sigE]
end Go.Proofs.Ytmijaghaombbpaa
