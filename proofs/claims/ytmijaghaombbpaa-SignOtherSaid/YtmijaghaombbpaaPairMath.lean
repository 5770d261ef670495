/-
  Two keys: the arithmetic.
-/
import Derived.Test.YtmijaghaombbpaaPairLaws
import Derived.Test.YtmijaghaombbpaaMuts2
import Derived.Test.YtmijaghaombbpaaPowMath
namespace Go.Proofs.Ytmijaghaombbpaa
set_option maxRecDepth 100000
open Go.RowKit Pm
set_option linter.unusedVariables false
set_option linter.unusedSimpArgs false
attribute [local go_sem] eqh_guard key_y key_x

theorem raised (r s : Int) (hr : 0 ≤ r ∧ r < 1073741789) (hs : 0 ≤ s ∧ s < 1073741789) : powI (powI 4 r) s = powI (powI 4 s) r := by
  obtain ⟨m, rfl⟩ := Int.eq_ofNat_of_zero_le hr.1
  obtain ⟨n, rfl⟩ := Int.eq_ofNat_of_zero_le hs.1
  have h1 : powI 4 (m : Int) = (pw 4 m : Int) := powI_nat 4 m (by decide) (by omega)
  have h2 : powI 4 (n : Int) = (pw 4 n : Int) := powI_nat 4 n (by decide) (by omega)
  rw [h1, h2, powI_nat (pw 4 m) n (pw_lt _ _) (by omega), powI_nat (pw 4 n) m (pw_lt _ _) (by omega), pw_pw, pw_pw, Nat.mul_comm]
theorem isI_pub (s : Int) (hs : 1 ≤ s ∧ s < 1073741789) : isI (powI 4 s) = true := by
  obtain ⟨n, rfl⟩ := Int.eq_ofNat_of_zero_le (show 0 ≤ s by omega)
  rw [show powI 4 (n : Int) = (pw 4 n : Int) from powI_nat 4 n (by decide) (by omega)]
  exact isI_four n (by omega) (by omega)
theorem isI_raised (s r : Int) (hs : 1 ≤ s ∧ s < 1073741789) (hr : 1 ≤ r ∧ r < 1073741789) : isI (powI (powI 4 s) r) = true := by
  obtain ⟨n, rfl⟩ := Int.eq_ofNat_of_zero_le (show 0 ≤ s by omega)
  obtain ⟨m, rfl⟩ := Int.eq_ofNat_of_zero_le (show 0 ≤ r by omega)
  have h1 : powI 4 (n : Int) = (pw 4 n : Int) := powI_nat 4 n (by decide) (by omega)
  rw [h1, powI_nat (pw 4 n) m (pw_lt _ _) (by omega), pw_pw, isI_nat _ (pw_lt _ _)]
  have h3 : pw 4 (n * m) ≠ 1 := by
    intro h
    have h4 := pw_gcd 4 (n * m) 1073741789 h four_Q
    have h5 : Nat.gcd (n * m) 1073741789 = 1 := Nat.Coprime.mul_left (coprime_Q n (by omega) (by omega)) (coprime_Q m (by omega) (by omega))
    rw [h5, pw_one _ (by decide)] at h4
    exact absurd h4 (by decide)
  have h6 := of_Q_pos _ (four_all (n * m))
  exact decide_eq_true ⟨by omega, four_all _⟩
end Go.Proofs.Ytmijaghaombbpaa
