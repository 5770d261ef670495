/-
  Views: what the laws of stage 9 stand on: keys.
-/
import Derived.Test.YtpemaphgmfaioaaGreatHV3
import Derived.Test.YtpemaphgmfaioaaGreatK1
namespace Go.Proofs.YtpemaphgmfaioaaGreat
set_option maxRecDepth 100000
open Go.RowKit Pm
set_option linter.unusedVariables false
set_option linter.unusedSimpArgs false

theorem powI_lt_ne {a b : Nat} (ha : 1 ≤ a) (hab : a < b) (hb : b < 1073741789) : pw 4 a ≠ pw 4 b := by
  intro h
  have e1 : pw 4 (1073741789 - a) * pw 4 a % 2147483579 = 1 := by rw [pw_add, show 1073741789 - a + a = 1073741789 by omega, four_Q]
  have e2 : pw 4 (1073741789 - a) * pw 4 b % 2147483579 = pw 4 (b - a) := by
    rw [pw_add, show 1073741789 - a + b = 1073741789 + (b - a) by omega, ← pw_add, four_Q, Nat.one_mul, Nat.mod_eq_of_lt (pw_lt _ _)]
  rw [← h, e1] at e2
  exact four_ne (b - a) (by omega) (by omega) e2.symm
theorem powI_inj {a b : Int} (ha : 1 ≤ a ∧ a < 1073741789) (hb : 1 ≤ b ∧ b < 1073741789) (h : powI 4 a = powI 4 b) : a = b := by
  obtain ⟨m, rfl⟩ := Int.eq_ofNat_of_zero_le (show 0 ≤ a by omega)
  obtain ⟨n, rfl⟩ := Int.eq_ofNat_of_zero_le (show 0 ≤ b by omega)
  rw [show powI 4 (m : Int) = (pw 4 m : Int) from powI_nat 4 m (by decide) (by omega), show powI 4 (n : Int) = (pw 4 n : Int) from powI_nat 4 n (by decide) (by omega)] at h
  have h' : pw 4 m = pw 4 n := Int.ofNat_inj.1 h
  rcases Nat.lt_trichotomy m n with h1 | h1 | h1
  · exact (powI_lt_ne (by omega) h1 (by omega) h').elim
  · rw [h1]
  · exact (powI_lt_ne (by omega) h1 (by omega) h'.symm).elim
/-- a key of these laws: its number, in bytes -/
def keyB (n : Int) : List UInt8 := UInt8.ofNat (IntKind.u8.wrap n).toNat :: 5 :: List.replicate 30 0
def keyV (n : Int) : Int := powI 4 (scal (keyB n))
theorem keyV_isI (n : Int) : isI (keyV n) = true := by
  have h := scal_bd (keyB n)
  unfold keyV
  obtain ⟨m, hm⟩ := Int.eq_ofNat_of_zero_le (show 0 ≤ scal (keyB n) by omega)
  rw [hm] at h ⊢
  rw [show powI 4 (m : Int) = (pw 4 m : Int) from powI_nat 4 m (by decide) (by omega)]
  exact isI_four m (by omega) (by omega)
theorem scal_keys : ∀ a < 32, ∀ b < 32, scal (keyB (a : Nat)) = scal (keyB (b : Nat)) → a = b := by decide +kernel
theorem keyV_inj {a b : Nat} (ha : a < 32) (hb : b < 32) (h : keyV (a : Nat) = keyV (b : Nat)) : a = b :=
  scal_keys a ha b hb (powI_inj (scal_bd _) (scal_bd _) h)
attribute [local irreducible] condK LoopA regA powI scal
theorem u8_bd (n : Int) : 0 ≤ IntKind.u8.wrap n ∧ IntKind.u8.wrap n < 256 := by
  have e1 : (2 : Int) ^ 8 = 256 := by decide
  simp only [IntKind.wrap, IntKind.signed, IntKind.bits, Bool.false_and, e1]
  simp
  omega
noncomputable def envW1 : EnvX := envVs.add 12 rfromS rfromS_ok ⟨_, Tryz.func12, by kernel_rfl, by kernel_rfl⟩
def wkeyS : List A → (Res → Prop) → Prop
  | [.v (.int .i64 n)], K => K (.d (.v (.int .i64 (keyV n))))
  | _, _ => False
noncomputable def envW2 : EnvX := envW1
end Go.Proofs.YtpemaphgmfaioaaGreat
