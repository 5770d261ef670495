/-
  Plain arithmetic round the prime 2147483579 = 2 * 1073741789 + 1: powers, the order of 4, what public keys are. No program is named here.
-/
import Derived.KernelRfl
import Derived.Test.YtpemaphgmfaioaaGreatChecked
import Derived.WalkKit
import Derived.ProofKit
import Derived.BigQuiet
import Derived.Lib.Hide
import Derived.Test.YtpemaphgmfaioaaGreatHBase
namespace Go.Proofs.YtpemaphgmfaioaaGreat.Pm

/-- a power, less the multiples of the prime -/
@[irreducible] def pw (b e : Nat) : Nat := b ^ e % 2147483579

theorem pw_def (b e : Nat) : pw b e = b ^ e % 2147483579 := by unfold pw; rfl
theorem pw_lt (b e : Nat) : pw b e < 2147483579 := by rw [pw_def]; exact Nat.mod_lt _ (by decide)
theorem pw_zero (b : Nat) : pw b 0 = 1 := by rw [pw_def, Nat.pow_zero]
theorem pw_one (b : Nat) (h : b < 2147483579) : pw b 1 = b := by rw [pw_def, Nat.pow_one, Nat.mod_eq_of_lt h]
theorem pw_add (b d e : Nat) : pw b d * pw b e % 2147483579 = pw b (d + e) := by
  rw [pw_def, pw_def, pw_def, ← Nat.mul_mod, Nat.pow_add]
theorem pw_succ (b e : Nat) : pw b e * b % 2147483579 = pw b (e + 1) := by
  rw [pw_def, pw_def, Nat.pow_succ, Nat.mod_mul_mod]
theorem pw_pw (b d e : Nat) : pw (pw b d) e = pw b (d * e) := by
  rw [pw_def, pw_def, pw_def, ← Nat.pow_mod, Nat.pow_mul]
theorem pw_one_base (e : Nat) : pw 1 e = 1 := by rw [pw_def, Nat.one_pow]
theorem pw_zero_base (e : Nat) (h : 0 < e) : pw 0 e = 0 := by rw [pw_def, Nat.zero_pow h]

/-- how a power is worked out: y times b to the e -/
def fp : Nat → Nat → Nat → Nat → Nat
  | 0, y, _, _ => y
  | n + 1, y, b, e => if e = 0 then y else fp n (if e % 2 = 1 then y * b % 2147483579 else y) (b * b % 2147483579) (e / 2)

theorem half (b e : Nat) : (b * b) ^ (e / 2) * b ^ (e % 2) = b ^ e := by
  rw [← Nat.pow_two, ← Nat.pow_mul, ← Nat.pow_add]; congr 1; omega

theorem step1 (y b e : Nat) (h : e % 2 = 1) : (y * b % 2147483579) * (b * b % 2147483579) ^ (e / 2) % 2147483579 = y * b ^ e % 2147483579 := by
  rw [Nat.mod_mul_mod, Nat.mul_mod, ← Nat.pow_mod, ← Nat.mul_mod, ← half b e, h, Nat.pow_one]
  congr 1
  rw [Nat.mul_assoc, Nat.mul_comm b]
theorem step0 (y b e : Nat) (h : ¬ e % 2 = 1) : y * (b * b % 2147483579) ^ (e / 2) % 2147483579 = y * b ^ e % 2147483579 := by
  have h0 : e % 2 = 0 := by omega
  rw [Nat.mul_mod, ← Nat.pow_mod, ← Nat.mul_mod, ← half b e, h0, Nat.pow_zero, Nat.mul_one]

theorem fp_pow : ∀ (n y b e : Nat), e < 2 ^ n → y < 2147483579 → fp n y b e = y * b ^ e % 2147483579
  | 0, y, b, e, he, hy => by
    have : e = 0 := by simpa using he
    subst this
    rw [fp, Nat.pow_zero, Nat.mul_one, Nat.mod_eq_of_lt hy]
  | n + 1, y, b, e, he, hy => by
    rw [fp]
    by_cases h0 : e = 0
    · subst h0; rw [if_pos rfl, Nat.pow_zero, Nat.mul_one, Nat.mod_eq_of_lt hy]
    · rw [if_neg h0]
      by_cases h1 : e % 2 = 1
      · rw [if_pos h1, fp_pow n _ _ _ (by rw [Nat.pow_succ] at he; omega) (Nat.mod_lt _ (by decide)), step1 _ _ _ h1]
      · rw [if_neg h1, fp_pow n _ _ _ (by rw [Nat.pow_succ] at he; omega) hy, step0 _ _ _ h1]

theorem pw_fp (b e : Nat) (h : e < 2 ^ 31) : pw b e = fp 31 1 b e := by
  rw [fp_pow 31 1 b e h (by decide), Nat.one_mul, pw_def]

theorem four_Q : pw 4 1073741789 = 1 := by rw [pw_fp _ _ (by decide)]; decide +kernel
theorem four_3 : pw 4 3 = 64 := by rw [pw_fp _ _ (by decide)]; decide +kernel

/-- no number from lo on, so many as two to the d, is a factor -/
def noneOf : Nat → Nat → Bool
  | 0, lo => 1073741789 % lo != 0
  | d + 1, lo => noneOf d lo && noneOf d (lo + 2 ^ d)

theorem noneOf_spec : ∀ (d lo k : Nat), noneOf d lo = true → lo ≤ k → k < lo + 2 ^ d → 1073741789 % k ≠ 0
  | 0, lo, k, h, h1, h2 => by
    have : k = lo := by simp at h2; omega
    subst this
    simpa [noneOf] using h
  | d + 1, lo, k, h, h1, h2 => by
    rw [noneOf, Bool.and_eq_true] at h
    by_cases hk : k < lo + 2 ^ d
    · exact noneOf_spec d lo k h.1 h1 hk
    · exact noneOf_spec d (lo + 2 ^ d) k h.2 (by omega) (by rw [Nat.pow_succ] at h2; omega)

theorem noneOf_all : noneOf 15 2 = true := by decide +kernel

theorem prime_Q (d : Nat) (h1 : 1 < d) (h2 : d < 1073741789) : ¬ d ∣ 1073741789 := by
  intro h
  obtain ⟨c, hc⟩ := h
  by_cases hd : d < 32770
  · exact noneOf_spec 15 2 d noneOf_all (by omega) (by omega) (Nat.mod_eq_zero_of_dvd ⟨c, hc⟩)
  · have hc1 : c < 32770 := by
      apply Nat.lt_of_not_le; intro hcc
      have : 32770 * 32770 ≤ d * c := Nat.mul_le_mul (by omega) hcc
      omega
    have hc0 : 1 < c := by
      rcases Nat.lt_or_ge 1 c with h | h
      · exact h
      · have : d * c ≤ d * 1 := Nat.mul_le_mul_left d h
        omega
    exact noneOf_spec 15 2 c noneOf_all (by omega) (by omega) (Nat.mod_eq_zero_of_dvd ⟨d, by rw [Nat.mul_comm]; exact hc⟩)

theorem coprime_Q (e : Nat) (h1 : 1 ≤ e) (h2 : e < 1073741789) : Nat.gcd e 1073741789 = 1 := by
  have hd := Nat.gcd_dvd_right e 1073741789
  have hl : Nat.gcd e 1073741789 ≤ e := Nat.le_of_dvd (by omega) (Nat.gcd_dvd_left e _)
  have h0 : 0 < Nat.gcd e 1073741789 := Nat.gcd_pos_of_pos_left _ (by omega)
  rcases Nat.lt_or_ge 1 (Nat.gcd e 1073741789) with h | h
  · exact absurd hd (prime_Q _ h (by omega))
  · omega

/-- powers that are one, at two exponents: at their common factor, too -/
theorem pw_gcd (b : Nat) (m n : Nat) : pw b m = 1 → pw b n = 1 → pw b (Nat.gcd m n) = 1 := by
  induction m, n using Nat.gcd.induction with
  | H0 n => intro _ h; simpa using h
  | H1 m n hm ih =>
    intro h1 h2
    rw [Nat.gcd_rec]
    refine ih ?_ h1
    have e : n = m * (n / m) + n % m := (Nat.div_add_mod n m).symm
    have h3 : pw b (m * (n / m)) = 1 := by rw [← pw_pw, h1, pw_one_base]
    rw [e, ← pw_add, h3, Nat.one_mul, Nat.mod_eq_of_lt (pw_lt _ _)] at h2
    exact h2

theorem four_ne (e : Nat) (h1 : 1 ≤ e) (h2 : e < 1073741789) : pw 4 e ≠ 1 := by
  intro h
  have := pw_gcd 4 e 1073741789 h four_Q
  rw [coprime_Q e h1 h2, pw_one _ (by decide)] at this
  exact absurd this (by decide)

theorem four_all (e : Nat) : pw (pw 4 e) 1073741789 = 1 := by
  rw [pw_pw, Nat.mul_comm, ← pw_pw, four_Q, pw_one_base]

theorem of_Q_pos (y : Nat) (h : pw y 1073741789 = 1) : 0 < y := by
  rcases Nat.eq_zero_or_pos y with h0 | h0
  · subst h0; rw [pw_zero_base _ (by decide)] at h; exact absurd h (by decide)
  · exact h0

/-- what y less the prime is, to the Q -/
theorem turned (y : Nat) (h : y < 2147483579) (hq : pw y 1073741789 = 1) : pw (2147483579 - y) 1073741789 = 2147483578 := by
  have h0 := of_Q_pos y hq
  have sq : pw (2147483579 - y) 2 = pw y 2 := by
    rw [pw_def, pw_def, Nat.pow_two, Nat.pow_two]
    obtain ⟨c, hc⟩ : ∃ c, 2147483579 = y + c := ⟨2147483579 - y, by omega⟩
    have hs : (2147483579 - y) = c := by omega
    rw [hs]
    have e : c * c + 2147483579 * y = y * y + 2147483579 * c := by
      rw [hc, Nat.add_mul, Nat.add_mul, Nat.mul_comm c y]; omega
    have := congrArg (· % 2147483579) e
    simpa [Nat.add_mul_mod_self_left] using this
  have ev : pw (2147483579 - y) 1073741788 = pw y 1073741788 := by
    rw [show (1073741788 : Nat) = 2 * 536870894 from rfl, ← pw_pw, ← pw_pw, sq]
  have hz : pw y 1073741788 * y % 2147483579 = 1 := by rw [pw_succ]; exact hq
  rw [← pw_succ (2147483579 - y) 1073741788, ev]
  generalize pw y 1073741788 = z at hz
  have e : z * (2147483579 - y) + z * y = 2147483579 * z := by
    rw [← Nat.mul_add, Nat.sub_add_cancel (by omega), Nat.mul_comm]
  have e2 := congrArg (· % 2147483579) e
  simp only [Nat.mul_mod_right] at e2
  rw [Nat.add_mod, hz] at e2
  have hl : z * (2147483579 - y) % 2147483579 < 2147483579 := Nat.mod_lt _ (by decide)
  generalize z * (2147483579 - y) % 2147483579 = t at *
  omega

/-! what the program's numbers are -/
/-- is it one of those that are counted with? -/
def inB (a : Int) : Bool := decide (0 ≤ a ∧ a < 2147483579)
theorem inB_t {a : Int} (h : 0 ≤ a ∧ a < 2147483579) : inB a = true := by unfold inB; exact decide_eq_true h
theorem inB_f {a : Int} (h : ¬ (0 ≤ a ∧ a < 2147483579)) : inB a = false := by unfold inB; exact decide_eq_false h
/-- the product -/
def mulI (a b : Int) : Int := if 0 ≤ a ∧ a < 2147483579 ∧ 0 ≤ b ∧ b < 2147483579 then a * b % 2147483579 else 0
/-- the power -/
def powI (b e : Int) : Int := if 0 ≤ b ∧ b < 2147483579 ∧ 0 ≤ e ∧ e ≤ 1073741789 then (pw b.toNat e.toNat : Int) else 0
/-- is it a public key? -/
def isI (y : Int) : Bool := decide (1 < y ∧ y < 2147483579 ∧ powI y 1073741789 = 1)

theorem mulI_nat (a b : Nat) (ha : a < 2147483579) (hb : b < 2147483579) : mulI a b = ((a * b % 2147483579 : Nat) : Int) := by
  unfold mulI; rw [if_pos (by omega)]; rfl
theorem powI_nat (b e : Nat) (hb : b < 2147483579) (he : e ≤ 1073741789) : powI b e = (pw b e : Int) := by
  unfold powI; rw [if_pos (by omega)]; simp only [Int.toNat_natCast]
theorem mulI_bd (a b : Int) : 0 ≤ mulI a b ∧ mulI a b < 2147483579 := by
  unfold mulI; split <;> omega
theorem powI_bd (a b : Int) : 0 ≤ powI a b ∧ powI a b < 2147483579 := by
  unfold powI; split
  · have := pw_lt a.toNat b.toNat; omega
  · omega
theorem isI_nat (y : Nat) (h : y < 2147483579) : isI y = decide (1 < y ∧ pw y 1073741789 = 1) := by
  unfold isI
  have e : powI (y : Int) 1073741789 = (pw y 1073741789 : Int) := powI_nat y 1073741789 h (by decide)
  rw [e]
  refine decide_eq_decide.2 ⟨fun ⟨h1, _, h3⟩ => ⟨Int.ofNat_lt.1 h1, Int.ofNat_inj.1 h3⟩, fun ⟨h1, h3⟩ => ⟨Int.ofNat_lt.2 h1, Int.ofNat_lt.2 h, Int.ofNat_inj.2 h3⟩⟩
theorem isI_out (y : Int) (h : ¬ (0 ≤ y ∧ y < 2147483579)) : isI y = false := by
  unfold isI; apply decide_eq_false; intro ⟨h1, h2, _⟩; omega
theorem isI_iff (y : Int) : isI y = true ↔ 1 < y ∧ y < 2147483579 ∧ powI y 1073741789 = 1 := by unfold isI; simp
theorem powI_out (b e : Int) (h : ¬ (0 ≤ b ∧ b < 2147483579 ∧ 0 ≤ e ∧ e ≤ 1073741789)) : powI b e = 0 := by unfold powI; rw [if_neg h]
theorem mulI_out (a b : Int) (h : ¬ (0 ≤ a ∧ a < 2147483579 ∧ 0 ≤ b ∧ b < 2147483579)) : mulI a b = 0 := by unfold mulI; rw [if_neg h]

theorem isI_four (e : Nat) (h1 : 1 ≤ e) (h2 : e < 1073741789) : isI (pw 4 e : Int) = true := by
  rw [isI_nat _ (pw_lt _ _)]
  have h3 := of_Q_pos _ (four_all e)
  have h4 := four_ne e h1 h2
  exact decide_eq_true ⟨by omega, four_all e⟩

/-- where the loop of Pow stands -/
structure PowAt (b e B E Y : Int) : Prop where
  b0 : 0 ≤ B
  b1 : B < 2147483579
  e0 : 0 ≤ E
  e1 : E ≤ 1073741789
  y0 : 0 ≤ Y
  y1 : Y < 2147483579
  h : Y.toNat * B.toNat ^ E.toNat % 2147483579 = pw b.toNat e.toNat
theorem PowAt.start {b e : Int} (hb : 0 ≤ b ∧ b < 2147483579) (he : 0 ≤ e ∧ e ≤ 1073741789) : PowAt b e b e 1 :=
  ⟨hb.1, hb.2, he.1, he.2, by decide, by decide, by rw [show (1 : Int).toNat = 1 from rfl, Nat.one_mul, pw_def]⟩
theorem mulI_toNat {a b : Int} (h0 : 0 ≤ a) (h1 : a < 2147483579) (h2 : 0 ≤ b) (h3 : b < 2147483579) : (mulI a b).toNat = a.toNat * b.toNat % 2147483579 := by
  obtain ⟨x, rfl⟩ := Int.eq_ofNat_of_zero_le h0
  obtain ⟨y, rfl⟩ := Int.eq_ofNat_of_zero_le h2
  rw [mulI_nat x y (Int.ofNat_lt.1 h1) (Int.ofNat_lt.1 h3)]
  simp only [Int.toNat_natCast]
theorem PowAt.odd {b e B E Y : Int} (h : PowAt b e B E Y) (ho : E % 2 = 1) : PowAt b e (mulI B B) (E / 2) (mulI Y B) := by
  refine ⟨(mulI_bd _ _).1, (mulI_bd _ _).2, ?_, ?_, (mulI_bd _ _).1, (mulI_bd _ _).2, ?_⟩
  · have := h.e0; omega
  · have := h.e0; have := h.e1; omega
  · rw [mulI_toNat h.b0 h.b1 h.b0 h.b1, mulI_toNat h.y0 h.y1 h.b0 h.b1, show (E / 2).toNat = E.toNat / 2 by have := h.e0; omega, step1 _ _ _ (by have := h.e0; omega), h.h]
theorem PowAt.even {b e B E Y : Int} (h : PowAt b e B E Y) (ho : ¬ E % 2 = 1) : PowAt b e (mulI B B) (E / 2) Y := by
  refine ⟨(mulI_bd _ _).1, (mulI_bd _ _).2, ?_, ?_, h.y0, h.y1, ?_⟩
  · have := h.e0; omega
  · have := h.e0; have := h.e1; omega
  · rw [mulI_toNat h.b0 h.b1 h.b0 h.b1, show (E / 2).toNat = E.toNat / 2 by have := h.e0; omega, step0 _ _ _ (by have := h.e0; omega), h.h]
theorem PowAt.last {b e B Y : Int} (hb : 0 ≤ b ∧ b < 2147483579) (he : 0 ≤ e ∧ e ≤ 1073741789) (h : PowAt b e B 0 Y) : Y = powI b e := by
  have h2 := h.h
  have := h.y0; have := h.y1
  rw [show (0 : Int).toNat = 0 from rfl, Nat.pow_zero, Nat.mul_one, Nat.mod_eq_of_lt (by omega)] at h2
  unfold powI
  rw [if_pos ⟨hb.1, hb.2, he.1, he.2⟩, ← h2]
  omega
theorem tests {E : Int} : (E % 2 = 1 → (E % 2 == 1) = true) ∧ (¬ E % 2 = 1 → (E % 2 == 1) = false) := by
  constructor
  · intro h; rw [h]; rfl
  · intro h; exact beq_eq_false_iff_ne.2 h

theorem beq_t {a b : Int} (h : a = b) : (a == b) = true := by rw [h]; exact beq_self_eq_true b
theorem beq_f {a b : Int} (h : a ≠ b) : (a == b) = false := beq_eq_false_iff_ne.2 h
theorem bne_t {a b : Int} (h : a ≠ b) : (a != b) = true := by rw [bne, beq_f h]; rfl
theorem bne_f {a b : Int} (h : a = b) : (a != b) = false := by rw [bne, beq_t h]; rfl
theorem pow_4_3 : powI 4 3 = 64 := by rw [show powI 4 3 = (pw 4 3 : Int) from powI_nat 4 3 (by decide) (by decide), four_3]; rfl
theorem pow_4_Q : powI 4 1073741789 = 1 := by rw [show powI 4 1073741789 = (pw 4 1073741789 : Int) from powI_nat 4 1073741789 (by decide) (by decide), four_Q]; rfl
theorem is_4 : isI 4 = true := (isI_iff 4).2 ⟨by decide, by decide, pow_4_Q⟩
theorem is_1 : isI 1 = false := by
  rcases h : isI 1 with _ | _
  · rfl
  · exact absurd ((isI_iff 1).1 h).1 (by decide)
theorem mul_m1 : mulI 2147483578 2147483578 = 1 := by unfold mulI; rw [if_pos (by decide)]; decide +kernel
theorem pow_5_0 : powI 5 0 = 1 := by rw [show powI 5 0 = (pw 5 0 : Int) from powI_nat 5 0 (by decide) (by decide), pw_zero]; rfl
theorem pow_0_0 : powI 0 0 = 1 := by rw [show powI 0 0 = (pw 0 0 : Int) from powI_nat 0 0 (by decide) (by decide), pw_zero]; rfl
end Go.Proofs.YtpemaphgmfaioaaGreat.Pm

/-
  The walks of package power and of the document's answer to it: what each call answers, in numbers. They write nothing.
-/
namespace Go.Proofs.YtpemaphgmfaioaaGreat
set_option maxRecDepth 100000
open Go.RowKit Pm

theorem ret_i64 {a b : Int} (h : a = b) : Ending.returned (.int .i64 a) = .returned (.int .i64 b) := by rw [h]

theorem ret_bool {a b : Bool} (h : a = b) : Ending.returned (.bool a) = .returned (.bool b) := by rw [h]

theorem round_t (a : Int) (w : World) (h0 : 0 ≤ a) (h1 : a < 2147483579) :
    Calls Tryz.prog 84 #[.int .i64 a] w fun e w' => e = .returned (.bool true) ∧ w = w' := by
  go_enter Tryz.func84, Tryz.ntmps84
  go_wp2
  go_ret
  exact ⟨rfl, rfl⟩
theorem round_f (a : Int) (w : World) (h : ¬ (0 ≤ a ∧ a < 2147483579)) :
    Calls Tryz.prog 84 #[.int .i64 a] w fun e w' => e = .returned (.bool false) ∧ w = w' := by
  by_cases h0 : 0 ≤ a
  · have h1 : ¬ a < 2147483579 := fun h1 => h ⟨h0, h1⟩
    clear h
    go_enter Tryz.func84, Tryz.ntmps84
    go_wp2
    go_ret
    exact ⟨rfl, rfl⟩
  · clear h
    go_enter Tryz.func84, Tryz.ntmps84
    go_wp2
    go_ret
    exact ⟨rfl, rfl⟩

theorem round_any (a : Int) (w : World) :
    Calls Tryz.prog 84 #[.int .i64 a] w fun e w' => e = .returned (.bool (inB a)) ∧ w = w' := by
  by_cases h : 0 ≤ a ∧ a < 2147483579
  · rw [inB_t h]; exact round_t a w h.1 h.2
  · rw [inB_f h]; exact round_f a w h

theorem mul_bd (a b : Int) (h0 : 0 ≤ a) (h1 : a < 2147483579) (h2 : 0 ≤ b) (h3 : b < 2147483579) : 0 ≤ a * b ∧ a * b ≤ 4611686018427387904 := by
  constructor
  · exact Int.mul_nonneg h0 h2
  · have : a * b ≤ 2147483648 * 2147483648 := Int.mul_le_mul (by omega) (by omega) h2 (by omega)
    omega

theorem mul_any (a b : Int) (w : World) :
    Calls Tryz.prog 72 #[.int .i64 a, .int .i64 b] w fun e w' => e = .returned (.int .i64 (mulI a b)) ∧ w = w' := by
  by_cases ha : 0 ≤ a ∧ a < 2147483579
  · by_cases hb : 0 ≤ b ∧ b < 2147483579
    · have ia := inB_t ha
      have ib := inB_t hb
      obtain ⟨a0, a1⟩ := ha
      obtain ⟨b0, b1⟩ := hb
      obtain ⟨m0, m1⟩ := mul_bd a b a0 a1 b0 b1
      go_enter Tryz.func72, Tryz.ntmps72
      go_wp2_with (go_at_call 84; refine (round_any _ _).mono ?_; rintro e w' ⟨rfl, rfl⟩)
      go_ret
      exact ⟨ret_i64 (by unfold mulI; rw [if_pos ⟨a0, a1, b0, b1⟩]), rfl⟩
    · have ia := inB_t ha
      have ib := inB_f hb
      have hf : mulI a b = 0 := mulI_out _ _ (fun ⟨_, _, h2, h3⟩ => hb ⟨h2, h3⟩)
      have HF := Lib.hid hf; clear hf ha hb
      go_enter Tryz.func72, Tryz.ntmps72
      go_wp2_with (go_at_call 84; refine (round_any _ _).mono ?_; rintro e w' ⟨rfl, rfl⟩)
      go_ret
      exact ⟨ret_i64 HF.out.symm, rfl⟩
  · have ia := inB_f ha
    have hf : mulI a b = 0 := mulI_out _ _ (fun ⟨h0, h1, _, _⟩ => ha ⟨h0, h1⟩)
    have HF := Lib.hid hf; clear hf ha
    go_enter Tryz.func72, Tryz.ntmps72
    go_wp2_with (go_at_call 84; refine (round_any _ _).mono ?_; rintro e w' ⟨rfl, rfl⟩)
    go_ret
    exact ⟨ret_i64 HF.out.symm, rfl⟩

theorem and_one_i64 (E : Int) (h0 : 0 ≤ E) (h : E ≤ 1073741789) : bits BinOp.and IntKind.i64 E 1 = E % 2 := by
  obtain ⟨n, rfl⟩ := Int.eq_ofNat_of_zero_le h0
  have hb : (BitVec.ofInt 64 (n : Int)).toNat = n := by
    rw [BitVec.ofInt_natCast, BitVec.toNat_ofNat]; exact Nat.mod_eq_of_lt (by omega)
  have h1 : (BitVec.ofInt 64 (1 : Int)).toNat = 1 := by decide
  show IntKind.i64.wrap ((BitVec.ofInt 64 (n : Int) &&& BitVec.ofInt 64 (1 : Int)).toNat : Int) = _
  rw [BitVec.toNat_and, hb, h1, Nat.and_one_is_mod]
  exact IntWalk.i64_in _ (by omega)

theorem pow_out (b e : Int) (w : World) (h : ¬ (0 ≤ b ∧ b < 2147483579 ∧ 0 ≤ e ∧ e ≤ 1073741789)) :
    Calls Tryz.prog 51 #[.int .i64 b, .int .i64 e] w fun e w' => e = .returned (.int .i64 0) ∧ w = w' := by
  by_cases hb : 0 ≤ b ∧ b < 2147483579
  · have ib := inB_t hb
    by_cases he : e < 0
    · clear h hb
      go_enter Tryz.func51, Tryz.ntmps51
      go_wp2_with (go_at_call 84; refine (round_any _ _).mono ?_; rintro e w' ⟨rfl, rfl⟩)
      go_ret
      exact ⟨rfl, rfl⟩
    · have he2 : 1073741789 < e := by omega
      clear h hb
      go_enter Tryz.func51, Tryz.ntmps51
      go_wp2_with (go_at_call 84; refine (round_any _ _).mono ?_; rintro e w' ⟨rfl, rfl⟩)
      go_ret
      exact ⟨rfl, rfl⟩
  · have ib := inB_f hb
    clear h hb
    go_enter Tryz.func51, Tryz.ntmps51
    go_wp2_with (go_at_call 84; refine (round_any _ _).mono ?_; rintro e w' ⟨rfl, rfl⟩)
    go_ret
    exact ⟨rfl, rfl⟩

theorem pow_in (b e : Int) (w : World) (hb : 0 ≤ b ∧ b < 2147483579) (he : 0 ≤ e ∧ e ≤ 1073741789) :
    Calls Tryz.prog 51 #[.int .i64 b, .int .i64 e] w fun e' w' => e' = .returned (.int .i64 (powI b e)) ∧ w = w' := by
  have ib := inB_t hb
  have HS := Lib.hid (PowAt.start hb he)
  have HL := fun (B Y : Int) (h : PowAt b e B 0 Y) => Lib.hid (PowAt.last hb he h)
  obtain ⟨e0, e1⟩ := he
  go_enter Tryz.func51, Tryz.ntmps51
  go_wp2_with (go_at_call 84; refine (round_any _ _).mono ?_; rintro e w' ⟨rfl, rfl⟩)
  go_loop [0, 1, 5] (fun b' e' y' => ∃ B E Y : Int, b' = .int .i64 B ∧ e' = .int .i64 E ∧ y' = .int .i64 Y ∧ PowAt b e B E Y) (fun _ e' _ => (intOf e').toNat)
  case atStart => exact ⟨b, e, 1, rfl, rfl, rfl, HS.out⟩
  case round =>
    obtain ⟨B, E, Y, rfl, rfl, rfl, HP⟩ := hrel
    obtain ⟨x0, x1⟩ := And.intro HP.e0 HP.e1
    have hand := and_one_i64 E x0 x1
    by_cases hpos : 0 < E
    · by_cases hodd : E % 2 = 1
      · have HN := HP.odd hodd
        have ho := tests.1 hodd
        clear hodd HP ib e0 e1
        go_wp2_with (go_at_call 72; refine (mul_any _ _ _).mono ?_; rintro e w' ⟨rfl, rfl⟩)
        go_round
        case rel => exact ⟨_, _, _, rfl, rfl, rfl, HN⟩
        case measure => simp [intOf]; omega
      · have HN := HP.even hodd
        have ho := tests.2 hodd
        clear hodd HP ib e0 e1
        go_wp2_with (go_at_call 72; refine (mul_any _ _ _).mono ?_; rintro e w' ⟨rfl, rfl⟩)
        go_round
        case rel => exact ⟨_, _, _, rfl, rfl, rfl, HN⟩
        case measure => simp [intOf]; omega
    · obtain rfl : E = 0 := by omega
      have HY := HL _ _ HP
      clear ib hand
      go_wp2
      go_ret
      exact ⟨ret_i64 HY.out, rfl⟩
theorem pow_any (b e : Int) (w : World) :
    Calls Tryz.prog 51 #[.int .i64 b, .int .i64 e] w fun e' w' => e' = .returned (.int .i64 (powI b e)) ∧ w = w' := by
  by_cases h : 0 ≤ b ∧ b < 2147483579 ∧ 0 ≤ e ∧ e ≤ 1073741789
  · exact pow_in b e w ⟨h.1, h.2.1⟩ h.2.2
  · rw [powI_out _ _ h]; exact pow_out b e w h
theorem is_any (y : Int) (w : World) :
    Calls Tryz.prog 70 #[.int .i64 y] w fun e' w' => e' = .returned (.bool (isI y)) ∧ w = w' := by
  by_cases h1 : 1 < y
  · by_cases h2 : y < 2147483579
    · by_cases h3 : powI y 1073741789 = 1
      · have HI := Lib.hid ((isI_iff y).2 ⟨h1, h2, h3⟩)
        have b3 := beq_t h3
        clear h3
        go_enter Tryz.func70, Tryz.ntmps70
        go_wp2_with (go_at_call 51; refine (pow_any _ _ _).mono ?_; rintro e w' ⟨rfl, rfl⟩)
        go_ret
        exact ⟨ret_bool HI.out.symm, rfl⟩
      · have HI := Lib.hid (Bool.eq_false_iff.2 fun h => h3 ((isI_iff y).1 h).2.2)
        have b3 := beq_f h3
        clear h3
        go_enter Tryz.func70, Tryz.ntmps70
        go_wp2_with (go_at_call 51; refine (pow_any _ _ _).mono ?_; rintro e w' ⟨rfl, rfl⟩)
        go_ret
        exact ⟨ret_bool HI.out.symm, rfl⟩
    · have HI := Lib.hid (Bool.eq_false_iff.2 fun h => h2 ((isI_iff y).1 h).2.1)
      go_enter Tryz.func70, Tryz.ntmps70
      go_wp2
      go_ret
      exact ⟨ret_bool HI.out.symm, rfl⟩
  · have HI := Lib.hid (Bool.eq_false_iff.2 fun h => h1 ((isI_iff y).1 h).1)
    go_enter Tryz.func70, Tryz.ntmps70
    go_wp2
    go_ret
    exact ⟨ret_bool HI.out.symm, rfl⟩
end Go.Proofs.YtpemaphgmfaioaaGreat

/-
  The walks of package power and of the document's answer to it: what each call answers, in numbers. They write nothing.
-/
namespace Go.Proofs.YtpemaphgmfaioaaGreat
set_option maxRecDepth 100000
open Go.RowKit Pm

theorem rret_i64 {a b : Int} (h : a = b) : Ending.returned (.int .i64 a) = .returned (.int .i64 b) := by rw [h]

theorem rret_bool {a b : Bool} (h : a = b) : Ending.returned (.bool a) = .returned (.bool b) := by rw [h]

theorem rround_t (a : Int) (w : World) (h0 : 0 ≤ a) (h1 : a < 2147483579) :
    Calls Tryz.prog 60 #[.int .i64 a] w fun e w' => e = .returned (.bool true) ∧ w = w' := by
  go_enter Tryz.func60, Tryz.ntmps60
  go_wp2
  go_ret
  exact ⟨rfl, rfl⟩
theorem rround_f (a : Int) (w : World) (h : ¬ (0 ≤ a ∧ a < 2147483579)) :
    Calls Tryz.prog 60 #[.int .i64 a] w fun e w' => e = .returned (.bool false) ∧ w = w' := by
  by_cases h0 : 0 ≤ a
  · have h1 : ¬ a < 2147483579 := fun h1 => h ⟨h0, h1⟩
    clear h
    go_enter Tryz.func60, Tryz.ntmps60
    go_wp2
    go_ret
    exact ⟨rfl, rfl⟩
  · clear h
    go_enter Tryz.func60, Tryz.ntmps60
    go_wp2
    go_ret
    exact ⟨rfl, rfl⟩

theorem rround_any (a : Int) (w : World) :
    Calls Tryz.prog 60 #[.int .i64 a] w fun e w' => e = .returned (.bool (inB a)) ∧ w = w' := by
  by_cases h : 0 ≤ a ∧ a < 2147483579
  · rw [inB_t h]; exact rround_t a w h.1 h.2
  · rw [inB_f h]; exact rround_f a w h

theorem rmul_bd (a b : Int) (h0 : 0 ≤ a) (h1 : a < 2147483579) (h2 : 0 ≤ b) (h3 : b < 2147483579) : 0 ≤ a * b ∧ a * b ≤ 4611686018427387904 := by
  constructor
  · exact Int.mul_nonneg h0 h2
  · have : a * b ≤ 2147483648 * 2147483648 := Int.mul_le_mul (by omega) (by omega) h2 (by omega)
    omega

theorem rmul_any (a b : Int) (w : World) :
    Calls Tryz.prog 61 #[.int .i64 a, .int .i64 b] w fun e w' => e = .returned (.int .i64 (mulI a b)) ∧ w = w' := by
  by_cases ha : 0 ≤ a ∧ a < 2147483579
  · by_cases hb : 0 ≤ b ∧ b < 2147483579
    · have ia := inB_t ha
      have ib := inB_t hb
      obtain ⟨a0, a1⟩ := ha
      obtain ⟨b0, b1⟩ := hb
      obtain ⟨m0, m1⟩ := rmul_bd a b a0 a1 b0 b1
      go_enter Tryz.func61, Tryz.ntmps61
      go_wp2_with (go_at_call 60; refine (rround_any _ _).mono ?_; rintro e w' ⟨rfl, rfl⟩)
      go_ret
      exact ⟨rret_i64 (by unfold mulI; rw [if_pos ⟨a0, a1, b0, b1⟩]), rfl⟩
    · have ia := inB_t ha
      have ib := inB_f hb
      have hf : mulI a b = 0 := mulI_out _ _ (fun ⟨_, _, h2, h3⟩ => hb ⟨h2, h3⟩)
      have HF := Lib.hid hf; clear hf ha hb
      go_enter Tryz.func61, Tryz.ntmps61
      go_wp2_with (go_at_call 60; refine (rround_any _ _).mono ?_; rintro e w' ⟨rfl, rfl⟩)
      go_ret
      exact ⟨rret_i64 HF.out.symm, rfl⟩
  · have ia := inB_f ha
    have hf : mulI a b = 0 := mulI_out _ _ (fun ⟨h0, h1, _, _⟩ => ha ⟨h0, h1⟩)
    have HF := Lib.hid hf; clear hf ha
    go_enter Tryz.func61, Tryz.ntmps61
    go_wp2_with (go_at_call 60; refine (rround_any _ _).mono ?_; rintro e w' ⟨rfl, rfl⟩)
    go_ret
    exact ⟨rret_i64 HF.out.symm, rfl⟩

theorem rand_one_i64 (E : Int) (h0 : 0 ≤ E) (h : E ≤ 1073741789) : bits BinOp.and IntKind.i64 E 1 = E % 2 := by
  obtain ⟨n, rfl⟩ := Int.eq_ofNat_of_zero_le h0
  have hb : (BitVec.ofInt 64 (n : Int)).toNat = n := by
    rw [BitVec.ofInt_natCast, BitVec.toNat_ofNat]; exact Nat.mod_eq_of_lt (by omega)
  have h1 : (BitVec.ofInt 64 (1 : Int)).toNat = 1 := by decide
  show IntKind.i64.wrap ((BitVec.ofInt 64 (n : Int) &&& BitVec.ofInt 64 (1 : Int)).toNat : Int) = _
  rw [BitVec.toNat_and, hb, h1, Nat.and_one_is_mod]
  exact IntWalk.i64_in _ (by omega)

theorem rpow_out (b e : Int) (w : World) (h : ¬ (0 ≤ b ∧ b < 2147483579 ∧ 0 ≤ e ∧ e ≤ 1073741789)) :
    Calls Tryz.prog 29 #[.int .i64 b, .int .i64 e] w fun e w' => e = .returned (.int .i64 0) ∧ w = w' := by
  by_cases hb : 0 ≤ b ∧ b < 2147483579
  · have ib := inB_t hb
    by_cases he : e < 0
    · clear h hb
      go_enter Tryz.func29, Tryz.ntmps29
      go_wp2_with (go_at_call 60; refine (rround_any _ _).mono ?_; rintro e w' ⟨rfl, rfl⟩)
      go_ret
      exact ⟨rfl, rfl⟩
    · have he2 : 1073741789 < e := by omega
      clear h hb
      go_enter Tryz.func29, Tryz.ntmps29
      go_wp2_with (go_at_call 60; refine (rround_any _ _).mono ?_; rintro e w' ⟨rfl, rfl⟩)
      go_ret
      exact ⟨rfl, rfl⟩
  · have ib := inB_f hb
    clear h hb
    go_enter Tryz.func29, Tryz.ntmps29
    go_wp2_with (go_at_call 60; refine (rround_any _ _).mono ?_; rintro e w' ⟨rfl, rfl⟩)
    go_ret
    exact ⟨rfl, rfl⟩

theorem rpow_in (b e : Int) (w : World) (hb : 0 ≤ b ∧ b < 2147483579) (he : 0 ≤ e ∧ e ≤ 1073741789) :
    Calls Tryz.prog 29 #[.int .i64 b, .int .i64 e] w fun e' w' => e' = .returned (.int .i64 (powI b e)) ∧ w = w' := by
  have ib := inB_t hb
  have HS := Lib.hid (PowAt.start hb he)
  have HL := fun (B Y : Int) (h : PowAt b e B 0 Y) => Lib.hid (PowAt.last hb he h)
  obtain ⟨e0, e1⟩ := he
  go_enter Tryz.func29, Tryz.ntmps29
  go_wp2_with (go_at_call 60; refine (rround_any _ _).mono ?_; rintro e w' ⟨rfl, rfl⟩)
  go_loop [0, 1, 5] (fun b' e' y' => ∃ B E Y : Int, b' = .int .i64 B ∧ e' = .int .i64 E ∧ y' = .int .i64 Y ∧ PowAt b e B E Y) (fun _ e' _ => (intOf e').toNat)
  case atStart => exact ⟨b, e, 1, rfl, rfl, rfl, HS.out⟩
  case round =>
    obtain ⟨B, E, Y, rfl, rfl, rfl, HP⟩ := hrel
    obtain ⟨x0, x1⟩ := And.intro HP.e0 HP.e1
    have hand := rand_one_i64 E x0 x1
    by_cases hpos : 0 < E
    · by_cases hodd : E % 2 = 1
      · have HN := HP.odd hodd
        have ho := tests.1 hodd
        clear hodd HP ib e0 e1
        go_wp2_with (go_at_call 61; refine (rmul_any _ _ _).mono ?_; rintro e w' ⟨rfl, rfl⟩)
        go_round
        case rel => exact ⟨_, _, _, rfl, rfl, rfl, HN⟩
        case measure => simp [intOf]; omega
      · have HN := HP.even hodd
        have ho := tests.2 hodd
        clear hodd HP ib e0 e1
        go_wp2_with (go_at_call 61; refine (rmul_any _ _ _).mono ?_; rintro e w' ⟨rfl, rfl⟩)
        go_round
        case rel => exact ⟨_, _, _, rfl, rfl, rfl, HN⟩
        case measure => simp [intOf]; omega
    · obtain rfl : E = 0 := by omega
      have HY := HL _ _ HP
      clear ib hand
      go_wp2
      go_ret
      exact ⟨rret_i64 HY.out, rfl⟩
theorem rpow_any (b e : Int) (w : World) :
    Calls Tryz.prog 29 #[.int .i64 b, .int .i64 e] w fun e' w' => e' = .returned (.int .i64 (powI b e)) ∧ w = w' := by
  by_cases h : 0 ≤ b ∧ b < 2147483579 ∧ 0 ≤ e ∧ e ≤ 1073741789
  · exact rpow_in b e w ⟨h.1, h.2.1⟩ h.2.2
  · rw [powI_out _ _ h]; exact rpow_out b e w h
theorem ris_any (y : Int) (w : World) :
    Calls Tryz.prog 73 #[.int .i64 y] w fun e' w' => e' = .returned (.bool (isI y)) ∧ w = w' := by
  by_cases h1 : 1 < y
  · by_cases h2 : y < 2147483579
    · by_cases h3 : powI y 1073741789 = 1
      · have HI := Lib.hid ((isI_iff y).2 ⟨h1, h2, h3⟩)
        have b3 := beq_t h3
        clear h3
        go_enter Tryz.func73, Tryz.ntmps73
        go_wp2_with (go_at_call 29; refine (rpow_any _ _ _).mono ?_; rintro e w' ⟨rfl, rfl⟩)
        go_ret
        exact ⟨rret_bool HI.out.symm, rfl⟩
      · have HI := Lib.hid (Bool.eq_false_iff.2 fun h => h3 ((isI_iff y).1 h).2.2)
        have b3 := beq_f h3
        clear h3
        go_enter Tryz.func73, Tryz.ntmps73
        go_wp2_with (go_at_call 29; refine (rpow_any _ _ _).mono ?_; rintro e w' ⟨rfl, rfl⟩)
        go_ret
        exact ⟨rret_bool HI.out.symm, rfl⟩
    · have HI := Lib.hid (Bool.eq_false_iff.2 fun h => h2 ((isI_iff y).1 h).2.1)
      go_enter Tryz.func73, Tryz.ntmps73
      go_wp2
      go_ret
      exact ⟨rret_bool HI.out.symm, rfl⟩
  · have HI := Lib.hid (Bool.eq_false_iff.2 fun h => h1 ((isI_iff y).1 h).1)
    go_enter Tryz.func73, Tryz.ntmps73
    go_wp2
    go_ret
    exact ⟨rret_bool HI.out.symm, rfl⟩
end Go.Proofs.YtpemaphgmfaioaaGreat

/-
  The walks of Scalar and Number.
-/
namespace Go.Proofs.YtpemaphgmfaioaaGreat
set_option maxRecDepth 100000
open Go.RowKit
set_option linter.unusedVariables false
set_option linter.unusedSimpArgs false

/-- the first bytes as a number -/
def numN (h : List UInt8) : Nat → BitVec 64
  | 0 => 0
  | j + 1 => (numN h j <<< 8) ||| w8 (h[j]?.getD 0)
attribute [local go_sem] U_or8 U_shl8

set_option maxRecDepth 100000 in
theorem first_any (h : List UInt8) (hh : h.length = 32) (w : World) :
    Calls Tryz.prog 56 #[HV h] w fun e w' => e = .returned (.int .u64 (U (numN h 8))) ∧ Below w.heap.size w w' := by
  have hB := Blk.new w (HC h) 30
  have hcell : ∀ j, j < 8 → ∃ c : UInt8, h[j]? = some c ∧ (w.alloc (.cells (HC h) 30)).cell? ⟨w.heap.size, j, none⟩ = some (.int .u8 (Bt c)) := fun j hj =>
    ⟨h[j]'(by omega), List.getElem?_eq_getElem (by omega), (hB.cell j).trans (HC_get_lt h j (by omega))⟩
  have HC0 := Lib.hid hcell
  have hsz : (HC h).size = 32 := by rw [HC_size, hh]
  clear hB hcell
  unfold HV
  go_enter Tryz.func56, Tryz.ntmps56
  go_wp2
  go_loop [3, 5, 8] (fun x _ i => ∃ k : Nat, k ≤ 8 ∧ i = .int .i64 k ∧ x = .int .u64 (U (numN h k))) (fun _ _ i => 8 - (intOf i).toNat)
  case atStart => exact ⟨0, by omega, rfl, rfl⟩
  case round =>
    obtain ⟨k, hk, rfl, rfl⟩ := hrel
    by_cases hlt : k < 8
    · obtain ⟨c, hPc, hcell⟩ := HC0.out k hlt
      have hw8 : IntKind.u64.wrap (Bt c) = Bt c := IntWalk.u64_in _ (by have := Bt_bd c; omega)
      have HPC := Lib.hid hPc; clear hPc
      go_wp2
      go_round
      case rel => exact ⟨k + 1, by omega, by go_num, by show _ = Value.int .u64 (U ((numN h k <<< 8) ||| w8 (h[k]?.getD 0))); rw [HPC.out]; rfl⟩
      case measure => simp [intOf]; omega
    · obtain rfl : k = 8 := by omega
      go_wp2
      go_ret
      exact ⟨rfl, (Below.refl _ _).next (Nat.le_refl _) _⟩

set_option maxRecDepth 100000 in
theorem rfirst_any (h : List UInt8) (hh : h.length = 32) (m : Int) (hm : 0 < m ∧ m ≤ 1073741789) (w : World) :
    Calls Tryz.prog 59 #[HV h, .int .u64 m] w fun e w' => e = .returned (.int .i64 (U (numN h 8) % m)) ∧ Below w.heap.size w w' := by
  obtain ⟨hm0, hm1⟩ := hm
  have hB := Blk.new w (HC h) 30
  have hcell : ∀ j, j < 8 → ∃ c : UInt8, h[j]? = some c ∧ (w.alloc (.cells (HC h) 30)).cell? ⟨w.heap.size, j, none⟩ = some (.int .u8 (Bt c)) := fun j hj =>
    ⟨h[j]'(by omega), List.getElem?_eq_getElem (by omega), (hB.cell j).trans (HC_get_lt h j (by omega))⟩
  have HC0 := Lib.hid hcell
  have hsz : (HC h).size = 32 := by rw [HC_size, hh]
  clear hB hcell
  unfold HV
  go_enter Tryz.func59, Tryz.ntmps59
  go_wp2
  go_loop [5, 6] (fun x i => ∃ k : Nat, k ≤ 8 ∧ i = .int .i64 k ∧ x = .int .u64 (U (numN h k))) (fun _ i => 8 - (intOf i).toNat)
  case atStart => exact ⟨0, by omega, rfl, rfl⟩
  case round =>
    obtain ⟨k, hk, rfl, rfl⟩ := hrel
    by_cases hlt : k < 8
    · obtain ⟨c, hPc, hcell⟩ := HC0.out k hlt
      have hw8 : IntKind.u64.wrap (Bt c) = Bt c := IntWalk.u64_in _ (by have := Bt_bd c; omega)
      have HPC := Lib.hid hPc; clear hPc
      go_wp2
      go_round
      case rel => exact ⟨k + 1, by omega, by go_num, by show _ = Value.int .u64 (U ((numN h k <<< 8) ||| w8 (h[k]?.getD 0))); rw [HPC.out]; rfl⟩
      case measure => simp [intOf]; omega
    · obtain rfl : k = 8 := by omega
      have hbd := U_bd (numN h 8)
      generalize hx : U (numN h 8) = x at hbd ⊢
      have HX := Lib.hid hx; clear hx
      have hx0 := hbd.1
      have hr0 : 0 ≤ x % m := Int.emod_nonneg _ (by omega)
      have hr1 : x % m < m := Int.emod_lt_of_pos _ hm0
      go_wp2
      go_ret
      exact ⟨by rw [HX.out]; rfl, (Below.refl _ _).next (Nat.le_refl _) _⟩

set_option maxRecDepth 100000 in
theorem pscalar_any (h : List UInt8) (hh : h.length = 32) (w : World) :
    Calls Tryz.prog 25 #[HV h] w fun e w' => e = .returned (.int .i64 (U (numN h 8) % 1073741788 + 1)) ∧ Below w.heap.size w w' := by
  have hB := Blk.new w (HC h) 30
  have hsz : (Tryz.prog.info? 30).map (·.size) = some (HC h).size := by rw [HC_size, hh]; kernel_rfl
  have HB := Lib.hid hB; have S1 := Lib.hid hsz; have HH := Lib.hid hh
  clear hB hsz hh
  unfold HV
  go_enter Tryz.func25, Tryz.ntmps25
  go_wp2_with (first
    | (refine wpList_load_row rfl 30 _ rfl w.heap.size rfl 30 (HC h) (0, 0) _ HB.out Tryz.underlying30 rfl S1.out ?_)
    | (go_at_call 56; refine (first_any h HH.out _).mono ?_; rintro e w1 ⟨rfl, hb1⟩; have hbd := U_bd (numN h 8); generalize hx : U (numN h 8) = x at hbd ⊢; have HX := Lib.hid hx; clear hx; have hx0 := hbd.1; have hr0 : 0 ≤ x % 1073741788 := Int.emod_nonneg _ (by omega); have hr1 : x % 1073741788 < 1073741788 := Int.emod_lt_of_pos _ (by omega)))
  go_ret
  exact ⟨by rw [HX.out]; rfl, ((Below.refl _ _).next (Nat.le_refl _) _).later hb1 (Nat.le_refl _)⟩

set_option maxRecDepth 100000 in
theorem rscalar_any (h : List UInt8) (hh : h.length = 32) (w : World) :
    Calls Tryz.prog 28 #[HV h] w fun e w' => e = .returned (.int .i64 (U (numN h 8) % 1073741788 + 1)) ∧ Below w.heap.size w w' := by
  have hB := Blk.new w (HC h) 30
  have hsz : (Tryz.prog.info? 30).map (·.size) = some (HC h).size := by rw [HC_size, hh]; kernel_rfl
  have HB := Lib.hid hB; have S1 := Lib.hid hsz; have HH := Lib.hid hh
  clear hB hsz hh
  unfold HV
  go_enter Tryz.func28, Tryz.ntmps28
  go_wp2_with (first
    | (refine wpList_load_row rfl 30 _ rfl w.heap.size rfl 30 (HC h) (0, 0) _ HB.out Tryz.underlying30 rfl S1.out ?_)
    | (go_at_call 59; refine (rfirst_any h HH.out 1073741788 (by omega) _).mono ?_; rintro e w1 ⟨rfl, hb1⟩; have hr0 : 0 ≤ U (numN h 8) % 1073741788 := Int.emod_nonneg _ (by omega); have hr1 : U (numN h 8) % 1073741788 < 1073741788 := Int.emod_lt_of_pos _ (by omega); generalize hx : U (numN h 8) % 1073741788 = x at hr0 hr1 ⊢; have HX := Lib.hid hx; clear hx))
  go_ret
  exact ⟨by rw [HX.out]; rfl, ((Below.refl _ _).next (Nat.le_refl _) _).later hb1 (Nat.le_refl _)⟩

set_option maxRecDepth 100000 in
theorem pnumber_any (h : List UInt8) (hh : h.length = 32) (w : World) :
    Calls Tryz.prog 87 #[HV h] w fun e w' => e = .returned (.int .i64 (U (numN h 8) % 1073741789)) ∧ Below w.heap.size w w' := by
  have hB := Blk.new w (HC h) 30
  have hsz : (Tryz.prog.info? 30).map (·.size) = some (HC h).size := by rw [HC_size, hh]; kernel_rfl
  have HB := Lib.hid hB; have S1 := Lib.hid hsz; have HH := Lib.hid hh
  clear hB hsz hh
  unfold HV
  go_enter Tryz.func87, Tryz.ntmps87
  go_wp2_with (first
    | (refine wpList_load_row rfl 30 _ rfl w.heap.size rfl 30 (HC h) (0, 0) _ HB.out Tryz.underlying30 rfl S1.out ?_)
    | (go_at_call 56; refine (first_any h HH.out _).mono ?_; rintro e w1 ⟨rfl, hb1⟩; have hbd := U_bd (numN h 8); generalize hx : U (numN h 8) = x at hbd ⊢; have HX := Lib.hid hx; clear hx; have hx0 := hbd.1; have hr0 : 0 ≤ x % 1073741789 := Int.emod_nonneg _ (by omega); have hr1 : x % 1073741789 < 1073741789 := Int.emod_lt_of_pos _ (by omega)))
  go_ret
  exact ⟨by rw [HX.out]; rfl, ((Below.refl _ _).next (Nat.le_refl _) _).later hb1 (Nat.le_refl _)⟩

set_option maxRecDepth 100000 in
theorem rnumber_any (h : List UInt8) (hh : h.length = 32) (w : World) :
    Calls Tryz.prog 88 #[HV h] w fun e w' => e = .returned (.int .i64 (U (numN h 8) % 1073741789)) ∧ Below w.heap.size w w' := by
  have hB := Blk.new w (HC h) 30
  have hsz : (Tryz.prog.info? 30).map (·.size) = some (HC h).size := by rw [HC_size, hh]; kernel_rfl
  have HB := Lib.hid hB; have S1 := Lib.hid hsz; have HH := Lib.hid hh
  clear hB hsz hh
  unfold HV
  go_enter Tryz.func88, Tryz.ntmps88
  go_wp2_with (first
    | (refine wpList_load_row rfl 30 _ rfl w.heap.size rfl 30 (HC h) (0, 0) _ HB.out Tryz.underlying30 rfl S1.out ?_)
    | (go_at_call 59; refine (rfirst_any h HH.out 1073741789 (by omega) _).mono ?_; rintro e w1 ⟨rfl, hb1⟩; have hr0 : 0 ≤ U (numN h 8) % 1073741789 := Int.emod_nonneg _ (by omega); have hr1 : U (numN h 8) % 1073741789 < 1073741789 := Int.emod_lt_of_pos _ (by omega); generalize hx : U (numN h 8) % 1073741789 = x at hr0 hr1 ⊢; have HX := Lib.hid hx; clear hx))
  go_ret
  exact ⟨by rw [HX.out]; rfl, ((Below.refl _ _).next (Nat.le_refl _) _).later hb1 (Nat.le_refl _)⟩

end Go.Proofs.YtpemaphgmfaioaaGreat
