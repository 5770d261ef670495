/-
  Plain arithmetic round the prime 2147483579 = 2 * 1073741789 + 1: powers, the order of 4, what public keys are. No program is named here.
-/
import Derived.KernelRfl
import Derived.Test.YtbgdlggobbiibaaChecked
import Derived.WalkKit
import Derived.ProofKit
import Derived.BigQuiet
import Derived.Lib.Hide
import Derived.Test.YtbgdlggobbiibaaI10
import Derived.Laws.LoneSync
import Derived.RegionCalls
import Derived.Defers
import Derived.Tactics2
import Derived.RegionTactic
import Derived.ChangeAlike
import Derived.Test.YtbgdlggobbiibaaI1
import Derived.BigRegion
import Derived.Test.YtbgdlggobbiibaaI5
import Derived.Lib.ConvBytes
import Derived.Deep.DeepMust
import Derived.Test.YtbgdlggobbiibaaI6
import Derived.Laws.ResultCell
import Derived.ChangeKeysEq
namespace Go.Proofs.Ytbgdlggobbiibaa.Pm

/-- a power, less the multiples of the prime -/
@[irreducible] def pw (b e : Nat) : Nat := b ^ e % 2147483579

theorem pw_def (b e : Nat) : pw b e = b ^ e % 2147483579 := by unfold pw; rfl
theorem pw_lt (b e : Nat) : pw b e < 2147483579 := by rw [pw_def]; exact Nat.mod_lt _ (by decide)
theorem pw_zero (b : Nat) : pw b 0 = 1 := by rw [pw_def, Nat.pow_zero]
theorem pw_one (b : Nat) (h : b < 2147483579) : pw b 1 = b := by rw [pw_def, Nat.pow_one, Nat.mod_eq_of_lt h]
theorem pw_add (b d e : Nat) : pw b d * pw b e % 2147483579 = pw b (d + e) := by
  rw [pw_def, pw_def, pw_def, ← Nat.mul_mod, Nat.pow_add]
theorem pw_succ (b e : Nat) : pw b e * b % 2147483579 = pw b (e + 1) := by
  rw [pw_def, pw_def, Nat.pow_succ, Nat.mod_mul_mod]
theorem pw_pw (b d e : Nat) : pw (pw b d) e = pw b (d * e) := by
  rw [pw_def, pw_def, pw_def, ← Nat.pow_mod, Nat.pow_mul]
theorem pw_one_base (e : Nat) : pw 1 e = 1 := by rw [pw_def, Nat.one_pow]
theorem pw_zero_base (e : Nat) (h : 0 < e) : pw 0 e = 0 := by rw [pw_def, Nat.zero_pow h]

/-- how a power is worked out: y times b to the e -/
def fp : Nat → Nat → Nat → Nat → Nat
  | 0, y, _, _ => y
  | n + 1, y, b, e => if e = 0 then y else fp n (if e % 2 = 1 then y * b % 2147483579 else y) (b * b % 2147483579) (e / 2)

theorem half (b e : Nat) : (b * b) ^ (e / 2) * b ^ (e % 2) = b ^ e := by
  rw [← Nat.pow_two, ← Nat.pow_mul, ← Nat.pow_add]; congr 1; omega

theorem step1 (y b e : Nat) (h : e % 2 = 1) : (y * b % 2147483579) * (b * b % 2147483579) ^ (e / 2) % 2147483579 = y * b ^ e % 2147483579 := by
  rw [Nat.mod_mul_mod, Nat.mul_mod, ← Nat.pow_mod, ← Nat.mul_mod, ← half b e, h, Nat.pow_one]
  congr 1
  rw [Nat.mul_assoc, Nat.mul_comm b]
theorem step0 (y b e : Nat) (h : ¬ e % 2 = 1) : y * (b * b % 2147483579) ^ (e / 2) % 2147483579 = y * b ^ e % 2147483579 := by
  have h0 : e % 2 = 0 := by omega
  rw [Nat.mul_mod, ← Nat.pow_mod, ← Nat.mul_mod, ← half b e, h0, Nat.pow_zero, Nat.mul_one]

theorem fp_pow : ∀ (n y b e : Nat), e < 2 ^ n → y < 2147483579 → fp n y b e = y * b ^ e % 2147483579
  | 0, y, b, e, he, hy => by
    have : e = 0 := by simpa using he
    subst this
    rw [fp, Nat.pow_zero, Nat.mul_one, Nat.mod_eq_of_lt hy]
  | n + 1, y, b, e, he, hy => by
    rw [fp]
    by_cases h0 : e = 0
    · subst h0; rw [if_pos rfl, Nat.pow_zero, Nat.mul_one, Nat.mod_eq_of_lt hy]
    · rw [if_neg h0]
      by_cases h1 : e % 2 = 1
      · rw [if_pos h1, fp_pow n _ _ _ (by rw [Nat.pow_succ] at he; omega) (Nat.mod_lt _ (by decide)), step1 _ _ _ h1]
      · rw [if_neg h1, fp_pow n _ _ _ (by rw [Nat.pow_succ] at he; omega) hy, step0 _ _ _ h1]

theorem pw_fp (b e : Nat) (h : e < 2 ^ 31) : pw b e = fp 31 1 b e := by
  rw [fp_pow 31 1 b e h (by decide), Nat.one_mul, pw_def]

theorem four_Q : pw 4 1073741789 = 1 := by rw [pw_fp _ _ (by decide)]; decide +kernel
theorem four_3 : pw 4 3 = 64 := by rw [pw_fp _ _ (by decide)]; decide +kernel

/-- no number from lo on, so many as two to the d, is a factor -/
def noneOf : Nat → Nat → Bool
  | 0, lo => 1073741789 % lo != 0
  | d + 1, lo => noneOf d lo && noneOf d (lo + 2 ^ d)

theorem noneOf_spec : ∀ (d lo k : Nat), noneOf d lo = true → lo ≤ k → k < lo + 2 ^ d → 1073741789 % k ≠ 0
  | 0, lo, k, h, h1, h2 => by
    have : k = lo := by simp at h2; omega
    subst this
    simpa [noneOf] using h
  | d + 1, lo, k, h, h1, h2 => by
    rw [noneOf, Bool.and_eq_true] at h
    by_cases hk : k < lo + 2 ^ d
    · exact noneOf_spec d lo k h.1 h1 hk
    · exact noneOf_spec d (lo + 2 ^ d) k h.2 (by omega) (by rw [Nat.pow_succ] at h2; omega)

theorem noneOf_all : noneOf 15 2 = true := by decide +kernel

theorem prime_Q (d : Nat) (h1 : 1 < d) (h2 : d < 1073741789) : ¬ d ∣ 1073741789 := by
  intro h
  obtain ⟨c, hc⟩ := h
  by_cases hd : d < 32770
  · exact noneOf_spec 15 2 d noneOf_all (by omega) (by omega) (Nat.mod_eq_zero_of_dvd ⟨c, hc⟩)
  · have hc1 : c < 32770 := by
      apply Nat.lt_of_not_le; intro hcc
      have : 32770 * 32770 ≤ d * c := Nat.mul_le_mul (by omega) hcc
      omega
    have hc0 : 1 < c := by
      rcases Nat.lt_or_ge 1 c with h | h
      · exact h
      · have : d * c ≤ d * 1 := Nat.mul_le_mul_left d h
        omega
    exact noneOf_spec 15 2 c noneOf_all (by omega) (by omega) (Nat.mod_eq_zero_of_dvd ⟨d, by rw [Nat.mul_comm]; exact hc⟩)

theorem coprime_Q (e : Nat) (h1 : 1 ≤ e) (h2 : e < 1073741789) : Nat.gcd e 1073741789 = 1 := by
  have hd := Nat.gcd_dvd_right e 1073741789
  have hl : Nat.gcd e 1073741789 ≤ e := Nat.le_of_dvd (by omega) (Nat.gcd_dvd_left e _)
  have h0 : 0 < Nat.gcd e 1073741789 := Nat.gcd_pos_of_pos_left _ (by omega)
  rcases Nat.lt_or_ge 1 (Nat.gcd e 1073741789) with h | h
  · exact absurd hd (prime_Q _ h (by omega))
  · omega

/-- powers that are one, at two exponents: at their common factor, too -/
theorem pw_gcd (b : Nat) (m n : Nat) : pw b m = 1 → pw b n = 1 → pw b (Nat.gcd m n) = 1 := by
  induction m, n using Nat.gcd.induction with
  | H0 n => intro _ h; simpa using h
  | H1 m n hm ih =>
    intro h1 h2
    rw [Nat.gcd_rec]
    refine ih ?_ h1
    have e : n = m * (n / m) + n % m := (Nat.div_add_mod n m).symm
    have h3 : pw b (m * (n / m)) = 1 := by rw [← pw_pw, h1, pw_one_base]
    rw [e, ← pw_add, h3, Nat.one_mul, Nat.mod_eq_of_lt (pw_lt _ _)] at h2
    exact h2

theorem four_ne (e : Nat) (h1 : 1 ≤ e) (h2 : e < 1073741789) : pw 4 e ≠ 1 := by
  intro h
  have := pw_gcd 4 e 1073741789 h four_Q
  rw [coprime_Q e h1 h2, pw_one _ (by decide)] at this
  exact absurd this (by decide)

theorem four_all (e : Nat) : pw (pw 4 e) 1073741789 = 1 := by
  rw [pw_pw, Nat.mul_comm, ← pw_pw, four_Q, pw_one_base]

theorem of_Q_pos (y : Nat) (h : pw y 1073741789 = 1) : 0 < y := by
  rcases Nat.eq_zero_or_pos y with h0 | h0
  · subst h0; rw [pw_zero_base _ (by decide)] at h; exact absurd h (by decide)
  · exact h0

/-- what y less the prime is, to the Q -/
theorem turned (y : Nat) (h : y < 2147483579) (hq : pw y 1073741789 = 1) : pw (2147483579 - y) 1073741789 = 2147483578 := by
  have h0 := of_Q_pos y hq
  have sq : pw (2147483579 - y) 2 = pw y 2 := by
    rw [pw_def, pw_def, Nat.pow_two, Nat.pow_two]
    obtain ⟨c, hc⟩ : ∃ c, 2147483579 = y + c := ⟨2147483579 - y, by omega⟩
    have hs : (2147483579 - y) = c := by omega
    rw [hs]
    have e : c * c + 2147483579 * y = y * y + 2147483579 * c := by
      rw [hc, Nat.add_mul, Nat.add_mul, Nat.mul_comm c y]; omega
    have := congrArg (· % 2147483579) e
    simpa [Nat.add_mul_mod_self_left] using this
  have ev : pw (2147483579 - y) 1073741788 = pw y 1073741788 := by
    rw [show (1073741788 : Nat) = 2 * 536870894 from rfl, ← pw_pw, ← pw_pw, sq]
  have hz : pw y 1073741788 * y % 2147483579 = 1 := by rw [pw_succ]; exact hq
  rw [← pw_succ (2147483579 - y) 1073741788, ev]
  generalize pw y 1073741788 = z at hz
  have e : z * (2147483579 - y) + z * y = 2147483579 * z := by
    rw [← Nat.mul_add, Nat.sub_add_cancel (by omega), Nat.mul_comm]
  have e2 := congrArg (· % 2147483579) e
  simp only [Nat.mul_mod_right] at e2
  rw [Nat.add_mod, hz] at e2
  have hl : z * (2147483579 - y) % 2147483579 < 2147483579 := Nat.mod_lt _ (by decide)
  generalize z * (2147483579 - y) % 2147483579 = t at *
  omega

/-! what the program's numbers are -/
/-- is it one of those that are counted with? -/
def inB (a : Int) : Bool := decide (0 ≤ a ∧ a < 2147483579)
theorem inB_t {a : Int} (h : 0 ≤ a ∧ a < 2147483579) : inB a = true := by unfold inB; exact decide_eq_true h
theorem inB_f {a : Int} (h : ¬ (0 ≤ a ∧ a < 2147483579)) : inB a = false := by unfold inB; exact decide_eq_false h
/-- the product -/
def mulI (a b : Int) : Int := if 0 ≤ a ∧ a < 2147483579 ∧ 0 ≤ b ∧ b < 2147483579 then a * b % 2147483579 else 0
/-- the power -/
def powI (b e : Int) : Int := if 0 ≤ b ∧ b < 2147483579 ∧ 0 ≤ e ∧ e ≤ 1073741789 then (pw b.toNat e.toNat : Int) else 0
/-- is it a public key? -/
def isI (y : Int) : Bool := decide (1 < y ∧ y < 2147483579 ∧ powI y 1073741789 = 1)

theorem mulI_nat (a b : Nat) (ha : a < 2147483579) (hb : b < 2147483579) : mulI a b = ((a * b % 2147483579 : Nat) : Int) := by
  unfold mulI; rw [if_pos (by omega)]; rfl
theorem powI_nat (b e : Nat) (hb : b < 2147483579) (he : e ≤ 1073741789) : powI b e = (pw b e : Int) := by
  unfold powI; rw [if_pos (by omega)]; simp only [Int.toNat_natCast]
theorem mulI_bd (a b : Int) : 0 ≤ mulI a b ∧ mulI a b < 2147483579 := by
  unfold mulI; split <;> omega
theorem powI_bd (a b : Int) : 0 ≤ powI a b ∧ powI a b < 2147483579 := by
  unfold powI; split
  · have := pw_lt a.toNat b.toNat; omega
  · omega
theorem isI_nat (y : Nat) (h : y < 2147483579) : isI y = decide (1 < y ∧ pw y 1073741789 = 1) := by
  unfold isI
  have e : powI (y : Int) 1073741789 = (pw y 1073741789 : Int) := powI_nat y 1073741789 h (by decide)
  rw [e]
  refine decide_eq_decide.2 ⟨fun ⟨h1, _, h3⟩ => ⟨Int.ofNat_lt.1 h1, Int.ofNat_inj.1 h3⟩, fun ⟨h1, h3⟩ => ⟨Int.ofNat_lt.2 h1, Int.ofNat_lt.2 h, Int.ofNat_inj.2 h3⟩⟩
theorem isI_out (y : Int) (h : ¬ (0 ≤ y ∧ y < 2147483579)) : isI y = false := by
  unfold isI; apply decide_eq_false; intro ⟨h1, h2, _⟩; omega
theorem isI_iff (y : Int) : isI y = true ↔ 1 < y ∧ y < 2147483579 ∧ powI y 1073741789 = 1 := by unfold isI; simp
theorem powI_out (b e : Int) (h : ¬ (0 ≤ b ∧ b < 2147483579 ∧ 0 ≤ e ∧ e ≤ 1073741789)) : powI b e = 0 := by unfold powI; rw [if_neg h]
theorem mulI_out (a b : Int) (h : ¬ (0 ≤ a ∧ a < 2147483579 ∧ 0 ≤ b ∧ b < 2147483579)) : mulI a b = 0 := by unfold mulI; rw [if_neg h]

theorem isI_four (e : Nat) (h1 : 1 ≤ e) (h2 : e < 1073741789) : isI (pw 4 e : Int) = true := by
  rw [isI_nat _ (pw_lt _ _)]
  have h3 := of_Q_pos _ (four_all e)
  have h4 := four_ne e h1 h2
  exact decide_eq_true ⟨by omega, four_all e⟩

/-- where the loop of Pow stands -/
structure PowAt (b e B E Y : Int) : Prop where
  b0 : 0 ≤ B
  b1 : B < 2147483579
  e0 : 0 ≤ E
  e1 : E ≤ 1073741789
  y0 : 0 ≤ Y
  y1 : Y < 2147483579
  h : Y.toNat * B.toNat ^ E.toNat % 2147483579 = pw b.toNat e.toNat
theorem PowAt.start {b e : Int} (hb : 0 ≤ b ∧ b < 2147483579) (he : 0 ≤ e ∧ e ≤ 1073741789) : PowAt b e b e 1 :=
  ⟨hb.1, hb.2, he.1, he.2, by decide, by decide, by rw [show (1 : Int).toNat = 1 from rfl, Nat.one_mul, pw_def]⟩
theorem mulI_toNat {a b : Int} (h0 : 0 ≤ a) (h1 : a < 2147483579) (h2 : 0 ≤ b) (h3 : b < 2147483579) : (mulI a b).toNat = a.toNat * b.toNat % 2147483579 := by
  obtain ⟨x, rfl⟩ := Int.eq_ofNat_of_zero_le h0
  obtain ⟨y, rfl⟩ := Int.eq_ofNat_of_zero_le h2
  rw [mulI_nat x y (Int.ofNat_lt.1 h1) (Int.ofNat_lt.1 h3)]
  simp only [Int.toNat_natCast]
theorem PowAt.odd {b e B E Y : Int} (h : PowAt b e B E Y) (ho : E % 2 = 1) : PowAt b e (mulI B B) (E / 2) (mulI Y B) := by
  refine ⟨(mulI_bd _ _).1, (mulI_bd _ _).2, ?_, ?_, (mulI_bd _ _).1, (mulI_bd _ _).2, ?_⟩
  · have := h.e0; omega
  · have := h.e0; have := h.e1; omega
  · rw [mulI_toNat h.b0 h.b1 h.b0 h.b1, mulI_toNat h.y0 h.y1 h.b0 h.b1, show (E / 2).toNat = E.toNat / 2 by have := h.e0; omega, step1 _ _ _ (by have := h.e0; omega), h.h]
theorem PowAt.even {b e B E Y : Int} (h : PowAt b e B E Y) (ho : ¬ E % 2 = 1) : PowAt b e (mulI B B) (E / 2) Y := by
  refine ⟨(mulI_bd _ _).1, (mulI_bd _ _).2, ?_, ?_, h.y0, h.y1, ?_⟩
  · have := h.e0; omega
  · have := h.e0; have := h.e1; omega
  · rw [mulI_toNat h.b0 h.b1 h.b0 h.b1, show (E / 2).toNat = E.toNat / 2 by have := h.e0; omega, step0 _ _ _ (by have := h.e0; omega), h.h]
theorem PowAt.last {b e B Y : Int} (hb : 0 ≤ b ∧ b < 2147483579) (he : 0 ≤ e ∧ e ≤ 1073741789) (h : PowAt b e B 0 Y) : Y = powI b e := by
  have h2 := h.h
  have := h.y0; have := h.y1
  rw [show (0 : Int).toNat = 0 from rfl, Nat.pow_zero, Nat.mul_one, Nat.mod_eq_of_lt (by omega)] at h2
  unfold powI
  rw [if_pos ⟨hb.1, hb.2, he.1, he.2⟩, ← h2]
  omega
theorem tests {E : Int} : (E % 2 = 1 → (E % 2 == 1) = true) ∧ (¬ E % 2 = 1 → (E % 2 == 1) = false) := by
  constructor
  · intro h; rw [h]; rfl
  · intro h; exact beq_eq_false_iff_ne.2 h

theorem beq_t {a b : Int} (h : a = b) : (a == b) = true := by rw [h]; exact beq_self_eq_true b
theorem beq_f {a b : Int} (h : a ≠ b) : (a == b) = false := beq_eq_false_iff_ne.2 h
theorem bne_t {a b : Int} (h : a ≠ b) : (a != b) = true := by rw [bne, beq_f h]; rfl
theorem bne_f {a b : Int} (h : a = b) : (a != b) = false := by rw [bne, beq_t h]; rfl
theorem pow_4_3 : powI 4 3 = 64 := by rw [show powI 4 3 = (pw 4 3 : Int) from powI_nat 4 3 (by decide) (by decide), four_3]; rfl
theorem pow_4_Q : powI 4 1073741789 = 1 := by rw [show powI 4 1073741789 = (pw 4 1073741789 : Int) from powI_nat 4 1073741789 (by decide) (by decide), four_Q]; rfl
theorem is_4 : isI 4 = true := (isI_iff 4).2 ⟨by decide, by decide, pow_4_Q⟩
theorem is_1 : isI 1 = false := by
  rcases h : isI 1 with _ | _
  · rfl
  · exact absurd ((isI_iff 1).1 h).1 (by decide)
theorem mul_m1 : mulI 2147483578 2147483578 = 1 := by unfold mulI; rw [if_pos (by decide)]; decide +kernel
theorem pow_5_0 : powI 5 0 = 1 := by rw [show powI 5 0 = (pw 5 0 : Int) from powI_nat 5 0 (by decide) (by decide), pw_zero]; rfl
theorem pow_0_0 : powI 0 0 = 1 := by rw [show powI 0 0 = (pw 0 0 : Int) from powI_nat 0 0 (by decide) (by decide), pw_zero]; rfl
end Go.Proofs.Ytbgdlggobbiibaa.Pm

/-
  The walks of package power and of the document's answer to it: what each call answers, in numbers. They write nothing.
-/
namespace Go.Proofs.Ytbgdlggobbiibaa
set_option maxRecDepth 100000
open Go.RowKit Pm

theorem ret_i64 {a b : Int} (h : a = b) : Ending.returned (.int .i64 a) = .returned (.int .i64 b) := by rw [h]

theorem ret_bool {a b : Bool} (h : a = b) : Ending.returned (.bool a) = .returned (.bool b) := by rw [h]

theorem round_t (a : Int) (w : World) (h0 : 0 ≤ a) (h1 : a < 2147483579) :
    Calls Try.prog 89 #[.int .i64 a] w fun e w' => e = .returned (.bool true) ∧ w = w' := by
  go_enter Try.func89, Try.ntmps89
  go_wp2
  go_ret
  exact ⟨rfl, rfl⟩
theorem round_f (a : Int) (w : World) (h : ¬ (0 ≤ a ∧ a < 2147483579)) :
    Calls Try.prog 89 #[.int .i64 a] w fun e w' => e = .returned (.bool false) ∧ w = w' := by
  by_cases h0 : 0 ≤ a
  · have h1 : ¬ a < 2147483579 := fun h1 => h ⟨h0, h1⟩
    clear h
    go_enter Try.func89, Try.ntmps89
    go_wp2
    go_ret
    exact ⟨rfl, rfl⟩
  · clear h
    go_enter Try.func89, Try.ntmps89
    go_wp2
    go_ret
    exact ⟨rfl, rfl⟩

theorem round_any (a : Int) (w : World) :
    Calls Try.prog 89 #[.int .i64 a] w fun e w' => e = .returned (.bool (inB a)) ∧ w = w' := by
  by_cases h : 0 ≤ a ∧ a < 2147483579
  · rw [inB_t h]; exact round_t a w h.1 h.2
  · rw [inB_f h]; exact round_f a w h

theorem mul_bd (a b : Int) (h0 : 0 ≤ a) (h1 : a < 2147483579) (h2 : 0 ≤ b) (h3 : b < 2147483579) : 0 ≤ a * b ∧ a * b ≤ 4611686018427387904 := by
  constructor
  · exact Int.mul_nonneg h0 h2
  · have : a * b ≤ 2147483648 * 2147483648 := Int.mul_le_mul (by omega) (by omega) h2 (by omega)
    omega

theorem mul_any (a b : Int) (w : World) :
    Calls Try.prog 90 #[.int .i64 a, .int .i64 b] w fun e w' => e = .returned (.int .i64 (mulI a b)) ∧ w = w' := by
  by_cases ha : 0 ≤ a ∧ a < 2147483579
  · by_cases hb : 0 ≤ b ∧ b < 2147483579
    · have ia := inB_t ha
      have ib := inB_t hb
      obtain ⟨a0, a1⟩ := ha
      obtain ⟨b0, b1⟩ := hb
      obtain ⟨m0, m1⟩ := mul_bd a b a0 a1 b0 b1
      go_enter Try.func90, Try.ntmps90
      go_wp2_with (go_at_call 89; refine (round_any _ _).mono ?_; rintro e w' ⟨rfl, rfl⟩)
      go_ret
      exact ⟨ret_i64 (by unfold mulI; rw [if_pos ⟨a0, a1, b0, b1⟩]), rfl⟩
    · have ia := inB_t ha
      have ib := inB_f hb
      have hf : mulI a b = 0 := mulI_out _ _ (fun ⟨_, _, h2, h3⟩ => hb ⟨h2, h3⟩)
      have HF := Lib.hid hf; clear hf ha hb
      go_enter Try.func90, Try.ntmps90
      go_wp2_with (go_at_call 89; refine (round_any _ _).mono ?_; rintro e w' ⟨rfl, rfl⟩)
      go_ret
      exact ⟨ret_i64 HF.out.symm, rfl⟩
  · have ia := inB_f ha
    have hf : mulI a b = 0 := mulI_out _ _ (fun ⟨h0, h1, _, _⟩ => ha ⟨h0, h1⟩)
    have HF := Lib.hid hf; clear hf ha
    go_enter Try.func90, Try.ntmps90
    go_wp2_with (go_at_call 89; refine (round_any _ _).mono ?_; rintro e w' ⟨rfl, rfl⟩)
    go_ret
    exact ⟨ret_i64 HF.out.symm, rfl⟩

theorem and_one_i64 (E : Int) (h0 : 0 ≤ E) (h : E ≤ 1073741789) : bits BinOp.and IntKind.i64 E 1 = E % 2 := by
  obtain ⟨n, rfl⟩ := Int.eq_ofNat_of_zero_le h0
  have hb : (BitVec.ofInt 64 (n : Int)).toNat = n := by
    rw [BitVec.ofInt_natCast, BitVec.toNat_ofNat]; exact Nat.mod_eq_of_lt (by omega)
  have h1 : (BitVec.ofInt 64 (1 : Int)).toNat = 1 := by decide
  show IntKind.i64.wrap ((BitVec.ofInt 64 (n : Int) &&& BitVec.ofInt 64 (1 : Int)).toNat : Int) = _
  rw [BitVec.toNat_and, hb, h1, Nat.and_one_is_mod]
  exact IntWalk.i64_in _ (by omega)

theorem pow_out (b e : Int) (w : World) (h : ¬ (0 ≤ b ∧ b < 2147483579 ∧ 0 ≤ e ∧ e ≤ 1073741789)) :
    Calls Try.prog 86 #[.int .i64 b, .int .i64 e] w fun e w' => e = .returned (.int .i64 0) ∧ w = w' := by
  by_cases hb : 0 ≤ b ∧ b < 2147483579
  · have ib := inB_t hb
    by_cases he : e < 0
    · clear h hb
      go_enter Try.func86, Try.ntmps86
      go_wp2_with (go_at_call 89; refine (round_any _ _).mono ?_; rintro e w' ⟨rfl, rfl⟩)
      go_ret
      exact ⟨rfl, rfl⟩
    · have he2 : 1073741789 < e := by omega
      clear h hb
      go_enter Try.func86, Try.ntmps86
      go_wp2_with (go_at_call 89; refine (round_any _ _).mono ?_; rintro e w' ⟨rfl, rfl⟩)
      go_ret
      exact ⟨rfl, rfl⟩
  · have ib := inB_f hb
    clear h hb
    go_enter Try.func86, Try.ntmps86
    go_wp2_with (go_at_call 89; refine (round_any _ _).mono ?_; rintro e w' ⟨rfl, rfl⟩)
    go_ret
    exact ⟨rfl, rfl⟩

theorem pow_in (b e : Int) (w : World) (hb : 0 ≤ b ∧ b < 2147483579) (he : 0 ≤ e ∧ e ≤ 1073741789) :
    Calls Try.prog 86 #[.int .i64 b, .int .i64 e] w fun e' w' => e' = .returned (.int .i64 (powI b e)) ∧ w = w' := by
  have ib := inB_t hb
  have HS := Lib.hid (PowAt.start hb he)
  have HL := fun (B Y : Int) (h : PowAt b e B 0 Y) => Lib.hid (PowAt.last hb he h)
  obtain ⟨e0, e1⟩ := he
  go_enter Try.func86, Try.ntmps86
  go_wp2_with (go_at_call 89; refine (round_any _ _).mono ?_; rintro e w' ⟨rfl, rfl⟩)
  go_loop [0, 1, 5] (fun b' e' y' => ∃ B E Y : Int, b' = .int .i64 B ∧ e' = .int .i64 E ∧ y' = .int .i64 Y ∧ PowAt b e B E Y) (fun _ e' _ => (intOf e').toNat)
  case atStart => exact ⟨b, e, 1, rfl, rfl, rfl, HS.out⟩
  case round =>
    obtain ⟨B, E, Y, rfl, rfl, rfl, HP⟩ := hrel
    obtain ⟨x0, x1⟩ := And.intro HP.e0 HP.e1
    have hand := and_one_i64 E x0 x1
    by_cases hpos : 0 < E
    · by_cases hodd : E % 2 = 1
      · have HN := HP.odd hodd
        have ho := tests.1 hodd
        clear hodd HP ib e0 e1
        go_wp2_with (go_at_call 90; refine (mul_any _ _ _).mono ?_; rintro e w' ⟨rfl, rfl⟩)
        go_round
        case rel => exact ⟨_, _, _, rfl, rfl, rfl, HN⟩
        case measure => simp [intOf]; omega
      · have HN := HP.even hodd
        have ho := tests.2 hodd
        clear hodd HP ib e0 e1
        go_wp2_with (go_at_call 90; refine (mul_any _ _ _).mono ?_; rintro e w' ⟨rfl, rfl⟩)
        go_round
        case rel => exact ⟨_, _, _, rfl, rfl, rfl, HN⟩
        case measure => simp [intOf]; omega
    · obtain rfl : E = 0 := by omega
      have HY := HL _ _ HP
      clear ib hand
      go_wp2
      go_ret
      exact ⟨ret_i64 HY.out, rfl⟩
theorem pow_any (b e : Int) (w : World) :
    Calls Try.prog 86 #[.int .i64 b, .int .i64 e] w fun e' w' => e' = .returned (.int .i64 (powI b e)) ∧ w = w' := by
  by_cases h : 0 ≤ b ∧ b < 2147483579 ∧ 0 ≤ e ∧ e ≤ 1073741789
  · exact pow_in b e w ⟨h.1, h.2.1⟩ h.2.2
  · rw [powI_out _ _ h]; exact pow_out b e w h
theorem is_any (y : Int) (w : World) :
    Calls Try.prog 79 #[.int .i64 y] w fun e' w' => e' = .returned (.bool (isI y)) ∧ w = w' := by
  by_cases h1 : 1 < y
  · by_cases h2 : y < 2147483579
    · by_cases h3 : powI y 1073741789 = 1
      · have HI := Lib.hid ((isI_iff y).2 ⟨h1, h2, h3⟩)
        have b3 := beq_t h3
        clear h3
        go_enter Try.func79, Try.ntmps79
        go_wp2_with (go_at_call 86; refine (pow_any _ _ _).mono ?_; rintro e w' ⟨rfl, rfl⟩)
        go_ret
        exact ⟨ret_bool HI.out.symm, rfl⟩
      · have HI := Lib.hid (Bool.eq_false_iff.2 fun h => h3 ((isI_iff y).1 h).2.2)
        have b3 := beq_f h3
        clear h3
        go_enter Try.func79, Try.ntmps79
        go_wp2_with (go_at_call 86; refine (pow_any _ _ _).mono ?_; rintro e w' ⟨rfl, rfl⟩)
        go_ret
        exact ⟨ret_bool HI.out.symm, rfl⟩
    · have HI := Lib.hid (Bool.eq_false_iff.2 fun h => h2 ((isI_iff y).1 h).2.1)
      go_enter Try.func79, Try.ntmps79
      go_wp2
      go_ret
      exact ⟨ret_bool HI.out.symm, rfl⟩
  · have HI := Lib.hid (Bool.eq_false_iff.2 fun h => h1 ((isI_iff y).1 h).1)
    go_enter Try.func79, Try.ntmps79
    go_wp2
    go_ret
    exact ⟨ret_bool HI.out.symm, rfl⟩
end Go.Proofs.Ytbgdlggobbiibaa

/-
  Keys as the program keeps them: the walks of From, Made, Secret, Uses.
-/
namespace Go.Proofs.Ytbgdlggobbiibaa
set_option maxRecDepth 100000
open Go.RowKit
set_option linter.unusedVariables false
set_option linter.unusedSimpArgs false

/-- a key: its secret number, whether it is done, its public number, whether that was worked out, its uses -/
abbrev CK (s dn pub md us : Int) : Array Value := #[.int .i64 s, .int .u32 dn, .int .i32 0, .int .u32 0, .int .i64 pub, .int .u32 md, .int .i64 us]
theorem Blk.key {w : World} {g : Nat} {t : TypeId} {s dn pub md us : Int} (h : Blk w g (CK s dn pub md us) t) :
    w.cell? ⟨g, 0, none⟩ = some (.int .i64 s) ∧ w.cell? ⟨g, 1, none⟩ = some (.int .u32 dn) ∧ w.cell? ⟨g, 2, none⟩ = some (.int .i32 0) ∧ w.cell? ⟨g, 3, none⟩ = some (.int .u32 0) ∧ w.cell? ⟨g, 4, none⟩ = some (.int .i64 pub) ∧ w.cell? ⟨g, 5, none⟩ = some (.int .u32 md) ∧ w.cell? ⟨g, 6, none⟩ = some (.int .i64 us) :=
  ⟨h.cell 0, h.cell 1, h.cell 2, h.cell 3, h.cell 4, h.cell 5, h.cell 6⟩

end Go.Proofs.Ytbgdlggobbiibaa

/-
  sync.Once's slow road, in the run of one goroutine: contracts of its parts.
-/
namespace Go.Proofs.Ytbgdlggobbiibaa
set_option maxRecDepth 100000
open Go.RowKit Pm
set_option linter.unusedVariables false
set_option linter.unusedSimpArgs false

/-- a key while it is locked, or not -/
abbrev KC (s dn mu pub md us : Int) : Array Value := #[.int .i64 s, .int .u32 dn, .int .i32 mu, .int .u32 0, .int .i64 pub, .int .u32 md, .int .i64 us]
theorem Blk.kc {w : World} {g : Nat} {t : TypeId} {s dn mu pub md us : Int} (h : Blk w g (KC s dn mu pub md us) t) :
    w.cell? ⟨g, 0, none⟩ = some (.int .i64 s) ∧ w.cell? ⟨g, 1, none⟩ = some (.int .u32 dn) ∧ w.cell? ⟨g, 2, none⟩ = some (.int .i32 mu) ∧ w.cell? ⟨g, 4, none⟩ = some (.int .i64 pub) ∧ w.cell? ⟨g, 5, none⟩ = some (.int .u32 md) ∧ w.cell? ⟨g, 6, none⟩ = some (.int .i64 us) :=
  ⟨h.cell 0, h.cell 1, h.cell 2, h.cell 4, h.cell 5, h.cell 6⟩

end Go.Proofs.Ytbgdlggobbiibaa

/-
  The walks of turning a word: bits.RotateLeft64, sponge.twice, and the document's right.
-/
namespace Go.Proofs.Ytbgdlggobbiibaa
set_option maxRecDepth 100000
open Go.RowKit

theorem ret_u64 {a b : Int} (h : a = b) : Ending.returned (.int .u64 a) = .returned (.int .u64 b) := by rw [h]

end Go.Proofs.Ytbgdlggobbiibaa

/-
  The walks of sponge's Turn: spread, mix, Turn.
-/
namespace Go.Proofs.Ytbgdlggobbiibaa
set_option maxRecDepth 100000
open Go.RowKit

theorem wr1 : IntKind.i64.wrap 1 = 1 := by decide
theorem wr2 : IntKind.i64.wrap 2 = 2 := by decide
theorem wr3 : IntKind.i64.wrap 3 = 3 := by decide
theorem wr4 : IntKind.i64.wrap 4 = 4 := by decide
theorem wr5 : IntKind.i64.wrap 5 = 5 := by decide
theorem tm1 : (1 : Int).tmod 5 = 1 := by decide
theorem tm2 : (2 : Int).tmod 5 = 2 := by decide
theorem tm3 : (3 : Int).tmod 5 = 3 := by decide
theorem tm4 : (4 : Int).tmod 5 = 4 := by decide
theorem tm5 : (5 : Int).tmod 5 = 0 := by decide
attribute [local go_sem] wr1 wr2 wr3 wr4 wr5 tm1 tm2 tm3 tm4 tm5 U_xor U_and U_not

end Go.Proofs.Ytbgdlggobbiibaa

/-
  The walk of sponge's Turn.
-/
namespace Go.Proofs.Ytbgdlggobbiibaa
set_option maxRecDepth 100000
open Go.RowKit

theorem const_xor (c : BitVec 64) (k : Nat) (h : k < 12) : bits .xor .u64 (U c) (240 - 15 * (k : Int)) = U (c ^^^ BitVec.ofNat 64 (240 - 15 * k)) := by
  have e : (240 - 15 * (k : Int)) = U (BitVec.ofNat 64 (240 - 15 * k)) := by
    rw [U_def, BitVec.toNat_ofNat, Nat.mod_eq_of_lt (by omega)]; omega
  rw [e, U_xor]

abbrev C5 (x : W5) : Array Value := #[.int .u64 (U x.a), .int .u64 (U x.b), .int .u64 (U x.c), .int .u64 (U x.d), .int .u64 (U x.e)]

end Go.Proofs.Ytbgdlggobbiibaa

/-
  The walk of the document's Turn (curiaref1.Turn).
-/
namespace Go.Proofs.Ytbgdlggobbiibaa
set_option maxRecDepth 100000
open Go.RowKit

attribute [local go_sem] wr1 wr2 wr3 wr4 wr5 tm1 tm2 tm3 tm4 tm5 U_xor U_and U_not

end Go.Proofs.Ytbgdlggobbiibaa

/-
  The walk of the sponge's state: take.
-/
namespace Go.Proofs.Ytbgdlggobbiibaa
set_option maxRecDepth 100000
open Go.RowKit

theorem shift_facts (k : Nat) (h : k ≤ 7) : IntKind.i64.wrap (8 * (k : Int)) = 8 * (k : Int) ∧ IntKind.i64.wrap (56 - 8 * (k : Int)) = 56 - 8 * (k : Int) ∧ 0 ≤ 56 - 8 * (k : Int) ∧ (56 - 8 * (k : Int)).toNat = 56 - 8 * k ∧ 56 - 8 * k ≤ 64 :=
  ⟨IntWalk.i64_in _ (by omega), IntWalk.i64_in _ (by omega), by omega, by omega, by omega⟩

attribute [local go_sem] shl_w8 U_xor

end Go.Proofs.Ytbgdlggobbiibaa

/-
  The walks of the sponge's beginning and end.
-/
namespace Go.Proofs.Ytbgdlggobbiibaa
set_option maxRecDepth 100000
open Go.RowKit

end Go.Proofs.Ytbgdlggobbiibaa

/-
  The walk of the sponge's end.
-/
namespace Go.Proofs.Ytbgdlggobbiibaa
set_option maxRecDepth 100000
open Go.RowKit

attribute [local go_sem] U_xor
theorem shl_80 (n : Nat) : IntKind.u64.wrap (128 * 2 ^ n) = U (0x80#64 <<< n) := by
  rw [← U_shl]; rfl

end Go.Proofs.Ytbgdlggobbiibaa

/-
  The walks of sponge.Sum and sponge.Derive.
-/
namespace Go.Proofs.Ytbgdlggobbiibaa
set_option maxRecDepth 100000
open Go.RowKit

end Go.Proofs.Ytbgdlggobbiibaa

/-
  The walk of sponge.Derive.
-/
namespace Go.Proofs.Ytbgdlggobbiibaa
set_option maxRecDepth 100000
open Go.RowKit

/-- a string as bytes -/
def sb (s : ByteArray) : List UInt8 := s.data.toList

theorem sb_length (s : ByteArray) : (sb s).length = s.size := by simp [sb]
theorem wrap_len (n : Nat) : IntKind.u8.wrap (n : Int) = Bt (UInt8.ofNat n) := by
  rw [IntKind.wrap_u8]; unfold Bt; rw [UInt8.toNat_ofNat']; rfl

theorem below_bytes (w : World) (e : TypeId) (s : ByteArray) : Below w.heap.size w (Lib.bytesWorld w e s) :=
  ⟨rfl, rfl, rfl, by rw [Lib.bytesWorld_size]; omega, fun k hk => Lib.bytesWorld_at_old w e s k hk⟩
theorem Row8.ofBytes (w : World) (e : TypeId) (s : ByteArray) (hs : s.size ≤ maxLen) : Row8 (Lib.bytesWorld w e s) (some ⟨w.heap.size, 0, none⟩) s.size (sb s) := by
  refine ⟨(sb_length s).symm, by rw [sb_length]; exact hs, .inr ⟨w.heap.size, 0, rfl, fun i hi => ?_⟩⟩
  have h1 : i < s.size := by rw [sb_length] at hi; exact hi
  rw [Nat.zero_add, Lib.bytesWorld_cell w e s i h1]
  congr 2
  unfold Bt sb
  rw [List.getD_eq_getElem?_getD, List.getElem?_eq_getElem (by simpa [sb] using hi)]
  rfl

end Go.Proofs.Ytbgdlggobbiibaa

/-
  Taking bytes one by one, and by padded eights: one sum. No program is named here.
-/
namespace Go.Proofs.Ytbgdlggobbiibaa
set_option maxRecDepth 100000
open Go.RowKit

/-- the word of the first j of eight bytes from p on -/
def wordN (P : List UInt8) (p : Nat) : Nat → BitVec 64
  | 0 => 0
  | j + 1 => (wordN P p j <<< 8) ||| w8 (P[p + j]?.getD 0)
/-- k eights taken in -/
def rabs (P : List UInt8) : Nat → W5
  | 0 => turnW ⟨32, 0, 0, 0, 0⟩
  | k + 1 => turnW { rabs P k with a := (rabs P k).a ^^^ wordN P (8 * k) 8 }

theorem or_low (x : BitVec 64) (c : UInt8) : (x <<< 8) ||| w8 c = (x <<< 8) ^^^ w8 c := by
  apply BitVec.eq_of_getLsbD_eq
  intro i hi
  rw [BitVec.getLsbD_or, BitVec.getLsbD_xor]
  by_cases h : i < 8
  · have : (x <<< 8).getLsbD i = false := by simp [h]
    rw [this]; simp
  · have : (w8 c).getLsbD i = false := by
      unfold w8
      rw [BitVec.getLsbD_ofNat]
      have h1 := c.toNat_lt
      have h2 : c.toNat < 2 ^ i := Nat.lt_of_lt_of_le (by omega : c.toNat < 2 ^ 8) (Nat.pow_le_pow_right (by decide) (by omega))
      rw [Nat.testBit_lt_two_pow h2, Bool.and_false]
    rw [this]; simp
theorem word8 (P : List UInt8) (p : Nat) : wordN P p 8 = (w8 (P[p]?.getD 0) <<< 56) ^^^ (w8 (P[p + 1]?.getD 0) <<< 48) ^^^ (w8 (P[p + 2]?.getD 0) <<< 40) ^^^ (w8 (P[p + 3]?.getD 0) <<< 32) ^^^
    (w8 (P[p + 4]?.getD 0) <<< 24) ^^^ (w8 (P[p + 5]?.getD 0) <<< 16) ^^^ (w8 (P[p + 6]?.getD 0) <<< 8) ^^^ w8 (P[p + 7]?.getD 0) := by
  have hs : ∀ j, wordN P p (j + 1) = (wordN P p j <<< 8) ^^^ w8 (P[p + j]?.getD 0) := fun j => or_low _ _
  have h0 : wordN P p 0 = 0#64 := rfl
  rw [hs 7, hs 6, hs 5, hs 4, hs 3, hs 2, hs 1, hs 0, h0, Nat.add_zero]
  simp only [BitVec.shiftLeft_xor_distrib, ← BitVec.shiftLeft_add, BitVec.zero_shiftLeft, BitVec.zero_xor]
theorem takes_eight (P : List UInt8) (p : Nat) (x : W5) (h : p + 8 ≤ P.length) : takes ⟨x, 0⟩ ((P.drop p).take 8) = ⟨turnW { x with a := x.a ^^^ wordN P p 8 }, 0⟩ := by
  have e : (P.drop p).take 8 = [P[p]?.getD 0, P[p + 1]?.getD 0, P[p + 2]?.getD 0, P[p + 3]?.getD 0, P[p + 4]?.getD 0, P[p + 5]?.getD 0, P[p + 6]?.getD 0, P[p + 7]?.getD 0] := by
    apply List.ext_getElem?
    intro i
    by_cases hi : i < 8
    · rw [List.getElem?_take_of_lt hi, List.getElem?_drop]
      have hg : ∀ j, j < 8 → P[p + j]? = some (P[p + j]?.getD 0) := by
        intro j hj; rw [List.getElem?_eq_getElem (by omega)]; rfl
      match i, hi with
      | 0, _ => exact hg 0 (by decide)
      | 1, _ => exact hg 1 (by decide)
      | 2, _ => exact hg 2 (by decide)
      | 3, _ => exact hg 3 (by decide)
      | 4, _ => exact hg 4 (by decide)
      | 5, _ => exact hg 5 (by decide)
      | 6, _ => exact hg 6 (by decide)
      | 7, _ => exact hg 7 (by decide)
      | n + 8, h8 => omega
    · rw [List.getElem?_take, if_neg hi, List.getElem?_eq_none (by simp; omega)]
  rw [e, word8]
  simp only [takes, List.foldl, takeB]
  simp [BitVec.xor_assoc]
theorem takes_blocks (P : List UInt8) : ∀ k, 8 * k ≤ P.length → takes beginW (P.take (8 * k)) = ⟨rabs P k, 0⟩
  | 0, _ => rfl
  | k + 1, h => by
    have e : P.take (8 * (k + 1)) = P.take (8 * k) ++ (P.drop (8 * k)).take 8 := by
      rw [show 8 * (k + 1) = 8 * k + 8 by omega, List.take_add]
    rw [e, takes_append, takes_blocks P k (by omega), takes_eight P (8 * k) _ (by omega)]
    rfl
theorem w8_zero : w8 0 = 0#64 := by decide
theorem takeB_zero (x : W5) (a : Nat) : takeB ⟨x, a⟩ 0 = if a = 7 then ⟨turnW x, 0⟩ else ⟨x, a + 1⟩ := by
  unfold takeB
  simp only [w8_zero, BitVec.zero_shiftLeft, BitVec.xor_zero]
theorem takes_zeros : ∀ (n : Nat) (x : W5) (a : Nat), a + n = 8 → 0 < n → takes ⟨x, a⟩ (List.replicate n 0) = ⟨turnW x, 0⟩
  | 0, _, _, _, h => by omega
  | n + 1, x, a, h, _ => by
    rw [List.replicate_succ]
    show takes (takeB ⟨x, a⟩ 0) (List.replicate n 0) = _
    rw [takeB_zero]
    by_cases h7 : a = 7
    · have : n = 0 := by omega
      subst this
      rw [if_pos h7]; rfl
    · rw [if_neg h7]
      exact takes_zeros n x (a + 1) (by omega) (by omega)
theorem takes_at_mod (l : List UInt8) : ∀ s : Sp, s.at_ ≤ 7 → (takes s l).at_ = (s.at_ + l.length) % 8 := by
  induction l with
  | nil => intro s h; show s.at_ = (s.at_ + 0) % 8; omega
  | cons c l ih =>
    intro s h
    show (takes (takeB s c) l).at_ = _
    rw [ih _ (takeB_at s c h)]
    have e : (takeB s c).at_ = (s.at_ + 1) % 8 := by
      unfold takeB
      by_cases h7 : s.at_ = 7
      · simp [h7]
      · simp [h7]; omega
    rw [e, List.length_cons]
    omega
/-- padded eights come to the same -/
theorem rabs_sum (l : List UInt8) (n K : Nat) (h : l.length + 1 + n = 8 * K) (hn : n ≤ 7) : rabs (l ++ [128] ++ List.replicate n 0) K = tIter 1 (lastW (takes beginW l)) := by
  have h1 := takes_blocks (l ++ [128] ++ List.replicate n 0) K (by simp; omega)
  rw [List.take_of_length_le (by simp; omega), takes_append, takes_append] at h1
  have hat := takes_at_mod l beginW (by decide)
  generalize hs : takes beginW l = s at *
  have ha : s.at_ + n = 7 := by
    have : beginW.at_ = 0 := rfl
    rw [this] at hat
    omega
  have e : takes s [128] = takeB s 128 := rfl
  have hl : (⟨(lastW s), s.at_ + 1⟩ : Sp) = ⟨{ s.x with a := s.x.a ^^^ (w8 128 <<< (56 - 8 * s.at_)) }, s.at_ + 1⟩ := by
    unfold lastW; rw [show w8 128 = 0x80#64 by decide]
  rw [e] at h1
  unfold takeB at h1
  by_cases h7 : s.at_ = 7
  · have : n = 0 := by omega
    subst this
    rw [if_pos h7] at h1
    have h2 : turnW { s.x with a := s.x.a ^^^ (w8 128 <<< (56 - 8 * s.at_)) } = rabs (l ++ [128] ++ List.replicate 0 0) K := congrArg Sp.x h1
    rw [← h2]
    show _ = turnW (lastW s)
    unfold lastW; rw [show w8 128 = 0x80#64 by decide]
  · rw [if_neg h7, ← hl, takes_zeros n _ _ (by omega) (by omega)] at h1
    exact (congrArg Sp.x h1).symm
end Go.Proofs.Ytbgdlggobbiibaa

/-
  The walk of the document's Sum (curiaref1.Sum).
-/
namespace Go.Proofs.Ytbgdlggobbiibaa
set_option maxRecDepth 100000
open Go.RowKit

theorem outs_at (x : W5) (i : Nat) (hi : i < 32) : (outs x)[i]? = some (byteAt (tIter (i / 8 + 1) x).a (i % 8)) := by
  unfold outs
  rw [List.getElem?_map, List.getElem?_range hi]
  rfl
theorem rabs_zero (P : List UInt8) : rabs P 0 = turnW ⟨32, 0, 0, 0, 0⟩ := rfl
/-- how long a slice is -/
def lenOf : Value → Nat | .slice _ l _ => l | _ => 0
/-- the padded bytes -/
def padded (l : List UInt8) (n : Nat) : List UInt8 := l ++ [128] ++ List.replicate n 0
theorem padded_length (l : List UInt8) (n : Nat) : (padded l n).length = l.length + 1 + n := by simp [padded]; omega
theorem padded_succ (l : List UInt8) (n : Nat) : padded l n ++ [0] = padded l (n + 1) := by
  unfold padded; rw [List.append_assoc, List.replicate_succ']
theorem padded_zero (l : List UInt8) : padded l 0 = l ++ [128] := by simp [padded]
theorem padded_ne (l : List UInt8) (n : Nat) : padded l n ≠ [] := by simp [padded]

attribute [local go_sem] U_xor U_or8 U_shl8

end Go.Proofs.Ytbgdlggobbiibaa

/-
  The walks of the document's Derive and Join.
-/
namespace Go.Proofs.Ytbgdlggobbiibaa
set_option maxRecDepth 100000
open Go.RowKit
set_option linter.unusedVariables false

theorem take_flat (L : List (List UInt8)) (k : Nat) (h : k < L.length) : (L.take (k + 1)).flatten = (L.take k).flatten ++ L[k] := by
  rw [List.take_succ_eq_append_getElem h, List.flatten_append]; simp
theorem take_flat_le (L : List (List UInt8)) (k : Nat) : (L.take k).flatten.length ≤ L.flatten.length := by
  have h := congrArg (fun l => l.flatten.length) (List.take_append_drop k L)
  simp only [List.flatten_append, List.length_append] at h
  omega
set_option maxRecDepth 100000 in
set_option maxHeartbeats 2000000 in
theorem rjoin_own (a : Option Addr) (len cap : Nat) (L : List (List UInt8)) (w : World) (hp : ArgR w a len cap L) (hbound : L.flatten.length ≤ 140737488354000) :
    Calls Try.prog 49 #[.slice a len cap] w fun e w' => (∃ v, e = .returned v ∧ Own8 w' w.heap.size 5 v L.flatten) ∧ Below w.heap.size w w' := by
  have hlen := hp.len_eq
  have hsm := hp.row.small
  unfold maxLen at hsm
  subst hlen
  have HP := Lib.hid hp; have HBD := Lib.hid hbound
  clear hp hbound
  go_enter Try.func49, Try.ntmps49
  go_wp2
  go_loopw [3, 4] (fun b i wr => ∃ k : Nat, k ≤ L.length ∧ i = .int .i64 k ∧ Own8 wr w.heap.size 5 b (L.take k).flatten ∧ Below w.heap.size w wr) (fun _ i _ => L.length - (intOf i).toNat)
  case atStart => exact ⟨0, Nat.zero_le _, rfl, World.ownsRow_nil _ _ _ _, Below.refl _ _⟩
  case round =>
    obtain ⟨k, hk, rfl, hO, hB⟩ := hrel
    by_cases hlt : k < L.length
    · obtain ⟨b, off, rfl, a', l', c', hcell, hrow⟩ : ∃ b off, a = some ⟨b, off, none⟩ ∧ ∃ a' l' c', wr.cell? ⟨b, off + k, none⟩ = some (.slice a' l' c') ∧ Arg8 w a' l' c' L[k] := by
        rcases HP.out.cells with h1 | ⟨b, off, rfl, hc⟩
        · simp [h1] at hlt
        · obtain ⟨a', l', c', h2, h3⟩ := hc k hlt
          exact ⟨b, off, rfl, a', l', c', (hB.cell (block_lt_of_cell h2)).trans h2, h3⟩
      have hrow2 := hrow.row.below hB
      have hle : (L.take k).flatten.length + L[k].length ≤ 140737488355328 := by
        have h1 := take_flat_le L (k + 1)
        rw [take_flat L k hlt, List.length_append] at h1
        have := HBD.out; omega
      have HO := Lib.hid hO; have HB := Lib.hid hB; have HW := Lib.hid hrow2; have HN := Lib.hid hrow.nil; have HLE := Lib.hid hle
      clear hO hB hrow hrow2 hle
      go_wp2_with (at_builtin
                   refine wpList_append8 rfl (.tmp 11) (.tmp 15) 22 rfl w.heap.size 5 Try.underlying22 info8 _ (L.take k).flatten rfl HO.out _ _ _ L[k] rfl HW.out HN.out HLE.out HB.out.size ?_
                   intro v3 w3 hown3 hg3 hb3
                   have HO3 := Lib.hid hown3; have HB3 := Lib.hid hb3
                   clear hown3 hg3 hb3)
      go_roundw
      case rel =>
        refine ⟨k + 1, by omega, by go_num, ?_, HB.out.trans HB3.out⟩
        rw [take_flat L k hlt]; exact HO3.out
      case measure => simp [intOf]; omega
    · rw [List.take_of_length_le (by omega)] at hO
      obtain ⟨a', c', rfl, hr, hn⟩ := hO.forms (by have := HBD.out; simp only [maxLen]; omega)
      have HO := Lib.hid hO; have HB := Lib.hid hB
      clear hO hB hr hn
      go_wp2
      go_ret
      exact ⟨⟨_, rfl, HO.out⟩, HB.out⟩
theorem rjoin_any (a : Option Addr) (len cap : Nat) (L : List (List UInt8)) (w : World) (hp : ArgR w a len cap L) (hbound : L.flatten.length ≤ 140737488354000) :
    Calls Try.prog 49 #[.slice a len cap] w fun e w' => (∃ a' c', e = .returned (.slice a' L.flatten.length c') ∧ Row8 w' a' L.flatten.length L.flatten ∧ (a' = none → c' = 0)) ∧ Below w.heap.size w w' := by
  refine (rjoin_own a len cap L w hp hbound).mono ?_
  rintro e w' ⟨⟨v, rfl, hO⟩, hB⟩
  obtain ⟨a', c', rfl, hr, hn⟩ := hO.forms (by simp only [maxLen]; omega)
  exact ⟨⟨a', c', rfl, hr, hn⟩, hB⟩
end Go.Proofs.Ytbgdlggobbiibaa

/-
  The walks of package power and of the document's answer to it: what each call answers, in numbers. They write nothing.
-/
namespace Go.Proofs.Ytbgdlggobbiibaa
set_option maxRecDepth 100000
open Go.RowKit Pm

theorem rret_i64 {a b : Int} (h : a = b) : Ending.returned (.int .i64 a) = .returned (.int .i64 b) := by rw [h]

theorem rret_bool {a b : Bool} (h : a = b) : Ending.returned (.bool a) = .returned (.bool b) := by rw [h]

theorem rround_t (a : Int) (w : World) (h0 : 0 ≤ a) (h1 : a < 2147483579) :
    Calls Try.prog 92 #[.int .i64 a] w fun e w' => e = .returned (.bool true) ∧ w = w' := by
  go_enter Try.func92, Try.ntmps92
  go_wp2
  go_ret
  exact ⟨rfl, rfl⟩
theorem rround_f (a : Int) (w : World) (h : ¬ (0 ≤ a ∧ a < 2147483579)) :
    Calls Try.prog 92 #[.int .i64 a] w fun e w' => e = .returned (.bool false) ∧ w = w' := by
  by_cases h0 : 0 ≤ a
  · have h1 : ¬ a < 2147483579 := fun h1 => h ⟨h0, h1⟩
    clear h
    go_enter Try.func92, Try.ntmps92
    go_wp2
    go_ret
    exact ⟨rfl, rfl⟩
  · clear h
    go_enter Try.func92, Try.ntmps92
    go_wp2
    go_ret
    exact ⟨rfl, rfl⟩

theorem rround_any (a : Int) (w : World) :
    Calls Try.prog 92 #[.int .i64 a] w fun e w' => e = .returned (.bool (inB a)) ∧ w = w' := by
  by_cases h : 0 ≤ a ∧ a < 2147483579
  · rw [inB_t h]; exact rround_t a w h.1 h.2
  · rw [inB_f h]; exact rround_f a w h

theorem rmul_bd (a b : Int) (h0 : 0 ≤ a) (h1 : a < 2147483579) (h2 : 0 ≤ b) (h3 : b < 2147483579) : 0 ≤ a * b ∧ a * b ≤ 4611686018427387904 := by
  constructor
  · exact Int.mul_nonneg h0 h2
  · have : a * b ≤ 2147483648 * 2147483648 := Int.mul_le_mul (by omega) (by omega) h2 (by omega)
    omega

theorem rmul_any (a b : Int) (w : World) :
    Calls Try.prog 93 #[.int .i64 a, .int .i64 b] w fun e w' => e = .returned (.int .i64 (mulI a b)) ∧ w = w' := by
  by_cases ha : 0 ≤ a ∧ a < 2147483579
  · by_cases hb : 0 ≤ b ∧ b < 2147483579
    · have ia := inB_t ha
      have ib := inB_t hb
      obtain ⟨a0, a1⟩ := ha
      obtain ⟨b0, b1⟩ := hb
      obtain ⟨m0, m1⟩ := rmul_bd a b a0 a1 b0 b1
      go_enter Try.func93, Try.ntmps93
      go_wp2_with (go_at_call 92; refine (rround_any _ _).mono ?_; rintro e w' ⟨rfl, rfl⟩)
      go_ret
      exact ⟨rret_i64 (by unfold mulI; rw [if_pos ⟨a0, a1, b0, b1⟩]), rfl⟩
    · have ia := inB_t ha
      have ib := inB_f hb
      have hf : mulI a b = 0 := mulI_out _ _ (fun ⟨_, _, h2, h3⟩ => hb ⟨h2, h3⟩)
      have HF := Lib.hid hf; clear hf ha hb
      go_enter Try.func93, Try.ntmps93
      go_wp2_with (go_at_call 92; refine (rround_any _ _).mono ?_; rintro e w' ⟨rfl, rfl⟩)
      go_ret
      exact ⟨rret_i64 HF.out.symm, rfl⟩
  · have ia := inB_f ha
    have hf : mulI a b = 0 := mulI_out _ _ (fun ⟨h0, h1, _, _⟩ => ha ⟨h0, h1⟩)
    have HF := Lib.hid hf; clear hf ha
    go_enter Try.func93, Try.ntmps93
    go_wp2_with (go_at_call 92; refine (rround_any _ _).mono ?_; rintro e w' ⟨rfl, rfl⟩)
    go_ret
    exact ⟨rret_i64 HF.out.symm, rfl⟩

theorem rand_one_i64 (E : Int) (h0 : 0 ≤ E) (h : E ≤ 1073741789) : bits BinOp.and IntKind.i64 E 1 = E % 2 := by
  obtain ⟨n, rfl⟩ := Int.eq_ofNat_of_zero_le h0
  have hb : (BitVec.ofInt 64 (n : Int)).toNat = n := by
    rw [BitVec.ofInt_natCast, BitVec.toNat_ofNat]; exact Nat.mod_eq_of_lt (by omega)
  have h1 : (BitVec.ofInt 64 (1 : Int)).toNat = 1 := by decide
  show IntKind.i64.wrap ((BitVec.ofInt 64 (n : Int) &&& BitVec.ofInt 64 (1 : Int)).toNat : Int) = _
  rw [BitVec.toNat_and, hb, h1, Nat.and_one_is_mod]
  exact IntWalk.i64_in _ (by omega)

theorem rpow_out (b e : Int) (w : World) (h : ¬ (0 ≤ b ∧ b < 2147483579 ∧ 0 ≤ e ∧ e ≤ 1073741789)) :
    Calls Try.prog 91 #[.int .i64 b, .int .i64 e] w fun e w' => e = .returned (.int .i64 0) ∧ w = w' := by
  by_cases hb : 0 ≤ b ∧ b < 2147483579
  · have ib := inB_t hb
    by_cases he : e < 0
    · clear h hb
      go_enter Try.func91, Try.ntmps91
      go_wp2_with (go_at_call 92; refine (rround_any _ _).mono ?_; rintro e w' ⟨rfl, rfl⟩)
      go_ret
      exact ⟨rfl, rfl⟩
    · have he2 : 1073741789 < e := by omega
      clear h hb
      go_enter Try.func91, Try.ntmps91
      go_wp2_with (go_at_call 92; refine (rround_any _ _).mono ?_; rintro e w' ⟨rfl, rfl⟩)
      go_ret
      exact ⟨rfl, rfl⟩
  · have ib := inB_f hb
    clear h hb
    go_enter Try.func91, Try.ntmps91
    go_wp2_with (go_at_call 92; refine (rround_any _ _).mono ?_; rintro e w' ⟨rfl, rfl⟩)
    go_ret
    exact ⟨rfl, rfl⟩

theorem rpow_in (b e : Int) (w : World) (hb : 0 ≤ b ∧ b < 2147483579) (he : 0 ≤ e ∧ e ≤ 1073741789) :
    Calls Try.prog 91 #[.int .i64 b, .int .i64 e] w fun e' w' => e' = .returned (.int .i64 (powI b e)) ∧ w = w' := by
  have ib := inB_t hb
  have HS := Lib.hid (PowAt.start hb he)
  have HL := fun (B Y : Int) (h : PowAt b e B 0 Y) => Lib.hid (PowAt.last hb he h)
  obtain ⟨e0, e1⟩ := he
  go_enter Try.func91, Try.ntmps91
  go_wp2_with (go_at_call 92; refine (rround_any _ _).mono ?_; rintro e w' ⟨rfl, rfl⟩)
  go_loop [0, 1, 5] (fun b' e' y' => ∃ B E Y : Int, b' = .int .i64 B ∧ e' = .int .i64 E ∧ y' = .int .i64 Y ∧ PowAt b e B E Y) (fun _ e' _ => (intOf e').toNat)
  case atStart => exact ⟨b, e, 1, rfl, rfl, rfl, HS.out⟩
  case round =>
    obtain ⟨B, E, Y, rfl, rfl, rfl, HP⟩ := hrel
    obtain ⟨x0, x1⟩ := And.intro HP.e0 HP.e1
    have hand := rand_one_i64 E x0 x1
    by_cases hpos : 0 < E
    · by_cases hodd : E % 2 = 1
      · have HN := HP.odd hodd
        have ho := tests.1 hodd
        clear hodd HP ib e0 e1
        go_wp2_with (go_at_call 93; refine (rmul_any _ _ _).mono ?_; rintro e w' ⟨rfl, rfl⟩)
        go_round
        case rel => exact ⟨_, _, _, rfl, rfl, rfl, HN⟩
        case measure => simp [intOf]; omega
      · have HN := HP.even hodd
        have ho := tests.2 hodd
        clear hodd HP ib e0 e1
        go_wp2_with (go_at_call 93; refine (rmul_any _ _ _).mono ?_; rintro e w' ⟨rfl, rfl⟩)
        go_round
        case rel => exact ⟨_, _, _, rfl, rfl, rfl, HN⟩
        case measure => simp [intOf]; omega
    · obtain rfl : E = 0 := by omega
      have HY := HL _ _ HP
      clear ib hand
      go_wp2
      go_ret
      exact ⟨rret_i64 HY.out, rfl⟩
theorem rpow_any (b e : Int) (w : World) :
    Calls Try.prog 91 #[.int .i64 b, .int .i64 e] w fun e' w' => e' = .returned (.int .i64 (powI b e)) ∧ w = w' := by
  by_cases h : 0 ≤ b ∧ b < 2147483579 ∧ 0 ≤ e ∧ e ≤ 1073741789
  · exact rpow_in b e w ⟨h.1, h.2.1⟩ h.2.2
  · rw [powI_out _ _ h]; exact rpow_out b e w h
theorem ris_any (y : Int) (w : World) :
    Calls Try.prog 88 #[.int .i64 y] w fun e' w' => e' = .returned (.bool (isI y)) ∧ w = w' := by
  by_cases h1 : 1 < y
  · by_cases h2 : y < 2147483579
    · by_cases h3 : powI y 1073741789 = 1
      · have HI := Lib.hid ((isI_iff y).2 ⟨h1, h2, h3⟩)
        have b3 := beq_t h3
        clear h3
        go_enter Try.func88, Try.ntmps88
        go_wp2_with (go_at_call 91; refine (rpow_any _ _ _).mono ?_; rintro e w' ⟨rfl, rfl⟩)
        go_ret
        exact ⟨rret_bool HI.out.symm, rfl⟩
      · have HI := Lib.hid (Bool.eq_false_iff.2 fun h => h3 ((isI_iff y).1 h).2.2)
        have b3 := beq_f h3
        clear h3
        go_enter Try.func88, Try.ntmps88
        go_wp2_with (go_at_call 91; refine (rpow_any _ _ _).mono ?_; rintro e w' ⟨rfl, rfl⟩)
        go_ret
        exact ⟨rret_bool HI.out.symm, rfl⟩
    · have HI := Lib.hid (Bool.eq_false_iff.2 fun h => h2 ((isI_iff y).1 h).2.1)
      go_enter Try.func88, Try.ntmps88
      go_wp2
      go_ret
      exact ⟨rret_bool HI.out.symm, rfl⟩
  · have HI := Lib.hid (Bool.eq_false_iff.2 fun h => h1 ((isI_iff y).1 h).1)
    go_enter Try.func88, Try.ntmps88
    go_wp2
    go_ret
    exact ⟨rret_bool HI.out.symm, rfl⟩
end Go.Proofs.Ytbgdlggobbiibaa

/-
  Keys: what two keys share, the program's and the document's; the document's keys.
-/
namespace Go.Proofs.Ytbgdlggobbiibaa
set_option maxRecDepth 100000
open Go.RowKit Pm
set_option linter.unusedVariables false
set_option linter.unusedSimpArgs false

theorem results_row_tmp {P : Program} {fn : Func} {p u : Tmp} {ty : TypeId} (h : fn.results = #[.cell p ty, .tmp u]) (tmps : Array Value) (w : World) (g : Nat) (t : TypeId) (cs : Array Value) (fr : Nat × Nat) (d : TypeDesc) (v2 : Value) (hv2 : tmps.getD u undef = v2)
    (hp : tmps.getD p undef = .pointer (some ⟨g, 0, none⟩)) (hg : w.heap[g]? = some (.cells cs t fr))
    (hu : P.underlying ty = some d) (hd : (match d with | .struct _ | .array _ _ => true | _ => false) = true) (hi : (P.info? ty).map (·.size) = some cs.size) :
    (results fn tmps).run P w = .ok (.tuple #[.agg cs, v2]) w := by
  rw [results_cell_tmp h, hp, hv2]
  simp [asAddr, run_loadVar_row w g t ty cs fr d hg hu hd hi, Result.andThen]

/-- what a number and a secret share -/
def shareW (p s : Int) : List UInt8 := deriveW (List.replicate 32 0) (sb ⟨#[115, 104, 97, 114, 101]⟩) (fourB (powI p s))
theorem shareW_length (p s : Int) : (shareW p s).length = 32 := sumW_length _

end Go.Proofs.Ytbgdlggobbiibaa

/-
  '==' on arrays of integers. No program is named here.
-/
namespace Go.Proofs.Ytbgdlggobbiibaa
set_option maxRecDepth 100000
open Go.RowKit

section
variable {P : Program} (w : World)

def intCells (k : IntKind) (l : List Int) : Array Value := (l.map (Value.int k)).toArray
theorem intCells_get (k : IntKind) (l : List Int) (i : Nat) : (intCells k l)[i]? = (l[i]?).map (Value.int k) := by simp [intCells]

theorem run_part_int {e : TypeId} {k : IntKind} (hu : P.underlying e = some (.int k)) (cs : Array Value) (i : Nat) (v : Value) (h : cs[i]? = some v) : (part e cs (i * 1)).run P w = .ok v w := by
  rw [Nat.mul_one]
  simp [part, isAgg, Sem.run_bind, run_underlying hu, h]

theorem run_eqItems_int (d : Nat) {e : TypeId} {k : IntKind} (hu : P.underlying e = some (.int k)) (xs bs : List Int) : ∀ (m s : Nat), s + m ≤ xs.length → s + m ≤ bs.length →
    (Op.eqItems (d + 1) e 1 (intCells k xs) (intCells k bs) (List.range' s m)).run P w = .ok (decide ((xs.drop s).take m = (bs.drop s).take m)) w
  | 0, s, _, _ => by simp [Op.eqItems]
  | m + 1, s, ha, hb => by
    have h1 : (intCells k xs)[s]? = some (.int k xs[s]) := by rw [intCells_get, List.getElem?_eq_getElem (by omega)]; rfl
    have h2 : (intCells k bs)[s]? = some (.int k bs[s]) := by rw [intCells_get, List.getElem?_eq_getElem (by omega)]; rfl
    rw [List.range'_succ]
    simp only [Op.eqItems, Sem.run_bind, run_part_int w hu _ _ _ h1, run_part_int w hu _ _ _ h2, Result.andThen_ok, run_equalIn_int w d e k k xs[s] bs[s] hu]
    have e1 : (xs.drop s).take (m + 1) = xs[s] :: (xs.drop (s + 1)).take m := by rw [List.drop_eq_getElem_cons (by omega), List.take_succ_cons]
    have e2 : (bs.drop s).take (m + 1) = bs[s] :: (bs.drop (s + 1)).take m := by rw [List.drop_eq_getElem_cons (by omega), List.take_succ_cons]
    have ih := run_eqItems_int d hu xs bs m (s + 1) (by omega) (by omega)
    by_cases h : xs[s] = bs[s]
    · rw [show (xs[s] == bs[s]) = true by rw [h]; exact beq_self_eq_true _]
      simp only [Bool.not_true, Bool.false_eq_true, if_false]
      rw [ih, e1, e2, h]
      simp
    · rw [show (xs[s] == bs[s]) = false from beq_eq_false_iff_ne.2 h]
      simp only [Bool.not_false, if_true, Sem.run_pure]
      rw [e1, e2]
      simp [h]

theorem run_eql_ints {t e : TypeId} {n : Nat} {k : IntKind} {i : TypeInfo} (ht : P.underlying t = some (.array n e)) (hu : P.underlying e = some (.int k)) (hi : P.info? e = some i) (hc : P.cellsOf e = 1)
    (xs bs : List Int) (ha : xs.length = n) (hb : bs.length = n) : (binOp .eql t (.agg (intCells k xs)) (.agg (intCells k bs))).run P w = .ok (.bool (decide (xs = bs))) w := by
  rw [run_eql_struct, show (10000 : Nat) = 9998 + 1 + 1 from rfl, run_equalIn_array w _ _ _ ht hi, hc, List.range_eq_range', run_eqItems_int w 9998 hu xs bs n 0 (by omega) (by omega)]
  simp only [List.drop_zero, Result.andThen_ok]
  rw [List.take_of_length_le (by omega), List.take_of_length_le (by omega)]
theorem run_neq_ints {t e : TypeId} {n : Nat} {k : IntKind} {i : TypeInfo} (ht : P.underlying t = some (.array n e)) (hu : P.underlying e = some (.int k)) (hi : P.info? e = some i) (hc : P.cellsOf e = 1)
    (xs bs : List Int) (ha : xs.length = n) (hb : bs.length = n) : (binOp .neq t (.agg (intCells k xs)) (.agg (intCells k bs))).run P w = .ok (.bool (!decide (xs = bs))) w := by
  rw [run_neq_struct, show (10000 : Nat) = 9998 + 1 + 1 from rfl, run_equalIn_array w _ _ _ ht hi, hc, List.range_eq_range', run_eqItems_int w 9998 hu xs bs n 0 (by omega) (by omega)]
  simp only [List.drop_zero, Result.andThen_ok]
  rw [List.take_of_length_le (by omega), List.take_of_length_le (by omega)]

theorem HC_ints (l : List UInt8) : HC l = intCells .u8 (l.map Bt) := by simp [HC, intCells]
theorem Bt_list (l m : List UInt8) : decide (l.map Bt = m.map Bt) = (l == m) := by
  by_cases h : l = m
  · subst h; simp
  · rw [beq_eq_false_iff_ne.2 h]
    refine decide_eq_false fun e => h ?_
    exact (List.map_inj_right (f := Bt) (fun x y hxy => Bt_inj hxy)).1 e
theorem run_eql_hash {t e : TypeId} {i : TypeInfo} (ht : P.underlying t = some (.array 32 e)) (hu : P.underlying e = some (.int .u8)) (hi : P.info? e = some i) (hc : P.cellsOf e = 1)
    (l m : List UInt8) (hl : l.length = 32) (hm : m.length = 32) : (binOp .eql t (.agg (HC l)) (.agg (HC m))).run P w = .ok (.bool (l == m)) w := by
  rw [HC_ints, HC_ints, run_eql_ints w ht hu hi hc _ _ (by simpa using hl) (by simpa using hm), Bt_list]
theorem run_neq_hash {t e : TypeId} {i : TypeInfo} (ht : P.underlying t = some (.array 32 e)) (hu : P.underlying e = some (.int .u8)) (hi : P.info? e = some i) (hc : P.cellsOf e = 1)
    (l m : List UInt8) (hl : l.length = 32) (hm : m.length = 32) : (binOp .neq t (.agg (HC l)) (.agg (HC m))).run P w = .ok (.bool (!(l == m))) w := by
  rw [HC_ints, HC_ints, run_neq_ints w ht hu hi hc _ _ (by simpa using hl) (by simpa using hm), Bt_list]
theorem run_eql_words {t e : TypeId} {i : TypeInfo} (ht : P.underlying t = some (.array 5 e)) (hu : P.underlying e = some (.int .u64)) (hi : P.info? e = some i) (hc : P.cellsOf e = 1)
    (x y : W5) : (binOp .eql t (V5 x) (V5 y)).run P w = .ok (.bool (decide (x = y))) w := by
  have := run_eql_ints w ht hu hi hc [U x.a, U x.b, U x.c, U x.d, U x.e] [U y.a, U y.b, U y.c, U y.d, U y.e] rfl rfl
  refine Eq.trans this ?_
  congr 3
  apply propext
  constructor
  · intro h
    obtain ⟨a, b, c, d, e'⟩ := x
    obtain ⟨a', b', c', d', e''⟩ := y
    simp only [List.cons.injEq, and_true] at h
    rw [U_inj h.1, U_inj h.2.1, U_inj h.2.2.1, U_inj h.2.2.2.1, U_inj h.2.2.2.2]
  · rintro rfl; rfl
theorem equal_words {t e : TypeId} {i : TypeInfo} (ht : P.underlying t = some (.array 5 e)) (hu : P.underlying e = some (.int .u64)) (hi : P.info? e = some i) (hc : P.cellsOf e = 1)
    (x y : W5) : (Op.equalIn 10000 t (V5 x) (V5 y)).run P w = .ok (decide (x = y)) w := by
  have h := run_eql_words w ht hu hi hc x y
  rw [V5, V5, run_eql_struct] at h
  rw [V5, V5]
  generalize (Op.equalIn 10000 t _ _).run P w = r at *
  cases r <;> simp_all
theorem equal_hash {t e : TypeId} {i : TypeInfo} (ht : P.underlying t = some (.array 32 e)) (hu : P.underlying e = some (.int .u8)) (hi : P.info? e = some i) (hc : P.cellsOf e = 1)
    (l m : List UInt8) (hl : l.length = 32) (hm : m.length = 32) : (Op.equalIn 10000 t (.agg (HC l)) (.agg (HC m))).run P w = .ok (l == m) w := by
  have h := run_eql_hash w ht hu hi hc l m hl hm
  rw [run_eql_struct] at h
  generalize (Op.equalIn 10000 t _ _).run P w = r at *
  cases r <;> simp_all
end
end Go.Proofs.Ytbgdlggobbiibaa

/-
  '==' on sums, as this program numbers them.
-/
namespace Go.Proofs.Ytbgdlggobbiibaa
set_option maxRecDepth 100000
open Go.RowKit

theorem infoe8 : ∃ i, Try.prog.info? 5 = some i := by
  obtain ⟨i, hi, _⟩ := info_parts info8
  exact ⟨i, hi⟩

theorem eqh_guard (w : World) (o : BinOp) (p q : Operand) (x y : List UInt8) : (eqGuard o 28 p q (HV x) (HV y)).run Try.prog w = .ok () w :=
  run_eqGuard_agg w o 28 p q _ _ (by kernel_rfl)
theorem eqh (w : World) (x y : List UInt8) (hx : x.length = 32) (hy : y.length = 32) : (binOp .eql 28 (HV x) (HV y)).run Try.prog w = .ok (.bool (x == y)) w := by
  obtain ⟨i, hi⟩ := infoe8
  exact run_eql_hash w Try.underlying28 Try.underlying5 hi (by kernel_rfl) x y hx hy
theorem neh (w : World) (x y : List UInt8) (hx : x.length = 32) (hy : y.length = 32) : (binOp .neq 28 (HV x) (HV y)).run Try.prog w = .ok (.bool (!(x == y))) w := by
  obtain ⟨i, hi⟩ := infoe8
  exact run_neq_hash w Try.underlying28 Try.underlying5 hi (by kernel_rfl) x y hx hy
end Go.Proofs.Ytbgdlggobbiibaa

/-
  The laws over package pair: keys' numbers, what the laws take for known.
-/
namespace Go.Proofs.Ytbgdlggobbiibaa
set_option maxRecDepth 100000
open Go.RowKit Pm
set_option linter.unusedVariables false
set_option linter.unusedSimpArgs false
attribute [local go_sem] eqh_guard

/-- a sum's secret number -/
def keyS (h : List UInt8) : Int := U (numN h 8) % 1073741788 + 1
theorem keyS_bd (h : List UInt8) : 1 ≤ keyS h ∧ keyS h < 1073741789 := by
  have hbd := U_bd (numN h 8)
  unfold keyS
  omega
/-- one, and thirty-one noughts -/
def one32 : Array Value := #[.int .u8 1, .int .u8 0, .int .u8 0, .int .u8 0, .int .u8 0, .int .u8 0, .int .u8 0, .int .u8 0, .int .u8 0, .int .u8 0, .int .u8 0, .int .u8 0, .int .u8 0, .int .u8 0, .int .u8 0, .int .u8 0, .int .u8 0,
  .int .u8 0, .int .u8 0, .int .u8 0, .int .u8 0, .int .u8 0, .int .u8 0, .int .u8 0, .int .u8 0, .int .u8 0, .int .u8 0, .int .u8 0, .int .u8 0, .int .u8 0, .int .u8 0, .int .u8 0]
def ones : List UInt8 := 1 :: List.replicate 31 0
theorem one32_HC : one32 = HC ones := by rfl

end Go.Proofs.Ytbgdlggobbiibaa

/-
  Keys in whichever state: what each method does to it, in one contract each.
-/
namespace Go.Proofs.Ytbgdlggobbiibaa
set_option maxRecDepth 100000
open Go.RowKit Pm
set_option linter.unusedVariables false
set_option linter.unusedSimpArgs false

/-- a key: its secret number, whether its public number was worked out, its uses -/
def CD (s : Int) (d : Bool) (us : Int) : Array Value := CK s (if d then 1 else 0) (if d then powI 4 s else 0) (if d then 1 else 0) us
/-- what is shared, or noughts -/
def shW (p s : Int) : List UInt8 := if isI p then shareW p s else List.replicate 32 0
theorem shW_length (p s : Int) : (shW p s).length = 32 := by
  unfold shW
  split
  · exact shareW_length _ _
  · rfl
def cnt (b : Bool) : Int := if b then 1 else 0
theorem cnt_bd (b : Bool) : 0 ≤ cnt b ∧ cnt b ≤ 1 := by cases b <;> simp [cnt]

end Go.Proofs.Ytbgdlggobbiibaa

/-
  Sums, keys: what was walked of them, as the machine without memory calls it.
-/
namespace Go.Proofs.Ytbgdlggobbiibaa
set_option maxRecDepth 100000
open Go.RowKit Pm
set_option linter.unusedVariables false
set_option linter.unusedSimpArgs false

/-- one row of bytes that is handed in -/
def rowK : A → (List UInt8 → Prop) → Prop
  | .row n [.bytes m b], K => n = m ∧ K b
  | .row 0 [], K => K []
  | .v (.slice none 0 0), K => K []
  | _, _ => False
def listK : List A → (List (List UInt8) → Prop) → Prop
  | [], K => K []
  | a :: r, K => rowK a fun b => listK r fun L => K (b :: L)
/-- rows of bytes that are handed in -/
def rowsOfK : A → (List (List UInt8) → Prop) → Prop
  | .row n [.gen m rs], K => n = m ∧ listK rs K
  | .v (.slice none 0 0), K => K []
  | _, _ => False
theorem rowK_spec {x : A} {K : List UInt8 → Prop} (h : rowK x K) : ∃ b, K b ∧ ∀ {S : Nat → Prop} {w : World} {v : Value}, RA S w x v → ∃ a n c, v = .slice a n c ∧ Row8 w a n b ∧ (a = none → c = 0) := by
  unfold rowK at h
  split at h
  · next n m b =>
    obtain ⟨rfl, h⟩ := h
    refine ⟨b, h, fun {S w v} hv => ?_⟩
    cases hv with
    | row k1 k2 k3 k4 k5 =>
      rename_i c cs ad
      obtain ⟨e1, e2⟩ := k1.toBytes
      refine ⟨ad, _, c, rfl, ⟨e1.symm, by rw [e1]; exact Nat.le_trans k2 k3, ?_⟩, k4⟩
      rcases k5 with k5 | ⟨q, o', k6, _, _, k7⟩
      · left; rw [e2] at k5; exact List.map_eq_nil_iff.1 k5
      · refine .inr ⟨q, o', k6, fun i hi => ?_⟩
        subst e2
        rw [k7 i (by simpa [HL] using hi)]
        simp [HL]
  · refine ⟨[], h, fun {S w v} hv => ?_⟩
    cases hv with
    | row k1 k2 k3 k4 k5 => exact ⟨_, _, _, rfl, Row8.nil _ _, k4⟩
  · refine ⟨[], h, fun {S w v} hv => ?_⟩
    rw [RA.plain hv]
    exact ⟨none, 0, 0, rfl, Row8.nil _ _, fun _ => rfl⟩
  · exact h.elim
theorem listK_spec : ∀ {l : List A} {K : List (List UInt8) → Prop}, listK l K → ∃ L, K L ∧ L.length = l.length ∧ ∀ {S : Nat → Prop} {w : World} {vs : List Value}, RG S w l vs → ∀ (i : Nat) (h : i < L.length), ∃ a n c, vs[i]? = some (.slice a n c) ∧ Row8 w a n L[i] ∧ (a = none → c = 0)
  | [], K, h => ⟨[], h, rfl, fun _ i hi => by simp at hi⟩
  | a :: r, K, h => by
    obtain ⟨b, h1, h2⟩ := rowK_spec h
    obtain ⟨L, h3, h4, h5⟩ := listK_spec h1
    refine ⟨b :: L, h3, by simp [h4], fun {S w vs} hv i hi => ?_⟩
    cases hv with
    | cons k1 k2 k3 =>
      cases i with
      | zero =>
        obtain ⟨a', n, c, rfl, h6, h7⟩ := h2 k1
        exact ⟨a', n, c, rfl, h6, h7⟩
      | succ i => simpa using h5 k3 i (by simpa using hi)
theorem rowsOfK_spec {x : A} {K : List (List UInt8) → Prop} (h : rowsOfK x K) : ∃ L, K L ∧ ∀ {S : Nat → Prop} {w : World} {v : Value}, RA S w x v → ∃ a n c, v = .slice a n c ∧ RowR w a n L ∧ (a = none → c = 0) ∧
    (L = [] ∨ ∃ b off, a = some ⟨b, off, none⟩ ∧ ∀ (i : Nat) (h : i < L.length), ∃ a' l' c', w.cell? ⟨b, off + i, none⟩ = some (.slice a' l' c') ∧ Row8 w a' l' L[i] ∧ (a' = none → c' = 0)) := by
  unfold rowsOfK at h
  split at h
  · next n m rs =>
    obtain ⟨rfl, h⟩ := h
    obtain ⟨L, h1, h2, h3⟩ := listK_spec h
    refine ⟨L, h1, fun {S w v} hv => ?_⟩
    cases hv with
    | row k1 k2 k3 k4 k5 =>
      rename_i c cs ad
      obtain ⟨e1, e2⟩ := k1.toGen
      have hl : L.length = n := by rw [h2, e1]
      have key : L = [] ∨ ∃ b off, ad = some ⟨b, off, none⟩ ∧ ∀ (i : Nat) (h : i < L.length), ∃ a' l' c', w.cell? ⟨b, off + i, none⟩ = some (.slice a' l' c') ∧ Row8 w a' l' L[i] ∧ (a' = none → c' = 0) := by
        rcases k5 with k5 | ⟨q, o', k6, _, _, k7⟩
        · left
          have := e2.len
          rw [k5] at this
          exact List.length_eq_zero_iff.1 (by rw [h2]; exact this.symm)
        · refine .inr ⟨q, o', k6, fun i hi => ?_⟩
          obtain ⟨a', l', c', e3, e4, e5⟩ := h3 e2 i hi
          obtain ⟨e6, e7⟩ := List.getElem?_eq_some_iff.1 e3
          exact ⟨a', l', c', by rw [k7 i e6, e7], e4, e5⟩
      refine ⟨ad, _, c, rfl, ⟨hl.symm, by rw [hl]; exact Nat.le_trans k2 k3, ?_⟩, k4, key⟩
      rcases key with h0 | ⟨b, off, h4, h5⟩
      · exact .inl h0
      · exact .inr ⟨b, off, h4, fun i hi => by obtain ⟨a', l', c', e1, e2, _⟩ := h5 i hi; exact ⟨a', l', c', e1, e2⟩⟩
  · refine ⟨[], h, fun {S w v} hv => ?_⟩
    rw [RA.plain hv]
    exact ⟨none, 0, 0, rfl, ⟨rfl, by simp, .inl rfl⟩, fun _ => rfl, .inl rfl⟩
  · exact h.elim
theorem hash_of {S : Nat → Prop} {w : World} {h : List UInt8} {v : Value} (hv : RA S w (.agg [.bytes 32 h]) v) : v = HV h ∧ h.length = 32 := by
  cases hv with
  | agg k =>
    obtain ⟨e1, e2⟩ := k.toBytes
    subst e2
    exact ⟨rfl, e1⟩
theorem ra_hash {S : Nat → Prop} {w : World} {h : List UInt8} (hl : h.length = 32) : RA S w (.agg [.bytes 32 h]) (HV h) := .agg (.ofBytes hl rfl)
theorem ra_one {S : Nat → Prop} {w : World} {a : A} {vs : List Value} (h : RAs S w [a] vs) : ∃ v, vs = [v] ∧ RA S w a v := by
  cases h with | cons h r => cases r; exact ⟨_, rfl, h⟩
theorem ra_three {S : Nat → Prop} {w : World} {a b c : A} {vs : List Value} (h : RAs S w [a, b, c] vs) : ∃ x y z, vs = [x, y, z] ∧ RA S w a x ∧ RA S w b y ∧ RA S w c z := by
  cases h with | cons h r => cases r with | cons h2 r => cases r with | cons h3 r => cases r; exact ⟨_, _, _, rfl, h, h2, h3⟩

def deriveS : List A → (Res → Prop) → Prop
  | [.agg [.bytes 32 h], .v (.string s), x], K => s.size ≤ 1000000 ∧ rowsOfK x fun L => K (.d (.agg [.bytes 32 (deriveW h (sb s) L.flatten)]))
  | _, _ => False
def rderiveS : List A → (Res → Prop) → Prop
  | [.agg [.bytes 32 h], .v (.string s), x], K => s.size ≤ 1000000 ∧ rowK x fun b => b.length ≤ 100000000 ∧ K (.d (.agg [.bytes 32 (deriveW h (sb s) b)]))
  | _, _ => False
/-- a key's secret number, out of a sum -/
def scal (h : List UInt8) : Int := U (numN h 8) % 1073741788 + 1
theorem scal_bd (h : List UInt8) : 1 ≤ scal h ∧ scal h < 1073741789 := by
  unfold scal
  have := Int.emod_nonneg (U (numN h 8)) (show (1073741788 : Int) ≠ 0 by decide)
  have := Int.emod_lt_of_pos (U (numN h 8)) (show (0 : Int) < 1073741788 by decide)
  omega
def rfromS : List A → (Res → Prop) → Prop
  | [.agg [.bytes 32 h]], K => K (.d (.agg [.ints .i64 2 [scal h, powI 4 (scal h)]]))
  | _, _ => False
end Go.Proofs.Ytbgdlggobbiibaa

/-
  make([]byte, n). No program is named here.
-/
namespace Go.Proofs.Ytbgdlggobbiibaa
set_option maxRecDepth 100000
open Go.RowKit
set_option linter.unusedVariables false
set_option linter.unusedSimpArgs false

theorem made8 (n : Nat) : (madeCells (Value.int .u8 0).cells (n * 1)).toList = HL (List.replicate n 0) := by
  refine List.ext_getElem? fun i => ?_
  simp [madeCells, HL, Value.cells, List.getElem?_replicate]
  by_cases h : i < n
  · simp [h, Bt, Nat.mod_one]
  · simp [h]
theorem blk_of_own {w : World} {base g n : Nat} {e : TypeId} {bs : List UInt8} (h : w.ownsRow base e 1 (.slice (some ⟨g, 0, none⟩) n n) n (HL bs)) : Blk w g (HC bs) e := by
  rcases h.2 with ⟨h1, _⟩ | ⟨g', cap, cur, h1, _, h2, h3, _, h4, h5⟩
  · cases h1
  · injection h1 with h1 _ h6
    injection h1 with h1
    injection h1 with h1
    subst h1; subst h6
    have : cur = HC bs := by
      apply Array.toList_inj.1
      rw [HC_toList, ← h5, List.take_of_length_le (by simp [h4])]
    rw [← this]; exact h2
theorem mod8B (x : Int) : x % 256 = Bt (UInt8.ofNat (x % 256).toNat) := by
  unfold Bt
  rw [UInt8.toNat_ofNat']
  omega
end Go.Proofs.Ytbgdlggobbiibaa

/-
  Numbers and rows as bytes. No function is named here.
-/
namespace Go.Proofs.Ytbgdlggobbiibaa
set_option maxRecDepth 100000
open Go.RowKit
set_option linter.unusedVariables false

/-- a number's eight bytes -/
def numB (n : Int) : List UInt8 := [lowB n 56, lowB n 48, lowB n 40, lowB n 32, lowB n 24, lowB n 16, lowB n 8, lowB n 0]
theorem numB_length (n : Int) : (numB n).length = 8 := rfl
theorem numB_get (n : Int) (k : Nat) (h : k < 8) : (numB n)[k]? = some (lowB n (56 - 8 * k)) := by
  match k, h with
  | 0, _ => rfl
  | 1, _ => rfl
  | 2, _ => rfl
  | 3, _ => rfl
  | 4, _ => rfl
  | 5, _ => rfl
  | 6, _ => rfl
  | 7, _ => rfl
def partN (n : Int) (k : Nat) : List UInt8 := (numB n).take k ++ List.replicate (8 - k) 0
theorem partN_zero (n : Int) : partN n 0 = List.replicate 8 0 := rfl
theorem partN_all (n : Int) : partN n 8 = numB n := rfl
theorem partN_length (n : Int) (k : Nat) (h : k ≤ 8) : (partN n k).length = 8 := by simp [partN, numB_length]; omega
theorem partN_set (n : Int) (k : Nat) (h : k < 8) : (partN n k).set k (lowB n (56 - 8 * k)) = partN n (k + 1) := by
  match k, h with
  | 0, _ => rfl
  | 1, _ => rfl
  | 2, _ => rfl
  | 3, _ => rfl
  | 4, _ => rfl
  | 5, _ => rfl
  | 6, _ => rfl
  | 7, _ => rfl
theorem shift_factsR (k : Nat) (h : k ≤ 7) : IntKind.i64.wrap (8 * (k : Int)) = 8 * (k : Int) ∧ IntKind.i64.wrap (56 - 8 * (k : Int)) = 56 - 8 * (k : Int) ∧ 0 ≤ 56 - 8 * (k : Int) ∧ (56 - 8 * (k : Int)).toNat = 56 - 8 * k ∧ 56 - 8 * k ≤ 64 :=
  ⟨IntWalk.i64_in _ (by omega), IntWalk.i64_in _ (by omega), by omega, by omega, by omega⟩

/-- a row's length in two bytes -/
def rowHead (n : Nat) : List UInt8 := [UInt8.ofNat (n / 256), UInt8.ofNat n]
/-- rows as bytes, so many of them -/
def packP (L : List (List UInt8)) (k : Nat) : List UInt8 := UInt8.ofNat L.length :: (L.take k).flatMap fun p => rowHead p.length ++ p
def packW (L : List (List UInt8)) : List UInt8 := packP L L.length
def okRows (L : List (List UInt8)) : Bool := decide (L.length ≤ 60) && L.all fun p => decide (p.length ≤ 2000)
theorem packP_zero (L : List (List UInt8)) : packP L 0 = [UInt8.ofNat L.length] := by simp [packP]
theorem packP_succ (L : List (List UInt8)) (k : Nat) (h : k < L.length) : packP L (k + 1) = packP L k ++ rowHead L[k].length ++ L[k] := by
  unfold packP
  rw [List.take_add_one, List.getElem?_eq_getElem h, List.flatMap_append]
  simp
theorem Bt_ofNat (n : Nat) : Bt (UInt8.ofNat n) = (n : Int) % 256 := by
  unfold Bt
  rw [UInt8.toNat_ofNat']
  omega
theorem okRows_many {L : List (List UInt8)} (h : ¬ L.length ≤ 60) : okRows L = false := by unfold okRows; rw [decide_eq_false h]; rfl
theorem okRows_long {L : List (List UInt8)} (k : Nat) (hk : k < L.length) (h : ¬ L[k].length ≤ 2000) : okRows L = false := by
  unfold okRows
  rw [Bool.and_eq_false_iff]
  right
  rw [Bool.eq_false_iff]
  intro hall
  exact h (of_decide_eq_true (List.all_eq_true.1 hall L[k] (List.getElem_mem hk)))
theorem okRows_all {L : List (List UInt8)} (h1 : L.length ≤ 60) (h : ∀ (i : Nat) (hi : i < L.length), L[i].length ≤ 2000) : okRows L = true := by
  unfold okRows
  rw [decide_eq_true h1, Bool.true_and, List.all_eq_true]
  intro p hp
  obtain ⟨i, hi, rfl⟩ := List.getElem_of_mem hp
  exact decide_eq_true (h i hi)

/-- bytes as a number -/
def numK (b : List UInt8) : Nat := b.foldl (fun n c => n * 256 + c.toNat) 0
def isNum (b : List UInt8) : Bool := b.length == 8 && decide ((b.getD 0 0).toNat ≤ 127)
def numT (b : List UInt8) : Int := if isNum b then (numK b : Int) else 0
theorem numK_zero (b : List UInt8) : numK (b.take 0) = 0 := by simp [numK]
theorem numK_succ (b : List UInt8) (k : Nat) (h : k < b.length) : numK (b.take (k + 1)) = numK (b.take k) * 256 + b[k].toNat := by
  unfold numK
  rw [List.take_add_one, List.getElem?_eq_getElem h, List.foldl_append]
  simp
theorem numK_bd (b : List UInt8) (h0 : (b.getD 0 0).toNat ≤ 127) : ∀ (k : Nat), k < b.length → numK (b.take (k + 1)) < 128 * 256 ^ k
  | 0, h => by
    rw [numK_succ b 0 h, numK_zero]
    rw [List.getD_eq_getElem?_getD, List.getElem?_eq_getElem h] at h0
    simp at h0 ⊢
    omega
  | k + 1, h => by
    have ih := numK_bd b h0 k (by omega)
    rw [numK_succ b (k + 1) h]
    have hc := UInt8.toNat_lt b[k + 1]
    have e : 128 * 256 ^ (k + 1) = 128 * 256 ^ k * 256 := by rw [Nat.pow_succ, Nat.mul_assoc]
    rw [e]
    omega
theorem numK_lim (b : List UInt8) (h0 : (b.getD 0 0).toNat ≤ 127) (hl : b.length = 8) (k : Nat) (h : k < 8) : numK (b.take k) * 256 + 255 < 9223372036854775808 := by
  match k, h with
  | 0, _ => rw [numK_zero]; decide
  | k + 1, h =>
    have h1 := numK_bd b h0 k (by omega)
    have h2 : 256 ^ k ≤ 256 ^ 6 := Nat.pow_le_pow_right (by decide) (by omega)
    have e : (256 : Nat) ^ 6 = 281474976710656 := by decide
    rw [e] at h2
    omega
theorem or_join (a b : Nat) (hb : b < 256) (hs : a * 256 + b < 9223372036854775808) : bits .or .i64 ((a : Int) * 256) (b : Int) = ((a * 256 + b : Nat) : Int) := by
  have e1 : (a : Int) * 256 = ((a * 256 : Nat) : Int) := by omega
  rw [e1]
  show IntKind.i64.wrap ((BitVec.ofInt 64 ((a * 256 : Nat) : Int) ||| BitVec.ofInt 64 (b : Int)).toNat : Int) = _
  rw [BitVec.ofInt_natCast, BitVec.ofInt_natCast, BitVec.toNat_or, BitVec.toNat_ofNat, BitVec.toNat_ofNat, Nat.mod_eq_of_lt (by omega), Nat.mod_eq_of_lt (by omega)]
  have h := Nat.shiftLeft_add_eq_or_of_lt (show b < 2 ^ 8 by omega) a
  rw [Nat.shiftLeft_eq] at h
  have h2 : a * 256 ||| b = a * 256 + b := h.symm
  rw [h2, IntWalk.i64_in _ (by omega)]
end Go.Proofs.Ytbgdlggobbiibaa
