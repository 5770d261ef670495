/-
  The walks of the laws over package power.
-/
import Derived.Test.YtnaohmlekjehhaaPower
import Derived.Test.YtnaohmlekjehhaaPowerR
import Derived.Below
namespace Go.Proofs.Ytnaohmlekjehhaa
open Go.RowKit Pm
set_option linter.unusedVariables false

theorem known_pow (w : World) : Calls Try.prog 19 #[] w fun e w' => e = .returned (.bool true) ∧ w = w' := by
  have e1 := pow_4_3
  have e2 := is_4
  have e3 := is_1
  have e4 := mul_m1
  go_enter Try.func19, Try.ntmps19
  go_wp2_with (first
    | (go_at_call 15; refine (pow_any _ _ _).mono ?_; rintro e w' ⟨rfl, rfl⟩)
    | (go_at_call 17; refine (is_any _ _).mono ?_; rintro e w' ⟨rfl, rfl⟩)
    | (go_at_call 13; refine (mul_any _ _ _).mono ?_; rintro e w' ⟨rfl, rfl⟩))
  go_ret
  exact ⟨rfl, rfl⟩

theorem powerTells_walk (a : Int) (wa : (Lit.int .i64 a).wf = true) (b : Int) (wb : (Lit.int .i64 b).wf = true) (e : Int) (we : (Lit.int .i64 e).wf = true) (w : World) :
    Calls Try.prog 3 #[.int .i64 a, .int .i64 b, .int .i64 e] w fun e w' => e = .returned (.bool true) ∧ Below w.heap.size w w' := by
  clear wa wb we
  go_enter Try.func3, Try.ntmps3
  go_wp2_with (first | (go_at_call 15; refine (pow_any _ _ _).mono ?_; rintro e w' ⟨rfl, rfl⟩) | (go_at_call 17; refine (is_any _ _).mono ?_; rintro e w' ⟨rfl, rfl⟩) | (go_at_call 13; refine (mul_any _ _ _).mono ?_; rintro e w' ⟨rfl, rfl⟩) | (go_at_call 16; refine (rpow_any _ _ _).mono ?_; rintro e w' ⟨rfl, rfl⟩) | (go_at_call 18; refine (ris_any _ _).mono ?_; rintro e w' ⟨rfl, rfl⟩) | (go_at_call 14; refine (rmul_any _ _ _).mono ?_; rintro e w' ⟨rfl, rfl⟩) | (go_at_call 19; refine (known_pow _).mono ?_; rintro e w' ⟨rfl, rfl⟩))
  go_ret
  exact ⟨rfl, Below.refl _ _⟩

theorem adds_law (b d e : Int) (h0 : 0 ≤ b ∧ b < 2147483579) (h1 : 0 ≤ d ∧ d ≤ 536870894) (h2 : 0 ≤ e ∧ e ≤ 536870894) :
    mulI (powI b d) (powI b e) = powI b (d + e) ∧ powI (powI b d) 2 = powI b (2 * d) := by
  obtain ⟨b, rfl⟩ := Int.eq_ofNat_of_zero_le h0.1
  obtain ⟨d, rfl⟩ := Int.eq_ofNat_of_zero_le h1.1
  obtain ⟨e, rfl⟩ := Int.eq_ofNat_of_zero_le h2.1
  have hb : b < 2147483579 := Int.ofNat_lt.1 h0.2
  have hd : d ≤ 536870894 := Int.ofNat_le.1 h1.2
  have he : e ≤ 536870894 := Int.ofNat_le.1 h2.2
  rw [powI_nat b d hb (by omega), powI_nat b e hb (by omega), mulI_nat _ _ (pw_lt _ _) (pw_lt _ _), pw_add]
  rw [show ((d : Int) + (e : Int)) = ((d + e : Nat) : Int) from rfl, powI_nat b (d + e) hb (by omega)]
  rw [show powI (pw b d : Int) 2 = (pw (pw b d) 2 : Int) from powI_nat _ 2 (pw_lt _ _) (by decide), pw_pw]
  rw [show ((2 : Int) * (d : Int)) = ((2 * d : Nat) : Int) from rfl, powI_nat b (2 * d) hb (by omega), Nat.mul_comm d 2]
  exact ⟨rfl, rfl⟩

theorem powerAdds_walk (b : Int) (wb : (Lit.int .i64 b).wf = true) (d : Int) (wd : (Lit.int .i64 d).wf = true) (e : Int) (we : (Lit.int .i64 e).wf = true) (w : World) :
    Calls Try.prog 5 #[.int .i64 b, .int .i64 d, .int .i64 e] w fun e w' => e = .returned (.bool true) ∧ Below w.heap.size w w' := by
  clear wb wd we
  by_cases h1 : b < 0
  · go_enter Try.func5, Try.ntmps5
    go_wp2
    go_ret
    exact ⟨rfl, Below.refl _ _⟩
  · by_cases h2 : 2147483579 ≤ b
    · go_enter Try.func5, Try.ntmps5
      go_wp2
      go_ret
      exact ⟨rfl, Below.refl _ _⟩
    · by_cases h3 : d < 0
      · go_enter Try.func5, Try.ntmps5
        go_wp2
        go_ret
        exact ⟨rfl, Below.refl _ _⟩
      · by_cases h4 : e < 0
        · go_enter Try.func5, Try.ntmps5
          go_wp2
          go_ret
          exact ⟨rfl, Below.refl _ _⟩
        · by_cases h5 : 536870894 < d
          · go_enter Try.func5, Try.ntmps5
            go_wp2
            go_ret
            exact ⟨rfl, Below.refl _ _⟩
          · by_cases h6 : 536870894 < e
            · go_enter Try.func5, Try.ntmps5
              go_wp2
              go_ret
              exact ⟨rfl, Below.refl _ _⟩
            · obtain ⟨q1, q2⟩ := adds_law b d e ⟨by omega, by omega⟩ ⟨by omega, by omega⟩ ⟨by omega, by omega⟩
              have t1 := beq_t q1
              have t2 := beq_t q2
              clear q1 q2
              go_enter Try.func5, Try.ntmps5
              go_wp2_with (first | (go_at_call 15; refine (pow_any _ _ _).mono ?_; rintro e w' ⟨rfl, rfl⟩) | (go_at_call 17; refine (is_any _ _).mono ?_; rintro e w' ⟨rfl, rfl⟩) | (go_at_call 13; refine (mul_any _ _ _).mono ?_; rintro e w' ⟨rfl, rfl⟩) | (go_at_call 16; refine (rpow_any _ _ _).mono ?_; rintro e w' ⟨rfl, rfl⟩) | (go_at_call 18; refine (ris_any _ _).mono ?_; rintro e w' ⟨rfl, rfl⟩) | (go_at_call 14; refine (rmul_any _ _ _).mono ?_; rintro e w' ⟨rfl, rfl⟩) | (go_at_call 19; refine (known_pow _).mono ?_; rintro e w' ⟨rfl, rfl⟩))
              go_ret
              exact ⟨rfl, Below.refl _ _⟩

theorem round_law (e : Int) (h : 1 ≤ e ∧ e < 1073741789) : isI (powI 4 e) = true ∧ powI (powI 4 e) 1073741789 = 1 ∧ mulI (powI 4 e) (powI 4 (1073741789 - e)) = 1 := by
  obtain ⟨e, rfl⟩ := Int.eq_ofNat_of_zero_le (show 0 ≤ e by omega)
  have h1 : 1 ≤ e := Int.ofNat_le.1 h.1
  have h2 : e < 1073741789 := Int.ofNat_lt.1 h.2
  rw [show powI 4 (e : Int) = (pw 4 e : Int) from powI_nat 4 e (by decide) (by omega)]
  refine ⟨isI_four e h1 h2, ?_, ?_⟩
  · rw [show powI (pw 4 e : Int) 1073741789 = (pw (pw 4 e) 1073741789 : Int) from powI_nat _ 1073741789 (pw_lt _ _) (by decide), four_all]; rfl
  · rw [show (1073741789 - (e : Int)) = ((1073741789 - e : Nat) : Int) by omega, show powI 4 ((1073741789 - e : Nat) : Int) = (pw 4 (1073741789 - e) : Int) from powI_nat 4 _ (by decide) (by omega), mulI_nat _ _ (pw_lt _ _) (pw_lt _ _), pw_add,
      show e + (1073741789 - e) = 1073741789 by omega, four_Q]; rfl

theorem powerRound_walk (e : Int) (we : (Lit.int .i64 e).wf = true) (w : World) :
    Calls Try.prog 6 #[.int .i64 e] w fun e w' => e = .returned (.bool true) ∧ Below w.heap.size w w' := by
  clear we
  by_cases h1 : e < 1
  · go_enter Try.func6, Try.ntmps6
    go_wp2
    go_ret
    exact ⟨rfl, Below.refl _ _⟩
  · by_cases h2 : 1073741789 ≤ e
    · go_enter Try.func6, Try.ntmps6
      go_wp2
      go_ret
      exact ⟨rfl, Below.refl _ _⟩
    · obtain ⟨q1, q2, q3⟩ := round_law e ⟨by omega, by omega⟩
      have q4 := beq_t pow_4_Q
      have t2 := beq_t q2
      have t3 := beq_t q3
      clear q2 q3
      go_enter Try.func6, Try.ntmps6
      go_wp2_with (first | (go_at_call 15; refine (pow_any _ _ _).mono ?_; rintro e w' ⟨rfl, rfl⟩) | (go_at_call 17; refine (is_any _ _).mono ?_; rintro e w' ⟨rfl, rfl⟩) | (go_at_call 13; refine (mul_any _ _ _).mono ?_; rintro e w' ⟨rfl, rfl⟩) | (go_at_call 16; refine (rpow_any _ _ _).mono ?_; rintro e w' ⟨rfl, rfl⟩) | (go_at_call 18; refine (ris_any _ _).mono ?_; rintro e w' ⟨rfl, rfl⟩) | (go_at_call 14; refine (rmul_any _ _ _).mono ?_; rintro e w' ⟨rfl, rfl⟩) | (go_at_call 19; refine (known_pow _).mono ?_; rintro e w' ⟨rfl, rfl⟩))
      go_ret
      exact ⟨rfl, Below.refl _ _⟩

theorem mul_laws (a b c : Int) (h0 : 0 ≤ a ∧ a < 2147483579) (h1 : 0 ≤ b ∧ b < 2147483579) (h2 : 0 ≤ c ∧ c < 2147483579) :
    mulI a b = mulI b a ∧ mulI (mulI a b) c = mulI a (mulI b c) ∧ mulI a 1 = a ∧ mulI a 0 = 0 := by
  obtain ⟨a, rfl⟩ := Int.eq_ofNat_of_zero_le h0.1
  obtain ⟨b, rfl⟩ := Int.eq_ofNat_of_zero_le h1.1
  obtain ⟨c, rfl⟩ := Int.eq_ofNat_of_zero_le h2.1
  have ha : a < 2147483579 := Int.ofNat_lt.1 h0.2
  have hb : b < 2147483579 := Int.ofNat_lt.1 h1.2
  have hc : c < 2147483579 := Int.ofNat_lt.1 h2.2
  have m0 : ∀ x : Nat, x % 2147483579 < 2147483579 := fun x => Nat.mod_lt _ (by decide)
  refine ⟨?_, ?_, ?_, ?_⟩
  · rw [mulI_nat a b ha hb, mulI_nat b a hb ha, Nat.mul_comm]
  · rw [mulI_nat a b ha hb, mulI_nat b c hb hc, mulI_nat _ c (m0 _) hc, mulI_nat a _ ha (m0 _), Nat.mod_mul_mod, Nat.mul_mod_mod, Nat.mul_assoc]
  · rw [show mulI (a : Int) 1 = ((a * 1 % 2147483579 : Nat) : Int) from mulI_nat a 1 ha (by decide), Nat.mul_one, Nat.mod_eq_of_lt ha]
  · rw [show mulI (a : Int) 0 = ((a * 0 % 2147483579 : Nat) : Int) from mulI_nat a 0 ha (by decide), Nat.mul_zero, Nat.zero_mod]; rfl

theorem powerMul_out (a b c : Int) (w : World) (h : ¬ (0 ≤ a ∧ a < 2147483579 ∧ 0 ≤ b ∧ b < 2147483579 ∧ 0 ≤ c ∧ c < 2147483579)) :
    Calls Try.prog 7 #[.int .i64 a, .int .i64 b, .int .i64 c] w fun e w' => e = .returned (.bool true) ∧ Below w.heap.size w w' := by
  by_cases h1 : a < 0
  · clear h
    go_enter Try.func7, Try.ntmps7
    go_wp2_with (first | (go_at_call 15; refine (pow_any _ _ _).mono ?_; rintro e w' ⟨rfl, rfl⟩) | (go_at_call 17; refine (is_any _ _).mono ?_; rintro e w' ⟨rfl, rfl⟩) | (go_at_call 13; refine (mul_any _ _ _).mono ?_; rintro e w' ⟨rfl, rfl⟩) | (go_at_call 16; refine (rpow_any _ _ _).mono ?_; rintro e w' ⟨rfl, rfl⟩) | (go_at_call 18; refine (ris_any _ _).mono ?_; rintro e w' ⟨rfl, rfl⟩) | (go_at_call 14; refine (rmul_any _ _ _).mono ?_; rintro e w' ⟨rfl, rfl⟩) | (go_at_call 19; refine (known_pow _).mono ?_; rintro e w' ⟨rfl, rfl⟩))
    go_ret
    exact ⟨rfl, Below.refl _ _⟩
  · by_cases h2 : 2147483579 ≤ a
    · clear h
      go_enter Try.func7, Try.ntmps7
      go_wp2_with (first | (go_at_call 15; refine (pow_any _ _ _).mono ?_; rintro e w' ⟨rfl, rfl⟩) | (go_at_call 17; refine (is_any _ _).mono ?_; rintro e w' ⟨rfl, rfl⟩) | (go_at_call 13; refine (mul_any _ _ _).mono ?_; rintro e w' ⟨rfl, rfl⟩) | (go_at_call 16; refine (rpow_any _ _ _).mono ?_; rintro e w' ⟨rfl, rfl⟩) | (go_at_call 18; refine (ris_any _ _).mono ?_; rintro e w' ⟨rfl, rfl⟩) | (go_at_call 14; refine (rmul_any _ _ _).mono ?_; rintro e w' ⟨rfl, rfl⟩) | (go_at_call 19; refine (known_pow _).mono ?_; rintro e w' ⟨rfl, rfl⟩))
      go_ret
      exact ⟨rfl, Below.refl _ _⟩
    · by_cases h3 : b < 0
      · clear h
        go_enter Try.func7, Try.ntmps7
        go_wp2_with (first | (go_at_call 15; refine (pow_any _ _ _).mono ?_; rintro e w' ⟨rfl, rfl⟩) | (go_at_call 17; refine (is_any _ _).mono ?_; rintro e w' ⟨rfl, rfl⟩) | (go_at_call 13; refine (mul_any _ _ _).mono ?_; rintro e w' ⟨rfl, rfl⟩) | (go_at_call 16; refine (rpow_any _ _ _).mono ?_; rintro e w' ⟨rfl, rfl⟩) | (go_at_call 18; refine (ris_any _ _).mono ?_; rintro e w' ⟨rfl, rfl⟩) | (go_at_call 14; refine (rmul_any _ _ _).mono ?_; rintro e w' ⟨rfl, rfl⟩) | (go_at_call 19; refine (known_pow _).mono ?_; rintro e w' ⟨rfl, rfl⟩))
        go_ret
        exact ⟨rfl, Below.refl _ _⟩
      · by_cases h4 : 2147483579 ≤ b
        · clear h
          go_enter Try.func7, Try.ntmps7
          go_wp2_with (first | (go_at_call 15; refine (pow_any _ _ _).mono ?_; rintro e w' ⟨rfl, rfl⟩) | (go_at_call 17; refine (is_any _ _).mono ?_; rintro e w' ⟨rfl, rfl⟩) | (go_at_call 13; refine (mul_any _ _ _).mono ?_; rintro e w' ⟨rfl, rfl⟩) | (go_at_call 16; refine (rpow_any _ _ _).mono ?_; rintro e w' ⟨rfl, rfl⟩) | (go_at_call 18; refine (ris_any _ _).mono ?_; rintro e w' ⟨rfl, rfl⟩) | (go_at_call 14; refine (rmul_any _ _ _).mono ?_; rintro e w' ⟨rfl, rfl⟩) | (go_at_call 19; refine (known_pow _).mono ?_; rintro e w' ⟨rfl, rfl⟩))
          go_ret
          exact ⟨rfl, Below.refl _ _⟩
        · by_cases h5 : c < 0
          · clear h
            go_enter Try.func7, Try.ntmps7
            go_wp2_with (first | (go_at_call 15; refine (pow_any _ _ _).mono ?_; rintro e w' ⟨rfl, rfl⟩) | (go_at_call 17; refine (is_any _ _).mono ?_; rintro e w' ⟨rfl, rfl⟩) | (go_at_call 13; refine (mul_any _ _ _).mono ?_; rintro e w' ⟨rfl, rfl⟩) | (go_at_call 16; refine (rpow_any _ _ _).mono ?_; rintro e w' ⟨rfl, rfl⟩) | (go_at_call 18; refine (ris_any _ _).mono ?_; rintro e w' ⟨rfl, rfl⟩) | (go_at_call 14; refine (rmul_any _ _ _).mono ?_; rintro e w' ⟨rfl, rfl⟩) | (go_at_call 19; refine (known_pow _).mono ?_; rintro e w' ⟨rfl, rfl⟩))
            go_ret
            exact ⟨rfl, Below.refl _ _⟩
          · have h6 : 2147483579 ≤ c := by omega
            clear h
            go_enter Try.func7, Try.ntmps7
            go_wp2_with (first | (go_at_call 15; refine (pow_any _ _ _).mono ?_; rintro e w' ⟨rfl, rfl⟩) | (go_at_call 17; refine (is_any _ _).mono ?_; rintro e w' ⟨rfl, rfl⟩) | (go_at_call 13; refine (mul_any _ _ _).mono ?_; rintro e w' ⟨rfl, rfl⟩) | (go_at_call 16; refine (rpow_any _ _ _).mono ?_; rintro e w' ⟨rfl, rfl⟩) | (go_at_call 18; refine (ris_any _ _).mono ?_; rintro e w' ⟨rfl, rfl⟩) | (go_at_call 14; refine (rmul_any _ _ _).mono ?_; rintro e w' ⟨rfl, rfl⟩) | (go_at_call 19; refine (known_pow _).mono ?_; rintro e w' ⟨rfl, rfl⟩))
            go_ret
            exact ⟨rfl, Below.refl _ _⟩

theorem powerMul_walk (a : Int) (wa : (Lit.int .i64 a).wf = true) (b : Int) (wb : (Lit.int .i64 b).wf = true) (c : Int) (wc : (Lit.int .i64 c).wf = true) (w : World) :
    Calls Try.prog 7 #[.int .i64 a, .int .i64 b, .int .i64 c] w fun e w' => e = .returned (.bool true) ∧ Below w.heap.size w w' := by
  clear wa wb wc
  by_cases h : 0 ≤ a ∧ a < 2147483579 ∧ 0 ≤ b ∧ b < 2147483579 ∧ 0 ≤ c ∧ c < 2147483579
  · obtain ⟨q1, q2, q3, q4⟩ := mul_laws a b c ⟨h.1, h.2.1⟩ ⟨h.2.2.1, h.2.2.2.1⟩ h.2.2.2.2
    have t1 := beq_t q1
    have t2 := beq_t q2
    have t3 := beq_t q3
    have t4 := beq_t q4
    clear q1 q2 q3 q4
    obtain ⟨a0, a1, b0, b1, c0, c1⟩ := h
    go_enter Try.func7, Try.ntmps7
    go_wp2_with (first | (go_at_call 15; refine (pow_any _ _ _).mono ?_; rintro e w' ⟨rfl, rfl⟩) | (go_at_call 17; refine (is_any _ _).mono ?_; rintro e w' ⟨rfl, rfl⟩) | (go_at_call 13; refine (mul_any _ _ _).mono ?_; rintro e w' ⟨rfl, rfl⟩) | (go_at_call 16; refine (rpow_any _ _ _).mono ?_; rintro e w' ⟨rfl, rfl⟩) | (go_at_call 18; refine (ris_any _ _).mono ?_; rintro e w' ⟨rfl, rfl⟩) | (go_at_call 14; refine (rmul_any _ _ _).mono ?_; rintro e w' ⟨rfl, rfl⟩) | (go_at_call 19; refine (known_pow _).mono ?_; rintro e w' ⟨rfl, rfl⟩))
    go_ret
    exact ⟨rfl, Below.refl _ _⟩
  · exact powerMul_out a b c w h

theorem powerBounds_walk (a : Int) (wa : (Lit.int .i64 a).wf = true) (e : Int) (we : (Lit.int .i64 e).wf = true) (w : World) :
    Calls Try.prog 8 #[.int .i64 a, .int .i64 e] w fun e w' => e = .returned (.bool true) ∧ Below w.heap.size w w' := by
  clear wa we
  have k1 := beq_t pow_5_0
  have k2 := beq_t pow_0_0
  have out : ¬ (0 ≤ a ∧ a < 2147483579) → (mulI a 1 != 0) = false ∧ (mulI 1 a != 0) = false ∧ (powI a 1 != 0) = false ∧ isI a = false := fun h =>
    ⟨bne_f (mulI_out _ _ fun h' => h ⟨h'.1, h'.2.1⟩), bne_f (mulI_out _ _ fun h' => h h'.2.2), bne_f (powI_out _ _ fun h' => h ⟨h'.1, h'.2.1⟩), isI_out _ h⟩
  have OUT := Lib.hid out; clear out
  have oute : ¬ (0 ≤ e ∧ e ≤ 1073741789) → (powI 2 e != 0) = false := fun h => bne_f (powI_out _ _ fun h' => h h'.2.2)
  have OUTE := Lib.hid oute; clear oute
  by_cases e1 : e < 0
  · have x1 := OUTE.out (by omega)
    by_cases h1 : a < 0
    · obtain ⟨o1, o2, o3, o4⟩ := OUT.out (by omega)
      go_enter Try.func8, Try.ntmps8
      go_wp2_with (first | (go_at_call 15; refine (pow_any _ _ _).mono ?_; rintro e w' ⟨rfl, rfl⟩) | (go_at_call 17; refine (is_any _ _).mono ?_; rintro e w' ⟨rfl, rfl⟩) | (go_at_call 13; refine (mul_any _ _ _).mono ?_; rintro e w' ⟨rfl, rfl⟩) | (go_at_call 16; refine (rpow_any _ _ _).mono ?_; rintro e w' ⟨rfl, rfl⟩) | (go_at_call 18; refine (ris_any _ _).mono ?_; rintro e w' ⟨rfl, rfl⟩) | (go_at_call 14; refine (rmul_any _ _ _).mono ?_; rintro e w' ⟨rfl, rfl⟩) | (go_at_call 19; refine (known_pow _).mono ?_; rintro e w' ⟨rfl, rfl⟩))
      go_ret
      exact ⟨rfl, Below.refl _ _⟩
    · by_cases h2 : a < 2147483579
      · go_enter Try.func8, Try.ntmps8
        go_wp2_with (first | (go_at_call 15; refine (pow_any _ _ _).mono ?_; rintro e w' ⟨rfl, rfl⟩) | (go_at_call 17; refine (is_any _ _).mono ?_; rintro e w' ⟨rfl, rfl⟩) | (go_at_call 13; refine (mul_any _ _ _).mono ?_; rintro e w' ⟨rfl, rfl⟩) | (go_at_call 16; refine (rpow_any _ _ _).mono ?_; rintro e w' ⟨rfl, rfl⟩) | (go_at_call 18; refine (ris_any _ _).mono ?_; rintro e w' ⟨rfl, rfl⟩) | (go_at_call 14; refine (rmul_any _ _ _).mono ?_; rintro e w' ⟨rfl, rfl⟩) | (go_at_call 19; refine (known_pow _).mono ?_; rintro e w' ⟨rfl, rfl⟩))
        go_ret
        exact ⟨rfl, Below.refl _ _⟩
      · obtain ⟨o1, o2, o3, o4⟩ := OUT.out (by omega)
        go_enter Try.func8, Try.ntmps8
        go_wp2_with (first | (go_at_call 15; refine (pow_any _ _ _).mono ?_; rintro e w' ⟨rfl, rfl⟩) | (go_at_call 17; refine (is_any _ _).mono ?_; rintro e w' ⟨rfl, rfl⟩) | (go_at_call 13; refine (mul_any _ _ _).mono ?_; rintro e w' ⟨rfl, rfl⟩) | (go_at_call 16; refine (rpow_any _ _ _).mono ?_; rintro e w' ⟨rfl, rfl⟩) | (go_at_call 18; refine (ris_any _ _).mono ?_; rintro e w' ⟨rfl, rfl⟩) | (go_at_call 14; refine (rmul_any _ _ _).mono ?_; rintro e w' ⟨rfl, rfl⟩) | (go_at_call 19; refine (known_pow _).mono ?_; rintro e w' ⟨rfl, rfl⟩))
        go_ret
        exact ⟨rfl, Below.refl _ _⟩
  · by_cases e2 : 1073741789 < e
    · have x1 := OUTE.out (by omega)
      by_cases h1 : a < 0
      · obtain ⟨o1, o2, o3, o4⟩ := OUT.out (by omega)
        go_enter Try.func8, Try.ntmps8
        go_wp2_with (first | (go_at_call 15; refine (pow_any _ _ _).mono ?_; rintro e w' ⟨rfl, rfl⟩) | (go_at_call 17; refine (is_any _ _).mono ?_; rintro e w' ⟨rfl, rfl⟩) | (go_at_call 13; refine (mul_any _ _ _).mono ?_; rintro e w' ⟨rfl, rfl⟩) | (go_at_call 16; refine (rpow_any _ _ _).mono ?_; rintro e w' ⟨rfl, rfl⟩) | (go_at_call 18; refine (ris_any _ _).mono ?_; rintro e w' ⟨rfl, rfl⟩) | (go_at_call 14; refine (rmul_any _ _ _).mono ?_; rintro e w' ⟨rfl, rfl⟩) | (go_at_call 19; refine (known_pow _).mono ?_; rintro e w' ⟨rfl, rfl⟩))
        go_ret
        exact ⟨rfl, Below.refl _ _⟩
      · by_cases h2 : a < 2147483579
        · go_enter Try.func8, Try.ntmps8
          go_wp2_with (first | (go_at_call 15; refine (pow_any _ _ _).mono ?_; rintro e w' ⟨rfl, rfl⟩) | (go_at_call 17; refine (is_any _ _).mono ?_; rintro e w' ⟨rfl, rfl⟩) | (go_at_call 13; refine (mul_any _ _ _).mono ?_; rintro e w' ⟨rfl, rfl⟩) | (go_at_call 16; refine (rpow_any _ _ _).mono ?_; rintro e w' ⟨rfl, rfl⟩) | (go_at_call 18; refine (ris_any _ _).mono ?_; rintro e w' ⟨rfl, rfl⟩) | (go_at_call 14; refine (rmul_any _ _ _).mono ?_; rintro e w' ⟨rfl, rfl⟩) | (go_at_call 19; refine (known_pow _).mono ?_; rintro e w' ⟨rfl, rfl⟩))
          go_ret
          exact ⟨rfl, Below.refl _ _⟩
        · obtain ⟨o1, o2, o3, o4⟩ := OUT.out (by omega)
          go_enter Try.func8, Try.ntmps8
          go_wp2_with (first | (go_at_call 15; refine (pow_any _ _ _).mono ?_; rintro e w' ⟨rfl, rfl⟩) | (go_at_call 17; refine (is_any _ _).mono ?_; rintro e w' ⟨rfl, rfl⟩) | (go_at_call 13; refine (mul_any _ _ _).mono ?_; rintro e w' ⟨rfl, rfl⟩) | (go_at_call 16; refine (rpow_any _ _ _).mono ?_; rintro e w' ⟨rfl, rfl⟩) | (go_at_call 18; refine (ris_any _ _).mono ?_; rintro e w' ⟨rfl, rfl⟩) | (go_at_call 14; refine (rmul_any _ _ _).mono ?_; rintro e w' ⟨rfl, rfl⟩) | (go_at_call 19; refine (known_pow _).mono ?_; rintro e w' ⟨rfl, rfl⟩))
          go_ret
          exact ⟨rfl, Below.refl _ _⟩
    · by_cases h1 : a < 0
      · obtain ⟨o1, o2, o3, o4⟩ := OUT.out (by omega)
        go_enter Try.func8, Try.ntmps8
        go_wp2_with (first | (go_at_call 15; refine (pow_any _ _ _).mono ?_; rintro e w' ⟨rfl, rfl⟩) | (go_at_call 17; refine (is_any _ _).mono ?_; rintro e w' ⟨rfl, rfl⟩) | (go_at_call 13; refine (mul_any _ _ _).mono ?_; rintro e w' ⟨rfl, rfl⟩) | (go_at_call 16; refine (rpow_any _ _ _).mono ?_; rintro e w' ⟨rfl, rfl⟩) | (go_at_call 18; refine (ris_any _ _).mono ?_; rintro e w' ⟨rfl, rfl⟩) | (go_at_call 14; refine (rmul_any _ _ _).mono ?_; rintro e w' ⟨rfl, rfl⟩) | (go_at_call 19; refine (known_pow _).mono ?_; rintro e w' ⟨rfl, rfl⟩))
        go_ret
        exact ⟨rfl, Below.refl _ _⟩
      · by_cases h2 : a < 2147483579
        · go_enter Try.func8, Try.ntmps8
          go_wp2_with (first | (go_at_call 15; refine (pow_any _ _ _).mono ?_; rintro e w' ⟨rfl, rfl⟩) | (go_at_call 17; refine (is_any _ _).mono ?_; rintro e w' ⟨rfl, rfl⟩) | (go_at_call 13; refine (mul_any _ _ _).mono ?_; rintro e w' ⟨rfl, rfl⟩) | (go_at_call 16; refine (rpow_any _ _ _).mono ?_; rintro e w' ⟨rfl, rfl⟩) | (go_at_call 18; refine (ris_any _ _).mono ?_; rintro e w' ⟨rfl, rfl⟩) | (go_at_call 14; refine (rmul_any _ _ _).mono ?_; rintro e w' ⟨rfl, rfl⟩) | (go_at_call 19; refine (known_pow _).mono ?_; rintro e w' ⟨rfl, rfl⟩))
          go_ret
          exact ⟨rfl, Below.refl _ _⟩
        · obtain ⟨o1, o2, o3, o4⟩ := OUT.out (by omega)
          go_enter Try.func8, Try.ntmps8
          go_wp2_with (first | (go_at_call 15; refine (pow_any _ _ _).mono ?_; rintro e w' ⟨rfl, rfl⟩) | (go_at_call 17; refine (is_any _ _).mono ?_; rintro e w' ⟨rfl, rfl⟩) | (go_at_call 13; refine (mul_any _ _ _).mono ?_; rintro e w' ⟨rfl, rfl⟩) | (go_at_call 16; refine (rpow_any _ _ _).mono ?_; rintro e w' ⟨rfl, rfl⟩) | (go_at_call 18; refine (ris_any _ _).mono ?_; rintro e w' ⟨rfl, rfl⟩) | (go_at_call 14; refine (rmul_any _ _ _).mono ?_; rintro e w' ⟨rfl, rfl⟩) | (go_at_call 19; refine (known_pow _).mono ?_; rintro e w' ⟨rfl, rfl⟩))
          go_ret
          exact ⟨rfl, Below.refl _ _⟩
end Go.Proofs.Ytnaohmlekjehhaa
