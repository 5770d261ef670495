/-
  The walks of four more laws over package power.
-/
import Derived.Test.YtnaohmlekjehhaaPowLaws
namespace Go.Proofs.Ytnaohmlekjehhaa
open Go.RowKit Pm
set_option linter.unusedVariables false

theorem rpow4 (e : Nat) (h : e ≤ 1073741789) : powI 4 (e : Int) = (pw 4 e : Int) := powI_nat 4 e (by decide) h
theorem powQ (y : Nat) (h : y < 2147483579) : powI (y : Int) 1073741789 = (pw y 1073741789 : Int) := powI_nat y 1073741789 h (by decide)

theorem inverse_law (e : Int) (h : 1 ≤ e ∧ e < 1073741789) : mulI (powI 4 e) (powI (powI 4 e) 1073741788) = 1 ∧ powI (powI 4 e) 1073741789 = 1 := by
  obtain ⟨e, rfl⟩ := Int.eq_ofNat_of_zero_le (show 0 ≤ e by omega)
  rw [rpow4 e (by omega), powQ _ (pw_lt _ _), four_all]
  refine ⟨?_, rfl⟩
  rw [show powI (pw 4 e : Int) 1073741788 = (pw (pw 4 e) 1073741788 : Int) from powI_nat _ 1073741788 (pw_lt _ _) (by decide), mulI_nat _ _ (pw_lt _ _) (pw_lt _ _), Nat.mul_comm, pw_succ, four_all]
  rfl

theorem powerInverse_walk (e : Int) (we : (Lit.int .i64 e).wf = true) (w : World) :
    Calls Try.prog 9 #[.int .i64 e] w fun e w' => e = .returned (.bool true) ∧ Below w.heap.size w w' := by
  clear we
  by_cases h1 : e < 1
  · go_enter Try.func9, Try.ntmps9
    go_wp2
    go_ret
    exact ⟨rfl, Below.refl _ _⟩
  · by_cases h2 : 1073741789 ≤ e
    · go_enter Try.func9, Try.ntmps9
      go_wp2
      go_ret
      exact ⟨rfl, Below.refl _ _⟩
    · obtain ⟨q1, q2⟩ := inverse_law e ⟨by omega, by omega⟩
      have t1 := beq_t q1
      have t2 := beq_t q2
      clear q1 q2
      go_enter Try.func9, Try.ntmps9
      go_wp2_with (first | (go_at_call 15; refine (pow_any _ _ _).mono ?_; rintro e w' ⟨rfl, rfl⟩) | (go_at_call 17; refine (is_any _ _).mono ?_; rintro e w' ⟨rfl, rfl⟩) | (go_at_call 13; refine (mul_any _ _ _).mono ?_; rintro e w' ⟨rfl, rfl⟩) | (go_at_call 16; refine (rpow_any _ _ _).mono ?_; rintro e w' ⟨rfl, rfl⟩) | (go_at_call 18; refine (ris_any _ _).mono ?_; rintro e w' ⟨rfl, rfl⟩) | (go_at_call 14; refine (rmul_any _ _ _).mono ?_; rintro e w' ⟨rfl, rfl⟩) | (go_at_call 19; refine (known_pow _).mono ?_; rintro e w' ⟨rfl, rfl⟩))
      go_ret
      exact ⟨rfl, Below.refl _ _⟩

theorem closed_law (d e : Int) (h : 1 ≤ d ∧ d < 1073741789) (h' : 1 ≤ e ∧ e < 1073741789) :
    isI (mulI (powI 4 d) (powI 4 e)) = (mulI (powI 4 d) (powI 4 e) != 1) := by
  obtain ⟨d, rfl⟩ := Int.eq_ofNat_of_zero_le (show 0 ≤ d by omega)
  obtain ⟨e, rfl⟩ := Int.eq_ofNat_of_zero_le (show 0 ≤ e by omega)
  rw [rpow4 d (by omega), rpow4 e (by omega), mulI_nat _ _ (pw_lt _ _) (pw_lt _ _), pw_add]
  generalize hy : pw 4 (d + e) = y
  have hq : pw y 1073741789 = 1 := by rw [← hy]; exact four_all _
  have hl : y < 2147483579 := by rw [← hy]; exact pw_lt _ _
  have h0 := of_Q_pos y hq
  rw [isI_nat y hl]
  by_cases h1 : y = 1
  · rw [bne_f (show ((y : Nat) : Int) = 1 by rw [h1]; rfl)]
    exact decide_eq_false fun ⟨g, _⟩ => by omega
  · rw [bne_t (show ((y : Nat) : Int) ≠ 1 by omega)]
    exact decide_eq_true ⟨by omega, hq⟩

theorem powerClosed_walk (d : Int) (wd : (Lit.int .i64 d).wf = true) (e : Int) (we : (Lit.int .i64 e).wf = true) (w : World) :
    Calls Try.prog 10 #[.int .i64 d, .int .i64 e] w fun e w' => e = .returned (.bool true) ∧ Below w.heap.size w w' := by
  clear wd we
  by_cases h1 : d < 1
  · go_enter Try.func10, Try.ntmps10
    go_wp2
    go_ret
    exact ⟨rfl, Below.refl _ _⟩
  · by_cases h2 : 1073741789 ≤ d
    · go_enter Try.func10, Try.ntmps10
      go_wp2
      go_ret
      exact ⟨rfl, Below.refl _ _⟩
    · by_cases h3 : e < 1
      · go_enter Try.func10, Try.ntmps10
        go_wp2
        go_ret
        exact ⟨rfl, Below.refl _ _⟩
      · by_cases h4 : 1073741789 ≤ e
        · go_enter Try.func10, Try.ntmps10
          go_wp2
          go_ret
          exact ⟨rfl, Below.refl _ _⟩
        · have q := closed_law d e ⟨by omega, by omega⟩ ⟨by omega, by omega⟩
          have t : (isI (mulI (powI 4 d) (powI 4 e)) == (mulI (powI 4 d) (powI 4 e) != 1)) = true := by rw [q]; exact beq_self_eq_true _
          clear q
          go_enter Try.func10, Try.ntmps10
          go_wp2_with (first | (go_at_call 15; refine (pow_any _ _ _).mono ?_; rintro e w' ⟨rfl, rfl⟩) | (go_at_call 17; refine (is_any _ _).mono ?_; rintro e w' ⟨rfl, rfl⟩) | (go_at_call 13; refine (mul_any _ _ _).mono ?_; rintro e w' ⟨rfl, rfl⟩) | (go_at_call 16; refine (rpow_any _ _ _).mono ?_; rintro e w' ⟨rfl, rfl⟩) | (go_at_call 18; refine (ris_any _ _).mono ?_; rintro e w' ⟨rfl, rfl⟩) | (go_at_call 14; refine (rmul_any _ _ _).mono ?_; rintro e w' ⟨rfl, rfl⟩) | (go_at_call 19; refine (known_pow _).mono ?_; rintro e w' ⟨rfl, rfl⟩))
          go_ret
          exact ⟨rfl, Below.refl _ _⟩

theorem steps_law (b e : Int) (h : 0 ≤ b ∧ b < 2147483579) (h' : 0 ≤ e ∧ e < 1073741789) : powI b (e + 1) = mulI (powI b e) b ∧ powI b 1 = b := by
  obtain ⟨b, rfl⟩ := Int.eq_ofNat_of_zero_le h.1
  obtain ⟨e, rfl⟩ := Int.eq_ofNat_of_zero_le h'.1
  have hb : b < 2147483579 := Int.ofNat_lt.1 h.2
  have he : e < 1073741789 := Int.ofNat_lt.1 h'.2
  rw [show ((e : Int) + 1) = ((e + 1 : Nat) : Int) from rfl, powI_nat b (e + 1) hb (by omega), powI_nat b e hb (by omega), mulI_nat _ _ (pw_lt _ _) hb, pw_succ,
    show powI (b : Int) 1 = (pw b 1 : Int) from powI_nat b 1 hb (by decide), pw_one _ hb]
  exact ⟨rfl, rfl⟩

theorem powerSteps_walk (b : Int) (wb : (Lit.int .i64 b).wf = true) (e : Int) (we : (Lit.int .i64 e).wf = true) (w : World) :
    Calls Try.prog 11 #[.int .i64 b, .int .i64 e] w fun e w' => e = .returned (.bool true) ∧ Below w.heap.size w w' := by
  clear wb we
  by_cases h1 : b < 0
  · go_enter Try.func11, Try.ntmps11
    go_wp2
    go_ret
    exact ⟨rfl, Below.refl _ _⟩
  · by_cases h2 : 2147483579 ≤ b
    · go_enter Try.func11, Try.ntmps11
      go_wp2
      go_ret
      exact ⟨rfl, Below.refl _ _⟩
    · by_cases h3 : e < 0
      · go_enter Try.func11, Try.ntmps11
        go_wp2
        go_ret
        exact ⟨rfl, Below.refl _ _⟩
      · by_cases h4 : 1073741789 ≤ e
        · go_enter Try.func11, Try.ntmps11
          go_wp2
          go_ret
          exact ⟨rfl, Below.refl _ _⟩
        · obtain ⟨q1, q2⟩ := steps_law b e ⟨by omega, by omega⟩ ⟨by omega, by omega⟩
          have t1 := beq_t q1
          have t2 := beq_t q2
          clear q1 q2
          go_enter Try.func11, Try.ntmps11
          go_wp2_with (first | (go_at_call 15; refine (pow_any _ _ _).mono ?_; rintro e w' ⟨rfl, rfl⟩) | (go_at_call 17; refine (is_any _ _).mono ?_; rintro e w' ⟨rfl, rfl⟩) | (go_at_call 13; refine (mul_any _ _ _).mono ?_; rintro e w' ⟨rfl, rfl⟩) | (go_at_call 16; refine (rpow_any _ _ _).mono ?_; rintro e w' ⟨rfl, rfl⟩) | (go_at_call 18; refine (ris_any _ _).mono ?_; rintro e w' ⟨rfl, rfl⟩) | (go_at_call 14; refine (rmul_any _ _ _).mono ?_; rintro e w' ⟨rfl, rfl⟩) | (go_at_call 19; refine (known_pow _).mono ?_; rintro e w' ⟨rfl, rfl⟩))
          go_ret
          exact ⟨rfl, Below.refl _ _⟩

theorem turned_law (e : Int) (h : 1 ≤ e ∧ e < 1073741789) : isI (powI 4 e) = true ∧ isI (2147483579 - powI 4 e) = false ∧ powI (2147483579 - powI 4 e) 1073741789 = 2147483578 := by
  obtain ⟨e, rfl⟩ := Int.eq_ofNat_of_zero_le (show 0 ≤ e by omega)
  have h1 : 1 ≤ e := Int.ofNat_le.1 h.1
  have h2 : e < 1073741789 := Int.ofNat_lt.1 h.2
  rw [rpow4 e (by omega)]
  have hl := pw_lt 4 e
  have hq := four_all e
  have h0 := of_Q_pos _ hq
  have ht := turned _ hl hq
  rw [show (2147483579 - (pw 4 e : Int)) = ((2147483579 - pw 4 e : Nat) : Int) by omega, powQ _ (by omega), ht]
  refine ⟨isI_four e h1 h2, ?_, rfl⟩
  rw [isI_nat _ (by omega), ht]
  exact decide_eq_false fun ⟨_, g⟩ => absurd g (by decide)

theorem powerTurned_walk (e : Int) (we : (Lit.int .i64 e).wf = true) (w : World) :
    Calls Try.prog 12 #[.int .i64 e] w fun e w' => e = .returned (.bool true) ∧ Below w.heap.size w w' := by
  clear we
  by_cases h1 : e < 1
  · go_enter Try.func12, Try.ntmps12
    go_wp2
    go_ret
    exact ⟨rfl, Below.refl _ _⟩
  · by_cases h2 : 1073741789 ≤ e
    · go_enter Try.func12, Try.ntmps12
      go_wp2
      go_ret
      exact ⟨rfl, Below.refl _ _⟩
    · obtain ⟨q1, q2, q3⟩ := turned_law e ⟨by omega, by omega⟩
      obtain ⟨b0, b1⟩ := powI_bd 4 e
      have t3 := beq_t q3
      clear q3
      go_enter Try.func12, Try.ntmps12
      go_wp2_with (first | (go_at_call 15; refine (pow_any _ _ _).mono ?_; rintro e w' ⟨rfl, rfl⟩) | (go_at_call 17; refine (is_any _ _).mono ?_; rintro e w' ⟨rfl, rfl⟩) | (go_at_call 13; refine (mul_any _ _ _).mono ?_; rintro e w' ⟨rfl, rfl⟩) | (go_at_call 16; refine (rpow_any _ _ _).mono ?_; rintro e w' ⟨rfl, rfl⟩) | (go_at_call 18; refine (ris_any _ _).mono ?_; rintro e w' ⟨rfl, rfl⟩) | (go_at_call 14; refine (rmul_any _ _ _).mono ?_; rintro e w' ⟨rfl, rfl⟩) | (go_at_call 19; refine (known_pow _).mono ?_; rintro e w' ⟨rfl, rfl⟩))
      go_ret
      exact ⟨rfl, Below.refl _ _⟩
end Go.Proofs.Ytnaohmlekjehhaa
