/-
  The walks of package power and of the document's answer to it: what each call answers, in numbers. They write nothing.
-/
import Derived.Test.YtmddonmjigkjoaaDoorChecked
import Derived.Test.YtmddonmjigkjoaaDoorPowMath
import Derived.WalkKit
import Derived.ProofKit
import Derived.BigQuiet
import Derived.Lib.Hide
namespace Go.Proofs.YtmddonmjigkjoaaDoor
set_option maxRecDepth 100000
open Go.RowKit Pm

theorem ret_i64 {a b : Int} (h : a = b) : Ending.returned (.int .i64 a) = .returned (.int .i64 b) := by rw [h]

theorem ret_bool {a b : Bool} (h : a = b) : Ending.returned (.bool a) = .returned (.bool b) := by rw [h]

theorem round_t (a : Int) (w : World) (h0 : 0 ≤ a) (h1 : a < 2147483579) :
    Calls Tryd.prog 63 #[.int .i64 a] w fun e w' => e = .returned (.bool true) ∧ w = w' := by
  go_enter Tryd.func63, Tryd.ntmps63
  go_wp2
  go_ret
  exact ⟨rfl, rfl⟩
theorem round_f (a : Int) (w : World) (h : ¬ (0 ≤ a ∧ a < 2147483579)) :
    Calls Tryd.prog 63 #[.int .i64 a] w fun e w' => e = .returned (.bool false) ∧ w = w' := by
  by_cases h0 : 0 ≤ a
  · have h1 : ¬ a < 2147483579 := fun h1 => h ⟨h0, h1⟩
    clear h
    go_enter Tryd.func63, Tryd.ntmps63
    go_wp2
    go_ret
    exact ⟨rfl, rfl⟩
  · clear h
    go_enter Tryd.func63, Tryd.ntmps63
    go_wp2
    go_ret
    exact ⟨rfl, rfl⟩

theorem round_any (a : Int) (w : World) :
    Calls Tryd.prog 63 #[.int .i64 a] w fun e w' => e = .returned (.bool (inB a)) ∧ w = w' := by
  by_cases h : 0 ≤ a ∧ a < 2147483579
  · rw [inB_t h]; exact round_t a w h.1 h.2
  · rw [inB_f h]; exact round_f a w h

theorem mul_bd (a b : Int) (h0 : 0 ≤ a) (h1 : a < 2147483579) (h2 : 0 ≤ b) (h3 : b < 2147483579) : 0 ≤ a * b ∧ a * b ≤ 4611686018427387904 := by
  constructor
  · exact Int.mul_nonneg h0 h2
  · have : a * b ≤ 2147483648 * 2147483648 := Int.mul_le_mul (by omega) (by omega) h2 (by omega)
    omega

theorem mul_any (a b : Int) (w : World) :
    Calls Tryd.prog 64 #[.int .i64 a, .int .i64 b] w fun e w' => e = .returned (.int .i64 (mulI a b)) ∧ w = w' := by
  by_cases ha : 0 ≤ a ∧ a < 2147483579
  · by_cases hb : 0 ≤ b ∧ b < 2147483579
    · have ia := inB_t ha
      have ib := inB_t hb
      obtain ⟨a0, a1⟩ := ha
      obtain ⟨b0, b1⟩ := hb
      obtain ⟨m0, m1⟩ := mul_bd a b a0 a1 b0 b1
      go_enter Tryd.func64, Tryd.ntmps64
      go_wp2_with (go_at_call 63; refine (round_any _ _).mono ?_; rintro e w' ⟨rfl, rfl⟩)
      go_ret
      exact ⟨ret_i64 (by unfold mulI; rw [if_pos ⟨a0, a1, b0, b1⟩]), rfl⟩
    · have ia := inB_t ha
      have ib := inB_f hb
      have hf : mulI a b = 0 := mulI_out _ _ (fun ⟨_, _, h2, h3⟩ => hb ⟨h2, h3⟩)
      have HF := Lib.hid hf; clear hf ha hb
      go_enter Tryd.func64, Tryd.ntmps64
      go_wp2_with (go_at_call 63; refine (round_any _ _).mono ?_; rintro e w' ⟨rfl, rfl⟩)
      go_ret
      exact ⟨ret_i64 HF.out.symm, rfl⟩
  · have ia := inB_f ha
    have hf : mulI a b = 0 := mulI_out _ _ (fun ⟨h0, h1, _, _⟩ => ha ⟨h0, h1⟩)
    have HF := Lib.hid hf; clear hf ha
    go_enter Tryd.func64, Tryd.ntmps64
    go_wp2_with (go_at_call 63; refine (round_any _ _).mono ?_; rintro e w' ⟨rfl, rfl⟩)
    go_ret
    exact ⟨ret_i64 HF.out.symm, rfl⟩

theorem and_one_i64 (E : Int) (h0 : 0 ≤ E) (h : E ≤ 1073741789) : bits BinOp.and IntKind.i64 E 1 = E % 2 := by
  obtain ⟨n, rfl⟩ := Int.eq_ofNat_of_zero_le h0
  have hb : (BitVec.ofInt 64 (n : Int)).toNat = n := by
    rw [BitVec.ofInt_natCast, BitVec.toNat_ofNat]; exact Nat.mod_eq_of_lt (by omega)
  have h1 : (BitVec.ofInt 64 (1 : Int)).toNat = 1 := by decide
  show IntKind.i64.wrap ((BitVec.ofInt 64 (n : Int) &&& BitVec.ofInt 64 (1 : Int)).toNat : Int) = _
  rw [BitVec.toNat_and, hb, h1, Nat.and_one_is_mod]
  exact IntWalk.i64_in _ (by omega)

theorem pow_out (b e : Int) (w : World) (h : ¬ (0 ≤ b ∧ b < 2147483579 ∧ 0 ≤ e ∧ e ≤ 1073741789)) :
    Calls Tryd.prog 47 #[.int .i64 b, .int .i64 e] w fun e w' => e = .returned (.int .i64 0) ∧ w = w' := by
  by_cases hb : 0 ≤ b ∧ b < 2147483579
  · have ib := inB_t hb
    by_cases he : e < 0
    · clear h hb
      go_enter Tryd.func47, Tryd.ntmps47
      go_wp2_with (go_at_call 63; refine (round_any _ _).mono ?_; rintro e w' ⟨rfl, rfl⟩)
      go_ret
      exact ⟨rfl, rfl⟩
    · have he2 : 1073741789 < e := by omega
      clear h hb
      go_enter Tryd.func47, Tryd.ntmps47
      go_wp2_with (go_at_call 63; refine (round_any _ _).mono ?_; rintro e w' ⟨rfl, rfl⟩)
      go_ret
      exact ⟨rfl, rfl⟩
  · have ib := inB_f hb
    clear h hb
    go_enter Tryd.func47, Tryd.ntmps47
    go_wp2_with (go_at_call 63; refine (round_any _ _).mono ?_; rintro e w' ⟨rfl, rfl⟩)
    go_ret
    exact ⟨rfl, rfl⟩

theorem pow_in (b e : Int) (w : World) (hb : 0 ≤ b ∧ b < 2147483579) (he : 0 ≤ e ∧ e ≤ 1073741789) :
    Calls Tryd.prog 47 #[.int .i64 b, .int .i64 e] w fun e' w' => e' = .returned (.int .i64 (powI b e)) ∧ w = w' := by
  have ib := inB_t hb
  have HS := Lib.hid (PowAt.start hb he)
  have HL := fun (B Y : Int) (h : PowAt b e B 0 Y) => Lib.hid (PowAt.last hb he h)
  obtain ⟨e0, e1⟩ := he
  go_enter Tryd.func47, Tryd.ntmps47
  go_wp2_with (go_at_call 63; refine (round_any _ _).mono ?_; rintro e w' ⟨rfl, rfl⟩)
  go_loop [0, 1, 5] (fun b' e' y' => ∃ B E Y : Int, b' = .int .i64 B ∧ e' = .int .i64 E ∧ y' = .int .i64 Y ∧ PowAt b e B E Y) (fun _ e' _ => (intOf e').toNat)
  case atStart => exact ⟨b, e, 1, rfl, rfl, rfl, HS.out⟩
  case round =>
    obtain ⟨B, E, Y, rfl, rfl, rfl, HP⟩ := hrel
    obtain ⟨x0, x1⟩ := And.intro HP.e0 HP.e1
    have hand := and_one_i64 E x0 x1
    by_cases hpos : 0 < E
    · by_cases hodd : E % 2 = 1
      · have HN := HP.odd hodd
        have ho := tests.1 hodd
        clear hodd HP ib e0 e1
        go_wp2_with (go_at_call 64; refine (mul_any _ _ _).mono ?_; rintro e w' ⟨rfl, rfl⟩)
        go_round
        case rel => exact ⟨_, _, _, rfl, rfl, rfl, HN⟩
        case measure => simp [intOf]; omega
      · have HN := HP.even hodd
        have ho := tests.2 hodd
        clear hodd HP ib e0 e1
        go_wp2_with (go_at_call 64; refine (mul_any _ _ _).mono ?_; rintro e w' ⟨rfl, rfl⟩)
        go_round
        case rel => exact ⟨_, _, _, rfl, rfl, rfl, HN⟩
        case measure => simp [intOf]; omega
    · obtain rfl : E = 0 := by omega
      have HY := HL _ _ HP
      clear ib hand
      go_wp2
      go_ret
      exact ⟨ret_i64 HY.out, rfl⟩
theorem pow_any (b e : Int) (w : World) :
    Calls Tryd.prog 47 #[.int .i64 b, .int .i64 e] w fun e' w' => e' = .returned (.int .i64 (powI b e)) ∧ w = w' := by
  by_cases h : 0 ≤ b ∧ b < 2147483579 ∧ 0 ≤ e ∧ e ≤ 1073741789
  · exact pow_in b e w ⟨h.1, h.2.1⟩ h.2.2
  · rw [powI_out _ _ h]; exact pow_out b e w h
end Go.Proofs.YtmddonmjigkjoaaDoor
