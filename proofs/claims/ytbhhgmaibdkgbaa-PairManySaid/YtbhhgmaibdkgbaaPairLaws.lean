/-
  The laws over package pair: keys' numbers, what the laws take for known.
-/
import Derived.Test.YtbhhgmaibdkgbaaShared
import Derived.Test.YtbhhgmaibdkgbaaEqH
import Derived.Test.YtbhhgmaibdkgbaaStr
namespace Go.Proofs.Ytbhhgmaibdkgbaa
set_option maxRecDepth 100000
open Go.RowKit Pm
set_option linter.unusedVariables false
set_option linter.unusedSimpArgs false
attribute [local go_sem] eqh_guard

/-- a sum's secret number -/
def keyS (h : List UInt8) : Int := U (numN h 8) % 1073741788 + 1
theorem keyS_bd (h : List UInt8) : 1 ≤ keyS h ∧ keyS h < 1073741789 := by
  have hbd := U_bd (numN h 8)
  unfold keyS
  omega
theorem from_k (h : List UInt8) (hh : h.length = 32) (w : World) :
    Calls Try.prog 11 #[HV h] w fun e w' => ∃ g, e = .returned (.pointer (some ⟨g, 0, none⟩)) ∧ w.heap.size ≤ g ∧ Blk w' g (CK (keyS h) 0 0 0 0) 61 ∧ Below w.heap.size w w' := from_any h hh w
theorem rfrom_k (h : List UInt8) (hh : h.length = 32) (w : World) :
    Calls Try.prog 12 #[HV h] w fun e w' => e = .returned (.agg #[.int .i64 (keyS h), .int .i64 (powI 4 (keyS h))]) ∧ Below w.heap.size w w' := rfrom_any h hh w

/-- one, and thirty-one noughts -/
def one32 : Array Value := #[.int .u8 1, .int .u8 0, .int .u8 0, .int .u8 0, .int .u8 0, .int .u8 0, .int .u8 0, .int .u8 0, .int .u8 0, .int .u8 0, .int .u8 0, .int .u8 0, .int .u8 0, .int .u8 0, .int .u8 0, .int .u8 0, .int .u8 0,
  .int .u8 0, .int .u8 0, .int .u8 0, .int .u8 0, .int .u8 0, .int .u8 0, .int .u8 0, .int .u8 0, .int .u8 0, .int .u8 0, .int .u8 0, .int .u8 0, .int .u8 0, .int .u8 0, .int .u8 0]
def ones : List UInt8 := 1 :: List.replicate 31 0
theorem one32_HC : one32 = HC ones := by rfl
theorem from_one (w : World) :
    Calls Try.prog 11 #[.agg one32] w fun e w' => ∃ g, e = .returned (.pointer (some ⟨g, 0, none⟩)) ∧ w.heap.size ≤ g ∧ Blk w' g (CK (keyS ones) 0 0 0 0) 61 ∧ Below w.heap.size w w' := by
  rw [one32_HC]; exact from_k ones rfl w
theorem rfrom_one (w : World) :
    Calls Try.prog 12 #[.agg one32] w fun e w' => e = .returned (.agg #[.int .i64 (keyS ones), .int .i64 (powI 4 (keyS ones))]) ∧ Below w.heap.size w w' := by
  rw [one32_HC]; exact rfrom_k ones rfl w

theorem key_y (a b : Int) (w : World) : (Instr.field 27 (.agg #[.int .i64 a, .int .i64 b]) 1).run Try.prog w = .ok (.int .i64 b) w := by
  simp [Instr.field, asAgg, go_sem, Try.underlying27, Try.underlying3]
theorem key_x (a b : Int) (w : World) : (Instr.field 27 (.agg #[.int .i64 a, .int .i64 b]) 0).run Try.prog w = .ok (.int .i64 a) w := by
  simp [Instr.field, asAgg, go_sem, Try.underlying27, Try.underlying3]
attribute [local go_sem] key_y key_x

set_option maxHeartbeats 1600000 in
theorem known_pair (w : World) : Calls Try.prog 18 #[] w fun e w' => e = .returned (.bool true) ∧ Below w.heap.size w w' := by
  obtain ⟨s, hs⟩ : ∃ s, keyS ones = s := ⟨_, rfl⟩
  have hbd := keyS_bd ones
  rw [hs] at hbd
  have HS := Lib.hid hs; have HBD := Lib.hid hbd
  clear hs hbd
  go_enter Try.func18, Try.ntmps18
  go_wp2_with (first
    | (go_at_call 11; refine (from_one _).mono ?_; rintro e w1 ⟨g, rfl, hg1, hk1, hb1⟩; rw [HS.out] at hk1
       have HK1 := Lib.hid hk1; have HB1 := Lib.hid hb1; have HG1 := Lib.hid hg1
       clear hk1 hb1 hg1)
    | (go_at_call 15; refine (public_first g s 0 ⟨by have := HBD.out; omega, HBD.out.2⟩ _ HK1.out).mono ?_; rintro e w2 ⟨rfl, hk2, hg2⟩
       have HK2 := Lib.hid hk2; have HB2 := Lib.hid (below_grown HB1.out hg2 HG1.out HB1.out.size)
       clear hk2 hg2)
    | (go_at_call 13; refine (made_any g s 1 (powI 4 s) 1 0 _ HK2.out).mono ?_; rintro e w' ⟨rfl, rfl⟩)
    | (go_at_call 13; refine (made_any g s 0 0 0 0 _ HK1.out).mono ?_; rintro e w' ⟨rfl, rfl⟩)
    | (go_at_call 12; refine (rfrom_one _).mono ?_; rintro e w3 ⟨rfl, hb3⟩; rw [HS.out]
       have HB3 := Lib.hid (HB2.out.later hb3 (Nat.le_refl _)); have HK3 := Lib.hid (HK2.out.keep hb3); clear hb3)
    | (go_at_call 21; refine (uses_any g s 1 (powI 4 s) 1 0 (by decide) _ HK3.out).mono ?_; rintro e w' ⟨rfl, rfl⟩))
  go_ret
  exact ⟨rfl, HB3.out⟩
end Go.Proofs.Ytbhhgmaibdkgbaa
