/-
  The laws over package pair: keys' numbers, what the laws take for known.
-/
import Derived.Test.YtmijaghaombbpaaShared
import Derived.Test.YtmijaghaombbpaaEqH
import Derived.Test.YtmijaghaombbpaaStr
namespace Go.Proofs.Ytmijaghaombbpaa
set_option maxRecDepth 100000
open Go.RowKit Pm
set_option linter.unusedVariables false
set_option linter.unusedSimpArgs false
attribute [local go_sem] eqh_guard

/-- a sum's secret number -/
def keyS (h : List UInt8) : Int := U (numN h 8) % 1073741788 + 1
theorem keyS_bd (h : List UInt8) : 1 ≤ keyS h ∧ keyS h < 1073741789 := by
  have hbd := U_bd (numN h 8)
  unfold keyS
  omega
theorem from_k (h : List UInt8) (hh : h.length = 32) (w : World) :
    Calls Try.prog 11 #[HV h] w fun e w' => ∃ g, e = .returned (.pointer (some ⟨g, 0, none⟩)) ∧ w.heap.size ≤ g ∧ Blk w' g (CK (keyS h) 0 0 0 0) 59 ∧ Below w.heap.size w w' := from_any h hh w
theorem rfrom_k (h : List UInt8) (hh : h.length = 32) (w : World) :
    Calls Try.prog 12 #[HV h] w fun e w' => e = .returned (.agg #[.int .i64 (keyS h), .int .i64 (powI 4 (keyS h))]) ∧ Below w.heap.size w w' := rfrom_any h hh w

/-- one, and thirty-one noughts -/
def one32 : Array Value := #[.int .u8 1, .int .u8 0, .int .u8 0, .int .u8 0, .int .u8 0, .int .u8 0, .int .u8 0, .int .u8 0, .int .u8 0, .int .u8 0, .int .u8 0, .int .u8 0, .int .u8 0, .int .u8 0, .int .u8 0, .int .u8 0, .int .u8 0,
  .int .u8 0, .int .u8 0, .int .u8 0, .int .u8 0, .int .u8 0, .int .u8 0, .int .u8 0, .int .u8 0, .int .u8 0, .int .u8 0, .int .u8 0, .int .u8 0, .int .u8 0, .int .u8 0, .int .u8 0]
def ones : List UInt8 := 1 :: List.replicate 31 0
theorem one32_HC : one32 = HC ones := by rfl
theorem from_one (w : World) :
    Calls Try.prog 11 #[.agg one32] w fun e w' => ∃ g, e = .returned (.pointer (some ⟨g, 0, none⟩)) ∧ w.heap.size ≤ g ∧ Blk w' g (CK (keyS ones) 0 0 0 0) 59 ∧ Below w.heap.size w w' := by
  rw [one32_HC]; exact from_k ones rfl w
theorem rfrom_one (w : World) :
    Calls Try.prog 12 #[.agg one32] w fun e w' => e = .returned (.agg #[.int .i64 (keyS ones), .int .i64 (powI 4 (keyS ones))]) ∧ Below w.heap.size w w' := by
  rw [one32_HC]; exact rfrom_k ones rfl w

theorem key_y (a b : Int) (w : World) : (Instr.field 28 (.agg #[.int .i64 a, .int .i64 b]) 1).run Try.prog w = .ok (.int .i64 b) w := by
  simp [Instr.field, asAgg, go_sem, Try.underlying28, Try.underlying3]
theorem key_x (a b : Int) (w : World) : (Instr.field 28 (.agg #[.int .i64 a, .int .i64 b]) 0).run Try.prog w = .ok (.int .i64 a) w := by
  simp [Instr.field, asAgg, go_sem, Try.underlying28, Try.underlying3]
attribute [local go_sem] key_y key_x

end Go.Proofs.Ytmijaghaombbpaa
