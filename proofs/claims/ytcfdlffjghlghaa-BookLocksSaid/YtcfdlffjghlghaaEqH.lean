/-
  '==' on sums, as this program numbers them.
-/
import Derived.Test.YtcfdlffjghlghaaZero
import Derived.Test.YtcfdlffjghlghaaEqArr
namespace Go.Proofs.Ytcfdlffjghlghaa
set_option maxRecDepth 100000
open Go.RowKit

theorem infoe8 : ∃ i, Try.prog.info? 5 = some i := by
  obtain ⟨i, hi, _⟩ := info_parts info8
  exact ⟨i, hi⟩

theorem eqh_guard (w : World) (o : BinOp) (p q : Operand) (x y : List UInt8) : (eqGuard o 30 p q (HV x) (HV y)).run Try.prog w = .ok () w :=
  run_eqGuard_agg w o 30 p q _ _ (by kernel_rfl)
theorem eqh (w : World) (x y : List UInt8) (hx : x.length = 32) (hy : y.length = 32) : (binOp .eql 30 (HV x) (HV y)).run Try.prog w = .ok (.bool (x == y)) w := by
  obtain ⟨i, hi⟩ := infoe8
  exact run_eql_hash w Try.underlying30 Try.underlying5 hi (by kernel_rfl) x y hx hy
theorem neh (w : World) (x y : List UInt8) (hx : x.length = 32) (hy : y.length = 32) : (binOp .neq 30 (HV x) (HV y)).run Try.prog w = .ok (.bool (!(x == y))) w := by
  obtain ⟨i, hi⟩ := infoe8
  exact run_neq_hash w Try.underlying30 Try.underlying5 hi (by kernel_rfl) x y hx hy
end Go.Proofs.Ytcfdlffjghlghaa
