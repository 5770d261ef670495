/-
  The zero sum and the bytes' type, as this program numbers them.
-/
import Derived.Test.YtcfdlffjghlghaaChecked
import Derived.Test.YtcfdlffjghlghaaMem2
import Derived.Test.YtcfdlffjghlghaaOwn
namespace Go.Proofs.Ytcfdlffjghlghaa
set_option maxRecDepth 100000
open Go.RowKit

/-- thirty-two noughts -/
def zeros32 : Array Value := #[.int .u8 0, .int .u8 0, .int .u8 0, .int .u8 0, .int .u8 0, .int .u8 0, .int .u8 0, .int .u8 0, .int .u8 0, .int .u8 0, .int .u8 0, .int .u8 0, .int .u8 0, .int .u8 0, .int .u8 0, .int .u8 0,
  .int .u8 0, .int .u8 0, .int .u8 0, .int .u8 0, .int .u8 0, .int .u8 0, .int .u8 0, .int .u8 0, .int .u8 0, .int .u8 0, .int .u8 0, .int .u8 0, .int .u8 0, .int .u8 0, .int .u8 0, .int .u8 0]
theorem zeros32_HC : zeros32 = HC (List.replicate 32 0) := by rfl
theorem zone : zeros32.all (·.oneCell') = true := by rw [zeros32_HC]; exact HC_one _
theorem zsize : (Try.prog.info? 30).map (·.size) = some zeros32.size := by kernel_rfl
theorem info8 : (Try.prog.info? 5).map (fun i => (i.zero, i.size, i.bytes)) = some (some (.int .u8 0), 1, 1) := by kernel_rfl
theorem U_or8 (x : BitVec 64) (c : UInt8) : bits .or .u64 (U x) (Bt c) = U (x ||| w8 c) := by rw [← U_w8, U_or]
theorem U_shl8 (x : BitVec 64) : IntKind.u64.wrap (U x * 256) = U (x <<< 8) := U_shl x 8
end Go.Proofs.Ytcfdlffjghlghaa
