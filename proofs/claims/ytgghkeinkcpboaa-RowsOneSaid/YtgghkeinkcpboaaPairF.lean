/-
  Four bytes of a number: the walks of Four, the program's and the document's.
-/
import Derived.Test.YtgghkeinkcpboaaZero
import Derived.Test.YtgghkeinkcpboaaOpen
import Derived.Test.YtgghkeinkcpboaaExt3
import Derived.Test.YtgghkeinkcpboaaRegion
namespace Go.Proofs.Ytgghkeinkcpboaa
set_option maxRecDepth 100000
open Go.RowKit
set_option linter.unusedVariables false
set_option linter.unusedSimpArgs false

/-- a number's low byte, turned right by so many digits -/
def lowB (n : Int) (s : Nat) : UInt8 := UInt8.ofNat ((n / 2 ^ s) % 256).toNat
theorem lowB_eq (n : Int) (s : Nat) : Bt (lowB n s) = (n / 2 ^ s) % 256 := by
  unfold Bt lowB
  rw [UInt8.toNat_ofNat']
  omega
def fourB (n : Int) : List UInt8 := [lowB n 24, lowB n 16, lowB n 8, lowB n 0]
theorem four_cells (n : Int) : #[Value.int .u8 (n / 16777216 % 256), Value.int .u8 (n / 65536 % 256), Value.int .u8 (n / 256 % 256), Value.int .u8 (n % 256)] = HC (fourB n) := by
  simp [HC, fourB, lowB_eq]

end Go.Proofs.Ytgghkeinkcpboaa
