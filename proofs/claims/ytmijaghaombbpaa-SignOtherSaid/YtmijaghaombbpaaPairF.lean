/-
  Four bytes of a number: the walks of Four, the program's and the document's.
-/
import Derived.Test.YtmijaghaombbpaaZero
import Derived.Test.YtmijaghaombbpaaOpen
import Derived.Test.YtmijaghaombbpaaExt3
import Derived.Test.YtmijaghaombbpaaRegion
namespace Go.Proofs.Ytmijaghaombbpaa
set_option maxRecDepth 100000
open Go.RowKit
set_option linter.unusedVariables false
set_option linter.unusedSimpArgs false

/-- a number's low byte, turned right by so many digits -/
def lowB (n : Int) (s : Nat) : UInt8 := UInt8.ofNat ((n / 2 ^ s) % 256).toNat
theorem lowB_eq (n : Int) (s : Nat) : Bt (lowB n s) = (n / 2 ^ s) % 256 := by
  unfold Bt lowB
  rw [UInt8.toNat_ofNat']
  omega
def fourB (n : Int) : List UInt8 := [lowB n 24, lowB n 16, lowB n 8, lowB n 0]
theorem four_cells (n : Int) : #[Value.int .u8 (n / 16777216 % 256), Value.int .u8 (n / 65536 % 256), Value.int .u8 (n / 256 % 256), Value.int .u8 (n % 256)] = HC (fourB n) := by
  simp [HC, fourB, lowB_eq]

set_option maxRecDepth 100000 in
theorem four_any (n : Int) (w : World) :
    Calls Try.prog 24 #[.int .i64 n] w fun e w' => e = .returned (.slice (some ⟨w.heap.size, 0, none⟩) 4 4) ∧ w' = w.alloc (.cells (HC (fourB n)) 5) := by
  go_enter Try.func24, Try.ntmps24
  go_wp2
  go_ret
  exact ⟨rfl, by rw [four_cells]⟩

set_option maxRecDepth 100000 in
theorem rfour_any (n : Int) (w : World) :
    Calls Try.prog 30 #[.int .i64 n] w fun e w' => e = .returned (.slice (some ⟨w.heap.size, 0, none⟩) 4 4) ∧ w' = w.alloc (.cells (HC (fourB n)) 5) := by
  go_enter Try.func30, Try.ntmps30
  go_wp2
  go_ret
  exact ⟨rfl, by rw [four_cells]⟩
end Go.Proofs.Ytmijaghaombbpaa
