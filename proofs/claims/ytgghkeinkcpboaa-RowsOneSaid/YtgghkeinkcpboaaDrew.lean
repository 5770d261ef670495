/-
  A draw leaves memory. No program is named here.
-/
import Derived.Test.YtgghkeinkcpboaaMem2
namespace Go.Proofs.Ytgghkeinkcpboaa
set_option maxRecDepth 100000
open Go.RowKit
theorem below_drew1 {B : Nat} {a b : World} (h : Below B a b) : Below B a b.drew := ⟨h.os, h.tape, h.output, h.size, h.block⟩
end Go.Proofs.Ytgghkeinkcpboaa
