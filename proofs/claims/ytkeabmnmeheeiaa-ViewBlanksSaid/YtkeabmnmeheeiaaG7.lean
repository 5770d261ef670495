/-
  What the package variables hold that are looked into.
-/
import Derived.Test.YtkeabmnmeheeiaaChecked
import Derived.Test.YtkeabmnmeheeiaaHA2
namespace Go.Proofs.Ytkeabmnmeheeiaa
set_option maxRecDepth 100000
open Go.RowKit
def gTab : Nat → Option (List Seg) := fun _ => none
end Go.Proofs.Ytkeabmnmeheeiaa
