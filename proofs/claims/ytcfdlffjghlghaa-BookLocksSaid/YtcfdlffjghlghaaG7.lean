/-
  What the package variables hold that are looked into.
-/
import Derived.Test.YtcfdlffjghlghaaChecked
import Derived.Test.YtcfdlffjghlghaaA15
namespace Go.Proofs.Ytcfdlffjghlghaa
set_option maxRecDepth 100000
open Go.RowKit
def gTab : Nat → Option (List Seg) := fun _ => none
end Go.Proofs.Ytcfdlffjghlghaa
