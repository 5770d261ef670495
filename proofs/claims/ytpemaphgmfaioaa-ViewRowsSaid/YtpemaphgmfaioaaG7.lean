/-
  What the package variables hold that are looked into.
-/
import Derived.Test.YtpemaphgmfaioaaChecked
import Derived.Test.YtpemaphgmfaioaaHA2
namespace Go.Proofs.Ytpemaphgmfaioaa
set_option maxRecDepth 100000
open Go.RowKit
def gTab : Nat → Option (List Seg) := fun _ => none
end Go.Proofs.Ytpemaphgmfaioaa
