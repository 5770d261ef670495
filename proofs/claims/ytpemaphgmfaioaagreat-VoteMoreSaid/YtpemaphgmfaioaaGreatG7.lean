/-
  What the package variables hold that are looked into.
-/
import Derived.Test.YtpemaphgmfaioaaGreatChecked
import Derived.Test.YtpemaphgmfaioaaGreatHA2
namespace Go.Proofs.YtpemaphgmfaioaaGreat
set_option maxRecDepth 100000
open Go.RowKit
def gTab : Nat → Option (List Seg) := fun _ => none
end Go.Proofs.YtpemaphgmfaioaaGreat
