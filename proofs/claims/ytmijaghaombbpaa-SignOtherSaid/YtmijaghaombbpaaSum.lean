/-
  The walks of sponge.Sum and sponge.Derive.
-/
import Derived.Test.YtmijaghaombbpaaEnd2
import Derived.Test.YtmijaghaombbpaaRowR
namespace Go.Proofs.Ytmijaghaombbpaa
set_option maxRecDepth 100000
open Go.RowKit

end Go.Proofs.Ytmijaghaombbpaa
