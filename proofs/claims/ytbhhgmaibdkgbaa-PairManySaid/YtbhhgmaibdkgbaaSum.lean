/-
  The walks of sponge.Sum and sponge.Derive.
-/
import Derived.Test.YtbhhgmaibdkgbaaEnd2
import Derived.Test.YtbhhgmaibdkgbaaRowR
namespace Go.Proofs.Ytbhhgmaibdkgbaa
set_option maxRecDepth 100000
open Go.RowKit

end Go.Proofs.Ytbhhgmaibdkgbaa
