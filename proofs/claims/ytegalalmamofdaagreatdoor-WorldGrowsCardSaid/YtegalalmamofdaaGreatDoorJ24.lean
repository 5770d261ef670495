/- -/
import Derived.Test.YtegalalmamofdaaGreatDoorJ23
namespace Go.Proofs.YtegalalmamofdaaGreatDoor
set_option linter.all false
set_option maxRecDepth 100000
open Go.RowKit
section
open Pm
attribute [local irreducible] aN aQ bq dL bK eH jv nJ nE fM iB wQ dS gF qK mJ jD opAt ownB
end
end Go.Proofs.YtegalalmamofdaaGreatDoor
