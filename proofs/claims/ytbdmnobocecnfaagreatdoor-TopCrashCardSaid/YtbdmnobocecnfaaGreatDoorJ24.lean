/-
  Views: operations done, as the document does them.
-/
import Derived.Test.YtbdmnobocecnfaaGreatDoorJ23
namespace Go.Proofs.YtbdmnobocecnfaaGreatDoor
set_option linter.unusedVariables false
set_option linter.unusedSimpArgs false
set_option maxRecDepth 100000
open Go.RowKit
section
open Pm
attribute [local irreducible] condK LoopA regA isI memTo memL freeN usedB fullB putL errAdd isT memB mayV oddTo cntB runE opAt ownB
end
end Go.Proofs.YtbdmnobocecnfaaGreatDoor
