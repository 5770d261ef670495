/-
  Parties: welcomes.
-/
import Derived.Test.YtefgbmdmmhkeaaaGreatDoorJ35
namespace Go.Proofs.YtefgbmdmmhkeaaaGreatDoor
set_option linter.unusedVariables false
set_option linter.unusedSimpArgs false
set_option maxRecDepth 100000
open Go.RowKit
section
open Pm
attribute [local irreducible] condK LoopA regA powI scal mulI isI fourB deriveW numB numsB bodyB nodeW nextW viewHV sealB keyZ commonI
end
end Go.Proofs.YtefgbmdmmhkeaaaGreatDoor
