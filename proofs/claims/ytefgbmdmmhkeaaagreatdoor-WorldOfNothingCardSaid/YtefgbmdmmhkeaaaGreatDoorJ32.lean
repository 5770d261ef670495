/-
  Approvals: whether they are enough, by the document.
-/
import Derived.Test.YtefgbmdmmhkeaaaGreatDoorJ30
namespace Go.Proofs.YtefgbmdmmhkeaaaGreatDoor
set_option linter.unusedVariables false
set_option linter.unusedSimpArgs false
set_option maxRecDepth 100000
open Go.RowKit
section
open Pm
attribute [local irreducible] condK LoopA regA powI scal isI putL numsB viewHV numB deriveW fourB mulI
end
section
open Pm
attribute [local irreducible] condK LoopA regA numB numsB boxB bodyB
end
section
open Pm
attribute [local irreducible] condK LoopA regA numB numsB boxB
attribute [local irreducible] bodyB
end
end Go.Proofs.YtefgbmdmmhkeaaaGreatDoor
