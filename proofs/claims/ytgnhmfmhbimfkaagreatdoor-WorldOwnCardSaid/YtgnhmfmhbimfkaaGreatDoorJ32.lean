/-
  Approvals: whether they are enough, by the document.
-/
import Derived.Test.YtgnhmfmhbimfkaaGreatDoorJ30
namespace Go.Proofs.YtgnhmfmhbimfkaaGreatDoor
set_option linter.unusedVariables false
set_option linter.unusedSimpArgs false
set_option maxRecDepth 100000
open Go.RowKit
section
open Pm
attribute [local irreducible] condK LoopA regA powI scal isI putL doR mayV numsB viewHV numB deriveW fourB mulI askW nonceW sigE sigS verW paperV admB chkE lastJ
end
section
open Pm
attribute [local irreducible] condK LoopA regA numB numsB boxB anyP idxP mayB bodyB
attribute [local irreducible] withinB
attribute [local irreducible] sigB
attribute [local irreducible] oddOpB
attribute [local irreducible] oddVoteB
end
section
open Pm
attribute [local irreducible] condK LoopA regA numB numsB boxB anyP idxP mayB withinB sigB oddOpB oddVoteB
attribute [local irreducible] bodyB
end
end Go.Proofs.YtgnhmfmhbimfkaaGreatDoor
