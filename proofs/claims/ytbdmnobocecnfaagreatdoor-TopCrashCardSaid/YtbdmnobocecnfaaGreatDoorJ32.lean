/-
  Approvals: whether they are enough, by the document.
-/
import Derived.Test.YtbdmnobocecnfaaGreatDoorJ30
namespace Go.Proofs.YtbdmnobocecnfaaGreatDoor
set_option linter.unusedVariables false
set_option linter.unusedSimpArgs false
set_option maxRecDepth 100000
open Go.RowKit
section
open Pm
attribute [local irreducible] condK LoopA regA powI scal isI putL doR mayV numsB viewHV numB deriveW fourB mulI askW nonceW sigE sigS verW paperV admB chkE lastJ
end
section
open Pm
attribute [local irreducible] condK LoopA regA numB numsB boxB anyP idxP mayB bodyB
attribute [local irreducible] withinB
noncomputable def envCl:EnvX:=envCk
attribute [local irreducible] sigB
noncomputable def envCm:EnvX:=envCl
attribute [local irreducible] oddOpB
noncomputable def envCn:EnvX:=envCm
attribute [local irreducible] oddVoteB
noncomputable def envCo:EnvX:=envCn
end
section
open Pm
attribute [local irreducible] condK LoopA regA numB numsB boxB anyP idxP mayB withinB sigB oddOpB oddVoteB
noncomputable def envCp:EnvX:=envCo
attribute [local irreducible] bodyB
noncomputable def envCq:EnvX:=envCp
end
end Go.Proofs.YtbdmnobocecnfaaGreatDoor
