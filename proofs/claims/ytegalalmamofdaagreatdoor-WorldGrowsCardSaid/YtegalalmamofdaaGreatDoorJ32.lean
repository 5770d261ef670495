/- -/
import Derived.Test.YtegalalmamofdaaGreatDoorJ30
namespace Go.Proofs.YtegalalmamofdaaGreatDoor
set_option linter.all false
set_option maxRecDepth 100000
open Go.RowKit
section
open Pm
attribute [local irreducible] aN aQ bq aJ aI dL fM fC gF aF bR aC aD bP eY wE jP iV jI mh bW mQ Li vK
end
noncomputable section
open Pm
attribute [local irreducible] aN aQ bq aC aF pU jN lF dA bn
attribute [local irreducible] aU
def bR2:ak:=bR1
attribute [local irreducible] nV
def bR3:ak:=bR2
attribute [local irreducible] dh
def bR4:ak:=bR3
attribute [local irreducible] bL
def bR5:ak:=bR4
end
noncomputable section
open Pm
attribute [local irreducible] aN aQ bq aC aF pU jN lF dA aU nV dh bL
def bR6:ak:=bR5
attribute [local irreducible] bn
def ah3:ak:=bR6
end
end Go.Proofs.YtegalalmamofdaaGreatDoor
