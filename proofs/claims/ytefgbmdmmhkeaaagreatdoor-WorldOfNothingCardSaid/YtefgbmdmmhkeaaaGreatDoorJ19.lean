/-
  Views: whether one may be.
-/
import Derived.Test.YtefgbmdmmhkeaaaGreatDoorJ18
namespace Go.Proofs.YtefgbmdmmhkeaaaGreatDoor
set_option linter.unusedVariables false
set_option linter.unusedSimpArgs false
set_option maxRecDepth 100000
open Go.RowKit
section
open Pm
attribute [local irreducible] condK LoopA regA
abbrev vSegs(e:Int)(zs:List Int)(ad:List Bool)(k:Int)(ch:List UInt8):List Seg:=[.ints .i64 1 [e],.ints .i64 31 zs,.bools 8 ad,.ints .i64 1 [k],.bytes 32 ch]
def admTo(zs:List Int)(ad:List Bool)(n:Nat):Bool:=(List.range n).all fun i=>!ad.getD i false||memL zs i
end
end Go.Proofs.YtefgbmdmmhkeaaaGreatDoor
