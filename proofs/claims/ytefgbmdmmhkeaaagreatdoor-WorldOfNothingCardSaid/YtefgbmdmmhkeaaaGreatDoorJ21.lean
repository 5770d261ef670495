/-
  Views: operations in a row, as the program does them.
-/
import Derived.Test.YtefgbmdmmhkeaaaGreatDoorJ20
namespace Go.Proofs.YtefgbmdmmhkeaaaGreatDoor
set_option linter.unusedVariables false
set_option linter.unusedSimpArgs false
set_option maxRecDepth 100000
open Go.RowKit
section
open Pm
attribute [local irreducible] condK LoopA regA isI memL freeN usedB fullB putL errAdd memB
structure Vw where
 zs:List Int
 ad:List Bool
 k:Int
 ng:List Bool
 gn:List Bool
def errOp(s:Vw)(fr:Int)(o:List Int):Int:=
 if o.getD 0 0=1 then errAdd s.zs [o.getD 3 0,o.getD 4 0]else if o.getD 0 0=2 then errRem s.zs fr (o.getD 1 0)else if o.getD 0 0=3 then errPro s.zs s.ad (o.getD 1 0)else if o.getD 0 0=4 then errDem s.zs s.ad (o.getD 1 0)else errLim (o.getD 2 0)
def nextOp(s:Vw)(o:List Int):Vw:=
 if o.getD 0 0=1 then⟨putL s.zs [o.getD 3 0,o.getD 4 0] (freeN s.zs:Nat),s.ad,s.k,s.ng.set (freeN s.zs) true,s.gn⟩
 else if o.getD 0 0=2 then⟨putL s.zs [0,0] (o.getD 1 0),s.ad.set (o.getD 1 0).toNat false,s.k,s.ng.set (o.getD 1 0).toNat false,s.gn.set (o.getD 1 0).toNat true⟩
 else if o.getD 0 0=3 then⟨s.zs,s.ad.set (o.getD 1 0).toNat true,s.k,s.ng,s.gn⟩
 else if o.getD 0 0=4 then⟨s.zs,s.ad.set (o.getD 1 0).toNat false,s.k,s.ng,s.gn⟩
 else⟨s.zs,s.ad,o.getD 2 0,s.ng,s.gn⟩
end
section
open Pm
attribute [local irreducible] condK LoopA regA isI memL freeN usedB fullB putL errAdd memB errOp nextOp
abbrev F8:List Bool:=[false,false,false,false,false,false,false,false]
end
section
open Pm
attribute [local irreducible] condK LoopA regA isI memL freeN usedB fullB putL errAdd memB
theorem free_lt{zs:List Int}(h:fullB zs=false):freeN zs<8∧memL zs (freeN zs)=false:=by
 unfold freeN
 cases hf:(List.range 8).find? (fun i=>!memL zs i)with
 |none=>
  rw[List.find?_eq_none]at hf
  have:fullB zs=true:=(full_iff zs).2 fun i hi=>by
   have:=hf i (by simpa using hi)
   simpa using this
  rw[this]at h;cases h
 |some i=>
  have h1:=List.find?_some hf
  have h2:=List.mem_of_find?_eq_some hf
  exact⟨by simpa using h2,by simpa using h1⟩
end
end Go.Proofs.YtefgbmdmmhkeaaaGreatDoor
