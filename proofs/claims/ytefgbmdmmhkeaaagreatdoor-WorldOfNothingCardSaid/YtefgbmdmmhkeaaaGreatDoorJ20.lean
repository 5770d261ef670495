/-
  Views: operations with what is not their own.
-/
import Derived.Test.YtefgbmdmmhkeaaaGreatDoorJ19
namespace Go.Proofs.YtefgbmdmmhkeaaaGreatDoor
set_option linter.unusedVariables false
set_option linter.unusedSimpArgs false
set_option maxRecDepth 100000
open Go.RowKit
section
open Pm
attribute [local irreducible] condK LoopA regA
end
section
open Pm
attribute [local irreducible] condK LoopA regA isI
def usedB(zs:List Int)(s:Int):Bool:=(List.range 8).any fun i=>decide (zs.getD (i*2) 0=s)
def freeN(zs:List Int):Nat:=((List.range 8).find? fun i=>!memL zs i).getD 8
def fullB(zs:List Int):Bool:=(List.range 8).all fun i=>memL zs i
def errAdd(zs xs:List Int):Int:=if(isI (xs.getD 0 0)&&isI (xs.getD 1 0))=true then(if usedB zs (xs.getD 0 0)=true then 7 else if fullB zs=true then 12 else 0)else 7
theorem full_iff(zs:List Int):fullB zs=true↔∀i<8,memL zs i=true:=by
 unfold fullB
 rw[List.all_eq_true]
 simp
theorem two{o:List Int}(h:o.length=2):∃a b,o=[a,b]:=by
 rcases o with _|⟨a,_|⟨b,_|⟨c,l⟩⟩⟩<;>simp at h
 exact⟨a,b,rfl⟩
attribute [local irreducible] memL freeN usedB fullB putL errAdd memB
end
section
open Pm
attribute [local irreducible] condK LoopA regA isI memL freeN usedB fullB putL errAdd memB
def errRem(zs:List Int)(fr who:Int):Int:=if who=fr∨memB zs who=false then 7 else 0
def errPro(zs:List Int)(ad:List Bool)(who:Int):Int:=if memB zs who=false∨ad.getD who.toNat false=true then 7 else 0
def errDem(zs:List Int)(ad:List Bool)(who:Int):Int:=if memB zs who=false∨ad.getD who.toNat false=false then 7 else 0
def errLim(k:Int):Int:=if k<1∨k>8 then 7 else 0
theorem memB_bd{zs:List Int}{i:Int}(h:memB zs i=true):0≤i∧i<8:=by
 unfold memB at h
 simp[leafB]at h
 omega
end
end Go.Proofs.YtefgbmdmmhkeaaaGreatDoor
