/-
  Trees: each member below a node is under just one node of those by which it is reached.
-/
import Derived.Test.YtefgbmdmmhkeaaaGreatDoorJ16
import Derived.Test.YtefgbmdmmhkeaaaGreatDoorJ13
namespace Go.Proofs.YtefgbmdmmhkeaaaGreatDoor
set_option linter.unusedVariables false
set_option linter.unusedSimpArgs false
set_option maxRecDepth 100000
open Go.RowKit
section
attribute [local irreducible] condK LoopA regA
end
section
attribute [local irreducible] condK LoopA regA
def putL(zs xs:List Int)(i:Int):List Int:=
 if leafB i=true then(((zs.take (i.toNat*2)++(xs++zs.drop (i.toNat*2+2))).set (16+(i / 2*4+1).toNat) 0).set (16+(i / 4*8+3).toNat) 0).set (16+7) 0 else List.replicate 31 0
end
section
open Pm
attribute [local irreducible] condK LoopA regA
def leafP(zs:List Int)(k:Nat):List Int:=((zs.take 16).drop (k*2)).take 2
end
section
open Pm
attribute [local irreducible] condK LoopA regA
noncomputable def env15a:EnvX:=env12
theorem leafP_eq(zs:List Int){k:Nat}(hk:k<8):leafP zs k=(zs.drop (k*2)).take 2:=by
 unfold leafP
 rw[List.drop_take,List.take_take]
 congr 1;omega
end
section
open Pm
attribute [local irreducible] condK LoopA regA
theorem i4:isI 4=true:=by
 have h:=isI_four 1 (by decide) (by decide)
 have e:((pw 4 1:Nat):Int)=4:=by rw[pw_def];rfl
 rw[e]at h;exact h
theorem i0:isI 0=false:=by simp[isI]
end
section
open Pm
attribute [local irreducible] condK LoopA regA
noncomputable def env16:EnvX:=env15a
theorem leafP_set(zs:List Int){i m:Nat}{x:Int}(hi:i<8)(hm:16≤m):leafP (zs.set m x) i=leafP zs i:=by
 unfold leafP
 rw[List.take_set_of_le hm]
end
end Go.Proofs.YtefgbmdmmhkeaaaGreatDoor
