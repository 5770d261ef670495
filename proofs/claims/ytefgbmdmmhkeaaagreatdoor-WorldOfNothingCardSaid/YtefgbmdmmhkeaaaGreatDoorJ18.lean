/-
  Ladders: secrets up a path.
-/
import Derived.Test.YtefgbmdmmhkeaaaGreatDoorJ17
import Derived.Test.YtefgbmdmmhkeaaaGreatDoorJ14
namespace Go.Proofs.YtefgbmdmmhkeaaaGreatDoor
set_option linter.unusedVariables false
set_option linter.unusedSimpArgs false
set_option maxRecDepth 100000
open Go.RowKit
section
open Pm
attribute [local irreducible] condK LoopA regA
noncomputable def envL1:EnvX:=((((env16.add 40 deriveS deriveS_ok ⟨_,Tryz.func40,by kernel_rfl,by kernel_rfl⟩).add 50 rderiveS rderiveS_ok ⟨_,Tryz.func50,by kernel_rfl,by kernel_rfl⟩).add
 64 fromS fromS_ok ⟨_,Tryz.func64,by kernel_rfl,by kernel_rfl⟩)).addM
 62 publicS publicS_ok ⟨_,Tryz.func62,by kernel_rfl,by kernel_rfl⟩
def nextW(h:List UInt8):List UInt8:=deriveW h (sb ⟨#[112,97,116,104]⟩) []
def nodeW(h:List UInt8):List UInt8:=deriveW h (sb ⟨#[110,111,100,101]⟩) []
theorem nextW_len(h:List UInt8):(nextW h).length=32:=sumW_length _
def nextS:List A→(Res→Prop)→Prop
 |[.agg [.bytes 32 h]],K=>K (.d (.agg [.bytes 32 (nextW h)]))
 |_,_=>False
theorem nextS_of{f:FuncId}(hx:∀h,FnO f [.agg [.bytes 32 h]] (.d (.agg [.bytes 32 (nextW h)]))):∀args K,nextS args K→∃r,FnO f args r∧K r:=by
 intro args K h
 unfold nextS at h
 split at h
 ·exact⟨_,hx _,h⟩
 ·exact h.elim
set_option maxHeartbeats 4000000 in
theorem next_ok(h:List UInt8):FnO 155 [.agg [.bytes 32 h]] (.d (.agg [.bytes 32 (nextW h)])):=by
 refine fnA (E:=envL1) Tryz.func155 Tryz.ntmps155 ?_
 refine ago ?_;(try exact⟨⟩)
 rfl
noncomputable def envL2:EnvX:=(envL1.add 155 nextS (nextS_of next_ok) ⟨_,Tryz.func155,by kernel_rfl,by kernel_rfl⟩)
def nodeS8:List A→(Res→Prop)→Prop
 |[.agg [.bytes 32 h]],K=>K (.p (.obj (KeyP (scal (nodeW h)))))
 |_,_=>False
theorem nodeS8_ok:∀args K,nodeS8 args K→∃r,FnO 77 args r∧K r:=by
 intro args K h
 unfold nodeS8 at h
 split at h
 ·refine⟨_,?_,h⟩
  refine fnA (E:=envL1) Tryz.func77 Tryz.ntmps77 ?_
  refine ago ?_;(try exact⟨⟩)
  rfl
 ·exact h.elim
noncomputable def envL3:EnvX:=(envL2.add 77 nodeS8 nodeS8_ok ⟨_,Tryz.func77,by kernel_rfl,by kernel_rfl⟩)
def upW(h:List UInt8):List UInt8:=nextW h++(nextW (nextW h)++nextW (nextW (nextW h)))
def upS8:List A→(Res→Prop)→Prop
 |[.agg [.bytes 32 h]],K=>K (.t [.agg [.bytes 96 (upW h)],.agg [.bytes 32 (nextW (nextW (nextW (nextW h))))]])
 |_,_=>False
set_option maxHeartbeats 4000000 in
theorem upS8_ok:∀args K,upS8 args K→∃r,FnO 112 args r∧K r:=by
 intro args K h
 unfold upS8 at h
 split at h
 ·refine⟨_,?_,h⟩
  refine fnA (E:=envL3) Tryz.func112 Tryz.ntmps112 ?_
  refine ago ?_;(try exact⟨⟩)
  refine StopL.mk (loop_unroll 4 ?_)
  refine ago ?_;(try exact⟨⟩)
  simp[upW,List.take_append,List.drop_append,nextW_len,List.take_of_length_le,List.drop_of_length_le]
 ·exact h.elim
end
section
open Pm
attribute [local irreducible] condK LoopA regA
end
section
open Pm
attribute [local irreducible] condK LoopA regA
def memL(zs:List Int)(k:Nat):Bool:=decide (leafP zs k≠[0,0])
def memB(zs:List Int)(i:Int):Bool:=leafB i&&memL zs i.toNat
end
section
def segLens:List Seg→Prop
 |[]=>True
 | .ints _ n zs::l=>zs.length=n∧segLens l
 | .bytes n bs::l=>bs.length=n∧segLens l
 | .bools n bs::l=>bs.length=n∧segLens l
 | .gen n asx::l=>asx.length=n∧segLens l
def argLens:List A→Prop
 |[]=>True
 | .agg l::r=>segLens l∧argLens r
 | .row _ l::r=>segLens l∧argLens r
 |_::r=>argLens r
theorem rl_lens{S:Nat→Prop}{w:World}:∀{l:List Seg} {cs:List Value},RL S w l cs→segLens l
 |_,_,.nil=>trivial
 |_,_,.ints h r=>⟨h,rl_lens r⟩
 |_,_,.bytes h r=>⟨h,rl_lens r⟩
 |_,_,.bools h r=>⟨h,rl_lens r⟩
 |_,_,.gen _ h r=>⟨h,rl_lens r⟩
theorem ras_lens{S:Nat→Prop}{w:World}:∀{l:List A} {vs:List Value},RAs S w l vs→argLens l
 |_,_,.nil=>trivial
 |_,_,.cons h r=>by
  have ih:=ras_lens r
  cases h with
  |v=>exact ih
  |agg h=>exact⟨rl_lens h,ih⟩
  |row h=>exact⟨rl_lens h,ih⟩
  |ref=>exact ih
  |sref=>exact ih
  |recs=>exact ih
  |clo=>exact ih
theorem fn_lens{P:Program}{G:Nat→Option (List Seg)}{f:FuncId}{args:List A}{res:Res}(h:argLens args→FnOK P G f args res):FnOK P G f args res:=
 fun S w vs hG ha=>h (ras_lens ha) S w vs hG ha
end
end Go.Proofs.YtefgbmdmmhkeaaaGreatDoor
