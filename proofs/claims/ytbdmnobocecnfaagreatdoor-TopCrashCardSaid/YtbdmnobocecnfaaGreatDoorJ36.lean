/-
  Parties: welcomes.
-/
import Derived.Test.YtbdmnobocecnfaaGreatDoorJ35
namespace Go.Proofs.YtbdmnobocecnfaaGreatDoor
set_option linter.unusedVariables false
set_option linter.unusedSimpArgs false
set_option maxRecDepth 100000
open Go.RowKit
section
open Pm
attribute [local irreducible] condK LoopA regA powI scal mulI isI fourB deriveW numB numsB bodyB nodeW nextW viewHV doR chkV planL sealB boxD keyZ helD commonI placeI
theorem joinS_big{l m:List Seg}(h:2≤m.length):joinS l m=l++m:=by
 unfold joinS
 split<;>first|rfl|(simp at h)
theorem place_in:∀a<8,∀b<8,a≠b→0≤idx3 (((b:Nat):Int) / 2*4+1) ((b:Int) / 4*8+3) 7 (if leafB (a:Int)=true∧leafB (b:Int)=true then(if(a:Int)=b then 2*(a:Int)else if(a:Int) / 2=b / 2 then(a:Int) / 2*4+1 else if(a:Int) / 4=b / 4 then(a:Int) / 4*8+3 else 7)else 0)∧
  idx3 (((b:Nat):Int) / 2*4+1) ((b:Int) / 4*8+3) 7 (if leafB (a:Int)=true∧leafB (b:Int)=true then(if(a:Int)=b then 2*(a:Int)else if(a:Int) / 2=b / 2 then(a:Int) / 2*4+1 else if(a:Int) / 4=b / 4 then(a:Int) / 4*8+3 else 7)else 0)<3:=by decide+kernel
theorem place_bd{j:Nat}(hj:j<8){lf:Int}(h0:0≤lf)(h1:lf<8)(hne:(j:Int)≠lf):0≤placeI lf (commonI (j:Nat) lf)∧placeI lf (commonI (j:Nat) lf)<3:=by
 obtain⟨n,rfl⟩:=Int.eq_ofNat_of_zero_le h0
 have h:=place_in j hj n (by omega) (by omega)
 unfold placeI commonI
 exact h
theorem welN_le(ng:List Bool):∀j,welN ng j≤j
 |0=>Nat.le_refl _
 |j+1=>by
  have:=welN_le ng j
  rw[welN]
  split<;>omega
noncomputable def envR2:EnvX:=envR1.add 128 joinS' concatS_ok ⟨_,Tryz.func128,by kernel_rfl,by kernel_rfl⟩
set_option maxHeartbeats 16000000 in
theorem welcomes_fn(q:PS)(ng:List Bool)(joint tag draw:List UInt8)(hf:leafB q.lf=true)(hng:∀j:Nat,ng.getD j false=true→(j:Int)≠q.lf):
  FnMO 88 0 (.var (pSegs q)) [.agg [.bools 8 ng],.agg [.bytes 32 joint],.agg [.bytes 32 tag],.agg [.bytes 32 draw]]
   (.o 165 108 (welN ng 8) (welTo (welSegs q q.ab joint tag draw) ng 8)) (.var (pSegs q)):=by
 refine fnM_lens fun hq ha=>?_
 have hj32:joint.length=32:=ha.2.1.1
 have hab:q.ab.length=96:=hq.2.2.2.2.2.2.2.2.1
 clear ha hq
 refine fnMA (E:=envR2) Tryz.func88 Tryz.ntmps88 ?_
 obtain⟨f0,f1⟩:=leafB_t hf
 refine agow ?_;(try exact⟨⟩)
 have hW:∀j,welSegs q q.ab joint tag draw j=[.ints .i64 2 [(j:Int),q.lf],.ints .i64 1 [q.e],.ints .i64 31 q.zs,.bools 8 q.ad,.ints .i64 1 [q.k],.bytes 32 q.ch,.gen 1 [.row (welBox q q.ab joint draw j).length [.bytes (welBox q q.ab joint draw j).length (welBox q q.ab joint draw j)]],.bytes 32 tag]:=fun j=>rfl
 have hB:∀j,welBox q q.ab joint draw j=sealB (q.zs.getD (j*2+1) 0) (scal (helD draw j)) (joint++abK q.ab (placeI q.lf (commonI j q.lf)).toNat):=fun j=>rfl
 generalize welSegs q q.ab joint tag draw=W at*
 generalize welBox q q.ab joint draw=B at*
 refine StopL.mk (loop_forN [0,7,8,9,11,17,18] [0,1,2,3,4,5] 11 165 108 [] 8 (fun j=>⟨[.ptr 0 0,.dead,.dead,.dead,.dead,.dead,.dead,.ptr 2 0,.ptr 3 0,.ptr 4 0,.dead,.own 5 (welN ng j),.dead,.dead,.dead,.dead,.dead,.d (.agg [.bools 8 ng]),.d (.v (.int .i64 (j:Nat))),.dead,.dead,.dead,.dead,.dead,.dead,.dead,.dead,.dead,.dead,.dead,.dead,.dead,.dead,.dead,.dead,.dead,.dead,.dead,.dead,.dead,.dead,.dead,.dead,.dead,.dead,.dead,.dead,.dead,.dead,.dead,.dead,.dead,.dead,.dead,.dead,.dead,.dead,.dead,.dead,.dead,.dead,.dead,.dead,.dead,.dead,.dead,.dead,.dead,.dead,.dead,.dead,.dead,.dead,.dead,.dead,.dead,.dead,.dead,.dead],[some (.var (pSegs q)),some (.var [.bools 8 ng]),some (.var [.bytes 32 joint]),some (.var [.bytes 32 tag]),some (.var [.bytes 32 draw]),some (.sl 165 108 (welN ng j) (welTo W ng j))]⟩) ?_)
 intro j hj hl
 by_cases h:j<8
 ·have h1:(j:Int)<8:=by omega
  cases hb:ng.getD j false with
  |false=>
   have e1:welN ng (j+1)=welN ng j:=by rw[welN,hb];rfl
   have e2:welTo W ng (j+1)=welTo W ng j:=by rw[welTo,hb];rfl
   refine agow ?_;(try exact⟨⟩)
   refine hl.go h [0,7,8,9,11,17,18] [0,1,2,3,4,5] ?_
   rw[e1,e2]
   rfl
  |true=>
   have e1:welN ng (j+1)=welN ng j+1:=by rw[welN,hb];rfl
   have e2:welTo W ng (j+1)=joinS (welTo W ng j) (W j):=by rw[welTo,hb,if_pos rfl,joinS_big (by rw[hW];simp)]
   obtain⟨p0,p1⟩:=place_bd h f0 f1 (hng j hb)
   have hwn:=welN_le ng j
   refine agow ?_;(try exact⟨⟩)
   refine hl.go h [0,7,8,9,11,17,18] [0,1,2,3,4,5] ?_
   rw[e1,e2,hW,hB]
   unfold abK helD
   rfl
 ·obtain rfl:j=8:=by omega
  have h1:¬(8:Int)<8:=by omega
  refine agow ?_;(try exact⟨⟩)
end
end Go.Proofs.YtbdmnobocecnfaaGreatDoor
