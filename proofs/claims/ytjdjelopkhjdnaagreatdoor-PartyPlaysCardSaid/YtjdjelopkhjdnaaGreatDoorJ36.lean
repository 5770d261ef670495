/-
  Parties: welcomes.
-/
import Derived.Test.YtjdjelopkhjdnaaGreatDoorJ35
namespace Go.Proofs.YtjdjelopkhjdnaaGreatDoor
set_option linter.unusedVariables false
set_option linter.unusedSimpArgs false
set_option maxRecDepth 100000
open Go.RowKit
section
open Pm
attribute [local irreducible] aV aZ bQ aA au dA cK bC aF bW aN aU ay ak aT dh bX aR bI fU bB iC aD aP
theorem F7{l m:List Seg}(h:2≤m.length):je l m=l++m:=by
 unfold je
 split<;>first|rfl|(simp at h)
theorem ZV:∀a<8,∀b<8,a≠b→0≤pY (((b:Nat):Int) / 2*4+1) ((b:Int) / 4*8+3) 7 (if aG (a:Int)=true∧aG (b:Int)=true then(if(a:Int)=b then 2*(a:Int)else if(a:Int) / 2=b / 2 then(a:Int) / 2*4+1 else if(a:Int) / 4=b / 4 then(a:Int) / 4*8+3 else 7)else 0)∧
  pY (((b:Nat):Int) / 2*4+1) ((b:Int) / 4*8+3) 7 (if aG (a:Int)=true∧aG (b:Int)=true then(if(a:Int)=b then 2*(a:Int)else if(a:Int) / 2=b / 2 then(a:Int) / 2*4+1 else if(a:Int) / 4=b / 4 then(a:Int) / 4*8+3 else 7)else 0)<3:=by decide+kernel
theorem ZU{j:Nat}(hj:j<8){lf:Int}(h0:0≤lf)(h1:lf<8)(hne:(j:Int)≠lf):0≤aP lf (aD (j:Nat) lf)∧aP lf (aD (j:Nat) lf)<3:=by
 obtain⟨n,rfl⟩:=Int.eq_ofNat_of_zero_le h0
 have h:=ZV j hj n (by omega) (by omega)
 unfold aP aD
 exact h
theorem JK(ng:List Bool):∀j,fP ng j≤j
 |0=>Nat.le_refl _
 |j+1=>by
  have:=JK ng j
  rw[fP]
  split<;>omega
noncomputable def aC4:av:=QV.add 96 sw CP ⟨_,Tryz.func96,by kernel_rfl,by kernel_rfl⟩
set_option maxHeartbeats 16000000 in
theorem MN(q:PS)(ng:List Bool)(joint tag draw:List UInt8)(hf:aG q.lf=true)(qd:∀j:Nat,ng.getD j false=true→(j:Int)≠q.lf):
  fK 42 0 (.var (bL q)) [.agg [.bools 8 ng],.agg [.bytes 32 joint],.agg [.bytes 32 tag],.agg [.bytes 32 draw]]
   (.o 79 108 (fP ng 8) (jO (ji q q.ab joint tag draw) ng 8)) (.var (bL q)):=by
 refine uz fun hq ha=>?_
 have bx9:joint.length=32:=ha.2.1.1
 have hab:q.ab.length=96:=hq.2.2.2.2.2.2.2.2.1
 clear ha hq
 refine mP (E:=aC4) Tryz.func42 Tryz.ntmps42 ?_
 obtain⟨f0,f1⟩:=cZ hf
 refine aj ?_;(try exact⟨⟩)
 have hW:∀j,ji q q.ab joint tag draw j=[.ints .i64 2 [(j:Int),q.lf],.ints .i64 1 [q.e],.ints .i64 31 q.zs,.bools 8 q.ad,.ints .i64 1 [q.k],.bytes 32 q.ch,.gen 1 [.row (nu q q.ab joint draw j).length [.bytes (nu q q.ab joint draw j).length (nu q q.ab joint draw j)]],.bytes 32 tag]:=fun j=>rfl
 have hB:∀j,nu q q.ab joint draw j=bI (q.zs.getD (j*2+1) 0) (au (iC draw j)) (joint++dO q.ab (aP q.lf (aD j q.lf)).toNat):=fun j=>rfl
 generalize ji q q.ab joint tag draw=W at*
 generalize nu q q.ab joint draw=B at*
 refine aM.mk (jk [0,7,8,9,11,17,18] [0,1,2,3,4,5] 11 79 108 [] 8 (fun j=>⟨[.ptr 0 0,.ah,.ah,.ah,.ah,.ah,.ah,.ptr 2 0,.ptr 3 0,.ptr 4 0,.ah,.own 5 (fP ng j),.ah,.ah,.ah,.ah,.ah,.d (.agg [.bools 8 ng]),.d (.v (.int .i64 (j:Nat))),.ah,.ah,.ah,.ah,.ah,.ah,.ah,.ah,.ah,.ah,.ah,.ah,.ah,.ah,.ah,.ah,.ah,.ah,.ah,.ah,.ah,.ah,.ah,.ah,.ah,.ah,.ah,.ah,.ah,.ah,.ah,.ah,.ah,.ah,.ah,.ah,.ah,.ah,.ah,.ah,.ah,.ah,.ah,.ah,.ah,.ah,.ah,.ah,.ah,.ah,.ah,.ah,.ah,.ah,.ah,.ah,.ah,.ah,.ah,.ah],[some (.var (bL q)),some (.var [.bools 8 ng]),some (.var [.bytes 32 joint]),some (.var [.bytes 32 tag]),some (.var [.bytes 32 draw]),some (.sl 79 108 (fP ng j) (jO W ng j))]⟩) ?_)
 intro j hj hl
 by_cases h:j<8
 ·have h1:(j:Int)<8:=by omega
  cases hb:ng.getD j false with
  |false=>
   have e1:fP ng (j+1)=fP ng j:=by rw[fP,hb];rfl
   have e2:jO W ng (j+1)=jO W ng j:=by rw[jO,hb];rfl
   refine aj ?_;(try exact⟨⟩)
   refine hl.go h [0,7,8,9,11,17,18] [0,1,2,3,4,5] ?_
   rw[e1,e2]
   rfl
  |true=>
   have e1:fP ng (j+1)=fP ng j+1:=by rw[fP,hb];rfl
   have e2:jO W ng (j+1)=je (jO W ng j) (W j):=by rw[jO,hb,if_pos rfl,F7 (by rw[hW];simp)]
   obtain⟨p0,p1⟩:=ZU h f0 f1 (qd j hb)
   have hwn:=JK ng j
   refine aj ?_;(try exact⟨⟩)
   refine hl.go h [0,7,8,9,11,17,18] [0,1,2,3,4,5] ?_
   rw[e1,e2,hW,hB]
   unfold dO iC
   rfl
 ·obtain rfl:j=8:=by omega
  have h1:¬(8:Int)<8:=by omega
  refine aj ?_;(try exact⟨⟩)
end
end Go.Proofs.YtjdjelopkhjdnaaGreatDoor
