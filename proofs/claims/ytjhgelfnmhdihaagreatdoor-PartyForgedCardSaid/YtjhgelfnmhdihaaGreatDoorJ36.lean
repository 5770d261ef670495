/-
  Parties: welcomes.
-/
import Derived.Test.YtjhgelfnmhdihaaGreatDoorJ35
namespace Go.Proofs.YtjhgelfnmhdihaaGreatDoor
set_option linter.unusedVariables false
set_option linter.unusedSimpArgs false
set_option maxRecDepth 100000
open Go.RowKit
section
open Pm
attribute [local irreducible] aU aZ bR aA au dB cO bD aF bZ aN aT av ak aR cZ bX aQ bK gB bA iC aD aO
theorem Gm{l m:List Seg}(h:2≤m.length):jk l m=l++m:=by
 unfold jk
 split<;>first|rfl|(simp at h)
theorem Z5:∀a<8,∀b<8,a≠b→0≤qc (((b:Nat):Int) / 2*4+1) ((b:Int) / 4*8+3) 7 (if aG (a:Int)=true∧aG (b:Int)=true then(if(a:Int)=b then 2*(a:Int)else if(a:Int) / 2=b / 2 then(a:Int) / 2*4+1 else if(a:Int) / 4=b / 4 then(a:Int) / 4*8+3 else 7)else 0)∧
  qc (((b:Nat):Int) / 2*4+1) ((b:Int) / 4*8+3) 7 (if aG (a:Int)=true∧aG (b:Int)=true then(if(a:Int)=b then 2*(a:Int)else if(a:Int) / 2=b / 2 then(a:Int) / 2*4+1 else if(a:Int) / 4=b / 4 then(a:Int) / 4*8+3 else 7)else 0)<3:=by decide+kernel
theorem Z4{j:Nat}(hj:j<8){lf:Int}(h0:0≤lf)(h1:lf<8)(hne:(j:Int)≠lf):0≤aO lf (aD (j:Nat) lf)∧aO lf (aD (j:Nat) lf)<3:=by
 obtain⟨n,rfl⟩:=Int.eq_ofNat_of_zero_le h0
 have h:=Z5 j hj n (by omega) (by omega)
 unfold aO aD
 exact h
theorem J3(ng:List Bool):∀j,gD ng j≤j
 |0=>Nat.le_refl _
 |j+1=>by
  have:=J3 ng j
  rw[gD]
  split<;>omega
noncomputable def aD2:ay:=Rh.add 121 sD CZ ⟨_,Tryz.func121,by kernel_rfl,by kernel_rfl⟩
set_option maxHeartbeats 16000000 in
theorem M5(q:PS)(ng:List Bool)(joint tag draw:List UInt8)(hf:aG q.lf=true)(pI:∀j:Nat,ng.getD j false=true→(j:Int)≠q.lf):
  gq 56 0 (.var (bN q)) [.agg [.bools 8 ng],.agg [.bytes 32 joint],.agg [.bytes 32 tag],.agg [.bytes 32 draw]]
   (.o 88 108 (gD ng 8) (jV (jr q q.ab joint tag draw) ng 8)) (.var (bN q)):=by
 refine uI fun hq ha=>?_
 have bA6:joint.length=32:=ha.2.1.1
 have hab:q.ab.length=96:=hq.2.2.2.2.2.2.2.2.1
 clear ha hq
 refine mY (E:=aD2) Tryz.func56 Tryz.ntmps56 ?_
 obtain⟨f0,f1⟩:=dh hf
 refine aj ?_;(try exact⟨⟩)
 have hW:∀j,jr q q.ab joint tag draw j=[.ints .i64 2 [(j:Int),q.lf],.ints .i64 1 [q.e],.ints .i64 31 q.zs,.bools 8 q.ad,.ints .i64 1 [q.k],.bytes 32 q.ch,.gen 1 [.row (nK q q.ab joint draw j).length [.bytes (nK q q.ab joint draw j).length (nK q q.ab joint draw j)]],.bytes 32 tag]:=fun j=>rfl
 have hB:∀j,nK q q.ab joint draw j=bK (q.zs.getD (j*2+1) 0) (au (iC draw j)) (joint++dS q.ab (aO q.lf (aD j q.lf)).toNat):=fun j=>rfl
 generalize jr q q.ab joint tag draw=W at*
 generalize nK q q.ab joint draw=B at*
 refine aM.mk (jw [0,7,8,9,11,17,18] [0,1,2,3,4,5] 11 88 108 [] 8 (fun j=>⟨[.ptr 0 0,.ah,.ah,.ah,.ah,.ah,.ah,.ptr 2 0,.ptr 3 0,.ptr 4 0,.ah,.own 5 (gD ng j),.ah,.ah,.ah,.ah,.ah,.d (.agg [.bools 8 ng]),.d (.v (.int .i64 (j:Nat))),.ah,.ah,.ah,.ah,.ah,.ah,.ah,.ah,.ah,.ah,.ah,.ah,.ah,.ah,.ah,.ah,.ah,.ah,.ah,.ah,.ah,.ah,.ah,.ah,.ah,.ah,.ah,.ah,.ah,.ah,.ah,.ah,.ah,.ah,.ah,.ah,.ah,.ah,.ah,.ah,.ah,.ah,.ah,.ah,.ah,.ah,.ah,.ah,.ah,.ah,.ah,.ah,.ah,.ah,.ah,.ah,.ah,.ah,.ah,.ah],[some (.var (bN q)),some (.var [.bools 8 ng]),some (.var [.bytes 32 joint]),some (.var [.bytes 32 tag]),some (.var [.bytes 32 draw]),some (.sl 88 108 (gD ng j) (jV W ng j))]⟩) ?_)
 intro j hj hl
 by_cases h:j<8
 ·have h1:(j:Int)<8:=by omega
  cases hb:ng.getD j false with
  |false=>
   have e1:gD ng (j+1)=gD ng j:=by rw[gD,hb];rfl
   have e2:jV W ng (j+1)=jV W ng j:=by rw[jV,hb];rfl
   refine aj ?_;(try exact⟨⟩)
   refine hl.go h [0,7,8,9,11,17,18] [0,1,2,3,4,5] ?_
   rw[e1,e2]
   rfl
  |true=>
   have e1:gD ng (j+1)=gD ng j+1:=by rw[gD,hb];rfl
   have e2:jV W ng (j+1)=jk (jV W ng j) (W j):=by rw[jV,hb,if_pos rfl,Gm (by rw[hW];simp)]
   obtain⟨p0,p1⟩:=Z4 h f0 f1 (pI j hb)
   have hwn:=J3 ng j
   refine aj ?_;(try exact⟨⟩)
   refine hl.go h [0,7,8,9,11,17,18] [0,1,2,3,4,5] ?_
   rw[e1,e2,hW,hB]
   unfold dS iC
   rfl
 ·obtain rfl:j=8:=by omega
  have h1:¬(8:Int)<8:=by omega
  refine aj ?_;(try exact⟨⟩)
end
end Go.Proofs.YtjhgelfnmhdihaaGreatDoor
