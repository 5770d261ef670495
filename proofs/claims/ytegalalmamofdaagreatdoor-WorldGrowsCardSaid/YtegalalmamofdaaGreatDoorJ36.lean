/- -/
import Derived.Test.YtegalalmamofdaaGreatDoorJ35
namespace Go.Proofs.YtegalalmamofdaaGreatDoor
set_option linter.all false
set_option maxRecDepth 100000
open Go.RowKit
section
open Pm
attribute [local irreducible] aN aQ bq aJ aI eY dL bP aD aC aF bn aY aj bR fC fu bT dH jm eG jO bg aZ
theorem Yj{l m:List Seg}(h:2<=m.length):kT l m=l++m:=by
 unfold kT
 split<;>first|rfl|(simp at h)
theorem az1:∀a<8,∀b<8,a≠b->0<=vV (((b:Nat):Int) / 2*4+1) ((b:Int) / 4*8+3) 7 (if aL (a:Int)=true/\aL (b:Int)=true then(if(a:Int)=b then 2*(a:Int)else if(a:Int) / 2=b / 2 then(a:Int) / 2*4+1 else if(a:Int) / 4=b / 4 then(a:Int) / 4*8+3 else 7)else 0)/\
  vV (((b:Nat):Int) / 2*4+1) ((b:Int) / 4*8+3) 7 (if aL (a:Int)=true/\aL (b:Int)=true then(if(a:Int)=b then 2*(a:Int)else if(a:Int) / 2=b / 2 then(a:Int) / 2*4+1 else if(a:Int) / 4=b / 4 then(a:Int) / 4*8+3 else 7)else 0)<3:=by decide+kernel
theorem az0{j:Nat}(hj:j<8){lf:Int}(h0:0<=lf)(h1:lf<8)(hne:(j:Int)≠lf):0<=aZ lf (bg (j:Nat) lf)/\aZ lf (bg (j:Nat) lf)<3:=by
 obtain⟨n,rfl⟩:=Int.eq_ofNat_of_zero_le h0
 have h:=az1 j hj n (by omega) (by omega)
 unfold aZ bg
 exact h
theorem WV(ng:List Bool):∀j,fO ng j<=j
 |0=>Nat.le_refl _
 |j+1=>by
  have:=WV ng j
  rw[fO]
  split<;>omega
noncomputable def bi7:ak:=Vn.add 132 FV zi (.of Tryz.func132)
set_option maxHeartbeats 16000000 in
theorem QA(q:PS)(ng:List Bool)(joint tag draw:List UInt8)(hf:aL q.lf=true)(Cc:∀j:Nat,ng.getD j false=true->(j:Int)≠q.lf):
  bV 92 0 (.var (aP q)) [.agg [.bools 8 ng],.agg [.bytes 32 joint],.agg [.bytes 32 tag],.agg [.bytes 32 draw]]
   (.o 168 108 (fO ng 8) (sj (dK q q.ab joint tag draw) ng 8)) (.var (aP q)):=by
 refine FC fun hq ha=>?_
 have cJ6:joint.length=32:=ha.2.1.1
 have hab:q.ab.length=96:=hq.2.2.2.2.2.2.2.2.1
 clear ha hq
 refine iH (E:=bi7) Tryz.func92 Tryz.ntmps92 ?_
 obtain⟨f0,f1⟩:=ig hf
 refine ah ?_
 have hW:∀j,dK q q.ab joint tag draw j=[.ints .i64 2 [(j:Int),q.lf],.ints .i64 1 [q.e],.ints .i64 31 q.zs,.bools 8 q.ad,.ints .i64 1 [q.k],.bytes 32 q.ch,.gen 1 [.row (kF q q.ab joint draw j).length [.bytes (kF q q.ab joint draw j).length (kF q q.ab joint draw j)]],.bytes 32 tag]:=fun j=>rfl
 have hB:∀j,kF q q.ab joint draw j=dH (q.zs.getD (j*2+1) 0) (aI (jO draw j)) (joint++jl q.ab (aZ q.lf (bg j q.lf)).toNat):=fun j=>rfl
 generalize dK q q.ab joint tag draw=W at*
 generalize kF q q.ab joint draw=B at*
 refine aX.mk (qp [0,7,8,9,11,17,18] [0,1,2,3,4,5] 11 168 108 [] 8 (fun j=>⟨.ptr 0 0::.au::.au::.au::.au::.au::.au::.ptr 2 0::.ptr 3 0::.ptr 4 0::.au::.own 5 (fO ng j)::.au::.au::.au::.au::.au::.d (.agg [.bools 8 ng])::.d (.v (.int .i64 (j:Nat)))::dz 60 [],[some (.var (aP q)),some (.var [.bools 8 ng]),some (.var [.bytes 32 joint]),some (.var [.bytes 32 tag]),some (.var [.bytes 32 draw]),some (.sl 168 108 (fO ng j) (sj W ng j))]⟩) ?_)
 intro j hj hl
 by_cases h:j<8
 ·have h1:(j:Int)<8:=by omega
  cases hb:ng.getD j false with
  |false=>
   have e1:fO ng (j+1)=fO ng j:=by rw[fO,hb];rfl
   have e2:sj W ng (j+1)=sj W ng j:=by rw[sj,hb];rfl
   refine ah ?_
   refine hl.go h [0,7,8,9,11,17,18] [0,1,2,3,4,5] ?_
   rw[e1,e2]
   rfl
  |true=>
   have e1:fO ng (j+1)=fO ng j+1:=by rw[fO,hb];rfl
   have e2:sj W ng (j+1)=kT (sj W ng j) (W j):=by rw[sj,hb,if_pos rfl,Yj (by rw[hW];simp)]
   obtain⟨p0,p1⟩:=az0 h f0 f1 (Cc j hb)
   have hwn:=WV ng j
   refine ah ?_
   refine hl.go h [0,7,8,9,11,17,18] [0,1,2,3,4,5] ?_
   rw[e1,e2,hW,hB]
   unfold jl jO
   rfl
 ·obtain rfl:j=8:=by omega
  have h1:¬(8:Int)<8:=by omega
  refine ah ?_;(try exact⟨⟩)
end
end Go.Proofs.YtegalalmamofdaaGreatDoor
