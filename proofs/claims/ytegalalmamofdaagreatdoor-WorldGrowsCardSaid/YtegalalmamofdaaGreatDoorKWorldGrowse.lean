/- -/
import Derived.Test.YtegalalmamofdaaGreatDoorKWorldGrowsc
namespace Go.Proofs.YtegalalmamofdaaGreatDoor
set_option linter.all false
set_option maxRecDepth 100000
open Go.RowKit
set_option maxHeartbeats 8000000
section
open Pm
attribute [local irreducible] aN aQ bq aJ aI eY dL aD aC aF bn aY aj bR fC fu bT dH jm jO bg eG aZ mI fq eX bJ aT dB jF gU fF
theorem XB(p:PS)(h:List UInt8)(hf:aL p.lf=true):bV 146 0 (.var (aP p)) [.v (.int .i64 2),.agg [.bytes 32 h]] (.t [.agg [.bytes 32 (iF p h).2.1],.v (.bool (iF p h).1)]) (.var (aP (iF p h).2.2)):=by
 refine iH (E:=Fw) Tryz.func146 Tryz.ntmps146 ?_
 obtain⟨f0,f1⟩:=ig hf
 cases c2:upB p h 23 with
 |true=>
  rw[show iF p h=_ from if_pos c2]
  have g2:(aJ 4 (aI (aY h)) !=p.zs.getD 23 0)=true:=c2
  refine ah ?_
  refine aX.mk (aH 4 ?_)
  refine ah ?_;(try exact⟨⟩)
  try rfl
 |false=>
  rw[show iF p h=_ from if_neg fun x=>Bool.noConfusion (c2.symm.trans x)]
  have g2:(aJ 4 (aI (aY h)) !=p.zs.getD 23 0)=false:=c2
  refine ah ?_
  refine aX.mk (aH 4 ?_)
  refine ah ?_;(try exact⟨⟩)
  try rfl
theorem XA(p:PS)(h:List UInt8)(hf:aL p.lf=true):bV 146 0 (.var (aP p)) [.v (.int .i64 1),.agg [.bytes 32 h]] (.t [.agg [.bytes 32 (gK p h).2.1],.v (.bool (gK p h).1)]) (.var (aP (gK p h).2.2)):=by
 refine iH (E:=Fw) Tryz.func146 Tryz.ntmps146 ?_
 obtain⟨f0,f1⟩:=ig hf
 cases c1:upB p h (16+(p.lf / 4*8+3).toNat)with
 |true=>
  rw[show gK p h=_ from if_pos c1]
  have g1:(aJ 4 (aI (aY h)) !=p.zs.getD (16+(p.lf / 4*8+3).toNat) 0)=true:=c1
  refine ah ?_
  refine aX.mk (aH 4 ?_)
  refine ah ?_;(try exact⟨⟩)
  try rfl
 |false=>
  cases c2:upB (mZ p 1 h) (aj h) 23 with
  |true=>
   rw[show gK p h=_ from(if_neg fun x=>Bool.noConfusion (c1.symm.trans x)).trans (if_pos c2)]
   have g1:(aJ 4 (aI (aY h)) !=p.zs.getD (16+(p.lf / 4*8+3).toNat) 0)=false:=c1
   have g2:(aJ 4 (aI (aY (aj h))) !=p.zs.getD 23 0)=true:=c2
   refine ah ?_
   refine aX.mk (aH 4 ?_)
   refine ah ?_;(try exact⟨⟩)
   try rfl
  |false=>
   rw[show gK p h=_ from(if_neg fun x=>Bool.noConfusion (c1.symm.trans x)).trans (if_neg fun x=>Bool.noConfusion (c2.symm.trans x))]
   have g1:(aJ 4 (aI (aY h)) !=p.zs.getD (16+(p.lf / 4*8+3).toNat) 0)=false:=c1
   have g2:(aJ 4 (aI (aY (aj h))) !=p.zs.getD 23 0)=false:=c2
   refine ah ?_
   refine aX.mk (aH 4 ?_)
   refine ah ?_;(try exact⟨⟩)
   try rfl
theorem Xz(p:PS)(h:List UInt8)(hf:aL p.lf=true):bV 146 0 (.var (aP p)) [.v (.int .i64 0),.agg [.bytes 32 h]] (.t [.agg [.bytes 32 (nY p h).2.1],.v (.bool (nY p h).1)]) (.var (aP (nY p h).2.2)):=by
 refine iH (E:=Fw) Tryz.func146 Tryz.ntmps146 ?_
 obtain⟨f0,f1⟩:=ig hf
 cases c0:upB p h (16+(p.lf / 2*4+1).toNat)with
 |true=>
  rw[show nY p h=_ from if_pos c0]
  have g0:(aJ 4 (aI (aY h)) !=p.zs.getD (16+(p.lf / 2*4+1).toNat) 0)=true:=c0
  refine ah ?_
  refine aX.mk (aH 4 ?_)
  refine ah ?_;(try exact⟨⟩)
  try rfl
 |false=>
  cases c1:upB (mZ p 0 h) (aj h) (16+(p.lf / 4*8+3).toNat)with
  |true=>
   rw[show nY p h=_ from(if_neg fun x=>Bool.noConfusion (c0.symm.trans x)).trans (if_pos c1)]
   have g0:(aJ 4 (aI (aY h)) !=p.zs.getD (16+(p.lf / 2*4+1).toNat) 0)=false:=c0
   have g1:(aJ 4 (aI (aY (aj h))) !=p.zs.getD (16+(p.lf / 4*8+3).toNat) 0)=true:=c1
   refine ah ?_
   refine aX.mk (aH 4 ?_)
   refine ah ?_;(try exact⟨⟩)
   try rfl
  |false=>
   cases c2:upB (mZ (mZ p 0 h) 1 (aj h)) (aj (aj h)) 23 with
   |true=>
    rw[show nY p h=_ from(if_neg fun x=>Bool.noConfusion (c0.symm.trans x)).trans ((if_neg fun x=>Bool.noConfusion (c1.symm.trans x)).trans (if_pos c2))]
    have g0:(aJ 4 (aI (aY h)) !=p.zs.getD (16+(p.lf / 2*4+1).toNat) 0)=false:=c0
    have g1:(aJ 4 (aI (aY (aj h))) !=p.zs.getD (16+(p.lf / 4*8+3).toNat) 0)=false:=c1
    have g2:(aJ 4 (aI (aY (aj (aj h)))) !=p.zs.getD 23 0)=true:=c2
    refine ah ?_
    refine aX.mk (aH 4 ?_)
    refine ah ?_;(try exact⟨⟩)
    try rfl
   |false=>
    rw[show nY p h=_ from(if_neg fun x=>Bool.noConfusion (c0.symm.trans x)).trans ((if_neg fun x=>Bool.noConfusion (c1.symm.trans x)).trans (if_neg fun x=>Bool.noConfusion (c2.symm.trans x)))]
    have g0:(aJ 4 (aI (aY h)) !=p.zs.getD (16+(p.lf / 2*4+1).toNat) 0)=false:=c0
    have g1:(aJ 4 (aI (aY (aj h))) !=p.zs.getD (16+(p.lf / 4*8+3).toNat) 0)=false:=c1
    have g2:(aJ 4 (aI (aY (aj (aj h)))) !=p.zs.getD 23 0)=false:=c2
    refine ah ?_
    refine aX.mk (aH 4 ?_)
    refine ah ?_;(try exact⟨⟩)
    try rfl
end
end Go.Proofs.YtegalalmamofdaaGreatDoor
