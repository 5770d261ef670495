/-
  The document's parties: who joins.
-/
import Derived.Test.YtjhgelfnmhdihaaGreatDoorJ46
import Derived.Test.YtjhgelfnmhdihaaGreatDoorJ42
import Derived.Test.YtjhgelfnmhdihaaGreatDoorJ45
namespace Go.Proofs.YtjhgelfnmhdihaaGreatDoor
set_option linter.unusedVariables false
set_option linter.unusedSimpArgs false
set_option maxRecDepth 100000
open Go.RowKit
section
open Pm
attribute [local irreducible] aU aZ bR aA au dB cO aF bZ aN aT av ak aR cZ bX aQ bK gB iC aD bA aO jW dJ bW bH aH bT fU bJ bg gY aJ nk qP kF bn fV eD dU eT bq aC
noncomputable def aN6:ay:=Rj.add 88 VN (Cx Sv) ⟨_,Tryz.func88,by kernel_rfl,by kernel_rfl⟩
noncomputable def Od:ay:=aN6.add 62 SK M9 ⟨_,Tryz.func62,by kernel_rfl,by kernel_rfl⟩
theorem am0{u:List UInt8}(hu:u.length=32){i:Nat}(hi:i<15):List.take 32 (List.drop (i*32) (List.take (i*32) gY++(u++List.drop (i*32+32) gY)))=u:=by
 have:=iQ (j:=i) jA hu hi hi
 rw[if_pos rfl]at this
 exact this
theorem H6{w:Wc}(h0:0≤w.lf)(h1:w.lf<8):(jB w=0→aD w.fr w.lf=w.lf / 2*4+1)∧(jB w=1→aD w.fr w.lf≠w.lf / 2*4+1∧aD w.fr w.lf=w.lf / 4*8+3)∧(jB w=2→aD w.fr w.lf≠w.lf / 2*4+1∧aD w.fr w.lf≠w.lf / 4*8+3∧aD w.fr w.lf=7):=by
 unfold jB
 have e:∀v:Int,aO w.lf v=if v=w.lf / 2*4+1 then 0 else if v=w.lf / 4*8+3 then 1 else if v=7 then 2 else -1:=fun v=>by
  unfold aO qc
  rfl
 rw[e]
 refine⟨fun h=>?_,fun h=>?_,fun h=>?_⟩
 ·by_cases c1:aD w.fr w.lf=w.lf / 2*4+1
  ·exact c1
  ·rw[if_neg c1]at h
   split at h
   ·omega
   ·split at h<;>omega
 ·by_cases c1:aD w.fr w.lf=w.lf / 2*4+1
  ·rw[if_pos c1]at h;omega
  ·rw[if_neg c1]at h
   by_cases c2:aD w.fr w.lf=w.lf / 4*8+3
   ·exact⟨c1,c2⟩
   ·rw[if_neg c2]at h
    split at h<;>omega
 ·by_cases c1:aD w.fr w.lf=w.lf / 2*4+1
  ·rw[if_pos c1]at h;omega
  ·rw[if_neg c1]at h
   by_cases c2:aD w.fr w.lf=w.lf / 4*8+3
   ·rw[if_pos c2]at h;omega
   ·rw[if_neg c2]at h
    by_cases c3:aD w.fr w.lf=7
    ·exact⟨c1,c2,c3⟩
    ·rw[if_neg c3]at h;omega
end
section
open Pm
attribute [local irreducible] aU aZ bR aA au dB cO aF bZ aN aT av ak aR cZ bX aQ bK gB iC aD bA aO jW dJ bW bH aH bT fU bJ bg gY aJ nk qP kF bn fV eD dU eT bq aC
set_option maxHeartbeats 8000000 in
theorem VY(h:List UInt8)(w:Wc){L:List Int}(hL:L=eT h)
  (ho:dU w.e w.zs w.ad w.k=false∨(dU w.e w.zs w.ad w.k=true∧(w.lf<0∨w.lf≥8∨(0≤w.lf∧w.lf<8∧(List.take 2 (List.drop (w.lf.toNat*2) w.zs)≠L∨(List.take 2 (List.drop (w.lf.toNat*2) w.zs)=L∧(bn w.zs w.fr=false∨(bn w.zs w.fr=true∧w.fr=w.lf)))))))):
  aP 34 [.agg [.bytes 32 h],.agg (jH w)] (.t [.v (.pointer none),.v (.int .i64 10)]):=by
 refine dK (E:=Od) Tryz.func34 Tryz.ntmps34 ?_
 rcases ho with a1|⟨a1,ho⟩
 ·refine aj ?_;(try exact⟨⟩)
 rcases ho with a2|a2|⟨b0,b1,ho⟩
 ·refine aj ?_;(try exact⟨⟩)
 ·have a3:¬w.lf<0:=by omega
  refine aj ?_;(try exact⟨⟩)
 have a2:¬w.lf<0:=by omega
 have a3:¬w.lf≥8:=by omega
 have HL:=Lib.hid hL
 have HO:=Lib.hid ho
 clear hL ho
 refine aj ?_;(try exact⟨⟩)
 intro L' hL'
 obtain rfl:L'=L:=hL'.trans HL.out.symm
 clear hL' HL
 rcases HO.out with a5|⟨a5,ho⟩
 ·have g5:(!bf [Seg.ints .i64 2 (List.take 2 (List.drop (w.lf.toNat*2) w.zs))] [Seg.ints .i64 2 L'])=true:=by simp[bf,a5]
  refine aj ?_;(try exact⟨⟩)
 have g5:(!bf [Seg.ints .i64 2 (List.take 2 (List.drop (w.lf.toNat*2) w.zs))] [Seg.ints .i64 2 L'])=false:=by simp[bf,a5]
 clear a5 HO
 rcases ho with a6|⟨a6,a4⟩
 ·refine aj ?_;(try exact⟨⟩)
 have g4:(w.fr==w.lf)=true:=by simpa using a4
 clear a4
 refine aj ?_;(try exact⟨⟩)
end
section
open Pm
attribute [local irreducible] aU aZ bR aA au dB cO aF bZ aN aT av ak aR cZ bX aQ bK gB iC aD bA aO jW dJ bW bH aH bT fU bJ bg gY aJ nk qP kF bn fV eD dU eT bq aC
set_option maxHeartbeats 8000000 in
theorem VZ(h:List UInt8)(w:Wc){L:List Int}(hL:L=eT h)(a1:dU w.e w.zs w.ad w.k=true)(b0:0≤w.lf)(b1:w.lf<8)(a5:List.take 2 (List.drop (w.lf.toNat*2) w.zs)=L)(a6:bn w.zs w.fr=true)(a4:w.fr≠w.lf)(hbare:oC w=false):
  aP 34 [.agg [.bytes 32 h],.agg (jH w)] (.t [.v (.pointer none),.v (.int .i64 10)]):=by
 have HB:=Lib.hid hbare
 clear hbare
 refine dK (E:=Od) Tryz.func34 Tryz.ntmps34 ?_
 have a2:¬w.lf<0:=by omega
 have a3:¬w.lf≥8:=by omega
 have hlb:aG w.lf=true:=by unfold aG;simp;omega
 have HL:=Lib.hid hL
 have g5:(!bf [Seg.ints .i64 2 (List.take 2 (List.drop (w.lf.toNat*2) w.zs))] [Seg.ints .i64 2 L])=false:=by simp[bf,a5]
 have g4:(w.fr==w.lf)=false:=by simpa using a4
 obtain⟨m0,m1⟩:=fA a6
 obtain⟨k,hk,hp,_⟩:=meets (a:=w.lf) (b:=w.fr) (by omega) (by omega) m0 m1 (fun e=>a4 e.symm)
 have hw:jB w=(k:Int):=hp
 obtain⟨p0,p1,p2⟩:=H6 (w:=w) (by omega) (by omega)
 have P0:=Lib.hid p0
 have P1:=Lib.hid p1
 have P2:=Lib.hid p2
 have HW:=Lib.hid hw
 clear hL a5 a4 hp p0 p1 p2 hw
 refine aj ?_;(try exact⟨⟩)
 intro L' hL'
 obtain rfl:L'=L:=hL'.trans HL.out.symm
 clear hL' HL
 refine aj ?_;(try exact⟨⟩)
 rcases(show k=0∨k=1∨k=2 by omega)with rfl|rfl|rfl
 ·have:=HB.out
  rw[bare_0 HW.out]at this
  cases this
 ·have hb:=HB.out
  rw[bare_1 HW.out]at hb
  obtain⟨c0,c1⟩:=P1.out HW.out
  have d0:(w.lf / 2*4+1 !=aD w.fr w.lf)=true:=by simpa using fun e=>c0 e.symm
  have n0:(w.zs.getD (16+(w.lf / 2*4+1).toNat) 0 !=0)=true:=by
   cases q:aL w.zs (16+n1 w.lf)with
   |true=>exact q
   |false=>rw[q]at hb;cases hb
  clear c0 c1 hb
  refine aM.mk (aB 4 ?_)
  refine aj ?_;(try exact⟨⟩)
 ·have hb:=HB.out
  rw[bare_2 HW.out]at hb
  obtain⟨c0,c1,c2⟩:=P2.out HW.out
  have d0:(w.lf / 2*4+1 !=aD w.fr w.lf)=true:=by simpa using fun e=>c0 e.symm
  have d1:(w.lf / 4*8+3 !=aD w.fr w.lf)=true:=by simpa using fun e=>c1 e.symm
  clear c0 c1 c2
  cases q:aL w.zs (16+n1 w.lf)with
  |true=>
   have n0:(w.zs.getD (16+(w.lf / 2*4+1).toNat) 0 !=0)=true:=q
   clear q hb
   refine aM.mk (aB 4 ?_)
   refine aj ?_;(try exact⟨⟩)
  |false=>
   have n0:(w.zs.getD (16+(w.lf / 2*4+1).toNat) 0 !=0)=false:=q
   have n3:(w.zs.getD (16+(w.lf / 4*8+3).toNat) 0 !=0)=true:=by
    rw[q]at hb
    cases q2:aL w.zs (16+n2 w.lf)with
    |true=>exact q2
    |false=>rw[q2]at hb;cases hb
   clear q hb
   refine aM.mk (aB 4 ?_)
   refine aj ?_;(try exact⟨⟩)
end
end Go.Proofs.YtjhgelfnmhdihaaGreatDoor
