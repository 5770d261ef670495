/-
  The document's parties: who joins.
-/
import Derived.Test.YtjhgelfnmhdihaaGreatDoorJ48
namespace Go.Proofs.YtjhgelfnmhdihaaGreatDoor
set_option linter.unusedVariables false
set_option linter.unusedSimpArgs false
set_option maxRecDepth 100000
open Go.RowKit
section
open Pm
attribute [local irreducible] aU aZ bR aA au dB cO aF bZ aN aT av ak aR cZ bX aQ bK gB iC aD bA aO jW dJ bW bH aH bT fU bJ bg gY aJ nk qP kF bn fV eD dU eT bq aC
set_option maxHeartbeats 8000000 in
theorem V3(h:List UInt8)(w:Wc){L:List Int}(hL:L=eT h)(hbx:w.bx.length≤1000000)(a1:dU w.e w.zs w.ad w.k=true)(b0:0≤w.lf)(b1:w.lf<8)(a5:List.take 2 (List.drop (w.lf.toNat*2) w.zs)=L)(a6:bn w.zs w.fr=true)(a4:w.fr≠w.lf)(hbare:oC w=true){R:List A}
  (bp3:bJ (au (av (aC h))) w.bx≠0→R=[.v (.pointer none),.v (.int .i64 3)])
  (bp4:bJ (au (av (aC h))) w.bx=0→w.bx.length-12≠64→R=[.v (.pointer none),.v (.int .i64 10)])
  (hyes:bJ (au (av (aC h))) w.bx=0→w.bx.length-12=64→∀g r S H,(g,r,S,H)=kF w.zs w.lf (List.drop 32 (bg (au (av (aC h))) w.bx)) (fI gY (2*w.lf).toNat (aC h)) (Ie.set (2*w.lf).toNat true) (jB w).toNat→
   R=if g=false then[.v (.pointer none),.v (.int .i64 10)]else if eB (mX (List.take 32 (bg (au (av (aC h))) w.bx)) (aR w.e w.zs w.ad w.k w.ch))=w.tg then
    [.sref (dM ⟨w.e,w.zs,w.ad,w.k,w.ch,w.lf,au (jm h),aA 4 (au (jm h)),S,H,mX (List.take 32 (bg (au (av (aC h))) w.bx)) (aR w.e w.zs w.ad w.k w.ch),zY (mX (List.take 32 (bg (au (av (aC h))) w.bx)) (aR w.e w.zs w.ad w.k w.ch))⟩) 0,.v (.int .i64 0)]else[.v (.pointer none),.v (.int .i64 11)]):
  aP 34 [.agg [.bytes 32 h],.agg (jH w)] (.t R):=by
 have HB:=Lib.hid hbare
 have N1:=Lib.hid bp3
 have N2:=Lib.hid bp4
 have HY:=Lib.hid hyes
 clear hbare bp3 bp4 hyes
 refine dK (E:=Od) Tryz.func34 Tryz.ntmps34 ?_
 have a2:¬w.lf<0:=by omega
 have a3:¬w.lf≥8:=by omega
 have hlb:aG w.lf=true:=by unfold aG;simp;omega
 have HL:=Lib.hid hL
 have g5:(!bf [Seg.ints .i64 2 (List.take 2 (List.drop (w.lf.toNat*2) w.zs))] [Seg.ints .i64 2 L])=false:=by simp[bf,a5]
 have g4:(w.fr==w.lf)=false:=by simpa using a4
 obtain⟨m0,m1⟩:=fA a6
 obtain⟨k,hk,hp,_⟩:=meets (a:=w.lf) (b:=w.fr) (by omega) (by omega) m0 m1 (fun e=>a4 e.symm)
 have hw:jB w=(k:Int):=hp
 obtain⟨p0,p1,p2⟩:=H6 (w:=w) (by omega) (by omega)
 have P0:=Lib.hid p0
 have P1:=Lib.hid p1
 have P2:=Lib.hid p2
 have HW:=Lib.hid hw
 clear hL a5 a4 hp p0 p1 p2 hw
 refine aj ?_;(try exact⟨⟩)
 intro L' hL'
 obtain rfl:L'=L:=hL'.trans HL.out.symm
 clear hL' HL
 refine aj ?_;(try exact⟨⟩)
 have hcon:∀j:Nat,j≤k→(([w.lf / 2*4+1,w.lf / 4*8+3,7]:List Int).getD j 0 !=aD w.fr w.lf)=decide (j<k)∧(j<k→(w.zs.getD (16+(([w.lf / 2*4+1,w.lf / 4*8+3,7]:List Int).getD j 0).toNat) 0 !=0)=false∧0≤([w.lf / 2*4+1,w.lf / 4*8+3,7]:List Int).getD j 0∧([w.lf / 2*4+1,w.lf / 4*8+3,7]:List Int).getD j 0<15):=by
  have hb:=HB.out
  intro j hj
  rcases(show k=0∨k=1∨k=2 by omega)with rfl|rfl|rfl
  ·have c0:=P0.out HW.out
   obtain rfl:j=0:=by omega
   refine⟨?_,fun h=>absurd h (by omega)⟩
   show(w.lf / 2*4+1 !=_)=_
   rw[c0];simp
  ·obtain⟨c0,c1⟩:=P1.out HW.out
   rw[bare_1 HW.out]at hb
   rcases(show j=0∨j=1 by omega)with rfl|rfl
   ·refine⟨?_,fun _=>⟨?_,?_,?_⟩⟩
    ·show(w.lf / 2*4+1 !=_)=true
     simpa using fun e=>c0 e.symm
    ·cases q:aL w.zs (16+n1 w.lf)with
     |true=>rw[q]at hb;cases hb
     |false=>exact q
    ·show 0≤w.lf / 2*4+1;omega
    ·show w.lf / 2*4+1<15;omega
   ·refine⟨?_,fun h=>absurd h (by omega)⟩
    show(w.lf / 4*8+3 !=_)=_
    rw[c1];simp
  ·obtain⟨c0,c1,c2⟩:=P2.out HW.out
   rw[bare_2 HW.out]at hb
   simp only[Bool.and_eq_true,Bool.not_eq_true']at hb
   rcases(show j=0∨j=1∨j=2 by omega)with rfl|rfl|rfl
   ·refine⟨?_,fun _=>⟨hb.1,?_,?_⟩⟩
    ·show(w.lf / 2*4+1 !=_)=true
     simpa using fun e=>c0 e.symm
    ·show 0≤w.lf / 2*4+1;omega
    ·show w.lf / 2*4+1<15;omega
   ·refine⟨?_,fun _=>⟨hb.2,?_,?_⟩⟩
    ·show(w.lf / 4*8+3 !=_)=true
     simpa using fun e=>c1 e.symm
    ·show 0≤w.lf / 4*8+3;omega
    ·show w.lf / 4*8+3<15;omega
   ·refine⟨?_,fun h=>absurd h (by omega)⟩
    show((7:Int) !=_)=_
    rw[c2];simp
 have HC:=Lib.hid hcon
 clear hcon P0 P1 P2
 refine aM.mk (bV [2,3,6,7,8] [0,1,2] k (fun j=>⟨[.ah,.ah,.ptr 0 0,.ptr 1 0,.ah,.ah,.d (.v (.int .i64 (aD w.fr w.lf))),.ptr 2 0,.d (.v (.int .i64 (j:Nat))),.ah,.ah,.ah,.ah,.ah,.ah,.ah,.ah,.ah,.ah,.ah,.ah,.ah,.ah,.ah,.ah,.ah,.ah,.ah,.ah,.ah,.ah,.ah,.ah,.ah,.ah,.ah,.ah,.ah,.ah,.ah,.ah,.ah,.ah,.ah,.ah,.ah,.ah,.ah,.ah,.ah,.ah,.ah,.ah,.ah,.ah,.ah,.ah,.ah,.ah,.ah,.ah,.ah,.ah,.ah,.ah,.ah,.ah,.ah,.ah,.ah,.ah,.ah,.ah,.ah,.ah,.ah,.ah,.ah,.ah,.ah,.ah,.ah,.ah,.ah,.ah,.ah,.ah,.ah,.ah,.ah,.ah,.ah,.ah,.ah,.ah,.ah,.ah,.ah,.ah,.ah,.ah,.ah,.ah,.ah,.ah,.ah,.ah,.ah,.ah,.ah,.ah,.ah,.ah,.ah,.ah,.ah,.ah,.ah,.ah,.ah,.ah,.ah,.ah,.ah,.ah,.ah,.ah,.ah,.ah,.ah,.ah,.ah,.ah,.ah,.ah,.ah,.ah,.ah,.ah,.ah,.ah,.ah,.ah,.ah,.ah,.ah,.ah,.ah,.ah,.ah,.ah],[some (.var [.bytes 32 h]),some (.var (jH w)),some (.var [.ints .i64 3 [w.lf / 2*4+1,w.lf / 4*8+3,7]])]⟩) ?_)
 intro j hj hl
 have j3:(j:Int)<3:=by omega
 by_cases hjk:j<k
 ·obtain⟨c1,c2⟩:=HC.out j hj
  obtain⟨c2,c3,c4⟩:=c2 hjk
  rw[decide_eq_true hjk]at c1
  refine aj ?_;(try exact⟨⟩)
  refine hl.go hjk [2,3,6,7,8] [0,1,2] ?_
  rfl
 obtain rfl:j=k:=by omega
 have c1:=(HC.out j hj).1
 rw[decide_eq_false hjk]at c1
 clear hl
 have e1:IntKind.i64.wrap (2*w.lf)=2*w.lf:=dR (by omega) (by omega)
 have q0:0≤IntKind.i64.wrap (2*w.lf):=by rw[e1];omega
 have q1:IntKind.i64.wrap (2*w.lf)<15:=by rw[e1];omega
 clear e1
 refine aj ?_;(try exact⟨⟩)
 intro x y hx hy
 refine aj ?_;(try exact⟨⟩)
 intro u hu
 refine aj ?_;(try exact⟨⟩)
 have hu:u=aC h:=by unfold aC;exact hu
 have hul:u.length=32:=by rw[hu];exact nV h
 rw[am0 hul (show(2*w.lf).toNat<15 by omega)]
 have HU:=Lib.hid hu
 have HX:=Lib.hid hx
 have HYy:=Lib.hid hy
 have hcom:aD w.fr w.lf=(kr w.lf).getD j 0:=by
  have e:kr w.lf=[w.lf / 2*4+1,w.lf / 4*8+3,7]:=by unfold kr;rw[hlb];rfl
  rw[e]
  simpa using(bne_eq_false_iff_eq.1 c1).symm
 have HCO:=Lib.hid hcom
 clear hu hx hy hcom
 by_cases z:bJ (au (av u)) w.bx=0
 ·have z1:=decide_eq_true z
  have hBl:=oV z
  by_cases y2:w.bx.length-12=64
  ·rw[y2]at hBl
   have y3:32≤w.bx.length-12:=by omega
   have hz:=z
   rw[HU.out]at hz
   have HY:=Lib.hid (HY.out hz y2)
   clear z hz
   refine aj ?_;(try exact⟨⟩)
   have e32:(List.drop 32 (bg (au (av u)) w.bx)).length=32:=by rw[List.length_drop,hBl]
   have e33:List.take (w.bx.length-12-32) (List.drop 32 (bg (au (av u)) w.bx))=List.drop 32 (bg (au (av u)) w.bx):=List.take_of_length_le (by rw[e32,y2];decide)
   rw[e33]
   refine⟨by rw[e32];decide,?_⟩
   intro h1 hh1
   obtain rfl:h1=List.drop 32 (bg (au (av u)) w.bx):=hh1.trans (List.take_of_length_le (by rw[e32];decide))
   have hB3:32≤(bg (au (av u)) w.bx).length:=by omega
   clear hh1 e32 e33
   refine aj ?_;(try exact⟨⟩)
   refine⟨j,HCO.out,by omega,?_⟩
   intro g r S H hx2
   have hx2:(g,r,S,H)=kF w.zs w.lf (List.drop 32 (bg (au (av (aC h))) w.bx)) (fI gY (2*w.lf).toNat (aC h)) (Ie.set (2*w.lf).toNat true) (jB w).toNat:=by
    rw[HW.out,←HU.out,Int.toNat_natCast]
    unfold fI
    exact hx2
   have hR:=HY.out g r S H hx2
   rw[hR]
   clear hx2 hR HY
   cases g with
   |false=>
    rw[if_pos rfl]
    refine aj ?_;(try exact⟨⟩)
   |true=>
    rw[if_neg (show ¬true=false by decide)]
    refine aj ?_;(try exact⟨⟩)
    intro h2 hh2
    obtain rfl:h2=List.take 32 (bg (au (av u)) w.bx):=hh2
    refine aj ?_;(try exact⟨⟩)
    trace_state
    rw[←HU.out]
    by_cases t:eB (mX (List.take 32 (bg (au (av u)) w.bx)) (aR w.e w.zs w.ad w.k w.ch))=w.tg
    ·have g5:(!bf [Seg.bytes 32 (eB (mX (List.take 32 (bg (au (av u)) w.bx)) (aR w.e w.zs w.ad w.k w.ch)))] [Seg.bytes 32 w.tg])=false:=by simp[bf,t]
     rw[if_pos t]
     refine aj ?_;(try exact⟨⟩)
     trace_state
     rw[HX.out,HYy.out]
     rfl
    ·have g5:(!bf [Seg.bytes 32 (eB (mX (List.take 32 (bg (au (av u)) w.bx)) (aR w.e w.zs w.ad w.k w.ch)))] [Seg.bytes 32 w.tg])=true:=by simp[bf,t]
     rw[if_neg t]
     refine aj ?_;(try exact⟨⟩)
  ·have g6:(((w.bx.length-12:Nat):Int) !=64)=true:=by simp;omega
   have hR:=N2.out (by rw[←HU.out];exact z) y2
   rw[hR]
   clear z hR
   refine aj ?_;(try exact⟨⟩)
 ·have z1:=decide_eq_false z
  have z2:(bJ (au (av u)) w.bx !=0)=true:=by simpa using z
  have hR:=N1.out (by rw[←HU.out];exact z)
  rw[hR]
  clear z hR
  refine aj ?_;(try exact⟨⟩)
end
end Go.Proofs.YtjhgelfnmhdihaaGreatDoor
