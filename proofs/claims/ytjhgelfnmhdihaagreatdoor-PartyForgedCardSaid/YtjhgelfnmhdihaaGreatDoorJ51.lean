/-
  The law of parties: what a commit and its welcomes hold at most; who is welcome joins.
-/
import Derived.Test.YtjhgelfnmhdihaaGreatDoorJ50
namespace Go.Proofs.YtjhgelfnmhdihaaGreatDoor
set_option linter.unusedVariables false
set_option linter.unusedSimpArgs false
set_option maxRecDepth 100000
open Go.RowKit
section
open Pm
theorem am6{p:PS}{s:Vw}{n:Nat}{ops:List Int}{m:Nat}{vs:List Int}{d:List UInt8}{c:CS}(hc:c=bH p s n ops m vs d)(hn:n≤3000)(hm:m≤3000):c.n≤3000∧c.m≤3000∧c.k≤3000∧(∀j,j<c.k→(c.bx j).length≤6000)∧eD c≤900000:=by
 have e1:c.n=n:=by rw[hc];dsimp only[bH,iL]
 have e2:c.m=m:=by rw[hc];dsimp only[bH,iL]
 have e3:c.k≤24:=by rw[hc];dsimp only[bH,iL];exact oW _ _ _
 have e4:∀j,j<c.k→(c.bx j).length≤6000:=fun j _=>by
  rw[hc]
  dsimp only[bH,iL,qO,AP]
  exact Nat.le_trans (EN _ _ _) (by decide)
 refine⟨by omega,by omega,by omega,e4,?_⟩
 have:=w9 e4
 unfold eD
 omega
theorem az3{q:PS}(hq:Own q){n:Nat}{ops:List Int}{m:Nat}{vs:List Int}(hc:bW q n ops m vs=0)(d:List UInt8){s:Vw}(hs:s=dJ q q.lf n ops){q':PS}(hq':q'=aH q s n ops m vs d){C:Nat→Wc}(hC:C=wH q s q' d)(i:Nat)(hi:i<gD s.ng 8):
  (0≤(C i).lf∧(C i).lf<8∧(C i).bx.length≤1000000)∧∀t,kY (C i).zs (C i).lf.toNat=some t→(fE (bU (t:Nat)) (C i)).1=0:=by
 obtain⟨l1,l2⟩:=Lf hi
 have e1:(C i).lf=((qQ s.ng i:Nat):Int):=by rw[hC];dsimp only[wH,nZ]
 have e2:(C i).zs=q'.zs:=by rw[hC];dsimp only[wH,nZ]
 have e3:(C i).bx.length≤1000000:=by
  rw[hC]
  dsimp only[wH,nZ,nK]
  exact Nat.le_trans (EN _ _ _) (by decide)
 refine⟨⟨by omega,by omega,e3⟩,fun t ht=>?_⟩
 rw[e1,e2,Int.toNat_natCast]at ht
 obtain⟨p',h1,_⟩:=Cg hq hc d hs hq' l1 l2 (rZ ht)
 have e4:C i=nZ q' (fU (aC d)) (bT q d) (eB q'.ep) d (qQ s.ng i):=by rw[hC];dsimp only[wH]
 rw[e4,h1]
theorem VE{G:List (Option PS)}{fr:Nat}{q:PS}(hq:iE G fr=some q){n:Nat}{ops:List Int}{m:Nat}{vs:List Int}{d:List UInt8}(h:bW q n ops m vs=0){s:Vw}(hs:s=dJ q q.lf n ops){q':PS}(hq':q'=aH q s n ops m vs d){c:CS}(hc:c=bH q s n ops m vs d){N:Nat}(hN:N=gD s.ng 8){C:Nat→Wc}(hC:C=wH q s q' d):
  stepM G fr n ops m vs d=qd G fr q' c++iT C N:=by
 rw[VF hq h hs hq' hc,hN,hC]
 rfl
end
section
open Pm
attribute [local irreducible] aU aZ bR aA au dB cO aF bZ aN aT av ak aR cZ bX aQ bK gB iC aD bA aO jW dJ bW bH aH bT fU bJ bg gY aJ nk qP kF bn fV eD dU eT bq aC bU fE dQ eF wH bE
set_option maxHeartbeats 8000000 in
theorem af5(G:List (Option PS))(hg:Ig G)(fr:Nat)(q:PS)(hq:iE G fr=some q)(hfr:fr<G.length)(hG:G.length≤64)(o:Nat)(ops:List Int)(ho:o≤3000)(cap:Nat)(hcap:cap≤3000)(dr:Int)(V:List (List Int))(hV:V=bE G q.lf ops o cap G.length)(hE:bW q o ops V.length V.flatten≠0):
  aP 16 [.row G.length [.gen (G.length*2) (gL G)],.v (.int .i64 fr),.row o [.ints .i64 (o*5) ops],.v (.int .i64 cap),.v (.int .i64 dr),.v (.bool false)] (.d (.row G.length [.gen (G.length*2) (gL G)])):=by
 have hown:=hg.own fr q hq
 obtain⟨hw0,hw1⟩:=JU dr
 have hlf:aG q.lf=true:=by have:=hown.inv.lf0;have:=hown.inv.lf1;unfold aG;simp;omega
 obtain⟨g1,g2⟩:=OA G fr hfr
 rw[hq]at g1 g2
 have x6:(dQ q).lf=q.lf:=(tJ q).2.2.2.2.2.1
 have hVl:V.length≤3000:=by have:=(vw G q.lf ops o cap G.length).1;rw[hV];omega
 have hf1:(fr:Int)<(G.length:Int):=by omega
 have HV:=Lib.hid hV
 have HE:=Lib.hid hE
 have HX:=Lib.hid x6
 clear hV hE hg x6
 refine aE4 (E:=Iz) Tryz.func16 Tryz.ntmps16 (.of ?_)
 refine aj ?_;(try exact⟨⟩)
 rw[g2]
 refine aj ?_;(try exact⟨⟩)
 intro V' hV'
 obtain rfl:V'=V:=by rw[HV.out,hV',HX.out];rfl
 clear hV'
 refine aj ?_;(try exact⟨⟩)
 rw[g1]
 refine aj ?_;(try exact⟨⟩)
 intro e he
 have z0:e≠0:=by rw[he];exact HE.out
 have z1:=decide_eq_false z0
 have HEe:=Lib.hid he
 clear he
 refine aj ?_;(try exact⟨⟩)
 rw[g2]
 refine aj ?_;(try exact⟨⟩)
 intro e' he
 obtain rfl:e'=e:=he.trans HEe.out.symm
 clear he
 refine aj ?_;(try exact⟨⟩)
end
section
open Pm
attribute [local irreducible] aU aZ bR aA au dB cO aF bZ aN aT av ak aR cZ bX aQ bK gB iC aD bA aO jW dJ bW bH aH bT fU bJ bg gY aJ nk qP kF bn fV eD dU eT bq aC bU fE dQ eF wH bE
theorem OV{n:Nat}{l:List A}(h:0<n):loc [Seg.gen n l] 0=some ([],Seg.gen n l,[],0):=by
 unfold loc
 rw[if_pos (show 0<(Seg.gen n l).n from h)]
set_option maxHeartbeats 8000000 in
theorem af6(G:List (Option PS))(hg:Ig G)(fr:Nat)(q:PS)(hq:iE G fr=some q)(hfr:fr<G.length)(hG:G.length≤64)(o:Nat)(ops:List Int)(ho:o≤3000)(cap:Nat)(hcap:cap≤3000)(dr:Int)(st:Bool)(V:List (List Int))(hV:V=bE G q.lf ops o cap G.length)(hE:bW q o ops V.length V.flatten=0){H:List (Option PS)}(hH:H=stepM G fr o ops V.length V.flatten (wL dr)):
  aP 16 [.row G.length [.gen (G.length*2) (gL G)],.v (.int .i64 fr),.row o [.ints .i64 (o*5) ops],.v (.int .i64 cap),.v (.int .i64 dr),.v (.bool st)] (.d (.row H.length [.gen (H.length*2) (gL H)])):=by
 have hown:=hg.own fr q hq
 obtain⟨hw0,hw1⟩:=JU dr
 have hlf:aG q.lf=true:=by have:=hown.inv.lf0;have:=hown.inv.lf1;unfold aG;simp;omega
 obtain⟨g1,g2⟩:=OA G fr hfr
 rw[hq]at g1 g2
 have x6:(dQ q).lf=q.lf:=(tJ q).2.2.2.2.2.1
 have hVl:V.length≤3000:=by have:=(vw G q.lf ops o cap G.length).1;rw[hV];omega
 have hf1:(fr:Int)<(G.length:Int):=by omega
 have HV:=Lib.hid hV
 have HE:=Lib.hid hE
 have HX:=Lib.hid x6
 have HH:=Lib.hid hH
 have HG:=Lib.hid hg
 have HQ:=Lib.hid hq
 clear hV hE hg x6 hH hq
 refine aE4 (E:=Iz) Tryz.func16 Tryz.ntmps16 ?_
 refine AO.seq (.of ?_)
 refine aj ?_;(try exact⟨⟩)
 refine AO.seq (.of ?_)
 refine aj ?_;(try exact⟨⟩)
 rw[g2]
 refine aj ?_;(try exact⟨⟩)
 intro V' hV'
 obtain rfl:V'=V:=by rw[HV.out,hV',HX.out];rfl
 clear hV'
 refine aj ?_;(try exact⟨⟩)
 refine AO.seq (.of ?_)
 refine aj ?_;(try exact⟨⟩)
 rw[g1]
 refine aj ?_;(try exact⟨⟩)
 intro e he
 obtain rfl:e=0:=he.trans HE.out
 clear he
 refine aj ?_;(try exact⟨⟩)
 intro s c q' N C hs hc hq' hN hC
 obtain⟨b1,b2,b3,b4,b5⟩:=am6 hc ho hVl
 have hN8:N≤8:=by rw[hN];exact ai0 _
 have HS:=Lib.hid (show s=dJ q q.lf o ops from hs)
 have HC:=Lib.hid (show c=bH q s o ops V'.length V'.flatten (wL dr)from hc)
 have HQ':=Lib.hid (show q'=aH q s o ops V'.length V'.flatten (wL dr)from hq')
 have HN:=Lib.hid hN
 have HW:=Lib.hid (show C=wH q s q' (wL dr)from hC)
 clear hs hc hq' hN hC
 refine aj ?_;(try exact⟨⟩)
 refine AO.seq (.of ?_)
 refine aj ?_;(try exact⟨⟩)
 rw[g2]
 refine aj ?_;(try exact⟨⟩)
 intro e he
 obtain rfl:e=0:=he.trans HE.out
 clear he
 refine aj ?_;(try exact⟨⟩)
 intro s2 c2 q2 N2 C2 hs hc hq' hN hC
 obtain rfl:s2=s:=hs.trans HS.out.symm
 obtain rfl:c2=c:=hc.trans HC.out.symm
 obtain rfl:q2=q':=hq'.trans HQ'.out.symm
 obtain rfl:N2=N:=hN.trans HN.out.symm
 obtain rfl:C2=C:=hC.trans HW.out.symm
 clear hs hc hq' hN hC
 refine aj ?_;(try exact⟨⟩)
 have c4:((N2:Int) !=(N2:Int))=false:=by simp
 refine AO.seq (.of ?_)
 refine aj ?_;(try exact⟨⟩)
 cases st
 all_goals
  refine aj ?_;(try exact⟨⟩)
  refine AO.seq (.of ?_)
  refine aj ?_;(try exact⟨⟩)
  refine AO.seq (.of ?_)
  refine aj ?_;(try exact⟨⟩)
  refine AO.seq (.of ?_)
  refine aj ?_;(try exact⟨⟩)
  rw[OV (by omega)]
  refine And.intro rfl (And.intro (show 0+fr*2+2≤G.length*2 by omega) ?_)
  refine aj ?_;(try exact⟨⟩)
  obtain⟨T,hT⟩:∃T:Nat→List (Option PS),T=fun j=>mM G fr q2 c2 j:=⟨_,rfl⟩
  have hT0:gL (T 0)=List.take (fr*2) (gL G)++(.sref (bN q2) 0::.sref (dM (dQ q2)) 0::List.drop (fr*2+2) (gL G)):=by
   rw[hT]
   dsimp only
   rw[tookTo_0 hfr]
   exact(OB G fr (some q2) hfr).symm
  have hTk:∀j,(j=fr∨iE G j=none∨((iE G j).bind fun p=>kP p c2)=iE G j)→T (j+1)=T j:=fun j h=>by rw[hT];exact MS h
  have hTs:∀j,j<G.length→j≠fr→∀o,((iE G j).bind fun p=>kP p c2)=o→gL (T (j+1))=List.take (j*2) (gL (T j))++(Ah o::LV o::List.drop (j*2+2) (gL (T j))):=fun j h1 h2 o h3=>by
   rw[hT]
   dsimp only
   rw[Qq h1 h2 h3]
   exact(OB (mM G fr q2 c2 j) j o (by rw[kD];exact h1)).symm
  have hTn:T G.length=qd G fr q2 c2:=by rw[hT];exact Qp G fr q2 c2
  have HT0:=Lib.hid hT0
  have HTk:=Lib.hid hTk
  have HTs:=Lib.hid hTs
  have HTn:=Lib.hid hTn
  clear hT hT0 hTk hTs hTn
  refine AO.seq (.of ?_)
  refine aj ?_;(try exact⟨⟩)
  refine aM.mk (bV [0,1,14,15,18,19,22,23] [0,1,2] G.length (fun j=>⟨[.d (.row G.length [.gen (G.length*2) (gL G)]),.d (.v (.int .i64 (fr:Nat))),.ah,.ah,.ah,.ah,.ah,.ah,.ah,.ah,.ah,.ah,.ah,.ah,.ptr 0 0,.d (.recs N2 108 (fun i=>jH (C2 i))),.ah,.ah,.ptr 1 0,.d (.recs N2 108 (fun i=>jH (C2 i))),.ah,.ah,.own 2 G.length,.d (.v (.int .i64 (j:Nat))),.ah,.ah,.ah,.ah,.ah,.ah,.ah,.ah,.ah,.ah,.ah,.ah,.ah,.ah,.ah,.ah,.ah,.ah,.ah,.ah,.ah,.ah,.ah,.ah,.ah,.ah,.ah,.ah,.ah,.ah,.ah,.ah,.ah,.ah,.ah,.ah,.ah,.ah,.ah,.ah,.ah,.ah,.ah,.ah,.ah,.ah,.ah,.ah,.ah,.ah,.ah,.ah,.ah,.ah,.ah,.ah,.ah,.ah,.ah,.ah,.ah,.ah,.ah,.ah,.ah,.ah,.ah,.ah,.ah,.ah,.ah,.ah,.ah,.ah,.ah,.ah,.ah,.ah,.ah,.ah,.ah,.ah,.ah,.ah,.ah,.ah,.ah,.ah,.ah,.ah,.ah,.ah,.ah,.ah,.ah,.ah,.ah,.ah,.ah,.ah,.ah,.ah,.ah,.ah,.ah,.ah,.ah,.ah,.ah,.ah,.ah,.ah,.ah,.ah,.ah,.ah,.ah,.ah,.ah,.ah,.ah,.ah,.ah,.ah,.ah,.ah,.ah,.ah,.ah,.ah,.ah,.ah,.ah,.ah,.ah,.ah,.ah,.ah,.ah,.ah,.ah,.ah,.ah,.ah,.ah,.ah,.ah,.ah,.ah,.ah,.ah,.ah,.ah,.ah,.ah,.ah,.ah,.ah,.ah,.ah,.ah,.ah,.ah,.ah,.ah,.ah,.ah,.ah,.ah,.ah,.ah,.ah,.ah,.ah,.ah,.ah,.ah,.ah,.ah,.ah,.ah,.ah,.ah,.ah,.ah,.ah,.ah,.ah,.ah,.ah,.ah,.ah,.ah,.ah,.ah,.ah,.ah,.ah,.ah,.ah,.ah,.ah,.ah,.ah,.ah,.ah,.ah,.ah],[some (.var (jO c2)),some (.var (jO c2)),some (.sl 31 2 G.length [.gen (G.length*2) (gL (T j))])]⟩) ?_ (h2:=by dsimp only;rw[HT0.out];exact rfl))
  intro j hj hl
  by_cases h:j<G.length
  ·have j1:(j:Int)<(G.length:Int):=by omega
   have j2:j*2+2≤G.length*2:=by omega
   obtain⟨v1,v2⟩:=OA G j h
   by_cases jf:j=fr
   ·have c1:((j:Int)==(fr:Int))=true:=by simp[jf]
    have K:=Lib.hid (HTk.out j (.inl jf))
    clear jf
    refine aj ?_;(try exact⟨⟩)
    refine hl.go h [0,1,14,15,18,19,22,23] [0,1,2] ?_
    dsimp only
    rw[K.out]
    rfl
   have c1:((j:Int)==(fr:Int))=false:=by simp;omega
   cases hp:iE G j with
   |none=>
    have K:=Lib.hid (HTk.out j (.inr (.inl hp)))
    rw[hp]at v1 v2
    refine aj ?_;(try exact⟨⟩)
    rw[v2]
    refine aj ?_;(try exact⟨⟩)
    refine hl.go h [0,1,14,15,18,19,22,23] [0,1,2] ?_
    dsimp only
    rw[K.out]
    rfl
   |some p=>
    have hop:=HG.out.own j p hp
    have hpf:aG p.lf=true:=by have:=hop.inv.lf0;have:=hop.inv.lf1;unfold aG;simp;omega
    rw[hp]at v1 v2
    refine aj ?_;(try exact⟨⟩)
    rw[v2]
    refine aj ?_;(try exact⟨⟩)
    rw[v1]
    refine aj ?_;(try exact⟨⟩)
    intro e O he
    have HP:=Lib.hid (show(e,O)=eF p c2 from he)
    clear he
    refine aj ?_;(try exact⟨⟩)
    rw[v2]
    refine aj ?_;(try exact⟨⟩)
    intro e' O' he
    obtain⟨rfl,rfl⟩:=Prod.mk.inj ((show(e',O')=eF p c2 from he).trans HP.out.symm)
    clear he
    refine aj ?_;(try exact⟨⟩)
    by_cases z:e'=0
    ·have y:(e'==0)=true:=by simpa using z
     have t:((iE G j).bind fun p=>kP p c2)=O':=by
      rw[hp]
      show kP p c2=O'
      unfold kP
      rw[←HP.out,if_pos z]
     have K:=Lib.hid (HTs.out j h jf O' t)
     clear t z HP jf
     cases O' with
     |none=>
      refine aj ?_;(try exact⟨⟩)
      rw[OV (by omega)]
      refine And.intro rfl (And.intro (show 0+j*2+2≤G.length*2 by omega) ?_)
      refine aj ?_;(try exact⟨⟩)
      refine hl.go h [0,1,14,15,18,19,22,23] [0,1,2] ?_
      dsimp only
      rw[K.out]
      rfl
     |some r=>
      refine aj ?_;(try exact⟨⟩)
      rw[OV (by omega)]
      refine And.intro rfl (And.intro (show 0+j*2+2≤G.length*2 by omega) ?_)
      refine aj ?_;(try exact⟨⟩)
      refine hl.go h [0,1,14,15,18,19,22,23] [0,1,2] ?_
      dsimp only
      rw[K.out]
      rfl
    ·have y:(e'==0)=false:=by simpa using z
     have t:((iE G j).bind fun p=>kP p c2)=iE G j:=by
      rw[hp]
      show kP p c2=some p
      unfold kP
      rw[←HP.out,if_neg z]
     have K:=Lib.hid (HTk.out j (.inr (.inr t)))
     clear t z HP jf
     refine aj ?_;(try exact⟨⟩)
     refine hl.go h [0,1,14,15,18,19,22,23] [0,1,2] ?_
     dsimp only
     rw[K.out]
     rfl
  ·obtain rfl:j=G.length:=by omega
   have j1:¬(G.length:Int)<(G.length:Int):=by omega
   refine aj ?_;(try exact⟨⟩)
   have hwo:∀i,i<N2→(0≤(C2 i).lf∧(C2 i).lf<8∧(C2 i).bx.length≤1000000)∧∀t,kY (C2 i).zs (C2 i).lf.toNat=some t→(fE (bU (t:Nat)) (C2 i)).1=0:=fun i hi=>az3 hown HE.out (wL dr) HS.out HQ'.out HW.out i (by rw[←HN.out];exact hi)
   have hTl:(T G.length).length=G.length:=by rw[HTn.out,lD]
   have hj:=Uy (T G.length) C2 N2 (G.length:Int) hN8 (by omega) (fun i hi=>(hwo i hi).1) (fun i hi=>(hwo i hi).2)
   rw[hTl]at hj
   have hHe:H=T G.length++iT C2 N2:=by
    rw[HH.out,HTn.out]
    exact VE HQ.out HE.out HS.out HQ'.out HC.out HN.out HW.out
   rw[hHe]
   have HJN:=Lib.hid hj
   have HWO:=Lib.hid hwo
   clear hwo hTl hj hHe
   refine AO.seq (.of ?_)
   refine aj ?_;(try exact⟨⟩)
   refine aM.mk (bV [0,15,19,22,28] [0,1,2] N2 (fun j=>⟨[.d (.row G.length [.gen (G.length*2) (gL G)]),.ah,.ah,.ah,.ah,.ah,.ah,.ah,.ah,.ah,.ah,.ah,.ah,.ah,.ah,.d (.recs N2 108 (fun i=>jH (C2 i))),.ah,.ah,.ah,.d (.recs N2 108 (fun i=>jH (C2 i))),.ah,.ah,.own 2 G.length,.ah,.ah,.ah,.ah,.ah,.d (.v (.int .i64 (j:Nat))),.ah,.ah,.ah,.ah,.ah,.ah,.ah,.ah,.ah,.ah,.ah,.ah,.ah,.ah,.ah,.ah,.ah,.ah,.ah,.ah,.ah,.ah,.ah,.ah,.ah,.ah,.ah,.ah,.ah,.ah,.ah,.ah,.ah,.ah,.ah,.ah,.ah,.ah,.ah,.ah,.ah,.ah,.ah,.ah,.ah,.ah,.ah,.ah,.ah,.ah,.ah,.ah,.ah,.ah,.ah,.ah,.ah,.ah,.ah,.ah,.ah,.ah,.ah,.ah,.ah,.ah,.ah,.ah,.ah,.ah,.ah,.ah,.ah,.ah,.ah,.ah,.ah,.ah,.ah,.ah,.ah,.ah,.ah,.ah,.ah,.ah,.ah,.ah,.ah,.ah,.ah,.ah,.ah,.ah,.ah,.ah,.ah,.ah,.ah,.ah,.ah,.ah,.ah,.ah,.ah,.ah,.ah,.ah,.ah,.ah,.ah,.ah,.ah,.ah,.ah,.ah,.ah,.ah,.ah,.ah,.ah,.ah,.ah,.ah,.ah,.ah,.ah,.ah,.ah,.ah,.ah,.ah,.ah,.ah,.ah,.ah,.ah,.ah,.ah,.ah,.ah,.ah,.ah,.ah,.ah,.ah,.ah,.ah,.ah,.ah,.ah,.ah,.ah,.ah,.ah,.ah,.ah,.ah,.ah,.ah,.ah,.ah,.ah,.ah,.ah,.ah,.ah,.ah,.ah,.ah,.ah,.ah,.ah,.ah,.ah,.ah,.ah,.ah,.ah,.ah,.ah,.ah,.ah,.ah,.ah,.ah,.ah,.ah,.ah,.ah,.ah,.ah,.ah,.ah,.ah,.ah,.ah,.ah,.ah,.ah,.ah,.ah,.ah],[some (.var (jO c2)),some (.var (jO c2)),some (.sl 31 2 G.length [.gen (G.length*2) (gL (T G.length))])]⟩) ?_)
   intro i hi hl2
   by_cases hiN:i<N2
   ·have i1:(i:Int)<(N2:Int):=by omega
    have w4:(C2 i).bx.length≤140737488355328:=Nat.le_trans (HWO.out i hiN).1.2.2 (by decide)
    have w1:((C2 i).lf !=(C2 i).lf)=false:=by simp
    have w2:((C2 i).fr !=(C2 i).fr)=false:=by simp
    have w3:(!((⟨(C2 i).bx.toArray⟩:ByteArray).toList==(⟨(C2 i).bx.toArray⟩:ByteArray).toList))=false:=by simp
    refine aj ?_;(try exact⟨⟩)
    refine hl2.go hiN [0,15,19,22,28] [0,1,2] ?_
    rfl
   ·obtain rfl:i=N2:=by omega
    have i1:¬(i:Int)<(i:Int):=by omega
    refine aj ?_;(try exact⟨⟩)
    refine AO.seq (AO.region (Ns.aS4 4 ?_))
    refine aj ?_;(try exact⟨⟩)
    refine Ns.give rfl rfl rfl rfl (fun _=>rfl) rfl rfl rfl rfl HJN.out ⟨_,Tryz.func40,by kernel_rfl,by kernel_rfl⟩ (.of (Stop.out ?_))
    refine aj ?_;(try exact⟨⟩)
    refine .of ?_
    refine aj ?_;(try exact⟨⟩)
end
end Go.Proofs.YtjhgelfnmhdihaaGreatDoor
