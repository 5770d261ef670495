/-
 The statement of PartyGone is proved: whatever the input, the law's call returns true, and each argument reads behind it as before. The listed package variables hold what the program's text lays (the card ties them).
-/
import Derived.Test.YtjhgelfnmhdihaaGreatDoorJ52
import Derived.Test.YtjhgelfnmhdihaaGreatDoorDg
import Derived.Test.YtjhgelfnmhdihaaGreatDoorCards
import Derived.Test.YtjhgelfnmhdihaaGreatDoorTie
import Derived.ShutString
import Derived.ChangeOld
import Derived.Below
import Derived.SevenTiedAt
namespace Go.Proofs.YtjhgelfnmhdihaaGreatDoor
set_option linter.unusedSectionVars false
set_option linter.unusedVariables false
set_option linter.unusedSimpArgs false
set_option maxRecDepth 100000
open Go.RowKit
section
open Pm
def FB(G:List (Option PS)):Nat→Int
 |0=> -1
 |i+1=>if FB G i<0 then(match iE G i with|some _=>(i:Int)|none=> -1)else FB G i
theorem Gg(G:List (Option PS)):∀i:Nat,(FB G i= -1∧∀j,j<i→iE G j=none)∨∃(k:Nat) (q:PS),FB G i=(k:Int)∧k<i∧iE G k=some q
 |0=>.inl ⟨rfl,fun j hj=>by omega⟩
 |i+1=>by
  rcases Gg G i with⟨h1,h2⟩|⟨k,q,h1,h2,h3⟩
  ·rw[FB,h1,if_pos (by decide)]
   cases h:iE G i with
   |none=>
    refine .inl ⟨rfl,fun j hj=>?_⟩
    by_cases e:j=i
    ·rw[e];exact h
    ·exact h2 j (by omega)
   |some q=>exact .inr ⟨i,q,rfl,by omega,h⟩
  ·rw[FB,h1,if_neg (by omega)]
   exact .inr ⟨k,q,rfl,by omega,h3⟩
theorem fstA_none{G:List (Option PS)}{j:Nat}(hp:iE G j=none):FB G (j+1)=FB G j:=by
 rw[FB,hp]
 rcases Gg G j with⟨h1,_⟩|⟨i,q,h1,h2,h3⟩
 ·rw[h1,if_pos (by decide)]
 ·rw[h1,if_neg (by omega)]
theorem fstA_new{G:List (Option PS)}{j:Nat}{p:PS}(h:FB G j<0)(hp:iE G j=some p):FB G (j+1)=(j:Int):=by rw[FB,hp,if_pos h]
theorem fstA_old{G:List (Option PS)}{j i:Nat}(h:FB G j=(i:Int)):FB G (j+1)=(i:Int):=by rw[FB,h,if_neg (by omega)]
attribute [local irreducible] aU aZ bR aA au dB cO aF bZ aN aT av ak aR cZ bX aQ bK gB iC aD bA aO jW dJ bW bH aH bT fU bJ bg gY aJ nk qP kF bn fV eD dU eT bq aC bU fE dQ eF wH bE dV stepM wE uo aY iW pG FB Oh
set_option maxHeartbeats 4000000 in
theorem aR2(G:List (Option PS))(hg:Ig G)(hl:G.length≤1000)(k:Nat)(hk:k<G.length)(q0:PS)(hq0:iE G k=some q0):aP 18 [.row G.length [.gen (G.length*2) (gL G)]] (.d (.v (.bool true))):=by
 refine dK (E:=Oc) Tryz.func18 Tryz.ntmps18 ?_
 have HG:=Lib.hid hg
 have HQ:=Lib.hid hq0
 have hz:FB G 0= -1:=by unfold FB;rfl
 have HZ:=Lib.hid hz
 have HS:=Lib.hid (Gg G)
 clear hg hq0 hz
 refine aj ?_;(try exact⟨⟩)
 refine aM.mk (bV [0,3,4] [0] G.length (fun j=>⟨[.d (.row G.length [.gen (G.length*2) (gL G)]),.ah,.ah,.d (.v (.int .i64 (FB G j))),.d (.v (.int .i64 (j:Nat))),.ah,.ah,.ah,.ah,.ah,.ah,.ah,.ah,.ah,.ah,.ah,.ah,.ah,.ah,.ah,.ah,.ah,.ah,.ah,.ah,.ah,.ah,.ah,.ah,.ah,.ah,.ah,.ah,.ah,.ah,.ah,.ah,.ah,.ah,.ah,.ah,.ah,.ah,.ah,.ah,.ah,.ah,.ah,.ah,.ah],[none]⟩) ?_ (h2:=by dsimp only;rw[HZ.out];exact rfl))
 intro j hj hl
 by_cases h:j<G.length
 ·have i1:(j:Int)<(G.length:Int):=by omega
  have v1:=(OA G j h).1
  have j2:j*2+2≤G.length*2:=by omega
  cases hp:iE G j with
  |none=>
   rw[hp]at v1
   have v1:(gL G).getD (j*2) (.v undef)=.v (.pointer none):=v1
   refine aj ?_;(try exact⟨⟩)
   rw[v1]
   refine aj ?_;(try exact⟨⟩)
   refine hl.go h [0,3,4] [0] ?_
   have e:=fstA_none hp
   dsimp only
   rw[e]
   rfl
  |some p=>
   rw[hp]at v1
   have v1:(gL G).getD (j*2) (.v undef)=.sref (bN p) 0:=v1
   refine aj ?_;(try exact⟨⟩)
   rw[v1]
   refine aj ?_;(try exact⟨⟩)
   rcases HS.out j with⟨h1,h2⟩|⟨i,q,h1,h2,h3⟩
   ·have e:=Lib.hid (fstA_new (by omega) hp)
    have f:FB G j<0:=by omega
    clear h1 h2
    refine aj ?_;(try exact⟨⟩)
    rw[v1]
    refine aj ?_;(try exact⟨⟩)
    rw[v1]
    refine aj ?_;(try exact⟨⟩)
    rw[v1]
    refine aj ?_;(try exact⟨⟩)
    rw[v1]
    refine aj ?_;(try exact⟨⟩)
    refine hl.go h [0,3,4] [0] ?_
    dsimp only
    rw[e.out]
    rfl
   ·have e:=Lib.hid (fstA_old h1)
    have lk:=HG.out.like _ _ _ _ hp h3
    have v2:=(OA G i (by omega)).1
    rw[h3]at v2
    have v2:(gL G).getD (i*2) (.v undef)=.sref (bN q) 0:=v2
    have hv:bS p.e p.zs p.ad p.k p.ch=bS q.e q.zs q.ad q.k q.ch:=by rw[lk.e,lk.zs,lk.ad,lk.k,lk.ch]
    have hep:p.ep=q.ep:=lk.ep
    rw[h1]
    have HV:=Lib.hid hv
    have HEP:=Lib.hid hep
    clear h1 h3 lk hv hep
    refine aj ?_;(try exact⟨⟩)
    rw[v1]
    refine aj ?_;(try exact⟨⟩)
    rw[v2]
    refine aj ?_;(try exact⟨⟩)
    rw[HV.out]
    refine aj ?_;(try exact⟨⟩)
    rw[v1]
    refine aj ?_;(try exact⟨⟩)
    rw[v2]
    refine aj ?_;(try exact⟨⟩)
    rw[HEP.out]
    refine aj ?_;(try exact⟨⟩)
    refine hl.go h [0,3,4] [0] ?_
    dsimp only
    rw[e.out]
    rfl
 ·obtain rfl:j=G.length:=by omega
  have i1:¬(G.length:Int)<(G.length:Int):=by omega
  obtain⟨q0,hq0⟩:∃q,iE G k=some q:=⟨_,HQ.out⟩
  have f0:¬FB G G.length<0:=by
   rcases HS.out G.length with⟨h1,h2⟩|⟨i,q,h1,h2,h3⟩
   ·have:=h2 k hk
    rw[hq0]at this
    cases this
   ·rw[h1];omega
  have f1:FB G G.length≥0:=by omega
  refine aj ?_;(try exact⟨⟩)
  rw[decide_eq_true f1]
def aR1:List A→(bP→Prop)→Prop
 |[.row n [.gen m l]],K=>(∃G,n=G.length∧m=G.length*2∧l=gL G∧Ig G∧G.length≤1000∧∃k q,k<G.length∧iE G k=some q)∧K (.d (.v (.bool true)))
 |_,_=>False
theorem au7:∀args K,aR1 args K→∃r,aP 18 args r∧K r:=by
 intro args K h
 unfold aR1 at h
 split at h
 ·obtain⟨⟨G,rfl,rfl,rfl,hg,hl,k,q,hk,hq⟩,h⟩:=h
  exact⟨_,aR2 G hg hl k hk q hq,h⟩
 ·exact h.elim
noncomputable def by2:ay:=Oc.add 18 aR1 au7 ⟨_,Tryz.func18,by kernel_rfl,by kernel_rfl⟩
end
section
open Pm
attribute [local irreducible] cO aA au jm aC dA gu dU bU aI
def sN(w:Nat):List Int:=[2,(w:Int),0,0,0]
def aK2(q:PS)(w:Nat):Vw:=⟨dA q.zs [0,0] (w:Nat),q.ad.set w false,q.k,F8.set w false,F8.set w true⟩
theorem WK(w:Nat):F8.set w false=F8:=by
 rcases w with _|_|_|_|_|_|_|_|w<;>rfl
theorem bn4{i:Nat}{q:PS}(h:GV i 1 q)(i0:i<8){w:Nat}(w0:1≤w)(w1:w<i):cZ q.e ⟨q.zs,q.ad,q.k,F8,F8⟩ q.lf (sN w) 1=(0,aK2 q w):=by
 have z:bn q.zs q.lf=true:=by
  rw[h.lf]
  have:=Ba q.zs (w:=0) (by decide)
  rw[h.mem 0 (by decide)]at this
  rw[show(0:Int)=((0:Nat):Int)from rfl,this]
  simp;omega
 have zw:bn q.zs (w:Int)=true:=by rw[Ba _ (by omega),h.mem w (by omega)];simpa using w1
 refine KD h.own.may (by decide) rfl z ?_ ?_
 ·show gP q.lf [2,(w:Int),0,0,0] (0+1) 0 _=_
  rw[runV_1 (d:=0) (o:=[2,(w:Int),0,0,0]) rfl ?_,runV_0]
  ·unfold eG aK2
   rw[show([2,(w:Int),0,0,0]:List Int).getD 0 0=2 from rfl,show([2,(w:Int),0,0,0]:List Int).getD 1 0=w from rfl,if_neg (by decide),if_pos rfl,Int.toNat_natCast]
  ·show fC q.zs q.lf (w:Int)=0
   unfold fC
   rw[zw,h.lf]
   rw[if_neg]
   rintro(e|e)
   ·omega
   ·cases e
 ·have e:q.ad.set w false=q.ad:=by
   refine List.ext_getElem (by simp) fun j h1 h2=>?_
   rw[List.getElem_set]
   split
   ·next e=>
    have:=h.ad j (by rw[h.own.inv.al]at h2;exact h2)
    rw[List.getD_eq_getElem?_getD,List.getElem?_eq_getElem h2,decide_eq_false (by omega)]at this
    exact this.symm
   ·rfl
  show q.k≤((jh (q.ad.set w false):Nat):Int)
  rw[e,Iq h.own.inv.al (by decide) h.ad,h.k]
  decide
theorem bt9{i:Nat}{G:List (Option PS)}(h:GI i 1 G)(i1:i<8){w:Nat}(w0:1≤w)(w1:w<i){q:PS}(hq:iE G 0=some q)(d:List UInt8):
  l8 q.e q.zs q.ad q.k q.lf (au q.sg) q.lf (sN w) 1=0∧bW q 1 (sN w) 1 (fZ q (sN w))=0∧Ig (stepM G 0 1 (sN w) 1 (fZ q (sN w)) d)∧(stepM G 0 1 (sN w) 1 (fZ q (sN w)) d).length=i∧
  (∀j,j<i→(iE (stepM G 0 1 (sN w) 1 (fZ q (sN w)) d) j=none↔j=w))∧(∀p,iE (stepM G 0 1 (sN w) 1 (fZ q (sN w)) d) 0=some p→bn p.zs (w:Int)=false):=by
 have g:=h.v q hq
 have hd:=bn4 g i1 w0 w1
 obtain⟨c1,c2⟩:=uD (n:=1) (ops:=sN w) (by decide) (by rw[hd]) (Em g.own g.lf) (DI g (by decide)) g.k g.lf (by rw[g.e];omega)
 refine⟨c1,c2,?_⟩
 obtain⟨vs,hvs⟩:∃vs,vs=fZ q (sN w):=⟨_,rfl⟩
 rw[←hvs]at c2 ⊢
 obtain⟨s,hs⟩:∃s,s=dJ q q.lf 1 (sN w):=⟨_,rfl⟩
 have hs2:s=aK2 q w:=by rw[hs];unfold dJ;rw[hd]
 have gs:=uJ h.full.FC hq 1 (sN w) 1 vs d
 have e:stepM G 0 1 (sN w) 1 vs d=qd G 0 (aH q s 1 (sN w) 1 vs d) (bH q s 1 (sN w) 1 vs d):=by
  unfold stepM
  rw[hq]
  dsimp only
  rw[if_neg (fun h=>h c2),←hs,show s.ng=F8 by rw[hs2];exact WK w,IW]
  simp
 rw[e]at gs ⊢
 refine⟨gs,by rw[lD,h.full.len],fun j hj=>?_,fun p hp=>?_⟩
 ·rw[sO (by rw[h.full.len];exact hj)]
  by_cases e0:j=0
  ·rw[if_pos e0]
   constructor
   ·intro h;cases h
   ·intro h;omega
  ·rw[if_neg e0]
   obtain⟨p,hp,pl⟩:=h.full.at' j hj
   obtain⟨g1,g2⟩:=zm (h.full.FC.own j p hp) g.own (h.full.FC.like j 0 p q hp hq) (h.full.FC.leaf j 0 p q hp hq e0) c2 d hs
   have hgn:s.gn.getD p.lf.toNat false=decide (j=w):=by
    rw[hs2,pl,Int.toNat_natCast]
    exact Cz w (by omega) j (by omega)
   rw[hp]
   show kP p _=none↔j=w
   unfold kP
   by_cases o:j=w
   ·rw[g1 (by rw[hgn,decide_eq_true o])]
    exact⟨fun _=>o,fun _=>rfl⟩
   ·obtain⟨p',k1,_⟩:=g2 (by rw[hgn,decide_eq_false o])
    rw[k1]
    exact⟨fun h=>(by cases h),fun h=>absurd h o⟩
 ·rw[sO (by rw[h.full.len];omega),if_pos rfl]at hp
  rw[←Option.some.inj hp,lC,Ba _ (by omega)]
  unfold dF
  have zl:s.zs.length=31:=by rw[hs2];exact iI g.own.inv.zl rfl
  rw[nu zl g.own.inv.lf0 g.own.inv.lf1 _ _ _ _ (by omega),if_neg (by rw[g.lf];simp;omega),hs2]
  show decide (bq (dA q.zs [0,0] (w:Nat)) w≠[0,0])=false
  rw[jv g.own.inv.zl rfl (by omega) (by omega),if_pos rfl]
  decide
end
section
open Go.ChangeShapes Pm
theorem groupM_gi{M:Nat}(m0:1≤M)(m1:M≤6):GI M 1 (pG M 1 1):=by
 have g:=r9 (A:=1) (by omega) (M-1) (by omega)
 rw[show M-1+1=M by omega,show min M 1=1 by omega]at g
 unfold pG
 rw[if_neg (by decide)]
 exact g
theorem rem_beh{M w:Nat}{G:List (Option PS)}(g:GI M 1 G)(m1:M<8)(w0:1≤w)(w1:w<M):∃q,iE G 0=some q∧bW q 1 (sN w) (uo G q 1 (sN w) 1).length (uo G q 1 (sN w) 1).flatten=0∧
  Ig (wE G 0 q 1 (sN w) 1 77)∧(wE G 0 q 1 (sN w) 1 77).length=M∧(∀j,j<M→(iE (wE G 0 q 1 (sN w) 1 77) j=none↔j=w))∧(∀p,iE (wE G 0 q 1 (sN w) 1 77) 0=some p→bn p.zs (w:Int)=false):=by
 have hf:=Dz g (by omega)
 refine⟨_,hf,?_⟩
 obtain⟨c1,c2,c3,c4,c5,c6⟩:=bt9 g m1 w0 w1 hf (wL 77)
 have hl:G.length=M:=g.full.len
 have hv:uo G (iW G) 1 (sN w) 1=[fZ (iW G) (sN w)]:=by
  unfold uo
  rw[Hz (by omega) hf c1]
  have hz:(iW G).lf=0:=(g.v _ hf).lf
  unfold wQ fZ
  rw[hz]
 unfold wE
 rw[hv]
 show bW _ _ _ 1 ([fZ _ _]:List (List Int)).flatten=0∧Ig (stepM _ _ _ _ 1 ([fZ _ _]:List (List Int)).flatten _)∧(stepM _ _ _ _ 1 ([fZ _ _]:List (List Int)).flatten _).length=M∧(∀j,j<M→(iE (stepM _ _ _ _ 1 ([fZ _ _]:List (List Int)).flatten _) j=none↔j=w))∧(∀p,iE (stepM _ _ _ _ 1 ([fZ _ _]:List (List Int)).flatten _) 0=some p→bn p.zs (w:Int)=false)
 rw[List.flatten_singleton]
 exact⟨c2,c3,c4,c5,c6⟩
noncomputable def envGd2:ay:=by2.add 19 Sb Mg ⟨_,Tryz.func19,by kernel_rfl,by kernel_rfl⟩
attribute [local irreducible] aU aZ bR aA au dB cO aF bZ aN aT av ak aR cZ bX aQ bK gB iC aD bA aO jW dJ bW bH aH bT fU bJ bg gY aJ nk qP kF bn fV eD dU eT bq aC bU fE dQ eF wH bE dV stepM wE uo aY iW pG Oh
set_option maxHeartbeats 4000000 in
theorem partyGone_fn(M who:Int):aP 5 [.v (.int .i64 M),.v (.int .i64 who)] (.d (.v (.bool true))):=by
 refine dK (E:=envGd2) Tryz.func5 Tryz.ntmps5 ?_
 by_cases m1:M<2
 ·refine aj ?_;(try exact⟨⟩)
 by_cases m2:M>6
 ·refine aj ?_;(try exact⟨⟩)
 by_cases w1:who<1
 ·refine aj ?_;(try exact⟨⟩)
 by_cases w2:who≥M
 ·refine aj ?_;(try exact⟨⟩)
 obtain⟨m,rfl⟩:=Int.eq_ofNat_of_zero_le (show 0≤M by omega)
 obtain⟨w,rfl⟩:=Int.eq_ofNat_of_zero_le (show 0≤who by omega)
 have gf:=DC (M:=m) (A:=1) (k:=1) (by omega) (by omega) (by omega) (by omega) (by omega) (by omega)
 obtain⟨q,hq,h1,h2,h3,h4,h5⟩:=rem_beh (groupM_gi (M:=m) (by omega) (by omega)) (by omega) (show 1≤w by omega) (by omega)
 obtain⟨H,hH⟩:∃H,H=pG m 1 1:=⟨_,rfl⟩
 rw[←hH]at gf hq h1 h2 h3 h4 h5
 have gl:=gf.len
 have gg:=gf.FC
 have n1:H.length≠0:=by rw[gl];omega
 have n2:H≠[]:=fun e=>n1 (by rw[e];rfl)
 obtain⟨B,hB⟩:∃B,B=wE H 0 q 1 (sN w) 1 77:=⟨_,rfl⟩
 rw[←hB]at h2 h3 h4 h5
 have b1:B.length≠0:=by rw[h3];omega
 have b2:B≠[]:=fun e=>b1 (by rw[e];rfl)
 have HH:=Lib.hid hH
 have HB:=Lib.hid hB
 have HC:=Lib.hid h1
 have H2:=Lib.hid h2
 have H4:=Lib.hid h4
 have H5:=Lib.hid h5
 have HQ:=Lib.hid hq
 have HF:=Lib.hid gf
 clear hH hB h1 h2 h4 h5 hq gf gg
 refine aj ?_;(try exact⟨⟩)
 intro H' K5
 obtain rfl:H'=H:=by rw[HH.out,K5];rfl
 clear K5
 refine aj ?_;(try exact⟨⟩)
 refine⟨q,HF.out.FC,by omega,by omega,HQ.out,by omega,by omega,by omega,by omega,fun _=>HC.out,?_⟩
 intro B' hB'
 obtain rfl:B'=B:=by rw[HB.out,hB'];rfl
 clear hB'
 have c3:((B'.length:Int) !=(m:Int))=false:=by rw[h3];simp
 refine aj ?_;(try exact⟨⟩)
 refine aM.mk (bV [0,1,5,6] [0] m (fun j=>⟨[.d (.v (.int .i64 (m:Nat))),.d (.v (.int .i64 (w:Nat))),.ah,.ah,.ah,.d (.row B'.length [.gen (B'.length*2) (gL B')]),.d (.v (.int .i64 (j:Nat))),.ah,.ah,.ah,.ah,.ah,.ah,.ah,.ah,.ah,.ah,.ah,.ah,.ah,.ah,.ah,.ah,.ah,.ah,.ah,.ah,.ah,.ah,.ah,.ah,.ah,.ah,.ah,.ah,.ah,.ah,.ah,.ah,.ah,.ah,.ah,.ah,.ah,.ah,.ah,.ah,.ah,.ah,.ah,.ah,.ah,.ah,.ah,.ah,.ah,.ah,.ah,.ah,.ah,.ah,.ah,.ah,.ah,.ah,.ah,.ah,.ah,.ah,.ah,.ah],[some .gone]⟩) ?_)
 intro j hj hl
 by_cases h:j<m
 ·have i1:(j:Int)<(m:Int):=by omega
  have i2:(j:Int)<(B'.length:Int):=by omega
  have v1:=(OA B' j (by omega)).1
  have j2:j*2+2≤B'.length*2:=by omega
  have h4:=H4.out j h
  cases hp:iE B' j with
  |none=>
   rw[hp]at v1
   have v1:(gL B').getD (j*2) (.v undef)=.v (.pointer none):=v1
   obtain rfl:j=w:=h4.1 hp
   clear h4
   refine aj ?_;(try exact⟨⟩)
   rw[v1]
   refine aj ?_;(try exact⟨⟩)
   refine hl.go h [0,1,5,6] [0] ?_
   rfl
  |some p=>
   rw[hp]at v1
   have v1:(gL B').getD (j*2) (.v undef)=.sref (bN p) 0:=v1
   have c1:((j:Int)==(w:Int))=false:=by
    have:j≠w:=fun e=>by have:=h4.2 e;rw[hp]at this;cases this
    simp;omega
   clear h4
   refine aj ?_;(try exact⟨⟩)
   rw[v1]
   refine aj ?_;(try exact⟨⟩)
   refine hl.go h [0,1,5,6] [0] ?_
   rfl
 ·obtain rfl:j=m:=by omega
  have i1:¬(j:Int)<(j:Int):=by omega
  obtain⟨p0,hp0⟩:∃p,iE B' 0=some p:=by
   cases hp:iE B' 0 with
   |none=>have:=(H4.out 0 (by omega)).1 hp;omega
   |some p=>exact⟨p,rfl⟩
  have hm:=H5.out p0 hp0
  have v2:=(OA B' 0 (by omega)).2
  rw[hp0]at v2
  have v2:(gL B').getD 1 (.v undef)=.sref (dM (dQ p0)) 0:=v2
  have i2:(0:Int)<(B'.length:Int):=by omega
  obtain⟨e1,e2,e3,e4,e5,e6,e7,e8,e9,e10⟩:=tJ p0
  rw[←e2]at hm
  have HP:=Lib.hid hp0
  clear hp0 e1 e2 e3 e4 e5 e6 e7 e8 e9 e10
  refine aj ?_;(try exact⟨⟩)
  refine⟨⟨B',rfl,rfl,rfl,H2.out,by omega,0,p0,by omega,HP.out⟩,?_⟩
  refine aj ?_;(try exact⟨⟩)
  rw[v2]
  refine aj ?_;(try exact⟨⟩)
theorem partyGone_walk{w:World}(M:Int)(hM:(Lit.int .i64 M).wf=true)(a:Int)(ha:(Lit.int .i64 a).wf=true)(hG:SV gTab (fun _=>True) w):
  Calls Tryz.prog 5 #[.int .i64 M,.int .i64 a] w fun e w'=>e=.returned (.bool true)∧Below w.heap.size w w':=
 Uz (partyGone_fn M a) hG (.cons (.v _) (.cons (.v _) .nil))
end
end Go.Proofs.YtjhgelfnmhdihaaGreatDoor
namespace Go.Proofs.YtjhgelfnmhdihaaGreatDoor.lawPartyGone
open Go.ChangeShapes Go.WideShapes Go.ChangeAt Go.RowKit
open Go.ChangeMaps (open_string shut_string)
set_option linter.unusedVariables false
theorem own:ownKnob Tryz.prog.godebug=none:=by kernel_rfl
theorem laidOut:laidOutB Tryz.prog=true:=by kernel_rfl
set_option maxRecDepth 100000 in
theorem lifted (os : Os) (started : os.Started) (H : Type) (enc : TypeId × Value → H) :
    ReturnsInHanded {} Tryz.checked os 5 .any (fun w args => (Rows.partyGoneSpec.pre enc Tryz.prog Tryz.f5 [] false w args ∧ laidMetH Tryz.prog aG0 w) ∧ sizedMet enc Tryz.prog Tryz.f5 (OpenSpec.ofChange Rows.partyGoneSpec) false w args)
      (Rows.partyGoneSpec.post enc Tryz.prog Tryz.f5 false true false false) := by
  refine returnsInHanded_of_change_and (C := Tryz.checked) (X := fun w _ => laidMetH Tryz.prog aG0 w) (fun _ _ _ hh h => h.of_heap hh) own started (by kernel_rfl) Tryz.func5
    (ChangeSpec.witness_shaped (enc := enc) (C := Tryz.checked) (os := os) (X := fun w _ => laidMetH Tryz.prog aG0 w) false (World.doorLaid Tryz.prog 19 os) #[.int .i64 0, .int .i64 0] 8 rfl (World.shaped_of_RefB (by kernel_rfl) (by kernel_rfl)) (by kernel_rfl) (by kernel_rfl) (by kernel_rfl) (aX2 os _)) ?_
  intro W base args ds gs before hval0 hW hcnd hsz0 hL _
  have hsz : (DataW.weightsEach Tryz.prog (Tryz.f5.params.toList ++ Rows.partyGoneSpec.plain.varTypes Tryz.prog) (ds ++ gs)).all (· ≤ reachBytes) = true := hsz0
  have hval : ∀ (j : Nat) t v, Tryz.f5.params[j]? = some t → args[j]? = some v → Value.okWide Tryz.prog W .any base t v := hval0
  have hW' := hW
  obtain ⟨p, q, hA0, hV, rfl, hfz, hnd⟩ := hW
  have hA : DataW.TrodAll enc Tryz.prog W 0 (fun _ => true) true Tryz.f5.params.toList args.toList ds p := hA0
  rw [Tryz.params5] at hA hval hsz
  obtain ⟨v0, vs0, d0, ds0, p0, q0, hargs, rfl, rfl, h0, r0⟩ := trodAll_cons hA
  obtain ⟨v1, vs1, d1, ds1, p1, q1, rfl, rfl, rfl, h1, r1⟩ := trodAll_cons r0
  obtain ⟨rfl, rfl, rfl⟩ := trodAll_nil r1
  obtain rfl : args = #[v0, v1] := by cases args; simp_all
  obtain ⟨rfl, rfl⟩ := trodVars_none hV
  have k0 := h0
  have lt0 : ∀ x ∈ p0, x.block < W.heap.size := by obtain ⟨m, hm⟩ := k0; exact DataW.trod_lt m _ _ _ hm
  obtain ⟨a0, rfl, rfl, rfl, w0⟩ := open_int Tryz.underlying3 (hval 0 3 v0 rfl rfl) h0
  have k1 := h1
  have lt1 : ∀ x ∈ p1, x.block < W.heap.size := by obtain ⟨m, hm⟩ := k1; exact DataW.trod_lt m _ _ _ hm
  obtain ⟨a1, rfl, rfl, rfl, w1⟩ := open_int Tryz.underlying3 (hval 1 3 v1 rfl rfl) h1
  clear hA0 hval0
  refine (partyGone_walk a0 w0 a1 w1 (w := W) (aE7 hL)).mono fun e W' ⟨he, zS⟩ => ?_
  subst he
  exact ⟨_, rfl, _, _, _, [], _, [], hW', trodAll_mk1 (shut_bool Tryz.underlying4 _), (trodAll_cons_mk (Below.trod laidOut (by kernel_rfl) (of_decide_eq_true (by kernel_rfl)) k0 zS lt0) (trodAll_cons_mk (Below.trod laidOut (by kernel_rfl) (of_decide_eq_true (by kernel_rfl)) k1 zS lt1) trodAll_mk0)), rfl, zS.frame _, fun h => by cases h⟩
theorem over:Rows.partyGoneRow.holds Tryz.pinned (OpenSpec.ofChange Rows.partyGoneSpec):=
 OpenClaim.holds_of_wide 5 Tryz.f5 rfl rfl rfl rfl rfl rfl rfl ⟨rfl,rfl,rfl,rfl,rfl⟩ rfl rfl rfl rfl rfl (by kernel_rfl) Tryz.func5 (by kernel_rfl)
  (of_decide_eq_true (by kernel_rfl)) (by unfold Func.isWrapper;first|(rw[if_pos (by decide+kernel)];kernel_rfl)|(rw[if_neg (by decide+kernel)];exact⟨rfl,rfl⟩))
  (fun os started H enc _=>lifted os started H enc)
theorem proved:Rows.PartyGoneCardSaid:=
 Claim7.holds_tied_plain_at .later [] [.data,.data] true _ false
  over (fun _ h=>by cases h) (by kernel_rfl) (fun _ h=>by cases h) partyGone_row_tie rfl ⟨rfl,rfl⟩ (by kernel_rfl) rfl
  (fun f fn hf hfn=>by
   obtain rfl:f=5:=Option.some.inj ((show Tryz.prog.funcNamed "curia/curialaw13.PartyGone"=some 5 by kernel_rfl).symm.trans hf) |>.symm
   obtain rfl:fn=Tryz.f5:=(Option.some.inj (Tryz.func5.symm.trans hfn)).symm
   exact⟨by kernel_rfl,fun j t ht=>by
    rw[Tryz.params5]at ht
    have hm:t∈[3,3]:=by simpa using Array.mem_of_getElem? ht
    have hall:([3,3].all fun u=>!Tryz.prog.wantsStandIn u)=true:=by kernel_rfl
    exact(show Tryz.prog.wantsStandIn t=false by simpa using List.all_eq_true.1 hall t hm)⟩)
  (by kernel_rfl)
end Go.Proofs.YtjhgelfnmhdihaaGreatDoor.lawPartyGone
