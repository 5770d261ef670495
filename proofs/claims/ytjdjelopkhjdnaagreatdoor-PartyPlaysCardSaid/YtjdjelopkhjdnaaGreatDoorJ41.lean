/-
  Parties: what a caller is told of a commit; one who is nobody; seeds.
-/
import Derived.Test.YtjdjelopkhjdnaaGreatDoorJ37
import Derived.Test.YtjdjelopkhjdnaaGreatDoorJ38
import Derived.Test.YtjdjelopkhjdnaaGreatDoorJ39
namespace Go.Proofs.YtjdjelopkhjdnaaGreatDoor
set_option linter.unusedVariables false
set_option linter.unusedSimpArgs false
set_option maxRecDepth 100000
open Go.RowKit
section
open Pm
attribute [local irreducible] aV aZ bQ aA au dA cK bC aF bW aN aU ay ak aT dh bX aR bI fU bB iC aD aP jR dZ bZ bS aJ bT fJ aC dY ji pV fP aY dU
def bv0(p:PS)(n:Nat)(ops:List Int)(m:Nat)(vs:List Int)(d:List UInt8)(K:List A→Prop):Prop:=
 ∀e,e=bZ p n ops m vs→mI (aV (decide (e=0))
  (∀s c q N W,s=dZ p p.lf n ops→c=bS p s n ops m vs d→q=aJ p s n ops m vs d→N=fP s.ng 8→W=pV (ji q (fJ (aC d)) (bT p d) (dY q.ep) d) s.ng 8→K [.agg (jI c),.recs N 108 W,.sref (bL q) 0,.v (.int .i64 0)])
  (K [.agg CF,.v (.slice none 0 0),.v (.pointer none),.v (.int .i64 e)]))
def aV5 (p : PS) (n : Nat) (ops : List Int) (m : Nat) (vs : List Int) (d : List UInt8) : List A :=
  if bZ p n ops m vs = 0 then [.agg (jI (bS p (dZ p p.lf n ops) n ops m vs d)), .recs (fP (dZ p p.lf n ops).ng 8) 108 (pV (ji (aJ p (dZ p p.lf n ops) n ops m vs d) (fJ (aC d)) (bT p d) (dY (aJ p (dZ p p.lf n ops) n ops m vs d).ep) d) (dZ p p.lf n ops).ng 8), .sref (bL (aJ p (dZ p p.lf n ops) n ops m vs d)) 0, .v (.int .i64 0)]
        else [.agg CF, .v (.slice none 0 0), .v (.pointer none), .v (.int .i64 (bZ p n ops m vs))]
def Xp:List A→(bP→Prop)→Prop
 |[.v (.pointer none),o,v,.agg [.bytes 32 d]],K=>K (.t [.agg CF,.v (.slice none 0 0),.v (.pointer none),.v (.int .i64 13)])
 |[x,o,v,.agg [.bytes 32 d]],K=>Wd x fun p=>aG p.lf=true∧uL o fun n ops=>EO v fun m vs=>n≤3000∧m≤3000∧bv0 p n ops m vs d fun l=>K (.t l)
 |_,_=>False
theorem Xq:∀args K,Xp args K→∃r,aQ 12 args r∧K r:=by
 intro args K h
 unfold Xp at h
 split at h
 ·exact⟨_,NA _ _ _,h⟩
 ·next o v d _=>
  obtain⟨p,rfl,hf,h⟩:=qQ h
  obtain⟨n,ops,_,h,ho⟩:=gJ h
  obtain⟨m,vs,_,⟨hn,hm,h⟩,hv⟩:=kH h
  have h:=(h _ rfl).out
  refine⟨.t (aV5 p n ops m vs d),fun S w vs' hG ha=>?_,?_⟩
  ·obtain⟨v1,v2,v3,v4,rfl,k1,k2,k3,k4⟩:=mh ha
   exact FE p n ops hn m vs hm _ hf S w _ hG (.cons k1 (.cons (ho k2) (.cons (hv k3) (.cons k4 .nil))))
  ·unfold aV5
   by_cases he:bZ p n ops m vs=0
   ·rw[decide_eq_true he,iI]at h
    rw[if_pos he]
    exact h _ _ _ _ _ rfl rfl rfl rfl rfl
   ·rw[decide_eq_false he,gQ]at h
    rw[if_neg he]
    exact h
 ·exact h.elim
noncomputable def XT:av:=XZ.add 12 Xp Xq ⟨_,Tryz.func12,by kernel_rfl,by kernel_rfl⟩
theorem LP:aQ 15 [.v (.pointer none),.agg CF] (.t [.v (.pointer none),.v (.int .i64 13)]):=by
 refine dF (E:=XT) Tryz.func15 Tryz.ntmps15 ?_
 refine aj ?_;(try exact⟨⟩)
def Pb:List A→(bP→Prop)→Prop
 |[.v (.pointer none),.agg [.ints .i64 2 [0,0],.gen 2 [.v (.slice none 0 0),.v (.slice none 0 0)],.ints .i64 4 [0,0,0,0],.gen 1 [.v (.slice none 0 0)],.bytes 32 z,.ints .i64 2 [0,0]]],K=>z=zB 32∧K (.t [.v (.pointer none),.v (.int .i64 13)])
 |_,_=>False
theorem UQ:∀args K,Pb args K→∃r,aQ 15 args r∧K r:=by
 intro args K h
 unfold Pb at h
 split at h
 ·obtain⟨rfl,h⟩:=h
  exact⟨_,LP,h⟩
 ·exact h.elim
noncomputable def XU:av:=XT.add 15 Pb UQ ⟨_,Tryz.func15,by kernel_rfl,by kernel_rfl⟩
abbrev aF5:List UInt8:=0::11::List.replicate 30 0
theorem ac9:aQ 8 [.v (.int .i64 0)] (.d (.agg [.bytes 32 aF5])):=by
 refine dF (E:=XU) Tryz.func8 Tryz.ntmps8 ?_
 refine aj ?_;(try exact⟨⟩)
 try rfl
def PV:List A→(bP→Prop)→Prop
 |[.v (.int .i64 0)],K=>∀h,h=aF5→K (.d (.agg [.bytes 32 h]))
 |_,_=>False
theorem Vb:∀args K,PV args K→∃r,aQ 8 args r∧K r:=by
 intro args K h
 unfold PV at h
 split at h
 ·exact⟨_,ac9,h _ rfl⟩
 ·exact h.elim
noncomputable def aL3:av:=XU.add 8 PV Vb ⟨_,Tryz.func8,by kernel_rfl,by kernel_rfl⟩
noncomputable def aL4:av:=aL3.add 19 (ofP (fun p=>.d (.agg (bR p.e p.zs p.ad p.k p.ch))) (.d (.agg wL))) (OJ ah1 ay0) ⟨_,Tryz.func19,by kernel_rfl,by kernel_rfl⟩
noncomputable def aL5:av:=aL4.add 18 (ofP (fun p=>.d (.v (.int .i64 p.lf))) (.d (.v (.int .i64 0)))) (OJ UN Z4) ⟨_,Tryz.func18,by kernel_rfl,by kernel_rfl⟩
def Ik:List A→(bP→Prop)→Prop
 |[.v (.pointer none),.v (.string l)],K=>K (.d (.agg [.bytes 32 (zB 32)]))
 |[x,.v (.string l)],K=>l.size≤1000000∧Wd x fun p=>K (.d (.agg [.bytes 32 (TD p.ep (sb l))]))
 |_,_=>False
theorem NV:∀args K,Ik args K→∃r,aQ 140 args r∧K r:=by
 intro args K h
 unfold Ik at h
 split at h
 ·exact⟨_,NU _,h⟩
 ·obtain⟨hl,h⟩:=h
  obtain⟨p,rfl,h⟩:=qQ h
  exact⟨_,TF p _ hl,h⟩
 ·exact h.elim
noncomputable def aL6:av:=aL5.add 140 Ik NV ⟨_,Tryz.func140,by kernel_rfl,by kernel_rfl⟩
def BQ:List A→(bP→Prop)→Prop
 |[.agg [.bytes 32 h]],K=>∀p,p=aY h→K (.d (.sref (bL p) 0))
 |_,_=>False
theorem CQ:∀args K,BQ args K→∃r,aQ 7 args r∧K r:=by
 intro args K h
 unfold BQ at h
 split at h
 ·exact⟨_,BR (FL _),h _ rfl⟩
 ·exact h.elim
noncomputable def XV:av:=aL6.add 7 BQ CQ ⟨_,Tryz.func7,by kernel_rfl,by kernel_rfl⟩
end
section
open Pm
attribute [local irreducible] aV aZ bQ aA au dA cK bC aF bW aN aU ay ak aT dh bX aR bI fU bB iC aD aP jR dZ bZ bS aJ bT fJ aC dY ji pV aY dU
theorem FM(h:List UInt8):(aY h).lf=0∧(aY h).e=0:=by unfold aY dU;exact⟨rfl,rfl⟩
theorem as0(p:PS)(s:Vw)(n:Nat)(ops:List Int)(m:Nat)(vs:List Int)(d:List UInt8):(aJ p s n ops m vs d).e=p.e+1:=by unfold aJ bG dU gu iM;rfl
theorem bo2{h:List UInt8}{p:PS}(hp:p=aY h):p.lf=0:=hp▸(FM h).1
theorem bz3{h:List UInt8}{p:PS}(hp:p=aY h):p.e=0:=hp▸(FM h).2
theorem aO8{h:List UInt8}{p:PS}(hp:p=aY h):bZ p 0 [] 0 []=0:=hp▸NG h
theorem aO9{p:PS}(hx:dh p.e ⟨p.zs,p.ad,p.k,F8,F8⟩ p.lf [] 0=(0,⟨p.zs,p.ad,p.k,F8,F8⟩)):(dZ p p.lf 0 []).ng=F8:=by
 unfold dZ
 rw[hx]
theorem bo1{h:List UInt8}{p:PS}(hp:p=aY h):(dZ p p.lf 0 []).ng=F8:=by
 have h1:=FK h
 rw[←hp]at h1
 exact aO9 h1
theorem bo3{p:PS}(he:p.e=0)(s:Vw)(m:Nat)(vs:List Int)(d:List UInt8):(aJ p s 0 [] m vs d).e=1:=by
 rw[as0,he]
 rfl
set_option maxHeartbeats 4000000 in
theorem Gw:aQ 6 [] (.d (.v (.bool true))):=by
 refine dF (E:=XV) Tryz.func6 Tryz.ntmps6 ?_
 refine aj ?_;(try exact⟨⟩)
 intro h hh
 refine aj ?_;(try exact⟨⟩)
 intro p hp
 have hlf:=bo2 hp
 have he:=bz3 hp
 have hcom:=aO8 hp
 have hdo:=bo1 hp
 clear hp hh
 have hlb:aG p.lf=true:=by rw[hlf];rfl
 have hl0:(p.lf !=0)=false:=by rw[hlf];rfl
 have he0:(p.e !=0)=false:=by rw[he];rfl
 have he1:(p.e==0)=true:=by rw[he];rfl
 clear hlf
 refine aj ?_;(try exact⟨⟩)
 intro e hee
 have hc0:decide (e=0)=true:=by rw[hee,hcom];rfl
 clear hee hcom
 refine aj ?_;(try exact⟨⟩)
 intro s c q N W hs hc hq hN hW
 have hqe:(q.e==1)=true:=by
  have h1:q.e=1:=hq▸bo3 he s 0 [] _
  rw[h1];rfl
 obtain rfl:N=0:=by
  have h1:s.ng=F8:=hs▸hdo
  rw[hN,h1];rfl
 clear hs hc hq hN hW hdo he
 refine aj ?_;(try exact⟨⟩)
 rw[he1]
noncomputable def wZ:av:=XV.add 6 IC (Gb Gw) ⟨_,Tryz.func6,by kernel_rfl,by kernel_rfl⟩
theorem y8{E:av}{o:Oper}{s:St}{fr:Nat}{x:Operand}{t:T}(ho:o.op=.move x∨o.op=.assign x)(hx:s.ev x=t):dx E o s fr t none:=hx▸I7 ho
end
section
open Pm
attribute [local irreducible] aV aZ bQ aA au dA cK aF bW aN aU ay ak aT dh bX aR bI fU iC aD bB aP jR dZ bZ bS aJ bT fJ bH bg
set_option maxHeartbeats 2000000 in
theorem Ol(c:CS):aQ 124 [.agg (gW c)] (.d (.v (.bool (lQ c)))):=by
 refine dF (E:=wZ) Tryz.func124 Tryz.ntmps124 ?_
 unfold lQ
 cases h1:cK c.sl with
 |false=>
  refine aj ?_;(try exact⟨⟩)
  try rfl
 |true=>
  cases h2:cK c.p0 with
  |false=>
   refine aj ?_;(try exact⟨⟩)
   try rfl
  |true=>
   cases h3:cK c.p1 with
   |false=>
    refine aj ?_;(try exact⟨⟩)
    try rfl
   |true=>
    refine aj ?_;(try exact⟨⟩)
    cases h4:cK c.p2<;>rfl
set_option maxHeartbeats 1000000 in
theorem Mk(p:PS)(node:Int)(hf:aG p.lf=true)(h0:node≠2*p.lf→0≤aP p.lf node∧aP p.lf node<3):fK 126 0 (.var (bL p)) [.v (.int .i64 node)] (.d (.agg [.bytes 32 (kW p node)])) (.var (bL p)):=by
 refine mP (E:=wZ) Tryz.func126 Tryz.ntmps126 ?_
 obtain⟨f0,f1⟩:=cZ hf
 have e1:IntKind.i64.wrap (2*p.lf)=2*p.lf:=dM (by omega) (by omega)
 unfold kW
 by_cases h:node=2*p.lf
 ·have g1:(node==2*p.lf)=true:=by rw[h];simp
  rw[if_pos h]
  clear h h0
  refine aj ?_;(try exact⟨⟩)
  try rfl
 ·have g1:(node==2*p.lf)=false:=by simpa using h
  obtain⟨p0,p1⟩:=h0 h
  rw[if_neg h]
  clear h h0
  refine aj ?_;(try exact⟨⟩)
  try rfl
def UO(h b:List UInt8):List A:=if qP h b=0 then[.agg [.bytes 32 (bg (au (ay h)) b)],.v (.int .i64 0)]else[.agg [.bytes 32 (zB 32)],.v (.int .i64 (qP h b))]
set_option maxHeartbeats 1000000 in
theorem Z5(h b:List UInt8)(hb:b.length≤1000000):aQ 125 [.agg [.bytes 32 h],.row b.length [.bytes b.length b]] (.t (UO h b)):=by
 refine dF (E:=wZ) Tryz.func125 Tryz.ntmps125 ?_
 by_cases h1:bH (au (ay h)) b=0
 ·by_cases h2:b.length-12=32
  ·have e:qP h b=0:=by unfold qP;rw[if_neg (fun x=>x h1),if_neg (fun x=>x h2)]
   unfold UO
   rw[if_pos e]
   have g1:=decide_eq_true h1
   clear e h1
   refine aj ?_;(try exact⟨⟩)
   rw[h2]
   refine aj ?_;(try exact⟨⟩)
  ·have e:qP h b=10:=by unfold qP;rw[if_neg (fun x=>x h1),if_pos h2]
   unfold UO
   rw[e,if_neg (by decide)]
   have g1:=decide_eq_true h1
   have g2:(((b.length-12:Nat):Int) !=32)=true:=by simp;omega
   clear e h1 h2
   refine aj ?_;(try exact⟨⟩)
   try rfl
 ·have e:qP h b=3:=by unfold qP;rw[if_pos h1]
  unfold UO
  rw[e,if_neg (by decide)]
  have g1:=decide_eq_false h1
  have g2:(bH (au (ay h)) b !=0)=true:=by simpa using h1
  clear e h1
  refine aj ?_;(try exact⟨⟩)
  try rfl
def aQ7:List A→(bP→Prop)→Prop
 |[.agg [.bytes 32 h],x],K=>pO x fun b=>b.length≤1000000∧∀e u,e=qP h b→u=bg (au (ay h)) b→mI (aV (decide (e=0)) (K (.t [.agg [.bytes 32 u],.v (.int .i64 0)])) (K (.t [.agg [.bytes 32 (zB 32)],.v (.int .i64 e)])))
 |_,_=>False
theorem au2:∀args K,aQ7 args K→∃r,aQ 125 args r∧K r:=by
 intro args K h
 unfold aQ7 at h
 split at h
 ·next a x=>
  obtain⟨b,⟨hb,h⟩,hv⟩:=iw h
  have h:=(h _ _ rfl rfl).out
  refine⟨.t (UO a b),fun S w vs hG ha=>?_,?_⟩
  ·obtain⟨v1,v2,rfl,k1,k2⟩:=lH ha
   exact Z5 _ b hb S w _ hG (.cons k1 (.cons (hv k2) .nil))
  ·unfold UO
   by_cases he:qP a b=0
   ·rw[decide_eq_true he,iI]at h
    rw[if_pos he]
    exact h
   ·rw[decide_eq_false he,gQ]at h
    rw[if_neg he]
    exact h
 ·exact h.elim
noncomputable def ba2:av:=wZ.add 125 aQ7 au2 ⟨_,Tryz.func125,by kernel_rfl,by kernel_rfl⟩
def YH:List A→(bP→Prop)→Prop
 |[x],K=>oW x fun c=>∀b,b=lQ c→K (.d (.v (.bool b)))
 |_,_=>False
theorem YI:∀args K,YH args K→∃r,aQ 124 args r∧K r:=by
 intro args K h
 unfold YH at h
 split at h
 ·obtain⟨c,h,hc⟩:=gG h
  refine⟨_,fun S w vs' hG ha=>?_,h _ rfl⟩
  obtain⟨v1,rfl,k1⟩:=iL ha
  exact Ol c S w _ hG (.cons (hc k1).1 .nil)
 ·exact h.elim
noncomputable def C8:av:=ba2.add 124 YH YI ⟨_,Tryz.func124,by kernel_rfl,by kernel_rfl⟩
end
section
open Pm
attribute [local irreducible] aV aZ bQ aA au dA cK aF bW aN aU ay ak aT dh bX aR bI fU iC aD bB aP jR dZ bZ bS aJ bT fJ bH bg
set_option maxHeartbeats 2000000 in
theorem Tj(p:PS)(h:List UInt8)(hf:aG p.lf=true):fK 128 0 (.var (bL p)) [.v (.int .i64 2),.agg [.bytes 32 h]] (.t [.agg [.bytes 32 (eU p h).2.1],.v (.bool (eU p h).1)]) (.var (bL (eU p h).2.2)):=by
 refine mP (E:=C8) Tryz.func128 Tryz.ntmps128 ?_
 obtain⟨f0,f1⟩:=cZ hf
 cases c2:JE p h 23 with
 |true=>
  rw[show eU p h=_ from if_pos c2]
  have g2:(aA 4 (au (ay h)) !=p.zs.getD 23 0)=true:=c2
  refine aj ?_;(try exact⟨⟩)
  refine aM.mk (aB 4 ?_)
  refine aj ?_;(try exact⟨⟩)
  try rfl
 |false=>
  rw[show eU p h=_ from if_neg fun x=>Bool.noConfusion (c2.symm.trans x)]
  have g2:(aA 4 (au (ay h)) !=p.zs.getD 23 0)=false:=c2
  refine aj ?_;(try exact⟨⟩)
  refine aM.mk (aB 4 ?_)
  refine aj ?_;(try exact⟨⟩)
  try rfl
set_option maxHeartbeats 2000000 in
theorem Ti(p:PS)(h:List UInt8)(hf:aG p.lf=true):fK 128 0 (.var (bL p)) [.v (.int .i64 1),.agg [.bytes 32 h]] (.t [.agg [.bytes 32 (dS p h).2.1],.v (.bool (dS p h).1)]) (.var (bL (dS p h).2.2)):=by
 refine mP (E:=C8) Tryz.func128 Tryz.ntmps128 ?_
 obtain⟨f0,f1⟩:=cZ hf
 cases c1:JE p h (16+(p.lf / 4*8+3).toNat)with
 |true=>
  rw[show dS p h=_ from if_pos c1]
  have g1:(aA 4 (au (ay h)) !=p.zs.getD (16+(p.lf / 4*8+3).toNat) 0)=true:=c1
  refine aj ?_;(try exact⟨⟩)
  refine aM.mk (aB 4 ?_)
  refine aj ?_;(try exact⟨⟩)
  try rfl
 |false=>
  cases c2:JE (gF p 1 h) (ak h) 23 with
  |true=>
   rw[show dS p h=_ from(if_neg fun x=>Bool.noConfusion (c1.symm.trans x)).trans (if_pos c2)]
   have g1:(aA 4 (au (ay h)) !=p.zs.getD (16+(p.lf / 4*8+3).toNat) 0)=false:=c1
   have g2:(aA 4 (au (ay (ak h))) !=p.zs.getD 23 0)=true:=c2
   refine aj ?_;(try exact⟨⟩)
   refine aM.mk (aB 4 ?_)
   refine aj ?_;(try exact⟨⟩)
   try rfl
  |false=>
   rw[show dS p h=_ from(if_neg fun x=>Bool.noConfusion (c1.symm.trans x)).trans (if_neg fun x=>Bool.noConfusion (c2.symm.trans x))]
   have g1:(aA 4 (au (ay h)) !=p.zs.getD (16+(p.lf / 4*8+3).toNat) 0)=false:=c1
   have g2:(aA 4 (au (ay (ak h))) !=p.zs.getD 23 0)=false:=c2
   refine aj ?_;(try exact⟨⟩)
   refine aM.mk (aB 4 ?_)
   refine aj ?_;(try exact⟨⟩)
   try rfl
set_option maxHeartbeats 2000000 in
theorem Tg(p:PS)(h:List UInt8)(hf:aG p.lf=true):fK 128 0 (.var (bL p)) [.v (.int .i64 0),.agg [.bytes 32 h]] (.t [.agg [.bytes 32 (iO p h).2.1],.v (.bool (iO p h).1)]) (.var (bL (iO p h).2.2)):=by
 refine mP (E:=C8) Tryz.func128 Tryz.ntmps128 ?_
 obtain⟨f0,f1⟩:=cZ hf
 cases c0:JE p h (16+(p.lf / 2*4+1).toNat)with
 |true=>
  rw[show iO p h=_ from if_pos c0]
  have g0:(aA 4 (au (ay h)) !=p.zs.getD (16+(p.lf / 2*4+1).toNat) 0)=true:=c0
  refine aj ?_;(try exact⟨⟩)
  refine aM.mk (aB 4 ?_)
  refine aj ?_;(try exact⟨⟩)
  try rfl
 |false=>
  cases c1:JE (gF p 0 h) (ak h) (16+(p.lf / 4*8+3).toNat)with
  |true=>
   rw[show iO p h=_ from(if_neg fun x=>Bool.noConfusion (c0.symm.trans x)).trans (if_pos c1)]
   have g0:(aA 4 (au (ay h)) !=p.zs.getD (16+(p.lf / 2*4+1).toNat) 0)=false:=c0
   have g1:(aA 4 (au (ay (ak h))) !=p.zs.getD (16+(p.lf / 4*8+3).toNat) 0)=true:=c1
   refine aj ?_;(try exact⟨⟩)
   refine aM.mk (aB 4 ?_)
   refine aj ?_;(try exact⟨⟩)
   try rfl
  |false=>
   cases c2:JE (gF (gF p 0 h) 1 (ak h)) (ak (ak h)) 23 with
   |true=>
    rw[show iO p h=_ from(if_neg fun x=>Bool.noConfusion (c0.symm.trans x)).trans ((if_neg fun x=>Bool.noConfusion (c1.symm.trans x)).trans (if_pos c2))]
    have g0:(aA 4 (au (ay h)) !=p.zs.getD (16+(p.lf / 2*4+1).toNat) 0)=false:=c0
    have g1:(aA 4 (au (ay (ak h))) !=p.zs.getD (16+(p.lf / 4*8+3).toNat) 0)=false:=c1
    have g2:(aA 4 (au (ay (ak (ak h)))) !=p.zs.getD 23 0)=true:=c2
    refine aj ?_;(try exact⟨⟩)
    refine aM.mk (aB 4 ?_)
    refine aj ?_;(try exact⟨⟩)
    try rfl
   |false=>
    rw[show iO p h=_ from(if_neg fun x=>Bool.noConfusion (c0.symm.trans x)).trans ((if_neg fun x=>Bool.noConfusion (c1.symm.trans x)).trans (if_neg fun x=>Bool.noConfusion (c2.symm.trans x)))]
    have g0:(aA 4 (au (ay h)) !=p.zs.getD (16+(p.lf / 2*4+1).toNat) 0)=false:=c0
    have g1:(aA 4 (au (ay (ak h))) !=p.zs.getD (16+(p.lf / 4*8+3).toNat) 0)=false:=c1
    have g2:(aA 4 (au (ay (ak (ak h)))) !=p.zs.getD 23 0)=false:=c2
    refine aj ?_;(try exact⟨⟩)
    refine aM.mk (aB 4 ?_)
    refine aj ?_;(try exact⟨⟩)
    try rfl
end
section
open Pm
attribute [local irreducible] aV aZ bQ aA au dA cK aF bW aN aU ay ak aT dh bX aR bI fU iC aD bB aP jR dZ bZ bS aJ bT fJ bH bg fO bE bn
set_option maxHeartbeats 2000000 in
theorem N9(p:PS)(hf:aG p.lf=true):fK 127 0 (.var (bL p)) [.v (.int .i64 0)] (.t []) (.var (bL p)):=by
 refine mP (E:=C8) Tryz.func127 Tryz.ntmps127 ?_
 obtain⟨f0,f1⟩:=cZ hf
 refine aj ?_;(try exact⟨⟩)
 refine aM.mk (aB 4 ?_)
 refine aj ?_;(try exact⟨⟩)
theorem Cc{zs:List Int}{m:Nat}(h:aL zs m=true):(zs.getD m 0==0)=false:=by
 unfold aL at h
 simpa using h
theorem Cb{zs:List Int}{m:Nat}(h:aL zs m=false):(zs.getD m 0==0)=true:=by
 unfold aL at h
 simpa using h
set_option maxHeartbeats 2000000 in
theorem Oa(p:PS)(hf:aG p.lf=true):fK 127 0 (.var (bL p)) [.v (.int .i64 1)] (.t []) (.var (bL (jM p))):=by
 refine mP (E:=C8) Tryz.func127 Tryz.ntmps127 ?_
 obtain⟨f0,f1⟩:=cZ hf
 unfold jM
 cases h:aL p.zs (16+n1 p.lf)with
 |true=>
  have g:=Cc h
  rw[if_pos rfl]
  refine aj ?_;(try exact⟨⟩)
  refine aM.mk (aB 4 ?_)
  refine aj ?_;(try exact⟨⟩)
 |false=>
  have g:=Cb h
  rw[if_neg (by decide)]
  refine aj ?_;(try exact⟨⟩)
  refine aM.mk (aB 4 ?_)
  refine aj ?_;(try exact⟨⟩)
  try rfl
set_option maxHeartbeats 2000000 in
theorem Ob(p:PS)(hf:aG p.lf=true):fK 127 0 (.var (bL p)) [.v (.int .i64 2)] (.t []) (.var (bL (qc (jM p)))):=by
 refine mP (E:=C8) Tryz.func127 Tryz.ntmps127 ?_
 obtain⟨f0,f1⟩:=cZ hf
 unfold jM
 cases h:aL p.zs (16+n1 p.lf)with
 |true=>
  have g:=Cc h
  rw[if_pos rfl]
  unfold qc
  cases h2:aL p.zs (16+n2 p.lf)with
  |true=>
   have g2:=Cc h2
   rw[if_pos rfl]
   refine aj ?_;(try exact⟨⟩)
   refine aM.mk (aB 4 ?_)
   refine aj ?_;(try exact⟨⟩)
  |false=>
   have g2:=Cb h2
   rw[if_neg (by decide)]
   refine aj ?_;(try exact⟨⟩)
   refine aM.mk (aB 4 ?_)
   refine aj ?_;(try exact⟨⟩)
   try rfl
 |false=>
  have g:=Cb h
  rw[if_neg (by decide)]
  unfold qc
  cases h2:aL p.zs (16+n2 p.lf)with
  |true=>
   have g2:=Cc h2
   rw[show aL (gF p 0 (zB 32)).zs (16+n2 (gF p 0 (zB 32)).lf)=true from h2,if_pos rfl]
   refine aj ?_;(try exact⟨⟩)
   refine aM.mk (aB 4 ?_)
   refine aj ?_;(try exact⟨⟩)
   try rfl
  |false=>
   have g2:=Cb h2
   rw[show aL (gF p 0 (zB 32)).zs (16+n2 (gF p 0 (zB 32)).lf)=false from h2,if_neg (by decide)]
   refine aj ?_;(try exact⟨⟩)
   refine aM.mk (aB 4 ?_)
   refine aj ?_;(try exact⟨⟩)
   try rfl
noncomputable def ba3:av:=C8.add 119 yX AV ⟨_,Tryz.func119,by kernel_rfl,by kernel_rfl⟩
noncomputable def ba4:av:=ba3.add 118 Rc KP ⟨_,Tryz.func118,by kernel_rfl,by kernel_rfl⟩
noncomputable def aB6:av:=ba4.add 120 Vz (Cq G7) ⟨_,Tryz.func120,by kernel_rfl,by kernel_rfl⟩
set_option maxHeartbeats 2000000 in
theorem SE(p:PS)(c:CS)(hc:qH c)(ht:c.tag.length=32)(hb:eD c≤900000):aQ 60 [.sref (bL p) 0,.agg (gW c)] (.d (.v (.int .i64 (qX p c)))):=by
 refine dF (E:=aB6) Tryz.func60 Tryz.ntmps60 ?_
 have hl:=iT hc
 obtain⟨h1,h2,h3,h4,h5,h6⟩:=id hc
 unfold qX
 by_cases e1:c.e=p.e
 ·have g1:(c.e !=p.e)=false:=by rw[e1];simp
  rw[if_neg (fun x=>x e1)]
  clear e1
  by_cases e2:c.fr=p.lf
  ·have g2:(c.fr==p.lf)=true:=by rw[e2];simp
   rw[if_pos (.inl e2)]
   clear e2
   refine aj ?_;(try exact⟨⟩)
  ·have g2:(c.fr==p.lf)=false:=by simpa using e2
   have hm8:=mW p.zs 8
   have hin:=Ca p.zs c.fr
   cases e3:bn p.zs c.fr with
   |false=>
    rw[e3]at hin
    rw[if_pos (.inr rfl)]
    clear e2 e3
    refine aj ?_;(try exact⟨⟩)
   |true=>
    rw[e3]at hin
    obtain⟨m0,m1⟩:=eX e3
    rw[if_neg (by rintro(h|h);exact e2 h;cases h)]
    clear e2 e3
    cases e4:fO (p.zs.getD (c.fr.toNat*2) 0) (aU c++c.tag) c.sE c.sS with
    |true=>
     rw[if_pos rfl]
     refine aj ?_;(try exact⟨⟩)
    |false=>
     rw[if_neg (by decide)]
     refine aj ?_;(try exact⟨⟩)
 ·have g1:(c.e !=p.e)=true:=by simpa using e1
  rw[if_pos e1]
  clear e1
  refine aj ?_;(try exact⟨⟩)
end
section
open Pm
attribute [local irreducible] aV aZ bQ aA au dA cK aF bW aN aU ay ak aT dh bX aR bI fU iC aD bB aP jR dZ bZ bS aJ bT fJ bH bg fO bE bn aI
noncomputable def aB7:av:=aB6.add 123 Au (vZ MI) ⟨_,Tryz.func123,by kernel_rfl,by kernel_rfl⟩
theorem Vs(p:PS)(x:List Int):aQ 122 [.agg [.ints .i64 2 x],.sref [.gen 1 [.sref (bL p) 0]] 0] (.d (.v (.bool (aI (x.getD 1 0) p.lf)))):=by
 refine dF (E:=aB7) Tryz.func122 Tryz.ntmps122 ?_
 refine aj ?_;(try exact⟨⟩)
def af8:List A→(bP→Prop)→Prop
 |[.agg [.ints .i64 2 x],.sref [.gen 1 [y]] 0],K=>Wd y fun p=>K (.d (.v (.bool (aI (x.getD 1 0) p.lf))))
 |_,_=>False
theorem af9:∀args K,af8 args K→∃r,aQ 122 args r∧K r:=by
 intro args K h
 unfold af8 at h
 split at h
 ·obtain⟨p,rfl,h⟩:=qQ h
  exact⟨_,Vs p _,h⟩
 ·exact h.elim
noncomputable def aB8:av:=aB7.add 122 af8 af9 ⟨_,Tryz.func122,by kernel_rfl,by kernel_rfl⟩
def YZ(p:PS)(zs:List Int)(n:Nat):Int:=sj (fun i=>aI ((atK 2 zs i).getD 1 0) p.lf) n
set_option maxHeartbeats 4000000 in
theorem O8(p:PS)(zs:List Int)(n:Nat)(hn:n≤3000):aQ 121 [.row n [.ints .i64 (n*2) zs],.J9 122 [.sref [.gen 1 [.sref (bL p) 0]] 0]] (.d (.v (.int .i64 (YZ p zs n)))):=by
 refine gY fun hl=>?_
 have hz:zs.length=n*2:=hl.1.1
 clear hl
 refine dF (E:=aB8) Tryz.func121 Tryz.ntmps121 ?_
 unfold YZ
 obtain⟨N,hN,hno,hend⟩:=Im (fun i=>aI ((atK 2 zs i).getD 1 0) p.lf) n
 refine aj ?_;(try exact⟨⟩)
 refine aM.mk (bV [0,1,7,8] [0] N (fun j=>⟨[.d (.row n [.ints .i64 (n*2) zs]),.d (.J9 122 [.sref [.gen 1 [.sref (bL p) 0]] 0]),.ah,.ah,.ah,.ah,.ah,.d (.v (.int .i64 n)),.d (.v (.int .i64 (j:Nat))),.ah,.ah,.ah,.ah,.ah,.ah,.ah,.ah,.ah,.ah],[none]⟩) ?_)
 intro j hj hl
 by_cases h:j<N
 ·have h1:(j:Int)<(n:Int):=by omega
  have h2:aI (((zs.drop (j*2)).take 2).getD 1 0) p.lf=false:=hno j h
  clear hend hno
  refine aj ?_;(try exact⟨⟩)
  refine hl.go h [0,1,7,8] [0] ?_
  rfl
 ·obtain rfl:j=N:=by omega
  rcases hend with⟨rfl,h4⟩|⟨h3,h4,h5⟩
  ·have h1:¬(j:Int)<(j:Int):=by omega
   rw[h4]
   clear h4 hno
   refine aj ?_;(try exact⟨⟩)
  ·have h1:(j:Int)<(n:Int):=by omega
   have h2:aI (((zs.drop (j*2)).take 2).getD 1 0) p.lf=true:=h4
   rw[h5]
   clear h4 h5 hno
   refine aj ?_;(try exact⟨⟩)
theorem KS(p:PS)(l:List (Int×Int)):YZ p (bF l) l.length=if dz l p.lf=l.length then -1 else((dz l p.lf:Nat):Int):=by
 have at2:∀j,j<l.length→(atK 2 (bF l) j).getD 1 0=(l.getD j (0,0)).2:=fun j hj=>by unfold atK;rw[uy l j hj];rfl
 have get:∀j (hj:j<l.length),l.getD j (0,0)=l[j]:=fun j hj=>by rw[List.getD_eq_getElem?_getD,List.getElem?_eq_getElem hj];rfl
 unfold YZ
 obtain⟨N,hN,hno,hend⟩:=Im (fun i=>aI ((atK 2 (bF l) i).getD 1 0) p.lf) l.length
 have hf:dz l p.lf=N:=by
  unfold dz
  rcases hend with⟨rfl,h4⟩|⟨h3,h4,h5⟩
  ·refine List.findIdx_eq_length.2 fun q hq=>?_
   obtain⟨j,hj,rfl⟩:=List.getElem_of_mem hq
   have:=hno j hj
   simp only[at2 j hj,get j hj]at this
   exact this
  ·refine(List.findIdx_eq h3).2 ⟨?_,fun j hj=>?_⟩
   ·simp only[at2 N h3,get N h3]at h4
    exact h4
   ·have:=hno j hj
    simp only[at2 j (by omega),get j (by omega)]at this
    exact this
 rw[hf]
 rcases hend with⟨rfl,h4⟩|⟨h3,h4,h5⟩
 ·rw[h4,if_pos rfl]
 ·rw[h5,if_neg (by omega)]
end
end Go.Proofs.YtjdjelopkhjdnaaGreatDoor
