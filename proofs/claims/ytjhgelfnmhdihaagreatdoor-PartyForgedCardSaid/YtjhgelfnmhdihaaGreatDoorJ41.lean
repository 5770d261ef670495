/-
  Parties: what a caller is told of a commit; one who is nobody; seeds.
-/
import Derived.Test.YtjhgelfnmhdihaaGreatDoorJ37
import Derived.Test.YtjhgelfnmhdihaaGreatDoorJ38
import Derived.Test.YtjhgelfnmhdihaaGreatDoorJ39
namespace Go.Proofs.YtjhgelfnmhdihaaGreatDoor
set_option linter.unusedVariables false
set_option linter.unusedSimpArgs false
set_option maxRecDepth 100000
open Go.RowKit
section
open Pm
attribute [local irreducible] aU aZ bR aA au dB cO bD aF bZ aN aT av ak aR cZ bX aQ bK gB bA iC aD aO jW dJ bW bH aH bT fU aC eB jr pY gD aY dG
def bx7(p:PS)(n:Nat)(ops:List Int)(m:Nat)(vs:List Int)(d:List UInt8)(K:List A→Prop):Prop:=
 ∀e,e=bW p n ops m vs→mR (aU (decide (e=0))
  (∀s c q N W,s=dJ p p.lf n ops→c=bH p s n ops m vs d→q=aH p s n ops m vs d→N=gD s.ng 8→W=pY (jr q (fU (aC d)) (bT p d) (eB q.ep) d) s.ng 8→K [.agg (jO c),.recs N 108 W,.sref (bN q) 0,.v (.int .i64 0)])
  (K [.agg CW,.v (.slice none 0 0),.v (.pointer none),.v (.int .i64 e)]))
def aX0 (p : PS) (n : Nat) (ops : List Int) (m : Nat) (vs : List Int) (d : List UInt8) : List A :=
  if bW p n ops m vs = 0 then [.agg (jO (bH p (dJ p p.lf n ops) n ops m vs d)), .recs (gD (dJ p p.lf n ops).ng 8) 108 (pY (jr (aH p (dJ p p.lf n ops) n ops m vs d) (fU (aC d)) (bT p d) (eB (aH p (dJ p p.lf n ops) n ops m vs d).ep) d) (dJ p p.lf n ops).ng 8), .sref (bN (aH p (dJ p p.lf n ops) n ops m vs d)) 0, .v (.int .i64 0)]
        else [.agg CW, .v (.slice none 0 0), .v (.pointer none), .v (.int .i64 (bW p n ops m vs))]
def XB:List A→(bP→Prop)→Prop
 |[.v (.pointer none),o,v,.agg [.bytes 32 d]],K=>K (.t [.agg CW,.v (.slice none 0 0),.v (.pointer none),.v (.int .i64 13)])
 |[x,o,v,.agg [.bytes 32 d]],K=>Ww x fun p=>aG p.lf=true∧uS o fun n ops=>E8 v fun m vs=>n≤3000∧m≤3000∧bx7 p n ops m vs d fun l=>K (.t l)
 |_,_=>False
theorem XC:∀args K,XB args K→∃r,aP 21 args r∧K r:=by
 intro args K h
 unfold XB at h
 split at h
 ·exact⟨_,NT _ _ _,h⟩
 ·next o v d _=>
  obtain⟨p,rfl,hf,h⟩:=qW h
  obtain⟨n,ops,_,h,ho⟩:=gM h
  obtain⟨m,vs,_,⟨hn,hm,h⟩,hv⟩:=kN h
  have h:=(h _ rfl).out
  refine⟨.t (aX0 p n ops m vs d),fun S w vs' hG ha=>?_,?_⟩
  ·obtain⟨v1,v2,v3,v4,rfl,k1,k2,k3,k4⟩:=mG ha
   exact FT p n ops hn m vs hm _ hf S w _ hG (.cons k1 (.cons (ho k2) (.cons (hv k3) (.cons k4 .nil))))
  ·unfold aX0
   by_cases he:bW p n ops m vs=0
   ·rw[decide_eq_true he,iM]at h
    rw[if_pos he]
    exact h _ _ _ _ _ rfl rfl rfl rfl rfl
   ·rw[decide_eq_false he,gW]at h
    rw[if_neg he]
    exact h
 ·exact h.elim
noncomputable def X5:ay:=Ya.add 21 XB XC ⟨_,Tryz.func21,by kernel_rfl,by kernel_rfl⟩
theorem Md:aP 22 [.v (.pointer none),.agg CW] (.t [.v (.pointer none),.v (.int .i64 13)]):=by
 refine dK (E:=X5) Tryz.func22 Tryz.ntmps22 ?_
 refine aj ?_;(try exact⟨⟩)
def Py:List A→(bP→Prop)→Prop
 |[.v (.pointer none),.agg [.ints .i64 2 [0,0],.gen 2 [.v (.slice none 0 0),.v (.slice none 0 0)],.ints .i64 4 [0,0,0,0],.gen 1 [.v (.slice none 0 0)],.bytes 32 z,.ints .i64 2 [0,0]]],K=>z=zB 32∧K (.t [.v (.pointer none),.v (.int .i64 13)])
 |_,_=>False
theorem U7:∀args K,Py args K→∃r,aP 22 args r∧K r:=by
 intro args K h
 unfold Py at h
 split at h
 ·obtain⟨rfl,h⟩:=h
  exact⟨_,Md,h⟩
 ·exact h.elim
noncomputable def X6:ay:=X5.add 22 Py U7 ⟨_,Tryz.func22,by kernel_rfl,by kernel_rfl⟩
abbrev aG7:List UInt8:=0::11::List.replicate 30 0
theorem ad7:aP 32 [.v (.int .i64 0)] (.d (.agg [.bytes 32 aG7])):=by
 refine dK (E:=X6) Tryz.func32 Tryz.ntmps32 ?_
 refine aj ?_;(try exact⟨⟩)
 try rfl
def Qg:List A→(bP→Prop)→Prop
 |[.v (.int .i64 0)],K=>∀h,h=aG7→K (.d (.agg [.bytes 32 h]))
 |_,_=>False
theorem Vp:∀args K,Qg args K→∃r,aP 32 args r∧K r:=by
 intro args K h
 unfold Qg at h
 split at h
 ·exact⟨_,ad7,h _ rfl⟩
 ·exact h.elim
noncomputable def aM5:ay:=X6.add 32 Qg Vp ⟨_,Tryz.func32,by kernel_rfl,by kernel_rfl⟩
noncomputable def aM6:ay:=aM5.add 23 (ofP (fun p=>.d (.agg (bS p.e p.zs p.ad p.k p.ch))) (.d (.agg wP))) (O8 ah7 ay9) ⟨_,Tryz.func23,by kernel_rfl,by kernel_rfl⟩
noncomputable def aM7:ay:=aM6.add 36 (ofP (fun p=>.d (.v (.int .i64 p.lf))) (.d (.v (.int .i64 0)))) (O8 U5 aa0) ⟨_,Tryz.func36,by kernel_rfl,by kernel_rfl⟩
def IE:List A→(bP→Prop)→Prop
 |[.v (.pointer none),.v (.string l)],K=>K (.d (.agg [.bytes 32 (zB 32)]))
 |[x,.v (.string l)],K=>l.size≤1000000∧Ww x fun p=>K (.d (.agg [.bytes 32 (Oh p.ep (sb l))]))
 |_,_=>False
theorem Oj:∀args K,IE args K→∃r,aP 28 args r∧K r:=by
 intro args K h
 unfold IE at h
 split at h
 ·exact⟨_,Oi _,h⟩
 ·obtain⟨hl,h⟩:=h
  obtain⟨p,rfl,h⟩:=qW h
  exact⟨_,TU p _ hl,h⟩
 ·exact h.elim
noncomputable def aM8:ay:=aM7.add 28 IE Oj ⟨_,Tryz.func28,by kernel_rfl,by kernel_rfl⟩
def Ca:List A→(bP→Prop)→Prop
 |[.agg [.bytes 32 h]],K=>∀p,p=aY h→K (.d (.sref (bN p) 0))
 |_,_=>False
theorem C8:∀args K,Ca args K→∃r,aP 38 args r∧K r:=by
 intro args K h
 unfold Ca at h
 split at h
 ·exact⟨_,Cb (FY _),h _ rfl⟩
 ·exact h.elim
noncomputable def X7:ay:=aM8.add 38 Ca C8 ⟨_,Tryz.func38,by kernel_rfl,by kernel_rfl⟩
end
section
open Pm
attribute [local irreducible] aU aZ bR aA au dB cO bD aF bZ aN aT av ak aR cZ bX aQ bK gB bA iC aD aO jW dJ bW bH aH bT fU aC eB jr pY aY dG
theorem FZ(h:List UInt8):(aY h).lf=0∧(aY h).e=0:=by unfold aY dG;exact⟨rfl,rfl⟩
theorem as7(p:PS)(s:Vw)(n:Nat)(ops:List Int)(m:Nat)(vs:List Int)(d:List UInt8):(aH p s n ops m vs d).e=p.e+1:=by unfold aH bC dG fK gN;rfl
theorem bq0{h:List UInt8}{p:PS}(hp:p=aY h):p.lf=0:=hp▸(FZ h).1
theorem bB9{h:List UInt8}{p:PS}(hp:p=aY h):p.e=0:=hp▸(FZ h).2
theorem aP9{h:List UInt8}{p:PS}(hp:p=aY h):bW p 0 [] 0 []=0:=hp▸NW h
theorem aQ0{p:PS}(hx:cZ p.e ⟨p.zs,p.ad,p.k,F8,F8⟩ p.lf [] 0=(0,⟨p.zs,p.ad,p.k,F8,F8⟩)):(dJ p p.lf 0 []).ng=F8:=by
 unfold dJ
 rw[hx]
theorem bp9{h:List UInt8}{p:PS}(hp:p=aY h):(dJ p p.lf 0 []).ng=F8:=by
 have h1:=FX h
 rw[←hp]at h1
 exact aQ0 h1
theorem bq1{p:PS}(he:p.e=0)(s:Vw)(m:Nat)(vs:List Int)(d:List UInt8):(aH p s 0 [] m vs d).e=1:=by
 rw[as7,he]
 rfl
set_option maxHeartbeats 4000000 in
theorem GU:aP 17 [] (.d (.v (.bool true))):=by
 refine dK (E:=X7) Tryz.func17 Tryz.ntmps17 ?_
 refine aj ?_;(try exact⟨⟩)
 intro h hh
 refine aj ?_;(try exact⟨⟩)
 intro p hp
 have hlf:=bq0 hp
 have he:=bB9 hp
 have hcom:=aP9 hp
 have hdo:=bp9 hp
 clear hp hh
 have hlb:aG p.lf=true:=by rw[hlf];rfl
 have hl0:(p.lf !=0)=false:=by rw[hlf];rfl
 have he0:(p.e !=0)=false:=by rw[he];rfl
 have he1:(p.e==0)=true:=by rw[he];rfl
 clear hlf
 refine aj ?_;(try exact⟨⟩)
 intro e hee
 have hc0:decide (e=0)=true:=by rw[hee,hcom];rfl
 clear hee hcom
 refine aj ?_;(try exact⟨⟩)
 intro s c q N W hs hc hq hN hW
 have hqe:(q.e==1)=true:=by
  have h1:q.e=1:=hq▸bq1 he s 0 [] _
  rw[h1];rfl
 obtain rfl:N=0:=by
  have h1:s.ng=F8:=hs▸hdo
  rw[hN,h1];rfl
 clear hs hc hq hN hW hdo he
 refine aj ?_;(try exact⟨⟩)
 rw[he1]
noncomputable def xq:ay:=X7.add 17 IZ (Gq GU) ⟨_,Tryz.func17,by kernel_rfl,by kernel_rfl⟩
theorem zf{E:ay}{o:Oper}{s:St}{fr:Nat}{x:Operand}{t:T}(ho:o.op=.move x∨o.op=.assign x)(hx:s.ev x=t):dz E o s fr t none:=hx▸Jl ho
end
section
open Pm
attribute [local irreducible] aU aZ bR aA au dB cO aF bZ aN aT av ak aR cZ bX aQ bK gB iC aD bA aO jW dJ bW bH aH bT fU bJ bg
set_option maxHeartbeats 2000000 in
theorem OH(c:CS):aP 128 [.agg (gZ c)] (.d (.v (.bool (lZ c)))):=by
 refine dK (E:=xq) Tryz.func128 Tryz.ntmps128 ?_
 unfold lZ
 cases h1:cO c.sl with
 |false=>
  refine aj ?_;(try exact⟨⟩)
  try rfl
 |true=>
  cases h2:cO c.p0 with
  |false=>
   refine aj ?_;(try exact⟨⟩)
   try rfl
  |true=>
   cases h3:cO c.p1 with
   |false=>
    refine aj ?_;(try exact⟨⟩)
    try rfl
   |true=>
    refine aj ?_;(try exact⟨⟩)
    cases h4:cO c.p2<;>rfl
set_option maxHeartbeats 1000000 in
theorem MH(p:PS)(node:Int)(hf:aG p.lf=true)(h0:node≠2*p.lf→0≤aO p.lf node∧aO p.lf node<3):gq 130 0 (.var (bN p)) [.v (.int .i64 node)] (.d (.agg [.bytes 32 (lF p node)])) (.var (bN p)):=by
 refine mY (E:=xq) Tryz.func130 Tryz.ntmps130 ?_
 obtain⟨f0,f1⟩:=dh hf
 have e1:IntKind.i64.wrap (2*p.lf)=2*p.lf:=dR (by omega) (by omega)
 unfold lF
 by_cases h:node=2*p.lf
 ·have g1:(node==2*p.lf)=true:=by rw[h];simp
  rw[if_pos h]
  clear h h0
  refine aj ?_;(try exact⟨⟩)
  try rfl
 ·have g1:(node==2*p.lf)=false:=by simpa using h
  obtain⟨p0,p1⟩:=h0 h
  rw[if_neg h]
  clear h h0
  refine aj ?_;(try exact⟨⟩)
  try rfl
def U6(h b:List UInt8):List A:=if qV h b=0 then[.agg [.bytes 32 (bg (au (av h)) b)],.v (.int .i64 0)]else[.agg [.bytes 32 (zB 32)],.v (.int .i64 (qV h b))]
set_option maxHeartbeats 1000000 in
theorem aa1(h b:List UInt8)(hb:b.length≤1000000):aP 129 [.agg [.bytes 32 h],.row b.length [.bytes b.length b]] (.t (U6 h b)):=by
 refine dK (E:=xq) Tryz.func129 Tryz.ntmps129 ?_
 by_cases h1:bJ (au (av h)) b=0
 ·by_cases h2:b.length-12=32
  ·have e:qV h b=0:=by unfold qV;rw[if_neg (fun x=>x h1),if_neg (fun x=>x h2)]
   unfold U6
   rw[if_pos e]
   have g1:=decide_eq_true h1
   clear e h1
   refine aj ?_;(try exact⟨⟩)
   rw[h2]
   refine aj ?_;(try exact⟨⟩)
  ·have e:qV h b=10:=by unfold qV;rw[if_neg (fun x=>x h1),if_pos h2]
   unfold U6
   rw[e,if_neg (by decide)]
   have g1:=decide_eq_true h1
   have g2:(((b.length-12:Nat):Int) !=32)=true:=by simp;omega
   clear e h1 h2
   refine aj ?_;(try exact⟨⟩)
   try rfl
 ·have e:qV h b=3:=by unfold qV;rw[if_pos h1]
  unfold U6
  rw[e,if_neg (by decide)]
  have g1:=decide_eq_false h1
  have g2:(bJ (au (av h)) b !=0)=true:=by simpa using h1
  clear e h1
  refine aj ?_;(try exact⟨⟩)
  try rfl
def aS2:List A→(bP→Prop)→Prop
 |[.agg [.bytes 32 h],x],K=>pV x fun b=>b.length≤1000000∧∀e u,e=qV h b→u=bg (au (av h)) b→mR (aU (decide (e=0)) (K (.t [.agg [.bytes 32 u],.v (.int .i64 0)])) (K (.t [.agg [.bytes 32 (zB 32)],.v (.int .i64 e)])))
 |_,_=>False
theorem av1:∀args K,aS2 args K→∃r,aP 129 args r∧K r:=by
 intro args K h
 unfold aS2 at h
 split at h
 ·next a x=>
  obtain⟨b,⟨hb,h⟩,hv⟩:=iD h
  have h:=(h _ _ rfl rfl).out
  refine⟨.t (U6 a b),fun S w vs hG ha=>?_,?_⟩
  ·obtain⟨v1,v2,rfl,k1,k2⟩:=lT ha
   exact aa1 _ b hb S w _ hG (.cons k1 (.cons (hv k2) .nil))
  ·unfold U6
   by_cases he:qV a b=0
   ·rw[decide_eq_true he,iM]at h
    rw[if_pos he]
    exact h
   ·rw[decide_eq_false he,gW]at h
    rw[if_neg he]
    exact h
 ·exact h.elim
noncomputable def bc6:ay:=xq.add 129 aS2 av1 ⟨_,Tryz.func129,by kernel_rfl,by kernel_rfl⟩
def YO:List A→(bP→Prop)→Prop
 |[x],K=>pz x fun c=>∀b,b=lZ c→K (.d (.v (.bool b)))
 |_,_=>False
theorem YP:∀args K,YO args K→∃r,aP 128 args r∧K r:=by
 intro args K h
 unfold YO at h
 split at h
 ·obtain⟨c,h,hc⟩:=gI h
  refine⟨_,fun S w vs' hG ha=>?_,h _ rfl⟩
  obtain⟨v1,rfl,k1⟩:=iP ha
  exact OH c S w _ hG (.cons (hc k1).1 .nil)
 ·exact h.elim
noncomputable def Dh:ay:=bc6.add 128 YO YP ⟨_,Tryz.func128,by kernel_rfl,by kernel_rfl⟩
end
section
open Pm
attribute [local irreducible] aU aZ bR aA au dB cO aF bZ aN aT av ak aR cZ bX aQ bK gB iC aD bA aO jW dJ bW bH aH bT fU bJ bg
set_option maxHeartbeats 2000000 in
theorem TF(p:PS)(h:List UInt8)(hf:aG p.lf=true):gq 86 0 (.var (bN p)) [.v (.int .i64 2),.agg [.bytes 32 h]] (.t [.agg [.bytes 32 (fu p h).2.1],.v (.bool (fu p h).1)]) (.var (bN (fu p h).2.2)):=by
 refine mY (E:=Dh) Tryz.func86 Tryz.ntmps86 ?_
 obtain⟨f0,f1⟩:=dh hf
 cases c2:JV p h 23 with
 |true=>
  rw[show fu p h=_ from if_pos c2]
  have g2:(aA 4 (au (av h)) !=p.zs.getD 23 0)=true:=c2
  refine aj ?_;(try exact⟨⟩)
  refine aM.mk (aB 4 ?_)
  refine aj ?_;(try exact⟨⟩)
  try rfl
 |false=>
  rw[show fu p h=_ from if_neg fun x=>Bool.noConfusion (c2.symm.trans x)]
  have g2:(aA 4 (au (av h)) !=p.zs.getD 23 0)=false:=c2
  refine aj ?_;(try exact⟨⟩)
  refine aM.mk (aB 4 ?_)
  refine aj ?_;(try exact⟨⟩)
  try rfl
set_option maxHeartbeats 2000000 in
theorem TD(p:PS)(h:List UInt8)(hf:aG p.lf=true):gq 86 0 (.var (bN p)) [.v (.int .i64 1),.agg [.bytes 32 h]] (.t [.agg [.bytes 32 (dX p h).2.1],.v (.bool (dX p h).1)]) (.var (bN (dX p h).2.2)):=by
 refine mY (E:=Dh) Tryz.func86 Tryz.ntmps86 ?_
 obtain⟨f0,f1⟩:=dh hf
 cases c1:JV p h (16+(p.lf / 4*8+3).toNat)with
 |true=>
  rw[show dX p h=_ from if_pos c1]
  have g1:(aA 4 (au (av h)) !=p.zs.getD (16+(p.lf / 4*8+3).toNat) 0)=true:=c1
  refine aj ?_;(try exact⟨⟩)
  refine aM.mk (aB 4 ?_)
  refine aj ?_;(try exact⟨⟩)
  try rfl
 |false=>
  cases c2:JV (gH p 1 h) (ak h) 23 with
  |true=>
   rw[show dX p h=_ from(if_neg fun x=>Bool.noConfusion (c1.symm.trans x)).trans (if_pos c2)]
   have g1:(aA 4 (au (av h)) !=p.zs.getD (16+(p.lf / 4*8+3).toNat) 0)=false:=c1
   have g2:(aA 4 (au (av (ak h))) !=p.zs.getD 23 0)=true:=c2
   refine aj ?_;(try exact⟨⟩)
   refine aM.mk (aB 4 ?_)
   refine aj ?_;(try exact⟨⟩)
   try rfl
  |false=>
   rw[show dX p h=_ from(if_neg fun x=>Bool.noConfusion (c1.symm.trans x)).trans (if_neg fun x=>Bool.noConfusion (c2.symm.trans x))]
   have g1:(aA 4 (au (av h)) !=p.zs.getD (16+(p.lf / 4*8+3).toNat) 0)=false:=c1
   have g2:(aA 4 (au (av (ak h))) !=p.zs.getD 23 0)=false:=c2
   refine aj ?_;(try exact⟨⟩)
   refine aM.mk (aB 4 ?_)
   refine aj ?_;(try exact⟨⟩)
   try rfl
set_option maxHeartbeats 2000000 in
theorem TB(p:PS)(h:List UInt8)(hf:aG p.lf=true):gq 86 0 (.var (bN p)) [.v (.int .i64 0),.agg [.bytes 32 h]] (.t [.agg [.bytes 32 (iR p h).2.1],.v (.bool (iR p h).1)]) (.var (bN (iR p h).2.2)):=by
 refine mY (E:=Dh) Tryz.func86 Tryz.ntmps86 ?_
 obtain⟨f0,f1⟩:=dh hf
 cases c0:JV p h (16+(p.lf / 2*4+1).toNat)with
 |true=>
  rw[show iR p h=_ from if_pos c0]
  have g0:(aA 4 (au (av h)) !=p.zs.getD (16+(p.lf / 2*4+1).toNat) 0)=true:=c0
  refine aj ?_;(try exact⟨⟩)
  refine aM.mk (aB 4 ?_)
  refine aj ?_;(try exact⟨⟩)
  try rfl
 |false=>
  cases c1:JV (gH p 0 h) (ak h) (16+(p.lf / 4*8+3).toNat)with
  |true=>
   rw[show iR p h=_ from(if_neg fun x=>Bool.noConfusion (c0.symm.trans x)).trans (if_pos c1)]
   have g0:(aA 4 (au (av h)) !=p.zs.getD (16+(p.lf / 2*4+1).toNat) 0)=false:=c0
   have g1:(aA 4 (au (av (ak h))) !=p.zs.getD (16+(p.lf / 4*8+3).toNat) 0)=true:=c1
   refine aj ?_;(try exact⟨⟩)
   refine aM.mk (aB 4 ?_)
   refine aj ?_;(try exact⟨⟩)
   try rfl
  |false=>
   cases c2:JV (gH (gH p 0 h) 1 (ak h)) (ak (ak h)) 23 with
   |true=>
    rw[show iR p h=_ from(if_neg fun x=>Bool.noConfusion (c0.symm.trans x)).trans ((if_neg fun x=>Bool.noConfusion (c1.symm.trans x)).trans (if_pos c2))]
    have g0:(aA 4 (au (av h)) !=p.zs.getD (16+(p.lf / 2*4+1).toNat) 0)=false:=c0
    have g1:(aA 4 (au (av (ak h))) !=p.zs.getD (16+(p.lf / 4*8+3).toNat) 0)=false:=c1
    have g2:(aA 4 (au (av (ak (ak h)))) !=p.zs.getD 23 0)=true:=c2
    refine aj ?_;(try exact⟨⟩)
    refine aM.mk (aB 4 ?_)
    refine aj ?_;(try exact⟨⟩)
    try rfl
   |false=>
    rw[show iR p h=_ from(if_neg fun x=>Bool.noConfusion (c0.symm.trans x)).trans ((if_neg fun x=>Bool.noConfusion (c1.symm.trans x)).trans (if_neg fun x=>Bool.noConfusion (c2.symm.trans x)))]
    have g0:(aA 4 (au (av h)) !=p.zs.getD (16+(p.lf / 2*4+1).toNat) 0)=false:=c0
    have g1:(aA 4 (au (av (ak h))) !=p.zs.getD (16+(p.lf / 4*8+3).toNat) 0)=false:=c1
    have g2:(aA 4 (au (av (ak (ak h)))) !=p.zs.getD 23 0)=false:=c2
    refine aj ?_;(try exact⟨⟩)
    refine aM.mk (aB 4 ?_)
    refine aj ?_;(try exact⟨⟩)
    try rfl
end
section
open Pm
attribute [local irreducible] aU aZ bR aA au dB cO aF bZ aN aT av ak aR cZ bX aQ bK gB iC aD bA aO jW dJ bW bH aH bT fU bJ bg fV bG bn
set_option maxHeartbeats 2000000 in
theorem Ou(p:PS)(hf:aG p.lf=true):gq 131 0 (.var (bN p)) [.v (.int .i64 0)] (.t []) (.var (bN p)):=by
 refine mY (E:=Dh) Tryz.func131 Tryz.ntmps131 ?_
 obtain⟨f0,f1⟩:=dh hf
 refine aj ?_;(try exact⟨⟩)
 refine aM.mk (aB 4 ?_)
 refine aj ?_;(try exact⟨⟩)
theorem Cm{zs:List Int}{m:Nat}(h:aL zs m=true):(zs.getD m 0==0)=false:=by
 unfold aL at h
 simpa using h
theorem Ck{zs:List Int}{m:Nat}(h:aL zs m=false):(zs.getD m 0==0)=true:=by
 unfold aL at h
 simpa using h
set_option maxHeartbeats 2000000 in
theorem Ov(p:PS)(hf:aG p.lf=true):gq 131 0 (.var (bN p)) [.v (.int .i64 1)] (.t []) (.var (bN (jT p))):=by
 refine mY (E:=Dh) Tryz.func131 Tryz.ntmps131 ?_
 obtain⟨f0,f1⟩:=dh hf
 unfold jT
 cases h:aL p.zs (16+n1 p.lf)with
 |true=>
  have g:=Cm h
  rw[if_pos rfl]
  refine aj ?_;(try exact⟨⟩)
  refine aM.mk (aB 4 ?_)
  refine aj ?_;(try exact⟨⟩)
 |false=>
  have g:=Ck h
  rw[if_neg (by decide)]
  refine aj ?_;(try exact⟨⟩)
  refine aM.mk (aB 4 ?_)
  refine aj ?_;(try exact⟨⟩)
  try rfl
set_option maxHeartbeats 2000000 in
theorem Ow(p:PS)(hf:aG p.lf=true):gq 131 0 (.var (bN p)) [.v (.int .i64 2)] (.t []) (.var (bN (qm (jT p)))):=by
 refine mY (E:=Dh) Tryz.func131 Tryz.ntmps131 ?_
 obtain⟨f0,f1⟩:=dh hf
 unfold jT
 cases h:aL p.zs (16+n1 p.lf)with
 |true=>
  have g:=Cm h
  rw[if_pos rfl]
  unfold qm
  cases h2:aL p.zs (16+n2 p.lf)with
  |true=>
   have g2:=Cm h2
   rw[if_pos rfl]
   refine aj ?_;(try exact⟨⟩)
   refine aM.mk (aB 4 ?_)
   refine aj ?_;(try exact⟨⟩)
  |false=>
   have g2:=Ck h2
   rw[if_neg (by decide)]
   refine aj ?_;(try exact⟨⟩)
   refine aM.mk (aB 4 ?_)
   refine aj ?_;(try exact⟨⟩)
   try rfl
 |false=>
  have g:=Ck h
  rw[if_neg (by decide)]
  unfold qm
  cases h2:aL p.zs (16+n2 p.lf)with
  |true=>
   have g2:=Cm h2
   rw[show aL (gH p 0 (zB 32)).zs (16+n2 (gH p 0 (zB 32)).lf)=true from h2,if_pos rfl]
   refine aj ?_;(try exact⟨⟩)
   refine aM.mk (aB 4 ?_)
   refine aj ?_;(try exact⟨⟩)
   try rfl
  |false=>
   have g2:=Ck h2
   rw[show aL (gH p 0 (zB 32)).zs (16+n2 (gH p 0 (zB 32)).lf)=false from h2,if_neg (by decide)]
   refine aj ?_;(try exact⟨⟩)
   refine aM.mk (aB 4 ?_)
   refine aj ?_;(try exact⟨⟩)
   try rfl
noncomputable def bc7:ay:=Dh.add 123 y5 Bb ⟨_,Tryz.func123,by kernel_rfl,by kernel_rfl⟩
noncomputable def bc8:ay:=bc7.add 122 Rw K7 ⟨_,Tryz.func122,by kernel_rfl,by kernel_rfl⟩
noncomputable def aC4:ay:=bc8.add 124 VO (Cy Hy) ⟨_,Tryz.func124,by kernel_rfl,by kernel_rfl⟩
set_option maxHeartbeats 2000000 in
theorem Ta(p:PS)(c:CS)(hc:qL c)(ht:c.tag.length=32)(hb:eD c≤900000):aP 57 [.sref (bN p) 0,.agg (gZ c)] (.d (.v (.int .i64 (qb p c)))):=by
 refine dK (E:=aC4) Tryz.func57 Tryz.ntmps57 ?_
 have hl:=iX hc
 obtain⟨h1,h2,h3,h4,h5,h6⟩:=id hc
 unfold qb
 by_cases e1:c.e=p.e
 ·have g1:(c.e !=p.e)=false:=by rw[e1];simp
  rw[if_neg (fun x=>x e1)]
  clear e1
  by_cases e2:c.fr=p.lf
  ·have g2:(c.fr==p.lf)=true:=by rw[e2];simp
   rw[if_pos (.inl e2)]
   clear e2
   refine aj ?_;(try exact⟨⟩)
  ·have g2:(c.fr==p.lf)=false:=by simpa using e2
   have hm8:=nC p.zs 8
   have hin:=Cj p.zs c.fr
   cases e3:bn p.zs c.fr with
   |false=>
    rw[e3]at hin
    rw[if_pos (.inr rfl)]
    clear e2 e3
    refine aj ?_;(try exact⟨⟩)
   |true=>
    rw[e3]at hin
    obtain⟨m0,m1⟩:=fA e3
    rw[if_neg (by rintro(h|h);exact e2 h;cases h)]
    clear e2 e3
    cases e4:fV (p.zs.getD (c.fr.toNat*2) 0) (aT c++c.tag) c.sE c.sS with
    |true=>
     rw[if_pos rfl]
     refine aj ?_;(try exact⟨⟩)
    |false=>
     rw[if_neg (by decide)]
     refine aj ?_;(try exact⟨⟩)
 ·have g1:(c.e !=p.e)=true:=by simpa using e1
  rw[if_pos e1]
  clear e1
  refine aj ?_;(try exact⟨⟩)
end
section
open Pm
attribute [local irreducible] aU aZ bR aA au dB cO aF bZ aN aT av ak aR cZ bX aQ bK gB iC aD bA aO jW dJ bW bH aH bT fU bJ bg fV bG bn aJ
noncomputable def aC5:ay:=aC4.add 127 AB (wB MW) ⟨_,Tryz.func127,by kernel_rfl,by kernel_rfl⟩
theorem VH(p:PS)(x:List Int):aP 126 [.agg [.ints .i64 2 x],.sref [.gen 1 [.sref (bN p) 0]] 0] (.d (.v (.bool (aJ (x.getD 1 0) p.lf)))):=by
 refine dK (E:=aC5) Tryz.func126 Tryz.ntmps126 ?_
 refine aj ?_;(try exact⟨⟩)
def ag4:List A→(bP→Prop)→Prop
 |[.agg [.ints .i64 2 x],.sref [.gen 1 [y]] 0],K=>Ww y fun p=>K (.d (.v (.bool (aJ (x.getD 1 0) p.lf))))
 |_,_=>False
theorem ag5:∀args K,ag4 args K→∃r,aP 126 args r∧K r:=by
 intro args K h
 unfold ag4 at h
 split at h
 ·obtain⟨p,rfl,h⟩:=qW h
  exact⟨_,VH p _,h⟩
 ·exact h.elim
noncomputable def aC6:ay:=aC5.add 126 ag4 ag5 ⟨_,Tryz.func126,by kernel_rfl,by kernel_rfl⟩
def Y5(p:PS)(zs:List Int)(n:Nat):Int:=sw (fun i=>aJ ((atK 2 zs i).getD 1 0) p.lf) n
set_option maxHeartbeats 4000000 in
theorem Pw(p:PS)(zs:List Int)(n:Nat)(hn:n≤3000):aP 125 [.row n [.ints .i64 (n*2) zs],.Kt 126 [.sref [.gen 1 [.sref (bN p) 0]] 0]] (.d (.v (.int .i64 (Y5 p zs n)))):=by
 refine iq fun hl=>?_
 have hz:zs.length=n*2:=hl.1.1
 clear hl
 refine dK (E:=aC6) Tryz.func125 Tryz.ntmps125 ?_
 unfold Y5
 obtain⟨N,hN,hno,hend⟩:=II (fun i=>aJ ((atK 2 zs i).getD 1 0) p.lf) n
 refine aj ?_;(try exact⟨⟩)
 refine aM.mk (bV [0,1,7,8] [0] N (fun j=>⟨[.d (.row n [.ints .i64 (n*2) zs]),.d (.Kt 126 [.sref [.gen 1 [.sref (bN p) 0]] 0]),.ah,.ah,.ah,.ah,.ah,.d (.v (.int .i64 n)),.d (.v (.int .i64 (j:Nat))),.ah,.ah,.ah,.ah,.ah,.ah,.ah,.ah,.ah,.ah],[none]⟩) ?_)
 intro j hj hl
 by_cases h:j<N
 ·have h1:(j:Int)<(n:Int):=by omega
  have h2:aJ (((zs.drop (j*2)).take 2).getD 1 0) p.lf=false:=hno j h
  clear hend hno
  refine aj ?_;(try exact⟨⟩)
  refine hl.go h [0,1,7,8] [0] ?_
  rfl
 ·obtain rfl:j=N:=by omega
  rcases hend with⟨rfl,h4⟩|⟨h3,h4,h5⟩
  ·have h1:¬(j:Int)<(j:Int):=by omega
   rw[h4]
   clear h4 hno
   refine aj ?_;(try exact⟨⟩)
  ·have h1:(j:Int)<(n:Int):=by omega
   have h2:aJ (((zs.drop (j*2)).take 2).getD 1 0) p.lf=true:=h4
   rw[h5]
   clear h4 h5 hno
   refine aj ?_;(try exact⟨⟩)
theorem La(p:PS)(l:List (Int×Int)):Y5 p (bI l) l.length=if dD l p.lf=l.length then -1 else((dD l p.lf:Nat):Int):=by
 have at2:∀j,j<l.length→(atK 2 (bI l) j).getD 1 0=(l.getD j (0,0)).2:=fun j hj=>by unfold atK;rw[uH l j hj];rfl
 have get:∀j (hj:j<l.length),l.getD j (0,0)=l[j]:=fun j hj=>by rw[List.getD_eq_getElem?_getD,List.getElem?_eq_getElem hj];rfl
 unfold Y5
 obtain⟨N,hN,hno,hend⟩:=II (fun i=>aJ ((atK 2 (bI l) i).getD 1 0) p.lf) l.length
 have hf:dD l p.lf=N:=by
  unfold dD
  rcases hend with⟨rfl,h4⟩|⟨h3,h4,h5⟩
  ·refine List.findIdx_eq_length.2 fun q hq=>?_
   obtain⟨j,hj,rfl⟩:=List.getElem_of_mem hq
   have:=hno j hj
   simp only[at2 j hj,get j hj]at this
   exact this
  ·refine(List.findIdx_eq h3).2 ⟨?_,fun j hj=>?_⟩
   ·simp only[at2 N h3,get N h3]at h4
    exact h4
   ·have:=hno j hj
    simp only[at2 j (by omega),get j (by omega)]at this
    exact this
 rw[hf]
 rcases hend with⟨rfl,h4⟩|⟨h3,h4,h5⟩
 ·rw[h4,if_pos rfl]
 ·rw[h5,if_neg (by omega)]
end
end Go.Proofs.YtjhgelfnmhdihaaGreatDoor
