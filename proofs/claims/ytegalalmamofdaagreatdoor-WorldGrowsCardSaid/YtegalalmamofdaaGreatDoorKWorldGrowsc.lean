/- -/
import Derived.Test.YtegalalmamofdaaGreatDoorJ37
import Derived.Test.YtegalalmamofdaaGreatDoorJ38
namespace Go.Proofs.YtegalalmamofdaaGreatDoor
set_option linter.all false
set_option maxRecDepth 100000
open Go.RowKit
set_option maxHeartbeats 8000000
noncomputable section
open Pm
attribute [local irreducible] aN aQ bq aJ aI eY dL bP aD aC aF bn aY aj bR fC fu bT dH jm eG jO bg aZ mI fq eX bJ aT dB jF aK eB dK kG fO bD fG
def co1(p:PS)(n:Nat)(ops:List Int)(m:Nat)(vs:List Int)(d:List UInt8)(K:List A->Prop):Prop:=
 ∀e,e=eX p n ops m vs->vE (aN (decide (e=0))
  (∀s c q N W,s=fq p p.lf n ops->c=bJ p s n ops m vs d->q=aT p s n ops m vs d->N=fO s.ng 8->W=kG (dK q (jF (aK d)) (dB p d) (eB q.ep) d) s.ng 8->K [.agg (nN c),.recs N 108 W,.sref (aP q) 0,.v (.int .i64 0)])
  (K [.agg Jp,.v (.slice none 0 0),.v (.pointer none),.v (.int .i64 e)]))
def af4 (p : PS) (n : Nat) (ops : List Int) (m : Nat) (vs : List Int) (d : List UInt8) : List A :=
  if eX p n ops m vs = 0 then [.agg (nN (bJ p (fq p p.lf n ops) n ops m vs d)), .recs (fO (fq p p.lf n ops).ng 8) 108 (kG (dK (aT p (fq p p.lf n ops) n ops m vs d) (jF (aK d)) (dB p d) (eB (aT p (fq p p.lf n ops) n ops m vs d).ep) d) (fq p p.lf n ops).ng 8), .sref (aP (aT p (fq p p.lf n ops) n ops m vs d)) 0, .v (.int .i64 0)]
        else [.agg Jp, .v (.slice none 0 0), .v (.pointer none), .v (.int .i64 (eX p n ops m vs))]
def Vh:List A->(bC->Prop)->Prop
 |[.v (.pointer none),o,v,.agg [.bytes 32 d]],K=>K (.t [.agg Jp,.v (.slice none 0 0),.v (.pointer none),.v (.int .i64 13)])
 |[x,o,v,.agg [.bytes 32 d]],K=>prK x fun p=>aL p.lf=true/\IZ o fun n ops=>Qt v fun m vs=>n<=3000/\m<=3000/\co1 p n ops m vs d fun l=>K (.t l)
 |_,_=>False
theorem NS:∀args K,Vh args K->∃r,aV 53 args r/\K r:=by
 intro args K h
 unfold Vh at h
 split at h
 ·exact⟨_,Rx _ _ _,h⟩
 ·next o v d _=>
  obtain⟨p,rfl,hf,h⟩:=uV h
  obtain⟨n,ops,_,h,ho⟩:=mq h
  obtain⟨m,vs,_,⟨hn,hm,h⟩,hv⟩:=qx h
  have h:=(h _ rfl).out
  refine⟨.t (af4 p n ops m vs d),fun S w vs' hG ha=>?_,?_⟩
  ·obtain⟨v1,v2,v3,v4,rfl,k1,k2,k3,k4⟩:=uX ha
   exact Jr p n ops hn m vs hm _ hf S w _ hG (.cons k1 (.cons (ho k2) (.cons (hv k3) (.cons k4 .nil))))
  ·unfold af4
   by_cases he:eX p n ops m vs=0
   ·rw[decide_eq_true he,qD]at h
    rw[if_pos he]
    exact h _ _ _ _ _ rfl rfl rfl rfl rfl
   ·rw[decide_eq_false he,oG]at h
    rw[if_neg he]
    exact h
 ·exact h.elim
def ai1:ak:=ai3.add 53 Vh NS (.of Tryz.func53)
theorem PD:aV 96 [.v (.pointer none),.agg Jp] (.t [.v (.pointer none),.v (.int .i64 13)]):=by
 refine eO (E:=ai1) Tryz.func96 Tryz.ntmps96 ?_
 refine ah ?_;(try exact⟨⟩)
def TM:List A->(bC->Prop)->Prop
 |[.v (.pointer none),.agg [.ints .i64 2 [0,0],.gen 2 [.v (.slice none 0 0),.v (.slice none 0 0)],.ints .i64 4 [0,0,0,0],.gen 1 [.v (.slice none 0 0)],.bytes 32 z,.ints .i64 2 [0,0]]],K=>z=zB 32/\K (.t [.v (.pointer none),.v (.int .i64 13)])
 |_,_=>False
theorem YX:∀args K,TM args K->∃r,aV 96 args r/\K r:=by
 intro args K h
 unfold TM at h
 split at h
 ·obtain⟨rfl,h⟩:=h
  exact⟨_,PD,h⟩
 ·exact h.elim
def bt3:ak:=ai1.add 96 TM YX (.of Tryz.func96)
def bt4:ak:=bt3
def bt5:ak:=bt4.add 12 (ofP (fun p=>.d (.agg (eD p.e p.zs p.ad p.k p.ch))) (.d (.agg DX))) (zy Ij EM) (.of Tryz.func12)
def bt6:ak:=bt5.add 14 (ofP (fun p=>.d (.v (.int .i64 p.lf))) (.d (.v (.int .i64 0)))) (zy CO Bf) (.of Tryz.func14)
def Em:List A->(bC->Prop)->Prop
 |[.v (.pointer none),.v (.string l)],K=>K (.d (.agg [.bytes 32 (zB 32)]))
 |[x,.v (.string l)],K=>l.size<=1000000/\prK x fun p=>K (.d (.agg [.bytes 32 (aO4 p.ep (sb l))]))
 |_,_=>False
theorem Fy:∀args K,Em args K->∃r,aV 15 args r/\K r:=by
 intro args K h
 unfold Em at h
 split at h
 ·exact⟨_,RZ _,h⟩
 ·obtain⟨hl,h⟩:=h
  obtain⟨p,rfl,h⟩:=uV h
  exact⟨_,XR p _ hl,h⟩
 ·exact h.elim
def bt7:ak:=bt6.add 15 Em Fy (.of Tryz.func15)
def uz:List A->(bC->Prop)->Prop
 |[.agg [.bytes 32 h]],K=>∀p,p=bD h->K (.d (.sref (aP p) 0))
 |_,_=>False
theorem RI:∀args K,uz args K->∃r,aV 17 args r/\K r:=by
 intro args K h
 unfold uz at h
 split at h
 ·exact⟨_,uH (BU _),h _ rfl⟩
 ·exact h.elim
def bt8:ak:=bt7.add 17 uz RI (.of Tryz.func17)
end
section
open Pm
attribute [local irreducible] aN aQ bq aJ aI eY dL bP aD aC aF bn aY aj bR fC fu bT dH jm eG jO bg aZ mI fq eX bJ aT dB jF aK eB dK kG bD fG
noncomputable def Lu:ak:=bt8
theorem Ba{E:ak}{o:Oper}{s:St}{fr:Nat}{x:Operand}{t:T}(ho:o.op=.move x\/o.op=.assign x)(hx:s.ev x=t):cO E o s fr t none:=hx▸Mi ho
end
section
open Pm
theorem S9(n:Int)(h0:0<=n)(h1:n<4294967296):yC (bP n)=n:=by
 obtain⟨m,rfl⟩:∃m:Nat,n=m:=⟨n.toNat,by omega⟩
 have e:∀s,(kV (m:Int) s).toNat=m / 2^s%256:=fun s=>by
  unfold kV
  rw[UInt8.toNat_ofNat']
  have:((m:Int) / 2^s%256).toNat=m / 2^s%256:=by
   have h2:((m:Int) / 2^s%256)=((m / 2^s%256:Nat):Int):=by simp
   rw[h2];rfl
  rw[this];omega
 show((((kV m 24).toNat*256+(kV m 16).toNat)*256+(kV m 8).toNat)*256+(kV m 0).toNat:Nat)=(m:Int)
 rw[e,e,e,e]
 simp only[Nat.reducePow,Nat.div_one]
 omega
theorem X8(n:Int):(bP n).length=4:=rfl
theorem Xr(y x:Int)(p:List UInt8):(zh y x p).take 4=bP (aJ 4 x)/\((zh y x p).drop 4).take 8=Hz (DR y x) (bP (aJ 4 x)) (oV (DR y x) p)/\(zh y x p).drop 12=oV (DR y x) p:=by
 have hT:=oU (DR y x) (bP (aJ 4 x)) (oV (DR y x) p)
 unfold zh
 obtain⟨T,hTe⟩:∃T,Hz (DR y x) (bP (aJ 4 x)) (oV (DR y x) p)=T:=⟨_,rfl⟩
 rw[hTe]at hT ⊢
 have hF:=X8 (aJ 4 x)
 obtain⟨F,hFe⟩:∃F,bP (aJ 4 x)=F:=⟨_,rfl⟩
 rw[hFe]at hF ⊢
 refine⟨?_,?_,?_⟩
 ·rw[List.append_assoc,List.take_left' hF]
 ·rw[List.append_assoc,List.drop_left' hF,List.take_left' hT]
 ·rw[List.drop_left' (by rw[List.length_append,hF,hT])]
theorem Qb(x d:Int)(hx:1<=x/\x<1073741789)(hd:1<=d/\d<1073741789):DR (aJ 4 d) x=DR (aJ 4 x) d:=by
 unfold DR
 rw[pY d hd,pY x hx]
 unfold sI
 rw[raised d x ⟨by omega,hd.2⟩ ⟨by omega,hx.2⟩]
theorem Y9(x d:Int)(hx:1<=x/\x<1073741789)(hd:1<=d/\d<1073741789)(p:List UInt8)(hp:p.length<=200):gU x (zh (aJ 4 x) d p)=0/\fF x (zh (aJ 4 x) d p)=p:=by
 have hl:=wH (aJ 4 x) d p
 obtain⟨h1,h2,h3⟩:=Xr (aJ 4 x) d p
 have hb:=aW6 4 d
 have hY:yC (zh (aJ 4 x) d p)=aJ 4 d:=by rw[<-J9,h1,S9 _ hb.1 (by omega)]
 have hok:zC x (zh (aJ 4 x) d p)=true:=by
  unfold zC
  rw[hY,h1,h2,h3,Qb x d hx hd,pY d hd,beq_self_eq_true];rfl
 unfold gU fF
 rw[if_neg (by omega),if_pos hok,hY,h3,Qb x d hx hd,ZM]
 exact⟨rfl,rfl⟩
theorem Nz(a b p:List UInt8)(hp:p.length<=200):gU (aI a) (dH (aJ 4 (aI a)) (aI b) p)=0/\fF (aI a) (dH (aJ 4 (aI a)) (aI b) p)=p/\(dH (aJ 4 (aI a)) (aI b) p).length=12+p.length:=by
 have ha:=iq a
 have hb:=iq b
 have e:dH (aJ 4 (aI a)) (aI b) p=zh (aJ 4 (aI a)) (aI b) p:=by
  unfold dH vw
  rw[pY _ ha,decide_eq_true hp];rfl
 rw[e]
 obtain⟨h1,h2⟩:=Y9 (aI a) (aI b) ha hb p hp
 exact⟨h1,h2,wH _ _ _⟩
end
section
open Pm
def dJ(zs:List Int)(m:Nat):Bool:=zs.getD m 0 !=0
abbrev n1(lf:Int):Nat:=(lf / 2*4+1).toNat
abbrev n2(lf:Int):Nat:=(lf / 4*8+3).toNat
def vJ(c:CS):Bool:=dL c.sl&&(dL c.p0&&(dL c.p1&&dL c.p2))
def vX(p:PS)(node:Int):List UInt8:=if node=2*p.lf then p.sc else jl p.ab (aZ p.lf node).toNat
def zG(h b:List UInt8):Int:=if gU (aI (aY h)) b≠0 then 3 else if b.length-12≠32 then 10 else 0
def upB(p:PS)(h:List UInt8)(m:Nat):Bool:=aJ 4 (aI (aY h)) !=p.zs.getD m 0
def mZ(p:PS)(q:Nat)(h:List UInt8):PS:={ p with ab:=p.ab.take (q*32)++(h++p.ab.drop (q*32+32)) }
def iF(p:PS)(h:List UInt8):Bool×List UInt8×PS:=if upB p h 23=true then(false,zB 32,p)else(true,aj h,mZ p 2 h)
def gK(p:PS)(h:List UInt8):Bool×List UInt8×PS:=if upB p h (16+(p.lf / 4*8+3).toNat)=true then(false,zB 32,p)else iF (mZ p 1 h) (aj h)
def nY(p:PS)(h:List UInt8):Bool×List UInt8×PS:=if upB p h (16+(p.lf / 2*4+1).toNat)=true then(false,zB 32,p)else gK (mZ p 0 h) (aj h)
def dI(p:PS)(h:List UInt8)(k:Nat):Bool×List UInt8×PS:=if k=0 then nY p h else if k=1 then gK p h else iF p h
def jR(p:PS):PS:=if dJ p.zs (16+n1 p.lf)=true then p else mZ p 0 (zB 32)
def rF(p:PS):PS:=if dJ p.zs (16+n2 p.lf)=true then p else mZ p 1 (zB 32)
def kg(p:PS)(k:Nat):PS:=if k=0 then p else if k=1 then jR p else rF (jR p)
def dQ(l:List (Int×Int))(lf:Int):Nat:=l.findIdx fun q=>bf q.2 lf
def qE(p:PS)(c:CS)(l:List (Int×Int)):Int×List UInt8×PS:=
 if vJ c=false\/c.k≠l.length\/dQ l p.lf=l.length then(10,zB 32,p)
 else if zG (vX p (l.getD (dQ l p.lf) (0,0)).2) (c.bx (dQ l p.lf))≠0 then(zG (vX p (l.getD (dQ l p.lf) (0,0)).2) (c.bx (dQ l p.lf)),zB 32,p)
 else if(dI (kg p (l.getD (dQ l p.lf) (0,0)).1.toNat) (fF (aI (aY (vX p (l.getD (dQ l p.lf) (0,0)).2))) (c.bx (dQ l p.lf))) (l.getD (dQ l p.lf) (0,0)).1.toNat).1=true
  then(0,(dI (kg p (l.getD (dQ l p.lf) (0,0)).1.toNat) (fF (aI (aY (vX p (l.getD (dQ l p.lf) (0,0)).2))) (c.bx (dQ l p.lf))) (l.getD (dQ l p.lf) (0,0)).1.toNat).2)
  else(10,zB 32,(dI (kg p (l.getD (dQ l p.lf) (0,0)).1.toNat) (fF (aI (aY (vX p (l.getD (dQ l p.lf) (0,0)).2))) (c.bx (dQ l p.lf))) (l.getD (dQ l p.lf) (0,0)).1.toNat).2.2)
def yA(p:PS)(c:CS):Int:=if c.e≠p.e then 5 else if c.fr=p.lf\/dS p.zs c.fr=false then 6 else if mh (p.zs.getD (c.fr.toNat*2) 0) (bn c++c.tag) c.sE c.sS=true then 0 else 4
def oM(p:PS)(c:CS):Int×Option PS:=
 if yA p c≠0 then(yA p c,none)
 else if mI p c.fr c.n c.ops c.m c.vs≠0 then(mI p c.fr c.n c.ops c.m c.vs,none)
 else if(fq p c.fr c.n c.ops).gn.getD p.lf.toNat false=true then(0,none)
 else if p.e>=1099511627776 then(12,none)
 else if(qE (nu p (fq p c.fr c.n c.ops) c) c (bT (fq p c.fr c.n c.ops).zs c.fr (fq p c.fr c.n c.ops).ng)).1≠0
  then((qE (nu p (fq p c.fr c.n c.ops) c) c (bT (fq p c.fr c.n c.ops).zs c.fr (fq p c.fr c.n c.ops).ng)).1,none)
 else if eB (eT (qE (nu p (fq p c.fr c.n c.ops) c) c (bT (fq p c.fr c.n c.ops).zs c.fr (fq p c.fr c.n c.ops).ng)).2.2 (FU p.sD (qE (nu p (fq p c.fr c.n c.ops) c) c (bT (fq p c.fr c.n c.ops).zs c.fr (fq p c.fr c.n c.ops).ng)).2.1)).ep=c.tag
  then(0,some (eT (qE (nu p (fq p c.fr c.n c.ops) c) c (bT (fq p c.fr c.n c.ops).zs c.fr (fq p c.fr c.n c.ops).ng)).2.2 (FU p.sD (qE (nu p (fq p c.fr c.n c.ops) c) c (bT (fq p c.fr c.n c.ops).zs c.fr (fq p c.fr c.n c.ops).ng)).2.1)))
  else(11,none)
def kX:Option PS->A
 |none=>.v (.pointer none)
 |some q=>.sref [.ints .i64 1 [q.e],.ints .i64 31 q.zs,.bools 8 q.ad,.ints .i64 1 [q.k],.bytes 32 q.ch,.ints .i64 1 [q.lf],.bytes 32 q.sg,.bytes 32 q.sc,.bytes 96 q.ab,.bytes 32 q.ep,.bytes 32 q.sD] 0
end
noncomputable section
open Pm
attribute [local irreducible] aN aQ bq aJ aI eY dL aD aC aF bn aY aj bR fC fu bT dH jm jO bg eG aZ mI fq eX bJ aT dB jF gU fF
theorem Sj(c:CS):aV 200 [.agg (kR c)] (.d (.v (.bool (vJ c)))):=by
 refine eO (E:=Lu) Tryz.func200 Tryz.ntmps200 ?_
 unfold vJ
 cases h1:dL c.sl with
 |false=>
  refine ah ?_;(try exact⟨⟩)
  try rfl
 |true=>
  cases h2:dL c.p0 with
  |false=>
   refine ah ?_;(try exact⟨⟩)
   try rfl
  |true=>
   cases h3:dL c.p1 with
   |false=>
    refine ah ?_;(try exact⟨⟩)
    try rfl
   |true=>
    refine ah ?_
    cases h4:dL c.p2<;>rfl
theorem P8(p:PS)(node:Int)(hf:aL p.lf=true)(h0:node≠2*p.lf->0<=aZ p.lf node/\aZ p.lf node<3):bV 202 0 (.var (aP p)) [.v (.int .i64 node)] (.d (.agg [.bytes 32 (vX p node)])) (.var (aP p)):=by
 refine iH (E:=Lu) Tryz.func202 Tryz.ntmps202 ?_
 obtain⟨f0,f1⟩:=ig hf
 have e1:IntKind.i64.wrap (2*p.lf)=2*p.lf:=gH (by omega) (by omega)
 unfold vX
 by_cases h:node=2*p.lf
 ·have g1:(node==2*p.lf)=true:=by rw[h];simp
  rw[if_pos h]
  clear h h0
  refine ah ?_;(try exact⟨⟩)
  try rfl
 ·have g1:(node==2*p.lf)=false:=by simpa using h
  obtain⟨p0,p1⟩:=h0 h
  rw[if_neg h]
  clear h h0
  refine ah ?_;(try exact⟨⟩)
  try rfl
def YV(h b:List UInt8):List A:=if zG h b=0 then[.agg [.bytes 32 (fF (aI (aY h)) b)],.v (.int .i64 0)]else[.agg [.bytes 32 (zB 32)],.v (.int .i64 (zG h b))]
theorem az5(h b:List UInt8)(hb:b.length<=1000000):aV 201 [.agg [.bytes 32 h],.row b.length [.bytes b.length b]] (.t (YV h b)):=by
 refine eO (E:=Lu) Tryz.func201 Tryz.ntmps201 ?_
 by_cases h1:gU (aI (aY h)) b=0
 ·by_cases h2:b.length-12=32
  ·have e:zG h b=0:=by unfold zG;rw[if_neg (fun x=>x h1),if_neg (fun x=>x h2)]
   unfold YV
   rw[if_pos e]
   have g1:=decide_eq_true h1
   clear e h1
   refine ah ?_
   rw[h2]
   refine ah ?_;(try exact⟨⟩)
  ·have e:zG h b=10:=by unfold zG;rw[if_neg (fun x=>x h1),if_pos h2]
   unfold YV
   rw[e,if_neg (by decide)]
   have g1:=decide_eq_true h1
   have g2:(((b.length-12:Nat):Int) !=32)=true:=by simp;omega
   clear e h1 h2
   refine ah ?_;(try exact⟨⟩)
   try rfl
 ·have e:zG h b=3:=by unfold zG;rw[if_pos h1]
  unfold YV
  rw[e,if_neg (by decide)]
  have g1:=decide_eq_false h1
  have g2:(gU (aI (aY h)) b !=0)=true:=by simpa using h1
  clear e h1
  refine ah ?_;(try exact⟨⟩)
  try rfl
def bE1:List A->(bC->Prop)->Prop
 |[.agg [.bytes 32 h],x],K=>sH x fun b=>b.length<=1000000/\∀e u,e=zG h b->u=fF (aI (aY h)) b->vE (aN (decide (e=0)) (K (.t [.agg [.bytes 32 u],.v (.int .i64 0)])) (K (.t [.agg [.bytes 32 (zB 32)],.v (.int .i64 e)])))
 |_,_=>False
theorem aW3:∀args K,bE1 args K->∃r,aV 201 args r/\K r:=by
 intro args K h
 unfold bE1 at h
 split at h
 ·next a x=>
  obtain⟨b,⟨hb,h⟩,hv⟩:=ji h
  have h:=(h _ _ rfl rfl).out
  refine⟨.t (YV a b),fun S w vs hG ha=>?_,?_⟩
  ·obtain⟨v1,v2,rfl,k1,k2⟩:=CV ha
   exact az5 _ b hb S w _ hG (.cons k1 (.cons (hv k2) .nil))
  ·unfold YV
   by_cases he:zG a b=0
   ·rw[decide_eq_true he,qD]at h
    rw[if_pos he]
    exact h
   ·rw[decide_eq_false he,oG]at h
    rw[if_neg he]
    exact h
 ·exact h.elim
def bT3:ak:=Lu.add 201 bE1 aW3 (.of Tryz.func201)
def ao0:List A->(bC->Prop)->Prop
 |[x],K=>Ab x fun c=>∀b,b=vJ c->K (.d (.v (.bool b)))
 |_,_=>False
theorem ao1:∀args K,ao0 args K->∃r,aV 200 args r/\K r:=by
 intro args K h
 unfold ao0 at h
 split at h
 ·obtain⟨c,h,hc⟩:=lT h
  refine⟨_,fun S w vs' hG ha=>?_,h _ rfl⟩
  obtain⟨v1,rfl,k1⟩:=iC ha
  exact Sj c S w _ hG (.cons (hc k1).1 .nil)
 ·exact h.elim
def Fw:ak:=bT3.add 200 ao0 ao1 (.of Tryz.func200)
end
end Go.Proofs.YtegalalmamofdaaGreatDoor
