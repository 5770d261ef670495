/- -/
import Derived.Test.YtegalalmamofdaaGreatDoorJ33
import Derived.Test.YtegalalmamofdaaGreatDoorJ32
namespace Go.Proofs.YtegalalmamofdaaGreatDoor
set_option linter.all false
set_option maxRecDepth 100000
open Go.RowKit
set_option maxHeartbeats 8000000
variable{f:FuncId}
noncomputable section
open Pm
attribute [local irreducible] aN aQ bq aJ aI eY dL bP aD aC aF bn
def vO(bx:Nat->List UInt8)(k:Nat):List A:=(List.range k).map fun j=>.row (bx j).length [.bytes (bx j).length (bx j)]
def bxK:A->(Nat->(Nat->List UInt8)->Prop)->Prop
 | .recs k s f,K=>s=1/\∃bx,f=E5 bx/\K k bx
 | .row k [.gen m l],K=>m=k/\∃bx,l=vO bx k/\K k bx
 | .v (.slice none 0 0),K=>K 0 fun _=>[]
 |_,_=>False
theorem aB8(bx:Nat->List UInt8){k j:Nat}(h:j<k):(vO bx k).getD j (.v undef)=.row (bx j).length [.bytes (bx j).length (bx j)]:=by
 simp[vO,List.getD_eq_getElem?_getD,h]
theorem ac3{x:A}{K:Nat->(Nat->List UInt8)->Prop}(h:bxK x K):∃k bx,K k bx/\∀{S:Nat->Prop} {w:World} {v:Value},RA S w x v->RA S w (.recs k 1 (E5 bx)) v:=by
 unfold bxK at h
 split at h
 ·obtain⟨rfl,bx,rfl,h⟩:=h
  exact⟨_,_,h,fun h=>h⟩
 ·obtain⟨rfl,bx,rfl,h⟩:=h
  exact⟨_,_,h,fun hv=>aX5 (fun j hj=>by rw[aB8 bx hj];rfl) hv⟩
 ·refine⟨_,_,h,fun {S w v} hv=>?_⟩
  rw[RA.plain hv]
  exact .recs (cs:=fun _=>[]) (fun j hj=>absurd hj (by omega)) (Nat.le_refl _) (Nat.zero_le _) (fun _=>rfl) (.inl rfl)
 ·exact h.elim
def Ab:A->(CS->Prop)->Prop
 | .agg [.ints .i64 2 [e,fr],.gen 2 [x,y],.ints .i64 4 [sl,a,b,c],.gen 1 [z],.bytes 32 tg,.ints .i64 2 [sE,sS]],K=>
  IZ x fun n ops=>Qt y fun m vs=>bxK z fun k bx=>n<=3000/\m<=3000/\k<=3000/\(∀j,j<k->(bx j).length<=6000)/\K ⟨e,fr,n,ops,m,vs,sl,a,b,c,k,bx,tg,sE,sS⟩
 |_,_=>False
theorem lT{x:A}{K:CS->Prop}(h:Ab x K):∃c,K c/\∀{S:Nat->Prop} {w:World} {v:Value},RA S w x v->RA S w (.agg (kR c)) v/\lS c/\c.tag.length=32:=by
 unfold Ab at h
 split at h
 ·next e fr x y sl a b c z tg sE sS=>
  obtain⟨n,ops,hn,h,hx⟩:=mq h
  obtain⟨m,vs,hm,h,hy⟩:=qx h
  obtain⟨k,bx,⟨h1,h2,h3,h4,h⟩,hz⟩:=ac3 h
  refine⟨_,h,fun {S w v} hv=>?_⟩
  cases hv with
  |agg hl=>
   cases hl with
   |ints q1 r1=>
    cases r1 with
    |gen g1 q2 r2=>
     cases r2 with
     |ints q3 r3=>
      cases r3 with
      |gen g2 q4 r4=>
       cases r4 with
       |bytes q5 r5=>
        cases r5 with
        |ints q6 r6=>
         cases r6
         cases g1 with
         |cons gx gx1 g1=>
          cases g1 with
          |cons gy gy1 g1=>
           cases g1
           cases g2 with
           |cons gz gz1 g2=>
            cases g2
            have kx:=hx gx
            have ky:=hy gy
            have lx:ops.length=n*5:=by cases kx with|row k1 _ _ _ _=>exact k1.fB.1
            have ly:vs.length=m*3:=by cases ky with|row k1 _ _ _ _=>exact k1.fB.1
            exact⟨.agg (.ints q1 (.gen (.cons kx gx1 (.cons ky gy1 .nil)) rfl (.ints q3 (.gen (.cons (hz gz) gz1 .nil) rfl (.bytes q5 (.ints q6 .nil)))))),⟨h1,h2,h3,lx,ly,h4⟩,q5⟩
 ·exact h.elim
def br6(g:CS->bC):List A->(bC->Prop)->Prop
 |[x],K=>Ab x fun c=>K (g c)
 |_,_=>False
theorem aN6{g:CS->bC}(hx:∀c,lS c->c.tag.length=32->aV f [.agg (kR c)] (g c)):∀args K,br6 g args K->∃r,aV f args r/\K r:=by
 intro args K h
 unfold br6 at h
 split at h
 ·obtain⟨c,h,hc⟩:=lT h
  refine⟨_,fun S w vs hG ha=>?_,h⟩
  obtain⟨v,rfl,h1⟩:=iC ha
  obtain⟨k1,k2,k3⟩:=hc h1
  exact hx c k2 k3 S w _ hG (.cons k1 .nil)
 ·exact h.elim
def be8(c:CS):bC:=.o 5 1 (jr c) [.bytes (jr c) (bn c)]
def WI(c:CS):bC:=.o 5 1 (jr c+32) [.bytes (jr c+32) (bn c++c.tag)]
def ab6:List A->(bC->Prop)->Prop
 |[x],K=>Ab x fun c=>K (be8 c)\/K (.d (.row (jr c) [.bytes (jr c) (bn c)]))
 |_,_=>False
theorem ab7(hx:∀c,lS c->aV f [.agg (kR c)] (be8 c)):∀args K,ab6 args K->∃r,aV f args r/\K r:=by
 intro args K h
 unfold ab6 at h
 split at h
 ·obtain⟨c,h,hc⟩:=lT h
  rcases h with h|h
  ·refine⟨_,fun S w vs hG ha=>?_,h⟩
   obtain⟨v,rfl,h1⟩:=iC ha
   obtain⟨k1,k2,k3⟩:=hc h1
   exact hx c k2 S w _ hG (.cons k1 .nil)
  ·refine⟨_,fun S w vs hG ha=>?_,h⟩
   obtain⟨v,rfl,h1⟩:=iC ha
   obtain⟨k1,k2,k3⟩:=hc h1
   exact sw (hx c k2) S w _ hG (.cons k1 .nil)
 ·exact h.elim
def bU2:ak:=bQ6.add 128 ab6 (ab7 Qx) (.of Tryz.func128)
def bi1:ak:=bU2
theorem Nv{c:CS}(h:lS c):jr c<=30000000:=by
 have:=BQ (bx:=c.bx) (k:=c.k) h.bx
 have h1:=h.n;have h2:=h.m;have h3:=h.k
 unfold jr
 omega
attribute [local irreducible] jr
theorem Zf(c:CS)(hc:lS c)(ht:c.tag.length=32):aV 91 [.agg (kR c)] (WI c):=by
 refine eO (E:=bi1) Tryz.func91 Tryz.ntmps91 ?_
 have hb:=Nv hc
 have hl:=oC hc
 obtain⟨e,fr,n,ops,m,vs,sl,a,b,d,k,bx,tg,sE,sS⟩:=c
 obtain⟨h1,h2,h3,h4,h5,h6⟩:=id hc
 simp only at h1 h2 h3 h4 h5 h6 ht
 refine ah ?_
 refine Or.inl ?_
 refine ah ?_;(try exact⟨⟩)
 rfl
def bU3:ak:=bi1.add 91 (br6 WI) (aN6 Zf) (.of Tryz.func91)
def bi2:ak:=bU3
end
noncomputable section
open Pm
attribute [local irreducible] aN aQ bq aJ aI eY dL bP aD aC aF bn aY aj bR
def prK:A->(PS->Prop)->Prop
 | .sref [.ints .i64 1 [e],.ints .i64 31 zs,.bools 8 ad,.ints .i64 1 [k],.bytes 32 ch,.ints .i64 1 [lf],.bytes 32 sg,.bytes 32 sc,.bytes 96 ab,.bytes 32 ep,.bytes 32 sD] 0,K=>K ⟨e,zs,ad,k,ch,lf,sg,sc,ab,ep,sD⟩
 |_,_=>False
theorem uV{x:A}{K:PS->Prop}(h:prK x K):∃p,x=.sref (aP p) 0/\K p:=by
 unfold prK at h
 split at h
 ·exact⟨_,rfl,h⟩
 ·exact h.elim
def prM:Bk->(PS->Prop)->Prop
 | .var [.ints .i64 1 [e],.ints .i64 31 zs,.bools 8 ad,.ints .i64 1 [k],.bytes 32 ch,.ints .i64 1 [lf],.bytes 32 sg,.bytes 32 sc,.bytes 96 ab,.bytes 32 ep,.bytes 32 sD],K=>K ⟨e,zs,ad,k,ch,lf,sg,sc,ab,ep,sD⟩
 |_,_=>False
theorem zH{x:Bk}{K:PS->Prop}(h:prM x K):∃p,x=.var (aP p)/\K p:=by
 unfold prM at h
 split at h
 ·exact⟨_,rfl,h⟩
 ·exact h.elim
def ofP(g:PS->bC)(g0:bC):List A->(bC->Prop)->Prop
 |[.v (.pointer none)],K=>K g0
 |[x],K=>prK x fun p=>K (g p)
 |_,_=>False
theorem zy{g:PS->bC}{g0:bC}(h0:aV f [.v (.pointer none)] g0)(hx:∀p,aV f [.sref (aP p) 0] (g p)):∀args K,ofP g g0 args K->∃r,aV f args r/\K r:=by
 intro args K h
 unfold ofP at h
 split at h
 ·exact⟨_,h0,h⟩
 ·obtain⟨p,rfl,h⟩:=uV h
  exact⟨_,hx p,h⟩
 ·exact h.elim
theorem Xx(h:List UInt8):aV 38 [.agg [.bytes 32 h]] (.p (.var (aP (by0 h)))):=by
 refine eO (E:=bi2) Tryz.func38 Tryz.ntmps38 ?_
 refine ah ?_;(try exact⟨⟩)
 rfl
def newP(g:List UInt8->PS):List A->(bC->Prop)->Prop
 |[.agg [.bytes 32 h]],K=>K (.p (.var (aP (g h))))\/K (.d (.sref (aP (g h)) 0))
 |_,_=>False
theorem VR{g:List UInt8->PS}(hx:∀h,aV f [.agg [.bytes 32 h]] (.p (.var (aP (g h))))):∀args K,newP g args K->∃r,aV f args r/\K r:=by
 intro args K h
 unfold newP at h
 split at h
 ·rcases h with h|h
  ·exact⟨_,hx _,h⟩
  ·exact⟨_,uH (hx _),h⟩
 ·exact h.elim
def bU4:ak:=bi2.add 38 (newP by0) (VR Xx) (.of Tryz.func38)
def bU5:ak:=bU4.add 63 LZ J8 (.of Tryz.func63)
def bU6:ak:=bU5.add 20 EB Hq (.of Tryz.func20)
def bU7:ak:=bU6.add 166 VT (OY VU) (.of Tryz.func166)
def bU8:ak:=bU7
def bU9:ak:=bU8.add 124 bG6 ba9 (.of Tryz.func124)
def bV0:ak:=bU9
def bV1:ak:=bV0.add 79 MS (KL Qr) (.of Tryz.func79)
def sW:ak:=bV1
theorem KD(p:PS):aV 48 [.sref (aP p) 0] (.p (.obj (mO (aI p.sg)))):=by
 refine eO (E:=sW) Tryz.func48 Tryz.ntmps48 ?_
 refine ah ?_;(try exact⟨⟩)
theorem Uj:aV 48 [.v (.pointer none)] (.d (.v (.pointer none))):=by
 refine eO (E:=sW) Tryz.func48 Tryz.ntmps48 ?_
 refine ah ?_;(try exact⟨⟩)
theorem EM(p:PS):aV 12 [.sref (aP p) 0] (.d (.agg (eD p.e p.zs p.ad p.k p.ch))):=by
 refine eO (E:=sW) Tryz.func12 Tryz.ntmps12 ?_
 refine ah ?_;(try exact⟨⟩)
theorem Ij:aV 12 [.v (.pointer none)] (.d (.agg DX)):=by
 refine eO (E:=sW) Tryz.func12 Tryz.ntmps12 ?_
 refine ah ?_;(try exact⟨⟩)
 rfl
theorem Bf(p:PS):aV 14 [.sref (aP p) 0] (.d (.v (.int .i64 p.lf))):=by
 refine eO (E:=sW) Tryz.func14 Tryz.ntmps14 ?_
 refine ah ?_;(try exact⟨⟩)
theorem CO:aV 14 [.v (.pointer none)] (.d (.v (.int .i64 0))):=by
 refine eO (E:=sW) Tryz.func14 Tryz.ntmps14 ?_
 refine ah ?_;(try exact⟨⟩)
theorem El(p:PS):aV 34 [.sref (aP p) 0] (.p (.var (aP p))):=by
 refine eO (E:=sW) Tryz.func34 Tryz.ntmps34 ?_
 refine ah ?_;(try exact⟨⟩)
theorem NT:aV 34 [.v (.pointer none)] (.d (.v (.pointer none))):=by
 refine eO (E:=sW) Tryz.func34 Tryz.ntmps34 ?_
 refine ah ?_;(try exact⟨⟩)
theorem XR(p:PS)(l:ByteArray)(hl:l.size<=1000000):aV 15 [.sref (aP p) 0,.v (.string l)] (.d (.agg [.bytes 32 (aO4 p.ep (sb l))])):=by
 refine eO (E:=sW) Tryz.func15 Tryz.ntmps15 ?_
 refine ah ?_;(try exact⟨⟩)
 rfl
theorem RZ(l:ByteArray):aV 15 [.v (.pointer none),.v (.string l)] (.d (.agg [.bytes 32 (zB 32)])):=by
 refine eO (E:=sW) Tryz.func15 Tryz.ntmps15 ?_
 refine ah ?_;(try exact⟨⟩)
 rfl
theorem Yf(p:PS):aV 84 [.sref (aP p) 0] (.d (.v (.bool (decide (p.e>=1099511627776))))):=by
 refine eO (E:=sW) Tryz.func84 Tryz.ntmps84 ?_
 refine ah ?_;(try exact⟨⟩)
def bi3:ak:=sW.add 48 (ofP (fun p=>.p (.obj (mO (aI p.sg)))) (.d (.v (.pointer none)))) (zy Uj KD) (.of Tryz.func48)
theorem aT0(h:List UInt8):aV 39 [.agg [.bytes 32 h]] (.d (.agg [.ints .i64 2 (pK h)])):=by
 refine eO (E:=bi3) Tryz.func39 Tryz.ntmps39 ?_
 have h1:=iq (kQ h)
 have h2:=iq (aY (aK h))
 obtain⟨a1,a2⟩:=h1
 obtain⟨a3,a4⟩:=h2
 have a5:0<=aI (kQ h):=by omega
 have a6:0<=aI (aY (aK h)):=by omega
 refine ah ?_
 refine Or.inr ?_
 refine ah ?_;(try exact⟨⟩)
 try rfl
theorem ag7(p:PS)(h:List UInt8):bV 40 0 (.var (aP p)) [.agg [.bytes 32 h]] (.t []) (.var (aP (fG p h))):=by
 refine iH (E:=sW) Tryz.func40 Tryz.ntmps40 ?_
 refine ah ?_;(try exact⟨⟩)
end
noncomputable section
open Pm
attribute [local irreducible] aN aQ bq aJ aI eY dL bP aD aC aF bn aY aj bR fC fu
def as9(g:PS->List UInt8->bC)(g':PS->List UInt8->PS):Nat->Bk->List A->(bC->Bk->Prop)->Prop
 |0,b,[.agg [.bytes 32 h]],K=>prM b fun p=>K (g p h) (.var (aP (g' p h)))
 |_,_,_,_=>False
theorem LX{g:PS->List UInt8->bC}{g':PS->List UInt8->PS}(hx:∀p h,bV f 0 (.var (aP p)) [.agg [.bytes 32 h]] (g p h) (.var (aP (g' p h)))):∀pos x args K,as9 g g' pos x args K->∃r x',bV f pos x args r x'/\K r x':=by
 intro pos x args K h
 unfold as9 at h
 split at h
 ·obtain⟨p,rfl,h⟩:=zH h
  exact⟨_,_,hx p _,h⟩
 ·exact h.elim
def bV2:ak:=bi3.gI 40 (as9 (fun _ _=>.t []) fG) (LX ag7) (.of Tryz.func40)
def ar1:List A->(bC->Prop)->Prop
 |[.agg [.bytes 32 h]],K=>∀L,L=pK h->K (.d (.agg [.ints .i64 2 L]))
 |_,_=>False
theorem ar2:∀args K,ar1 args K->∃r,aV 39 args r/\K r:=by
 intro args K h
 unfold ar1 at h
 split at h
 ·exact⟨_,aT0 _,h _ rfl⟩
 ·exact h.elim
def ai2:ak:=bV2.add 39 ar1 ar2 (.of Tryz.func39)
theorem BU(h:List UInt8):aV 17 [.agg [.bytes 32 h]] (.p (.var (aP (bD h)))):=by
 refine eO (E:=ai2) Tryz.func17 Tryz.ntmps17 ?_
 refine ah ?_
 refine Or.inl ?_
 refine ah ?_
 intro L hL
 refine ah ?_
 have e:bD h=fG ⟨0,L++List.drop 2 (List.replicate 31 0),(List.replicate 8 false).set 0 true,1,zB 32,0,kQ h,aK h,zB 96,zB 32,zB 32⟩ (am5 (aK h)):=by rw[hL];rfl
 rw[e]
 rfl
theorem aA5(p:PS)(h:List UInt8):bV 90 0 (.var (aP p)) [.agg [.bytes 32 h]] (.d (.agg [.bytes 32 (eB (eT p h).ep)])) (.var (aP (eT p h))):=by
 refine iH (E:=ai2) Tryz.func90 Tryz.ntmps90 ?_
 have hv:(bR p.e p.zs p.ad p.k p.ch).length=32:=Uw _ _ _ _ _
 refine ah ?_;(try exact⟨⟩)
 rfl
def bi4:ak:=ai2.gI 90 (as9 (fun p h=>.d (.agg [.bytes 32 (eB (eT p h).ep)])) eT) (LX aA5) (.of Tryz.func90)
theorem aA8(p:PS)(h:List UInt8):bV 85 0 (.var (aP p)) [.agg [.bytes 32 h]] (.d (.agg [.bytes 32 (MQ (aK h))])) (.var (aP (qM p h))):=by
 refine iH (E:=bi4) Tryz.func85 Tryz.ntmps85 ?_
 refine ah ?_;(try exact⟨⟩)
 rfl
def bV3:ak:=bi4.gI 85 (as9 (fun p h=>.d (.agg [.bytes 32 (MQ (aK h))])) qM) (LX aA8) (.of Tryz.func85)
def bV4:ak:=bV3.add 17 (newP bD) (VR BU) (.of Tryz.func17)
def bq9:List A->(bC->Prop)->Prop
 |[.agg [.ints .i64 1 [e],.ints .i64 31 zs,.bools 8 ad,.ints .i64 1 [k],.bytes 32 ch],.v (.int .i64 fr),x,y],K=>IZ x fun n ops=>Qt y fun m vs=>K (.d (.v (.int .i64 (fu e zs ad k ch fr ops n vs m))))
 |_,_=>False
theorem uX{S:Nat->Prop}{w:World}{a b c d:A}{vs:List Value}(h:mH S w [a,b,c,d] vs):∃x y z u,vs=[x,y,z,u]/\RA S w a x/\RA S w b y/\RA S w c z/\RA S w d u:=by
 cases h with|cons h r=>cases r with|cons h2 r=>cases r with|cons h3 r=>cases r with|cons h4 r=>cases r;exact⟨_,_,_,_,rfl,h,h2,h3,h4⟩
theorem aM1(hx:∀e zs ad k ch fr ops n,n<=1000000->∀vs m,m<=1000000->vs.length=m*3->aV f [.agg (eD e zs ad k ch),.v (.int .i64 fr),.row n [.ints .i64 (n*5) ops],.row m [.ints .i64 (m*3) vs]] (.d (.v (.int .i64 (fu e zs ad k ch fr ops n vs m))))):∀args K,bq9 args K->∃r,aV f args r/\K r:=by
 intro args K h
 unfold bq9 at h
 split at h
 ·obtain⟨n,ops,hn,h,hp⟩:=mq h
  obtain⟨m,vs,hm,h,hq⟩:=qx h
  refine⟨_,fun S w vs' hG ha=>?_,h⟩
  obtain⟨v1,v2,v3,v4,rfl,k1,k2,k3,k4⟩:=uX ha
  have k5:=hq k4
  have hl:vs.length=m*3:=by cases k5 with|row k6 _ _ _ _=>exact k6.fB.1
  exact hx _ _ _ _ _ _ _ _ hn _ _ hm hl S w _ hG (.cons k1 (.cons k2 (.cons (hp k3) (.cons k5 .nil))))
 ·exact h.elim
def bV5:ak:=bV4.add 123 bq9 (aM1 ac9) (.of Tryz.func123)
def bV6:ak:=bV5
def bV7:ak:=bV6.add 75 applyN (Jg Ns) (.of Tryz.func75)
def Dk:ak:=bV7
def mI(p:PS)(fr:Int)(n:Nat)(ops:List Int)(m:Nat)(vs:List Int):Int:=
 if fu p.e p.zs p.ad p.k p.ch fr ops n vs m≠0 then fu p.e p.zs p.ad p.k p.ch fr ops n vs m else(fC p.e ⟨p.zs,p.ad,p.k,F8,F8⟩ fr ops n).1
def fq(p:PS)(fr:Int)(n:Nat)(ops:List Int):Vw:=(fC p.e ⟨p.zs,p.ad,p.k,F8,F8⟩ fr ops n).2
def apR(p:PS)(fr:Int)(n:Nat)(ops:List Int)(m:Nat)(vs:List Int):List A:=
 if mI p fr n ops m vs=0 then[.agg (eD p.e (fq p fr n ops).zs (fq p fr n ops).ad (fq p fr n ops).k p.ch),.agg [.bools 8 (fq p fr n ops).ng],.agg [.bools 8 (fq p fr n ops).gn],.v (.int .i64 0)]
 else[.agg DX,.agg [.bools 8 F8],.agg [.bools 8 F8],.v (.int .i64 (mI p fr n ops m vs))]
theorem YL(p:PS)(fr:Int)(n:Nat)(ops:List Int)(hn:n<=1000000)(m:Nat)(vs:List Int)(hm:m<=1000000):
  aV 83 [.sref (aP p) 0,.v (.int .i64 fr),.row n [.ints .i64 (n*5) ops],.row m [.ints .i64 (m*3) vs]] (.t (apR p fr n ops m vs)):=by
 refine eO (E:=Dk) Tryz.func83 Tryz.ntmps83 ?_
 unfold apR
 by_cases h1:fu p.e p.zs p.ad p.k p.ch fr ops n vs m=0
 ·have h2:(fu p.e p.zs p.ad p.k p.ch fr ops n vs m !=0)=false:=by rw[h1];rfl
  have e:mI p fr n ops m vs=(fC p.e ⟨p.zs,p.ad,p.k,F8,F8⟩ fr ops n).1:=by unfold mI;rw[if_neg (fun h=>h h1)]
  rw[e]
  clear e h1
  unfold fq
  by_cases h3:(fC p.e ⟨p.zs,p.ad,p.k,F8,F8⟩ fr ops n).1=0
  ·have h4:=decide_eq_true h3
   rw[if_pos h3]
   clear h3
   refine ah ?_;(try exact⟨⟩)
  ·have h4:=decide_eq_false h3
   rw[if_neg h3]
   clear h3
   refine ah ?_;(try exact⟨⟩)
   rfl
 ·have h2:(fu p.e p.zs p.ad p.k p.ch fr ops n vs m !=0)=true:=by simpa using h1
  have e:mI p fr n ops m vs=fu p.e p.zs p.ad p.k p.ch fr ops n vs m:=by unfold mI;rw[if_pos h1]
  rw[e,if_neg h1]
  clear e h1
  refine ah ?_;(try exact⟨⟩)
  rfl
end
noncomputable section
open Pm
attribute [local irreducible] aN aQ bq aJ aI eY dL bP aD aC aF bn aY aj bR fC fu
theorem NP(n:Nat)(zs:List Int)(hn:n<=100000):aV 86 [.row n [.ints .i64 (n*5) zs]] (.d (.row n [.ints .i64 (n*5) zs])):=by
 intro S w vs hG ha
 obtain⟨v,rfl,hv⟩:=iC ha
 have hl:zs.length=n*5:=by cases hv with|row k1 _ _ _ _=>exact k1.fB.1
 by_cases h0:n=0
 ·subst h0
  obtain rfl:zs=[]:=List.length_eq_zero_iff.1 (by omega)
  obtain⟨ad,c,rfl,hc⟩:∃ad c,v=.slice ad 0 c/\(ad=none->c=0):=by cases hv with|row k1 k2 k3 k4 k5=>exact⟨_,_,rfl,k4⟩
  cases ad with
  |none=>
   obtain rfl:=hc rfl
   have h:aV 86 [.v (.slice none 0 0)] (.d (.v (.slice none 0 0))):=by
    refine eO (E:=Dk) Tryz.func86 Tryz.ntmps86 ?_
    refine ah ?_;(try exact⟨⟩)
   refine al7 (fun {S w v} hr=>?_) h S w _ hG (.cons (.v _) .nil)
   rw[RA.plain hr]
   exact .row (cs:=[]) (.fI rfl rfl) (Nat.le_refl _) (Nat.zero_le _) (fun _=>rfl) (.inl rfl)
  |some a=>
   have h:aV 86 [.v (.slice (some a) 0 c)] (.d (.row 0 [.ints .i64 (0*5) []])):=by
    refine sw (e:=31) (sz:=5) ?_
    refine eO (E:=Dk) Tryz.func86 Tryz.ntmps86 ?_
    refine ah ?_;(try exact⟨⟩)
    try rfl
   exact h S w _ hG (.cons (.v _) .nil)
 ·have h:aV 86 [.row n [.ints .i64 (n*5) zs]] (.d (.row n [.ints .i64 (n*5) zs])):=by
   refine sw (e:=31) (sz:=5) ?_
   refine eO (E:=Dk) Tryz.func86 Tryz.ntmps86 ?_
   refine ah ?_;(try exact⟨⟩)
  exact h S w _ hG ha
theorem IQ(n:Nat)(zs:List Int)(hn:n<=100000):aV 87 [.row n [.ints .i64 (n*3) zs]] (.d (.row n [.ints .i64 (n*3) zs])):=by
 intro S w vs hG ha
 obtain⟨v,rfl,hv⟩:=iC ha
 have hl:zs.length=n*3:=by cases hv with|row k1 _ _ _ _=>exact k1.fB.1
 by_cases h0:n=0
 ·subst h0
  obtain rfl:zs=[]:=List.length_eq_zero_iff.1 (by omega)
  obtain⟨ad,c,rfl,hc⟩:∃ad c,v=.slice ad 0 c/\(ad=none->c=0):=by cases hv with|row k1 k2 k3 k4 k5=>exact⟨_,_,rfl,k4⟩
  cases ad with
  |none=>
   obtain rfl:=hc rfl
   have h:aV 87 [.v (.slice none 0 0)] (.d (.v (.slice none 0 0))):=by
    refine eO (E:=Dk) Tryz.func87 Tryz.ntmps87 ?_
    refine ah ?_;(try exact⟨⟩)
   refine al7 (fun {S w v} hr=>?_) h S w _ hG (.cons (.v _) .nil)
   rw[RA.plain hr]
   exact .row (cs:=[]) (.fI rfl rfl) (Nat.le_refl _) (Nat.zero_le _) (fun _=>rfl) (.inl rfl)
  |some a=>
   have h:aV 87 [.v (.slice (some a) 0 c)] (.d (.row 0 [.ints .i64 (0*3) []])):=by
    refine sw (e:=103) (sz:=3) ?_
    refine eO (E:=Dk) Tryz.func87 Tryz.ntmps87 ?_
    refine ah ?_;(try exact⟨⟩)
    try rfl
   exact h S w _ hG (.cons (.v _) .nil)
 ·have h:aV 87 [.row n [.ints .i64 (n*3) zs]] (.d (.row n [.ints .i64 (n*3) zs])):=by
   refine sw (e:=103) (sz:=3) ?_
   refine eO (E:=Dk) Tryz.func87 Tryz.ntmps87 ?_
   refine ah ?_;(try exact⟨⟩)
  exact h S w _ hG ha
def ae1:List A->(bC->Prop)->Prop
 |[x],K=>IZ x fun n ops=>n<=100000/\K (.d (.row n [.ints .i64 (n*5) ops]))
 |_,_=>False
theorem ae2:∀args K,ae1 args K->∃r,aV 86 args r/\K r:=by
 intro args K h
 unfold ae1 at h
 split at h
 ·obtain⟨n,ops,hn,⟨h1,h⟩,hp⟩:=mq h
  refine⟨_,fun S w vs hG ha=>?_,h⟩
  obtain⟨v,rfl,k⟩:=iC ha
  exact NP n ops h1 S w _ hG (.cons (hp k) .nil)
 ·exact h.elim
def ae3:List A->(bC->Prop)->Prop
 |[x],K=>Qt x fun n ops=>n<=100000/\K (.d (.row n [.ints .i64 (n*3) ops]))
 |_,_=>False
theorem ae4:∀args K,ae3 args K->∃r,aV 87 args r/\K r:=by
 intro args K h
 unfold ae3 at h
 split at h
 ·obtain⟨n,ops,hn,⟨h1,h⟩,hp⟩:=qx h
  refine⟨_,fun S w vs hG ha=>?_,h⟩
  obtain⟨v,rfl,k⟩:=iC ha
  exact IQ n ops h1 S w _ hG (.cons (hp k) .nil)
 ·exact h.elim
def bV8:ak:=Dk.add 86 ae1 ae2 (.of Tryz.func86)
def bV9:ak:=bV8.add 87 ae3 ae4 (.of Tryz.func87)
def ay7:List A->(bC->Prop)->Prop
 |[.v (.int .i64 x)],K=>aL x=true/\K (.d (.agg [.ints .i64 3 [x / 2*4+1,x / 4*8+3,7]]))
 |_,_=>False
theorem ay8(hx:∀x,aV f [.v (.int .i64 x)] (.d (.agg [.ints .i64 3 (Dz x)]))):∀args K,ay7 args K->∃r,aV f args r/\K r:=by
 intro args K h
 unfold ay7 at h
 split at h
 ·next x=>
  have h2:=hx x
  rw[Dz,if_pos h.1]at h2
  exact⟨_,h2,h.2⟩
 ·exact h.elim
def bW0:ak:=bV9.add 129 ay7 (ay8 Wd) (.of Tryz.func129)
def bW1:ak:=bW0
def bW2:ak:=bW1.add 177 aR8 (VH ap7) (.of Tryz.func177)
def bW3:ak:=bW2.add 131 Ej (Fh Js) (.of Tryz.func131)
def bW4:ak:=bW3.add 127 VK (OI aq8) (.of Tryz.func127)
def bi5:ak:=bW4.add 41 av2 (L9 Tc) (.of Tryz.func41)
theorem TG(lf node:Int)(h:aL lf=true):aV 130 [.v (.int .i64 lf),.v (.int .i64 node)] (.d (.v (.int .i64 (aZ lf node)))):=by
 refine eO (E:=bi5) Tryz.func130 Tryz.ntmps130 ?_
 refine ah ?_;(try exact⟨⟩)
 try rfl
def TH:List A->(bC->Prop)->Prop
 |[.v (.int .i64 lf),.v (.int .i64 node)],K=>aL lf=true/\K (.d (.v (.int .i64 (aZ lf node))))
 |_,_=>False
theorem YT:∀args K,TH args K->∃r,aV 130 args r/\K r:=by
 intro args K h
 unfold TH at h
 split at h
 ·exact⟨_,TG _ _ h.1,h.2⟩
 ·exact h.elim
def bi6:ak:=bi5.add 130 TH YT (.of Tryz.func130)
theorem Xm(e:Int)(zs:List Int)(ad:List Bool)(k:Int)(ch:List UInt8)(e2:Int)(zs2:List Int)(Nk:List Bool)(k2:Int)(ch2:List UInt8)(c:CS)(hc:lS c)(ht:c.tag.length=32)(hf:aL c.fr=true)(he: -4611686018427387904<=e/\e<=4611686018427387904):
  aV 89 [.agg (eD e zs ad k ch),.agg (eD e2 zs2 Nk k2 ch2),.agg (kR c)] (.d (.agg (eD (e+1) (qY zs2 c.fr c.sl c.p0 c.p1 c.p2) Nk k2 (ad3 ch (bn c))))):=by
 refine eO (E:=bi6) Tryz.func89 Tryz.ntmps89 ?_
 obtain⟨h1,h2,h3,h4,h5,h6⟩:=id hc
 obtain⟨f0,f1⟩:=ig hf
 obtain⟨he0,he1⟩:=he
 have hb:=Nv hc
 refine ah ?_
 refine Or.inr ?_
 refine ah ?_
 refine aX.mk (aH 4 ?_)
 refine ah ?_;(try exact⟨⟩)
 rfl
def bq4:List A->(bC->Prop)->Prop
 |[.agg [.ints .i64 1 [e],.ints .i64 31 zs,.bools 8 ad,.ints .i64 1 [k],.bytes 32 ch],.agg [.ints .i64 1 [e2],.ints .i64 31 zs2,.bools 8 Nk,.ints .i64 1 [k2],.bytes 32 ch2],x],K=>
  Ab x fun c=>aL c.fr=true/\ -4611686018427387904<=e/\e<=4611686018427387904/\K (.d (.agg (eD (e+1) (qY zs2 c.fr c.sl c.p0 c.p1 c.p2) Nk k2 (ad3 ch (bn c)))))
 |_,_=>False
theorem aL5:∀args K,bq4 args K->∃r,aV 89 args r/\K r:=by
 intro args K h
 unfold bq4 at h
 split at h
 ·obtain⟨c,⟨h1,h2,h3,h⟩,hc⟩:=lT h
  refine⟨_,fun S w vs hG ha=>?_,h⟩
  obtain⟨v1,v2,v3,rfl,k1,k2,k3⟩:=jH ha
  obtain⟨q1,q2,q3⟩:=hc k3
  exact Xm _ _ _ _ _ _ _ _ _ _ c q2 q3 h1 ⟨h2,h3⟩ S w _ hG (.cons k1 (.cons k2 (.cons q1 .nil)))
 ·exact h.elim
def bW5:ak:=bi6.add 89 bq4 aL5 (.of Tryz.func89)
end
end Go.Proofs.YtegalalmamofdaaGreatDoor
