/- -/
import Derived.Test.YtegalalmamofdaaGreatDoorJ36
namespace Go.Proofs.YtegalalmamofdaaGreatDoor
set_option linter.all false
set_option maxRecDepth 100000
open Go.RowKit
noncomputable section
open Pm
attribute [local irreducible] aN aQ bq aJ aI eY dL aD aC aF bn aY aj bR fC fu bT dH jm eG jO bg aZ
def Mr:Nat->Bk->List A->(bC->Bk->Prop)->Prop
 |0,.obj p,[],K=>∃h,p=mO (aI h)/\K (.d (.v (.int .i64 (aJ 4 (aI h))))) (.obj (mO (aI h)))
 |_,_,_,_=>False
theorem TU:∀pos x args K,Mr pos x args K->∃r x',bV 62 pos x args r x'/\K r x':=by
 intro pos x args K h
 unfold Mr at h
 split at h
 ·obtain⟨a,rfl,h⟩:=h
  have hb:=iq a
  exact uW _ _ _ _ ⟨_,rfl,by omega,hb.2,h⟩
 ·exact h.elim
def aE0:Nat->Bk->List A->(bC->Bk->Prop)->Prop
 |0,.obj P,[x],K=>∃h,P=mO (aI h)/\sH x fun p=>p.length<=1000000/\K (.d (.agg [.ints .i64 2 [iV (aI h) p,jI (aI h) p]])) (.obj (mO (aI h)))
 |_,_,_,_=>False
theorem aE1:∀pos x args K,aE0 pos x args K->∃r x',bV 77 pos x args r x'/\K r x':=by
 intro pos x args K h
 unfold aE0 at h
 split at h
 ·obtain⟨a,rfl,h⟩:=h
  have hb:=iq a
  exact Qd _ _ _ _ ⟨_,rfl,hb.1,hb.2,h⟩
 ·exact h.elim
def af9:List A->(bC->Prop)->Prop
 |[.v (.pointer none)],K=>K (.d (.v (.pointer none)))
 |[x],K=>prK x fun p=>K (.p (.var (aP p)))\/K (.d (.sref (aP p) 0))
 |_,_=>False
theorem ag0:∀args K,af9 args K->∃r,aV 34 args r/\K r:=by
 intro args K h
 unfold af9 at h
 split at h
 ·exact⟨_,NT,h⟩
 ·obtain⟨p,rfl,h⟩:=uV h
  rcases h with h|h
  ·exact⟨_,El p,h⟩
  ·exact⟨_,uH (El p),h⟩
 ·exact h.elim
def aq9:List A->(bC->Prop)->Prop
 |[x],K=>prK x fun p=>K (.d (.v (.bool (decide (p.e>=1099511627776)))))
 |_,_=>False
theorem ar0:∀args K,aq9 args K->∃r,aV 84 args r/\K r:=by
 intro args K h
 unfold aq9 at h
 split at h
 ·obtain⟨p,rfl,h⟩:=uV h
  exact⟨_,Yf p,h⟩
 ·exact h.elim
attribute [local irreducible] mI fq
def apK(p:PS)(fr:Int)(n:Nat)(ops:List Int)(m:Nat)(vs:List Int)(K:List A->Prop):Prop:=
 vE (aN (decide (mI p fr n ops m vs=0))
  (∀s,s=fq p fr n ops->K [.agg (eD p.e s.zs s.ad s.k p.ch),.agg [.bools 8 s.ng],.agg [.bools 8 s.gn],.v (.int .i64 0)])
  (K [.agg DX,.agg [.bools 8 F8],.agg [.bools 8 F8],.v (.int .i64 (mI p fr n ops m vs))]))
theorem aa7{p:PS}{fr:Int}{n:Nat}{ops:List Int}{m:Nat}{vs:List Int}{K:List A->Prop}(h:apK p fr n ops m vs K):K (apR p fr n ops m vs):=by
 have h:=h.out
 unfold apR
 by_cases he:mI p fr n ops m vs=0
 ·rw[decide_eq_true he,qD]at h
  rw[if_pos he]
  exact h _ rfl
 ·rw[decide_eq_false he,oG]at h
  rw[if_neg he]
  exact h
def Ra:List A->(bC->Prop)->Prop
 |[x,.v (.int .i64 fr),o,v],K=>prK x fun p=>IZ o fun n ops=>Qt v fun m vs=>apK p fr n ops m vs fun l=>K (.t l)
 |_,_=>False
theorem Xi:∀args K,Ra args K->∃r,aV 83 args r/\K r:=by
 intro args K h
 unfold Ra at h
 split at h
 ·obtain⟨p,rfl,h⟩:=uV h
  obtain⟨n,ops,hn,h,ho⟩:=mq h
  obtain⟨m,vs,hm,h,hv⟩:=qx h
  refine⟨_,fun S w vs' hG ha=>?_,aa7 h⟩
  obtain⟨v1,v2,v3,v4,rfl,k1,k2,k3,k4⟩:=uX ha
  exact YL p _ n ops hn m vs hm S w _ hG (.cons k1 (.cons k2 (.cons (ho k3) (.cons (hv k4) .nil))))
 ·exact h.elim
def Rm:Nat->Bk->List A->(bC->Bk->Prop)->Prop
 |0,b,[.agg [.ints .i64 31 zs],.agg [.bools 8 ng],.agg [.bytes 32 d]],K=>prM b fun p=>∀N bx,N=(bT zs p.lf ng).length->bx=uw zs p.lf ng p.ab d->K (.d (.row N [.gen N (vO bx N)])) (.var (aP p))
 |_,_,_,_=>False
theorem Xt:∀pos x args K,Rm pos x args K->∃r x',bV 88 pos x args r x'/\K r x':=by
 intro pos x args K h
 unfold Rm at h
 split at h
 ·obtain⟨p,rfl,h⟩:=zH h
  exact⟨_,_,Vu (ac1 p _ _ _),h _ _ rfl rfl⟩
 ·exact h.elim
def kG(W:Nat->List Seg)(ng:List Bool):Nat->Nat->List Seg
 |0,_=>[]
 |j+1,i=>if ng.getD j false=true then(if i=fO ng j then W j else kG W ng j i)else kG W ng j i
theorem Ua{S:Nat->Prop}{w:World}{W:Nat->List Seg}(hW:∀j,dM (W j)=108)(ng:List Bool):∀(j:Nat) {cs:List Value},RL S w (sj W ng j) cs->cs.length=fO ng j*108/\∀i,i<fO ng j->RL S w (kG W ng j i) ((cs.drop (i*108)).take 108)
 |0,cs,h=>by
  rw[sj]at h
  cases h.qb
  exact⟨rfl,fun i hi=>absurd hi (by rw[fO];omega)⟩
 |j+1,cs,h=>by
  rw[sj]at h
  rw[fO]
  simp only[kG]
  by_cases hb:ng.getD j false=true
  ·rw[if_pos hb]at h
   rw[if_pos hb]
   obtain⟨c,d,rfl,h1,h2⟩:=h.split
   obtain⟨k1,k2⟩:=Ua hW ng j h1
   have k3:d.length=108:=by rw[h2.len,hW]
   refine⟨by rw[List.length_append,k1,k3];omega,fun i hi=>?_⟩
   rw[if_pos hb]
   by_cases hi2:i=fO ng j
   ·rw[if_pos hi2,hi2,<-k1,List.drop_left,<-k3,List.take_length]
    exact h2
   ·rw[if_neg hi2,List.drop_append_of_le_length (by omega),List.take_append_of_le_length (by simp;omega)]
    exact k2 i (by omega)
  ·rw[if_neg hb]at h
   rw[if_neg hb]
   simp only[if_neg hb]
   exact Ua hW ng j h
theorem bE9{S:Nat->Prop}{w:World}{v:Value}{W:Nat->List Seg}(hW:∀j,dM (W j)=108){ng:List Bool}(h:RA S w (.row (fO ng 8) (sj W ng 8)) v):RA S w (.recs (fO ng 8) 108 (kG W ng 8)) v:=by
 cases h with
 |row k h1 h2 h3 h4=>
  rename_i c cs a
  obtain⟨k1,k2⟩:=Ua hW ng 8 k
  refine .recs (cs:=fun i=>(cs.drop (i*108)).take 108) k2 h1 h2 h3 ?_
  rcases h4 with h4|⟨b,o,rfl,h5,h6,h7⟩
  ·left;rw[h4]at k1;simp at k1;omega
  ·refine .inr ⟨b,o,rfl,fun j hj=>.inr ⟨b,o+j*108,rfl,h5,h6,fun i hi=>?_⟩⟩
   simp only[List.length_take,List.length_drop]at hi
   rw[Nat.add_assoc,h7 (j*108+i) (by omega),List.getElem_take,List.getElem_drop]
theorem aP1{P:Program}{G:Nat->Option (List Seg)}{f:FuncId}{pos:Nat}{x x':Bk}{args:List A}{a b:A}(hab:∀{S:Nat->Prop} {w:World} {v:Value},RA S w a v->RA S w b v)(h:QK P G f pos x args (.d a) x'):QK P G f pos x args (.d b) x':=fun S w r vs hr hG hx hv=>(h S w r vs hr hG hx hv).mono fun e w' ⟨v,h1,h2,h3⟩=>⟨v,h1,hab h2,h3⟩
def bH4:Nat->Bk->List A->(bC->Bk->Prop)->Prop
 |0,b,[.agg [.bools 8 ng],.agg [.bytes 32 j],.agg [.bytes 32 t],.agg [.bytes 32 d]],K=>prM b fun q=>aL q.lf=true/\(∀j:Nat,ng.getD j false=true->(j:Int)≠q.lf)/\∀W,W=dK q q.ab j t d->K (.d (.recs (fO ng 8) 108 (kG W ng 8))) (.var (aP q))
 |_,_,_,_=>False
theorem bc9:∀pos x args K,bH4 pos x args K->∃r x',bV 92 pos x args r x'/\K r x':=by
 intro pos x args K h
 unfold bH4 at h
 split at h
 ·obtain⟨q,rfl,h1,h2,h⟩:=zH h
  exact⟨_,_,aP1 (fun hr=>bE9 (fun j=>rfl) hr) (Vu (QA q _ _ _ _ h1 h2)),h _ rfl⟩
 ·exact h.elim
def bW7:ak:=bi7.gI 62 Mr TU (.of Tryz.func62)
def bW8:ak:=bW7.gI 77 aE0 aE1 (.of Tryz.func77)
def bW9:ak:=bW8.add 34 af9 ag0 (.of Tryz.func34)
def bX0:ak:=bW9.add 84 aq9 ar0 (.of Tryz.func84)
def bX1:ak:=bX0.add 83 Ra Xi (.of Tryz.func83)
def bX2:ak:=bX1.gI 88 Rm Xt (.of Tryz.func88)
def ai3:ak:=bX2.gI 92 bH4 bc9 (.of Tryz.func92)
abbrev Jp:List Seg:=[.ints .i64 2 [0,0],.gen 2 [.v (.slice none 0 0),.v (.slice none 0 0)],.ints .i64 4 [0,0,0,0],.gen 1 [.v (.slice none 0 0)],.bytes 32 (zB 32),.ints .i64 2 [0,0]]
def nN(c:CS):List Seg:=[.ints .i64 2 [c.e,c.fr],.gen 2 [.row c.n [.ints .i64 (c.n*5) c.ops],.row c.m [.ints .i64 (c.m*3) c.vs]],.ints .i64 4 [c.sl,c.p0,c.p1,c.p2],.gen 1 [.row c.k [.gen c.k (vO c.bx c.k)]],.bytes 32 c.tag,.ints .i64 2 [c.sE,c.sS]]
theorem Rx(o v:A)(d:List UInt8):aV 53 [.v (.pointer none),o,v,.agg [.bytes 32 d]] (.t [.agg Jp,.v (.slice none 0 0),.v (.pointer none),.v (.int .i64 13)]):=by
 refine eO (E:=ai3) Tryz.func53 Tryz.ntmps53 ?_
 refine ah ?_;(try exact⟨⟩)
 rfl
theorem xD(y x:Int)(p:List UInt8):(dH y x p).length<=212:=by
 unfold dH
 split
 ·next h=>
  unfold vw at h
  simp only[Bool.and_eq_true,decide_eq_true_eq]at h
  unfold zh
  rw[List.length_append,List.length_append,oU,iP]
  have:(bP (aJ 4 x)).length=4:=rfl
  omega
 ·simp
theorem Xu(zs:List Int)(lf:Int)(ng:List Bool)(up draw:List UInt8)(j:Nat):(uw zs lf ng up draw j).length<=6000:=
 Nat.le_trans (xD _ _ _) (by omega)
theorem ab8{c:CS}{t:List UInt8}(hn:c.n<=3000)(hm:c.m<=3000)(hk:c.k<=24)(ho:c.ops.length=c.n*5)(hv:c.vs.length=c.m*3)(hb:∀j,j<c.k->(c.bx j).length<=6000)(ht:t.length=32):(bn c++t).length<=1000000:=by
 rw[List.length_append,ht,oC ⟨hn,hm,by omega,ho,hv,hb⟩]
 have:=BQ hb
 unfold jr
 omega
theorem Xo(c:CS)(t:List UInt8):bn { c with tag:=t }=bn c:=by
 unfold bn pR qC
 rfl
theorem aM8(p:PS)(s:Vw)(n:Nat)(ops:List Int)(m:Nat)(vs:List Int)(d:List UInt8):bJ p s n ops m vs d=
  { fJ p s n ops m vs d with tag:=eB (aT p s n ops m vs d).ep,sE:=iV (aI p.sg) (bn { fJ p s n ops m vs d with tag:=eB (aT p s n ops m vs d).ep }++eB (aT p s n ops m vs d).ep),sS:=jI (aI p.sg) (bn { fJ p s n ops m vs d with tag:=eB (aT p s n ops m vs d).ep }++eB (aT p s n ops m vs d).ep) }:=by
 rw[Xo]
 rfl
theorem bG7(h:List UInt8):List.take 32 (jF h)=aj h:=by
 unfold jF
 have h1:=fD h
 simp[List.take_append,h1]
theorem bG8(h:List UInt8):List.take 32 (List.drop 32 (jF h))=aj (aj h):=by
 unfold jF
 have h1:=fD h
 have h2:=fD (aj h)
 simp[List.take_append,List.drop_append,h1,h2]
theorem aG8(h:List UInt8):List.take 32 (List.drop 64 (jF h))=aj (aj (aj h)):=by
 unfold jF
 have h1:=fD h
 have h2:=fD (aj h)
 have h3:=fD (aj (aj h))
 have e1:List.drop 64 (aj h)=[]:=List.drop_eq_nil_of_le (by omega)
 have e2:List.take 32 (aj (aj (aj h)))=aj (aj (aj h)):=List.take_of_length_le (by omega)
 simp[List.take_append,List.drop_append,h1,h2,h3,e1,e2]
theorem al6{P:Program}{G:Nat->Option (List Seg)}{f:FuncId}{l:List Seg}{off:Nat}{args:List A}{res:bC}(h:om l->mG P G f (.sref l off::args) res):mG P G f (.sref l off::args) res:=by
 intro S w vs hG ha
 cases ha with
 |cons h1 r=>
  cases h1 with
  |sref h2 h3=>exact h (rP h2) S w _ hG (.cons (.sref h2 h3) r)
set_option maxHeartbeats 4000000 in
theorem Jr(p:PS)(n:Nat)(ops:List Int)(hn:n<=3000)(m:Nat)(vs:List Int)(hm:m<=3000)(d:List UInt8)(hf:aL p.lf=true):
  aV 53 [.sref (aP p) 0,.row n [.ints .i64 (n*5) ops],.row m [.ints .i64 (m*3) vs],.agg [.bytes 32 d]]
   (.t (if eX p n ops m vs=0 then[.agg (nN (bJ p (fq p p.lf n ops) n ops m vs d)),.recs (fO (fq p p.lf n ops).ng 8) 108 (kG (dK (aT p (fq p p.lf n ops) n ops m vs d) (jF (aK d)) (dB p d) (eB (aT p (fq p p.lf n ops) n ops m vs d).ep) d) (fq p p.lf n ops).ng 8),.sref (aP (aT p (fq p p.lf n ops) n ops m vs d)) 0,.v (.int .i64 0)]
    else[.agg Jp,.v (.slice none 0 0),.v (.pointer none),.v (.int .i64 (eX p n ops m vs))])):=by
 refine al6 fun hp=>?_
 have hz:p.zs.length=31:=hp.2.1
 have ha:p.ad.length=8:=hp.2.2.1
 clear hp
 refine iY fun hL=>?_
 have ho:ops.length=n*5:=hL.1.1
 have hv:vs.length=m*3:=hL.2.1.1
 clear hL
 have HO:=Lib.hid ho
 have HV:=Lib.hid hv
 clear ho hv
 refine eO (E:=ai3) Tryz.func53 Tryz.ntmps53 ?_
 have hE:eX p n ops m vs=if mI p p.lf n ops m vs≠0 then mI p p.lf n ops m vs else if p.e>=1099511627776 then 12 else 0:=by
  unfold eX mI
  by_cases h1:fu p.e p.zs p.ad p.k p.ch p.lf ops n vs m=0
  ·simp[h1]
  ·simp[h1]
 by_cases h1:mI p p.lf n ops m vs=0
 ·have g1:=decide_eq_true h1
  by_cases h2:p.e>=1099511627776
  ·have e:eX p n ops m vs=12:=by rw[hE,if_neg (fun h=>h h1),if_pos h2]
   rw[e,if_neg (by decide)]
   clear e hE h1
   refine ah ?_
   intro s hs
   refine ah ?_;(try exact⟨⟩)
   rfl
  ·have e:eX p n ops m vs=0:=by rw[hE,if_neg (fun h=>h h1),if_neg h2]
   rw[e,if_pos rfl]
   have hd:(fC p.e ⟨p.zs,p.ad,p.k,F8,F8⟩ p.lf ops n).1=0:=by
    unfold mI at h1
    split at h1
    ·exact absurd h1 ‹_›
    ·exact h1
   obtain⟨f0,f1⟩:=ig hf
   obtain⟨lf,hlf⟩:=Int.eq_ofNat_of_zero_le f0
   have hst:K5 p.zs lf (fq p p.lf n ops):=by
    unfold fq
    rw[hlf]at hd ⊢
    exact(EF hz ha hd).2
   have Cc:∀j:Nat,(fq p p.lf n ops).ng.getD j false=true->(j:Int)≠p.lf:=fun j hj he=>by
    have:j=lf:=by omega
    rw[this,hst.ng]at hj
    cases hj
   have he0: -4611686018427387904<=p.e:=by
    have h:=(Ai hd).1
    unfold gF at h
    simp only[Bool.and_eq_true,decide_eq_true_eq]at h
    have:=h.1.1.1.1.1
    omega
   have he1:p.e<=4611686018427387904:=by omega
   clear e hE hd hst h1 hz ha lf hlf
   refine ah ?_
   intro s hs
   rw[show fq p p.lf n ops=s from hs.symm]at Cc ⊢
   refine ah ?_
   refine Or.inl ?_
   refine ah ?_
   refine aX.mk (aH 4 ?_)
   refine ah ?_
   intro N bx hN hbx
   have cd2:N<=24:=hN▸CJ _ _ _
   have hN3:N<=3000:=by omega
   have hb6:∀j,j<N->(bx j).length<=6000:=fun j _=>by rw[hbx];exact Xu _ _ _ _ _ _
   have HN:=Lib.hid hN
   have HB:=Lib.hid hbx
   clear hN hbx
   refine ah ?_
   refine⟨ab8 hn hm cd2 HO HV hb6 (Bp _),?_⟩
   refine ah ?_
   intro W hW
   have HW:=Lib.hid hW
   clear hW
   refine ah ?_
   clear g1 Cc hs HO HV cd2 hN3 hb6
   obtain rfl:=id HN
   obtain rfl:=id HB
   obtain rfl:=id HW
   have Jv:∀q:PS,(qM q d).ab=jF (aK d):=fun _=>rfl
   simp only[Jv,bG7,bG8,aG8]
   rw[aM8]
   rfl
 ·have g1:=decide_eq_false h1
  have e:eX p n ops m vs=mI p p.lf n ops m vs:=by rw[hE,if_pos h1]
  rw[e,if_neg h1]
  clear e hE
  have h3:(mI p p.lf n ops m vs==0)=false:=by simpa using h1
  have h4:(mI p p.lf n ops m vs !=0)=true:=by simpa using h1
  clear h1
  refine ah ?_;(try exact⟨⟩)
  rfl
end
end Go.Proofs.YtegalalmamofdaaGreatDoor
