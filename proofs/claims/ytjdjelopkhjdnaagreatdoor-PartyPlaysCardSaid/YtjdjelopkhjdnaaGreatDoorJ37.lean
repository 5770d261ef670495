/-
  Parties: a commit.
-/
import Derived.Test.YtjdjelopkhjdnaaGreatDoorJ36
namespace Go.Proofs.YtjdjelopkhjdnaaGreatDoor
set_option linter.unusedVariables false
set_option linter.unusedSimpArgs false
set_option maxRecDepth 100000
open Go.RowKit
section
open Pm
attribute [local irreducible] aV aZ bQ aA au dA cK aF bW aN aU ay ak aT dh bX aR bI fU bB iC aD aP
def Jd:Nat→Bk→List A→(bP→Bk→Prop)→Prop
 |0,.obj p,[],K=>∃h,p=pX (au h)∧K (.d (.v (.int .i64 (aA 4 (au h))))) (.obj (pX (au h)))
 |_,_,_,_=>False
theorem Pg:∀pos x args K,Jd pos x args K→∃r x',fK 35 pos x args r x'∧K r x':=by
 intro pos x args K h
 unfold Jd at h
 split at h
 ·obtain⟨a,rfl,h⟩:=h
  have hb:=fZ a
  exact sO _ _ _ _ ⟨_,rfl,by omega,hb.2,h⟩
 ·exact h.elim
def ae5:Nat→Bk→List A→(bP→Bk→Prop)→Prop
 |0,.obj P,[x],K=>∃h,P=pX (au h)∧pO x fun p=>p.length≤1000000∧K (.d (.agg [.ints .i64 2 [jm (au h) p,jQ (au h) p]])) (.obj (pX (au h)))
 |_,_,_,_=>False
theorem ae6:∀pos x args K,ae5 pos x args K→∃r x',fK 39 pos x args r x'∧K r x':=by
 intro pos x args K h
 unfold ae5 at h
 split at h
 ·obtain⟨a,rfl,h⟩:=h
  have hb:=fZ a
  exact Mx _ _ _ _ ⟨_,rfl,hb.1,hb.2,h⟩
 ·exact h.elim
def Xt:List A→(bP→Prop)→Prop
 |[.v (.pointer none)],K=>K (.d (.v (.pointer none)))
 |[x],K=>Wd x fun p=>K (.p (.var (bL p)))∨K (.d (.sref (bL p) 0))
 |_,_=>False
theorem Xu:∀args K,Xt args K→∃r,aQ 30 args r∧K r:=by
 intro args K h
 unfold Xt at h
 split at h
 ·exact⟨_,Xr,h⟩
 ·obtain⟨p,rfl,h⟩:=qQ h
  rcases h with h|h
  ·exact⟨_,QT p,h⟩
  ·exact⟨_,BR (QT p),h⟩
 ·exact h.elim
def Y9:List A→(bP→Prop)→Prop
 |[x],K=>Wd x fun p=>K (.d (.v (.bool (decide (p.e≥1099511627776)))))
 |_,_=>False
theorem Za:∀args K,Y9 args K→∃r,aQ 29 args r∧K r:=by
 intro args K h
 unfold Y9 at h
 split at h
 ·obtain⟨p,rfl,h⟩:=qQ h
  exact⟨_,Uf p,h⟩
 ·exact h.elim
attribute [local irreducible] jR dZ
def apK(p:PS)(fr:Int)(n:Nat)(ops:List Int)(m:Nat)(vs:List Int)(K:List A→Prop):Prop:=
 mI (aV (decide (jR p fr n ops m vs=0))
  (∀s,s=dZ p fr n ops→K [.agg (bR p.e s.zs s.ad s.k p.ch),.agg [.bools 8 s.ng],.agg [.bools 8 s.gn],.v (.int .i64 0)])
  (K [.agg wL,.agg [.bools 8 F8],.agg [.bools 8 F8],.v (.int .i64 (jR p fr n ops m vs))]))
theorem WH{p:PS}{fr:Int}{n:Nat}{ops:List Int}{m:Nat}{vs:List Int}{K:List A→Prop}(h:apK p fr n ops m vs K):K (apR p fr n ops m vs):=by
 have h:=h.out
 unfold apR
 by_cases he:jR p fr n ops m vs=0
 ·rw[decide_eq_true he,iI]at h
  rw[if_pos he]
  exact h _ rfl
 ·rw[decide_eq_false he,gQ]at h
  rw[if_neg he]
  exact h
def Nl:List A→(bP→Prop)→Prop
 |[x,.v (.int .i64 fr),o,v],K=>Wd x fun p=>uL o fun n ops=>EO v fun m vs=>apK p fr n ops m vs fun l=>K (.t l)
 |_,_=>False
theorem SK:∀args K,Nl args K→∃r,aQ 28 args r∧K r:=by
 intro args K h
 unfold Nl at h
 split at h
 ·obtain⟨p,rfl,h⟩:=qQ h
  obtain⟨n,ops,hn,h,ho⟩:=gJ h
  obtain⟨m,vs,hm,h,hv⟩:=kH h
  refine⟨_,fun S w vs' hG ha=>?_,WH h⟩
  obtain⟨v1,v2,v3,v4,rfl,k1,k2,k3,k4⟩:=mh ha
  exact UE p _ n ops hn m vs hm S w _ hG (.cons k1 (.cons k2 (.cons (ho k3) (.cons (hv k4) .nil))))
 ·exact h.elim
def Nv:Nat→Bk→List A→(bP→Bk→Prop)→Prop
 |0,b,[.agg [.ints .i64 31 zs],.agg [.bools 8 ng],.agg [.bytes 32 d]],K=>prM b fun p=>∀N bx,N=(aR zs p.lf ng).length→bx=qJ zs p.lf ng p.ab d→K (.d (.row N [.gen N (qA bx N)])) (.var (bL p))
 |_,_,_,_=>False
theorem Tc:∀pos x args K,Nv pos x args K→∃r x',fK 36 pos x args r x'∧K r x':=by
 intro pos x args K h
 unfold Nv at h
 split at h
 ·obtain⟨p,rfl,h⟩:=xO h
  exact⟨_,_,Q8 (WS p _ _ _),h _ _ rfl rfl⟩
 ·exact h.elim
def pV(W:Nat→List Seg)(ng:List Bool):Nat→Nat→List Seg
 |0,_=>[]
 |j+1,i=>if ng.getD j false=true then(if i=fP ng j then W j else pV W ng j i)else pV W ng j i
theorem Pq{S:Nat→Prop}{w:World}{W:Nat→List Seg}(hW:∀j,fI (W j)=108)(ng:List Bool):∀(j:Nat) {cs:List Value},RL S w (jO W ng j) cs→cs.length=fP ng j*108∧∀i,i<fP ng j→RL S w (pV W ng j i) ((cs.drop (i*108)).take 108)
 |0,cs,h=>by
  rw[jO]at h
  cases h.oD
  exact⟨rfl,fun i hi=>absurd hi (by rw[fP];omega)⟩
 |j+1,cs,h=>by
  rw[jO]at h
  rw[fP]
  simp only[pV]
  by_cases hb:ng.getD j false=true
  ·rw[if_pos hb]at h
   rw[if_pos hb]
   obtain⟨c,d,rfl,h1,h2⟩:=h.split
   obtain⟨k1,k2⟩:=Pq hW ng j h1
   have k3:d.length=108:=by rw[h2.len,hW]
   refine⟨by rw[List.length_append,k1,k3];omega,fun i hi=>?_⟩
   rw[if_pos hb]
   by_cases hi2:i=fP ng j
   ·rw[if_pos hi2,hi2,←k1,List.drop_left,←k3,List.take_length]
    exact h2
   ·rw[if_neg hi2,List.drop_append_of_le_length (by omega),List.take_append_of_le_length (by simp;omega)]
    exact k2 i (by omega)
  ·rw[if_neg hb]at h
   rw[if_neg hb]
   simp only[if_neg hb]
   exact Pq hW ng j h
theorem aa6{S:Nat→Prop}{w:World}{v:Value}{W:Nat→List Seg}(hW:∀j,fI (W j)=108){ng:List Bool}(h:RA S w (.row (fP ng 8) (jO W ng 8)) v):RA S w (.recs (fP ng 8) 108 (pV W ng 8)) v:=by
 cases h with
 |row k h1 h2 h3 h4=>
  rename_i c cs a
  obtain⟨k1,k2⟩:=Pq hW ng 8 k
  refine .recs (cs:=fun i=>(cs.drop (i*108)).take 108) k2 h1 h2 h3 ?_
  rcases h4 with h4|⟨b,o,rfl,h5,h6,h7⟩
  ·left;rw[h4]at k1;simp at k1;omega
  ·refine .inr ⟨b,o,rfl,fun j hj=>.inr ⟨b,o+j*108,rfl,h5,h6,fun i hi=>?_⟩⟩
   simp only[List.length_take,List.length_drop]at hi
   rw[Nat.add_assoc,h7 (j*108+i) (by omega),List.getElem_take,List.getElem_drop]
theorem an9{P:Program}{G:Nat→Option (List Seg)}{f:FuncId}{pos:Nat}{x x':Bk}{args:List A}{a b:A}(hab:∀{S:Nat→Prop} {w:World} {v:Value},RA S w a v→RA S w b v)(h:Sy P G f pos x args (.d a) x'):Sy P G f pos x args (.d b) x':=fun S w r vs hr hG hx hv=>(h S w r vs hr hG hx hv).mono fun e w' ⟨v,h1,h2,h3⟩=>⟨v,h1,hab h2,h3⟩
def aS4:Nat→Bk→List A→(bP→Bk→Prop)→Prop
 |0,b,[.agg [.bools 8 ng],.agg [.bytes 32 j],.agg [.bytes 32 t],.agg [.bytes 32 d]],K=>prM b fun q=>aG q.lf=true∧(∀j:Nat,ng.getD j false=true→(j:Int)≠q.lf)∧∀W,W=ji q q.ab j t d→K (.d (.recs (fP ng 8) 108 (pV W ng 8))) (.var (bL q))
 |_,_,_,_=>False
theorem ay3:∀pos x args K,aS4 pos x args K→∃r x',fK 42 pos x args r x'∧K r x':=by
 intro pos x args K h
 unfold aS4 at h
 split at h
 ·obtain⟨q,rfl,h1,h2,h⟩:=xO h
  exact⟨_,_,an9 (fun hr=>aa6 (fun j=>rfl) hr) (Q8 (MN q _ _ _ _ h1 h2)),h _ rfl⟩
 ·exact h.elim
noncomputable def be4:av:=aC4.kr 35 Jd Pg ⟨_,Tryz.func35,by kernel_rfl,by kernel_rfl⟩
noncomputable def be5:av:=be4.kr 39 ae5 ae6 ⟨_,Tryz.func39,by kernel_rfl,by kernel_rfl⟩
noncomputable def be6:av:=be5.add 30 Xt Xu ⟨_,Tryz.func30,by kernel_rfl,by kernel_rfl⟩
noncomputable def be7:av:=be6.add 29 Y9 Za ⟨_,Tryz.func29,by kernel_rfl,by kernel_rfl⟩
noncomputable def be8:av:=be7.add 28 Nl SK ⟨_,Tryz.func28,by kernel_rfl,by kernel_rfl⟩
noncomputable def be9:av:=be8.kr 36 Nv Tc ⟨_,Tryz.func36,by kernel_rfl,by kernel_rfl⟩
noncomputable def XZ:av:=be9.kr 42 aS4 ay3 ⟨_,Tryz.func42,by kernel_rfl,by kernel_rfl⟩
abbrev CF:List Seg:=[.ints .i64 2 [0,0],.gen 2 [.v (.slice none 0 0),.v (.slice none 0 0)],.ints .i64 4 [0,0,0,0],.gen 1 [.v (.slice none 0 0)],.bytes 32 (zB 32),.ints .i64 2 [0,0]]
def jI(c:CS):List Seg:=[.ints .i64 2 [c.e,c.fr],.gen 2 [.row c.n [.ints .i64 (c.n*5) c.ops],.row c.m [.ints .i64 (c.m*3) c.vs]],.ints .i64 4 [c.sl,c.p0,c.p1,c.p2],.gen 1 [.row c.k [.gen c.k (qA c.bx c.k)]],.bytes 32 c.tag,.ints .i64 2 [c.sE,c.sS]]
theorem NA(o v:A)(d:List UInt8):aQ 12 [.v (.pointer none),o,v,.agg [.bytes 32 d]] (.t [.agg CF,.v (.slice none 0 0),.v (.pointer none),.v (.int .i64 13)]):=by
 refine dF (E:=XZ) Tryz.func12 Tryz.ntmps12 ?_
 refine aj ?_;(try exact⟨⟩)
 rfl
theorem EC(y x:Int)(p:List UInt8):(bI y x p).length≤212:=by
 unfold bI
 split
 ·next h=>
  unfold qR at h
  simp only[Bool.and_eq_true,decide_eq_true_eq]at h
  unfold um
  rw[List.length_append,List.length_append,jv,fD]
  have:(bC (aA 4 x)).length=4:=rfl
  omega
 ·simp
theorem Td(zs:List Int)(lf:Int)(ng:List Bool)(up draw:List UInt8)(j:Nat):(qJ zs lf ng up draw j).length≤6000:=
 Nat.le_trans (EC _ _ _) (by omega)
theorem WQ{c:CS}{t:List UInt8}(hn:c.n≤3000)(hm:c.m≤3000)(hk:c.k≤24)(ho:c.ops.length=c.n*5)(hv:c.vs.length=c.m*3)(hb:∀j,j<c.k→(c.bx j).length≤6000)(ht:t.length=32):(aU c++t).length≤1000000:=by
 rw[List.length_append,ht,iT ⟨hn,hm,by omega,ho,hv,hb⟩]
 have:=wW hb
 unfold eD
 omega
theorem S9(c:CS)(t:List UInt8):aU { c with tag:=t }=aU c:=by
 unfold aU kY lV
 rfl
theorem am1(p:PS)(s:Vw)(n:Nat)(ops:List Int)(m:Nat)(vs:List Int)(d:List UInt8):bS p s n ops m vs d=
  { iH p s n ops m vs d with tag:=dY (aJ p s n ops m vs d).ep,sE:=jm (au p.sg) (aU { iH p s n ops m vs d with tag:=dY (aJ p s n ops m vs d).ep }++dY (aJ p s n ops m vs d).ep),sS:=jQ (au p.sg) (aU { iH p s n ops m vs d with tag:=dY (aJ p s n ops m vs d).ep }++dY (aJ p s n ops m vs d).ep) }:=by
 rw[S9]
 rfl
theorem JF(h:List UInt8):List.take 32 (fJ h)=ak h:=by
 unfold fJ
 have h1:=dV h
 simp[List.take_append,h1]
theorem JG(h:List UInt8):List.take 32 (List.drop 32 (fJ h))=ak (ak h):=by
 unfold fJ
 have h1:=dV h
 have h2:=dV (ak h)
 simp[List.take_append,List.drop_append,h1,h2]
theorem zD(h:List UInt8):List.take 32 (List.drop 64 (fJ h))=ak (ak (ak h)):=by
 unfold fJ
 have h1:=dV h
 have h2:=dV (ak h)
 have h3:=dV (ak (ak h))
 have e1:List.drop 64 (ak h)=[]:=List.drop_eq_nil_of_le (by omega)
 have e2:List.take 32 (ak (ak (ak h)))=ak (ak (ak h)):=List.take_of_length_le (by omega)
 simp[List.take_append,List.drop_append,h1,h2,h3,e1,e2]
theorem Yi{P:Program}{G:Nat→Option (List Seg)}{f:FuncId}{l:List Seg}{off:Nat}{args:List A}{res:bP}(h:nH l→lC P G f (.sref l off::args) res):lC P G f (.sref l off::args) res:=by
 intro S w vs hG ha
 cases ha with
 |cons h1 r=>
  cases h1 with
  |sref h2 h3=>exact h (qy h2) S w _ hG (.cons (.sref h2 h3) r)
set_option maxHeartbeats 4000000 in
theorem FE(p:PS)(n:Nat)(ops:List Int)(hn:n≤3000)(m:Nat)(vs:List Int)(hm:m≤3000)(d:List UInt8)(hf:aG p.lf=true):
  aQ 12 [.sref (bL p) 0,.row n [.ints .i64 (n*5) ops],.row m [.ints .i64 (m*3) vs],.agg [.bytes 32 d]]
   (.t (if bZ p n ops m vs=0 then[.agg (jI (bS p (dZ p p.lf n ops) n ops m vs d)),.recs (fP (dZ p p.lf n ops).ng 8) 108 (pV (ji (aJ p (dZ p p.lf n ops) n ops m vs d) (fJ (aC d)) (bT p d) (dY (aJ p (dZ p p.lf n ops) n ops m vs d).ep) d) (dZ p p.lf n ops).ng 8),.sref (bL (aJ p (dZ p p.lf n ops) n ops m vs d)) 0,.v (.int .i64 0)]
    else[.agg CF,.v (.slice none 0 0),.v (.pointer none),.v (.int .i64 (bZ p n ops m vs))])):=by
 refine Yi fun hp=>?_
 have hz:p.zs.length=31:=hp.2.1
 have ha:p.ad.length=8:=hp.2.2.1
 clear hp
 refine gY fun hL=>?_
 have ho:ops.length=n*5:=hL.1.1
 have hv:vs.length=m*3:=hL.2.1.1
 clear hL
 have HO:=Lib.hid ho
 have HV:=Lib.hid hv
 clear ho hv
 refine dF (E:=XZ) Tryz.func12 Tryz.ntmps12 ?_
 have hE:bZ p n ops m vs=if jR p p.lf n ops m vs≠0 then jR p p.lf n ops m vs else if p.e≥1099511627776 then 12 else 0:=by
  unfold bZ jR
  by_cases h1:bX p.e p.zs p.ad p.k p.ch p.lf ops n vs m=0
  ·simp[h1]
  ·simp[h1]
 by_cases h1:jR p p.lf n ops m vs=0
 ·have g1:=decide_eq_true h1
  by_cases h2:p.e≥1099511627776
  ·have e:bZ p n ops m vs=12:=by rw[hE,if_neg (fun h=>h h1),if_pos h2]
   rw[e,if_neg (by decide)]
   clear e hE h1
   refine aj ?_;(try exact⟨⟩)
   intro s hs
   refine aj ?_;(try exact⟨⟩)
   rfl
  ·have e:bZ p n ops m vs=0:=by rw[hE,if_neg (fun h=>h h1),if_neg h2]
   rw[e,if_pos rfl]
   have hd:(dh p.e ⟨p.zs,p.ad,p.k,F8,F8⟩ p.lf ops n).1=0:=by
    unfold jR at h1
    split at h1
    ·exact absurd h1 ‹_›
    ·exact h1
   obtain⟨f0,f1⟩:=cZ hf
   obtain⟨lf,hlf⟩:=Int.eq_ofNat_of_zero_le f0
   have hst:Ct p.zs lf (dZ p p.lf n ops):=by
    unfold dZ
    rw[hlf]at hd ⊢
    exact(vY hz ha hd).2
   have qd:∀j:Nat,(dZ p p.lf n ops).ng.getD j false=true→(j:Int)≠p.lf:=fun j hj he=>by
    have:j=lf:=by omega
    rw[this,hst.ng]at hj
    cases hj
   have he0: -4611686018427387904≤p.e:=by
    have h:=(yE hd).1
    unfold dQ at h
    simp only[Bool.and_eq_true,decide_eq_true_eq]at h
    have:=h.1.1.1.1.1
    omega
   have he1:p.e≤4611686018427387904:=by omega
   clear e hE hd hst h1 hz ha lf hlf
   refine aj ?_;(try exact⟨⟩)
   intro s hs
   rw[show dZ p p.lf n ops=s from hs.symm]at qd ⊢
   refine aj ?_;(try exact⟨⟩)
   refine Or.inl ?_
   refine aj ?_;(try exact⟨⟩)
   refine aM.mk (aB 4 ?_)
   refine aj ?_;(try exact⟨⟩)
   intro N bx hN hbx
   have bm0:N≤24:=hN▸oM _ _ _
   have hN3:N≤3000:=by omega
   have hb6:∀j,j<N→(bx j).length≤6000:=fun j _=>by rw[hbx];exact Td _ _ _ _ _ _
   have HN:=Lib.hid hN
   have HB:=Lib.hid hbx
   clear hN hbx
   refine aj ?_;(try exact⟨⟩)
   refine⟨WQ hn hm bm0 HO HV hb6 (MB _),?_⟩
   refine aj ?_;(try exact⟨⟩)
   intro W hW
   have HW:=Lib.hid hW
   clear hW
   refine aj ?_;(try exact⟨⟩)
   clear g1 qd hs HO HV bm0 hN3 hb6
   obtain rfl:=id HN
   obtain rfl:=id HB
   obtain rfl:=id HW
   have FN:∀q:PS,(iM q d).ab=fJ (aC d):=fun _=>rfl
   simp only[FN,JF,JG,zD]
   rw[am1]
   rfl
 ·have g1:=decide_eq_false h1
  have e:bZ p n ops m vs=jR p p.lf n ops m vs:=by rw[hE,if_pos h1]
  rw[e,if_neg h1]
  clear e hE
  have h3:(jR p p.lf n ops m vs==0)=false:=by simpa using h1
  have h4:(jR p p.lf n ops m vs !=0)=true:=by simpa using h1
  clear h1
  refine aj ?_;(try exact⟨⟩)
  rfl
end
end Go.Proofs.YtjdjelopkhjdnaaGreatDoor
