/-
  Parties: a commit.
-/
import Derived.Test.YtjhgelfnmhdihaaGreatDoorJ36
namespace Go.Proofs.YtjhgelfnmhdihaaGreatDoor
set_option linter.unusedVariables false
set_option linter.unusedSimpArgs false
set_option maxRecDepth 100000
open Go.RowKit
section
open Pm
attribute [local irreducible] aU aZ bR aA au dB cO aF bZ aN aT av ak aR cZ bX aQ bK gB bA iC aD aO
def Js:Nat→Bk→List A→(bP→Bk→Prop)→Prop
 |0,.obj p,[],K=>∃h,p=p9 (au h)∧K (.d (.v (.int .i64 (aA 4 (au h))))) (.obj (p9 (au h)))
 |_,_,_,_=>False
theorem PI:∀pos x args K,Js pos x args K→∃r x',gq 48 pos x args r x'∧K r x':=by
 intro pos x args K h
 unfold Js at h
 split at h
 ·obtain⟨a,rfl,h⟩:=h
  have hb:=dL a
  exact sV _ _ _ _ ⟨_,rfl,by omega,hb.2,h⟩
 ·exact h.elim
def af2:Nat→Bk→List A→(bP→Bk→Prop)→Prop
 |0,.obj P,[x],K=>∃h,P=p9 (au h)∧pV x fun p=>p.length≤1000000∧K (.d (.agg [.ints .i64 2 [jo (au h) p,jQ (au h) p]])) (.obj (p9 (au h)))
 |_,_,_,_=>False
theorem af3:∀pos x args K,af2 pos x args K→∃r x',gq 53 pos x args r x'∧K r x':=by
 intro pos x args K h
 unfold af2 at h
 split at h
 ·obtain⟨a,rfl,h⟩:=h
  have hb:=dL a
  exact MO _ _ _ _ ⟨_,rfl,hb.1,hb.2,h⟩
 ·exact h.elim
def XE:List A→(bP→Prop)→Prop
 |[.v (.pointer none)],K=>K (.d (.v (.pointer none)))
 |[x],K=>Ww x fun p=>K (.p (.var (bN p)))∨K (.d (.sref (bN p) 0))
 |_,_=>False
theorem XF:∀args K,XE args K→∃r,aP 29 args r∧K r:=by
 intro args K h
 unfold XE at h
 split at h
 ·exact⟨_,XD,h⟩
 ·obtain⟨p,rfl,h⟩:=qW h
  rcases h with h|h
  ·exact⟨_,Rc p,h⟩
  ·exact⟨_,Cb (Rc p),h⟩
 ·exact h.elim
def Zg:List A→(bP→Prop)→Prop
 |[x],K=>Ww x fun p=>K (.d (.v (.bool (decide (p.e≥1099511627776)))))
 |_,_=>False
theorem Zh:∀args K,Zg args K→∃r,aP 43 args r∧K r:=by
 intro args K h
 unfold Zg at h
 split at h
 ·obtain⟨p,rfl,h⟩:=qW h
  exact⟨_,Ut p,h⟩
 ·exact h.elim
attribute [local irreducible] jW dJ
def apK(p:PS)(fr:Int)(n:Nat)(ops:List Int)(m:Nat)(vs:List Int)(K:List A→Prop):Prop:=
 mR (aU (decide (jW p fr n ops m vs=0))
  (∀s,s=dJ p fr n ops→K [.agg (bS p.e s.zs s.ad s.k p.ch),.agg [.bools 8 s.ng],.agg [.bools 8 s.gn],.v (.int .i64 0)])
  (K [.agg wP,.agg [.bools 8 F8],.agg [.bools 8 F8],.v (.int .i64 (jW p fr n ops m vs))]))
theorem WW{p:PS}{fr:Int}{n:Nat}{ops:List Int}{m:Nat}{vs:List Int}{K:List A→Prop}(h:apK p fr n ops m vs K):K (apR p fr n ops m vs):=by
 have h:=h.out
 unfold apR
 by_cases he:jW p fr n ops m vs=0
 ·rw[decide_eq_true he,iM]at h
  rw[if_pos he]
  exact h _ rfl
 ·rw[decide_eq_false he,gW]at h
  rw[if_neg he]
  exact h
def NA:List A→(bP→Prop)→Prop
 |[x,.v (.int .i64 fr),o,v],K=>Ww x fun p=>uS o fun n ops=>E8 v fun m vs=>apK p fr n ops m vs fun l=>K (.t l)
 |_,_=>False
theorem Tg:∀args K,NA args K→∃r,aP 42 args r∧K r:=by
 intro args K h
 unfold NA at h
 split at h
 ·obtain⟨p,rfl,h⟩:=qW h
  obtain⟨n,ops,hn,h,ho⟩:=gM h
  obtain⟨m,vs,hm,h,hv⟩:=kN h
  refine⟨_,fun S w vs' hG ha=>?_,WW h⟩
  obtain⟨v1,v2,v3,v4,rfl,k1,k2,k3,k4⟩:=mG ha
  exact UW p _ n ops hn m vs hm S w _ hG (.cons k1 (.cons k2 (.cons (ho k3) (.cons (hv k4) .nil))))
 ·exact h.elim
def NM:Nat→Bk→List A→(bP→Bk→Prop)→Prop
 |0,b,[.agg [.ints .i64 31 zs],.agg [.bools 8 ng],.agg [.bytes 32 d]],K=>prM b fun p=>∀N bx,N=(aQ zs p.lf ng).length→bx=qO zs p.lf ng p.ab d→K (.d (.row N [.gen N (qE bx N)])) (.var (bN p))
 |_,_,_,_=>False
theorem Tw:∀pos x args K,NM pos x args K→∃r x',gq 49 pos x args r x'∧K r x':=by
 intro pos x args K h
 unfold NM at h
 split at h
 ·obtain⟨p,rfl,h⟩:=xQ h
  exact⟨_,_,Rs (Xd p _ _ _),h _ _ rfl rfl⟩
 ·exact h.elim
def pY(W:Nat→List Seg)(ng:List Bool):Nat→Nat→List Seg
 |0,_=>[]
 |j+1,i=>if ng.getD j false=true then(if i=gD ng j then W j else pY W ng j i)else pY W ng j i
theorem PX{S:Nat→Prop}{w:World}{W:Nat→List Seg}(hW:∀j,fP (W j)=108)(ng:List Bool):∀(j:Nat) {cs:List Value},RL S w (jV W ng j) cs→cs.length=gD ng j*108∧∀i,i<gD ng j→RL S w (pY W ng j i) ((cs.drop (i*108)).take 108)
 |0,cs,h=>by
  rw[jV]at h
  cases h.oL
  exact⟨rfl,fun i hi=>absurd hi (by rw[gD];omega)⟩
 |j+1,cs,h=>by
  rw[jV]at h
  rw[gD]
  simp only[pY]
  by_cases hb:ng.getD j false=true
  ·rw[if_pos hb]at h
   rw[if_pos hb]
   obtain⟨c,d,rfl,h1,h2⟩:=h.split
   obtain⟨k1,k2⟩:=PX hW ng j h1
   have k3:d.length=108:=by rw[h2.len,hW]
   refine⟨by rw[List.length_append,k1,k3];omega,fun i hi=>?_⟩
   rw[if_pos hb]
   by_cases hi2:i=gD ng j
   ·rw[if_pos hi2,hi2,←k1,List.drop_left,←k3,List.take_length]
    exact h2
   ·rw[if_neg hi2,List.drop_append_of_le_length (by omega),List.take_append_of_le_length (by simp;omega)]
    exact k2 i (by omega)
  ·rw[if_neg hb]at h
   rw[if_neg hb]
   simp only[if_neg hb]
   exact PX hW ng j h
theorem ab2{S:Nat→Prop}{w:World}{v:Value}{W:Nat→List Seg}(hW:∀j,fP (W j)=108){ng:List Bool}(h:RA S w (.row (gD ng 8) (jV W ng 8)) v):RA S w (.recs (gD ng 8) 108 (pY W ng 8)) v:=by
 cases h with
 |row k h1 h2 h3 h4=>
  rename_i c cs a
  obtain⟨k1,k2⟩:=PX hW ng 8 k
  refine .recs (cs:=fun i=>(cs.drop (i*108)).take 108) k2 h1 h2 h3 ?_
  rcases h4 with h4|⟨b,o,rfl,h5,h6,h7⟩
  ·left;rw[h4]at k1;simp at k1;omega
  ·refine .inr ⟨b,o,rfl,fun j hj=>.inr ⟨b,o+j*108,rfl,h5,h6,fun i hi=>?_⟩⟩
   simp only[List.length_take,List.length_drop]at hi
   rw[Nat.add_assoc,h7 (j*108+i) (by omega),List.getElem_take,List.getElem_drop]
theorem ao6{P:Program}{G:Nat→Option (List Seg)}{f:FuncId}{pos:Nat}{x x':Bk}{args:List A}{a b:A}(hab:∀{S:Nat→Prop} {w:World} {v:Value},RA S w a v→RA S w b v)(h:SQ P G f pos x args (.d a) x'):SQ P G f pos x args (.d b) x':=fun S w r vs hr hG hx hv=>(h S w r vs hr hG hx hv).mono fun e w' ⟨v,h1,h2,h3⟩=>⟨v,h1,hab h2,h3⟩
def aT9:Nat→Bk→List A→(bP→Bk→Prop)→Prop
 |0,b,[.agg [.bools 8 ng],.agg [.bytes 32 j],.agg [.bytes 32 t],.agg [.bytes 32 d]],K=>prM b fun q=>aG q.lf=true∧(∀j:Nat,ng.getD j false=true→(j:Int)≠q.lf)∧∀W,W=jr q q.ab j t d→K (.d (.recs (gD ng 8) 108 (pY W ng 8))) (.var (bN q))
 |_,_,_,_=>False
theorem az2:∀pos x args K,aT9 pos x args K→∃r x',gq 56 pos x args r x'∧K r x':=by
 intro pos x args K h
 unfold aT9 at h
 split at h
 ·obtain⟨q,rfl,h1,h2,h⟩:=xQ h
  exact⟨_,_,ao6 (fun hr=>ab2 (fun j=>rfl) hr) (Rs (M5 q _ _ _ _ h1 h2)),h _ rfl⟩
 ·exact h.elim
noncomputable def bg0:ay:=aD2.kG 48 Js PI ⟨_,Tryz.func48,by kernel_rfl,by kernel_rfl⟩
noncomputable def bg1:ay:=bg0.kG 53 af2 af3 ⟨_,Tryz.func53,by kernel_rfl,by kernel_rfl⟩
noncomputable def bg2:ay:=bg1.add 29 XE XF ⟨_,Tryz.func29,by kernel_rfl,by kernel_rfl⟩
noncomputable def bg3:ay:=bg2.add 43 Zg Zh ⟨_,Tryz.func43,by kernel_rfl,by kernel_rfl⟩
noncomputable def bg4:ay:=bg3.add 42 NA Tg ⟨_,Tryz.func42,by kernel_rfl,by kernel_rfl⟩
noncomputable def bg5:ay:=bg4.kG 49 NM Tw ⟨_,Tryz.func49,by kernel_rfl,by kernel_rfl⟩
noncomputable def Ya:ay:=bg5.kG 56 aT9 az2 ⟨_,Tryz.func56,by kernel_rfl,by kernel_rfl⟩
abbrev CW:List Seg:=[.ints .i64 2 [0,0],.gen 2 [.v (.slice none 0 0),.v (.slice none 0 0)],.ints .i64 4 [0,0,0,0],.gen 1 [.v (.slice none 0 0)],.bytes 32 (zB 32),.ints .i64 2 [0,0]]
def jO(c:CS):List Seg:=[.ints .i64 2 [c.e,c.fr],.gen 2 [.row c.n [.ints .i64 (c.n*5) c.ops],.row c.m [.ints .i64 (c.m*3) c.vs]],.ints .i64 4 [c.sl,c.p0,c.p1,c.p2],.gen 1 [.row c.k [.gen c.k (qE c.bx c.k)]],.bytes 32 c.tag,.ints .i64 2 [c.sE,c.sS]]
theorem NT(o v:A)(d:List UInt8):aP 21 [.v (.pointer none),o,v,.agg [.bytes 32 d]] (.t [.agg CW,.v (.slice none 0 0),.v (.pointer none),.v (.int .i64 13)]):=by
 refine dK (E:=Ya) Tryz.func21 Tryz.ntmps21 ?_
 refine aj ?_;(try exact⟨⟩)
 rfl
theorem EN(y x:Int)(p:List UInt8):(bK y x p).length≤212:=by
 unfold bK
 split
 ·next h=>
  unfold qX at h
  simp only[Bool.and_eq_true,decide_eq_true_eq]at h
  unfold uz
  rw[List.length_append,List.length_append,jD,fJ]
  have:(bD (aA 4 x)).length=4:=rfl
  omega
 ·simp
theorem Tx(zs:List Int)(lf:Int)(ng:List Bool)(up draw:List UInt8)(j:Nat):(qO zs lf ng up draw j).length≤6000:=
 Nat.le_trans (EN _ _ _) (by omega)
theorem Xb{c:CS}{t:List UInt8}(hn:c.n≤3000)(hm:c.m≤3000)(hk:c.k≤24)(ho:c.ops.length=c.n*5)(hv:c.vs.length=c.m*3)(hb:∀j,j<c.k→(c.bx j).length≤6000)(ht:t.length=32):(aT c++t).length≤1000000:=by
 rw[List.length_append,ht,iX ⟨hn,hm,by omega,ho,hv,hb⟩]
 have:=w9 hb
 unfold eD
 omega
theorem Tt(c:CS)(t:List UInt8):aT { c with tag:=t }=aT c:=by
 unfold aT lH l9
 rfl
theorem am8(p:PS)(s:Vw)(n:Nat)(ops:List Int)(m:Nat)(vs:List Int)(d:List UInt8):bH p s n ops m vs d=
  { iL p s n ops m vs d with tag:=eB (aH p s n ops m vs d).ep,sE:=jo (au p.sg) (aT { iL p s n ops m vs d with tag:=eB (aH p s n ops m vs d).ep }++eB (aH p s n ops m vs d).ep),sS:=jQ (au p.sg) (aT { iL p s n ops m vs d with tag:=eB (aH p s n ops m vs d).ep }++eB (aH p s n ops m vs d).ep) }:=by
 rw[Tt]
 rfl
theorem JW(h:List UInt8):List.take 32 (fU h)=ak h:=by
 unfold fU
 have h1:=dY h
 simp[List.take_append,h1]
theorem JX(h:List UInt8):List.take 32 (List.drop 32 (fU h))=ak (ak h):=by
 unfold fU
 have h1:=dY h
 have h2:=dY (ak h)
 simp[List.take_append,List.drop_append,h1,h2]
theorem zL(h:List UInt8):List.take 32 (List.drop 64 (fU h))=ak (ak (ak h)):=by
 unfold fU
 have h1:=dY h
 have h2:=dY (ak h)
 have h3:=dY (ak (ak h))
 have e1:List.drop 64 (ak h)=[]:=List.drop_eq_nil_of_le (by omega)
 have e2:List.take 32 (ak (ak (ak h)))=ak (ak (ak h)):=List.take_of_length_le (by omega)
 simp[List.take_append,List.drop_append,h1,h2,h3,e1,e2]
theorem Yq{P:Program}{G:Nat→Option (List Seg)}{f:FuncId}{l:List Seg}{off:Nat}{args:List A}{res:bP}(h:nQ l→lM P G f (.sref l off::args) res):lM P G f (.sref l off::args) res:=by
 intro S w vs hG ha
 cases ha with
 |cons h1 r=>
  cases h1 with
  |sref h2 h3=>exact h (qD h2) S w _ hG (.cons (.sref h2 h3) r)
set_option maxHeartbeats 4000000 in
theorem FT(p:PS)(n:Nat)(ops:List Int)(hn:n≤3000)(m:Nat)(vs:List Int)(hm:m≤3000)(d:List UInt8)(hf:aG p.lf=true):
  aP 21 [.sref (bN p) 0,.row n [.ints .i64 (n*5) ops],.row m [.ints .i64 (m*3) vs],.agg [.bytes 32 d]]
   (.t (if bW p n ops m vs=0 then[.agg (jO (bH p (dJ p p.lf n ops) n ops m vs d)),.recs (gD (dJ p p.lf n ops).ng 8) 108 (pY (jr (aH p (dJ p p.lf n ops) n ops m vs d) (fU (aC d)) (bT p d) (eB (aH p (dJ p p.lf n ops) n ops m vs d).ep) d) (dJ p p.lf n ops).ng 8),.sref (bN (aH p (dJ p p.lf n ops) n ops m vs d)) 0,.v (.int .i64 0)]
    else[.agg CW,.v (.slice none 0 0),.v (.pointer none),.v (.int .i64 (bW p n ops m vs))])):=by
 refine Yq fun hp=>?_
 have hz:p.zs.length=31:=hp.2.1
 have ha:p.ad.length=8:=hp.2.2.1
 clear hp
 refine iq fun hL=>?_
 have ho:ops.length=n*5:=hL.1.1
 have hv:vs.length=m*3:=hL.2.1.1
 clear hL
 have HO:=Lib.hid ho
 have HV:=Lib.hid hv
 clear ho hv
 refine dK (E:=Ya) Tryz.func21 Tryz.ntmps21 ?_
 have hE:bW p n ops m vs=if jW p p.lf n ops m vs≠0 then jW p p.lf n ops m vs else if p.e≥1099511627776 then 12 else 0:=by
  unfold bW jW
  by_cases h1:bX p.e p.zs p.ad p.k p.ch p.lf ops n vs m=0
  ·simp[h1]
  ·simp[h1]
 by_cases h1:jW p p.lf n ops m vs=0
 ·have g1:=decide_eq_true h1
  by_cases h2:p.e≥1099511627776
  ·have e:bW p n ops m vs=12:=by rw[hE,if_neg (fun h=>h h1),if_pos h2]
   rw[e,if_neg (by decide)]
   clear e hE h1
   refine aj ?_;(try exact⟨⟩)
   intro s hs
   refine aj ?_;(try exact⟨⟩)
   rfl
  ·have e:bW p n ops m vs=0:=by rw[hE,if_neg (fun h=>h h1),if_neg h2]
   rw[e,if_pos rfl]
   have hd:(cZ p.e ⟨p.zs,p.ad,p.k,F8,F8⟩ p.lf ops n).1=0:=by
    unfold jW at h1
    split at h1
    ·exact absurd h1 ‹_›
    ·exact h1
   obtain⟨f0,f1⟩:=dh hf
   obtain⟨lf,hlf⟩:=Int.eq_ofNat_of_zero_le f0
   have hst:CF p.zs lf (dJ p p.lf n ops):=by
    unfold dJ
    rw[hlf]at hd ⊢
    exact(wu hz ha hd).2
   have pI:∀j:Nat,(dJ p p.lf n ops).ng.getD j false=true→(j:Int)≠p.lf:=fun j hj he=>by
    have:j=lf:=by omega
    rw[this,hst.ng]at hj
    cases hj
   have he0: -4611686018427387904≤p.e:=by
    have h:=(yH hd).1
    unfold dU at h
    simp only[Bool.and_eq_true,decide_eq_true_eq]at h
    have:=h.1.1.1.1.1
    omega
   have he1:p.e≤4611686018427387904:=by omega
   clear e hE hd hst h1 hz ha lf hlf
   refine aj ?_;(try exact⟨⟩)
   intro s hs
   rw[show dJ p p.lf n ops=s from hs.symm]at pI ⊢
   refine aj ?_;(try exact⟨⟩)
   refine Or.inl ?_
   refine aj ?_;(try exact⟨⟩)
   refine aM.mk (aB 4 ?_)
   refine aj ?_;(try exact⟨⟩)
   intro N bx hN hbx
   have bo0:N≤24:=hN▸oW _ _ _
   have hN3:N≤3000:=by omega
   have hb6:∀j,j<N→(bx j).length≤6000:=fun j _=>by rw[hbx];exact Tx _ _ _ _ _ _
   have HN:=Lib.hid hN
   have HB:=Lib.hid hbx
   clear hN hbx
   refine aj ?_;(try exact⟨⟩)
   refine⟨Xb hn hm bo0 HO HV hb6 (MP _),?_⟩
   refine aj ?_;(try exact⟨⟩)
   intro W hW
   have HW:=Lib.hid hW
   clear hW
   refine aj ?_;(try exact⟨⟩)
   clear g1 pI hs HO HV bo0 hN3 hb6
   obtain rfl:=id HN
   obtain rfl:=id HB
   obtain rfl:=id HW
   have F3:∀q:PS,(gN q d).ab=fU (aC d):=fun _=>rfl
   simp only[F3,JW,JX,zL]
   rw[am8]
   rfl
 ·have g1:=decide_eq_false h1
  have e:bW p n ops m vs=jW p p.lf n ops m vs:=by rw[hE,if_pos h1]
  rw[e,if_neg h1]
  clear e hE
  have h3:(jW p p.lf n ops m vs==0)=false:=by simpa using h1
  have h4:(jW p p.lf n ops m vs !=0)=true:=by simpa using h1
  clear h1
  refine aj ?_;(try exact⟨⟩)
  rfl
end
end Go.Proofs.YtjhgelfnmhdihaaGreatDoor
