/-
  Parties: a commit.
-/
import Derived.Test.YtbdmnobocecnfaaGreatDoorJ36
namespace Go.Proofs.YtbdmnobocecnfaaGreatDoor
set_option linter.unusedVariables false
set_option linter.unusedSimpArgs false
set_option maxRecDepth 100000
open Go.RowKit
section
open Pm
attribute [local irreducible] condK LoopA regA powI scal mulI isI deriveW numB numsB bodyB nodeW nextW viewHV doR chkV planL sealB boxD keyZ helD commonI placeI
def publicT:Nat→Bk→List A→(Res→Bk→Prop)→Prop
 |0,.obj p,[],K=>∃h,p=KeyP (scal h)∧K (.d (.v (.int .i64 (powI 4 (scal h))))) (.obj (KeyP (scal h)))
 |_,_,_,_=>False
theorem publicT_ok:∀pos x args K,publicT pos x args K→∃r x',FnMO 55 pos x args r x'∧K r x':=by
 intro pos x args K h
 unfold publicT at h
 split at h
 ·obtain⟨a,rfl,h⟩:=h
  have hb:=scal_bd a
  exact publicS_ok _ _ _ _ ⟨_,rfl,by omega,hb.2,h⟩
 ·exact h.elim
def signT:Nat→Bk→List A→(Res→Bk→Prop)→Prop
 |0,.obj P,[x],K=>∃h,P=KeyP (scal h)∧rowK x fun p=>p.length≤1000000∧K (.d (.agg [.ints .i64 2 [sigE (scal h) p,sigS (scal h) p]])) (.obj (KeyP (scal h)))
 |_,_,_,_=>False
theorem signT_ok:∀pos x args K,signT pos x args K→∃r x',FnMO 73 pos x args r x'∧K r x':=by
 intro pos x args K h
 unfold signT at h
 split at h
 ·obtain⟨a,rfl,h⟩:=h
  have hb:=scal_bd a
  exact signM_ok _ _ _ _ ⟨_,rfl,hb.1,hb.2,h⟩
 ·exact h.elim
def copyS:List A→(Res→Prop)→Prop
 |[.v (.pointer none)],K=>K (.d (.v (.pointer none)))
 |[x],K=>prK x fun p=>K (.p (.var (pSegs p)))∨K (.d (.sref (pSegs p) 0))
 |_,_=>False
theorem copyS_ok:∀args K,copyS args K→∃r,FnO 54 args r∧K r:=by
 intro args K h
 unfold copyS at h
 split at h
 ·exact⟨_,copy0_fn,h⟩
 ·obtain⟨p,rfl,h⟩:=prK_eq h
  rcases h with h|h
  ·exact⟨_,copy_fn p,h⟩
  ·exact⟨_,fn_sref (copy_fn p),h⟩
 ·exact h.elim
def lastS:List A→(Res→Prop)→Prop
 |[x],K=>prK x fun p=>K (.d (.v (.bool (decide (p.e≥1099511627776)))))
 |_,_=>False
theorem lastS_ok:∀args K,lastS args K→∃r,FnO 80 args r∧K r:=by
 intro args K h
 unfold lastS at h
 split at h
 ·obtain⟨p,rfl,h⟩:=prK_eq h
  exact⟨_,isLast_fn p,h⟩
 ·exact h.elim
attribute [local irreducible] apE doP
def apK(p:PS)(fr:Int)(n:Nat)(ops:List Int)(m:Nat)(vs:List Int)(K:List A→Prop):Prop:=
 StopC (condK (decide (apE p fr n ops m vs=0))
  (∀s,s=doP p fr n ops→K [.agg (vSegs p.e s.zs s.ad s.k p.ch),.agg [.bools 8 s.ng],.agg [.bools 8 s.gn],.v (.int .i64 0)])
  (K [.agg vZero,.agg [.bools 8 F8],.agg [.bools 8 F8],.v (.int .i64 (apE p fr n ops m vs))]))
theorem apK_spec{p:PS}{fr:Int}{n:Nat}{ops:List Int}{m:Nat}{vs:List Int}{K:List A→Prop}(h:apK p fr n ops m vs K):K (apR p fr n ops m vs):=by
 have h:=h.out
 unfold apR
 by_cases he:apE p fr n ops m vs=0
 ·rw[decide_eq_true he,condK_true]at h
  rw[if_pos he]
  exact h _ rfl
 ·rw[decide_eq_false he,condK_false]at h
  rw[if_neg he]
  exact h
def applyP:List A→(Res→Prop)→Prop
 |[x,.v (.int .i64 fr),o,v],K=>prK x fun p=>opsK o fun n ops=>votK v fun m vs=>apK p fr n ops m vs fun l=>K (.t l)
 |_,_=>False
theorem applyP_ok:∀args K,applyP args K→∃r,FnO 79 args r∧K r:=by
 intro args K h
 unfold applyP at h
 split at h
 ·obtain⟨p,rfl,h⟩:=prK_eq h
  obtain⟨n,ops,hn,h,ho⟩:=opsK_spec h
  obtain⟨m,vs,hm,h,hv⟩:=votK_spec h
  refine⟨_,fun S w vs' hG ha=>?_,apK_spec h⟩
  obtain⟨v1,v2,v3,v4,rfl,k1,k2,k3,k4⟩:=ra_four ha
  exact papply_fn p _ n ops hn m vs hm S w _ hG (.cons k1 (.cons k2 (.cons (ho k3) (.cons (hv k4) .nil))))
 ·exact h.elim
def boxesM:Nat→Bk→List A→(Res→Bk→Prop)→Prop
 |0,b,[.agg [.ints .i64 31 zs],.agg [.bools 8 ng],.agg [.bytes 32 d]],K=>prM b fun p=>∀N bx,N=(planL zs p.lf ng).length→bx=boxesP zs p.lf ng p.ab d→K (.d (.row N [.gen N (rowsF bx N)])) (.var (pSegs p))
 |_,_,_,_=>False
theorem boxesM_ok:∀pos x args K,boxesM pos x args K→∃r x',FnMO 84 pos x args r x'∧K r x':=by
 intro pos x args K h
 unfold boxesM at h
 split at h
 ·obtain⟨p,rfl,h⟩:=prM_eq h
  exact⟨_,_,fnM_row (boxes_fn p _ _ _),h _ _ rfl rfl⟩
 ·exact h.elim
def welF(W:Nat→List Seg)(ng:List Bool):Nat→Nat→List Seg
 |0,_=>[]
 |j+1,i=>if ng.getD j false=true then(if i=welN ng j then W j else welF W ng j i)else welF W ng j i
theorem rl_wel{S:Nat→Prop}{w:World}{W:Nat→List Seg}(hW:∀j,segN (W j)=108)(ng:List Bool):∀(j:Nat) {cs:List Value},RL S w (welTo W ng j) cs→cs.length=welN ng j*108∧∀i,i<welN ng j→RL S w (welF W ng j i) ((cs.drop (i*108)).take 108)
 |0,cs,h=>by
  rw[welTo]at h
  cases h.nil_inv
  exact⟨rfl,fun i hi=>absurd hi (by rw[welN];omega)⟩
 |j+1,cs,h=>by
  rw[welTo]at h
  rw[welN]
  simp only[welF]
  by_cases hb:ng.getD j false=true
  ·rw[if_pos hb]at h
   rw[if_pos hb]
   obtain⟨c,d,rfl,h1,h2⟩:=h.split
   obtain⟨k1,k2⟩:=rl_wel hW ng j h1
   have k3:d.length=108:=by rw[h2.len,hW]
   refine⟨by rw[List.length_append,k1,k3];omega,fun i hi=>?_⟩
   rw[if_pos hb]
   by_cases hi2:i=welN ng j
   ·rw[if_pos hi2,hi2,←k1,List.drop_left,←k3,List.take_length]
    exact h2
   ·rw[if_neg hi2,List.drop_append_of_le_length (by omega),List.take_append_of_le_length (by simp;omega)]
    exact k2 i (by omega)
  ·rw[if_neg hb]at h
   rw[if_neg hb]
   simp only[if_neg hb]
   exact rl_wel hW ng j h
theorem ra_wel{S:Nat→Prop}{w:World}{v:Value}{W:Nat→List Seg}(hW:∀j,segN (W j)=108){ng:List Bool}(h:RA S w (.row (welN ng 8) (welTo W ng 8)) v):RA S w (.recs (welN ng 8) 108 (welF W ng 8)) v:=by
 cases h with
 |row k h1 h2 h3 h4=>
  rename_i c cs a
  obtain⟨k1,k2⟩:=rl_wel hW ng 8 k
  refine .recs (cs:=fun i=>(cs.drop (i*108)).take 108) k2 h1 h2 h3 ?_
  rcases h4 with h4|⟨b,o,rfl,h5,h6,h7⟩
  ·left;rw[h4]at k1;simp at k1;omega
  ·refine .inr ⟨b,o,rfl,fun j hj=>.inr ⟨b,o+j*108,rfl,h5,h6,fun i hi=>?_⟩⟩
   simp only[List.length_take,List.length_drop]at hi
   rw[Nat.add_assoc,h7 (j*108+i) (by omega),List.getElem_take,List.getElem_drop]
theorem fnM_res{P:Program}{G:Nat→Option (List Seg)}{f:FuncId}{pos:Nat}{x x':Bk}{args:List A}{a b:A}(hab:∀{S:Nat→Prop} {w:World} {v:Value},RA S w a v→RA S w b v)(h:FnM P G f pos x args (.d a) x'):FnM P G f pos x args (.d b) x':=fun S w r vs hr hG hx hv=>(h S w r vs hr hG hx hv).mono fun e w' ⟨v,h1,h2,h3⟩=>⟨v,h1,hab h2,h3⟩
def welM:Nat→Bk→List A→(Res→Bk→Prop)→Prop
 |0,b,[.agg [.bools 8 ng],.agg [.bytes 32 j],.agg [.bytes 32 t],.agg [.bytes 32 d]],K=>prM b fun q=>leafB q.lf=true∧(∀j:Nat,ng.getD j false=true→(j:Int)≠q.lf)∧∀W,W=welSegs q q.ab j t d→K (.d (.recs (welN ng 8) 108 (welF W ng 8))) (.var (pSegs q))
 |_,_,_,_=>False
theorem welM_ok:∀pos x args K,welM pos x args K→∃r x',FnMO 88 pos x args r x'∧K r x':=by
 intro pos x args K h
 unfold welM at h
 split at h
 ·obtain⟨q,rfl,h1,h2,h⟩:=prM_eq h
  exact⟨_,_,fnM_res (fun hr=>ra_wel (fun j=>rfl) hr) (fnM_row (welcomes_fn q _ _ _ _ h1 h2)),h _ rfl⟩
 ·exact h.elim
noncomputable def envR3:EnvX:=envR2.addM 55 publicT publicT_ok ⟨_,Tryz.func55,by kernel_rfl,by kernel_rfl⟩
noncomputable def envR4:EnvX:=envR3.addM 73 signT signT_ok ⟨_,Tryz.func73,by kernel_rfl,by kernel_rfl⟩
noncomputable def envR5:EnvX:=envR4.add 54 copyS copyS_ok ⟨_,Tryz.func54,by kernel_rfl,by kernel_rfl⟩
noncomputable def envR6:EnvX:=envR5.add 80 lastS lastS_ok ⟨_,Tryz.func80,by kernel_rfl,by kernel_rfl⟩
noncomputable def envR7:EnvX:=envR6.add 79 applyP applyP_ok ⟨_,Tryz.func79,by kernel_rfl,by kernel_rfl⟩
noncomputable def envR8:EnvX:=envR7.addM 84 boxesM boxesM_ok ⟨_,Tryz.func84,by kernel_rfl,by kernel_rfl⟩
noncomputable def envR9:EnvX:=envR8.addM 88 welM welM_ok ⟨_,Tryz.func88,by kernel_rfl,by kernel_rfl⟩
abbrev cZero:List Seg:=[.ints .i64 2 [0,0],.gen 2 [.v (.slice none 0 0),.v (.slice none 0 0)],.ints .i64 4 [0,0,0,0],.gen 1 [.v (.slice none 0 0)],.bytes 32 (zB 32),.ints .i64 2 [0,0]]
def cSegs2(c:CS):List Seg:=[.ints .i64 2 [c.e,c.fr],.gen 2 [.row c.n [.ints .i64 (c.n*5) c.ops],.row c.m [.ints .i64 (c.m*3) c.vs]],.ints .i64 4 [c.sl,c.p0,c.p1,c.p2],.gen 1 [.row c.k [.gen c.k (rowsF c.bx c.k)]],.bytes 32 c.tag,.ints .i64 2 [c.sE,c.sS]]
theorem commit0_fn(o v:A)(d:List UInt8):FnO 48 [.v (.pointer none),o,v,.agg [.bytes 32 d]] (.t [.agg cZero,.v (.slice none 0 0),.v (.pointer none),.v (.int .i64 13)]):=by
 refine fnA (E:=envR9) Tryz.func48 Tryz.ntmps48 ?_
 refine agow ?_;(try exact⟨⟩)
 rfl
theorem sealB_bd(y x:Int)(p:List UInt8):(sealB y x p).length≤212:=by
 unfold sealB
 split
 ·next h=>
  unfold sealOk at h
  simp only[Bool.and_eq_true,decide_eq_true_eq]at h
  unfold boxW
  rw[List.length_append,List.length_append,tagW_length,xorW_length]
  have:(fourB (powI 4 x)).length=4:=rfl
  omega
 ·simp
theorem boxesP_bd(zs:List Int)(lf:Int)(ng:List Bool)(up draw:List UInt8)(j:Nat):(boxesP zs lf ng up draw j).length≤6000:=
 Nat.le_trans (sealB_bd _ _ _) (by omega)
theorem bodyT_bd{c:CS}{t:List UInt8}(hn:c.n≤3000)(hm:c.m≤3000)(hk:c.k≤24)(ho:c.ops.length=c.n*5)(hv:c.vs.length=c.m*3)(hb:∀j,j<c.k→(c.bx j).length≤6000)(ht:t.length=32):(bodyB c++t).length≤1000000:=by
 rw[List.length_append,ht,body_length ⟨hn,hm,by omega,ho,hv,hb⟩]
 have:=bxN_le hb
 unfold bodyN
 omega
theorem bodyB_tag(c:CS)(t:List UInt8):bodyB { c with tag:=t }=bodyB c:=by
 unfold bodyB bodyMid bodyHead
 rfl
theorem comP_eq(p:PS)(s:Vw)(n:Nat)(ops:List Int)(m:Nat)(vs:List Int)(d:List UInt8):comP p s n ops m vs d=
  { com0 p s n ops m vs d with tag:=tagE (nextP p s n ops m vs d).ep,sE:=sigE (scal p.sg) (bodyB { com0 p s n ops m vs d with tag:=tagE (nextP p s n ops m vs d).ep }++tagE (nextP p s n ops m vs d).ep),sS:=sigS (scal p.sg) (bodyB { com0 p s n ops m vs d with tag:=tagE (nextP p s n ops m vs d).ep }++tagE (nextP p s n ops m vs d).ep) }:=by
 rw[bodyB_tag]
 rfl
theorem up_one(h:List UInt8):List.take 32 (upW h)=nextW h:=by
 unfold upW
 have h1:=nextW_len h
 simp[List.take_append,h1]
theorem up_two(h:List UInt8):List.take 32 (List.drop 32 (upW h))=nextW (nextW h):=by
 unfold upW
 have h1:=nextW_len h
 have h2:=nextW_len (nextW h)
 simp[List.take_append,List.drop_append,h1,h2]
theorem up_three(h:List UInt8):List.take 32 (List.drop 64 (upW h))=nextW (nextW (nextW h)):=by
 unfold upW
 have h1:=nextW_len h
 have h2:=nextW_len (nextW h)
 have h3:=nextW_len (nextW (nextW h))
 have e1:List.drop 64 (nextW h)=[]:=List.drop_eq_nil_of_le (by omega)
 have e2:List.take 32 (nextW (nextW (nextW h)))=nextW (nextW (nextW h)):=List.take_of_length_le (by omega)
 simp[List.take_append,List.drop_append,h1,h2,h3,e1,e2]
theorem fn_lensS{P:Program}{G:Nat→Option (List Seg)}{f:FuncId}{l:List Seg}{off:Nat}{args:List A}{res:Res}(h:segLens l→FnOK P G f (.sref l off::args) res):FnOK P G f (.sref l off::args) res:=by
 intro S w vs hG ha
 cases ha with
 |cons h1 r=>
  cases h1 with
  |sref h2 h3=>exact h (rl_lens h2) S w _ hG (.cons (.sref h2 h3) r)
set_option maxHeartbeats 4000000 in
theorem commit_fn(p:PS)(n:Nat)(ops:List Int)(hn:n≤3000)(m:Nat)(vs:List Int)(hm:m≤3000)(d:List UInt8)(hf:leafB p.lf=true):
  FnO 48 [.sref (pSegs p) 0,.row n [.ints .i64 (n*5) ops],.row m [.ints .i64 (m*3) vs],.agg [.bytes 32 d]]
   (.t (if comE p n ops m vs=0 then[.agg (cSegs2 (comP p (doP p p.lf n ops) n ops m vs d)),.recs (welN (doP p p.lf n ops).ng 8) 108 (welF (welSegs (nextP p (doP p p.lf n ops) n ops m vs d) (upW (lefW d)) (joinP p d) (tagE (nextP p (doP p p.lf n ops) n ops m vs d).ep) d) (doP p p.lf n ops).ng 8),.sref (pSegs (nextP p (doP p p.lf n ops) n ops m vs d)) 0,.v (.int .i64 0)]
    else[.agg cZero,.v (.slice none 0 0),.v (.pointer none),.v (.int .i64 (comE p n ops m vs))])):=by
 refine fn_lensS fun hp=>?_
 have hz:p.zs.length=31:=hp.2.1
 have ha:p.ad.length=8:=hp.2.2.1
 clear hp
 refine fn_lens fun hL=>?_
 have ho:ops.length=n*5:=hL.1.1
 have hv:vs.length=m*3:=hL.2.1.1
 clear hL
 have HO:=Lib.hid ho
 have HV:=Lib.hid hv
 clear ho hv
 refine fnA (E:=envR9) Tryz.func48 Tryz.ntmps48 ?_
 have hE:comE p n ops m vs=if apE p p.lf n ops m vs≠0 then apE p p.lf n ops m vs else if p.e≥1099511627776 then 12 else 0:=by
  unfold comE apE
  by_cases h1:chkV p.e p.zs p.ad p.k p.ch p.lf ops n vs m=0
  ·simp[h1]
  ·simp[h1]
 by_cases h1:apE p p.lf n ops m vs=0
 ·have g1:=decide_eq_true h1
  by_cases h2:p.e≥1099511627776
  ·have e:comE p n ops m vs=12:=by rw[hE,if_neg (fun h=>h h1),if_pos h2]
   rw[e,if_neg (by decide)]
   clear e hE h1
   refine agow ?_;(try exact⟨⟩)
   intro s hs
   refine agow ?_;(try exact⟨⟩)
   rfl
  ·have e:comE p n ops m vs=0:=by rw[hE,if_neg (fun h=>h h1),if_neg h2]
   rw[e,if_pos rfl]
   have hd:(doR p.e ⟨p.zs,p.ad,p.k,F8,F8⟩ p.lf ops n).1=0:=by
    unfold apE at h1
    split at h1
    ·exact absurd h1 ‹_›
    ·exact h1
   obtain⟨f0,f1⟩:=leafB_t hf
   obtain⟨lf,hlf⟩:=Int.eq_ofNat_of_zero_le f0
   have hst:Stay p.zs lf (doP p p.lf n ops):=by
    unfold doP
    rw[hlf]at hd ⊢
    exact(stay_of hz ha hd).2
   have hng:∀j:Nat,(doP p p.lf n ops).ng.getD j false=true→(j:Int)≠p.lf:=fun j hj he=>by
    have:j=lf:=by omega
    rw[this,hst.ng]at hj
    cases hj
   have he0: -4611686018427387904≤p.e:=by
    have h:=(doR_yes hd).1
    unfold mayV at h
    simp only[Bool.and_eq_true,decide_eq_true_eq]at h
    have:=h.1.1.1.1.1
    omega
   have he1:p.e≤4611686018427387904:=by omega
   clear e hE hd hst h1 hz ha lf hlf
   refine agow ?_;(try exact⟨⟩)
   intro s hs
   rw[show doP p p.lf n ops=s from hs.symm]at hng ⊢
   refine agow ?_;(try exact⟨⟩)
   refine Or.inl ?_
   refine agow ?_;(try exact⟨⟩)
   refine StopL.mk (loop_unroll 4 ?_)
   refine agow ?_;(try exact⟨⟩)
   intro N bx hN hbx
   have hN24:N≤24:=hN▸planL_len _ _ _
   have hN3:N≤3000:=by omega
   have hb6:∀j,j<N→(bx j).length≤6000:=fun j _=>by rw[hbx];exact boxesP_bd _ _ _ _ _ _
   have HN:=Lib.hid hN
   have HB:=Lib.hid hbx
   clear hN hbx
   refine agow ?_;(try exact⟨⟩)
   refine⟨bodyT_bd hn hm hN24 HO HV hb6 (tagE_len _),?_⟩
   refine agow ?_;(try exact⟨⟩)
   intro W hW
   have HW:=Lib.hid hW
   clear hW
   refine agow ?_;(try exact⟨⟩)
   clear g1 hng hs HO HV hN24 hN3 hb6
   obtain rfl:=id HN
   obtain rfl:=id HB
   obtain rfl:=id HW
   have eab:∀q:PS,(renewP q d).ab=upW (lefW d):=fun _=>rfl
   simp only[eab,up_one,up_two,up_three]
   rw[comP_eq]
   rfl
 ·have g1:=decide_eq_false h1
  have e:comE p n ops m vs=apE p p.lf n ops m vs:=by rw[hE,if_pos h1]
  rw[e,if_neg h1]
  clear e hE
  have h3:(apE p p.lf n ops m vs==0)=false:=by simpa using h1
  have h4:(apE p p.lf n ops m vs !=0)=true:=by simpa using h1
  clear h1
  refine agow ?_;(try exact⟨⟩)
  rfl
end
end Go.Proofs.YtbdmnobocecnfaaGreatDoor
