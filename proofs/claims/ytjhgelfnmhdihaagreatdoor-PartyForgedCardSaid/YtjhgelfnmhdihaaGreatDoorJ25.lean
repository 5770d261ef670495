/-
  The machine without memory: a loop that counts. No program is named here.
-/
import Derived.Test.YtjhgelfnmhdihaaGreatDoorJ15
import Derived.Test.YtjhgelfnmhdihaaGreatDoorJ18
namespace Go.Proofs.YtjhgelfnmhdihaaGreatDoor
set_option linter.unusedVariables false
set_option linter.unusedSimpArgs false
set_option maxRecDepth 100000
open Go.RowKit
section
theorem OW{p:Nat→Prop}:∀(N:Nat),(∃j,j≤N∧p j)→∃j,j≤N∧p j∧∀i,i≤N→p i→i≤j
 |0,⟨j,h1,h2⟩=>by
  obtain rfl:j=0:=by omega
  exact⟨0,Nat.le_refl _,h2,fun i hi _=>hi⟩
 |N+1,⟨j,h1,h2⟩=>by
  by_cases h:p (N+1)
  ·exact⟨N+1,Nat.le_refl _,h,fun i hi _=>hi⟩
  ·have hj:j≤N:=by
    rcases Nat.lt_or_ge N j with h3|h3
    ·exact(h ((show j=N+1 by omega)▸h2)).elim
    ·exact h3
   obtain⟨k,k1,k2,k3⟩:=OW N ⟨j,hj,h2⟩
   refine⟨k,by omega,k2,fun i hi hp=>?_⟩
   rcases Nat.lt_or_ge N i with h3|h3
   ·exact(h ((show i=N+1 by omega)▸hp)).elim
   ·exact k3 i h3 hp
noncomputable def lastOf(N:Nat)(f:Nat→St)(s:St):Nat:=by
 classical exact if h:∃j,j≤N∧s=f j then Classical.choose (OW (p:=fun j=>s=f j) N h)else 0
theorem uO{N:Nat}{f:Nat→St}{s:St}(h:∃j,j≤N∧s=f j):lastOf N f s≤N∧s=f (lastOf N f s)∧∀i,i≤N→s=f i→i≤lastOf N f s:=by
 have:=Classical.choose_spec (OW (p:=fun j=>s=f j) N h)
 unfold lastOf
 rw[dif_pos h]
 exact this
structure Round(N:Nat)(f:Nat→St)(j:Nat)(s':St):Prop where
 there:∃i,i≤N∧s'=f i
 less:N-lastOf N f s'<N-lastOf N f (f j)
structure qZ(N:Nat)(f:Nat→St)(j:Nat):Prop where
 le:j≤N
 last:∀i,i≤N→f j=f i→i≤j
theorem qZ.next{N:Nat}{f:Nat→St}{j:Nat}{s':St}(h:qZ N f j)(hj:j<N)(e:s'=f (j+1)):Round N f j s':=by
 subst e
 refine⟨⟨_,hj,rfl⟩,?_⟩
 obtain⟨c1,c2,c3⟩:=uO (N:=N) (f:=f) (s:=f (j+1)) ⟨_,hj,rfl⟩
 obtain⟨d1,d2,d3⟩:=uO (N:=N) (f:=f) (s:=f j) ⟨_,h.le,rfl⟩
 have h1:=c3 _ hj rfl
 have h2:=h.last _ d1 d2
 omega
def aw9(f:Nat→Nat):Pt→Pt
 | .dat a=>.dat a
 | .own b n=>.own (f b) n
 | .win b base n=>.win (f b) base n
def PV(f:Nat→Nat):T→T
 | .ptr b base=>.ptr (f b) base
 | .uW b base rel=>.uW (f b) base rel
 | .own b n=>.own (f b) n
 | .win b base n=>.win (f b) base n
 | .zV b n off=>.zV (f b) n off
 | .pre b n m=>.pre (f b) n m
 | .rows l=>.rows (l.map (aw9 f))
 | .ob b=>.ob (f b)
 | .mp b=>.mp (f b)
 | .hsl b n=>.hsl (f b) n
 | .Kq b c=>.Kq (f b) (f c)
 | .d a=>.d a
 | .EU l=>.EU l
 | .ah=>.ah
def KX(f:Nat→Nat)(live:List Nat):Nat→List T→List T
 |_,[]=>[]
 |i,t::l=>(if live.contains i=true then PV f t else .ah)::KX f live (i+1) l
def gather(live bs:List Nat)(s:St):St:=⟨KX (fun b=>bs.idxOf b) live 0 s.t,bs.map s.bk⟩
def Dx(live bs:List Nat)(s:St):Bool:=bs.head?==some 0&&bs.eraseDups==bs&&live.all (fun i=>(s.sl i).refs.all fun b=>bs.contains b)
theorem KZ(f:Nat→Nat)(live:List Nat):∀(l:List T) (i:Nat),(KX f live i l).length=l.length
 |[],_=>rfl
 |_::l,i=>by simp[KX,KZ f live l (i+1)]
theorem KY(f:Nat→Nat)(live:List Nat):∀(l:List T) (i j:Nat),(KX f live i l).getD j .ah=if live.contains (i+j)=true then PV f (l.getD j .ah)else .ah
 |[],i,j=>by simp[KX,PV]
 |t::l,i,0=>by simp[KX]
 |t::l,i,j+1=>by
  have:=KY f live l (i+1) j
  rw[show i+1+j=i+(j+1) by omega]at this
  simpa[KX]using this
theorem Vi(f:Nat→Nat)(t:T):(PV f t).refs=t.refs.map f:=by
 cases t with
 |rows l=>
  simp only[PV,T.refs,List.flatMap_map,List.map_flatMap]
  congr 1
  funext p
  cases p<;>rfl
 |_=>rfl
theorem RP.ren{D D':Nat→Prop}{ρ ρ':Nat→Option Value}{w w':World}(k:Keeps D w D' w'){f:Nat→Nat}{p:Pt}{v:Value}(hr:∀b∈p.refs,ρ' (f b)=ρ b)(h:RP D ρ w p v):RP D' ρ' w' (aw9 f p) v:=by
 cases p with
 |dat a=>exact RA.up k h
 |own b n=>intro u hu;rw[hr b (by simp[Pt.refs])]at hu;exact h u hu
 |win b base n=>intro u hu;rw[hr b (by simp[Pt.refs])]at hu;exact h u hu
theorem Nj.ren{D D':Nat→Prop}{ρ ρ':Nat→Option Value}{w w':World}{f:Nat→Nat}:∀{l:List Pt} {vs:List Value},(∀p∈l,∀v,RP D ρ w p v→RP D' ρ' w' (aw9 f p) v)→Nj D ρ w l vs→Nj D' ρ' w' (l.map (aw9 f)) vs
 |_,_,_,.nil=>.nil
 |_,_,g,.cons h r=>.cons (g _ (by simp) _ h) (r.ren fun p hp=>g p (by simp[hp]))
theorem RT.ren{D D':Nat→Prop}{ρ ρ':Nat→Option Value}{w w':World}(k:Keeps D w D' w'){f:Nat→Nat}{t:T}{v:Value}(hr:∀b∈t.refs,ρ' (f b)=ρ b)(h:RT D ρ w t v):RT D' ρ' w' (PV f t) v:=by
 cases t with
 |d a=>exact RA.up k h
 |EU l=>obtain⟨vs,rfl,h⟩:=h;exact⟨vs,rfl,h.up k⟩
 |rows l=>obtain⟨vs,h1,h2⟩:=h;exact⟨vs,h1.ren fun p hp v hv=>hv.ren k fun b hb=>hr b (by simp only[T.refs,List.mem_flatMap];exact⟨p,hp,hb⟩),h2.up k⟩
 |ah=>trivial
 |ptr b base=>intro u hu;rw[hr b (by simp[T.refs])]at hu;exact h u hu
 |ob b=>intro u hu;rw[hr b (by simp[T.refs])]at hu;exact h u hu
 |mp b=>intro u hu;rw[hr b (by simp[T.refs])]at hu;exact h u hu
 |hsl b n=>intro u hu;rw[hr b (by simp[T.refs])]at hu;exact h u hu
 |Kq b c=>intro u hu;rw[hr b (by simp[T.refs])]at hu;exact h u hu
 |uW b base rel=>intro u hu;rw[hr b (by simp[T.refs])]at hu;exact h u hu
 |own b n=>intro u hu;rw[hr b (by simp[T.refs])]at hu;exact h u hu
 |win b base n=>intro u hu;rw[hr b (by simp[T.refs])]at hu;exact h u hu
 |zV b n off=>intro u hu;rw[hr b (by simp[T.refs])]at hu;exact h u hu
 |pre b n m=>intro u hu;rw[hr b (by simp[T.refs])]at hu;exact h u hu
theorem Df:∀(n:Nat) (l:List Nat),l.length≤n→l.eraseDups.Nodup∧∀x,x∈l.eraseDups↔x∈l
 |_,[],_=>by simp
 |n+1,a::l,h=>by
  rw[List.eraseDups_cons]
  have hl:(l.filter fun b=>!b==a).length≤n:=Nat.le_trans (List.length_filter_le _ _) (by simpa using h)
  obtain⟨h1,h2⟩:=Df n _ hl
  refine⟨List.nodup_cons.2 ⟨?_,h1⟩,fun x=>?_⟩
  ·rw[h2];simp
  ·rw[List.mem_cons,h2]
   simp
   by_cases e:x=a<;>simp[e]
theorem FD{l:List Nat}(h:l.eraseDups=l):l.Nodup:=h▸(Df _ l (Nat.le_refl _)).1
theorem UD{l:List Nat}(h:l.Nodup){i j:Nat}{hi:i<l.length}{hj:j<l.length}(e:l[i]=l[j]):i=j:=by
 have hp:=List.pairwise_iff_getElem.1 h
 rcases Nat.lt_trichotomy i j with h1|h1|h1
 ·exact absurd e (hp i j hi hj h1)
 ·exact h1
 ·exact absurd e.symm (hp j i hj hi h1)
theorem yh.gather{s:St}{live bs:List Nat}(h:Dx live bs s=true):yh s (gather live bs s):=⟨fun G S base w0 ρ a w g=>by
 unfold Dx at h
 simp only[Bool.and_eq_true,beq_iff_eq]at h
 obtain⟨⟨h0,h1⟩,h2⟩:=h
 have hnd:=FD h1
 rw[List.all_eq_true]at h2
 let ρ':Nat→Option Value:=fun i=>(bs[i]?).bind ρ
 have hbk:∀i,(Go.Proofs.YtjhgelfnmhdihaaGreatDoor.gather live bs s).bk i=match bs[i]? with|some b=>s.bk b|none=>none:=by
  intro i
  show(bs.map s.bk).getD i none=_
  rw[List.getD_eq_getElem?_getD,List.getElem?_map]
  cases bs[i]?<;>rfl
 have hsl:∀i,(Go.Proofs.YtjhgelfnmhdihaaGreatDoor.gather live bs s).sl i=if live.contains i=true then PV (fun b=>bs.idxOf b) (s.sl i)else .ah:=by
  intro i
  have:=KY (fun b=>bs.idxOf b) live s.t 0 i
  rw[Nat.zero_add]at this
  exact this
 have hρ:∀i u,ρ' i=some u→∃b,bs[i]?=some b∧ρ b=some u:=by
  intro i u hb
  simp only[ρ']at hb
  cases hx:bs[i]? with
  |none=>rw[hx]at hb;cases hb
  |some b=>rw[hx]at hb;exact⟨b,rfl,hb⟩
 have Uq:∀b,b∈bs→ρ' (bs.idxOf b)=ρ b:=fun b hb=>by
  simp only[ρ']
  rw[List.getElem?_eq_getElem (List.idxOf_lt_length_of_mem hb),List.getElem_idxOf];rfl
 have hρi:∀i b,bs[i]?=some b→ρ' i=ρ b:=fun i b hb=>by simp only[ρ'];rw[hb];rfl
 have K:Keeps (Dt S base ρ) w (Dt S base ρ') w:=⟨Nat.le_refl _,fun r _ hd=>⟨⟨hd.1,fun b u hb=>by obtain⟨c,_,hc⟩:=hρ b u hb;exact hd.2 c u hc⟩,fun _=>rfl⟩⟩
 have h00:bs[0]?=some 0:=by rw[←List.head?_eq_getElem?];exact h0
 refine⟨ρ',(KZ _ _ _ _).trans g.len,fun i hi=>?_,fun i=>?_,fun i b hb=>?_,fun i j u u' r hi hj e1 e2=>?_,fun i u r hi=>?_,g.zS,g.glob.up K,(fun q hq=>(hρi 0 0 h00).trans (g.pin q hq)),g.size,g.defs⟩
 ·rw[hsl]
  by_cases hl:live.contains i=true
  ·rw[if_pos hl]
   refine RT.ren K (fun b hb=>Uq b ?_) (g.t i hi)
   have:=h2 i (by simpa using hl)
   rw[List.all_eq_true]at this
   simpa using this b hb
  ·rw[if_neg hl];trivial
 ·rw[hbk]
  cases hx:bs[i]? with
  |none=>show ρ' i=none;simp only[ρ'];rw[hx];rfl
  |some b=>
   have hB:=g.b b
   have e:=hρi i b hx
   show RB base (Dt S base ρ') ρ' w i (s.bk b)
   cases hk:s.bk b with
   |none=>rw[hk]at hB;exact e.trans hB
   |some x=>
    rw[hk]at hB
    cases x with
    |var l=>obtain⟨r,cs,t,k1,k2,k3,k4⟩:=hB;exact⟨r,cs,t,e.trans k1,k2,k3,k4.up K⟩
    |sl et sz n l=>obtain⟨u,cs,k1,k2,k3⟩:=hB;exact⟨u,cs,e.trans k1,k2,k3.up K⟩
    |obj p=>obtain⟨r,cs,t,k1,k2,k3,k4⟩:=hB;exact⟨r,cs,t,e.trans k1,k2,k3,k4⟩
    |abs p=>obtain⟨r,F,k1,k2,k3⟩:=hB;exact⟨r,F,e.trans k1,k2,k3⟩
    |vh l off p e2 sz n m=>obtain⟨r,cs,t,su,ms,h1,h2,h3,h4,h5,h6,h7,h8⟩:=hB;exact⟨r,cs,t,su,ms,e.trans h1,h2,h3,h4,h5.up K,h6.up K,h7,h8⟩
    |gone=>obtain⟨n,k1⟩:=hB;exact⟨n,e.trans k1⟩
    |bx=>
     obtain⟨h0',q,r,ty,k1,k2,k3⟩:=hB
     refine⟨fun hi0=>?_,q,r,ty,e.trans k1,k2,(hρi 0 0 h00).trans k3⟩
     subst hi0
     rw[h00]at hx;cases hx
     exact h0' rfl
 ·rw[hsl]at hb
  by_cases hl:live.contains i=true
  ·rw[if_pos hl,Vi]at hb
   obtain⟨c,hc,rfl⟩:=List.mem_map.1 hb
   have:=h2 i (by simpa using hl)
   rw[List.all_eq_true]at this
   have hm:c∈bs:=by simpa using this c hc
   rw[hbk,List.getElem?_eq_getElem (List.idxOf_lt_length_of_mem hm),List.getElem_idxOf]
   exact g.uE i c hc
  ·rw[if_neg hl]at hb;simp[T.refs]at hb
 ·obtain⟨b,hb1,hb2⟩:=hρ i u hi
  obtain⟨c,hc1,hc2⟩:=hρ j u' hj
  have:=g.inj b c u u' r hb2 hc2 e1 e2
  subst this
  obtain⟨l1,e3⟩:=List.getElem?_eq_some_iff.1 hb1
  obtain⟨l2,e4⟩:=List.getElem?_eq_some_iff.1 hc1
  exact UD hnd (e3.trans e4.symm)
 ·obtain⟨b,hb1,hb2⟩:=hρ i u hi
  exact g.low b u r hb2⟩
structure rR(N:Nat)(f:Nat→St)(j:Nat)(s':St):Prop where
 out:∃s'',yh s' s''∧(∃i,i≤N∧s''=f i)∧N-lastOf N f s''<N-lastOf N f (f j)
theorem qZ.ent{N:Nat}{f:Nat→St}{j:Nat}{s' s'':St}(h:qZ N f j)(hj:j<N)(he:yh s' s'')(e:s''=f (j+1)):rR N f j s':=by
 obtain⟨h1,h2⟩:=h.next hj e
 exact⟨s'',he,h1,h2⟩
theorem qZ.go{N:Nat}{f:Nat→St}{j:Nat}{s':St}(h:qZ N f j)(hj:j<N)(live bs:List Nat)(e:gather live bs s'=f (j+1))(ok:Dx live bs s'=true:=by exact rfl):rR N f j s':=h.ent hj (.gather ok) e
theorem vP{body:St→(Exit→St→Prop)→Prop}{s s1:St}{k:Exit→St→Prop}(N:Nat)(f:Nat→St)(he:yh s s1)(h2:s1=f 0)
  (h3:∀j,j≤N→qZ N f j→body (f j) fun e s'=>match e with| .normal=>rR N f j s'|e=>k e s'):aZ body s k∨yj body s k:=by
 refine .inr ⟨s1,fun s=>∃j,j≤N∧s=f j,fun s=>N-lastOf N f s,he,⟨0,Nat.zero_le _,h2⟩,?_⟩
 intro s hs
 obtain⟨a1,a2,a3⟩:=uO hs
 generalize hj:lastOf N f s=j at*
 subst a2
 have h4:=h3 j a1 ⟨a1,a3⟩
 refine Eq.mp (congrArg (body (f j)) (funext fun e=>funext fun s'=>?_)) h4
 cases e<;>simp only[]
 exact propext ⟨fun h=>⟨h.out⟩,fun h=>⟨h.out⟩⟩
theorem bV{body:St→(Exit→St→Prop)→Prop}{s:St}{k:Exit→St→Prop}(live bs:List Nat)(N:Nat)(f:Nat→St)
  (h3:∀j,j≤N→qZ N f j→body (f j) fun e s'=>match e with| .normal=>rR N f j s'|e=>k e s')
  (ok:Dx live bs s=true:=by exact rfl)(h2:gather live bs s=f 0:=by exact rfl):aZ body s k∨yj body s k:=vP N f (.gather ok) h2 h3
theorem jw{body:St→(Exit→St→Prop)→Prop}{s:St}{k:Exit→St→Prop}(live bs:List Nat)(i:Nat)(e:TypeId)(sz:Nat)(l:List Seg)(N:Nat)(f:Nat→St)
  (h3:∀j,j≤N→qZ N f j→body (f j) fun e s'=>match e with| .normal=>rR N f j s'|e=>k e s')
  (hn:s.sl i=.d (.v (.slice none 0 0)):=by exact rfl)(hl:l.all pW=true:=by exact rfl)
  (ok:Dx live bs (Ai s i e sz l)=true:=by exact rfl)(h2:gather live bs (Ai s i e sz l)=f 0:=by exact rfl):aZ body s k∨yj body s k:=vP N f ((yh.nil hn hl).trans (.gather ok)) h2 h3
end
section
theorem aj{p q:Prop}(left:q)(h:(Left q→p)∧Isq q:=by
  refine And.intro ?_ ?_
  ·intro sF
   (conv=>whnf);repeat ((first|(refine And.intro ?_ ?_;focus (first|exact rfl|exact Nat.le_of_ble_eq_true rfl|exact Or.inr rfl|exact Or.inl rfl|(intro hx;cases hx<;>fail)|(intro _;rfl)|exact⟨_,rfl,rfl⟩|omega|(simp only[Seg.n,fP,vg,vk,jl,iA,kS,gT,bF];omega)|(refine ar9 ?_;(try simp only[Seg.n,fP,vg,vk,jl,iA,kS,gT,bF]);omega)|assumption|decide|(simp[Seg.n,fP,vg,vk,jl,iA,kS,gT,bF, *]<;>omega)))|(refine⟨_,And.intro rfl ?_⟩)|(refine mR.mk ?_;first|(refine yF ?_ ?_;focus (first|rfl|assumption|(simp only[bne,Bool.true_beq,Bool.false_beq,beq_true,beq_false,Bool.not_true,Bool.not_false,Bool.true_and,Bool.and_true,Bool.false_and,Bool.and_false,Bool.true_or,Bool.or_true,Bool.false_or,Bool.or_false,beq_iff_eq,beq_eq_false_iff_ne,ne_eq,Bool.not_eq_true',Bool.not_eq_false',decide_eq_true_eq,decide_eq_false_iff_not,ge_iff_le,gt_iff_lt, *]<;>omega)|(simp[bf, *]<;>omega)))|(refine rW ?_ ?_;focus (first|rfl|assumption|(simp only[bne,Bool.true_beq,Bool.false_beq,beq_true,beq_false,Bool.not_true,Bool.not_false,Bool.true_and,Bool.and_true,Bool.false_and,Bool.and_false,Bool.true_or,Bool.or_true,Bool.false_or,Bool.or_false,beq_iff_eq,beq_eq_false_iff_ne,ne_eq,Bool.not_eq_true',Bool.not_eq_false',decide_eq_true_eq,decide_eq_false_iff_not,ge_iff_le,gt_iff_lt, *]<;>omega)|(simp[bf, *]<;>omega))))|((first|refine toA ?_|refine toE ?_|refine toD ?_);(try(conv=>arg 2;simp(disch:=omega) only[dR,Int.toNat_natCast,Seg.n,Wx,Wy,Wz,WA,WB,WC,WE,WG,WH,BK,BL,BN,BO,BP,BQ,BR,Int.reduceAdd,Int.zero_add,Seg.cell,Seg.sub,List.set_nil,iH,mO,List.take_append_drop,St.app,St.oF,St.ev,List.getD_cons_zero,List.getD_cons_succ,List.getD_nil,St.sl,St.bk,jl,iA,kS,gT,bF,weaken,lY,List.set_cons_zero,List.set_cons_succ,List.length_cons,List.length_nil,List.cons_append,List.nil_append,List.append_nil,List.map_cons,List.map_nil,List.replicate_succ,List.replicate_zero,List.take_succ_cons,List.take_zero,List.drop_succ_cons,List.drop_zero,List.take_nil,List.drop_nil,Nat.reduceAdd,Nat.reduceSub,Nat.reduceMul,Nat.reduceEqDiff,Nat.reduceLT,Nat.reduceLeDiff,Nat.zero_add,Nat.add_zero,Nat.sub_self,Nat.sub_zero,Nat.one_mul,Nat.mul_one,Nat.zero_mul,jk,mD,List.flatten_cons,List.flatten_nil,eq_self,ite_true,if_true,if_false,↓reduceIte,reduceCtorEq,Int.reduceToNat,iB,sM]));first|(refine ofA ?_;(conv=>arg 3;whnf);first|refine vW ?_|refine zo ?_)|(refine ofD ?_;(conv=>arg 5;whnf);first|refine vX ?_|refine zq ?_)|(refine ofE ?_;(conv=>arg 2;whnf);(refine qA _ rfl ?_ ?_);focus (kernel_rfl))));(conv=>whnf))
   all_goals exact sF.out
  ·first|with_reducible exact ar6|exact ar5):p:=h.1 ⟨left⟩
end
section
open Pm
theorem yN{f:FuncId}{args:List A}{bs:List UInt8}(h:∀(S:Nat→Prop) (w:World) (vs:List Value),lW S w args vs→Calls Tryz.prog f vs.toArray w fun e w'=>∃v,e=.returned v∧gV w' w.heap.size 5 v bs∧Below w.heap.size w w'):
  aP f args (.o 5 1 bs.length [.bytes bs.length bs]):=fun S w vs _ ha=>by
 refine(h S w vs ha).mono ?_
 rintro e w' ⟨v,rfl,ho,hb⟩
 exact⟨v,rfl,⟨_,ho,.ofBytes rfl rfl⟩,hb⟩
def UE:List A→(bP→Prop)→Prop
 |[.v (.int .i64 n)],K=>K (.o 5 1 8 [.bytes 8 (bZ n)])
 |_,_=>False
theorem Cn{f:FuncId}(h:∀n,aP f [.v (.int .i64 n)] (.o 5 1 8 [.bytes 8 (bZ n)])):∀args K,UE args K→∃r,aP f args r∧K r:=by
 intro args K hd
 unfold UE at hd
 split at hd
 ·exact⟨_,h _,hd⟩
 ·exact hd.elim
theorem ZC(n:Int):aP 108 [.v (.int .i64 n)] (.o 5 1 8 [.bytes 8 (bZ n)]):=by
 have h:=yN (f:=108) (args:=[.v (.int .i64 n)]) (bs:=bZ n) fun S w vs ha=>by
  obtain⟨v,rfl,h1⟩:=iP ha
  rw[RA.plain h1]
  refine(at7 n w).mono ?_
  rintro e w' ⟨Q,rfl,hQ,hX,hB⟩
  exact⟨_,rfl,gV.wN hX hQ (fF n).symm (by rw[fF];simp[maxLen]),hB⟩
 rw[fF]at h
 exact h
theorem Sj(n:Int):aP 70 [.v (.int .i64 n)] (.o 5 1 8 [.bytes 8 (bZ n)]):=by
 have h:=yN (f:=70) (args:=[.v (.int .i64 n)]) (bs:=bZ n) fun S w vs ha=>by
  obtain⟨v,rfl,h1⟩:=iP ha
  rw[RA.plain h1]
  exact ac2 n w
 rw[fF]at h
 exact h
def sD:List A→(bP→Prop)→Prop
 |[x],K=>Cu x fun L=>L.flatten.length≤100000000∧K (.o 5 1 L.flatten.length [.bytes L.flatten.length L.flatten])
 |_,_=>False
theorem DW:∀args K,sD args K→∃r,aP 76 args r∧K r:=by
 intro args K hd
 unfold sD at hd
 split at hd
 ·next x=>
  obtain⟨L,⟨hb,hK⟩,hL⟩:=tq hd
  refine⟨_,yN (f:=76) (args:=[x]) (bs:=L.flatten) fun S w vs ha=>?_,hK⟩
  obtain⟨v,rfl,h1⟩:=iP ha
  obtain⟨a,n,c,rfl,h2,h3,h4⟩:=hL h1
  refine ax1 a n c L w ⟨h2.len_eq,h2.small,?_⟩ (by omega)
  rcases h4 with h4|⟨b,off,h5,h6⟩
  ·exact .inl h4
  ·refine .inr ⟨b,off,h5,fun i hi=>?_⟩
   obtain⟨a',l',c',e1,e2,e3⟩:=h6 i hi
   exact⟨a',l',c',e1,⟨e2,e3⟩⟩
 ·exact hd.elim
def aN(zs:List Int):List UInt8:=zs.flatMap bZ
theorem jy:aN []=[]:=rfl
theorem oM(a b:List Int):aN (a++b)=aN a++aN b:=by unfold aN;rw[List.flatMap_append]
theorem vS(a:Int):aN [a]=bZ a:=by unfold aN;simp
theorem sG(a:Int)(l:List Int):aN (a::l)=bZ a++aN l:=by unfold aN;simp
theorem jc:∀(l:List Int),(aN l).length=l.length*8
 |[]=>rfl
 |a::l=>by rw[sG,List.length_append,fF,jc l,List.length_cons];omega
theorem nD(zs:List Int){j:Nat}(h:j<zs.length):aN (zs.take (j+1))=aN (zs.take j)++bZ (zs.getD j 0):=by
 rw[List.take_add_one,oM,List.getElem?_eq_getElem h,List.getD_eq_getElem?_getD,List.getElem?_eq_getElem h]
 exact congrArg _ (vS _)
noncomputable def ba4:ay:=uF.add 108 UE (Cn ZC) ⟨_,Tryz.func108,by kernel_rfl,by kernel_rfl⟩
noncomputable def ba5:ay:=ba4.add 70 UE (Cn Sj) ⟨_,Tryz.func70,by kernel_rfl,by kernel_rfl⟩
noncomputable def ba6:ay:=ba5.add 76 sD DW ⟨_,Tryz.func76,by kernel_rfl,by kernel_rfl⟩
noncomputable def ba7:ay:=ba6.add 51 yG xk ⟨_,Tryz.func51,by kernel_rfl,by kernel_rfl⟩
noncomputable def XY:ay:=ba7.add 69 rG qy ⟨_,Tryz.func69,by kernel_rfl,by kernel_rfl⟩
end
section
open Pm
attribute [local irreducible] aU aZ bR bZ aF aN
def Gy:List A→(bP→Prop)→Prop
 |[.row n [.ints .i64 m zs]],K=>n=zs.length∧m=zs.length∧zs.length≤1000000∧K (.o 5 1 (zs.length*8) [.bytes (zs.length*8) (aN zs)])
 |_,_=>False
set_option maxHeartbeats 4000000 in
theorem au0(zs:List Int)(hz:zs.length≤1000000):aP 92 [.row zs.length [.ints .i64 zs.length zs]] (.o 5 1 (zs.length*8) [.bytes (zs.length*8) (aN zs)]):=by
 refine dK (E:=XY) Tryz.func92 Tryz.ntmps92 ?_
 refine aj ?_;(try exact⟨⟩)
 refine aM.mk (jw [0,3,4] [0] 3 5 1 [.bytes 0 []] zs.length (fun j=>⟨[.d (.row zs.length [.ints .i64 zs.length zs]),.ah,.ah,.own 0 (j*8),.d (.v (.int .i64 (j:Nat))),.ah,.ah,.ah,.ah,.ah,.ah,.ah,.ah,.ah,.ah,.ah,.ah,.ah,.ah],[some (.sl 5 1 (j*8) [.bytes (j*8) (aN (zs.take j))])]⟩) ?_ (h2:=by rw[List.take_zero,jy];exact rfl))
 intro j hj hl
 by_cases hjz:j<zs.length
 ·refine aj ?_;(try exact⟨⟩)
  refine hl.go hjz [0,3,4] [0] ?_
  rw[nD zs hjz,Nat.add_mul,Nat.one_mul]
  rfl
 ·obtain rfl:j=zs.length:=by omega
  have e:zs.take zs.length=zs:=List.take_length
  rw[e]
  refine aj ?_;(try exact⟨⟩)
theorem ZE:∀args K,Gy args K→∃r,aP 92 args r∧K r:=by
 intro args K h
 unfold Gy at h
 split at h
 ·obtain⟨rfl,rfl,h1,h2⟩:=h
  exact⟨_,au0 _ h1,h2⟩
 ·exact h.elim
noncomputable def XZ:ay:=XY.add 92 Gy ZE ⟨_,Tryz.func92,by kernel_rfl,by kernel_rfl⟩
theorem Gx(zs:List Int){j:Nat}(h:j+1<zs.length):aN (zs.take (j+2))=aN (zs.take j)++(bZ (zs.getD j 0)++bZ (zs.getD (j+1) 0)):=by
 rw[show j+2=(j+1)+1 from rfl,nD zs (j:=j+1) h,nD zs (j:=j) (by omega),List.append_assoc]
theorem SB(L:List Int)(i k:Nat)(hk:k<2):((L.drop i).take 2).getD k 0=L.getD (i+k) 0:=by
 rw[List.getD_eq_getElem?_getD,List.getElem?_take,if_pos hk,List.getElem?_drop,←List.getD_eq_getElem?_getD]
def vv(zs:List Int):List UInt8:=aF (List.replicate 32 0) (sb ⟨#[116,114,101,101]⟩) (aN zs)
set_option maxHeartbeats 4000000 in
theorem MU(zs:List Int):aP 183 [.agg [.ints .i64 31 zs]] (.d (.agg [.bytes 32 (vv zs)])):=by
 refine iq fun hl=>?_
 replace hl:zs.length=31:=hl.1.1
 refine dK (E:=XZ) Tryz.func183 Tryz.ntmps183 ?_
 refine aj ?_;(try exact⟨⟩)
 have hL:(zs.take 16).length=16:=by simp[hl]
 refine aM.mk (jw [1,2,3,9,10] [0,1,2] 3 5 1 [.bytes 0 []] 8 (fun j=>⟨[.ah,.ptr 0 0,.ptr 1 0,.own 2 (j*16),.ah,.ah,.ah,.ah,.ah,.d (.agg [.ints .i64 16 (zs.take 16)]),.d (.v (.int .i64 (j:Nat))),.ah,.ah,.ah,.ah,.ah,.ah,.ah,.ah,.ah,.ah,.ah,.ah,.ah,.ah,.ah,.ah,.ah,.ah,.ah,.ah,.ah,.ah,.ah,.ah,.ah,.ah,.ah],[some (.var [.ints .i64 31 zs]),some (.var [.bytes 32 (List.replicate 32 0)]),some (.sl 5 1 (j*16) [.bytes (j*16) (aN ((zs.take 16).take (j*2)))])]⟩) ?_ (h2:=by rw[Nat.zero_mul,List.take_zero,jy];exact rfl))
 intro j hj YV
 by_cases Un:j<8
 ·refine aj ?_;(try exact⟨⟩)
  refine YV.go Un [1,2,3,9,10] [0,1,2] ?_
  rw[show(j+1)*2=j*2+2 by omega,Gx _ (by omega),show(j+1)*16=j*16+8+8 by omega,←SB _ (j*2) 1 (by omega),show ∀(L:List Int),L.getD (j*2) 0=L.getD (j*2+0) 0 from fun _=>rfl,←SB _ (j*2) 0 (by omega),←List.append_assoc]
  rfl
 ·obtain rfl:j=8:=by omega
  have e:(zs.take 16).take 16=zs.take 16:=List.take_of_length_le (by omega)
  refine aj ?_;(try exact⟨⟩)
  rw[e]
  refine aM.mk (bV [1,2,3,25,26] [0,1,2] 15 (fun j=>⟨[.ah,.ptr 0 0,.ptr 1 0,.own 2 (128+j*8),.ah,.ah,.ah,.ah,.ah,.ah,.ah,.ah,.ah,.ah,.ah,.ah,.ah,.ah,.ah,.ah,.ah,.ah,.ah,.ah,.ah,.d (.agg [.ints .i64 15 ((zs.drop 16).take 15)]),.d (.v (.int .i64 (j:Nat))),.ah,.ah,.ah,.ah,.ah,.ah,.ah,.ah,.ah,.ah,.ah],[some (.var [.ints .i64 31 zs]),some (.var [.bytes 32 (List.replicate 32 0)]),some (.sl 5 1 (128+j*8) [.bytes (128+j*8) (aN (zs.take 16)++aN (((zs.drop 16).take 15).take j))])]⟩) ?_ (h2:=by rw[List.take_zero,jy,List.append_nil];exact rfl))
  clear YV
  intro j hj aP2
  by_cases aP0:j<15
  ·refine aj ?_;(try exact⟨⟩)
   refine aP2.go aP0 [1,2,3,25,26] [0,1,2] ?_
   rw[nD _ (show j<((zs.drop 16).take 15).length by simp[hl];omega),show 128+(j+1)*8=128+j*8+8 by omega,←List.append_assoc]
   rfl
  ·obtain rfl:j=15:=by omega
   have e2:aN (zs.take 16)++aN (((zs.drop 16).take 15).take 15)=aN zs:=by
    rw[←oM,List.take_of_length_le (show((zs.drop 16).take 15).length≤15 by simp;omega),List.take_of_length_le (show(zs.drop 16).length≤15 by simp[hl]),List.take_append_drop]
   rw[e2]
   refine aj ?_;(try exact⟨⟩)
   rfl
set_option maxHeartbeats 4000000 in
theorem FK(zs:List Int):aP 212 [.agg [.ints .i64 31 zs]] (.o 5 1 248 [.bytes 248 (aN zs)]):=by
 refine iq fun hl=>?_
 replace hl:zs.length=31:=hl.1.1
 refine dK (E:=XZ) Tryz.func212 Tryz.ntmps212 ?_
 refine aj ?_;(try exact⟨⟩)
 refine aM.mk (jw [1,3,4] [0,1] 3 5 1 [.bytes 0 []] 8 (fun j=>⟨[.ah,.ptr 0 0,.ah,.own 1 (j*16),.d (.v (.int .i64 (j:Nat))),.ah,.ah,.ah,.ah,.ah,.ah,.ah,.ah,.ah,.ah,.ah,.ah,.ah,.ah,.ah,.ah,.ah,.ah,.ah,.ah,.ah,.ah,.ah,.ah,.ah,.ah,.ah,.ah,.ah,.ah,.ah],[some (.var [.ints .i64 31 zs]),some (.sl 5 1 (j*16) [.bytes (j*16) (aN (zs.take (j*2)))])]⟩) ?_ (h2:=by rw[Nat.zero_mul,List.take_zero,jy];exact rfl))
 intro j hj YV
 by_cases Un:j<8
 ·refine aj ?_;(try exact⟨⟩)
  refine YV.go Un [1,3,4] [0,1] ?_
  rw[show(j+1)*2=j*2+2 by omega,Gx _ (by omega),show(j+1)*16=j*16+16 by omega,show bZ (zs.getD (j*2) 0)++bZ (zs.getD (j*2+1) 0)=aN [zs.getD (j*2) 0,zs.getD (j*2+1) 0] by rw[sG,vS]]
  rfl
 ·obtain rfl:j=8:=by omega
  refine aj ?_;(try exact⟨⟩)
  refine aM.mk (bV [1,3,5] [0,1] 15 (fun j=>⟨[.ah,.ptr 0 0,.ah,.own 1 (128+j*8),.ah,.d (.v (.int .i64 (j:Nat))),.ah,.ah,.ah,.ah,.ah,.ah,.ah,.ah,.ah,.ah,.ah,.ah,.ah,.ah,.ah,.ah,.ah,.ah,.ah,.ah,.ah,.ah,.ah,.ah,.ah,.ah,.ah,.ah,.ah,.ah],[some (.var [.ints .i64 31 zs]),some (.sl 5 1 (128+j*8) [.bytes (128+j*8) (aN (zs.take (16+j)))])]⟩) ?_)
  clear YV
  intro j hj aP2
  by_cases aP0:j<15
  ·refine aj ?_;(try exact⟨⟩)
   refine aP2.go aP0 [1,3,5] [0,1] ?_
   rw[show 16+(j+1)=16+j+1 by omega,nD zs (show 16+j<zs.length by omega),show 128+(j+1)*8=128+j*8+8 by omega]
   rfl
  ·obtain rfl:j=15:=by omega
   have e2:zs.take (16+15)=zs:=List.take_of_length_le (by omega)
   rw[e2]
   refine aj ?_;(try exact⟨⟩)
def EJ:List A→(bP→Prop)→Prop
 |[.agg [.ints .i64 31 zs]],K=>K (.o 5 1 248 [.bytes 248 (aN zs)])
 |_,_=>False
theorem MB:∀args K,EJ args K→∃r,aP 212 args r∧K r:=by
 intro args K h
 unfold EJ at h
 split at h
 ·exact⟨_,FK _,h⟩
 ·exact h.elim
noncomputable def aC0:ay:=XZ.add 212 EJ MB ⟨_,Tryz.func212,by kernel_rfl,by kernel_rfl⟩
theorem JF(zs:List Int):aP 193 [.agg [.ints .i64 31 zs]] (.d (.agg [.bytes 32 (vv zs)])):=by
 refine iq fun hl=>?_
 replace hl:zs.length=31:=hl.1.1
 refine dK (E:=aC0) Tryz.func193 Tryz.ntmps193 ?_
 have hb:(aN zs).length=248:=by rw[jc,hl]
 refine aj ?_;(try exact⟨⟩)
 rfl
def JR:List A→(bP→Prop)→Prop
 |[.agg [.ints .i64 31 zs]],K=>K (.d (.agg [.bytes 32 (vv zs)]))
 |_,_=>False
theorem Ht{f:FuncId}(hx:∀zs,aP f [.agg [.ints .i64 31 zs]] (.d (.agg [.bytes 32 (vv zs)]))):∀args K,JR args K→∃r,aP f args r∧K r:=by
 intro args K h
 unfold JR at h
 split at h
 ·exact⟨_,hx _,h⟩
 ·exact h.elim
noncomputable def ba8:ay:=aC0.add 183 JR (Ht MU) ⟨_,Tryz.func183,by kernel_rfl,by kernel_rfl⟩
noncomputable def KH:ay:=ba8.add 193 JR (Ht JF) ⟨_,Tryz.func193,by kernel_rfl,by kernel_rfl⟩
end
end Go.Proofs.YtjhgelfnmhdihaaGreatDoor
