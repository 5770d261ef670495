/-
  The machine without memory: a loop that counts. No program is named here.
-/
import Derived.Test.YtbdmnobocecnfaaGreatDoorJ15
import Derived.Test.YtbdmnobocecnfaaGreatDoorJ18
namespace Go.Proofs.YtbdmnobocecnfaaGreatDoor
set_option linter.unusedVariables false
set_option linter.unusedSimpArgs false
set_option maxRecDepth 100000
open Go.RowKit
section
theorem max_of{p:Nat→Prop}:∀(N:Nat),(∃j,j≤N∧p j)→∃j,j≤N∧p j∧∀i,i≤N→p i→i≤j
 |0,⟨j,h1,h2⟩=>by
  obtain rfl:j=0:=by omega
  exact⟨0,Nat.le_refl _,h2,fun i hi _=>hi⟩
 |N+1,⟨j,h1,h2⟩=>by
  by_cases h:p (N+1)
  ·exact⟨N+1,Nat.le_refl _,h,fun i hi _=>hi⟩
  ·have hj:j≤N:=by
    rcases Nat.lt_or_ge N j with h3|h3
    ·exact(h ((show j=N+1 by omega)▸h2)).elim
    ·exact h3
   obtain⟨k,k1,k2,k3⟩:=max_of N ⟨j,hj,h2⟩
   refine⟨k,by omega,k2,fun i hi hp=>?_⟩
   rcases Nat.lt_or_ge N i with h3|h3
   ·exact(h ((show i=N+1 by omega)▸hp)).elim
   ·exact k3 i h3 hp
noncomputable def lastOf(N:Nat)(f:Nat→St)(s:St):Nat:=by
 classical exact if h:∃j,j≤N∧s=f j then Classical.choose (max_of (p:=fun j=>s=f j) N h)else 0
theorem lastOf_spec{N:Nat}{f:Nat→St}{s:St}(h:∃j,j≤N∧s=f j):lastOf N f s≤N∧s=f (lastOf N f s)∧∀i,i≤N→s=f i→i≤lastOf N f s:=by
 have:=Classical.choose_spec (max_of (p:=fun j=>s=f j) N h)
 unfold lastOf
 rw[dif_pos h]
 exact this
structure Round(N:Nat)(f:Nat→St)(j:Nat)(s':St):Prop where
 there:∃i,i≤N∧s'=f i
 less:N-lastOf N f s'<N-lastOf N f (f j)
structure LastR(N:Nat)(f:Nat→St)(j:Nat):Prop where
 le:j≤N
 last:∀i,i≤N→f j=f i→i≤j
theorem LastR.next{N:Nat}{f:Nat→St}{j:Nat}{s':St}(h:LastR N f j)(hj:j<N)(e:s'=f (j+1)):Round N f j s':=by
 subst e
 refine⟨⟨_,hj,rfl⟩,?_⟩
 obtain⟨c1,c2,c3⟩:=lastOf_spec (N:=N) (f:=f) (s:=f (j+1)) ⟨_,hj,rfl⟩
 obtain⟨d1,d2,d3⟩:=lastOf_spec (N:=N) (f:=f) (s:=f j) ⟨_,h.le,rfl⟩
 have h1:=c3 _ hj rfl
 have h2:=h.last _ d1 d2
 omega
def renP(f:Nat→Nat):Pt→Pt
 | .dat a=>.dat a
 | .own b n=>.own (f b) n
 | .win b base n=>.win (f b) base n
def renT(f:Nat→Nat):T→T
 | .ptr b base=>.ptr (f b) base
 | .pti b base rel=>.pti (f b) base rel
 | .own b n=>.own (f b) n
 | .win b base n=>.win (f b) base n
 | .ept b n off=>.ept (f b) n off
 | .pre b n m=>.pre (f b) n m
 | .rows l=>.rows (l.map (renP f))
 | .ob b=>.ob (f b)
 | .mp b=>.mp (f b)
 | .hsl b n=>.hsl (f b) n
 | .bxp b c=>.bxp (f b) (f c)
 | .d a=>.d a
 | .tup l=>.tup l
 | .dead=>.dead
def gatT(f:Nat→Nat)(live:List Nat):Nat→List T→List T
 |_,[]=>[]
 |i,t::l=>(if live.contains i=true then renT f t else .dead)::gatT f live (i+1) l
def gather(live bs:List Nat)(s:St):St:=⟨gatT (fun b=>bs.idxOf b) live 0 s.t,bs.map s.bk⟩
def gatOK(live bs:List Nat)(s:St):Bool:=bs.head?==some 0&&bs.eraseDups==bs&&live.all (fun i=>(s.sl i).refs.all fun b=>bs.contains b)
theorem gatT_len(f:Nat→Nat)(live:List Nat):∀(l:List T) (i:Nat),(gatT f live i l).length=l.length
 |[],_=>rfl
 |_::l,i=>by simp[gatT,gatT_len f live l (i+1)]
theorem gatT_get(f:Nat→Nat)(live:List Nat):∀(l:List T) (i j:Nat),(gatT f live i l).getD j .dead=if live.contains (i+j)=true then renT f (l.getD j .dead)else .dead
 |[],i,j=>by simp[gatT,renT]
 |t::l,i,0=>by simp[gatT]
 |t::l,i,j+1=>by
  have:=gatT_get f live l (i+1) j
  rw[show i+1+j=i+(j+1) by omega]at this
  simpa[gatT]using this
theorem renT_refs(f:Nat→Nat)(t:T):(renT f t).refs=t.refs.map f:=by
 cases t with
 |rows l=>
  simp only[renT,T.refs,List.flatMap_map,List.map_flatMap]
  congr 1
  funext p
  cases p<;>rfl
 |_=>rfl
theorem RP.ren{D D':Nat→Prop}{ρ ρ':Nat→Option Value}{w w':World}(k:Keeps D w D' w'){f:Nat→Nat}{p:Pt}{v:Value}(hr:∀b∈p.refs,ρ' (f b)=ρ b)(h:RP D ρ w p v):RP D' ρ' w' (renP f p) v:=by
 cases p with
 |dat a=>exact RA.up k h
 |own b n=>intro u hu;rw[hr b (by simp[Pt.refs])]at hu;exact h u hu
 |win b base n=>intro u hu;rw[hr b (by simp[Pt.refs])]at hu;exact h u hu
theorem RPs.ren{D D':Nat→Prop}{ρ ρ':Nat→Option Value}{w w':World}{f:Nat→Nat}:∀{l:List Pt} {vs:List Value},(∀p∈l,∀v,RP D ρ w p v→RP D' ρ' w' (renP f p) v)→RPs D ρ w l vs→RPs D' ρ' w' (l.map (renP f)) vs
 |_,_,_,.nil=>.nil
 |_,_,g,.cons h r=>.cons (g _ (by simp) _ h) (r.ren fun p hp=>g p (by simp[hp]))
theorem RT.ren{D D':Nat→Prop}{ρ ρ':Nat→Option Value}{w w':World}(k:Keeps D w D' w'){f:Nat→Nat}{t:T}{v:Value}(hr:∀b∈t.refs,ρ' (f b)=ρ b)(h:RT D ρ w t v):RT D' ρ' w' (renT f t) v:=by
 cases t with
 |d a=>exact RA.up k h
 |tup l=>obtain⟨vs,rfl,h⟩:=h;exact⟨vs,rfl,h.up k⟩
 |rows l=>obtain⟨vs,h1,h2⟩:=h;exact⟨vs,h1.ren fun p hp v hv=>hv.ren k fun b hb=>hr b (by simp only[T.refs,List.mem_flatMap];exact⟨p,hp,hb⟩),h2.up k⟩
 |dead=>trivial
 |ptr b base=>intro u hu;rw[hr b (by simp[T.refs])]at hu;exact h u hu
 |ob b=>intro u hu;rw[hr b (by simp[T.refs])]at hu;exact h u hu
 |mp b=>intro u hu;rw[hr b (by simp[T.refs])]at hu;exact h u hu
 |hsl b n=>intro u hu;rw[hr b (by simp[T.refs])]at hu;exact h u hu
 |bxp b c=>intro u hu;rw[hr b (by simp[T.refs])]at hu;exact h u hu
 |pti b base rel=>intro u hu;rw[hr b (by simp[T.refs])]at hu;exact h u hu
 |own b n=>intro u hu;rw[hr b (by simp[T.refs])]at hu;exact h u hu
 |win b base n=>intro u hu;rw[hr b (by simp[T.refs])]at hu;exact h u hu
 |ept b n off=>intro u hu;rw[hr b (by simp[T.refs])]at hu;exact h u hu
 |pre b n m=>intro u hu;rw[hr b (by simp[T.refs])]at hu;exact h u hu
theorem dups_nodup:∀(n:Nat) (l:List Nat),l.length≤n→l.eraseDups.Nodup∧∀x,x∈l.eraseDups↔x∈l
 |_,[],_=>by simp
 |n+1,a::l,h=>by
  rw[List.eraseDups_cons]
  have hl:(l.filter fun b=>!b==a).length≤n:=Nat.le_trans (List.length_filter_le _ _) (by simpa using h)
  obtain⟨h1,h2⟩:=dups_nodup n _ hl
  refine⟨List.nodup_cons.2 ⟨?_,h1⟩,fun x=>?_⟩
  ·rw[h2];simp
  ·rw[List.mem_cons,h2]
   simp
   by_cases e:x=a<;>simp[e]
theorem nodup_of_dups{l:List Nat}(h:l.eraseDups=l):l.Nodup:=h▸(dups_nodup _ l (Nat.le_refl _)).1
theorem nodup_inj{l:List Nat}(h:l.Nodup){i j:Nat}{hi:i<l.length}{hj:j<l.length}(e:l[i]=l[j]):i=j:=by
 have hp:=List.pairwise_iff_getElem.1 h
 rcases Nat.lt_trichotomy i j with h1|h1|h1
 ·exact absurd e (hp i j hi hj h1)
 ·exact h1
 ·exact absurd e.symm (hp j i hj hi h1)
theorem Ent.gather{s:St}{live bs:List Nat}(h:gatOK live bs s=true):Ent s (gather live bs s):=⟨fun G S base w0 ρ a w g=>by
 unfold gatOK at h
 simp only[Bool.and_eq_true,beq_iff_eq]at h
 obtain⟨⟨h0,h1⟩,h2⟩:=h
 have hnd:=nodup_of_dups h1
 rw[List.all_eq_true]at h2
 let ρ':Nat→Option Value:=fun i=>(bs[i]?).bind ρ
 have hbk:∀i,(Go.Proofs.YtbdmnobocecnfaaGreatDoor.gather live bs s).bk i=match bs[i]? with|some b=>s.bk b|none=>none:=by
  intro i
  show(bs.map s.bk).getD i none=_
  rw[List.getD_eq_getElem?_getD,List.getElem?_map]
  cases bs[i]?<;>rfl
 have hsl:∀i,(Go.Proofs.YtbdmnobocecnfaaGreatDoor.gather live bs s).sl i=if live.contains i=true then renT (fun b=>bs.idxOf b) (s.sl i)else .dead:=by
  intro i
  have:=gatT_get (fun b=>bs.idxOf b) live s.t 0 i
  rw[Nat.zero_add]at this
  exact this
 have hρ:∀i u,ρ' i=some u→∃b,bs[i]?=some b∧ρ b=some u:=by
  intro i u hb
  simp only[ρ']at hb
  cases hx:bs[i]? with
  |none=>rw[hx]at hb;cases hb
  |some b=>rw[hx]at hb;exact⟨b,rfl,hb⟩
 have hρm:∀b,b∈bs→ρ' (bs.idxOf b)=ρ b:=fun b hb=>by
  simp only[ρ']
  rw[List.getElem?_eq_getElem (List.idxOf_lt_length_of_mem hb),List.getElem_idxOf];rfl
 have hρi:∀i b,bs[i]?=some b→ρ' i=ρ b:=fun i b hb=>by simp only[ρ'];rw[hb];rfl
 have K:Keeps (Dt S base ρ) w (Dt S base ρ') w:=⟨Nat.le_refl _,fun r _ hd=>⟨⟨hd.1,fun b u hb=>by obtain⟨c,_,hc⟩:=hρ b u hb;exact hd.2 c u hc⟩,fun _=>rfl⟩⟩
 have h00:bs[0]?=some 0:=by rw[←List.head?_eq_getElem?];exact h0
 refine⟨ρ',(gatT_len _ _ _ _).trans g.len,fun i hi=>?_,fun i=>?_,fun i b hb=>?_,fun i j u u' r hi hj e1 e2=>?_,fun i u r hi=>?_,g.bel,g.glob.up K,(fun q hq=>(hρi 0 0 h00).trans (g.pin q hq)),g.size,g.defs⟩
 ·rw[hsl]
  by_cases hl:live.contains i=true
  ·rw[if_pos hl]
   refine RT.ren K (fun b hb=>hρm b ?_) (g.t i hi)
   have:=h2 i (by simpa using hl)
   rw[List.all_eq_true]at this
   simpa using this b hb
  ·rw[if_neg hl];trivial
 ·rw[hbk]
  cases hx:bs[i]? with
  |none=>show ρ' i=none;simp only[ρ'];rw[hx];rfl
  |some b=>
   have hB:=g.b b
   have e:=hρi i b hx
   show RB base (Dt S base ρ') ρ' w i (s.bk b)
   cases hk:s.bk b with
   |none=>rw[hk]at hB;exact e.trans hB
   |some x=>
    rw[hk]at hB
    cases x with
    |var l=>obtain⟨r,cs,t,k1,k2,k3,k4⟩:=hB;exact⟨r,cs,t,e.trans k1,k2,k3,k4.up K⟩
    |sl et sz n l=>obtain⟨u,cs,k1,k2,k3⟩:=hB;exact⟨u,cs,e.trans k1,k2,k3.up K⟩
    |obj p=>obtain⟨r,cs,t,k1,k2,k3,k4⟩:=hB;exact⟨r,cs,t,e.trans k1,k2,k3,k4⟩
    |abs p=>obtain⟨r,F,k1,k2,k3⟩:=hB;exact⟨r,F,e.trans k1,k2,p.up K (fun _ _=>rfl) k3⟩
    |vh l off p e2 sz n m=>obtain⟨r,cs,t,su,ms,h1,h2,h3,h4,h5,h6,h7,h8⟩:=hB;exact⟨r,cs,t,su,ms,e.trans h1,h2,h3,h4,h5.up K,h6.up K,h7,h8⟩
    |gone=>obtain⟨n,k1⟩:=hB;exact⟨n,e.trans k1⟩
    |bx=>
     obtain⟨h0',q,r,ty,k1,k2,k3⟩:=hB
     refine⟨fun hi0=>?_,q,r,ty,e.trans k1,k2,(hρi 0 0 h00).trans k3⟩
     subst hi0
     rw[h00]at hx;cases hx
     exact h0' rfl
 ·rw[hsl]at hb
  by_cases hl:live.contains i=true
  ·rw[if_pos hl,renT_refs]at hb
   obtain⟨c,hc,rfl⟩:=List.mem_map.1 hb
   have:=h2 i (by simpa using hl)
   rw[List.all_eq_true]at this
   have hm:c∈bs:=by simpa using this c hc
   rw[hbk,List.getElem?_eq_getElem (List.idxOf_lt_length_of_mem hm),List.getElem_idxOf]
   exact g.dang i c hc
  ·rw[if_neg hl]at hb;simp[T.refs]at hb
 ·obtain⟨b,hb1,hb2⟩:=hρ i u hi
  obtain⟨c,hc1,hc2⟩:=hρ j u' hj
  have:=g.inj b c u u' r hb2 hc2 e1 e2
  subst this
  obtain⟨l1,e3⟩:=List.getElem?_eq_some_iff.1 hb1
  obtain⟨l2,e4⟩:=List.getElem?_eq_some_iff.1 hc1
  exact nodup_inj hnd (e3.trans e4.symm)
 ·obtain⟨b,hb1,hb2⟩:=hρ i u hi
  exact g.low b u r hb2⟩
structure RoundE(N:Nat)(f:Nat→St)(j:Nat)(s':St):Prop where
 out:∃s'',Ent s' s''∧(∃i,i≤N∧s''=f i)∧N-lastOf N f s''<N-lastOf N f (f j)
theorem LastR.ent{N:Nat}{f:Nat→St}{j:Nat}{s' s'':St}(h:LastR N f j)(hj:j<N)(he:Ent s' s'')(e:s''=f (j+1)):RoundE N f j s':=by
 obtain⟨h1,h2⟩:=h.next hj e
 exact⟨s'',he,h1,h2⟩
theorem LastR.go{N:Nat}{f:Nat→St}{j:Nat}{s':St}(h:LastR N f j)(hj:j<N)(live bs:List Nat)(e:gather live bs s'=f (j+1))(ok:gatOK live bs s'=true:=by exact rfl):RoundE N f j s':=h.ent hj (.gather ok) e
theorem loop_forE{body:St→(Exit→St→Prop)→Prop}{s s1:St}{k:Exit→St→Prop}(N:Nat)(f:Nat→St)(he:Ent s s1)(h2:s1=f 0)
  (h3:∀j,j≤N→LastR N f j→body (f j) fun e s'=>match e with| .normal=>RoundE N f j s'|e=>k e s'):LoopA body s k∨LoopI body s k:=by
 refine .inr ⟨s1,fun s=>∃j,j≤N∧s=f j,fun s=>N-lastOf N f s,he,⟨0,Nat.zero_le _,h2⟩,?_⟩
 intro s hs
 obtain⟨a1,a2,a3⟩:=lastOf_spec hs
 generalize hj:lastOf N f s=j at*
 subst a2
 have h4:=h3 j a1 ⟨a1,a3⟩
 refine Eq.mp (congrArg (body (f j)) (funext fun e=>funext fun s'=>?_)) h4
 cases e<;>simp only[]
 exact propext ⟨fun h=>⟨h.out⟩,fun h=>⟨h.out⟩⟩
theorem loop_forG{body:St→(Exit→St→Prop)→Prop}{s:St}{k:Exit→St→Prop}(live bs:List Nat)(N:Nat)(f:Nat→St)
  (h3:∀j,j≤N→LastR N f j→body (f j) fun e s'=>match e with| .normal=>RoundE N f j s'|e=>k e s')
  (ok:gatOK live bs s=true:=by exact rfl)(h2:gather live bs s=f 0:=by exact rfl):LoopA body s k∨LoopI body s k:=loop_forE N f (.gather ok) h2 h3
theorem loop_forN{body:St→(Exit→St→Prop)→Prop}{s:St}{k:Exit→St→Prop}(live bs:List Nat)(i:Nat)(e:TypeId)(sz:Nat)(l:List Seg)(N:Nat)(f:Nat→St)
  (h3:∀j,j≤N→LastR N f j→body (f j) fun e s'=>match e with| .normal=>RoundE N f j s'|e=>k e s')
  (hn:s.sl i=.d (.v (.slice none 0 0)):=by exact rfl)(hl:l.all segNil=true:=by exact rfl)
  (ok:gatOK live bs (ownNil s i e sz l)=true:=by exact rfl)(h2:gather live bs (ownNil s i e sz l)=f 0:=by exact rfl):LoopA body s k∨LoopI body s k:=loop_forE N f ((Ent.nil hn hl).trans (.gather ok)) h2 h3
end
section
theorem agow{p q:Prop}(left:q)(h:(Left q→p)∧Isq q:=by
  refine And.intro ?_ ?_
  ·intro left_is
   (conv=>whnf);repeat ((first|(refine And.intro ?_ ?_;focus (first|exact rfl|exact Nat.le_of_ble_eq_true rfl|exact Or.inr rfl|exact Or.inl rfl|(intro hx;cases hx<;>fail)|(intro _;rfl)|exact⟨_,rfl,rfl⟩|omega|(simp only[Seg.n,segN,tiByte,tiPtr,tiInt,tiBool,tiSl,tiArr,tiStruct];omega)|(refine leLe ?_;(try simp only[Seg.n,segN,tiByte,tiPtr,tiInt,tiBool,tiSl,tiArr,tiStruct]);omega)|assumption|decide|(simp[Seg.n,segN,tiByte,tiPtr,tiInt,tiBool,tiSl,tiArr,tiStruct, *]<;>omega)))|(refine⟨_,And.intro rfl ?_⟩)|(refine StopC.mk ?_;first|(refine condK_is ?_ ?_;focus (first|rfl|assumption|(simp only[bne,Bool.true_beq,Bool.false_beq,beq_true,beq_false,Bool.not_true,Bool.not_false,Bool.true_and,Bool.and_true,Bool.false_and,Bool.and_false,Bool.true_or,Bool.or_true,Bool.false_or,Bool.or_false,beq_iff_eq,beq_eq_false_iff_ne,ne_eq,Bool.not_eq_true',Bool.not_eq_false',decide_eq_true_eq,decide_eq_false_iff_not,ge_iff_le,gt_iff_lt, *]<;>omega)|(simp[eqSegs, *]<;>omega)))|(refine condK_isnt ?_ ?_;focus (first|rfl|assumption|(simp only[bne,Bool.true_beq,Bool.false_beq,beq_true,beq_false,Bool.not_true,Bool.not_false,Bool.true_and,Bool.and_true,Bool.false_and,Bool.and_false,Bool.true_or,Bool.or_true,Bool.false_or,Bool.or_false,beq_iff_eq,beq_eq_false_iff_ne,ne_eq,Bool.not_eq_true',Bool.not_eq_false',decide_eq_true_eq,decide_eq_false_iff_not,ge_iff_le,gt_iff_lt, *]<;>omega)|(simp[eqSegs, *]<;>omega))))|((first|refine toA ?_|refine toE ?_|refine toD ?_);(try(conv=>arg 2;simp(disch:=omega) only[wrapS,Int.toNat_natCast,Seg.n,wn1,wn2,wn3,wn4,wn5,wn6,wn7,wn8,wn9,wn10,wn11,wn12,wn13,wn14,wn15,wn16,Int.reduceAdd,Int.zero_add,Seg.cell,Seg.sub,List.set_nil,isAlloc,trimH,List.take_append_drop,St.app,St.app2,St.ev,List.getD_cons_zero,List.getD_cons_succ,List.getD_nil,St.sl,St.bk,tiInt,tiBool,tiSl,tiArr,tiStruct,weaken,keepT,List.set_cons_zero,List.set_cons_succ,List.length_cons,List.length_nil,List.cons_append,List.nil_append,List.append_nil,List.map_cons,List.map_nil,List.replicate_succ,List.replicate_zero,List.take_succ_cons,List.take_zero,List.drop_succ_cons,List.drop_zero,List.take_nil,List.drop_nil,Nat.reduceAdd,Nat.reduceSub,Nat.reduceMul,Nat.reduceEqDiff,Nat.reduceLT,Nat.reduceLeDiff,Nat.zero_add,Nat.add_zero,Nat.sub_self,Nat.sub_zero,Nat.one_mul,Nat.mul_one,Nat.zero_mul,joinS,manyS,List.flatten_cons,List.flatten_nil,eq_self,ite_true,if_true,if_false,↓reduceIte,reduceCtorEq,Int.reduceToNat,cntAlloc,opRefs]));first|(refine ofA ?_;(conv=>arg 3;whnf);first|refine regA_cons ?_|refine regA_nil ?_)|(refine ofD ?_;(conv=>arg 5;whnf);first|refine regD_cons ?_|refine regD_nil ?_)|(refine ofE ?_;(conv=>arg 2;whnf);(refine regDr_intro _ rfl ?_ ?_);focus (kernel_rfl))));(conv=>whnf))
   all_goals exact left_is.out
  ·first|with_reducible exact isqT|exact isqA):p:=h.1 ⟨left⟩
theorem fnMB{E:EnvX}{f:FuncId}{fn:Func}{c:Code}{pos:Nat}{x x':Bk}{args:List A}{res:Res}{n:Nat}{t:List T}(hf:E.P.funcs[f]?=some fn)(hnt:fn.ntmps=n)
  (left:wpA E c ⟨t,[some x]⟩ fun e s=>(e=.normal∨e=.ret)∧s.bk 0=some x'∧resK' E s fn.results.toList fun r=>r=res)(hb:fn.body=some c:=by exact rfl)(hn:args.length+1≤n:=by exact Nat.le_of_ble_eq_true rfl)(hp:pos≤args.length:=by exact Nat.le_of_ble_eq_true rfl)
  (hx:∀e sz n l,x≠ .sl e sz n l:=by intro _ _ _ _ h;cases h)(hres:∀y,res≠ .p y:=by intro y h;cases h)
  (ht:(args.map T.d).insertIdx pos (.ptr 0 0)++List.replicate (n- (args.length+1)) (.d (.v undef))=t:=by(conv=>lhs;simp only[List.insertIdx_succ_cons,List.insertIdx_zero,Seg.n,wn1,wn2,wn3,wn4,wn5,wn6,wn7,wn8,wn9,wn10,wn11,wn12,wn13,wn14,wn15,wn16,Int.reduceAdd,Int.zero_add,Seg.cell,Seg.sub,List.set_nil,isAlloc,trimH,List.take_append_drop,St.app,St.app2,St.ev,List.getD_cons_zero,List.getD_cons_succ,List.getD_nil,St.sl,St.bk,tiInt,tiBool,tiSl,tiArr,tiStruct,weaken,keepT,List.set_cons_zero,List.set_cons_succ,List.length_cons,List.length_nil,List.cons_append,List.nil_append,List.append_nil,List.map_cons,List.map_nil,List.replicate_succ,List.replicate_zero,List.take_succ_cons,List.take_zero,List.drop_succ_cons,List.drop_zero,List.take_nil,List.drop_nil,Nat.reduceAdd,Nat.reduceSub,Nat.reduceMul,Nat.reduceEqDiff,Nat.reduceLT,Nat.reduceLeDiff,Nat.zero_add,Nat.add_zero,Nat.sub_self,Nat.sub_zero,Nat.one_mul,Nat.mul_one,Nat.zero_mul,joinS,manyS,List.flatten_cons,List.flatten_nil,eq_self,ite_true,if_true,if_false,↓reduceIte,reduceCtorEq,Int.reduceToNat]);all_goals exact rfl):FnM E.P E.G f pos x args res x':=by
 subst hnt;subst ht;exact fnM_of_wpA hf hb hn hp hx left hres
end
section
open Pm
theorem fn_own8{f:FuncId}{args:List A}{bs:List UInt8}(h:∀(S:Nat→Prop) (w:World) (vs:List Value),RAs S w args vs→Calls Tryz.prog f vs.toArray w fun e w'=>∃v,e=.returned v∧Own8 w' w.heap.size 5 v bs∧Below w.heap.size w w'):
  FnO f args (.o 5 1 bs.length [.bytes bs.length bs]):=fun S w vs _ ha=>by
 refine(h S w vs ha).mono ?_
 rintro e w' ⟨v,rfl,ho,hb⟩
 exact⟨v,rfl,⟨_,ho,.ofBytes rfl rfl⟩,hb⟩
def numS:List A→(Res→Prop)→Prop
 |[.v (.int .i64 n)],K=>K (.o 5 1 8 [.bytes 8 (numB n)])
 |_,_=>False
theorem numS_of{f:FuncId}(h:∀n,FnO f [.v (.int .i64 n)] (.o 5 1 8 [.bytes 8 (numB n)])):∀args K,numS args K→∃r,FnO f args r∧K r:=by
 intro args K hd
 unfold numS at hd
 split at hd
 ·exact⟨_,h _,hd⟩
 ·exact hd.elim
theorem num_fn(n:Int):FnO 35 [.v (.int .i64 n)] (.o 5 1 8 [.bytes 8 (numB n)]):=by
 have h:=fn_own8 (f:=35) (args:=[.v (.int .i64 n)]) (bs:=numB n) fun S w vs ha=>by
  obtain⟨v,rfl,h1⟩:=ra_one ha
  rw[RA.plain h1]
  refine(num_any n w).mono ?_
  rintro e w' ⟨Q,rfl,hQ,hX,hB⟩
  exact⟨_,rfl,Own8.ofBlk hX hQ (numB_length n).symm (by rw[numB_length];simp[maxLen]),hB⟩
 rw[numB_length]at h
 exact h
theorem rnum_fn(n:Int):FnO 18 [.v (.int .i64 n)] (.o 5 1 8 [.bytes 8 (numB n)]):=by
 have h:=fn_own8 (f:=18) (args:=[.v (.int .i64 n)]) (bs:=numB n) fun S w vs ha=>by
  obtain⟨v,rfl,h1⟩:=ra_one ha
  rw[RA.plain h1]
  exact rnum_own n w
 rw[numB_length]at h
 exact h
def joinS':List A→(Res→Prop)→Prop
 |[x],K=>rowsOfK x fun L=>L.flatten.length≤100000000∧K (.o 5 1 L.flatten.length [.bytes L.flatten.length L.flatten])
 |_,_=>False
def numsB(zs:List Int):List UInt8:=zs.flatMap numB
theorem numsB_nil:numsB []=[]:=rfl
theorem numsB_append(a b:List Int):numsB (a++b)=numsB a++numsB b:=by unfold numsB;rw[List.flatMap_append]
theorem numsB_one(a:Int):numsB [a]=numB a:=by unfold numsB;simp
theorem numsB_cons(a:Int)(l:List Int):numsB (a::l)=numB a++numsB l:=by unfold numsB;simp
theorem numsB_length:∀(l:List Int),(numsB l).length=l.length*8
 |[]=>rfl
 |a::l=>by rw[numsB_cons,List.length_append,numB_length,numsB_length l,List.length_cons];omega
theorem numsB_take(zs:List Int){j:Nat}(h:j<zs.length):numsB (zs.take (j+1))=numsB (zs.take j)++numB (zs.getD j 0):=by
 rw[List.take_add_one,numsB_append,List.getElem?_eq_getElem h,List.getD_eq_getElem?_getD,List.getElem?_eq_getElem h]
 exact congrArg _ (numsB_one _)
noncomputable def envK0:EnvX:=env0.add 35 numS (numS_of num_fn) ⟨_,Tryz.func35,by kernel_rfl,by kernel_rfl⟩
noncomputable def envK1:EnvX:=envK0.add 18 numS (numS_of rnum_fn) ⟨_,Tryz.func18,by kernel_rfl,by kernel_rfl⟩
noncomputable def envK2:EnvX:=envK1
noncomputable def envK3:EnvX:=envK2.add 34 deriveS deriveS_ok ⟨_,Tryz.func34,by kernel_rfl,by kernel_rfl⟩
noncomputable def envK4:EnvX:=envK3.add 17 rderiveS rderiveS_ok ⟨_,Tryz.func17,by kernel_rfl,by kernel_rfl⟩
end
section
open Pm
attribute [local irreducible] condK LoopA regA numB deriveW numsB
def numsS:List A→(Res→Prop)→Prop
 |[.row n [.ints .i64 m zs]],K=>n=zs.length∧m=zs.length∧zs.length≤1000000∧K (.o 5 1 (zs.length*8) [.bytes (zs.length*8) (numsB zs)])
 |_,_=>False
noncomputable def envK5:EnvX:=envK4
theorem numsB_two(zs:List Int){j:Nat}(h:j+1<zs.length):numsB (zs.take (j+2))=numsB (zs.take j)++(numB (zs.getD j 0)++numB (zs.getD (j+1) 0)):=by
 rw[show j+2=(j+1)+1 from rfl,numsB_take zs (j:=j+1) h,numsB_take zs (j:=j) (by omega),List.append_assoc]
theorem two_get(L:List Int)(i k:Nat)(hk:k<2):((L.drop i).take 2).getD k 0=L.getD (i+k) 0:=by
 rw[List.getD_eq_getElem?_getD,List.getElem?_take,if_pos hk,List.getElem?_drop,←List.getD_eq_getElem?_getD]
def treeHV(zs:List Int):List UInt8:=deriveW (List.replicate 32 0) (sb ⟨#[116,114,101,101]⟩) (numsB zs)
set_option maxHeartbeats 4000000 in
theorem treeHash_ok(zs:List Int):FnO 118 [.agg [.ints .i64 31 zs]] (.d (.agg [.bytes 32 (treeHV zs)])):=by
 refine fn_lens fun hl=>?_
 replace hl:zs.length=31:=hl.1.1
 refine fnA (E:=envK5) Tryz.func118 Tryz.ntmps118 ?_
 refine agow ?_;(try exact⟨⟩)
 have hL:(zs.take 16).length=16:=by simp[hl]
 refine StopL.mk (loop_forN [1,2,3,9,10] [0,1,2] 3 5 1 [.bytes 0 []] 8 (fun j=>⟨[.dead,.ptr 0 0,.ptr 1 0,.own 2 (j*16),.dead,.dead,.dead,.dead,.dead,.d (.agg [.ints .i64 16 (zs.take 16)]),.d (.v (.int .i64 (j:Nat))),.dead,.dead,.dead,.dead,.dead,.dead,.dead,.dead,.dead,.dead,.dead,.dead,.dead,.dead,.dead,.dead,.dead,.dead,.dead,.dead,.dead,.dead,.dead,.dead,.dead,.dead,.dead],[some (.var [.ints .i64 31 zs]),some (.var [.bytes 32 (List.replicate 32 0)]),some (.sl 5 1 (j*16) [.bytes (j*16) (numsB ((zs.take 16).take (j*2)))])]⟩) ?_ (h2:=by rw[Nat.zero_mul,List.take_zero,numsB_nil];exact rfl))
 intro j hj hl8
 by_cases hj8:j<8
 ·refine agow ?_;(try exact⟨⟩)
  refine hl8.go hj8 [1,2,3,9,10] [0,1,2] ?_
  rw[show(j+1)*2=j*2+2 by omega,numsB_two _ (by omega),show(j+1)*16=j*16+8+8 by omega,←two_get _ (j*2) 1 (by omega),show ∀(L:List Int),L.getD (j*2) 0=L.getD (j*2+0) 0 from fun _=>rfl,←two_get _ (j*2) 0 (by omega),←List.append_assoc]
  rfl
 ·obtain rfl:j=8:=by omega
  have e:(zs.take 16).take 16=zs.take 16:=List.take_of_length_le (by omega)
  refine agow ?_;(try exact⟨⟩)
  rw[e]
  refine StopL.mk (loop_forG [1,2,3,25,26] [0,1,2] 15 (fun j=>⟨[.dead,.ptr 0 0,.ptr 1 0,.own 2 (128+j*8),.dead,.dead,.dead,.dead,.dead,.dead,.dead,.dead,.dead,.dead,.dead,.dead,.dead,.dead,.dead,.dead,.dead,.dead,.dead,.dead,.dead,.d (.agg [.ints .i64 15 ((zs.drop 16).take 15)]),.d (.v (.int .i64 (j:Nat))),.dead,.dead,.dead,.dead,.dead,.dead,.dead,.dead,.dead,.dead,.dead],[some (.var [.ints .i64 31 zs]),some (.var [.bytes 32 (List.replicate 32 0)]),some (.sl 5 1 (128+j*8) [.bytes (128+j*8) (numsB (zs.take 16)++numsB (((zs.drop 16).take 15).take j))])]⟩) ?_ (h2:=by rw[List.take_zero,numsB_nil,List.append_nil];exact rfl))
  clear hl8
  intro j hj hl15
  by_cases hj15:j<15
  ·refine agow ?_;(try exact⟨⟩)
   refine hl15.go hj15 [1,2,3,25,26] [0,1,2] ?_
   rw[numsB_take _ (show j<((zs.drop 16).take 15).length by simp[hl];omega),show 128+(j+1)*8=128+j*8+8 by omega,←List.append_assoc]
   rfl
  ·obtain rfl:j=15:=by omega
   have e2:numsB (zs.take 16)++numsB (((zs.drop 16).take 15).take 15)=numsB zs:=by
    rw[←numsB_append,List.take_of_length_le (show((zs.drop 16).take 15).length≤15 by simp;omega),List.take_of_length_le (show(zs.drop 16).length≤15 by simp[hl]),List.take_append_drop]
   rw[e2]
   refine agow ?_;(try exact⟨⟩)
   rfl
noncomputable def envK6:EnvX:=envK5
def treeHS:List A→(Res→Prop)→Prop
 |[.agg [.ints .i64 31 zs]],K=>K (.d (.agg [.bytes 32 (treeHV zs)]))
 |_,_=>False
theorem treeHS_of{f:FuncId}(hx:∀zs,FnO f [.agg [.ints .i64 31 zs]] (.d (.agg [.bytes 32 (treeHV zs)]))):∀args K,treeHS args K→∃r,FnO f args r∧K r:=by
 intro args K h
 unfold treeHS at h
 split at h
 ·exact⟨_,hx _,h⟩
 ·exact h.elim
noncomputable def envK7:EnvX:=envK6.add 118 treeHS (treeHS_of treeHash_ok) ⟨_,Tryz.func118,by kernel_rfl,by kernel_rfl⟩
noncomputable def envK8:EnvX:=envK7
end
end Go.Proofs.YtbdmnobocecnfaaGreatDoor
