/- -/
import Derived.Test.YtegalalmamofdaaGreatDoorJ15
import Derived.Test.YtegalalmamofdaaGreatDoorJ18
namespace Go.Proofs.YtegalalmamofdaaGreatDoor
set_option linter.all false
set_option maxRecDepth 100000
open Go.RowKit
variable{f:Nat->St}{j:Nat}{ρ ρ':Nat->Option Value}{body:St->(Exit->St->Prop)->Prop}{k:Exit->St->Prop}
section
theorem SG{p:Nat->Prop}:∀(N:Nat),(∃j,j<=N/\p j)->∃j,j<=N/\p j/\∀i,i<=N->p i->i<=j
 |0,⟨j,h1,h2⟩=>by
  obtain rfl:j=0:=by omega
  exact⟨0,Nat.le_refl _,h2,fun i hi _=>hi⟩
 |N+1,⟨j,h1,h2⟩=>by
  by_cases h:p (N+1)
  ·exact⟨N+1,Nat.le_refl _,h,fun i hi _=>hi⟩
  ·have hj:j<=N:=by
    rcases Nat.lt_or_ge N j with h3|h3
    ·exact(h ((show j=N+1 by omega)▸h2)).elim
    ·exact h3
   obtain⟨k,k1,k2,k3⟩:=SG N ⟨j,hj,h2⟩
   refine⟨k,by omega,k2,fun i hi hp=>?_⟩
   rcases Nat.lt_or_ge N i with h3|h3
   ·exact(h ((show i=N+1 by omega)▸hp)).elim
   ·exact k3 i h3 hp
noncomputable def lastOf(N:Nat)(f:Nat->St)(s:St):Nat:=by
 classical exact if h:∃j,j<=N/\s=f j then Classical.choose (SG (p:=fun j=>s=f j) N h)else 0
theorem wR{N:Nat}{s:St}(h:∃j,j<=N/\s=f j):lastOf N f s<=N/\s=f (lastOf N f s)/\∀i,i<=N->s=f i->i<=lastOf N f s:=by
 have:=Classical.choose_spec (SG (p:=fun j=>s=f j) N h)
 unfold lastOf
 rw[dif_pos h]
 exact this
structure Round(N:Nat)(f:Nat->St)(j:Nat)(s':St):Prop where
 there:∃i,i<=N/\s'=f i
 less:N-lastOf N f s'<N-lastOf N f (f j)
structure yI(N:Nat)(f:Nat->St)(j:Nat):Prop where
 le:j<=N
 last:∀i,i<=N->f j=f i->i<=j
theorem yI.next{N:Nat}{s':St}(h:yI N f j)(hj:j<N)(e:s'=f (j+1)):Round N f j s':=by
 subst e
 refine⟨⟨_,hj,rfl⟩,?_⟩
 obtain⟨c1,c2,c3⟩:=wR (N:=N) (f:=f) (s:=f (j+1)) ⟨_,hj,rfl⟩
 obtain⟨d1,d2,d3⟩:=wR (N:=N) (f:=f) (s:=f j) ⟨_,h.le,rfl⟩
 have h1:=c3 _ hj rfl
 have h2:=h.last _ d1 d2
 omega
def aY2(f:Nat->Nat):Pt->Pt
 | .dat a=>.dat a
 | .own b n=>.own (f b) n
 | .win b base n=>.win (f b) base n
def TW(f:Nat->Nat):T->T
 | .ptr b base=>.ptr (f b) base
 | .xg b base rel=>.xg (f b) base rel
 | .own b n=>.own (f b) n
 | .win b base n=>.win (f b) base n
 | .BX b n off=>.BX (f b) n off
 | .pre b n m=>.pre (f b) n m
 | .rows l=>.rows (l.map (aY2 f))
 | .ob b=>.ob (f b)
 | .mp b=>.mp (f b)
 | .hsl b n=>.hsl (f b) n
 | .NC b c=>.NC (f b) (f c)
 | .d a=>.d a
 | .yE l=>.yE l
 | .au=>.au
def Oj(f:Nat->Nat)(live:List Nat):Nat->List T->List T
 |_,[]=>[]
 |i,t::l=>(if live.contains i=true then TW f t else .au)::Oj f live (i+1) l
def gather(live bs:List Nat)(s:St):St:=⟨Oj (fun b=>bs.idxOf b) live 0 s.t,bs.map s.bk⟩
def JL(live bs:List Nat)(s:St):Bool:=bs.head?==some 0&&bs.eraseDups==bs&&live.all (fun i=>(s.sl i).refs.all fun b=>bs.contains b)
theorem Om(f:Nat->Nat)(live:List Nat):∀(l:List T) (i:Nat),(Oj f live i l).length=l.length
 |[],_=>rfl
 |_::l,i=>by simp[Oj,Om f live l (i+1)]
theorem Ol(f:Nat->Nat)(live:List Nat):∀(l:List T) (i j:Nat),(Oj f live i l).getD j .au=if live.contains (i+j)=true then TW f (l.getD j .au)else .au
 |[],i,j=>by simp[Oj,TW]
 |t::l,i,0=>by simp[Oj]
 |t::l,i,j+1=>by
  have:=Ol f live l (i+1) j
  rw[show i+1+j=i+(j+1) by omega]at this
  simpa[Oj]using this
theorem Y5(f:Nat->Nat)(t:T):(TW f t).refs=t.refs.map f:=by
 cases t with
 |rows l=>
  simp only[TW,T.refs,List.flatMap_map,List.map_flatMap]
  congr 1
  funext p
  cases p<;>rfl
 |_=>rfl
theorem RP.ren{D D':Nat->Prop}{w w':World}(k:Keeps D w D' w'){f:Nat->Nat}{p:Pt}{v:Value}(hr:∀b∈p.refs,ρ' (f b)=ρ b)(h:RP D ρ w p v):RP D' ρ' w' (aY2 f p) v:=by
 cases p with
 |dat a=>exact RA.up k h
 |own b n=>intro u hu;rw[hr b (by simp[Pt.refs])]at hu;exact h u hu
 |win b base n=>intro u hu;rw[hr b (by simp[Pt.refs])]at hu;exact h u hu
theorem QM.ren{D D':Nat->Prop}{w w':World}{f:Nat->Nat}:∀{l:List Pt} {vs:List Value},(∀p∈l,∀v,RP D ρ w p v->RP D' ρ' w' (aY2 f p) v)->QM D ρ w l vs->QM D' ρ' w' (l.map (aY2 f)) vs
 |_,_,_,.nil=>.nil
 |_,_,g,.cons h r=>.cons (g _ (by simp) _ h) (r.ren fun p hp=>g p (by simp[hp]))
theorem RT.ren{D D':Nat->Prop}{w w':World}(k:Keeps D w D' w'){f:Nat->Nat}{t:T}{v:Value}(hr:∀b∈t.refs,ρ' (f b)=ρ b)(h:RT D ρ w t v):RT D' ρ' w' (TW f t) v:=by
 cases t with
 |d a=>exact RA.up k h
 |yE l=>obtain⟨vs,rfl,h⟩:=h;exact⟨vs,rfl,h.up k⟩
 |rows l=>obtain⟨vs,h1,h2⟩:=h;exact⟨vs,h1.ren fun p hp v hv=>hv.ren k fun b hb=>hr b (by simp only[T.refs,List.mem_flatMap];exact⟨p,hp,hb⟩),h2.up k⟩
 |au=>trivial
 |ptr b base=>intro u hu;rw[hr b (by simp[T.refs])]at hu;exact h u hu
 |ob b=>intro u hu;rw[hr b (by simp[T.refs])]at hu;exact h u hu
 |mp b=>intro u hu;rw[hr b (by simp[T.refs])]at hu;exact h u hu
 |hsl b n=>intro u hu;rw[hr b (by simp[T.refs])]at hu;exact h u hu
 |NC b c=>intro u hu;rw[hr b (by simp[T.refs])]at hu;exact h u hu
 |xg b base rel=>intro u hu;rw[hr b (by simp[T.refs])]at hu;exact h u hu
 |own b n=>intro u hu;rw[hr b (by simp[T.refs])]at hu;exact h u hu
 |win b base n=>intro u hu;rw[hr b (by simp[T.refs])]at hu;exact h u hu
 |BX b n off=>intro u hu;rw[hr b (by simp[T.refs])]at hu;exact h u hu
 |pre b n m=>intro u hu;rw[hr b (by simp[T.refs])]at hu;exact h u hu
theorem Fv:∀(n:Nat) (l:List Nat),l.length<=n->l.eraseDups.Nodup/\∀x,x∈l.eraseDups↔x∈l
 |_,[],_=>by simp
 |n+1,a::l,h=>by
  rw[List.eraseDups_cons]
  have hl:(l.filter fun b=>!b==a).length<=n:=Nat.le_trans (List.length_filter_le _ _) (by simpa using h)
  obtain⟨h1,h2⟩:=Fv n _ hl
  refine⟨List.nodup_cons.2 ⟨?_,h1⟩,fun x=>?_⟩
  ·rw[h2];simp
  ·rw[List.mem_cons,h2]
   simp
   by_cases e:x=a<;>simp[e]
theorem IX{l:List Nat}(h:l.eraseDups=l):l.Nodup:=h▸(Fv _ l (Nat.le_refl _)).1
theorem Yp{l:List Nat}(h:l.Nodup){i j:Nat}{hi:i<l.length}{hj:j<l.length}(e:l[i]=l[j]):i=j:=by
 have hp:=List.pairwise_iff_getElem.1 h
 rcases Nat.lt_trichotomy i j with h1|h1|h1
 ·exact absurd e (hp i j hi hj h1)
 ·exact h1
 ·exact absurd e.symm (hp j i hj hi h1)
theorem Dg.gather{s:St}{live bs:List Nat}(h:JL live bs s=true):Dg s (gather live bs s):=⟨fun G S base w0 ρ a w g=>by
 unfold JL at h
 simp only[Bool.and_eq_true,beq_iff_eq]at h
 obtain⟨⟨h0,h1⟩,h2⟩:=h
 have hnd:=IX h1
 rw[List.all_eq_true]at h2
 let ρ':Nat->Option Value:=fun i=>(bs[i]?).bind ρ
 have hbk:∀i,(Go.Proofs.YtegalalmamofdaaGreatDoor.gather live bs s).bk i=match bs[i]? with|some b=>s.bk b|none=>none:=by
  intro i
  show(bs.map s.bk).getD i none=_
  rw[List.getD_eq_getElem?_getD,List.getElem?_map]
  cases bs[i]?<;>rfl
 have hsl:∀i,(Go.Proofs.YtegalalmamofdaaGreatDoor.gather live bs s).sl i=if live.contains i=true then TW (fun b=>bs.idxOf b) (s.sl i)else .au:=by
  intro i
  have:=Ol (fun b=>bs.idxOf b) live s.t 0 i
  rw[Nat.zero_add]at this
  exact this
 have hρ:∀i u,ρ' i=some u->∃b,bs[i]?=some b/\ρ b=some u:=by
  intro i u hb
  simp only[ρ']at hb
  cases hx:bs[i]? with
  |none=>rw[hx]at hb;cases hb
  |some b=>rw[hx]at hb;exact⟨b,rfl,hb⟩
 have Yd:∀b,b∈bs->ρ' (bs.idxOf b)=ρ b:=fun b hb=>by
  simp only[ρ']
  rw[List.getElem?_eq_getElem (List.idxOf_lt_length_of_mem hb),List.getElem_idxOf];rfl
 have hρi:∀i b,bs[i]?=some b->ρ' i=ρ b:=fun i b hb=>by simp only[ρ'];rw[hb];rfl
 have K:Keeps (Dt S base ρ) w (Dt S base ρ') w:=⟨Nat.le_refl _,fun r _ hd=>⟨⟨hd.1,fun b u hb=>by obtain⟨c,_,hc⟩:=hρ b u hb;exact hd.2 c u hc⟩,fun _=>rfl⟩⟩
 have h00:bs[0]?=some 0:=by rw[<-List.head?_eq_getElem?];exact h0
 refine⟨ρ',(Om _ _ _ _).trans g.len,fun i hi=>?_,fun i=>?_,fun i b hb=>?_,fun i j u u' r hi hj e1 e2=>?_,fun i u r hi=>?_,g.iE,g.glob.up K,(fun q hq=>(hρi 0 0 h00).trans (g.pin q hq)),g.size,g.defs⟩
 ·rw[hsl]
  by_cases hl:live.contains i=true
  ·rw[if_pos hl]
   refine RT.ren K (fun b hb=>Yd b ?_) (g.t i hi)
   have:=h2 i (by simpa using hl)
   rw[List.all_eq_true]at this
   simpa using this b hb
  ·rw[if_neg hl];trivial
 ·rw[hbk]
  cases hx:bs[i]? with
  |none=>show ρ' i=none;simp only[ρ'];rw[hx];rfl
  |some b=>
   have hB:=g.b b
   have e:=hρi i b hx
   show RB base (Dt S base ρ') ρ' w i (s.bk b)
   cases hk:s.bk b with
   |none=>rw[hk]at hB;exact e.trans hB
   |some x=>
    rw[hk]at hB
    cases x with
    |var l=>obtain⟨r,cs,t,k1,k2,k3,k4⟩:=hB;exact⟨r,cs,t,e.trans k1,k2,k3,k4.up K⟩
    |sl et sz n l=>obtain⟨u,cs,k1,k2,k3⟩:=hB;exact⟨u,cs,e.trans k1,k2,k3.up K⟩
    |obj p=>obtain⟨r,cs,t,k1,k2,k3,k4⟩:=hB;exact⟨r,cs,t,e.trans k1,k2,k3,k4⟩
    |abs p=>obtain⟨r,F,k1,k2,k3⟩:=hB;exact⟨r,F,e.trans k1,k2,p.up K (fun _ _=>rfl) k3⟩
    |vh l off p e2 sz n m=>obtain⟨r,cs,t,su,ms,h1,h2,h3,h4,h5,h6,h7,h8⟩:=hB;exact⟨r,cs,t,su,ms,e.trans h1,h2,h3,h4,h5.up K,h6.up K,h7,h8⟩
    |gone=>obtain⟨n,k1⟩:=hB;exact⟨n,e.trans k1⟩
    |bx=>
     obtain⟨h0',q,r,ty,k1,k2,k3⟩:=hB
     refine⟨fun hi0=>?_,q,r,ty,e.trans k1,k2,(hρi 0 0 h00).trans k3⟩
     subst hi0
     rw[h00]at hx;cases hx
     exact h0' rfl
 ·rw[hsl]at hb
  by_cases hl:live.contains i=true
  ·rw[if_pos hl,Y5]at hb
   obtain⟨c,hc,rfl⟩:=List.mem_map.1 hb
   have:=h2 i (by simpa using hl)
   rw[List.all_eq_true]at this
   have hm:c∈bs:=by simpa using this c hc
   rw[hbk,List.getElem?_eq_getElem (List.idxOf_lt_length_of_mem hm),List.getElem_idxOf]
   exact g.ru i c hc
  ·rw[if_neg hl]at hb;simp[T.refs]at hb
 ·obtain⟨b,hb1,hb2⟩:=hρ i u hi
  obtain⟨c,hc1,hc2⟩:=hρ j u' hj
  have:=g.inj b c u u' r hb2 hc2 e1 e2
  subst this
  obtain⟨l1,e3⟩:=List.getElem?_eq_some_iff.1 hb1
  obtain⟨l2,e4⟩:=List.getElem?_eq_some_iff.1 hc1
  exact Yp hnd (e3.trans e4.symm)
 ·obtain⟨b,hb1,hb2⟩:=hρ i u hi
  exact g.low b u r hb2⟩
structure BM(N:Nat)(f:Nat->St)(j:Nat)(s':St):Prop where
 out:∃s'',Dg s' s''/\(∃i,i<=N/\s''=f i)/\N-lastOf N f s''<N-lastOf N f (f j)
theorem yI.ent{N:Nat}{s' s'':St}(h:yI N f j)(hj:j<N)(he:Dg s' s'')(e:s''=f (j+1)):BM N f j s':=by
 obtain⟨h1,h2⟩:=h.next hj e
 exact⟨s'',he,h1,h2⟩
theorem yI.go{N:Nat}{s':St}(h:yI N f j)(hj:j<N)(live bs:List Nat)(e:gather live bs s'=f (j+1))(ok:JL live bs s'=true:=by exact rfl):BM N f j s':=h.ent hj (.gather ok) e
theorem Cn{s s1:St}(N:Nat)(f:Nat->St)(he:Dg s s1)(h2:s1=f 0)
  (h3:∀j,j<=N->yI N f j->body (f j) fun e s'=>match e with| .normal=>BM N f j s'|e=>k e s'):aQ body s k\/Dh body s k:=by
 refine .inr ⟨s1,fun s=>∃j,j<=N/\s=f j,fun s=>N-lastOf N f s,he,⟨0,Nat.zero_le _,h2⟩,?_⟩
 intro s hs
 obtain⟨a1,a2,a3⟩:=wR hs
 generalize hj:lastOf N f s=j at*
 subst a2
 have h4:=h3 j a1 ⟨a1,a3⟩
 refine Eq.mp (congrArg (body (f j)) (funext fun e=>funext fun s'=>?_)) h4
 cases e<;>simp only[]
 exact propext ⟨fun h=>⟨h.out⟩,fun h=>⟨h.out⟩⟩
theorem cB{s:St}(live bs:List Nat)(N:Nat)(f:Nat->St)
  (h3:∀j,j<=N->yI N f j->body (f j) fun e s'=>match e with| .normal=>BM N f j s'|e=>k e s')
  (ok:JL live bs s=true:=by exact rfl)(h2:gather live bs s=f 0:=by exact rfl):aQ body s k\/Dh body s k:=Cn N f (.gather ok) h2 h3
theorem qp{s:St}(live bs:List Nat)(i:Nat)(e:TypeId)(sz:Nat)(l:List Seg)(N:Nat)(f:Nat->St)
  (h3:∀j,j<=N->yI N f j->body (f j) fun e s'=>match e with| .normal=>BM N f j s'|e=>k e s')
  (hn:s.sl i=.d (.v (.slice none 0 0)):=by exact rfl)(hl:l.all pF=true:=by exact rfl)
  (ok:JL live bs (CG s i e sz l)=true:=by exact rfl)(h2:gather live bs (CG s i e sz l)=f 0:=by exact rfl):aQ body s k\/Dh body s k:=Cn N f ((Dg.nil hn hl).trans (.gather ok)) h2 h3
end
section
theorem ah{p q:Prop}(left:q)(h:(Left q->p)/\Isq q:=by
  refine And.intro ?_ ?_
  ·intro AP
   (conv=>whnf);repeat ((first|(refine And.intro ?_ ?_;focus (first|exact rfl|exact Nat.le_of_ble_eq_true rfl|exact Or.inr rfl|exact Or.inl rfl|(intro hx;cases hx<;>fail)|(intro _;rfl)|exact⟨_,rfl,rfl⟩|omega|(simp only[Seg.n,dM,H9,yU,mF,kD,pG,iX,bU];omega)|(refine bB7 ?_;(try simp only[Seg.n,dM,H9,yU,mF,kD,pG,iX,bU]);omega)|assumption|decide|(simp[Seg.n,dM,H9,yU,mF,kD,pG,iX,bU, *]<;>omega)))|(refine⟨_,And.intro rfl ?_⟩)|(refine vE.mk ?_;first|(refine Fj ?_ ?_;focus (first|rfl|assumption|(simp only[bne,Bool.true_beq,Bool.false_beq,beq_true,beq_false,Bool.not_true,Bool.not_false,Bool.true_and,Bool.and_true,Bool.false_and,Bool.and_false,Bool.true_or,Bool.or_true,Bool.false_or,Bool.or_false,beq_iff_eq,beq_eq_false_iff_ne,ne_eq,Bool.not_eq_true',Bool.not_eq_false',decide_eq_true_eq,decide_eq_false_iff_not,ge_iff_le,gt_iff_lt, *]<;>omega)|(simp[bM, *]<;>omega)))|(refine zk ?_ ?_;focus (first|rfl|assumption|(simp only[bne,Bool.true_beq,Bool.false_beq,beq_true,beq_false,Bool.not_true,Bool.not_false,Bool.true_and,Bool.and_true,Bool.false_and,Bool.and_false,Bool.true_or,Bool.or_true,Bool.false_or,Bool.or_false,beq_iff_eq,beq_eq_false_iff_ne,ne_eq,Bool.not_eq_true',Bool.not_eq_false',decide_eq_true_eq,decide_eq_false_iff_not,ge_iff_le,gt_iff_lt, *]<;>omega)|(simp[bM, *]<;>omega))))|((first|refine toA ?_|refine toE ?_|refine toD ?_);(try(conv=>arg 2;simp(disch:=omega) only[gH,Int.toNat_natCast,dz_0,RU,Seg.n,wn1,wn2,wn3,wn4,wn5,wn6,wn7,wn8,wn9,UG,UH,UJ,UK,UL,UM,UN,Int.reduceAdd,Int.zero_add,Seg.cell,Seg.sub,List.set_nil,jS,rZ,List.take_append_drop,St.app,St.qW,St.ev,List.getD_cons_zero,List.getD_cons_succ,List.getD_nil,St.sl,St.bk,mF,kD,pG,iX,bU,weaken,qF,List.set_cons_zero,List.set_cons_succ,List.length_cons,List.length_nil,List.cons_append,List.nil_append,List.append_nil,List.map_cons,List.map_nil,List.replicate_succ,List.replicate_zero,List.take_succ_cons,List.take_zero,List.drop_succ_cons,List.drop_zero,List.take_nil,List.drop_nil,Nat.reduceAdd,Nat.reduceSub,Nat.reduceMul,Nat.reduceEqDiff,Nat.reduceLT,Nat.reduceLeDiff,Nat.zero_add,Nat.add_zero,Nat.sub_self,Nat.sub_zero,Nat.one_mul,Nat.mul_one,Nat.zero_mul,kT,qH,List.flatten_cons,List.flatten_nil,eq_self,ite_true,if_true,if_false,↓reduceIte,reduceCtorEq,Int.reduceToNat,gZ,wW]));first|(refine ofA ?_;(conv=>arg 3;whnf);first|refine CX ?_|refine GK ?_)|(refine ofD ?_;(conv=>arg 5;whnf);first|refine CY ?_|refine GR ?_)|(refine ofE ?_;(conv=>arg 2;whnf);(refine xC _ rfl ?_ ?_);focus (kernel_rfl))));(conv=>whnf))
   all_goals exact AP.out
  ·first|with_reducible exact bB5|exact bB4):p:=h.1 ⟨left⟩
theorem cp3{E:ak}{f:FuncId}{fn:Func}{c:Code}{pos:Nat}{x x':Bk}{args:List A}{res:bC}{n:Nat}{t:List T}(hf:E.P.funcs[f]?=some fn)(hnt:fn.ntmps=n)
  (left:IG E c ⟨t,[some x]⟩ fun e s=>(e=.normal\/e=.ret)/\s.bk 0=some x'/\yS E s fn.results.toList fun r=>r=res)(hb:fn.body=some c:=by exact rfl)(hn:args.length+1<=n:=by exact Nat.le_of_ble_eq_true rfl)(hp:pos<=args.length:=by exact Nat.le_of_ble_eq_true rfl)
  (hx:∀e sz n l,x≠ .sl e sz n l:=by intro _ _ _ _ h;cases h)(hres:∀y,res≠ .p y:=by intro y h;cases h)
  (ht:(args.map T.d).insertIdx pos (.ptr 0 0)++List.replicate (n- (args.length+1)) (.d (.v undef))=t:=by exact nm):QK E.P E.G f pos x args res x':=by
 subst hnt;subst ht;exact FD hf hb hn hp hx left hres
end
noncomputable section
open Pm
theorem Au{f:FuncId}{args:List A}{bs:List UInt8}(h:∀(S:Nat->Prop) (w:World) (vs:List Value),mH S w args vs->Calls Tryz.prog f vs.toArray w fun e w'=>∃v,e=.returned v/\iA w' w.heap.size 5 v bs/\Below w.heap.size w w'):
  aV f args (.o 5 1 bs.length [.bytes bs.length bs]):=fun S w vs _ ha=>by
 refine(h S w vs ha).mono ?_
 rintro e w' ⟨v,rfl,ho,hb⟩
 exact⟨v,rfl,⟨_,ho,.ofBytes rfl rfl⟩,hb⟩
def av2:List A->(bC->Prop)->Prop
 |[.v (.int .i64 n)],K=>K (.o 5 1 8 [.bytes 8 (aC n)])
 |_,_=>False
theorem L9{f:FuncId}(h:∀n,aV f [.v (.int .i64 n)] (.o 5 1 8 [.bytes 8 (aC n)])):∀args K,av2 args K->∃r,aV f args r/\K r:=by
 intro args K hd
 unfold av2 at hd
 split at hd
 ·exact⟨_,h _,hd⟩
 ·exact hd.elim
theorem Tc(n:Int):aV 41 [.v (.int .i64 n)] (.o 5 1 8 [.bytes 8 (aC n)]):=by
 have h:=Au (f:=41) (args:=[.v (.int .i64 n)]) (bs:=aC n) fun S w vs ha=>by
  obtain⟨v,rfl,h1⟩:=iC ha
  rw[RA.plain h1]
  refine(aU8 n w).mono ?_
  rintro e w' ⟨Q,rfl,hQ,hX,hB⟩
  exact⟨_,rfl,iA.Gm hX hQ (fE n).symm (by rw[fE];simp[maxLen]),hB⟩
 rw[fE]at h
 exact h
theorem aY5(n:Int):aV 23 [.v (.int .i64 n)] (.o 5 1 8 [.bytes 8 (aC n)]):=by
 have h:=Au (f:=23) (args:=[.v (.int .i64 n)]) (bs:=aC n) fun S w vs ha=>by
  obtain⟨v,rfl,h1⟩:=iC ha
  rw[RA.plain h1]
  exact aB3 n w
 rw[fE]at h
 exact h
def FV:List A->(bC->Prop)->Prop
 |[x],K=>Bl x fun L=>L.flatten.length<=100000000/\K (.o 5 1 L.flatten.length [.bytes L.flatten.length L.flatten])
 |_,_=>False
def aF(zs:List Int):List UInt8:=zs.flatMap aC
theorem jL:aF []=[]:=rfl
theorem mW(a b:List Int):aF (a++b)=aF a++aF b:=by unfold aF;rw[List.flatMap_append]
theorem Cw(a:Int):aF [a]=aC a:=by unfold aF;simp
theorem kr(a:Int)(l:List Int):aF (a::l)=aC a++aF l:=by unfold aF;simp
theorem iK:∀(l:List Int),(aF l).length=l.length*8
 |[]=>rfl
 |a::l=>by rw[kr,List.length_append,fE,iK l,List.length_cons];omega
theorem uP(zs:List Int)(h:j<zs.length):aF (zs.take (j+1))=aF (zs.take j)++aC (zs.getD j 0):=by
 rw[List.take_add_one,mW,List.getElem?_eq_getElem h,List.getD_eq_getElem?_getD,List.getElem?_eq_getElem h]
 exact congrArg _ (Cw _)
def bR7:ak:=sV.add 41 av2 (L9 Tc) (.of Tryz.func41)
def bR8:ak:=bR7.add 23 av2 (L9 aY5) (.of Tryz.func23)
def bR9:ak:=bR8
def ah4:ak:=bR9.add 37 Ah zm (.of Tryz.func37)
def ah5:ak:=ah4.add 22 xA xB (.of Tryz.func22)
end
noncomputable section
open Pm
attribute [local irreducible] aN aQ bq aC aD aF
def av4:List A->(bC->Prop)->Prop
 |[.row n [.ints .i64 m zs]],K=>n=zs.length/\m=zs.length/\zs.length<=1000000/\K (.o 5 1 (zs.length*8) [.bytes (zs.length*8) (aF zs)])
 |_,_=>False
def bh5:ak:=ah5
theorem Ka(zs:List Int)(h:j+1<zs.length):aF (zs.take (j+2))=aF (zs.take j)++(aC (zs.getD j 0)++aC (zs.getD (j+1) 0)):=by
 rw[show j+2=(j+1)+1 from rfl,uP zs (j:=j+1) h,uP zs (j:=j) (by omega),List.append_assoc]
theorem EH(L:List Int)(i k:Nat)(hk:k<2):((L.drop i).take 2).getD k 0=L.getD (i+k) 0:=by
 rw[List.getD_eq_getElem?_getD,List.getElem?_take,if_pos hk,List.getElem?_drop,<-List.getD_eq_getElem?_getD]
def Ic(zs:List Int):List UInt8:=aD (List.replicate 32 0) (sb ⟨#[116,114,101,101]⟩) (aF zs)
set_option maxHeartbeats 4000000 in
theorem Qo(zs:List Int):aV 122 [.agg [.ints .i64 31 zs]] (.d (.agg [.bytes 32 (Ic zs)])):=by
 refine iY fun hl=>?_
 replace hl:zs.length=31:=hl.1.1
 refine eO (E:=bh5) Tryz.func122 Tryz.ntmps122 ?_
 refine ah ?_
 have hL:(zs.take 16).length=16:=by simp[hl]
 refine aX.mk (qp [1,2,3,9,10] [0,1,2] 3 5 1 [.bytes 0 []] 8 (fun j=>⟨.au::.ptr 0 0::.ptr 1 0::.own 2 (j*16)::.au::.au::.au::.au::.au::.d (.agg [.ints .i64 16 (zs.take 16)])::.d (.v (.int .i64 (j:Nat)))::dz 27 [],[some (.var [.ints .i64 31 zs]),some (.var [.bytes 32 (List.replicate 32 0)]),some (.sl 5 1 (j*16) [.bytes (j*16) (aF ((zs.take 16).take (j*2)))])]⟩) ?_ (h2:=by rw[Nat.zero_mul,List.take_zero,jL];exact rfl))
 intro j hj hl8
 by_cases hj8:j<8
 ·refine ah ?_;(try exact⟨⟩)
  refine hl8.go hj8 [1,2,3,9,10] [0,1,2] ?_
  rw[show(j+1)*2=j*2+2 by omega,Ka _ (by omega),show(j+1)*16=j*16+8+8 by omega,<-EH _ (j*2) 1 (by omega),show ∀(L:List Int),L.getD (j*2) 0=L.getD (j*2+0) 0 from fun _=>rfl,<-EH _ (j*2) 0 (by omega),<-List.append_assoc]
  rfl
 ·obtain rfl:j=8:=by omega
  have e:(zs.take 16).take 16=zs.take 16:=List.take_of_length_le (by omega)
  refine ah ?_
  rw[e]
  refine aX.mk (cB [1,2,3,25,26] [0,1,2] 15 (fun j=>⟨.au::.ptr 0 0::.ptr 1 0::.own 2 (128+j*8)::dz 21 (.d (.agg [.ints .i64 15 ((zs.drop 16).take 15)])::.d (.v (.int .i64 (j:Nat)))::dz 11 []),[some (.var [.ints .i64 31 zs]),some (.var [.bytes 32 (List.replicate 32 0)]),some (.sl 5 1 (128+j*8) [.bytes (128+j*8) (aF (zs.take 16)++aF (((zs.drop 16).take 15).take j))])]⟩) ?_ (h2:=by rw[List.take_zero,jL,List.append_nil];exact rfl))
  clear hl8
  intro j hj cs6
  by_cases cs4:j<15
  ·refine ah ?_;(try exact⟨⟩)
   refine cs6.go cs4 [1,2,3,25,26] [0,1,2] ?_
   rw[uP _ (show j<((zs.drop 16).take 15).length by simp[hl];omega),show 128+(j+1)*8=128+j*8+8 by omega,<-List.append_assoc]
   rfl
  ·obtain rfl:j=15:=by omega
   have e2:aF (zs.take 16)++aF (((zs.drop 16).take 15).take 15)=aF zs:=by
    rw[<-mW,List.take_of_length_le (show((zs.drop 16).take 15).length<=15 by simp;omega),List.take_of_length_le (show(zs.drop 16).length<=15 by simp[hl]),List.take_append_drop]
   rw[e2]
   refine ah ?_;(try exact⟨⟩)
   rfl
def bS0:ak:=bh5
def Us:List A->(bC->Prop)->Prop
 |[.agg [.ints .i64 31 zs]],K=>K (.d (.agg [.bytes 32 (Ic zs)]))
 |_,_=>False
theorem Zq{f:FuncId}(hx:∀zs,aV f [.agg [.ints .i64 31 zs]] (.d (.agg [.bytes 32 (Ic zs)]))):∀args K,Us args K->∃r,aV f args r/\K r:=by
 intro args K h
 unfold Us at h
 split at h
 ·exact⟨_,hx _,h⟩
 ·exact h.elim
def bS1:ak:=bS0.add 122 Us (Zq Qo) (.of Tryz.func122)
def ah6:ak:=bS1
end
end Go.Proofs.YtegalalmamofdaaGreatDoor
