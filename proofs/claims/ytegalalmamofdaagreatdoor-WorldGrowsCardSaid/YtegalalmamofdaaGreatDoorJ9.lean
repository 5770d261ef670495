/- -/
import Derived.Test.YtegalalmamofdaaGreatDoorJ8
namespace Go.Proofs.YtegalalmamofdaaGreatDoor
set_option linter.all false
set_option maxRecDepth 100000
open Go.RowKit
variable{s:St}{ρ:Nat->Option Value}{w:World}{G:Nat->Option (List Seg)}{S:Nat->Prop}{fn:Func}{args:List A}
section
structure y5 where
 s:St
 fr:Nat
 t:T
 blk:Option (Nat×Bk)
def wW(s:St)(o:Oper):List Nat:=o.op.operands.toList.flatMap fun x=>seen o (s.ev x)
def jS(o:Oper):Bool:=
 match o.op with
 | .alloc _| .box _ _| .buildSlice _ _ _| .makeSlice _ _ _| .convert _ _ _| .call _| .makeMap _ _=>true
 |_=>false
abbrev uh:=List Nat×Option Nat×Nat
def Ea(E:ak)(ops:List Oper)(n0 tot:Nat):List Oper->Nat->St->List uh->(List uh->St->Prop)->Prop
 |[],c,s,acc,k=>k acc s
 |o::r,c,s,acc,k=>
  KG E ops o s (if jS o=true then n0+c else n0+tot) fun t blk=>
   U3 (Ea E ops n0 tot r (if jS o=true then c+1 else c) (s.app o.dst t blk) (acc++[(wW s o,blk.map (·.1),if jS o=true then n0+c else n0+tot)]) k)
section
variable {E : ak} {S : Nat -> Prop} {base : Nat} {w0 : W0 E.G}
def Ec(E:ak)(ops:List Oper):List Oper->List y5->St->Prop
 |[],[],s=>True
 |o::r,x::xs,s=>x.s=s/\wm E ops o s x.fr x.t x.blk/\Ec E ops r xs (s.app o.dst x.t x.blk)
 |_,_,_=>False
def foot:List Oper->List y5->List uh
 |o::r,x::xs=>(wW x.s o,x.blk.map (·.1),x.fr)::foot r xs
 |_,_=>[]
def aC3:St->List Oper->List y5->St
 |s,o::r,x::xs=>aC3 (s.app o.dst x.t x.blk) r xs
 |s,_,_=>s
theorem GN{ops:List Oper}{n0 tot:Nat}:∀{r:List Oper} {c:Nat} {s:St} {acc:List uh} {k:List uh->St->Prop},Ea E ops n0 tot r c s acc k->
  ∃recs,recs.length=r.length/\k (acc++foot r recs) (aC3 s r recs)/\Ec E ops r recs s
 |[],c,s,acc,k,h=>⟨[],rfl,by unfold Ea at h;simpa[foot,aC3]using h,trivial⟩
 |o::r,c,s,acc,k,h=>by
  obtain⟨t,blk,hk,hs⟩:=rX h
  obtain⟨recs,h1,h2,h3⟩:=GN hk.out
  exact⟨⟨s,_,t,blk⟩::recs,by simp[h1],by rw[List.append_assoc,List.singleton_append]at h2;exact h2,rfl,hs,h3⟩
def fA(s0:St)(l:List Oper)(recs:List y5)(p:Nat->Bool):Nat->St
 |0=>s0
 |i+1=>match l[i]?,recs[i]? with
  |some o,some x=>if p i=true then(fA s0 l recs p i).app o.dst x.t x.blk else fA s0 l recs p i
  |_,_=>fA s0 l recs p i
theorem zL(s0:St)(o:Oper)(l:List Oper)(x:y5)(recs:List y5):∀i,fA s0 (o::l) (x::recs) (fun _=>true) (i+1)=fA (s0.app o.dst x.t x.blk) l recs (fun _=>true) i
 |0=>by simp[fA]
 |i+1=>by
  have ih:=zL s0 o l x recs i
  rw[fA,ih,fA]
  simp only[List.getElem?_cons_succ]
theorem NJ{ops:List Oper}:∀{l:List Oper} {recs:List y5} {s0:St},Ec E ops l recs s0->∀{i:Nat} {o:Oper} {x:y5},l[i]?=some o->recs[i]?=some x->
  x.s=fA s0 l recs (fun _=>true) i/\wm E ops o x.s x.fr x.t x.blk
 |[],[],s0,h,i,o,x,ho,hx=>by simp at ho
 |o'::l,x'::recs,s0,h,0,o,x,ho,hx=>by
  simp at ho hx;subst ho;subst hx
  obtain⟨h1,h2,h3⟩:=h
  exact⟨h1,by rw[h1];exact h2⟩
 |o'::l,x'::recs,s0,h,i+1,o,x,ho,hx=>by
  obtain⟨h1,h2,h3⟩:=h
  rw[zL]
  exact NJ h3 (by simpa using ho) (by simpa using hx)
 |[],_::_,s0,h,_,_,_,_,_=>h.elim
 |_::_,[],s0,h,_,_,_,_,_=>h.elim
theorem Ku:∀{l:List Oper} {recs:List y5} {s0:St},recs.length=l.length->aC3 s0 l recs=fA s0 l recs (fun _=>true) l.length
 |[],recs,s0,h=>by cases recs<;>rfl
 |o::l,[],s0,h=>by simp at h
 |o::l,x::recs,s0,h=>by
  rw[aC3,Ku (by simpa using h),List.length_cons,zL]
theorem xR:∀{l:List Oper} {recs:List y5} {i:Nat} {o:Oper} {x:y5},l[i]?=some o->recs[i]?=some x->(foot l recs)[i]?=some (wW x.s o,x.blk.map (·.1),x.fr)
 |o'::l,x'::recs,0,o,x,ho,hx=>by simp at ho hx;subst ho;subst hx;rfl
 |o'::l,x'::recs,i+1,o,x,ho,hx=>by simpa[foot]using xR (l:=l) (recs:=recs) (i:=i) (by simpa using ho) (by simpa using hx)
 |[],_,_,_,_,ho,_=>by simp at ho
 |_::_,[],_,_,_,_,hx=>by simp at hx
section
variable {s0 : St} {l : List Oper} {recs : List y5} {p q : Nat -> Bool}
theorem gu:∀i,(fA s0 l recs p i).t.length=s0.t.length/\(fA s0 l recs p i).h.length=s0.h.length
 |0=>⟨rfl,rfl⟩
 |i+1=>by
  have ih:=gu i
  rw[fA]
  split
  ·split
   ·exact⟨(sO _ _ _ _).1.trans ih.1,(sO _ _ _ _).2.trans ih.2⟩
   ·exact ih
  ·exact ih
theorem rR(t:Nat)(m:Nat):∀n,m<=n->(∀j o,m<=j->j<n->l[j]?=some o->p j=true->o.dst≠some t)->(fA s0 l recs p n).sl t=(fA s0 l recs p m).sl t
 |0,h,_=>by rw[Nat.le_zero.1 h]
 |n+1,h,hj=>by
  by_cases hm:m=n+1
  ·rw[hm]
  have ih:=rR t m n (by omega) (fun j o h1 h2=>hj j o h1 (by omega))
  rw[fA]
  split
  ·next o x ho hx=>
   split
   ·next hp=>rw[ze,if_neg (fun e=>hj n o (by omega) (by omega) ho hp e.1)];exact ih
   ·exact ih
  ·exact ih
theorem rT(t:Nat):∀n,(∀j o,j<n->l[j]?=some o->o.dst=some t->p j=q j)->(fA s0 l recs p n).sl t=(fA s0 l recs q n).sl t
 |0,_=>rfl
 |n+1,hj=>by
  have ih:=rT t n (fun j o h1=>hj j o (by omega))
  rw[fA,fA]
  split
  ·next o x ho hx=>
   by_cases hd:o.dst=some t
   ·rw[hj n o (by omega) ho hd]
    split
    ·rw[ze,ze,(gu n).1,(gu n).1,ih]
    ·exact ih
   ·have e:∀s:St,(s.app o.dst x.t x.blk).sl t=s.sl t:=fun s=>by rw[ze,if_neg (fun e=>hd e.1)]
    split<;>split<;>simp only[e,ih]
  ·exact ih
theorem oQ(b:Nat)(m:Nat):∀n,m<=n->(∀j x,m<=j->j<n->recs[j]?=some x->p j=true->x.blk.map (·.1)≠some b)->(fA s0 l recs p n).bk b=(fA s0 l recs p m).bk b
 |0,h,_=>by rw[Nat.le_zero.1 h]
 |n+1,h,hj=>by
  by_cases hm:m=n+1
  ·rw[hm]
  have ih:=oQ b m n (by omega) (fun j o h1 h2=>hj j o h1 (by omega))
  rw[fA]
  split
  ·next o x ho hx=>
   split
   ·next hp=>
    have h1:=hj n x (by omega) (by omega) hx hp
    rw[y9]
    cases hb:x.blk with
    |none=>exact ih
    |some y=>
     obtain⟨b0,z⟩:=y
     rw[hb]at h1
     simp only[Option.map_some,ne_eq,Option.some.injEq]at h1
     simp only
     rw[if_neg (fun e=>h1 e.1)];exact ih
   ·exact ih
  ·exact ih
theorem rQ(b:Nat):∀n,(∀j x,j<n->recs[j]?=some x->x.blk.map (·.1)=some b->p j=q j)->(fA s0 l recs p n).bk b=(fA s0 l recs q n).bk b
 |0,_=>rfl
 |n+1,hj=>by
  have ih:=rQ b n (fun j o h1=>hj j o (by omega))
  rw[fA,fA]
  split
  ·next o x ho hx=>
   by_cases hd:x.blk.map (·.1)=some b
   ·rw[hj n x (by omega) hx hd]
    split
    ·rw[y9,y9,(gu n).2,(gu n).2,ih]
    ·exact ih
   ·have e:∀s:St,(s.app o.dst x.t x.blk).bk b=s.bk b:=fun s=>by
     rw[y9]
     cases hb:x.blk with
     |none=>rfl
     |some y=>
      obtain⟨b0,z⟩:=y
      rw[hb]at hd
      simp only[Option.map_some,Option.some.injEq]at hd
      simp only
      rw[if_neg (fun e=>hd e.1)]
    split<;>split<;>simp only[e,ih]
  ·exact ih
theorem PY(h:∀j,j<l.length->p j=true):∀n,n<=l.length->fA s0 l recs p n=fA s0 l recs (fun _=>true) n
 |0,_=>rfl
 |n+1,hn=>by
  have ih:=PY h n (by omega)
  rw[fA,fA,ih,h n (by omega)]
theorem Y8{i:Nat}{o:Oper}{x:y5}(ho:l[i]?=some o)(hx:recs[i]?=some x)(hq:∀j,q j=(if j=i then true else p j))(hi:p i=false)
  (hd:∀j o',j≠i->l[j]?=some o'->∀t,o'.dst=some t->o.dst≠some t)(hb:∀j y,i<j->recs[j]?=some y->p j=true->∀b,y.blk.map (·.1)=some b->x.blk.map (·.1)≠some b)(n:Nat)(hn:i<n):
  U2 ((fA s0 l recs p n).app o.dst x.t x.blk) (fA s0 l recs q n):=by
 refine⟨by rw[(sO _ _ _ _).1,(gu n).1,(gu n).1],by rw[(sO _ _ _ _).2,(gu n).2,(gu n).2];exact Nat.le_refl _,fun t=>?_,fun b=>?_⟩
 ·rw[ze,(gu n).1]
  have below:(fA s0 l recs q i).sl t=(fA s0 l recs p i).sl t:=rT t i (fun j o' hj _ _=>by rw[hq,if_neg (by omega)])
  have succ:(fA s0 l recs q (i+1)).sl t=if o.dst=some t/\t<s0.t.length then x.t else(fA s0 l recs p i).sl t:=by
   rw[fA,ho,hx]
   simp only
   rw[hq,if_pos rfl,if_pos rfl,ze,(gu i).1,below]
  by_cases hdt:o.dst=some t
  ·have no:∀j o',i+1<=j->j<n->l[j]?=some o'->o'.dst≠some t:=fun j o' h1 h2 h3 h4=>hd j o' (by omega) h3 t h4 hdt
   rw[rR t (i+1) n (by omega) (fun j o' h1 h2 h3 _=>no j o' h1 h2 h3),succ]
   have:(fA s0 l recs p n).sl t=(fA s0 l recs p i).sl t:=rR t i n (by omega) (fun j o' h1 h2 h3 h4=>by
    by_cases hji:j=i
    ·subst hji;rw[hi]at h4;cases h4
    ·exact no j o' (by omega) h2 h3)
   rw[this]
  ·rw[if_neg (fun e=>hdt e.1)]
   exact rT t n (fun j o' h1 h2 h3=>by
    rw[hq]
    by_cases hji:j=i
    ·subst hji;rw[ho]at h2;cases h2;exact absurd h3 hdt
    ·rw[if_neg hji])
 ·rw[y9,(gu n).2]
  have below:(fA s0 l recs q i).bk b=(fA s0 l recs p i).bk b:=rQ b i (fun j o' hj _ _=>by rw[hq,if_neg (by omega)])
  by_cases hbt:x.blk.map (·.1)=some b
  ·have no:∀j y,i+1<=j->j<n->recs[j]?=some y->p j=true->y.blk.map (·.1)≠some b:=fun j y h1 h2 h3 h4 h5=>hb j y (by omega) h3 h4 b h5 hbt
   rw[oQ b (i+1) n (by omega) (fun j y h1 h2 h3 h4=>no j y h1 h2 h3 (by rw[hq,if_neg (by omega)]at h4;exact h4))]
   rw[fA,ho,hx]
   simp only
   rw[hq,if_pos rfl,if_pos rfl,y9,(gu i).2,below]
   have:(fA s0 l recs p n).bk b=(fA s0 l recs p i).bk b:=oQ b i n (by omega) (fun j y h1 h2 h3 h4=>by
    by_cases hji:j=i
    ·subst hji;rw[hi]at h4;cases h4
    ·exact no j y (by omega) h2 h3 h4)
   rw[this]
  ·have e1:(fA s0 l recs q n).bk b=(fA s0 l recs p n).bk b:=rQ b n (fun j y h1 h2 h3=>by
    rw[hq]
    by_cases hji:j=i
    ·subst hji;rw[hx]at h2;cases h2;exact absurd h3 hbt
    ·rw[if_neg hji])
   rw[e1]
   cases hb2:x.blk with
   |none=>rfl
   |some y=>
    obtain⟨b0,z⟩:=y
    rw[hb2]at hbt
    simp only[Option.map_some,Option.some.injEq]at hbt
    simp only
    rw[if_neg (fun e=>hbt e.1)]
end
def wrF(dummy:Nat)(f:uh):List Nat:=f.2.1.toList++(if f.2.2=dummy then[]else[f.2.2])
def aM2 (D : List (List Nat)) (n0 dummy : Nat) (acc : List uh) : Bool :=
  (acc.all fun (f : uh) => f.2.1 != some dummy && decide (n0 <= f.2.2) && decide (f.2.2 <= dummy)) &&
  (List.range acc.length).all fun i => (List.range acc.length).all fun j => i == j ||
    (match acc[i]?, acc[j]? with
     | some f, some g => (((wrF dummy f).all fun b => !(g.1 ++ wrF dummy g).contains b) || (D.getD j []).contains i || (D.getD i []).contains j) && (decide (i < j) || f.2.2 == dummy || g.2.1 != some f.2.2)
     | _, _ => false)
structure bK7(D:List (List Nat))(n0 dummy:Nat)(acc:List uh):Prop where
 one:∀(i:Nat) (f:uh),acc[i]?=some f->f.2.1≠some dummy/\n0<=f.2.2/\f.2.2<=dummy
 two:∀(i j:Nat) (f g:uh),i≠j->acc[i]?=some f->acc[j]?=some g->((∀b∈wrF dummy f,b∉g.1++wrF dummy g)\/i∈D.getD j []\/j∈D.getD i [])/\(i<j\/f.2.2=dummy\/g.2.1≠some f.2.2)
theorem Xy{D:List (List Nat)}{n0 dummy:Nat}{acc:List uh}(h:aM2 D n0 dummy acc=true):bK7 D n0 dummy acc:=by
 unfold aM2 at h
 simp only[Bool.and_eq_true,List.all_eq_true,List.mem_range,Bool.or_eq_true,beq_iff_eq,bne_iff_ne,decide_eq_true_eq]at h
 obtain⟨h1,h2⟩:=h
 refine⟨fun i f hf=>?_,fun i j f g hij hf hg=>?_⟩
 ·have:=h1 f (List.mem_of_getElem? hf)
  exact⟨this.1.1,this.1.2,this.2⟩
 ·have h3:=h2 i (List.getElem?_eq_some_iff.1 hf).1 j (List.getElem?_eq_some_iff.1 hg).1
  rcases h3 with h3|h3
  ·exact absurd h3 hij
  ·rw[hf,hg]at h3
   simp only[Bool.and_eq_true,List.all_eq_true,Bool.or_eq_true,beq_iff_eq,bne_iff_ne,decide_eq_true_eq,Bool.not_eq_true',List.contains_iff_mem]at h3
   obtain⟨h4,h5⟩:=h3
   refine⟨?_,?_⟩
   ·rcases h4 with(h4|h4)|h4
    ·exact .inl fun b hb hm=>by
      have:=h4 b hb
      rw[<-Bool.not_eq_true,List.contains_iff_mem]at this
      exact this hm
    ·exact .inr (.inl h4)
    ·exact .inr (.inr h4)
   ·rcases h5 with(h5|h5)|h5
    ·exact .inl h5
    ·exact .inr (.inl h5)
    ·exact .inr (.inr h5)
theorem drawn{l:List Oper}{D:List (List Nat)}{recs:List y5}{s0:St}{n0 dummy:Nat}{Q:Exit->Act->World->Prop}(hrl:recs.length=l.length)(hch:Ec E l l recs s0)(hall:∀(i:Nat) (o:Oper),l[i]?=some o->Fits l D i o)
  (hck:bK7 D n0 dummy (foot l recs))(hdl:dummy<s0.h.length)(hno:∀b,n0<=b->s0.bk b=none)
  (hQ:∀ρ a w,Good S base w0 (fA s0 l recs (fun _=>true) l.length) ρ a w->Q .normal a w):
  ∀(fuel:Nat) (listed:Array Bool) (ρ:Nat->Option Value) (a:Act) (w:World),listed.size=l.length->(∀i,listed.getD i false=true->∀j∈D.getD i [],listed.getD j false=true)->
   Good S base w0 (fA s0 l recs (fun i=>listed.getD i false) l.length) ρ a w->((List.range l.length).filter fun i=>!listed.getD i false).length<=fuel->wpAny E.P .any l.toArray Q fuel listed a w:=by
 have full:∀(listed:Array Bool) (ρ:Nat->Option Value) (a:Act) (w:World),Good S base w0 (fA s0 l recs (fun i=>listed.getD i false) l.length) ρ a w->(∀i,i<l.length->listed.getD i false=true)->Q .normal a w:=by
  intro listed ρ a w g hl
  refine hQ ρ a w ?_
  rw[PY hl l.length (Nat.le_refl _)]at g;exact g
 have least:∀(listed:Array Bool),Region.ready .any l.toArray listed=[]->listed.size=l.length->∀i,i<l.length->listed.getD i false=true:=by
  intro listed hr hsz i
  induction i using Nat.strongRecOn with
  |ind i ih=>
   intro hi
   rcases hb:listed.getD i false with _|_
   ·exfalso
    have hrd:i∈Region.ready .any l.toArray listed:=by
     rw[mem_ready]
     refine⟨?_,l[i],by simp[hi],fun e he hbe=>?_⟩
     ·have:i<listed.size:=by omega
      simp[this]at hb ⊢;exact hb
     ·have h1:=(hall i l[i] (List.getElem?_eq_getElem hi)).aft e he hbe
      exact ih e.on h1 (by omega)
    rw[hr]at hrd;cases hrd
   ·rfl
 intro fuel
 induction fuel with
 |zero=>
  intro listed ρ a w hsz hcl g hf
  have hl:∀i,i<l.length->listed.getD i false=true:=by
   intro i hi
   rcases hb:listed.getD i false with _|_
   ·have:i∈(List.range l.length).filter fun i=>!listed.getD i false:=List.mem_filter.2 ⟨List.mem_range.2 hi,by rw[hb];rfl⟩
    rw[List.length_eq_zero_iff.1 (Nat.le_zero.1 hf)]at this;cases this
   ·rfl
  refine⟨?_,full listed ρ a w g hl⟩
  apply List.eq_nil_iff_forall_not_mem.2
  intro i hi
  obtain⟨h0,o,ho,_⟩:=mem_ready.1 hi
  have hil:i<l.length:=by have:=(Array.getElem?_eq_some_iff.1 ho).1;simpa using this
  have h1:=hl i hil
  have:i<listed.size:=by omega
  simp[this]at h0 h1
  rw[h0]at h1;cases h1
 |succ fuel ih=>
  intro listed ρ a w hsz hcl g hf
  refine⟨fun hr=>full listed ρ a w g (least listed hr hsz),fun i hi=>?_⟩
  obtain⟨h0,o,ho,haft⟩:=mem_ready.1 hi
  have hol:l[i]?=some o:=by simpa using ho
  have hil:i<l.length:=(List.getElem?_eq_some_iff.1 hol).1
  have hif:listed.getD i false=false:=by
   have:i<listed.size:=by omega
   simp[this]at h0 ⊢;exact h0
  have F:=hall i o hol
  have hD:∀j∈D.getD i [],listed.getD j false=true:=by
   intro j hj
   rcases F.dep j hj with⟨e,he,hb,rfl⟩|⟨e,he,hb,h⟩
   ·exact haft e he hb
   ·exact hcl e.on (haft e he hb) j h
  obtain⟨x,hx⟩:∃x,recs[i]?=some x:=⟨_,List.getElem?_eq_getElem (by omega)⟩
  obtain⟨hxs,hst⟩:=NJ hch hol hx
  have hfi:=xR hol hx
  -- who is done is no one that waits for i
  have L6:∀j,listed.getD j false=true->i∉D.getD j []:=fun j hj hm=>by
   have:=hcl j hj i hm;rw[hif]at this;cases this
  have lt:∀j,j∈D.getD i []->j<i:=F.lt
  have recAt:∀j,j<l.length->∃o' y,l[j]?=some o'/\recs[j]?=some y:=fun j hj=>⟨_,_,List.getElem?_eq_getElem hj,List.getElem?_eq_getElem (by omega)⟩
  have Wt:∀j (y:y5),recs[j]?=some y->∃o',l[j]?=some o':=fun j y hy=>⟨_,List.getElem?_eq_getElem (by have:=(List.getElem?_eq_some_iff.1 hy).1;omega)⟩
  have gtD:∀j o',l[j]?=some o'->i∈D.getD j []->i<j:=fun j o' hj=>(hall j o' hj).lt i
  have slots:∀t,t∈o.looksAt l.toArray->(fA s0 l recs (fun k=>listed.getD k false) l.length).sl t=x.s.sl t:=by
   intro t ht
   rw[hxs]
   refine(rR t i l.length (by omega) (fun j o' h1 h2 h3 h4 h5=>?_)).trans (rT t i (fun j o' h1 h2 h3=>?_))
   ·by_cases hji:j=i
    ·subst hji;simp only[hif]at h4;cases h4
    ·rcases F.clean j t hji (by unfold kS;rw[h3];exact h5) ht with h|h
     ·have:=lt j h;omega
     ·exact L6 j h4 h
   ·rcases F.clean j t (by omega) (by unfold kS;rw[h2];exact h3) ht with h|h
    ·exact hD j h
    ·have:=gtD j o' h2 h;omega
  have blocks:∀b,b∈wW x.s o->(fA s0 l recs (fun k=>listed.getD k false) l.length).bk b=x.s.bk b:=by
   intro b hb
   rw[hxs]
   have key:∀j y,j≠i->recs[j]?=some y->y.blk.map (·.1)=some b->j∈D.getD i []\/i∈D.getD j []:=by
    intro j y hji hy hyb
    obtain⟨o',ho'⟩:=Wt j y hy
    have:=(hck.two j i _ _ hji (xR ho' hy) hfi).1
    rcases this with h|h|h
    ·exact absurd (List.mem_append_left _ hb) (h b (List.mem_append_left _ (by simp[hyb])))
    ·exact .inl h
    ·exact .inr h
   refine(oQ b i l.length (by omega) (fun j y h1 h2 h3 h4 h5=>?_)).trans (rQ b i (fun j y h1 h2 h3=>?_))
   ·by_cases hji:j=i
    ·subst hji;simp only[hif]at h4;cases h4
    ·rcases key j y hji h3 h5 with h|h
     ·have:=lt j h;omega
     ·exact L6 j h4 h
   ·obtain⟨o',ho'⟩:=Wt j y h2
    rcases key j y (by omega) h2 h3 with h|h
    ·exact hD j h
    ·have:=gtD j o' ho' h;omega
  have hfr:(fA s0 l recs (fun k=>listed.getD k false) l.length).bk x.fr=none:=by
   have h1:=hck.one i _ hfi
   have:(fA s0 l recs (fun k=>listed.getD k false) l.length).bk x.fr=(fA s0 l recs (fun k=>listed.getD k false) 0).bk x.fr:=by
    refine oQ x.fr 0 l.length (Nat.zero_le _) (fun j y _ h2 h3 h4 h5=>?_)
    obtain⟨o',ho'⟩:=Wt j y h3
    by_cases hji:j=i
    ·subst hji;simp only[hif]at h4;cases h4
    by_cases hdm:x.fr=dummy
    ·have:=(hck.one j _ (xR ho' h3)).1
     rw[hdm]at h5;exact this h5
    ·have h6:=hck.two i j _ _ (Ne.symm hji) hfi (xR ho' h3)
     rcases h6.1 with h|h|h
     ·refine h x.fr (List.mem_append_right _ (by simp[hdm])) (List.mem_append_right _ (List.mem_append_left _ ?_))
      simp[h5]
     ·exact L6 j h4 h
     ·have:=lt j h
      rcases h6.2 with h7|h7|h7
      ·omega
      ·exact hdm h7
      ·exact h7 h5
   rw[this]
   exact hno _ h1.2.1
  have hcount:((List.range l.length).filter fun j=>!(listed.setIfInBounds i true).getD j false).length<=fuel:=by
   have:=uG (p:=fun j=>!listed.getD j false) (q:=fun j=>!(listed.setIfInBounds i true).getD j false) (fun j hj=>by
    rcases hb:listed.getD j false with _|_
    ·rfl
    ·rw[getD_set_true hb]at hj;cases hj) (i:=i) (by rw[hif];rfl) (by
    have:i<listed.size:=by omega
    simp[this]) (List.range l.length) (List.mem_range.2 hil)
   omega
  unfold wpOp
  rw[ho]
  simp only
  refine hst.run (s':=fA s0 l recs (fun k=>listed.getD k false) l.length) (fun y hy=>⟨?_,fun b hb=>?_⟩) (fun j want d hg hd=>?_) g hfr ?_ (fun a' w' ρ' g'=>?_)
  ·cases y with
   |tmp t=>exact slots t (List.mem_append_left _ (List.mem_filterMap.2 ⟨.tmp t,by simpa using hy,rfl⟩))
   |_=>rfl
  ·exact blocks b (List.mem_flatMap.2 ⟨y,by simpa using hy,hb⟩)
  ·refine slots d (List.mem_append_right _ ?_)
   rw[hg]
   simp only[List.getElem?_toArray,hd]
   simp
  ·rw[(gu _).2]
   exact Nat.lt_of_le_of_lt (hck.one i _ hfi).2.2 hdl
  ·refine ih _ ρ' a' w' (by simp[hsz]) ?_ ?_ hcount
   ·intro j hj k hk
    by_cases hji:j=i
    ·subst hji;exact getD_set_true (hD k hk)
    ·rw[getD_set_ne false (Ne.symm hji)]at hj
     exact getD_set_true (hcl j hj k hk)
   ·refine g'.sim (Y8 hol hx (fun j=>?_) hif (fun j o' hji hj t ht=>?_) (fun j y hij hy hp b hb hxb=>?_) l.length hil)
    ·by_cases hji:j=i
     ·subst hji
      have:j<listed.size:=by omega
      simp[this]
     ·rw[getD_set_ne false (Ne.symm hji),if_neg hji]
    ·have:=F.one j t hji (by unfold kS;rw[hj];exact ht)
     unfold kS at this
     rw[hol]at this;exact this
    ·obtain⟨o',ho'⟩:=Wt j y hy
     have h6:=(hck.two i j _ _ (by omega) hfi (xR ho' hy)).1
     rcases h6 with h|h|h
     ·exact h b (List.mem_append_left _ (by simp[hxb])) (List.mem_append_right _ (List.mem_append_left _ (by simp[hb])))
     ·exact L6 j hp h
     ·have:=lt j h;omega
end
end
section
def Vk(l:List Oper):List (List Nat):=
 l.foldl (fun D o=>D++[((o.after.toList.filter (Region.binds .any)).flatMap fun e=>e.on::D.getD e.on []).eraseDups]) []
def rZ:List (Option Bk)->List (Option Bk)
 |[]=>[]
 |x::l=>match x,rZ l with
  |none,[]=>[]
  |x,l'=>x::l'
theorem Qp:∀(h:List (Option Bk)) (b:Nat),(rZ h).getD b none=h.getD b none
 |[],b=>rfl
 |x::l,b=>by
  have ih:=Qp l
  unfold rZ
  split
  ·next h2=>
   cases b with
   |zero=>rfl
   |succ b=>have:=ih b;rw[h2]at this;simpa using this
  ·cases b with
   |zero=>rfl
   |succ b=>simpa using ih b
theorem KI:∀(h:List (Option Bk)),(rZ h).length<=h.length
 |[]=>Nat.le_refl _
 |x::l=>by
  have ih:=KI l
  unfold rZ
  split
  ·simp
  ·simp;exact ih
def gZ:List Oper->Nat
 |[]=>0
 |o::l=>(if jS o=true then 1 else 0)+gZ l
def aE9(l:List Oper):Bool:=VX l (Vk l)&&Region.noSelect l.toArray
def GU(E:ak)(l:List Oper)(s:St)(k:St->Prop):Prop:=
 aE9 l=true/\Ea E l s.h.length (gZ l) l 0 ⟨s.t,s.h++List.replicate (gZ l+1) none⟩ [] fun acc s'=>
  aM2 (Vk l) s.h.length (s.h.length+gZ l) acc=true/\k ⟨s'.t,rZ s'.h⟩
def vI(s:St)(i:Nat):Nat:=match s.sl i with| .d (.v (.int _ z))=>z.toNat|_=>0
def qF(live:List Nat):Nat->List T->List T
 |_,[]=>[]
 |i,t::l=>(if live.contains i=true then t else .au)::qF live (i+1) l
def weaken(live:List Nat)(m:Nat)(s:St):St:=⟨qF live 0 s.t,s.h.take m⟩
def sG(live:List Nat)(m:Nat)(s:St):Prop:=live.all (fun i=>(s.sl i).refs.all fun b=>decide (b<m))=true
def U1(body:St->(Exit->St->Prop)->Prop)(k:Exit->St->Prop):Nat->St->Prop
 |0,_=>False
 |n+1,s=>body s fun e s'=>match e with| .normal=>U1 body k n s'|e=>k e s'
structure Dg(s s':St):Prop where
 out:∀(G:Nat->Option (List Seg)) (S:Nat->Prop) (base:Nat) (w0:W0 G) (ρ:Nat->Option Value) (a:Act) (w:World),Good S base w0 s ρ a w->∃ρ',Good S base w0 s' ρ' a w
theorem Dg.refl(s:St):Dg s s:=⟨fun G S base w0 ρ a w g=>⟨ρ,g⟩⟩
theorem Dg.trans{s s' s'':St}(h:Dg s s')(k:Dg s' s''):Dg s s'':=⟨fun G S base w0 ρ a w g=>by
 obtain⟨ρ1,g1⟩:=h.out G S base w0 ρ a w g
 exact k.out G S base w0 ρ1 a w g1⟩
def aQ(body:St->(Exit->St->Prop)->Prop)(s0:St)(k:Exit->St->Prop):Prop:=
 (∃n,U1 body k n s0)\/∃(s:St) (live:List Nat) (m:Nat) (I:St->Prop) (μ:St->Nat),Dg s0 s/\0<m/\sG live m s/\I (weaken live m s)/\
  ∀s,I s->body s fun e s'=>match e with| .normal=>sG live m s'/\I (weaken live m s')/\μ (weaken live m s')<μ s|e=>k e s'
structure bo5(I:St->Prop)(μ:St->Nat)(n:Nat)(s':St):Prop where
 out:∃s'',Dg s' s''/\I s''/\μ s''<n
def Dh(body:St->(Exit->St->Prop)->Prop)(s0:St)(k:Exit->St->Prop):Prop:=
 ∃(s:St) (I:St->Prop) (μ:St->Nat),Dg s0 s/\I s/\∀s,I s->body s fun e s'=>match e with| .normal=>bo5 I μ (μ s) s'|e=>k e s'
def IG(E:ak):Code->St->(Exit->St->Prop)->Prop
 | .skip,s,k=>k .normal s
 | .label _,s,k=>k .normal s
 | .region _ ops draw,s,k=>(match draw with|false=>Stop (bq E ops.toList ops.toList s (k .normal))|true=>bd9 (GU E ops.toList s (k .normal)))
 | .seq a b,s,k=>IG E a s fun e s'=>match e with| .normal=>IG E b s' k|e=>k e s'
 | .cond c a b,s,k=>(match s.ev c with| .d (.v (.bool t))=>vE (aN t (IG E a s k) (IG E b s k))|_=>False)
 | .block id c,s,k=>IG E c s fun e s'=>match e with| .exit j=>(if j=id then k .normal s' else k (.exit j) s')|e=>k e s'
 | .loop c,s,k=>aX (aQ (fun s k=>IG E c s k) s k\/Dh (fun s k=>IG E c s k) s k)
 | .exit id,s,k=>k (.exit id) s
 | .ret,s,k=>k .ret s
 |_,_,_=>False
section
variable {E : ak} {S : Nat -> Prop} {base : Nat} {w0 : W0 E.G}
theorem PO{l:List Oper}{k:St->Prop}{a:Act}{id:Nat}(h:GU E l s k)(g:Good S base w0 s ρ a w):
  (Code.region id l.toArray true).wp E.P (fun e a' w'=>e=.normal/\∃s' ρ',k s'/\Good S base w0 s' ρ' a' w') a w:=by
 obtain⟨htab,h⟩:=h
 simp only[aE9,Bool.and_eq_true]at htab
 obtain⟨recs,hrl,⟨hck,hk⟩,hch⟩:=GN h
 rw[List.nil_append]at hck
 have hall:∀(i:Nat) (o:Oper),l[i]?=some o->Fits l (Vk l) i o:=fun i o ho=>Gn htab.1 ho
 have hlen:(⟨s.t,s.h++List.replicate (gZ l+1) none⟩:St).h.length=s.h.length+gZ l+1:=by simp;omega
 have gd:Good S base w0 s ρ a { w with drawn:=w.drawn+1 }:=(g.grow (w':={ w with drawn:=w.drawn+1 }) ⟨rfl,rfl,rfl,Nat.le_refl _,fun _ _ _=>rfl⟩).1
 refine wp_region_any E.hM ?_
 refine drawn (S:=S) (base:=base) (w0:=w0) (s0:=⟨s.t,s.h++List.replicate (gZ l+1) none⟩) hrl hch hall (Xy hck) (by rw[hlen];omega) (fun b hb=>?_) (fun ρ' a' w' g'=>?_) _ _ ρ _ _ (by simp) ?_ ?_ ?_
 ·rw[jA]
  unfold St.bk
  rw[List.getD_eq_getElem?_getD,List.getElem?_eq_none hb];rfl
 ·refine⟨rfl,_,ρ',hk,?_⟩
  rw[Ku hrl]
  exact g'.yx ⟨rfl,KI _,fun _=>rfl,fun b=>(Qp _ b).symm⟩
 ·intro i hi;rw[oL]at hi;cases hi
 ·have:fA ⟨s.t,s.h++List.replicate (gZ l+1) none⟩ l recs (fun i=>(Array.replicate l.toArray.size false).getD i false) l.length=⟨s.t,s.h++List.replicate (gZ l+1) none⟩:=by
   have:∀n,fA ⟨s.t,s.h++List.replicate (gZ l+1) none⟩ l recs (fun i=>(Array.replicate l.toArray.size false).getD i false) n=⟨s.t,s.h++List.replicate (gZ l+1) none⟩:=by
    intro n
    induction n with
    |zero=>rfl
    |succ n ih=>
     rw[fA]
     split
     ·exact(if_neg (by simp only[oL];decide)).trans ih
     ·exact ih
   exact this _
  rw[this]
  exact gd.sim (U2.more s _)
 ·refine Nat.le_trans (List.length_filter_le _ _) ?_
  simp
theorem JW(live:List Nat):∀(l:List T) (i:Nat),(qF live i l).length=l.length
 |[],_=>rfl
 |_::l,i=>by simp[qF,JW live l]
theorem JV(live:List Nat):∀(l:List T) (i j:Nat),(qF live i l).getD j .au=if live.contains (i+j)=true then l.getD j .au else .au
 |[],i,j=>by simp[qF]
 |t::l,i,0=>by simp[qF]
 |t::l,i,j+1=>by
  have:=JV live l (i+1) j
  rw[show i+1+j=i+(j+1) by omega]at this
  simpa[qF]using this
theorem Good.weaken{base:Nat}{w0:W0 G}{a:Act}(g:Good S base w0 s ρ a w){live:List Nat}{m:Nat}(hm0:0<m)(h:sG live m s):∃ρ',Good S base w0 (weaken live m s) ρ' a w:=by
 unfold sG at h
 rw[List.all_eq_true]at h
 have hbk:∀b,(Go.Proofs.YtegalalmamofdaaGreatDoor.weaken live m s).bk b=if b<m then s.bk b else none:=by
  intro b
  unfold Go.Proofs.YtegalalmamofdaaGreatDoor.weaken St.bk
  simp only[List.getD_eq_getElem?_getD,List.getElem?_take]
  split<;>rfl
 have hsl:∀i,(Go.Proofs.YtegalalmamofdaaGreatDoor.weaken live m s).sl i=if live.contains i=true then s.sl i else .au:=by
  intro i
  have:=JV live s.t 0 i
  rw[Nat.zero_add]at this
  exact this
 let ρ':Nat->Option Value:=fun b=>if b<m then ρ b else none
 have hρ:∀b u,ρ' b=some u->b<m/\ρ b=some u:=by
  intro b u hb
  simp only[ρ']at hb
  split at hb
  ·next h1=>exact⟨h1,hb⟩
  ·cases hb
 have Yd:∀b,b<m->ρ' b=ρ b:=fun b hb=>if_pos hb
 have K:Keeps (Dt S base ρ) w (Dt S base ρ') w:=⟨Nat.le_refl _,fun r _ hd=>⟨⟨hd.1,fun b u hb=>hd.2 b u (hρ b u hb).2⟩,fun _=>rfl⟩⟩
 refine⟨ρ',(JW _ _ _).trans g.len,fun i hi=>?_,fun b=>?_,fun i b hb=>?_,fun b b' u u' r h1 h2=>g.inj b b' u u' r (hρ b u h1).2 (hρ b' u' h2).2,fun b u r h1=>g.low b u r (hρ b u h1).2,g.iE,g.glob.up K,(fun q hq=>(Yd 0 hm0).trans (g.pin q hq)),g.size,g.defs⟩
 ·rw[hsl]
  by_cases hl:live.contains i=true
  ·rw[if_pos hl]
   refine RT.up K (fun b hb=>Yd b ?_) (g.t i hi)
   have:=h i (by simpa using hl)
   rw[List.all_eq_true]at this
   exact of_decide_eq_true (this b hb)
  ·rw[if_neg hl];trivial
 ·rw[hbk]
  have hB:=g.b b
  by_cases hb:b<m
  ·rw[if_pos hb]
   cases hk:s.bk b with
   |none=>rw[hk]at hB;exact(Yd b hb).trans hB
   |some x=>
    rw[hk]at hB
    cases x with
    |var l=>obtain⟨r,cs,t,h1,h2,h3,h4⟩:=hB;exact⟨r,cs,t,(Yd b hb).trans h1,h2,h3,h4.up K⟩
    |sl e sz n l=>obtain⟨u,cs,h1,h2,h3⟩:=hB;exact⟨u,cs,(Yd b hb).trans h1,h2,h3.up K⟩
    |obj p=>obtain⟨r,cs,t,h1,h2,h3,h4⟩:=hB;exact⟨r,cs,t,(Yd b hb).trans h1,h2,h3,h4⟩
    |abs p=>obtain⟨r,F,h1,h2,h3⟩:=hB;exact⟨r,F,(Yd b hb).trans h1,h2,p.up K (fun _ _=>rfl) h3⟩
    |vh l off p e sz n m=>obtain⟨r,cs,t,su,ms,h1,h2,h3,h4,h5,h6,h7,h8⟩:=hB;exact⟨r,cs,t,su,ms,(Yd b hb).trans h1,h2,h3,h4,h5.up K,h6.up K,h7,h8⟩
    |gone=>obtain⟨n,h1⟩:=hB;exact⟨n,(Yd b hb).trans h1⟩
    |bx=>obtain⟨h0,q,r,t,h1,h2,h3⟩:=hB;exact⟨h0,q,r,t,(Yd b hb).trans h1,h2,(Yd 0 hm0).trans h3⟩
  ·rw[if_neg hb]
   exact if_neg hb
 ·rw[hsl]at hb
  split at hb
  ·next hl=>
   have:=h i (by simpa using hl)
   rw[List.all_eq_true]at this
   rw[hbk,if_pos (of_decide_eq_true (this b hb))]
   exact g.ru i b hb
  ·simp[T.refs]at hb
theorem Dg.weaken{live:List Nat}{m:Nat}(hm0:0<m)(h:sG live m s):Dg s (weaken live m s):=⟨fun G S base w0 ρ a w g=>g.weaken hm0 h⟩
def pF:Seg->Bool
 | .ints _ n l=>n==0&&l.isEmpty
 | .bytes n l=>n==0&&l.isEmpty
 | .bools n l=>n==0&&l.isEmpty
 | .gen n l=>n==0&&l.isEmpty
theorem Hf{S:Nat->Prop}{w:World}:∀{l:List Seg},l.all pF=true->RL S w l []
 |[],_=>.nil
 |s::l,h=>by
  simp only[List.all_cons,Bool.and_eq_true]at h
  have r:=Hf (S:=S) (w:=w) h.2
  cases s with
  |ints k n zs=>simp[pF]at h;obtain⟨⟨rfl,rfl⟩,_⟩:=h;exact .ints rfl r
  |bytes n zs=>simp[pF]at h;obtain⟨⟨rfl,rfl⟩,_⟩:=h;exact .bytes rfl r
  |bools n zs=>simp[pF]at h;obtain⟨⟨rfl,rfl⟩,_⟩:=h;exact .bools rfl r
  |gen n zs=>simp[pF]at h;obtain⟨⟨rfl,rfl⟩,_⟩:=h;exact .gen .nil rfl r
def CG(s:St)(i:Nat)(e:TypeId)(sz:Nat)(l:List Seg):St:=⟨s.t.set i (.own s.h.length 0),s.h++[some (.sl e sz 0 l)]⟩
theorem Dg.nil{i:Nat}{e:TypeId}{sz:Nat}{l:List Seg}(h:s.sl i=.d (.v (.slice none 0 0)))(hl:l.all pF=true):Dg s (CG s i e sz l):=.mk fun G S base w0 ρ a w g=>by
 have g1:=g.sim (U2.more s 1)
 have hfr:St.bk ⟨s.t,s.h++List.replicate 1 none⟩ s.h.length=none:=by
  rw[jA];simp[St.bk]
 have hi:i<a.tmps.size:=by
  apply Decidable.byContradiction
  intro hn
  have:s.sl i=.au:=by
   show s.t.getD i .au=.au
   rw[List.getD_eq_getElem?_getD,List.getElem?_eq_none (by rw[g.len];omega)];rfl
  rw[this]at h;cases h
 have hv:=g.t i hi
 rw[h]at hv
 have hv':a.tmps.getD i undef=.slice none 0 0:=RA.plain hv
 have none':w.grownBy w none:=⟨rfl,rfl,rfl,Nat.le_refl _,fun _ _ _=>rfl⟩
 have g2:=g1.J5 (fr:=s.h.length) hfr (by simp) none' (e:=e) (sz:=sz) (n:=0) (l:=l) (cs:=[]) (v:=.slice none 0 0) (World.ownsRow_nil _ _ _ _) (Hf hl) (some i)
 have ha:a.put (some i) (.slice none 0 0)=a:=by
  unfold Act.put
  have:a.tmps.setIfInBounds i (.slice none 0 0)=a.tmps:=by
   apply Array.ext (by simp)
   intro j h1 h2
   by_cases e:i=j
   ·subst e
    rw[Array.getElem_setIfInBounds_self]
    have:=hv'
    rw[Array.getD_eq_getD_getElem?,Array.getElem?_eq_getElem hi]at this
    exact this.symm
   ·rw[Array.getElem_setIfInBounds_ne h2 e]
  simp only[this]
 rw[ha]at g2
 have e2:∀x,St.app ⟨s.t,s.h++List.replicate 1 none⟩ (some i) (.own s.h.length 0) (some (s.h.length,x))=⟨s.t.set i (.own s.h.length 0),s.h++[some x]⟩:=by
  intro x
  unfold St.app
  simp
 rw[e2]at g2
 exact⟨_,g2⟩
theorem iD:∀(c:Code) {s:St} {k:Exit->St->Prop} {ρ:Nat->Option Value} {a:Act} {w:World},IG E c s k->Good S base w0 s ρ a w->
  c.wp E.P (fun e a' w'=>∃s' ρ',k e s'/\Good S base w0 s' ρ' a' w') a w
 | .skip,s,k,ρ,a,w,h,g=>wp_skip ⟨s,ρ,h,g⟩
 | .label l,s,k,ρ,a,w,h,g=>wp_label ⟨s,ρ,h,g⟩
 | .region id ops false,s,k,ρ,a,w,h,g=>by
  have:=uY (w0:=w0) (S:=S) (base:=base) h.out g
  rw[Array.toArray_toList]at this
  refine wp_mono (wp_region_list this) ?_
  rintro e a' w' ⟨rfl,s',ρ',h1,h2⟩
  exact⟨s',ρ',h1,h2⟩
 | .region id ops true,s,k,ρ,a,w,h,g=>by
  have:=PO (id:=id) (w0:=w0) (S:=S) (base:=base) h.out g
  rw[Array.toArray_toList]at this
  refine wp_mono this ?_
  rintro e a' w' ⟨rfl,s',ρ',h1,h2⟩
  exact⟨s',ρ',h1,h2⟩
 | .seq x y,s,k,ρ,a,w,h,g=>by
  refine wp_seq (wp_mono (iD x h g) ?_)
  rintro e a' w' ⟨s',ρ',h1,h2⟩
  cases e with
  |normal=>exact iD y h1 h2
  |_=>exact⟨s',ρ',h1,h2⟩
 | .cond c x y,s,k,ρ,a,w,h,g=>by
  unfold IG at h
  split at h
  ·next t hc=>
   have h1:=g.ev c
   rw[hc]at h1
   cases t with
   |true=>exact wp_cond (RA.plain h1) (iD x h.out g)
   |false=>exact wp_cond (RA.plain h1) (iD y h.out g)
  ·exact h.elim
 | .block id c,s,k,ρ,a,w,h,g=>by
  refine wp_block (wp_mono (iD c h g) ?_)
  rintro e a' w' ⟨s',ρ',h1,h2⟩
  cases e with
  |exit j=>
   simp only[Exit.inBlock]
   simp only at h1
   split
   ·next hj=>rw[if_pos hj]at h1;exact⟨s',ρ',h1,h2⟩
   ·next hj=>rw[if_neg hj]at h1;exact⟨s',ρ',h1,h2⟩
  |_=>exact⟨s',ρ',h1,h2⟩
 | .loop c,s,k,ρ,a,w,h,g=>by
  have ih:∀{s:St} {k:Exit->St->Prop} {ρ:Nat->Option Value} {a:Act} {w:World},IG E c s k->Good S base w0 s ρ a w->c.wp E.P (fun e a' w'=>∃s' ρ',k e s'/\Good S base w0 s' ρ' a' w') a w:=fun h g=>iD c h g
  rcases h.out with(⟨n,h⟩|⟨s00,live,m,I,μ,hent,h0,h1,h2,h3⟩)|⟨s00,I,μ,hent,h2,h3⟩
  ·have key:∀n s ρ a w,U1 (fun s k=>IG E c s k) k n s->Good S base w0 s ρ a w->∀(b:Frame) (kk:List Item) (cs:List Frame),∃e a' w',(∃s' ρ',k e s'/\Good S base w0 s' ρ' a' w')/\Arrives E.P (lone (b.at a (.code c::.inLoop c::kk)) cs w) b kk cs e a' w':=by
    intro n
    induction n with
    |zero=>intro s ρ a w h;exact h.elim
    |succ n ihn=>
     intro s ρ a w h hg b kk cs
     obtain⟨e,a1,w1,⟨s1,ρ1,hq,hg1⟩,harr⟩:=ih h hg b (.inLoop c::kk) cs
     cases e with
     |normal=>
      obtain⟨e2,a2,w2,hq2,Oq⟩:=ihn s1 ρ1 a1 w1 hq hg1 b kk cs
      exact⟨e2,a2,w2,hq2,.of_steps (Steps.trans harr (.one step_inLoop)) Oq⟩
     |exit id=>exact⟨_,a1,w1,⟨s1,ρ1,hq,hg1⟩,.pass (x:=.inLoop c) rfl (fun _ _=>.inl (by simp)) harr⟩
     |goto l=>exact⟨_,a1,w1,⟨s1,ρ1,hq,hg1⟩,.pass (x:=.inLoop c) rfl (fun _ _=>.inl (by simp)) harr⟩
     |ret=>exact⟨_,a1,w1,⟨s1,ρ1,hq,hg1⟩,.pass (x:=.inLoop c) rfl (fun _ _=>.inl (by simp)) harr⟩
     |panic ch=>exact⟨_,a1,w1,⟨s1,ρ1,hq,hg1⟩,.pass (x:=.inLoop c) rfl (fun _ _=>.inl (by simp)) harr⟩
     |outgrown=>exact⟨_,a1,w1,⟨s1,ρ1,hq,hg1⟩,.pass (x:=.inLoop c) rfl (fun _ _=>.inl (by simp)) harr⟩
   intro b kk cs
   obtain⟨e,a',w',hq,harr⟩:=key n s ρ a w h g b kk cs
   exact⟨e,a',w',hq,.of_steps (.one step_loop) harr⟩
  ·let G:Nat->Act->World->Prop:=fun n a w=>∃s ρ,I s/\Good S base w0 s ρ a w/\μ s=n
   have key:∀n a w,G n a w->∀(b:Frame) (kk:List Item) (cs:List Frame),∃e a' w',(∃s' ρ',k e s'/\Good S base w0 s' ρ' a' w')/\Arrives E.P (lone (b.at a (.code c::.inLoop c::kk)) cs w) b kk cs e a' w':=by
    intro n
    induction n using Nat.strongRecOn with
    |_ n ihn=>
     rintro a w ⟨s,ρ,hI,hg,rfl⟩ b kk cs
     obtain⟨e,a1,w1,⟨s1,ρ1,hq,hg1⟩,harr⟩:=ih (h3 s hI) hg b (.inLoop c::kk) cs
     cases e with
     |normal=>
      obtain⟨hl,hI1,hlt⟩:=hq
      obtain⟨ρ2,hg2⟩:=hg1.weaken h0 hl
      obtain⟨e2,a2,w2,hq2,Oq⟩:=ihn _ hlt a1 w1 ⟨_,ρ2,hI1,hg2,rfl⟩ b kk cs
      exact⟨e2,a2,w2,hq2,.of_steps (Steps.trans harr (.one step_inLoop)) Oq⟩
     |exit id=>exact⟨_,a1,w1,⟨s1,ρ1,hq,hg1⟩,.pass (x:=.inLoop c) rfl (fun _ _=>.inl (by simp)) harr⟩
     |goto l=>exact⟨_,a1,w1,⟨s1,ρ1,hq,hg1⟩,.pass (x:=.inLoop c) rfl (fun _ _=>.inl (by simp)) harr⟩
     |ret=>exact⟨_,a1,w1,⟨s1,ρ1,hq,hg1⟩,.pass (x:=.inLoop c) rfl (fun _ _=>.inl (by simp)) harr⟩
     |panic ch=>exact⟨_,a1,w1,⟨s1,ρ1,hq,hg1⟩,.pass (x:=.inLoop c) rfl (fun _ _=>.inl (by simp)) harr⟩
     |outgrown=>exact⟨_,a1,w1,⟨s1,ρ1,hq,hg1⟩,.pass (x:=.inLoop c) rfl (fun _ _=>.inl (by simp)) harr⟩
   obtain⟨ρ00,g00⟩:=hent.out _ _ _ _ _ _ _ g
   obtain⟨ρ2,hg2⟩:=g00.weaken h0 h1
   intro b kk cs
   obtain⟨e,a',w',hq,harr⟩:=key _ a w ⟨_,ρ2,h2,hg2,rfl⟩ b kk cs
   exact⟨e,a',w',hq,.of_steps (.one step_loop) harr⟩
  ·let G:Nat->Act->World->Prop:=fun n a w=>∃s ρ,I s/\Good S base w0 s ρ a w/\μ s=n
   have key:∀n a w,G n a w->∀(b:Frame) (kk:List Item) (cs:List Frame),∃e a' w',(∃s' ρ',k e s'/\Good S base w0 s' ρ' a' w')/\Arrives E.P (lone (b.at a (.code c::.inLoop c::kk)) cs w) b kk cs e a' w':=by
    intro n
    induction n using Nat.strongRecOn with
    |_ n ihn=>
     rintro a w ⟨s,ρ,hI,hg,rfl⟩ b kk cs
     obtain⟨e,a1,w1,⟨s1,ρ1,hq,hg1⟩,harr⟩:=ih (h3 s hI) hg b (.inLoop c::kk) cs
     cases e with
     |normal=>
      obtain⟨s2,he2,hI1,hlt⟩:=hq.out
      obtain⟨ρ2,hg2⟩:=he2.out _ _ _ _ _ _ _ hg1
      obtain⟨e2,a2,w2,hq2,Oq⟩:=ihn _ hlt a1 w1 ⟨_,ρ2,hI1,hg2,rfl⟩ b kk cs
      exact⟨e2,a2,w2,hq2,.of_steps (Steps.trans harr (.one step_inLoop)) Oq⟩
     |exit id=>exact⟨_,a1,w1,⟨s1,ρ1,hq,hg1⟩,.pass (x:=.inLoop c) rfl (fun _ _=>.inl (by simp)) harr⟩
     |goto l=>exact⟨_,a1,w1,⟨s1,ρ1,hq,hg1⟩,.pass (x:=.inLoop c) rfl (fun _ _=>.inl (by simp)) harr⟩
     |ret=>exact⟨_,a1,w1,⟨s1,ρ1,hq,hg1⟩,.pass (x:=.inLoop c) rfl (fun _ _=>.inl (by simp)) harr⟩
     |panic ch=>exact⟨_,a1,w1,⟨s1,ρ1,hq,hg1⟩,.pass (x:=.inLoop c) rfl (fun _ _=>.inl (by simp)) harr⟩
     |outgrown=>exact⟨_,a1,w1,⟨s1,ρ1,hq,hg1⟩,.pass (x:=.inLoop c) rfl (fun _ _=>.inl (by simp)) harr⟩
   obtain⟨ρ00,g00⟩:=hent.out _ _ _ _ _ _ _ g
   intro b kk cs
   obtain⟨e,a',w',hq,harr⟩:=key _ a w ⟨_,ρ00,h2,g00,rfl⟩ b kk cs
   exact⟨e,a',w',hq,.of_steps (.one step_loop) harr⟩
 | .exit id,s,k,ρ,a,w,h,g=>wp_exit ⟨s,ρ,h,g⟩
 | .ret,s,k,ρ,a,w,h,g=>wp_ret ⟨s,ρ,h,g⟩
 | .rangeFunc _ _ _ _,s,k,ρ,a,w,h,g=>h.elim
 | .scope _,s,k,ρ,a,w,h,g=>h.elim
 | .goto _,s,k,ρ,a,w,h,g=>h.elim
 | .refuse _,s,k,ρ,a,w,h,g=>h.elim
def Eb (E : ak) (s : St) : List ResultVar -> (List A -> Prop) -> Prop
  | [], K => K []
  | .tmp t :: r, K =>
    (match s.sl t with
     | .d a => Eb E s r fun l => K (a :: l)
     | .own b n => (match s.bk b with | some (.sl _ _ m l) => n = m /\ Eb E s r fun l' => K (.row n l :: l') | _ => False)
     | .ptr b 0 => (match s.bk b with | some (.var l) => b ≠ 0 /\ Eb E s r fun l' => K (.sref l 0 :: l') | _ => False)
     | _ => False)
  | .cell p ty :: r, K =>
    (match E.Y ty, s.sl p with
     | some i, .ptr b base => (match s.bk b with | some (.var l) => rdK l i.agg i.sz base fun a => Eb E s r fun l => K (a :: l) | _ => False)
     | _, _ => False)
def yS(E:ak)(s:St)(rs:List ResultVar)(K:bC->Prop):Prop:=
 match rs with
 |[.tmp t]=>(match s.sl t with
  | .d a=>K (.d a)
  | .own b n=>(match s.bk b with|some (.sl e sz m l)=>n=m/\K (.o e sz n l)|_=>False)
  | .ptr b 0=>(match s.bk b with|some (.vh _ _ _ _ _ _ _)=>False|some .bx=>False|some x=>K (.p x)|none=>False)
  | .win b base n=>(match s.bk b with|some (.var l)=>(match cut l base n with|some m=>b≠0/\base+n<=dM l/\K (.d (.row n m))|none=>False)|_=>False)
  |_=>False)
 |[.cell p ty]=>(match E.Y ty,s.sl p with
  |some i,.ptr b base=>(match s.bk b with|some (.var l)=>rdK l i.agg i.sz base fun a=>K (.d a)|_=>False)
  |_,_=>False)
 |[]=>K (.t [])
 |l=>Eb E s l fun jq=>K (.t jq)
theorem gP{P:Program}{tmps:Array Value}{r:ResultVar}(h:fn.results=#[r]){v:Value}(hr:(match r with| .tmp t=>(pure (tmps.getD t undef):Sem Value)| .cell a t=>do loadVar t (<-asAddr (tmps.getD a undef))).run P w=.ok v w):
  (results fn tmps).run P w=.ok v w:=by
 unfold results
 rw[h]
 simp only[List.mapM_toArray,List.mapM_cons,List.mapM_nil]
 cases r with
 |tmp t=>simp at hr ⊢;exact hr
 |cell a t=>
  simp only[Sem.run_bind]at hr
  cases hq:(asAddr (tmps.getD a undef)).run P w with
  |halt x w1=>rw[hq]at hr;simp[Result.andThen]at hr
  |ok ad w1=>
   rw[hq]at hr
   simp only[Result.andThen_ok]at hr
   simp only[Array.getD_eq_getD_getElem?]at hq
   simp[Sem.run_bind,hq,hr]
def yT(tmps:Array Value):ResultVar->Sem Value
 | .tmp t=>pure (tmps.getD t undef)
 | .cell a t=>do loadVar t (<-asAddr (tmps.getD a undef))
theorem G6(fn:Func)(tmps:Array Value):results fn tmps=(do let vs<-fn.results.mapM (yT tmps);pure (if h:vs.size=1 then vs[0]else .tuple vs)):=by
 unfold results
 congr 1
theorem tN{s:St}{ρ:Nat->Option Value}{a:Act}{w:World}{S':Nat->Prop}(hS:∀z,Dt S base ρ z->S' z\/base<=z)(hP:∀q,w0.X q->w0.pin=some q)(g:Good S base w0 s ρ a w):∀{l:List ResultVar} {K:List A->Prop},Eb E s l K->
  ∃jq vs,K jq/\vs.length=l.length/\(l.mapM (yT a.tmps)).run E.P w=.ok vs w/\mH (fun r=>S' r\/base<=r) w jq vs
 |[],K,h=>⟨[],[],h,rfl,by simp,.nil⟩
 | .cell p ty::r,K,h=>by
  have out:Keeps (Dt S base ρ) w (fun r=>S' r\/base<=r) w:=dw hS
  unfold Eb at h
  split at h
  ·next i b q hY hd=>
   split at h
   ·next l hk=>
    obtain⟨d,hK,hs⟩:=tK h
    obtain⟨jq,vs,h1,hlen,h2,h3⟩:=tN hS hP g hK
    obtain⟨r,cs,t,k1,k2,k3,k4⟩:=g.var hk
    have k5:=g.ev (.tmp p)
    rw[show s.ev (.tmp p)=.ptr b q from hd]at k5
    obtain⟨r',e1,e2⟩:=k5 _ k1
    obtain rfl:=e1.ptr
    obtain⟨v,k6,k7⟩:=gV (E.hY ty i hY) (r:=r) (o:=0) (fun j hj=>by rw[Nat.zero_add,fU k3,List.getElem?_eq_getElem hj]) (hs k4)
    rw[Nat.zero_add]at k6
    have e3:a.tmps.getD p undef=.pointer (some ⟨r,q,none⟩):=e2
    refine⟨d::jq,v::vs,h1,by simp[hlen],?_,.cons (RA.up out k7) h3⟩
    have e4:(yT a.tmps (.cell p ty)).run E.P w=.ok v w:=by
     simp only[yT,Sem.run_bind,e3,asAddr,Sem.run_pure,Result.andThen_ok,k6]
    simp[Sem.run_bind,e4,h2]
   ·exact h.elim
  ·exact h.elim
 | .tmp t::r,K,h=>by
  have out:Keeps (Dt S base ρ) w (fun r=>S' r\/base<=r) w:=dw hS
  unfold Eb at h
  split at h
  ·next d hd=>
   obtain⟨jq,vs,h1,hlen,h2,h3⟩:=tN hS hP g h
   refine⟨d::jq,a.tmps.getD t undef::vs,h1,by simp[hlen],?_,.cons ?_ h3⟩
   ·simp[Sem.run_bind,h2,yT]
   ·have:=g.ev (.tmp t)
    rw[show s.ev (.tmp t)=.d d from hd]at this
    exact RA.up out this
  ·next b n hd=>
   split at h
   ·next ty sz m l hk=>
    obtain⟨rfl,h⟩:=h
    obtain⟨jq,vs,h1,hlen,h2,h3⟩:=tN hS hP g h
    have k:=g.ev (.tmp t)
    rw[show s.ev (.tmp t)=.own b n from hd]at k
    obtain⟨cs,k1,k2,k3⟩:=lM g hk k
    refine⟨.row n l::jq,a.tmps.getD t undef::vs,h1,by simp[hlen],?_,.cons ?_ h3⟩
    ·simp[Sem.run_bind,h2,yT]
    ·have hv:a.tmps.getD t undef=a.eval (.tmp t):=rfl
     rw[hv]
     rcases k2.2 with⟨e1,e2⟩|⟨r,cap,cur,e1,e3,e4,e5,e6,e7,e8⟩
     ·rw[e1,e2]
      have hcs:cs=[]:=by have:=k2.1;rw[e2,Nat.zero_mul]at this;exact List.length_eq_zero_iff.1 this
      exact .row (k3.up out) (Nat.le_refl _) (Nat.zero_le _) (fun _=>rfl) (.inl hcs)
     ·rw[e1]
      refine .row (k3.up out) e5 e6 (fun e=>by cases e) (.inr ⟨r,0,rfl,.inr e3,(Array.getElem?_eq_some_iff.1 e4).1,fun j hj=>?_⟩)
      rw[Nat.zero_add,cell_of_row w r j cur _ (0,0) e4]
      have:(cur.toList.take (n*sz))[j]?=cs[j]?:=by rw[e8]
      rw[List.getElem?_take,if_pos (by have:=k2.1;omega),Array.getElem?_toList,List.getElem?_eq_getElem hj]at this
      exact this
   ·exact h.elim
  ·next b hd=>
   split at h
   ·next l hk=>
    obtain⟨hb0,h⟩:=h
    obtain⟨jq,vs,h1,hlen,h2,h3⟩:=tN hS hP g h
    obtain⟨q,cs,ty,k1,k2,k3,k4⟩:=g.var hk
    have k5:=g.ev (.tmp t)
    rw[show s.ev (.tmp t)=.ptr b 0 from hd]at k5
    obtain⟨r',e1,e2⟩:=k5 _ k1
    obtain rfl:=e1.ptr
    refine⟨.sref l 0::jq,a.tmps.getD t undef::vs,h1,by simp[hlen],by simp[Sem.run_bind,h2,yT],.cons ?_ h3⟩
    rw[show a.tmps.getD t undef=.pointer (some ⟨q,0,none⟩)from e2]
    have hlow:=g.low b _ q k1 rfl
    have hge:base<=q:=by
     rcases hlow.1 with h5|h5
     ·exact h5
     ·exact(hb0 (g.inj b 0 _ _ q k1 (g.pin _ (hP _ h5)) rfl rfl)).elim
    exact .sref (o:=0) (k4.up out) (.inr ⟨q,0,rfl,.inr hge,hlow.2,fun i hi=>by rw[Nat.zero_add,fU k3,List.getElem?_eq_getElem hi]⟩)
   ·exact h.elim
  ·exact h.elim
theorem zI{a:Act}{K:bC->Prop}{S':Nat->Prop}(hS:∀z,Dt S base ρ z->S' z\/base<=z)(hX:∀y,K (.p y)->∀q,¬w0.X q)(hP:∀q,w0.X q->w0.pin=some q)(h:yS E s fn.results.toList K)(g:Good S base w0 s ρ a w):
  ∃r v,K r/\(results fn a.tmps).run E.P w=.ok v w/\RR S' base w r v:=by
 have out:Keeps (Dt S base ρ) w (fun r=>S' r\/base<=r) w:=dw hS
 have hres:∀{l:List ResultVar},fn.results.toList=l->fn.results=l.toArray:=fun {l} e=>by rw[<-e]
 have slot:∀{t:Nat} {d:A},s.sl t=.d d->RA (fun r=>S' r\/base<=r) w d (a.tmps.getD t undef):=fun {t d} e=>by
  have:=g.ev (.tmp t)
  rw[show s.ev (.tmp t)=.d d from e]at this
  exact RA.up out this
 unfold yS at h
 split at h
 ·next t e=>
  split at h
  ·next d hd=>exact⟨_,_,h,gP (hres e) rfl,slot hd⟩
  ·next b n hd=>
   split at h
   ·next ty sz m l hk=>
    obtain⟨rfl,h⟩:=h
    have h1:=g.ev (.tmp t)
    rw[show s.ev (.tmp t)=.own b n from hd]at h1
    obtain⟨cs,h2,h3,h4⟩:=lM g hk h1
    refine⟨_,_,h,gP (hres e) rfl,cs,h3,RL.up ⟨Nat.le_refl _,fun r _ hd=>⟨⟨hS r hd,fun e=>?_⟩,fun _=>rfl⟩⟩ h4⟩
    refine hd.2 b _ h2 ?_
    generalize hv:a.eval (.tmp t)=v at e
    have:v.ownBlock=some r:=by rw[<-hv];exact e
    cases v<;>try(simp[Value.ownBlock]at this;done)
    next ad n' c=>cases ad<;>simp_all [Value.ownBlock,Rl]
   ·exact h.elim
  ·next b hd=>
   split at h
   ·exact h.elim
   ·exact h.elim
   ·next x hnv hbx hk=>
    have h1:=g.ev (.tmp t)
    rw[show s.ev (.tmp t)=.ptr b 0 from hd]at h1
    have hB:=g.b b
    rw[hk]at hB
    have fin:∀q,ρ b=some (.pointer (some ⟨q,0,none⟩))->HB (Dt S base ρ) w q x->∃r v,K r/\(results fn a.tmps).run E.P w=.ok v w/\RR S' base w r v:=fun q hρ hh=>by
     obtain⟨r',e1,e2⟩:=h1 _ hρ
     obtain rfl:=e1.ptr
     refine⟨_,_,h,gP (hres e) rfl,q,e2,?_,hh.up (dw fun z hz=>⟨hS z hz,fun e=>hz.2 b _ hρ (by rw[e];rfl)⟩) rfl⟩
     rcases(g.low b _ q hρ rfl).1 with h5|h5
     ·exact h5
     ·exact(hX _ h q h5).elim
    cases x with
    |var l=>obtain⟨q,cs,ty,k1,_,k2,k3⟩:=hB;exact fin q k1 ⟨cs,ty,k2,k3⟩
    |obj p=>obtain⟨q,cs,ty,k1,_,k2,k3⟩:=hB;exact fin q k1 ⟨cs,ty,k2,k3⟩
    |abs p=>obtain⟨q,F,k1,_⟩:=hB;obtain⟨r',e1,_⟩:=h1 _ k1;exact e1.qV.elim
    |vh=>exact(hnv _ _ _ _ _ _ _ rfl).elim
    |gone=>obtain⟨n,k1⟩:=hB;obtain⟨r',e1,_⟩:=h1 _ k1;exact e1.slice.elim
    |bx=>exact(hbx rfl).elim
    |sl ty sz n l=>
     exfalso
     obtain⟨u,cs,k1,k2,_⟩:=hB
     obtain⟨r',e1,_⟩:=h1 u k1
     rcases k2.2 with⟨e2,_⟩|⟨_,_,_,e2,_⟩<;>rw[e2]at e1<;>exact e1.slice
   ·exact h.elim
  ·next b q n hd=>
   split at h
   ·next l hk=>
    split at h
    ·next m hm=>
     obtain⟨hb0,hqn,hK⟩:=h
     refine⟨_,_,hK,gP (hres e) rfl,?_⟩
     have h1:=g.ev (.tmp t)
     rw[show s.ev (.tmp t)=.win b q n from hd]at h1
     obtain⟨r,cs,ty,k1,k2,k3,k4⟩:=g.var hk
     obtain⟨r',c,e1,e2,e3,e4⟩:=h1 _ k1
     obtain rfl:=e1.ptr
     have hlow:=g.low b _ r k1 rfl
     have hge:base<=r:=by
      rcases hlow.1 with h5|h5
      ·exact h5
      ·exact(hb0 (g.inj b 0 _ _ r k1 (g.pin _ (hP _ h5)) rfl rfl)).elim
     obtain⟨k5,_⟩:=k4.cut hm
     show RA _ _ (.row n m) (a.eval (.tmp t))
     rw[e2]
     refine .row (k5.up out) e3 e4 (fun e=>by cases e) (.inr ⟨r,q,rfl,.inr hge,hlow.2,fun i hi=>?_⟩)
     simp only[List.length_take,List.length_drop]at hi
     rw[fU k3,List.getElem_take,List.getElem_drop,List.getElem?_eq_getElem (by omega)]
    ·exact h.elim
   ·exact h.elim
  ·exact h.elim
 ·next p ty e=>
  split at h
  ·next i b q hY hd=>
   split at h
   ·next l hk=>
    obtain⟨d,hK,hs⟩:=tK h
    obtain⟨r,cs,t,h1,h2,h3,h4⟩:=g.var hk
    have h5:=g.ev (.tmp p)
    rw[show s.ev (.tmp p)=.ptr b q from hd]at h5
    obtain⟨r',e1,e2⟩:=h5 _ h1
    obtain rfl:=e1.ptr
    obtain⟨v,h6,h7⟩:=gV (E.hY ty i hY) (r:=r) (o:=0) (fun j hj=>by rw[Nat.zero_add,fU h3,List.getElem?_eq_getElem hj]) (hs h4)
    rw[Nat.zero_add]at h6
    refine⟨_,v,hK,gP (hres e) ?_,RA.up out h7⟩
    have e3:a.tmps.getD p undef=.pointer (some ⟨r,q,none⟩):=e2
    simp only[Sem.run_bind,e3,asAddr,Sem.run_pure,Result.andThen_ok,h6]
   ·exact h.elim
  ·exact h.elim
 ·next e=>exact⟨_,.tuple #[],h,results_none (hres e) _ _ _,[],rfl,.nil⟩
 ·rename_i l n1 n2 n3
  obtain⟨jq,vs,hK,hlen,hm,hr⟩:=tN hS hP g h
  refine⟨_,.tuple vs.toArray,hK,?_,vs,rfl,hr⟩
  have hne:vs.length≠1:=by
   intro e1
   rw[hlen]at e1
   obtain⟨x,e2⟩:=List.length_eq_one_iff.1 e1
   cases x with
   |tmp t=>first|exact n1 t e2|exact n2 t e2|exact n3 t e2
   |cell p ty=>first|exact n1 p ty e2|exact n2 p ty e2|exact n3 p ty e2
  rw[G6]
  have h2:fn.results=fn.results.toList.toArray:=by simp
  rw[h2,List.mapM_toArray]
  simp[Sem.run_bind,hm,hne]
theorem zf{vs:List Value}(nt:Nat)(hn:args.length<=nt)(hG:pI G S w)(hv:mH S w args vs):
  Good S w.heap.size (⟨w,fun _=>False,none,[]⟩:W0 G) ⟨args.map T.d++List.replicate (nt-args.length) (.d (.v undef)),[]⟩ (fun _=>none) { tmps:=vs.toArray++Array.replicate (nt-vs.toArray.size) undef,defers:=[] } w:=by
 have hlen:∀{l:List A} {vs:List Value},mH S w l vs->vs.length=l.length:=by
  intro l vs h
  induction h with
  |nil=>rfl
  |cons _ _ ih=>simp[ih]
 have hl:=hlen hv
 have D:Keeps S w (Dt S w.heap.size fun _=>none) w:=⟨Nat.le_refl _,fun r _ hs=>⟨⟨.inl hs,fun b u hb=>by cases hb⟩,fun _=>rfl⟩⟩
 have get:∀{l:List A} {vs:List Value},mH S w l vs->∀i,i<l.length->RA S w (l.getD i (.v undef)) (vs.getD i undef):=by
  intro l vs h
  induction h with
  |nil=>intro i hi;simp at hi
  |cons h r ih=>
   intro i hi
   cases i with
   |zero=>simpa using h
   |succ i=>simpa using ih i (by simpa using hi)
 refine⟨by simp[hl],fun i hi=>?_,fun b=>?_,fun i b hb=>?_,fun b b' u u' r hb=>(by cases hb),fun b u r hb=>(by cases hb),vR.refl _ _ _,hG.up D,fun q hq=>(by cases hq),Nat.le_refl _,rfl⟩
 ·by_cases h1:i<args.length
  ·have e1:St.sl ⟨args.map T.d++List.replicate (nt-args.length) (.d (.v undef)),[]⟩ i=.d (args.getD i (.v undef)):=by
    simp[St.sl,List.getD_eq_getElem?_getD,List.getElem?_append_left,h1]
   have e2:(vs.toArray++Array.replicate (nt-vs.toArray.size) undef).getD i undef=vs.getD i undef:=by
    rw[Array.getD_eq_getD_getElem?,Array.getElem?_append_left (by simp[hl,h1]),List.getD_eq_getElem?_getD];simp
   rw[e1,e2]
   exact RA.up D (get hv i h1)
  ·have hi2:i<nt:=by simp[hl]at hi;omega
   have e1:St.sl ⟨args.map T.d++List.replicate (nt-args.length) (.d (.v undef)),[]⟩ i=.d (.v undef):=by
    simp only[St.sl,List.getD_eq_getElem?_getD]
    rw[List.getElem?_append_right (by simp;omega),List.getElem?_replicate]
    rw[if_pos (by simp;omega)];rfl
   have e2:(vs.toArray++Array.replicate (nt-vs.toArray.size) undef).getD i undef=undef:=by
    rw[Array.getD_eq_getD_getElem?,Array.getElem?_append_right (by simp[hl];omega),Array.getElem?_replicate]
    split<;>rfl
   rw[e1,e2]
   exact .v undef
 ·show RB _ _ _ _ _ (([]:List (Option Bk)).getD b none)
  rw[List.getD_eq_getElem?_getD]
  rfl
 ·exfalso
  by_cases h1:i<args.length
  ·have e1:St.sl ⟨args.map T.d++List.replicate (nt-args.length) (.d (.v undef)),[]⟩ i=.d (args.getD i (.v undef)):=by
    simp[St.sl,List.getD_eq_getElem?_getD,List.getElem?_append_left,h1]
   rw[e1]at hb;simp[T.refs]at hb
  ·have e1:St.sl ⟨args.map T.d++List.replicate (nt-args.length) (.d (.v undef)),[]⟩ i=.d (.v undef)\/St.sl ⟨args.map T.d++List.replicate (nt-args.length) (.d (.v undef)),[]⟩ i=.au:=by
    simp only[St.sl,List.getD_eq_getElem?_getD]
    rw[List.getElem?_append_right (by simp;omega),List.getElem?_replicate]
    split
    ·exact .inl rfl
    ·exact .inr rfl
   rcases e1 with e1|e1<;>(rw[e1]at hb;simp[T.refs]at hb)
theorem XZ{f:FuncId}{c:Code}{res:bC}(hf:E.P.funcs[f]?=some fn)(hb:fn.body=some c)(hn:args.length<=fn.ntmps)
  (h:IG E c ⟨args.map T.d++List.replicate (fn.ntmps-args.length) (.d (.v undef)),[]⟩ fun e s=>(e=.normal\/e=.ret)/\yS E s fn.results.toList fun r=>r=res):mG E.P E.G f args res:=by
 intro S w vs hG hv
 refine calls_of_wp hf hb ?_
 have g:=zf fn.ntmps hn hG hv
 refine wp_mono (iD c h g) ?_
 rintro e a' w' ⟨s',ρ',⟨he,hr⟩,hg⟩
 obtain⟨r,v,rfl,h2,h3⟩:=zI (fun z hz=>hz.1) (fun _ _ _ h=>h) (fun _ (h:False)=>h.elim) hr hg
 rcases he with rfl|rfl
 ·exact⟨hg.defs,v,h2,v,rfl,h3,hg.iE.below fun _ h=>h⟩
 ·exact⟨hg.defs,v,h2,v,rfl,h3,hg.iE.below fun _ h=>h⟩
theorem EZ{q pos:Nat}{vs:List Value}{x:Bk}(nt:Nat)(hn:args.length+1<=nt)(hp:pos<=args.length)(hx:∀e sz n l,x≠ .sl e sz n l)(hq:q<w.heap.size)(hG:pI G (fun z=>S z/\z≠q) w)(hB:HB (fun z=>S z/\z≠q) w q x)(hv:mH (fun z=>S z/\z≠q) w args vs):
  Good S w.heap.size (⟨w,fun r=>r=q,some q,[]⟩:W0 G) ⟨(args.map T.d).insertIdx pos (.ptr 0 0)++List.replicate (nt- (args.length+1)) (.d (.v undef)),[some x]⟩ (fun b=>if b=0 then some (.pointer (some ⟨q,0,none⟩))else none)
   { tmps:=(vs.insertIdx pos (.pointer (some ⟨q,0,none⟩))).toArray++Array.replicate (nt- (vs.insertIdx pos (.pointer (some ⟨q,0,none⟩))).toArray.size) undef,defers:=[] } w:=by
 have hlen:∀{D:Nat->Prop} {l:List A} {vs:List Value},mH D w l vs->vs.length=l.length:=by
  intro D l vs h
  induction h with
  |nil=>rfl
  |cons _ _ ih=>simp[ih]
 have hl:=hlen hv
 let ρ0:Nat->Option Value:=fun b=>if b=0 then some (.pointer (some ⟨q,0,none⟩))else none
 have hρ0:∀b u,ρ0 b=some u->b=0/\u=.pointer (some ⟨q,0,none⟩):=by
  intro b u hb
  simp only[ρ0]at hb
  split at hb
  ·next e=>cases hb;exact⟨e,rfl⟩
  ·cases hb
 have D:Keeps (fun z=>S z/\z≠q) w (Dt S w.heap.size ρ0) w:=⟨Nat.le_refl _,fun r _ hs=>⟨⟨.inl hs.1,fun b u hb hu=>by
  obtain⟨_,rfl⟩:=hρ0 b u hb
  simp[Rl]at hu
  exact hs.2 hu.symm⟩,fun _=>rfl⟩⟩
 have hil:(vs.insertIdx pos (.pointer (some ⟨q,0,none⟩))).length=args.length+1:=by rw[List.length_insertIdx_of_le_length (by omega),hl]
 have bA4:((args.map T.d).insertIdx pos (.ptr 0 0)).length=args.length+1:=by rw[List.length_insertIdx_of_le_length (by simpa using hp)];simp
 have get:∀{l:List A} {vs:List Value},mH (fun z=>S z/\z≠q) w l vs->∀i,i<l.length->RA (fun z=>S z/\z≠q) w (l.getD i (.v undef)) (vs.getD i undef):=by
  intro l vs h
  induction h with
  |nil=>intro i hi;simp at hi
  |cons h r ih=>
   intro i hi
   cases i with
   |zero=>simpa using h
   |succ i=>simpa using ih i (by simpa using hi)
 have slot:∀i,St.sl ⟨(args.map T.d).insertIdx pos (.ptr 0 0)++List.replicate (nt- (args.length+1)) (.d (.v undef)),[some x]⟩ i=
   if i<pos then .d (args.getD i (.v undef))else if i=pos then .ptr 0 0 else if i<args.length+1 then .d (args.getD (i-1) (.v undef))else if i<nt then .d (.v undef)else .au:=by
  intro i
  simp only[St.sl,List.getD_eq_getElem?_getD]
  by_cases h0:i<args.length+1
  ·rw[List.getElem?_append_left (by omega),List.getElem?_insertIdx]
   by_cases h1:i<pos
   ·rw[if_pos h1,if_pos h1]
    have:i<args.length:=by omega
    simp[this]
   ·rw[if_neg h1,if_neg h1]
    by_cases h2:i=pos
    ·rw[if_pos h2,if_pos h2];simp[show i<=args.length by omega]
    ·rw[if_neg h2,if_neg h2,if_pos h0]
     have:i-1<args.length:=by omega
     simp[this]
  ·rw[if_neg (by omega),if_neg (by omega),if_neg h0,List.getElem?_append_right (by omega),List.getElem?_replicate]
   by_cases h3:i<nt
   ·rw[if_pos h3,if_pos (by omega)];rfl
   ·rw[if_neg h3,if_neg (by omega)];rfl
 refine⟨by simp[hil,bA4],fun i hi=>?_,fun b=>?_,fun i b hb=>?_,fun b b' u u' r h1 h2 h3 h4=>?_,fun b u r h1 h2=>?_,vR.refl _ _ _,hG.up D,fun z hz=>(by cases hz;rfl),Nat.le_refl _,rfl⟩
 ·rw[slot]
  have hi2:i<nt:=by simp[hil]at hi;omega
  have e2:(((vs.insertIdx pos (.pointer (some ⟨q,0,none⟩))).toArray++Array.replicate (nt- (vs.insertIdx pos (.pointer (some ⟨q,0,none⟩))).toArray.size) undef).getD i undef)=
    if i<pos then vs.getD i undef else if i=pos then .pointer (some ⟨q,0,none⟩)else if i<args.length+1 then vs.getD (i-1) undef else undef:=by
   rw[Array.getD_eq_getD_getElem?]
   by_cases h0:i<args.length+1
   ·rw[Array.getElem?_append_left (by simp[hil];omega),List.getElem?_toArray,List.getElem?_insertIdx]
    by_cases h1:i<pos
    ·rw[if_pos h1,if_pos h1];simp[List.getD_eq_getElem?_getD]
    ·rw[if_neg h1,if_neg h1]
     by_cases h2:i=pos
     ·rw[if_pos h2,if_pos h2];simp[hl,show i<=args.length by omega]
     ·rw[if_neg h2,if_neg h2,if_pos h0];simp[List.getD_eq_getElem?_getD]
   ·rw[if_neg (by omega),if_neg (by omega),if_neg h0,Array.getElem?_append_right (by simp[hil];omega),Array.getElem?_replicate]
    split<;>rfl
  rw[e2]
  by_cases h1:i<pos
  ·rw[if_pos h1,if_pos h1];exact RA.up D (get hv i (by omega))
  ·rw[if_neg h1,if_neg h1]
   by_cases h2:i=pos
   ·rw[if_pos h2,if_pos h2]
    intro u hu
    obtain⟨_,rfl⟩:=hρ0 0 u hu
    exact⟨q,.inl rfl,rfl⟩
   ·rw[if_neg h2,if_neg h2]
    by_cases h0:i<args.length+1
    ·rw[if_pos h0,if_pos h0];exact RA.up D (get hv (i-1) (by omega))
    ·rw[if_neg h0,if_neg h0,if_pos hi2];exact .v undef
 ·by_cases hb:b=0
  ·subst hb
   have hB':=hB.up D rfl
   show RB _ _ _ _ 0 (some x)
   cases x with
   |var l=>obtain⟨cs,t,e,e2⟩:=hB';exact⟨q,cs,t,rfl,trivial,e,e2⟩
   |obj p=>obtain⟨cs,t,e,e2⟩:=hB';exact⟨q,cs,t,rfl,trivial,e,e2⟩
   |abs p=>exact hB'.elim
   |vh=>exact hB'.elim
   |gone=>exact hB'.elim
   |bx=>exact hB'.elim
   |sl e sz n l=>exact(hx e sz n l rfl).elim
  ·have:St.bk ⟨(args.map T.d).insertIdx pos (.ptr 0 0)++List.replicate (nt- (args.length+1)) (.d (.v undef)),[some x]⟩ b=none:=by
    cases b with
    |zero=>exact absurd rfl hb
    |succ b=>simp[St.bk]
   rw[this]
   show ρ0 b=none
   exact if_neg hb
 ·rw[slot]at hb
  by_cases h1:i<pos
  ·rw[if_pos h1]at hb;simp[T.refs]at hb
  ·rw[if_neg h1]at hb
   by_cases h2:i=pos
   ·rw[if_pos h2]at hb
    simp[T.refs]at hb
    subst hb
    simp[St.bk]
   ·rw[if_neg h2]at hb
    by_cases h0:i<args.length+1
    ·rw[if_pos h0]at hb;simp[T.refs]at hb
    ·rw[if_neg h0]at hb
     split at hb<;>simp[T.refs]at hb
 ·obtain⟨rfl,_⟩:=hρ0 b u h1
  obtain⟨rfl,_⟩:=hρ0 b' u' h2
  rfl
 ·obtain⟨_,rfl⟩:=hρ0 b u h1
  simp[Rl]at h2
  subst h2
  exact⟨.inr rfl,hq⟩
theorem JH{f:FuncId}{c:Code}{pos:Nat}{x x':Bk}{res:bC}(hf:E.P.funcs[f]?=some fn)(hb:fn.body=some c)(hn:args.length+1<=fn.ntmps)(hp:pos<=args.length)(hx:∀e sz n l,x≠ .sl e sz n l)
  (h:∀(S:Nat->Prop) (base:Nat) (w0:W0 E.G) (ρ:Nat->Option Value) (a:Act) (w:World),Good S base w0 ⟨(args.map T.d).insertIdx pos (.ptr 0 0)++List.replicate (fn.ntmps- (args.length+1)) (.d (.v undef)),[some x]⟩ ρ a w->c.wp E.P (fun e a' w'=>∃s' ρ',((e=.normal\/e=.ret)/\s'.bk 0=some x'/\yS E s' fn.results.toList fun r=>r=res)/\Good S base w0 s' ρ' a' w') a w)(hres:∀y,res≠ .p y):QK E.P E.G f pos x args res x':=by
 intro S w q vs hq hG hB hv
 refine calls_of_wp hf hb ?_
 have g:=EZ fn.ntmps hn hp hx hq hG hB hv
 refine wp_mono (h _ _ _ _ _ _ g) ?_
 rintro e a' w' ⟨s',ρ',⟨he,hk,hr⟩,hg⟩
 have yB:=hg.pin q rfl
 have hnq:∀z,Dt S w.heap.size ρ' z->z≠q:=fun z hz e=>hz.2 0 _ yB (by rw[e];rfl)
 obtain⟨r,v,rfl,h2,h3⟩:=zI (S':=fun z=>S z/\z≠q) (fun z hz=>by
  rcases hz.1 with h1|h1
  ·exact .inl ⟨h1,hnq z hz⟩
  ·exact .inr h1) (fun y hy=>(hres y hy.symm).elim) (fun r (h:r=q)=>by rw[h]) hr hg
 have h4:HB (fun z=>(S z\/w.heap.size<=z)/\z≠q) w' q x':=by
  have hB':=hg.b 0
  rw[hk]at hB'
  have K:Keeps (Dt S w.heap.size ρ') w' (fun z=>(S z\/w.heap.size<=z)/\z≠q) w':=dw fun z hz=>⟨hz.1,hnq z hz⟩
  cases x' with
  |var l=>obtain⟨q',cs,t,e1,_,e2,e3⟩:=hB';rw[yB]at e1;cases e1;exact⟨cs,t,e2,e3.up K⟩
  |obj p=>obtain⟨q',cs,t,e1,_,e2,e3⟩:=hB';rw[yB]at e1;cases e1;exact⟨cs,t,e2,e3⟩
  |abs p=>obtain⟨q',F,e1,_⟩:=hB';rw[yB]at e1;exact(mV.1 _ (Option.some.inj e1).symm).elim
  |vh l off p e sz n m=>obtain⟨q',cs,t,su,ms,e1,_⟩:=hB';rw[yB]at e1;exact(kE.1 _ (Option.some.inj e1).symm).elim
  |gone=>obtain⟨n,e1⟩:=hB';rw[yB]at e1;cases e1
  |bx=>exact(hB'.1 rfl).elim
  |sl e sz n l=>
   exfalso
   obtain⟨u,cs,e1,e2,_⟩:=hB'
   rw[yB]at e1;cases e1
   rcases e2.2 with⟨e3,_⟩|⟨_,_,_,e3,_⟩<;>cases e3
 have h5:w.grownBy w' (some q):=⟨hg.iE.os,hg.iE.tape,hg.iE.output,hg.iE.size,fun k hk hne=>hg.iE.block k hk (fun e=>hne (by rw[e]))⟩
 rcases he with rfl|rfl
 ·exact⟨hg.defs,v,h2,v,rfl,h3,h4,h5⟩
 ·exact⟨hg.defs,v,h2,v,rfl,h3,h4,h5⟩
theorem FD{f:FuncId}{c:Code}{pos:Nat}{x x':Bk}{res:bC}(hf:E.P.funcs[f]?=some fn)(hb:fn.body=some c)(hn:args.length+1<=fn.ntmps)(hp:pos<=args.length)(hx:∀e sz n l,x≠ .sl e sz n l)
  (h:IG E c ⟨(args.map T.d).insertIdx pos (.ptr 0 0)++List.replicate (fn.ntmps- (args.length+1)) (.d (.v undef)),[some x]⟩ fun e s=>(e=.normal\/e=.ret)/\s.bk 0=some x'/\yS E s fn.results.toList fun r=>r=res)(hres:∀y,res≠ .p y):QK E.P E.G f pos x args res x':=
 JH hf hb hn hp hx (fun S base w0 ρ a w g=>iD c h g) hres
end
end
end Go.Proofs.YtegalalmamofdaaGreatDoor
