/- -/
import Derived.Test.YtegalalmamofdaaGreatDoorJ7
namespace Go.Proofs.YtegalalmamofdaaGreatDoor
set_option linter.all false
set_option maxRecDepth 100000
open Go.RowKit
variable{a:Act}{w w':World}{c:Call}{y:Operand}{f:FuncId}{b:Nat}{D S:Nat->Prop}{ρ ρ':Nat->Option Value}{ops:List Oper}
section
section
variable {E : ak} {o : Oper} {s : St} {fr : Nat}
theorem sZ{fn:Func}(ho:o.op=.call c)(hc:c.callee=.value y)(hy:a.eval y=.func (.func f) #[] #[])(hf:E.P.funcs[f]?=some fn)(hb:fn.body.isNone=false)(hn:(fn.name== "runtime.NumGoroutine")=false):
  (execOp a.eval o).run E.P w=.ok (.enter f (c.args.toList.map a.eval).toArray) w:=by
 have e:(c.args.toList.map a.eval).toArray=c.args.map a.eval:=by
  apply Array.ext';simp
 rw[e]
 simp only[execOp,ho,resolve,hc,hy,Deferred.ofValue,Sem.run_bind,Sem.run_pure,Result.andThen_ok,invoke,callFunc,run_program,hf,hb,hn]
 simp
theorem YD{t:TypeId}{x:Operand}{b:ByteArray}(ho:o.op=.call c)(hc:c.callee=.builtin .len)(ha:c.args.toList=[x])(ht:c.argTypes.toList=[t])
  (hu:E.P.underlying t=some .string)(hx:s.ev x=.d (.v (.string b))):cO E o s fr (.d (.v (.int .i64 b.size))) none:=by
 have hca:c.args=#[x]:=by cases hq:c.args;simp_all
 have hct:c.argTypes=#[t]:=by cases hq:c.argTypes;simp_all
 have hm:x∈o.op.operands:=by rw[ho];simp[Op.operands,Call.operands,hc,hca]
 refine .pure (fun b hb=>by simp[T.refs]at hb) fun S base w0 s' ρ a w hs g=>⟨_,?_,.v _⟩
 have hv:a.eval x=.string b:=bA hs g hm hx
 simp[execOp,ho,resolve,hc,hca,hct,invoke,builtin,Builtin.len_,hv,Sem.run_bind,run_underlying hu w,goInt]
theorem Pn{l:List T}(h:CB l=some b):(∀t∈l,∀c∈t.refs,c=b)/\∃t∈l,b∈t.refs:=by
 unfold CB at h
 split at h
 ·next c r e=>
  split at h
  ·next hr=>
   cases h
   rw[List.all_eq_true]at hr
   refine⟨fun t ht d hd=>?_,?_⟩
   ·have hm:d∈l.flatMap T.refs:=List.mem_flatMap.2 ⟨t,ht,hd⟩
    rw[e]at hm
    rcases List.mem_cons.1 hm with hm|hm
    ·exact hm
    ·simpa using hr d hm
   ·have hm:b∈l.flatMap T.refs:=by rw[e];exact List.mem_cons_self
    obtain⟨t,ht,hd⟩:=List.mem_flatMap.1 hm
    exact⟨t,ht,hd⟩
  ·cases h
 ·cases h
theorem RT.gone{D D':Nat->Prop}(K:Keeps D w D' w'){ad:Option Addr}{N c:Nat}(hu:ρ b=some (.slice ad N c))(hρ:∀b',b'≠b->ρ' b'=ρ b')(h0:ρ' b=some (.slice none (N+1) 0)){t:T}{v:Value}(h:RT D ρ w t v):RT D' ρ' w' t v:=by
 have other:∀{t:T},(∀b'∈t.refs,b'≠b)->RT D ρ w t v->RT D' ρ' w' t v:=fun hn h=>h.up K fun b' hb'=>hρ b' (hn b' hb')
 cases t with
 |d a=>exact other (by simp[T.refs]) h
 |yE l=>exact other (by simp[T.refs]) h
 |au=>trivial
 |ptr b' base=>
  by_cases e:b'=b
  ·subst e;obtain⟨r,h1,_⟩:=h _ hu;exact h1.slice.elim
  ·exact other (by simp[T.refs,e]) h
 |xg b' base rel=>
  by_cases e:b'=b
  ·subst e;obtain⟨r,h1,_⟩:=h _ hu;exact h1.slice.elim
  ·exact other (by simp[T.refs,e]) h
 |win b' base n=>
  by_cases e:b'=b
  ·subst e;obtain⟨r,c',h1,_⟩:=h _ hu;exact h1.slice.elim
  ·exact other (by simp[T.refs,e]) h
 |ob b'=>
  by_cases e:b'=b
  ·subst e;obtain⟨r,F,h1,_⟩:=h _ hu;exact(mV.2 _ _ _ h1.symm).elim
  ·exact other (by simp[T.refs,e]) h
 |mp b'=>
  by_cases e:b'=b
  ·subst e;obtain⟨r,F,h1,_⟩:=h _ hu;exact(mV.2 _ _ _ h1.symm).elim
  ·exact other (by simp[T.refs,e]) h
 |NC b' c'=>
  by_cases e:b'=b
  ·subst e;obtain⟨r,h1,_⟩:=h _ hu;exact h1.slice.elim
  ·intro u hu';rw[hρ b' e]at hu';exact h u hu'
 |hsl b' n=>
  by_cases e:b'=b
  ·subst e
   rcases h _ hu with⟨r,a,n',c',h1,_⟩|⟨r,h1⟩
   ·exact(kE.2 _ _ _ h1.symm).elim
   ·cases h1
  ·exact other (by simp[T.refs,e]) h
 |own b' n=>
  by_cases e:b'=b
  ·subst e
   intro u hu'
   obtain⟨a,n',c',h1,h2,_⟩:=h _ hu
   cases h1
   rw[h0]at hu';cases hu'
   exact⟨none,N+1,0,rfl,by omega,fun e=>by omega⟩
  ·exact other (by simp[T.refs,e]) h
 |BX b' n off=>
  by_cases e:b'=b
  ·subst e
   intro u hu'
   obtain⟨a,n',c',h1,h2,_⟩:=h _ hu
   cases h1
   rw[h0]at hu';cases hu'
   exact⟨none,N+1,0,rfl,by omega,fun e=>by omega⟩
  ·exact other (by simp[T.refs,e]) h
 |pre b' n m=>
  by_cases e:b'=b
  ·subst e
   intro u hu'
   obtain⟨a,n',c',h1,h2,_⟩:=h _ hu
   cases h1
   rw[h0]at hu';cases hu'
   exact⟨none,N+1,0,rfl,by omega,fun e=>by omega⟩
  ·exact other (by simp[T.refs,e]) h
 |rows l=>
  obtain⟨vs,h1,h2⟩:=h
  refine⟨vs,h1.map fun p hp x hx=>?_,h2.up K⟩
  cases p with
  |dat a=>exact RA.up K hx
  |own b' n=>
   by_cases e:b'=b
   ·subst e
    intro u hu'
    obtain⟨a,n',c',h1,h2,_⟩:=hx _ hu
    cases h1
    rw[h0]at hu';cases hu'
    exact⟨none,N+1,0,rfl,by omega,fun e=>by omega⟩
   ·exact RP.up K (by simp[Pt.refs];exact hρ b' e) hx
  |win b' base n=>
   by_cases e:b'=b
   ·subst e;obtain⟨r,c',h1,_⟩:=hx _ hu;exact h1.slice.elim
   ·exact RP.up K (by simp[Pt.refs];exact hρ b' e) hx
theorem Dr(ho:o.op=.call c)(hc:c.callee=.value y)(hy:s.ev y=.d (.v (.func (.func f) #[] #[]))){ds:List A}{dF:Bool}(hC:∃fn,E.P.funcs[f]?=some fn/\fn.body.isNone=false/\(fn.name== "runtime.NumGoroutine")=false)
  (hargs:∀(S:Nat->Prop) (base:Nat) (w0:W0 E.G) (s':St) (ρ:Nat->Option Value) (a:Act) (w:World),(∀x∈c.args.toList,s'.ev x=s.ev x/\∀b∈(s.ev x).refs,s'.bk b=s.bk b)->Good S base w0 s' ρ a w->
   (∀D':Nat->Prop,(∀q,Dt S base ρ q->D' q)->(∀x∈c.args.toList,∀b∈(s.ev x).refs,∀u q,ρ b=some u->Rl u q->D' q)->mH D' w ds (c.args.toList.map a.eval))/\(dF=false->mH (Dt S base ρ) w ds (c.args.toList.map a.eval)))
  {r:bC}(hok:mG E.P E.G f ds r){b n sz:Nat}{e:TypeId}{l:List Seg}(hown:CB (c.args.toList.map s.ev)=some b)(hb:s.bk b=some (.sl e sz n l)){t:T}(ht:t.refs=[])
  (hres:∀{D:Nat->Prop} {ρ:Nat->Option Value} {B:Nat} {w:World} {v:Value},RR D B w r v->(∀q,B<=q->q<w.heap.size->D q)->RT D ρ w t v)(cI6:∀{D D':Nat->Prop} {ρ:Nat->Option Value} {w w':World} {v:Value},Keeps D w D' w'->RT D ρ w t v->RT D' ρ w' t v):cO E o s fr t (some (b,.gone)):=by
 obtain⟨fn,hf,hbd,hn⟩:=hC
 obtain⟨hall,t0,ht0,hbt⟩:=Pn hown
 obtain⟨x0,hx0,rfl⟩:=List.mem_map.1 ht0
 have hmem:∀x∈c.args.toList,x∈o.op.operands:=fun x hx=>by rw[ho];simp only[Op.operands,Call.operands,Array.mem_append];right;simpa using hx
 have IV:y∈o.op.operands:=by rw[ho];simp[Op.operands,Call.operands,hc]
 have hlk:looks o=true:=by simp[looks,ho]
 refine⟨fun b' hb'=>by rw[ht]at hb';simp at hb',fun b' x e=>by cases e;exact .inr ⟨x0,hmem _ hx0,hbt⟩,fun S base w0 s' ρ a w K Q hs g hfr hlt hK=>?_⟩
 have hbk:s'.bk b=some (.sl e sz n l):=(hs.bk (hmem _ hx0) hlk hbt).trans hb
 have hB:=g.b b
 rw[hbk]at hB
 obtain⟨u,ms,h1,h4,h5⟩:=hB
 obtain⟨ad,cc,hform⟩:=ownsRow_form h4
 have hu1:ρ b=some (.slice ad n cc):=by rw[h1,hform]
 have hnil:∀q,¬Rl (.slice none (n+1) 0) q:=fun q h=>h
 obtain⟨ρ',hρ'⟩:∃ρ',ρ'=upd ρ b (some (.slice none (n+1) 0)):=⟨_,rfl⟩
 have hu:∀b',b'≠b->ρ' b'=ρ b':=fun b' hb'=>by simp[hρ',upd,hb']
 have hu0:ρ' b=some (.slice none (n+1) 0):=by simp[hρ',upd]
 have hD:∀z,Dt S base ρ z->Dt S base ρ' z:=fun z hz=>⟨hz.1,fun b' v hb' hv=>by
  by_cases e:b'=b
  ·subst e;rw[hu0]at hb';cases hb';exact hnil _ hv
  ·rw[hu b' e]at hb';exact hz.2 b' v hb' hv⟩
 have hO:∀z,Rl u z->Dt S base ρ' z:=fun z hz=>⟨.inr (iM h4 hz).1,fun b' v hb' hv=>by
  by_cases e:b'=b
  ·subst e;rw[hu0]at hb';cases hb';exact hnil _ hv
  ·rw[hu b' e]at hb';exact e (g.inj b' b v u z hb' h1 hv hz)⟩
 obtain⟨a1,_⟩:=hargs S base w0 s' ρ a w (fun x hx=>⟨(hs x (hmem x hx)).1,fun b hb=>hs.bk (hmem x hx) hlk hb⟩) g
 unfold Oper.wp
 rw[sZ ho hc (bA hs g IV hy) hf hbd hn,Oper.upon_enter]
 refine(hok (Dt S base ρ') w _ (g.glob.up (dw hD)) (a1 _ hD (fun x hx b' hb' u' z hu' hz=>?_))).mono ?_
 ·obtain rfl:=hall _ (List.mem_map.2 ⟨x,hx,rfl⟩) b' hb'
  rw[h1]at hu';cases hu'
  exact hO z hz
 rintro e' w' ⟨v,rfl,hr,hbel⟩
 have hgr:w.grownBy w' none:=⟨hbel.os,hbel.tape,hbel.output,hbel.size,fun k hk _=>hbel.block k hk⟩
 have g2:=g.change b (sQ hbk) (.slice none (n+1) 0) .gone none hgr (by simp) (fun r hr=>(hnil r hr).elim) (fun _=>⟨n+1,by simp[upd]⟩) (fun K0 i hi hm=>RT.gone K0 hu1 (fun b' hb'=>by simp[upd,hb']) (by simp[upd]) (g.t i hi)) (fun q hq=>by rw[hu1]at hq;cases hq)
 rw[<-hρ']at g2
 have hnew:∀q,w.heap.size<=q->Dt S base ρ' q:=fun q hq=>⟨.inr (Nat.le_trans g.size hq),fun b' v hb' hv=>by
  by_cases e:b'=b
  ·subst e;rw[hu0]at hb';cases hb';exact hnil _ hv
  ·rw[hu b' e]at hb';have:=(g.low b' v q hb' hv).2;omega⟩
 exact hK _ _ _ (g2.put' o.dst (t:=t) (hres (ρ:=ρ') hr fun q hq _=>hnew q hq) (by rw[ht];simp))
theorem aV2{k:KO}(ho:o.op=.call c)(hc:c.callee=.value y)(hy:s.ev y=.d (.v (.func (.func f) #[] #[])))
  (h:sP s (c.args.toList.map s.ev) fun l dF=>E.C f l fun r=>Vd (dF&& !(iG r||E.fr f)) (CB (c.args.toList.map s.ev)) s fr k r):∃t blk,k t blk/\cO E o s fr t blk:=by
 obtain⟨ds,dF,hC,hargs⟩:=jJ h
 have FQ:=E.hF _ _ _ hC
 obtain⟨fn,hf,hb,hn⟩:=FQ
 obtain⟨r,hok,hnew,hcall⟩:∃r,mG E.P E.G f ds r/\(E.fr f=true->FnF E.P E.G f ds r)/\Vd (dF&& !(iG r||E.fr f)) (CB (c.args.toList.map s.ev)) s fr k r:=by
  by_cases hf0:E.fr f=true
  ·obtain⟨r,h1,h2,h3⟩:=E.hfr _ _ _ hf0 hC
   exact⟨r,h1,fun _=>h2,h3⟩
  ·obtain⟨r,h1,h3⟩:=E.hC _ _ _ hC
   exact⟨r,h1,fun h=>absurd h hf0,h3⟩
 cases Ou:(dF&& !(iG r||E.fr f))with
 |true=>
  rw[Ou]at hcall
  simp only[Vd]at hcall
  split at hcall
  ·next b hown=>
   split at hcall
   ·next e sz n l hbk=>
    split at hcall
    ·next x=>
     exact⟨_,_,hcall,Dr ho hc hy ⟨fn,hf,hb,hn⟩ hargs hok hown hbk rfl (fun {D ρ B w v} hr hq=>RA.up (w':=w) ⟨Nat.le_refl _,fun q hl hs=>⟨hs.elim id fun h=>hq q h hl,fun _=>rfl⟩⟩ hr) (fun K h=>RA.up K h)⟩
    ·next l=>
     exact⟨_,_,hcall,Dr ho hc hy ⟨fn,hf,hb,hn⟩ hargs hok hown hbk rfl (fun {D ρ B w v} hr hq=>by
      obtain⟨vs,h1,h2⟩:=hr
      exact⟨vs,h1,mH.up (w':=w) ⟨Nat.le_refl _,fun q hl hs=>⟨hs.elim id fun h=>hq q h hl,fun _=>rfl⟩⟩ h2⟩) (fun K h=>by obtain⟨vs,h1,h2⟩:=h;exact⟨vs,h1,h2.up K⟩)⟩
    ·exact hcall.elim
   ·exact hcall.elim
  ·exact hcall.elim
 |false=>
 rw[Ou]at hcall
 have hk:cg2 fr k r:=hcall
 have bA3:dF=true->(iG r||E.fr f)=true:=fun h=>by
  rw[h,Bool.true_and]at Ou
  cases hx:(iG r||E.fr f)with
  |true=>rfl
  |false=>rw[hx]at Ou;cases Ou
 obtain⟨bad,hbad⟩:∃bad,bad=(dF&& !E.fr f):=⟨_,rfl⟩
 have FP:bad=true->iG r=true:=fun h=>by
  rw[hbad,Bool.and_eq_true]at h
  have h2:=bA3 h.1
  have h3:E.fr f=false:=by simpa using h.2
  rw[h3,Bool.or_false]at h2
  exact h2
 have hmem:∀x∈c.args.toList,x∈o.op.operands:=fun x hx=>by rw[ho];simp only[Op.operands,Call.operands,Array.mem_append];right;simpa using hx
 have IV:y∈o.op.operands:=by rw[ho];simp[Op.operands,Call.operands,hc]
 -- the call jq it runs,to a value in a later world
 have run:∀(S:Nat->Prop) (base:Nat) (w0:W0 E.G) (s':St) (ρ:Nat->Option Value) (a:Act) (w:World) (K:Act->World->Prop) (Q:Exit->Act->World->Prop),
   Same o s s'->Good S base w0 s' ρ a w->(∀v w',Below w.heap.size w w'->(∃S0,RR S0 w.heap.size w' r v/\(bad=false->∀q,S0 q->Dt S base ρ q))->K (a.put o.dst v) w')->o.wp E.P a w K Q:=by
  intro S base w0 s' ρ a w K Q hs g hK
  obtain⟨h1,h2⟩:=hargs S base w0 s' ρ a w (fun x hx=>⟨(hs x (hmem x hx)).1,fun b hb=>hs.bk (hmem x hx) (by simp[looks,ho]) hb⟩) g
  unfold Oper.wp
  rw[sZ ho hc (bA hs g IV hy) hf hb hn,Oper.upon_enter]
  cases hf0:E.fr f with
  |true=>
   refine(hnew hf0 (fun _=>True) w _ (g.glob.up qA) (h1 _ (fun _ _=>trivial) (fun _ _ _ _ _ _ _ _=>trivial))).mono ?_
   rintro e w' ⟨v,rfl,h3,h4⟩
   exact hK v w' h4 ⟨_,h3,fun _ q hq=>hq.elim⟩
  |false=>
   cases hl:dF with
   |true=>
    refine(hok (fun _=>True) w _ (g.glob.up qA) (h1 _ (fun _ _=>trivial) (fun _ _ _ _ _ _ _ _=>trivial))).mono ?_
    rintro e w' ⟨v,rfl,h3,h4⟩
    exact hK v w' h4 ⟨_,h3,fun e=>by rw[hbad,hl,hf0]at e;cases e⟩
   |false=>
    refine(hok (Dt S base ρ) w _ g.glob (h2 hl)).mono ?_
    rintro e w' ⟨v,rfl,h3,h4⟩
    exact hK v w' h4 ⟨_,h3,fun _ q hq=>hq⟩
 have grown:∀{w w':World},Below w.heap.size w w'->w.grownBy w' none:=fun h=>⟨h.os,h.tape,h.output,h.size,fun k hk _=>h.block k hk⟩
 -- where the answer may lie
 have lies:∀{S:Nat->Prop} {base:Nat} {w0:W0 E.G} {s':St} {ρ:Nat->Option Value} {a:Act} {w w':World} {S0:Nat->Prop},Good S base w0 s' ρ a w->(∀q,S0 q->Dt S base ρ q)->Keeps (fun q=>S0 q\/w.heap.size<=q) w' (Dt S base ρ) w':=
  fun {S base w0 s' ρ a w w' S0} g h0=>⟨Nat.le_refl _,fun q hq hs=>⟨by
   rcases hs with hs|hs
   ·exact h0 q hs
   ·exact⟨.inr (Nat.le_trans g.size hs),fun b u hb hu=>by have:=(g.low b u q hb hu).2;omega⟩,fun _=>rfl⟩⟩
 cases r with
 |d x=>
  refine⟨.d x,none,hk,fun b hb=>by simp[T.refs]at hb,fun b x e=>(by cases e),fun S base w0 s' ρ a w K Q hs g _ _ hK=>?_⟩
  refine run S base w0 s' ρ a w K Q hs g fun v w' hbel ⟨S0,hr,h0⟩=>?_
  obtain⟨g2,k2⟩:=g.grow (grown hbel)
  refine hK _ _ ρ (g2.put' o.dst (t:=.d x) ?_ (by simp[T.refs]))
  cases hl:bad with
  |true=>exact rE (FP hl) hr
  |false=>exact RA.up (lies g (h0 hl)) hr
 |t l=>
  refine⟨.yE l,none,hk,fun b hb=>by simp[T.refs]at hb,fun b x e=>(by cases e),fun S base w0 s' ρ a w K Q hs g _ _ hK=>?_⟩
  refine run S base w0 s' ρ a w K Q hs g fun v w' hbel ⟨S0,hr,h0⟩=>?_
  obtain⟨vs,rfl,hr⟩:=hr
  obtain⟨g2,k2⟩:=g.grow (grown hbel)
  refine hK _ _ ρ (g2.put' o.dst (t:=.yE l) ⟨vs,rfl,?_⟩ (by simp[T.refs]))
  cases hl:bad with
  |true=>exact hr.flat (FP hl)
  |false=>exact hr.up (lies g (h0 hl))
 |o e sz n l=>
  refine⟨.own fr n,some (fr,.sl e sz n l),hk,fun b hb=>.inl ⟨by simpa[T.refs]using hb,_,rfl⟩,fun b x e=>by cases e;exact .inl rfl,fun S base w0 s' ρ a w K Q hs g hfr hlt hK=>?_⟩
  refine run S base w0 s' ρ a w K Q hs g fun v w' hbel ⟨S0,⟨cs,hr,hc2⟩,h0⟩=>?_
  have hgr:=grown hbel
  have hform:∃ad c,v=.slice ad n c:=by
   rcases hr.2 with⟨e1,e2⟩|⟨q,cap,cur,e1,_⟩
   ·exact⟨_,_,by rw[e1,e2]⟩
   ·exact⟨_,_,e1⟩
  have AB:∀q,Rl v q->w.heap.size<=q/\q<w'.heap.size/\v.ownBlock=some q:=by
   intro q hq
   rcases hr.2 with⟨e1,e2⟩|⟨q',cap,cur,e1,e3,e4,_⟩
   ·rw[e1]at hq;cases hq
   ·rw[e1]at hq;cases hq
    exact⟨e3,(Array.getElem?_eq_some_iff.1 e4).1,by rw[e1];rfl⟩
  have g2:=g.change fr hlt v (.sl e sz n l) none hgr (by simp) (fun q hq=>⟨.inl (AB q hq).1,(AB q hq).2.1⟩) (by
    intro K0
    refine⟨v,cs,by simp[upd],?_,?_⟩
    ·refine⟨hr.1,?_⟩
     rcases hr.2 with h|⟨q',cap,cur,e1,e3,e4⟩
     ·exact .inl h
     ·exact .inr ⟨q',cap,cur,e1,Nat.le_trans g.size e3,e4⟩
    ·cases hl:bad with
     |true=>exact pW (FP hl) hc2
     |false=>
      refine RL.up ⟨Nat.le_refl _,fun q hq hs2=>⟨⟨?_,fun b u hb hu=>?_⟩,fun _=>rfl⟩⟩ hc2
      ·rcases hs2.1 with h3|h3
       ·exact(h0 hl q h3).1
       ·exact .inr (Nat.le_trans g.size h3)
      ·by_cases hbf:b=fr
       ·subst hbf
        simp[upd]at hb
        subst hb
        exact hs2.2 (AB q hu).2.2
       ·simp[upd,hbf]at hb
        rcases hs2.1 with h3|h3
        ·exact(h0 hl q h3).2 b u hb hu
        ·have:=(g.low b u q hb hu).2;omega) (by
    intro _ i hi hm
    exact absurd hfr (g.ru i fr hm)) (fun q hq=>by have h0:=g.b fr;rw[hfr]at h0;have h0':ρ fr=none:=h0;rw[h0']at hq;cases hq)
  refine hK _ _ _ (g2.put' o.dst (t:=.own fr n) ?_ ?_)
  ·intro u hu
   simp[upd]at hu
   obtain⟨ad,c',e1⟩:=hform
   exact⟨ad,n,c',by rw[<-hu,e1],Nat.le_refl _,fun _=>hu⟩
  ·intro b hb
   simp[T.refs]at hb
   subst hb
   simp[St.bk,aB,hlt]
 |p x=>
  refine⟨.ptr fr 0,some (fr,x),hk,fun b hb=>.inl ⟨by simpa[T.refs]using hb,_,rfl⟩,fun b x e=>by cases e;exact .inl rfl,fun S base w0 s' ρ a w K Q hs g hfr hlt hK=>?_⟩
  refine run S base w0 s' ρ a w K Q hs g fun v w' hbel ⟨S0,⟨q,hv,hq,hB⟩,h0⟩=>?_
  have hgr:=grown hbel
  have ct0:q<w'.heap.size:=by
   cases x with
   |var l=>obtain⟨cs,t,e,_⟩:=hB;exact(Array.getElem?_eq_some_iff.1 e).1
   |obj p=>obtain⟨cs,t,e,_⟩:=hB;exact(Array.getElem?_eq_some_iff.1 e).1
   |sl=>exact hB.elim
   |abs=>exact hB.elim
   |vh=>exact hB.elim
   |gone=>exact hB.elim
   |bx=>exact hB.elim
  have AB:∀z,Rl v z->z=q:=by intro z hz;rw[hv]at hz;exact hz.symm
  have g2:=g.change fr hlt v x none hgr (by simp) (fun z hz=>by rw[AB z hz];exact⟨.inl hq,ct0⟩) (by
    intro K0
    cases x with
    |sl=>exact hB.elim
    |abs=>exact hB.elim
    |vh=>exact hB.elim
    |gone=>exact hB.elim
    |bx=>exact hB.elim
    |obj p=>obtain⟨cs,t,e,e2⟩:=hB;exact⟨q,cs,t,by simp[upd,hv],trivial,e,e2⟩
    |var l=>
     obtain⟨cs,t,e,e2⟩:=hB
     refine⟨q,cs,t,by simp[upd,hv],trivial,e,?_⟩
     cases hl:bad with
     |true=>exact pW (FP hl) e2
     |false=>
      refine RL.up ⟨Nat.le_refl _,fun z hz hs2=>⟨⟨?_,fun b u hb hu=>?_⟩,fun _=>rfl⟩⟩ e2
      ·rcases hs2.1 with h3|h3
       ·exact(h0 hl z h3).1
       ·exact .inr (Nat.le_trans g.size h3)
      ·by_cases hbf:b=fr
       ·subst hbf
        simp[upd]at hb
        subst hb
        exact hs2.2 (AB z hu)
       ·simp[upd,hbf]at hb
        rcases hs2.1 with h3|h3
        ·exact(h0 hl z h3).2 b u hb hu
        ·have:=(g.low b u z hb hu).2;omega) (by
    intro _ i hi hm
    exact absurd hfr (g.ru i fr hm)) (fun q hq=>by have h0:=g.b fr;rw[hfr]at h0;have h0':ρ fr=none:=h0;rw[h0']at hq;cases hq)
  refine hK _ _ _ (g2.put' o.dst (t:=.ptr fr 0) ?_ ?_)
  ·intro u hu
   simp[upd]at hu
   exact⟨q,.inl (by rw[<-hu,hv]),hv⟩
  ·intro b hb
   simp[T.refs]at hb
   subst hb
   simp[St.bk,aB,hlt]
 |ob p=>
  refine⟨.ob fr,some (fr,.abs p),hk,fun b hb=>.inl ⟨by simpa[T.refs]using hb,_,rfl⟩,fun b x e=>by cases e;exact .inl rfl,fun S base w0 s' ρ a w K Q hs g hfr hlt hK=>?_⟩
  refine run S base w0 s' ρ a w K Q hs g fun v w' hbel ⟨S0,⟨q,F,hv,hq,hB⟩,h0⟩=>?_
  have hgr:=grown hbel
  have g2:=g.change fr hlt (qV (q::F)) (.abs p) none hgr (by simp) (fun z hz=>by have:=hq z (iT.1 hz);exact⟨.inl this.1,this.2⟩) (by
    intro K0
    refine⟨q,F,by simp[upd],fun z hz=>(hq z hz).2,?_⟩
    cases hl:bad with
    |true=>exact absurd (FP hl) (by simp[iG])
    |false=>
     refine p.up ⟨Nat.le_refl _,fun z hz hs2=>⟨⟨?_,fun b u hb hu=>?_⟩,fun _=>rfl⟩⟩ (fun _ _=>rfl) hB
     ·rcases hs2.1 with h3|h3
      ·exact(h0 hl z h3).1
      ·exact .inr (Nat.le_trans g.size h3)
     ·by_cases hbf:b=fr
      ·subst hbf
       simp[upd]at hb
       subst hb
       exact hs2.2 (iT.1 hu)
      ·simp[upd,hbf]at hb
       rcases hs2.1 with h3|h3
       ·exact(h0 hl z h3).2 b u hb hu
       ·have:=(g.low b u z hb hu).2;omega) (by
    intro _ i hi hm
    exact absurd hfr (g.ru i fr hm)) (fun q hq=>by have h0:=g.b fr;rw[hfr]at h0;have h0':ρ fr=none:=h0;rw[h0']at hq;cases hq)
  refine hK _ _ _ (g2.put' o.dst (t:=.ob fr) ?_ ?_)
  ·intro u hu
   simp[upd]at hu
   exact⟨q,F,hu.symm,hv⟩
  ·intro b hb
   simp[T.refs]at hb
   subst hb
   simp[St.bk,aB,hlt]
theorem rJ:∀{xs:List Operand} {pos b:Nat} {rest:List T},wS (xs.map s.ev)=some (pos,b,rest)->
  ∃(ys:List Operand) (x:Operand),rest=ys.map s.ev/\s.ev x=.ptr b 0/\x∈xs/\(∀y∈ys,y∈xs)/\∀(f:Operand->Value),xs.map f=(ys.map f).insertIdx pos (f x)
 |[],pos,b,rest,h=>by cases h
 |x::xs,pos,b,rest,h=>by
  simp only[List.map_cons,wS]at h
  split at h
  ·next b' hx=>cases h;exact⟨xs,x,rfl,hx,by simp,fun y hy=>by simp[hy],fun f=>by simp⟩
  ·split at h
   ·next i b' l hl=>
    cases h
    obtain⟨ys,z,h1,h2,h3,h4,h5⟩:=rJ hl
    exact⟨x::ys,z,by rw[h1];rfl,h2,by simp[h3],fun y hy=>by rcases List.mem_cons.1 hy with rfl|hy;simp;simp[h4 y hy],fun f=>by rw[List.map_cons,h5 f];rfl⟩
   ·cases h
theorem SY{ys:List Operand}(h:yO b (ys.map s.ev)=true):∀y∈ys,b∉(s.ev y).refs:=by
 intro y hy hb
 unfold yO at h
 rw[List.all_eq_true]at h
 have:=h _ (List.mem_map.2 ⟨y,hy,rfl⟩)
 simp only[Bool.not_eq_true',<-Bool.not_eq_true,List.contains_iff_mem]at this
 exact this hb
theorem Hu{pos b:Nat}{rest:List T}{x:Bk}{K:Bool->bC->Bk->Prop}(ho:o.op=.call c)(hc:c.callee=.value y)(hy:s.ev y=.d (.v (.func (.func f) #[] #[])))
  (hl:wS (c.args.toList.map s.ev)=some (pos,b,rest))(hb:s.bk b=some x)(hnl:yO b rest=true)(h:sP s rest fun l dF=>E.M f pos x l (K dF))(hvh:∀l off p e sz n m,x≠ .vh l off p e sz n m)(hbx:x≠ .bx:=by intro e;cases e):
  ∃r x' dF,K dF r x'/\∀(S:Nat->Prop) (base:Nat) (w0:W0 E.G) (s':St) (ρ:Nat->Option Value) (a:Act) (w:World) (K':Act->World->Prop) (Q:Exit->Act->World->Prop),
   Same o s s'->Good S base w0 s' ρ a w->(∀v w' q,ρ b=some (.pointer (some ⟨q,0,none⟩))->w.grownBy w' (some q)->(∃S0:Nat->Prop,RR (fun z=>S0 z/\z≠q) w.heap.size w' r v/\HB (fun z=>(S0 z\/w.heap.size<=z)/\z≠q) w' q x'/\(dF=false->∀z,S0 z->Dt S base ρ z))->K' (a.put o.dst v) w')->o.wp E.P a w K' Q:=by
 obtain⟨ys,xx,rfl,VG,hxm,hym,hmap⟩:=rJ hl
 obtain⟨ds,dF,hM,hargs⟩:=jJ h
 obtain⟨⟨r,x',hok,hK⟩,fn,hfn,hbd,hn⟩:=E.Ya _ _ _ _ _ hM
 refine⟨r,x',dF,hK,fun S base w0 s' ρ a w K' Q hs g hK'=>?_⟩
 have hmem:∀x∈c.args.toList,x∈o.op.operands:=fun x hx=>by rw[ho];simp only[Op.operands,Call.operands,Array.mem_append];right;simpa using hx
 have IV:y∈o.op.operands:=by rw[ho];simp[Op.operands,Call.operands,hc]
 have hlk:looks o=true:=by simp[looks,ho]
 have hbk:s'.bk b=some x:=(hs.bk (hmem _ hxm) hlk (by rw[VG];simp[T.refs])).trans hb
 have hB:=g.b b
 rw[hbk]at hB
 obtain⟨q,hρ,hhb⟩:∃q,ρ b=some (.pointer (some ⟨q,0,none⟩))/\HB (Dt S base ρ) w q x:=by
  cases x with
  |var l=>obtain⟨q,cs,t,h1,_,h2,h3⟩:=hB;exact⟨q,h1,cs,t,h2,h3⟩
  |obj p=>obtain⟨q,cs,t,h1,_,h2,h3⟩:=hB;exact⟨q,h1,cs,t,h2,h3⟩
  |abs p=>
   exfalso
   obtain⟨q,F,h1,_⟩:=hB
   have h3:=bB hs g (hmem _ hxm) VG _ h1
   obtain⟨r',h4,_⟩:=h3
   exact h4.qV
  |vh=>exact(hvh _ _ _ _ _ _ _ rfl).elim
  |bx=>exact(hbx rfl).elim
  |gone=>
   exfalso
   obtain⟨n,h1⟩:=hB
   have h3:=bB hs g (hmem _ hxm) VG _ h1
   obtain⟨r',h4,_⟩:=h3
   exact h4.slice
  |sl e sz n l=>
   exfalso
   obtain⟨u,cs,h1,h2,_⟩:=hB
   have h3:=bB hs g (hmem _ hxm) VG u h1
   obtain⟨r',h4,_⟩:=h3
   rcases h2.2 with⟨e1,_⟩|⟨_,_,_,e1,_⟩<;>rw[e1]at h4<;>exact h4.slice
 have hval:a.eval xx=.pointer (some ⟨q,0,none⟩):=by
  obtain⟨r',h4,h5⟩:=bB hs g (hmem _ hxm) VG _ hρ
  obtain rfl:=h4.ptr;exact h5
 obtain⟨h1,h2⟩:=hargs S base w0 s' ρ a w (fun x hx=>⟨(hs x (hmem x (hym x hx))).1,fun b hb=>hs.bk (hmem x (hym x hx)) hlk hb⟩) g
 have hq:=g.low b _ q hρ rfl
 have hnq:∀z,Dt S base ρ z->z≠q:=fun z hz e=>hz.2 b _ hρ (by rw[e];rfl)
 unfold Oper.wp
 rw[sZ ho hc (bA hs g IV hy) hfn hbd hn,Oper.upon_enter,hmap a.eval,hval]
 cases hl':dF with
 |true=>
  have hD:∀z,Dt S base ρ z->True/\z≠q:=fun z hz=>⟨trivial,hnq z hz⟩
  refine(hok (fun _=>True) w q _ hq.2 (g.glob.up (dw hD)) (hhb.up (dw hD) rfl) (h1 _ hD (fun y' hy' b' hb' u z hu hz=>⟨trivial,fun e=>?_⟩))).mono ?_
  ·subst e
   exact SY hnl y' hy' (by rw[<-g.inj b' b u _ z hu hρ hz rfl];exact hb')
  ·rintro e w' ⟨v,rfl,h3,h4,h5⟩
   exact hK' v w' q hρ h5 ⟨_,h3,h4,fun e=>by rw[hl']at e;cases e⟩
 |false=>
  have hD:∀z,Dt S base ρ z->Dt S base ρ z/\z≠q:=fun z hz=>⟨hz,hnq z hz⟩
  refine(hok (Dt S base ρ) w q _ hq.2 (g.glob.up (dw hD)) (hhb.up (dw hD) rfl) (mH.up (dw hD) (h2 hl'))).mono ?_
  rintro e w' ⟨v,rfl,h3,h4,h5⟩
  exact hK' v w' q hρ h5 ⟨_,h3,h4,fun _ z hz=>hz⟩
theorem Good.dF{base:Nat}{w0:W0 E.G}{s':St}(g:Good S base w0 s' ρ a w){b q:Nat}(hρ:ρ b=some (.pointer (some ⟨q,0,none⟩))){x x':Bk}(hb:s'.bk b=some x)
  (hw:w.grownBy w' (some q)){S0:Nat->Prop}{dF:Bool}(hB:HB (fun z=>(S0 z\/w.heap.size<=z)/\z≠q) w' q x')(hf:dF=true->zo x'=true)(h0:dF=false->∀z,S0 z->Dt S base ρ z):
  Good S base w0 ⟨s'.t,s'.h.set b (some x')⟩ ρ a w'/\(dF=false->Keeps (fun z=>(S0 z/\z≠q)\/w.heap.size<=z) w' (Dt S base ρ) w'):=by
 have zu:upd ρ b (some (.pointer (some ⟨q,0,none⟩)))=ρ:=by
  funext z;unfold upd;split
  ·next e=>rw[e,hρ]
  ·rfl
 have lies:dF=false->∀z,(S0 z\/w.heap.size<=z)->Dt S base ρ z:=fun hl z hz=>by
  rcases hz with hz|hz
  ·exact h0 hl z hz
  ·exact⟨.inr (Nat.le_trans g.size hz),fun b' u hb' hu=>by have:=(g.low b' u z hb' hu).2;omega⟩
 refine⟨?_,fun hl=>⟨Nat.le_refl _,fun z _ hz=>⟨lies hl z (by rcases hz with hz|hz;exact .inl hz.1;exact .inr hz),fun _=>rfl⟩⟩⟩
 have g2:=g.change b (sQ hb) (.pointer (some ⟨q,0,none⟩)) x' (some q) hw (by intro r e;cases e;exact⟨_,hρ,rfl⟩) (by
   intro r e
   simp[Rl]at e;subst e
   exact⟨.inr ⟨_,hρ,rfl⟩,Nat.lt_of_lt_of_le (g.low b _ q hρ rfl).2 hw.size⟩) (by
   rw[zu]
   intro K0
   cases x' with
   |sl=>exact hB.elim
   |abs=>exact hB.elim
   |vh=>exact hB.elim
   |gone=>exact hB.elim
   |bx=>exact hB.elim
   |obj p=>obtain⟨cs,t,e,e2⟩:=hB;exact⟨q,cs,t,hρ,trivial,e,e2⟩
   |var l=>
    obtain⟨cs,t,e,e2⟩:=hB
    refine⟨q,cs,t,hρ,trivial,e,?_⟩
    cases hl:dF with
    |true=>exact pW (hf hl) e2
    |false=>exact e2.up (dw fun z hz=>lies hl z hz.1)) (by
   rw[zu]
   intro _ i hi hm
   refine(g.t i hi).up ⟨hw.size,fun r' hr' hd=>⟨hd,fun o=>?_⟩⟩ (fun _ _=>rfl)
   exact World.cell?_of_block (hw.block r' hr' (fun e=>by cases e;exact hd.2 b _ hρ rfl))) (fun z hz=>by rw[hρ]at hz;cases hz;rfl)
 rwa [zu]at g2
theorem tO{r:bC}{dF:Bool}{S0 D:Nat->Prop}{q:Nat}{v:Value}(hf:dF=true->iG r=true)(hk:dF=false->Keeps (fun z=>(S0 z/\z≠q)\/w.heap.size<=z) w' D w')(h:RR (fun z=>S0 z/\z≠q) w.heap.size w' r v):
  (∀d,r=.d d->RA D w' d v)/\(∀l,r=.t l->∃vs,v=.tuple vs.toArray/\mH D w' l vs):=by
 constructor
 ·rintro d rfl
  cases hl:dF with
  |true=>exact rE (hf hl) h
  |false=>exact RA.up (hk hl) h
 ·rintro l rfl
  obtain⟨vs,rfl,h⟩:=h
  refine⟨vs,rfl,?_⟩
  cases hl:dF with
  |true=>exact h.flat (hf hl)
  |false=>exact h.up (hk hl)
theorem Tn{pos b:Nat}{rest:List T}{p:List Value->TypeId->Prop}{k:KO}(ho:o.op=.call c)(hc:c.callee=.value y)(hy:s.ev y=.d (.v (.func (.func f) #[] #[])))
  (hl:wS (c.args.toList.map s.ev)=some (pos,b,rest))(hb:s.bk b=some (.obj p))(hnl:yO b rest=true)(h:sP s rest fun l dF=>E.M f pos (.obj p) l fun r x'=>x'=.obj p/\(dF=true->iG r=true)/\PU r k):
  ∃t blk,k t blk/\cO E o s fr t blk:=by
 obtain⟨r,x',dF,⟨rfl,hf1,hr⟩,hrun⟩:=Hu (K:=fun dF r x'=>x'=.obj p/\(dF=true->iG r=true)/\PU r k) ho hc hy hl hb hnl h (by intro _ _ _ _ _ _ _ e;cases e)
 have hf2:dF=true->zo (.obj p)=true:=fun _=>rfl
 have hbk:∀{s':St},Same o s s'->s'.bk b=some (.obj p):=fun {s'} hs=>by
  obtain⟨ys,xx,_,VG,hxm,_⟩:=rJ hl
  have hmem:xx∈o.op.operands:=by rw[ho];simp only[Op.operands,Call.operands,Array.mem_append];right;simpa using hxm
  exact(hs.bk hmem (by simp[looks,ho]) (by rw[VG];simp[T.refs])).trans hb
 have stay:∀{s':St},s'.bk b=some (.obj p)->s'.h.set b (some (.obj p))=s'.h:=fun {s'} h=>by
  refine List.ext_getElem (by simp) fun i h1 h2=>?_
  rw[List.getElem_set]
  split
  ·next e=>
   subst e
   unfold St.bk at h
   rw[List.getD_eq_getElem?_getD,List.getElem?_eq_getElem h2]at h
   exact h.symm
  ·rfl
 unfold PU at hr
 split at hr
 ·next d=>
  refine⟨_,_,hr,fun b' hb'=>by simp[T.refs]at hb',fun b' x e=>(by cases e),fun S base w0 s' ρ a w K Q hs g _ _ hK=>?_⟩
  refine hrun S base w0 s' ρ a w K Q hs g fun v w' q hρ hw ⟨S0,h3,h4,h5⟩=>?_
  obtain⟨g2,k2⟩:=g.dF hρ (hbk hs) hw h4 hf2 h5
  rw[stay (hbk hs)]at g2
  exact hK _ _ ρ (g2.put' o.dst (t:=.d d) ((tO hf1 k2 h3).1 d rfl) (by simp[T.refs]))
 ·next l=>
  refine⟨_,_,hr,fun b' hb'=>by simp[T.refs]at hb',fun b' x e=>(by cases e),fun S base w0 s' ρ a w K Q hs g _ _ hK=>?_⟩
  refine hrun S base w0 s' ρ a w K Q hs g fun v w' q hρ hw ⟨S0,h3,h4,h5⟩=>?_
  obtain⟨g2,k2⟩:=g.dF hρ (hbk hs) hw h4 hf2 h5
  rw[stay (hbk hs)]at g2
  exact hK _ _ ρ (g2.put' o.dst (t:=.yE l) ((tO hf1 k2 h3).2 l rfl) (by simp[T.refs]))
 ·exact hr.elim
theorem Tp{pos b:Nat}{rest:List T}{l0:List Seg}{k:KO}(ho:o.op=.call c)(hc:c.callee=.value y)(hy:s.ev y=.d (.v (.func (.func f) #[] #[])))
  (hl:wS (c.args.toList.map s.ev)=some (pos,b,rest))(hb:s.bk b=some (.var l0))(hnl:yO b rest=true)(h:sP s rest fun l dF=>E.M f pos (.var l0) l fun r x'=>(dF=true->iG r=true)/\(dF=true->zo x'=true)/\PU r fun t _=>k t (some (b,x'))):
  ∃t blk,k t blk/\cO E o s fr t blk:=by
 obtain⟨r,x',dF,⟨hf1,hf2,hr⟩,hrun⟩:=Hu (K:=fun dF r x'=>(dF=true->iG r=true)/\(dF=true->zo x'=true)/\PU r fun t _=>k t (some (b,x'))) ho hc hy hl hb hnl h (by intro _ _ _ _ _ _ _ e;cases e)
 obtain⟨ys,xx,_,VG,hxm,_⟩:=rJ hl
 have hmem:xx∈o.op.operands:=by rw[ho];simp only[Op.operands,Call.operands,Array.mem_append];right;simpa using hxm
 have hbk:∀{s':St},Same o s s'->s'.bk b=some (.var l0):=fun {s'} hs=>(hs.bk hmem (by simp[looks,ho]) (by rw[VG];simp[T.refs])).trans hb
 have hin:∀b' x,some (b,x')=some (b',x)->b'=fr\/∃z,z∈o.op.operands/\b'∈(s.ev z).refs:=fun b' x e=>by
  cases e;exact .inr ⟨xx,hmem,by rw[VG];simp[T.refs]⟩
 unfold PU at hr
 split at hr
 ·next d=>
  refine⟨_,_,hr,fun b' hb'=>by simp[T.refs]at hb',hin,fun S base w0 s' ρ a w K Q hs g _ _ hK=>?_⟩
  refine hrun S base w0 s' ρ a w K Q hs g fun v w' q hρ hw ⟨S0,h3,h4,h5⟩=>?_
  obtain⟨g2,k2⟩:=g.dF hρ (hbk hs) hw h4 hf2 h5
  exact hK _ _ ρ (g2.put' o.dst (t:=.d d) ((tO hf1 k2 h3).1 d rfl) (by simp[T.refs]))
 ·next l=>
  refine⟨_,_,hr,fun b' hb'=>by simp[T.refs]at hb',hin,fun S base w0 s' ρ a w K Q hs g _ _ hK=>?_⟩
  refine hrun S base w0 s' ρ a w K Q hs g fun v w' q hρ hw ⟨S0,h3,h4,h5⟩=>?_
  obtain⟨g2,k2⟩:=g.dF hρ (hbk hs) hw h4 hf2 h5
  exact hK _ _ ρ (g2.put' o.dst (t:=.yE l) ((tO hf1 k2 h3).2 l rfl) (by simp[T.refs]))
 ·exact hr.elim
theorem RP.re{D D':Nat->Prop}(k:Keeps D w D' w'){b0:Nat}{F:List Nat}(h0:ρ b0=some (qV F))(h1:∀b,b≠b0->ρ b≠none->ρ' b=ρ b){p:Pt}{v:Value}(hr:∀b∈p.refs,ρ b≠none)(h:RP D ρ w p v):RP D' ρ' w' p v:=by
 cases p with
 |dat a=>exact RA.up k h
 |own b n=>
  by_cases e:b=b0
  ·subst e;obtain⟨a,n',c,hu,_⟩:=h _ h0;exact(mV.2 _ _ _ hu).elim
  ·intro u hu;rw[h1 b e (hr b (by simp[Pt.refs]))]at hu;exact h u hu
 |win b base n=>
  by_cases e:b=b0
  ·subst e;obtain⟨r,c,hu,_⟩:=h _ h0;exact hu.qV.elim
  ·intro u hu;rw[h1 b e (hr b (by simp[Pt.refs]))]at hu;exact h u hu
theorem RT.re{D D':Nat->Prop}(k:Keeps D w D' w'){b0 r:Nat}{F F':List Nat}(h0:ρ b0=some (qV (r::F)))(h2:ρ' b0=some (qV (r::F')))(h1:∀b,b≠b0->ρ b≠none->ρ' b=ρ b){t:T}{v:Value}(hr:∀b∈t.refs,ρ b≠none)(h:RT D ρ w t v):RT D' ρ' w' t v:=by
 cases t with
 |d a=>exact RA.up k h
 |yE l=>obtain⟨vs,rfl,h⟩:=h;exact⟨vs,rfl,h.up k⟩
 |rows l=>obtain⟨vs,k1,k2⟩:=h;exact⟨vs,k1.map fun p hp v hv=>hv.re k h0 h1 (fun b hb=>hr b (by simp only[T.refs,List.mem_flatMap];exact⟨p,hp,hb⟩)),k2.up k⟩
 |au=>trivial
 |ob b=>
  by_cases e:b=b0
  ·subst e
   obtain⟨r',F2,e1,e2⟩:=h _ h0
   intro u hu;rw[h2]at hu;cases hu
   exact⟨r,F',rfl,by rw[e2,FI e1]⟩
  ·intro u hu;rw[h1 b e (hr b (by simp[T.refs]))]at hu;exact h u hu
 |mp b=>
  by_cases e:b=b0
  ·subst e
   obtain⟨r',F2,e1,e2⟩:=h _ h0
   intro u hu;rw[h2]at hu;cases hu
   exact⟨r,F',rfl,by rw[e2,FI e1]⟩
  ·intro u hu;rw[h1 b e (hr b (by simp[T.refs]))]at hu;exact h u hu
 |ptr b base=>
  by_cases e:b=b0
  ·subst e;obtain⟨r,hu,_⟩:=h _ h0;exact hu.qV.elim
  ·intro u hu;rw[h1 b e (hr b (by simp[T.refs]))]at hu;exact h u hu
 |xg b base rel=>
  by_cases e:b=b0
  ·subst e;obtain⟨r,hu,_⟩:=h _ h0;exact hu.qV.elim
  ·intro u hu;rw[h1 b e (hr b (by simp[T.refs]))]at hu;exact h u hu
 |own b n=>
  by_cases e:b=b0
  ·subst e;obtain⟨a,n',c,hu,_⟩:=h _ h0;exact(mV.2 _ _ _ hu).elim
  ·intro u hu;rw[h1 b e (hr b (by simp[T.refs]))]at hu;exact h u hu
 |win b base n=>
  by_cases e:b=b0
  ·subst e;obtain⟨r,c,hu,_⟩:=h _ h0;exact hu.qV.elim
  ·intro u hu;rw[h1 b e (hr b (by simp[T.refs]))]at hu;exact h u hu
 |BX b n off=>
  by_cases e:b=b0
  ·subst e;obtain⟨a,n',c,hu,_⟩:=h _ h0;exact(mV.2 _ _ _ hu).elim
  ·intro u hu;rw[h1 b e (hr b (by simp[T.refs]))]at hu;exact h u hu
 |NC b c=>
  by_cases e:b=b0
  ·subst e;obtain⟨r,hu,_⟩:=h _ h0;exact hu.qV.elim
  ·intro u hu;rw[h1 b e (hr b (by simp[T.refs]))]at hu;exact h u hu
 |hsl b n=>
  by_cases e:b=b0
  ·subst e
   rcases h _ h0 with⟨r,a,n',c,hu,_⟩|⟨r,hu⟩
   ·exact(EI hu.symm).elim
   ·exact(mV.1 _ hu).elim
  ·intro u hu;rw[h1 b e (hr b (by simp[T.refs]))]at hu;exact h u hu
 |pre b n m=>
  by_cases e:b=b0
  ·subst e;obtain⟨a,n',c,hu,_⟩:=h _ h0;exact(mV.2 _ _ _ hu).elim
  ·intro u hu;rw[h1 b e (hr b (by simp[T.refs]))]at hu;exact h u hu
theorem Kc:∀{xs:List Operand} {pos b:Nat} {rest:List T},av5 (xs.map s.ev)=some (pos,b,rest)->
  ∃(ys:List Operand) (x:Operand),rest=ys.map s.ev/\s.ev x=.ob b/\x∈xs/\(∀y∈ys,y∈xs)/\∀(f:Operand->Value),xs.map f=(ys.map f).insertIdx pos (f x)
 |[],pos,b,rest,h=>by cases h
 |x::xs,pos,b,rest,h=>by
  simp only[List.map_cons,av5]at h
  split at h
  ·next b' hx=>cases h;exact⟨xs,x,rfl,hx,by simp,fun y hy=>by simp[hy],fun f=>by simp⟩
  ·split at h
   ·next i b' l hl=>
    cases h
    obtain⟨ys,z,h1,h2,h3,h4,h5⟩:=Kc hl
    exact⟨x::ys,z,by rw[h1];rfl,h2,by simp[h3],fun y hy=>by rcases List.mem_cons.1 hy with rfl|hy;simp;simp[h4 y hy],fun f=>by rw[List.map_cons,h5 f];rfl⟩
   ·cases h
theorem aw4{pos b:Nat}{rest:List T}{p:OP}{k:KO}(ho:o.op=.call c)(hc:c.callee=.value y)(hy:s.ev y=.d (.v (.func (.func f) #[] #[])))
  (hl:av5 (c.args.toList.map s.ev)=some (pos,b,rest))(hb:s.bk b=some (.abs p))(hnl:yO b rest=true)(h:sP s rest fun l dF=>E.B f pos p l fun r p'=>ar5 dF p' r/\bF3 fr b p p' r k):
  ∃t blk,k t blk/\cO E o s fr t blk:=by
 obtain⟨ys,xx,rfl,VG,hxm,hym,hmap⟩:=Kc hl
 obtain⟨ds,dF,hM,hargs⟩:=jJ h
 obtain⟨⟨r,p',hok,hlf,hK⟩,fn,hfn,hbd,hn⟩:=E.hB _ _ _ _ _ hM
 have hmem:∀x∈c.args.toList,x∈o.op.operands:=fun x hx=>by rw[ho];simp only[Op.operands,Call.operands,Array.mem_append];right;simpa using hx
 have IV:y∈o.op.operands:=by rw[ho];simp[Op.operands,Call.operands,hc]
 have hlk:looks o=true:=by simp[looks,ho]
 have hin:∃x∈o.op.operands,b∈(s.ev x).refs:=⟨xx,hmem _ hxm,by rw[VG];simp[T.refs]⟩
 -- the call jq it runs
 have run:∀(S:Nat->Prop) (base:Nat) (w0:W0 E.G) (s':St) (ρ:Nat->Option Value) (a:Act) (w:World) (K':Act->World->Prop) (Q:Exit->Act->World->Prop),
   Same o s s'->Good S base w0 s' ρ a w->(∀v w' q F F' N,s'.bk b=some (.abs p)->ρ b=some (qV (q::F))->(∀z∈F',z∈q::F\/w.heap.size<=z)->(∀z∈q::F',z<w'.heap.size)->p'.p (fun z=>((Dt S base ρ z\/w.heap.size<=z)/\z∉q::F')/\z∉N) w' (q::F') q->RRb (Dt S base ρ) w w' (q::F') N r v->bX (fun z=>z∈q::F) w w'->K' (a.put o.dst v) w')->o.wp E.P a w K' Q:=by
  intro S base w0 s' ρ a w K' Q hs g hK'
  have hbk:s'.bk b=some (.abs p):=(hs.bk (hmem _ hxm) hlk (by rw[VG];simp[T.refs])).trans hb
  have hB:=g.b b
  rw[hbk]at hB
  obtain⟨q,F,hρ,hlt,hpp⟩:=hB
  have hval:a.eval xx=.pointer (some ⟨q,0,none⟩):=by
   obtain⟨r',F2,h4,h5⟩:=bB hs g (hmem _ hxm) VG _ hρ
   rw[h5,FI h4]
  obtain⟨h1,h2⟩:=hargs S base w0 s' ρ a w (fun x hx=>⟨(hs x (hmem x (hym x hx))).1,fun b hb=>hs.bk (hmem x (hym x hx)) hlk hb⟩) g
  have hD:∀z,Dt S base ρ z->z∉q::F:=fun z hz e=>hz.2 b _ hρ (iT.2 e)
  unfold Oper.wp
  rw[sZ ho hc (bA hs g IV hy) hfn hbd hn,Oper.upon_enter,hmap a.eval,hval]
  refine(hok (Dt S base ρ) w q F _ g.glob hlt hpp (h2 hlf) hD).mono ?_
  rintro e w' ⟨v,F',N,rfl,h3,h4,h5,h6,h7⟩
  exact hK' v w' q F F' N hbk hρ h3 h4 h5 h6 h7
 -- data behind the call
 have kp:∀{S:Nat->Prop} {base:Nat} {w0:W0 E.G} {s':St} {ρ:Nat->Option Value} {a:Act} {w w':World} {q:Nat} {F':List Nat},Good S base w0 s' ρ a w->
   Keeps (fun z=>(Dt S base ρ z\/w.heap.size<=z)/\z∉q::F') w' (Dt S base (upd ρ b (some (qV (q::F'))))) w':=by
  intro S base w0 s' ρ a w w' q F' g
  refine⟨Nat.le_refl _,fun z hz hs2=>⟨⟨?_,fun b' u hb' hu=>?_⟩,fun _=>rfl⟩⟩
  ·rcases hs2.1 with h3|h3
   ·exact h3.1
   ·exact .inr (Nat.le_trans g.size h3)
  ·by_cases hbf:b'=b
   ·subst hbf
    simp[upd]at hb'
    subst hb'
    exact hs2.2 (iT.1 hu)
   ·simp[upd,hbf]at hb'
    rcases hs2.1 with h3|h3
    ·exact h3.2 b' u hb' hu
    ·have:=(g.low b' u z hb' hu).2;omega
 have stay:∀{s':St},s'.bk b=some (.abs p)->s'.h.set b (some (.abs p))=s'.h:=fun {s'} h=>by
  refine List.ext_getElem (by simp) fun i h1 h2=>?_
  rw[List.getElem_set]
  split
  ·next e=>
   subst e
   unfold St.bk at h
   rw[List.getD_eq_getElem?_getD,List.getElem?_eq_getElem h2]at h
   exact h.symm
  ·rfl
 -- the object changes
 have chg:∀{S:Nat->Prop} {base:Nat} {w0:W0 E.G} {s':St} {ρ:Nat->Option Value} {a:Act} {w w':World} {q:Nat} {F F' N:List Nat},Good S base w0 s' ρ a w->s'.bk b=some (.abs p)->ρ b=some (qV (q::F))->(∀z∈F',z∈q::F\/w.heap.size<=z)->(∀z∈q::F',z<w'.heap.size)->p'.p (fun z=>((Dt S base ρ z\/w.heap.size<=z)/\z∉q::F')/\z∉N) w' (q::F') q->bX (fun z=>z∈q::F) w w'->
   Good S base w0 ⟨s'.t,s'.h.set b (some (.abs p'))⟩ (upd ρ b (some (qV (q::F')))) a w':=by
  intro S base w0 s' ρ a w w' q F F' N g hbk hρ h3 h4 h5 h7
  have hlt:=sQ hbk
  have hbk0:St.bk ⟨s'.t,s'.h.set b (some (.abs p'))⟩ b=some (.abs p'):=by simp[St.bk,hlt]
  have hu0:upd ρ b (some (qV (q::F'))) b=some (qV (q::F')):=by simp[upd]
  have hu:∀b',b'≠b->upd ρ b (some (qV (q::F'))) b'=ρ b':=fun b' hb=>by simp[upd,hb]
  refine g.step _ _ (fun z=>z∈q::F) (fun b'=>b'=b) h7 (fun b' hb'=>⟨hu b' hb',?_⟩) (fun z hz=>⟨b,_,rfl,hρ,iT.2 hz⟩) (fun b' u z hb' h1 h2=>?_) (fun b' b'' _ _ _ h1 h2 _ _ _ _=>h1.trans h2.symm) (fun K b' hb'=>?_) (fun K i hi hm=>?_) (fun b' hb'=>?_) (fun z hz=>?_)
  ·simp only[St.bk,aB];rw[if_neg (fun e=>hb' e.1.symm)]
  ·subst hb';rw[hu0]at h1;cases h1
   have h8:=iT.1 h2
   refine⟨?_,h4 z h8⟩
   rcases List.mem_cons.1 h8 with rfl|h9
   ·exact .inr ⟨_,hρ,iT.2 (by simp)⟩
   ·rcases h3 z h9 with h10|h10
    ·exact .inr ⟨_,hρ,iT.2 h10⟩
    ·exact .inl h10
  ·subst hb';rw[hbk0];exact⟨q,F',hu0,h4,p'.up (kp g) (fun _ _=>rfl) (p'.up (dw fun z hz=>hz.1) (fun _ _=>rfl) h5)⟩
  ·refine(g.t i hi).re K hρ hu0 (fun b' hb' _=>hu b' hb') (fun b' hb' e=>?_)
   obtain⟨u,hu'⟩:=g.ref (g.ru i b' hb')
   rw[e]at hu';cases hu'
  ·subst hb';rw[hbk0];simp
  ·by_cases e:(0:Nat)=b
   ·rw[e,hρ]at hz;exact(mV.1 _ (Option.some.inj hz)).elim
   ·rw[hu 0 e];exact hz
 unfold bF3 at hK
 split at hK
 ·next d=>
  refine⟨_,_,hK,fun b' hb'=>by simp[T.refs]at hb',fun b' x e=>(by cases e;exact .inr hin),fun S base w0 s' ρ a w K' Q hs g _ _ hK'=>?_⟩
  refine run S base w0 s' ρ a w K' Q hs g fun v w' q F F' N hbk hρ h3 h4 h5 h6 h7=>?_
  exact hK' _ _ _ ((chg g hbk hρ h3 h4 h5 h7).put' o.dst (t:=.d d) (RA.up (kp g) h6) (by simp[T.refs]))
 ·next l=>
  refine⟨_,_,hK,fun b' hb'=>by simp[T.refs]at hb',fun b' x e=>(by cases e;exact .inr hin),fun S base w0 s' ρ a w K' Q hs g _ _ hK'=>?_⟩
  refine run S base w0 s' ρ a w K' Q hs g fun v w' q F F' N hbk hρ h3 h4 h5 h6 h7=>?_
  obtain⟨vs,rfl,h9⟩:=h6
  exact hK' _ _ _ ((chg g hbk hρ h3 h4 h5 h7).put' o.dst (t:=.yE l) ⟨vs,rfl,h9.up (kp g)⟩ (by simp[T.refs]))
 ·next p2=>
  obtain⟨rfl,hK⟩:=hK
  refine⟨_,_,hK,fun b' hb'=>.inl ⟨by simpa[T.refs]using hb',_,rfl⟩,fun b' x e=>by cases e;exact .inl rfl,fun S base w0 s' ρ a w K' Q hs g hfr hlt hK'=>?_⟩
  refine run S base w0 s' ρ a w K' Q hs g fun v w' q F F' N hbk hρ h3 h4 h5 h6 h7=>?_
  obtain⟨r2,F2,rfl,rfl,h8,h9⟩:=h6
  have hne:fr≠b:=fun e=>by rw[e,hbk]at hfr;cases hfr
  have hu0:upd (upd ρ b (some (qV (q::F')))) fr (some (qV (r2::F2))) fr=some (qV (r2::F2)):=by simp[upd]
  have hub:upd (upd ρ b (some (qV (q::F')))) fr (some (qV (r2::F2))) b=some (qV (q::F')):=by simp[upd,Ne.symm hne]
  have hu:∀b',b'≠fr->b'≠b->upd (upd ρ b (some (qV (q::F')))) fr (some (qV (r2::F2))) b'=ρ b':=fun b' h1 h2=>by simp[upd,h1,h2]
  have hbf:St.bk ⟨s'.t,s'.h.set fr (some (.abs p2))⟩ fr=some (.abs p2):=by simp[St.bk,hlt]
  have hbb:St.bk ⟨s'.t,s'.h.set fr (some (.abs p2))⟩ b=some (.abs p'):=by simp only[St.bk,aB];rw[if_neg (fun e=>hne e.1)];exact hbk
  have hρf:ρ fr=none:=by have:=g.b fr;rw[hfr]at this;exact this
  have g2:Good S base w0 ⟨s'.t,s'.h.set fr (some (.abs p2))⟩ (upd (upd ρ b (some (qV (q::F')))) fr (some (qV (r2::F2)))) a w':=by
   refine g.step (upd (upd ρ b (some (qV (q::F')))) fr (some (qV (r2::F2)))) _ (fun z=>z∈q::F) (fun b'=>b'=b\/b'=fr) h7 (fun b' hb'=>⟨hu b' (fun e=>hb' (.inr e)) (fun e=>hb' (.inl e)),?_⟩) (fun z hz=>⟨b,_,.inl rfl,hρ,iT.2 hz⟩) (fun b' u z hb' h1 h2=>?_) (fun b' b'' u u' z hb' cq3 h1 h2 e1 e2=>?_) (fun K b' hb'=>?_) (fun K i hi hm=>?_) (fun b' hb'=>?_) (fun z hz=>?_)
   ·simp only[St.bk,aB];rw[if_neg (fun e=>hb' (.inr e.1.symm))]
   ·rcases hb' with rfl|rfl
    ·rw[hub]at h1;cases h1
     have h10:=iT.1 h2
     refine⟨?_,h4 z h10⟩
     rcases List.mem_cons.1 h10 with rfl|h11
     ·exact .inr ⟨_,hρ,iT.2 (by simp)⟩
     ·rcases h3 z h11 with h12|h12
      ·exact .inr ⟨_,hρ,iT.2 h12⟩
      ·exact .inl h12
    ·rw[hu0]at h1;cases h1
     have h10:=h8 z (iT.1 h2)
     exact⟨.inl h10.1,h10.2.1⟩
   ·rcases hb' with rfl|rfl<;>rcases cq3 with rfl|rfl
    ·rfl
    ·rw[hub]at h1;rw[hu0]at h2;cases h1;cases h2
     exact((h8 z (iT.1 e2)).2.2 (iT.1 e1)).elim
    ·rw[hu0]at h1;rw[hub]at h2;cases h1;cases h2
     exact((h8 z (iT.1 e1)).2.2 (iT.1 e2)).elim
    ·rfl
   ·have up2:Keeps (fun z=>((Dt S base ρ z\/w.heap.size<=z)/\z∉q::F')/\z∉r2::F2) w' (Dt S base (upd (upd ρ b (some (qV (q::F')))) fr (some (qV (r2::F2))))) w':=by
     refine⟨Nat.le_refl _,fun z hz hs2=>⟨⟨?_,fun b3 u hb3 hu3=>?_⟩,fun _=>rfl⟩⟩
     ·rcases hs2.1.1 with h3|h3
      ·exact h3.1
      ·exact .inr (Nat.le_trans g.size h3)
     ·by_cases e1:b3=fr
      ·subst e1;rw[hu0]at hb3;cases hb3;exact hs2.2 (iT.1 hu3)
      ·by_cases e2:b3=b
       ·subst e2;rw[hub]at hb3;cases hb3;exact hs2.1.2 (iT.1 hu3)
       ·rw[hu b3 e1 e2]at hb3
        rcases hs2.1.1 with h3|h3
        ·exact h3.2 b3 u hb3 hu3
        ·have:=(g.low b3 u z hb3 hu3).2;omega
    rcases hb' with rfl|rfl
    ·rw[hbb];exact⟨q,F',hub,h4,p'.up up2 (fun _ _=>rfl) h5⟩
    ·rw[hbf];exact⟨r2,F2,hu0,fun z hz=>(h8 z hz).2.1,p2.up up2 (fun _ _=>rfl) h9⟩
   ·refine(g.t i hi).re K hρ hub (fun b' hb' hn'=>hu b' (fun e=>hn' (by rw[e];exact hρf)) hb') (fun b' hb' e=>?_)
    obtain⟨u,hu'⟩:=g.ref (g.ru i b' hb')
    rw[e]at hu';cases hu'
   ·rcases hb' with rfl|rfl
    ·rw[hbb];simp
    ·rw[hbf];simp
   ·by_cases e:(0:Nat)=b
    ·rw[e,hρ]at hz;exact(mV.1 _ (Option.some.inj hz)).elim
    ·by_cases e2:(0:Nat)=fr
     ·rw[e2,hρf]at hz;cases hz
     ·rw[hu 0 e2 e];exact hz
  refine hK' _ _ _ (g2.put' o.dst (t:=.ob fr) ?_ ?_)
  ·intro u hu'
   rw[hu0]at hu';cases hu'
   exact⟨r2,F2,rfl,rfl⟩
  ·intro b' hb'
   simp[T.refs]at hb'
   subst hb'
   rw[hbf];simp
 ·exact hK.elim
theorem YB{e:TypeId}{x:Operand}{l:List Seg}(ho:o.op=.box e x)(hx:s.ev x=.ptr 0 0)(hk:s.bk 0=some (.var l)):cO E o s fr (.NC fr 0) (some (fr,.bx)):=by
 have hm:x∈o.op.operands:=by rw[ho];simp[Op.operands]
 refine⟨fun b hb=>?_,fun b y e=>by cases e;exact .inl rfl,fun S base w0 s' ρ a w K Q hs g hf hlt hK=>?_⟩
 ·simp[T.refs]at hb
  rcases hb with rfl|rfl
  ·exact .inl ⟨rfl,_,rfl⟩
  ·exact .inr ⟨x,hm,by rw[hx];simp[T.refs]⟩
 have hB:=g.b 0
 rw[(hs.bk hm (by simp[looks,ho]) (by rw[hx];simp[T.refs])).trans hk]at hB
 obtain⟨q,cs,ty,h1,_,h2,h3⟩:=hB
 have hv:a.eval x=.pointer (some ⟨q,0,none⟩):=by
  obtain⟨r',h4,h5⟩:=bB hs g hm hx _ h1
  obtain rfl:=h4.ptr;exact h5
 have hne:fr≠0:=fun h=>by subst h;have:=g.b 0;rw[hf]at this;have:ρ 0=none:=this;rw[h1]at this;cases this
 have hρ:ρ fr=none:=by have:=g.b fr;rw[hf]at this;exact this
 have hrun:(execOp a.eval o).run E.P w=.ok (.value (.pointer (some ⟨w.heap.size,0,none⟩))) (w.alloc (.cells #[.pointer (some ⟨q,0,none⟩)] e)):=by
  simp[execOp,ho,Instr.box,newVar,newRow,Sem.run_bind,hv,Value.cells]
 unfold Oper.wp
 rw[hrun]
 have g2:=g.change fr hlt (.pointer (some ⟨w.heap.size,0,none⟩)) .bx none (w':=w.alloc (.cells #[.pointer (some ⟨q,0,none⟩)] e)) ⟨rfl,rfl,rfl,by rw[size_alloc];omega,fun k hk _=>Below.heap_alloc _ _ _ hk⟩ (by simp) (fun r hr=>by
   simp[Rl]at hr;subst hr
   exact⟨.inl (Nat.le_refl _),by rw[size_alloc];omega⟩) (fun _=>⟨hne,q,w.heap.size,e,by simp[upd],heap_alloc_new _ _,by simp[upd,Ne.symm hne,h1]⟩) (fun _ i hi hm=>absurd hf (g.ru i fr hm)) (fun q hq=>by rw[hρ]at hq;cases hq)
 refine hK _ _ _ (g2.put' o.dst (t:=.NC fr 0) ?_ ?_)
 ·intro u hu
  simp[upd]at hu
  exact⟨w.heap.size,.inl hu.symm,rfl⟩
 ·intro b hb
  simp[T.refs]at hb
  rcases hb with rfl|rfl
  ·simp[St.bk,aB,hlt]
  ·have h0:s'.bk 0≠none:=by rw[(hs.bk hm (by simp[looks,ho]) (by rw[hx];simp[T.refs])).trans hk];simp
   simp only[St.bk,aB]
   rw[if_neg (fun h=>hne h.1)]
   exact h0
theorem YE{t:TypeId}{x:Operand}{i:TI}(ho:o.op=.load t x)(hY:E.Y t=some i)(h1:i.sz=1)(h2:i.agg=false)(hx:s.ev x=.NC b 0)(hk:s.bk b=some .bx):cO E o s fr (.ptr 0 0) none:=by
 have hm:x∈o.op.operands:=by rw[ho];simp[Op.operands]
 refine .pure (fun b' hb'=>⟨x,hm,by rw[hx];simp[T.refs]at hb' ⊢;exact .inr hb'⟩) fun S base w0 s' ρ a w hs g=>?_
 have hB:=g.b b
 rw[(hs.bk hm (by simp[looks,ho]) (by rw[hx];simp[T.refs])).trans hk]at hB
 obtain⟨_,q,r,ty,h3,h4,h5⟩:=hB
 have hv:a.eval x=.pointer (some ⟨r,0,none⟩):=by
  obtain⟨r',e1,e2⟩:=bB hs g hm hx _ h3
  obtain rfl:=e1.ptr;exact e2
 obtain⟨v,h6,h7⟩:=gV (D:=fun _=>True) (w:=w) (x:=.v (.pointer (some ⟨q,0,none⟩))) (E.hY t i hY) (r:=r) (o:=0) (off:=0) (cs:=[.pointer (some ⟨q,0,none⟩)]) (fun j hj=>by
  have hj0:j=0:=by simpa using hj
  subst hj0
  have:=fU (w:=w) (r:=r) (cs:=[.pointer (some ⟨q,0,none⟩)]) (t:=ty) h4 0
  simpa using this) ⟨fun h=>(by rw[h2]at h;cases h),fun _=>⟨_,rfl,.v _,rfl⟩⟩
 cases h7
 refine⟨_,gq ho hv h6,fun u hu=>?_⟩
 rw[h5]at hu;cases hu
 exact⟨q,.inl rfl,rfl⟩
theorem LC{fn:Func}{vs:List Value}(ho:o.op=.call c)(hc:c.callee=.value y)(hy:a.eval y=.func (.func f) #[] vs.toArray)(hf:E.P.funcs[f]?=some fn)(hb:fn.body.isNone=false)(hn:(fn.name== "runtime.NumGoroutine")=false):
  (execOp a.eval o).run E.P w=.ok (.enter f (c.args.toList.map a.eval++vs).toArray) w:=by
 have e:(c.args.toList.map a.eval++vs).toArray=c.args.map a.eval++vs.toArray:=by
  apply Array.ext';simp
 rw[e]
 simp only[execOp,ho,resolve,hc,hy,Deferred.ofValue,Sem.run_bind,Sem.run_pure,Result.andThen_ok,invoke,callFunc,run_program,hf,hb,hn]
 simp
theorem mH.append:∀{l m:List A} {vs us:List Value},mH S w l vs->mH S w m us->mH S w (l++m) (vs++us)
 |_,_,_,_,.nil,k=>k
 |_,_,_,_,.cons h r,k=>.cons h (r.append k)
theorem RG.bm8:∀{l:List A} {vs:List Value},RG S w l vs->mH S w l vs
 |_,_,.nil=>.nil
 |_,_,.cons h _ r=>.cons h r.bm8
theorem Tm{cs:List A}{x:A}{ds:List A}{dF:Bool}(ho:o.op=.call c)(hc:c.callee=.value y)(hy:s.ev y=.d (.NM f cs))(FQ:∃fn,E.P.funcs[f]?=some fn/\fn.body.isNone=false/\(fn.name== "runtime.NumGoroutine")=false)
  (hargs:∀(S:Nat->Prop) (base:Nat) (w0:W0 E.G) (s':St) (ρ:Nat->Option Value) (a:Act) (w:World),(∀x∈c.args.toList,s'.ev x=s.ev x/\∀b∈(s.ev x).refs,s'.bk b=s.bk b)->Good S base w0 s' ρ a w->
   (∀D':Nat->Prop,(∀q,Dt S base ρ q->D' q)->(∀x∈c.args.toList,∀b∈(s.ev x).refs,∀u q,ρ b=some u->Rl u q->D' q)->mH D' w ds (c.args.toList.map a.eval))/\(dF=false->mH (Dt S base ρ) w ds (c.args.toList.map a.eval)))
  (hok:mG E.P E.G f (ds++cs) (.d x))(FP:Ao x=true):cO E o s fr (.d x) none:=by
 obtain⟨fn,hf,hb,hn⟩:=FQ
 have hmem:∀x∈c.args.toList,x∈o.op.operands:=fun x hx=>by rw[ho];simp only[Op.operands,Call.operands,Array.mem_append];right;simpa using hx
 have IV:y∈o.op.operands:=by rw[ho];simp[Op.operands,Call.operands,hc]
 refine⟨fun b hb=>by simp[T.refs]at hb,fun b x e=>(by cases e),fun S base w0 s' ρ a w K Q hs g _ _ hK=>?_⟩
 obtain⟨h1,_⟩:=hargs S base w0 s' ρ a w (fun x hx=>⟨(hs x (hmem x hx)).1,fun b hb=>hs.bk (hmem x hx) (by simp[looks,ho]) hb⟩) g
 have h2:=bB hs g IV hy
 generalize hv:a.eval y=v at h2
 cases h2 with
 |NM hg=>
  unfold Oper.wp
  rw[LC ho hc hv hf hb hn,Oper.upon_enter]
  refine(hok (fun _=>True) w _ (g.glob.up qA) ((h1 _ (fun _ _=>trivial) (fun _ _ _ _ _ _ _ _=>trivial)).append (hg.bm8.up qA))).mono ?_
  rintro e w' ⟨u,rfl,h3,h4⟩
  obtain⟨g2,k2⟩:=g.grow (w':=w') ⟨h4.os,h4.tape,h4.output,h4.size,fun k hk _=>h4.block k hk⟩
  exact hK _ _ ρ (g2.put' o.dst (t:=.d x) (rE FP h3) (by simp[T.refs]))
theorem CF{k:KO}(h:opA E o s fr k):∃t blk,k t blk/\cO E o s fr t blk:=by
 unfold opA at h
 split at h
 case h_1 x ho=>exact⟨_,_,h,Mi (.inl ho)⟩
 case h_2 x ho=>exact⟨_,_,h,Mi (.inr ho)⟩
 case h_3 c x y ho=>
  split at h
  ·next b hc=>
   cases b
   ·exact⟨_,_,h.out,V4 (b:=false) ho hc⟩
   ·exact⟨_,_,h.out,V4 (b:=true) ho hc⟩
  ·exact h.elim
 case h_4 op t x y yt ho=>
  split at h
  ·next p q hx hy=>
   split at h
   ·next a b=>
    obtain⟨⟨i,hi,hu⟩,h⟩:=h
    split at h
    ·exact⟨_,_,h,Gp ho hx hy hu (.inl ⟨rfl,rfl⟩)⟩
    ·exact⟨_,_,h,Gp ho hx hy hu (.inr ⟨rfl,rfl⟩)⟩
    ·exact h.elim
   ·obtain⟨hu,h⟩:=h
    split at h
    ·exact⟨_,_,h,Ke ho hx hy (.inl ⟨rfl,rfl⟩)⟩
    ·exact⟨_,_,h,Ke ho hx hy (.inr ⟨rfl,rfl⟩)⟩
    ·exact⟨_,_,h.2,YA ho hx hy h.1⟩
    ·exact h.elim
   ·obtain⟨hu,h⟩:=h
    split at h
    ·exact⟨_,_,h,Kh ho hx hy hu (.inl ⟨rfl,rfl⟩)⟩
    ·exact⟨_,_,h,Kh ho hx hy hu (.inr ⟨rfl,rfl⟩)⟩
    ·exact h.elim
   ·obtain⟨hu,h⟩:=h
    split at h
    ·exact⟨_,_,h,Ph ho hx hy hu (.inl ⟨rfl,rfl⟩)⟩
    ·exact⟨_,_,h,Ph ho hx hy hu (.inr ⟨rfl,rfl⟩)⟩
    ·exact h.elim
   ·obtain⟨r,hK,hr⟩:=bC6 ho hx hy h
    exact⟨_,_,hK,hr⟩
  ·next b base hx hy=>
   obtain⟨hu,h⟩:=h
   split at h
   ·exact⟨_,_,h,Kj ho hx hy hu (.inl ⟨rfl,rfl⟩)⟩
   ·exact⟨_,_,h,Kj ho hx hy hu (.inr ⟨rfl,rfl⟩)⟩
   ·exact h.elim
  ·next b hx hy=>
   obtain⟨hu,h⟩:=h
   split at h
   ·exact⟨_,_,h,Pg ho hx hy hu (.inl ⟨rfl,rfl⟩)⟩
   ·exact⟨_,_,h,Pg ho hx hy hu (.inr ⟨rfl,rfl⟩)⟩
   ·exact h.elim
  ·next n l n' c' hx hy=>
   obtain⟨hn,hu,h⟩:=h
   split at h
   ·exact⟨_,_,h,Kk ho hx hy hn hu (.inl ⟨rfl,rfl⟩)⟩
   ·exact⟨_,_,h,Kk ho hx hy hn hu (.inr ⟨rfl,rfl⟩)⟩
   ·exact h.elim
  ·next l q hx hy=>
   obtain⟨hu,h⟩:=h
   split at h
   ·exact⟨_,_,h,Gq ho hx hy hu (.inl ⟨rfl,rfl⟩)⟩
   ·exact⟨_,_,h,Gq ho hx hy hu (.inr ⟨rfl,rfl⟩)⟩
   ·exact h.elim
  ·next l m hx hy=>
   split at h
   ·next i hY=>
    obtain⟨h1,h2,h3,h⟩:=h
    split at h
    ·exact⟨_,_,h,O6 ho hx hy hY h1 h2 h3 (.inl ⟨rfl,rfl⟩)⟩
    ·exact⟨_,_,h,O6 ho hx hy hY h1 h2 h3 (.inr ⟨rfl,rfl⟩)⟩
    ·exact h.elim
   ·exact h.elim
  ·exact h.elim
 case h_5 op t x ho=>
  split at h
  ·next hx=>exact⟨_,_,h,bC9 ho hx⟩
  ·next hx=>exact⟨_,_,h,bC8 ho hx⟩
  ·exact h.elim
 case h_6 e ho=>
  split at h
  ·next i hY=>exact⟨_,_,h,aw2 ho hY⟩
  ·exact h.elim
 case h_7 e x ho=>
  split at h
  ·next a hx=>
   split at h
   ·next l hl=>exact⟨_,_,h,bC7 ho hx hl⟩
   ·exact h.elim
  ·next hx=>
   split at h
   ·next l hk=>exact⟨_,_,h,YB ho hx hk⟩
   ·exact h.elim
  ·exact h.elim
 case h_8 t x ho=>
  split at h
  ·exact h.elim
  ·next i hY=>
   split at h
   ·next b base hx0=>
    have hx:=(fZ hx0).resolve_right (by rintro⟨_,_,_,_,e⟩;cases e)
    split at h
    ·next l hk=>
     obtain⟨d,hd,hs⟩:=tK h
     exact⟨_,_,hd,zA ho hY (b:=b) (by rw[hx];simp[T.refs]) hk (fun {D ρ w v r} hv hb=>by
      rw[hx]at hv;obtain⟨r',e1,e2⟩:=hv _ hb;obtain rfl:=e1.ptr;exact e2) hs⟩
    ·next l off e sz n m hk=>
     split at h
     ·obtain⟨rfl,h1,h⟩:=h
      exact⟨_,_,h,aw7 ho hY h1 hx hk⟩
     ·split at h
      ·next l' hl=>
       obtain⟨d,hd,hs⟩:=tK h
       refine⟨_,_,hd,cO.Zu (x:=x) (by rw[ho];simp[Op.operands]) (by rw[hx];simp[T.refs]) (by simp[looks,ho]) hk hl (zA (s:=⟨s.t,s.h.set b (some (.var l'))⟩) ho hY (b:=b) (by show b∈(s.ev x).refs;rw[hx];simp[T.refs]) (by simp[St.bk,sQ hk]) (fun {D ρ w v r} hv hb=>by
        have hv:RT D ρ w (s.ev x) v:=hv
        rw[hx]at hv;obtain⟨r',e1,e2⟩:=hv _ hb;obtain rfl:=e1.ptr;exact e2) hs) (.inl ⟨rfl,rfl⟩)⟩
      ·exact h.elim
    ·exact h.elim
   ·next b base rel hx0=>
    have hx:=(fZ hx0).resolve_right (by rintro⟨_,_,_,_,e⟩;cases e)
    split at h
    ·next l hk=>
     obtain⟨d,hd,hs⟩:=yu h
     exact⟨_,_,hd,zA ho hY (b:=b) (by rw[hx];simp[T.refs]) hk (fun {D ρ w v r} hv hb=>by
      rw[hx]at hv;obtain⟨r',e1,e2⟩:=hv _ hb;obtain rfl:=e1.ptr;exact e2) hs⟩
    ·exact h.elim
   ·next b n off hx0=>
    have hx:=(fZ hx0).resolve_right (by rintro⟨_,_,_,_,e⟩;cases e)
    split at h
    ·next e sz m l hk=>
     obtain⟨rfl,h⟩:=h
     obtain⟨d,hd,hs⟩:=yu h
     exact⟨_,_,hd,Tt ho hY hx hk (by intro S w cs hcs;have:=hs hcs;rwa [Nat.zero_add]at this)⟩
    ·exact h.elim
   ·next l off hx=>
    obtain⟨hz,h⟩:=h
    obtain⟨d,hd,hs⟩:=yu h
    exact⟨_,_,hd,Tv ho hY hx (by intro S w cs hcs;have:=hs hcs;rwa [Nat.zero_add]at this) hz⟩
   ·next l off hx0=>
    have hx:=(fZ hx0).resolve_right (by rintro⟨_,_,_,_,e⟩;cases e)
    obtain⟨hz,h⟩:=h
    obtain⟨d,hd,hs⟩:=tK h
    exact⟨_,_,hd,Pf ho hY hx (by intro S w cs hcs;exact hs hcs) hz⟩
   ·next b hx0=>
    have hx:=(fZ hx0).resolve_right (by rintro⟨_,_,_,_,e⟩;cases e)
    split at h
    ·next hk=>exact⟨_,_,h.2.2,YE ho hY h.1 h.2.1 hx hk⟩
    ·exact h.elim
   ·exact h.elim
 case h_9 t x y ho=>
  split at h
  ·exact h.elim
  ·next i hY=>
   split at h
   ·next b base d hx hy=>
    split at h
    ·next l hk=>
     obtain⟨l',hl,hs⟩:=BG h
     exact⟨_,_,hl,Gr ho hY (b:=b) (by rw[hx];simp[T.refs]) hk hy (fun {D ρ w v r} hv hb=>by
      rw[hx]at hv;obtain⟨r',e1,e2⟩:=hv _ hb;obtain rfl:=e1.ptr;exact e2) hs⟩
    ·next l off e sz n m hk=>
     split at h
     ·next l1 hl1=>
      obtain⟨l',hl,hs⟩:=BG h
      refine⟨_,_,hl,cO.Zu (x:=x) (by rw[ho];simp[Op.operands]) (by rw[hx];simp[T.refs]) (by simp[looks,ho]) hk hl1 (Gr (s:=⟨s.t,s.h.set b (some (.var l1))⟩) ho hY (b:=b) (by show b∈(s.ev x).refs;rw[hx];simp[T.refs]) (by simp[St.bk,sQ hk]) hy (fun {D ρ w v r} hv hb=>by
       have hv:RT D ρ w (s.ev x) v:=hv
       rw[hx]at hv;obtain⟨r',e1,e2⟩:=hv _ hb;obtain rfl:=e1.ptr;exact e2) hs) (.inr ⟨_,rfl,rfl⟩)⟩
     ·exact h.elim
    ·exact h.elim
   ·next b base b' n' hx hy=>
    split at h
    ·next l off p e sz n m hk=>
     obtain⟨rfl,rfl,rfl,h1,h⟩:=h
     exact⟨_,_,h,YF ho hY h1 hx hy hk⟩
    ·exact h.elim
   ·next b base rel d hx hy=>
    split at h
    ·next l hk=>
     obtain⟨l',hl,hs⟩:=KT h
     exact⟨_,_,hl,Gr ho hY (b:=b) (by rw[hx];simp[T.refs]) hk hy (fun {D ρ w v r} hv hb=>by
      rw[hx]at hv;obtain⟨r',e1,e2⟩:=hv _ hb;obtain rfl:=e1.ptr;exact e2) hs⟩
    ·exact h.elim
   ·next b n off d hx hy=>
    split at h
    ·next e sz m l hk=>
     obtain⟨rfl,h1,h2,h⟩:=h
     obtain⟨l',hl,hs⟩:=KT h
     exact⟨_,_,hl,Pj ho hY hx hk h1 h2 hy hs⟩
    ·exact h.elim
   ·exact h.elim
 case h_10 t x f ho=>
  split at h
  ·exact h.elim
  ·next i hY=>
   split at h
   ·exact h.elim
   ·next off hf=>
    split at h
    ·next b base hx=>exact⟨_,_,h,uS ho hY hf hx ⟨b,base,.inl ⟨rfl,rfl⟩⟩⟩
    ·next b base rel hx=>exact⟨_,_,h,uS ho hY hf hx ⟨b,base,.inr ⟨rel,.inl ⟨rfl,rfl⟩⟩⟩⟩
    ·next b n q hx=>
     split at h
     ·next e sz m l hk=>
      obtain⟨rfl,h⟩:=h
      exact⟨_,_,h,uS ho hY hf hx ⟨b,n,.inr ⟨q,.inr ⟨rfl,rfl,e,sz,l,hk⟩⟩⟩⟩
     ·exact h.elim
    ·next l q hx=>exact⟨_,_,h,O7 ho hY hf hx⟩
    ·next l q hx=>exact⟨_,_,h,Mf ho hY hf hx⟩
    ·exact h.elim
 case h_11 t x ix ho=>
  split at h
  ·exact h.elim
  ·next i hY=>
   obtain⟨he,h⟩:=h
   split at h
   ·next k' z hi=>
    split at h
    ·next b base hx0=>exact⟨_,_,h.2.2.2,Du ho hY he h.1 hi h.2.1 h.2.2.1 (.inl ⟨(fZ hx0).resolve_right (by rintro⟨_,_,_,_,e⟩;cases e),rfl⟩)⟩
    ·next b base rel hx0=>exact⟨_,_,h.2.2.2,Du ho hY he h.1 hi h.2.1 h.2.2.1 (.inr ⟨rel,(fZ hx0).resolve_right (by rintro⟨_,_,_,_,e⟩;cases e),rfl⟩)⟩
    ·next l off hx=>exact⟨_,_,h.2.2.2,Pb ho hY he h.1 hi h.2.1 h.2.2.1 hx⟩
    ·next l off hx0=>
     obtain⟨h1,h2,h3,h⟩:=h
     split at h
     ·next hc=>exact⟨_,_,h,Mh ho hY he h1 hi h2 h3 ((fZ hx0).resolve_right (by rintro⟨_,_,_,_,e⟩;cases e)) hc⟩
     ·exact h.elim
    ·next n l hx0=>exact⟨_,_,h.2.2.2.2,Pd ho hY he h.1 hi h.2.1 h.2.2.1 ((fZ hx0).resolve_right (by rintro⟨_,_,_,_,e⟩;cases e)) h.2.2.2.1⟩
    ·next n sz f hx0=>obtain⟨h1,h2,h3,rfl,h4⟩:=h;exact⟨_,_,h4,Mg ho hY he h1 hi h2 h3 ((fZ hx0).resolve_right (by rintro⟨_,_,_,_,e⟩;cases e))⟩
    ·next b n off hx0=>
     have hx:=(fZ hx0).resolve_right (by rintro⟨_,_,_,_,e⟩;cases e)
     split at h
     ·next e sz m l hk=>
      obtain⟨rfl,h1,h2,h3,h⟩:=h
      exact⟨_,_,h,O8 ho hY he h1 hi h2 h3 hx hk⟩
     ·exact h.elim
    ·next b n hx0=>
     have hx:=(fZ hx0).resolve_right (by rintro⟨_,_,_,_,e⟩;cases e)
     split at h
     ·next e sz m l hk=>
      obtain⟨h1,h2,h3,rfl,h5,h⟩:=h
      exact⟨_,_,h,O9 ho hY he h1 hi h2 h3 hx hk⟩
     ·exact h.elim
    ·next b base n hx0=>exact⟨_,_,h.2.2.2,Pe ho hY he h.1 hi h.2.1 h.2.2.1 ((fZ hx0).resolve_right (by rintro⟨_,_,_,_,e⟩;cases e))⟩
    ·exact h.elim
   ·exact h.elim
 case h_12 t x ix ho=>
  split at h
  ·exact h.elim
  ·next i hY=>
   obtain⟨he,hl,h⟩:=h
   split at h
   ·next l k' z j hx hi hj=>
    obtain⟨h0,h1,h⟩:=h
    obtain⟨d,hd,hs⟩:=yu h
    exact⟨_,_,hd,aw6 ho hY he hl hx hi hj h0 h1 hs⟩
   ·exact h.elim
 case h_13 t x f ho=>
  split at h
  ·exact h.elim
  ·next i hY=>
   split at h
   ·next off ft l hf hft hx=>
    split at h
    ·next j hj=>
     obtain⟨d,hd,hs⟩:=tK h
     exact⟨_,_,hd,aw5 ho hY hf hft hx hj hs⟩
    ·exact h.elim
   ·exact h.elim
 case h_14 t parts ho=>
  split at h
  ·exact h.elim
  ·next i hY=>
   obtain⟨ha,hl,h⟩:=h
   obtain⟨l,hK,hr⟩:=aw3 ho hY ha hl h
   exact⟨_,_,hK,hr⟩
 case h_15 src dst x ho=>
  split at h
  ·next si i k' z hs hY hx=>
   split at h
   ·next q hq=>exact⟨_,_,h,aV3 ho hs hY hx hq⟩
   ·exact h.elim
  ·next si i b hs hY hx=>exact⟨_,_,h.2.2.2.2,aV5 ho hY h.1 h.2.1 h.2.2.1 h.2.2.2.1 hx⟩
  ·next si i hs hY _ _=>exact bD1 ho hs h.1 h.2.1 h.2.2.1 h.2.2.2
  ·exact h.elim
 case h_16 t x lo hi mx ho=>
  split at h
  ·next i b base hY hx=>exact⟨_,_,h.2.2.2,bD3 ho hY h.1 h.2.1 h.2.2.1 hx⟩
  ·next i b base y hY hx=>
   obtain⟨h1,h2,h3,h⟩:=h
   split at h
   ·next z hz=>exact⟨_,_,h.2.2,aV6 ho hY h1 h2 h3 hx hz h.1 h.2.1⟩
   ·exact h.elim
  ·next i b base rel hY hx=>exact⟨_,_,h.2.2.2,aV7 ho hY h.1 h.2.1 h.2.2.1 hx⟩
  ·next i n l lo hi hY hx=>
   obtain⟨h1,h2,h⟩:=h
   obtain⟨a,h,ha⟩:=BP h
   obtain⟨b,⟨h3,h4,h⟩,hb⟩:=BP h
   obtain⟨m,hm,h5,h6⟩:=KH h
   exact⟨_,_,hm,bD2 ho hY h1 h2 hx ha hb h3 h4 h5 h6⟩
  ·next i b n hi hY hx=>
   obtain⟨h1,h2,h⟩:=h
   split at h
   ·next e sz q l hk=>
    obtain⟨rfl,h⟩:=h
    obtain⟨c,⟨h3,h⟩,hb⟩:=BP h
    exact⟨_,_,h,bD0 ho hY h1 h2 hx hk hb h3⟩
   ·exact h.elim
  ·exact h.elim
 case h_17 c ho=>
  split at h
  ·next y hc=>
   split at h
   ·next f hy0=>
    have hy:=JI hy0
    split at h
    ·split at h
     ·exact aV2 ho hc hy h
     ·next pos b rest hl=>
      split at h
      ·next p hb=>exact aw4 ho hc hy hl hb h.1 h.2
      ·exact h.elim
    ·next pos b rest hl=>
     split at h
     ·next p hb=>exact Tn ho hc hy hl hb h.1 h.2
     ·next l0 hb=>exact Tp ho hc hy hl hb h.1 h.2
     ·exact h.elim
   ·split at h
    ·next f cs hy=>
     obtain⟨ds,dF,hC,hargs⟩:=jJ h
     obtain⟨r,hok,hr⟩:=E.hC _ _ _ hC
     cases r with
     |d x=>exact⟨_,_,hr.2,Tm ho hc hy (E.hF _ _ _ hC) hargs hok hr.1⟩
     |_=>exact hr.elim
    ·exact h.elim
  ·next hc=>
   split at h
   ·next x y t t' ha ht=>
    obtain⟨rfl,h⟩:=h
    split at h
    ·next i hY=>
     obtain⟨hs1,he,h⟩:=h
     split at h
     ·next j hj=>
      obtain⟨hjb,hjs,h⟩:=h
      obtain⟨m,news,⟨hseg,h⟩,hsrc⟩:=KE (E:=E) h
      split at h
      ·next b n hx=>
       split at h
       ·next e sz q l hk=>
        obtain⟨rfl,rfl,rfl,hb,h⟩:=h
        exact⟨_,_,h,Yz ho hc ha ht hY hs1 he hj hjb hjs hsrc hseg hx hk hb⟩
       ·exact h.elim
      ·next b n hx=>
       split at h
       ·next l off p e sz q m0 hk=>
        obtain⟨rfl,rfl,rfl,hb,h⟩:=h
        exact⟨_,_,h,Tk ho hc ha ht hY hs1 he hj hjb hjs hsrc hseg hx hk hb⟩
       ·exact h.elim
      ·next hx=>exact⟨_,_,h.2,Me ho hc ha ht hY hs1 he hj hjb hjs hsrc hseg hx h.1⟩
      ·exact h.elim
     ·exact h.elim
    ·exact h.elim
   ·exact h.elim
  ·next hc=>
   split at h
   ·next x y t t' ha ht=>
    split at h
    ·next i hY=>
     obtain⟨hs1,he,h⟩:=h
     obtain⟨m,news,⟨hseg,h⟩,hsrc⟩:=KE (E:=E) h
     split at h
     ·next b base n hx=>
      split at h
      ·next l hk=>
       obtain⟨hmn,h⟩:=h
       obtain⟨l',h,hd⟩:=BG h
       exact⟨_,_,h,aV4 ho hc ha ht hY hs1 he hsrc hseg hx hk hmn hd⟩
      ·exact h.elim
     ·exact h.elim
    ·exact h.elim
   ·exact h.elim
  ·next hc=>
   split at h
   ·next q x q' y ha=>exact⟨_,_,h,Kg (mx:=false) ho hc ha⟩
   ·exact h.elim
  ·next hc=>
   split at h
   ·next q x q' y ha=>exact⟨_,_,h,Kg (mx:=true) ho hc ha⟩
   ·exact h.elim
  ·next hc=>
   split at h
   ·next x t ha ht=>
    split at h
    ·next b hx=>exact⟨_,_,h.2,YD ho hc ha ht h.1 hx⟩
    ·next hx0=>
     split at h
     ·next i hY=>
      obtain⟨h1,h⟩:=h
      split at h
      ·next n l hx=>exact⟨_,_,h,Cz ho hc ha ht hY h1 (.inl (.inl ⟨l,hx⟩))⟩
      ·next n sz f hx=>exact⟨_,_,h,Cz ho hc ha ht hY h1 (.inl (.inr ⟨sz,f,hx⟩))⟩
      ·next b n hx=>
       split at h
       ·next e sz m l hk=>
        obtain⟨rfl,h⟩:=h
        exact⟨_,_,h,Cz ho hc ha ht hY h1 (.inr (.inl ⟨b,e,sz,l,hx,hk⟩))⟩
       ·exact h.elim
      ·next b base n hx=>exact⟨_,_,h,Cz ho hc ha ht hY h1 (.inr (.inr (.inl ⟨b,base,hx⟩)))⟩
      ·next hx=>exact⟨_,_,h,Cz ho hc ha ht hY h1 (.inr (.inr (.inr ⟨_,_,hx⟩)))⟩
      ·next hx=>exact⟨_,_,h,Cz ho hc ha ht hY h1 (.inr (.inr (.inr ⟨_,_,hx⟩)))⟩
      ·exact h.elim
     ·exact h.elim
   ·exact h.elim
  ·exact h.elim
 case h_18 x i ho=>
  split at h
  ·next l hx=>
   split at h
   ·next d hd=>exact⟨_,_,h,Tq ho hx hd⟩
   ·exact h.elim
  ·exact h.elim
 case h_19 x ho=>
  split at h
  ·next b base hx=>exact⟨_,_,h,Dv ho (.inl ⟨b,base,hx,rfl⟩)⟩
  ·next b base rel hx=>exact⟨_,_,h,Dv ho (.inr ⟨b,base,rel,hx,rfl⟩)⟩
  ·next l q hx=>exact⟨_,_,h,Ki ho hx (.inl ⟨_,_,rfl⟩)⟩
  ·next l q hx=>exact⟨_,_,h,Ki ho hx (.inr ⟨_,_,rfl⟩)⟩
  ·exact h.elim
 case h_20 t x y ho=>
  split at h
  ·next i q n q' c hY hx hy=>
   obtain⟨h1,h2,rfl,h3,h4,h⟩:=h
   split at h
   ·next j hj=>
    obtain⟨h5,h6,h⟩:=h
    split at h
    ·exact⟨_,_,h,(VY ho hY h1 h2 hx hy h3 h4 hj h5 h6).freeze⟩
    ·exact⟨_,_,h,VY ho hY h1 h2 hx hy h3 h4 hj h5 h6⟩
   ·exact h.elim
  ·exact h.elim
 case h_21 t len parts ho=>
  split at h
  ·exact h.elim
  ·next i hY=>
   obtain⟨h1,h2,h⟩:=h
   split at h
   ·obtain⟨hp,h⟩:=h
    split at h
    ·next j hj=>exact⟨_,_,h,YC ho hY h1 h2 hj hp⟩
    ·exact h.elim
   ·obtain⟨h3,h4,h⟩:=h
    split at h
    ·next j hj=>
     split at h
     ·next hsl=>
      obtain⟨h5,h⟩:=h
      split at h
      ·next ps hps=>
       obtain⟨h6,h7,h⟩:=h
       split at h
       ·split at h
        ·next l hl=>
         have h9:=(A9 (fr:=fr) ho hY h1 h5 h3 h4 hj h7 hps h6).rows hl
         rw[h6]at h9
         exact⟨_,_,h,h9⟩
        ·exact h.elim
       ·exact⟨_,_,h,A9 ho hY h1 h5 h3 h4 hj h7 hps h6⟩
      ·exact h.elim
     ·obtain⟨hjs,h⟩:=h
      obtain⟨l,hK,hr⟩:=yP ho hY h1 h2 h3 h4 hj hjs h
      split at hK
      ·exact⟨_,_,hK,hr.freeze⟩
      ·exact⟨_,_,hK,hr⟩
    ·exact h.elim
 case h_22 t x ho=>
  split at h
  ·next i n l hY hx=>exact⟨_,_,h.2.2.2,aw9 ho hY h.1 h.2.1 h.2.2.1 hx⟩
  ·exact h.elim
 case h_23=>exact h.elim
end
end
section
def an4(ops:List Oper)(o:Oper)(s:St)(run skip:Prop):Prop:=
 match o.guard with
 |none=>run
 |some (j,want)=>
  match(ops[j]?).bind (·.dst)with
  |none=>False
  |some d=>
   match s.sl d with
   | .d (.v (.bool b))=>(match want with|true=>vE (aN b run skip)|false=>vE (aN b skip run))
   | .d (.v (.tuple _))=>skip
   |_=>False
def KG(E:ak)(ops:List Oper)(o:Oper)(s:St)(fr:Nat)(k:KO):Prop:=an4 ops o s (opA E o s fr k) (k (.d (.v undef)) none)
def Ld:Value->Option Bool| .bool c=>some c|_=>none
def sN(ops:List Oper)(o:Oper)(s:St)(b:Bool):Prop:=
 match o.guard with
 |none=>b=true
 |some (j,want)=>∃d x,(ops[j]?).bind (·.dst)=some d/\s.sl d=.d (.v x)/\b=(Ld x==some want)
def wm(E:ak)(ops:List Oper)(o:Oper)(s:St)(fr:Nat)(t:T)(blk:Option (Nat×Bk)):Prop:=
 (sN ops o s true/\cO E o s fr t blk)\/(sN ops o s false/\t=.d (.v undef)/\blk=none)
theorem rX{E:ak}{o:Oper}{s:St}{fr:Nat}{k:KO}(h:KG E ops o s fr k):∃t blk,k t blk/\wm E ops o s fr t blk:=by
 unfold KG an4 at h
 split at h
 ·next hg=>
  obtain⟨t,blk,h1,h2⟩:=CF h
  exact⟨t,blk,h1,.inl ⟨by unfold sN;rw[hg],h2⟩⟩
 ·next j want hg=>
  split at h
  ·exact h.elim
  ·next d hd=>
   have W:∀x b,s.sl d=.d (.v x)->b=(Ld x==some want)->sN ops o s b:=fun x b h1 h2=>by
    unfold sN;rw[hg];exact⟨d,x,hd,h1,h2⟩
   split at h
   ·next b hs=>
    cases b<;>cases want
    ·obtain⟨t,blk,h1,h2⟩:=CF h.out
     exact⟨t,blk,h1,.inl ⟨W _ _ hs rfl,h2⟩⟩
    ·exact⟨_,_,h.out,.inr ⟨W _ _ hs rfl,rfl,rfl⟩⟩
    ·exact⟨_,_,h.out,.inr ⟨W _ _ hs rfl,rfl,rfl⟩⟩
    ·obtain⟨t,blk,h1,h2⟩:=CF h.out
     exact⟨t,blk,h1,.inl ⟨W _ _ hs rfl,h2⟩⟩
   ·next hs=>exact⟨_,_,h,.inr ⟨W _ _ hs (by cases want<;>rfl),rfl,rfl⟩⟩
   ·exact h.elim
section
variable {E : ak} {S : Nat -> Prop} {base : Nat} {w0 : W0 E.G}
theorem sN.real{o:Oper}{s s':St}{b:Bool}(h:sN ops o s b)(g:Good S base w0 s' ρ a w)
  (hs:∀j want d,o.guard=some (j,want)->(ops[j]?).bind (·.dst)=some d->s'.sl d=s.sl d):Region.wanted o (yielded ops.toArray a.tmps)=b:=by
 unfold sN at h
 unfold Region.wanted
 split at h
 ·next hg=>rw[hg,h]
 ·next j want hg=>
  obtain⟨d,x,hd,hx,rfl⟩:=h
  rw[hg]
  have h1:=g.ev (.tmp d)
  have h2:s'.ev (.tmp d)=.d (.v x):=by show s'.sl d=_;rw[hs j want d hg hd,hx]
  rw[h2]at h1
  have h3:a.tmps.getD d undef=x:=RA.plain h1
  have hlt:d<a.tmps.size:=by
   apply Decidable.byContradiction
   intro hn
   have:s'.sl d=.au:=by
    unfold St.sl
    rw[List.getD_eq_getElem?_getD,List.getElem?_eq_none (by rw[g.len];exact Nat.le_of_not_lt hn)];rfl
   rw[show s'.sl d=.d (.v x)from h2]at this;cases this
  have h4:a.tmps[d]?=some x:=by
   rw[Array.getD_eq_getD_getElem?,Array.getElem?_eq_getElem hlt]at h3
   rw[Array.getElem?_eq_getElem hlt];exact congrArg some h3
  have h5:yielded ops.toArray a.tmps j=Ld x:=by
   unfold yielded
   rw[List.getElem?_toArray,hd,Option.bind_some,h4]
   cases x<;>rfl
  show(yielded ops.toArray a.tmps j==some want)=_
  rw[h5]
structure U2(s s':St):Prop where
 t:s'.t.length=s.t.length
 h:s.h.length<=s'.h.length
 sl:∀i,s'.sl i=s.sl i
 bk:∀b,s'.bk b=s.bk b
theorem Good.sim{G:Nat->Option (List Seg)}{base:Nat}{w0:W0 G}{s s':St}(g:Good S base w0 s ρ a w)(e:U2 s s'):Good S base w0 s' ρ a w:=
 ⟨e.t.trans g.len,fun i hi=>by rw[e.sl];exact g.t i hi,fun b=>by rw[e.bk];exact g.b b,fun i b hb=>by rw[e.bk];rw[e.sl]at hb;exact g.ru i b hb,g.inj,g.low,g.iE,g.glob,g.pin,g.size,g.defs⟩
theorem jA(s:St)(n b:Nat):St.bk ⟨s.t,s.h++List.replicate n none⟩ b=s.bk b:=by
 simp only[St.bk,List.getD_eq_getElem?_getD]
 by_cases h:b<s.h.length
 ·rw[List.getElem?_append_left h]
 ·rw[List.getElem?_append_right (by omega),List.getElem?_eq_none (l:=s.h) (by omega),List.getElem?_replicate]
  split<;>rfl
theorem U2.more(s:St)(n:Nat):U2 s ⟨s.t,s.h++List.replicate n none⟩:=⟨rfl,by simp,fun _=>rfl,jA s n⟩
def St.qW(s:St)(dst:Option Nat)(t:T)(blk:Option (Nat×Bk)):St:=
 ⟨match dst with|some d=>s.t.set d t|none=>s.t,match blk with|some (b,x)=>if b=s.h.length then s.h++[some x]else s.h.set b (some x)|none=>s.h⟩
def aT9 (E : ak) (o : Oper) (s : St) (K : St -> Prop) (other : Prop) : Prop :=
  match o.op with
  | .call c =>
    (match c.callee with
     | .value x =>
       (match aP2 (s.ev x) with
        | some f =>
          (match wS (c.args.toList.map s.ev) with
           | some (pos, b, rest) =>
             (match s.bk b with
              | some (.var l) => yO b rest = true /\ o.guard = none /\ sP s rest fun args dF => E.M f pos (.var l) args fun r x' => (dF = true -> iG r = true) /\ (dF = true -> zo x' = true) /\
                  (match r with
                   | .d a => K ⟨match o.dst with | some d => s.t.set d (.d a) | none => s.t, s.h.set b (some x')⟩
                   | .t m => K ⟨match o.dst with | some d => s.t.set d (.yE m) | none => s.t, s.h.set b (some x')⟩
                   | _ => False)
              | _ => other)
           | none => other)
        | none => other)
     | _ => other)
  | _ => other
def bq(E:ak)(ops:List Oper):List Oper->St->(St->Prop)->Prop
 |[],s,k=>k s
 |o::r,s,k=>aT9 E o s (fun s'=>Stop (bq E ops r s' k))<|KG E ops o s s.h.length fun t blk=>Stop (bq E ops r (s.qW o.dst t blk) k)
theorem y9(s:St)(d:Option Nat)(t:T)(blk:Option (Nat×Bk))(b:Nat):(s.app d t blk).bk b=(match blk with|some (b0,x)=>if b0=b/\b0<s.h.length then some x else s.bk b|none=>s.bk b):=by
 unfold St.app St.bk
 cases blk with
 |none=>rfl
 |some p=>obtain⟨b0,x⟩:=p;simp only[aB]
theorem ze(s:St)(d:Option Nat)(t:T)(blk:Option (Nat×Bk))(i:Nat):(s.app d t blk).sl i=if d=some i/\i<s.t.length then t else s.sl i:=by
 unfold St.app St.sl
 cases d with
 |none=>simp
 |some d=>
  simp only[aB,Option.some.injEq]
  by_cases h:d=i
  ·subst h;rfl
  ·rw[if_neg (fun e=>h e.1),if_neg (fun e=>h e.1)]
theorem sO(s:St)(d:Option Nat)(t:T)(blk:Option (Nat×Bk)):(s.app d t blk).t.length=s.t.length/\(s.app d t blk).h.length=s.h.length:=by
 unfold St.app
 constructor
 ·cases d<;>simp
 ·cases blk with
  |none=>rfl
  |some p=>simp
theorem wD{s:St}{d:Option Nat}{t:T}{blk:Option (Nat×Bk)}:U2 (s.qW d t blk) (St.app ⟨s.t,s.h++List.replicate 1 none⟩ d t blk):=by
 have hb:∀b,(St.app ⟨s.t,s.h++List.replicate 1 none⟩ d t blk).bk b=(s.qW d t blk).bk b:=by
  intro b
  rw[y9]
  unfold St.qW
  cases blk with
  |none=>exact jA s 1 b
  |some p=>
   obtain⟨b0,x⟩:=p
   simp only[jA,List.length_append,List.length_replicate]
   by_cases h:b0=s.h.length
   ·subst h
    simp only[if_true,St.bk,List.getD_eq_getElem?_getD,List.getElem?_append]
    by_cases hb:b<s.h.length
    ·rw[if_neg (by omega),if_pos hb]
    ·rw[if_neg hb]
     by_cases h2:s.h.length=b
     ·rw[if_pos (by omega)];subst h2;simp
     ·rw[if_neg (by omega),List.getElem?_eq_none (by omega)]
      rw[List.getElem?_eq_none (by simp;omega)]
   ·rw[if_neg h]
    simp only[St.bk,aB]
    by_cases h2:b0=b
    ·subst h2
     by_cases h3:b0<s.h.length
     ·rw[if_pos (by omega),if_pos (by omega)]
     ·rw[if_neg (by omega),if_neg (by omega)]
    ·rw[if_neg (fun e=>h2 e.1),if_neg (fun e=>h2 e.1)]
 refine⟨(sO _ _ _ _).1.trans ?_,?_,fun i=>?_,hb⟩
 ·unfold St.qW;cases d<;>simp
 ·rw[(sO _ _ _ _).2]
  unfold St.qW
  cases blk with
  |none=>simp
  |some p=>obtain⟨b0,x⟩:=p;simp only;split<;>simp
 ·rw[ze]
  unfold St.qW St.sl
  cases d with
  |none=>simp
  |some d=>
   simp only[aB,Option.some.injEq]
   by_cases h:d=i
   ·subst h;rfl
   ·rw[if_neg (fun e=>h e.1),if_neg (fun e=>h e.1)]
theorem Good.yx{s s':St}(g:Good S base w0 s' ρ a w)(e:U2 s s'):Good S base w0 s ρ a w:=
 ⟨e.t.symm.trans g.len,fun i hi=>by rw[<-e.sl];exact g.t i hi,fun b=>by rw[<-e.bk];exact g.b b,fun i b hb=>by rw[<-e.bk];rw[<-e.sl]at hb;exact g.ru i b hb,g.inj,g.low,g.iE,g.glob,g.pin,g.size,g.defs⟩
theorem wm.run{o:Oper}{s s':St}{fr:Nat}{t:T}{blk:Option (Nat×Bk)}{K:Act->World->Prop}{Q:Exit->Act->World->Prop}
  (h:wm E ops o s fr t blk)(hs:Same o s s')(hg:∀j want d,o.guard=some (j,want)->(ops[j]?).bind (·.dst)=some d->s'.sl d=s.sl d)(g:Good S base w0 s' ρ a w)(h1:s'.bk fr=none)(h2:fr<s'.h.length)
  (hK:∀a' w' ρ',Good S base w0 (s'.app o.dst t blk) ρ' a' w'->K a' w'):
  if Region.wanted o (yielded ops.toArray a.tmps)then o.wp E.P a w K Q\/(o.asks E.P a w/\LetsOut Q)else K (a.put o.dst undef) w:=by
 rcases h with⟨hw,h⟩|⟨hw,rfl,rfl⟩
 ·rw[hw.real g hg,if_pos rfl]
  exact .inl (h.2.2 S base w0 s' ρ a w K Q hs g h1 h2 hK)
 ·rw[hw.real g hg,if_neg (by simp)]
  exact hK _ _ ρ (g.put' o.dst (t:=.d (.v undef)) (.v undef) (by simp[T.refs]))
theorem zx {o : Oper} {s : St} {K : St -> Prop} {other : Prop} (h : aT9 E o s K other) : (o.guard = none /\ ∀ (S : Nat -> Prop) (base : Nat) (w0 : W0 E.G) (ρ : Nat -> Option Value) (a : Act) (w : World) (K' : Act -> World -> Prop) (Q : Exit -> Act -> World -> Prop),
    Good S base w0 s ρ a w -> (∀ s' a' w' ρ', K s' -> Good S base w0 s' ρ' a' w' -> K' a' w') -> o.wp E.P a w K' Q) \/ other := by
  unfold aT9 at h
  split at h
  case h_2 => exact .inr h
  next c ho =>
  split at h
  case h_2 => exact .inr h
  next y hc =>
  split at h
  case h_2 => exact .inr h
  next f hy =>
  split at h
  case h_2 => exact .inr h
  next pos b rest hl =>
  split at h
  case h_2 => exact .inr h
  next l hb =>
  obtain ⟨hnl, hg, h⟩ := h
  refine .inl ⟨hg, ?_⟩
  obtain ⟨r, x', dF, ⟨hf1, hf2, hr⟩, hrun⟩ := Hu (K := fun dF r x' => (dF = true -> iG r = true) /\ (dF = true -> zo x' = true) /\
                  (match r with
                   | .d a => K ⟨match o.dst with | some d => s.t.set d (.d a) | none => s.t, s.h.set b (some x')⟩
                   | .t m => K ⟨match o.dst with | some d => s.t.set d (.yE m) | none => s.t, s.h.set b (some x')⟩
                   | _ => False)) ho hc (JI hy) hl hb hnl h (by intro _ _ _ _ _ _ _ e; cases e)
  intro S base w0 ρ a w K' Q g hK'
  refine hrun S base w0 s ρ a w K' Q (fun x hx => ⟨rfl, fun _ _ => rfl⟩) g fun v w' q hρ hw ⟨S0, h3, h4, h5⟩ => ?_
  obtain ⟨g2, k2⟩ := g.dF hρ hb hw h4 hf2 h5
  cases r with
  | d d => exact hK' _ _ _ ρ hr (g2.put' o.dst (t := .d d) ((tO hf1 k2 h3).1 d rfl) (by simp [T.refs]))
  | t m => exact hK' _ _ _ ρ hr (g2.put' o.dst (t := .yE m) ((tO hf1 k2 h3).2 m rfl) (by simp [T.refs]))
  | _ => exact hr.elim
theorem uY{ops:List Oper}:∀{l:List Oper} {s:St} {k:St->Prop} {ρ:Nat->Option Value} {a:Act} {w:World},bq E ops l s k->Good S base w0 s ρ a w->
  wpList E.P ops.toArray (fun e a' w'=>e=.normal/\∃s' ρ',k s'/\Good S base w0 s' ρ' a' w') l a w
 |[],s,k,ρ,a,w,h,g=>⟨rfl,s,ρ,h,g⟩
 |o::r,s,k,ρ,a,w,h0,g=>by
  rcases zx h0 with⟨hg0,hm⟩|h
  ·unfold wpList
   rw[show Region.wanted o (yielded ops.toArray a.tmps)=true by unfold Region.wanted;rw[hg0],if_pos rfl]
   exact .inl (hm S base w0 ρ a w _ _ g fun s' a' w' ρ' hk g'=>uY hk.out g')
  obtain⟨t,blk,hk,hs⟩:=rX h
  unfold wpList
  refine hs.run (s':=⟨s.t,s.h++List.replicate 1 none⟩) (ρ:=ρ) (a:=a) (w:=w) (fun x hx=>⟨by cases x<;>rfl,fun b _=>jA s 1 b⟩) (fun _ _ _ _ _=>rfl) (g.sim (U2.more s 1)) ?_ (by simp) fun a' w' ρ' g'=>?_
  ·rw[jA]
   unfold St.bk
   rw[List.getD_eq_getElem?_getD,List.getElem?_eq_none (Nat.le_refl _)];rfl
  ·exact uY hk.out (g'.yx wD)
end
end
end Go.Proofs.YtegalalmamofdaaGreatDoor
