/- -/
import Derived.Test.YtegalalmamofdaaGreatDoorJ6
import Derived.WideKeyRuns
namespace Go.Proofs.YtegalalmamofdaaGreatDoor
set_option linter.all false
set_option maxRecDepth 100000
open Go.RowKit
variable{l m:List Seg}{off n sz:Nat}{ρ:Nat->Option Value}{x:Operand}{e:TypeId}
section
theorem aG3{l l':List Seg}(h:Zu l off n m=some l'):∀{D:Nat->Prop} {w:World} {cs:List Value} {v:Value},RL D w l cs->RA D w (.row n m) v->RL D w l' (cs.set off v):=by
 intro D w cs v hl hv
 unfold Zu at h
 split at h
 ·next p k jq q i hc=>
  cases h
  obtain⟨s',hK,hs⟩:=P9 (s:=.gen k jq) (i:=i) (a:=.row n m) (K:=fun s'=>s'=.gen k (jq.set i (.row n m))) rfl
  subst hK
  obtain⟨c,d,e,rfl,h1,h2,h3,h4,h5,h6⟩:=hl.found hc
  obtain⟨k1,k2⟩:=hs h2 hv
  have k3:=h1.append (k1.append h3)
  have e1:(c++(d++e)).set off v=c++(d.set i v++e):=by
   rw[<-h4,List.set_append_right _ _ (by omega),show c.length+i-c.length=i by omega,List.set_append_left _ _ (by omega)]
  rw[e1]
  simpa using k3
 ·cases h
section
variable {E : ak} {o : Oper} {s : St} {fr : Nat}
theorem RP.reH{D D':Nat->Prop}{ρ ρ':Nat->Option Value}{w w':World}(k:Keeps D w D' w'){b0 r:Nat}{ad:Option Addr}{n0 c0:Nat}(h0:ρ b0=some (vY r (.slice ad n0 c0)))(h1:∀b,b≠b0->ρ' b=ρ b)(hR:∀u,ρ' b0=some u->Root u r)
  {p:Pt}{v:Value}(h:RP D ρ w p v):RP D' ρ' w' p v:=by
 cases p with
 |dat a=>exact RA.up k h
 |own b n=>
  by_cases e:b=b0
  ·subst e;obtain⟨a,n',c,hu,_⟩:=h _ h0;exact(kE.2 _ _ _ hu).elim
  ·intro u hu;rw[h1 b e]at hu;exact h u hu
 |win b base n=>
  by_cases e:b=b0
  ·subst e
   obtain⟨r',c,hu,h2⟩:=h _ h0
   obtain rfl:=hu.vY
   intro u hu;exact⟨_,c,hR u hu,h2⟩
  ·intro u hu;rw[h1 b e]at hu;exact h u hu
theorem RT.reH{D D':Nat->Prop}{ρ ρ':Nat->Option Value}{w w':World}(k:Keeps D w D' w'){b0 r:Nat}{ad:Option Addr}{n0 c0:Nat}(h0:ρ b0=some (vY r (.slice ad n0 c0)))(h1:∀b,b≠b0->ρ' b=ρ b)(hR:∀u,ρ' b0=some u->Root u r)
  (hH:∀n v,RT D ρ w (.hsl b0 n) v->RT D' ρ' w' (.hsl b0 n) v){t:T}{v:Value}(h:RT D ρ w t v):RT D' ρ' w' t v:=by
 cases t with
 |d a=>exact RA.up k h
 |yE l=>obtain⟨vs,rfl,h⟩:=h;exact⟨vs,rfl,h.up k⟩
 |rows l=>obtain⟨vs,k1,k2⟩:=h;exact⟨vs,k1.map fun p hp v hv=>hv.reH k h0 h1 hR,k2.up k⟩
 |au=>trivial
 |ob b=>
  by_cases e:b=b0
  ·subst e;obtain⟨r',F2,e1,e2⟩:=h _ h0;exact(EI e1).elim
  ·intro u hu;rw[h1 b e]at hu;exact h u hu
 |mp b=>
  by_cases e:b=b0
  ·subst e;obtain⟨r',F2,e1,e2⟩:=h _ h0;exact(EI e1).elim
  ·intro u hu;rw[h1 b e]at hu;exact h u hu
 |ptr b base=>
  by_cases e:b=b0
  ·subst e
   obtain⟨r',hu,h2⟩:=h _ h0
   obtain rfl:=hu.vY
   intro u hu;exact⟨_,hR u hu,h2⟩
  ·intro u hu;rw[h1 b e]at hu;exact h u hu
 |xg b base rel=>
  by_cases e:b=b0
  ·subst e
   obtain⟨r',hu,h2⟩:=h _ h0
   obtain rfl:=hu.vY
   intro u hu;exact⟨_,hR u hu,h2⟩
  ·intro u hu;rw[h1 b e]at hu;exact h u hu
 |own b n=>
  by_cases e:b=b0
  ·subst e;obtain⟨a,n',c,hu,_⟩:=h _ h0;exact(kE.2 _ _ _ hu).elim
  ·intro u hu;rw[h1 b e]at hu;exact h u hu
 |win b base n=>
  by_cases e:b=b0
  ·subst e
   obtain⟨r',c,hu,h2⟩:=h _ h0
   obtain rfl:=hu.vY
   intro u hu;exact⟨_,c,hR u hu,h2⟩
  ·intro u hu;rw[h1 b e]at hu;exact h u hu
 |BX b n off=>
  by_cases e:b=b0
  ·subst e;obtain⟨a,n',c,hu,_⟩:=h _ h0;exact(kE.2 _ _ _ hu).elim
  ·intro u hu;rw[h1 b e]at hu;exact h u hu
 |pre b n m=>
  by_cases e:b=b0
  ·subst e;obtain⟨a,n',c,hu,_⟩:=h _ h0;exact(kE.2 _ _ _ hu).elim
  ·intro u hu;rw[h1 b e]at hu;exact h u hu
 |NC b c=>
  by_cases e:b=b0
  ·subst e
   obtain⟨r',hu,h2⟩:=h _ h0
   obtain rfl:=hu.vY
   intro u hu;exact⟨_,hR u hu,h2⟩
  ·intro u hu;rw[h1 b e]at hu;exact h u hu
 |hsl b n=>
  by_cases e:b=b0
  ·subst e;exact hH n v h
  ·intro u hu;rw[h1 b e]at hu;exact h u hu
theorem Xg{t:TypeId}{i:TI}(h:D7 E.P t i)(hs:i.sl=true):i.agg=false:=by
 rw[<-h.agg]
 unfold lu
 rw[h.sl hs]
theorem aw7{t:TypeId}{i:TI}{b off sz n:Nat}(ho:o.op=.load t x)(hY:E.Y t=some i)(hs1:i.sl=true)(hx:s.ev x=.ptr b off)(hk:s.bk b=some (.vh l off true e sz n m)):cO E o s fr (.hsl b n) none:=by
 have hm:x∈o.op.operands:=by rw[ho];simp[Op.operands]
 refine .pure (fun b' hb=>⟨x,hm,by rw[hx];simpa[T.refs]using hb⟩) fun S base w0 s' ρ a w hs g=>?_
 have hB:=g.b b
 rw[(hs.bk hm (by simp[looks,ho]) (by rw[hx];simp[T.refs])).trans hk]at hB
 obtain⟨r,cs,ty,su,ms,h1,h2,h3,h4,h5,h6,h7,h8⟩:=hB
 obtain⟨r',e1,e2⟩:=bB hs g hm hx _ h1
 obtain rfl:=e1.vY
 obtain⟨ad,c,hf⟩:=ownsRow_form h4
 obtain⟨v,h9,h10⟩:=gV (D:=fun _=>True) (w:=w) (x:=.v su) (E.hY t i hY) (r:=r) (o:=0) (off:=off) (cs:=cs) (fun j hj=>by rw[Nat.zero_add,fU h2,List.getElem?_eq_getElem hj])
  ⟨fun e=>(by rw[Xg (E.hY t i hY) hs1]at e;cases e),fun _=>⟨su,h8 rfl,.v su,by rw[hf];rfl⟩⟩
 rw[Nat.zero_add]at h9
 obtain rfl:=RA.plain h10
 refine⟨v,gq ho e2 h9,fun u hu=>?_⟩
 rw[h1]at hu;cases hu
 subst hf
 exact .inl ⟨r,ad,n,c,rfl,Nat.le_refl _,fun _=>rfl⟩
theorem zK{D:Nat->Prop}{w:World}{base:Nat}{v:Value}{ms:List Value}(h4:w.ownsRow base e sz v n ms)(h5:RL D w m ms)(hD:∀q,Rl v q->D q):RA D w (.row n m) v:=by
 rcases h4.2 with⟨e1,e2⟩|⟨q,cap,cur,e1,e3,e4,e5,e6,e7,e8⟩
 ·rw[e1,e2]
  have hcs:ms=[]:=by have:=h4.1;rw[e2,Nat.zero_mul]at this;exact List.length_eq_zero_iff.1 this
  exact .row h5 (Nat.le_refl _) (Nat.zero_le _) (fun _=>rfl) (.inl hcs)
 ·subst e1
  refine .row h5 e5 e6 (fun e=>by cases e) (.inr ⟨q,0,rfl,hD q rfl,(Array.getElem?_eq_some_iff.1 e4).1,fun j hj=>?_⟩)
  rw[Nat.zero_add,cell_of_row w q j cur _ (0,0) e4]
  have:(cur.toList.take (n*sz))[j]?=ms[j]?:=by rw[e8]
  rw[List.getElem?_take,if_pos (by have:=h4.1;omega),Array.getElem?_toList,List.getElem?_eq_getElem hj]at this
  exact this
theorem Good.Zu{G:Nat->Option (List Seg)}{S:Nat->Prop}{base:Nat}{w0:W0 G}{s:St}{a:Act}{w:World}(g:Good S base w0 s ρ a w){b off sz n:Nat}{l l' m:List Seg}(hk:s.bk b=some (.vh l off true e sz n m))
  (hl:Zu l off n m=some l'):∃ρ',Good S base w0 ⟨s.t,s.h.set b (some (.var l'))⟩ ρ' a w:=by
 have hB:=g.b b
 rw[hk]at hB
 obtain⟨r,cs,ty,su,ms,h1,h2,h3,h4,h5,h6,h7,h8⟩:=hB
 obtain⟨ad,c,rfl⟩:=ownsRow_form h4
 have hset:(cs.set off (.slice none 0 0)).set off (.slice ad n c)=cs:=by
  rw[List.set_set]
  obtain⟨h9,h10⟩:=List.getElem?_eq_some_iff.1 (h8 rfl)
  rw[<-h10,List.set_getElem_self]
 have hr:Rl (vY r (.slice ad n c)) r:=(pz ⟨_,_,_,rfl⟩).2 (.inl rfl)
 refine⟨_,g.change b (sQ hk) (.pointer (some ⟨r,0,none⟩)) (.var l') none ⟨rfl,rfl,rfl,Nat.le_refl _,fun _ _ _=>rfl⟩ (by simp) (fun q hq=>?_) (fun K=>?_) (fun K i hi hm=>?_) (fun q hq=>?_)⟩
 ·have e:r=q:=hq
  subst e
  exact⟨.inr ⟨_,h1,hr⟩,(g.low b _ r h1 hr).2⟩
 ·refine⟨r,cs,ty,by simp[upd],trivial,h2,?_⟩
  have:=aG3 hl (h6.up K) (zK h4 (h5.up K) fun q hq=>⟨.inr (iM h4 hq).1,fun b' u hb hu=>?_⟩)
  ·rwa [hset]at this
  ·by_cases e:b'=b
   ·subst e
    simp[upd]at hb;subst hb
    have e:r=q:=hu
    exact h3 (e▸hq)
   ·simp[upd,e]at hb
    exact e (g.inj b' b u _ q hb h1 hu ((pz ⟨_,_,_,rfl⟩).2 (.inr hq)))
 ·refine RT.reH K h1 (fun b' hb=>by simp[upd,hb]) (fun u hu=>?_) (fun n v _ u hu=>?_) (g.t i hi)
  ·simp[upd]at hu;exact .inl hu.symm
  ·simp[upd]at hu;exact .inr ⟨r,hu.symm⟩
 ·rw[h1]at hq;exact(kE.1 _ (Option.some.inj hq)).elim
theorem cO.Zu{t:T}{blk bq5:Option (Nat×Bk)}{b off sz n:Nat}{l l' m:List Seg}(hm:x∈o.op.operands)(hxb:b∈(s.ev x).refs)(hlk:looks o=true)(hk:s.bk b=some (.vh l off true e sz n m))(hl:Go.Proofs.YtegalalmamofdaaGreatDoor.Zu l off n m=some l')
  (h:cO E o ⟨s.t,s.h.set b (some (.var l'))⟩ fr t blk)(hb:blk=none/\bq5=some (b,.var l')\/∃y,blk=some (b,y)/\bq5=some (b,y)):cO E o s fr t bq5:=by
 obtain⟨h1,h2,h3⟩:=h
 refine⟨fun q hq=>?_,fun q y e=>?_,fun S base w0 s' ρ a w K Q hs g hf hlt hK=>?_⟩
 ·rcases h1 q hq with⟨rfl,y,e⟩|h
  ·rcases hb with⟨e2,_⟩|⟨y',e2,e3⟩
   ·rw[e2]at e;cases e
   ·rw[e2]at e;cases e
    exact .inl ⟨rfl,_,e3⟩
  ·exact .inr h
 ·rcases hb with⟨_,e2⟩|⟨y',_,e2⟩<;>rw[e2]at e<;>cases e<;>exact .inr ⟨x,hm,hxb⟩
 ·have hbk:s'.bk b=some (.vh l off true e sz n m):=(hs.bk hm hlk hxb).trans hk
  have hlt1:=sQ hbk
  have hlt2:=sQ hk
  obtain⟨ρ1,g1⟩:=g.Zu hbk hl
  have hne:fr≠b:=fun e=>by rw[e,hbk]at hf;cases hf
  refine h3 S base w0 ⟨s'.t,s'.h.set b (some (.var l'))⟩ ρ1 a w K Q (fun y hy=>⟨(hs y hy).1,fun q hq=>?_⟩) g1 ?_ (by simpa using hlt) (fun a' w' ρ' g'=>hK a' w' ρ' ?_)
  ·by_cases e:q=b
   ·subst e;simp[St.bk,hlt1,hlt2]
   ·simp only[St.bk,aB]
    rw[if_neg (fun h=>e h.1.symm),if_neg (fun h=>e h.1.symm)]
    exact(hs y hy).2 q hq
  ·simp only[St.bk,aB];rw[if_neg (fun h=>hne h.1.symm)];exact hf
  ·rcases hb with⟨e1,e2⟩|⟨y',e1,e2⟩
   ·subst e1;subst e2;exact g'
   ·subst e1;subst e2
    have e3:St.app ⟨s'.t,s'.h.set b (some (.var l'))⟩ o.dst t (some (b,y'))=s'.app o.dst t (some (b,y')):=by
     simp[St.app,List.set_set]
    rwa [e3]at g'
theorem YF{t:TypeId}{x y:Operand}{i:TI}{b off sz n:Nat}{p:Bool}(ho:o.op=.store t x y)(hY:E.Y t=some i)(hsz:i.sz=1)(hx:s.ev x=.ptr b off)(hy:s.ev y=.hsl b n)(hk:s.bk b=some (.vh l off p e sz n m)):
  cO E o s fr (.d (.v undef)) (some (b,.vh l off true e sz n m)):=by
 have hm:x∈o.op.operands:=by rw[ho];simp[Op.operands]
 have hm2:y∈o.op.operands:=by rw[ho];simp[Op.operands]
 refine⟨fun b hb=>by simp[T.refs]at hb,fun b' x' e=>by cases e;exact .inr ⟨x,hm,by rw[hx];simp[T.refs]⟩,fun S base w0 s' ρ a w K Q hs g hf hlt hK=>?_⟩
 have hbk:s'.bk b=some (.vh l off p e sz n m):=(hs.bk hm (by simp[looks,ho]) (by rw[hx];simp[T.refs])).trans hk
 have hB:=g.b b
 rw[hbk]at hB
 obtain⟨r,cs,ty,su,ms,h1,h2,h3,h4,h5,h6,h7,h8⟩:=hB
 obtain⟨r',e1,e2⟩:=bB hs g hm hx _ h1
 obtain rfl:=e1.vY
 obtain⟨ad,c,rfl⟩:=ownsRow_form h4
 have hv:a.eval y=.slice ad n c:=by
  rcases bB hs g hm2 hy _ h1 with⟨r2,a2,n2,c2,e3,e4,e5⟩|⟨r2,e3⟩
  ·obtain⟨_,e6⟩:=EJ e3
   cases e6;exact e5 rfl
  ·exact(kE.1 _ e3).elim
 have hrun:=pE (E.hY t i hY) (w:=w) (v:=a.eval y) (r:=r) (off:=off) (cs:=cs) (ty:=ty) (by rw[hv,hsz];rfl) (by rw[hv];intro u hu;simp[Value.cells]at hu;subst hu;rfl) h2 (.inl (by omega))
 have hcell:(a.eval y).cells.toList=[.slice ad n c]:=by rw[hv];rfl
 have hcs:cs.take off++((a.eval y).cells.toList++cs.drop (off+(a.eval y).cells.toList.length))=cs.set off (.slice ad n c):=by
  rw[hcell,List.set_eq_take_append_cons_drop,if_pos h7];rfl
 have hr:Rl (vY r (.slice ad n c)) r:=(pz ⟨_,_,_,rfl⟩).2 (.inl rfl)
 have hu:upd ρ b (some (vY r (.slice ad n c)))=ρ:=by
  funext q;unfold upd;split
  ·next e=>rw[e,h1]
  ·rfl
 unfold Oper.wp
 have:(execOp a.eval o).run E.P w=.ok .skip (w.setRow r (cs.set off (.slice ad n c)).toArray):=by
  rw[<-hcs]
  simp only[execOp,ho,e2,Instr.storeAt,Instr.sureAddr,Sem.run_bind,Sem.run_pure,Result.andThen_ok,hrun]
 rw[this]
 have g2:=g.change b (sQ hbk) (vY r (.slice ad n c)) (.vh l off true e sz n m) (some r) (w':=w.setRow r (cs.set off (.slice ad n c)).toArray)
  (kN (bH w _) _ (.inr rfl)) (by intro r' e;cases e;exact⟨_,h1,hr⟩) (by
   intro r' hr'
   exact⟨.inr ⟨_,h1,hr'⟩,by rw[size_setRow];exact(g.low b _ r' h1 hr').2⟩) (by
   rw[hu]
   intro K0
   refine⟨r,cs.set off (.slice ad n c),ty,.slice ad n c,ms,h1,setRow_heap _ _ _ _ _ _ h2,h3,lX h4 (fun q hq=>setRow_other _ _ _ _ (fun e=>h3 (by first|exact e▸hq|exact e.symm▸hq))),h5.up K0,?_,by simpa using h7,fun _=>by rw[List.getElem?_set_self h7]⟩
   rw[List.set_set];exact h6.up K0) (by
   rw[hu]
   intro K0 i hi _
   exact(g.t i hi).up K0 (fun _ _=>rfl)) (fun q hq=>by rw[h1]at hq;exact(kE.1 _ (Option.some.inj hq)).elim)
 rw[hu]at g2
 exact hK _ _ _ (g2.put' o.dst (t:=.d (.v undef)) (.v undef) (by simp[T.refs]))
theorem Tk{c:Call}{x y:Operand}{t:TypeId}{i j:TI}{b n off:Nat}{l m0:List Seg}{p:Bool}(ho:o.op=.call c)(hc:c.callee=.builtin .append)(ha:c.args.toList=[x,y])(ht:c.argTypes.toList=[t,t])(hY:E.Y t=some i)(hs1:i.sl=true)(he:i.bY≠0)
  (hj:E.Y i.elem=some j)(hjb:j.bytes≠0)(hjs:dM j.zero=i.bY){m:Nat}{news:List Seg}
  (hsrc:∀(S:Nat->Prop) (base:Nat) (w0:W0 E.G) (s':St) (ρ:Nat->Option Value) (a:Act) (w:World),s'.ev y=s.ev y->(∀b∈(s.ev y).refs,s'.bk b=s.bk b)->Good S base w0 s' ρ a w->
   ∃ad c cs,a.eval y=.slice ad m c/\RL (Dt S base ρ) w news cs/\((ad=none/\c=0/\m=0/\cs=[])\/∃a',ad=some a'/\∀j u,cs[j]?=some u->w.cell? (a'.add j)=some u))
  (hseg:dM news=m*i.bY)(hx:s.ev x=.hsl b n)(hk:s.bk b=some (.vh l off p i.elem i.bY n m0))(hb:(n+m)*j.bytes<=140737488355328):
  cO E o s fr (.hsl b (n+m)) (some (b,.vh l off false i.elem i.bY (n+m) (kT m0 news))):=by
 have hca:c.args=#[x,y]:=by cases hq:c.args;simp_all
 have hct:c.argTypes=#[t,t]:=by cases hq:c.argTypes;simp_all
 have hmx:x∈o.op.operands:=by rw[ho];simp[Op.operands,Call.operands,hc,hca]
 have IV:y∈o.op.operands:=by rw[ho];simp[Op.operands,Call.operands,hc,hca]
 have hlk:looks o=true:=by simp[looks,ho]
 refine⟨fun q hq=>.inr ⟨x,hmx,by rw[hx];simpa[T.refs]using hq⟩,fun q z e=>by cases e;exact .inr ⟨x,hmx,by rw[hx];simp[T.refs]⟩,fun S base w0 s' ρ a w K' Q hs g hfr hlt hK'=>?_⟩
 obtain⟨ad,c',ns,h1,h2,h3⟩:=hsrc S base w0 s' ρ a w (hs y IV).1 (fun q hq=>hs.bk IV hlk hq) g
 have hbk:s'.bk b=some (.vh l off p i.elem i.bY n m0):=(hs.bk hmx hlk (by rw[hx];simp[T.refs])).trans hk
 have hB:=g.b b
 rw[hbk]at hB
 obtain⟨r,cs,ty,su,ms,b1,b2,b3,k2,k3,b6,b7,b8⟩:=hB
 obtain⟨ad1,c1,rfl⟩:=ownsRow_form k2
 have hxv:a.eval x=.slice ad1 n c1:=by
  rcases bB hs g hmx hx _ b1 with⟨r2,a2,n2,c2,e3,e4,e5⟩|⟨r2,e3⟩
  ·obtain⟨_,e6⟩:=EJ e3
   cases e6;exact e5 rfl
  ·exact(kE.1 _ e3).elim
 obtain⟨_,f,h5,h6⟩:=(E.hY t i hY).arr he
 obtain⟨f',z,h7,h8,h9,h10,h11⟩:=(E.hY _ j hj).info
 rw[h5]at h7;cases h7
 have hu:=(E.hY t i hY).sl hs1
 have hns:ns.length=m*i.bY:=by rw[h2.len,hseg]
 have hbl:=sQ hbk
 have hr0:∀{ad n c},Rl (vY r (.slice ad n c)) r:=fun {ad n c}=>(pz ⟨_,_,_,rfl⟩).2 (.inl rfl)
 have hrun:∀{v' w'},(Builtin.append_ #[t,t] o.type #[a.eval x,a.eval y]).run E.P w=.ok v' w'->(∀ρ',Good S base w0 (s'.app o.dst (.hsl b (n+m)) (some (b,.vh l off false i.elem i.bY (n+m) (kT m0 news)))) ρ' (a.put o.dst v') w'->o.wp E.P a w K' Q):=by
  intro v' w' hr ρ' hg
  unfold Oper.wp execOp
  simp only[ho,hc,hca,hct,resolve,invoke,builtin,Sem.run_bind,Sem.run_pure,Result.andThen_ok,List.map_toArray,List.map_cons,List.map_nil,hr]
  exact hK' _ _ _ hg
 have same:m=0->ns=[]->(Builtin.append_ #[t,t] o.type #[a.eval x,a.eval y]).run E.P w=.ok (a.eval x) w->o.wp E.P a w K' Q:=by
  intro hm hn hr
  subst hm;subst hn
  have zu:upd ρ b (some (vY r (.slice ad1 n c1)))=ρ:=by
   funext q;unfold upd;split
   ·next e=>rw[e,b1]
   ·rfl
  have g2:=g.change b hbl (vY r (.slice ad1 n c1)) (.vh l off false i.elem i.bY (n+0) (kT m0 news)) none ⟨rfl,rfl,rfl,Nat.le_refl _,fun _ _ _=>rfl⟩ (by simp) (fun r hr=>⟨.inr ⟨_,b1,hr⟩,(g.low b _ r b1 hr).2⟩) (by
   rw[zu]
   intro K0
   refine⟨r,cs,ty,.slice ad1 n c1,ms++[],b1,b2,b3,?_,k3.join h2,b6,b7,fun e=>by cases e⟩
   rw[List.append_nil];exact k2) (by
   rw[zu]
   intro _ q hq _
   exact g.t q hq) (fun q hq=>by rw[b1]at hq;exact(kE.1 _ (Option.some.inj hq)).elim)
  rw[zu]at g2
  refine hrun hr ρ (g2.put' o.dst (t:=.hsl b (n+0)) ?_ ?_)
  ·intro u hu
   rw[b1]at hu;cases hu
   exact .inl ⟨r,ad1,n,c1,rfl,Nat.le_refl _,fun _=>hxv⟩
  ·intro q hq
   simp[T.refs]at hq;subst hq
   simp[St.bk,aB,hbl]
 rcases h3 with⟨rfl,rfl,hm,hn⟩|⟨a',rfl,h12⟩
 ·refine same hm hn ?_
  rw[h1,hm,hxv]
  exact run_append_owned_none (P:=E.P) (w:=w) base t o.type i.elem f i.bY hu h5 _ n ms k2
 ·by_cases hm:m=0
  ·refine same hm (by rw[hm,Nat.zero_mul]at hns;exact List.length_eq_zero_iff.1 hns) ?_
   rw[h1,hm,hxv]
   exact kZ base t o.type i.elem f i.bY hu h5 h6 _ n ms k2 a' c'
  ·have hz:=(cZ (S:=S) (w:=w) h11).len
   have h63:n+m<=maxLen:=by
    have:n+m<=(n+m)*j.bytes:=Nat.le_mul_of_pos_right _ (Nat.pos_of_ne_zero hjb)
    unfold maxLen;omega
   obtain⟨v',w',hr,k4,k5,k6,k7⟩:=run_append_own_at (P:=E.P) w base t o.type i.elem f z i.bY j.bytes hu h5 h10 h6 h9 (by
     rw[hjs]at hz;simpa using hz) (Nat.pos_of_ne_zero he) _ n ms k2 a' m c' ns hns h12 h2.one h63 hb g.size
   obtain⟨Nk,c2,rfl⟩:=ownsRow_form k4
   have hnew:∀q,Rl (.slice Nk (n+m) c2) q->Rl (.slice ad1 n c1) q\/q=w.heap.size:=fun q hq=>by
    rw[uZ ⟨_,_,_,rfl⟩]at hq
    rcases k7 with k7|k7
    ·exact .inl ((uZ ⟨_,_,_,rfl⟩).2 (by rw[<-k7];exact hq))
    ·rw[k7]at hq;cases hq;exact .inr rfl
   have hlow:=(g.low b _ r b1 hr0).2
   have hro:(Value.slice ad1 n c1).ownBlock≠some r:=fun e=>b3 ((uZ ⟨_,_,_,rfl⟩).2 e)
   have g2:=g.change b hbl (vY r (.slice Nk (n+m) c2)) (.vh l off false i.elem i.bY (n+m) (kT m0 news)) (Value.slice ad1 n c1).ownBlock k5 (fun q hq=>⟨_,b1,(pz ⟨_,_,_,rfl⟩).2 (.inr ((uZ ⟨_,_,_,rfl⟩).2 hq))⟩) (fun q hq=>by
     rcases(pz ⟨_,_,_,rfl⟩).1 hq with rfl|hq
     ·exact⟨.inr ⟨_,b1,hr0⟩,Nat.lt_of_lt_of_le hlow k5.size⟩
     ·refine⟨?_,(iM k4 hq).2⟩
      rcases hnew q hq with JQ|rfl
      ·exact .inr ⟨_,b1,(pz ⟨_,_,_,rfl⟩).2 (.inr JQ)⟩
      ·exact .inl (Nat.le_refl _)) (by
     intro K0
     refine⟨r,cs,ty,.slice Nk (n+m) c2,ms++ns,by simp[upd],(k5.block r hlow (fun e=>hro (by first|exact e|exact e.symm))).trans b2,fun e=>?_,k4,(k3.up K0).join (h2.up K0),b6.up K0,b7,fun e=>by cases e⟩
     rcases hnew r e with JQ|JQ
     ·exact b3 JQ
     ·omega) (by
     intro K0 q hq hrf
     refine RT.reH K0 b1 (fun b' hb'=>by simp[upd,hb']) (fun u hu=>by simp[upd]at hu;exact .inr ⟨_,_,_,hu.symm⟩) (fun n' v hv u hu=>?_) (g.t q hq)
     simp[upd]at hu;subst hu
     rcases hv _ b1 with⟨r2,a2,n2,c2',e3,e4,e5⟩|⟨r2,e3⟩
     ·obtain⟨_,e6⟩:=EJ e3
      cases e6
      exact .inl ⟨r,Nk,n+m,c2,rfl,by omega,fun e=>by omega⟩
     ·exact(kE.1 _ e3).elim) (fun q hq=>by rw[b1]at hq;exact(kE.1 _ (Option.some.inj hq)).elim)
   refine hrun (by rw[h1,hxv];exact hr) _ (g2.put' o.dst (t:=.hsl b (n+m)) ?_ ?_)
   ·intro u hu
    simp[upd]at hu;subst hu
    exact .inl ⟨r,Nk,n+m,c2,rfl,Nat.le_refl _,fun _=>rfl⟩
   ·intro q hq
    simp[T.refs]at hq;subst hq
    simp[St.bk,aB,hbl]
theorem cO.freeze(h:cO E o s fr (.own fr n) (some (fr,.sl e sz n l))):cO E o s fr (.d (.row n l)) none:=by
 refine⟨fun b hb=>by simp[T.refs]at hb,fun b x e=>(by cases e),fun S base w0 s' ρ a w K Q hs g hf hlt hK=>?_⟩
 refine h.2.2 S base w0 s' ρ a w K Q hs g hf hlt fun a' w' ρ' g'=>hK a' w' (upd ρ' fr none) ?_
 have hbk:∀b,St.bk (s'.app o.dst (.own fr n) (some (fr,.sl e sz n l))) b=if b=fr then some (.sl e sz n l)else s'.bk b:=fun b=>by
  simp only[St.app,St.bk,aB]
  by_cases e:b=fr
  ·subst e;simp[hlt]
  ·rw[if_neg (fun h=>e h.1.symm),if_neg e]
 have hsl:∀t i,St.sl (s'.app o.dst t (some (fr,.sl e sz n l))) i=St.sl (s'.app o.dst t none) i:=fun t i=>rfl
 have hB:=g'.b fr
 rw[hbk,if_pos rfl]at hB
 obtain⟨u,ms,h1,h4,h5⟩:=hB
 have hu:∀b,b≠fr->upd ρ' fr none b=ρ' b:=fun b hb=>by simp[upd,hb]
 have hu':∀b v,upd ρ' fr none b=some v->b≠fr/\ρ' b=some v:=fun b v hb=>by
  by_cases e:b=fr
  ·subst e;simp[upd]at hb
  ·exact⟨e,by rw[<-hu b e];exact hb⟩
 have K:Keeps (Dt S base ρ') w' (Dt S base (upd ρ' fr none)) w':=⟨Nat.le_refl _,fun r _ hd=>⟨⟨hd.1,fun b v hb=>hd.2 b v (hu' b v hb).2⟩,fun _=>rfl⟩⟩
 have hrow:RA (Dt S base (upd ρ' fr none)) w' (.row n l) u:=zK h4 (h5.up K) fun q hq=>⟨.inr (iM h4 hq).1,fun b v hb hv=>by
  obtain⟨e1,e2⟩:=hu' b v hb
  exact e1 (g'.inj b fr v u q e2 h1 hv hq)⟩
 obtain⟨ad,c,hf2⟩:=ownsRow_form h4
 have hdst:∀i,o.dst≠some i\/s'.t.length<=i->∀t,St.sl (s'.app o.dst t none) i=s'.sl i:=fun i hi t=>by
  unfold St.app St.sl
  cases hd:o.dst with
  |none=>rfl
  |some d=>
   simp only[aB]
   rw[if_neg]
   rintro⟨rfl,h2⟩
   rcases hi with hi|hi
   ·exact hi hd
   ·omega
 have bl5:∀i,o.dst=some i->i<s'.t.length->∀t,St.sl (s'.app o.dst t none) i=t:=fun i hd hi t=>by
  unfold St.app St.sl
  rw[hd]
  simp[aB,hi]
 have hne:∀i,∀b∈(s'.sl i).refs,b≠fr:=fun i b hb e=>g.ru i b hb (by rw[e];exact hf)
 have hlen:(s'.app o.dst (.d (.row n l)) none).t.length=(s'.app o.dst (.own fr n) (some (fr,.sl e sz n l))).t.length:=by
  unfold St.app;cases o.dst<;>simp
 have ao3:(s'.app o.dst (.own fr n) (some (fr,.sl e sz n l))).t.length=s'.t.length:=by
  unfold St.app;cases o.dst<;>simp
 refine⟨hlen.trans g'.len,fun i hi=>?_,fun b=>?_,fun i b hb=>?_,fun b b' v v' r h2 h3=>g'.inj b b' v v' r (hu' b v h2).2 (hu' b' v' h3).2,fun b v r h2=>g'.low b v r (hu' b v h2).2,g'.iE,g'.glob.up K,(fun q hq=>?_),g'.size,g'.defs⟩
 ·have h0:=g'.t i hi
  rw[hsl]at h0
  have hi2:i<s'.t.length:=by rw[<-ao3,g'.len];exact hi
  by_cases hd:o.dst=some i
  ·rw[bl5 i hd hi2]at h0 ⊢
   obtain⟨a2,n2,c2,e2,_,e3⟩:=h0 u h1
   rw[hf2]at e2;cases e2
   rw[e3 rfl];exact hrow
  ·rw[hdst i (.inl hd)]at h0 ⊢
   exact h0.up K fun b hb=>hu b (hne i b hb)
 ·show RB _ _ _ _ b (s'.bk b)
  by_cases e2:b=fr
  ·subst e2;rw[hf];simp[RB,upd]
  ·have hB:=g'.b b
   rw[hbk,if_neg e2]at hB
   cases hk:s'.bk b with
   |none=>rw[hk]at hB;exact(hu b e2).trans hB
   |some x=>
    rw[hk]at hB
    cases x with
    |var l=>obtain⟨r,cs,t,h1,h2,h3,h4⟩:=hB;exact⟨r,cs,t,(hu b e2).trans h1,h2,h3,h4.up K⟩
    |sl e sz n l=>obtain⟨u,cs,h1,h2,h3⟩:=hB;exact⟨u,cs,(hu b e2).trans h1,h2,h3.up K⟩
    |obj p=>obtain⟨r,cs,t,h1,h2,h3,h4⟩:=hB;exact⟨r,cs,t,(hu b e2).trans h1,h2,h3,h4⟩
    |abs p=>obtain⟨r,F,h1,h2,h3⟩:=hB;exact⟨r,F,(hu b e2).trans h1,h2,p.up K (fun _ _=>rfl) h3⟩
    |gone=>obtain⟨n,h1⟩:=hB;exact⟨n,(hu b e2).trans h1⟩
    |bx=>
     obtain⟨h0,q,r,t,k1,k2,k3⟩:=hB
     refine⟨h0,q,r,t,(hu b e2).trans k1,k2,(hu 0 fun e0=>?_).trans k3⟩
     rw[e0,h1,hf2]at k3;cases k3
    |vh l off p e sz n m=>obtain⟨r,cs,t,su,ms,h1,h2,h3,h4,h5,h6,h7,h8⟩:=hB;exact⟨r,cs,t,su,ms,(hu b e2).trans h1,h2,h3,h4,h5.up K,h6.up K,h7,h8⟩
 ·show s'.bk b≠none
  by_cases hd:o.dst≠some i\/s'.t.length<=i
  ·rw[hdst i hd]at hb;exact g.ru i b hb
  ·have h2:o.dst=some i:=Decidable.byContradiction fun h=>hd (.inl h)
   rw[bl5 i h2 (Nat.lt_of_not_le fun h=>hd (.inr h))]at hb
   simp[T.refs]at hb
 ·have h2:=g'.pin q hq
  by_cases e2:(0:Nat)=fr
  ·rw[e2,h1,hf2]at h2;cases h2
  ·rw[hu 0 e2];exact h2
theorem cO.rows{ps:List Pt}{l:List A}(h:cO E o s fr (.rows ps) none)(hl:wK ps=some l):cO E o s fr (.d (.row ps.length [.gen ps.length l])) none:=by
 refine⟨fun b hb=>by simp[T.refs]at hb,fun b x e=>(by cases e),fun S base w0 s' ρ a w K Q hs g hf hlt hK=>?_⟩
 refine h.2.2 S base w0 s' ρ a w K Q hs g hf hlt fun a' w' ρ' g'=>hK a' w' ρ' ?_
 have hlen:(s'.app o.dst (.d (.row ps.length [.gen ps.length l])) none).t.length=(s'.app o.dst (.rows ps) none).t.length:=by
  unfold St.app;cases o.dst<;>simp
 refine⟨hlen.trans g'.len,fun i hi=>?_,g'.b,fun i b hb=>?_,g'.inj,g'.low,g'.iE,g'.glob,g'.pin,g'.size,g'.defs⟩
 ·have h0:=g'.t i hi
  by_cases hd:o.dst=some i
  ·have hi2:i<s'.t.length:=by
    have:=g'.len
    have h3:(s'.app o.dst (.rows ps) none).t.length=s'.t.length:=by unfold St.app;cases o.dst<;>simp
    omega
   have e1:∀t,St.sl (s'.app o.dst t none) i=t:=fun t=>by
    unfold St.app St.sl;rw[hd];simp[aB,hi2]
   rw[e1]at h0 ⊢
   obtain⟨vs,hp,r,hr,hne,hle,hD,hlt2,hc⟩:=h0
   obtain⟨e2,hg⟩:=xO hl hp
   have hpl:=hp.len
   rw[hr,<-hpl]
   refine .row (.iL (by rw[e2,hpl]) hg) (Nat.le_refl _) hle (fun e=>by cases e) (.inr ⟨r,0,rfl,hD,hlt2,fun j hj=>by rw[Nat.zero_add];exact hc j hj⟩)
  ·have e1:∀t,St.sl (s'.app o.dst t none) i=s'.sl i:=fun t=>by
    unfold St.app St.sl
    cases hd2:o.dst with
    |none=>rfl
    |some d=>simp only[aB];rw[if_neg (fun h=>hd (by rw[hd2,h.1]))]
   rw[e1]at h0 ⊢
   exact h0
 ·by_cases hd:o.dst=some i/\i<s'.t.length
  ·have e1:St.sl (s'.app o.dst (.d (.row ps.length [.gen ps.length l])) none) i=.d (.row ps.length [.gen ps.length l]):=by
    unfold St.app St.sl;rw[hd.1];simp[aB,hd.2]
   rw[e1]at hb;simp[T.refs]at hb
  ·have e1:∀t,St.sl (s'.app o.dst t none) i=s'.sl i:=fun t=>by
    unfold St.app St.sl
    cases hd2:o.dst with
    |none=>rfl
    |some d=>simp only[aB];rw[if_neg (fun h=>hd ⟨by rw[hd2,h.1],by omega⟩)]
   rw[e1]at hb
   have:=g.ru i b hb
   exact this
end
end
section
section
variable {E : ak} {o : Oper} {s : St} {fr : Nat}
end
end
end Go.Proofs.YtegalalmamofdaaGreatDoor
