/- -/
import Derived.Deep.Slices
import Derived.Test.YtegalalmamofdaaGreatDoorJ31
namespace Go.Proofs.YtegalalmamofdaaGreatDoor
set_option linter.all false
set_option maxRecDepth 100000
open Go.RowKit
variable{l:List Seg}{k:Exit->St->Prop}{ops:List Oper}
section
open Go.ChangeShapes
section
variable {H : Type} {enc : TypeId × Value -> H} {P : Program} {w : World} {base b0 : Nat} {spare : Nat -> Bool} {held : Bool} {r : Reach} {t : TypeId} {fuel B : Nat} {cs : List Value} {x : DataW H × List MemPlace}
end
end
section
def VW(l:List Seg)(off:Nat):Bool:=
 match loc l off with
 |some (_,.gen _ jq,_,i)=>(match jq.getD i (.v undef)with| .v (.slice none 0 0)=>true|_=>false)
 |_=>false
theorem SV{D:Nat->Prop}{w:World}{off:Nat}{cs:List Value}(h:VW l off=true)(hl:RL D w l cs):cs[off]?=some (.slice none 0 0):=by
 unfold VW at h
 split at h
 ·next p k jq q i hc=>
  split at h
  ·next hg=>
   obtain⟨c,d,e,rfl,h1,h2,h3,h4,h5,h6⟩:=hl.found hc
   obtain⟨v,h7,h8,h9⟩:=h2.cell i h5
   have h8':RA D w (.v (.slice none 0 0)) v:=by
    have:(Seg.gen k jq).cell i=.v (.slice none 0 0):=hg
    rwa [this]at h8
   rw[RA.plain h8']at h7
   rw[<-h4,List.getElem?_append_right (by omega),show c.length+i-c.length=i by omega,List.getElem?_append_left (by omega)]
   exact h7
  ·cases h
 ·cases h
def IY(b:Nat):T->T
 | .hsl b' n=>if b'=b then .au else .hsl b' n
 |t=>t
theorem Yx(b:Nat)(t:T):∀q∈(IY b t).refs,q∈t.refs:=by
 intro q hq
 unfold IY at hq
 split at hq
 ·split at hq
  ·simp[T.refs]at hq
  ·exact hq
 ·exact hq
def St.hold(s:St)(b off:Nat)(e:TypeId)(sz:Nat)(m:List Seg):St:=
 match s.bk b with
 |some (.var l)=>⟨s.t.map (IY b),s.h.set b (some (.vh l off true e sz 0 m))⟩
 |_=>s
theorem bG3{f:T->T}(hf:f .au=.au)(l:List T)(i:Nat):(l.map f).getD i .au=f (l.getD i .au):=by
 rw[List.getD_eq_getElem?_getD,List.getD_eq_getElem?_getD,List.getElem?_map]
 cases l[i]? with
 |none=>simp[hf]
 |some x=>rfl
theorem Dg.hold{s:St}{b off:Nat}{e:TypeId}{sz:Nat}{m:List Seg}(hk:s.bk b=some (.var l))(hb:b≠0)(hn:VW l off=true)(hm:m.all pF=true):Dg s (s.hold b off e sz m):=.mk fun G S base w0 ρ a w g=>by
 unfold St.hold
 rw[hk]
 obtain⟨r,cs,ty,h1,_,h2,h3⟩:=g.var hk
 have hc:=SV hn h3
 obtain⟨h4,h5⟩:=List.getElem?_eq_some_iff.1 hc
 have hset:cs.set off (.slice none 0 0)=cs:=by rw[<-h5,List.set_getElem_self]
 have hrl:∀q,Rl (vY r (.slice none 0 0)) q↔r=q:=fun q=>by
  rw[pz ⟨_,_,_,rfl⟩]
  constructor
  ·rintro(h|h)
   ·exact h
   ·exact h.elim
  ·exact .inl
 let ρ':=upd ρ b (some (vY r (.slice none 0 0)))
 have hu:∀b',b'≠b->ρ' b'=ρ b':=fun b' hb'=>by simp[ρ',upd,hb']
 have hu0:ρ' b=some (vY r (.slice none 0 0)):=by simp[ρ',upd]
 have hre:∀b' u q,ρ' b'=some u->Rl u q->∃u',ρ b'=some u'/\Rl u' q:=fun b' u q h6 h7=>by
  by_cases e:b'=b
  ·subst e
   rw[hu0]at h6;cases h6
   exact⟨_,h1,(hrl q).1 h7⟩
  ·exact⟨u,by rw[<-hu b' e];exact h6,h7⟩
 have K:Keeps (Dt S base ρ) w (Dt S base ρ') w:=⟨Nat.le_refl _,fun q _ hd=>⟨⟨hd.1,fun b' u h6 h7=>by
  obtain⟨u',h8,h9⟩:=hre b' u q h6 h7
  exact hd.2 b' u' h8 h9⟩,fun _=>rfl⟩⟩
 have hbl:=sQ hk
 have hbk:∀b',St.bk ⟨s.t.map (IY b),s.h.set b (some (.vh l off true e sz 0 m))⟩ b'=if b'=b then some (.vh l off true e sz 0 m)else s.bk b':=fun b'=>by
  simp only[St.bk,aB]
  by_cases e:b'=b
  ·subst e;simp[hbl]
  ·rw[if_neg (fun h=>e h.1.symm),if_neg e]
 have hsl:∀i,St.sl ⟨s.t.map (IY b),s.h.set b (some (.vh l off true e sz 0 m))⟩ i=IY b (s.sl i):=fun i=>bG3 rfl s.t i
 refine⟨ρ',(by simpa using g.len),fun i hi=>?_,fun b'=>?_,fun i b' hb'=>?_,fun b1 b2 u u' q e1 e2 r1 r2=>?_,fun b' u q e1 r1=>?_,g.iE,g.glob.up K,(fun q hq=>by rw[hu 0 (fun e=>hb e.symm)];exact g.pin q hq),g.size,g.defs⟩
 ·rw[hsl]
  have h0:=g.t i hi
  have other:∀{t:T} {v:Value},RT (Dt S base ρ) ρ w t v->b∉t.refs->RT (Dt S base ρ') ρ' w t v:=fun h hb'=>h.up K fun q hq=>hu q (fun e=>hb' (e▸hq))
  have pts:∀{v:Value} {p:Pt},RP (Dt S base ρ) ρ w p v->RP (Dt S base ρ') ρ' w p v:=fun {v p} h=>by
   cases p with
   |dat a=>exact RA.up K h
   |own b' n=>
    by_cases e:b'=b
    ·subst e;obtain⟨_,_,_,e2,_⟩:=h _ h1;cases e2
    ·intro u hu';rw[hu b' e]at hu';exact h u hu'
   |win b' o n=>
    by_cases e:b'=b
    ·subst e
     obtain⟨r',c,hR,h6⟩:=h _ h1
     obtain rfl:=hR.ptr
     intro u hu';rw[hu0]at hu';cases hu'
     exact⟨_,c,.inr ⟨_,_,_,rfl⟩,h6⟩
    ·intro u hu';rw[hu b' e]at hu';exact h u hu'
  generalize s.sl i=t at h0
  cases t with
  |d x=>exact other (t:=.d x) h0 (by simp[T.refs])
  |yE x=>exact other (t:=.yE x) h0 (by simp[T.refs])
  |au=>trivial
  |rows ps=>obtain⟨vs,h6,h7⟩:=h0;exact⟨vs,h6.map fun p _ v hv=>pts hv,h7.up K⟩
  |ptr b' o=>
   by_cases e:b'=b
   ·subst e
    obtain⟨r',hR,h6⟩:=h0 _ h1
    obtain rfl:=hR.ptr
    intro u hu';rw[hu0]at hu';cases hu'
    exact⟨_,.inr ⟨_,_,_,rfl⟩,h6⟩
   ·exact other (t:=.ptr b' o) h0 (by simp[T.refs];exact fun h=>e h.symm)
  |NC b' c'=>
   by_cases e:b'=b
   ·subst e
    obtain⟨r',hR,h6⟩:=h0 _ h1
    obtain rfl:=hR.ptr
    intro u hu';rw[hu0]at hu';cases hu'
    exact⟨_,.inr ⟨_,_,_,rfl⟩,h6⟩
   ·intro u hu';rw[hu b' e]at hu';exact h0 u hu'
  |xg b' o rel=>
   by_cases e:b'=b
   ·subst e
    obtain⟨r',hR,h6⟩:=h0 _ h1
    obtain rfl:=hR.ptr
    intro u hu';rw[hu0]at hu';cases hu'
    exact⟨_,.inr ⟨_,_,_,rfl⟩,h6⟩
   ·exact other (t:=.xg b' o rel) h0 (by simp[T.refs];exact fun h=>e h.symm)
  |win b' o n=>
   by_cases e:b'=b
   ·subst e
    obtain⟨r',c,hR,h6⟩:=h0 _ h1
    obtain rfl:=hR.ptr
    intro u hu';rw[hu0]at hu';cases hu'
    exact⟨_,c,.inr ⟨_,_,_,rfl⟩,h6⟩
   ·exact other (t:=.win b' o n) h0 (by simp[T.refs];exact fun h=>e h.symm)
  |own b' n=>
   by_cases e:b'=b
   ·subst e;obtain⟨_,_,_,e2,_⟩:=h0 _ h1;cases e2
   ·exact other (t:=.own b' n) h0 (by simp[T.refs];exact fun h=>e h.symm)
  |BX b' n o=>
   by_cases e:b'=b
   ·subst e;obtain⟨_,_,_,e2,_⟩:=h0 _ h1;cases e2
   ·exact other (t:=.BX b' n o) h0 (by simp[T.refs];exact fun h=>e h.symm)
  |pre b' n o=>
   by_cases e:b'=b
   ·subst e;obtain⟨_,_,_,e2,_⟩:=h0 _ h1;cases e2
   ·exact other (t:=.pre b' n o) h0 (by simp[T.refs];exact fun h=>e h.symm)
  |ob b'=>
   by_cases e:b'=b
   ·subst e;obtain⟨_,_,e2,_⟩:=h0 _ h1;exact(mV.1 _ e2.symm).elim
   ·exact other (t:=.ob b') h0 (by simp[T.refs];exact fun h=>e h.symm)
  |mp b'=>
   by_cases e:b'=b
   ·subst e;obtain⟨_,_,e2,_⟩:=h0 _ h1;exact(mV.1 _ e2.symm).elim
   ·exact other (t:=.mp b') h0 (by simp[T.refs];exact fun h=>e h.symm)
  |hsl b' n=>
   by_cases e:b'=b
   ·subst e
    have e2:IY b' (.hsl b' n)=.au:=by simp[IY]
    rw[e2];trivial
   ·have e2:IY b (.hsl b' n)=.hsl b' n:=by simp[IY,e]
    rw[e2]
    exact other h0 (by simp[T.refs];exact fun h=>e h.symm)
 ·rw[hbk]
  by_cases e:b'=b
  ·subst e
   rw[if_pos rfl]
   exact⟨r,cs,ty,.slice none 0 0,[],hu0,h2,fun h=>h,World.ownsRow_nil _ _ _ _,Hf hm,by rw[hset];exact h3.up K,h4,fun _=>hc⟩
  ·rw[if_neg e]
   have hB:=g.b b'
   cases hk':s.bk b' with
   |none=>rw[hk']at hB;exact(hu b' e).trans hB
   |some x=>
    rw[hk']at hB
    cases x with
    |var l=>obtain⟨r,cs,t,h1,h2,h3,h4⟩:=hB;exact⟨r,cs,t,(hu b' e).trans h1,h2,h3,h4.up K⟩
    |sl e' sz n l=>obtain⟨u,cs,h1,h2,h3⟩:=hB;exact⟨u,cs,(hu b' e).trans h1,h2,h3.up K⟩
    |obj p=>obtain⟨r,cs,t,h1,h2,h3,h4⟩:=hB;exact⟨r,cs,t,(hu b' e).trans h1,h2,h3,h4⟩
    |abs p=>obtain⟨r,F,h1,h2,h3⟩:=hB;exact⟨r,F,(hu b' e).trans h1,h2,p.up K (fun _ _=>rfl) h3⟩
    |gone=>obtain⟨n,h1⟩:=hB;exact⟨n,(hu b' e).trans h1⟩
    |bx=>obtain⟨h0,q,r,t,h1,h2,h3⟩:=hB;exact⟨h0,q,r,t,(hu b' e).trans h1,h2,(hu 0 (fun e=>hb e.symm)).trans h3⟩
    |vh l off p e' sz n m=>obtain⟨r,cs,t,su,ms,h1,h2,h3,h4,h5,h6,h7,h8⟩:=hB;exact⟨r,cs,t,su,ms,(hu b' e).trans h1,h2,h3,h4,h5.up K,h6.up K,h7,h8⟩
 ·rw[hsl]at hb'
  have:=g.ru i b' (Yx _ _ _ hb')
  rw[hbk]
  split
  ·simp
  ·exact this
 ·obtain⟨u1,e3,r3⟩:=hre b1 u q e1 r1
  obtain⟨u2,e4,r4⟩:=hre b2 u' q e2 r2
  exact g.inj b1 b2 u1 u2 q e3 e4 r3 r4
 ·obtain⟨u1,e3,r3⟩:=hre b' u q e1 r1
  exact g.low b' u1 q e3 r3
def St.give(s:St)(b:Nat):St:=
 match s.bk b with
 |some (.vh l off true e sz n m)=>(match Zu l off n m with|some l'=>⟨s.t,s.h.set b (some (.var l'))⟩|none=>s)
 |_=>s
theorem Dg.give{s:St}{b:Nat}:Dg s (s.give b):=.mk fun G S base w0 ρ a w g=>by
 unfold St.give
 split
 ·next l off e sz n m hk=>
  split
  ·next l' hl=>exact g.Zu hk hl
  ·exact⟨ρ,g⟩
 ·exact⟨ρ,g⟩
theorem Co{body:St->(Exit->St->Prop)->Prop}{s:St}(live bs:List Nat)(b off:Nat)(e:TypeId)(sz:Nat)(m:List Seg)(N:Nat)(f:Nat->St)
  (h3:∀j,j<=N->yI N f j->body (f j) fun e s'=>match e with| .normal=>BM N f j s'|e=>k e s')
  (hk:(s.give b).bk b=some (.var l):=by exact rfl)(hn:VW l off=true:=by exact rfl)(hm:m.all pF=true:=by exact rfl)(hb:b≠0:=by decide)
  (ok:JL live bs ((s.give b).hold b off e sz m)=true:=by exact rfl)(h2:gather live bs ((s.give b).hold b off e sz m)=f 0:=by exact rfl):aQ body s k\/Dh body s k:=
 Cn N f ((Dg.give.trans (Dg.hold hk hb hn hm)).trans (.gather ok)) h2 h3
end
section
structure GW(E:ak)(c:Code)(s:St)(k:Exit->St->Prop):Prop where
 out:∀(S:Nat->Prop) (base:Nat) (w0:W0 E.G) (ρ:Nat->Option Value) (a:Act) (w:World),Good S base w0 s ρ a w->c.wp E.P (fun e a' w'=>∃s' ρ',k e s'/\Good S base w0 s' ρ' a' w') a w
structure GL(E:ak)(ops l:List Oper)(s:St)(k:St->Prop):Prop where
 out:∀(S:Nat->Prop) (base:Nat) (w0:W0 E.G) (ρ:Nat->Option Value) (a:Act) (w:World),Good S base w0 s ρ a w->wpList E.P ops.toArray (fun e a' w'=>e=.normal/\∃s' ρ',k s'/\Good S base w0 s' ρ' a' w') l a w
section
variable {E : ak} {s : St}
theorem GW.of{c:Code}(h:IG E c s k):GW E c s k:=⟨fun S base w0 ρ a w g=>iD c h g⟩
theorem GW.seq{x y:Code}(h:GW E x s fun e s'=>match e with| .normal=>GW E y s' k|e=>k e s'):GW E (.seq x y) s k:=by
 refine⟨fun S base w0 ρ a w g=>?_⟩
 refine wp_seq (wp_mono (h.out S base w0 ρ a w g) ?_)
 rintro e a' w' ⟨s',ρ',h1,h2⟩
 cases e with
 |normal=>exact GW.out h1 _ _ _ _ _ _ h2
 |_=>exact⟨s',ρ',h1,h2⟩
theorem GL.of{ops l:List Oper}{k:St->Prop}(h:bq E ops l s k):GL E ops l s k:=⟨fun S base w0 ρ a w g=>uY h g⟩
theorem GL.cons{ops r:List Oper}{o:Oper}{t:T}{k:St->Prop}(hg:o.guard=none)(ho:cO E o s s.h.length t none)(h:GL E ops r (s.qW o.dst t none) k):GL E ops (o::r) s k:=by
 refine⟨fun S base w0 ρ a w g=>?_⟩
 have hs:wm E ops o s s.h.length t none:=.inl ⟨by unfold sN;rw[hg],ho⟩
 unfold wpList
 refine hs.run (s':=⟨s.t,s.h++List.replicate 1 none⟩) (ρ:=ρ) (a:=a) (w:=w) (fun x hx=>⟨by cases x<;>rfl,fun b _=>jA s 1 b⟩) (fun _ _ _ _ _=>rfl) (g.sim (U2.more s 1)) ?_ (by simp) fun a' w' ρ' g'=>?_
 ·rw[jA]
  unfold St.bk
  rw[List.getD_eq_getElem?_getD,List.getElem?_eq_none (Nat.le_refl _)];rfl
 ·exact h.out _ _ _ _ _ _ (g'.yx wD)
theorem GW.region{id:Nat}{ops:Array Oper}(h:GL E ops.toList ops.toList s (k .normal)):GW E (.region id ops false) s k:=by
 refine⟨fun S base w0 ρ a w g=>?_⟩
 have:=h.out S base w0 ρ a w g
 rw[Array.toArray_toList]at this
 refine wp_mono (wp_region_list this) ?_
 rintro e a' w' ⟨rfl,s',ρ',h1,h2⟩
 exact⟨s',ρ',h1,h2⟩
end
theorem cc6{E:ak}{f:FuncId}{fn:Func}{c:Code}{args:List A}{res:bC}{n:Nat}{t:List T}(hf:E.P.funcs[f]?=some fn)(hnt:fn.ntmps=n)
  (left:GW E c ⟨t,[]⟩ fun e s=>(e=.normal\/e=.ret)/\yS E s fn.results.toList fun r=>r=res)(hb:fn.body=some c:=by exact rfl)(hn:args.length<=n:=by exact Nat.le_of_ble_eq_true rfl)
  (ht:args.map T.d++List.replicate (n-args.length) (.d (.v undef))=t:=by exact nm):mG E.P E.G f args res:=by
 subst hnt;subst ht
 intro S w vs hG hv
 refine calls_of_wp hf hb ?_
 have g:=zf fn.ntmps hn hG hv
 refine wp_mono (left.out _ _ _ _ _ _ g) ?_
 rintro e a' w' ⟨s',ρ',⟨he,hr⟩,hg⟩
 obtain⟨r,v,rfl,h2,h3⟩:=zI (fun z hz=>hz.1) (fun _ _ _ h=>h) (fun _ (h:False)=>h.elim) hr hg
 rcases he with rfl|rfl
 ·exact⟨hg.defs,v,h2,v,rfl,h3,hg.iE.below fun _ h=>h⟩
 ·exact⟨hg.defs,v,h2,v,rfl,h3,hg.iE.below fun _ h=>h⟩
end
section
theorem DZ{ops:Array Oper}{o:Oper}{t:Array Value}(hg:o.guard=none):Region.wanted o (yielded ops t)=true:=by
 unfold Region.wanted;rw[hg]
theorem GL.aM4{E:ak}{ops r:List Oper}{o1 o2:Oper}{s:St}{k:St->Prop}{d1 d2:Nat}{g f:FuncId}{x1 y a1:Operand}{c:Call}{b n:Nat}{l m:List Seg}{z:A}
  (hg1:o1.guard=none)(ho1:o1.op=.makeFunc (.func g) #[] #[x1])(hd1:o1.dst=some d1)(hx1:s.ev x1=.NC b 0)(hb:s.bk b=some .bx)(h0:s.bk 0=some (.var l))
  (hg2:o2.guard=none)(ho2:o2.op=.call c)(hc:c.callee=.value y)(hd2:o2.dst=some d2)(hy:∀a:Act,a.eval y=.func (.func f) #[] #[])(ha:c.args=#[a1,.tmp d1])(ha1:s.ev a1=.d (.row n m))(hne:∀t,a1=.tmp t->t≠d1)(hnc:(∃t,a1=.tmp t))(hdl:d1<s.t.length)
  (hok:mG E.P E.G f [.row n m,.NM g [.sref [.gen 1 [.sref l 0]] 0]] (.d z))(hz:Ao z=true)(FQ:ug E.P f)
  (h:GL E ops r ((s.qW (some d1) .au none).qW (some d2) (.d z) none) k):GL E ops (o1::o2::r) s k:=by
 obtain⟨t1,rfl⟩:=hnc
 have hne:=hne t1 rfl
 obtain⟨fn,hf,hbd,hn⟩:=FQ.out
 refine⟨fun S base w0 ρ a w gd=>?_⟩
 have hB:=gd.b b
 rw[hb]at hB
 obtain⟨hb0,q,rb,ty,e1,e2,e3⟩:=hB
 have hB0:=gd.b 0
 rw[h0]at hB0
 obtain⟨q',cs,t0,e4,_,e5,e6⟩:=hB0
 rw[e3]at e4;cases e4
 have hx:a.eval x1=.pointer (some ⟨rb,0,none⟩):=by
  have h1:=gd.ev x1
  rw[hx1]at h1
  obtain⟨r',e,h2⟩:=h1 _ e1
  obtain rfl:=e.ptr;exact h2
 have hrow:RA (Dt S base ρ) w (.row n m) (a.eval (.tmp t1)):=by
  have h1:=gd.ev (.tmp t1)
  rw[ha1]at h1
  exact h1
 have cf1:(execOp a.eval o1).run E.P w=.ok (.value (.func (.func g) #[] #[.pointer (some ⟨rb,0,none⟩)])) w:=by
  simp[execOp,ho1,Instr.makeFunc,hx,Sem.run_bind]
 unfold wpList
 rw[DZ hg1,if_pos rfl]
 left
 unfold Oper.wp
 rw[cf1]
 show wpList E.P ops.toArray _ (o2::r) (a.put o1.dst _) w
 rw[hd1]
 unfold wpList
 rw[DZ hg2,if_pos rfl]
 left
 unfold Oper.wp
 have cr0:(a.put (some d1) (.func (.func g) #[] #[.pointer (some ⟨rb,0,none⟩)])).eval (.tmp t1)=a.eval (.tmp t1):=by
  show(a.tmps.setIfInBounds d1 _).getD t1 undef=a.tmps.getD t1 undef
  rw[Array.getD_eq_getD_getElem?,Array.getElem?_setIfInBounds_ne (Ne.symm hne),<-Array.getD_eq_getD_getElem?]
 have cr1:(a.put (some d1) (.func (.func g) #[] #[.pointer (some ⟨rb,0,none⟩)])).eval (.tmp d1)=.func (.func g) #[] #[.pointer (some ⟨rb,0,none⟩)]:=by
  show(a.tmps.setIfInBounds d1 _).getD d1 undef=_
  have:d1<a.tmps.size:=by rw[<-gd.len];exact hdl
  simp[Array.getD_eq_getD_getElem?,this]
 rw[sZ ho2 hc (hy _) hf hbd hn,Oper.upon_enter]
 have hargs:(c.args.toList.map (a.put (some d1) (.func (.func g) #[] #[.pointer (some ⟨rb,0,none⟩)])).eval)=[a.eval (.tmp t1),.func (.func g) #[] #[.pointer (some ⟨rb,0,none⟩)]]:=by
  rw[ha]
  simp[cr0,cr1]
 rw[hargs]
 have hq:q<w.heap.size:=(Array.getElem?_eq_some_iff.1 e5).1
 have hrb:rb<w.heap.size:=(Array.getElem?_eq_some_iff.1 e2).1
 have c1:RA (fun _=>True) w (.sref l 0) (.pointer (some ⟨q,0,none⟩)):=by
  refine .sref (o:=0) (e6.up qA) (.inr ⟨q,0,rfl,trivial,hq,fun i hi=>?_⟩)
  rw[Nat.zero_add,fU e5,List.getElem?_eq_getElem hi]
 have c2:RA (fun _=>True) w (.sref [.gen 1 [.sref l 0]] 0) (.pointer (some ⟨rb,0,none⟩)):=by
  refine .sref (o:=0) (cs:=[.pointer (some ⟨q,0,none⟩)]) (.iL rfl (.cons c1 rfl .nil)) (.inr ⟨rb,0,rfl,trivial,hrb,fun i hi=>?_⟩)
  have:=fU (w:=w) (r:=rb) (cs:=[.pointer (some ⟨q,0,none⟩)]) (t:=ty) e2 i
  rw[Nat.zero_add,this,List.getElem?_eq_getElem hi]
 have c3:RA (fun _=>True) w (.NM g [.sref [.gen 1 [.sref l 0]] 0]) (.func (.func g) #[] #[.pointer (some ⟨rb,0,none⟩)]):=.NM (vs:=[.pointer (some ⟨rb,0,none⟩)]) (.cons c2 rfl .nil)
 refine(hok (fun _=>True) w _ (gd.glob.up qA) (.cons (hrow.up qA) (.cons c3 .nil))).mono ?_
 rintro e w' ⟨u,rfl,h3,h4⟩
 obtain⟨g2,k2⟩:=gd.grow (w':=w') ⟨h4.os,h4.tape,h4.output,h4.size,fun k hk _=>h4.block k hk⟩
 have g3:=g2.put' (some d1) (t:=.au) (v:=.func (.func g) #[] #[.pointer (some ⟨rb,0,none⟩)]) trivial (by simp[T.refs])
 have g4:=g3.put' (some d2) (t:=.d z) (v:=u) (rE hz h3) (by simp[T.refs])
 rw[hd2]
 exact h.out _ _ _ _ _ _ g4
theorem Vt{E:ak}{f:FuncId}{fn:Func}{c:Code}{x x':Bk}{args:List A}{res:bC}{n:Nat}{t:List T}(hf:E.P.funcs[f]?=some fn)(hnt:fn.ntmps=n)
  (left:GW E c ⟨t,[some x]⟩ fun e s=>(e=.normal\/e=.ret)/\s.bk 0=some x'/\yS E s fn.results.toList fun r=>r=res)(hb:fn.body=some c:=by exact rfl)(hn:args.length+1<=n:=by exact Nat.le_of_ble_eq_true rfl)
  (hx:∀e sz n l,x≠ .sl e sz n l:=by intro _ _ _ _ h;cases h)(hres:∀y,res≠ .p y:=by intro y h;cases h)
  (ht:(args.map T.d).insertIdx 0 (.ptr 0 0)++List.replicate (n- (args.length+1)) (.d (.v undef))=t:=by exact nm):QK E.P E.G f 0 x args res x':=by
 subst hnt;subst ht;exact JH hf hb hn (Nat.zero_le _) hx (fun S base w0 ρ a w g=>left.out _ _ _ _ _ _ g) hres
end
section
section
variable {E : ak} {s : St}
end
end
section
section
variable {E : ak} {S : Nat -> Prop} {base : Nat} {w0 : W0 E.G}
theorem az8{ops r:List Oper}{Q:Exit->Act->World->Prop}{j:St->Prop}(hj:∀(s:St) (ρ:Nat->Option Value) (a:Act) (w:World),j s->Good S base w0 s ρ a w->wpList E.P ops.toArray Q r a w):∀{l:List Oper} {s:St} {ρ:Nat->Option Value} {a:Act} {w:World},bq E ops l s j->Good S base w0 s ρ a w->
  wpList E.P ops.toArray Q (l++r) a w
 |[],s,ρ,a,w,h,g=>hj s ρ a w h g
 |o::l,s,ρ,a,w,h0,g=>by
  rw[List.cons_append]
  rcases zx h0 with⟨hg0,hm⟩|h
  ·unfold wpList
   rw[show Region.wanted o (yielded ops.toArray a.tmps)=true by unfold Region.wanted;rw[hg0],if_pos rfl]
   exact .inl (hm S base w0 ρ a w _ _ g fun s' a' w' ρ' hk g'=>az8 hj hk.out g')
  obtain⟨t,blk,hk,hs⟩:=rX h
  unfold wpList
  refine hs.run (s':=⟨s.t,s.h++List.replicate 1 none⟩) (ρ:=ρ) (a:=a) (w:=w) (fun x hx=>⟨by cases x<;>rfl,fun b _=>jA s 1 b⟩) (fun _ _ _ _ _=>rfl) (g.sim (U2.more s 1)) ?_ (by simp) fun a' w' ρ' g'=>?_
  ·rw[jA]
   unfold St.bk
   rw[List.getD_eq_getElem?_getD,List.getElem?_eq_none (Nat.le_refl _)];rfl
  ·exact az8 hj hk.out (g'.yx wD)
end
theorem GL.I4{E:ak}(n:Nat){ops l:List Oper}{s:St}{k:St->Prop}(h:Stop (bq E ops (l.take n) s fun s'=>GL E ops (l.drop n) s' k)):GL E ops l s k:=by
 refine⟨fun S base w0 ρ a w g=>?_⟩
 have:=az8 (r:=l.drop n) (fun s ρ a w hj g=>GL.out hj S base w0 ρ a w g) h.out g
 rwa [List.take_append_drop]at this
end
end Go.Proofs.YtegalalmamofdaaGreatDoor
