/-
  A struct that is handed in: each field for itself. No program is named here.
-/
import Derived.Deep.Slices
import Derived.Test.YtjhgelfnmhdihaaGreatDoorJ31
namespace Go.Proofs.YtjhgelfnmhdihaaGreatDoor
set_option linter.unusedVariables false
set_option linter.unusedSimpArgs false
set_option maxRecDepth 100000
open Go.RowKit
section
open Go.ChangeShapes
section
variable {H : Type} {enc : TypeId × Value → H} {P : Program} {w : World} {base b0 : Nat} {spare : Nat → Bool} {held : Bool} {r : Reach} {t : TypeId} {fuel B : Nat} {cs : List Value} {x : DataW H × List MemPlace}
end
end
section
def RS(l:List Seg)(off:Nat):Bool:=
 match loc l off with
 |some (_,.gen _ gU,_,i)=>(match gU.getD i (.v undef)with| .v (.slice none 0 0)=>true|_=>false)
 |_=>false
theorem O1{D:Nat→Prop}{w:World}{l:List Seg}{off:Nat}{cs:List Value}(h:RS l off=true)(hl:RL D w l cs):cs[off]?=some (.slice none 0 0):=by
 unfold RS at h
 split at h
 ·next p k gU q i hc=>
  split at h
  ·next hg=>
   obtain⟨c,d,e,rfl,h1,h2,h3,h4,h5,h6⟩:=hl.found hc
   obtain⟨v,h7,h8,h9⟩:=h2.cell i h5
   have h8':RA D w (.v (.slice none 0 0)) v:=by
    have:(Seg.gen k gU).cell i=.v (.slice none 0 0):=hg
    rwa [this]at h8
   rw[RA.plain h8']at h7
   rw[←h4,List.getElem?_append_right (by omega),show c.length+i-c.length=i by omega,List.getElem?_append_left (by omega)]
   exact h7
  ·cases h
 ·cases h
def FE(b:Nat):T→T
 | .hsl b' n=>if b'=b then .ah else .hsl b' n
 |t=>t
theorem UH(b:Nat)(t:T):∀q∈(FE b t).refs,q∈t.refs:=by
 intro q hq
 unfold FE at hq
 split at hq
 ·split at hq
  ·simp[T.refs]at hq
  ·exact hq
 ·exact hq
def St.hold(s:St)(b off:Nat)(e:TypeId)(sz:Nat)(m:List Seg):St:=
 match s.bk b with
 |some (.var l)=>⟨s.t.map (FE b),s.h.set b (some (.vh l off true e sz 0 m))⟩
 |_=>s
theorem aT5{f:T→T}(hf:f .ah=.ah)(l:List T)(i:Nat):(l.map f).getD i .ah=f (l.getD i .ah):=by
 rw[List.getD_eq_getElem?_getD,List.getD_eq_getElem?_getD,List.getElem?_map]
 cases l[i]? with
 |none=>simp[hf]
 |some x=>rfl
theorem yh.hold{s:St}{b off:Nat}{e:TypeId}{sz:Nat}{m:List Seg}{l:List Seg}(hk:s.bk b=some (.var l))(hb:b≠0)(hn:RS l off=true)(hm:m.all pW=true):yh s (s.hold b off e sz m):=.mk fun G S base w0 ρ a w g=>by
 unfold St.hold
 rw[hk]
 obtain⟨r,cs,ty,h1,_,h2,h3⟩:=g.var hk
 have hc:=O1 hn h3
 obtain⟨h4,h5⟩:=List.getElem?_eq_some_iff.1 hc
 have hset:cs.set off (.slice none 0 0)=cs:=by rw[←h5,List.set_getElem_self]
 have hrl:∀q,Rl (um r (.slice none 0 0)) q↔r=q:=fun q=>by
  rw[ou ⟨_,_,_,rfl⟩]
  constructor
  ·rintro(h|h)
   ·exact h
   ·exact h.elim
  ·exact .inl
 let ρ':=upd ρ b (some (um r (.slice none 0 0)))
 have hu:∀b',b'≠b→ρ' b'=ρ b':=fun b' hb'=>by simp[ρ',upd,hb']
 have hu0:ρ' b=some (um r (.slice none 0 0)):=by simp[ρ',upd]
 have hre:∀b' u q,ρ' b'=some u→Rl u q→∃u',ρ b'=some u'∧Rl u' q:=fun b' u q h6 h7=>by
  by_cases e:b'=b
  ·subst e
   rw[hu0]at h6;cases h6
   exact⟨_,h1,(hrl q).1 h7⟩
  ·exact⟨u,by rw[←hu b' e];exact h6,h7⟩
 have K:Keeps (Dt S base ρ) w (Dt S base ρ') w:=⟨Nat.le_refl _,fun q _ hd=>⟨⟨hd.1,fun b' u h6 h7=>by
  obtain⟨u',h8,h9⟩:=hre b' u q h6 h7
  exact hd.2 b' u' h8 h9⟩,fun _=>rfl⟩⟩
 have hbl:=tL hk
 have hbk:∀b',St.bk ⟨s.t.map (FE b),s.h.set b (some (.vh l off true e sz 0 m))⟩ b'=if b'=b then some (.vh l off true e sz 0 m)else s.bk b':=fun b'=>by
  simp only[St.bk,aK]
  by_cases e:b'=b
  ·subst e;simp[hbl]
  ·rw[if_neg (fun h=>e h.1.symm),if_neg e]
 have hsl:∀i,St.sl ⟨s.t.map (FE b),s.h.set b (some (.vh l off true e sz 0 m))⟩ i=FE b (s.sl i):=fun i=>aT5 rfl s.t i
 refine⟨ρ',(by simpa using g.len),fun i hi=>?_,fun b'=>?_,fun i b' hb'=>?_,fun b1 b2 u u' q e1 e2 r1 r2=>?_,fun b' u q e1 r1=>?_,g.zS,g.glob.up K,(fun q hq=>by rw[hu 0 (fun e=>hb e.symm)];exact g.pin q hq),g.size,g.defs⟩
 ·rw[hsl]
  have h0:=g.t i hi
  have other:∀{t:T} {v:Value},RT (Dt S base ρ) ρ w t v→b∉t.refs→RT (Dt S base ρ') ρ' w t v:=fun h hb'=>h.up K fun q hq=>hu q (fun e=>hb' (e▸hq))
  have pts:∀{v:Value} {p:Pt},RP (Dt S base ρ) ρ w p v→RP (Dt S base ρ') ρ' w p v:=fun {v p} h=>by
   cases p with
   |dat a=>exact RA.up K h
   |own b' n=>
    by_cases e:b'=b
    ·subst e;obtain⟨_,_,_,e2,_⟩:=h _ h1;cases e2
    ·intro u hu';rw[hu b' e]at hu';exact h u hu'
   |win b' o n=>
    by_cases e:b'=b
    ·subst e
     obtain⟨r',c,hR,h6⟩:=h _ h1
     obtain rfl:=hR.ptr
     intro u hu';rw[hu0]at hu';cases hu'
     exact⟨_,c,.inr ⟨_,_,_,rfl⟩,h6⟩
    ·intro u hu';rw[hu b' e]at hu';exact h u hu'
  generalize s.sl i=t at h0
  cases t with
  |d x=>exact other (t:=.d x) h0 (by simp[T.refs])
  |EU x=>exact other (t:=.EU x) h0 (by simp[T.refs])
  |ah=>trivial
  |rows ps=>obtain⟨vs,h6,h7⟩:=h0;exact⟨vs,h6.map fun p _ v hv=>pts hv,h7.up K⟩
  |ptr b' o=>
   by_cases e:b'=b
   ·subst e
    obtain⟨r',hR,h6⟩:=h0 _ h1
    obtain rfl:=hR.ptr
    intro u hu';rw[hu0]at hu';cases hu'
    exact⟨_,.inr ⟨_,_,_,rfl⟩,h6⟩
   ·exact other (t:=.ptr b' o) h0 (by simp[T.refs];exact fun h=>e h.symm)
  |Kq b' c'=>
   by_cases e:b'=b
   ·subst e
    obtain⟨r',hR,h6⟩:=h0 _ h1
    obtain rfl:=hR.ptr
    intro u hu';rw[hu0]at hu';cases hu'
    exact⟨_,.inr ⟨_,_,_,rfl⟩,h6⟩
   ·intro u hu';rw[hu b' e]at hu';exact h0 u hu'
  |uW b' o rel=>
   by_cases e:b'=b
   ·subst e
    obtain⟨r',hR,h6⟩:=h0 _ h1
    obtain rfl:=hR.ptr
    intro u hu';rw[hu0]at hu';cases hu'
    exact⟨_,.inr ⟨_,_,_,rfl⟩,h6⟩
   ·exact other (t:=.uW b' o rel) h0 (by simp[T.refs];exact fun h=>e h.symm)
  |win b' o n=>
   by_cases e:b'=b
   ·subst e
    obtain⟨r',c,hR,h6⟩:=h0 _ h1
    obtain rfl:=hR.ptr
    intro u hu';rw[hu0]at hu';cases hu'
    exact⟨_,c,.inr ⟨_,_,_,rfl⟩,h6⟩
   ·exact other (t:=.win b' o n) h0 (by simp[T.refs];exact fun h=>e h.symm)
  |own b' n=>
   by_cases e:b'=b
   ·subst e;obtain⟨_,_,_,e2,_⟩:=h0 _ h1;cases e2
   ·exact other (t:=.own b' n) h0 (by simp[T.refs];exact fun h=>e h.symm)
  |zV b' n o=>
   by_cases e:b'=b
   ·subst e;obtain⟨_,_,_,e2,_⟩:=h0 _ h1;cases e2
   ·exact other (t:=.zV b' n o) h0 (by simp[T.refs];exact fun h=>e h.symm)
  |pre b' n o=>
   by_cases e:b'=b
   ·subst e;obtain⟨_,_,_,e2,_⟩:=h0 _ h1;cases e2
   ·exact other (t:=.pre b' n o) h0 (by simp[T.refs];exact fun h=>e h.symm)
  |ob b'=>
   by_cases e:b'=b
   ·subst e;obtain⟨_,_,e2,_⟩:=h0 _ h1;exact(xA.1 _ e2.symm).elim
   ·exact other (t:=.ob b') h0 (by simp[T.refs];exact fun h=>e h.symm)
  |mp b'=>
   by_cases e:b'=b
   ·subst e;obtain⟨_,_,e2,_⟩:=h0 _ h1;exact(xA.1 _ e2.symm).elim
   ·exact other (t:=.mp b') h0 (by simp[T.refs];exact fun h=>e h.symm)
  |hsl b' n=>
   by_cases e:b'=b
   ·subst e
    have e2:FE b' (.hsl b' n)=.ah:=by simp[FE]
    rw[e2];trivial
   ·have e2:FE b (.hsl b' n)=.hsl b' n:=by simp[FE,e]
    rw[e2]
    exact other h0 (by simp[T.refs];exact fun h=>e h.symm)
 ·rw[hbk]
  by_cases e:b'=b
  ·subst e
   rw[if_pos rfl]
   exact⟨r,cs,ty,.slice none 0 0,[],hu0,h2,fun h=>h,World.ownsRow_nil _ _ _ _,JC hm,by rw[hset];exact h3.up K,h4,fun _=>hc⟩
  ·rw[if_neg e]
   have hB:=g.b b'
   cases hk':s.bk b' with
   |none=>rw[hk']at hB;exact(hu b' e).trans hB
   |some x=>
    rw[hk']at hB
    cases x with
    |var l=>obtain⟨r,cs,t,h1,h2,h3,h4⟩:=hB;exact⟨r,cs,t,(hu b' e).trans h1,h2,h3,h4.up K⟩
    |sl e' sz n l=>obtain⟨u,cs,h1,h2,h3⟩:=hB;exact⟨u,cs,(hu b' e).trans h1,h2,h3.up K⟩
    |obj p=>obtain⟨r,cs,t,h1,h2,h3,h4⟩:=hB;exact⟨r,cs,t,(hu b' e).trans h1,h2,h3,h4⟩
    |abs p=>obtain⟨r,F,h1,h2,h3⟩:=hB;exact⟨r,F,(hu b' e).trans h1,h2,h3⟩
    |gone=>obtain⟨n,h1⟩:=hB;exact⟨n,(hu b' e).trans h1⟩
    |bx=>obtain⟨h0,q,r,t,h1,h2,h3⟩:=hB;exact⟨h0,q,r,t,(hu b' e).trans h1,h2,(hu 0 (fun e=>hb e.symm)).trans h3⟩
    |vh l off p e' sz n m=>obtain⟨r,cs,t,su,ms,h1,h2,h3,h4,h5,h6,h7,h8⟩:=hB;exact⟨r,cs,t,su,ms,(hu b' e).trans h1,h2,h3,h4,h5.up K,h6.up K,h7,h8⟩
 ·rw[hsl]at hb'
  have:=g.uE i b' (UH _ _ _ hb')
  rw[hbk]
  split
  ·simp
  ·exact this
 ·obtain⟨u1,e3,r3⟩:=hre b1 u q e1 r1
  obtain⟨u2,e4,r4⟩:=hre b2 u' q e2 r2
  exact g.inj b1 b2 u1 u2 q e3 e4 r3 r4
 ·obtain⟨u1,e3,r3⟩:=hre b' u q e1 r1
  exact g.low b' u1 q e3 r3
def St.give(s:St)(b:Nat):St:=
 match s.bk b with
 |some (.vh l off true e sz n m)=>(match VJ l off n m with|some l'=>⟨s.t,s.h.set b (some (.var l'))⟩|none=>s)
 |_=>s
theorem yh.give{s:St}{b:Nat}:yh s (s.give b):=.mk fun G S base w0 ρ a w g=>by
 unfold St.give
 split
 ·next l off e sz n m hk=>
  split
  ·next l' hl=>exact g.VJ hk hl
  ·exact⟨ρ,g⟩
 ·exact⟨ρ,g⟩
theorem UA{body:St→(Exit→St→Prop)→Prop}{s:St}{k:Exit→St→Prop}(live bs:List Nat)(b off:Nat)(e:TypeId)(sz:Nat)(m:List Seg)(N:Nat)(f:Nat→St)
  (h3:∀j,j≤N→qZ N f j→body (f j) fun e s'=>match e with| .normal=>rR N f j s'|e=>k e s')
  {l:List Seg}(hk:(s.give b).bk b=some (.var l):=by exact rfl)(hn:RS l off=true:=by exact rfl)(hm:m.all pW=true:=by exact rfl)(hb:b≠0:=by decide)
  (ok:Dx live bs ((s.give b).hold b off e sz m)=true:=by exact rfl)(h2:gather live bs ((s.give b).hold b off e sz m)=f 0:=by exact rfl):aZ body s k∨yj body s k:=
 vP N f ((yh.give.trans (yh.hold hk hb hn hm)).trans (.gather ok)) h2 h3
end
section
structure GW(E:ay)(c:Code)(s:St)(k:Exit→St→Prop):Prop where
 out:∀(S:Nat→Prop) (base:Nat) (w0:W0 E.G) (ρ:Nat→Option Value) (a:Act) (w:World),Good S base w0 s ρ a w→c.wp E.P (fun e a' w'=>∃s' ρ',k e s'∧Good S base w0 s' ρ' a' w') a w
structure GL(E:ay)(ops l:List Oper)(s:St)(k:St→Prop):Prop where
 out:∀(S:Nat→Prop) (base:Nat) (w0:W0 E.G) (ρ:Nat→Option Value) (a:Act) (w:World),Good S base w0 s ρ a w→wpList E.P ops.toArray (fun e a' w'=>e=.normal∧∃s' ρ',k s'∧Good S base w0 s' ρ' a' w') l a w
section
variable {E : ay} {s : St}
theorem GW.of{c:Code}{k:Exit→St→Prop}(h:FL E c s k):GW E c s k:=⟨fun S base w0 ρ a w g=>jN c h g⟩
theorem GW.seq{x y:Code}{k:Exit→St→Prop}(h:GW E x s fun e s'=>match e with| .normal=>GW E y s' k|e=>k e s'):GW E (.seq x y) s k:=by
 refine⟨fun S base w0 ρ a w g=>?_⟩
 refine wp_seq (wp_mono (h.out S base w0 ρ a w g) ?_)
 rintro e a' w' ⟨s',ρ',h1,h2⟩
 cases e with
 |normal=>exact GW.out h1 _ _ _ _ _ _ h2
 |_=>exact⟨s',ρ',h1,h2⟩
theorem GL.of{ops l:List Oper}{k:St→Prop}(h:bR E ops l s k):GL E ops l s k:=⟨fun S base w0 ρ a w g=>pU h g⟩
theorem GL.cons{ops r:List Oper}{o:Oper}{t:T}{k:St→Prop}(hg:o.guard=none)(ho:dz E o s s.h.length t none)(h:GL E ops r (s.oF o.dst t none) k):GL E ops (o::r) s k:=by
 refine⟨fun S base w0 ρ a w g=>?_⟩
 have hs:wU E ops o s s.h.length t none:=.inl ⟨by unfold wI;rw[hg],ho⟩
 unfold wpList
 refine hs.run (s':=⟨s.t,s.h++List.replicate 1 none⟩) (ρ:=ρ) (a:=a) (w:=w) (fun x hx=>⟨by cases x<;>rfl,fun b _=>jS s 1 b⟩) (fun _ _ _ _ _=>rfl) (g.sim (S9.more s 1)) ?_ (by simp) fun a' w' ρ' g'=>?_
 ·rw[jS]
  unfold St.bk
  rw[List.getD_eq_getElem?_getD,List.getElem?_eq_none (Nat.le_refl _)];rfl
 ·exact h.out _ _ _ _ _ _ (g'.zG yu)
theorem GW.region{id:Nat}{ops:Array Oper}{k:Exit→St→Prop}(h:GL E ops.toList ops.toList s (k .normal)):GW E (.region id ops false) s k:=by
 refine⟨fun S base w0 ρ a w g=>?_⟩
 have:=h.out S base w0 ρ a w g
 rw[Array.toArray_toList]at this
 refine wp_mono (wp_region_list this) ?_
 rintro e a' w' ⟨rfl,s',ρ',h1,h2⟩
 exact⟨s',ρ',h1,h2⟩
end
theorem by3{E:ay}{f:FuncId}{fn:Func}{c:Code}{args:List A}{res:bP}{n:Nat}{t:List T}(hf:E.P.funcs[f]?=some fn)(hnt:fn.ntmps=n)
  (left:GW E c ⟨t,[]⟩ fun e s=>(e=.normal∨e=.ret)∧qB E s fn.results.toList fun r=>r=res)(hb:fn.body=some c:=by exact rfl)(hn:args.length≤n:=by exact Nat.le_of_ble_eq_true rfl)
  (ht:args.map T.d++List.replicate (n-args.length) (.d (.v undef))=t:=by(conv=>lhs;simp only[Seg.n,Wx,Wy,Wz,WA,WB,WC,WE,WG,WH,BK,BL,BN,BO,BP,BQ,BR,Int.reduceAdd,Int.zero_add,Seg.cell,Seg.sub,List.set_nil,iH,mO,List.take_append_drop,St.app,St.oF,St.ev,List.getD_cons_zero,List.getD_cons_succ,List.getD_nil,St.sl,St.bk,jl,iA,kS,gT,bF,weaken,lY,List.set_cons_zero,List.set_cons_succ,List.length_cons,List.length_nil,List.cons_append,List.nil_append,List.append_nil,List.map_cons,List.map_nil,List.replicate_succ,List.replicate_zero,List.take_succ_cons,List.take_zero,List.drop_succ_cons,List.drop_zero,List.take_nil,List.drop_nil,Nat.reduceAdd,Nat.reduceSub,Nat.reduceMul,Nat.reduceEqDiff,Nat.reduceLT,Nat.reduceLeDiff,Nat.zero_add,Nat.add_zero,Nat.sub_self,Nat.sub_zero,Nat.one_mul,Nat.mul_one,Nat.zero_mul,jk,mD,List.flatten_cons,List.flatten_nil,eq_self,ite_true,if_true,if_false,↓reduceIte,reduceCtorEq,Int.reduceToNat]);all_goals exact rfl):lM E.P E.G f args res:=by
 subst hnt;subst ht
 intro S w vs hG hv
 refine calls_of_wp hf hb ?_
 have g:=pq fn.ntmps hn hG hv
 refine wp_mono (left.out _ _ _ _ _ _ g) ?_
 rintro e a' w' ⟨s',ρ',⟨he,hr⟩,hg⟩
 obtain⟨r,v,rfl,h2,h3⟩:=nH (fun z hz=>hz.1) (fun _ _ _ h=>h) (fun _ (h:False)=>h.elim) hr hg
 rcases he with rfl|rfl
 ·exact⟨hg.defs,v,h2,v,rfl,h3,hg.zS.below fun _ h=>h⟩
 ·exact⟨hg.defs,v,h2,v,rfl,h3,hg.zS.below fun _ h=>h⟩
end
section
theorem nY{ops:Array Oper}{o:Oper}{t:Array Value}(hg:o.guard=none):Region.wanted o (yielded ops t)=true:=by
 unfold Region.wanted;rw[hg]
theorem GL.am5{E:ay}{ops r:List Oper}{o1 o2:Oper}{s:St}{k:St→Prop}{d1 d2:Nat}{g f:FuncId}{x1 y a1:Operand}{c:Call}{b n:Nat}{l m:List Seg}{z:A}
  (hg1:o1.guard=none)(ho1:o1.op=.makeFunc (.func g) #[] #[x1])(hd1:o1.dst=some d1)(hx1:s.ev x1=.Kq b 0)(hb:s.bk b=some .bx)(h0:s.bk 0=some (.var l))
  (hg2:o2.guard=none)(ho2:o2.op=.call c)(hc:c.callee=.value y)(hd2:o2.dst=some d2)(hy:∀a:Act,a.eval y=.func (.func f) #[] #[])(ha:c.args=#[a1,.tmp d1])(ha1:s.ev a1=.d (.row n m))(hne:∀t,a1=.tmp t→t≠d1)(hnc:(∃t,a1=.tmp t))(hdl:d1<s.t.length)
  (hok:lM E.P E.G f [.row n m,.Kt g [.sref [.gen 1 [.sref l 0]] 0]] (.d z))(hz:pE z=true)(sj:vC E.P f)
  (h:GL E ops r ((s.oF (some d1) .ah none).oF (some d2) (.d z) none) k):GL E ops (o1::o2::r) s k:=by
 obtain⟨t1,rfl⟩:=hnc
 have hne:=hne t1 rfl
 obtain⟨fn,hf,hbd,hn⟩:=sj.out
 refine⟨fun S base w0 ρ a w gd=>?_⟩
 have hB:=gd.b b
 rw[hb]at hB
 obtain⟨hb0,q,rb,ty,e1,e2,e3⟩:=hB
 have hB0:=gd.b 0
 rw[h0]at hB0
 obtain⟨q',cs,t0,e4,_,e5,e6⟩:=hB0
 rw[e3]at e4;cases e4
 have hx:a.eval x1=.pointer (some ⟨rb,0,none⟩):=by
  have h1:=gd.ev x1
  rw[hx1]at h1
  obtain⟨r',e,h2⟩:=h1 _ e1
  obtain rfl:=e.ptr;exact h2
 have hrow:RA (Dt S base ρ) w (.row n m) (a.eval (.tmp t1)):=by
  have h1:=gd.ev (.tmp t1)
  rw[ha1]at h1
  exact h1
 have bp7:(execOp a.eval o1).run E.P w=.ok (.value (.func (.func g) #[] #[.pointer (some ⟨rb,0,none⟩)])) w:=by
  simp[execOp,ho1,Instr.makeFunc,hx,Sem.run_bind]
 unfold wpList
 rw[nY hg1,if_pos rfl]
 left
 unfold Oper.wp
 rw[bp7]
 show wpList E.P ops.toArray _ (o2::r) (a.put o1.dst _) w
 rw[hd1]
 unfold wpList
 rw[nY hg2,if_pos rfl]
 left
 unfold Oper.wp
 have bz7:(a.put (some d1) (.func (.func g) #[] #[.pointer (some ⟨rb,0,none⟩)])).eval (.tmp t1)=a.eval (.tmp t1):=by
  show(a.tmps.setIfInBounds d1 _).getD t1 undef=a.tmps.getD t1 undef
  rw[Array.getD_eq_getD_getElem?,Array.getElem?_setIfInBounds_ne (Ne.symm hne),←Array.getD_eq_getD_getElem?]
 have bz8:(a.put (some d1) (.func (.func g) #[] #[.pointer (some ⟨rb,0,none⟩)])).eval (.tmp d1)=.func (.func g) #[] #[.pointer (some ⟨rb,0,none⟩)]:=by
  show(a.tmps.setIfInBounds d1 _).getD d1 undef=_
  have:d1<a.tmps.size:=by rw[←gd.len];exact hdl
  simp[Array.getD_eq_getD_getElem?,this]
 rw[oQ ho2 hc (hy _) hf hbd hn,Oper.upon_enter]
 have hargs:(c.args.toList.map (a.put (some d1) (.func (.func g) #[] #[.pointer (some ⟨rb,0,none⟩)])).eval)=[a.eval (.tmp t1),.func (.func g) #[] #[.pointer (some ⟨rb,0,none⟩)]]:=by
  rw[ha]
  simp[bz7,bz8]
 rw[hargs]
 have hq:q<w.heap.size:=(Array.getElem?_eq_some_iff.1 e5).1
 have hrb:rb<w.heap.size:=(Array.getElem?_eq_some_iff.1 e2).1
 have c1:RA (fun _=>True) w (.sref l 0) (.pointer (some ⟨q,0,none⟩)):=by
  refine .sref (o:=0) (e6.up o9) (.inr ⟨q,0,rfl,trivial,hq,fun i hi=>?_⟩)
  rw[Nat.zero_add,iY e5,List.getElem?_eq_getElem hi]
 have c2:RA (fun _=>True) w (.sref [.gen 1 [.sref l 0]] 0) (.pointer (some ⟨rb,0,none⟩)):=by
  refine .sref (o:=0) (cs:=[.pointer (some ⟨q,0,none⟩)]) (.mE rfl (.cons c1 rfl .nil)) (.inr ⟨rb,0,rfl,trivial,hrb,fun i hi=>?_⟩)
  have:=iY (w:=w) (r:=rb) (cs:=[.pointer (some ⟨q,0,none⟩)]) (t:=ty) e2 i
  rw[Nat.zero_add,this,List.getElem?_eq_getElem hi]
 have c3:RA (fun _=>True) w (.Kt g [.sref [.gen 1 [.sref l 0]] 0]) (.func (.func g) #[] #[.pointer (some ⟨rb,0,none⟩)]):=.Kt (vs:=[.pointer (some ⟨rb,0,none⟩)]) (.cons c2 rfl .nil)
 refine(hok (fun _=>True) w _ (gd.glob.up o9) (.cons (hrow.up o9) (.cons c3 .nil))).mono ?_
 rintro e w' ⟨u,rfl,h3,h4⟩
 obtain⟨g2,k2⟩:=gd.grow (w':=w') ⟨h4.os,h4.tape,h4.output,h4.size,fun k hk _=>h4.block k hk⟩
 have g3:=g2.put' (some d1) (t:=.ah) (v:=.func (.func g) #[] #[.pointer (some ⟨rb,0,none⟩)]) trivial (by simp[T.refs])
 have g4:=g3.put' (some d2) (t:=.d z) (v:=u) (oI hz h3) (by simp[T.refs])
 rw[hd2]
 exact h.out _ _ _ _ _ _ g4
theorem Rq{E:ay}{f:FuncId}{fn:Func}{c:Code}{x x':Bk}{args:List A}{res:bP}{n:Nat}{t:List T}(hf:E.P.funcs[f]?=some fn)(hnt:fn.ntmps=n)
  (left:GW E c ⟨t,[some x]⟩ fun e s=>(e=.normal∨e=.ret)∧s.bk 0=some x'∧qB E s fn.results.toList fun r=>r=res)(hb:fn.body=some c:=by exact rfl)(hn:args.length+1≤n:=by exact Nat.le_of_ble_eq_true rfl)
  (hx:∀e sz n l,x≠ .sl e sz n l:=by intro _ _ _ _ h;cases h)(hres:∀y,res≠ .p y:=by intro y h;cases h)
  (ht:(args.map T.d).insertIdx 0 (.ptr 0 0)++List.replicate (n- (args.length+1)) (.d (.v undef))=t:=by(conv=>lhs;simp only[List.insertIdx_zero,Seg.n,Wx,Wy,Wz,WA,WB,WC,WE,WG,WH,BK,BL,BN,BO,BP,BQ,BR,Int.reduceAdd,Int.zero_add,Seg.cell,Seg.sub,List.set_nil,iH,mO,List.take_append_drop,St.app,St.oF,St.ev,List.getD_cons_zero,List.getD_cons_succ,List.getD_nil,St.sl,St.bk,jl,iA,kS,gT,bF,weaken,lY,List.set_cons_zero,List.set_cons_succ,List.length_cons,List.length_nil,List.cons_append,List.nil_append,List.append_nil,List.map_cons,List.map_nil,List.replicate_succ,List.replicate_zero,List.take_succ_cons,List.take_zero,List.drop_succ_cons,List.drop_zero,List.take_nil,List.drop_nil,Nat.reduceAdd,Nat.reduceSub,Nat.reduceMul,Nat.reduceEqDiff,Nat.reduceLT,Nat.reduceLeDiff,Nat.zero_add,Nat.add_zero,Nat.sub_self,Nat.sub_zero,Nat.one_mul,Nat.mul_one,Nat.zero_mul,jk,mD,List.flatten_cons,List.flatten_nil,eq_self,ite_true,if_true,if_false,↓reduceIte,reduceCtorEq,Int.reduceToNat]);all_goals exact rfl):SQ E.P E.G f 0 x args res x':=by
 subst hnt;subst ht;exact Gb hf hb hn (Nat.zero_le _) hx (fun S base w0 ρ a w g=>left.out _ _ _ _ _ _ g) hres
end
section
def aI4(N:Nat)(f:Nat→St)(body:St→(Exit→St→Prop)→Prop)(k:Exit→St→Prop):Prop:=
 ∀j,j≤N→qZ N f j→body (f j) fun e s'=>match e with| .normal=>rR N f j s'|e=>k e s'
def Ws(E:ay):List Bool→Code→(Exit→St→Prop)→((St→(Exit→St→Prop)→Prop)→(Exit→St→Prop)→Prop)→Prop
 |[],.loop c,k,P=>P (fun s k=>FL E c s k) k
 |false::ps,.seq a b,k,P=>Ws E ps a (fun e s'=>match e with| .normal=>FL E b s' k|e=>k e s') P
 |true::ps,.seq a b,k,P=>Ws E ps b k P
 |false::ps,.cond _ a b,k,P=>Ws E ps a k P
 |true::ps,.cond _ a b,k,P=>Ws E ps b k P
 |_::ps,.block id c,k,P=>Ws E ps c (fun e s'=>match e with| .exit j=>(if j=id then k .normal s' else k (.exit j) s')|e=>k e s') P
 |_,_,_,_=>False
def M4:Nat→Nat→List Bool
 |0,_=>[]
 |k+1,n=>M4 k (n / 2)++[n%2==1]
end
section
def ak3(P:Program)(G:Nat→Option (List Seg))(f:FuncId)(args:List A)(l:List Seg)(m:List A):Prop:=
 ∀(S:Nat→Prop) (w:World) (vs:List Value),SV G S w→lW S w args vs→Calls P f vs.toArray w fun e w'=>
  ∃r us cs t,e=.returned (.tuple (Value.pointer (some ⟨r,0,none⟩)::us).toArray)∧w.heap.size≤r∧w'.heap[r]?=some (.cells (List.toArray cs) t (0,0))∧RL (fun _=>False) w' l cs∧lW (fun _=>False) w' m us∧Below w.heap.size w w'
theorem Dm{S S':Nat→Prop}{w w':World}:∀{l:List A} {vs:List Value},l.all pE=true→lW S w l vs→lW S' w' l vs
 |_,_,_,.nil=>.nil
 |_,_,h,.cons k r=>by
  rw[List.all_cons,Bool.and_eq_true]at h
  exact .cons (oI h.1 k) (Dm h.2 r)
theorem ao8{E:ay}{f:FuncId}{fn:Func}{c:Code}{args:List A}{l:List Seg}{m:List A}{n x0:Nat}{rest:List ResultVar}{t:List T}(hf:E.P.funcs[f]?=some fn)(hnt:fn.ntmps=n)(hr:fn.results.toList=.tmp x0::rest)(h2:rest≠[])
  (left:GW E c ⟨t,[]⟩ fun e s=>(e=.normal∨e=.ret)∧qB E s [.tmp x0] (fun r=>r=.p (.var l))∧Aq E s rest fun a=>a=m)(hl:Yn l=true)(hm:m.all pE=true)(hb:fn.body=some c:=by exact rfl)(hn:args.length≤n:=by exact Nat.le_of_ble_eq_true rfl)
  (ht:args.map T.d++List.replicate (n-args.length) (.d (.v undef))=t:=by(conv=>lhs;simp only[Seg.n,Wx,Wy,Wz,WA,WB,WC,WE,WG,WH,BK,BL,BN,BO,BP,BQ,BR,Int.reduceAdd,Int.zero_add,Seg.cell,Seg.sub,List.set_nil,iH,mO,List.take_append_drop,St.app,St.oF,St.ev,List.getD_cons_zero,List.getD_cons_succ,List.getD_nil,St.sl,St.bk,jl,iA,kS,gT,bF,weaken,lY,List.set_cons_zero,List.set_cons_succ,List.length_cons,List.length_nil,List.cons_append,List.nil_append,List.append_nil,List.map_cons,List.map_nil,List.replicate_succ,List.replicate_zero,List.take_succ_cons,List.take_zero,List.drop_succ_cons,List.drop_zero,List.take_nil,List.drop_nil,Nat.reduceAdd,Nat.reduceSub,Nat.reduceMul,Nat.reduceEqDiff,Nat.reduceLT,Nat.reduceLeDiff,Nat.zero_add,Nat.add_zero,Nat.sub_self,Nat.sub_zero,Nat.one_mul,Nat.mul_one,Nat.zero_mul,jk,mD,List.flatten_cons,List.flatten_nil,eq_self,ite_true,if_true,if_false,↓reduceIte,reduceCtorEq,Int.reduceToNat]);all_goals exact rfl):ak3 E.P E.G f args l m:=by
 subst hnt;subst ht
 intro S w vs hG hv
 refine calls_of_wp hf hb ?_
 have g:=pq fn.ntmps hn hG hv
 refine wp_mono (left.out _ _ _ _ _ _ g) ?_
 rintro e a' w' ⟨s',ρ',⟨he,hp,hres⟩,hg⟩
 obtain⟨r,v,rfl,k2,k3⟩:=nH (fn:={ fn with results:=#[.tmp x0] }) (S':=S) (fun z hz=>hz.1) (fun _ _ _ h=>h) (fun _ (h:False)=>h.elim) hp hg
 obtain⟨q,rfl,hq,cs,ty,e1,e2⟩:=k3
 obtain⟨gU,us,rfl,hlen,hm2,hra⟩:=o7 (S':=S) (fun z hz=>hz.1) (fun _ (h:False)=>h.elim) hg hres
 have hx:a'.tmps.getD x0 undef=.pointer (some ⟨q,0,none⟩):=by
  rw[sW]at k2
  have:(#[ResultVar.tmp x0].mapM (qC a'.tmps):Sem (Array Value))=(do let v←qC a'.tmps (.tmp x0);pure #[v]):=by
   rw[show #[ResultVar.tmp x0]=[ResultVar.tmp x0].toArray from rfl,List.mapM_toArray]
   simp
  rw[this]at k2
  simp[Sem.run_bind,qC]at k2
  rw[Array.getD_eq_getD_getElem?];exact k2
 have hne:us≠[]:=fun h=>by
  have:rest.length≠0:=fun h=>h2 (List.length_eq_zero_iff.1 h)
  rw[h]at hlen
  exact this hlen.symm
 rw[Array.getD_eq_getD_getElem?]at hx
 have hrun:(results fn a'.tmps).run E.P w'=.ok (.tuple (Value.pointer (some ⟨q,0,none⟩)::us).toArray) w':=by
  rw[sW]
  have h3:fn.results=(ResultVar.tmp x0::rest).toArray:=by rw[←hr]
  rw[h3,List.mapM_toArray]
  simp[Sem.run_bind,hm2,qC,hx,hne]
 rcases he with rfl|rfl
 ·exact⟨hg.defs,_,hrun,q,us,cs,ty,rfl,hq,e1,lJ hl e2,Dm hm hra,hg.zS.below fun _ h=>h⟩
 ·exact⟨hg.defs,_,hrun,q,us,cs,ty,rfl,hq,e1,lJ hl e2,Dm hm hra,hg.zS.below fun _ h=>h⟩
end
section
theorem Al{a:Act}{d:Nat}{v:Value}(h:d<a.tmps.size):(a.put (some d) v).eval (.tmp d)=v:=by
 show(a.tmps.setIfInBounds d v).getD d undef=v
 simp[Array.getD_eq_getD_getElem?,h]
theorem Am{a:Act}{d:Nat}{v:Value}:(a.put (some d) v).tmps.size=a.tmps.size:=by
 show(a.tmps.setIfInBounds d v).size=_
 simp
theorem Ro{G:Nat→Option (List Seg)}{S:Nat→Prop}{base:Nat}{w0:W0 G}{s:St}{ρ:Nat→Option Value}{a:Act}{w:World}(g:Good S base w0 s ρ a w):∀{xs:List Operand} {gU:List A},xs.map s.ev=gU.map T.d→lW (Dt S base ρ) w gU (xs.map a.eval)
 |[],[],_=>.nil
 |[],_::_,h=>by cases h
 |_::_,[],h=>by cases h
 |x::xs,y::ys,h=>by
  rw[List.map_cons,List.map_cons]at h
  obtain⟨h1,h2⟩:=List.cons.inj h
  refine .cons ?_ (Ro g h2)
  have:=g.ev x
  rw[h1]at this
  exact this
theorem GL.aJ7{E:ay}{ops r:List Oper}{o1 o2 o3 o4 o5:Oper}{s:St}{k:St→Prop}{d1 d2 d3 d4 d5:Nat}{f:FuncId}{y:Operand}{c:Call}{l:List Seg}{gU:List A}{a1 a2:A}
  (hg1:o1.guard=none)(ho1:o1.op=.call c)(hc:c.callee=.value y)(hd1:o1.dst=some d1)(hy:∀a:Act,a.eval y=.func (.func f) #[] #[])(ha:c.args.toList.map s.ev=gU.map T.d)
  (hg2:o2.guard=none)(ho2:o2.op=.move (.tmp d1))(hd2:o2.dst=some d2)
  (hg3:o3.guard=none)(ho3:o3.op=.extract (.tmp d2) 0)(hd3:o3.dst=some d3)
  (hg4:o4.guard=none)(ho4:o4.op=.extract (.tmp d2) 1)(hd4:o4.dst=some d4)
  (hg5:o5.guard=none)(ho5:o5.op=.extract (.tmp d2) 2)(hd5:o5.dst=some d5)
  (l1:d1<s.t.length)(l2:d2<s.t.length)(n3:d3≠d2)(n4:d4≠d2)
  (hok:ak3 E.P E.G f gU l [a1,a2])(hl:Yn l=true)(hm:pE a1=true∧pE a2=true)(sj:vC E.P f)
  (h:GL E ops r ⟨((((s.t.set d1 .ah).set d2 .ah).set d3 (.ptr s.h.length 0)).set d4 (.d a1)).set d5 (.d a2),s.h++[some (.var l)]⟩ k):GL E ops (o1::o2::o3::o4::o5::r) s k:=by
 obtain⟨fn,hf,hbd,hn⟩:=sj.out
 refine⟨fun S base w0 ρ a w gd=>?_⟩
 have hlen:=gd.len
 unfold wpList
 rw[nY hg1,if_pos rfl]
 left
 unfold Oper.wp
 rw[oQ ho1 hc (hy _) hf hbd hn,Oper.upon_enter]
 refine(hok (Dt S base ρ) w _ gd.glob (Ro gd ha)).mono ?_
 rintro e w' ⟨q,us,cs,ty,rfl,hq,e1,e2,e3,hbel⟩
 have hql:q<w'.heap.size:=(Array.getElem?_eq_some_iff.1 e1).1
 obtain⟨u1,u2,rfl,ra1,ra2⟩:∃u1 u2,us=[u1,u2]∧RA (fun _=>False) w' a1 u1∧RA (fun _=>False) w' a2 u2:=by
  cases e3 with|cons x r=>cases r with|cons y r=>cases r;exact⟨_,_,rfl,x,y⟩
 obtain⟨V,hV⟩:∃V,V=Value.tuple [Value.pointer (some ⟨q,0,none⟩),u1,u2].toArray:=⟨_,rfl⟩
 rw[←hV,hd1]
 have gd0:=gd.sim (S9.more s 1)
 have hfr:St.bk ⟨s.t,s.h++List.replicate 1 none⟩ s.h.length=none:=by
  rw[jS]
  unfold St.bk
  rw[List.getD_eq_getElem?_getD,List.getElem?_eq_none (Nat.le_refl _)];rfl
 have hgr:w.grownBy w' none:=⟨hbel.os,hbel.tape,hbel.output,hbel.size,fun k hk _=>hbel.block k hk⟩
 have uK:∀z,Rl (Value.pointer (some ⟨q,0,none⟩)) z→z=q:=by intro z hz;exact hz.symm
 have g2:=gd0.change s.h.length (by simp) (Value.pointer (some ⟨q,0,none⟩)) (.var l) none hgr (by simp) (fun z hz=>by rw[uK z hz];exact⟨.inl hq,hql⟩) (by
   intro K0
   exact⟨q,cs,ty,by simp[upd],trivial,e1,lJ hl e2⟩) (by
   intro _ i hi hm
   exact absurd hfr (gd0.uE i _ hm)) (fun z hz=>by have h0:=gd0.b s.h.length;rw[hfr]at h0;have h0':ρ s.h.length=none:=h0;rw[h0']at hz;cases hz)
 have hh:(s.h++List.replicate 1 none).set s.h.length (some (.var l))=s.h++[some (Bk.var l)]:=by simp
 have g2:Good S base w0 ⟨s.t,s.h++[some (.var l)]⟩ (upd ρ s.h.length (some (Value.pointer (some ⟨q,0,none⟩)))) a w':=by rw[←hh];exact g2
 have hbk:St.bk ⟨s.t,s.h++[some (.var l)]⟩ s.h.length≠none:=by simp[St.bk]
 have g3:=g2.put' (some d1) (t:=.ah) (v:=V) trivial (by simp[T.refs])
 have g4:=g3.put' (some d2) (t:=.ah) (v:=V) trivial (by simp[T.refs])
 have g5:=g4.put' (some d3) (t:=.ptr s.h.length 0) (v:=Value.pointer (some ⟨q,0,none⟩)) (fun u hu=>by simp[upd]at hu;exact⟨q,.inl hu.symm,rfl⟩) (fun b hb=>by simp[T.refs]at hb;subst hb;exact hbk)
 have g6:=g5.put' (some d4) (t:=.d a1) (v:=u1) (oI hm.1 ra1) (by simp[T.refs])
 have g7:=g6.put' (some d5) (t:=.d a2) (v:=u2) (oI hm.2 ra2) (by simp[T.refs])
 have z1:(a.put (some d1) V).eval (.tmp d1)=V:=Al (by rw[←hlen];exact l1)
 have z2:((a.put (some d1) V).put (some d2) V).eval (.tmp d2)=V:=Al (by rw[Am,←hlen];exact l2)
 have keep:∀(b:Act) (d:Nat) (v:Value),d≠d2→b.eval (.tmp d2)=V→(b.put (some d) v).eval (.tmp d2)=V:=fun b d v hne hb=>by
  show(b.tmps.setIfInBounds d v).getD d2 undef=V
  rw[Array.getD_eq_getD_getElem?,Array.getElem?_setIfInBounds_ne hne,←Array.getD_eq_getD_getElem?]
  exact hb
 have z3:=keep _ d3 (Value.pointer (some ⟨q,0,none⟩)) n3 z2
 have z4:=keep _ d4 u1 n4 z3
 have step:∀{o:Oper} {rest:List Oper} {b:Act} {v:Value} {d:Nat} {Q:Exit→Act→World→Prop},o.guard=none→o.dst=some d→(execOp b.eval o).run E.P w'=.ok (.value v) w'→wpList E.P ops.toArray Q rest (b.put (some d) v) w'→wpList E.P ops.toArray Q (o::rest) b w':=fun {o rest b v d Q} hg hd hr hk=>by
  unfold wpList
  rw[nY hg,if_pos rfl]
  left
  unfold Oper.wp
  rw[hr]
  show wpList E.P ops.toArray _ rest (b.put o.dst v) w'
  rw[hd]
  exact hk
 refine step hg2 hd2 (v:=V) (by simp[execOp,ho2,z1]) ?_
 have ex:∀{o:Oper} {b:Act} {i:Nat} {v:Value},o.op=.extract (.tmp d2) i→b.eval (.tmp d2)=V→[Value.pointer (some ⟨q,0,none⟩),u1,u2][i]?=some v→(execOp b.eval o).run E.P w'=.ok (.value v) w':=fun {o b i v} ho hb hi=>by
  rw[hV]at hb
  simp[execOp,ho,hb,Instr.extract,hi]
 refine step hg3 hd3 (ex ho3 z2 rfl) ?_
 refine step hg4 hd4 (ex ho4 z3 rfl) ?_
 refine step hg5 hd5 (ex ho5 z4 rfl) ?_
 exact h.out _ _ _ _ _ _ g7
end
section
structure AO(E:ay)(c:Code)(s:St)(k:Exit→St→Prop):Prop where
 out:∀(S:Nat→Prop) (base:Nat) (w0:W0 E.G) (ρ:Nat→Option Value) (a:Act) (w:World),w0.pin=none→(∀q,¬w0.X q)→Good S base w0 s ρ a w→c.wp E.P (fun e a' w'=>∃s' ρ',k e s'∧Good S base w0 s' ρ' a' w') a w
structure Ns(E:ay)(ops l:List Oper)(s:St)(k:St→Prop):Prop where
 out:∀(S:Nat→Prop) (base:Nat) (w0:W0 E.G) (ρ:Nat→Option Value) (a:Act) (w:World),w0.pin=none→(∀q,¬w0.X q)→Good S base w0 s ρ a w→wpList E.P ops.toArray (fun e a' w'=>e=.normal∧∃s' ρ',k s'∧Good S base w0 s' ρ' a' w') l a w
section
variable {E : ay} {s : St}
theorem AO.gw{c:Code}{k:Exit→St→Prop}(h:GW E c s k):AO E c s k:=⟨fun S base w0 ρ a w _ _ g=>h.out S base w0 ρ a w g⟩
theorem AO.of{c:Code}{k:Exit→St→Prop}(h:FL E c s k):AO E c s k:=.gw (.of h)
theorem AO.seq{x y:Code}{k:Exit→St→Prop}(h:AO E x s fun e s'=>match e with| .normal=>AO E y s' k|e=>k e s'):AO E (.seq x y) s k:=by
 refine⟨fun S base w0 ρ a w hp hx g=>?_⟩
 refine wp_seq (wp_mono (h.out S base w0 ρ a w hp hx g) ?_)
 rintro e a' w' ⟨s',ρ',h1,h2⟩
 cases e with
 |normal=>exact AO.out h1 _ _ _ _ _ _ hp hx h2
 |_=>exact⟨s',ρ',h1,h2⟩
theorem Ns.of{ops l:List Oper}{k:St→Prop}(h:bR E ops l s k):Ns E ops l s k:=⟨fun S base w0 ρ a w _ _ g=>pU h g⟩
theorem Ns.cons{ops r:List Oper}{o:Oper}{t:T}{k:St→Prop}(hg:o.guard=none)(ho:dz E o s s.h.length t none)(h:Ns E ops r (s.oF o.dst t none) k):Ns E ops (o::r) s k:=by
 refine⟨fun S base w0 ρ a w hp hx g=>?_⟩
 have hs:wU E ops o s s.h.length t none:=.inl ⟨by unfold wI;rw[hg],ho⟩
 unfold wpList
 refine hs.run (s':=⟨s.t,s.h++List.replicate 1 none⟩) (ρ:=ρ) (a:=a) (w:=w) (fun x hx=>⟨by cases x<;>rfl,fun b _=>jS s 1 b⟩) (fun _ _ _ _ _=>rfl) (g.sim (S9.more s 1)) ?_ (by simp) fun a' w' ρ' g'=>?_
 ·rw[jS]
  unfold St.bk
  rw[List.getD_eq_getElem?_getD,List.getElem?_eq_none (Nat.le_refl _)];rfl
 ·exact h.out _ _ _ _ _ _ hp hx (g'.zG yu)
theorem AO.region{id:Nat}{ops:Array Oper}{k:Exit→St→Prop}(h:Ns E ops.toList ops.toList s (k .normal)):AO E (.region id ops false) s k:=by
 refine⟨fun S base w0 ρ a w hp hx g=>?_⟩
 have:=h.out S base w0 ρ a w hp hx g
 rw[Array.toArray_toList]at this
 refine wp_mono (wp_region_list this) ?_
 rintro e a' w' ⟨rfl,s',ρ',h1,h2⟩
 exact⟨s',ρ',h1,h2⟩
end
def Nt(E:ay)(f:FuncId)(e:TypeId)(sz n:Nat)(l:List Seg)(rest:List A)(res:bP):Prop:=
 ∃fn c,E.P.funcs[f]?=some fn∧fn.body=some c∧rest.length+1≤fn.ntmps∧AO E c ⟨T.own 0 n::(rest.map T.d++List.replicate (fn.ntmps- (rest.length+1)) (.d (.v undef))),[some (.sl e sz n l)]⟩ fun ex s=>(ex=.normal∨ex=.ret)∧qB E s fn.results.toList fun r=>r=res
theorem ap2{E:ay}{f:FuncId}{fn:Func}{c:Code}{e:TypeId}{sz n:Nat}{l:List Seg}{rest:List A}{res:bP}{m:Nat}{t:List T}(hf:E.P.funcs[f]?=some fn)(hnt:fn.ntmps=m)
  (left:AO E c ⟨t,[some (.sl e sz n l)]⟩ fun ex s=>(ex=.normal∨ex=.ret)∧qB E s fn.results.toList fun r=>r=res)(hb:fn.body=some c:=by exact rfl)(hn:rest.length+1≤m:=by exact Nat.le_of_ble_eq_true rfl)
  (ht:T.own 0 n::(rest.map T.d++List.replicate (m- (rest.length+1)) (.d (.v undef)))=t:=by(conv=>lhs;simp only[Seg.n,Wx,Wy,Wz,WA,WB,WC,WE,WG,WH,BK,BL,BN,BO,BP,BQ,BR,Int.reduceAdd,Int.zero_add,Seg.cell,Seg.sub,List.set_nil,iH,mO,List.take_append_drop,St.app,St.oF,St.ev,List.getD_cons_zero,List.getD_cons_succ,List.getD_nil,St.sl,St.bk,jl,iA,kS,gT,bF,weaken,lY,List.set_cons_zero,List.set_cons_succ,List.length_cons,List.length_nil,List.cons_append,List.nil_append,List.append_nil,List.map_cons,List.map_nil,List.replicate_succ,List.replicate_zero,List.take_succ_cons,List.take_zero,List.drop_succ_cons,List.drop_zero,List.take_nil,List.drop_nil,Nat.reduceAdd,Nat.reduceSub,Nat.reduceMul,Nat.reduceEqDiff,Nat.reduceLT,Nat.reduceLeDiff,Nat.zero_add,Nat.add_zero,Nat.sub_self,Nat.sub_zero,Nat.one_mul,Nat.mul_one,Nat.zero_mul,jk,mD,List.flatten_cons,List.flatten_nil,eq_self,ite_true,if_true,if_false,↓reduceIte,reduceCtorEq,Int.reduceToNat]);all_goals exact rfl):Nt E f e sz n l rest res:=by
 subst hnt;subst ht
 exact⟨fn,c,hf,hb,hn,left⟩
theorem br5{D:Nat→Prop}{w:World}:∀{l:List A} {vs:List Value},lW D w l vs→vs.length=l.length
 |_,_,.nil=>rfl
 |_,_,.cons _ r=>by simp[br5 r]
theorem br4{D:Nat→Prop}{w:World}:∀{l:List A} {vs:List Value},lW D w l vs→∀i,i<l.length→RA D w (l.getD i (.v undef)) (vs.getD i undef)
 |_,_,.nil,i,h=>by simp at h
 |_,_,.cons h r,0,_=>by simpa using h
 |_,_,.cons h r,i+1,hi=>by simpa using br4 r i (by simpa using hi)
theorem Ns.give{E:ay}{ops r:List Oper}{o1:Oper}{s:St}{k:St→Prop}{d1:Nat}{f:FuncId}{y x:Operand}{xs:List Operand}{c:Call}{b:Nat}{e e':TypeId}{sz sz' n n':Nat}{l l':List Seg}{gU:List A}
  (hg1:o1.guard=none)(ho1:o1.op=.call c)(hc:c.callee=.value y)(hd1:o1.dst=some d1)(hy:∀a:Act,a.eval y=.func (.func f) #[] #[])(ha:c.args.toList=x::xs)(hx1:s.ev x=.own b n)(hxs:xs.map s.ev=gU.map T.d)(hb:s.bk b=some (.sl e sz n l))
  (hok:Nt E f e sz n l gU (.o e' sz' n' l'))(sj:vC E.P f)
  (h:Ns E ops r ⟨(List.replicate s.t.length T.ah).set d1 (.d (.row n' l')),[]⟩ k):Ns E ops (o1::r) s k:=by
 obtain⟨fn0,hf0,hbd,hnm⟩:=sj.out
 obtain⟨fn,cd,hf,hcd,hnt,hgw⟩:=hok
 refine⟨fun S base w0 ρ a w hp hX gd=>?_⟩
 have hlen:=gd.len
 have hB:=gd.b b
 rw[hb]at hB
 obtain⟨u,cs,hu,hown,hrl⟩:=hB
 have hrest:lW (Dt S base ρ) w gU (xs.map a.eval):=by
  have:∀{xs:List Operand} {gU:List A},xs.map s.ev=gU.map T.d→lW (Dt S base ρ) w gU (xs.map a.eval):=by
   intro xs
   induction xs with
   |nil=>intro gU h;cases gU with
    |nil=>exact .nil
    |cons _ _=>cases h
   |cons x xs ih=>intro gU h;cases gU with
    |nil=>cases h
    |cons y ys=>
     rw[List.map_cons,List.map_cons]at h
     obtain⟨h1,h2⟩:=List.cons.inj h
     refine .cons ?_ (ih h2)
     have:=gd.ev x
     rw[h1]at this
     exact this
  exact this hxs
 have hev:a.eval x=u:=by
  have h1:=gd.ev x
  rw[hx1]at h1
  obtain⟨ad,n2,cp,e1,e2,e3⟩:=h1 u hu
  obtain⟨ad',cp',e4⟩:=ownsRow_form hown
  rw[e1]at e4
  cases e4
  exact e3 rfl
 unfold wpList
 rw[nY hg1,if_pos rfl]
 left
 unfold Oper.wp
 rw[oQ ho1 hc (hy _) hf0 hbd hnm,Oper.upon_enter]
 have hargs:(c.args.toList.map a.eval)=u::xs.map a.eval:=by rw[ha,List.map_cons,hev]
 rw[hargs]
 refine calls_of_wp hf hcd ?_
 let ρ0:Nat→Option Value:=fun i=>if i=0 then some u else none
 have YZ:∀i v,ρ0 i=some v→i=0∧v=u:=by
  intro i v hi
  simp only[ρ0]at hi
  split at hi
  ·next e=>cases hi;exact⟨e,rfl⟩
  ·cases hi
 have K:Keeps (Dt S base ρ) w (Dt S base ρ0) w:=⟨Nat.le_refl _,fun q _ hq=>⟨⟨hq.1,fun i v hi hv=>by
  obtain⟨_,rfl⟩:=YZ i v hi
  exact hq.2 b _ hu hv⟩,fun _=>rfl⟩⟩
 have hl:=br5 hrest
 have slot:∀i,St.sl ⟨T.own 0 n::(gU.map T.d++List.replicate (fn.ntmps- (gU.length+1)) (.d (.v undef))),[some (.sl e sz n l)]⟩ i=
   if i=0 then .own 0 n else if i<gU.length+1 then .d (gU.getD (i-1) (.v undef))else if i<fn.ntmps then .d (.v undef)else .ah:=by
  intro i
  simp only[St.sl,List.getD_eq_getElem?_getD]
  cases i with
  |zero=>rfl
  |succ i=>
   rw[List.getElem?_cons_succ,if_neg (by omega),Nat.add_sub_cancel]
   by_cases h1:i<gU.length
   ·rw[List.getElem?_append_left (by simpa using h1),if_pos (by omega)]
    simp[h1]
   ·rw[List.getElem?_append_right (by simpa using h1),List.getElem?_replicate,if_neg (show ¬i+1<gU.length+1 by omega)]
    simp only[List.length_map]
    by_cases h2:i+1<fn.ntmps
    ·rw[if_pos h2,if_pos (by omega)];rfl
    ·rw[if_neg h2,if_neg (by omega)];rfl
 have g:Good S base w0 ⟨T.own 0 n::(gU.map T.d++List.replicate (fn.ntmps- (gU.length+1)) (.d (.v undef))),[some (.sl e sz n l)]⟩ ρ0
   { tmps:=(u::xs.map a.eval).toArray++Array.replicate (fn.ntmps- (u::xs.map a.eval).toArray.size) undef,defers:=[] } w:=by
  have sz1:(u::xs.map a.eval).toArray.size=gU.length+1:=by
   have h2:(u::xs.map a.eval).toArray.size=(u::xs.map a.eval).length:=rfl
   rw[h2,List.length_cons,hl]
  have val:∀i,((u::xs.map a.eval).toArray++Array.replicate (fn.ntmps- (u::xs.map a.eval).toArray.size) undef).getD i undef=if i=0 then u else if i<gU.length+1 then(xs.map a.eval).getD (i-1) undef else undef:=by
   intro i
   rw[Array.getD_eq_getD_getElem?]
   by_cases h1:i<gU.length+1
   ·rw[Array.getElem?_append_left (by rw[sz1];exact h1)]
    cases i with
    |zero=>rfl
    |succ i=>
     rw[if_neg (by omega),if_pos h1,Nat.add_sub_cancel,List.getElem?_toArray,List.getElem?_cons_succ,List.getD_eq_getElem?_getD]
   ·rw[Array.getElem?_append_right (by rw[sz1];omega),Array.getElem?_replicate,if_neg (show ¬i=0 by omega),if_neg h1]
    split<;>rfl
  refine⟨?_,fun i hi=>?_,fun i=>?_,fun i q hq=>?_,fun i j v v' q h1 h2 h3 h4=>?_,fun i v q h1 h2=>?_,gd.zS,gd.glob.up K,fun q hq=>(by rw[hp]at hq;cases hq),gd.size,rfl⟩
  ·simp only[Array.size_append,Array.size_replicate,sz1,List.length_cons,List.length_append,List.length_map,List.length_replicate]
   omega
  ·rw[slot,val]
   have hi2:i<fn.ntmps:=by
    simp only[Array.size_append,Array.size_replicate,sz1]at hi
    omega
   by_cases h0:i=0
   ·rw[if_pos h0,if_pos h0]
    intro v hv
    obtain⟨_,rfl⟩:=YZ 0 v hv
    obtain⟨ad',cp',e4⟩:=ownsRow_form hown
    exact⟨ad',n,cp',e4,Nat.le_refl _,fun _=>rfl⟩
   ·rw[if_neg h0,if_neg h0]
    by_cases h1:i<gU.length+1
    ·rw[if_pos h1,if_pos h1]
     exact RA.up K (br4 hrest (i-1) (by omega))
    ·rw[if_neg h1,if_neg h1,if_pos hi2]
     exact .v undef
  ·cases i with
   |zero=>exact⟨u,cs,rfl,hown,hrl.up K⟩
   |succ i=>show RB _ _ _ _ _ ((([some (.sl e sz n l)]:List (Option Bk))).getD (i+1) none);exact(rfl:ρ0 (i+1)=none)
  ·rw[slot]at hq
   by_cases h0:i=0
   ·rw[if_pos h0]at hq
    simp[T.refs]at hq
    subst hq
    simp[St.bk]
   ·rw[if_neg h0]at hq
    split at hq
    ·simp[T.refs]at hq
    ·split at hq<;>simp[T.refs]at hq
  ·rw[(YZ i v h1).1,(YZ j v' h2).1]
  ·obtain⟨_,rfl⟩:=YZ i v h1
   exact gd.low b _ q hu h2
 refine wp_mono (hgw.out S base w0 ρ0 _ w hp hX g) ?_
 rintro ex a' w' ⟨s',ρ',⟨he,hr⟩,hg⟩
 obtain⟨r',v,rfl,h2,h3⟩:=nH (fn:=fn) (S':=S) (fun z hz=>hz.1) (fun _ hk=>by cases hk) (fun q hq=>(hX q hq).elim) hr hg
 have h4:RA (fun q=>S q∨base≤q) w' (.row n' l') v:=P6 h3
 have K2:Keeps (fun q=>S q∨base≤q) w' (Dt S base fun _=>none) w':=⟨Nat.le_refl _,fun q _ hq=>⟨⟨hq,fun i v hi=>by cases hi⟩,fun _=>rfl⟩⟩
 have K3:Keeps (Dt S base ρ') w' (Dt S base fun _=>none) w':=⟨Nat.le_refl _,fun q _ hq=>⟨⟨hq.1,fun i v hi=>by cases hi⟩,fun _=>rfl⟩⟩
 have g2:Good S base w0 ⟨(List.replicate s.t.length T.ah).set d1 (.d (.row n' l')),[]⟩ (fun _=>none) (a.put (some d1) v) w':=by
  have gs:∀i,St.sl ⟨(List.replicate s.t.length T.ah).set d1 (.d (.row n' l')),[]⟩ i=if d1=i∧d1<s.t.length then .d (.row n' l')else .ah:=by
   intro i
   show((List.replicate s.t.length T.ah).set d1 (.d (.row n' l'))).getD i .ah=_
   rw[aK,List.length_replicate]
   split
   ·rfl
   ·rw[List.getD_eq_getElem?_getD,List.getElem?_replicate];split<;>rfl
  refine⟨?_,fun i hi=>?_,fun i=>(rfl:(none:Option Value)=none),fun i q hq=>?_,fun i j v v' q h1=>(by cases h1),fun i v q h1=>(by cases h1),hg.zS,hg.glob.up K3,fun q hq=>(by rw[hp]at hq;cases hq),hg.size,gd.defs⟩
  ·rw[Am,←hlen];simp
  ·rw[gs]
   rw[Am]at hi
   split
   ·next hd=>
    obtain⟨rfl,_⟩:=hd
    have:(a.put (some d1) v).eval (.tmp d1)=v:=Al hi
    have:(a.put (some d1) v).tmps.getD d1 undef=v:=this
    rw[this]
    exact RA.up K2 h4
   ·trivial
  ·rw[gs]at hq
   split at hq<;>simp[T.refs]at hq
 have fin:=h.out S base w0 (fun _=>none) _ w' hp hX g2
 rcases he with rfl|rfl
 ·exact⟨hg.defs,v,h2,by rw[hd1];exact fin⟩
 ·exact⟨hg.defs,v,h2,by rw[hd1];exact fin⟩
theorem aE4{E:ay}{f:FuncId}{fn:Func}{c:Code}{args:List A}{res:bP}{n:Nat}{t:List T}(hf:E.P.funcs[f]?=some fn)(hnt:fn.ntmps=n)
  (left:AO E c ⟨t,[]⟩ fun e s=>(e=.normal∨e=.ret)∧qB E s fn.results.toList fun r=>r=res)(hb:fn.body=some c:=by exact rfl)(hn:args.length≤n:=by exact Nat.le_of_ble_eq_true rfl)
  (ht:args.map T.d++List.replicate (n-args.length) (.d (.v undef))=t:=by(conv=>lhs;simp only[Seg.n,Wx,Wy,Wz,WA,WB,WC,WE,WG,WH,BK,BL,BN,BO,BP,BQ,BR,Int.reduceAdd,Int.zero_add,Seg.cell,Seg.sub,List.set_nil,iH,mO,List.take_append_drop,St.app,St.oF,St.ev,List.getD_cons_zero,List.getD_cons_succ,List.getD_nil,St.sl,St.bk,jl,iA,kS,gT,bF,weaken,lY,List.set_cons_zero,List.set_cons_succ,List.length_cons,List.length_nil,List.cons_append,List.nil_append,List.append_nil,List.map_cons,List.map_nil,List.replicate_succ,List.replicate_zero,List.take_succ_cons,List.take_zero,List.drop_succ_cons,List.drop_zero,List.take_nil,List.drop_nil,Nat.reduceAdd,Nat.reduceSub,Nat.reduceMul,Nat.reduceEqDiff,Nat.reduceLT,Nat.reduceLeDiff,Nat.zero_add,Nat.add_zero,Nat.sub_self,Nat.sub_zero,Nat.one_mul,Nat.mul_one,Nat.zero_mul,jk,mD,List.flatten_cons,List.flatten_nil,eq_self,ite_true,if_true,if_false,↓reduceIte,reduceCtorEq,Int.reduceToNat]);all_goals exact rfl):lM E.P E.G f args res:=by
 subst hnt;subst ht
 intro S w vs hG hv
 refine calls_of_wp hf hb ?_
 have g:=pq fn.ntmps hn hG hv
 refine wp_mono (left.out _ _ _ _ _ _ rfl (fun _ h=>h) g) ?_
 rintro e a' w' ⟨s',ρ',⟨he,hr⟩,hg⟩
 obtain⟨r,v,rfl,h2,h3⟩:=nH (fun z hz=>hz.1) (fun _ _ _ h=>h) (fun _ (h:False)=>h.elim) hr hg
 rcases he with rfl|rfl
 ·exact⟨hg.defs,v,h2,v,rfl,h3,hg.zS.below fun _ h=>h⟩
 ·exact⟨hg.defs,v,h2,v,rfl,h3,hg.zS.below fun _ h=>h⟩
end
section
section
variable {E : ay} {S : Nat → Prop} {base : Nat} {w0 : W0 E.G}
theorem av6{ops r:List Oper}{Q:Exit→Act→World→Prop}{j:St→Prop}(hj:∀(s:St) (ρ:Nat→Option Value) (a:Act) (w:World),j s→Good S base w0 s ρ a w→wpList E.P ops.toArray Q r a w):∀{l:List Oper} {s:St} {ρ:Nat→Option Value} {a:Act} {w:World},bR E ops l s j→Good S base w0 s ρ a w→
  wpList E.P ops.toArray Q (l++r) a w
 |[],s,ρ,a,w,h,g=>hj s ρ a w h g
 |o::l,s,ρ,a,w,h0,g=>by
  rw[List.cons_append]
  rcases D8 h0 with⟨hg0,hm⟩|h
  ·unfold wpList
   rw[show Region.wanted o (yielded ops.toArray a.tmps)=true by unfold Region.wanted;rw[hg0],if_pos rfl]
   exact .inl (hm S base w0 ρ a w _ _ g fun s' a' w' ρ' hk g'=>av6 hj hk.out g')
  obtain⟨t,blk,hk,hs⟩:=u6 h
  unfold wpList
  refine hs.run (s':=⟨s.t,s.h++List.replicate 1 none⟩) (ρ:=ρ) (a:=a) (w:=w) (fun x hx=>⟨by cases x<;>rfl,fun b _=>jS s 1 b⟩) (fun _ _ _ _ _=>rfl) (g.sim (S9.more s 1)) ?_ (by simp) fun a' w' ρ' g'=>?_
  ·rw[jS]
   unfold St.bk
   rw[List.getD_eq_getElem?_getD,List.getElem?_eq_none (Nat.le_refl _)];rfl
  ·exact av6 hj hk.out (g'.zG yu)
end
theorem GL.aS4{E:ay}(n:Nat){ops l:List Oper}{s:St}{k:St→Prop}(h:Stop (bR E ops (l.take n) s fun s'=>GL E ops (l.drop n) s' k)):GL E ops l s k:=by
 refine⟨fun S base w0 ρ a w g=>?_⟩
 have:=av6 (r:=l.drop n) (fun s ρ a w hj g=>GL.out hj S base w0 ρ a w g) h.out g
 rwa [List.take_append_drop]at this
theorem Ns.aS4{E:ay}(n:Nat){ops l:List Oper}{s:St}{k:St→Prop}(h:Stop (bR E ops (l.take n) s fun s'=>Ns E ops (l.drop n) s' k)):Ns E ops l s k:=by
 refine⟨fun S base w0 ρ a w hp hX g=>?_⟩
 have:=av6 (r:=l.drop n) (fun s ρ a w hj g=>Ns.out hj S base w0 ρ a w hp hX g) h.out g
 rwa [List.take_append_drop]at this
end
section
def Fz(b n:Nat)(l:List Seg)(t:T):T:=match t with
 | .own b' n'=>if b'=b then(if n'=n then .d (.row n l)else .ah)else .own b' n'
 |t=>if t.refs.contains b then .ah else t
def St.frz(s:St)(b:Nat):St:=match s.bk b with
 |some (.sl e sz n l)=>⟨s.t.map (Fz b n l),s.h.set b none⟩
 |_=>s
theorem Rv(b n:Nat)(l:List Seg)(t:T):(Fz b n l t=.ah)∨(t=.own b n∧Fz b n l t=.d (.row n l))∨(Fz b n l t=t∧b∉t.refs):=by
 have gen:∀t:T,(if t.refs.contains b then T.ah else t)=.ah∨((if t.refs.contains b then T.ah else t)=t∧b∉t.refs):=fun t=>by
  by_cases h:t.refs.contains b
  ·rw[if_pos h];exact .inl rfl
  ·rw[if_neg h];exact .inr ⟨rfl,by simpa using h⟩
 cases t with
 |own b' n'=>
  unfold Fz
  dsimp only
  by_cases h:b'=b
  ·rw[if_pos h]
   by_cases h2:n'=n
   ·rw[if_pos h2];subst h h2;exact .inr (.inl ⟨rfl,rfl⟩)
   ·rw[if_neg h2];exact .inl rfl
  ·rw[if_neg h]
   exact .inr (.inr ⟨rfl,by simp[T.refs];exact fun e=>h e.symm⟩)
 |_=>first|exact(gen (.d _)).imp id .inr|exact(gen (.ptr _ _)).imp id .inr|exact(gen (.uW _ _ _)).imp id .inr|exact(gen (.win _ _ _)).imp id .inr|exact(gen (.zV _ _ _)).imp id .inr|exact(gen (.pre _ _ _)).imp id .inr|exact(gen (.EU _)).imp id .inr|exact(gen (.rows _)).imp id .inr|exact(gen (.ob _)).imp id .inr|exact(gen (.hsl _ _)).imp id .inr|exact(gen (.Kq _ _)).imp id .inr|exact(gen (.mp _)).imp id .inr|exact(gen .ah).imp id .inr
theorem yh.frz{s:St}{b:Nat}:yh s (s.frz b):=⟨fun G S base w0 ρ a w g=>by
 unfold St.frz
 split
 ·next e sz n l hk=>
  have hB:=g.b b
  rw[hk]at hB
  obtain⟨u,cs,hu,hown,hrl⟩:=hB
  obtain⟨ad,c,hform⟩:=ownsRow_form hown
  let ρ':Nat→Option Value:=fun i=>if i=b then none else ρ i
  have hρ:∀i v,ρ' i=some v→i≠b∧ρ i=some v:=fun i v h=>by
   simp only[ρ']at h
   split at h
   ·cases h
   ·next hi=>exact⟨hi,h⟩
  have K:Keeps (Dt S base ρ) w (Dt S base ρ') w:=⟨Nat.le_refl _,fun q _ hq=>⟨⟨hq.1,fun i v hi=>hq.2 i v (hρ i v hi).2⟩,fun _=>rfl⟩⟩
  have hO:∀z,Rl u z→Dt S base ρ' z:=fun z hz=>⟨.inr (oN hown hz).1,fun i v hi hv=>(hρ i v hi).1 (g.inj i b v u z (hρ i v hi).2 hu hv hz)⟩
  have hrow:RA (Dt S base ρ') w (.row n l) u:=by
   have k3:=hrl.up K
   rcases hown.2 with⟨e1,e2⟩|⟨r,cap,cur,e1,e3,e4,e5,e6,e7,e8⟩
   ·rw[e1,e2]
    have hcs:cs=[]:=by have:=hown.1;rw[e2,Nat.zero_mul]at this;exact List.length_eq_zero_iff.1 this
    exact .row k3 (Nat.le_refl _) (Nat.zero_le _) (fun _=>rfl) (.inl hcs)
   ·have hr:Rl u r:=by rw[e1];exact rfl
    rw[e1]
    refine .row k3 e5 e6 (fun e=>by cases e) (.inr ⟨r,0,rfl,hO r hr,(Array.getElem?_eq_some_iff.1 e4).1,fun j hj=>?_⟩)
    rw[Nat.zero_add,cell_of_row w r j cur _ (0,0) e4]
    have:(cur.toList.take (n*sz))[j]?=cs[j]?:=by rw[e8]
    rw[List.getElem?_take,if_pos (by have:=hown.1;omega),Array.getElem?_toList,List.getElem?_eq_getElem hj]at this
    exact this
  have hsl:∀i,St.sl ⟨s.t.map (Fz b n l),s.h.set b none⟩ i=Fz b n l (s.sl i):=fun i=>by
   show(s.t.map (Fz b n l)).getD i .ah=Fz b n l (s.t.getD i .ah)
   rw[List.getD_eq_getElem?_getD,List.getD_eq_getElem?_getD,List.getElem?_map]
   cases s.t[i]?<;>rfl
  have hbk:∀i,St.bk ⟨s.t.map (Fz b n l),s.h.set b none⟩ i=if i=b then none else s.bk i:=fun i=>by
   show(s.h.set b none).getD i none=_
   rw[aK]
   by_cases h:b=i
   ·subst h
    rw[if_pos rfl]
    split
    ·rfl
    ·next h2=>
     have:¬b<s.h.length:=fun h3=>h2 ⟨rfl,h3⟩
     rw[List.getD_eq_getElem?_getD,List.getElem?_eq_none (by omega)];rfl
   ·rw[if_neg (fun x=>h x.1),if_neg (fun x=>h x.symm)]
    rfl
  refine⟨ρ',by simpa using g.len,fun i hi=>?_,fun i=>?_,fun i q hq=>?_,fun i j v v' r h1 h2=>g.inj i j v v' r (hρ i v h1).2 (hρ j v' h2).2,fun i v r h1=>g.low i v r (hρ i v h1).2,g.zS,g.glob.up K,fun q hq=>?_,g.size,g.defs⟩
  ·rw[hsl]
   have ht:=g.t i hi
   rcases Rv b n l (s.sl i)with h|⟨h1,h2⟩|⟨h1,h2⟩
   ·rw[h];trivial
   ·rw[h2]
    rw[h1]at ht
    obtain⟨a1,n1,c1,e1,e2,e3⟩:=ht u hu
    have hn:n=n1:=by rw[hform]at e1;cases e1;rfl
    rw[e3 hn]
    exact hrow
   ·rw[h1]
    refine RT.up K (fun b' hb'=>?_) ht
    simp only[ρ']
    rw[if_neg (fun e:b'=b=>h2 (by rw[←e];exact hb'))]
  ·rw[hbk]
   by_cases h:i=b
   ·rw[if_pos h]
    show ρ' i=none
    simp only[ρ']
    rw[if_pos h]
   ·rw[if_neg h]
    have hB:=g.b i
    have hi:ρ' i=ρ i:=by simp only[ρ'];rw[if_neg h]
    cases hb:s.bk i with
    |none=>rw[hb]at hB;exact hi.trans hB
    |some k=>
     rw[hb]at hB
     cases k with
     |var l=>obtain⟨r,cs,t,h1,h2,h3,h4⟩:=hB;exact⟨r,cs,t,hi.trans h1,h2,h3,h4.up K⟩
     |sl e sz n l=>obtain⟨u,cs,h1,h2,h3⟩:=hB;exact⟨u,cs,hi.trans h1,h2,h3.up K⟩
     |obj p=>obtain⟨r,cs,t,h1,h2,h3,h4⟩:=hB;exact⟨r,cs,t,hi.trans h1,h2,h3,h4⟩
     |abs p=>obtain⟨r,F,h1,h2,h3⟩:=hB;exact⟨r,F,hi.trans h1,h2,h3⟩
     |gone=>obtain⟨n,h1⟩:=hB;exact⟨n,hi.trans h1⟩
     |vh l off p e' sz n m=>obtain⟨r,cs,t,su,ms,h1,h2,h3,h4,h5,h6,h7,h8⟩:=hB;exact⟨r,cs,t,su,ms,hi.trans h1,h2,h3,h4,h5.up K,h6.up K,h7,h8⟩
     |bx=>
      obtain⟨h0,q,r,t,h1,h2,h3⟩:=hB
      refine⟨h0,q,r,t,hi.trans h1,h2,?_⟩
      have:(0:Nat)≠b:=fun e=>by
       rw[e,hu]at h3
       rw[hform]at h3
       cases h3
      simp only[ρ']
      rw[if_neg this]
      exact h3
  ·rw[hsl]at hq
   rw[hbk]
   rcases Rv b n l (s.sl i)with h|⟨h1,h2⟩|⟨h1,h2⟩
   ·rw[h]at hq;simp[T.refs]at hq
   ·rw[h2]at hq;simp[T.refs]at hq
   ·rw[h1]at hq
    rw[if_neg (fun e:q=b=>h2 (by rw[←e];exact hq))]
    exact g.uE i q hq
  ·have h3:=g.pin q hq
   have:(0:Nat)≠b:=fun e=>by
    rw[e,hu]at h3
    rw[hform]at h3
    cases h3
   simp only[ρ']
   rw[if_neg this]
   exact h3
 ·exact⟨ρ,g⟩⟩
theorem UC{body:St→(Exit→St→Prop)→Prop}{s:St}{k:Exit→St→Prop}(live bs:List Nat)(b:Nat)(N:Nat)(f:Nat→St)
  (h3:∀j,j≤N→qZ N f j→body (f j) fun e s'=>match e with| .normal=>rR N f j s'|e=>k e s')
  (ok:Dx live bs (s.frz b)=true:=by exact rfl)(h2:gather live bs (s.frz b)=f 0:=by exact rfl):aZ body s k∨yj body s k:=
 vP N f (yh.frz.trans (.gather ok)) h2 h3
end
end Go.Proofs.YtjhgelfnmhdihaaGreatDoor
