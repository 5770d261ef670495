/-
  A struct that is handed in: each field for itself. No program is named here.
-/
import Derived.Deep.Slices
import Derived.Test.YtbdmnobocecnfaaGreatDoorJ31
namespace Go.Proofs.YtbdmnobocecnfaaGreatDoor
set_option linter.unusedVariables false
set_option linter.unusedSimpArgs false
set_option maxRecDepth 100000
open Go.RowKit
section
open Go.ChangeShapes
section
variable {H : Type} {enc : TypeId × Value → H} {P : Program} {w : World} {base b0 : Nat} {spare : Nat → Bool} {held : Bool} {r : Reach} {t : TypeId} {fuel B : Nat} {cs : List Value} {x : DataW H × List MemPlace}
end
end
section
structure GW(E:EnvX)(c:Code)(s:St)(k:Exit→St→Prop):Prop where
 out:∀(S:Nat→Prop) (base:Nat) (w0:W0 E.G) (ρ:Nat→Option Value) (a:Act) (w:World),Good S base w0 s ρ a w→c.wp E.P (fun e a' w'=>∃s' ρ',k e s'∧Good S base w0 s' ρ' a' w') a w
structure GL(E:EnvX)(ops l:List Oper)(s:St)(k:St→Prop):Prop where
 out:∀(S:Nat→Prop) (base:Nat) (w0:W0 E.G) (ρ:Nat→Option Value) (a:Act) (w:World),Good S base w0 s ρ a w→wpList E.P ops.toArray (fun e a' w'=>e=.normal∧∃s' ρ',k s'∧Good S base w0 s' ρ' a' w') l a w
section
variable {E : EnvX} {s : St}
theorem GW.of{c:Code}{k:Exit→St→Prop}(h:wpA E c s k):GW E c s k:=⟨fun S base w0 ρ a w g=>wpA_sound c h g⟩
theorem GW.seq{x y:Code}{k:Exit→St→Prop}(h:GW E x s fun e s'=>match e with| .normal=>GW E y s' k|e=>k e s'):GW E (.seq x y) s k:=by
 refine⟨fun S base w0 ρ a w g=>?_⟩
 refine wp_seq (wp_mono (h.out S base w0 ρ a w g) ?_)
 rintro e a' w' ⟨s',ρ',h1,h2⟩
 cases e with
 |normal=>exact GW.out h1 _ _ _ _ _ _ h2
 |_=>exact⟨s',ρ',h1,h2⟩
theorem GL.of{ops l:List Oper}{k:St→Prop}(h:regA E ops l s k):GL E ops l s k:=⟨fun S base w0 ρ a w g=>regA_sound h g⟩
theorem GL.cons{ops r:List Oper}{o:Oper}{t:T}{k:St→Prop}(hg:o.guard=none)(ho:OpOK E o s s.h.length t none)(h:GL E ops r (s.app2 o.dst t none) k):GL E ops (o::r) s k:=by
 refine⟨fun S base w0 ρ a w g=>?_⟩
 have hs:StepOK E ops o s s.h.length t none:=.inl ⟨by unfold Wants;rw[hg],ho⟩
 unfold wpList
 refine hs.run (s':=⟨s.t,s.h++List.replicate 1 none⟩) (ρ:=ρ) (a:=a) (w:=w) (fun x hx=>⟨by cases x<;>rfl,fun b _=>bk_more s 1 b⟩) (fun _ _ _ _ _=>rfl) (g.sim (Sim.more s 1)) ?_ (by simp) fun a' w' ρ' g'=>?_
 ·rw[bk_more]
  unfold St.bk
  rw[List.getD_eq_getElem?_getD,List.getElem?_eq_none (Nat.le_refl _)];rfl
 ·exact h.out _ _ _ _ _ _ (g'.simBack app2_sim)
theorem GW.region{id:Nat}{ops:Array Oper}{k:Exit→St→Prop}(h:GL E ops.toList ops.toList s (k .normal)):GW E (.region id ops false) s k:=by
 refine⟨fun S base w0 ρ a w g=>?_⟩
 have:=h.out S base w0 ρ a w g
 rw[Array.toArray_toList]at this
 refine wp_mono (wp_region_list this) ?_
 rintro e a' w' ⟨rfl,s',ρ',h1,h2⟩
 exact⟨s',ρ',h1,h2⟩
end
theorem fnGW{E:EnvX}{f:FuncId}{fn:Func}{c:Code}{args:List A}{res:Res}{n:Nat}{t:List T}(hf:E.P.funcs[f]?=some fn)(hnt:fn.ntmps=n)
  (left:GW E c ⟨t,[]⟩ fun e s=>(e=.normal∨e=.ret)∧resK' E s fn.results.toList fun r=>r=res)(hb:fn.body=some c:=by exact rfl)(hn:args.length≤n:=by exact Nat.le_of_ble_eq_true rfl)
  (ht:args.map T.d++List.replicate (n-args.length) (.d (.v undef))=t:=by(conv=>lhs;simp only[Seg.n,wn1,wn2,wn3,wn4,wn5,wn6,wn7,wn8,wn9,wn10,wn11,wn12,wn13,wn14,wn15,wn16,Int.reduceAdd,Int.zero_add,Seg.cell,Seg.sub,List.set_nil,isAlloc,trimH,List.take_append_drop,St.app,St.app2,St.ev,List.getD_cons_zero,List.getD_cons_succ,List.getD_nil,St.sl,St.bk,tiInt,tiBool,tiSl,tiArr,tiStruct,weaken,keepT,List.set_cons_zero,List.set_cons_succ,List.length_cons,List.length_nil,List.cons_append,List.nil_append,List.append_nil,List.map_cons,List.map_nil,List.replicate_succ,List.replicate_zero,List.take_succ_cons,List.take_zero,List.drop_succ_cons,List.drop_zero,List.take_nil,List.drop_nil,Nat.reduceAdd,Nat.reduceSub,Nat.reduceMul,Nat.reduceEqDiff,Nat.reduceLT,Nat.reduceLeDiff,Nat.zero_add,Nat.add_zero,Nat.sub_self,Nat.sub_zero,Nat.one_mul,Nat.mul_one,Nat.zero_mul,joinS,manyS,List.flatten_cons,List.flatten_nil,eq_self,ite_true,if_true,if_false,↓reduceIte,reduceCtorEq,Int.reduceToNat]);all_goals exact rfl):FnOK E.P E.G f args res:=by
 subst hnt;subst ht
 intro S w vs hG hv
 refine calls_of_wp hf hb ?_
 have g:=begin_good fn.ntmps hn hG hv
 refine wp_mono (left.out _ _ _ _ _ _ g) ?_
 rintro e a' w' ⟨s',ρ',⟨he,hr⟩,hg⟩
 obtain⟨r,v,rfl,h2,h3⟩:=resK_sound (fun z hz=>hz.1) (fun _ _ _ h=>h) (fun _ (h:False)=>h.elim) hr hg
 rcases he with rfl|rfl
 ·exact⟨hg.defs,v,h2,v,rfl,h3,hg.bel.below fun _ h=>h⟩
 ·exact⟨hg.defs,v,h2,v,rfl,h3,hg.bel.below fun _ h=>h⟩
end
section
structure GW0(E:EnvX)(c:Code)(s:St)(k:Exit→St→Prop):Prop where
 out:∀(S:Nat→Prop) (base:Nat) (w0:W0 E.G) (ρ:Nat→Option Value) (a:Act) (w:World),w0.pin=none→(∀q,¬w0.X q)→Good S base w0 s ρ a w→c.wp E.P (fun e a' w'=>∃s' ρ',k e s'∧Good S base w0 s' ρ' a' w') a w
structure GL0(E:EnvX)(ops l:List Oper)(s:St)(k:St→Prop):Prop where
 out:∀(S:Nat→Prop) (base:Nat) (w0:W0 E.G) (ρ:Nat→Option Value) (a:Act) (w:World),w0.pin=none→(∀q,¬w0.X q)→Good S base w0 s ρ a w→wpList E.P ops.toArray (fun e a' w'=>e=.normal∧∃s' ρ',k s'∧Good S base w0 s' ρ' a' w') l a w
section
variable {E : EnvX} {s : St}
theorem GW0.gw{c:Code}{k:Exit→St→Prop}(h:GW E c s k):GW0 E c s k:=⟨fun S base w0 ρ a w _ _ g=>h.out S base w0 ρ a w g⟩
theorem GW0.of{c:Code}{k:Exit→St→Prop}(h:wpA E c s k):GW0 E c s k:=.gw (.of h)
theorem GW0.seq{x y:Code}{k:Exit→St→Prop}(h:GW0 E x s fun e s'=>match e with| .normal=>GW0 E y s' k|e=>k e s'):GW0 E (.seq x y) s k:=by
 refine⟨fun S base w0 ρ a w hp hx g=>?_⟩
 refine wp_seq (wp_mono (h.out S base w0 ρ a w hp hx g) ?_)
 rintro e a' w' ⟨s',ρ',h1,h2⟩
 cases e with
 |normal=>exact GW0.out h1 _ _ _ _ _ _ hp hx h2
 |_=>exact⟨s',ρ',h1,h2⟩
theorem GL0.of{ops l:List Oper}{k:St→Prop}(h:regA E ops l s k):GL0 E ops l s k:=⟨fun S base w0 ρ a w _ _ g=>regA_sound h g⟩
theorem GL0.cons{ops r:List Oper}{o:Oper}{t:T}{k:St→Prop}(hg:o.guard=none)(ho:OpOK E o s s.h.length t none)(h:GL0 E ops r (s.app2 o.dst t none) k):GL0 E ops (o::r) s k:=by
 refine⟨fun S base w0 ρ a w hp hx g=>?_⟩
 have hs:StepOK E ops o s s.h.length t none:=.inl ⟨by unfold Wants;rw[hg],ho⟩
 unfold wpList
 refine hs.run (s':=⟨s.t,s.h++List.replicate 1 none⟩) (ρ:=ρ) (a:=a) (w:=w) (fun x hx=>⟨by cases x<;>rfl,fun b _=>bk_more s 1 b⟩) (fun _ _ _ _ _=>rfl) (g.sim (Sim.more s 1)) ?_ (by simp) fun a' w' ρ' g'=>?_
 ·rw[bk_more]
  unfold St.bk
  rw[List.getD_eq_getElem?_getD,List.getElem?_eq_none (Nat.le_refl _)];rfl
 ·exact h.out _ _ _ _ _ _ hp hx (g'.simBack app2_sim)
theorem GW0.region{id:Nat}{ops:Array Oper}{k:Exit→St→Prop}(h:GL0 E ops.toList ops.toList s (k .normal)):GW0 E (.region id ops false) s k:=by
 refine⟨fun S base w0 ρ a w hp hx g=>?_⟩
 have:=h.out S base w0 ρ a w hp hx g
 rw[Array.toArray_toList]at this
 refine wp_mono (wp_region_list this) ?_
 rintro e a' w' ⟨rfl,s',ρ',h1,h2⟩
 exact⟨s',ρ',h1,h2⟩
end
end
section
section
variable {E : EnvX} {S : Nat → Prop} {base : Nat} {w0 : W0 E.G}
theorem preA{ops r:List Oper}{Q:Exit→Act→World→Prop}{j:St→Prop}(hj:∀(s:St) (ρ:Nat→Option Value) (a:Act) (w:World),j s→Good S base w0 s ρ a w→wpList E.P ops.toArray Q r a w):∀{l:List Oper} {s:St} {ρ:Nat→Option Value} {a:Act} {w:World},regA E ops l s j→Good S base w0 s ρ a w→
  wpList E.P ops.toArray Q (l++r) a w
 |[],s,ρ,a,w,h,g=>hj s ρ a w h g
 |o::l,s,ρ,a,w,h0,g=>by
  rw[List.cons_append]
  rcases mutK_sound h0 with⟨hg0,hm⟩|h
  ·unfold wpList
   rw[show Region.wanted o (yielded ops.toArray a.tmps)=true by unfold Region.wanted;rw[hg0],if_pos rfl]
   exact .inl (hm S base w0 ρ a w _ _ g fun s' a' w' ρ' hk g'=>preA hj hk.out g')
  obtain⟨t,blk,hk,hs⟩:=stepK_sound h
  unfold wpList
  refine hs.run (s':=⟨s.t,s.h++List.replicate 1 none⟩) (ρ:=ρ) (a:=a) (w:=w) (fun x hx=>⟨by cases x<;>rfl,fun b _=>bk_more s 1 b⟩) (fun _ _ _ _ _=>rfl) (g.sim (Sim.more s 1)) ?_ (by simp) fun a' w' ρ' g'=>?_
  ·rw[bk_more]
   unfold St.bk
   rw[List.getD_eq_getElem?_getD,List.getElem?_eq_none (Nat.le_refl _)];rfl
  ·exact preA hj hk.out (g'.simBack app2_sim)
end
theorem GL.preN{E:EnvX}(n:Nat){ops l:List Oper}{s:St}{k:St→Prop}(h:Stop (regA E ops (l.take n) s fun s'=>GL E ops (l.drop n) s' k)):GL E ops l s k:=by
 refine⟨fun S base w0 ρ a w g=>?_⟩
 have:=preA (r:=l.drop n) (fun s ρ a w hj g=>GL.out hj S base w0 ρ a w g) h.out g
 rwa [List.take_append_drop]at this
theorem GL0.preN{E:EnvX}(n:Nat){ops l:List Oper}{s:St}{k:St→Prop}(h:Stop (regA E ops (l.take n) s fun s'=>GL0 E ops (l.drop n) s' k)):GL0 E ops l s k:=by
 refine⟨fun S base w0 ρ a w hp hX g=>?_⟩
 have:=preA (r:=l.drop n) (fun s ρ a w hj g=>GL0.out hj S base w0 ρ a w hp hX g) h.out g
 rwa [List.take_append_drop]at this
end
end Go.Proofs.YtbdmnobocecnfaaGreatDoor
