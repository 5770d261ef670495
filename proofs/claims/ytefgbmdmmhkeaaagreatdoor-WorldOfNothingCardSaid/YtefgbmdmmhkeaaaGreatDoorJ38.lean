/-
  A struct that is handed in: each field for itself. No program is named here.
-/
import Derived.Deep.Slices
import Derived.Test.YtefgbmdmmhkeaaaGreatDoorJ31
namespace Go.Proofs.YtefgbmdmmhkeaaaGreatDoor
set_option linter.unusedVariables false
set_option linter.unusedSimpArgs false
set_option maxRecDepth 100000
open Go.RowKit
section
open Go.ChangeShapes
theorem weights_each{H:Type}{P:Program}{B:Nat}:∀(ts:List TypeId) (ds:List (DataW H)),(∀n∈DataW.weightsEach P ts ds,n≤B)→∀(i:Nat) (t:TypeId) (d:DataW H),ts[i]?=some t→ds[i]?=some d→∀n∈d.weights P t,n≤B
 |[],_,_,i,t,d,h,_=>by simp at h
 |_::_,[],_,i,t,d,_,h=>by simp at h
 |u::ts,c::ds,hw,0,t,d,h1,h2=>by
  simp only[List.getElem?_cons_zero,Option.some.injEq]at h1 h2
  subst h1;subst h2
  intro n hn
  exact hw n (by rw[DataW.weightsEach];exact List.mem_append_left _ hn)
 |u::ts,c::ds,hw,i+1,t,d,h1,h2=>by
  simp only[List.getElem?_cons_succ]at h1 h2
  exact weights_each ts ds (fun n hn=>hw n (by rw[DataW.weightsEach];exact List.mem_append_right _ hn)) i t d h1 h2
theorem struct_field{H:Type}{enc:TypeId×Value→H}{P:Program}{w:World}{base:Nat}{spare:Nat→Bool}{held:Bool}{t:TypeId}{fs:Array Field}{fuel B:Nat}{cs:List Value}{x:DataW H×List MemPlace}
  (ht:P.underlying t=some (.struct fs))(h:DataW.trod enc P w base spare held fuel t cs=some x)(hw:∀n∈x.1.weights P t,n≤B){i:Nat}{f:Field}(hi:fs[i]?=some f):
  ∃n y,DataW.trod enc P w base spare held n f.type ((cs.drop f.offset).take (P.cellsOf f.type))=some y∧∀m∈y.1.weights P f.type,m≤B:=by
 obtain⟨xs,n,_,rfl,_,hlen,hf⟩:=DataW.trod_struct ht h
 have hlt:i<fs.size:=(Array.getElem?_eq_some_iff.1 hi).1
 have hx:i<xs.length:=by omega
 refine⟨n,xs[i],?_,?_⟩
 ·have:=hf i f hi
  simpa[List.getElem?_eq_getElem hx]using this
 ·simp only[DataW.weights,ht]at hw
  refine weights_each _ _ hw i f.type _ ?_ ?_
  ·rw[List.getElem?_map,Array.getElem?_toList,hi];rfl
  ·rw[List.getElem?_map,List.getElem?_eq_getElem hx];rfl
end
section
theorem rows_each{w:World}{a:Addr}{K:Nat}:∀(m:Nat),(∀i<m,∃zs:List Int,zs.length=K∧∀j<K,w.cell? (a.add (i*K+j))=some (.int .i64 (zs.getD j 0)))→∃zs:List Int,zs.length=m*K∧∀j<m*K,w.cell? (a.add j)=some (.int .i64 (zs.getD j 0))
 |0,_=>⟨[],by simp,fun j hj=>by omega⟩
 |m+1,h=>by
  obtain⟨zs,h1,h2⟩:=rows_each m fun i hi=>h i (by omega)
  obtain⟨ys,h3,h4⟩:=h m (by omega)
  refine⟨zs++ys,by rw[List.length_append,h1,h3,Nat.succ_mul],fun j hj=>?_⟩
  rw[Nat.succ_mul]at hj
  by_cases e:j<m*K
  ·rw[h2 j e,List.getD_eq_getElem?_getD,List.getD_eq_getElem?_getD,List.getElem?_append_left (by omega)]
  ·have h5:=h4 (j-m*K) (by omega)
   rw[show m*K+(j-m*K)=j by omega]at h5
   rw[h5,List.getD_eq_getElem?_getD,List.getD_eq_getElem?_getD,List.getElem?_append_right (by omega),h1]
theorem lies_of{w:World}{a:Addr}{zs:List Int}(h:∀j<zs.length,w.cell? (a.add j)=some (.int .i64 (zs.getD j 0))):Lies (fun _=>True) w (some a) (zs.map (Value.int .i64)):=by
 by_cases h0:zs=[]
 ·left;subst h0;rfl
 ·right
  have hp:0<zs.length:=List.length_pos_iff.2 h0
  have hz:=h 0 hp
  have hsp:a.spot=none:=by
   have h1:=hz
   unfold World.cell? at h1
   split at h1
   ·next c t fr hb=>
    by_cases hs:(a.add 0).spot.isSome=true
    ·rw[if_pos hs]at h1;cases h1
    ·simpa[Addr.add]using hs
   ·cases h1
  refine⟨a.block,a.off,by cases a;simp_all,trivial,?_,fun i hi=>?_⟩
  ·have:=block_lt_of_cell hz
   simpa[Addr.add]using this
  ·have hi':i<zs.length:=by simpa using hi
   have h1:=h i hi'
   have e:a.add i=⟨a.block,a.off+i,none⟩:=by cases a;simp_all [Addr.add]
   rw[e]at h1
   rw[h1]
   simp[List.getD_eq_getElem?_getD,hi']
theorem open_flats{H:Type}{enc:TypeId×Value→H}{P:Program}{w:World}{base b0:Nat}{held:Bool}{r:Reach}{t e:TypeId}{v:Value}{d:DataW H}{ps:List MemPlace}{K:Nat}(ht:P.underlying t=some (.slice e))(hs:sigT P 20 e=some (List.replicate K (some .i64)))(hK:1≤K)(hby:P.bytesOf e=8*K)
  (hval:Value.okWide P w r b0 t v)(h:DataW.Trod enc P w base (fun _=>true) held t v d ps)(hlt:∀n∈d.weights P t,n≤140737488351232):
  ∃(n:Nat) (zs:List Int),n≤140737488351232∧RA (fun _=>True) w (.row n [.ints .i64 (n*K) zs]) v:=by
 unfold Value.okWide at hval
 rw[ht]at hval
 obtain⟨fuel,hf⟩:=h
 have hC:P.cellsOf e=K:=by
  obtain⟨_,_,_,hc,_⟩:=sigT_info hs
  rw[hc];simp
 rcases Deep.open_slice ht hf with⟨hcs,_⟩|⟨a,len,cap,m,n,D,Pl,hcs,_,hl,hm,hmm,hx,hcell⟩
 ·have:v=.slice none 0 0:=by cases v<;>simp_all [Value.cells,Cell.okWide,Cell.ok]
  subst this
  refine⟨0,[],by omega,.row (cs:=[]) ?_ (Nat.le_refl _) (Nat.zero_le _) (fun _=>rfl) (.inl rfl)⟩
  exact .ofInts (by simp) rfl
 ·have hv:v=.slice (some a) len cap:=by cases v<;>simp_all [Value.cells,Cell.okWide,Cell.ok]
  subst hv
  simp only[if_true]at hmm
  subst hmm
  simp only[Prod.mk.injEq]at hx
  rw[hx.1]at hlt
  have hwt:=weight_of_slice ht hlt
  rw[hby]at hwt
  simp at hwt
  have hlen:len*(8*K)≤140737488351232:=Nat.le_trans (Nat.mul_le_mul_right _ (by omega)) hwt
  have hlen2:len≤140737488351232:=Nat.le_trans (Nat.le_mul_of_pos_right _ (by omega)) hlen
  obtain⟨zs,hz1,hz2⟩:=rows_each (w:=w) (a:=a) (K:=K) len fun i hi=>by
   obtain⟨cs',h1,h2⟩:=hcell i (by omega)
   rw[hC]at h1
   obtain⟨_,h3,h4⟩:=World.cells?_some h1
   obtain⟨h5,h6⟩:=kinds_of_trod 20 e _ hs h2 (by simpa using h3)
   obtain⟨ys,rfl,h7,_⟩:=kinds_ints h5 h6
   refine⟨ys,h7,fun j hj=>?_⟩
   have h8:=h4 j hj
   rw[←Addr.add_add,h8]
   simp[List.getD_eq_getElem?_getD,h7,hj]
  refine⟨len,zs,hlen2,.row (cs:=zs.map (Value.int .i64)) (.ofInts hz1 rfl) hl (by omega) (fun h=>by cases h) (lies_of fun j hj=>hz2 j (by omega))⟩
end
section
theorem ra_arg8{w:World}{a:Option Addr}{l c:Nat}{bs:List UInt8}(h:Arg8 w a l c bs):RA (fun _=>True) w (.row bs.length [.bytes bs.length bs]) (.slice a l c):=by
 have hl:=h.row.len_eq
 subst hl
 refine .row (cs:=HL bs) (.ofBytes rfl rfl) h.le (by have:=h.small;unfold maxLen;omega) h.nil ?_
 by_cases h0:bs=[]
 ·subst h0;exact .inl rfl
 ·rcases h.row.cells with h1|⟨b,off,rfl,hc⟩
  ·exact absurd h1 h0
  ·have hp:0<bs.length:=List.length_pos_iff.2 h0
   refine .inr ⟨b,off,rfl,trivial,?_,fun i hi=>?_⟩
   ·exact block_lt_of_cell (hc 0 hp)
   ·have hi':i<bs.length:=by simpa[HL]using hi
    rw[hc i hi']
    simp[HL]
end
section
open Go.ChangeShapes
def fldOf(P:Program)(t:TypeId)(i:Nat):Option (TypeId×Nat):=match P.underlying t with|some (.struct fs)=>(fs[i]?).map fun f=>(f.type,f.offset)|_=>none
section
variable {H : Type} {enc : TypeId × Value → H} {P : Program} {w : World} {base b0 : Nat} {spare : Nat → Bool} {held : Bool} {r : Reach} {t : TypeId} {fuel B : Nat} {cs : List Value} {x : DataW H × List MemPlace}
theorem fld_open(h:DataW.trod enc P w base spare held fuel t cs=some x)(hw:∀n∈x.1.weights P t,n≤B){i off n:Nat}{u:TypeId}(hf:fldOf P t i=some (u,off))(hc:P.cellsOf u=n):
  ∃k y,DataW.trod enc P w base spare held k u ((cs.drop off).take n)=some y∧∀m∈y.1.weights P u,m≤B:=by
 unfold fldOf at hf
 split at hf
 ·next fs ht=>
  cases hq:fs[i]? with
  |none=>rw[hq]at hf;cases hf
  |some f=>
   rw[hq]at hf
   simp only[Option.map_some,Option.some.injEq,Prod.mk.injEq]at hf
   obtain⟨rfl,rfl⟩:=hf
   subst hc
   exact struct_field ht h hw hq
 ·cases hf
theorem fld_kinds(h:DataW.trod enc P w base spare held fuel t cs=some x)(hw:∀n∈x.1.weights P t,n≤B){i off n:Nat}{u:TypeId}{sg:List (Option IntKind)}(hf:fldOf P t i=some (u,off))(hc:P.cellsOf u=n)(hs:sigT P 20 u=some sg)(hn:sg.length=n)(hl:off+n≤cs.length):
  ((cs.drop off).take n).map cellKind=sg.map some∧∀v∈(cs.drop off).take n,wfV v:=by
 obtain⟨k,y,h1,_⟩:=fld_open h hw hf hc
 exact kinds_of_trod 20 u sg hs h1 (by rw[List.length_take,List.length_drop,hn];omega)
theorem cell_wide{N i:Nat}{v:Value}{u:TypeId}(h:Row.okWide P w r b0 t cs.toArray)(hl:(P.cellTypes P.depth t).map (·.length)=some N)(hi:i<N)(hc:cs[i]?=some v)(ht:(P.cellTypes P.depth t).bind (·[i]?)=some u):Cell.okWide P w r b0 u v:=by
 obtain⟨ts,h1,_,h2⟩:=h
 rw[h1]at hl ht
 simp only[Option.map_some,Option.some.injEq,Option.bind_some]at hl ht
 obtain⟨u',h3,h4⟩:=h2 i v (by simpa using hc)
 rw[hl,Nat.mod_eq_of_lt hi,ht]at h3
 cases h3
 exact h4
theorem fld_slice {N i off : Nat} {u : TypeId} {v : Value} {e : TypeId} (h : DataW.trod enc P w base spare held fuel t cs = some x) (hw : ∀ n ∈ x.1.weights P t, n ≤ B) (hok : Row.okWide P w r b0 t cs.toArray) (hl : (P.cellTypes P.depth t).map (·.length) = some N) (hi : off < N)
    (hv : cs[off]? = some v) (hf : fldOf P t i = some (u, off)) (hc : P.cellsOf u = 1) (ht : (P.cellTypes P.depth t).bind (·[off]?) = some u) (hu : P.underlying u = some (.slice e)) :
    Value.okWide P w r b0 u v ∧ ∃ d ps, DataW.Trod enc P w base spare held u v d ps ∧ ∀ m ∈ d.weights P u, m ≤ B := by
  have h1 := cell_wide hok hl hi hv ht
  obtain ⟨k, y, h2, h3⟩ := fld_open h hw hf hc
  have e1 : (cs.drop off).take 1 = [v] := by
    obtain ⟨hlt, hg⟩ := List.getElem?_eq_some_iff.1 hv
    rw [List.drop_eq_getElem_cons hlt, hg]; rfl
  rw [e1] at h2
  have hvc : v.cells.toList = [v] := by
    unfold Cell.okWide at h1
    rw [hu] at h1
    rcases Deep.open_slice hu h2 with ⟨h4, _⟩ | ⟨a, len, cap, _, _, _, _, h4, _⟩ <;> · cases h4; rfl
  refine ⟨by unfold Value.okWide; rw [hu]; exact h1, y.1, y.2, ⟨k, by rw [hvc]; exact h2⟩, h3⟩
end
end
section
structure GW(E:EnvX)(c:Code)(s:St)(k:Exit→St→Prop):Prop where
 out:∀(S:Nat→Prop) (base:Nat) (w0:W0 E.G) (ρ:Nat→Option Value) (a:Act) (w:World),Good S base w0 s ρ a w→c.wp E.P (fun e a' w'=>∃s' ρ',k e s'∧Good S base w0 s' ρ' a' w') a w
structure GL(E:EnvX)(ops l:List Oper)(s:St)(k:St→Prop):Prop where
 out:∀(S:Nat→Prop) (base:Nat) (w0:W0 E.G) (ρ:Nat→Option Value) (a:Act) (w:World),Good S base w0 s ρ a w→wpList E.P ops.toArray (fun e a' w'=>e=.normal∧∃s' ρ',k s'∧Good S base w0 s' ρ' a' w') l a w
section
variable {E : EnvX} {s : St}
theorem GW.of{c:Code}{k:Exit→St→Prop}(h:wpA E c s k):GW E c s k:=⟨fun S base w0 ρ a w g=>wpA_sound c h g⟩
theorem GW.seq{x y:Code}{k:Exit→St→Prop}(h:GW E x s fun e s'=>match e with| .normal=>GW E y s' k|e=>k e s'):GW E (.seq x y) s k:=by
 refine⟨fun S base w0 ρ a w g=>?_⟩
 refine wp_seq (wp_mono (h.out S base w0 ρ a w g) ?_)
 rintro e a' w' ⟨s',ρ',h1,h2⟩
 cases e with
 |normal=>exact GW.out h1 _ _ _ _ _ _ h2
 |_=>exact⟨s',ρ',h1,h2⟩
theorem GL.of{ops l:List Oper}{k:St→Prop}(h:regA E ops l s k):GL E ops l s k:=⟨fun S base w0 ρ a w g=>regA_sound h g⟩
theorem GL.cons{ops r:List Oper}{o:Oper}{t:T}{k:St→Prop}(hg:o.guard=none)(ho:OpOK E o s s.h.length t none)(h:GL E ops r (s.app2 o.dst t none) k):GL E ops (o::r) s k:=by
 refine⟨fun S base w0 ρ a w g=>?_⟩
 have hs:StepOK E ops o s s.h.length t none:=.inl ⟨by unfold Wants;rw[hg],ho⟩
 unfold wpList
 refine hs.run (s':=⟨s.t,s.h++List.replicate 1 none⟩) (ρ:=ρ) (a:=a) (w:=w) (fun x hx=>⟨by cases x<;>rfl,fun b _=>bk_more s 1 b⟩) (fun _ _ _ _ _=>rfl) (g.sim (Sim.more s 1)) ?_ (by simp) fun a' w' ρ' g'=>?_
 ·rw[bk_more]
  unfold St.bk
  rw[List.getD_eq_getElem?_getD,List.getElem?_eq_none (Nat.le_refl _)];rfl
 ·exact h.out _ _ _ _ _ _ (g'.simBack app2_sim)
theorem GW.region{id:Nat}{ops:Array Oper}{k:Exit→St→Prop}(h:GL E ops.toList ops.toList s (k .normal)):GW E (.region id ops false) s k:=by
 refine⟨fun S base w0 ρ a w g=>?_⟩
 have:=h.out S base w0 ρ a w g
 rw[Array.toArray_toList]at this
 refine wp_mono (wp_region_list this) ?_
 rintro e a' w' ⟨rfl,s',ρ',h1,h2⟩
 exact⟨s',ρ',h1,h2⟩
end
theorem fnGW{E:EnvX}{f:FuncId}{fn:Func}{c:Code}{args:List A}{res:Res}{n:Nat}{t:List T}(hf:E.P.funcs[f]?=some fn)(hnt:fn.ntmps=n)
  (left:GW E c ⟨t,[]⟩ fun e s=>(e=.normal∨e=.ret)∧resK' E s fn.results.toList fun r=>r=res)(hb:fn.body=some c:=by exact rfl)(hn:args.length≤n:=by exact Nat.le_of_ble_eq_true rfl)
  (ht:args.map T.d++List.replicate (n-args.length) (.d (.v undef))=t:=by(conv=>lhs;simp only[Seg.n,wn1,wn2,wn3,wn4,wn5,wn6,wn7,wn8,wn9,wn10,wn11,wn12,wn13,wn14,wn15,wn16,Int.reduceAdd,Int.zero_add,Seg.cell,Seg.sub,List.set_nil,isAlloc,trimH,List.take_append_drop,St.app,St.app2,St.ev,List.getD_cons_zero,List.getD_cons_succ,List.getD_nil,St.sl,St.bk,tiInt,tiBool,tiSl,tiArr,tiStruct,weaken,keepT,List.set_cons_zero,List.set_cons_succ,List.length_cons,List.length_nil,List.cons_append,List.nil_append,List.append_nil,List.map_cons,List.map_nil,List.replicate_succ,List.replicate_zero,List.take_succ_cons,List.take_zero,List.drop_succ_cons,List.drop_zero,List.take_nil,List.drop_nil,Nat.reduceAdd,Nat.reduceSub,Nat.reduceMul,Nat.reduceEqDiff,Nat.reduceLT,Nat.reduceLeDiff,Nat.zero_add,Nat.add_zero,Nat.sub_self,Nat.sub_zero,Nat.one_mul,Nat.mul_one,Nat.zero_mul,joinS,manyS,List.flatten_cons,List.flatten_nil,eq_self,ite_true,if_true,if_false,↓reduceIte,reduceCtorEq,Int.reduceToNat]);all_goals exact rfl):FnOK E.P E.G f args res:=by
 subst hnt;subst ht
 intro S w vs hG hv
 refine calls_of_wp hf hb ?_
 have g:=begin_good fn.ntmps hn hG hv
 refine wp_mono (left.out _ _ _ _ _ _ g) ?_
 rintro e a' w' ⟨s',ρ',⟨he,hr⟩,hg⟩
 obtain⟨r,v,rfl,h2,h3⟩:=resK_sound (fun z hz=>hz.1) (fun _ _ _ h=>h) (fun _ (h:False)=>h.elim) hr hg
 rcases he with rfl|rfl
 ·exact⟨hg.defs,v,h2,v,rfl,h3,hg.bel.below fun _ h=>h⟩
 ·exact⟨hg.defs,v,h2,v,rfl,h3,hg.bel.below fun _ h=>h⟩
end
section
structure GW0(E:EnvX)(c:Code)(s:St)(k:Exit→St→Prop):Prop where
 out:∀(S:Nat→Prop) (base:Nat) (w0:W0 E.G) (ρ:Nat→Option Value) (a:Act) (w:World),w0.pin=none→(∀q,¬w0.X q)→Good S base w0 s ρ a w→c.wp E.P (fun e a' w'=>∃s' ρ',k e s'∧Good S base w0 s' ρ' a' w') a w
structure GL0(E:EnvX)(ops l:List Oper)(s:St)(k:St→Prop):Prop where
 out:∀(S:Nat→Prop) (base:Nat) (w0:W0 E.G) (ρ:Nat→Option Value) (a:Act) (w:World),w0.pin=none→(∀q,¬w0.X q)→Good S base w0 s ρ a w→wpList E.P ops.toArray (fun e a' w'=>e=.normal∧∃s' ρ',k s'∧Good S base w0 s' ρ' a' w') l a w
section
variable {E : EnvX} {s : St}
theorem GW0.gw{c:Code}{k:Exit→St→Prop}(h:GW E c s k):GW0 E c s k:=⟨fun S base w0 ρ a w _ _ g=>h.out S base w0 ρ a w g⟩
theorem GW0.of{c:Code}{k:Exit→St→Prop}(h:wpA E c s k):GW0 E c s k:=.gw (.of h)
theorem GW0.seq{x y:Code}{k:Exit→St→Prop}(h:GW0 E x s fun e s'=>match e with| .normal=>GW0 E y s' k|e=>k e s'):GW0 E (.seq x y) s k:=by
 refine⟨fun S base w0 ρ a w hp hx g=>?_⟩
 refine wp_seq (wp_mono (h.out S base w0 ρ a w hp hx g) ?_)
 rintro e a' w' ⟨s',ρ',h1,h2⟩
 cases e with
 |normal=>exact GW0.out h1 _ _ _ _ _ _ hp hx h2
 |_=>exact⟨s',ρ',h1,h2⟩
theorem GL0.of{ops l:List Oper}{k:St→Prop}(h:regA E ops l s k):GL0 E ops l s k:=⟨fun S base w0 ρ a w _ _ g=>regA_sound h g⟩
theorem GL0.cons{ops r:List Oper}{o:Oper}{t:T}{k:St→Prop}(hg:o.guard=none)(ho:OpOK E o s s.h.length t none)(h:GL0 E ops r (s.app2 o.dst t none) k):GL0 E ops (o::r) s k:=by
 refine⟨fun S base w0 ρ a w hp hx g=>?_⟩
 have hs:StepOK E ops o s s.h.length t none:=.inl ⟨by unfold Wants;rw[hg],ho⟩
 unfold wpList
 refine hs.run (s':=⟨s.t,s.h++List.replicate 1 none⟩) (ρ:=ρ) (a:=a) (w:=w) (fun x hx=>⟨by cases x<;>rfl,fun b _=>bk_more s 1 b⟩) (fun _ _ _ _ _=>rfl) (g.sim (Sim.more s 1)) ?_ (by simp) fun a' w' ρ' g'=>?_
 ·rw[bk_more]
  unfold St.bk
  rw[List.getD_eq_getElem?_getD,List.getElem?_eq_none (Nat.le_refl _)];rfl
 ·exact h.out _ _ _ _ _ _ hp hx (g'.simBack app2_sim)
theorem GW0.region{id:Nat}{ops:Array Oper}{k:Exit→St→Prop}(h:GL0 E ops.toList ops.toList s (k .normal)):GW0 E (.region id ops false) s k:=by
 refine⟨fun S base w0 ρ a w hp hx g=>?_⟩
 have:=h.out S base w0 ρ a w hp hx g
 rw[Array.toArray_toList]at this
 refine wp_mono (wp_region_list this) ?_
 rintro e a' w' ⟨rfl,s',ρ',h1,h2⟩
 exact⟨s',ρ',h1,h2⟩
end
end
section
section
variable {E : EnvX} {S : Nat → Prop} {base : Nat} {w0 : W0 E.G}
theorem preA{ops r:List Oper}{Q:Exit→Act→World→Prop}{j:St→Prop}(hj:∀(s:St) (ρ:Nat→Option Value) (a:Act) (w:World),j s→Good S base w0 s ρ a w→wpList E.P ops.toArray Q r a w):∀{l:List Oper} {s:St} {ρ:Nat→Option Value} {a:Act} {w:World},regA E ops l s j→Good S base w0 s ρ a w→
  wpList E.P ops.toArray Q (l++r) a w
 |[],s,ρ,a,w,h,g=>hj s ρ a w h g
 |o::l,s,ρ,a,w,h0,g=>by
  rw[List.cons_append]
  rcases mutK_sound h0 with⟨hg0,hm⟩|h
  ·unfold wpList
   rw[show Region.wanted o (yielded ops.toArray a.tmps)=true by unfold Region.wanted;rw[hg0],if_pos rfl]
   exact .inl (hm S base w0 ρ a w _ _ g fun s' a' w' ρ' hk g'=>preA hj hk.out g')
  obtain⟨t,blk,hk,hs⟩:=stepK_sound h
  unfold wpList
  refine hs.run (s':=⟨s.t,s.h++List.replicate 1 none⟩) (ρ:=ρ) (a:=a) (w:=w) (fun x hx=>⟨by cases x<;>rfl,fun b _=>bk_more s 1 b⟩) (fun _ _ _ _ _=>rfl) (g.sim (Sim.more s 1)) ?_ (by simp) fun a' w' ρ' g'=>?_
  ·rw[bk_more]
   unfold St.bk
   rw[List.getD_eq_getElem?_getD,List.getElem?_eq_none (Nat.le_refl _)];rfl
  ·exact preA hj hk.out (g'.simBack app2_sim)
end
theorem GL.preN{E:EnvX}(n:Nat){ops l:List Oper}{s:St}{k:St→Prop}(h:Stop (regA E ops (l.take n) s fun s'=>GL E ops (l.drop n) s' k)):GL E ops l s k:=by
 refine⟨fun S base w0 ρ a w g=>?_⟩
 have:=preA (r:=l.drop n) (fun s ρ a w hj g=>GL.out hj S base w0 ρ a w g) h.out g
 rwa [List.take_append_drop]at this
theorem GL0.preN{E:EnvX}(n:Nat){ops l:List Oper}{s:St}{k:St→Prop}(h:Stop (regA E ops (l.take n) s fun s'=>GL0 E ops (l.drop n) s' k)):GL0 E ops l s k:=by
 refine⟨fun S base w0 ρ a w hp hX g=>?_⟩
 have:=preA (r:=l.drop n) (fun s ρ a w hj g=>GL0.out hj S base w0 ρ a w hp hX g) h.out g
 rwa [List.take_append_drop]at this
end
end Go.Proofs.YtefgbmdmmhkeaaaGreatDoor
