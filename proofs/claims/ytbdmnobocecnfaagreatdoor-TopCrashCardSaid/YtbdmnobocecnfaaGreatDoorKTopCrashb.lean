/-
  Drawn regions whose operations read and call, and write only memory of their own.
-/
import Derived.Test.YtbdmnobocecnfaaGreatDoorKTopCrash
namespace Go.Proofs.YtbdmnobocecnfaaGreatDoor
set_option linter.unusedSectionVars false
set_option linter.unusedVariables false
set_option linter.unusedSimpArgs false
set_option maxRecDepth 100000
open Go.RowKit
section
open Pm
structure JG(R:Nat→Value→World→Prop)(w3:World)(S:Nat→Bool)(vals:Nat→Value)(w:World):Prop where
 val:∀k,S k=true→R k (vals k) w
 bel:Below w3.heap.size w3 w
theorem JG.step{R:Nat→Value→World→Prop}(hm:∀k v (w w':World),Below w.heap.size w w'→R k v w→R k v w'){w3:World}{S:Nat→Bool}{vals:Nat→Value}{w w':World}(h:JG R w3 S vals w){j:Nat}{v:Value}(hb:Below w.heap.size w w')(hv:R j v w'):JG R w3 (add1 S j) (fun k=>if k=j then v else vals k) w':=by
 refine⟨fun k hk=>?_,h.bel.lift hb h.bel.size⟩
 by_cases e1:k=j
 ·subst e1;rw[if_pos rfl];exact hv
 ·rw[add1_other S e1]at hk;rw[updV vals j v e1];exact hm k _ _ _ hb (h.val k hk)
theorem JG.pure{R:Nat→Value→World→Prop}(hm:∀k v (w w':World),Below w.heap.size w w'→R k v w→R k v w'){w3:World}{S:Nat→Bool}{vals:Nat→Value}{w:World}(h:JG R w3 S vals w){j:Nat}{v:Value}(hv:R j v w):JG R w3 (add1 S j) (fun k=>if k=j then v else vals k) w:=h.step hm (Below.refl _ _) hv
theorem JG.alloc{R:Nat→Value→World→Prop}(hm:∀k v (w w':World),Below w.heap.size w w'→R k v w→R k v w'){w3:World}{S:Nat→Bool}{vals:Nat→Value}{w:World}(h:JG R w3 S vals w)(o:Obj){j:Nat}{v:Value}(hv:R j v (w.alloc o)):JG R w3 (add1 S j) (fun k=>if k=j then v else vals k) (w.alloc o):=h.step hm ((Below.refl _ _).alloc (Nat.le_refl _) _) hv
theorem JG.start{R:Nat→Value→World→Prop}(w:World)(S:Nat→Bool)(hS:∀k,S k=false)(vals:Nat→Value):JG R w S vals w:=⟨fun k hk=>(by rw[hS k]at hk;cases hk),Below.refl _ _⟩
end
section
open Pm
structure JA(cst:Nat→Option Value)(w3:World)(s:Int)(tv:Array Value)(S:Nat→Bool)(vals:Nat→Value)(w:World):Prop where
 bel:Below w3.heap.size w3 w
 val:∀k x,S k=true→cst k=some x→vals k=x
 x4:S 4=true→∃q,vals 4=.pointer (some ⟨q,0,none⟩)∧w3.heap.size≤q∧q<w.heap.size∧HB (fun _=>False) w q (.obj (KeyP s))
 x13:S 13=true→∃q zc,vals 13=.pointer (some ⟨q,0,none⟩)∧w3.heap.size≤q∧q<w.heap.size∧Blk w q (if S 14=true then tv else zc) 99∧zc.size=tv.size
 sep:S 4=true→S 13=true→vals 4≠vals 13
section
variable {cst : Nat → Option Value} {w3 : World} {s : Int} {tv : Array Value} {S : Nat → Bool} {vals : Nat → Value} {w w' : World}
theorem hb_keep{w w':World}{q:Nat}{s:Int}(h:HB (fun _=>False) w q (.obj (KeyP s)))(e:w'.heap[q]?=w.heap[q]?):HB (fun _=>False) w' q (.obj (KeyP s)):=by
 obtain⟨cs,t,h1,h2⟩:=h
 exact⟨cs,t,e.trans h1,h2⟩
theorem JA.step(h:JA cst w3 s tv S vals w){j:Nat}{v:Value}(hb:Below w.heap.size w w')(hc:cst j=some v)(n4:4≠j)(n13:13≠j)(n14:14≠j):JA cst w3 s tv (add1 S j) (fun k=>if k=j then v else vals k) w':=by
 have s4:=add1_other S n4;have s13:=add1_other S n13;have s14:=add1_other S n14
 have v4:=updV vals j v n4;have v13:=updV vals j v n13
 have hs:=h.bel.size
 refine⟨h.bel.lift hb hs,fun k x hk hx=>?_,fun hk=>?_,fun hk=>?_,fun h1 h2=>?_⟩
 ·by_cases e1:k=j
  ·subst e1;rw[hc]at hx;cases hx;exact if_pos rfl
  ·rw[add1_other S e1]at hk;rw[updV vals j v e1];exact h.val k x hk hx
 ·rw[s4]at hk;rw[v4]
  obtain⟨q,k1,k2,k3,k4⟩:=h.x4 hk
  exact⟨q,k1,k2,Nat.lt_of_lt_of_le k3 hb.size,hb_keep k4 (hb.block q k3)⟩
 ·rw[s13]at hk;rw[v13,s14]
  obtain⟨q,zc,k1,k2,k3,k4,k5⟩:=h.x13 hk
  exact⟨q,zc,k1,k2,Nat.lt_of_lt_of_le k3 hb.size,(hb.block q k3).trans k4,k5⟩
 ·rw[s4]at h1;rw[s13]at h2;rw[v4,v13];exact h.sep h1 h2
theorem JA.pure(h:JA cst w3 s tv S vals w){j:Nat}{v:Value}(hc:cst j=some v)(n4:4≠j)(n13:13≠j)(n14:14≠j):JA cst w3 s tv (add1 S j) (fun k=>if k=j then v else vals k) w:=h.step (Below.refl _ _) hc n4 n13 n14
theorem JA.sign(h:JA cst w3 s tv S vals w)(hc4:cst 4=none){q:Nat}(hb:Below w.heap.size w w')(hq:w.heap.size≤q)(hq2:q<w'.heap.size)(hk4:HB (fun _=>False) w' q (.obj (KeyP s))):JA cst w3 s tv (add1 S 4) (fun k=>if k=4 then .pointer (some ⟨q,0,none⟩)else vals k) w':=by
 have s13:=add1_other S (show 13≠4 by decide);have s14:=add1_other S (show 14≠4 by decide)
 have v13:=updV vals 4 (.pointer (some ⟨q,0,none⟩)) (show 13≠4 by decide)
 have hs:=h.bel.size
 refine⟨h.bel.lift hb hs,fun k x hk hx=>?_,fun _=>⟨q,if_pos rfl,by omega,hq2,hk4⟩,fun hk=>?_,fun h1 h2=>?_⟩
 ·have e1:k≠4:=by rintro rfl;rw[hc4]at hx;cases hx
  rw[add1_other S e1]at hk;rw[updV vals 4 _ e1];exact h.val k x hk hx
 ·rw[s13]at hk;rw[v13,s14]
  obtain⟨q',zc,k1,k2,k3,k4,k5⟩:=h.x13 hk
  exact⟨q',zc,k1,k2,Nat.lt_of_lt_of_le k3 hb.size,(hb.block q' k3).trans k4,k5⟩
 ·rw[s13]at h2;rw[v13]
  obtain⟨q',zc,k1,k2,k3,k4,k5⟩:=h.x13 h2
  rw[k1]
  show(if(4:Nat)=4 then Value.pointer (some ⟨q,0,none⟩)else vals 4)≠_
  rw[if_pos rfl]
  intro e;cases e;omega
theorem JA.appr(h:JA cst w3 s tv S vals w){v:Value}{q:Nat}(h4:S 4=true)(hv:vals 4=.pointer (some ⟨q,0,none⟩))(hc:cst 9=some v)(hg:w.grownBy w' (some q))(hk4:HB (fun _=>False) w' q (.obj (KeyP s))):JA cst w3 s tv (add1 S 9) (fun k=>if k=9 then v else vals k) w':=by
 have s4:=add1_other S (show 4≠9 by decide);have s13:=add1_other S (show 13≠9 by decide);have s14:=add1_other S (show 14≠9 by decide)
 have v4:=updV vals 9 v (show 4≠9 by decide);have v13:=updV vals 9 v (show 13≠9 by decide)
 have hs:=h.bel.size
 obtain⟨q4,k1,k2,k3,k4⟩:=h.x4 h4
 rw[hv]at k1;cases k1
 refine⟨below_grown h.bel hg k2 hs,fun k x hk hx=>?_,fun hk=>?_,fun hk=>?_,fun h1 h2=>?_⟩
 ·by_cases e1:k=9
  ·subst e1;rw[hc]at hx;cases hx;exact if_pos rfl
  ·rw[add1_other S e1]at hk;rw[updV vals 9 v e1];exact h.val k x hk hx
 ·rw[v4];exact⟨q,hv,k2,Nat.lt_of_lt_of_le k3 hg.size,hk4⟩
 ·rw[s13]at hk;rw[v13,s14]
  obtain⟨q',zc,m1,m2,m3,m4,m5⟩:=h.x13 hk
  have hne:q'≠q:=fun e=>h.sep h4 hk (by rw[hv,m1,e])
  exact⟨q',zc,m1,m2,Nat.lt_of_lt_of_le m3 hg.size,(hg.block q' m3 fun e=>hne (by cases e;rfl)).trans m4,m5⟩
 ·rw[s4]at h1;rw[s13]at h2;rw[v4,v13];exact h.sep h1 h2
theorem JA.alloc(h:JA cst w3 s tv S vals w)(hc:cst 13=none)(h14:S 14=false){zc:Array Value}(hz:zc.size=tv.size):JA cst w3 s tv (add1 S 13) (fun k=>if k=13 then .pointer (some ⟨w.heap.size,0,none⟩)else vals k) (w.alloc (.cells zc 99)):=by
 have s4:=add1_other S (show 4≠13 by decide);have s14:=add1_other S (show 14≠13 by decide)
 have v4:=updV vals 13 (.pointer (some ⟨w.heap.size,0,none⟩)) (show 4≠13 by decide)
 have hs:=h.bel.size
 refine⟨h.bel.alloc hs _,fun k x hk hx=>?_,fun hk=>?_,fun _=>⟨w.heap.size,zc,if_pos rfl,hs,by rw[size_alloc];omega,?_,hz⟩,fun h1 h2=>?_⟩
 ·have e1:k≠13:=by rintro rfl;rw[hc]at hx;cases hx
  rw[add1_other S e1]at hk;rw[updV vals 13 _ e1];exact h.val k x hk hx
 ·rw[s4]at hk;rw[v4]
  obtain⟨q,k1,k2,k3,k4⟩:=h.x4 hk
  exact⟨q,k1,k2,by rw[size_alloc];omega,hb_keep k4 (Below.heap_alloc w _ q k3)⟩
 ·rw[s14,h14,if_neg Bool.false_ne_true];exact Blk.newAt _ _ rfl
 ·rw[s4]at h1;rw[v4]
  obtain⟨q,k1,k2,k3,k4⟩:=h.x4 h1
  rw[k1]
  show _≠(if(13:Nat)=13 then Value.pointer (some ⟨w.heap.size,0,none⟩)else vals 13)
  rw[if_pos rfl]
  intro e
  have e:q=w.heap.size:=by first|(simp at e;done)|simpa using e
  omega
theorem JA.store(h:JA cst w3 s tv S vals w)(hc:cst 14=none){q:Nat}(h13:S 13=true)(hv:vals 13=.pointer (some ⟨q,0,none⟩))(x:Value):JA cst w3 s tv (add1 S 14) (fun k=>if k=14 then x else vals k) (w.setRow q tv):=by
 have s4:=add1_other S (show 4≠14 by decide);have s13:=add1_other S (show 13≠14 by decide)
 have v4:=updV vals 14 x (show 4≠14 by decide);have v13:=updV vals 14 x (show 13≠14 by decide)
 obtain⟨q',zc,m1,m2,m3,m4,m5⟩:=h.x13 h13
 rw[hv]at m1;cases m1
 refine⟨⟨h.bel.os,h.bel.tape,h.bel.output,by rw[size_setRow];exact h.bel.size,fun z hz=>(setRow_other w q z tv (by omega)).trans (h.bel.block z hz)⟩,fun k y hk hx=>?_,fun hk=>?_,fun _=>?_,fun h1 h2=>?_⟩
 ·have e1:k≠14:=by rintro rfl;rw[hc]at hx;cases hx
  rw[add1_other S e1]at hk;rw[updV vals 14 _ e1];exact h.val k y hk hx
 ·rw[s4]at hk;rw[v4]
  obtain⟨q4,k1,k2,k3,k4⟩:=h.x4 hk
  have hne:q4≠q:=fun e=>h.sep hk h13 (by rw[k1,hv,e])
  exact⟨q4,k1,k2,by rw[size_setRow];exact k3,hb_keep k4 (setRow_other w q q4 tv hne)⟩
 ·rw[v13,add1_same]
  refine⟨q,zc,hv,m2,by rw[size_setRow];exact m3,?_,m5⟩
  rw[if_pos rfl]
  exact m4.setRow _
 ·rw[s4]at h1;rw[v4,v13];exact h.sep h1 h13
end
def appZ(e:Int)(zs:List Int)(ad:List Bool)(k:Int)(ch:List UInt8)(who s fr:Int)(ops:List Int)(n:Nat):List Int:=
 if appE e zs ad k who s fr ops n=0 then[who,sigE s (paperV e zs ad k ch fr ops),sigS s (paperV e zs ad k ch fr ops)]else[0,0,0]
theorem appS_eq(e:Int)(zs:List Int)(ad:List Bool)(k:Int)(ch:List UInt8)(who s fr:Int)(ops:List Int)(n:Nat):appS e zs ad k ch who s fr ops n=[.agg [.ints .i64 3 (appZ e zs ad k ch who s fr ops n)],.v (.int .i64 (appE e zs ad k who s fr ops n))]:=by
 unfold appS appZ
 split
 ·next h=>rw[h]
 ·rfl
theorem appZ_len(e:Int)(zs:List Int)(ad:List Bool)(k:Int)(ch:List UInt8)(who s fr:Int)(ops:List Int)(n:Nat):(appZ e zs ad k ch who s fr ops n).length=3:=by
 unfold appZ
 split<;>rfl
end
section
open Pm
def actC(i:Nat)(nn fr:Int)(vo:Value)(dr:Int)(vy:Value):Array Value:=#[.int .i64 1,.int .i64 (i:Nat),.int .i64 nn,.int .i64 fr,vo,.int .i64 dr,vy]
theorem ra_sref_ptr{D:Nat→Prop}{w:World}{l:List Seg}{v:Value}(hl:l≠[])(h:RA D w (.sref l 0) v):∃a,v=.pointer (some a):=by
 cases h with
 |sref k1 k2=>exact⟨_,rfl⟩
theorem ra_aggs{D:Nat→Prop}{w:World}{l:List Seg}{v:Value}(h:RA D w (.agg l) v):∃cs:Array Value,v=.agg cs∧RL D w l cs.toList:=by
 cases h with
 |agg k=>exact⟨_,rfl,by simpa using k⟩
def cstP(g:Nat)(pa:Addr)(cv tv:Array Value)(lf fr er:Int)(vo:Value):Nat→Option Value
 |0=>some (.agg cv)
 |1=>some (.pointer (some pa))
 |2=>some (.int .i64 lf)
 |3=>some (.pointer (some pa))
 |4=>none
 |5=>some (.pointer (some ⟨g,3,none⟩))
 |6=>some (.int .i64 fr)
 |7=>some (.pointer (some ⟨g,4,none⟩))
 |8=>some vo
 |9=>some (.tuple #[.agg tv,.int .i64 er])
 |10=>some (.tuple #[.agg tv,.int .i64 er])
 |11=>some (.agg tv)
 |12=>some (.int .i64 er)
 |13=>none
 |14=>none
 |15=>some (.int .i64 er)
 |_=>none
theorem all_one{cs:Array Value}(h:∀v∈cs.toList,v.oneCell'=true):cs.all (·.oneCell')=true:=by
 rw[Array.all_eq_true_iff_forall_mem]
 exact fun v hv=>h v (by simpa using hv)
theorem bel_row{B g:Nat}{a b:World}{cs:Array Value}(h:Below B a b)(hg:B≤g):Below B a (b.setRow g cs):=
 ⟨h.os,h.tape,h.output,by rw[size_setRow];exact h.size,fun z hz=>(setRow_other b g z cs (by omega)).trans (h.block z hz)⟩
theorem bel_undrew{a b:World}(h:Below a.drew.heap.size a.drew b):Below a.heap.size a b:=⟨h.os,h.tape,h.output,h.size,h.block⟩
theorem ra_agg_of{D:Nat→Prop}{w:World}{l:List Seg}{cs:Array Value}(h:RL D w l cs.toList):RA D w (.agg l) (.agg cs):=by
 have:=RA.agg h
 simpa using this
theorem exec_store_row{P:Program}{o:Oper}{a:Act}{w:World}(ty:TypeId)(x y:Operand)(ho:o.op=.store ty x y)(g:Nat)(cells:Array Value)(hx:a.eval x=.pointer (some ⟨g,0,none⟩))(hy:a.eval y=.agg cells)
  (t:TypeId)(old:Array Value)(hg:w.heap[g]?=some (.cells old t (0,0)))(hi:(P.info? ty).map (·.size)=some cells.size)(hold:old.size=cells.size)(h1:cells.all (·.oneCell')=true):(execOp a.eval o).run P w=.ok .skip (w.setRow g cells):=by
 unfold execOp
 simp only[ho,hx,hy,Instr.storeAt,Instr.sureAddr,Sem.run_bind,Sem.run_pure,Result.andThen_ok,run_storeVar_row w g t ty old cells hg hi hold h1]
theorem hc_of{D:Nat→Prop}{w:World}{P P':List UInt8}{v:Value}(h:P=P')(k:RA D w (.agg [.bytes 32 P']) v):v=.agg (HC P):=by
 obtain⟨rfl,_⟩:=ra_agg32 k
 rw[h];rfl
theorem cv_epoch{D:Nat→Prop}{w:World}{e k:Int}{zs:List Int}{ad:List Bool}{ch:List UInt8}{cv:Array Value}(h:RL D w (vSegs e zs ad k ch) cv.toList):cv[0]?=some (.int .i64 e):=by
 obtain⟨c,d,h1,h2,_⟩:=h.head
 obtain⟨_,rfl⟩:=h2.toInts
 rw[←Array.getElem?_toList,h1];rfl
theorem bel_sub{a b c d e:World}(h1:Below d.heap.size d e)(h2:Below c.heap.size c d)(h3:Below b.heap.size b c)(h4:Below a.heap.size a b):Below a.heap.size a e:=
 ((h4.lift h3 h4.size).lift h2 (Nat.le_trans h4.size h3.size)).lift h1 (Nat.le_trans (Nat.le_trans h4.size h3.size) h2.size)
theorem WQ.keep{D:Nat→Prop}{w w':World}{r:Nat}{mu n:Int}{c:Nat→Cm}{vs:List Value}{B:Nat→List Nat}{t:TypeId}(h:WQ D w r mu n c vs B t)(b:Below w.heap.size w w'):WQ D w' r mu n c vs B t:=
 ⟨h.len,h.blk.below b h.blk.lt,fun j hj=>(c j).up ⟨b.size,fun z hz hd=>⟨hd,fun o=>World.cell?_of_block (b.block z hz)⟩⟩ (fun q hq=>b.block q ((c j).lt (h.at' j hj) q hq)) (h.at' j hj),h.ne,h.sep,h.dat⟩
theorem ra_hcp{D:Nat→Prop}{w:World}{P:List UInt8}(h:P.length=32):RA D w (.agg [.bytes 32 P]) (.agg (HC P)):=.agg (.ofBytes h rfl)
theorem bk_at{f:FuncId}{v v':Value}{av:List Value}{w:World}{R:Ending→World→Prop}(e:v=v')(h:Calls Tryz.prog f (v::av).toArray w R):Calls Tryz.prog f (v'::av).toArray w R:=e▸h
theorem WQ.lt{D:Nat→Prop}{w:World}{r:Nat}{mu n:Int}{c:Nat→Cm}{vs:List Value}{B:Nat→List Nat}{t:TypeId}(h:WQ D w r mu n c vs B t){j q:Nat}(hj:j<18)(hq:q∈B j):q<w.heap.size:=(c j).lt (h.at' j hj) q hq
theorem writeB_f'(x:BS)(e:Int)(p:List UInt8):(writeB x e p).f=x.f:=by
 unfold writeB;split;rfl;split;rfl;split<;>rfl
theorem WQ.keeps7{D:Nat→Prop}{w w6 w7 wz:World}{r j:Nat}{mu n:Int}{c:Nat→Cm}{vs:List Value}{B:Nat→List Nat}{t:TypeId}{Bn:List Nat}(h:WQ D w6 r mu n c vs B t)(k:Keeps D w D wz)(b:Below wz.heap.size wz w6)(g:GrownX (fun q=>q∈B j) w6 w7)(hn:∀q∈Bn,q∈B j∨w6.heap.size≤q)(hj:j<18:=by omega):
  Keeps D w (fun z=>(D z∨w6.heap.size≤z)∧z≠r∧z∉Bn) w7:=by
 refine⟨Nat.le_trans k.1 (Nat.le_trans b.size g.size),fun z hz hd=>?_⟩
 have hz6:z<w6.heap.size:=Nat.lt_of_lt_of_le hz (Nat.le_trans k.1 b.size)
 refine⟨⟨.inl hd,(h.dat z hd).1,fun hm=>?_⟩,fun o=>?_⟩
 ·rcases hn z hm with e|e
  ·exact(h.dat z hd).2 j hj e
  ·omega
 ·rw[World.cell?_of_block (g.block z hz6 ((h.dat z hd).2 j hj)),World.cell?_of_block (b.block z (Nat.lt_of_lt_of_le hz k.1)),(k.2 z hz hd).2]
theorem keeps_all{D:Nat→Prop}{w w':World}(hs:w.heap.size≤w'.heap.size)(h:∀z,z<w.heap.size→D z→∀o,w'.cell? ⟨z,o,none⟩=w.cell? ⟨z,o,none⟩):Keeps D w (fun _=>True) w':=⟨hs,fun z hz hd=>⟨trivial,h z hz hd⟩⟩
theorem l8x{D:Nat→Prop}{w w6 w7 w8:World}{r j:Nat}{mu n mu' n':Int}{c c':Nat→Cm}{vs vs':List Value}{B:Nat→List Nat}{t t':TypeId}{Bn:List Nat}(h:WQ D w6 r mu n c vs B t)(h0:WQ D w r mu' n' c' vs' B t')(hj:j<18)(g8:GrownX (fun q=>q∈upd B j Bn j) w7 w8)(hn:∀q∈Bn,q∈B j∨w6.heap.size≤q)(g7:GrownX (fun q=>q∈B j) w6 w7){z:Nat}(hz:z<w6.heap.size)(hd:D z):w8.heap[z]?=w6.heap[z]?:=by
 have h1:z∉B j:=(h.dat z hd).2 j hj
 rw[g8.block z (Nat.lt_of_lt_of_le hz g7.size) (fun hm=>?_),g7.block z hz h1]
 rcases hn z (by simpa[upd]using hm)with e|e
 ·exact h1 e
 ·omega
theorem built_apv{P:List UInt8}{l:List Int}(hp:P.length=32)(hl:l.length=3):Tryz.prog.built 108 [(0,.agg (HC P)),(1,.agg (l.map fun z=>Value.int .i64 z).toArray)]=some (apC ⟨P,l.getD 0 0,l.getD 1 0,l.getD 2 0⟩):=by
 obtain⟨i,hY,ha,he,hpl,hz,_⟩:=ap_ty
 obtain⟨f,z,h1,h2,_,h3,h4⟩:=(yOK7 _ i hY).info
 obtain⟨fs,k1,k2⟩:=(yOK7 _ i hY).plc ha he
 rw[hz]at h4
 obtain⟨a,b,c,rfl⟩:∃a b c,l=[a,b,c]:=by
  rcases l with _|⟨a,_|⟨b,_|⟨c,_|⟨d,l⟩⟩⟩⟩<;>first|(simp at hl;done)|exact⟨a,b,c,rfl⟩
 obtain⟨l',rfl,hf⟩:=fillA_spec (off:=fun q=>i.plc[q]?) (s:=⟨[.d (.agg [.bytes 32 P]),.d (.agg [.ints .i64 3 [a,b,c]])],[]⟩) (parts:=[(0,.tmp 0),(1,.tmp 1)]) (l:=[.bytes 32 (List.replicate 32 0),.ints .i64 3 [0,0,0]]) (K:=fun l=>l=[.bytes 32 P,.ints .i64 3 [a,b,c]]) (by rw[hpl];exact⟨by decide,rfl,by decide,rfl,rfl⟩)
 obtain⟨cs',h5,h6⟩:=hf (D:=fun _=>True) (w:=default) (ρ:=fun _=>none) (fun x=>match x with| .tmp 0=>.agg (HC P)|_=>.agg #[.int .i64 a,.int .i64 b,.int .i64 c]) z.cells (fun q hq=>by
  rcases List.mem_cons.1 hq with rfl|hq
  ·exact .agg (.ofBytes hp rfl)
  ·rcases List.mem_cons.1 hq with rfl|hq
   ·exact RA.agg (RL.ofInts (k:=.i64) (n:=3) (zs:=[a,b,c]) rfl rfl)
   ·cases hq) (zeroB_spec h4)
 have e6:=rl_ap (x:=⟨P,a,b,c⟩) h6
 have h1':Tryz.prog.info? 108=some f:=h1
 have k1':Tryz.prog.underlying 108=some (.struct fs):=k1
 have k2':fs.toList.mapM (fun f=>(Tryz.prog.info? f.type).map fun j=>(f.offset,j.size))=some i.plc:=k2
 unfold Program.built
 simp only[h1',k1',h3,k2']
 have e9:(fun x:Nat=>i.plc.toArray[x]?)=fun q:Nat=>i.plc[q]?:=by funext q;simp
 rw[e9]
 rw[e6]at h5
 exact h5
theorem wpList_built{P:Program}{ops:Array Oper}{rest:List Oper}{o:Oper}{a:Act}{w:World}{Q:Exit→Act→World→Prop}(hg:o.guard=none)(t:TypeId)(parts:Array (Nat×Operand))(ho:o.op=.build t parts)(cells:Array Value)
  (hf:P.built t (parts.map fun(i,x)=>(i,a.eval x)).toList=some cells)(h:wpList P ops Q rest (a.put o.dst (.agg cells)) w):wpList P ops Q (o::rest) a w:=
 wpList_build hg t parts ho (by rw[hf];rfl) (by rw[hf];exact h)
def apA(p:PS)(fr:Int)(ops:List Int)(m:Nat):Ap:=⟨paperV p.e p.zs p.ad p.k p.ch fr ops,(appZ p.e p.zs p.ad p.k p.ch p.lf (scal p.sg) fr ops m).getD 0 0,(appZ p.e p.zs p.ad p.k p.ch p.lf (scal p.sg) fr ops m).getD 1 0,(appZ p.e p.zs p.ad p.k p.ch p.lf (scal p.sg) fr ops m).getD 2 0⟩
def apRes(p:PS)(y:BS)(L:List Ap)(fr:Int)(ops:List Int)(m:Nat)(nn dr:Int):Int×BS×List Ap:=
 if appE p.e p.zs p.ad p.k p.lf (scal p.sg) fr ops m=0 then
  if writeE y p.e (paperV p.e p.zs p.ad p.k p.ch fr ops)=0 then
   if nn=1 then(0,crashB (writeB y p.e (paperV p.e p.zs p.ad p.k p.ch fr ops)) dr,L)
   else(0,flushB (writeB y p.e (paperV p.e p.zs p.ad p.k p.ch fr ops)),tellL L (apA p fr ops m))
  else(writeE y p.e (paperV p.e p.zs p.ad p.k p.ch fr ops),writeB y p.e (paperV p.e p.zs p.ad p.k p.ch fr ops),L)
 else(appE p.e p.zs p.ad p.k p.lf (scal p.sg) fr ops m,y,L)
structure WStep(D:Nat→Prop)(w:World)(r:Nat)(B:Nat→List Nat)(D':Nat→Prop)(w':World)(B':Nat→List Nat):Prop where
 k:Keeps D w D' w'
 g:GrownX (fun q=>q=r∨∃j,j<18∧q∈B j) w w'
 b:∀j,j<18→∀q∈B' j,(∃k,k<18∧q∈B k)∨w.heap.size≤q
 lo:∀z,D' z→D z∨w.heap.size≤z
theorem keeps_trans{A B C:Nat→Prop}{a b c:World}(h:Keeps A a B b)(k:Keeps B b C c):Keeps A a C c:=
 ⟨Nat.le_trans h.1 k.1,fun z hz ha=>⟨(k.2 z (Nat.lt_of_lt_of_le hz h.1) (h.2 z hz ha).1).1,fun o=>((k.2 z (Nat.lt_of_lt_of_le hz h.1) (h.2 z hz ha).1).2 o).trans ((h.2 z hz ha).2 o)⟩⟩
theorem WStep.trans{D D1 D2:Nat→Prop}{w w1 w2:World}{r:Nat}{B B1 B2:Nat→List Nat}(h:WStep D w r B D1 w1 B1)(k:WStep D1 w1 r B1 D2 w2 B2):WStep D w r B D2 w2 B2:=by
 refine⟨keeps_trans h.k k.k,⟨k.g.os.trans h.g.os,k.g.tape.trans h.g.tape,k.g.output.trans h.g.output,Nat.le_trans h.g.size k.g.size,fun z hz hn=>?_⟩,fun j hj q hq=>?_,fun z hz=>?_⟩
 ·rw[k.g.block z (Nat.lt_of_lt_of_le hz h.g.size) (fun e=>?_),h.g.block z hz hn]
  rcases e with e|⟨j,hj,e⟩
  ·exact hn (.inl e)
  ·rcases h.b j hj z e with e|e
   ·exact hn (.inr e)
   ·omega
 ·rcases k.b j hj q hq with⟨j2,hj2,e⟩|e
  ·exact h.b j2 hj2 q e
  ·exact .inr (Nat.le_trans h.g.size e)
 ·rcases k.lo z hz with e|e
  ·exact h.lo z e
  ·exact .inr (Nat.le_trans h.g.size e)
theorem WStep.below{D:Nat→Prop}{w w':World}{r:Nat}{B:Nat→List Nat}(b:Below w.heap.size w w'):WStep D w r B D w' B:=
 ⟨⟨b.size,fun z hz hd=>⟨hd,fun o=>World.cell?_of_block (b.block z hz)⟩⟩,⟨b.os,b.tape,b.output,b.size,fun z hz _=>b.block z hz⟩,fun j hj q hq=>.inl ⟨j,hj,hq⟩,fun z hz=>.inl hz⟩
theorem WQ.one{D:Nat→Prop}{w w':World}{r j:Nat}{mu n:Int}{c:Nat→Cm}{vs:List Value}{B:Nat→List Nat}{t:TypeId}{Bn:List Nat}(h:WQ D w r mu n c vs B t)(hj:j<18)(g:GrownX (fun q=>q=r∨q∈B j) w w')(hn:∀q∈Bn,q∈B j∨w.heap.size≤q):WStep D w r B (fun z=>(D z∨w.heap.size≤z)∧z≠r∧z∉Bn) w' (upd B j Bn):=by
 refine⟨h.keeps hj g hn,⟨g.os,g.tape,g.output,g.size,fun z hz hne=>g.block z hz fun e=>hne (e.imp id fun e=>⟨j,hj,e⟩)⟩,fun k hk q hq=>?_,fun z hz=>hz.1⟩
 unfold upd at hq
 split at hq
 ·exact(hn q hq).imp (fun e=>⟨j,hj,e⟩) id
 ·exact .inl ⟨k,hk,hq⟩
theorem upd_self{c:Nat→Cm}{j:Nat}{x:Cm}(h:c j=x):upd c j x=c:=by
 funext k;unfold upd;split
 ·next e=>rw[e,h]
 ·rfl
theorem upd_two{c:Nat→Cm}{j:Nat}{x y:Cm}:upd (upd c j x) j y=upd c j y:=by
 funext k;unfold upd;split<;>rfl
theorem g7x{B:List Nat}{r:Nat}{a b:World}(g:GrownX (fun q=>q∈B) a b):GrownX (fun q=>q=r∨q∈B) a b:=⟨g.os,g.tape,g.output,g.size,fun z hz hn=>g.block z hz fun e=>hn (.inr e)⟩
theorem keep_on{D:Nat→Prop}{w w3 wj:World}(h:Keeps D w D w3)(b:Below w3.heap.size w3 wj):Keeps D w D wj:=⟨Nat.le_trans h.1 b.size,fun z hz hd=>⟨hd,fun o=>(World.cell?_of_block (b.block z (Nat.lt_of_lt_of_le hz h.1))).trans ((h.2 z hz hd).2 o)⟩⟩
theorem ra_row_slice{D:Nat→Prop}{w:World}{k:Nat}{l:List Seg}{v:Value}(h:RA D w (.row k l) v):∃a n c,v=.slice a n c:=by
 cases h with
 |row _ _ _ _ _=>exact⟨_,_,_,rfl⟩
set_option maxRecDepth 100000 in
set_option maxHeartbeats 4000000 in
theorem approve_walk {D : Nat → Prop} {w : World} {r : Nat} {n : Int} {c : Nat → Cm} {vs : List Value} {B : Nat → List Nat} {t : TypeId} (h : WQ D w r 1 n c vs B t) (hG : GOK gTab D w) {i : Nat} (hi : i < 8) {p : PS} {y : BS} {L : List Ap} (hcp : c i = cDat (.sref (pSegs p) 0)) (hcb : c (8 + i) = cBk y) (hca : c 17 = cAp L) (hL : L.length ≤ 1000) {nn fr dr : Int} {m : Nat} {ops : List Int} {vo vy : Value} (hvo : RA D w (.row m [.ints .i64 (m * 5) ops]) vo) (hm : m ≤ 1000000) (hol : ops.length = m * 5) (hdr : -9223372036854775808 ≤ dr ∧ dr ≤ 9223372036854775807) (hyf : y.f ≤ 1000) :
    Calls Tryz.prog 23 #[.pointer (some ⟨r, 0, none⟩), .agg (actC i nn fr vo dr vy)] w fun e w' => e = .returned (.int .i64 (apRes p y L fr ops m nn dr).1) ∧ ∃ D' vs' B', WQ D' w' r 1 n (upd (upd c (8 + i) (cBk (apRes p y L fr ops m nn dr).2.1)) 17 (cAp (apRes p y L fr ops m nn dr).2.2)) vs' B' t ∧ WStep D w r B D' w' B' := by
  have i8 : (i : Int) < 8 := by omega
  have i0 : ¬ (i : Int) < 0 := by omega
  have hpa := h.dat_at (j := i) (by omega) hcp
  obtain ⟨pa, hpv⟩ := ra_sref_ptr (by simp) hpa
  obtain ⟨ba, hbv⟩ : ∃ ba, vs.getD (8 + i) undef = .pointer (some ba) := by
    have := h.at' (8 + i) (by omega)
    rw [hcb] at this
    obtain ⟨q, G, _, hv, _⟩ := this
    exact ⟨_, hv⟩
  have c1 : (w.alloc (.cells (actC i nn fr vo dr vy) 37)).cell? ⟨w.heap.size, 1, none⟩ = some (.int .i64 (i : Nat)) := by rw [(Blk.new w _ 37).cell]; rfl
  have c2 : (w.alloc (.cells (actC i nn fr vo dr vy) 37)).cell? ⟨r, 3 + i, none⟩ = some (.pointer (some pa)) := by rw [← hpv, (h.blk.alloc _).cell, ← h.blk.cell]; exact h.cell_at (by omega)
  have c3 : (w.alloc (.cells (actC i nn fr vo dr vy) 37)).cell? ⟨r, 11 + i, none⟩ = some (.pointer (some ba)) := by rw [← hbv, (h.blk.alloc _).cell, ← h.blk.cell, show 11 + i = 3 + (8 + i) by omega]; exact h.cell_at (by omega)
  have hbl : Below w.heap.size w (w.alloc (.cells (actC i nn fr vo dr vy) 37)) := (Below.refl _ _).alloc (Nat.le_refl _) _
  have C1 := Lib.hid c1; have C2 := Lib.hid c2; have C3 := Lib.hid c3; have BL := Lib.hid hbl; have HQ := Lib.hid h; have HG := Lib.hid hG; have HVO := Lib.hid hvo; have HPA := Lib.hid hpa; have HPV := Lib.hid hpv; have HBV := Lib.hid hbv
  clear c1 c2 c3 hbl h hG hvo hpa hpv hbv
  go_enter Tryz.func23, Tryz.ntmps23
  go_wp2_with fail
  refine region_inv (JR (cstA r w.heap.size i (.pointer (some pa)) (.pointer (some ba))) (w.alloc (.cells (actC i nn fr vo dr vy) 37)).drew) [[], [], [1], [0], [3], [4, 2], [5], [], [], [8], [7], [10], [11, 9], [12], [6], [13]] (by kernel_rfl) (by kernel_rfl) (by kernel_rfl) ⟨fun k x hk => Bool.noConfusion hk, rfl⟩ ?_ ?_
  · refine ⟨?_, ?_, ?_, ?_, ?_, ?_, ?_, ?_, ?_, ?_, ?_, ?_, ?_, ?_, ?_, ?_, trivial⟩
    · intro S vals wj hJ hSi hD hcl
      obtain rfl := hJ.same
      have q := hJ.pure (show cstA r w.heap.size i (.pointer (some pa)) (.pointer (some ba)) 0 = some (.pointer (some ⟨r, 0, none⟩)) from rfl)
      refine opv (v := .pointer (some ⟨r, 0, none⟩)) rfl ?_ q
      simp [execOp, putAll, Act.put, Act.eval, Instr.fieldAt, go_sem]
    · intro S vals wj hJ hSi hD hcl
      obtain rfl := hJ.same
      have q := hJ.pure (show cstA r w.heap.size i (.pointer (some pa)) (.pointer (some ba)) 1 = some (.pointer (some ⟨w.heap.size, 1, none⟩)) from rfl)
      refine opv (v := .pointer (some ⟨w.heap.size, 1, none⟩)) rfl ?_ q
      simp [execOp, putAll, Act.put, Act.eval, Instr.fieldAt, go_sem]
    · intro S vals wj hJ hSi hD hcl
      obtain rfl := hJ.same
      have d1 := hJ.val 1 _ (hD 1 (by simp)) rfl
      have q := hJ.pure (show cstA r w.heap.size i (.pointer (some pa)) (.pointer (some ba)) 2 = some (.int .i64 (i : Nat)) from rfl)
      have c : (w.alloc (.cells (actC i nn fr vo dr vy) 37)).drew.cell? ⟨w.heap.size, 1, none⟩ = some (.int .i64 (i : Nat)) := C1.out
      refine opv (v := .int .i64 (i : Nat)) rfl ?_ q
      simp [execOp, putAll, Act.put, Act.eval, Instr.fieldAt, go_sem, d1, c]
    · intro S vals wj hJ hSi hD hcl
      obtain rfl := hJ.same
      have d0 := hJ.val 0 _ (hD 0 (by simp)) rfl
      have q := hJ.pure (show cstA r w.heap.size i (.pointer (some pa)) (.pointer (some ba)) 3 = some (.pointer (some ⟨r, 0, none⟩)) from rfl)
      refine opv (v := .pointer (some ⟨r, 0, none⟩)) rfl ?_ q
      simp [execOp, putAll, Act.put, Act.eval, Instr.fieldAt, go_sem, d0]
    · intro S vals wj hJ hSi hD hcl
      obtain rfl := hJ.same
      have d3 := hJ.val 3 _ (hD 3 (by simp)) rfl
      have q := hJ.pure (show cstA r w.heap.size i (.pointer (some pa)) (.pointer (some ba)) 4 = some (.pointer (some ⟨r, 3, none⟩)) from rfl)
      refine opv (v := .pointer (some ⟨r, 3, none⟩)) rfl ?_ q
      simp [execOp, putAll, Act.put, Act.eval, Instr.fieldAt, go_sem, d3]
    · intro S vals wj hJ hSi hD hcl
      obtain rfl := hJ.same
      have d4 := hJ.val 4 _ (hD 4 (by simp)) rfl
      have d2 := hJ.val 2 _ (hD 2 (by simp)) rfl
      have q := hJ.pure (show cstA r w.heap.size i (.pointer (some pa)) (.pointer (some ba)) 5 = some (.pointer (some ⟨r, 3 + i, none⟩)) from rfl)
      refine opv (v := .pointer (some ⟨r, 3 + i, none⟩)) rfl ?_ q
      simp [execOp, putAll, Act.put, Act.eval, Instr.fieldAt, go_sem, d4, d2, i8]
    · intro S vals wj hJ hSi hD hcl
      obtain rfl := hJ.same
      have d5 := hJ.val 5 _ (hD 5 (by simp)) rfl
      have q := hJ.pure (show cstA r w.heap.size i (.pointer (some pa)) (.pointer (some ba)) 6 = some (.pointer (some pa)) from rfl)
      have c : (w.alloc (.cells (actC i nn fr vo dr vy) 37)).drew.cell? ⟨r, 3 + i, none⟩ = some (.pointer (some pa)) := C2.out
      refine opv (v := .pointer (some pa)) rfl ?_ q
      simp [execOp, putAll, Act.put, Act.eval, Instr.fieldAt, go_sem, d5, c]
    · intro S vals wj hJ hSi hD hcl
      obtain rfl := hJ.same
      have q := hJ.pure (show cstA r w.heap.size i (.pointer (some pa)) (.pointer (some ba)) 7 = some (.pointer (some ⟨r, 0, none⟩)) from rfl)
      refine opv (v := .pointer (some ⟨r, 0, none⟩)) rfl ?_ q
      simp [execOp, putAll, Act.put, Act.eval, Instr.fieldAt, go_sem]
    · intro S vals wj hJ hSi hD hcl
      obtain rfl := hJ.same
      have q := hJ.pure (show cstA r w.heap.size i (.pointer (some pa)) (.pointer (some ba)) 8 = some (.pointer (some ⟨w.heap.size, 1, none⟩)) from rfl)
      refine opv (v := .pointer (some ⟨w.heap.size, 1, none⟩)) rfl ?_ q
      simp [execOp, putAll, Act.put, Act.eval, Instr.fieldAt, go_sem]
    · intro S vals wj hJ hSi hD hcl
      obtain rfl := hJ.same
      have d8 := hJ.val 8 _ (hD 8 (by simp)) rfl
      have q := hJ.pure (show cstA r w.heap.size i (.pointer (some pa)) (.pointer (some ba)) 9 = some (.int .i64 (i : Nat)) from rfl)
      have c : (w.alloc (.cells (actC i nn fr vo dr vy) 37)).drew.cell? ⟨w.heap.size, 1, none⟩ = some (.int .i64 (i : Nat)) := C1.out
      refine opv (v := .int .i64 (i : Nat)) rfl ?_ q
      simp [execOp, putAll, Act.put, Act.eval, Instr.fieldAt, go_sem, d8, c]
    · intro S vals wj hJ hSi hD hcl
      obtain rfl := hJ.same
      have d7 := hJ.val 7 _ (hD 7 (by simp)) rfl
      have q := hJ.pure (show cstA r w.heap.size i (.pointer (some pa)) (.pointer (some ba)) 10 = some (.pointer (some ⟨r, 0, none⟩)) from rfl)
      refine opv (v := .pointer (some ⟨r, 0, none⟩)) rfl ?_ q
      simp [execOp, putAll, Act.put, Act.eval, Instr.fieldAt, go_sem, d7]
    · intro S vals wj hJ hSi hD hcl
      obtain rfl := hJ.same
      have d10 := hJ.val 10 _ (hD 10 (by simp)) rfl
      have q := hJ.pure (show cstA r w.heap.size i (.pointer (some pa)) (.pointer (some ba)) 11 = some (.pointer (some ⟨r, 11, none⟩)) from rfl)
      refine opv (v := .pointer (some ⟨r, 11, none⟩)) rfl ?_ q
      simp [execOp, putAll, Act.put, Act.eval, Instr.fieldAt, go_sem, d10]
    · intro S vals wj hJ hSi hD hcl
      obtain rfl := hJ.same
      have d11 := hJ.val 11 _ (hD 11 (by simp)) rfl
      have d9 := hJ.val 9 _ (hD 9 (by simp)) rfl
      have q := hJ.pure (show cstA r w.heap.size i (.pointer (some pa)) (.pointer (some ba)) 12 = some (.pointer (some ⟨r, 11 + i, none⟩)) from rfl)
      refine opv (v := .pointer (some ⟨r, 11 + i, none⟩)) rfl ?_ q
      simp [execOp, putAll, Act.put, Act.eval, Instr.fieldAt, go_sem, d11, d9, i8]
    · intro S vals wj hJ hSi hD hcl
      obtain rfl := hJ.same
      have d12 := hJ.val 12 _ (hD 12 (by simp)) rfl
      have q := hJ.pure (show cstA r w.heap.size i (.pointer (some pa)) (.pointer (some ba)) 13 = some (.pointer (some ba)) from rfl)
      have c : (w.alloc (.cells (actC i nn fr vo dr vy) 37)).drew.cell? ⟨r, 11 + i, none⟩ = some (.pointer (some ba)) := C3.out
      refine opv (v := .pointer (some ba)) rfl ?_ q
      simp [execOp, putAll, Act.put, Act.eval, Instr.fieldAt, go_sem, d12, c]
    · intro S vals wj hJ hSi hD hcl
      obtain rfl := hJ.same
      have d6 := hJ.val 6 _ (hD 6 (by simp)) rfl
      have q := hJ.pure (show cstA r w.heap.size i (.pointer (some pa)) (.pointer (some ba)) 14 = some (.pointer (some pa)) from rfl)
      refine opv (v := .pointer (some pa)) rfl ?_ q
      simp [execOp, putAll, Act.put, Act.eval, Instr.fieldAt, go_sem, d6]
    · intro S vals wj hJ hSi hD hcl
      obtain rfl := hJ.same
      have d13 := hJ.val 13 _ (hD 13 (by simp)) rfl
      have q := hJ.pure (show cstA r w.heap.size i (.pointer (some pa)) (.pointer (some ba)) 15 = some (.pointer (some ba)) from rfl)
      refine opv (v := .pointer (some ba)) rfl ?_ q
      simp [execOp, putAll, Act.put, Act.eval, Instr.fieldAt, go_sem, d13]
  · intro vals wz hJ
    obtain rfl := hJ.same
    have e0 := hJ.val 0 _ rfl rfl
    have e1 := hJ.val 1 _ rfl rfl
    have e2 := hJ.val 2 _ rfl rfl
    have e3 := hJ.val 3 _ rfl rfl
    have e4 := hJ.val 4 _ rfl rfl
    have e5 := hJ.val 5 _ rfl rfl
    have e6 := hJ.val 6 _ rfl rfl
    have e7 := hJ.val 7 _ rfl rfl
    have e8 := hJ.val 8 _ rfl rfl
    have e9 := hJ.val 9 _ rfl rfl
    have e10 := hJ.val 10 _ rfl rfl
    have e11 := hJ.val 11 _ rfl rfl
    have e12 := hJ.val 12 _ rfl rfl
    have e13 := hJ.val 13 _ rfl rfl
    have e14 := hJ.val 14 _ rfl rfl
    have e15 := hJ.val 15 _ rfl rfl
    simp [putAll, List.range, List.range.loop, Act.put, e0, e1, e2, e3, e4, e5, e6, e7, e8, e9, e10, e11, e12, e13, e14, e15]
    clear hJ e0 e1 e2 e3 e4 e5 e6 e7 e8 e9 e10 e11 e12 e13 e14 e15
    obtain ⟨wa, hwa⟩ : ∃ wa, wa = (w.alloc (.cells (actC i nn fr vo dr vy) 37)).drew := ⟨_, rfl⟩
    have hba : Below w.heap.size w wa := by rw [hwa]; exact ⟨BL.out.os, BL.out.tape, BL.out.output, BL.out.size, BL.out.block⟩
    have hAa : Blk wa w.heap.size (actC i nn fr vo dr vy) 37 := by rw [hwa]; exact (Blk.newAt _ _ rfl).drew
    have hka : Keeps D w D wa := ⟨hba.size, fun z hz hd => ⟨hd, fun o => World.cell?_of_block (hba.block z hz)⟩⟩
    rw [← hwa]
    have BA := Lib.hid hba; have AA := Lib.hid hAa; have KA := Lib.hid hka
    clear hwa hba hAa hka C1 C2 C3 BL
    go_wp2_with (first
      | (go_at_call 30; refine (view_fn p D wa [.pointer (some pa)] (HG.out.up KA.out) (.cons (by (have := HPA.out.up KA.out); rw [HPV.out] at this; exact this) .nil)).mono ?_; rintro e w2 ⟨v2, rfl, k1, k2⟩; obtain ⟨cv, rfl, k3⟩ := ra_aggs k1; have hsz : cv.size = 73 := (by have := k3.len; simpa [segN, Seg.n] using this); have VC := Lib.hid k3; have B2 := Lib.hid k2; have SZ := Lib.hid hsz; clear k1 k2 k3 hsz)
      | (refine wpList_store_row rfl 80 _ _ rfl w2.heap.size cv rfl rfl 80 _ (Blk.newAt _ _ rfl) (by rw [SZ.out]; kernel_rfl) (by rw [SZ.out]; kernel_rfl) (all_one VC.out.one) ?_
         refine wplB_gen (fun w3 hw3 => ?_)
         have hv3 : Blk w3 w2.heap.size cv 80 := (by rw [hw3]; exact (Blk.newAt _ _ rfl).setRow _)
         have hb3 : Below wa.heap.size wa w3 := (by rw [hw3]; exact bel_row ((B2.out).alloc B2.out.size _) B2.out.size)
         have V3 := Lib.hid hv3; have B3 := Lib.hid hb3
         clear hw3 hv3 hb3))
    obtain ⟨tvl, htv⟩ : ∃ l, l = appZ p.e p.zs p.ad p.k p.ch p.lf (scal p.sg) fr ops m := ⟨_, rfl⟩
    obtain ⟨er, her⟩ : ∃ e, e = appE p.e p.zs p.ad p.k p.lf (scal p.sg) fr ops m := ⟨_, rfl⟩
    obtain ⟨tv, htc⟩ : ∃ a, a = (tvl.map fun z => Value.int .i64 z).toArray := ⟨_, rfl⟩
    have hts : tv.size = 3 := by rw [htc, htv]; simp [appZ_len]
    obtain ⟨ap, hap⟩ : ∃ ap : Ap, ap = apA p fr ops m := ⟨_, rfl⟩
    have hap2 : ap = ⟨paperV p.e p.zs p.ad p.k p.ch fr ops, tvl.getD 0 0, tvl.getD 1 0, tvl.getD 2 0⟩ := by rw [hap, htv]; rfl
    have HAP := Lib.hid hap; have HAP2 := Lib.hid hap2; clear hap hap2
    have htl : tvl.length = 3 := by rw [htv]; exact appZ_len _ _ _ _ _ _ _ _ _ _
    have HTL := Lib.hid htl; clear htl
    have TS := Lib.hid hts; have TC := Lib.hid htc; have TV := Lib.hid htv; have ER := Lib.hid her
    clear hts htc htv her
    have kw3 : Keeps D w D w3 := ⟨Nat.le_trans BA.out.size B3.out.size, fun z hz hd => ⟨hd, fun o => World.cell?_of_block ((B3.out.block z (Nat.lt_of_lt_of_le hz BA.out.size)).trans (BA.out.block z hz))⟩⟩
    have A3 : Blk w3 w.heap.size (actC i nn fr vo dr vy) 37 := (B3.out.block _ AA.out.lt).trans AA.out
    have K3 := Lib.hid kw3; have A3h := Lib.hid A3
    clear kw3 A3
    refine region_inv (JA (cstP w.heap.size pa cv tv p.lf fr er vo) w3.drew (scal p.sg) tv) [[], [], [1], [], [2, 3], [], [5], [], [7], [0, 2, 4, 6, 8], [9], [10], [10], [], [13, 11, 9], [12]] (by kernel_rfl) (by kernel_rfl) (by kernel_rfl) ⟨Below.refl _ _, fun k x hk => Bool.noConfusion hk, fun hk => Bool.noConfusion hk, fun hk => Bool.noConfusion hk, fun hk => Bool.noConfusion hk⟩ ?_ ?_
    · refine ⟨?_, ?_, ?_, ?_, ?_, ?_, ?_, ?_, ?_, ?_, ?_, ?_, ?_, ?_, ?_, ?_, trivial⟩
      · intro S vals wj hJ hSi hD hcl
        have hb : Blk wj w2.heap.size cv 80 := (hJ.bel.block _ V3.out.lt).trans V3.out
        have := run_loadVar_row (P := Tryz.prog) wj w2.heap.size 80 80 cv (0, 0) _ hb Tryz.underlying80 rfl (by rw [SZ.out]; kernel_rfl)
        exact opv rfl (exec_load rfl (by simp [putAll, Act.put, Act.eval]) this) (hJ.pure (j := 0) rfl (by decide) (by decide) (by decide))
      · intro S vals wj hJ hSi hD hcl
        refine opv rfl ?_ (hJ.pure (j := 1) rfl (by decide) (by decide) (by decide))
        simp [execOp, putAll, Act.put, Act.eval, Instr.fieldAt, go_sem]
      · intro S vals wj hJ hSi hD hcl
        have d1 := hJ.val 1 _ (hD 1 (by simp)) rfl
        refine opc (f := 42) (args := #[.pointer (some pa)]) rfl (by simp [execOp, putAll, Act.put, Act.eval, resolve, invoke, go_sem, d1]) ?_
        refine (pleaf_fn p D wj [.pointer (some pa)] (HG.out.up (keep_on K3.out (bel_undrew hJ.bel))) (.cons (by (have := HPA.out.up (keep_on K3.out (bel_undrew hJ.bel))); rw [HPV.out] at this; exact this) .nil)).mono ?_
        rintro e w' ⟨v, rfl, k1, k2⟩
        obtain rfl := ra_plainV k1
        exact ⟨_, rfl, hJ.step k2 rfl (by decide) (by decide) (by decide)⟩
      · intro S vals wj hJ hSi hD hcl
        refine opv rfl ?_ (hJ.pure (j := 3) rfl (by decide) (by decide) (by decide))
        simp [execOp, putAll, Act.put, Act.eval, Instr.fieldAt, go_sem]
      · intro S vals wj hJ hSi hD hcl
        have d3 := hJ.val 3 _ (hD 3 (by simp)) rfl
        refine opc (f := 43) (args := #[.pointer (some pa)]) rfl (by simp [execOp, putAll, Act.put, Act.eval, resolve, invoke, go_sem, d3]) ?_
        refine (signer_fn p D wj [.pointer (some pa)] (HG.out.up (keep_on K3.out (bel_undrew hJ.bel))) (.cons (by (have := HPA.out.up (keep_on K3.out (bel_undrew hJ.bel))); rw [HPV.out] at this; exact this) .nil)).mono ?_
        rintro e w' ⟨v, rfl, ⟨q, rfl, k1, ⟨cs, ty, k3, k4⟩⟩, k2⟩
        exact ⟨_, rfl, hJ.sign rfl k2 k1 (Array.getElem?_eq_some_iff.1 k3).1 ⟨cs, ty, k3, k4⟩⟩
      · intro S vals wj hJ hSi hD hcl
        refine opv rfl ?_ (hJ.pure (j := 5) rfl (by decide) (by decide) (by decide))
        simp [execOp, putAll, Act.put, Act.eval, Instr.fieldAt, go_sem]
      · intro S vals wj hJ hSi hD hcl
        have d5 := hJ.val 5 _ (hD 5 (by simp)) rfl
        have cc : wj.cell? ⟨w.heap.size, 3, none⟩ = some (.int .i64 fr) := (World.cell?_of_block (hJ.bel.block _ A3h.out.lt)).trans ((A3h.out.cell 3).trans rfl)
        refine opv rfl ?_ (hJ.pure (j := 6) rfl (by decide) (by decide) (by decide))
        simp [execOp, putAll, Act.put, Act.eval, Instr.fieldAt, go_sem, d5, cc]
      · intro S vals wj hJ hSi hD hcl
        refine opv rfl ?_ (hJ.pure (j := 7) rfl (by decide) (by decide) (by decide))
        simp [execOp, putAll, Act.put, Act.eval, Instr.fieldAt, go_sem]
      · intro S vals wj hJ hSi hD hcl
        have d7 := hJ.val 7 _ (hD 7 (by simp)) rfl
        have cc : wj.cell? ⟨w.heap.size, 4, none⟩ = some vo := (World.cell?_of_block (hJ.bel.block _ A3h.out.lt)).trans ((A3h.out.cell 4).trans rfl)
        obtain ⟨va, vn, vc, hvo⟩ := ra_row_slice HVO.out
        refine opv rfl ?_ (hJ.pure (j := 8) rfl (by decide) (by decide) (by decide))
        rw [hvo] at cc ⊢
        simp [execOp, putAll, Act.put, Act.eval, Instr.fieldAt, go_sem, d7, cc]
      · intro S vals wj hJ hSi hD hcl
        have d0 := hJ.val 0 _ (hD 0 (by simp)) rfl
        have d2 := hJ.val 2 _ (hD 2 (by simp)) rfl
        have d6 := hJ.val 6 _ (hD 6 (by simp)) rfl
        have d8 := hJ.val 8 _ (hD 8 (by simp)) rfl
        obtain ⟨q, k1, k2, k3, k4⟩ := hJ.x4 (hD 4 (by simp))
        have hkj := keep_on K3.out (bel_undrew hJ.bel)
        have hqw : w.heap.size ≤ q := Nat.le_trans K3.out.1 k2
        have kq : Keeps D w (fun z => D z ∧ z ≠ q) wj := ⟨hkj.1, fun z hz hd => ⟨⟨hd, by omega⟩, (hkj.2 z hz hd).2⟩⟩
        have hav : RA (fun z => D z ∧ z ≠ q) wj (.agg (vSegs p.e p.zs p.ad p.k p.ch)) (.agg cv) := flat_RA rfl (ra_agg_of VC.out)
        refine opc (f := 41) (args := #[.agg cv, .int .i64 p.lf, .pointer (some ⟨q, 0, none⟩), .int .i64 fr, vo]) rfl (by simp [execOp, putAll, Act.put, Act.eval, resolve, invoke, go_sem, d0, d2, k1, d6, d8]) ?_
        refine (approve_fn p.e p.zs p.ad p.k p.ch p.lf (scal p.sg) (scal_bd _) fr ops m hm D wj q [.agg cv, .int .i64 p.lf, .int .i64 fr, vo] k3 (HG.out.up kq) k4 (.cons hav (.cons (.v _) (.cons (.v _) (.cons (HVO.out.up kq) .nil))))).mono ?_
        rintro e w' ⟨v, rfl, ⟨vs', rfl, h1⟩, h2, h3⟩
        rw [appS_eq] at h1
        obtain rfl : vs' = [.agg tv, .int .i64 er] := by
          cases h1 with
          | cons a1 a2 => cases a2 with
            | cons a3 a4 =>
              cases a4; cases a3
              obtain ⟨ct, rfl, h5⟩ := ra_aggs a1
              obtain ⟨_, h6⟩ := h5.toInts
              rw [TC.out, TV.out, ← h6, ER.out]
        exact ⟨_, rfl, hJ.appr (hD 4 (by simp)) k1 rfl h3 h2⟩
      · intro S vals wj hJ hSi hD hcl
        have d9 := hJ.val 9 _ (hD 9 (by simp)) rfl
        refine opv rfl ?_ (hJ.pure (j := 10) rfl (by decide) (by decide) (by decide))
        simp [execOp, putAll, Act.put, Act.eval, Instr.fieldAt, go_sem, d9]
      · intro S vals wj hJ hSi hD hcl
        have d10 := hJ.val 10 _ (hD 10 (by simp)) rfl
        refine opv rfl ?_ (hJ.pure (j := 11) rfl (by decide) (by decide) (by decide))
        simp [execOp, putAll, Act.put, Act.eval, Instr.fieldAt, go_sem, d10]
      · intro S vals wj hJ hSi hD hcl
        have d10 := hJ.val 10 _ (hD 10 (by simp)) rfl
        refine opv rfl ?_ (hJ.pure (j := 12) rfl (by decide) (by decide) (by decide))
        simp [execOp, putAll, Act.put, Act.eval, Instr.fieldAt, go_sem, d10]
      · intro S vals wj hJ hSi hD hcl
        have h14 : S 14 = false := by cases h : S 14 with | false => rfl | true => have := hcl 14 h 13 (by simp); rw [hSi] at this; cases this
        refine opv rfl ?_ (hJ.alloc rfl h14 (zc := #[.int .i64 0, .int .i64 0, .int .i64 0]) (by rw [TS.out]; rfl))
        simp [execOp, putAll, Act.put, Act.eval, Instr.fieldAt, go_sem]
      · intro S vals wj hJ hSi hD hcl
        have d11 := hJ.val 11 _ (hD 11 (by simp)) rfl
        obtain ⟨q, zc, k1, k2, k3, k4, k5⟩ := hJ.x13 (hD 13 (by simp))
        rw [hSi, if_neg Bool.false_ne_true] at k4
        refine ops_ rfl ?_ (hJ.store rfl (hD 13 (by simp)) k1 undef)
        exact exec_store_row 99 _ _ rfl q tv (by simp [putAll, Act.put, Act.eval, k1]) (by simp [putAll, Act.put, Act.eval, d11]) 99 zc k4 (by rw [TS.out]; kernel_rfl) k5 (by rw [TC.out]; exact all_one fun v hv => by simp at hv; obtain ⟨z, _, rfl⟩ := hv; rfl)
      · intro S vals wj hJ hSi hD hcl
        have d12 := hJ.val 12 _ (hD 12 (by simp)) rfl
        refine opv rfl ?_ (hJ.pure (j := 15) rfl (by decide) (by decide) (by decide))
        simp [execOp, putAll, Act.put, Act.eval, Instr.fieldAt, go_sem, d12]
    · intro vals wz hJ
      have e0 := hJ.val 0 _ rfl rfl
      have e1 := hJ.val 1 _ rfl rfl
      have e2 := hJ.val 2 _ rfl rfl
      have e3 := hJ.val 3 _ rfl rfl
      have e5 := hJ.val 5 _ rfl rfl
      have e6 := hJ.val 6 _ rfl rfl
      have e7 := hJ.val 7 _ rfl rfl
      have e8 := hJ.val 8 _ rfl rfl
      have e9 := hJ.val 9 _ rfl rfl
      have e10 := hJ.val 10 _ rfl rfl
      have e11 := hJ.val 11 _ rfl rfl
      have e12 := hJ.val 12 _ rfl rfl
      have e15 := hJ.val 15 _ rfl rfl
      obtain ⟨q4, e4, _, _, _⟩ := hJ.x4 rfl
      obtain ⟨q13, zc, e13, k2, k3, k4, _⟩ := hJ.x13 rfl
      have k4 : Blk wz q13 tv 99 := k4
      have hbz := bel_undrew hJ.bel
      have KZ := Lib.hid k4; have QZ := Lib.hid k2; have BZ := Lib.hid hbz
      simp [putAll, List.range, List.range.loop, Act.put, e0, e1, e2, e3, e4, e5, e6, e7, e8, e9, e10, e11, e12, e13, e15]
      clear hJ e0 e1 e2 e3 e4 e5 e6 e7 e8 e9 e10 e11 e12 e13 e15 k2 k3 k4 hbz
      obtain ⟨va, vn, vc, hvo⟩ := ra_row_slice HVO.out
      subst hvo
      have zv : Blk wz w2.heap.size cv 80 := (BZ.out.block _ V3.out.lt).trans V3.out
      have za : Blk wz w.heap.size (actC i nn fr (.slice va vn vc) dr vy) 37 := (BZ.out.block _ A3h.out.lt).trans A3h.out
      have kz := keep_on K3.out BZ.out
      have cz2 : wz.cell? ⟨w.heap.size, 2, none⟩ = some (.int .i64 nn) := (za.cell 2).trans rfl
      have cz3 : wz.cell? ⟨w.heap.size, 3, none⟩ = some (.int .i64 fr) := (za.cell 3).trans rfl
      have cz4 : wz.cell? ⟨w.heap.size, 4, none⟩ = some (.slice va vn vc) := (za.cell 4).trans rfl
      have hwz : w.heap.size < w2.heap.size ∧ w2.heap.size < w3.heap.size ∧ w3.heap.size ≤ wz.heap.size ∧ q13 < wz.heap.size := ⟨Nat.lt_of_lt_of_le AA.out.lt B2.out.size, V3.out.lt, BZ.out.size, KZ.out.lt⟩
      have hqz := QZ.out
      have ZV := Lib.hid zv; have ZA := Lib.hid za; have ZK := Lib.hid kz; have HN := Lib.hid hwz; have HQZ := Lib.hid hqz
      clear zv za kz hwz hqz QZ
      obtain ⟨P, hP⟩ : ∃ P, P = paperV p.e p.zs p.ad p.k p.ch fr ops := ⟨_, rfl⟩
      have hPl : P.length = 32 := by rw [hP]; exact paperV_length _ _ _ _ _ _ _
      have hps : (HC P).size = 32 := by rw [HC_size, hPl]
      have HP := Lib.hid hP; have HPL := Lib.hid hPl; have HPS := Lib.hid hps
      clear hP hPl hps
      obtain ⟨we, hwe⟩ : ∃ we, we = writeE y p.e P := ⟨_, rfl⟩
      have HWE := Lib.hid hwe
      clear hwe
      by_cases he : er = 0
      · subst he
        go_wp2_with (first
          | (refine list_wanted rfl ?_; refine wpList_load_row rfl 80 _ rfl w2.heap.size rfl 80 cv (0, 0) _ ZV.out Tryz.underlying80 rfl (by rw [SZ.out]; kernel_rfl) ?_)
          | (go_at_call 44; refine (paper_fn p.e p.zs p.ad p.k p.ch fr ops m hol hm D wz [.agg cv, .int .i64 fr, .slice va vn vc] (HG.out.up ZK.out) (.cons (flat_RA rfl (ra_agg_of VC.out)) (.cons (.v _) (.cons (HVO.out.up ZK.out) .nil)))).mono ?_; rintro e w4 ⟨v4, rfl, k1, k2⟩; obtain rfl : v4 = .agg (HC P) := hc_of HP.out k1; have B4 := Lib.hid k2; clear k1 k2)
          | (refine wpList_store_row rfl 28 _ _ rfl w4.heap.size (HC P) rfl rfl 28 _ (Blk.newAt _ _ rfl) (by rw [HPS.out]; kernel_rfl) (by rw [HPS.out]; kernel_rfl) (HC_one _) ?_
             refine wplB_gen (fun w6 hw6 => ?_)
             have hv6 : Blk w6 w4.heap.size (HC P) 28 := (by rw [hw6]; exact (Blk.newAt _ _ rfl).setRow _)
             have hb6 : Below wz.heap.size wz w6 := (by rw [hw6]; exact bel_row ((B4.out).alloc B4.out.size _) B4.out.size)
             have ce6 : w6.cell? ⟨w2.heap.size, 0, none⟩ = some (.int .i64 p.e) := (World.cell?_of_block (hb6.block _ ZV.out.lt)).trans ((ZV.out.cell 0).trans (cv_epoch VC.out))
             have hQ6 := HQ.out.keep (bel_sub hb6 (BZ.out) B3.out BA.out)
             have V6 := Lib.hid hv6; have B6 := Lib.hid hb6; have Q6 := Lib.hid hQ6; have N4 := Lib.hid B4.out.size
             clear hw6 hv6 hb6 hQ6)
          | (refine list_wanted rfl ?_; refine wpList_load_row rfl 28 _ rfl w4.heap.size rfl 28 (HC P) (0, 0) _ V6.out Tryz.underlying28 rfl (by rw [HPS.out]; kernel_rfl) ?_)
          | (go_at_call 45; refine (bk_at HBV.out (bk_WQ Q6.out (8 + i) (by omega) hcb (writeB_ok y p.e P) (HG.out.up (keep_on ZK.out B6.out)) (.cons (.v (.int .i64 p.e)) (.cons (ra_hcp HPL.out) .nil)))).mono ?_; rintro e w7 ⟨v7, Bn, N7, rfl, hq7, hg7, hr7, hn7⟩; obtain rfl : v7 = .int .i64 we := (by rw [HWE.out]; exact ra_plainV hr7); have l7 : ∀ q, w.heap.size ≤ q → q < w6.heap.size → w7.heap[q]? = w6.heap[q]? := (fun q h1 h2 => hg7.block q h2 (fun hm => absurd (HQ.out.lt (by omega) hm) (by omega))); have a7 : Blk w7 w.heap.size (actC i nn fr (.slice va vn vc) dr vy) 37 := (l7 _ (Nat.le_refl _) (Nat.lt_of_lt_of_le ZA.out.lt B6.out.size)).trans ((B6.out.block _ ZA.out.lt).trans ZA.out); have c71 : w7.cell? ⟨w.heap.size, 1, none⟩ = some (.int .i64 (i : Nat)) := ((a7.cell 1).trans rfl); have c72 : w7.cell? ⟨w.heap.size, 2, none⟩ = some (.int .i64 nn) := ((a7.cell 2).trans rfl); have c75 : w7.cell? ⟨w.heap.size, 5, none⟩ = some (.int .i64 dr) := ((a7.cell 5).trans rfl); have Q7 := Lib.hid hq7; have G7 := Lib.hid hg7; have N7h := Lib.hid hn7; have L7 := Lib.hid l7; clear hq7 hg7 hr7 hn7 a7 l7)
          | (go_at_call 27; refine (wcrash_WQ Q7.out i hi (writeB y p.e P) dr hdr (by simp [upd])).mono ?_; rintro e w8 ⟨rfl, v8, Bn8, hq8, hg8, hn8⟩; have Q8 := Lib.hid hq8; have G8 := Lib.hid hg8; have N8 := Lib.hid hn8; clear hq8 hg8 hn8)
          | (go_at_call 46; refine (bk_at HBV.out (bk_WQ Q7.out (8 + i) (by omega) (x := writeB y p.e P) (y := flushB (writeB y p.e P)) (by simp [upd]) (flushB_ok (writeB y p.e P) (by rw [writeB_f']; exact hyf)) (HG.out.up (Q6.out.keeps7 ZK.out B6.out G7.out N7h.out)) .nil)).mono ?_; rintro e w8 ⟨v8, Bn8, N8', rfl, hq8, hg8, hr8, hn8⟩; obtain ⟨rl, rfl, hrl⟩ := hr8; obtain rfl := args0W hrl; have l8 : ∀ q, w.heap.size ≤ q → q < w6.heap.size → w8.heap[q]? = w7.heap[q]? := (fun q h1 h2 => hg8.block q (Nat.lt_of_lt_of_le h2 G7.out.size) (fun hm => (N7h.out q (by simpa [upd] using hm)).elim (fun e => absurd (HQ.out.lt (by omega) e) (by omega)) (fun e => absurd h2 (by omega)))); have s46 : w.heap.size ≤ w4.heap.size := (by have h1 := HN.out; have h2 := N4.out; omega); have s13 : w.heap.size ≤ q13 := (by have h1 := HN.out; have h2 : w3.heap.size ≤ q13 := HQZ.out; omega); have z6 : q13 < w6.heap.size := (Nat.lt_of_lt_of_le HN.out.2.2.2 B6.out.size); have hv8 : Blk w8 w4.heap.size (HC P) 28 := (l8 _ s46 V6.out.lt).trans ((L7.out _ s46 V6.out.lt).trans V6.out); have ht8 : Blk w8 q13 tv 99 := (l8 _ s13 z6).trans ((L7.out _ s13 z6).trans ((B6.out.block _ HN.out.2.2.2).trans KZ.out)); have kb := built_apv HPL.out HTL.out; rw [← TC.out] at kb; rw [show (⟨P, tvl.getD 0 0, tvl.getD 1 0, tvl.getD 2 0⟩ : Ap) = ap from (by rw [HAP2.out, HP.out])] at kb; have gk : GOK gTab (fun _ => True) w8 := HG.out.up (keeps_all (Nat.le_trans (ZK.out.1) (Nat.le_trans B6.out.size (Nat.le_trans G7.out.size hg8.size))) (fun z hz hd o => (by rw [World.cell?_of_block (l8x Q6.out HQ.out (by omega) hg8 N7h.out G7.out (Nat.lt_of_lt_of_le hz (Nat.le_trans ZK.out.1 B6.out.size)) hd), World.cell?_of_block (B6.out.block z (Nat.lt_of_lt_of_le hz ZK.out.1)), (ZK.out.2 z hz hd).2]))); have V8 := Lib.hid hv8; have T8 := Lib.hid ht8; have KB8 := Lib.hid kb; have GK8 := Lib.hid gk; have Q8 := Lib.hid hq8; have G8 := Lib.hid hg8; have N8 := Lib.hid hn8; clear hq8 hg8 hn8 hrl l8 hv8 ht8 kb gk)
          | (refine list_wanted rfl ?_; refine wpList_load_row rfl 28 _ rfl w4.heap.size rfl 28 (HC P) (0, 0) _ V8.out Tryz.underlying28 rfl (by rw [HPS.out]; kernel_rfl) ?_)
          | (refine list_wanted rfl ?_; refine wpList_load_row rfl 99 _ rfl q13 rfl 99 tv (0, 0) _ T8.out Tryz.underlying99 rfl (by rw [TS.out]; kernel_rfl) ?_; refine list_wanted rfl ?_; refine wpList_built rfl 108 _ rfl (apC ap) (by simp [Act.put, Act.eval]; exact KB8.out) ?_)
          | (go_at_call 47; refine (tell_WQ Q8.out L ap (by unfold upd; rw [if_neg (by omega), if_neg (by omega)]; exact hca) GK8.out (by rw [HAP2.out]; exact paperV_length _ _ _ _ _ _ _) hL).mono ?_; rintro e w9 ⟨rfl, v9, Bn9, hq9, hg9, hn9⟩; have Q9 := Lib.hid hq9; have G9 := Lib.hid hg9; have N9 := Lib.hid hn9; clear hq9 hg9 hn9))
        · have hw0 : ¬ we = 0 := by simpa using ‹(we != 0) = true›
          go_ret
          have hr : apRes p y L fr ops m nn dr = (we, writeB y p.e P, L) := by unfold apRes; rw [← ER.out, if_pos rfl, ← HP.out, ← HWE.out, if_neg hw0]
          rw [hr]
          have hb := bel_sub B6.out BZ.out B3.out BA.out
          have e17 : upd c (8 + i) (cBk (writeB y p.e P)) 17 = cAp L := by unfold upd; rw [if_neg (by omega)]; exact hca
          refine ⟨rfl, _, vs, _, ?_, (WStep.below hb).trans (Q6.out.one (j := 8 + i) (by omega) (g7x G7.out) N7h.out)⟩
          show WQ _ w7 r 1 n (upd (upd c (8 + i) (cBk (writeB y p.e P))) 17 (cAp L)) vs _ t
          rw [upd_self e17]
          exact Q7.out
        · have hw0 : we = 0 := by simpa using ‹(we != 0) = false›
          have hnn : nn = 1 := by simpa using ‹(nn == 1) = true›
          go_ret
          have hr : apRes p y L fr ops m nn dr = (0, crashB (writeB y p.e P) dr, L) := by unfold apRes; rw [← ER.out, if_pos rfl, ← HP.out, ← HWE.out, if_pos hw0, if_pos hnn]
          rw [hr]
          have hb := bel_sub B6.out BZ.out B3.out BA.out
          have e17 : upd c (8 + i) (cBk (crashB (writeB y p.e P) dr)) 17 = cAp L := by unfold upd; rw [if_neg (by omega)]; exact hca
          refine ⟨rfl, _, vs.set (8 + i) v8, _, ?_, ((WStep.below hb).trans (Q6.out.one (j := 8 + i) (by omega) (g7x G7.out) N7h.out)).trans (Q7.out.one (j := 8 + i) (by omega) G8.out N8.out)⟩
          show WQ _ w8 r 1 n (upd (upd c (8 + i) (cBk (crashB (writeB y p.e P) dr))) 17 (cAp L)) _ _ t
          rw [upd_self e17]
          have := Q8.out
          rw [upd_two] at this
          exact this
        · have hw0 : we = 0 := by simpa using ‹(we != 0) = false›
          have hnn : ¬ nn = 1 := by simpa using ‹(nn == 1) = false›
          go_ret
          have hr : apRes p y L fr ops m nn dr = (0, flushB (writeB y p.e P), tellL L ap) := by unfold apRes; rw [← ER.out, if_pos rfl, ← HP.out, ← HWE.out, if_pos hw0, if_neg hnn, ← HAP.out]
          rw [hr]
          have hb := bel_sub B6.out BZ.out B3.out BA.out
          refine ⟨rfl, _, vs.set 17 v9, _, ?_, (((WStep.below hb).trans (Q6.out.one (j := 8 + i) (by omega) (g7x G7.out) N7h.out)).trans (Q7.out.one (j := 8 + i) (by omega) (g7x G8.out) N8.out)).trans (Q8.out.one (j := 17) (by omega) G9.out N9.out)⟩
          show WQ _ w9 r 1 n (upd (upd c (8 + i) (cBk (flushB (writeB y p.e P)))) 17 (cAp (tellL L ap))) _ _ t
          have := Q9.out
          rw [show upd (upd c (8 + i) (cBk (writeB y p.e P))) (8 + i) (cBk (flushB (writeB y p.e P))) = upd c (8 + i) (cBk (flushB (writeB y p.e P))) from upd_two] at this
          exact this
      · have he1 : (er != 0) = true := by simpa using he
        go_wp2_with fail
        go_ret
        have hr : apRes p y L fr ops m nn dr = (er, y, L) := by unfold apRes; rw [← ER.out, if_neg he]
        rw [hr]
        have hb := bel_sub (Below.refl _ _) BZ.out B3.out BA.out
        refine ⟨rfl, D, vs, B, ?_, WStep.below hb⟩
        rw [upd_self hcb, upd_self hca]
        exact HQ.out.keep hb
end
section
open Pm
theorem WQ.mu{D:Nat→Prop}{w w1:World}{r:Nat}{mu n mu' n':Int}{c:Nat→Cm}{vs:List Value}{B:Nat→List Nat}{t t':TypeId}(h:WQ D w r mu n c vs B t)(hb:Blk w1 r (WLs n' mu' vs).toArray t')(hg:w.grownBy w1 (some r)):WQ D w1 r mu' n' c vs B t':=
 ⟨h.len,hb,fun j hj=>(c j).up ⟨hg.size,fun z hz hd=>⟨hd,fun o=>World.cell?_of_block (hg.block z hz fun e=>(h.dat z hd).1 (by cases e;rfl))⟩⟩ (fun q hq=>hg.block q ((c j).lt (h.at' j hj) q hq) fun e=>h.ne j hj (by cases e;exact hq)) (h.at' j hj),h.ne,h.sep,h.dat⟩
theorem WStep.own{D:Nat→Prop}{w w':World}{r:Nat}{B:Nat→List Nat}(g:w.grownBy w' (some r))(hD:∀z,D z→z≠r):WStep D w r B D w' B:=
 ⟨⟨g.size,fun z hz hd=>⟨hd,fun o=>World.cell?_of_block (g.block z hz fun e=>hD z hd (by cases e;rfl))⟩⟩,⟨g.os,g.tape,g.output,g.size,fun z hz hn=>g.block z hz fun e=>hn (.inl (by cases e;rfl))⟩,fun j hj q hq=>.inl ⟨j,hj,hq⟩,fun z hz=>.inl hz⟩
theorem wls_wl{vs:List Value}(h:vs.length=18):∃ps bs po ap,ps.length=8∧bs.length=8∧vs=ps++(bs++[po,ap])∧∀n mu,WLs n mu vs=WL n mu ps bs po ap:=by
 obtain⟨l,a,b,rfl,h16⟩:=last2 16 vs h
 refine⟨l.take 8,l.drop 8,a,b,by simp[h16],by simp[h16],?_,fun n mu=>?_⟩
 ·rw[←List.append_assoc,List.take_append_drop]
 ·unfold WLs WL
  rw[←List.append_assoc (l.take 8),List.take_append_drop]
theorem wls_mu{n mu m:Int}{vs:List Value}:(WLs n mu vs).toArray.setIfInBounds 1 (.int .i32 m)=(WLs n m vs).toArray:=by
 rw[List.setIfInBounds_toArray];rfl
structure WRes(D:Nat→Prop)(w:World)(r:Nat)(mu n:Int)(c':Nat→Cm)(B:Nat→List Nat)(t:TypeId)(w':World):Prop where
 out:∃D' vs' B',WQ D' w' r mu n c' vs' B' t∧WStep D w r B D' w' B'
theorem stepv_WQ{D:Nat→Prop}{w:World}{r:Nat}{n:Int}{c:Nat→Cm}{vs:List Value}{B:Nat→List Nat}{t:TypeId}(h:WQ D w r 0 n c vs B t)(hn:0≤n∧n≤1000000)(hG:GOK gTab D w){i:Nat}(hi:i<8){p:PS}{y:BS}{L:List Ap}(hcp:c i=cDat (.sref (pSegs p) 0))(hcb:c (8+i)=cBk y)(hca:c 17=cAp L)(hL:L.length≤1000){nn fr dr:Int}{m:Nat}{ops:List Int}{vo vy:Value}(hvo:RA D w (.row m [.ints .i64 (m*5) ops]) vo)(hm:m≤1000000)(hol:ops.length=m*5)(hdr: -9223372036854775808≤dr∧dr≤9223372036854775807)(hyf:y.f≤1000):
  Calls Tryz.prog 8 #[.pointer (some ⟨r,0,none⟩),.agg (AC 1 (i:Nat) nn fr vo dr vy)] w fun e w'=>e=.returned (.int .i64 (apRes p y L fr ops m nn dr).1)∧WRes D w r 0 (n+1) (upd (upd c (8+i) (cBk (apRes p y L fr ops m nn dr).2.1)) 17 (cAp (apRes p y L fr ops m nn dr).2.2)) B t w':=by
 obtain⟨ps,bs,po,ap,h1,h2,h3,h4⟩:=wls_wl h.len
 have hb0:Blk w r (WL n 0 ps bs po ap).toArray t:=by rw[←h4];exact h.blk
 refine(step_vote w r t n hn ps bs po ap i hi nn fr dr vo vy hb0 (fun v cs w2=>v=.int .i64 (apRes p y L fr ops m nn dr).1∧∃D' vs' B',cs=(WLs (n+1) 1 vs').toArray∧WQ D' w2 r 1 (n+1) (upd (upd c (8+i) (cBk (apRes p y L fr ops m nn dr).2.1)) 17 (cAp (apRes p y L fr ops m nn dr).2.2)) vs' B' t∧WStep D w r B D' w2 B') fun w1 hb1 hg1=>?_).mono ?_
 ·have hq1:WQ D w1 r 1 (n+1) c vs B t:=h.mu (by rw[h4];exact hb1) hg1
  have s1:WStep D w r B D w1 B:=.own hg1 fun z hz=>(h.dat z hz).1
  refine(approve_walk hq1 (hG.up s1.k) hi hcp hcb hca hL (hvo.up s1.k) hm hol hdr hyf).mono ?_
  rintro e w2 ⟨rfl,D',vs',B',k1,k2⟩
  exact⟨_,_,_,rfl,⟨rfl,D',vs',B',rfl,k1,s1.trans k2⟩,k1.blk,by rw[List.getElem?_toArray];rfl⟩
 ·rintro e w' ⟨v,cs,w2,t',rfl,⟨rfl,D',vs',B',rfl,k1,k2⟩,rfl,hb2⟩
  have hb3:Blk (w2.setCell ⟨r,1,none⟩ (.int .i32 0)) r (WLs (n+1) 0 vs').toArray t:=(k1.blk.set 1 _).copy wls_mu
  have hg3:w2.grownBy (w2.setCell ⟨r,1,none⟩ (.int .i32 0)) (some r):=grown_setCell (grown_refl w2 _) 1 _
  exact⟨rfl,⟨D',vs',B',k1.mu hb3 hg3,k2.trans (.own hg3 fun z hz=>(k1.dat z hz).1)⟩⟩
end
section
open Pm
inductive TA where
 |one(a:A)
 |tup(l:List A)
 |any
def RTA(D:Nat→Prop)(w:World):TA→Value→Prop
 | .one a,v=>RA D w a v
 | .tup l,v=>∃vs,v=.tuple vs.toArray∧RAs D w l vs
 | .any,_=>True
theorem RTA.up{D D':Nat→Prop}{w w':World}(k:Keeps D w D' w'):∀{t:TA} {v:Value},RTA D w t v→RTA D' w' t v
 | .one _,_,h=>RA.up k h
 | .tup _,_,⟨vs,h1,h2⟩=>⟨vs,h1,h2.up k⟩
 | .any,_,_=>trivial
def RdD(D:Nat→Prop)(B:Nat)(x:Option Nat)(z:Nat):Prop:=(D z∨B≤z)∧x≠some z
structure JX(D:Nat→Prop)(T:Nat→TA)(ty:TypeId)(sz:Nat)(l:List Seg)(ja js:Nat)(w3:World)(x:Option Nat)(S:Nat→Bool)(vals:Nat→Value)(w:World):Prop where
 bel:Below w3.heap.size w3 w
 no:S ja=false→x=none
 val:∀k,k≠ja→S k=true→RTA (RdD D w3.heap.size x) w (T k) (vals k)
 blk:S ja=true→∃q zc,x=some q∧vals ja=.pointer (some ⟨q,0,none⟩)∧w3.heap.size≤q∧Blk w q zc ty∧zc.size=sz∧(S js=true→RL (RdD D w3.heap.size x) w l zc.toList)
def JM(D:Nat→Prop)(T:Nat→TA)(ty:TypeId)(sz:Nat)(l:List Seg)(ja js:Nat)(w3:World)(S:Nat→Bool)(vals:Nat→Value)(w:World):Prop:=∃x,JX D T ty sz l ja js w3 x S vals w
section
variable {D : Nat → Prop} {T : Nat → TA} {ty : TypeId} {sz : Nat} {l : List Seg} {ja js : Nat} {w3 w w' : World} {x : Option Nat} {S : Nat → Bool} {vals : Nat → Value}
theorem JM.start(hS:∀k,S k=false):JM D T ty sz l ja js w S vals w:=⟨none,Below.refl _ _,fun _=>rfl,fun k _ hk=>(by rw[hS k]at hk;cases hk),fun h=>(by rw[hS ja]at h;cases h)⟩
theorem JX.there(h:JX D T ty sz l ja js w3 x S vals w){q:Nat}(e:x=some q):w3.heap.size≤q∧q<w.heap.size:=by
 cases hja:S ja with
 |false=>rw[h.no hja]at e;cases e
 |true=>
  obtain⟨q',zc,e1,_,e3,e4,_⟩:=h.blk hja
  rw[e1]at e;cases e
  exact⟨e3,e4.lt⟩
theorem JX.keeps(h:JX D T ty sz l ja js w3 x S vals w):Keeps D w3 (RdD D w3.heap.size x) w:=⟨h.bel.size,fun z hz hd=>⟨⟨.inl hd,fun e=>by have:=(h.there e).1;omega⟩,fun o=>World.cell?_of_block (h.bel.block z hz)⟩⟩
theorem JX.res(h:JX D T ty sz l ja js w3 x S vals w):Keeps (fun z=>RdD D w3.heap.size x z∨w.heap.size≤z) w' (RdD D w3.heap.size x) w':=⟨Nat.le_refl _,fun z hz hd=>⟨hd.elim id fun e=>⟨.inr (Nat.le_trans h.bel.size e),fun e1=>by have:=(h.there e1).2;omega⟩,fun _=>rfl⟩⟩
theorem JX.step(h:JX D T ty sz l ja js w3 x S vals w){j:Nat}{v:Value}(hb:Below w.heap.size w w')(na:ja≠j)(ns:js≠j)(hv:RTA (RdD D w3.heap.size x) w' (T j) v):JM D T ty sz l ja js w3 (add1 S j) (fun k=>if k=j then v else vals k) w':=by
 have hs:=h.bel.size
 have kp:Keeps (RdD D w3.heap.size x) w (RdD D w3.heap.size x) w':=⟨hb.size,fun z hz hd=>⟨hd,fun o=>World.cell?_of_block (hb.block z hz)⟩⟩
 refine⟨x,h.bel.lift hb hs,fun hj=>h.no (by rwa [add1_other S na]at hj),fun k hk hks=>?_,fun hj=>?_⟩
 ·by_cases e1:k=j
  ·subst e1;rw[if_pos rfl];exact hv
  ·rw[add1_other S e1]at hks;rw[updV vals j v e1];exact(h.val k hk hks).up kp
 ·rw[add1_other S na]at hj
  rw[updV vals j v na,add1_other S ns]
  obtain⟨q,zc,e1,e2,e3,e4,e5,e6⟩:=h.blk hj
  exact⟨q,zc,e1,e2,e3,e4.below hb e4.lt,e5,fun hjs=>(e6 hjs).up kp⟩
theorem JX.pure(h:JX D T ty sz l ja js w3 x S vals w){j:Nat}{v:Value}(na:ja≠j)(ns:js≠j)(hv:RTA (RdD D w3.heap.size x) w (T j) v):JM D T ty sz l ja js w3 (add1 S j) (fun k=>if k=j then v else vals k) w:=h.step (Below.refl _ _) na ns hv
theorem JX.alloc(h:JX D T ty sz l ja js w3 x S vals w)(hja:S ja=false)(hjs:S js=false)(hne:js≠ja){zc:Array Value}(hz:zc.size=sz):JM D T ty sz l ja js w3 (add1 S ja) (fun k=>if k=ja then .pointer (some ⟨w.heap.size,0,none⟩)else vals k) (w.alloc (.cells zc ty)):=by
 have hs:=h.bel.size
 obtain rfl:=h.no hja
 have kp:Keeps (RdD D w3.heap.size none) w (RdD D w3.heap.size (some w.heap.size)) (w.alloc (.cells zc ty)):=⟨by rw[size_alloc];omega,fun z hz hd=>⟨⟨hd.1,fun e=>by cases e;omega⟩,fun o=>World.cell?_of_block (Below.heap_alloc w _ z hz)⟩⟩
 refine⟨some w.heap.size,h.bel.alloc hs _,fun hj=>(by rw[add1_same]at hj;cases hj),fun k hk hks=>?_,fun _=>⟨w.heap.size,zc,rfl,if_pos rfl,hs,Blk.newAt _ _ rfl,hz,fun h2=>?_⟩⟩
 ·rw[add1_other S hk]at hks;rw[updV vals ja _ hk];exact(h.val k hk hks).up kp
 ·rw[add1_other S hne,hjs]at h2;cases h2
theorem JX.store(h:JX D T ty sz l ja js w3 x S vals w)(hja:S ja=true)(hne:js≠ja)(hT:T js=.any){q:Nat}(hq:vals ja=.pointer (some ⟨q,0,none⟩)){cs:Array Value}(hcs:cs.size=sz)(hv:RL (RdD D w3.heap.size x) w l cs.toList)(y:Value):JM D T ty sz l ja js w3 (add1 S js) (fun k=>if k=js then y else vals k) (w.setRow q cs):=by
 obtain⟨q',zc,e1,e2,e3,e4,e5,e6⟩:=h.blk hja
 rw[hq]at e2;cases e2
 have kp:Keeps (RdD D w3.heap.size x) w (RdD D w3.heap.size x) (w.setRow q cs):=⟨by rw[size_setRow];exact Nat.le_refl _,fun z hz hd=>⟨hd,fun o=>World.cell?_of_block (setRow_other w q z cs fun e=>hd.2 (by rw[e1,e]))⟩⟩
 refine⟨x,⟨h.bel.os,h.bel.tape,h.bel.output,by rw[size_setRow];exact h.bel.size,fun z hz=>(setRow_other w q z cs (by omega)).trans (h.bel.block z hz)⟩,fun hj=>?_,fun k hk hks=>?_,fun _=>?_⟩
 ·rw[add1_other S hne.symm,hja]at hj;cases hj
 ·by_cases e:k=js
  ·subst e;rw[hT];trivial
  ·rw[add1_other S e]at hks;rw[updV vals js y e];exact(h.val k hk hks).up kp
 ·rw[updV vals js y hne.symm]
  exact⟨q,cs,e1,hq,e3,e4.setRow _,hcs,fun _=>hv.up kp⟩
end
end
section
open Pm
section
variable {G : Nat → Option (List Seg)} {S : Nat → Prop} {base : Nat} {w0 : W0 G} {s : St} {ρ : Nat → Option Value} {a : Act} {w w' : World}
theorem Good.adopt(g:Good S base w0 s ρ a w){fr:Nat}(hfr:s.bk fr=none)(hlt:fr<s.h.length){q:Nat}{cs:Array Value}{ty:TypeId}{l:List Seg}(hb:Below w.heap.size w w')(hq:w.heap.size≤q)(hblk:Blk w' q cs ty)(hl:RL (RdD (Dt S base ρ) w.heap.size (some q)) w' l cs.toList):
  Good S base w0 ⟨s.t,s.h.set fr (some (.var l))⟩ (upd ρ fr (some (.pointer (some ⟨q,0,none⟩)))) a w'∧Keeps (RdD (Dt S base ρ) w.heap.size (some q)) w' (Dt S base (upd ρ fr (some (.pointer (some ⟨q,0,none⟩))))) w':=by
 have hρ:ρ fr=none:=by have:=g.b fr;rw[hfr]at this;exact this
 have kp:Keeps (RdD (Dt S base ρ) w.heap.size (some q)) w' (Dt S base (upd ρ fr (some (.pointer (some ⟨q,0,none⟩))))) w':=⟨Nat.le_refl _,fun z hz hd=>⟨⟨hd.1.elim (fun h=>h.1) fun h=>.inr (Nat.le_trans g.size h),fun b u hu hr=>by
  unfold upd at hu
  split at hu
  ·cases hu
   simp[Rl]at hr
   exact hd.2 (by rw[hr])
  ·rcases hd.1 with h|h
   ·exact h.2 b u hu hr
   ·have:=(g.low b u z hu hr).2;omega⟩,fun _=>rfl⟩⟩
 refine⟨g.change fr hlt _ _ none ⟨hb.os,hb.tape,hb.output,hb.size,fun k hk _=>hb.block k hk⟩ (by simp) ?_ ?_ ?_ (fun q hq=>by rw[hρ]at hq;cases hq),kp⟩
 ·intro r hr
  simp[Rl]at hr;subst hr
  exact⟨.inl hq,hblk.lt⟩
 ·intro K
  exact⟨q,cs.toList,ty,by simp[upd],trivial,hblk,hl.up kp⟩
 ·intro _ i hi hm
  exact absurd hfr (g.dang i fr hm)
def TA.t:TA→T
 | .one a=>.d a
 | .tup l=>.tup l
 | .any=>.dead
theorem RTA.rt{D:Nat→Prop}{w:World}{v:Value}:∀{t:TA},RTA D w t v→RT D ρ w t.t v
 | .one _,h=>h
 | .tup _,h=>h
 | .any,_=>trivial
theorem TA.refs(t:TA):t.t.refs=[]:=by cases t<;>rfl
theorem Good.putT(g:Good S base w0 s ρ a w)(d:Nat){t:TA}{v:Value}(h:RTA (Dt S base ρ) w t v):Good S base w0 ⟨s.t.set d t.t,s.h⟩ ρ (a.put (some d) v) w:=g.put d h.rt (fun b hb=>by rw[TA.refs]at hb;cases hb)
end
theorem ev_put{a:Act}{d t:Nat}{v:Value}:(a.put (some d) v).eval (.tmp t)=if d=t∧t<a.tmps.size then v else a.eval (.tmp t):=by
 simp only[Act.put,Act.eval,Array.getD_eq_getD_getElem?,Array.getElem?_setIfInBounds]
 by_cases h:d=t
 ·subst h
  by_cases h2:d<a.tmps.size
  ·simp[h2]
  ·simp[h2]
 ·simp[h]
theorem ev_put0{a:Act}{t:Nat}{v:Value}:(a.put none v).eval (.tmp t)=a.eval (.tmp t):=rfl
theorem size_put{a:Act}{d:Option Nat}{v:Value}:(a.put d v).tmps.size=a.tmps.size:=by cases d<;>simp[Act.put]
end
section
open Pm
def setK(TT:Nat→TA)(ja fr:Nat):Nat→List Oper→List T→List T
 |_,[],t=>t
 |k,o::r,t=>setK TT ja fr (k+1) r (match o.dst with|some d=>t.set d (if k=ja then .ptr fr 0 else(TT k).t)|none=>t)
theorem good_all{G:Nat→Option (List Seg)}{S:Nat→Prop}{base:Nat}{w0:W0 G}{ops:Array Oper}{TT:Nat→TA}{ja fr:Nat}{vals:Nat→Value}:∀(l:List Oper) (k:Nat) {s:St} {ρ:Nat→Option Value} {a:Act} {w:World} (hops:∀(i:Nat) (o:Oper),l[i]?=some o→ops[k+i]?=some o) (g:Good S base w0 s ρ a w)
  (hv:∀i,i<l.length→k+i≠ja→RTA (Dt S base ρ) w (TT (k+i)) (vals (k+i))) (hp:RT (Dt S base ρ) ρ w (.ptr fr 0) (vals ja)) (hb:s.bk fr≠none),Good S base w0 ⟨setK TT ja fr k l s.t,s.h⟩ ρ (putAll ops vals (List.range' k l.length) a) w
 |[],k,s,ρ,a,w,hops,g,hv,hp,hb=>g
 |o::r,k,s,ρ,a,w,hops,g,hv,hp,hb=>by
  have ho:ops[k]?=some o:=hops 0 o rfl
  rw[List.length_cons,List.range'_succ]
  unfold putAll setK
  rw[ho]
  have hops':∀(i:Nat) (o':Oper),r[i]?=some o'→ops[k+1+i]?=some o':=fun i o' h=>by rw[Nat.add_assoc,Nat.add_comm 1 i];exact hops (i+1) o' (by simpa using h)
  have hv':∀i,i<r.length→k+1+i≠ja→RTA (Dt S base ρ) w (TT (k+1+i)) (vals (k+1+i)):=fun i hi hn=>by
   have:=hv (i+1) (by simpa using hi) (by omega)
   rwa [show k+(i+1)=k+1+i by omega]at this
  cases hd:o.dst with
  |none=>
   have e:(some o).bind (·.dst)=none:=hd
   rw[e]
   exact good_all r (k+1) hops' g hv' hp hb
  |some d=>
   have e:(some o).bind (·.dst)=some d:=hd
   rw[e]
   by_cases hk:k=ja
   ·subst hk
    simp only[if_true]
    exact good_all r (k+1) hops' (g.put d hp (fun b hm=>by simp[T.refs]at hm;rw[hm];exact hb)) hv' hp hb
   ·simp only[if_neg hk]
    exact good_all r (k+1) hops' (g.putT d (hv 0 (by simp) hk)) hv' hp hb
theorem GX.more{E:EnvX}{S:Nat→Prop}{base:Nat}{w0:W0 E.G}{s:St}{c:Code}{Q:Exit→Act→World→Prop}(n:Nat)(h:GX E S base w0 c ⟨s.t,s.h++List.replicate n none⟩ Q):GX E S base w0 c s Q:=⟨fun ρ a w g=>h.out ρ a w (g.sim (Sim.more s n))⟩
theorem GX.drawn{E:EnvX}{S:Nat→Prop}{base:Nat}{w0:W0 E.G}{s:St}{id:Nat}{ops:Array Oper}{y:Code}{Q:Exit→Act→World→Prop}(TT:Nat→TA)(ty:TypeId)(sz:Nat)(l:List Seg)(ja js fr:Nat)(D:List (List Nat))(hs:Region.noSelect ops=true)(hok:okTab ops.toList D=true)(hfr:s.bk fr=none)(hlt:fr<s.h.length)(hja:ja<ops.toList.length)(hjs:js<ops.toList.length)
  (hobs:∀(ρ:Nat→Option Value) (a:Act) (w:World),Good S base w0 s ρ a w→∃T2:Nat→TA,(∀k,TT k=.any∨TT k=T2 k)∧obsInv E.P ops (JM (Dt S base ρ) T2 ty sz l ja js w.drew) D a 0 ops.toList)
  (h:GX E S base w0 y ⟨setK TT ja fr 0 ops.toList s.t,s.h.set fr (some (.var l))⟩ Q):GX E S base w0 (.seq (.region id ops true) y) s Q:=by
 obtain⟨lo,rfl⟩:∃lo:List Oper,ops=lo.toArray:=⟨ops.toList,by simp⟩
 simp only[List.toList_toArray]at*
 refine⟨fun ρ a w g=>wp_seq ?_⟩
 obtain⟨T2,hT,hobs⟩:=hobs ρ a w g
 refine region_inv (JM (Dt S base ρ) T2 ty sz l ja js w.drew) D E.hM hs hok (JM.start fun _=>rfl) hobs ?_
 rintro vals w' ⟨x,hJ⟩
 obtain⟨q,zc,rfl,e2,e3,e4,e5,e6⟩:=hJ.blk (decide_eq_true hja)
 obtain⟨g1,kp⟩:=g.adopt hfr hlt (bel_undrew hJ.bel) e3 e4 (e6 (decide_eq_true hjs))
 have hbk:St.bk ⟨s.t,s.h.set fr (some (.var l))⟩ fr≠none:=by
  unfold St.bk
  rw[getD_set_list,if_pos ⟨rfl,hlt⟩];simp
 have g2:=good_all (ops:=lo.toArray) (TT:=TT) (ja:=ja) (fr:=fr) (vals:=vals) lo 0 (fun i o ho=>by rw[Nat.zero_add,List.getElem?_toArray];exact ho) g1 (fun i hi hn=>by
  rcases hT (0+i)with e|e
  ·rw[e];trivial
  ·rw[e];exact(hJ.val (0+i) hn (decide_eq_true (by omega))).up kp) (fun u hu=>by
  unfold upd at hu
  rw[if_pos rfl]at hu
  cases hu
  exact⟨q,by simp[Root],e2⟩) hbk
 rw[List.range_eq_range']
 exact h.out _ _ _ g2
end
section
open Pm
attribute [local irreducible] condK LoopA regA powI scal mulI isI fourB deriveW numB numsB bodyB nodeW nextW viewHV doR chkV planL sealB boxD keyZ helD commonI placeI apE doP comE comP nextP joinP upW lefW tagE welSegs welF welN createP enterP mayB commitB commitN okW wN wB letL wlN wlB mayW allW paperV vN vZ
def comT(p:PS)(o:Nat)(ops:List Int)(m:Nat)(vz:List Int)(d:List UInt8)(l0:List Seg)(a1 a2:A)(er:Int):Nat→TA
 |0=>.one (.sref (pSegs p) 0)
 |2=>.one (.row o [.ints .i64 (o*5) ops])
 |4=>.one (.sref (pSegs p) 0)
 |6=>.one (.row o [.ints .i64 (o*5) ops])
 |7=>.one (.row m [.ints .i64 (m*3) vz])
 |8=>.one (.agg [.bytes 32 d])
 |9=>.tup [.agg l0,a1,a2,.v (.int .i64 er)]
 |10=>.tup [.agg l0,a1,a2,.v (.int .i64 er)]
 |11=>.one (.agg l0)
 |12=>.one a1
 |13=>.one a2
 |14=>.one (.v (.int .i64 er))
 |17=>.one a1
 |18=>.one a2
 |19=>.one (.v (.int .i64 er))
 |_=>.any
def comT2(r A0:Nat)(t:Nat→TA):Nat→TA
 |1=>.one (.v (.pointer (some ⟨A0,4,none⟩)))
 |3=>.one (.v (.pointer (some ⟨r,0,none⟩)))
 |5=>.one (.v (.pointer (some ⟨A0,4,none⟩)))
 |k=>t k
theorem comT2_or{p:PS}{o:Nat}{ops:List Int}{m:Nat}{vz:List Int}{d:List UInt8}{l0:List Seg}{a1 a2:A}{er:Int}{r A0:Nat}(k:Nat):comT p o ops m vz d l0 a1 a2 er k=.any∨comT p o ops m vz d l0 a1 a2 er k=comT2 r A0 (comT p o ops m vz d l0 a1 a2 er) k:=by
 by_cases h1:k=1
 ·subst h1;exact .inl rfl
 by_cases h3:k=3
 ·subst h3;exact .inl rfl
 by_cases h5:k=5
 ·subst h5;exact .inl rfl
 right
 unfold comT2
 split<;>first|rfl|omega
theorem drawW_len(dr:Int):(drawW dr).length=32:=by unfold drawW deriveW;exact sumW_length _
noncomputable def commitOps:Array Oper:=match(Tryz.f24).body with|some (.seq _ (.seq _ (.seq _ (.seq _ (.seq (.region _ ops _) _)))))=>ops|_=>#[]
theorem RAv{D:Nat→Prop}{w:World}{x v:Value}(h:RTA D w (.one (.v x)) v):v=x:=by cases h;rfl
set_option maxHeartbeats 4000000 in
theorem commit_obs{D:Nat→Prop}{w1:World}{a:Act}{r A0 A6:Nat}{p:PS}{o:Nat}{ops:List Int}{m:Nat}{vz:List Int}{d:List UInt8}{l0:List Seg}{a1 a2:A}{er:Int}{va:Option Addr}{vn vc:Nat}(hsz:a.tmps.size=80)(hG:GOK gTab D w1)(hlf:leafB p.lf=true)(ho1:o≤3000)(hm8:m≤3000)
  (e0:a.eval (.tmp 0)=.pointer (some ⟨r,0,none⟩))(e3:a.eval (.tmp 3)=.pointer (some ⟨A0,0,none⟩))(hp:RA D w1 (.sref (pSegs p) 0) (a.eval (.tmp 5)))(e6:a.eval (.tmp 6)=.pointer (some ⟨A6,0,none⟩))
  (hA0:A0<w1.heap.size)(c4:w1.cell? ⟨A0,4,none⟩=some (.slice va vn vc))(hvo:RA D w1 (.row o [.ints .i64 (o*5) ops]) (.slice va vn vc)){t6:TypeId}(h6:Blk w1 A6 (HC d) t6)(hd:d.length=32)
  (hvot:∀(wj:World) (v4 v6:Value) (D':Nat→Prop),Below w1.heap.size w1 wj→RA D' wj (.sref (pSegs p) 0) v4→RA D' wj (.row o [.ints .i64 (o*5) ops]) v6→Calls Tryz.prog 49 #[.pointer (some ⟨r,0,none⟩),v4,v6] wj fun e w'=>∃v,e=.returned v∧RA (fun z=>wj.heap.size≤z) w' (.row m [.ints .i64 (m*3) vz]) v∧Below wj.heap.size wj w')
  (hR:comR p o ops m vz d=[.agg l0,a1,a2,.v (.int .i64 er)])(hl0:segN l0=43):
  obsInv Tryz.prog commitOps (JM D (comT2 r A0 (comT p o ops m vz d l0 a1 a2 er)) 112 43 l0 15 16 w1.drew) [[],[],[1],[],[],[],[5],[3,4,6],[],[0,2,7,8],[9],[10],[10],[10],[10],[],[15,11],[12],[13],[14]] a 0 commitOps.toList:=by
 simp only[commitOps,Tryz.f24]
 have kd:Keeps D w1 D w1.drew:=⟨Nat.le_refl _,fun z _ h=>⟨h,fun o=>rfl⟩⟩
 have hp:=RA.up kd hp
 have hvo:=RA.up kd hvo
 have hG:=hG.up kd
 have f0:=e0
 have f3:=e3
 have f6:=e6
 simp[Act.eval,hsz]at f0 f3 f6
 refine⟨?_,?_,?_,?_,?_,?_,?_,?_,?_,?_,?_,?_,?_,?_,?_,?_,?_,?_,?_,?_,trivial⟩
 ·intro S vals wj hJ hSi hD hcl
  obtain⟨x,hJ⟩:=hJ
  refine opv (v:=a.eval (.tmp 5)) rfl ?_ (hJ.pure (j:=0) (by decide) (by decide) (RA.up hJ.keeps hp))
  simp[execOp,putAll,ev_put,ev_put0,size_put,Instr.fieldAt,go_sem,hsz]
 ·intro S vals wj hJ hSi hD hcl
  obtain⟨x,hJ⟩:=hJ
  refine opv (v:=.pointer (some ⟨A0,4,none⟩)) rfl ?_ (hJ.pure (j:=1) (by decide) (by decide) (RA.v _))
  simp[execOp,putAll,ev_put,ev_put0,size_put,Instr.fieldAt,go_sem,hsz,f3]
 ·intro S vals wj hJ hSi hD hcl
  obtain⟨x,hJ⟩:=hJ
  have d1:=RAv (hJ.val 1 (by decide) (hD 1 (by simp)))
  have cc:wj.cell? ⟨A0,4,none⟩=some (.slice va vn vc):=(World.cell?_of_block (hJ.bel.block _ hA0)).trans c4
  refine opv (v:=.slice va vn vc) rfl ?_ (hJ.pure (j:=2) (by decide) (by decide) (RA.up hJ.keeps hvo))
  simp[execOp,putAll,ev_put,ev_put0,size_put,Instr.fieldAt,go_sem,hsz,d1,cc]
 ·intro S vals wj hJ hSi hD hcl
  obtain⟨x,hJ⟩:=hJ
  refine opv (v:=.pointer (some ⟨r,0,none⟩)) rfl ?_ (hJ.pure (j:=3) (by decide) (by decide) (RA.v _))
  simp[execOp,putAll,ev_put,ev_put0,size_put,Instr.fieldAt,go_sem,hsz,f0]
 ·intro S vals wj hJ hSi hD hcl
  obtain⟨x,hJ⟩:=hJ
  refine opv (v:=a.eval (.tmp 5)) rfl ?_ (hJ.pure (j:=4) (by decide) (by decide) (RA.up hJ.keeps hp))
  simp[execOp,putAll,ev_put,ev_put0,size_put,Instr.fieldAt,go_sem,hsz]
 ·intro S vals wj hJ hSi hD hcl
  obtain⟨x,hJ⟩:=hJ
  refine opv (v:=.pointer (some ⟨A0,4,none⟩)) rfl ?_ (hJ.pure (j:=5) (by decide) (by decide) (RA.v _))
  simp[execOp,putAll,ev_put,ev_put0,size_put,Instr.fieldAt,go_sem,hsz,f3]
 ·intro S vals wj hJ hSi hD hcl
  obtain⟨x,hJ⟩:=hJ
  have d5:=RAv (hJ.val 5 (by decide) (hD 5 (by simp)))
  have cc:wj.cell? ⟨A0,4,none⟩=some (.slice va vn vc):=(World.cell?_of_block (hJ.bel.block _ hA0)).trans c4
  refine opv (v:=.slice va vn vc) rfl ?_ (hJ.pure (j:=6) (by decide) (by decide) (RA.up hJ.keeps hvo))
  simp[execOp,putAll,ev_put,ev_put0,size_put,Instr.fieldAt,go_sem,hsz,d5,cc]
 ·intro S vals wj hJ hSi hD hcl
  obtain⟨x,hJ⟩:=hJ
  have d3:=RAv (hJ.val 3 (by decide) (hD 3 (by simp)))
  refine opc (f:=49) (args:=#[.pointer (some ⟨r,0,none⟩),vals 4,vals 6]) rfl (by simp[execOp,putAll,ev_put,ev_put0,size_put,resolve,invoke,go_sem,hsz,d3]) ?_
  refine(hvot wj (vals 4) (vals 6) (RdD D w1.heap.size x) (bel_undrew hJ.bel) (hJ.val 4 (by decide) (hD 4 (by simp))) (hJ.val 6 (by decide) (hD 6 (by simp)))).mono ?_
  rintro e w' ⟨v,rfl,k1,k2⟩
  exact⟨_,rfl,hJ.step k2 (by decide) (by decide) (RA.up hJ.res (RA.up ⟨Nat.le_refl _,fun z _ hz=>⟨.inr hz,fun _=>rfl⟩⟩ k1))⟩
 ·intro S vals wj hJ hSi hD hcl
  obtain⟨x,hJ⟩:=hJ
  have hb:Blk wj A6 (HC d) t6:=(hJ.bel.block _ h6.lt).trans h6
  have hrun:(loadVar 28 ⟨A6,0,none⟩).run Tryz.prog wj=.ok (.agg (HC d)) wj:=run_loadVar_agg (yOK7 28 _ rfl) rfl (cs:=HL d) (by rw[HL_length];exact hd) fun j hj=>by
   rw[hb.cell,Nat.zero_add,HC,List.getElem?_toArray]
   exact List.getElem?_eq_getElem hj
  exact opv rfl (exec_load rfl (by simp[putAll];exact e6) hrun) (hJ.pure (j:=8) (by decide) (by decide) (ra_hcp hd))
 ·intro S vals wj hJ hSi hD hcl
  obtain⟨x,hJ⟩:=hJ
  refine opc (f:=48) (args:=#[vals 0,vals 2,vals 7,vals 8]) rfl (by simp[execOp,putAll,ev_put,ev_put0,size_put,resolve,invoke,go_sem,hsz]) ?_
  refine(commit_fn p o ops ho1 m vz hm8 d hlf (RdD D w1.heap.size x) wj [vals 0,vals 2,vals 7,vals 8] (hG.up hJ.keeps) (.cons (hJ.val 0 (by decide) (hD 0 (by simp))) (.cons (hJ.val 2 (by decide) (hD 2 (by simp))) (.cons (hJ.val 7 (by decide) (hD 7 (by simp))) (.cons (hJ.val 8 (by decide) (hD 8 (by simp))) .nil))))).mono ?_
  rintro e w' ⟨v,rfl,⟨vs,rfl,k1⟩,k2⟩
  have k1:RAs (fun z=>RdD D w1.heap.size x z∨wj.heap.size≤z) w' (comR p o ops m vz d) vs:=k1
  rw[hR]at k1
  exact⟨_,rfl,hJ.step k2 (by decide) (by decide) ⟨vs,rfl,RAs.up hJ.res k1⟩⟩
 ·intro S vals wj hJ hSi hD hcl
  obtain⟨x,hJ⟩:=hJ
  refine opv (v:=vals 9) rfl ?_ (hJ.pure (j:=10) (by decide) (by decide) (hJ.val 9 (by decide) (hD 9 (by simp))))
  simp[execOp,putAll,ev_put,ev_put0,size_put,go_sem,hsz]
 ·intro S vals wj hJ hSi hD hcl
  obtain⟨x,hJ⟩:=hJ
  obtain⟨ts,d10,k1⟩:=hJ.val 10 (by decide) (hD 10 (by simp))
  obtain⟨x0,x1,x2,x3,rfl,k2,k3,k4,k5⟩:=ra_four k1
  refine opv (v:=x0) rfl ?_ (hJ.pure (j:=11) (by decide) (by decide) k2)
  simp[execOp,putAll,ev_put,ev_put0,size_put,go_sem,hsz,d10]
 ·intro S vals wj hJ hSi hD hcl
  obtain⟨x,hJ⟩:=hJ
  obtain⟨ts,d10,k1⟩:=hJ.val 10 (by decide) (hD 10 (by simp))
  obtain⟨x0,x1,x2,x3,rfl,k2,k3,k4,k5⟩:=ra_four k1
  refine opv (v:=x1) rfl ?_ (hJ.pure (j:=12) (by decide) (by decide) k3)
  simp[execOp,putAll,ev_put,ev_put0,size_put,go_sem,hsz,d10]
 ·intro S vals wj hJ hSi hD hcl
  obtain⟨x,hJ⟩:=hJ
  obtain⟨ts,d10,k1⟩:=hJ.val 10 (by decide) (hD 10 (by simp))
  obtain⟨x0,x1,x2,x3,rfl,k2,k3,k4,k5⟩:=ra_four k1
  refine opv (v:=x2) rfl ?_ (hJ.pure (j:=13) (by decide) (by decide) k4)
  simp[execOp,putAll,ev_put,ev_put0,size_put,go_sem,hsz,d10]
 ·intro S vals wj hJ hSi hD hcl
  obtain⟨x,hJ⟩:=hJ
  obtain⟨ts,d10,k1⟩:=hJ.val 10 (by decide) (hD 10 (by simp))
  obtain⟨x0,x1,x2,x3,rfl,k2,k3,k4,k5⟩:=ra_four k1
  refine opv (v:=x3) rfl ?_ (hJ.pure (j:=14) (by decide) (by decide) k5)
  simp[execOp,putAll,ev_put,ev_put0,size_put,go_sem,hsz,d10]
 ·intro S vals wj hJ hSi hD hcl
  obtain⟨x,hJ⟩:=hJ
  have h16:S 16=false:=by cases h:S 16 with|false=>rfl|true=>have:=hcl 16 h 15 (by simp);rw[hSi]at this;cases this
  refine opv rfl ?_ (hJ.alloc hSi h16 (by decide) (zc:=#[.int .i64 0,.int .i64 0,.slice none 0 0,.slice none 0 0,.int .i64 0,.int .i64 0,.int .i64 0,.int .i64 0,.slice none 0 0]++Array.replicate 32 (.int .u8 0)++#[.int .i64 0,.int .i64 0]) (by simp))
  simp[execOp,putAll,go_sem]
  rfl
 ·intro S vals wj hJ hSi hD hcl
  obtain⟨x,hJ⟩:=hJ
  obtain⟨qq,zc,k1,k2,k3,k4,k5,_⟩:=hJ.blk (hD 15 (by simp))
  have k11:=hJ.val 11 (by decide) (hD 11 (by simp))
  obtain⟨cv,d11,k12⟩:=ra_aggs k11
  have hcv:cv.size=43:=by have:=k12.len;rw[hl0]at this;simpa using this
  refine ops_ rfl ?_ (hJ.store (hD 15 (by simp)) (by decide) rfl k2 hcv k12 undef)
  exact exec_store_row 112 _ _ rfl qq cv (by simp[putAll,ev_put,ev_put0,size_put,hsz,k2]) (by simp[putAll,ev_put,ev_put0,size_put,hsz,d11]) 112 zc k4 (by rw[hcv];kernel_rfl) (k5.trans hcv.symm) (all_one k12.one)
 ·intro S vals wj hJ hSi hD hcl
  obtain⟨x,hJ⟩:=hJ
  refine opv (v:=vals 12) rfl ?_ (hJ.pure (j:=17) (by decide) (by decide) (hJ.val 12 (by decide) (hD 12 (by simp))))
  simp[execOp,putAll,ev_put,ev_put0,size_put,go_sem,hsz]
 ·intro S vals wj hJ hSi hD hcl
  obtain⟨x,hJ⟩:=hJ
  refine opv (v:=vals 13) rfl ?_ (hJ.pure (j:=18) (by decide) (by decide) (hJ.val 13 (by decide) (hD 13 (by simp))))
  simp[execOp,putAll,ev_put,ev_put0,size_put,go_sem,hsz]
 ·intro S vals wj hJ hSi hD hcl
  obtain⟨x,hJ⟩:=hJ
  refine opv (v:=vals 14) rfl ?_ (hJ.pure (j:=19) (by decide) (by decide) (hJ.val 14 (by decide) (hD 14 (by simp))))
  simp[execOp,putAll,ev_put,ev_put0,size_put,go_sem,hsz]
end
section
open Pm
attribute [local irreducible] condK LoopA regA powI scal mulI isI fourB deriveW numB numsB bodyB nodeW nextW viewHV doR chkV planL sealB boxD keyZ helD commonI placeI apE doP comE comP nextP joinP upW lefW tagE welSegs welF welN createP enterP mayB commitB commitN okW wN wB letL wlN wlB mayW allW paperV vN vZ
set_option maxHeartbeats 8000000 in
theorem wcommitD_walk{S:Nat→Prop}{w:World}{r:Nat}{n:Int}{l:List A}{i k:Nat}{po v17:Value}{L:List Ap}{y:A}{cs:List Value}{p:PS}{s:Vw}{c:CS}{q:PS}{o:Nat}{ops:List Int}{P:List UInt8}{m:Nat}{vz:List Int}{N:Nat}{W:Nat→List Seg}{nn fr dr:Int}{vs:List Value}
  (hr:r<w.heap.size)(hG:GOK gTab (fun z=>S z∧z≠r) w)(hB:HB (fun z=>S z∧z≠r) w r (.var (wdV n 1 l (.v po) (.v v17))))(hi:i<8)(hl:l.getD i (.v undef)=.sref (pSegs p) 0)(hlf:leafB p.lf=true)
  (hown:w.ownsRow 0 35 1 po k cs)(hk:k+1+N≤60)(hpo:(po=.slice none 0 0∧k=0)∨∃ad cp,po=.slice (some ad) k cp)(hfr:∀z,po.ownBlock=some z→z<w.heap.size∧z≠r∧¬S z)
  (hL:L.length≤1000000)(ho17:w.ownsRow 0 108 35 v17 L.length (apsC L))(hl17:∀x∈L,x.p.length=32)(h17:∀z,v17.ownBlock=some z→z≠r)(ho:o≠0)(ho1:o≤3000)(hP:P=paperV p.e p.zs p.ad p.k p.ch p.lf ops)(hmv:m=vN L P 8)(hvz:vz=vZ L P 8)
  (hE:comE p o ops m vz=0)(hs:s=doP p p.lf o ops)(hc:c=comP p s o ops m vz (drawW dr))(hq:q=nextP p s o ops m vz (drawW dr))(hm:mayB c=true)(hw:N=welN s.ng 8)(hW:W=welF (welSegs q (upW (lefW (drawW dr))) (joinP p (drawW dr)) (tagE q.ep) (drawW dr)) s.ng 8)(hok:allW N W)(h1:c.n≤3000)(h2:c.m≤3000)(h3:c.k≤3000)(h4:∀j,j<c.k→(c.bx j).length≤6000)
  {R:Ending→World→Prop}(hR:∀w2 v' ns T,T=letL c W N→HB (fun z=>(S z∨w.heap.size≤z)∧z≠r∧v'.ownBlock≠some z) w2 r (.var (wdV n 1 (l.set i (.sref (pSegs q) 0)) (.v v') (.v v17)))→w2.ownsRow 0 35 1 v' (k+(N+1)) (cs++ns)→
   RL (fun z=>(S z∨w.heap.size≤z)∧z≠r∧v'.ownBlock≠some z) w2 [.gen (N+1) T] ns→GrownX (fun z=>z=r∨po.ownBlock=some z) w w2→(∀z,v'.ownBlock=some z→z<w2.heap.size∧(po.ownBlock=some z∨w.heap.size≤z))→R (.returned (.int .i64 0)) w2)
  (ha:RAs (fun z=>S z∧z≠r) w [.agg [.ints .i64 4 [2,(i:Nat),nn,fr],.gen 1 [.row o [.ints .i64 (o*5) ops]],.ints .i64 1 [dr],.gen 1 [y]]] vs):
  Calls Tryz.prog 24 (vs.insertIdx 0 (.pointer (some ⟨r,0,none⟩))).toArray w R:=by
 have HR:=Lib.hid hR
 clear hR
 refine calls_lent (E:=envWi5) (n:=80) Tryz.func24 Tryz.ntmps24 rfl (by exact Nat.le_of_ble_eq_true rfl) (by exact Nat.zero_le _) (by intro _ _ _ _ h;cases h) (by(conv=>lhs;simp only[List.insertIdx_zero,Seg.n,wn1,wn2,wn3,wn4,wn5,wn6,wn7,wn8,wn9,wn10,wn11,wn12,wn13,wn14,wn15,wn16,Int.reduceAdd,Int.zero_add,Seg.cell,Seg.sub,List.set_nil,isAlloc,trimH,List.take_append_drop,St.app,St.app2,St.ev,List.getD_cons_zero,List.getD_cons_succ,List.getD_nil,St.sl,St.bk,tiInt,tiBool,tiSl,tiArr,tiStruct,weaken,keepT,List.set_cons_zero,List.set_cons_succ,List.length_cons,List.length_nil,List.cons_append,List.nil_append,List.append_nil,List.map_cons,List.map_nil,List.replicate_succ,List.replicate_zero,List.take_succ_cons,List.take_zero,List.drop_succ_cons,List.drop_zero,List.take_nil,List.drop_nil,Nat.reduceAdd,Nat.reduceSub,Nat.reduceMul,Nat.reduceEqDiff,Nat.reduceLT,Nat.reduceLeDiff,Nat.zero_add,Nat.add_zero,Nat.sub_self,Nat.sub_zero,Nat.one_mul,Nat.mul_one,Nat.zero_mul,joinS,manyS,List.flatten_cons,List.flatten_nil,eq_self,ite_true,if_true,if_false,↓reduceIte,reduceCtorEq,Int.reduceToNat])) hr hG hB ha ?_
 unfold wdV
 obtain⟨Q,hQ⟩:∃Q:Exit→Act→World→Prop,Q=(fun e a' w'=>(e=.normal∨e=.ret)∧a'.defers=[]∧∃v,(results Tryz.f24 a'.tmps).run envWi5.P w'=.ok v w'∧R (.returned v) w'):=⟨_,rfl⟩
 rw[←hQ]
 have HQ:=Lib.hid hQ
 clear hQ
 (conv=>arg 6;simp only[Seg.n,wn1,wn2,wn3,wn4,wn5,wn6,wn7,wn8,wn9,wn10,wn11,wn12,wn13,wn14,wn15,wn16,Int.reduceAdd,Int.zero_add,Seg.cell,Seg.sub,List.set_nil,isAlloc,trimH,List.take_append_drop,St.app,St.app2,St.ev,List.getD_cons_zero,List.getD_cons_succ,List.getD_nil,St.sl,St.bk,tiInt,tiBool,tiSl,tiArr,tiStruct,weaken,keepT,List.set_cons_zero,List.set_cons_succ,List.length_cons,List.length_nil,List.cons_append,List.nil_append,List.append_nil,List.map_cons,List.map_nil,List.replicate_succ,List.replicate_zero,List.take_succ_cons,List.take_zero,List.drop_succ_cons,List.drop_zero,List.take_nil,List.drop_nil,Nat.reduceAdd,Nat.reduceSub,Nat.reduceMul,Nat.reduceEqDiff,Nat.reduceLT,Nat.reduceLeDiff,Nat.zero_add,Nat.add_zero,Nat.sub_self,Nat.sub_zero,Nat.one_mul,Nat.mul_one,Nat.zero_mul,joinS,manyS,List.flatten_cons,List.flatten_nil,eq_self,ite_true,if_true,if_false,↓reduceIte,reduceCtorEq,Int.reduceToNat])
 (refine GX.seqH fun y1 hy=>?_);(have HY:=Lib.hid hy);clear hy
 refine agow ?_;(try exact⟨⟩)
 (rw[HY.out];clear HY;(conv=>arg 6;simp only[Seg.n,wn1,wn2,wn3,wn4,wn5,wn6,wn7,wn8,wn9,wn10,wn11,wn12,wn13,wn14,wn15,wn16,Int.reduceAdd,Int.zero_add,Seg.cell,Seg.sub,List.set_nil,isAlloc,trimH,List.take_append_drop,St.app,St.app2,St.ev,List.getD_cons_zero,List.getD_cons_succ,List.getD_nil,St.sl,St.bk,tiInt,tiBool,tiSl,tiArr,tiStruct,weaken,keepT,List.set_cons_zero,List.set_cons_succ,List.length_cons,List.length_nil,List.cons_append,List.nil_append,List.append_nil,List.map_cons,List.map_nil,List.replicate_succ,List.replicate_zero,List.take_succ_cons,List.take_zero,List.drop_succ_cons,List.drop_zero,List.take_nil,List.drop_nil,Nat.reduceAdd,Nat.reduceSub,Nat.reduceMul,Nat.reduceEqDiff,Nat.reduceLT,Nat.reduceLeDiff,Nat.zero_add,Nat.add_zero,Nat.sub_self,Nat.sub_zero,Nat.one_mul,Nat.mul_one,Nat.zero_mul,joinS,manyS,List.flatten_cons,List.flatten_nil,eq_self,ite_true,if_true,if_false,↓reduceIte,reduceCtorEq,Int.reduceToNat]))
 (refine GX.seqH fun y1 hy=>?_);(have HY:=Lib.hid hy);clear hy
 refine agow ?_;(try exact⟨⟩)
 (rw[HY.out];clear HY;(conv=>arg 6;simp only[Seg.n,wn1,wn2,wn3,wn4,wn5,wn6,wn7,wn8,wn9,wn10,wn11,wn12,wn13,wn14,wn15,wn16,Int.reduceAdd,Int.zero_add,Seg.cell,Seg.sub,List.set_nil,isAlloc,trimH,List.take_append_drop,St.app,St.app2,St.ev,List.getD_cons_zero,List.getD_cons_succ,List.getD_nil,St.sl,St.bk,tiInt,tiBool,tiSl,tiArr,tiStruct,weaken,keepT,List.set_cons_zero,List.set_cons_succ,List.length_cons,List.length_nil,List.cons_append,List.nil_append,List.append_nil,List.map_cons,List.map_nil,List.replicate_succ,List.replicate_zero,List.take_succ_cons,List.take_zero,List.drop_succ_cons,List.drop_zero,List.take_nil,List.drop_nil,Nat.reduceAdd,Nat.reduceSub,Nat.reduceMul,Nat.reduceEqDiff,Nat.reduceLT,Nat.reduceLeDiff,Nat.zero_add,Nat.add_zero,Nat.sub_self,Nat.sub_zero,Nat.one_mul,Nat.mul_one,Nat.zero_mul,joinS,manyS,List.flatten_cons,List.flatten_nil,eq_self,ite_true,if_true,if_false,↓reduceIte,reduceCtorEq,Int.reduceToNat]))
 rw[hl]
 (refine GX.seqH fun y1 hy=>?_);(have HY:=Lib.hid hy);clear hy
 refine agow ?_;(try exact⟨⟩)
 (rw[HY.out];clear HY;(conv=>arg 6;simp only[Seg.n,wn1,wn2,wn3,wn4,wn5,wn6,wn7,wn8,wn9,wn10,wn11,wn12,wn13,wn14,wn15,wn16,Int.reduceAdd,Int.zero_add,Seg.cell,Seg.sub,List.set_nil,isAlloc,trimH,List.take_append_drop,St.app,St.app2,St.ev,List.getD_cons_zero,List.getD_cons_succ,List.getD_nil,St.sl,St.bk,tiInt,tiBool,tiSl,tiArr,tiStruct,weaken,keepT,List.set_cons_zero,List.set_cons_succ,List.length_cons,List.length_nil,List.cons_append,List.nil_append,List.append_nil,List.map_cons,List.map_nil,List.replicate_succ,List.replicate_zero,List.take_succ_cons,List.take_zero,List.drop_succ_cons,List.drop_zero,List.take_nil,List.drop_nil,Nat.reduceAdd,Nat.reduceSub,Nat.reduceMul,Nat.reduceEqDiff,Nat.reduceLT,Nat.reduceLeDiff,Nat.zero_add,Nat.add_zero,Nat.sub_self,Nat.sub_zero,Nat.one_mul,Nat.mul_one,Nat.zero_mul,joinS,manyS,List.flatten_cons,List.flatten_nil,eq_self,ite_true,if_true,if_false,↓reduceIte,reduceCtorEq,Int.reduceToNat]))
 (refine GX.seqH fun y1 hy=>?_);(have HY:=Lib.hid hy);clear hy
 refine agow ?_;(try exact⟨⟩)
 intro d hd
 obtain rfl:d=drawW dr:=hd
 refine agow ?_;(try exact⟨⟩)
 (rw[HY.out];clear HY;(conv=>arg 6;simp only[Seg.n,wn1,wn2,wn3,wn4,wn5,wn6,wn7,wn8,wn9,wn10,wn11,wn12,wn13,wn14,wn15,wn16,Int.reduceAdd,Int.zero_add,Seg.cell,Seg.sub,List.set_nil,isAlloc,trimH,List.take_append_drop,St.app,St.app2,St.ev,List.getD_cons_zero,List.getD_cons_succ,List.getD_nil,St.sl,St.bk,tiInt,tiBool,tiSl,tiArr,tiStruct,weaken,keepT,List.set_cons_zero,List.set_cons_succ,List.length_cons,List.length_nil,List.cons_append,List.nil_append,List.append_nil,List.map_cons,List.map_nil,List.replicate_succ,List.replicate_zero,List.take_succ_cons,List.take_zero,List.drop_succ_cons,List.drop_zero,List.take_nil,List.drop_nil,Nat.reduceAdd,Nat.reduceSub,Nat.reduceMul,Nat.reduceEqDiff,Nat.reduceLT,Nat.reduceLeDiff,Nat.zero_add,Nat.add_zero,Nat.sub_self,Nat.sub_zero,Nat.one_mul,Nat.mul_one,Nat.zero_mul,joinS,manyS,List.flatten_cons,List.flatten_nil,eq_self,ite_true,if_true,if_false,↓reduceIte,reduceCtorEq,Int.reduceToNat]))
 refine GX.more 4 ?_
 (conv=>arg 6;simp only[Seg.n,wn1,wn2,wn3,wn4,wn5,wn6,wn7,wn8,wn9,wn10,wn11,wn12,wn13,wn14,wn15,wn16,Int.reduceAdd,Int.zero_add,Seg.cell,Seg.sub,List.set_nil,isAlloc,trimH,List.take_append_drop,St.app,St.app2,St.ev,List.getD_cons_zero,List.getD_cons_succ,List.getD_nil,St.sl,St.bk,tiInt,tiBool,tiSl,tiArr,tiStruct,weaken,keepT,List.set_cons_zero,List.set_cons_succ,List.length_cons,List.length_nil,List.cons_append,List.nil_append,List.append_nil,List.map_cons,List.map_nil,List.replicate_succ,List.replicate_zero,List.take_succ_cons,List.take_zero,List.drop_succ_cons,List.drop_zero,List.take_nil,List.drop_nil,Nat.reduceAdd,Nat.reduceSub,Nat.reduceMul,Nat.reduceEqDiff,Nat.reduceLT,Nat.reduceLeDiff,Nat.zero_add,Nat.add_zero,Nat.sub_self,Nat.sub_zero,Nat.one_mul,Nat.mul_one,Nat.zero_mul,joinS,manyS,List.flatten_cons,List.flatten_nil,eq_self,ite_true,if_true,if_false,↓reduceIte,reduceCtorEq,Int.reduceToNat])
 refine GX.drawn (comT p o ops m vz (drawW dr) (cSegs2 c) (.recs N 108 W) (.sref (pSegs q) 0) 0) 112 43 (cSegs2 c) 15 16 3 [[],[],[1],[],[],[],[5],[3,4,6],[],[0,2,7,8],[9],[10],[10],[10],[10],[],[15,11],[12],[13],[14]] (by kernel_rfl) (by kernel_rfl) rfl (Nat.le_of_ble_eq_true rfl) (Nat.le_of_ble_eq_true rfl) (Nat.le_of_ble_eq_true rfl) ?_ ?_
 ·intro ρ a w1 g
  have hlen:a.tmps.size=80:=g.len.symm
  obtain⟨A0,ca,ta,ra,_,ba,la⟩:=g.var (b:=1) rfl
  obtain⟨A6,c6,t6,r6,_,b6,l6⟩:=g.var (b:=2) rfl
  have r0:=g.pin r rfl
  have x0:=g.t 0 (by omega) _ r0
  have x3:=g.t 3 (by omega) _ ra
  have x5:=g.t 5 (by omega)
  have x6:=g.t 6 (by omega) _ r6
  obtain⟨ca1,ca2,eca,lca,lcb,_⟩:=la.head
  obtain⟨cb1,cb2,ecb,lcc,lcd,_⟩:=lcb.head
  obtain⟨_,eca1⟩:=lca.toInts
  obtain⟨gc,qc⟩:=lcc.toGen
  cases qc with
  |cons hvo h1v h2v=>
   cases h2v
   obtain⟨va,vn,vc,rfl⟩:=ra_row_slice hvo
   have c4:w1.cell? ⟨A0,4,none⟩=some (.slice va vn vc):=by
    have hb:Blk w1 A0 ca.toArray ta:=ba
    rw[hb.cell,List.getElem?_toArray,eca,ecb,eca1];rfl
   have hc6:c6=HL (drawW dr):=by
    obtain⟨d1,d2,ed,ld,le,_⟩:=l6.head
    obtain⟨_,rfl⟩:=ld.toBytes
    cases le.nil_inv
    rw[ed,List.append_nil]
   have hd32:(drawW dr).length=32:=drawW_len dr
   have h6:Blk w1 A6 (HC (drawW dr)) t6:=by have:=b6;rw[hc6]at this;exact this
   obtain⟨r0',c0,t0,q0,_,b0,l0⟩:=g.var (b:=0) rfl
   have hG1:GOK gTab (Dt S w.heap.size ρ) w1:=g.glob
   have hbel:∀z,z<w.heap.size→z≠r→w1.heap[z]?=w.heap[z]?:=fun z hz hn=>g.bel.block z hz hn
   have hws:w.heap.size≤w1.heap.size:=g.bel.size
   rw[r0]at q0
   obtain rfl:r0'=r:=by simpa using q0.symm
   have hx5:RA (Dt S w.heap.size ρ) w1 (.sref (pSegs p) 0) (a.eval (.tmp 5)):=x5
   have y0:a.eval (.tmp 0)=.pointer (some ⟨r0',0,none⟩):=by obtain⟨z,h1,h2⟩:=x0;cases h1.ptr;exact h2
   have y3:a.eval (.tmp 3)=.pointer (some ⟨A0,0,none⟩):=by obtain⟨z,h1,h2⟩:=x3;cases h1.ptr;exact h2
   have y6:a.eval (.tmp 6)=.pointer (some ⟨A6,0,none⟩):=by obtain⟨z,h1,h2⟩:=x6;cases h1.ptr;exact h2
   have hm8:m≤3000:=by have:=vN_le L P 8;rw[←hmv]at this;omega
   clear x0 x3 x5 x6 g ra r6 r0 q0 HQ HR Q
   refine⟨comT2 r0' A0 (comT p o ops m vz (drawW dr) (cSegs2 c) (.recs N 108 W) (.sref (pSegs q) 0) 0),comT2_or,?_⟩
   refine commit_obs hlen hG1 hlf ho1 hm8 y0 y3 hx5 y6 (Array.getElem?_eq_some_iff.1 ba).1 c4 hvo h6 hd32 ?_ ?_ (show segN (cSegs2 c)=43 from rfl)
   ·intro wj v4 v6 D' hbj h4' h6'
    have hvv:RA (fun _=>True) wj (.recs L.length 35 (apF L)) v17:=apsRA (own_keep ho17 fun z hz=>(hbj.block z (Nat.lt_of_lt_of_le (own_lt ho17 hz) hws)).trans (hbel z (own_lt ho17 hz) (h17 z hz))) hl17
    have l1:RL (fun _=>True) wj [.ints .i64 1 [n],.ints .i32 1 [1],.ints .u32 1 [0],.gen 16 l,.gen 2 [.v po,.v v17]] c0:=l0.up ⟨hbj.size,fun z hz _=>⟨trivial,fun o=>World.cell?_of_block (hbj.block z hz)⟩⟩
    have h3':RL (fun _=>True) wj [.ints .i64 1 [n],.ints .i32 1 [1],.ints .u32 1 [0],.gen 16 l,.gen 2 [.v po,.recs L.length 35 (apF L)]] c0:=by
     obtain⟨c1,d1,e1,k1,r1,_⟩:=l1.head
     obtain⟨c2,d2,e2,k2,r2,_⟩:=r1.head
     obtain⟨c3,d3,e3,k3,r3,_⟩:=r2.head
     obtain⟨c4,d4,e4,k4,r4,l4⟩:=r3.head
     obtain⟨g5,q5⟩:=r4.toGen
     rw[e1,e2,e3,e4]
     refine k1.append (k2.append (k3.append (k4.append ?_)))
     cases q5 with
     |cons a1 a2 a3=>
      cases a3 with
      |cons b1 b2 b3=>
       cases b3
       cases b1
       have:=RL.gen (.cons a1 a2 (.cons hvv b2 .nil)) g5 (.nil (S:=fun _=>True) (w:=wj))
       rwa [List.append_nil]at this
    have hbr:Blk wj r0' c0.toArray t0:=(hbj.block _ (Array.getElem?_eq_some_iff.1 b0).1).trans b0
    have hsr:RA (fun _=>True) wj (.sref [.ints .i64 1 [n],.ints .i32 1 [1],.ints .u32 1 [0],.gen 16 l,.gen 2 [.v po,.recs L.length 35 (apF L)]] 0) (.pointer (some ⟨r0',0,none⟩)):=.sref (off:=0) h3' (.inr ⟨r0',0,rfl,trivial,(Array.getElem?_eq_some_iff.1 hbr).1,fun i hi=>by
     rw[Nat.zero_add,cells_of hbr,List.getElem?_eq_getElem hi]⟩)
    have kt:Keeps D' wj (fun _=>True) wj:=⟨Nat.le_refl _,fun z _ _=>⟨trivial,fun _=>rfl⟩⟩
    have hf:=fnF_rowI (votes_fn n 1 l (.v po) L p o ops hL ho (by omega) P hP)
    rw[←hmv,←hvz]at hf
    refine(hf (fun _=>True) wj [.pointer (some ⟨r0',0,none⟩),v4,v6] (gok_all (hG1.up ⟨hbj.size,fun z hz hd=>⟨hd,fun o=>World.cell?_of_block (hbj.block z hz)⟩⟩)) (.cons hsr (.cons (h4'.up kt) (.cons (h6'.up kt) .nil)))).mono ?_
    rintro e w' ⟨v,rfl,k1,k2⟩
    exact⟨v,rfl,RA.up ⟨Nat.le_refl _,fun z _ hz=>⟨hz.elim False.elim id,fun _=>rfl⟩⟩ k1,k2⟩
   ·unfold comR
    rw[if_pos hE,←hs,←hc,←hq,←hw,←hW]
 ·(conv=>arg 6;simp only[setK,comT,TA.t,if_neg,if_pos,Nat.zero_add,Nat.reduceAdd,Nat.reduceEqDiff,reduceIte,Seg.n,wn1,wn2,wn3,wn4,wn5,wn6,wn7,wn8,wn9,wn10,wn11,wn12,wn13,wn14,wn15,wn16,Int.reduceAdd,Int.zero_add,Seg.cell,Seg.sub,List.set_nil,isAlloc,trimH,List.take_append_drop,St.app,St.app2,St.ev,List.getD_cons_zero,List.getD_cons_succ,List.getD_nil,St.sl,St.bk,tiInt,tiBool,tiSl,tiArr,tiStruct,weaken,keepT,List.set_cons_zero,List.set_cons_succ,List.length_cons,List.length_nil,List.cons_append,List.nil_append,List.append_nil,List.map_cons,List.map_nil,List.replicate_succ,List.replicate_zero,List.take_succ_cons,List.take_zero,List.drop_succ_cons,List.drop_zero,List.take_nil,List.drop_nil,Nat.reduceAdd,Nat.reduceSub,Nat.reduceMul,Nat.reduceEqDiff,Nat.reduceLT,Nat.reduceLeDiff,Nat.zero_add,Nat.add_zero,Nat.sub_self,Nat.sub_zero,Nat.one_mul,Nat.mul_one,Nat.zero_mul,joinS,manyS,List.flatten_cons,List.flatten_nil,eq_self,ite_true,if_true,if_false,↓reduceIte,reduceCtorEq,Int.reduceToNat])
  have hN1:N≤1000:=by omega
  have hk1:¬(60:Int)<(k:Int)+1+(N:Int):=by omega
  clear hs hc hq hw hW hE hP hmv hvz ho17 hl17 h17 hL
  (conv=>arg 6;simp only[Seg.n,wn1,wn2,wn3,wn4,wn5,wn6,wn7,wn8,wn9,wn10,wn11,wn12,wn13,wn14,wn15,wn16,Int.reduceAdd,Int.zero_add,Seg.cell,Seg.sub,List.set_nil,isAlloc,trimH,List.take_append_drop,St.app,St.app2,St.ev,List.getD_cons_zero,List.getD_cons_succ,List.getD_nil,St.sl,St.bk,tiInt,tiBool,tiSl,tiArr,tiStruct,weaken,keepT,List.set_cons_zero,List.set_cons_succ,List.length_cons,List.length_nil,List.cons_append,List.nil_append,List.append_nil,List.map_cons,List.map_nil,List.replicate_succ,List.replicate_zero,List.take_succ_cons,List.take_zero,List.drop_succ_cons,List.drop_zero,List.take_nil,List.drop_nil,Nat.reduceAdd,Nat.reduceSub,Nat.reduceMul,Nat.reduceEqDiff,Nat.reduceLT,Nat.reduceLeDiff,Nat.zero_add,Nat.add_zero,Nat.sub_self,Nat.sub_zero,Nat.one_mul,Nat.mul_one,Nat.zero_mul,joinS,manyS,List.flatten_cons,List.flatten_nil,eq_self,ite_true,if_true,if_false,↓reduceIte,reduceCtorEq,Int.reduceToNat])
  (refine GX.seqH fun y1 hy=>?_);(have HY:=Lib.hid hy);clear hy
  refine agow ?_;(try exact⟨⟩)
  (rw[HY.out];clear HY;(conv=>arg 6;simp only[Seg.n,wn1,wn2,wn3,wn4,wn5,wn6,wn7,wn8,wn9,wn10,wn11,wn12,wn13,wn14,wn15,wn16,Int.reduceAdd,Int.zero_add,Seg.cell,Seg.sub,List.set_nil,isAlloc,trimH,List.take_append_drop,St.app,St.app2,St.ev,List.getD_cons_zero,List.getD_cons_succ,List.getD_nil,St.sl,St.bk,tiInt,tiBool,tiSl,tiArr,tiStruct,weaken,keepT,List.set_cons_zero,List.set_cons_succ,List.length_cons,List.length_nil,List.cons_append,List.nil_append,List.append_nil,List.map_cons,List.map_nil,List.replicate_succ,List.replicate_zero,List.take_succ_cons,List.take_zero,List.drop_succ_cons,List.drop_zero,List.take_nil,List.drop_nil,Nat.reduceAdd,Nat.reduceSub,Nat.reduceMul,Nat.reduceEqDiff,Nat.reduceLT,Nat.reduceLeDiff,Nat.zero_add,Nat.add_zero,Nat.sub_self,Nat.sub_zero,Nat.one_mul,Nat.mul_one,Nat.zero_mul,joinS,manyS,List.flatten_cons,List.flatten_nil,eq_self,ite_true,if_true,if_false,↓reduceIte,reduceCtorEq,Int.reduceToNat]))
  rcases hpo with⟨rfl,rfl⟩|⟨ad,cp,rfl⟩
  ·(refine GX.seqH fun y1 hy=>?_);(have HY:=Lib.hid hy);clear hy
   refine agow ?_;(try exact⟨⟩)
   (rw[HY.out];clear HY;(conv=>arg 6;simp only[Seg.n,wn1,wn2,wn3,wn4,wn5,wn6,wn7,wn8,wn9,wn10,wn11,wn12,wn13,wn14,wn15,wn16,Int.reduceAdd,Int.zero_add,Seg.cell,Seg.sub,List.set_nil,isAlloc,trimH,List.take_append_drop,St.app,St.app2,St.ev,List.getD_cons_zero,List.getD_cons_succ,List.getD_nil,St.sl,St.bk,tiInt,tiBool,tiSl,tiArr,tiStruct,weaken,keepT,List.set_cons_zero,List.set_cons_succ,List.length_cons,List.length_nil,List.cons_append,List.nil_append,List.append_nil,List.map_cons,List.map_nil,List.replicate_succ,List.replicate_zero,List.take_succ_cons,List.take_zero,List.drop_succ_cons,List.drop_zero,List.take_nil,List.drop_nil,Nat.reduceAdd,Nat.reduceSub,Nat.reduceMul,Nat.reduceEqDiff,Nat.reduceLT,Nat.reduceLeDiff,Nat.zero_add,Nat.add_zero,Nat.sub_self,Nat.sub_zero,Nat.one_mul,Nat.mul_one,Nat.zero_mul,joinS,manyS,List.flatten_cons,List.flatten_nil,eq_self,ite_true,if_true,if_false,↓reduceIte,reduceCtorEq,Int.reduceToNat]))
   (refine GX.seqH fun y1 hy=>?_);(have HY:=Lib.hid hy);clear hy
   refine agow ?_;(try exact⟨⟩)
   intro M T hM hT
   obtain rfl:M=N+1:=hM
   have hT':T=letL c W N:=hT
   clear hT
   have HT:=Lib.hid hT'
   clear hT'
   refine agow ?_;(try exact⟨⟩)
   (rw[HY.out];clear HY;(conv=>arg 6;simp only[Seg.n,wn1,wn2,wn3,wn4,wn5,wn6,wn7,wn8,wn9,wn10,wn11,wn12,wn13,wn14,wn15,wn16,Int.reduceAdd,Int.zero_add,Seg.cell,Seg.sub,List.set_nil,isAlloc,trimH,List.take_append_drop,St.app,St.app2,St.ev,List.getD_cons_zero,List.getD_cons_succ,List.getD_nil,St.sl,St.bk,tiInt,tiBool,tiSl,tiArr,tiStruct,weaken,keepT,List.set_cons_zero,List.set_cons_succ,List.length_cons,List.length_nil,List.cons_append,List.nil_append,List.append_nil,List.map_cons,List.map_nil,List.replicate_succ,List.replicate_zero,List.take_succ_cons,List.take_zero,List.drop_succ_cons,List.drop_zero,List.take_nil,List.drop_nil,Nat.reduceAdd,Nat.reduceSub,Nat.reduceMul,Nat.reduceEqDiff,Nat.reduceLT,Nat.reduceLeDiff,Nat.zero_add,Nat.add_zero,Nat.sub_self,Nat.sub_zero,Nat.one_mul,Nat.mul_one,Nat.zero_mul,joinS,manyS,List.flatten_cons,List.flatten_nil,eq_self,ite_true,if_true,if_false,↓reduceIte,reduceCtorEq,Int.reduceToNat]))
   (refine GX.seqH fun y1 hy=>?_);(have HY:=Lib.hid hy);clear hy
   refine agow ?_;(try exact⟨⟩)
   (rw[HY.out];clear HY;(conv=>arg 6;simp only[Seg.n,wn1,wn2,wn3,wn4,wn5,wn6,wn7,wn8,wn9,wn10,wn11,wn12,wn13,wn14,wn15,wn16,Int.reduceAdd,Int.zero_add,Seg.cell,Seg.sub,List.set_nil,isAlloc,trimH,List.take_append_drop,St.app,St.app2,St.ev,List.getD_cons_zero,List.getD_cons_succ,List.getD_nil,St.sl,St.bk,tiInt,tiBool,tiSl,tiArr,tiStruct,weaken,keepT,List.set_cons_zero,List.set_cons_succ,List.length_cons,List.length_nil,List.cons_append,List.nil_append,List.append_nil,List.map_cons,List.map_nil,List.replicate_succ,List.replicate_zero,List.take_succ_cons,List.take_zero,List.drop_succ_cons,List.drop_zero,List.take_nil,List.drop_nil,Nat.reduceAdd,Nat.reduceSub,Nat.reduceMul,Nat.reduceEqDiff,Nat.reduceLT,Nat.reduceLeDiff,Nat.zero_add,Nat.add_zero,Nat.sub_self,Nat.sub_zero,Nat.one_mul,Nat.mul_one,Nat.zero_mul,joinS,manyS,List.flatten_cons,List.flatten_nil,eq_self,ite_true,if_true,if_false,↓reduceIte,reduceCtorEq,Int.reduceToNat]))
   refine GX.region (GXL.preN 6 ?_)
   refine agow ?_;(try exact⟨⟩)
   (conv=>arg 7;simp only[Seg.n,wn1,wn2,wn3,wn4,wn5,wn6,wn7,wn8,wn9,wn10,wn11,wn12,wn13,wn14,wn15,wn16,Int.reduceAdd,Int.zero_add,Seg.cell,Seg.sub,List.set_nil,isAlloc,trimH,List.take_append_drop,St.app,St.app2,St.ev,List.getD_cons_zero,List.getD_cons_succ,List.getD_nil,St.sl,St.bk,tiInt,tiBool,tiSl,tiArr,tiStruct,weaken,keepT,List.set_cons_zero,List.set_cons_succ,List.length_cons,List.length_nil,List.cons_append,List.nil_append,List.append_nil,List.map_cons,List.map_nil,List.replicate_succ,List.replicate_zero,List.take_succ_cons,List.take_zero,List.drop_succ_cons,List.drop_zero,List.take_nil,List.drop_nil,Nat.reduceAdd,Nat.reduceSub,Nat.reduceMul,Nat.reduceEqDiff,Nat.reduceLT,Nat.reduceLeDiff,Nat.zero_add,Nat.add_zero,Nat.sub_self,Nat.sub_zero,Nat.one_mul,Nat.mul_one,Nat.zero_mul,joinS,manyS,List.flatten_cons,List.flatten_nil,eq_self,ite_true,if_true,if_false,↓reduceIte,reduceCtorEq,Int.reduceToNat])
   refine GXL.append (t:=56) (x:=.tmp 68) (y:=.tmp 69) (po:=.slice none 0 0) (m:=N+1) (n:=0) rfl rfl rfl rfl rfl rfl rfl (by decide) rfl (by decide) rfl rfl rfl ?_ (Nat.succ_ne_zero _) ?_ (vars_of rfl) hown (fun z hz=>⟨(hfr z hz).1,(hfr z hz).1,(hfr z hz).2.1,(hfr z hz).2.2⟩) ?_
   ·show segN [.gen (N+1) T]=(N+1)*1
    simp[segN,Seg.n]
   ·show(0+(N+1))*24≤_
    omega
   intro S' w0' v' w1 ns f1 f2 f3 f4 f5 f6 f7 f8 f9 f10 f11 f12 f13 f14
   rw[Nat.zero_add]at f7
   obtain⟨ad',cp',rfl⟩:=ownsRow_form f7
   have F1:=Lib.hid f1;have F2:=Lib.hid f2;have F3:=Lib.hid f3;have F4:=Lib.hid f4;have F5:=Lib.hid f5;have F6:=Lib.hid f6;have F7:=Lib.hid f7;have F8:=Lib.hid f8;have F9:=Lib.hid f9;have F10:=Lib.hid f10;have F11:=Lib.hid f11;have F12:=Lib.hid f12;have F13:=Lib.hid f13;have F14:=Lib.hid f14
   clear f1 f2 f3 f4 f5 f6 f7 f8 f9 f10 f11 f12 f13 f14
   (conv=>arg 7;simp only[Seg.n,wn1,wn2,wn3,wn4,wn5,wn6,wn7,wn8,wn9,wn10,wn11,wn12,wn13,wn14,wn15,wn16,Int.reduceAdd,Int.zero_add,Seg.cell,Seg.sub,List.set_nil,isAlloc,trimH,List.take_append_drop,St.app,St.app2,St.ev,List.getD_cons_zero,List.getD_cons_succ,List.getD_nil,St.sl,St.bk,tiInt,tiBool,tiSl,tiArr,tiStruct,weaken,keepT,List.set_cons_zero,List.set_cons_succ,List.length_cons,List.length_nil,List.cons_append,List.nil_append,List.append_nil,List.map_cons,List.map_nil,List.replicate_succ,List.replicate_zero,List.take_succ_cons,List.take_zero,List.drop_succ_cons,List.drop_zero,List.take_nil,List.drop_nil,Nat.reduceAdd,Nat.reduceSub,Nat.reduceMul,Nat.reduceEqDiff,Nat.reduceLT,Nat.reduceLeDiff,Nat.zero_add,Nat.add_zero,Nat.sub_self,Nat.sub_zero,Nat.one_mul,Nat.mul_one,Nat.zero_mul,joinS,manyS,List.flatten_cons,List.flatten_nil,eq_self,ite_true,if_true,if_false,↓reduceIte,reduceCtorEq,Int.reduceToNat])
   refine GXL.last ?_
   refine agow ?_;(try exact⟨⟩)
   (conv=>arg 6;simp only[Seg.n,wn1,wn2,wn3,wn4,wn5,wn6,wn7,wn8,wn9,wn10,wn11,wn12,wn13,wn14,wn15,wn16,Int.reduceAdd,Int.zero_add,Seg.cell,Seg.sub,List.set_nil,isAlloc,trimH,List.take_append_drop,St.app,St.app2,St.ev,List.getD_cons_zero,List.getD_cons_succ,List.getD_nil,St.sl,St.bk,tiInt,tiBool,tiSl,tiArr,tiStruct,weaken,keepT,List.set_cons_zero,List.set_cons_succ,List.length_cons,List.length_nil,List.cons_append,List.nil_append,List.append_nil,List.map_cons,List.map_nil,List.replicate_succ,List.replicate_zero,List.take_succ_cons,List.take_zero,List.drop_succ_cons,List.drop_zero,List.take_nil,List.drop_nil,Nat.reduceAdd,Nat.reduceSub,Nat.reduceMul,Nat.reduceEqDiff,Nat.reduceLT,Nat.reduceLeDiff,Nat.zero_add,Nat.add_zero,Nat.sub_self,Nat.sub_zero,Nat.one_mul,Nat.mul_one,Nat.zero_mul,joinS,manyS,List.flatten_cons,List.flatten_nil,eq_self,ite_true,if_true,if_false,↓reduceIte,reduceCtorEq,Int.reduceToNat])
   (refine GX.seqH fun y1 hy=>?_);(have HY:=Lib.hid hy);clear hy
   refine agow ?_;(try exact⟨⟩)
   (rw[HY.out];clear HY;(conv=>arg 6;simp only[Seg.n,wn1,wn2,wn3,wn4,wn5,wn6,wn7,wn8,wn9,wn10,wn11,wn12,wn13,wn14,wn15,wn16,Int.reduceAdd,Int.zero_add,Seg.cell,Seg.sub,List.set_nil,isAlloc,trimH,List.take_append_drop,St.app,St.app2,St.ev,List.getD_cons_zero,List.getD_cons_succ,List.getD_nil,St.sl,St.bk,tiInt,tiBool,tiSl,tiArr,tiStruct,weaken,keepT,List.set_cons_zero,List.set_cons_succ,List.length_cons,List.length_nil,List.cons_append,List.nil_append,List.append_nil,List.map_cons,List.map_nil,List.replicate_succ,List.replicate_zero,List.take_succ_cons,List.take_zero,List.drop_succ_cons,List.drop_zero,List.take_nil,List.drop_nil,Nat.reduceAdd,Nat.reduceSub,Nat.reduceMul,Nat.reduceEqDiff,Nat.reduceLT,Nat.reduceLeDiff,Nat.zero_add,Nat.add_zero,Nat.sub_self,Nat.sub_zero,Nat.one_mul,Nat.mul_one,Nat.zero_mul,joinS,manyS,List.flatten_cons,List.flatten_nil,eq_self,ite_true,if_true,if_false,↓reduceIte,reduceCtorEq,Int.reduceToNat]))
   refine GX.of ?_
   refine agow ?_;(try exact⟨⟩)
   rw[HQ.out]
   refine GQ.fin (tm:=4) (x:=.int .i64 0) (po:=.slice none 0 0) rfl rfl rfl (.inr rfl) hr F1.out F2.out F3.out F4.out F5.out F6.out F7.out F8.out F9.out F10.out F11.out F12.out F13.out ?_
   intro w2 g1 g2 g3 g4 g5
   exact HR.out w2 _ ns T HT.out g1 (by rw[Nat.zero_add];exact g2) g3 g4 g5
  ·(refine GX.seqH fun y1 hy=>?_);(have HY:=Lib.hid hy);clear hy
   refine agow ?_;(try exact⟨⟩)
   (rw[HY.out];clear HY;(conv=>arg 6;simp only[Seg.n,wn1,wn2,wn3,wn4,wn5,wn6,wn7,wn8,wn9,wn10,wn11,wn12,wn13,wn14,wn15,wn16,Int.reduceAdd,Int.zero_add,Seg.cell,Seg.sub,List.set_nil,isAlloc,trimH,List.take_append_drop,St.app,St.app2,St.ev,List.getD_cons_zero,List.getD_cons_succ,List.getD_nil,St.sl,St.bk,tiInt,tiBool,tiSl,tiArr,tiStruct,weaken,keepT,List.set_cons_zero,List.set_cons_succ,List.length_cons,List.length_nil,List.cons_append,List.nil_append,List.append_nil,List.map_cons,List.map_nil,List.replicate_succ,List.replicate_zero,List.take_succ_cons,List.take_zero,List.drop_succ_cons,List.drop_zero,List.take_nil,List.drop_nil,Nat.reduceAdd,Nat.reduceSub,Nat.reduceMul,Nat.reduceEqDiff,Nat.reduceLT,Nat.reduceLeDiff,Nat.zero_add,Nat.add_zero,Nat.sub_self,Nat.sub_zero,Nat.one_mul,Nat.mul_one,Nat.zero_mul,joinS,manyS,List.flatten_cons,List.flatten_nil,eq_self,ite_true,if_true,if_false,↓reduceIte,reduceCtorEq,Int.reduceToNat]))
   (refine GX.seqH fun y1 hy=>?_);(have HY:=Lib.hid hy);clear hy
   refine agow ?_;(try exact⟨⟩)
   intro M T hM hT
   obtain rfl:M=N+1:=hM
   have hT':T=letL c W N:=hT
   clear hT
   have HT:=Lib.hid hT'
   clear hT'
   refine agow ?_;(try exact⟨⟩)
   (rw[HY.out];clear HY;(conv=>arg 6;simp only[Seg.n,wn1,wn2,wn3,wn4,wn5,wn6,wn7,wn8,wn9,wn10,wn11,wn12,wn13,wn14,wn15,wn16,Int.reduceAdd,Int.zero_add,Seg.cell,Seg.sub,List.set_nil,isAlloc,trimH,List.take_append_drop,St.app,St.app2,St.ev,List.getD_cons_zero,List.getD_cons_succ,List.getD_nil,St.sl,St.bk,tiInt,tiBool,tiSl,tiArr,tiStruct,weaken,keepT,List.set_cons_zero,List.set_cons_succ,List.length_cons,List.length_nil,List.cons_append,List.nil_append,List.append_nil,List.map_cons,List.map_nil,List.replicate_succ,List.replicate_zero,List.take_succ_cons,List.take_zero,List.drop_succ_cons,List.drop_zero,List.take_nil,List.drop_nil,Nat.reduceAdd,Nat.reduceSub,Nat.reduceMul,Nat.reduceEqDiff,Nat.reduceLT,Nat.reduceLeDiff,Nat.zero_add,Nat.add_zero,Nat.sub_self,Nat.sub_zero,Nat.one_mul,Nat.mul_one,Nat.zero_mul,joinS,manyS,List.flatten_cons,List.flatten_nil,eq_self,ite_true,if_true,if_false,↓reduceIte,reduceCtorEq,Int.reduceToNat]))
   (refine GX.seqH fun y1 hy=>?_);(have HY:=Lib.hid hy);clear hy
   refine agow ?_;(try exact⟨⟩)
   (rw[HY.out];clear HY;(conv=>arg 6;simp only[Seg.n,wn1,wn2,wn3,wn4,wn5,wn6,wn7,wn8,wn9,wn10,wn11,wn12,wn13,wn14,wn15,wn16,Int.reduceAdd,Int.zero_add,Seg.cell,Seg.sub,List.set_nil,isAlloc,trimH,List.take_append_drop,St.app,St.app2,St.ev,List.getD_cons_zero,List.getD_cons_succ,List.getD_nil,St.sl,St.bk,tiInt,tiBool,tiSl,tiArr,tiStruct,weaken,keepT,List.set_cons_zero,List.set_cons_succ,List.length_cons,List.length_nil,List.cons_append,List.nil_append,List.append_nil,List.map_cons,List.map_nil,List.replicate_succ,List.replicate_zero,List.take_succ_cons,List.take_zero,List.drop_succ_cons,List.drop_zero,List.take_nil,List.drop_nil,Nat.reduceAdd,Nat.reduceSub,Nat.reduceMul,Nat.reduceEqDiff,Nat.reduceLT,Nat.reduceLeDiff,Nat.zero_add,Nat.add_zero,Nat.sub_self,Nat.sub_zero,Nat.one_mul,Nat.mul_one,Nat.zero_mul,joinS,manyS,List.flatten_cons,List.flatten_nil,eq_self,ite_true,if_true,if_false,↓reduceIte,reduceCtorEq,Int.reduceToNat]))
   refine GX.region (GXL.preN 6 ?_)
   refine agow ?_;(try exact⟨⟩)
   (conv=>arg 7;simp only[Seg.n,wn1,wn2,wn3,wn4,wn5,wn6,wn7,wn8,wn9,wn10,wn11,wn12,wn13,wn14,wn15,wn16,Int.reduceAdd,Int.zero_add,Seg.cell,Seg.sub,List.set_nil,isAlloc,trimH,List.take_append_drop,St.app,St.app2,St.ev,List.getD_cons_zero,List.getD_cons_succ,List.getD_nil,St.sl,St.bk,tiInt,tiBool,tiSl,tiArr,tiStruct,weaken,keepT,List.set_cons_zero,List.set_cons_succ,List.length_cons,List.length_nil,List.cons_append,List.nil_append,List.append_nil,List.map_cons,List.map_nil,List.replicate_succ,List.replicate_zero,List.take_succ_cons,List.take_zero,List.drop_succ_cons,List.drop_zero,List.take_nil,List.drop_nil,Nat.reduceAdd,Nat.reduceSub,Nat.reduceMul,Nat.reduceEqDiff,Nat.reduceLT,Nat.reduceLeDiff,Nat.zero_add,Nat.add_zero,Nat.sub_self,Nat.sub_zero,Nat.one_mul,Nat.mul_one,Nat.zero_mul,joinS,manyS,List.flatten_cons,List.flatten_nil,eq_self,ite_true,if_true,if_false,↓reduceIte,reduceCtorEq,Int.reduceToNat])
   refine GXL.append (t:=56) (x:=.tmp 68) (y:=.tmp 69) (po:=.slice (some ad) k cp) (m:=N+1) (n:=k) rfl rfl rfl rfl rfl rfl rfl (by decide) rfl (by decide) rfl rfl rfl ?_ (Nat.succ_ne_zero _) ?_ (vars_of rfl) hown (fun z hz=>⟨(hfr z hz).1,(hfr z hz).1,(hfr z hz).2.1,(hfr z hz).2.2⟩) ?_
   ·show segN [.gen (N+1) T]=(N+1)*1
    simp[segN,Seg.n]
   ·show(k+(N+1))*24≤_
    omega
   intro S' w0' v' w1 ns f1 f2 f3 f4 f5 f6 f7 f8 f9 f10 f11 f12 f13 f14
   obtain⟨ad',cp',rfl⟩:=ownsRow_form f7
   have F1:=Lib.hid f1;have F2:=Lib.hid f2;have F3:=Lib.hid f3;have F4:=Lib.hid f4;have F5:=Lib.hid f5;have F6:=Lib.hid f6;have F7:=Lib.hid f7;have F8:=Lib.hid f8;have F9:=Lib.hid f9;have F10:=Lib.hid f10;have F11:=Lib.hid f11;have F12:=Lib.hid f12;have F13:=Lib.hid f13;have F14:=Lib.hid f14
   clear f1 f2 f3 f4 f5 f6 f7 f8 f9 f10 f11 f12 f13 f14
   (conv=>arg 7;simp only[Seg.n,wn1,wn2,wn3,wn4,wn5,wn6,wn7,wn8,wn9,wn10,wn11,wn12,wn13,wn14,wn15,wn16,Int.reduceAdd,Int.zero_add,Seg.cell,Seg.sub,List.set_nil,isAlloc,trimH,List.take_append_drop,St.app,St.app2,St.ev,List.getD_cons_zero,List.getD_cons_succ,List.getD_nil,St.sl,St.bk,tiInt,tiBool,tiSl,tiArr,tiStruct,weaken,keepT,List.set_cons_zero,List.set_cons_succ,List.length_cons,List.length_nil,List.cons_append,List.nil_append,List.append_nil,List.map_cons,List.map_nil,List.replicate_succ,List.replicate_zero,List.take_succ_cons,List.take_zero,List.drop_succ_cons,List.drop_zero,List.take_nil,List.drop_nil,Nat.reduceAdd,Nat.reduceSub,Nat.reduceMul,Nat.reduceEqDiff,Nat.reduceLT,Nat.reduceLeDiff,Nat.zero_add,Nat.add_zero,Nat.sub_self,Nat.sub_zero,Nat.one_mul,Nat.mul_one,Nat.zero_mul,joinS,manyS,List.flatten_cons,List.flatten_nil,eq_self,ite_true,if_true,if_false,↓reduceIte,reduceCtorEq,Int.reduceToNat])
   refine GXL.last ?_
   refine agow ?_;(try exact⟨⟩)
   (conv=>arg 6;simp only[Seg.n,wn1,wn2,wn3,wn4,wn5,wn6,wn7,wn8,wn9,wn10,wn11,wn12,wn13,wn14,wn15,wn16,Int.reduceAdd,Int.zero_add,Seg.cell,Seg.sub,List.set_nil,isAlloc,trimH,List.take_append_drop,St.app,St.app2,St.ev,List.getD_cons_zero,List.getD_cons_succ,List.getD_nil,St.sl,St.bk,tiInt,tiBool,tiSl,tiArr,tiStruct,weaken,keepT,List.set_cons_zero,List.set_cons_succ,List.length_cons,List.length_nil,List.cons_append,List.nil_append,List.append_nil,List.map_cons,List.map_nil,List.replicate_succ,List.replicate_zero,List.take_succ_cons,List.take_zero,List.drop_succ_cons,List.drop_zero,List.take_nil,List.drop_nil,Nat.reduceAdd,Nat.reduceSub,Nat.reduceMul,Nat.reduceEqDiff,Nat.reduceLT,Nat.reduceLeDiff,Nat.zero_add,Nat.add_zero,Nat.sub_self,Nat.sub_zero,Nat.one_mul,Nat.mul_one,Nat.zero_mul,joinS,manyS,List.flatten_cons,List.flatten_nil,eq_self,ite_true,if_true,if_false,↓reduceIte,reduceCtorEq,Int.reduceToNat])
   (refine GX.seqH fun y1 hy=>?_);(have HY:=Lib.hid hy);clear hy
   refine agow ?_;(try exact⟨⟩)
   (rw[HY.out];clear HY;(conv=>arg 6;simp only[Seg.n,wn1,wn2,wn3,wn4,wn5,wn6,wn7,wn8,wn9,wn10,wn11,wn12,wn13,wn14,wn15,wn16,Int.reduceAdd,Int.zero_add,Seg.cell,Seg.sub,List.set_nil,isAlloc,trimH,List.take_append_drop,St.app,St.app2,St.ev,List.getD_cons_zero,List.getD_cons_succ,List.getD_nil,St.sl,St.bk,tiInt,tiBool,tiSl,tiArr,tiStruct,weaken,keepT,List.set_cons_zero,List.set_cons_succ,List.length_cons,List.length_nil,List.cons_append,List.nil_append,List.append_nil,List.map_cons,List.map_nil,List.replicate_succ,List.replicate_zero,List.take_succ_cons,List.take_zero,List.drop_succ_cons,List.drop_zero,List.take_nil,List.drop_nil,Nat.reduceAdd,Nat.reduceSub,Nat.reduceMul,Nat.reduceEqDiff,Nat.reduceLT,Nat.reduceLeDiff,Nat.zero_add,Nat.add_zero,Nat.sub_self,Nat.sub_zero,Nat.one_mul,Nat.mul_one,Nat.zero_mul,joinS,manyS,List.flatten_cons,List.flatten_nil,eq_self,ite_true,if_true,if_false,↓reduceIte,reduceCtorEq,Int.reduceToNat]))
   refine GX.of ?_
   refine agow ?_;(try exact⟨⟩)
   rw[HQ.out]
   refine GQ.fin (tm:=4) (x:=.int .i64 0) (po:=.slice (some ad) k cp) rfl rfl rfl (.inr rfl) hr F1.out F2.out F3.out F4.out F5.out F6.out F7.out F8.out F9.out F10.out F11.out F12.out F13.out ?_
   intro w2 g1 g2 g3 g4 g5
   exact HR.out w2 _ ns T HT.out g1 g2 g3 g4 g5
end
section
open Pm
attribute [local irreducible] condK LoopA regA powI scal mulI isI fourB deriveW numB numsB bodyB nodeW nextW viewHV doR chkV planL sealB boxD keyZ helD commonI placeI apE doP comE comP nextP joinP upW lefW tagE welSegs welF welN createP enterP mayB commitB commitN okW wN wB letL wlN wlB mayW allW paperV vN vZ
theorem GQ.one{E:EnvX}{S:Nat→Prop}{w:World}{s:St}{r tm:Nat}{fn:Func}{R:Ending→World→Prop}{x:Value}{l':List Seg}{ex:Exit}(hfn:fn.results=[ResultVar.tmp tm].toArray)(hx:s.sl tm=.d (.v x))(hb:s.bk 0=some (.var l'))(he:ex=.normal∨ex=.ret)
  (hR:∀w2,HB (fun z=>(S z∨w.heap.size≤z)∧z≠r) w2 r (.var l')→w.grownBy w2 (some r)→R (.returned x) w2):
  GQ E S w.heap.size (⟨w,fun q=>q=r,some r,[]⟩:W0 E.G) s (fun a' w'=>(ex=.normal∨ex=.ret)∧a'.defers=[]∧∃v,(results fn a'.tmps).run E.P w'=.ok v w'∧R (.returned v) w'):=by
 refine⟨fun ρ a w2 g=>⟨he,g.defs,x,?_,?_⟩⟩
 ·have h1:=g.ev (.tmp tm)
  rw[show s.ev (.tmp tm)=.d (.v x)from hx]at h1
  have h2:a.tmps.getD tm undef=x:=RA.plain h1
  rw[←h2]
  exact run_results1 hfn rfl
 ·have hpin:=g.pin r rfl
  have hB:=g.b 0
  rw[hb]at hB
  obtain⟨r',cs',t,h1,_,h2,h3⟩:=hB
  rw[hpin]at h1;cases h1
  exact hR w2 ⟨cs',t,h2,h3.up ⟨Nat.le_refl _,fun z _ hz=>⟨⟨hz.1,fun e=>hz.2 0 _ hpin (by rw[e];rfl)⟩,fun _=>rfl⟩⟩⟩ ⟨g.bel.os,g.bel.tape,g.bel.output,g.bel.size,fun z hz hn=>g.bel.block z hz fun e=>hn (by rw[e])⟩
set_option maxHeartbeats 8000000 in
theorem wcommitDE_walk{S:Nat→Prop}{w:World}{r:Nat}{n:Int}{l:List A}{i:Nat}{po v17:Value}{L:List Ap}{y:A}{p:PS}{o:Nat}{ops:List Int}{P:List UInt8}{m:Nat}{vz:List Int}{nn fr dr er:Int}{vs:List Value}
  (hr:r<w.heap.size)(hG:GOK gTab (fun z=>S z∧z≠r) w)(hB:HB (fun z=>S z∧z≠r) w r (.var (wdV n 1 l (.v po) (.v v17))))(hi:i<8)(hl:l.getD i (.v undef)=.sref (pSegs p) 0)(hlf:leafB p.lf=true)
  (hL:L.length≤1000000)(ho17:w.ownsRow 0 108 35 v17 L.length (apsC L))(hl17:∀x∈L,x.p.length=32)(h17:∀z,v17.ownBlock=some z→z≠r)(ho:o≠0)(ho1:o≤3000)(hP:P=paperV p.e p.zs p.ad p.k p.ch p.lf ops)(hmv:m=vN L P 8)(hvz:vz=vZ L P 8)
  (hE:comE p o ops m vz=er)(hne:er≠0)
  {R:Ending→World→Prop}(hR:∀w2,HB (fun z=>(S z∨w.heap.size≤z)∧z≠r) w2 r (.var (wdV n 1 l (.v po) (.v v17)))→w.grownBy w2 (some r)→R (.returned (.int .i64 er)) w2)
  (ha:RAs (fun z=>S z∧z≠r) w [.agg [.ints .i64 4 [2,(i:Nat),nn,fr],.gen 1 [.row o [.ints .i64 (o*5) ops]],.ints .i64 1 [dr],.gen 1 [y]]] vs):
  Calls Tryz.prog 24 (vs.insertIdx 0 (.pointer (some ⟨r,0,none⟩))).toArray w R:=by
 have HR:=Lib.hid hR
 clear hR
 refine calls_lent (E:=envWi5) (n:=80) Tryz.func24 Tryz.ntmps24 rfl (by exact Nat.le_of_ble_eq_true rfl) (by exact Nat.zero_le _) (by intro _ _ _ _ h;cases h) (by(conv=>lhs;simp only[List.insertIdx_zero,Seg.n,wn1,wn2,wn3,wn4,wn5,wn6,wn7,wn8,wn9,wn10,wn11,wn12,wn13,wn14,wn15,wn16,Int.reduceAdd,Int.zero_add,Seg.cell,Seg.sub,List.set_nil,isAlloc,trimH,List.take_append_drop,St.app,St.app2,St.ev,List.getD_cons_zero,List.getD_cons_succ,List.getD_nil,St.sl,St.bk,tiInt,tiBool,tiSl,tiArr,tiStruct,weaken,keepT,List.set_cons_zero,List.set_cons_succ,List.length_cons,List.length_nil,List.cons_append,List.nil_append,List.append_nil,List.map_cons,List.map_nil,List.replicate_succ,List.replicate_zero,List.take_succ_cons,List.take_zero,List.drop_succ_cons,List.drop_zero,List.take_nil,List.drop_nil,Nat.reduceAdd,Nat.reduceSub,Nat.reduceMul,Nat.reduceEqDiff,Nat.reduceLT,Nat.reduceLeDiff,Nat.zero_add,Nat.add_zero,Nat.sub_self,Nat.sub_zero,Nat.one_mul,Nat.mul_one,Nat.zero_mul,joinS,manyS,List.flatten_cons,List.flatten_nil,eq_self,ite_true,if_true,if_false,↓reduceIte,reduceCtorEq,Int.reduceToNat])) hr hG hB ha ?_
 unfold wdV
 obtain⟨Q,hQ⟩:∃Q:Exit→Act→World→Prop,Q=(fun e a' w'=>(e=.normal∨e=.ret)∧a'.defers=[]∧∃v,(results Tryz.f24 a'.tmps).run envWi5.P w'=.ok v w'∧R (.returned v) w'):=⟨_,rfl⟩
 rw[←hQ]
 have HQ:=Lib.hid hQ
 clear hQ
 (conv=>arg 6;simp only[Seg.n,wn1,wn2,wn3,wn4,wn5,wn6,wn7,wn8,wn9,wn10,wn11,wn12,wn13,wn14,wn15,wn16,Int.reduceAdd,Int.zero_add,Seg.cell,Seg.sub,List.set_nil,isAlloc,trimH,List.take_append_drop,St.app,St.app2,St.ev,List.getD_cons_zero,List.getD_cons_succ,List.getD_nil,St.sl,St.bk,tiInt,tiBool,tiSl,tiArr,tiStruct,weaken,keepT,List.set_cons_zero,List.set_cons_succ,List.length_cons,List.length_nil,List.cons_append,List.nil_append,List.append_nil,List.map_cons,List.map_nil,List.replicate_succ,List.replicate_zero,List.take_succ_cons,List.take_zero,List.drop_succ_cons,List.drop_zero,List.take_nil,List.drop_nil,Nat.reduceAdd,Nat.reduceSub,Nat.reduceMul,Nat.reduceEqDiff,Nat.reduceLT,Nat.reduceLeDiff,Nat.zero_add,Nat.add_zero,Nat.sub_self,Nat.sub_zero,Nat.one_mul,Nat.mul_one,Nat.zero_mul,joinS,manyS,List.flatten_cons,List.flatten_nil,eq_self,ite_true,if_true,if_false,↓reduceIte,reduceCtorEq,Int.reduceToNat])
 (refine GX.seqH fun y1 hy=>?_);(have HY:=Lib.hid hy);clear hy
 refine agow ?_;(try exact⟨⟩)
 (rw[HY.out];clear HY;(conv=>arg 6;simp only[Seg.n,wn1,wn2,wn3,wn4,wn5,wn6,wn7,wn8,wn9,wn10,wn11,wn12,wn13,wn14,wn15,wn16,Int.reduceAdd,Int.zero_add,Seg.cell,Seg.sub,List.set_nil,isAlloc,trimH,List.take_append_drop,St.app,St.app2,St.ev,List.getD_cons_zero,List.getD_cons_succ,List.getD_nil,St.sl,St.bk,tiInt,tiBool,tiSl,tiArr,tiStruct,weaken,keepT,List.set_cons_zero,List.set_cons_succ,List.length_cons,List.length_nil,List.cons_append,List.nil_append,List.append_nil,List.map_cons,List.map_nil,List.replicate_succ,List.replicate_zero,List.take_succ_cons,List.take_zero,List.drop_succ_cons,List.drop_zero,List.take_nil,List.drop_nil,Nat.reduceAdd,Nat.reduceSub,Nat.reduceMul,Nat.reduceEqDiff,Nat.reduceLT,Nat.reduceLeDiff,Nat.zero_add,Nat.add_zero,Nat.sub_self,Nat.sub_zero,Nat.one_mul,Nat.mul_one,Nat.zero_mul,joinS,manyS,List.flatten_cons,List.flatten_nil,eq_self,ite_true,if_true,if_false,↓reduceIte,reduceCtorEq,Int.reduceToNat]))
 (refine GX.seqH fun y1 hy=>?_);(have HY:=Lib.hid hy);clear hy
 refine agow ?_;(try exact⟨⟩)
 (rw[HY.out];clear HY;(conv=>arg 6;simp only[Seg.n,wn1,wn2,wn3,wn4,wn5,wn6,wn7,wn8,wn9,wn10,wn11,wn12,wn13,wn14,wn15,wn16,Int.reduceAdd,Int.zero_add,Seg.cell,Seg.sub,List.set_nil,isAlloc,trimH,List.take_append_drop,St.app,St.app2,St.ev,List.getD_cons_zero,List.getD_cons_succ,List.getD_nil,St.sl,St.bk,tiInt,tiBool,tiSl,tiArr,tiStruct,weaken,keepT,List.set_cons_zero,List.set_cons_succ,List.length_cons,List.length_nil,List.cons_append,List.nil_append,List.append_nil,List.map_cons,List.map_nil,List.replicate_succ,List.replicate_zero,List.take_succ_cons,List.take_zero,List.drop_succ_cons,List.drop_zero,List.take_nil,List.drop_nil,Nat.reduceAdd,Nat.reduceSub,Nat.reduceMul,Nat.reduceEqDiff,Nat.reduceLT,Nat.reduceLeDiff,Nat.zero_add,Nat.add_zero,Nat.sub_self,Nat.sub_zero,Nat.one_mul,Nat.mul_one,Nat.zero_mul,joinS,manyS,List.flatten_cons,List.flatten_nil,eq_self,ite_true,if_true,if_false,↓reduceIte,reduceCtorEq,Int.reduceToNat]))
 rw[hl]
 (refine GX.seqH fun y1 hy=>?_);(have HY:=Lib.hid hy);clear hy
 refine agow ?_;(try exact⟨⟩)
 (rw[HY.out];clear HY;(conv=>arg 6;simp only[Seg.n,wn1,wn2,wn3,wn4,wn5,wn6,wn7,wn8,wn9,wn10,wn11,wn12,wn13,wn14,wn15,wn16,Int.reduceAdd,Int.zero_add,Seg.cell,Seg.sub,List.set_nil,isAlloc,trimH,List.take_append_drop,St.app,St.app2,St.ev,List.getD_cons_zero,List.getD_cons_succ,List.getD_nil,St.sl,St.bk,tiInt,tiBool,tiSl,tiArr,tiStruct,weaken,keepT,List.set_cons_zero,List.set_cons_succ,List.length_cons,List.length_nil,List.cons_append,List.nil_append,List.append_nil,List.map_cons,List.map_nil,List.replicate_succ,List.replicate_zero,List.take_succ_cons,List.take_zero,List.drop_succ_cons,List.drop_zero,List.take_nil,List.drop_nil,Nat.reduceAdd,Nat.reduceSub,Nat.reduceMul,Nat.reduceEqDiff,Nat.reduceLT,Nat.reduceLeDiff,Nat.zero_add,Nat.add_zero,Nat.sub_self,Nat.sub_zero,Nat.one_mul,Nat.mul_one,Nat.zero_mul,joinS,manyS,List.flatten_cons,List.flatten_nil,eq_self,ite_true,if_true,if_false,↓reduceIte,reduceCtorEq,Int.reduceToNat]))
 (refine GX.seqH fun y1 hy=>?_);(have HY:=Lib.hid hy);clear hy
 refine agow ?_;(try exact⟨⟩)
 intro d hd
 obtain rfl:d=drawW dr:=hd
 refine agow ?_;(try exact⟨⟩)
 (rw[HY.out];clear HY;(conv=>arg 6;simp only[Seg.n,wn1,wn2,wn3,wn4,wn5,wn6,wn7,wn8,wn9,wn10,wn11,wn12,wn13,wn14,wn15,wn16,Int.reduceAdd,Int.zero_add,Seg.cell,Seg.sub,List.set_nil,isAlloc,trimH,List.take_append_drop,St.app,St.app2,St.ev,List.getD_cons_zero,List.getD_cons_succ,List.getD_nil,St.sl,St.bk,tiInt,tiBool,tiSl,tiArr,tiStruct,weaken,keepT,List.set_cons_zero,List.set_cons_succ,List.length_cons,List.length_nil,List.cons_append,List.nil_append,List.append_nil,List.map_cons,List.map_nil,List.replicate_succ,List.replicate_zero,List.take_succ_cons,List.take_zero,List.drop_succ_cons,List.drop_zero,List.take_nil,List.drop_nil,Nat.reduceAdd,Nat.reduceSub,Nat.reduceMul,Nat.reduceEqDiff,Nat.reduceLT,Nat.reduceLeDiff,Nat.zero_add,Nat.add_zero,Nat.sub_self,Nat.sub_zero,Nat.one_mul,Nat.mul_one,Nat.zero_mul,joinS,manyS,List.flatten_cons,List.flatten_nil,eq_self,ite_true,if_true,if_false,↓reduceIte,reduceCtorEq,Int.reduceToNat]))
 refine GX.more 4 ?_
 (conv=>arg 6;simp only[Seg.n,wn1,wn2,wn3,wn4,wn5,wn6,wn7,wn8,wn9,wn10,wn11,wn12,wn13,wn14,wn15,wn16,Int.reduceAdd,Int.zero_add,Seg.cell,Seg.sub,List.set_nil,isAlloc,trimH,List.take_append_drop,St.app,St.app2,St.ev,List.getD_cons_zero,List.getD_cons_succ,List.getD_nil,St.sl,St.bk,tiInt,tiBool,tiSl,tiArr,tiStruct,weaken,keepT,List.set_cons_zero,List.set_cons_succ,List.length_cons,List.length_nil,List.cons_append,List.nil_append,List.append_nil,List.map_cons,List.map_nil,List.replicate_succ,List.replicate_zero,List.take_succ_cons,List.take_zero,List.drop_succ_cons,List.drop_zero,List.take_nil,List.drop_nil,Nat.reduceAdd,Nat.reduceSub,Nat.reduceMul,Nat.reduceEqDiff,Nat.reduceLT,Nat.reduceLeDiff,Nat.zero_add,Nat.add_zero,Nat.sub_self,Nat.sub_zero,Nat.one_mul,Nat.mul_one,Nat.zero_mul,joinS,manyS,List.flatten_cons,List.flatten_nil,eq_self,ite_true,if_true,if_false,↓reduceIte,reduceCtorEq,Int.reduceToNat])
 refine GX.drawn (comT p o ops m vz (drawW dr) cZero (.v (.slice none 0 0)) (.v (.pointer none)) er) 112 43 cZero 15 16 3 [[],[],[1],[],[],[],[5],[3,4,6],[],[0,2,7,8],[9],[10],[10],[10],[10],[],[15,11],[12],[13],[14]] (by kernel_rfl) (by kernel_rfl) rfl (Nat.le_of_ble_eq_true rfl) (Nat.le_of_ble_eq_true rfl) (Nat.le_of_ble_eq_true rfl) ?_ ?_
 ·intro ρ a w1 g
  have hlen:a.tmps.size=80:=g.len.symm
  obtain⟨A0,ca,ta,ra,_,ba,la⟩:=g.var (b:=1) rfl
  obtain⟨A6,c6,t6,r6,_,b6,l6⟩:=g.var (b:=2) rfl
  have r0:=g.pin r rfl
  have x0:=g.t 0 (by omega) _ r0
  have x3:=g.t 3 (by omega) _ ra
  have x5:=g.t 5 (by omega)
  have x6:=g.t 6 (by omega) _ r6
  obtain⟨ca1,ca2,eca,lca,lcb,_⟩:=la.head
  obtain⟨cb1,cb2,ecb,lcc,lcd,_⟩:=lcb.head
  obtain⟨_,eca1⟩:=lca.toInts
  obtain⟨gc,qc⟩:=lcc.toGen
  cases qc with
  |cons hvo h1v h2v=>
   cases h2v
   obtain⟨va,vn,vc,rfl⟩:=ra_row_slice hvo
   have c4:w1.cell? ⟨A0,4,none⟩=some (.slice va vn vc):=by
    have hb:Blk w1 A0 ca.toArray ta:=ba
    rw[hb.cell,List.getElem?_toArray,eca,ecb,eca1];rfl
   have hc6:c6=HL (drawW dr):=by
    obtain⟨d1,d2,ed,ld,le,_⟩:=l6.head
    obtain⟨_,rfl⟩:=ld.toBytes
    cases le.nil_inv
    rw[ed,List.append_nil]
   have hd32:(drawW dr).length=32:=drawW_len dr
   have h6:Blk w1 A6 (HC (drawW dr)) t6:=by have:=b6;rw[hc6]at this;exact this
   obtain⟨r0',c0,t0,q0,_,b0,l0⟩:=g.var (b:=0) rfl
   have hG1:GOK gTab (Dt S w.heap.size ρ) w1:=g.glob
   have hbel:∀z,z<w.heap.size→z≠r→w1.heap[z]?=w.heap[z]?:=fun z hz hn=>g.bel.block z hz hn
   have hws:w.heap.size≤w1.heap.size:=g.bel.size
   rw[r0]at q0
   obtain rfl:r0'=r:=by simpa using q0.symm
   have hx5:RA (Dt S w.heap.size ρ) w1 (.sref (pSegs p) 0) (a.eval (.tmp 5)):=x5
   have y0:a.eval (.tmp 0)=.pointer (some ⟨r0',0,none⟩):=by obtain⟨z,h1,h2⟩:=x0;cases h1.ptr;exact h2
   have y3:a.eval (.tmp 3)=.pointer (some ⟨A0,0,none⟩):=by obtain⟨z,h1,h2⟩:=x3;cases h1.ptr;exact h2
   have y6:a.eval (.tmp 6)=.pointer (some ⟨A6,0,none⟩):=by obtain⟨z,h1,h2⟩:=x6;cases h1.ptr;exact h2
   have hm8:m≤3000:=by have:=vN_le L P 8;rw[←hmv]at this;omega
   clear x0 x3 x5 x6 g ra r6 r0 q0 HQ HR Q
   refine⟨comT2 r0' A0 (comT p o ops m vz (drawW dr) cZero (.v (.slice none 0 0)) (.v (.pointer none)) er),comT2_or,?_⟩
   refine commit_obs hlen hG1 hlf ho1 hm8 y0 y3 hx5 y6 (Array.getElem?_eq_some_iff.1 ba).1 c4 hvo h6 hd32 ?_ ?_ (show segN cZero=43 from rfl)
   ·intro wj v4 v6 D' hbj h4' h6'
    have hvv:RA (fun _=>True) wj (.recs L.length 35 (apF L)) v17:=apsRA (own_keep ho17 fun z hz=>(hbj.block z (Nat.lt_of_lt_of_le (own_lt ho17 hz) hws)).trans (hbel z (own_lt ho17 hz) (h17 z hz))) hl17
    have l1:RL (fun _=>True) wj [.ints .i64 1 [n],.ints .i32 1 [1],.ints .u32 1 [0],.gen 16 l,.gen 2 [.v po,.v v17]] c0:=l0.up ⟨hbj.size,fun z hz _=>⟨trivial,fun o=>World.cell?_of_block (hbj.block z hz)⟩⟩
    have h3':RL (fun _=>True) wj [.ints .i64 1 [n],.ints .i32 1 [1],.ints .u32 1 [0],.gen 16 l,.gen 2 [.v po,.recs L.length 35 (apF L)]] c0:=by
     obtain⟨c1,d1,e1,k1,r1,_⟩:=l1.head
     obtain⟨c2,d2,e2,k2,r2,_⟩:=r1.head
     obtain⟨c3,d3,e3,k3,r3,_⟩:=r2.head
     obtain⟨c4,d4,e4,k4,r4,l4⟩:=r3.head
     obtain⟨g5,q5⟩:=r4.toGen
     rw[e1,e2,e3,e4]
     refine k1.append (k2.append (k3.append (k4.append ?_)))
     cases q5 with
     |cons a1 a2 a3=>
      cases a3 with
      |cons b1 b2 b3=>
       cases b3
       cases b1
       have:=RL.gen (.cons a1 a2 (.cons hvv b2 .nil)) g5 (.nil (S:=fun _=>True) (w:=wj))
       rwa [List.append_nil]at this
    have hbr:Blk wj r0' c0.toArray t0:=(hbj.block _ (Array.getElem?_eq_some_iff.1 b0).1).trans b0
    have hsr:RA (fun _=>True) wj (.sref [.ints .i64 1 [n],.ints .i32 1 [1],.ints .u32 1 [0],.gen 16 l,.gen 2 [.v po,.recs L.length 35 (apF L)]] 0) (.pointer (some ⟨r0',0,none⟩)):=.sref (off:=0) h3' (.inr ⟨r0',0,rfl,trivial,(Array.getElem?_eq_some_iff.1 hbr).1,fun i hi=>by
     rw[Nat.zero_add,cells_of hbr,List.getElem?_eq_getElem hi]⟩)
    have kt:Keeps D' wj (fun _=>True) wj:=⟨Nat.le_refl _,fun z _ _=>⟨trivial,fun _=>rfl⟩⟩
    have hf:=fnF_rowI (votes_fn n 1 l (.v po) L p o ops hL ho (by omega) P hP)
    rw[←hmv,←hvz]at hf
    refine(hf (fun _=>True) wj [.pointer (some ⟨r0',0,none⟩),v4,v6] (gok_all (hG1.up ⟨hbj.size,fun z hz hd=>⟨hd,fun o=>World.cell?_of_block (hbj.block z hz)⟩⟩)) (.cons hsr (.cons (h4'.up kt) (.cons (h6'.up kt) .nil)))).mono ?_
    rintro e w' ⟨v,rfl,k1,k2⟩
    exact⟨v,rfl,RA.up ⟨Nat.le_refl _,fun z _ hz=>⟨hz.elim False.elim id,fun _=>rfl⟩⟩ k1,k2⟩
   ·unfold comR
    rw[if_neg (by rw[hE];exact hne),hE]
 ·(conv=>arg 6;simp only[setK,comT,TA.t,if_neg,if_pos,Nat.zero_add,Nat.reduceAdd,Nat.reduceEqDiff,reduceIte,Seg.n,wn1,wn2,wn3,wn4,wn5,wn6,wn7,wn8,wn9,wn10,wn11,wn12,wn13,wn14,wn15,wn16,Int.reduceAdd,Int.zero_add,Seg.cell,Seg.sub,List.set_nil,isAlloc,trimH,List.take_append_drop,St.app,St.app2,St.ev,List.getD_cons_zero,List.getD_cons_succ,List.getD_nil,St.sl,St.bk,tiInt,tiBool,tiSl,tiArr,tiStruct,weaken,keepT,List.set_cons_zero,List.set_cons_succ,List.length_cons,List.length_nil,List.cons_append,List.nil_append,List.append_nil,List.map_cons,List.map_nil,List.replicate_succ,List.replicate_zero,List.take_succ_cons,List.take_zero,List.drop_succ_cons,List.drop_zero,List.take_nil,List.drop_nil,Nat.reduceAdd,Nat.reduceSub,Nat.reduceMul,Nat.reduceEqDiff,Nat.reduceLT,Nat.reduceLeDiff,Nat.zero_add,Nat.add_zero,Nat.sub_self,Nat.sub_zero,Nat.one_mul,Nat.mul_one,Nat.zero_mul,joinS,manyS,List.flatten_cons,List.flatten_nil,eq_self,ite_true,if_true,if_false,↓reduceIte,reduceCtorEq,Int.reduceToNat])
  have hb1:(er !=0)=true:=by simpa using hne
  clear hE hP hmv hvz ho17 hl17 h17 hL
  (conv=>arg 6;simp only[Seg.n,wn1,wn2,wn3,wn4,wn5,wn6,wn7,wn8,wn9,wn10,wn11,wn12,wn13,wn14,wn15,wn16,Int.reduceAdd,Int.zero_add,Seg.cell,Seg.sub,List.set_nil,isAlloc,trimH,List.take_append_drop,St.app,St.app2,St.ev,List.getD_cons_zero,List.getD_cons_succ,List.getD_nil,St.sl,St.bk,tiInt,tiBool,tiSl,tiArr,tiStruct,weaken,keepT,List.set_cons_zero,List.set_cons_succ,List.length_cons,List.length_nil,List.cons_append,List.nil_append,List.append_nil,List.map_cons,List.map_nil,List.replicate_succ,List.replicate_zero,List.take_succ_cons,List.take_zero,List.drop_succ_cons,List.drop_zero,List.take_nil,List.drop_nil,Nat.reduceAdd,Nat.reduceSub,Nat.reduceMul,Nat.reduceEqDiff,Nat.reduceLT,Nat.reduceLeDiff,Nat.zero_add,Nat.add_zero,Nat.sub_self,Nat.sub_zero,Nat.one_mul,Nat.mul_one,Nat.zero_mul,joinS,manyS,List.flatten_cons,List.flatten_nil,eq_self,ite_true,if_true,if_false,↓reduceIte,reduceCtorEq,Int.reduceToNat])
  refine GX.of ?_
  refine agow ?_;(try exact⟨⟩)
  rw[HQ.out]
  refine GQ.one (tm:=4) (x:=.int .i64 er) rfl rfl rfl (.inr rfl) ?_
  intro w2 g1 g2
  exact HR.out w2 g1 g2
end
section
open Pm
theorem wd_openA{D:Nat→Prop}{w:World}{r:Nat}{n mu:Int}{l:List A}{po ap:A}(h:HB D w r (.var (wdV n mu l po ap))):∃ls v1 v2 t,ls.length=16∧Blk w r (WLs n mu (ls++[v1,v2])).toArray t∧RG D w l ls∧RA D w po v1∧RA D w ap v2:=by
 obtain⟨cs,t,h1,h2⟩:=h
 unfold wdV at h2
 obtain⟨c1,d1,e1,k1,r1,_⟩:=h2.head
 obtain⟨c2,d2,e2,k2,r2,_⟩:=r1.head
 obtain⟨c3,d3,e3,k3,r3,_⟩:=r2.head
 obtain⟨c4,d4,e4,k4,r4,l4⟩:=r3.head
 obtain⟨_,rfl⟩:=k1.toInts
 obtain⟨_,rfl⟩:=k2.toInts
 obtain⟨_,rfl⟩:=k3.toInts
 obtain⟨g4,q4⟩:=k4.toGen
 obtain⟨g5,q5⟩:=r4.toGen
 have len4:c4.length=16:=q4.two.symm.trans g4
 cases q5 with
 |cons a1 a2 a3=>
  cases a3 with
  |cons b1 b2 b3=>
   cases b3
   refine⟨c4,_,_,t,len4,?_,q4,a1,b1⟩
   rw[e1,e2,e3,e4]at h1
   exact h1
theorem rg_raw_set{D:Nat→Prop}{w:World}{a:A}:∀{ps ls:List Value} {i:Nat},RG D w ((ps.map A.v).set i a) ls→i<ps.length→∃u,ls=ps.set i u∧RA D w a u∧u.oneCell'=true
 |[],_,_,_,h=>absurd h (by simp)
 |x::ps,ls,0,h,_=>by
  rw[List.map_cons,List.set_cons_zero]at h
  cases h with
  |cons a1 a2 a3=>
   refine⟨_,?_,a1,a2⟩
   rw[List.set_cons_zero,raw_rg a3]
 |x::ps,ls,i+1,h,hi=>by
  rw[List.map_cons,List.set_cons_succ]at h
  cases h with
  |cons a1 a2 a3=>
   obtain⟨u,h1,h2,h3⟩:=rg_raw_set a3 (by simpa using hi)
   cases a1
   exact⟨u,by rw[List.set_cons_succ,h1],h2,h3⟩
where
 raw_rg {ps ls : List Value} (h : RG D w (ps.map A.v) ls) : ls = ps := by
  induction ps generalizing ls with
  | nil => cases h; rfl
  | cons x ps ih =>
   rw [List.map_cons] at h
   cases h with
   | cons a1 a2 a3 => cases a1; rw [ih a3]
theorem WQ.ones{D:Nat→Prop}{w:World}{r:Nat}{mu n:Int}{c:Nat→Cm}{vs:List Value}{B:Nat→List Nat}{t:TypeId}(h:WQ D w r mu n c vs B t):∀y∈vs,y.oneCell'=true:=fun y hy=>by
 obtain⟨i,hi,e⟩:=List.getElem_of_mem hy
 have h1:=(c i).one (h.at' i (by rw[←h.len];exact hi))
 rw[List.getD_eq_getElem?_getD,List.getElem?_eq_getElem hi]at h1
 rw[←e];exact h1
theorem WQ.hb{D:Nat→Prop}{w:World}{r:Nat}{mu n:Int}{c:Nat→Cm}{ps:List Value}{v1 v2:Value}{B:Nat→List Nat}{t:TypeId}(h:WQ D w r mu n c (ps++[v1,v2]) B t){i:Nat}(hi:i<8){a:A}(hc:c i=cDat a):
  HB (fun z=>D z∧z≠r) w r (.var (wdV n mu ((ps.map A.v).set i a) (.v v1) (.v v2))):=by
 have h16:ps.length=16:=by have:=h.len;simpa using this
 have hone:=h.ones
 have hk:Keeps D w (fun z=>D z∧z≠r) w:=⟨Nat.le_refl _,fun z _ hd=>⟨⟨hd,(h.dat z hd).1⟩,fun _=>rfl⟩⟩
 have hpa:=(h.dat_at (j:=i) (by omega) hc).up hk
 have hg:(ps++[v1,v2]).getD i undef=ps.getD i undef:=by rw[List.getD_eq_getElem?_getD,List.getElem?_append_left (by omega),←List.getD_eq_getElem?_getD]
 rw[hg]at hpa
 have ho:(ps.getD i undef).oneCell'=true:=by
  rw[←hg];exact(c i).one (h.at' i (by omega))
 have hs:ps.set i (ps.getD i undef)=ps:=by
  rw[List.getD_eq_getElem?_getD,List.getElem?_eq_getElem (by omega)];simp
 have hr:RG (fun z=>D z∧z≠r) w ((ps.map A.v).set i a) ps:=by
  have:=(rg_raw (S:=fun z=>D z∧z≠r) (w:=w) (ps:=ps) fun x hx=>hone x (List.mem_append_left _ hx)).set i hpa ho
  rwa [hs]at this
 have h3:=RL.append (.ofInts (k:=.i64) (n:=1) (zs:=[n]) rfl rfl) (RL.append (.ofInts (k:=.i32) (n:=1) (zs:=[mu]) rfl rfl) (RL.append (.ofInts (k:=.u32) (n:=1) (zs:=[0]) rfl rfl) (RL.append (RL.ofGen (S:=fun z=>D z∧z≠r) (w:=w) (n:=16) (by simp[h16]) hr) (.ofGen (n:=2) rfl (.cons (.v v1) (hone v1 (by simp)) (.cons (.v v2) (hone v2 (by simp)) .nil))))))
 exact⟨_,t,h.blk,h3⟩
theorem act_ra{D:Nat→Prop}{w:World}{i:Nat}{nn fr dr:Int}{o:Nat}{ops:List Int}{vo vy:Value}(hvo:RA D w (.row o [.ints .i64 (o*5) ops]) vo)(hy:vy.oneCell'=true):RAs D w [.agg [.ints .i64 4 [2,(i:Nat),nn,fr],.gen 1 [.row o [.ints .i64 (o*5) ops]],.ints .i64 1 [dr],.gen 1 [.v vy]]] [.agg (AC 2 (i:Nat) nn fr vo dr vy)]:=by
 have ho:vo.oneCell'=true:=by obtain⟨a,b,c,rfl⟩:=ra_row_slice hvo;rfl
 have h3:=RL.append (S:=D) (w:=w) (.ofInts (k:=.i64) (n:=4) (zs:=[2,(i:Nat),nn,fr]) rfl rfl) (RL.append (RL.ofGen (n:=1) rfl (.cons hvo ho .nil)) (RL.append (.ofInts (k:=.i64) (n:=1) (zs:=[dr]) rfl rfl) (.ofGen (n:=1) rfl (.cons (.v vy) hy .nil))))
 exact .cons (.agg h3) .nil
theorem commitE_WQ{D:Nat→Prop}{w:World}{r:Nat}{n:Int}{c:Nat→Cm}{vs:List Value}{B:Nat→List Nat}{t:TypeId}(h:WQ D w r 1 n c vs B t)(hG:GOK gTab D w){i:Nat}(hi:i<8){p:PS}{L:List Ap}(hcp:c i=cDat (.sref (pSegs p) 0))(hca:c 17=cAp L)(hL:L.length≤1000000)(hlf:leafB p.lf=true){nn fr dr:Int}{o:Nat}{ops:List Int}{vo vy:Value}(hvo:RA D w (.row o [.ints .i64 (o*5) ops]) vo)(hy:vy.oneCell'=true)(ho:o≠0)(ho1:o≤3000){P:List UInt8}{m:Nat}{vz:List Int}{er:Int}(hP:P=paperV p.e p.zs p.ad p.k p.ch p.lf ops)(hmv:m=vN L P 8)(hvz:vz=vZ L P 8)(hE:comE p o ops m vz=er)(hne:er≠0):
  Calls Tryz.prog 24 #[.pointer (some ⟨r,0,none⟩),.agg (AC 2 (i:Nat) nn fr vo dr vy)] w fun e w'=>e=.returned (.int .i64 er)∧∃D' vs' B' t',WQ D' w' r 1 n c vs' B' t'∧WStep D w r B D' w' B':=by
 obtain⟨ps,po,v17,rfl,h16⟩:=last2 16 vs h.len
 have hk:Keeps D w (fun z=>D z∧z≠r) w:=⟨Nat.le_refl _,fun z _ hd=>⟨⟨hd,(h.dat z hd).1⟩,fun _=>rfl⟩⟩
 have h17:=h.at' 17 (by omega)
 have hv17:(ps++[po,v17]).getD 17 undef=v17:=by rw[List.getD_eq_getElem?_getD,List.getElem?_append_right (by omega),h16];rfl
 rw[hca,hv17]at h17
 obtain⟨hB17,ho17,hl17⟩:=h17
 have hl:((ps.map A.v).set i (.sref (pSegs p) 0)).getD i (.v undef)=.sref (pSegs p) 0:=by
  rw[List.getD_eq_getElem?_getD,List.getElem?_set_self (by simp;omega)];rfl
 refine(wcommitDE_walk (S:=D) h.blk.lt (hG.up hk) (h.hb hi hcp) hi hl hlf hL ho17 hl17 (fun z hz e=>h.ne 17 (by omega) (by rw[hB17,←e];exact ownL_mem.2 hz)) ho ho1 hP hmv hvz hE hne (R:=fun e w'=>e=.returned (.int .i64 er)∧∃D' vs' B' t',WQ D' w' r 1 n c vs' B' t'∧WStep D w r B D' w' B') ?_ (act_ra (hvo.up hk) hy)).mono fun _ _ h=>h
 intro w2 g1 g2
 refine⟨rfl,?_⟩
 obtain⟨ls,u1,u2,t',_,hb,k1,k2,k3⟩:=wd_openA g1
 cases k2;cases k3
 obtain⟨u,rfl,k4,k5⟩:=rg_raw_set k1 (by omega)
 have hBi:B i=[]:=by have:=h.at' i (by omega);rw[hcp]at this;exact this.1
 have hg:GrownX (fun q=>q=r∨q∈B i) w w2:=.ofBy g2 (.inl rfl)
 have hset:(ps++[po,v17]).set i u=ps.set i u++[po,v17]:=List.set_append_left _ _ (by omega)
 have hw:=h.set (j:=i) (v':=u) (B':=[]) (c':=c i) (by omega) (by rw[hset];exact hb) hg (fun q hq=>by cases hq) (by simp) (by
  rw[hcp]
  exact⟨rfl,k4.up ⟨Nat.le_refl _,fun z _ hz=>⟨⟨hz.1,hz.2,by simp⟩,fun _=>rfl⟩⟩,k5⟩)
 rw[upd_self rfl]at hw
 exact⟨_,_,_,_,hw,h.one (by omega) hg fun q hq=>by cases hq⟩
end
section
open Pm
theorem WQ.set2{D:Nat→Prop}{w w':World}{r j i:Nat}{mu n mu' n':Int}{c:Nat→Cm}{vs:List Value}{B:Nat→List Nat}{t t':TypeId}{v' u':Value}{B':List Nat}{c' ci:Cm}(h:WQ D w r mu n c vs B t)(hj:j<18)(hi:i<18)(hij:i≠j)(hBi:B i=[])
  (hb:Blk w' r (WLs n' mu' ((vs.set i u').set j v')).toArray t')(hg:GrownX (fun q=>q=r∨q∈B j) w w')(hB:∀q∈B',q∈B j∨w.heap.size≤q)(hr:r∉B')(hc:c'.p (fun z=>(D z∨w.heap.size≤z)∧z≠r∧z∉B') w' B' v')(hci:ci.p (fun z=>(D z∨w.heap.size≤z)∧z≠r∧z∉B') w' [] u'):
  WQ (fun z=>(D z∨w.heap.size≤z)∧z≠r∧z∉B') w' r mu' n' (upd (upd c i ci) j c') ((vs.set i u').set j v') (upd B j B') t':=by
 have hrl:r<w.heap.size:=h.blk.lt
 have kp:Keeps D w (fun z=>(D z∨w.heap.size≤z)∧z≠r∧z∉B') w':=h.keeps hj hg hB
 have same:∀k,k<18→k≠j→∀q∈B k,w'.heap[q]?=w.heap[q]?:=fun k hk hn q hq=>hg.block q ((c k).lt (h.at' k hk) q hq) fun e=>by
  rcases e with e|e
  ·exact h.ne k hk (by rw[←e];exact hq)
  ·exact h.sep k j hk hj hn q hq e
 refine⟨by rw[List.length_set,List.length_set];exact h.len,hb,fun k hk=>?_,fun k hk=>?_,fun k i hk hi hn q hq hm=>?_,fun z hz=>⟨hz.2.1,fun k hk hm=>?_⟩⟩
 ·rw[getD_set_list]
  by_cases e:k=j
  ·subst e
   rw[if_pos ⟨rfl,by rw[List.length_set,h.len];exact hj⟩]
   simp only[upd,if_true]
   exact hc
  ·rw[if_neg fun e2=>e e2.1.symm,getD_set_list]
   by_cases e3:k=i
   ·subst e3
    rw[if_pos ⟨rfl,by rw[h.len];exact hi⟩]
    simp only[upd,if_neg e,if_true]
    rw[hBi];exact hci
   ·rw[if_neg fun e2=>e3 e2.1.symm]
    simp only[upd,if_neg e,if_neg e3]
    exact(c k).up kp (same k hk e) (h.at' k hk)
 ·unfold upd
  split
  ·exact hr
  ·exact h.ne k hk
 ·unfold upd at hq hm
  by_cases e1:k=j
  ·rw[if_pos e1]at hq
   have e2:i≠j:=fun e=>hn (e1.trans e.symm)
   rw[if_neg e2]at hm
   rcases hB q hq with h1|h1
   ·exact h.sep j i hj hi (fun e=>e2 e.symm) q h1 hm
   ·have:=(c i).lt (h.at' i hi) q hm;omega
  ·rw[if_neg e1]at hq
   by_cases e2:i=j
   ·rw[if_pos e2]at hm
    rcases hB q hm with h1|h1
    ·exact h.sep k j hk hj e1 q hq h1
    ·have:=(c k).lt (h.at' k hk) q hq;omega
   ·rw[if_neg e2]at hm
    exact h.sep k i hk hi hn q hq hm
 ·unfold upd at hm
  by_cases e1:k=j
  ·rw[if_pos e1]at hm;exact hz.2.2 hm
  ·rw[if_neg e1]at hm
   rcases hz.1 with h1|h1
   ·exact(h.dat z h1).2 k hk hm
   ·have:=(c k).lt (h.at' k hk) z hm;omega
abbrev cPo(l:List A):Cm:=cSl 35 1 l.length [.gen l.length l]
theorem letL_len(c:CS)(W:Nat→List Seg):∀N,(letL c W N).length=N+1
 |0=>rfl
 |N+1=>by rw[letL,List.length_append,letL_len c W N];rfl
theorem commitD_WQ{D:Nat→Prop}{w:World}{r:Nat}{n:Int}{c:Nat→Cm}{vs:List Value}{B:Nat→List Nat}{t:TypeId}(h:WQ D w r 1 n c vs B t)(hG:GOK gTab D w){i:Nat}(hi:i<8){p:PS}{L:List Ap}{rows:List A}(hcp:c i=cDat (.sref (pSegs p) 0))(hcq:c 16=cPo rows)(hca:c 17=cAp L)(hL:L.length≤1000000)(hlf:leafB p.lf=true){nn fr dr:Int}{o:Nat}{ops:List Int}{vo vy:Value}(hvo:RA D w (.row o [.ints .i64 (o*5) ops]) vo)(hy:vy.oneCell'=true)(ho:o≠0)(ho1:o≤3000){P:List UInt8}{m:Nat}{vz:List Int}{s:Vw}{cc:CS}{q:PS}{N:Nat}{W:Nat→List Seg}(hP:P=paperV p.e p.zs p.ad p.k p.ch p.lf ops)(hmv:m=vN L P 8)(hvz:vz=vZ L P 8)
  (hk:rows.length+1+N≤60)(hE:comE p o ops m vz=0)(hs:s=doP p p.lf o ops)(hc:cc=comP p s o ops m vz (drawW dr))(hq:q=nextP p s o ops m vz (drawW dr))(hm:mayB cc=true)(hw:N=welN s.ng 8)(hW:W=welF (welSegs q (upW (lefW (drawW dr))) (joinP p (drawW dr)) (tagE q.ep) (drawW dr)) s.ng 8)(hok:allW N W)(h1:cc.n≤3000)(h2:cc.m≤3000)(h3:cc.k≤3000)(h4:∀j,j<cc.k→(cc.bx j).length≤6000):
  Calls Tryz.prog 24 #[.pointer (some ⟨r,0,none⟩),.agg (AC 2 (i:Nat) nn fr vo dr vy)] w fun e w'=>e=.returned (.int .i64 0)∧∃D' vs' B' t',WQ D' w' r 1 n (upd (upd c i (cDat (.sref (pSegs q) 0))) 16 (cPo (rows++letL cc W N))) vs' B' t'∧WStep D w r B D' w' B':=by
 obtain⟨ps,po,v17,rfl,h16⟩:=last2 16 vs h.len
 have hkp:Keeps D w (fun z=>D z∧z≠r) w:=⟨Nat.le_refl _,fun z _ hd=>⟨⟨hd,(h.dat z hd).1⟩,fun _=>rfl⟩⟩
 have h17:=h.at' 17 (by omega)
 have hv17:(ps++[po,v17]).getD 17 undef=v17:=by rw[List.getD_eq_getElem?_getD,List.getElem?_append_right (by omega),h16];rfl
 have hv16:(ps++[po,v17]).getD 16 undef=po:=by rw[List.getD_eq_getElem?_getD,List.getElem?_append_right (by omega),h16];rfl
 rw[hca,hv17]at h17
 obtain⟨hB17,ho17,hl17⟩:=h17
 have h16c:=h.at' 16 (by omega)
 rw[hcq,hv16]at h16c
 obtain⟨cs,hB16,ho16,hr16⟩:=h16c
 have hl:((ps.map A.v).set i (.sref (pSegs p) 0)).getD i (.v undef)=.sref (pSegs p) 0:=by
  rw[List.getD_eq_getElem?_getD,List.getElem?_set_self (by simp;omega)];rfl
 have hpo:(po=.slice none 0 0∧rows.length=0)∨∃ad cp,po=.slice (some ad) rows.length cp:=by
  rcases ho16.2 with⟨e1,e2⟩|⟨z,cap,cur,e1,_⟩
  ·exact .inl ⟨e1,e2⟩
  ·exact .inr ⟨_,_,e1⟩
 refine(wcommitD_walk (S:=D) h.blk.lt (hG.up hkp) (h.hb hi hcp) hi hl hlf ho16 hk hpo (fun z hz=>⟨own_lt ho16 hz,fun e=>h.ne 16 (by omega) (by rw[hB16,←e];exact ownL_mem.2 hz),fun hd=>(h.dat z hd).2 16 (by omega) (by rw[hB16];exact ownL_mem.2 hz)⟩) hL ho17 hl17 (fun z hz e=>h.ne 17 (by omega) (by rw[hB17,←e];exact ownL_mem.2 hz)) ho ho1 hP hmv hvz hE hs hc hq hm hw hW hok h1 h2 h3 h4 (R:=fun e w'=>e=.returned (.int .i64 0)∧∃D' vs' B' t',WQ D' w' r 1 n (upd (upd c i (cDat (.sref (pSegs q) 0))) 16 (cPo (rows++letL cc W N))) vs' B' t'∧WStep D w r B D' w' B') ?_ (act_ra (hvo.up hkp) hy)).mono fun _ _ h=>h
 intro w2 v' ns T hT g1 g2 g3 g4 g5
 subst hT
 refine⟨rfl,?_⟩
 obtain⟨ls,u1,u2,t',_,hb,k1,k2,k3⟩:=wd_openA g1
 cases k2;cases k3
 rw[List.set_set]at k1
 obtain⟨u,rfl,k4,k5⟩:=rg_raw_set k1 (by omega)
 have hBi:B i=[]:=by have:=h.at' i (by omega);rw[hcp]at this;exact this.1
 have hg:GrownX (fun z=>z=r∨z∈B 16) w w2:=⟨g4.os,g4.tape,g4.output,g4.size,fun z hz hn=>g4.block z hz fun e=>hn (e.imp id fun e=>by rw[hB16];exact ownL_mem.2 e)⟩
 have hB':∀z∈ownL v',z∈B 16∨w.heap.size≤z:=fun z hz=>(g5 z (ownL_mem.1 hz)).2.imp (fun e=>by rw[hB16];exact ownL_mem.2 e) id
 have hset:((ps++[po,v17]).set i u).set 16 v'=ps.set i u++[v',v17]:=by
  rw[List.set_append_left _ _ (by omega),List.set_append_right _ _ (by simp[h16])]
  simp[h16]
 have hrn:r∉ownL v':=fun hm=>by
  rcases hB' r hm with e|e
  ·exact h.ne 16 (by omega) e
  ·have:=h.blk.lt;omega
 have ky:Keeps (fun z=>(D z∨w.heap.size≤z)∧z≠r∧v'.ownBlock≠some z) w2 (fun z=>(D z∨w.heap.size≤z)∧z≠r∧z∉ownL v') w2:=⟨Nat.le_refl _,fun z _ hz=>⟨⟨hz.1,hz.2.1,fun e=>hz.2.2 (ownL_mem.1 e)⟩,fun _=>rfl⟩⟩
 have hlen:(rows++letL cc W N).length=rows.length+(N+1):=by rw[List.length_append,letL_len]
 have hrl:RL (fun z=>(D z∨w.heap.size≤z)∧z≠r∧z∉ownL v') w2 [.gen (rows++letL cc W N).length (rows++letL cc W N)] (cs++ns):=by
  obtain⟨_,p1⟩:=(hr16.up (h.keeps (j:=16) (by omega) hg hB')).toGen
  obtain⟨_,p2⟩:=(g3.up ky).toGen
  exact RL.ofGen rfl (p1.append p2)
 have hw:=h.set2 (j:=16) (i:=i) (v':=v') (u':=u) (B':=ownL v') (c':=cPo (rows++letL cc W N)) (ci:=cDat (.sref (pSegs q) 0)) (by omega) (by omega) (by omega) hBi (by rw[hset];exact hb) hg hB' hrn ⟨cs++ns,rfl,by rw[hlen];exact g2,hrl⟩ ⟨rfl,k4.up ky,k5⟩
 exact⟨_,_,_,_,hw,h.one (by omega) hg hB'⟩
end
section
open Pm
def WTo(D:Nat→Prop)(w:World)(r:Nat)(mu n:Int)(c':Nat→Cm)(B:Nat→List Nat)(w':World):Prop:=∃D' vs' B' t',WQ D' w' r mu n c' vs' B' t'∧WStep D w r B D' w' B'
theorem stepc_WQ{D:Nat→Prop}{w:World}{r:Nat}{n:Int}{c c':Nat→Cm}{vs:List Value}{B:Nat→List Nat}{t:TypeId}(h:WQ D w r 0 n c vs B t)(hn:0≤n∧n≤1000000){i:Nat}(hi:i<8){nn fr dr er:Int}{vo vy:Value}
  (hsub:∀w1,WQ D w1 r 1 (n+1) c vs B t→Keeps D w D w1→Calls Tryz.prog 24 #[.pointer (some ⟨r,0,none⟩),.agg (AC 2 (i:Nat) nn fr vo dr vy)] w1 fun e w'=>e=.returned (.int .i64 er)∧WTo D w1 r 1 (n+1) c' B w'):
  Calls Tryz.prog 8 #[.pointer (some ⟨r,0,none⟩),.agg (AC 2 (i:Nat) nn fr vo dr vy)] w fun e w'=>e=.returned (.int .i64 er)∧WTo D w r 0 (n+1) c' B w':=by
 obtain⟨ps,bs,po,ap,h1,h2,h3,h4⟩:=wls_wl h.len
 have hb0:Blk w r (WL n 0 ps bs po ap).toArray t:=by rw[←h4];exact h.blk
 refine(step_commit w r t n hn ps bs po ap i hi nn fr dr vo vy hb0 (fun v cs w2=>v=.int .i64 er∧∃D' vs' B' t',cs=(WLs (n+1) 1 vs').toArray∧WQ D' w2 r 1 (n+1) c' vs' B' t'∧WStep D w r B D' w2 B') fun w1 hb1 hg1=>?_).mono ?_
 ·have hq1:WQ D w1 r 1 (n+1) c vs B t:=h.mu (by rw[h4];exact hb1) hg1
  have s1:WStep D w r B D w1 B:=.own hg1 fun z hz=>(h.dat z hz).1
  refine(hsub w1 hq1 s1.k).mono ?_
  rintro e w2 ⟨rfl,D',vs',B',t',k1,k2⟩
  exact⟨_,_,_,rfl,⟨rfl,D',vs',B',t',rfl,k1,s1.trans k2⟩,k1.blk,by rw[List.getElem?_toArray];rfl⟩
 ·rintro e w' ⟨v,cs,w2,t',rfl,⟨rfl,D',vs',B',t2,rfl,k1,k2⟩,rfl,hb2⟩
  have hb3:Blk (w2.setCell ⟨r,1,none⟩ (.int .i32 0)) r (WLs (n+1) 0 vs').toArray t2:=(k1.blk.set 1 _).copy wls_mu
  have hg3:w2.grownBy (w2.setCell ⟨r,1,none⟩ (.int .i32 0)) (some r):=grown_setCell (grown_refl w2 _) 1 _
  exact⟨rfl,D',vs',B',t2,k1.mu hb3 hg3,k2.trans (.own hg3 fun z hz=>(k1.dat z hz).1)⟩
end
section
open Pm
def cW0(j:Nat):Cm:=if j=0 then cDat (.sref (pSegs (createP (wsd 0))) 0)else if j<8 then cDat (.v (.pointer none))else if j<16 then cBk ⟨[],0,0⟩else if j=16 then cPo []else if j=17 then cAp []else cDat (.v (.pointer none))
def ptrL:Option Value→List Nat
 |some (.pointer (some ⟨q,0,none⟩))=>[q]
 |_=>[]
theorem ptrL_mem{v:Option Value}{q:Nat}(h:q∈ptrL v):v=some (.pointer (some ⟨q,0,none⟩)):=by
 unfold ptrL at h
 split at h
 ·simp at h;rw[h]
 ·cases h
theorem newW_WQ(S:Nat→Prop)(w:World)(hG:GOK gTab S w):Calls Tryz.prog 5 #[] w fun e w'=>e=.returned (.pointer (some ⟨w.heap.size,0,none⟩))∧∃D vs B t,WQ D w' w.heap.size 0 0 cW0 vs B t∧Below w.heap.size w w'∧Keeps S w D w'∧(∀z,w'.heap.size≤z→D z)∧(∀z,D z→S z∨w.heap.size≤z)∧∀j q,q∈B j→w.heap.size≤q:=by
 refine(newW_walk S w hG).mono ?_
 rintro e w' ⟨bs,rfl,hl,hb,hne,hbel,hB⟩
 refine⟨rfl,?_⟩
 obtain⟨ls,u1,u2,t,h16,hblk,k1,k2,k3⟩:=wd_openA hB
 cases k2;cases k3
 have e0:nilP 8++bs.map A.v=(List.replicate 8 (Value.pointer none)++bs).map A.v:=by simp[nilP]
 rw[e0]at k1
 obtain⟨u,rfl,k4,k5⟩:=rg_raw_set k1 (by simp)
 have hbq:∀i,i<8→∃q,bs[i]?=some (.pointer (some ⟨q,0,none⟩))∧w'.heap[q]?=some BK0∧w.heap.size<q:=hb
 have hL:((List.replicate 8 (Value.pointer none)++bs).set 0 u).length=16:=h16
 refine⟨fun z=>((S z∧z<w.heap.size)∨w.heap.size<z)∧∀i,i<8→bs[i]?≠some (Value.pointer (some ⟨z,0,none⟩)),((List.replicate 8 (Value.pointer none)++bs).set 0 u)++[Value.slice none 0 0,Value.slice none 0 0],fun j=>if j<8 then[]else ptrL bs[j-8]?,t,⟨by simp[hl],hblk,fun j hj=>?_,fun j hj hm=>?_,fun j k hj hk hn q hq hm=>?_,fun z hz=>⟨?_,fun j hj hm=>?_⟩⟩,hbel,⟨hbel.size,fun z hz hd=>⟨⟨.inl ⟨hd,hz⟩,fun i hi e=>?_⟩,fun o=>World.cell?_of_block (hbel.block z hz)⟩⟩,fun z hz=>⟨.inr ?_,fun i hi e=>?_⟩,fun z hz=>hz.1.imp And.left Nat.le_of_lt,fun j q hm=>?_⟩
 ·by_cases j0:j=0
  ·subst j0
   exact⟨rfl,k4,k5⟩
  by_cases j8:j<8
  ·unfold cW0
   rw[if_neg j0,if_pos j8]
   have ev:(((List.replicate 8 (Value.pointer none)++bs).set 0 u)++[Value.slice none 0 0,Value.slice none 0 0]).getD j undef=.pointer none:=by
    rw[List.getD_eq_getElem?_getD,List.getElem?_append_left (by omega),List.getElem?_set_ne (by omega),List.getElem?_append_left (by simpa using j8),List.getElem?_replicate,if_pos j8];rfl
   rw[ev]
   exact⟨by simp[j8],.v _,rfl⟩
  by_cases j16:j<16
  ·unfold cW0
   rw[if_neg j0,if_neg j8,if_pos j16]
   obtain⟨q,q1,q2,q3⟩:=hbq (j-8) (by omega)
   have ev:(((List.replicate 8 (Value.pointer none)++bs).set 0 u)++[Value.slice none 0 0,Value.slice none 0 0]).getD j undef=.pointer (some ⟨q,0,none⟩):=by
    rw[List.getD_eq_getElem?_getD,List.getElem?_append_left (by omega),List.getElem?_set_ne (by omega),List.getElem?_append_right (by simpa using j8),List.length_replicate,q1];rfl
   rw[ev]
   have hq:q<w'.heap.size:=(Array.getElem?_eq_some_iff.1 q2).1
   exact⟨q,[],by simp only[if_neg j8];rw[q1];rfl,rfl,fun z hz=>by simp at hz;rw[hz];exact hq,BookW.to (t:=84) (v:=.slice none 0 0) ⟨q2,⟨rfl,.inl ⟨rfl,rfl⟩⟩,by simp[Value.ownBlock],by simp⟩ (by simp[Value.ownBlock]),Nat.le_refl _,by simp⟩
  ·have hn:bs[j-8]?=none:=List.getElem?_eq_none (by omega)
   have hBj:(if j<8 then[]else ptrL bs[j-8]?)=[]:=by rw[if_neg j8,hn];rfl
   unfold cW0
   rw[if_neg j0,if_neg j8,if_neg j16]
   by_cases h17:j=16
   ·rw[if_pos h17]
    have ev:(((List.replicate 8 (Value.pointer none)++bs).set 0 u)++[Value.slice none 0 0,Value.slice none 0 0]).getD j undef=.slice none 0 0:=by
     rw[List.getD_eq_getElem?_getD,List.getElem?_append_right (by omega),hL,h17];rfl
    rw[ev]
    exact⟨[],hBj,⟨rfl,.inl ⟨rfl,rfl⟩⟩,RL.ofGen rfl .nil⟩
   ·rw[if_neg h17,if_pos (show j=17 by omega)]
    have ev:(((List.replicate 8 (Value.pointer none)++bs).set 0 u)++[Value.slice none 0 0,Value.slice none 0 0]).getD j undef=.slice none 0 0:=by
     rw[List.getD_eq_getElem?_getD,List.getElem?_append_right (by omega),hL,show j=17 by omega];rfl
    rw[ev]
    exact⟨hBj,⟨rfl,.inl ⟨rfl,rfl⟩⟩,by simp⟩
 ·skip
  split at hm
  ·cases hm
  ·next j8=>
   have:=ptrL_mem hm
   have hi:j-8<8:=by
    have:=(List.getElem?_eq_some_iff.1 this).1;omega
   obtain⟨q,q1,_,q3⟩:=hbq (j-8) hi
   rw[this]at q1
   have:w.heap.size=q:=by first|(simp at q1;done)|simpa using q1
   omega
 ·skip
  split at hq
  ·cases hq
  split at hm
  ·cases hm
  have a1:=ptrL_mem hq
  have a2:=ptrL_mem hm
  have i1:=(List.getElem?_eq_some_iff.1 a1).1
  have i2:=(List.getElem?_eq_some_iff.1 a2).1
  have:=hne (j-8) (k-8) q (by omega) (by omega) a1 a2
  omega
 ·rcases hz.1 with h|h
  ·omega
  ·omega
 ·skip
  split at hm
  ·cases hm
  have a1:=ptrL_mem hm
  have i1:=(List.getElem?_eq_some_iff.1 a1).1
  exact hz.2 (j-8) (by omega) a1
 ·obtain⟨q,q1,_,q3⟩:=hbq i hi
  rw[e]at q1
  have:z=q:=by first|(simp at q1;done)|simpa using q1
  omega
 ·have:=hblk.lt;omega
 ·obtain⟨q,q1,q2,q3⟩:=hbq i hi
  rw[e]at q1
  have:z=q:=by first|(simp at q1;done)|simpa using q1
  have:=(Array.getElem?_eq_some_iff.1 q2).1
  omega
 ·dsimp only at hm
  split at hm
  ·cases hm
  have a1:=ptrL_mem hm
  have i1:=(List.getElem?_eq_some_iff.1 a1).1
  obtain⟨q',q1,_,q3⟩:=hbq (j-8) (by omega)
  rw[a1]at q1
  have:q=q':=by first|(simp at q1;done)|simpa using q1
  omega
end
section
open Pm
attribute [local irreducible] condK LoopA regA
end
section
open Pm
attribute [local irreducible] condK LoopA regA
end
section
open Pm
theorem WQ.wide{D D':Nat→Prop}{w:World}{r:Nat}{mu n:Int}{c:Nat→Cm}{vs:List Value}{B:Nat→List Nat}{t:TypeId}(h:WQ D w r mu n c vs B t)(hD:∀z,D z→D' z)(hn:∀z,D' z→D z∨(z≠r∧∀j,j<18→z∉B j)):WQ D' w r mu n c vs B t:=
 ⟨h.len,h.blk,fun j hj=>(c j).up (toKeeps hD) (fun _ _=>rfl) (h.at' j hj),h.ne,h.sep,fun z hz=>(hn z hz).elim (h.dat z) id⟩
theorem fnB_WQ{f:FuncId}{args:List A}{a:A}{n n':Int}{c c':Nat→Cm}
  (hf:∀(D:Nat→Prop) (w:World) (r:Nat) (vs:List Value) (B:Nat→List Nat) (t:TypeId) (av:List Value),WQ D w r 0 n c vs B t→GOK gTab D w→RAs D w args av→
   Calls Tryz.prog f (.pointer (some ⟨r,0,none⟩)::av).toArray w fun e w'=>∃v D' vs' B' t',e=.returned v∧WQ D' w' r 0 n' c' vs' B' t'∧WStep D w r B D' w' B'∧RA D' w' a v):
  FnB Tryz.prog gTab f 0 (wcP 0 n c) args (.d a) (wcP 0 n' c'):=by
 intro S w r F av hG hlt hp hA hS
 obtain⟨vs,B,t,hq,hB⟩:=wcP_open hp hS
 refine(hf S w r vs B t av hq hG hA).mono ?_
 rintro e w' ⟨v,D',vs',B',t',rfl,k1,k2,k3⟩
 have hF:∀q,q∈(List.range 18).flatMap B'↔∃j,j<18∧q∈B' j:=fun q=>by simp[List.mem_flatMap]
 have hD:∀z,D' z→(S z∨w.heap.size≤z)∧z∉r::(List.range 18).flatMap B':=fun z hz=>⟨k2.lo z hz,fun hm=>by
  rcases List.mem_cons.1 hm with e|hm
  ·exact(k1.dat z hz).1 e
  ·obtain⟨j,hj,hm⟩:=(hF z).1 hm
   exact(k1.dat z hz).2 j hj hm⟩
 refine⟨v,(List.range 18).flatMap B',[],rfl,fun q hq=>?_,fun q hq=>?_,⟨vs',B',t',by simp,k1.len,k1.blk,fun j hj=>(c' j).up (toKeeps fun z hz=>⟨hD z hz,by simp⟩) (fun _ _=>rfl) (k1.at' j hj),k1.ne,k1.sep,fun j hj q hq=>List.mem_cons_of_mem _ ((hF q).2 ⟨j,hj,hq⟩)⟩,RA.up (toKeeps hD) k3,⟨k2.g.os,k2.g.tape,k2.g.output,k2.g.size,fun z hz hn=>k2.g.block z hz fun e=>hn ?_⟩⟩
 ·obtain⟨j,hj,hm⟩:=(hF q).1 hq
  exact(k2.b j hj q hm).imp (fun⟨k,hk,h⟩=>hB k hk q h) id
 ·rcases List.mem_cons.1 hq with rfl|hq
  ·exact k1.blk.lt
  ·obtain⟨j,hj,hm⟩:=(hF q).1 hq
   exact k1.lt hj hm
 ·rcases e with e|⟨j,hj,e⟩
  ·rw[e];simp
  ·exact hB j hj z e
theorem act_openO{D:Nat→Prop}{w:World}{kd who nn fr dr:Int}{x y:A}{v:Value}(h:RA D w (.agg [.ints .i64 4 [kd,who,nn,fr],.gen 1 [x],.ints .i64 1 [dr],.gen 1 [y]]) v):∃vx vy,v=.agg (AC kd who nn fr vx dr vy)∧RA D w x vx∧RA D w y vy∧vx.oneCell'=true∧vy.oneCell'=true:=by
 cases h with
 |agg hl=>
  rename_i cs
  obtain⟨c1,d1,e1,k1,r1,_⟩:=hl.head
  obtain⟨c2,d2,e2,k2,r2,_⟩:=r1.head
  obtain⟨c3,d3,e3,k3,r3,_⟩:=r2.head
  obtain⟨_,rfl⟩:=k1.toInts
  obtain⟨_,rfl⟩:=k3.toInts
  obtain⟨_,q2⟩:=k2.toGen
  obtain⟨_,q4⟩:=r3.toGen
  cases q2 with
  |cons a1 o1 n1=>
   cases n1
   cases q4 with
   |cons a2 o2 n2=>
    cases n2
    refine⟨_,_,?_,a1,a2,o1,o2⟩
    congr 1
    apply Array.toList_inj.1
    rw[e1,e2,e3]
    rfl
theorem fnB_step{n:Int}{c c':Nat→Cm}{kd who nn fr dr er:Int}{x y:A}
  (hf:∀(D:Nat→Prop) (w:World) (r:Nat) (vs:List Value) (B:Nat→List Nat) (t:TypeId) (vo vy:Value),WQ D w r 0 n c vs B t→GOK gTab D w→RA D w x vo→RA D w y vy→vo.oneCell'=true→vy.oneCell'=true→
   Calls Tryz.prog 8 #[.pointer (some ⟨r,0,none⟩),.agg (AC kd who nn fr vo dr vy)] w fun e w'=>e=.returned (.int .i64 er)∧WTo D w r 0 (n+1) c' B w'):
  FnB Tryz.prog gTab 8 0 (wcP 0 n c) [.agg [.ints .i64 4 [kd,who,nn,fr],.gen 1 [x],.ints .i64 1 [dr],.gen 1 [y]]] (.d (.v (.int .i64 er))) (wcP 0 (n+1) c'):=by
 refine fnB_WQ fun D w r vs B t av h hG hA=>?_
 cases hA with
 |cons a1 hnil=>
  cases hnil
  obtain⟨vx,vy,rfl,hx,hy,o1,o2⟩:=act_openO a1
  refine(hf D w r vs B t vx vy h hG hx hy o1 o2).mono ?_
  rintro e w' ⟨rfl,D',vs',B',t',k1,k2⟩
  exact⟨_,D',vs',B',t',rfl,k1,k2,.v _⟩
theorem newC_ok:FnO 5 [] (.ob (wcP 0 0 cW0)):=by
 intro S w vs hG ha
 obtain rfl:=args0W ha
 refine(newW_WQ S w hG).mono ?_
 rintro e w' ⟨rfl,D,vs,B,t,h,hb,hk,hd,hlo,hnew⟩
 have hF:∀q,q∈(List.range 18).flatMap B↔∃j,j<18∧q∈B j:=fun q=>by simp[List.mem_flatMap]
 refine⟨_,rfl,⟨w.heap.size,(List.range 18).flatMap B,rfl,fun q hq=>?_,⟨vs,B,t,by simp,h.len,h.blk,fun j hj=>(cW0 j).up (toKeeps fun z hz=>⟨hlo z hz,fun hm=>?_⟩) (fun _ _=>rfl) (h.at' j hj),h.ne,h.sep,fun j hj q hq=>List.mem_cons_of_mem _ ((hF q).2 ⟨j,hj,hq⟩)⟩⟩,hb⟩
 ·rcases List.mem_cons.1 hq with rfl|hq
  ·exact⟨Nat.le_refl _,h.blk.lt⟩
  ·obtain⟨j,hj,hm⟩:=(hF q).1 hq
   exact⟨hnew j q hm,h.lt hj hm⟩
 ·rcases List.mem_cons.1 hm with e|hm
  ·exact(h.dat z hz).1 e
  ·obtain⟨j,hj,hm⟩:=(hF z).1 hm
   exact(h.dat z hz).2 j hj hm
theorem stepV_B{n:Int}{c:Nat→Cm}(hn:0≤n∧n≤1000000){i:Nat}(hi:i<8){p:PS}{y:BS}{L:List Ap}(hcp:c i=cDat (.sref (pSegs p) 0))(hcb:c (8+i)=cBk y)(hca:c 17=cAp L)(hL:L.length≤1000){nn fr dr:Int}{m:Nat}{ops:List Int}{z:A}(hm:m≤1000000)(hol:ops.length=m*5)(hdr: -9223372036854775808≤dr∧dr≤9223372036854775807)(hyf:y.f≤1000){c':Nat→Cm}{er:Int}{y':BS}{L':List Ap}(hr:apRes p y L fr ops m nn dr=(er,y',L'))(hc:c'=upd (upd c (8+i) (cBk y')) 17 (cAp L')):
  FnB Tryz.prog gTab 8 0 (wcP 0 n c) [.agg [.ints .i64 4 [1,(i:Nat),nn,fr],.gen 1 [.row m [.ints .i64 (m*5) ops]],.ints .i64 1 [dr],.gen 1 [z]]] (.d (.v (.int .i64 er))) (wcP 0 (n+1) c'):=by
 refine fnB_step fun D w r vs B t vo vy h hG hx hy o1 o2=>?_
 refine(stepv_WQ (i:=i) h hn hG hi hcp hcb hca hL hx hm hol hdr hyf).mono ?_
 rintro e w' ⟨rfl,D',vs',B',k1,k2⟩
 rw[hr]at k1 ⊢
 exact⟨rfl,D',vs',B',t,hc▸k1,k2⟩
theorem stepK_B{n:Int}{c:Nat→Cm}(hn:0≤n∧n≤1000000){i:Nat}(hi:i<8){y:BS}{nn fr dr:Int}{x z:A}(hc:c (8+i)=cBk y)(hk: -9223372036854775808≤nn∧nn≤9223372036854775807){c':Nat→Cm}(hc':c'=upd c (8+i) (cBk (crashB y nn))):
  FnB Tryz.prog gTab 8 0 (wcP 0 n c) [.agg [.ints .i64 4 [5,(i:Nat),nn,fr],.gen 1 [x],.ints .i64 1 [dr],.gen 1 [z]]] (.d (.v (.int .i64 0))) (wcP 0 (n+1) c'):=by
 subst hc'
 refine fnB_step fun D w r vs B t vo vy h hG hx hy o1 o2=>?_
 obtain⟨ps,bs,po,ap,h1,h2,h3,h4⟩:=wls_wl h.len
 have hb0:Blk w r (WL n 0 ps bs po ap).toArray t:=by rw[←h4];exact h.blk
 refine(step_crash w r t n hn ps bs po ap i hi nn fr dr vo vy hb0 (fun cs w2=>∃D' vs' B',cs=(WLs (n+1) 1 vs').toArray∧WQ D' w2 r 1 (n+1) (upd c (8+i) (cBk (crashB y nn))) vs' B' t∧WStep D w r B D' w2 B') fun w1 hb1 hg1=>?_).mono ?_
 ·have hq1:WQ D w1 r 1 (n+1) c vs B t:=h.mu (by rw[h4];exact hb1) hg1
  have s1:WStep D w r B D w1 B:=.own hg1 fun z hz=>(h.dat z hz).1
  refine(wcrash_WQ hq1 i hi y nn hk hc).mono ?_
  rintro e w2 ⟨rfl,v',Bn,k1,k2,k3⟩
  exact⟨_,rfl,⟨_,_,_,rfl,k1,s1.trans (hq1.one (by omega) k2 k3)⟩,k1.blk,by rw[List.getElem?_toArray];rfl⟩
 ·rintro e w' ⟨cs,w2,rfl,⟨D',vs',B',rfl,k1,k2⟩,rfl,hb2⟩
  have hb3:Blk (w2.setCell ⟨r,1,none⟩ (.int .i32 0)) r (WLs (n+1) 0 vs').toArray t:=(k1.blk.set 1 _).copy wls_mu
  have hg3:w2.grownBy (w2.setCell ⟨r,1,none⟩ (.int .i32 0)) (some r):=grown_setCell (grown_refl w2 _) 1 _
  exact⟨rfl,D',vs',B',t,k1.mu hb3 hg3,k2.trans (.own hg3 fun z hz=>(k1.dat z hz).1)⟩
theorem stepE_B{n:Int}{c:Nat→Cm}(hn:0≤n∧n≤1000000){i:Nat}(hi:i<8){p:PS}{L:List Ap}(hcp:c i=cDat (.sref (pSegs p) 0))(hca:c 17=cAp L)(hL:L.length≤1000000)(hlf:leafB p.lf=true){nn fr dr er:Int}{o:Nat}{ops:List Int}{z:A}(ho:o≠0)(ho1:o≤3000){m:Nat}{vz:List Int}(hmv:m=vN L (paperV p.e p.zs p.ad p.k p.ch p.lf ops) 8)(hvz:vz=vZ L (paperV p.e p.zs p.ad p.k p.ch p.lf ops) 8)(hE:comE p o ops m vz=er)(hne:er≠0):
  FnB Tryz.prog gTab 8 0 (wcP 0 n c) [.agg [.ints .i64 4 [2,(i:Nat),nn,fr],.gen 1 [.row o [.ints .i64 (o*5) ops]],.ints .i64 1 [dr],.gen 1 [z]]] (.d (.v (.int .i64 er))) (wcP 0 (n+1) c):=by
 refine fnB_step fun D w r vs B t vo vy h hG hx hy o1 o2=>?_
 refine stepc_WQ (i:=i) h hn hi fun w1 h1 kp=>?_
 exact commitE_WQ (i:=i) (p:=p) (L:=L) h1 (hG.up kp) hi hcp hca hL hlf (hx.up kp) o2 ho ho1 rfl hmv hvz hE hne
theorem stepC_B{n:Int}{c:Nat→Cm}(hn:0≤n∧n≤1000000){i:Nat}(hi:i<8){p:PS}{L:List Ap}{rows:List A}(hcp:c i=cDat (.sref (pSegs p) 0))(hcq:c 16=cPo rows)(hca:c 17=cAp L)(hL:L.length≤1000000)(hlf:leafB p.lf=true){nn fr dr:Int}{o:Nat}{ops:List Int}{z:A}(ho:o≠0)(ho1:o≤3000){m:Nat}{vz:List Int}(hmv:m=vN L (paperV p.e p.zs p.ad p.k p.ch p.lf ops) 8)(hvz:vz=vZ L (paperV p.e p.zs p.ad p.k p.ch p.lf ops) 8)
  {s:Vw}{cc:CS}{q:PS}{N:Nat}{W:Nat→List Seg}(hk:rows.length+1+N≤60)(hE:comE p o ops m vz=0)(hs:s=doP p p.lf o ops)(hc:cc=comP p s o ops m vz (drawW dr))(hq:q=nextP p s o ops m vz (drawW dr))(hm:mayB cc=true)(hw:N=welN s.ng 8)(hW:W=welF (welSegs q (upW (lefW (drawW dr))) (joinP p (drawW dr)) (tagE q.ep) (drawW dr)) s.ng 8)(hok:allW N W)(h1:cc.n≤3000)(h2:cc.m≤3000)(h3:cc.k≤3000)(h4:∀j,j<cc.k→(cc.bx j).length≤6000)
  {c':Nat→Cm}(hc':c'=upd (upd c i (cDat (.sref (pSegs q) 0))) 16 (cPo (rows++letL cc W N))):
  FnB Tryz.prog gTab 8 0 (wcP 0 n c) [.agg [.ints .i64 4 [2,(i:Nat),nn,fr],.gen 1 [.row o [.ints .i64 (o*5) ops]],.ints .i64 1 [dr],.gen 1 [z]]] (.d (.v (.int .i64 0))) (wcP 0 (n+1) c'):=by
 subst hc'
 refine fnB_step fun D w r vs B t vo vy h hG hx hy o1 o2=>?_
 refine stepc_WQ (i:=i) h hn hi fun w1 h1' kp=>?_
 exact commitD_WQ (i:=i) (p:=p) (L:=L) (rows:=rows) h1' (hG.up kp) hi hcp hcq hca hL hlf (hx.up kp) o2 ho ho1 rfl hmv hvz hk hE hs hc hq hm hw hW hok h1 h2 h3 h4
theorem partyC_B{n:Int}{c:Nat→Cm}{i:Nat}(hi:i<8){a b:A}(ha:c i=cDat a)(hc:FnO 54 [a] (.d b)):
  FnB Tryz.prog gTab 29 0 (wcP 0 n c) [.v (.int .i64 (i:Nat))] (.d b) (wcP 0 n c):=by
 refine fnB_WQ fun D w r vs B t av h hG hA=>?_
 obtain rfl:=args1W hA
 obtain⟨ps,bs,po,ap,h1,h2,h3,h4⟩:=wls_wl h.len
 have hb0:Blk w r (WL n 0 ps bs po ap).toArray t:=by rw[←h4];exact h.blk
 have hd:=h.dat_at (j:=i) (by omega) ha
 have hv:ps[i]?=some (vs.getD i undef):=by
  rw[h3,List.getD_eq_getElem?_getD,List.getElem?_append_left (by omega),List.getElem?_eq_getElem (by omega)];rfl
 refine(party_walk w r t n ps bs po ap i hi _ hv hb0 (fun v w2=>RA (fun z=>D z∨w.heap.size≤z) w2 b v∧WQ D w2 r 1 n c vs B t∧WStep D w r B D w2 B) fun w1 hb1 hg1=>?_).mono ?_
 ·have hq1:WQ D w1 r 1 n c vs B t:=h.mu (by rw[h4];exact hb1) hg1
  have s1:WStep D w r B D w1 B:=.own hg1 fun z hz=>(h.dat z hz).1
  refine(hc D w1 [vs.getD i undef] (hG.up s1.k) (.cons (hd.up s1.k) .nil)).mono ?_
  rintro e w2 ⟨v',rfl,k1,k2⟩
  exact⟨v',rfl,⟨RA.up (toKeeps fun z hz=>hz.imp id (Nat.le_trans hg1.size)) k1,hq1.keep k2,s1.trans (.below k2)⟩,k2⟩
 ·rintro e w' ⟨v,w2,rfl,⟨k1,k2,k3⟩,rfl,hb2,hg2⟩
  have hb3:Blk (w2.setCell ⟨r,1,none⟩ (.int .i32 0)) r (WLs n 0 vs).toArray t:=(k2.blk.set 1 _).copy wls_mu
  have hg3:w2.grownBy (w2.setCell ⟨r,1,none⟩ (.int .i32 0)) (some r):=grown_setCell (grown_refl w2 _) 1 _
  have k4:=k2.mu hb3 hg3
  have hr:=h.blk.lt
  have hnew:∀z,D z∨w.heap.size≤z→D z∨(z≠r∧∀j,j<18→z∉B j):=fun z hz=>hz.imp id fun hz=>⟨by omega,fun j hj hm=>by have:=h.lt hj hm;omega⟩
  have s4:=k3.trans (WStep.own hg3 fun z hz=>(k2.dat z hz).1)
  refine⟨v,fun z=>D z∨w.heap.size≤z,vs,B,t,rfl,k4.wide (fun z hz=>.inl hz) hnew,⟨⟨s4.k.1,fun z hz hd=>⟨.inl hd,(s4.k.2 z hz hd).2⟩⟩,s4.g,s4.b,fun z hz=>hz⟩,?_⟩
  refine RA.up (S:=fun z=>D z∨w.heap.size≤z) ⟨hg3.size,fun z hz hd=>⟨hd,fun o=>World.cell?_of_block (hg3.block z hz fun e=>?_)⟩⟩ k1
  cases e
  rcases hd with e|e
  ·exact(h.dat _ e).1 rfl
  ·omega
structure CallU(f:FuncId)(pos:Nat)(p:OP)(args:List A)(K:Res→OP→Prop):Prop where
 out:∃r p',FnB Tryz.prog gTab f pos p args r p'∧K r p'
theorem callU_ok(f:FuncId):∀pos p args K,CallU f pos p args K→∃r p',FnB Tryz.prog gTab f pos p args r p'∧K r p':=fun _ _ _ _ h=>h.out
theorem CallU.mk'{f:FuncId}{pos:Nat}{p p':OP}{args:List A}{r:Res}{K:Res→OP→Prop}(h:FnB Tryz.prog gTab f pos p args r p')(k:K r p'):CallU f pos p args K:=⟨r,p',h,k⟩
end
section
open Pm
def nodeK(zs:List Int)(m:Nat):Bool:=zs.getD m 0 !=0
abbrev n1(lf:Int):Nat:=(lf / 2*4+1).toNat
abbrev n2(lf:Int):Nat:=(lf / 4*8+3).toNat
def keysB(c:CS):Bool:=isI c.sl&&(isI c.p0&&(isI c.p1&&isI c.p2))
def setAb(p:PS)(q:Nat)(h:List UInt8):PS:={ p with ab:=p.ab.take (q*32)++(h++p.ab.drop (q*32+32)) }
end
section
open Pm
theorem putL_hi{zs xs:List Int}(hz:zs.length=31)(hx:xs.length=2){i:Nat}(hi:i<8){m:Nat}(hm:16≤m):(putL zs xs (i:Nat)).getD m 0=if m=16+n1 (i:Nat)∨m=16+n2 (i:Nat)∨m=23 then 0 else zs.getD m 0:=by
 have hlb:leafB (i:Int)=true:=by simp[leafB];omega
 have hl:(zs.take (i*2)++(xs++zs.drop (i*2+2))).length=31:=by simp[hx,hz];omega
 have e0:(zs.take (i*2)++(xs++zs.drop (i*2+2))).getD m 0=zs.getD m 0:=by rw[splice_get hx (by omega),if_neg (by omega)]
 unfold putL
 rw[if_pos hlb,Int.toNat_natCast,getD_set_list,getD_set_list,getD_set_list,e0]
 simp only[List.length_set,hl]
 unfold n1 n2
 by_cases e1:m=23
 ·rw[if_pos ⟨e1.symm,by decide⟩,if_pos (.inr (.inr e1))]
 ·rw[if_neg (fun h=>e1 h.1.symm)]
  by_cases e2:m=16+((i:Int) / 4*8+3).toNat
  ·rw[if_pos ⟨e2.symm,by omega⟩,if_pos (.inr (.inl e2))]
  ·rw[if_neg (fun h=>e2 h.1.symm)]
   by_cases e3:m=16+((i:Int) / 2*4+1).toNat
   ·rw[if_pos ⟨e3.symm,by omega⟩,if_pos (.inl e3)]
   ·rw[if_neg (fun h=>e3 h.1.symm),if_neg (by rintro(h|h|h);exact e3 h;exact e2 h;exact e1 h)]
theorem behZ_len{zs:List Int}(hz:zs.length=31)(fr sl a b c:Int):(behZ zs fr sl a b c).length=31:=by unfold behZ;simp[hz]
theorem behZ_get{zs:List Int}(hz:zs.length=31){fr:Int}(f0:0≤fr)(f1:fr<8)(sl a b c:Int)(m:Nat):(behZ zs fr sl a b c).getD m 0=if m=23 then c else if m=16+n2 fr then b else if m=16+n1 fr then a else if m=fr.toNat*2+1 then sl else zs.getD m 0:=by
 unfold behZ
 rw[getD_set_list,getD_set_list,getD_set_list,getD_set_list]
 simp only[List.length_set,hz]
 unfold n1 n2
 by_cases e1:m=23
 ·rw[if_pos ⟨e1.symm,by decide⟩,if_pos e1]
 ·rw[if_neg (fun h=>e1 h.1.symm),if_neg e1]
  by_cases e2:m=16+(fr / 4*8+3).toNat
  ·rw[if_pos ⟨e2.symm,by omega⟩,if_pos e2]
  ·rw[if_neg (fun h=>e2 h.1.symm),if_neg e2]
   by_cases e3:m=16+(fr / 2*4+1).toNat
   ·rw[if_pos ⟨e3.symm,by omega⟩,if_pos e3]
   ·rw[if_neg (fun h=>e3 h.1.symm),if_neg e3]
    by_cases e4:m=fr.toNat*2+1
    ·rw[if_pos ⟨e4.symm,by omega⟩,if_pos e4]
    ·rw[if_neg (fun h=>e4 h.1.symm),if_neg e4]
structure Keep(zs0:List Int)(j:Nat)(s:Vw):Prop where
 zl:s.zs.length=31
 nl:s.ng.length=8
 gl:s.gn.length=8
 or:s.gn.getD j false=true∨(memL s.zs j=true∧leafP s.zs j=leafP zs0 j∧s.ng.getD j false=false)
theorem Keep.step{zs0:List Int}{j:Nat}(hj:j<8){s:Vw}(h:Keep zs0 j s)(fr:Int){o:List Int}(he:errOp s fr o=0):Keep zs0 j (nextOp s o):=by
 obtain⟨h1,h2,h3,h4⟩:=h
 unfold nextOp
 unfold errOp at he
 by_cases k1:o.getD 0 0=1
 ·rw[if_pos k1]at he ⊢
  obtain⟨hf,hi1,hi2⟩:=errAdd_0 he
  obtain⟨hf8,hfm⟩:=free_lt hf
  refine⟨putL_length h1 rfl,by simp[h2],h3,?_⟩
  rcases h4 with h4|⟨h5,h6,h7⟩
  ·exact .inl h4
  ·have hne:j≠freeN s.zs:=fun e=>by rw[←e,h5]at hfm;cases hfm
   refine .inr ⟨?_,?_,?_⟩
   ·rw[memL_put h1 rfl hf8 hj,if_neg hne];exact h5
   ·rw[leafP_put h1 rfl hf8 hj,if_neg hne];exact h6
   ·show(s.ng.set (freeN s.zs) true).getD j false=false
    rw[getD_setB,if_neg (fun e=>hne e.1.symm)];exact h7
 rw[if_neg k1]at he ⊢
 by_cases k2:o.getD 0 0=2
 ·rw[if_pos k2]at he ⊢
  unfold errRem at he
  have hw:¬(o.getD 1 0=fr∨memB s.zs (o.getD 1 0)=false):=fun hx=>by rw[if_pos hx]at he;cases he
  have hm:memB s.zs (o.getD 1 0)=true:=by
   cases hq:memB s.zs (o.getD 1 0)with
   |true=>rfl
   |false=>exact(hw (.inr hq)).elim
  obtain⟨hb0,hb1⟩:=memB_bd hm
  obtain⟨n,hn⟩:=Int.eq_ofNat_of_zero_le hb0
  rw[hn]at hb1 ⊢
  refine⟨putL_length h1 rfl,by simp[h2],by simp[h3],?_⟩
  by_cases hne:j=n
  ·left
   show(s.gn.set (n:Int).toNat true).getD j false=true
   rw[Int.toNat_natCast,getD_setB,if_pos ⟨hne.symm,by omega⟩]
  ·rcases h4 with h4|⟨h5,h6,h7⟩
   ·left
    show(s.gn.set (n:Int).toNat true).getD j false=true
    rw[Int.toNat_natCast,getD_setB,if_neg (fun e=>hne e.1.symm)];exact h4
   ·refine .inr ⟨?_,?_,?_⟩
    ·rw[memL_put h1 rfl (by omega) hj,if_neg hne];exact h5
    ·rw[leafP_put h1 rfl (by omega) hj,if_neg hne];exact h6
    ·show(s.ng.set (n:Int).toNat false).getD j false=false
     rw[Int.toNat_natCast,getD_setB,if_neg (fun e=>hne e.1.symm)];exact h7
 rw[if_neg k2]
 by_cases k3:o.getD 0 0=3
 ·rw[if_pos k3];exact⟨h1,h2,h3,h4⟩
 rw[if_neg k3]
 by_cases k4:o.getD 0 0=4
 ·rw[if_pos k4];exact⟨h1,h2,h3,h4⟩
 rw[if_neg k4]
 exact⟨h1,h2,h3,h4⟩
structure Goes(zs0:List Int)(s:Vw):Prop where
 zl:s.zs.length=31
 al:s.ad.length=8
 nl:s.ng.length=8
 t:isT s.zs=true
 adm:admTo s.zs s.ad 8=true
 k:1≤s.k
 nd:∀m,16≤m→s.zs.getD m 0=0∨s.zs.getD m 0=zs0.getD m 0
 new:∀j,j<8→s.ng.getD j false=true→memL s.zs j=true∧s.zs.getD (16+n1 (j:Nat)) 0=0∧s.zs.getD (16+n2 (j:Nat)) 0=0∧s.zs.getD 23 0=0
theorem isT_iff(zs:List Int):isT zs=true↔(∀k,k<8→leafOK zs k=true)∧∀k,k<15→nodeOK zs k=true:=by
 unfold isT
 rw[Bool.and_eq_true,List.all_eq_true,List.all_eq_true]
 simp only[List.mem_range]
theorem leafOK_is{zs:List Int}{k:Nat}{a b:Int}(h:leafP zs k=[a,b])(ha:isI a=true)(hb:isI b=true):leafOK zs k=true:=by
 unfold leafOK;rw[h];simp[ha,hb]
theorem leafOK_zero{zs:List Int}{k:Nat}(h:leafP zs k=[0,0]):leafOK zs k=true:=by
 unfold leafOK;rw[h];rfl
theorem leafOK_eq{zs zs':List Int}{k:Nat}(h:leafP zs k=leafP zs' k):leafOK zs k=leafOK zs' k:=by
 unfold leafOK;rw[h]
theorem nodeOK_get{zs:List Int}{k:Nat}(hk:k<15):nodeOK zs k=(decide (zs.getD (16+k) 0=0)||(!((k:Int).tmod 2==0)&&isI (zs.getD (16+k) 0))):=by
 unfold nodeOK;rw[nodeV_eq zs hk]
theorem isT_putK{zs xs:List Int}(hz:zs.length=31)(h:isT zs=true){i:Nat}(hi:i<8)(hx:xs=[0,0]∨∃a b,xs=[a,b]∧isI a=true∧isI b=true):isT (putL zs xs (i:Nat))=true:=by
 have hx2:xs.length=2:=by rcases hx with rfl|⟨a,b,rfl,_⟩<;>rfl
 obtain⟨h1,h2⟩:=(isT_iff zs).1 h
 refine(isT_iff _).2 ⟨fun k hk=>?_,fun k hk=>?_⟩
 ·have e:=leafP_put hz hx2 hi hk
  by_cases hki:k=i
  ·rw[if_pos hki]at e
   rcases hx with rfl|⟨a,b,rfl,ha,hb⟩
   ·exact leafOK_zero e
   ·exact leafOK_is e ha hb
  ·rw[if_neg hki]at e
   rw[leafOK_eq e];exact h1 k hk
 ·have:=h2 k hk
  rw[nodeOK_get hk]at this ⊢
  rw[putL_hi hz hx2 hi (by omega)]
  split
  ·rfl
  ·exact this
theorem memL_of{zs:List Int}{k:Nat}{a b:Int}(h:leafP zs k=[a,b])(ha:isI a=true):memL zs k=true:=by
 unfold memL;rw[h]
 have:=isI_ne ha
 simp[this]
theorem Goes.step{zs0:List Int}{s:Vw}(h:Goes zs0 s)(fr:Int){o:List Int}(he:errOp s fr o=0):Goes zs0 (nextOp s o):=by
 have hinv:Inv s:=⟨h.adm,h.zl,h.al⟩
 have hnx:=nextOp_inv hinv fr he
 obtain⟨h1,h2,h3,h4,h5,h6,h7,h8⟩:=h
 refine⟨hnx.zl,hnx.al,?_,?_,hnx.adm,?_,?_,?_⟩<;>unfold nextOp<;>unfold errOp at he<;>by_cases k1:o.getD 0 0=1
 ·rw[if_pos k1];simp[h3]
 ·rw[if_neg k1];split
  ·simp[h3]
  ·split
   ·exact h3
   ·split<;>exact h3
 ·rw[if_pos k1]at he ⊢
  obtain⟨hf,hi1,hi2⟩:=errAdd_0 he
  obtain⟨hf8,hfm⟩:=free_lt hf
  exact isT_putK h1 h4 hf8 (.inr ⟨_,_,rfl,hi1,hi2⟩)
 ·rw[if_neg k1]at he ⊢
  by_cases k2:o.getD 0 0=2
  ·rw[if_pos k2]at he ⊢
   unfold errRem at he
   have hm:memB s.zs (o.getD 1 0)=true:=by
    cases hq:memB s.zs (o.getD 1 0)with
    |true=>rfl
    |false=>rw[if_pos (.inr hq)]at he;cases he
   obtain⟨hb0,hb1⟩:=memB_bd hm
   obtain⟨n,hn⟩:=Int.eq_ofNat_of_zero_le hb0
   rw[hn]at hb1 ⊢
   exact isT_putK h1 h4 (by omega) (.inl rfl)
  ·rw[if_neg k2];split
   ·exact h4
   ·split<;>exact h4
 ·rw[if_pos k1];exact h6
 ·rw[if_neg k1]at he ⊢
  split
  ·exact h6
  ·next k2=>
   rw[if_neg k2]at he
   split
   ·exact h6
   ·next k3=>
    rw[if_neg k3]at he
    split
    ·exact h6
    ·next k4=>
     rw[if_neg k4]at he
     unfold errLim at he
     show 1≤o.getD 2 0
     by_cases hk:o.getD 2 0<1∨o.getD 2 0>8
     ·rw[if_pos hk]at he;cases he
     ·omega
 ·rw[if_pos k1]at he ⊢
  obtain⟨hf,hi1,hi2⟩:=errAdd_0 he
  obtain⟨hf8,hfm⟩:=free_lt hf
  intro m hm
  show(putL s.zs _ _).getD m 0=0∨(putL s.zs _ _).getD m 0=_
  rw[putL_hi h1 rfl hf8 hm]
  split
  ·exact .inl rfl
  ·exact h7 m hm
 ·rw[if_neg k1]at he ⊢
  by_cases k2:o.getD 0 0=2
  ·rw[if_pos k2]at he ⊢
   unfold errRem at he
   have hm:memB s.zs (o.getD 1 0)=true:=by
    cases hq:memB s.zs (o.getD 1 0)with
    |true=>rfl
    |false=>rw[if_pos (.inr hq)]at he;cases he
   obtain⟨hb0,hb1⟩:=memB_bd hm
   obtain⟨n,hn⟩:=Int.eq_ofNat_of_zero_le hb0
   rw[hn]at hb1 ⊢
   intro m hm
   show(putL s.zs _ _).getD m 0=0∨(putL s.zs _ _).getD m 0=_
   rw[putL_hi h1 rfl (by omega) hm]
   split
   ·exact .inl rfl
   ·exact h7 m hm
  ·rw[if_neg k2];split
   ·exact h7
   ·split<;>exact h7
 ·rw[if_pos k1]at he ⊢
  obtain⟨hf,hi1,hi2⟩:=errAdd_0 he
  obtain⟨hf8,hfm⟩:=free_lt hf
  intro j hj hng
  have hng:(s.ng.set (freeN s.zs) true).getD j false=true:=hng
  show memL (putL s.zs _ _) j=true∧(putL s.zs _ _).getD _ 0=0∧(putL s.zs _ _).getD _ 0=0∧(putL s.zs _ _).getD _ 0=0
  rw[putL_hi h1 rfl hf8 (by omega),putL_hi h1 rfl hf8 (by omega),putL_hi h1 rfl hf8 (by omega)]
  by_cases hje:j=freeN s.zs
  ·subst hje
   refine⟨memL_of (by rw[leafP_put h1 rfl hf8 hf8,if_pos rfl]) hi1,?_,?_,?_⟩
   ·rw[if_pos (.inl rfl)]
   ·rw[if_pos (.inr (.inl rfl))]
   ·rw[if_pos (.inr (.inr rfl))]
  ·rw[getD_setB,if_neg (fun e=>hje e.1.symm)]at hng
   obtain⟨a1,a2,a3,a4⟩:=h8 j hj hng
   refine⟨by rw[memL_put h1 rfl hf8 hj,if_neg hje];exact a1,?_,?_,?_⟩
   ·split
    ·rfl
    ·exact a2
   ·split
    ·rfl
    ·exact a3
   ·split
    ·rfl
    ·exact a4
 ·rw[if_neg k1]at he ⊢
  by_cases k2:o.getD 0 0=2
  ·rw[if_pos k2]at he ⊢
   unfold errRem at he
   have hm:memB s.zs (o.getD 1 0)=true:=by
    cases hq:memB s.zs (o.getD 1 0)with
    |true=>rfl
    |false=>rw[if_pos (.inr hq)]at he;cases he
   obtain⟨hb0,hb1⟩:=memB_bd hm
   obtain⟨n,hn⟩:=Int.eq_ofNat_of_zero_le hb0
   rw[hn]at hb1 ⊢
   intro j hj hng
   have hng:(s.ng.set (n:Int).toNat false).getD j false=true:=hng
   rw[Int.toNat_natCast]at hng
   show memL (putL s.zs _ _) j=true∧(putL s.zs _ _).getD _ 0=0∧(putL s.zs _ _).getD _ 0=0∧(putL s.zs _ _).getD _ 0=0
   rw[putL_hi h1 rfl (by omega) (by omega),putL_hi h1 rfl (by omega) (by omega),putL_hi h1 rfl (by omega) (by omega)]
   by_cases hje:j=n
   ·subst hje
    rw[getD_setB,if_pos ⟨rfl,by omega⟩]at hng
    cases hng
   ·rw[getD_setB,if_neg (fun e=>hje e.1.symm)]at hng
    obtain⟨a1,a2,a3,a4⟩:=h8 j hj hng
    refine⟨by rw[memL_put h1 rfl (by omega) hj,if_neg hje];exact a1,?_,?_,?_⟩
    ·split
     ·rfl
     ·exact a2
    ·split
     ·rfl
     ·exact a3
    ·split
     ·rfl
     ·exact a4
  ·rw[if_neg k2];split
   ·exact h8
   ·split<;>exact h8
theorem mayV_parts{e:Int}{zs:List Int}{ad:List Bool}{k:Int}:mayV e zs ad k=true↔0≤e∧e≤1099511627776∧isT zs=true∧admTo zs ad 8=true∧1≤k∧k≤((cntB ad:Nat):Int):=by
 unfold mayV
 simp only[Bool.and_eq_true,decide_eq_true_eq]
 constructor
 ·rintro⟨⟨⟨⟨⟨a,b⟩,c⟩,d⟩,e⟩,f⟩;exact⟨a,b,c,d,e,f⟩
 ·rintro⟨a,b,c,d,e,f⟩;exact⟨⟨⟨⟨⟨a,b⟩,c⟩,d⟩,e⟩,f⟩
theorem goes_of{e:Int}{zs:List Int}{ad:List Bool}{k:Int}{fr:Int}{ops:List Int}{n:Nat}(hz:zs.length=31)(ha:ad.length=8)(h:(doR e ⟨zs,ad,k,F8,F8⟩ fr ops n).1=0):
  Goes zs (doR e ⟨zs,ad,k,F8,F8⟩ fr ops n).2∧(doR e ⟨zs,ad,k,F8,F8⟩ fr ops n).2.k≤((cntB (doR e ⟨zs,ad,k,F8,F8⟩ fr ops n).2.ad:Nat):Int)∧mayV e zs ad k=true∧memB zs fr=true:=by
 obtain⟨h1,h2,h3,h4,h5,h6,h7⟩:=doR_yes h
 obtain⟨_,_,m3,m4,m5,_⟩:=mayV_parts.1 h1
 rw[h6]
 refine⟨runE_keeps (I:=Goes zs) (fun s o hs he=>hs.step fr he) _ _ _ ⟨hz,ha,rfl,m3,m4,m5,fun m _=>.inr rfl,fun j hj hn=>?_⟩ h5,h7,h1,h4⟩
 have:F8.getD j false=false:=by rcases j with _|_|_|_|_|_|_|_|j<;>first|rfl|omega
 rw[show(⟨zs,ad,k,F8,F8⟩:Vw).ng=F8 from rfl,this]at hn
 cases hn
end
section
open Pm
structure PInv(p:PS):Prop where
 lf0:0≤p.lf
 lf1:p.lf<8
 zl:p.zs.length=31
 al:p.ad.length=8
 cl:p.ch.length=32
 gl:p.sg.length=32
 sl:p.sc.length=32
 bl:p.ab.length=96
 el:p.ep.length=32
 il:p.ini.length=32
 a0:nodeK p.zs (16+n1 p.lf)=false→abK p.ab 0=zB 32
 a1:nodeK p.zs (16+n2 p.lf)=false→abK p.ab 1=zB 32
 a2:nodeK p.zs 23=false→abK p.ab 2=zB 32
structure Own(p:PS):Prop where
 inv:PInv p
 may:mayV p.e p.zs p.ad p.k=true
 lf:leafP p.zs p.lf.toNat=[powI 4 (scal p.sg),nodeY p.sc]
 k0:nodeK p.zs (16+n1 p.lf)=true→p.zs.getD (16+n1 p.lf) 0=nodeY (abK p.ab 0)
 k1:nodeK p.zs (16+n2 p.lf)=true→p.zs.getD (16+n2 p.lf) 0=nodeY (abK p.ab 1)
 k2:nodeK p.zs 23=true→p.zs.getD 23 0=nodeY (abK p.ab 2)
structure Like(p q:PS):Prop where
 e:p.e=q.e
 zs:p.zs=q.zs
 ad:p.ad=q.ad
 k:p.k=q.k
 ch:p.ch=q.ch
 ep:p.ep=q.ep
 ini:p.ini=q.ini
theorem nodeY_isI(h:List UInt8):isI (nodeY h)=true:=isI_pub (scal (nodeW h)) (scal_bd _)
theorem nodeY_ne(h:List UInt8):nodeY h≠0:=isI_ne (nodeY_isI h)
theorem nodeK_not(zs:List Int)(m:Nat):nodeK zs m=false↔zs.getD m 0=0:=by unfold nodeK;simp
theorem up_k0(h:List UInt8):abK (upW h) 0=nextW h:=by
 unfold abK upW
 have h1:=nextW_len h
 simp[List.take_append,h1]
theorem up_k1(h:List UInt8):abK (upW h) 1=nextW (nextW h):=by
 unfold abK upW
 have h1:=nextW_len h
 have h2:=nextW_len (nextW h)
 simp[List.take_append,List.drop_append,h1,h2]
theorem up_k2(h:List UInt8):abK (upW h) 2=nextW (nextW (nextW h)):=by
 unfold abK upW
 have h1:=nextW_len h
 have h2:=nextW_len (nextW h)
 have h3:=nextW_len (nextW (nextW h))
 have e1:List.drop 64 (nextW h)=[]:=List.drop_eq_nil_of_le (by omega)
 have e2:List.take 32 (nextW (nextW (nextW h)))=nextW (nextW (nextW h)):=List.take_of_length_le (by omega)
 simp[List.take_append,List.drop_append,h1,h2,h3,e1,e2]
structure SameP(p p':PS):Prop where
 e:p'.e=p.e
 zs:p'.zs=p.zs
 ad:p'.ad=p.ad
 k:p'.k=p.k
 ch:p'.ch=p.ch
 lf:p'.lf=p.lf
 sg:p'.sg=p.sg
 sc:p'.sc=p.sc
 ep:p'.ep=p.ep
 ini:p'.ini=p.ini
theorem SameP.refl(p:PS):SameP p p:=⟨rfl,rfl,rfl,rfl,rfl,rfl,rfl,rfl,rfl,rfl⟩
theorem SameP.trans{p q r:PS}(h:SameP p q)(k:SameP q r):SameP p r:=⟨k.1.trans h.1,k.2.trans h.2,k.3.trans h.3,k.4.trans h.4,k.5.trans h.5,k.6.trans h.6,k.7.trans h.7,k.8.trans h.8,k.9.trans h.9,k.10.trans h.10⟩
theorem SameP.set(p:PS)(q:Nat)(h:List UInt8):SameP p (setAb p q h):=⟨rfl,rfl,rfl,rfl,rfl,rfl,rfl,rfl,rfl,rfl⟩
end
section
open Pm
theorem leafP_beh{zs:List Int}(hz:zs.length=31){fr:Int}(f0:0≤fr)(f1:fr<8)(sl a b c:Int){j:Nat}(hj:j<8):leafP (behZ zs fr sl a b c) j=if j=fr.toNat then[zs.getD (fr.toNat*2) 0,sl]else leafP zs j:=by
 have hl:=behZ_len hz fr sl a b c
 rw[leafP_two (by omega) hj,behZ_get hz f0 f1,behZ_get hz f0 f1,leafP_two (by omega) hj]
 unfold n1 n2
 by_cases e:j=fr.toNat
 ·rw[if_neg (by omega),if_neg (by omega),if_neg (by omega),if_neg (by omega),if_neg (by omega),if_neg (by omega),if_neg (by omega),if_pos (by omega),if_pos e,e]
 ·rw[if_neg (by omega),if_neg (by omega),if_neg (by omega),if_neg (by omega),if_neg (by omega),if_neg (by omega),if_neg (by omega),if_neg (by omega),if_neg e]
theorem isT_beh{zs:List Int}(hz:zs.length=31)(h:isT zs=true){fr:Int}(f0:0≤fr)(f1:fr<8){sl a b c x y:Int}(hx:leafP zs fr.toNat=[x,y])(ix:isI x=true)(i0:isI sl=true)(i1:isI a=true)(i2:isI b=true)(i3:isI c=true):isT (behZ zs fr sl a b c)=true:=by
 obtain⟨h1,h2⟩:=(isT_iff zs).1 h
 refine(isT_iff _).2 ⟨fun k hk=>?_,fun k hk=>?_⟩
 ·have e:=leafP_beh hz f0 f1 sl a b c hk
  by_cases hki:k=fr.toNat
  ·rw[if_pos hki]at e
   have hx2:=hx
   rw[leafP_two (by omega) (by omega)]at hx2
   have e1:zs.getD (fr.toNat*2) 0=x:=(List.cons.inj hx2).1
   rw[e1]at e
   exact leafOK_is e ix i0
  ·rw[if_neg hki]at e
   rw[leafOK_eq e];exact h1 k hk
 ·have:=h2 k hk
  rw[nodeOK_get hk]at this ⊢
  rw[behZ_get hz f0 f1]
  unfold n1 n2
  have odd:∀v:Int,isI v=true→(k:Int)%2=1→(decide (v=0)||(!((k:Int).tmod 2==0)&&isI v))=true:=fun v hv ho=>by
   have:(k:Int).tmod 2=1:=by rw[Int.tmod_eq_emod_of_nonneg (by omega)];exact ho
   rw[this,hv];simp
  split
  ·exact odd c i3 (by omega)
  ·split
   ·exact odd b i2 (by omega)
   ·split
    ·exact odd a i1 (by omega)
    ·rw[if_neg (by omega)];exact this
theorem memL_beh{zs:List Int}(hz:zs.length=31){fr:Int}(f0:0≤fr)(f1:fr<8)(sl a b c:Int){j:Nat}(hj:j<8)(hs:sl≠0)(h:memL zs j=true):memL (behZ zs fr sl a b c) j=true:=by
 unfold memL at h ⊢
 rw[leafP_beh hz f0 f1 sl a b c hj]
 split
 ·simp[hs]
 ·exact h
theorem may_beh{zs0:List Int}{s:Vw}(g:Goes zs0 s)(hk:s.k≤((cntB s.ad:Nat):Int)){fr:Int}(f0:0≤fr)(f1:fr<8){sl a b c x y:Int}(hx:leafP s.zs fr.toNat=[x,y])(ix:isI x=true)(i0:isI sl=true)(i1:isI a=true)(i2:isI b=true)(i3:isI c=true){e:Int}(e0:0≤e)(e1:e≤1099511627776):
  mayV e (behZ s.zs fr sl a b c) s.ad s.k=true:=by
 refine mayV_parts.2 ⟨e0,e1,isT_beh g.zl g.t f0 f1 hx ix i0 i1 i2 i3,?_,g.k,hk⟩
 rw[admTo_iff]
 intro i hi ha
 exact memL_beh g.zl f0 f1 sl a b c hi (isI_ne i0) ((admTo_iff _ _).1 g.adm i hi ha)
theorem comE_0{q:PS}{n:Nat}{ops:List Int}{m:Nat}{vs:List Int}(h:comE q n ops m vs=0):chkV q.e q.zs q.ad q.k q.ch q.lf ops n vs m=0∧(doR q.e ⟨q.zs,q.ad,q.k,F8,F8⟩ q.lf ops n).1=0∧q.e<1099511627776:=by
 unfold comE at h
 by_cases h1:chkV q.e q.zs q.ad q.k q.ch q.lf ops n vs m=0
 ·rw[if_neg (fun x=>x h1)]at h
  by_cases h2:(doR q.e ⟨q.zs,q.ad,q.k,F8,F8⟩ q.lf ops n).1=0
  ·rw[if_neg (fun x=>x h2)]at h
   refine⟨h1,h2,?_⟩
   by_cases h3:q.e≥1099511627776
   ·rw[if_pos h3]at h;cases h
   ·omega
  ·rw[if_pos h2]at h;exact absurd h h2
 ·rw[if_pos h1]at h;exact absurd h h1
theorem Own.mem{p:PS}(h:Own p):memL p.zs p.lf.toNat=true:=memL_of h.lf (isI_pub _ (scal_bd _))
theorem nextP_zs(p:PS)(s:Vw)(n:Nat)(ops:List Int)(m:Nat)(vs:List Int)(d:List UInt8):(nextP p s n ops m vs d).zs=behZ s.zs p.lf (nodeY (lefW d)) (nodeY (nextW (lefW d))) (nodeY (nextW (nextW (lefW d)))) (nodeY (nextW (nextW (nextW (lefW d))))):=by
 dsimp only[nextP,reachP,enterP,behP,renewP,com0]
theorem com_own{q:PS}(hq:Own q){n:Nat}{ops:List Int}{m:Nat}{vs:List Int}(hc:comE q n ops m vs=0)(d:List UInt8):Own (nextP q (doP q q.lf n ops) n ops m vs d):=by
 obtain⟨h1,h2,h3⟩:=comE_0 hc
 obtain⟨g,gk,gm,_⟩:=goes_of hq.inv.zl hq.inv.al h2
 obtain⟨l0,l1⟩:=(⟨hq.inv.lf0,hq.inv.lf1⟩:0≤q.lf∧q.lf<8)
 have hst:Stay q.zs q.lf.toNat (doP q q.lf n ops):=by
  have e:((q.lf.toNat:Nat):Int)=q.lf:=by omega
  have h2':=h2
  rw[←e]at h2'
  have:=(stay_of hq.inv.zl hq.inv.al h2').2
  rw[e]at this
  exact this
 obtain⟨e0,_⟩:=mayV_parts.1 gm
 have hg:Goes q.zs (doP q q.lf n ops):=g
 have hgk:(doP q q.lf n ops).k≤((cntB (doP q q.lf n ops).ad:Nat):Int):=gk
 generalize doP q q.lf n ops=s at hst hg hgk
 have hx:leafP s.zs q.lf.toNat=[powI 4 (scal q.sg),nodeY q.sc]:=hst.own.trans hq.lf
 have ix:isI (powI 4 (scal q.sg))=true:=isI_pub _ (scal_bd _)
 have y0:=nodeY_isI (lefW d)
 have y1:=nodeY_isI (nextW (lefW d))
 have y2:=nodeY_isI (nextW (nextW (lefW d)))
 have y3:=nodeY_isI (nextW (nextW (nextW (lefW d))))
 obtain⟨zs,hzs⟩:∃zs,zs=behZ s.zs q.lf (nodeY (lefW d)) (nodeY (nextW (lefW d))) (nodeY (nextW (nextW (lefW d)))) (nodeY (nextW (nextW (nextW (lefW d))))):=⟨_,rfl⟩
 have ez:(nextP q s n ops m vs d).zs=zs:=(nextP_zs q s n ops m vs d).trans hzs.symm
 have hlen:zs.length=31:=by rw[hzs];exact behZ_len hg.zl _ _ _ _ _
 have get:=behZ_get hg.zl l0 l1 (nodeY (lefW d)) (nodeY (nextW (lefW d))) (nodeY (nextW (nextW (lefW d)))) (nodeY (nextW (nextW (nextW (lefW d)))))
 rw[←hzs]at get
 have g0:zs.getD (16+n1 q.lf) 0=nodeY (nextW (lefW d)):=by rw[get];unfold n1 n2;rw[if_neg (by omega),if_neg (by omega),if_pos rfl]
 have g1:zs.getD (16+n2 q.lf) 0=nodeY (nextW (nextW (lefW d))):=by rw[get];unfold n2;rw[if_neg (by omega),if_pos rfl]
 have g2:zs.getD 23 0=nodeY (nextW (nextW (nextW (lefW d)))):=by rw[get,if_pos rfl]
 have eab:(nextP q s n ops m vs d).ab=upW (lefW d):=rfl
 have elf:(nextP q s n ops m vs d).lf=q.lf:=rfl
 have yes:∀{k:Nat} {x:List UInt8} {P:Prop},zs.getD k 0=nodeY x→nodeK zs k=false→P:=fun e h=>((nodeY_ne _) (e.symm.trans ((nodeK_not _ _).1 h))).elim
 refine⟨⟨l0,l1,by rw[ez];exact hlen,hg.al,chnW_len _ _,hq.inv.gl,lefW_len d,by rw[eab];exact upW_len _,epoW_len _ _,iniW_len _,?_,?_,?_⟩,?_,?_,?_,?_,?_⟩
 ·rw[ez,elf];exact yes g0
 ·rw[ez,elf];exact yes g1
 ·rw[ez];exact yes g2
 ·show mayV (q.e+1) (nextP q s n ops m vs d).zs s.ad s.k=true
  rw[ez,hzs]
  exact may_beh hg hgk l0 l1 hx ix y0 y1 y2 y3 (by omega) (by omega)
 ·show leafP (nextP q s n ops m vs d).zs q.lf.toNat=[powI 4 (scal q.sg),nodeY (lefW d)]
  rw[ez,hzs,leafP_beh hg.zl l0 l1 _ _ _ _ (by omega),if_pos rfl]
  have h4:=hx
  rw[leafP_two (by have:=hg.zl;omega) (by omega)]at h4
  rw[(List.cons.inj h4).1]
 ·intro _;rw[ez,elf,eab,up_k0];exact g0
 ·intro _;rw[ez,elf,eab,up_k1];exact g1
 ·intro _;rw[ez,eab,up_k2];exact g2
end
section
open Pm
section
variable (q : PS) (s : Vw) (n : Nat) (ops : List Int) (m : Nat) (vs : List Int) (d : List UInt8)
end
section
variable (q : PS) (s : Vw) (n : Nat) (ops : List Int) (m : Nat) (vs : List Int) (d : List UInt8)
end
end
section
open Pm
structure Wc where
 lf:Int
 fr:Int
 e:Int
 zs:List Int
 ad:List Bool
 k:Int
 ch:List UInt8
 bx:List UInt8
 tg:List UInt8
def meetB(a b k:Nat):Bool:=decide (placeI (a:Int) (commonI (b:Int) (a:Int))=(k:Int))&&decide (placeI (b:Int) (commonI (a:Int) (b:Int))=(k:Int))&&
 (if k=0 then decide (n1 (b:Int)=n1 (a:Int))&&decide (n2 (b:Int)=n2 (a:Int))else if k=1 then decide (n2 (b:Int)=n2 (a:Int))&&decide (n1 (b:Int)≠n1 (a:Int))else decide (n2 (b:Int)≠n2 (a:Int))&&decide (n1 (b:Int)≠n1 (a:Int)))
theorem meetsB:((List.range 8).all fun a=>(List.range 8).all fun b=>a==b||((List.range 3).any fun k=>meetB a b k))=true:=by decide+kernel
theorem meets{a b:Int}(a0:0≤a)(a1:a<8)(b0:0≤b)(b1:b<8)(hne:a≠b):∃k:Nat,k<3∧placeI a (commonI b a)=k∧placeI b (commonI a b)=k∧
  (k=0→n1 b=n1 a∧n2 b=n2 a)∧(k=1→n2 b=n2 a∧n1 b≠n1 a)∧(k=2→n2 b≠n2 a∧n1 b≠n1 a):=by
 obtain⟨i,rfl⟩:=Int.eq_ofNat_of_zero_le a0
 obtain⟨j,rfl⟩:=Int.eq_ofNat_of_zero_le b0
 have h:=List.all_eq_true.1 (List.all_eq_true.1 meetsB i (List.mem_range.2 (by omega))) j (List.mem_range.2 (by omega))
 have hij:(i==j)=false:=by simp;omega
 rw[hij,Bool.false_or,List.any_eq_true]at h
 obtain⟨k,hk,h⟩:=h
 have hk:=List.mem_range.1 hk
 unfold meetB at h
 rw[Bool.and_eq_true,Bool.and_eq_true,decide_eq_true_eq,decide_eq_true_eq]at h
 obtain⟨⟨h1,h2⟩,h3⟩:=h
 refine⟨k,hk,h1,h2,fun e=>?_,fun e=>?_,fun e=>?_⟩
 ·rw[if_pos e,Bool.and_eq_true,decide_eq_true_eq,decide_eq_true_eq]at h3;exact h3
 ·rw[if_neg (by omega),if_pos e,Bool.and_eq_true,decide_eq_true_eq,decide_eq_true_eq]at h3;exact h3
 ·rw[if_neg (by omega),if_neg (by omega),Bool.and_eq_true,decide_eq_true_eq,decide_eq_true_eq]at h3;exact h3
end
section
open Pm
structure Took(p:PS)(s:Vw)(c:CS)(p2:PS):Prop where
 keys:keysB c=true
 same:SameP (behP p s c) p2
 ab:p2.ab.length=96
 at0:(n1 p.lf=n1 c.fr∧c.p0=nodeY (abK p2.ab 0))∨(n1 p.lf≠n1 c.fr∧abK p2.ab 0=if nodeK s.zs (16+n1 p.lf)=true then abK p.ab 0 else zB 32)
 at1:(n2 p.lf=n2 c.fr∧c.p1=nodeY (abK p2.ab 1))∨(n2 p.lf≠n2 c.fr∧abK p2.ab 1=if nodeK s.zs (16+n2 p.lf)=true then abK p.ab 1 else zB 32)
 at2:c.p2=nodeY (abK p2.ab 2)
end
section
open Pm
def seedP(n:Int):List UInt8:=UInt8.ofNat (IntKind.u8.wrap n).toNat::11::List.replicate 30 0
abbrev atP(G:List (Option PS))(i:Nat):Option PS:=G.getD i none
structure Grp(G:List (Option PS)):Prop where
 own:∀(i:Nat) (p:PS),atP G i=some p→Own p
 like:∀(i j:Nat) (p q:PS),atP G i=some p→atP G j=some q→Like p q
 leaf:∀(i j:Nat) (p q:PS),atP G i=some p→atP G j=some q→i≠j→p.lf≠q.lf
theorem Like.refl(p:PS):Like p p:=⟨rfl,rfl,rfl,rfl,rfl,rfl,rfl⟩
theorem Like.symm{p q:PS}(h:Like p q):Like q p:=⟨h.e.symm,h.zs.symm,h.ad.symm,h.k.symm,h.ch.symm,h.ep.symm,h.ini.symm⟩
theorem Like.trans{p q r:PS}(h:Like p q)(k:Like q r):Like p r:=⟨h.e.trans k.e,h.zs.trans k.zs,h.ad.trans k.ad,h.k.trans k.k,h.ch.trans k.ch,h.ep.trans k.ep,h.ini.trans k.ini⟩
structure Behind(q q':PS)(s:Vw)(r:PS):Prop where
 own:Own r
 like:Like r q'
end
section
open Pm
theorem powV_lt_ne{a b:Nat}(ha:1≤a)(hab:a<b)(hb:b<1073741789):pw 4 a≠pw 4 b:=by
 intro h
 have e1:pw 4 (1073741789-a)*pw 4 a%2147483579=1:=by rw[pw_add,show 1073741789-a+a=1073741789 by omega,four_Q]
 have e2:pw 4 (1073741789-a)*pw 4 b%2147483579=pw 4 (b-a):=by
  rw[pw_add,show 1073741789-a+b=1073741789+(b-a) by omega,←pw_add,four_Q,Nat.one_mul,Nat.mod_eq_of_lt (pw_lt _ _)]
 rw[←h,e1]at e2
 exact four_ne (b-a) (by omega) (by omega) e2.symm
theorem powV_inj{a b:Int}(ha:1≤a∧a<1073741789)(hb:1≤b∧b<1073741789)(h:powI 4 a=powI 4 b):a=b:=by
 obtain⟨m,rfl⟩:=Int.eq_ofNat_of_zero_le (show 0≤a by omega)
 obtain⟨n,rfl⟩:=Int.eq_ofNat_of_zero_le (show 0≤b by omega)
 rw[show powI 4 (m:Int)=(pw 4 m:Int)from powI_nat 4 m (by decide) (by omega),show powI 4 (n:Int)=(pw 4 n:Int)from powI_nat 4 n (by decide) (by omega)]at h
 have h':pw 4 m=pw 4 n:=Int.ofNat_inj.1 h
 rcases Nat.lt_trichotomy m n with h1|h1|h1
 ·exact(powV_lt_ne (by omega) h1 (by omega) h').elim
 ·rw[h1]
 ·exact(powV_lt_ne (by omega) h1 (by omega) h'.symm).elim
theorem isI_pubV(s:Int)(hs:1≤s∧s<1073741789):isI (powI 4 s)=true:=by
 obtain⟨n,rfl⟩:=Int.eq_ofNat_of_zero_le (show 0≤s by omega)
 rw[show powI 4 (n:Int)=(pw 4 n:Int)from powI_nat 4 n (by decide) (by omega)]
 exact isI_four n (by omega) (by omega)
theorem sigS_bdV(s:Int)(p:List UInt8):0≤sigS s p∧sigS s p<1073741789:=by
 unfold sigS
 omega
theorem verW_ownV(s:Int)(p:List UInt8)(hs:1≤s∧s<1073741789):verW (powI 4 s) p (sigE s p) (sigS s p)=true:=by
 have hn:=nonceW_bd s p
 have hE:=sigE_bd s p
 unfold verW
 rw[isI_pubV s hs,decide_eq_true hE,decide_eq_true (sigS_bdV s p)]
 have h:=begun s (nonceW s p) (sigE s p) ⟨by omega,hs.2⟩ ⟨by omega,hn.2⟩ hE
 have h2:sigS s p=(nonceW s p+sigE s p*s)%1073741789:=rfl
 rw[h2,h]
 simp[sigE]
theorem isI_0V{x:Int}(h:isI x=true):x≠0:=by
 rintro rfl
 revert h
 decide
abbrev sgV(j:Nat):Int:=powI 4 (scal (sgnW (seedP (j:Nat))))
end
section
open Pm
def blk(s:List UInt8)(i:Nat):List UInt8:=(s.drop (i*32)).take 32
structure XS where
 e:Int
 zs:List Int
 ad:List Bool
 k:Int
 ch:List UInt8
 lf:Int
 x:Int
 y:Int
 s:List UInt8
 has:List Bool
 ep:List UInt8
 ini:List UInt8
end
section
open Pm
attribute [local irreducible] condK LoopA regA powI scal mulI isI fourB deriveW numB numsB bodyB nodeW nextW viewHV doR chkV planL sealB boxD keyZ helD commonI placeI apE doP comE comP nextP joinP upW
theorem xderive_fn(h:List UInt8)(l:ByteArray)(hl:l.size≤1000000):FnO 16 [.agg [.bytes 32 h],.v (.string l)] (.d (.agg [.bytes 32 (deriveW h (sb l) [])])):=by
 refine fnA (E:=envR1) Tryz.func16 Tryz.ntmps16 ?_
 refine agow ?_;(try exact⟨⟩)
def xderS:List A→(Res→Prop)→Prop
 |[.agg [.bytes 32 h],.v (.string l)],K=>l.size≤1000000∧K (.d (.agg [.bytes 32 (deriveW h (sb l) [])]))
 |_,_=>False
theorem xderS_ok:∀args K,xderS args K→∃r,FnO 16 args r∧K r:=by
 intro args K h
 unfold xderS at h
 split at h
 ·exact⟨_,xderive_fn _ _ h.1,h.2⟩
 ·exact h.elim
noncomputable def envX0:EnvX:=envR1.add 16 xderS xderS_ok ⟨_,Tryz.func16,by kernel_rfl,by kernel_rfl⟩
theorem xsigner_fn(h:List UInt8):FnO 14 [.agg [.bytes 32 h]] (.d (.agg [.ints .i64 2 [scal (sgnW h),powI 4 (scal (sgnW h))]])):=by
 refine fnA (E:=envX0) Tryz.func14 Tryz.ntmps14 ?_
 refine agow ?_;(try exact⟨⟩)
 try rfl
def xsignS:List A→(Res→Prop)→Prop
 |[.agg [.bytes 32 h]],K=>∀x y,x=scal (sgnW h)→y=powI 4 (scal (sgnW h))→K (.d (.agg [.ints .i64 2 [x,y]]))
 |_,_=>False
theorem xsignS_ok:∀args K,xsignS args K→∃r,FnO 14 args r∧K r:=by
 intro args K h
 unfold xsignS at h
 split at h
 ·exact⟨_,xsigner_fn _,h _ _ rfl rfl⟩
 ·exact h.elim
noncomputable def envX1:EnvX:=envX0.add 14 xsignS xsignS_ok ⟨_,Tryz.func14,by kernel_rfl,by kernel_rfl⟩
theorem xleaf_fn(h:List UInt8):FnO 6 [.agg [.bytes 32 h]] (.d (.agg [.ints .i64 2 (leafZ h)])):=by
 refine fnA (E:=envX1) Tryz.func6 Tryz.ntmps6 ?_
 refine agow ?_;(try exact⟨⟩)
 intro x y hx hy
 refine agow ?_;(try exact⟨⟩)
 rw[hy]
 try rfl
def xleafS:List A→(Res→Prop)→Prop
 |[.agg [.bytes 32 h]],K=>∀L,L=leafZ h→K (.d (.agg [.ints .i64 2 L]))
 |_,_=>False
theorem xleafS_ok:∀args K,xleafS args K→∃r,FnO 6 args r∧K r:=by
 intro args K h
 unfold xleafS at h
 split at h
 ·exact⟨_,xleaf_fn _,h _ rfl⟩
 ·exact h.elim
end
section
open Pm
attribute [local irreducible] condK LoopA regA powI scal mulI isI fourB deriveW numB numsB bodyB nodeW nextW viewHV doR chkV sealB boxD helD commonI placeI apE doP comE comP nextP joinP upW
end
section
open Pm
attribute [local irreducible] condK LoopA regA powI scal mulI isI fourB deriveW numB numsB bodyB nodeW nextW viewHV doR chkV sealB boxD helD placeI apE doP comE comP nextP joinP upW
end
section
open Pm
attribute [local irreducible] condK LoopA regA powI scal mulI isI deriveW numB numsB bodyB nodeW nextW viewHV doR chkV planL sealB boxD helD commonI keyZ placeI apE doP comE comP nextP joinP upW
end
section
open Pm
attribute [local irreducible] condK LoopA regA powI scal mulI isI deriveW numB numsB bodyB nodeW nextW viewHV doR chkV planL sealB boxD helD commonI keyZ placeI apE doP comE comP nextP joinP upW
end
section
open Pm
attribute [local irreducible] condK LoopA regA powI scal mulI isI deriveW numB numsB bodyB nodeW nextW viewHV doR chkV planL sealB boxD helD commonI keyZ placeI apE doP comE comP nextP joinP upW
end
section
open Pm
attribute [local irreducible] condK LoopA regA powI scal mulI isI deriveW numB numsB bodyB nodeW nextW viewHV doR chkV planL sealB boxD helD commonI keyZ placeI apE doP comE comP nextP joinP upW
end
section
open Pm
attribute [local irreducible] condK LoopA regA powI scal mulI isI deriveW numB numsB bodyB nodeW nextW viewHV doR chkV planL sealB boxD helD commonI keyZ placeI apE doP comE comP nextP joinP upW
end
section
open Pm
attribute [local irreducible] condK LoopA regA powI scal mulI isI deriveW numB numsB bodyB nodeW nextW viewHV doR chkV planL sealB boxD helD commonI keyZ placeI apE doP comE comP nextP joinP upW
end
section
open Pm
theorem create_fields(h:List UInt8):(createP h).e=0∧(createP h).zs=[powI 4 (scal (sgnW h)),nodeY (lefW h)]++List.replicate 29 0∧(createP h).ad=[true,false,false,false,false,false,false,false]∧(createP h).k=1∧(createP h).ch=zB 32∧(createP h).lf=0∧
  (createP h).sg=sgnW h∧(createP h).sc=lefW h∧(createP h).ab=zB 96∧(createP h).ep=fstW (lefW h)∧(createP h).ini=iniW (fstW (lefW h)):=by
 unfold createP enterP leafZ
 exact⟨rfl,rfl,rfl,rfl,rfl,rfl,rfl,rfl,rfl,rfl,rfl⟩
theorem own_of{p:PS}{x y:Int}(h1:p.zs=[x,y]++List.replicate 29 0)(h2:p.ad.length=8)(h3:p.ch.length=32)(h4:p.lf=0)(h5:p.sg.length=32)(h6:p.sc.length=32)(h7:p.ab=zB 96)(h8:p.ep.length=32)(h9:p.ini.length=32)(hm:mayV p.e p.zs p.ad p.k=true)(hx:x=powI 4 (scal p.sg))(hy:y=nodeY p.sc):Own p:=by
 have z:∀k,k<3→abK (zB 96) k=zB 32:=fun k hk=>by
  unfold abK
  rw[List.drop_replicate,List.take_replicate,show min 32 (96-k*32)=32 by omega]
 have n:∀j:Nat,2≤j→j<31→p.zs.getD j 0=0:=fun j hj hj2=>by
  rw[h1,List.getD_eq_getElem?_getD,List.getElem?_append_right (by simp;omega),List.getElem?_replicate,if_pos (by simp;omega)]
  rfl
 have k1:nodeK p.zs (16+n1 p.lf)=false:=(nodeK_not _ _).2 (n _ (by unfold n1;omega) (by rw[h4];decide))
 have k2:nodeK p.zs (16+n2 p.lf)=false:=(nodeK_not _ _).2 (n _ (by unfold n2;omega) (by rw[h4];decide))
 have k3:nodeK p.zs 23=false:=(nodeK_not _ _).2 (n _ (by decide) (by decide))
 refine⟨⟨by omega,by omega,by rw[h1];simp,h2,h3,h5,h6,by rw[h7];simp,h8,h9,fun _=>by rw[h7];exact z 0 (by decide),fun _=>by rw[h7];exact z 1 (by decide),fun _=>by rw[h7];exact z 2 (by decide)⟩,hm,?_,fun h=>by(rw[k1]at h;cases h),fun h=>by(rw[k2]at h;cases h),fun h=>by(rw[k3]at h;cases h)⟩
 rw[h4,h1,hx,hy]
 rfl
theorem create_own(h:List UInt8):Own (createP h):=by
 obtain⟨_,k2,k3,_,k5,k6,k7,k8,k9,k10,k11⟩:=create_fields h
 exact own_of k2 (by rw[k3];rfl) (by rw[k5];simp) k6 (by rw[k7];exact sgnW_len _) (by rw[k8];exact lefW_len _) k9 (by rw[k10];exact fstW_len _) (by rw[k11];exact iniW_len _) (create_may h) (by rw[k7]) (by rw[k8])
end
section
open Pm
attribute [local irreducible] isI powI scal sgnW lefW putL behZ mayV seedP nodeY
structure GV(i a:Nat)(q:PS):Prop where
 own:Own q
 lf:q.lf=0
 mem:∀j,j<8→memL q.zs j=decide (j<i)
 sg:∀j,j<i→q.zs.getD (j*2) 0=sgV j
 ad:∀j,j<8→q.ad.getD j false=decide (j<a)
 k:q.k=1
 e:q.e=(i:Int) -1
def opsV(x y:Int)(i:Nat)(pr:Bool):List Int:=[1,0,0,x,y]++if pr=true then[3,(i:Int),0,0,0]else[]
def cntV(pr:Bool):Nat:=if pr=true then 2 else 1
def endV(q:PS)(x y:Int)(i:Nat)(pr:Bool):Vw:=⟨putL q.zs [x,y] (i:Nat),if pr=true then q.ad.set i true else q.ad,q.k,F8.set i true,F8⟩
theorem runV_1{fr:Int}{ops o:List Int}{d j:Nat}{s:Vw}(ho:opAt ops j=o)(h:errOp s fr o=0):runE fr ops (d+1) j s=runE fr ops d (j+1) (nextOp s o):=by rw[runE,ho,if_pos h]
theorem runV_0(fr:Int)(ops:List Int)(j:Nat)(s:Vw):runE fr ops 0 j s=(0,s):=by rw[runE]
theorem memBV(zs:List Int){w:Nat}(hw:w<8):memB zs (w:Int)=memL zs w:=by
 unfold memB leafB
 rw[decide_eq_true (show(0:Int)≤(w:Int) by omega),decide_eq_true (show(w:Int)<8 by omega),Int.toNat_natCast]
 rfl
theorem doR_V{e:Int}{s s':Vw}{fr:Int}{ops:List Int}{n:Nat}(hv:mayV e s.zs s.ad s.k=true)(hn:n≤4)(ho:oddTo ops n=false)(hm:memB s.zs fr=true)(hr:runE fr ops n 0 s=(0,s'))(hc:s'.k≤((cntB s'.ad:Nat):Int)):doR e s fr ops n=(0,s'):=by
 unfold doR
 rw[hv,ho,hm,hr,decide_eq_false (show ¬n>4 by omega)]
 show(if((cntB s'.ad:Nat):Int)<s'.k then _ else _)=_
 rw[if_neg (by omega)]
theorem ad_eq{ad:List Bool}{a:Nat}(hl:ad.length=8)(h:∀j,j<8→ad.getD j false=decide (j<a)):ad=(List.range 8).map fun j=>decide (j<a):=by
 refine List.ext_getElem (by simp[hl]) fun i h1 h2=>?_
 have:=h i (by omega)
 rw[List.getD_eq_getElem?_getD,List.getElem?_eq_getElem h1]at this
 simpa using this
theorem cnt_ad{ad:List Bool}{a:Nat}(hl:ad.length=8)(ha:a≤8)(h:∀j,j<8→ad.getD j false=decide (j<a)):cntB ad=a:=by
 rw[ad_eq hl h]
 have:a=0∨a=1∨a=2∨a=3∨a=4∨a=5∨a=6∨a=7∨a=8:=by omega
 rcases this with rfl|rfl|rfl|rfl|rfl|rfl|rfl|rfl|rfl<;>decide
section
variable {i a : Nat} {q : PS} (h : GV i a q) (i0 : 1 ≤ i) (i1 : i < 6) {x y : Int} (hx : isI x = true) (hy : isI y = true) (hn : ∀ j, j < i → q.zs.getD (j * 2) 0 ≠ x) (a0 : 1 ≤ a) (a1 : a ≤ i) {pr : Bool} (hp : pr = true → a = i)
include h i0 i1 hx hy hn
include a0 a1 hp
end
end
section
open Pm
attribute [local irreducible] isI powI scal sgnW lefW putL behZ mayV seedP nodeY
def voteV(p:PS)(ops:List Int):List Int:=[0,sigE (scal p.sg) (paperV p.e p.zs p.ad p.k p.ch p.lf ops),sigS (scal p.sg) (paperV p.e p.zs p.ad p.k p.ch p.lf ops)]
theorem own_sg{p:PS}(h:Own p)(hl:p.lf=0):p.zs.getD 0 0=powI 4 (scal p.sg):=by
 have:=h.lf
 rw[hl,leafP_two (by rw[h.inv.zl];decide) (by decide)]at this
 exact(List.cons.inj this).1
theorem comV_one{p:PS}{n:Nat}{ops:List Int}(hn:n≠0)(hd:(doR p.e ⟨p.zs,p.ad,p.k,F8,F8⟩ p.lf ops n).1=0)(hx2:p.zs.getD 0 0=powI 4 (scal p.sg))(h0:admB p.ad 0=true)(hk:p.k=1)(hl:p.lf=0)(he:p.e<1000):
  appE p.e p.zs p.ad p.k p.lf (scal p.sg) p.lf ops n=0∧comE p n ops 1 (voteV p ops)=0:=by
 refine⟨?_,?_⟩
 ·unfold appE
  rw[if_neg hn,if_neg (fun h=>h hd),hl,if_neg (by rw[h0];decide),if_neg (fun h=>h hx2.symm)]
 ·have hp:passB p.zs p.ad (paperV p.e p.zs p.ad p.k p.ch p.lf ops) (voteV p ops) 0=true:=by
   unfold passB voteV
   show(admB p.ad 0&&decide ((-1:Int)<0)&&verW (p.zs.getD 0 0) _ (sigE (scal p.sg) (paperV p.e p.zs p.ad p.k p.ch p.lf ops)) (sigS (scal p.sg) (paperV p.e p.zs p.ad p.k p.ch p.lf ops)))=true
   rw[h0,hx2,verW_ownV _ _ (scal_bd _)]
   rfl
  have hc:chkE p.zs p.ad (paperV p.e p.zs p.ad p.k p.ch p.lf ops) (voteV p ops) 1=0:=chkE_all fun j hj=>by
   obtain rfl:j=0:=by omega
   exact hp
  have hv:chkV p.e p.zs p.ad p.k p.ch p.lf ops n (voteV p ops) 1=0:=by
   unfold chkV
   rw[if_neg hn,if_neg (fun h=>h hd),if_neg (fun h=>h hc),hk,if_neg (by decide)]
  unfold comE
  rw[if_neg (fun h=>h hv),if_neg (fun h=>h hd),if_neg (by omega)]
structure Full(i:Nat)(G:List (Option PS)):Prop where
 grp:Grp G
 len:G.length=i
 at':∀j,j<i→∃p,atP G j=some p∧p.lf=(j:Nat)
structure GI(i a:Nat)(G:List (Option PS)):Prop where
 full:Full i G
 v:∀p,atP G 0=some p→GV i a p
end
section
open Pm
theorem keysH_pair : ((List.range 8).map fun j : Nat => scal (sgnW (wsd (j : Nat)))).Pairwise (· ≠ ·) := by decide +kernel
abbrev sgH(j:Nat):Int:=powI 4 (scal (sgnW (wsd (j:Nat))))
abbrev seH(j:Nat):Int:=nodeY (lefW (wsd (j:Nat)))
theorem sgH_ne{i j:Nat}(hi:i<8)(hj:j<8)(h:i≠j):sgH i≠sgH j:=fun e=>by
 have P:=List.pairwise_iff_getElem.1 keysH_pair
 have q:=powV_inj (scal_bd _) (scal_bd _) e
 rcases Nat.lt_or_ge i j with o|o
 ·have:=P i j (by simpa using hi) (by simpa using hj) o
  simp only[List.getElem_map,List.getElem_range]at this
  exact this q
 ·have:=P j i (by simpa using hj) (by simpa using hi) (by omega)
  simp only[List.getElem_map,List.getElem_range]at this
  exact this q.symm
theorem sgH_ok(i:Nat):isI (sgH i)=true:=isI_pubV _ (scal_bd _)
theorem seH_ok(i:Nat):isI (seH i)=true:=nodeY_isI _
attribute [local irreducible] isI powI scal sgnW lefW putL behZ mayV wsd nodeY
structure GH(i a:Nat)(q:PS):Prop where
 own:Own q
 lf:q.lf=0
 mem:∀j,j<8→memL q.zs j=decide (j<i)
 sg:∀j,j<i→q.zs.getD (j*2) 0=sgH j
 ad:∀j,j<8→q.ad.getD j false=decide (j<a)
 k:q.k=1
 e:q.e=(i:Int) -1
theorem gh_create:GH 1 1 (createP (wsd (0:Nat))):=by
 obtain⟨k1,k2,k3,k4,_,k6,_⟩:=create_fields (wsd (0:Nat))
 refine⟨create_own _,k6,fun j hj=>?_,fun j hj=>?_,fun j hj=>?_,k4,by rw[k1];rfl⟩
 ·rw[k2]
  unfold memL
  rw[leafP_one]
  by_cases h:j=0
  ·have h0:sgH 0≠0:=isI_0V (sgH_ok 0)
   rw[if_pos h,h,decide_eq_true (show(0:Nat)<1 by decide)]
   exact decide_eq_true fun e=>h0 (List.cons.inj e).1
  ·rw[if_neg h,if_pos hj]
   simp;omega
 ·obtain rfl:j=0:=by omega
  rw[k2]
  rfl
 ·rw[k3]
  rcases j with _|_|_|_|_|_|_|_|j<;>first|rfl|omega
section
variable {i a : Nat} {q : PS} (h : GH i a q) (i0 : 1 ≤ i) (i1 : i < 8) {x y : Int} (hx : isI x = true) (hy : isI y = true) (hn : ∀ j, j < i → q.zs.getD (j * 2) 0 ≠ x) (a0 : 1 ≤ a) (a1 : a ≤ i) {pr : Bool} (hp : pr = true → a = i)
include h i0 i1 hx hy hn
theorem gh_used:usedB q.zs (x)=false:=by
 have z0:x≠0:=isI_0V hx
 unfold usedB
 rw[List.any_eq_false]
 intro j hj
 have hj:=List.mem_range.1 hj
 simp only[decide_eq_true_eq]
 rcases Nat.lt_or_ge j i with o|o
 ·exact hn j o
 ·have:=h.mem j hj
  unfold memL at this
  rw[leafP_two (by rw[h.own.inv.zl];decide) hj,decide_eq_false (show ¬j<i by omega)]at this
  have:=of_decide_eq_false this
  have e:q.zs.getD (j*2) 0=0:=by
   have:=Classical.not_not.1 this
   exact(List.cons.inj this).1
  rw[e];exact z0.symm
theorem gh_full:fullB q.zs=false:=by
 unfold fullB
 rw[List.all_eq_false]
 exact⟨i,by simp;omega,by rw[h.mem i (by omega)];simp⟩
theorem gh_free:freeN q.zs=i:=free_at (by omega) (by rw[h.mem i (by omega)];simp) fun j hj=>by rw[h.mem j (by omega)];simpa using hj
theorem gh_err(ng gn:List Bool):errOp ⟨q.zs,q.ad,q.k,ng,gn⟩ q.lf [1,0,0,x,y]=0:=by
 unfold errOp
 rw[show([1,0,0,x,y]:List Int).getD 0 0=1 from rfl,if_pos rfl]
 show errAdd q.zs [x,y]=0
 unfold errAdd
 rw[show([x,y]:List Int).getD 0 0=x from rfl,show([x,y]:List Int).getD 1 0=y from rfl,hx,hy,gh_used h i0 i1 hx hy hn,gh_full h i0 i1 hx hy hn]
 rfl
theorem gh_nxt:nextOp ⟨q.zs,q.ad,q.k,F8,F8⟩ [1,0,0,x,y]=⟨putL q.zs [x,y] (i:Nat),q.ad,q.k,F8.set i true,F8⟩:=by
 unfold nextOp
 rw[show([1,0,0,x,y]:List Int).getD 0 0=1 from rfl,if_pos rfl]
 dsimp only
 rw[gh_free h i0 i1 hx hy hn]
 rfl
theorem gh_put{j:Nat}(hj:j<8):memL (putL q.zs [x,y] (i:Nat)) j=decide (j<i+1):=by
 have z0:x≠0:=isI_0V hx
 rw[memL_put h.own.inv.zl rfl (by omega) hj]
 by_cases e:j=i
 ·rw[if_pos e,e]
  simp only[Nat.lt_succ_self,decide_true,decide_eq_true_eq]
  exact fun e=>z0 (List.cons.inj e).1
 ·rw[if_neg e,h.mem j hj]
  by_cases o:j<i
  ·rw[decide_eq_true o,decide_eq_true (by omega)]
  ·rw[decide_eq_false o,decide_eq_false (by omega)]
include a0 a1 hp
theorem gh_ad(j:Nat)(hj:j<8):(endV q x y i pr).ad.getD j false=decide (j<if pr=true then a+1 else a):=by
 unfold endV
 dsimp only
 cases pr with
 |false=>exact h.ad j hj
 |true=>
  obtain rfl:=hp rfl
  rw[if_pos rfl,if_pos rfl,List.getD_eq_getElem?_getD,List.getElem?_set]
  by_cases e:a=j
  ·rw[if_pos e,if_pos (by rw[h.own.inv.al];omega),decide_eq_true (by omega)];rfl
  ·rw[if_neg e,←List.getD_eq_getElem?_getD,h.ad j hj]
   by_cases o:j<a
   ·rw[decide_eq_true o,decide_eq_true (by omega)]
   ·rw[decide_eq_false o,decide_eq_false (by omega)]
theorem gh_do:doR q.e ⟨q.zs,q.ad,q.k,F8,F8⟩ q.lf (opsV x y i pr) (cntV pr)=(0,endV q x y i pr):=by
 have z:memB q.zs q.lf=true:=by
  rw[h.lf]
  have:=memBV q.zs (w:=0) (by decide)
  rw[h.mem 0 (by decide)]at this
  rw[show(0:Int)=((0:Nat):Int)from rfl,this]
  simp;omega
 have hc:(endV q x y i pr).k≤((cntB (endV q x y i pr).ad:Nat):Int):=by
  have hl:(endV q x y i pr).ad.length=8:=by
   unfold endV
   dsimp only
   split
   ·rw[List.length_set];exact h.own.inv.al
   ·exact h.own.inv.al
  rw[cnt_ad (a:=if pr=true then a+1 else a) hl (by split<;>omega) (gh_ad h i0 i1 hx hy hn a0 a1 hp)]
  have hk:(endV q x y i pr).k=1:=h.k
  rw[hk]
  split<;>omega
 have ho:oddTo (opsV x y i pr) (cntV pr)=false:=by
  cases pr<;>rfl
 refine doR_V h.own.may (by unfold cntV;split<;>omega) ho z ?_ hc
 cases pr with
 |false=>
  show runE q.lf [1,0,0,x,y] (0+1) 0 _=_
  rw[runV_1 (d:=0) (o:=[1,0,0,x,y]) rfl (gh_err h i0 i1 hx hy hn _ _),gh_nxt h i0 i1 hx hy hn,runV_0]
  rfl
 |true=>
  obtain rfl:=hp rfl
  show runE q.lf [1,0,0,x,y,3,(a:Int),0,0,0] (1+1) 0 _=_
  rw[runV_1 (d:=1) (o:=[1,0,0,x,y]) rfl (gh_err h i0 i1 hx hy hn _ _),gh_nxt h i0 i1 hx hy hn,runV_1 (d:=0) (o:=[3,(a:Int),0,0,0]) rfl ?_,runV_0]
  ·rfl
  ·show errPro (putL q.zs [x,y] (a:Nat)) q.ad (a:Int)=0
   unfold errPro
   rw[memBV _ (by omega),gh_put h i0 i1 hx hy hn (by omega),Int.toNat_natCast,h.ad a (by omega)]
   simp
end
theorem gh_adm{i a:Nat}{q:PS}(h:GH i a q)(a0:1≤a):admB q.ad 0=true:=by
 unfold admB leafB
 have:=h.ad 0 (by decide)
 rw[show((0:Int).toNat)=0 from rfl,this]
 simp;omega
end
section
open Pm
theorem resF_even{zs:List Int}{n:Int}(h:oddB n=false):∀d,(resF d zs n).length≤1
 |0=>by unfold resF;split<;>simp
 |d+1=>by
  unfold resF
  rw[h]
  split<;>simp
theorem resF_two{zs:List Int}{n:Int}(h1:oddB (n-stepZ n)=false)(h2:oddB (n+stepZ n)=false)(d:Nat):(resF (d+1) zs n).length≤2:=by
 unfold resF
 have a:=resF_even (zs:=zs) h1 d
 have b:=resF_even (zs:=zs) h2 d
 split
 ·split
  ·rw[List.length_append];omega
  ·simp
 ·simp
theorem planL_16(zs:List Int)(bt:List Bool)(x:Int):(planL zs x bt).length≤16:=by
 unfold planL
 split
 ·next hx=>
  have hb:0≤x∧x<8:=by unfold leafB at hx;simp at hx;omega
  have e0:oddB ((sideL x).getD 0 0)=false:=eight (p:=fun x=>oddB ((sideL x).getD 0 0)=false) hb rfl rfl rfl rfl rfl rfl rfl rfl
  have e1:oddB ((sideL x).getD 1 0-stepZ ((sideL x).getD 1 0))=false:=eight (p:=fun x=>oddB ((sideL x).getD 1 0-stepZ ((sideL x).getD 1 0))=false) hb rfl rfl rfl rfl rfl rfl rfl rfl
  have e2:oddB ((sideL x).getD 1 0+stepZ ((sideL x).getD 1 0))=false:=eight (p:=fun x=>oddB ((sideL x).getD 1 0+stepZ ((sideL x).getD 1 0))=false) hb rfl rfl rfl rfl rfl rfl rfl rfl
  have a0:(pairsK bt ((0:Nat):Int) (resF 3 zs ((sideL x).getD 0 0))).length≤1:=Nat.le_trans (pairsK_len bt ((0:Nat):Int) _) (resF_even (zs:=zs) e0 3)
  have a1:(pairsK bt ((1:Nat):Int) (resF 3 zs ((sideL x).getD 1 0))).length≤2:=Nat.le_trans (pairsK_len bt ((1:Nat):Int) _) (resF_two (zs:=zs) e1 e2 2)
  have a2:(pairsK bt ((2:Nat):Int) (resF 3 zs ((sideL x).getD 2 0))).length≤8:=Nat.le_trans (pairsK_len bt ((2:Nat):Int) _) (Nat.le_trans (resF_len zs 3 ((sideL x).getD 2 0)) (show 2^3≤8 by decide))
  rw[show planTo zs bt x 3=(([]++pairsK bt ((0:Nat):Int) (resF 3 zs ((sideL x).getD 0 0)))++pairsK bt ((1:Nat):Int) (resF 3 zs ((sideL x).getD 1 0)))++pairsK bt ((2:Nat):Int) (resF 3 zs ((sideL x).getD 2 0))from rfl]
  simp only[List.length_append,List.length_nil]
  omega
 ·simp
theorem within_of{n m:Int}(h0:0≤n)(h1:n≤m):withinB n m=true:=by
 unfold withinB;simp[h0,h1]
theorem nodeY_in(h:List UInt8):withinB (nodeY h) 2147483579=true:=by
 obtain⟨h1,h2,_⟩:=(isI_iff _).1 (nodeY_isI h)
 exact within_of (by omega) (by omega)
end
section
open Pm
theorem anyP_noH{q:Nat→Bool}{n:Nat}(h:∀j,j<n→q j=false):anyP q n=false:=by
 cases e:anyP q n with
 |false=>rfl
 |true=>obtain⟨j,hj,hb⟩:=(anyP_iff _ _).1 e;rw[h j hj]at hb;cases hb
theorem mayB_gen{p:PS}(h:Own p)(he0:0≤p.e)(he:p.e<1099511627776){s:Vw}{n m:Nat}{ops vs:List Int}(hn:n≤4)(ho:∀i,i<n→oddOpB (atK 5 ops i)=false)(hm:m≤8)(hv:∀i,i<m→oddVoteB (atK 3 vs i)=false)(d:List UInt8){c:CS}(hc:c=comP p s n ops m vs d):mayB c=true∧c.n≤3000∧c.m≤3000∧c.k≤3000∧∀j,j<c.k→(c.bx j).length≤6000:=by
 have l0:=h.inv.lf0
 have l1:=h.inv.lf1
 have e1:c.n=n:=by rw[hc];dsimp only[comP,com0]
 have e2:c.m=m:=by rw[hc];dsimp only[comP,com0]
 have e1':c.ops=ops:=by rw[hc];dsimp only[comP,com0]
 have e2':c.vs=vs:=by rw[hc];dsimp only[comP,com0]
 have e3:c.k≤16:=by rw[hc];dsimp only[comP,com0];exact planL_16 _ _ _
 have e4:∀j,j<c.k→(c.bx j).length≤300:=fun j _=>by
  rw[hc]
  dsimp only[comP,com0,boxesP,boxOf]
  exact Nat.le_trans (sealB_bd _ _ _) (by decide)
 have b1:anyP (fun i=>decide (((c.bx i).length:Int)>300)) c.k=false:=anyP_noH fun j hj=>decide_eq_false (by have:=e4 j hj;omega)
 have b2:anyP (fun i=>oddOpB (atK 5 c.ops i)) c.n=false:=anyP_noH fun j hj=>by rw[e1'];exact ho j (by omega)
 have b3:anyP (fun i=>oddVoteB (atK 3 c.vs i)) c.m=false:=anyP_noH fun j hj=>by rw[e2'];exact hv j (by omega)
 have a1:withinB c.e 1099511627776=true:=by rw[hc];exact within_of he0 (by show p.e≤_;omega)
 have a2:withinB c.fr 7=true:=by rw[hc];exact within_of l0 (by show p.lf≤_;omega)
 have a3:sigB c.sE c.sS=true:=by
  have s1:=sigE_bd (scal p.sg) (bodyB (com0 p s n ops m vs d)++tagE (nextP p s n ops m vs d).ep)
  have s2:=sigS_bd (scal p.sg) (bodyB (com0 p s n ops m vs d)++tagE (nextP p s n ops m vs d).ep)
  rw[hc]
  unfold sigB
  rw[show(comP p s n ops m vs d).sE=sigE (scal p.sg) (bodyB (com0 p s n ops m vs d)++tagE (nextP p s n ops m vs d).ep)from rfl,show(comP p s n ops m vs d).sS=sigS (scal p.sg) (bodyB (com0 p s n ops m vs d)++tagE (nextP p s n ops m vs d).ep)from rfl]
  rw[within_of s1.1 (by omega),within_of s2.1 (by omega)]
  rfl
 have a4:withinB c.sl 2147483579=true:=by rw[hc];dsimp only[comP,com0];exact nodeY_in _
 have a5:withinB c.p0 2147483579=true:=by rw[hc];dsimp only[comP,com0];exact nodeY_in _
 have a6:withinB c.p1 2147483579=true:=by rw[hc];dsimp only[comP,com0];exact nodeY_in _
 have a7:withinB c.p2 2147483579=true:=by rw[hc];dsimp only[comP,com0];exact nodeY_in _
 refine⟨?_,by omega,by omega,by omega,fun j hj=>Nat.le_trans (e4 j hj) (by decide)⟩
 unfold mayB
 rw[a1,a2,a3,a4,a5,a6,a7,b1,b2,b3,decide_eq_true (show(c.n:Int)≤4 by omega),decide_eq_true (show(c.m:Int)≤8 by omega),decide_eq_true (show(c.k:Int)≤16 by omega)]
 rfl
theorem welF_atH{W:Nat→List Seg}{ng:List Bool}:∀{n i:Nat},i<welN ng n→∃j,j<n∧ng.getD j false=true∧welF W ng n i=W j
 |0,i,h=>by rw[welN]at h;omega
 |n+1,i,h=>by
  rw[welN]at h
  simp only[welF]
  by_cases hb:ng.getD n false=true
  ·rw[if_pos hb]at h
   rw[if_pos hb]
   by_cases hi:i=welN ng n
   ·rw[if_pos hi];exact⟨n,by omega,hb,rfl⟩
   ·rw[if_neg hi]
    obtain⟨j,h1,h2,h3⟩:=welF_atH (W:=W) (show i<welN ng n by omega)
    exact⟨j,by omega,h2,h3⟩
  ·rw[if_neg hb]at h
   rw[if_neg hb]
   obtain⟨j,h1,h2,h3⟩:=welF_atH (W:=W) h
   exact⟨j,by omega,h2,h3⟩
theorem allW_of{q:PS}(h:Own q)(hch:q.ch.length=32){ab joint tag d:List UInt8}(ht:tag.length=32)(ng:List Bool):allW (welN ng 8) (welF (welSegs q ab joint tag d) ng 8):=by
 unfold allW
 intro i hi
 obtain⟨j,h1,h2,h3⟩:=welF_atH (W:=welSegs q ab joint tag d) hi
 rw[h3]
 have hb:(welBox q ab joint d j).length≤212:=sealB_bd _ _ _
 unfold okW
 refine⟨⟨(j:Int),q.lf,q.e,q.zs,q.ad,q.k,q.ch,welBox q ab joint d j,tag⟩,rfl,⟨h.inv.zl,h.inv.al,hch,ht,by show(welBox q ab joint d j).length≤6000;omega⟩,?_⟩
 unfold mayW
 dsimp only
 rw[within_of (by omega) (by omega),within_of h.inv.lf0 (by have:=h.inv.lf1;omega),show mayV q.e q.zs q.ad q.k=true from h.may,decide_eq_true (by omega)]
 rfl
end
section
open Pm
theorem comE_none{p:PS}{n:Nat}{ops:List Int}(hn:n≠0)(hd:(doR p.e ⟨p.zs,p.ad,p.k,F8,F8⟩ p.lf ops n).1=0)(hk:0<p.k):comE p n ops 0 []=8:=by
 have hc:chkE p.zs p.ad (paperV p.e p.zs p.ad p.k p.ch p.lf ops) [] 0=0:=chkE_all fun j hj=>by omega
 have hv:chkV p.e p.zs p.ad p.k p.ch p.lf ops n [] 0=8:=by
  unfold chkV
  rw[if_neg hn,if_neg (fun h=>h hd),if_neg (fun h=>h hc),if_pos (by show((0:Nat):Int)<p.k;omega)]
 unfold comE
 rw[hv,if_pos (by decide)]
theorem v_none(P:List UInt8):∀n,vN [] P n=0∧vZ [] P n=[]
 |0=>⟨rfl,rfl⟩
 |n+1=>by
  obtain⟨h1,h2⟩:=v_none P n
  have e:tellB [] P (n:Nat)=false:=rfl
  rw[vN,vZ,e]
  exact⟨h1,h2⟩
theorem v_one(P:List UInt8)(E S:Int):∀n,vN [⟨P,0,E,S⟩] P (n+1)=1∧vZ [⟨P,0,E,S⟩] P (n+1)=[0,E,S]
 |0=>by
  have e:tellB [⟨P,0,E,S⟩] P ((0:Nat):Int)=true:=by simp[tellB,isAp]
  have f:tellV [⟨P,0,E,S⟩] P ((0:Nat):Int)=[0,E,S]:=by simp[tellV,isAp]
  rw[vN,vZ,e,f,vN,vZ]
  exact⟨rfl,rfl⟩
 |n+1=>by
  obtain⟨h1,h2⟩:=v_one P E S n
  have e:tellB [⟨P,0,E,S⟩] P ((n+1:Nat):Int)=false:=by
   simp[tellB,isAp];omega
  rw[vN,vZ,e,h1,h2]
  exact⟨rfl,rfl⟩
abbrev p0W:PS:=createP (wsd (0:Nat))
abbrev opW(j:Nat):List Int:=opsV (sgH j) (seH j) 1 false
theorem opW_do{j:Nat}(j0:1≤j)(j1:j<8):doR p0W.e ⟨p0W.zs,p0W.ad,p0W.k,F8,F8⟩ p0W.lf (opW j) 1=(0,endV p0W (sgH j) (seH j) 1 false):=by
 have g:=gh_create
 exact gh_do g (by decide) (by decide) (sgH_ok j) (seH_ok j) (fun i hi=>by rw[g.sg i hi];exact sgH_ne (by omega) j1 (by omega)) (by decide) (by decide) (pr:=false) (by intro h;cases h)
theorem opW_app{j:Nat}(j0:1≤j)(j1:j<8):appE p0W.e p0W.zs p0W.ad p0W.k p0W.lf (scal p0W.sg) p0W.lf (opW j) 1=0∧comE p0W 1 (opW j) 1 (voteV p0W (opW j))=0∧comE p0W 1 (opW j) 0 []=8:=by
 have g:=gh_create
 have hd:=opW_do j0 j1
 obtain⟨h1,h2⟩:=comV_one (p:=p0W) (n:=1) (ops:=opW j) (by decide) (by rw[hd]) (own_sg g.own g.lf) (gh_adm g (by decide)) g.k g.lf (by rw[g.e];decide)
 exact⟨h1,h2,comE_none (by decide) (by rw[hd]) (by rw[g.k];decide)⟩
theorem powI_fp{h:List UInt8}:powI 4 (scal h)=((fp 31 1 4 (scal h).toNat:Nat):Int):=by
 obtain⟨h0,h1⟩:=scal_bd h
 obtain⟨n,hn⟩:=Int.eq_ofNat_of_zero_le (show 0≤scal h by omega)
 rw[hn,show powI 4 (n:Int)=(pw 4 n:Int)from powI_nat 4 n (by decide) (by omega),pw_fp _ _ (by omega),Int.toNat_natCast]
theorem paperW_ne:paperV p0W.e p0W.zs p0W.ad p0W.k p0W.ch p0W.lf (opW 1)≠paperV p0W.e p0W.zs p0W.ad p0W.k p0W.ch p0W.lf (opW 2):=by
 obtain⟨c1,c2,c3,c4,c5,c6,_⟩:=create_fields (wsd (0:Nat))
 rw[c1,c2,c3,c4,c5,c6]
 unfold opW sgH seH nodeY
 simp only[powI_fp]
 have h:scal (paperV 0 ([((fp 31 1 4 (scal (sgnW (wsd (0:Nat)))).toNat:Nat):Int),((fp 31 1 4 (scal (nodeW (lefW (wsd (0:Nat))))).toNat:Nat):Int)]++List.replicate 29 0) [true,false,false,false,false,false,false,false] 1 (zB 32) 0 (opsV ((fp 31 1 4 (scal (sgnW (wsd (1:Nat)))).toNat:Nat):Int) ((fp 31 1 4 (scal (nodeW (lefW (wsd (1:Nat))))).toNat:Nat):Int) 1 false))≠scal (paperV 0 ([((fp 31 1 4 (scal (sgnW (wsd (0:Nat)))).toNat:Nat):Int),((fp 31 1 4 (scal (nodeW (lefW (wsd (0:Nat))))).toNat:Nat):Int)]++List.replicate 29 0) [true,false,false,false,false,false,false,false] 1 (zB 32) 0 (opsV ((fp 31 1 4 (scal (sgnW (wsd (2:Nat)))).toNat:Nat):Int) ((fp 31 1 4 (scal (nodeW (lefW (wsd (2:Nat))))).toNat:Nat):Int) 1 false)):=by decide+kernel
 exact fun e=>h (by rw[e])
end
section
open Pm
def cV(p:PS)(y:BS)(L:List Ap)(rows:List A)(j:Nat):Cm:=if j=0 then cDat (.sref (pSegs p) 0)else if j<8 then cDat (.v (.pointer none))else if j=8 then cBk y else if j<16 then cBk ⟨[],0,0⟩else if j=16 then cPo rows else if j=17 then cAp L else cDat (.v (.pointer none))
theorem cW0_eq:cW0=cV p0W ⟨[],0,0⟩ [] []:=by
 funext j
 unfold cW0 cV
 by_cases h0:j=0
 ·rw[if_pos h0,if_pos h0];rfl
 rw[if_neg h0,if_neg h0]
 by_cases h1:j<8
 ·rw[if_pos h1,if_pos h1]
 rw[if_neg h1,if_neg h1]
 by_cases h2:j=8
 ·rw[if_pos (by omega),if_pos h2]
 rw[if_neg h2]
theorem cV_book(p:PS)(y y':BS)(L L':List Ap)(rows:List A):upd (upd (cV p y L rows) 8 (cBk y')) 17 (cAp L')=cV p y' L' rows:=by
 funext j
 unfold upd cV
 by_cases h0:j=17
 ·subst h0;rfl
 rw[if_neg h0]
 by_cases h1:j=8
 ·subst h1;rfl
 rw[if_neg h1]
 by_cases h2:j=0
 ·rw[if_pos h2,if_pos h2]
 rw[if_neg h2,if_neg h2]
 by_cases h3:j<8
 ·rw[if_pos h3,if_pos h3]
 rw[if_neg h3,if_neg h3,if_neg h1,if_neg h1]
 by_cases h4:j<16
 ·rw[if_pos h4,if_pos h4]
 rw[if_neg h4,if_neg h4]
 by_cases h5:j=16
 ·rw[if_pos h5,if_pos h5]
 rw[if_neg h5,if_neg h5,if_neg h0,if_neg h0]
end
section
open Pm
abbrev paW(j:Nat):List UInt8:=paperV p0W.e p0W.zs p0W.ad p0W.k p0W.ch p0W.lf (opW j)
abbrev yP(P:List UInt8)(s f:Nat):BS:=⟨[(0,P)],s,f⟩
noncomputable abbrev aW(j:Nat):Ap:=⟨paW j,0,sigE (scal p0W.sg) (paW j),sigS (scal p0W.sg) (paW j)⟩
theorem voteV_W(j:Nat):voteV p0W (opW j)=[0,sigE (scal p0W.sg) (paW j),sigS (scal p0W.sg) (paW j)]:=rfl
theorem p0_e:p0W.e=0:=(create_fields (wsd (0:Nat))).1
theorem p0_lf:p0W.lf=0:=(create_fields (wsd (0:Nat))).2.2.2.2.2.1
theorem apA_W{j:Nat}(j0:1≤j)(j1:j<8):apA p0W 0 (opW j) 1=aW j:=by
 have h1:paperV p0W.e p0W.zs p0W.ad p0W.k p0W.ch 0 (opW j)=paW j:=by unfold paW;rw[p0_lf]
 have h2:appE p0W.e p0W.zs p0W.ad p0W.k p0W.lf (scal p0W.sg) 0 (opW j) 1=0:=by
  have:=(opW_app j0 j1).1
  rw[p0_lf]at this ⊢
  exact this
 have hz:appZ p0W.e p0W.zs p0W.ad p0W.k p0W.ch p0W.lf (scal p0W.sg) 0 (opW j) 1=[0,sigE (scal p0W.sg) (paW j),sigS (scal p0W.sg) (paW j)]:=by
  unfold appZ
  rw[if_pos h2,h1,p0_lf]
 unfold apA
 rw[h1,hz]
 rfl
theorem hasV_one(P:List UInt8):hasV [((0:Int),P)] 0=true:=by simp[hasV]
theorem getV_one(P:List UInt8):getV [((0:Int),P)] 0=P:=by simp[getV]
theorem apRes_0{j:Nat}(j0:1≤j)(j1:j<8)(L:List Ap)(f:Nat)(nn dr:Int):apRes p0W ⟨[],0,f⟩ L 0 (opW j) 1 nn dr=if nn=1 then(0,crashB (yP (paW j) 0 f) dr,L)else(0,yP (paW j) 1 (f+1),tellL L (aW j)):=by
 have h1:appE p0W.e p0W.zs p0W.ad p0W.k p0W.lf (scal p0W.sg) 0 (opW j) 1=0:=by
  have:=(opW_app j0 j1).1
  rw[p0_lf]at this ⊢
  exact this
 have hw:writeE ⟨[],0,f⟩ p0W.e (paperV p0W.e p0W.zs p0W.ad p0W.k p0W.ch 0 (opW j))=0:=by rw[p0_e];rfl
 have hb:writeB ⟨[],0,f⟩ p0W.e (paperV p0W.e p0W.zs p0W.ad p0W.k p0W.ch 0 (opW j))=yP (paW j) 0 f:=by
  unfold paW
  rw[p0_lf,p0_e];rfl
 unfold apRes
 rw[if_pos h1,if_pos hw,hb,apA_W j0 j1]
 rfl
theorem apRes_1{j:Nat}(j0:1≤j)(j1:j<8)(L:List Ap)(P:List UInt8)(s f:Nat)(dr:Int):apRes p0W (yP P s f) L 0 (opW j) 1 0 dr=if P=paW j then(0,yP P 1 (f+1),tellL L (aW j))else(9,yP P s f,L):=by
 have h1:appE p0W.e p0W.zs p0W.ad p0W.k p0W.lf (scal p0W.sg) 0 (opW j) 1=0:=by
  have:=(opW_app j0 j1).1
  rw[p0_lf]at this ⊢
  exact this
 have hp:paperV p0W.e p0W.zs p0W.ad p0W.k p0W.ch 0 (opW j)=paW j:=by unfold paW;rw[p0_lf]
 have hw:writeE (yP P s f) p0W.e (paW j)=if P=paW j then 0 else 9:=by
  rw[p0_e]
  unfold writeE
  rw[if_neg (by omega),if_pos (hasV_one P),getV_one]
  by_cases e:P=paW j
  ·rw[if_pos e,if_pos (by simp[e])]
  ·rw[if_neg e,if_neg (by simpa using e)]
 have hb:writeB (yP P s f) p0W.e (paW j)=yP P s f:=by
  rw[p0_e]
  unfold writeB
  rw[if_neg (by omega),if_pos (hasV_one P)]
 unfold apRes
 rw[hp,if_pos h1,hb,hw]
 by_cases e:P=paW j
 ·rw[if_pos e,if_pos e,if_pos rfl,if_neg (by decide),apA_W j0 j1]
  rfl
 ·rw[if_neg e,if_neg e,if_neg (by decide)]
theorem tell_self(x:Ap):tellL [x] x=[x]:=by unfold tellL tellB isAp;simp
theorem tell_none(x:Ap):tellL [] x=[x]:=rfl
theorem crash_1(P:List UInt8)(f:Nat)(keep:Int):crashB (yP P 1 f) keep=yP P 1 0:=by
 unfold crashB leftN
 simp
theorem v_other{P P':List UInt8}(h:P≠P')(E S:Int):∀n,vN [⟨P,0,E,S⟩] P' n=0∧vZ [⟨P,0,E,S⟩] P' n=[]
 |0=>⟨rfl,rfl⟩
 |n+1=>by
  obtain⟨h1,h2⟩:=v_other h E S n
  have e:tellB [⟨P,0,E,S⟩] P' (n:Nat)=false:=by simp[tellB,isAp,h]
  rw[vN,vZ,e]
  exact⟨h1,h2⟩
theorem paW_ne:paW 1≠paW 2:=paperW_ne
theorem leaf0:leafB p0W.lf=true:=by rw[p0_lf];rfl
theorem d0_ok:((-9223372036854775808:Int)≤0∧(0:Int)≤9223372036854775807):=by decide
theorem stepX0_B{n:Int}(hn:0≤n∧n≤1000000){y:BS}{rows:List A}{nn fr dr:Int}{z:A}{j:Nat}(j0:1≤j)(j1:j<8){L:List Ap}(hL:L=[]∨∃P E S,L=[⟨P,0,E,S⟩]∧P≠paW j):
  FnB Tryz.prog gTab 8 0 (wcP 0 n (cV p0W y L rows)) [.agg [.ints .i64 4 [2,0,nn,fr],.gen 1 [.row 1 [.ints .i64 5 (opW j)]],.ints .i64 1 [dr],.gen 1 [z]]] (.d (.v (.int .i64 8))) (wcP 0 (n+1) (cV p0W y L rows)):=by
 have hv:vN L (paW j) 8=0∧vZ L (paW j) 8=[]:=by
  rcases hL with rfl|⟨P,E,S,rfl,h⟩
  ·exact v_none _ 8
  ·exact v_other h E S 8
 have hl:L.length≤1:=by
  rcases hL with rfl|⟨P,E,S,rfl,h⟩
  ·decide
  ·exact Nat.le_refl _
 exact stepE_B (i:=0) (p:=p0W) (L:=L) (o:=1) hn (by decide) rfl rfl (by omega) leaf0 (by decide) (by decide) hv.1.symm hv.2.symm (opW_app j0 j1).2.2 (by decide)
theorem stepV1_B{n:Int}(hn:0≤n∧n≤1000000){y y':BS}{L L':List Ap}{rows:List A}{nn dr er:Int}{z:A}{j:Nat}{ops:List Int}(ho:ops=opW j)(hL:L.length≤1000)(hdr: -9223372036854775808≤dr∧dr≤9223372036854775807)(hyf:y.f≤1000)(hr:apRes p0W y L 0 (opW j) 1 nn dr=(er,y',L')):
  FnB Tryz.prog gTab 8 0 (wcP 0 n (cV p0W y L rows)) [.agg [.ints .i64 4 [1,0,nn,0],.gen 1 [.row 1 [.ints .i64 5 ops]],.ints .i64 1 [dr],.gen 1 [z]]] (.d (.v (.int .i64 er))) (wcP 0 (n+1) (cV p0W y' L' rows)):=by
 subst ho
 exact stepV_B (i:=0) (p:=p0W) (m:=1) hn (by decide) rfl rfl rfl hL (by decide) rfl hdr hyf hr (cV_book _ _ _ _ _ _).symm
theorem stepK1_B{n:Int}(hn:0≤n∧n≤1000000){y y':BS}{L:List Ap}{rows:List A}{nn fr dr:Int}{x z:A}(hk: -9223372036854775808≤nn∧nn≤9223372036854775807)(hy:crashB y nn=y'):
  FnB Tryz.prog gTab 8 0 (wcP 0 n (cV p0W y L rows)) [.agg [.ints .i64 4 [5,0,nn,fr],.gen 1 [x],.ints .i64 1 [dr],.gen 1 [z]]] (.d (.v (.int .i64 0))) (wcP 0 (n+1) (cV p0W y' L rows)):=by
 refine stepK_B (i:=0) hn (by decide) (y:=y) rfl hk ?_
 rw[hy]
 have h:=cV_book p0W y y' L L rows
 rw[←h]
 refine upd_self ?_
 unfold upd;rfl
theorem stepX1_B{n:Int}(hn:0≤n∧n≤1000000){y:BS}{rows:List A}{nn fr dr:Int}{z:A}{j:Nat}(j0:1≤j)(j1:j<8){ops:List Int}(ho:ops=opW j){L:List Ap}(hL:L=[]∨∃P E S,L=[⟨P,0,E,S⟩]∧P≠paW j):
  FnB Tryz.prog gTab 8 0 (wcP 0 n (cV p0W y L rows)) [.agg [.ints .i64 4 [2,0,nn,fr],.gen 1 [.row 1 [.ints .i64 5 ops]],.ints .i64 1 [dr],.gen 1 [z]]] (.d (.v (.int .i64 8))) (wcP 0 (n+1) (cV p0W y L rows)):=by
 subst ho
 exact stepX0_B hn j0 j1 hL
theorem oddOp_of{x y:Int}(hx:isI x=true)(hy:isI y=true):∀i,i<1→oddOpB (atK 5 (opsV x y 1 false) i)=false:=fun i hi=>by
 obtain rfl:i=0:=by omega
 obtain⟨x1,x2,_⟩:=(isI_iff x).1 hx
 obtain⟨y1,y2,_⟩:=(isI_iff y).1 hy
 have e:atK 5 (opsV x y 1 false) 0=[1,0,0,x,y]:=rfl
 rw[e]
 unfold oddOpB
 simp only[List.any_cons,List.any_nil]
 rw[within_of (by decide) (by decide),within_of (n:=0) (by decide) (by decide),within_of (n:=x) (by omega) (by omega),within_of (n:=y) (by omega) (by omega)]
 rfl
theorem oddV_of{a b:Int}(h:sigB a b=true):∀i,i<1→oddVoteB (atK 3 [0,a,b] i)=false:=fun i hi=>by
 obtain rfl:i=0:=by omega
 have e:atK 3 [0,a,b] 0=[0,a,b]:=rfl
 rw[e]
 unfold oddVoteB
 simp only[List.getD_cons_zero,List.getD_cons_succ]
 rw[within_of (n:=0) (by decide) (by decide),h]
 rfl
theorem sigB_of(s:Int)(P:List UInt8):sigB (sigE s P) (sigS s P)=true:=by
 have s1:=sigE_bd s P
 have s2:=sigS_bd s P
 unfold sigB
 rw[within_of s1.1 (by omega),within_of s2.1 (by omega)]
 rfl
theorem stepCO_B{n:Int}{c:Nat→Cm}(hn:0≤n∧n≤1000000){i:Nat}(hi:i<8){p:PS}{L:List Ap}{rows:List A}(hcp:c i=cDat (.sref (pSegs p) 0))(hcq:c 16=cPo rows)(hca:c 17=cAp L)(hL:L.length≤1000000)(hO:Own p)(he:0≤p.e)(he1:p.e<1099511627776){nn fr dr:Int}{o:Nat}{ops:List Int}{z:A}(ho:o≠0)(ho1:o≤4){m:Nat}{vz:List Int}(hmv:m=vN L (paperV p.e p.zs p.ad p.k p.ch p.lf ops) 8)(hvz:vz=vZ L (paperV p.e p.zs p.ad p.k p.ch p.lf ops) 8)(hE:comE p o ops m vz=0)
  (hod:∀i,i<o→oddOpB (atK 5 ops i)=false)(hov:∀i,i<m→oddVoteB (atK 3 vz i)=false){s:Vw}{q:PS}{N:Nat}(hs:s=doP p p.lf o ops)(hq:q=nextP p s o ops m vz (drawW dr))(hN:N=welN s.ng 8)(hk:rows.length+1+N≤60):
  FnB Tryz.prog gTab 8 0 (wcP 0 n c) [.agg [.ints .i64 4 [2,(i:Nat),nn,fr],.gen 1 [.row o [.ints .i64 (o*5) ops]],.ints .i64 1 [dr],.gen 1 [z]]] (.d (.v (.int .i64 0)))
   (wcP 0 (n+1) (upd (upd c i (cDat (.sref (pSegs q) 0))) 16 (cPo (rows++letL (comP p s o ops m vz (drawW dr)) (welF (welSegs q (upW (lefW (drawW dr))) (joinP p (drawW dr)) (tagE q.ep) (drawW dr)) s.ng 8) N)))):=by
 have hm8:m≤8:=by rw[hmv];exact vN_le _ _ _
 have hlf:leafB p.lf=true:=by
  have l0:=hO.inv.lf0
  have l1:=hO.inv.lf1
  unfold leafB
  rw[decide_eq_true l0,decide_eq_true (by omega)];rfl
 have hown:=com_own hO hE (drawW dr)
 rw[←hs,←hq]at hown
 obtain⟨m1,m2,m3,m4,m5⟩:=mayB_gen hO he he1 (s:=s) (n:=o) (m:=m) (ops:=ops) (vs:=vz) ho1 hod hm8 hov (drawW dr) rfl
 exact stepC_B (i:=i) (p:=p) (L:=L) (rows:=rows) (o:=o) (m:=m) (vz:=vz) hn hi hcp hcq hca hL hlf ho (by omega) hmv hvz hk hE hs rfl hq m1 hN rfl (by rw[hN];exact allW_of hown hown.inv.cl (tagE_len _) _) m2 m3 m4 m5 rfl
theorem endV_ng(p:PS)(x y:Int)(i:Nat)(b:Bool):(endV p x y i b).ng=F8.set i true:=rfl
theorem ng_do{p:PS}{n:Nat}{ops:List Int}{x:Int}{X:Vw}(h:doR p.e ⟨p.zs,p.ad,p.k,F8,F8⟩ p.lf ops n=(x,X)):(doP p p.lf n ops).ng=X.ng:=by
 unfold doP
 rw[h]
theorem stepC1_B{n:Int}(hn:0≤n∧n≤1000000){y:BS}{nn fr dr:Int}{z:A}{j:Nat}(j0:1≤j)(j1:j<8){ops:List Int}(ho:ops=opW j):
  ∃c',FnB Tryz.prog gTab 8 0 (wcP 0 n (cV p0W y [aW j] [])) [.agg [.ints .i64 4 [2,0,nn,fr],.gen 1 [.row 1 [.ints .i64 5 ops]],.ints .i64 1 [dr],.gen 1 [z]]] (.d (.v (.int .i64 0))) (wcP 0 (n+1) c'):=by
 subst ho
 have hE:=(opW_app j0 j1).2.1
 have hv:=v_one (paW j) (sigE (scal p0W.sg) (paW j)) (sigS (scal p0W.sg) (paW j)) 7
 have hd:(doP p0W p0W.lf 1 (opW j)).ng=F8.set 1 true:=(ng_do (opW_do j0 j1)).trans (endV_ng _ _ _ _ _)
 exact⟨_,stepCO_B (i:=0) (p:=p0W) (L:=[aW j]) (rows:=[]) (o:=1) (m:=1) (vz:=voteV p0W (opW j)) hn (by decide) rfl rfl rfl (Nat.le_of_ble_eq_true rfl) (create_own (wsd (0:Nat))) (by rw[p0_e];decide) (by rw[p0_e];decide) (by decide) (by decide) hv.1.symm hv.2.symm hE (oddOp_of (sgH_ok j) (seH_ok j)) (by rw[voteV_W];exact oddV_of (sigB_of _ _)) rfl rfl rfl (by rw[hd];decide)⟩
end
section
open Pm
attribute [local irreducible] condK LoopA regA deriveW numB numsB wsd createP
end
section
open Pm
def newCS:List A→(Res→Prop)→Prop
 |[],K=>K (.ob (wcP 0 0 (cV p0W ⟨[],0,0⟩ [] [])))
 |_,_=>False
theorem newCS_ok:∀args K,newCS args K→∃r,FnO 5 args r∧K r:=by
 intro args K h
 unfold newCS at h
 split at h
 ·rw[←cW0_eq]at h
  exact⟨_,newC_ok,h⟩
 ·exact h.elim
attribute [local irreducible] condK LoopA regA powI scal mulI isI fourB deriveW numB numsB bodyB nodeW nextW viewHV doR chkV planL sealB boxD keyZ helD commonI placeI apE doP comE comP nextP joinP upW lefW tagE welSegs welF welN createP enterP mayB commitB commitN wsd drawW cV wcP
theorem wf_bd{z:Int}(h:(Lit.int .i64 z).wf=true): -9223372036854775808≤z∧z≤9223372036854775807:=by
 simpa[Lit.wf,IntKind.min,IntKind.max,IntKind.signed,IntKind.bits]using h
end
section
open Pm
theorem stepO_B{n:Int}{c:Nat→Cm}(hn:0≤n∧n≤1000000){i:Nat}(hi:i<8){kd nn fr dr:Int}{x z:A}(d1:(kd==1)=false)(d2:(kd==2)=false)(d3:(kd==3)=false)(d4:(kd==4)=false)(d5:(kd==5)=false):
  FnB Tryz.prog gTab 8 0 (wcP 0 n c) [.agg [.ints .i64 4 [kd,(i:Nat),nn,fr],.gen 1 [x],.ints .i64 1 [dr],.gen 1 [z]]] (.d (.v (.int .i64 1))) (wcP 0 (n+1) c):=by
 refine fnB_step fun D w r vs B t vo vy h hG hx hy o1 o2=>?_
 obtain⟨ps,bs,po,ap,h1,h2,h3,h4⟩:=wls_wl h.len
 have hb0:Blk w r (WL n 0 ps bs po ap).toArray t:=by rw[←h4];exact h.blk
 refine(step_odd w r t n hn ps bs po ap i hi kd nn fr dr d1 d2 d3 d4 d5 vo vy hb0).mono ?_
 rintro e w' ⟨rfl,hb,hg⟩
 exact⟨rfl,D,vs,B,t,h.mu (by rw[h4];exact hb) hg,.own hg fun z hz=>(h.dat z hz).1⟩
noncomputable def envXb0:EnvX:=envWr0.add 5 newCS newCS_ok ⟨_,Tryz.func5,by kernel_rfl,by kernel_rfl⟩
noncomputable def envXb1:EnvX:=envXb0.addB 8 (CallU 8) (callU_ok 8) ⟨_,Tryz.func8,by kernel_rfl,by kernel_rfl⟩
noncomputable def envXb2:EnvX:=envXb1.addB 29 (CallU 29) (callU_ok 29) ⟨_,Tryz.func29,by kernel_rfl,by kernel_rfl⟩
noncomputable def envXb3:EnvX:=envXb2.add 30 (ofP (fun p=>.d (.agg (vSegs p.e p.zs p.ad p.k p.ch))) (.d (.agg vZero))) (ofP_of view0_fn view_fn) ⟨_,Tryz.func30,by kernel_rfl,by kernel_rfl⟩
theorem cV_at{p:PS}{y:BS}{L:List Ap}{rows:List A}:cV p y L rows 0=cDat (.sref (pSegs p) 0)∧cV p y L rows 7=cDat (.v (.pointer none)):=⟨rfl,rfl⟩
attribute [local irreducible] condK LoopA regA powI scal mulI isI fourB deriveW numB numsB bodyB nodeW nextW viewHV doR chkV planL sealB boxD keyZ helD commonI placeI apE doP comE comP nextP joinP upW lefW tagE welSegs welF welN createP enterP mayB commitB commitN wsd drawW cV wcP
set_option maxHeartbeats 4000000 in
theorem tknown_fn:FnO 10 [] (.d (.v (.bool true))):=by
 refine fnA (E:=envXb3) Tryz.func10 Tryz.ntmps10 ?_
 refine agow ?_;(try exact⟨⟩)
 refine CallU.mk' (partyC_B (i:=0) (by decide) cV_at.1 (fn_sref (copy_fn p0W))) ?_
 refine agow ?_;(try exact⟨⟩)
 refine CallU.mk' (partyC_B (i:=0) (by decide) cV_at.1 (fn_sref (copy_fn p0W))) ?_
 have he:p0W.e=0:=p0_e
 refine agow ?_;(try exact⟨⟩)
 refine CallU.mk' (partyC_B (i:=7) (by decide) cV_at.2 copy0_fn) ?_
 refine agow ?_;(try exact⟨⟩)
 refine CallU.mk' (stepO_B (i:=0) (by decide) (by decide) (by decide) (by decide) (by decide) (by decide) (by decide)) ?_
 refine agow ?_;(try exact⟨⟩)
 rfl
def tknownT:List A→(Res→Prop)→Prop
 |[],K=>K (.d (.v (.bool true)))
 |_,_=>False
theorem tknown_ok:∀args K,tknownT args K→∃r,FnO 10 args r∧K r:=by
 intro args K h
 unfold tknownT at h
 split at h
 ·exact⟨_,tknown_fn,h⟩
 ·exact h.elim
noncomputable def envXc0:EnvX:=envWr0.add 5 newCS newCS_ok ⟨_,Tryz.func5,by kernel_rfl,by kernel_rfl⟩
noncomputable def envXc1:EnvX:=envXc0.addB 8 (CallU 8) (callU_ok 8) ⟨_,Tryz.func8,by kernel_rfl,by kernel_rfl⟩
noncomputable def envXc2:EnvX:=envXc1.add 7 wseedS (wseedS_of rwseed_fn) ⟨_,Tryz.func7,by kernel_rfl,by kernel_rfl⟩
noncomputable def envXc3:EnvX:=envXc2.add 6 xleafS xleafS_ok ⟨_,Tryz.func6,by kernel_rfl,by kernel_rfl⟩
noncomputable def envXc4:EnvX:=envXc3.add 10 tknownT tknown_ok ⟨_,Tryz.func10,by kernel_rfl,by kernel_rfl⟩
noncomputable def envXc5:EnvX:={ envXc4 with fz:=true }
noncomputable def yC(j:Nat):BS:=if j=0 then yP (paW 1) 1 1 else yP (paW 1) 1 0
theorem yC_crash(j:Nat)(keep:Int):crashB (yC j) keep=yC (j+1):=by
 unfold yC
 rw[if_neg (Nat.succ_ne_zero j)]
 split
 ·exact crash_1 _ _ _
 ·exact crash_1 _ _ _
theorem yC_form(j:Nat):∃f,yC j=yP (paW 1) 1 f∧f≤1:=by
 unfold yC
 split
 ·exact⟨_,rfl,by decide⟩
 ·exact⟨_,rfl,by decide⟩
attribute [local irreducible] yC
set_option maxHeartbeats 4000000 in
theorem topCrash_ok(keep:Int)(hk: -9223372036854775808≤keep∧keep≤9223372036854775807)(n:Int):FnO 4 [.v (.int .i64 keep),.v (.int .i64 n)] (.d (.v (.bool true))):=by
 refine fnA (E:=envXc5) Tryz.func4 Tryz.ntmps4 ?_
 by_cases h0:n<0
 ·refine agow ?_;(try exact⟨⟩)
 by_cases h5:n>5
 ·refine agow ?_;(try exact⟨⟩)
 obtain⟨N,rfl⟩:∃N:Nat,n=N:=⟨n.toNat,by omega⟩
 have hN:N≤5:=by omega
 have HK:=Lib.hid hk
 clear h0 hk
 have h0:¬(N:Int)<0:=by omega
 refine agow ?_;(try exact⟨⟩)
 intro h1 e1
 refine agow ?_;(try exact⟨⟩)
 intro l1 f1
 obtain⟨x,hx⟩:∃x,x=sgH 1:=⟨_,rfl⟩
 obtain⟨y,hy⟩:∃y,y=seH 1:=⟨_,rfl⟩
 obtain rfl:l1=[x,y]:=by rw[f1,e1,hx,hy];rfl
 clear f1 e1
 refine agow ?_;(try exact⟨⟩)
 intro h2 e2
 refine agow ?_;(try exact⟨⟩)
 intro l2 f2
 obtain⟨u,hu⟩:∃u,u=sgH 2:=⟨_,rfl⟩
 obtain⟨v,hv⟩:∃v,v=seH 2:=⟨_,rfl⟩
 obtain rfl:l2=[u,v]:=by rw[f2,e2,hu,hv];rfl
 clear f2 e2
 have ox:[1,0,0,x,y]=opW 1:=by rw[hx,hy];rfl
 have oy:[1,0,0,u,v]=opW 2:=by rw[hu,hv];rfl
 have HO:=Lib.hid ox;have HP:=Lib.hid oy
 clear hx hy hu hv ox oy
 refine agow ?_;(try exact⟨⟩)
 refine CallU.mk' (stepV1_B (j:=1) (y':=yC 0) (er:=0) (L':=[aW 1]) (by decide) HO.out (by decide) d0_ok (by decide) ((apRes_0 (by decide) (by decide) [] 0 0 0).trans (by rw[if_neg (by decide),tell_none];unfold yC;rw[if_pos rfl]))) ?_
 refine agow ?_;(try exact⟨⟩)
 refine StopL.mk (loop_forG [0,1,5,6,7,8] [0] N (fun j=>⟨[.d (.v (.int .i64 keep)),.d (.v (.int .i64 (N:Nat))),.dead,.dead,.dead,.ob 0,.d (.row 1 [.ints .i64 5 [1,0,0,x,y]]),.d (.row 1 [.ints .i64 5 [1,0,0,u,v]]),.d (.v (.int .i64 (j:Nat))),.dead,.dead,.dead,.dead,.dead,.dead,.dead,.dead,.dead,.dead,.dead,.dead,.dead,.dead,.dead,.dead,.dead,.dead,.dead,.dead,.dead,.dead,.dead,.dead,.dead,.dead,.dead,.dead,.dead,.dead,.dead,.dead,.dead,.dead,.dead,.dead,.dead,.dead,.dead,.dead,.dead,.dead,.dead,.dead,.dead,.dead,.dead,.dead,.dead,.dead,.dead,.dead,.dead,.dead,.dead,.dead,.dead,.dead,.dead,.dead,.dead],[some (.abs (wcP 0 ((j:Int)+1) (cV p0W (yC j) [aW 1] [])))]⟩) ?_)
 intro j hj hl
 by_cases h:j<N
 ·have g1:(j:Int)<N:=by omega
  refine agow ?_;(try exact⟨⟩)
  refine CallU.mk' (stepK1_B (y':=yC (j+1)) (by omega) HK.out (yC_crash j keep)) ?_
  refine agow ?_;(try exact⟨⟩)
  refine hl.go h [0,1,5,6,7,8] [0] ?_
  rfl
 ·obtain rfl:N=j:=by omega
  obtain⟨f,hf,hf1⟩:=yC_form N
  rw[hf]
  clear hf
  refine agow ?_;(try exact⟨⟩)
  refine CallU.mk' (stepV1_B (j:=2) (y':=yP (paW 1) 1 f) (er:=9) (L':=[aW 1]) (by omega) HP.out (by decide) d0_ok (by show f≤1000;omega) ((apRes_1 (by decide) (by decide) [aW 1] (paW 1) 1 f 0).trans (by rw[if_neg paW_ne]))) ?_
  refine agow ?_;(try exact⟨⟩)
  refine CallU.mk' (stepV1_B (j:=1) (y':=yP (paW 1) 1 (f+1)) (er:=0) (L':=[aW 1]) (by omega) HO.out (by decide) d0_ok (by show f≤1000;omega) ((apRes_1 (by decide) (by decide) [aW 1] (paW 1) 1 f 0).trans (by rw[if_pos rfl,tell_self]))) ?_
  refine agow ?_;(try exact⟨⟩)
  refine CallU.mk' (stepX1_B (j:=2) (by omega) (by decide) (by decide) HP.out (.inr ⟨_,_,_,rfl,paW_ne⟩)) ?_
  refine agow ?_;(try exact⟨⟩)
  obtain⟨c',hc'⟩:=stepC1_B (n:=(N:Int)+1+1+1+1) (y:=yP (paW 1) 1 (f+1)) (nn:=0) (fr:=0) (dr:=0) (z:=.v (.slice none 0 0)) (j:=1) (by omega) (by decide) (by decide) HO.out
  refine CallU.mk' hc' ?_
  refine agow ?_;(try exact⟨⟩)
theorem topCrash_walk{w:World}(keep:Int)(hk:(Lit.int .i64 keep).wf=true)(n:Int)(hn:(Lit.int .i64 n).wf=true)(hG:GOK gTab (fun _=>True) w):
  Calls Tryz.prog 4 #[.int .i64 keep,.int .i64 n] w fun e w'=>e=.returned (.bool true)∧Below w.heap.size w w':=
 law_of_fn (topCrash_ok keep (wf_bd hk) n) hG (.cons (.v _) (.cons (.v _) .nil))
end
end Go.Proofs.YtbdmnobocecnfaaGreatDoor
