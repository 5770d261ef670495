/-
  The world's types.
-/
import Derived.Test.YtgnhmfmhbimfkaaGreatDoorRows
import Derived.Test.YtgnhmfmhbimfkaaGreatDoorJ10
import Derived.LaidMore
import Derived.LaidHandle
import Derived.Stop.Joined
import Derived.Test.YtgnhmfmhbimfkaaGreatDoorJ37
import Derived.Test.YtgnhmfmhbimfkaaGreatDoorJ38
import Derived.WalkSpells
import Derived.LoopN
namespace Go.Proofs.YtgnhmfmhbimfkaaGreatDoor
set_option maxRecDepth 100000
open Go.ChangeShapes Go.WideShapes Go.ChangeAt Go.RowKit
set_option linter.unusedVariables false
def laid2:List (String×DataW Unit):=[("math/bits.deBruijn32tab",Rows.laid_math_bits_deBruijn32tab),("math/bits.deBruijn64tab",Rows.laid_math_bits_deBruijn64tab)]
theorem door_met(os:Os)(args:Array Value):laidMetH Tryz.prog laid2 ((World.doorLaid Tryz.prog 19 os).forCall (fun _ _=>0) ⟨#[],args,[]⟩).memory:=
 laidMetH_of_parts3 (fuel:=8) (laidMet_of_run' 8 (by kernel_rfl) (by kernel_rfl)) (by kernel_rfl) (by kernel_rfl)
theorem arr_bytes{H:Type}{enc:TypeId×Value→H}{P:Program}{w:World}{base:Nat}{sp:Nat→Bool}{held:Bool}{fuel n:Nat}{t e:TypeId}{cs:List Value}{q:List MemPlace}(bs:List UInt8)(ht:P.underlying t=some (.array n e))(he:P.underlying e=some (.int .u8))(h1:P.cellsOf e=1)(hn:P.cellsOf t=n)
  (h:DataW.trod enc P w base sp held fuel t cs=some (.agg (bs.map fun b=>.lit (.int .u8 (Bt b))),q)):cs=HL bs:=by
 obtain⟨xs,m,_,hx,hl,hxl,hel⟩:=DataW.trod_array ht h
 simp only[Prod.mk.injEq,DataW.agg.injEq]at hx
 have hb:xs.map (·.1)=bs.map fun b=>.lit (.int .u8 (Bt b)):=hx.1.symm
 have hlen:bs.length=n:=by have:=congrArg List.length hb;simp at this;omega
 refine List.ext_getElem (by rw[hl,hn];simp[HL,hlen]) fun i h2 h3=>?_
 have hin:i<n:=by rw[hl,hn]at h2;exact h2
 have h4:=hel i hin
 rw[h1,List.getElem?_eq_getElem (by omega)]at h4
 obtain⟨z,e1,e2,_⟩:=DataW.trod_int he h4
 have h5:(xs.map (·.1))[i]'(by simp;omega)=(bs.map fun b=>(DataW.lit (.int .u8 (Bt b)):DataW H))[i]'(by simp;omega):=by simp only[hb]
 simp only[List.getElem_map]at h5
 rw[e2]at h5
 simp only[DataW.lit.injEq,Lit.int.injEq,true_and]at h5
 have h6:cs[i]=.int .u8 z:=by
  have:=congrArg (·[0]?) e1
  simpa[h2]using this
 rw[h6,h5]
 simp[HL]
theorem gNum:Tryz.prog.globalNamed "math/bits.deBruijn64tab"=some 1:=by kernel_rfl
theorem gType:(Tryz.prog.globals[1]?).map (·.type)=some 284:=by kernel_rfl
theorem gok_of_laid{w:World}(h:laidMetH Tryz.prog laid2 w):GOK gTab (fun _=>True) w:=by
 rw[MakeChecks.laidMetH_plain _ _ _ (by kernel_rfl)]at h
 obtain⟨ps,⟨g0,t0,cs0,f0,p0,q0,hg0,ht0,hv0,hd0,⟨g1,t1,cs1,f1,p1,q1,hg1,ht1,hv1,hd1,_,_⟩,_⟩,_,_⟩:=h
 obtain rfl:=Option.some.inj (gNum.symm.trans hg1)
 obtain rfl:=Option.some.inj (gType.symm.trans ht1)
 have hcs:=arr_bytes tab64 Tryz.underlying284 Tryz.underlying5 (by kernel_rfl) (by kernel_rfl) (q:=p1) (by
  refine hd1.trans ?_
  rfl)
 intro q l hq
 unfold gTab at hq
 split at hq
 ·cases hq
  refine⟨cs1.toList,.ofBytes rfl hcs,.inr ⟨_,0,rfl,trivial,?_,fun i hi=>?_⟩⟩
  ·have:=World.var?_cell hg1 hv1 0
   have h0:cs1[0]?≠none:=by
    rw[←Array.getElem?_toList,hcs];simp[HL,tab64]
   cases hc:cs1[0]? with
   |none=>exact absurd hc h0
   |some v=>rw[hc]at this;exact World.block_lt_of_cell? w _ this
  ·have:=World.var?_cell hg1 hv1 i
   rw[Nat.zero_add,this,←Array.getElem?_toList,List.getElem?_eq_getElem hi]
 ·cases hq
end Go.Proofs.YtgnhmfmhbimfkaaGreatDoor
namespace Go.Proofs.YtgnhmfmhbimfkaaGreatDoor
set_option linter.unusedVariables false
set_option linter.unusedSimpArgs false
set_option maxRecDepth 100000
open Go.RowKit
section
def nilP(n:Nat):List A:=List.replicate n (.v (.pointer none))
def yTab7(t0:TypeId):Option TI:=
 match t0 with
 |74=>some (tiStruct 21 [.ints .i64 1 [0],.ints .i32 1 [0],.ints .u32 1 [0],.gen 16 (nilP 16),.gen 2 [.v (.slice none 0 0),.v (.slice none 0 0)]] [0,1,3,11,19,20] [63,69,70,71,38,72] 192 false [(0,1),(1,2),(3,8),(11,8),(19,1),(20,1)])
 |22=>some (tiPtr)
 |56=>some (tiPtr)
 |70=>some { tiArr 8 40 1 [.gen 8 (nilP 8)] 64 with eq:=false }
 |71=>some { tiArr 8 56 1 [.gen 8 (nilP 8)] 64 with eq:=false }
 |37=>some (tiStruct 7 [.ints .i64 4 [0,0,0,0],.gen 1 [.v (.slice none 0 0)],.ints .i64 1 [0],.gen 1 [.v (.slice none 0 0)]] [0,1,2,3,4,5,6] [3,3,3,3,32,3,35] 88 false [(0,1),(1,1),(2,1),(3,1),(4,1),(5,1),(6,1)])
 |119=>some (tiStruct 35 [.bytes 32 (List.replicate 32 0),.ints .i64 3 [0,0,0]] [0,32] [28,111] 56 false [(0,32),(32,3)])
 |72=>some (tiSl 119 35)
 |_=>yTab3 t0
set_option maxRecDepth 100000 in
theorem yOK7:∀t i,yTab7 t=some i→TyOK Tryz.prog t i:=by
 intro t i h
 unfold yTab7 at h
 split at h<;>first|(cases h;exact tyB_spec (by kernel_rfl))|exact yOK3 _ _ h
set_option maxRecDepth 100000 in
theorem yEq7:∀t i,yTab7 t=some i→i.eq=true→EqT Tryz.prog t i:=by
 intro t i h
 unfold yTab7 at h
 split at h<;>first|(cases h;intro he;cases he;done)|(cases h;intro _;exact eqB_spec (by kernel_rfl))|exact yEq3 _ _ h
end
section
open Pm
attribute [local irreducible] condK LoopA regA powI scal mulI isI fourB deriveW numB numsB bodyB nodeW nextW viewHV doR chkV planL sealB boxD keyZ helD commonI placeI apE doP comE comP nextP joinP upW lefW tagE welSegs welF welN createP enterP
def comK(p:PS)(n:Nat)(ops:List Int)(m:Nat)(vs:List Int)(d:List UInt8)(K:List A→Prop):Prop:=
 ∀e,e=comE p n ops m vs→StopC (condK (decide (e=0))
  (∀s c q N W,s=doP p p.lf n ops→c=comP p s n ops m vs d→q=nextP p s n ops m vs d→N=welN s.ng 8→W=welF (welSegs q (upW (lefW d)) (joinP p d) (tagE q.ep) d) s.ng 8→K [.agg (cSegs2 c),.recs N 108 W,.sref (pSegs q) 0,.v (.int .i64 0)])
  (K [.agg cZero,.v (.slice none 0 0),.v (.pointer none),.v (.int .i64 e)]))
def comR (p : PS) (n : Nat) (ops : List Int) (m : Nat) (vs : List Int) (d : List UInt8) : List A :=
  if comE p n ops m vs = 0 then [.agg (cSegs2 (comP p (doP p p.lf n ops) n ops m vs d)), .recs (welN (doP p p.lf n ops).ng 8) 108 (welF (welSegs (nextP p (doP p p.lf n ops) n ops m vs d) (upW (lefW d)) (joinP p d) (tagE (nextP p (doP p p.lf n ops) n ops m vs d).ep) d) (doP p p.lf n ops).ng 8), .sref (pSegs (nextP p (doP p p.lf n ops) n ops m vs d)) 0, .v (.int .i64 0)]
        else [.agg cZero, .v (.slice none 0 0), .v (.pointer none), .v (.int .i64 (comE p n ops m vs))]
def commS:List A→(Res→Prop)→Prop
 |[.v (.pointer none),o,v,.agg [.bytes 32 d]],K=>K (.t [.agg cZero,.v (.slice none 0 0),.v (.pointer none),.v (.int .i64 13)])
 |[x,o,v,.agg [.bytes 32 d]],K=>prK x fun p=>leafB p.lf=true∧opsK o fun n ops=>votK v fun m vs=>n≤3000∧m≤3000∧comK p n ops m vs d fun l=>K (.t l)
 |_,_=>False
theorem commS_ok:∀args K,commS args K→∃r,FnO 61 args r∧K r:=by
 intro args K h
 unfold commS at h
 split at h
 ·exact⟨_,commit0_fn _ _ _,h⟩
 ·next o v d _=>
  obtain⟨p,rfl,hf,h⟩:=prK_eq h
  obtain⟨n,ops,_,h,ho⟩:=opsK_spec h
  obtain⟨m,vs,_,⟨hn,hm,h⟩,hv⟩:=votK_spec h
  have h:=(h _ rfl).out
  refine⟨.t (comR p n ops m vs d),fun S w vs' hG ha=>?_,?_⟩
  ·obtain⟨v1,v2,v3,v4,rfl,k1,k2,k3,k4⟩:=ra_four ha
   exact commit_fn p n ops hn m vs hm _ hf S w _ hG (.cons k1 (.cons (ho k2) (.cons (hv k3) (.cons k4 .nil))))
  ·unfold comR
   by_cases he:comE p n ops m vs=0
   ·rw[decide_eq_true he,condK_true]at h
    rw[if_pos he]
    exact h _ _ _ _ _ rfl rfl rfl rfl rfl
   ·rw[decide_eq_false he,condK_false]at h
    rw[if_neg he]
    exact h
 ·exact h.elim
def createE:List A→(Res→Prop)→Prop
 |[.agg [.bytes 32 h]],K=>∀p,p=createP h→K (.d (.sref (pSegs p) 0))
 |_,_=>False
end
section
open Pm
attribute [local irreducible] condK LoopA regA powI scal mulI isI fourB deriveW numB numsB bodyB nodeW nextW viewHV doR chkV planL sealB boxD keyZ helD commonI placeI apE doP comE comP nextP joinP upW lefW tagE welSegs welF createP enterP
end
section
open Pm
theorem wload_any(a:Addr)(x:Int)(w:World)(hc:w.cell? a=some (.int .i64 x)):
  Calls Tryz.prog 44 #[.pointer (some a)] w fun e w'=>e=.returned (.int .i64 x)∧w=w':=by
 have hl:=run_call_load (P:=Tryz.prog) Tryz.func68 (by kernel_rfl) (by kernel_rfl) (by kernel_rfl) .i64 (by kernel_rfl) hc
 go_enter Tryz.func44,Tryz.ntmps44
 go_wp2
 go_ret
 exact⟨rfl,rfl⟩
theorem wadd_any(a:Addr)(x:Int)(hx:0≤x∧x≤1000000)(w:World)(hc:w.cell? a=some (.int .i64 x))(hz:w.frozen? a=false):
  Calls Tryz.prog 31 #[.pointer (some a),.int .i64 1] w fun e w'=>(∃y,e=.returned y)∧w'=w.setCell a (.int .i64 (x+1)):=by
 have hwr:RowKit.wrap64 (x+1)=x+1:=IntWalk.wrap64_in _ (by omega)
 have hwi:IntKind.i64.wrap (x+1)=x+1:=wrapS (by omega) (by omega)
 clear hx
 have hadd:=run_call_add (P:=Tryz.prog) Tryz.func53 (by kernel_rfl) (by kernel_rfl) (by kernel_rfl) .i64 (by kernel_rfl) (y:=1) (s:=x+1) hc hz (by simp[go_sem,hwr,hwi])
 go_enter Tryz.func31,Tryz.ntmps31
 go_wp2
 go_ret
 exact⟨⟨_,rfl⟩,rfl⟩
end
section
open Pm
def WL(n mu:Int)(ps bs:List Value)(po ap:Value):List Value:=.int .i64 n::.int .i32 mu::.int .u32 0::(ps++(bs++[po,ap]))
theorem WL_mu{n mu:Int}{ps bs:List Value}{po ap:Value}(m:Int):(WL n mu ps bs po ap).toArray.setIfInBounds 1 (.int .i32 m)=(WL n m ps bs po ap).toArray:=by
 rw[List.setIfInBounds_toArray];rfl
theorem WL_n{n mu:Int}{ps bs:List Value}{po ap:Value}(m:Int):(WL n mu ps bs po ap).toArray.setIfInBounds 0 (.int .i64 m)=(WL m mu ps bs po ap).toArray:=by
 rw[List.setIfInBounds_toArray];rfl
theorem WL_p{n mu:Int}{ps bs:List Value}{po ap:Value}{i:Nat}{v:Value}(hi:ps[i]?=some v):(WL n mu ps bs po ap).toArray[3+i]?=some v:=by
 rw[List.getElem?_toArray,show 3+i=i+3 by omega]
 show(ps++(bs++[po,ap]))[i]?=_
 rw[List.getElem?_append_left (List.getElem?_eq_some_iff.1 hi).1]
 exact hi
theorem isPlace_any(i:Int)(w:World):Calls Tryz.prog 32 #[.int .i64 i] w fun e w'=>e=.returned (.bool (decide (0≤i∧i<8)))∧w=w':=by
 by_cases h0:0≤i
 ·by_cases h1:i<8
  ·rw[decide_eq_true ⟨h0,h1⟩]
   have g0:i≥0:=h0
   go_enter Tryz.func32,Tryz.ntmps32
   go_wp2
   go_ret
   exact⟨rfl,rfl⟩
  ·rw[decide_eq_false (fun h=>h1 h.2)]
   have g0:i≥0:=h0
   go_enter Tryz.func32,Tryz.ntmps32
   go_wp2
   go_ret
   exact⟨rfl,rfl⟩
 ·rw[decide_eq_false (fun h=>h0 h.1)]
  have g0:¬i≥0:=h0
  go_enter Tryz.func32,Tryz.ntmps32
  go_wp2
  go_ret
  exact⟨rfl,rfl⟩
theorem isPlace_in{i:Nat}(hi:i<8)(w:World):Calls Tryz.prog 32 #[.int .i64 (i:Nat)] w fun e w'=>e=.returned (.bool true)∧w=w':=
 (isPlace_any _ _).mono fun e w' ⟨h1,h2⟩=>⟨by rw[h1,decide_eq_true (show 0≤(i:Int)∧(i:Int)<8 from⟨by omega,by omega⟩)],h2⟩
set_option maxRecDepth 100000 in
set_option maxHeartbeats 4000000 in
theorem party_walk(w:World)(r:Nat)(t:TypeId)(n:Int)(ps bs:List Value)(po ap:Value)(i:Nat)(hi:i<8)(pv:Value)(hp:ps[i]?=some pv)(hb:Blk w r (WL n 0 ps bs po ap).toArray t)(Q:Value→World→Prop)
  (hcopy:∀w1,Blk w1 r (WL n 1 ps bs po ap).toArray t→w.grownBy w1 (some r)→Calls Tryz.prog 42 #[pv] w1 fun e w2=>∃v,e=.returned v∧Q v w2∧Below w1.heap.size w1 w2):
  Calls Tryz.prog 14 #[.pointer (some ⟨r,0,none⟩),.int .i64 (i:Nat)] w fun e w'=>∃v w2,e=.returned v∧Q v w2∧w'=w2.setCell ⟨r,1,none⟩ (.int .i32 0)∧Blk w2 r (WL n 1 ps bs po ap).toArray t∧w.grownBy w2 (some r):=by
 have hb1:Blk (w.setCell ⟨r,1,none⟩ (.int .i32 1)) r (WL n 1 ps bs po ap).toArray t:=(hb.set 1 _).copy (WL_mu 1)
 have hg1:w.grownBy (w.setCell ⟨r,1,none⟩ (.int .i32 1)) (some r):=grown_setCell (grown_refl w _) 1 _
 have c1:w.cell? ⟨r,1,none⟩=some (.int .i32 0):=(hb.cell 1).trans (by rw[List.getElem?_toArray];rfl)
 have c2:(w.setCell ⟨r,1,none⟩ (.int .i32 1)).cell? ⟨r,3+i,none⟩=some pv:=(hb1.cell (3+i)).trans (WL_p hp)
 have i0:¬(i:Int)<0:=by omega
 have i1:(i:Int)<8:=by omega
 have HB:=Lib.hid hb;have HB1:=Lib.hid hb1;have HG1:=Lib.hid hg1;have C1:=Lib.hid c1;have HC:=Lib.hid hcopy
 clear hb hb1 hg1 hcopy c1 hp
 go_enter_defers Tryz.func14,Tryz.ntmps14
 go_wp2_with (first|(go_at_call 32;refine(isPlace_in hi _).mono ?_;rintro e w' ⟨rfl,rfl⟩)|(go_at_call 33;refine(lock_free ⟨r,1,none⟩ _ C1.out (HB.out.frozen 1)).mono ?_;rintro e w' ⟨rfl,rfl⟩)|(go_at_call 42;refine(HC.out _ HB1.out HG1.out).mono ?_;rintro e w' ⟨v,rfl,hq,hbel⟩))
 have hb2:=HB1.out.keep hbel
 have c3:w'.cell? ⟨r,1,none⟩=some (.int .i32 1):=(hb2.cell 1).trans (by rw[List.getElem?_toArray];rfl)
 have hbw:w.grownBy w' (some r):=grown_below HG1.out hbel
 refine leaves_cons (f:=34) (args:=#[.pointer (some ⟨r,1,none⟩)]) (by simp) (by simp[go_sem]) ?_
 refine(unlock_deferred ⟨r,1,none⟩ _ _ c3 (hb2.frozen 1)).mono ?_
 rintro e u' w4 ⟨rfl,rfl,hw4⟩
 simp[Leaves,settle,results,Tryz.results14]
 exact⟨w',hq,hw4,hb2,hbw⟩
end
section
open Pm
abbrev AC(kd who nn fr:Int)(ops:Value)(dr:Int)(by':Value):Array Value:=#[.int .i64 kd,.int .i64 who,.int .i64 nn,.int .i64 fr,ops,.int .i64 dr,by']
theorem World.alloc_keep{w:World}{o:Obj}{r:Nat}{cs:Array Value}{t:TypeId}(h:Blk w r cs t):Blk (w.alloc o) r cs t:=(Below.heap_alloc _ _ _ h.lt).trans h
set_option maxRecDepth 100000 in
set_option maxHeartbeats 4000000 in
theorem step_commit(w:World)(r:Nat)(t:TypeId)(n:Int)(hn:0≤n∧n≤1000000)(ps bs:List Value)(po ap:Value)(i:Nat)(hi:i<8)(nn fr dr:Int)(ops by':Value)(hb:Blk w r (WL n 0 ps bs po ap).toArray t)(Q:Value→Array Value→World→Prop)
  (hsub:∀w1,Blk w1 r (WL (n+1) 1 ps bs po ap).toArray t→w.grownBy w1 (some r)→Calls Tryz.prog 36 #[.pointer (some ⟨r,0,none⟩),.agg (AC 2 (i:Nat) nn fr ops dr by')] w1 fun e w2=>∃v cs t',e=.returned v∧Q v cs w2∧Blk w2 r cs t'∧cs[1]?=some (.int .i32 1)):
  Calls Tryz.prog 12 #[.pointer (some ⟨r,0,none⟩),.agg (AC 2 (i:Nat) nn fr ops dr by')] w fun e w'=>∃v cs w2 t',e=.returned v∧Q v cs w2∧w'=w2.setCell ⟨r,1,none⟩ (.int .i32 0)∧Blk w2 r cs t':=by
 have b0:Blk (w.alloc (.cells (AC 2 (i:Nat) nn fr ops dr by') 37)) r (WL n 0 ps bs po ap).toArray t:=World.alloc_keep hb
 have a0:Blk (w.alloc (.cells (AC 2 (i:Nat) nn fr ops dr by') 37)) w.heap.size (AC 2 (i:Nat) nn fr ops dr by') 37:=Blk.newAt _ _ rfl
 have g0:w.grownBy (w.alloc (.cells (AC 2 (i:Nat) nn fr ops dr by') 37)) (some r):=⟨rfl,rfl,rfl,by rw[size_alloc];omega,fun k hk _=>Below.heap_alloc _ _ _ hk⟩
 have hne:r≠w.heap.size:=by have:=hb.lt;omega
 have b1:Blk ((w.alloc (.cells (AC 2 (i:Nat) nn fr ops dr by') 37)).setCell ⟨r,0,none⟩ (.int .i64 (n+1))) r (WL (n+1) 0 ps bs po ap).toArray t:=(b0.set 0 _).copy (WL_n _)
 have a1:Blk ((w.alloc (.cells (AC 2 (i:Nat) nn fr ops dr by') 37)).setCell ⟨r,0,none⟩ (.int .i64 (n+1))) w.heap.size (AC 2 (i:Nat) nn fr ops dr by') 37:=a0.other ⟨r,0,none⟩ _ hne.symm
 have g1:w.grownBy ((w.alloc (.cells (AC 2 (i:Nat) nn fr ops dr by') 37)).setCell ⟨r,0,none⟩ (.int .i64 (n+1))) (some r):=grown_setCell g0 0 _
 have b2:Blk (((w.alloc (.cells (AC 2 (i:Nat) nn fr ops dr by') 37)).setCell ⟨r,0,none⟩ (.int .i64 (n+1))).setCell ⟨r,1,none⟩ (.int .i32 1)) r (WL (n+1) 1 ps bs po ap).toArray t:=(b1.set 1 _).copy (WL_mu _)
 have a2:Blk (((w.alloc (.cells (AC 2 (i:Nat) nn fr ops dr by') 37)).setCell ⟨r,0,none⟩ (.int .i64 (n+1))).setCell ⟨r,1,none⟩ (.int .i32 1)) w.heap.size (AC 2 (i:Nat) nn fr ops dr by') 37:=a1.other ⟨r,1,none⟩ _ hne.symm
 have g2:w.grownBy (((w.alloc (.cells (AC 2 (i:Nat) nn fr ops dr by') 37)).setCell ⟨r,0,none⟩ (.int .i64 (n+1))).setCell ⟨r,1,none⟩ (.int .i32 1)) (some r):=grown_setCell g1 1 _
 have c0:(w.alloc (.cells (AC 2 (i:Nat) nn fr ops dr by') 37)).cell? ⟨r,0,none⟩=some (.int .i64 n):=(b0.cell 0).trans (by rw[List.getElem?_toArray];rfl)
 have c1:((w.alloc (.cells (AC 2 (i:Nat) nn fr ops dr by') 37)).setCell ⟨r,0,none⟩ (.int .i64 (n+1))).cell? ⟨r,1,none⟩=some (.int .i32 0):=(b1.cell 1).trans (by rw[List.getElem?_toArray];rfl)
 have k1:((w.alloc (.cells (AC 2 (i:Nat) nn fr ops dr by') 37)).setCell ⟨r,0,none⟩ (.int .i64 (n+1))).cell? ⟨w.heap.size,1,none⟩=some (.int .i64 (i:Nat)):=a1.cell 1
 have k2:(((w.alloc (.cells (AC 2 (i:Nat) nn fr ops dr by') 37)).setCell ⟨r,0,none⟩ (.int .i64 (n+1))).setCell ⟨r,1,none⟩ (.int .i32 1)).cell? ⟨w.heap.size,0,none⟩=some (.int .i64 2):=a2.cell 0
 have HS:=Lib.hid hsub;have HN:=Lib.hid hn;have B0:=Lib.hid b0;have B1:=Lib.hid b1;have B2:=Lib.hid b2;have A2:=Lib.hid a2;have G2:=Lib.hid g2;have C0:=Lib.hid c0;have C1:=Lib.hid c1
 clear hb hsub hn b0 a0 g0 b1 a1 g1 b2 a2 g2 c0 c1
 go_enter_defers Tryz.func12,Tryz.ntmps12
 go_wp2_with (first|(go_at_call 31;refine(wadd_any ⟨r,0,none⟩ n HN.out _ C0.out (B0.out.frozen 0)).mono ?_;rintro e w' ⟨⟨y,rfl⟩,rfl⟩)|(go_at_call 32;refine(isPlace_in hi _).mono ?_;rintro e w' ⟨rfl,rfl⟩)|(go_at_call 33;refine(lock_free ⟨r,1,none⟩ _ C1.out (B1.out.frozen 1)).mono ?_;rintro e w' ⟨rfl,rfl⟩)|(go_at_call 36;refine(HS.out _ B2.out G2.out).mono ?_;rintro e w' ⟨v,cs,t',rfl,hq,hb3,hc3⟩))
 refine leaves_cons (f:=34) (args:=#[.pointer (some ⟨r,1,none⟩)]) (by simp) (by simp[go_sem]) ?_
 refine(unlock_deferred ⟨r,1,none⟩ _ _ ((hb3.cell 1).trans hc3) (hb3.frozen 1)).mono ?_
 rintro e u' w4 ⟨rfl,rfl,hw4⟩
 simp[Leaves,settle,results,Tryz.results12]
 exact⟨cs,w',hq,hw4,t',hb3⟩
end
section
open Pm
set_option maxRecDepth 100000 in
set_option maxHeartbeats 4000000 in
theorem commit_absent(w:World)(r:Nat)(t:TypeId)(n mu:Int)(ps bs:List Value)(po ap:Value)(i:Nat)(hi:i<8)(hp:ps[i]?=some (.pointer none))(kd nn fr dr:Int)(ops by':Value)(hb:Blk w r (WL n mu ps bs po ap).toArray t):
  Calls Tryz.prog 36 #[.pointer (some ⟨r,0,none⟩),.agg (AC kd (i:Nat) nn fr ops dr by')] w fun e w'=>e=.returned (.int .i64 13)∧Blk w' r (WL n mu ps bs po ap).toArray t∧w.grownBy w' none:=by
 have b0:Blk (w.alloc (.cells (AC kd (i:Nat) nn fr ops dr by') 37)) r (WL n mu ps bs po ap).toArray t:=World.alloc_keep hb
 have a0:Blk (w.alloc (.cells (AC kd (i:Nat) nn fr ops dr by') 37)) w.heap.size (AC kd (i:Nat) nn fr ops dr by') 37:=Blk.newAt _ _ rfl
 have g0:w.grownBy (w.alloc (.cells (AC kd (i:Nat) nn fr ops dr by') 37)) none:=⟨rfl,rfl,rfl,by rw[size_alloc];omega,fun k hk _=>Below.heap_alloc _ _ _ hk⟩
 have k1:(w.alloc (.cells (AC kd (i:Nat) nn fr ops dr by') 37)).cell? ⟨w.heap.size,1,none⟩=some (.int .i64 (i:Nat)):=a0.cell 1
 have k2:(w.alloc (.cells (AC kd (i:Nat) nn fr ops dr by') 37)).cell? ⟨r,3+i,none⟩=some (.pointer none):=(b0.cell (3+i)).trans (WL_p hp)
 have i0:0≤(i:Int):=by omega
 have i1:(i:Int)<8:=by omega
 have B0:=Lib.hid b0;have G0:=Lib.hid g0
 clear hb b0 a0 g0 hp
 go_enter Tryz.func36,Tryz.ntmps36
 go_wp2_with fail
 refine region_tail 7 (by kernel_rfl) (by kernel_rfl) ?_
 repeat still_step
 refine wpStill_nil ?_
 go_wp2
 go_ret
 exact⟨rfl,B0.out.drew,grown_drew G0.out⟩
end
section
open Pm
def bk0:List Seg:=[.ints .i32 1 [0],.ints .u32 1 [0],.gen 1 [.v (.slice none 0 0)],.ints .i64 2 [0,0]]
attribute [local irreducible] condK LoopA regA deriveW numB numsB
theorem newBook_fn:FnO 23 [] (.d (.sref bk0 0)):=by
 refine fn_sref (fnA (E:=env0) Tryz.func23 Tryz.ntmps23 ?_)
 refine agow ?_;(try exact⟨⟩)
 rfl
def newBkS:List A→(Res→Prop)→Prop
 |[],K=>K (.d (.sref bk0 0))
 |_,_=>False
theorem newBkS_ok:∀args K,newBkS args K→∃r,FnO 23 args r∧K r:=by
 intro args K h
 unfold newBkS at h
 split at h
 ·exact⟨_,newBook_fn,h⟩
 ·exact h.elim
def wsd(i:Int):List UInt8:=deriveW (zB 32) (sb ⟨#[115,101,101,100]⟩) (numB i)
set_option maxHeartbeats 4000000 in
theorem wseed_fn(i:Int):FnO 25 [.v (.int .i64 i)] (.d (.agg [.bytes 32 (wsd i)])):=by
 refine fnA (E:=envK3) Tryz.func25 Tryz.ntmps25 ?_
 refine agow ?_;(try exact⟨⟩)
 rfl
theorem rwseed_fn(i:Int):FnO 11 [.v (.int .i64 i)] (.d (.agg [.bytes 32 (wsd i)])):=by
 refine fnA (E:=envK4) Tryz.func11 Tryz.ntmps11 ?_
 have hl:(numB i).length≤100000000:=by rw[numB_length];decide
 refine agow ?_;(try exact⟨⟩)
 rfl
def wseedS:List A→(Res→Prop)→Prop
 |[.v (.int .i64 i)],K=>∀h,h=wsd i→K (.d (.agg [.bytes 32 h]))
 |_,_=>False
theorem wseedS_of{f:FuncId}(hf:∀i,FnO f [.v (.int .i64 i)] (.d (.agg [.bytes 32 (wsd i)]))):∀args K,wseedS args K→∃r,FnO f args r∧K r:=by
 intro args K h
 unfold wseedS at h
 split at h
 ·exact⟨_,hf _,h _ rfl⟩
 ·exact h.elim
end
section
open Pm
def wdS(n:Int)(l:List A)(po:List A):List Seg:=[.ints .i64 1 [n],.ints .i32 1 [0],.ints .u32 1 [0],.gen 16 l,.gen 2 po]
theorem RG.two{S:Nat→Prop}{w:World}:∀{l:List A} {cs:List Value},RG S w l cs→l.length=cs.length
 |_,_,.nil=>rfl
 |_,_,.cons _ _ r=>by rw[List.length_cons,List.length_cons,r.two]
theorem RG.at'{S:Nat→Prop}{w:World}:∀{l:List A} {cs:List Value},RG S w l cs→∀(i:Nat) (a:A),l[i]?=some a→∃v,cs[i]?=some v∧RA S w a v
 |_,_,.nil,i,a,e=>by cases e
 |_,_,.cons h1 _ r,0,a,e=>by cases e;exact⟨_,rfl,h1⟩
 |_,_,.cons _ _ r,i+1,a,e=>r.at' i a e
theorem wd_open{D:Nat→Prop}{w:World}{r:Nat}{n:Int}{l po:List A}(h:HB D w r (.var (wdS n l po))):∃ps bs v1 v2 t,ps.length=8∧Blk w r (WL n 0 ps bs v1 v2).toArray t∧(∀i a,i<8→l[i]?=some a→∃v,ps[i]?=some v∧RA D w a v)∧
  ∀(D':Nat→Prop) (w':World) (n':Int) {t':TypeId},Keeps D w D' w'→Blk w' r (WL n' 0 ps bs v1 v2).toArray t'→HB D' w' r (.var (wdS n' l po)):=by
 obtain⟨cs,t,h1,h2⟩:=h
 unfold wdS at h2
 obtain⟨c1,d1,e1,k1,r1,_⟩:=h2.head
 obtain⟨c2,d2,e2,k2,r2,_⟩:=r1.head
 obtain⟨c3,d3,e3,k3,r3,_⟩:=r2.head
 obtain⟨c4,d4,e4,k4,r4,l4⟩:=r3.head
 obtain⟨_,rfl⟩:=k1.toInts
 obtain⟨_,rfl⟩:=k2.toInts
 obtain⟨_,rfl⟩:=k3.toInts
 obtain⟨g4,q4⟩:=k4.toGen
 obtain⟨g5,q5⟩:=r4.toGen
 have len4:c4.length=16:=q4.two.symm.trans g4
 have len5:d4.length=2:=q5.two.symm.trans g5
 obtain⟨v1,v2,rfl⟩:∃a b,d4=[a,b]:=by
  rcases d4 with _|⟨a,_|⟨b,_|⟨c,x⟩⟩⟩<;>first|(simp at len5;done)|exact⟨a,b,rfl⟩
 have ec:cs=WL n 0 (c4.take 8) (c4.drop 8) v1 v2:=by
  rw[e1,e2,e3,e4]
  unfold WL
  rw[←List.append_assoc (c4.take 8),List.take_append_drop]
  rfl
 refine⟨c4.take 8,c4.drop 8,v1,v2,t,by simp[len4],by rw[ec]at h1;exact h1,fun i a hi ha=>?_,fun D' w' n' {t'} kp hb=>⟨_,t',hb,?_⟩⟩
 ·obtain⟨v,x1,x2⟩:=q4.at' i a ha
  exact⟨v,by rw[List.getElem?_take,if_pos hi];exact x1,x2⟩
 ·have u4:=RL.up kp k4
  have u5:=RL.up kp r4
  have e:WL n' 0 (c4.take 8) (c4.drop 8) v1 v2=[.int .i64 n']++([.int .i32 0]++([.int .u32 0]++(c4++[v1,v2]))):=by
   unfold WL
   rw[←List.append_assoc (c4.take 8),List.take_append_drop]
   rfl
  rw[e]
  unfold wdS
  obtain⟨_,p4⟩:=u4.toGen
  obtain⟨_,p5⟩:=u5.toGen
  have q:=RL.ints (k:=.i64) (n:=1) (zs:=[n']) rfl (RL.ints (k:=.i32) (n:=1) (zs:=[0]) rfl (RL.ints (k:=.u32) (n:=1) (zs:=[0]) rfl (RL.gen p4 g4 (RL.gen p5 g5 .nil))))
  rw[List.append_nil]at q
  exact q
end
section
open Pm
theorem keeps_grown{S:Nat→Prop}{w w':World}{r:Nat}(g:w.grownBy w' (some r)):Keeps (fun q=>S q∧q≠r) w (fun q=>(S q∨w.heap.size≤q)∧q≠r) w':=
 ⟨g.size,fun b hb hS=>⟨⟨.inl hS.1,hS.2⟩,fun o=>by
  have e:w'.heap[b]?=w.heap[b]?:=g.block b hb (fun e=>hS.2 (by cases e;rfl))
  unfold World.cell?
  rw[e]⟩⟩
theorem grown_none{a b c:World}{r:Nat}(h:a.grownBy b (some r))(k:b.grownBy c none):a.grownBy c (some r):=
 grown_trans h ⟨k.os,k.tape,k.output,k.size,fun q hq _=>k.block q hq (fun e=>by cases e)⟩
set_option maxRecDepth 100000 in
theorem wsteps_walk(w:World)(r:Nat)(t:TypeId)(n:Int)(ps bs:List Value)(po ap:Value)(hb:Blk w r (WL n 0 ps bs po ap).toArray t)(hn:0≤n∧n≤1000000):
  Calls Tryz.prog 19 #[.pointer (some ⟨r,0,none⟩)] w fun e w'=>e=.returned (.int .i64 n)∧w=w':=by
 have c0:w.cell? ⟨r,0,none⟩=some (.int .i64 n):=(hb.cell 0).trans (by rw[List.getElem?_toArray];rfl)
 have C0:=Lib.hid c0
 have hw:IntKind.i64.wrap n=n:=wrapS (by omega) (by omega)
 clear hb hn c0
 go_enter Tryz.func19,Tryz.ntmps19
 go_wp2_with (go_at_call 44;refine(wload_any ⟨r,0,none⟩ n _ C0.out).mono ?_;rintro e w' ⟨rfl,rfl⟩)
 go_ret
 exact⟨rfl,rfl⟩
theorem wsteps_M(n:Int)(hn:0≤n∧n≤1000000)(l po:List A):FnM Tryz.prog gTab 19 0 (.var (wdS n l po)) [] (.d (.v (.int .i64 n))) (.var (wdS n l po)):=by
 intro S w r vs hr hG hH hv
 cases hv
 obtain⟨ps,bs,v1,v2,t,hl,hb,_,back⟩:=wd_open hH
 refine(wsteps_walk w r t n ps bs v1 v2 hb hn).mono ?_
 rintro e w' ⟨rfl,rfl⟩
 exact⟨_,rfl,.v _,HB.up (keeps_grown (grown_refl w (some r))) rfl hH,grown_refl w _⟩
theorem act_open{D:Nat→Prop}{w:World}{kd who nn fr dr:Int}{x y:A}{v:Value}(h:RA D w (.agg [.ints .i64 4 [kd,who,nn,fr],.gen 1 [x],.ints .i64 1 [dr],.gen 1 [y]]) v):∃vx vy,v=.agg (AC kd who nn fr vx dr vy)∧RA D w x vx∧RA D w y vy:=by
 cases h with
 |agg hl=>
  rename_i cs
  obtain⟨c1,d1,e1,k1,r1,_⟩:=hl.head
  obtain⟨c2,d2,e2,k2,r2,_⟩:=r1.head
  obtain⟨c3,d3,e3,k3,r3,_⟩:=r2.head
  obtain⟨_,rfl⟩:=k1.toInts
  obtain⟨_,rfl⟩:=k3.toInts
  obtain⟨_,q2⟩:=k2.toGen
  obtain⟨_,q4⟩:=r3.toGen
  cases q2 with
  |cons a1 _ n1=>
   cases n1
   cases q4 with
   |cons a2 _ n2=>
    cases n2
    refine⟨_,_,?_,a1,a2⟩
    congr 1
    apply Array.toList_inj.1
    rw[e1,e2,e3]
    rfl
theorem wstep_absent(n:Int)(hn:0≤n∧n≤1000000)(l po:List A)(i:Nat)(hi:i<8)(ha:l[i]?=some (.v (.pointer none)))(nn fr dr:Int)(x y:A):
  FnM Tryz.prog gTab 12 0 (.var (wdS n l po)) [.agg [.ints .i64 4 [2,(i:Nat),nn,fr],.gen 1 [x],.ints .i64 1 [dr],.gen 1 [y]]] (.d (.v (.int .i64 13))) (.var (wdS (n+1) l po)):=by
 intro S w r vs hr hG hH hv
 cases hv with
 |cons h1 hnil=>
  cases hnil
  obtain⟨vx,vy,rfl,_,_⟩:=act_open h1
  obtain⟨ps,bs,v1,v2,t,hl,hb,hp,back⟩:=wd_open hH
  obtain⟨v,hv1,hv2⟩:=hp i _ hi ha
  obtain rfl:v=.pointer none:=hv2.plain
  refine(step_commit w r t n hn ps bs v1 v2 i hi nn fr dr vx vy hb (fun v cs w2=>v=.int .i64 13∧cs=(WL (n+1) 1 ps bs v1 v2).toArray∧w.grownBy w2 (some r)) fun w1 hb1 hg1=>?_).mono ?_
  ·refine(commit_absent w1 r t (n+1) 1 ps bs v1 v2 i hi hv1 2 nn fr dr vx vy hb1).mono ?_
   rintro e w2 ⟨rfl,hb2,hg2⟩
   exact⟨_,_,_,rfl,⟨rfl,rfl,grown_none hg1 hg2⟩,hb2,by rw[List.getElem?_toArray];rfl⟩
  ·rintro e w' ⟨v,cs,w2,t',rfl,⟨rfl,rfl,hg⟩,rfl,hb2⟩
   have hb3:Blk (w2.setCell ⟨r,1,none⟩ (.int .i32 0)) r (WL (n+1) 0 ps bs v1 v2).toArray t':=(hb2.set 1 _).copy (WL_mu _)
   have hg3:w.grownBy (w2.setCell ⟨r,1,none⟩ (.int .i32 0)) (some r):=grown_setCell hg 1 _
   exact⟨_,rfl,.v _,back _ _ _ (keeps_grown hg3) hb3,hg3⟩
end
section
theorem wp_guard(P:Program)(o:Oper)(g:Option (Nat×Bool))(a:Act)(w:World)(n:Act→World→Prop)(Q:Exit→Act→World→Prop):Oper.wp P { o with guard:=g } a w n Q=Oper.wp P o a w n Q:=by
 cases o
 unfold Oper.wp Oper.upon execOp
 rfl
theorem opok_guard{E:EnvX}{o:Oper}{g:Option (Nat×Bool)}{s:St}{fr:Nat}{t:T}{blk:Option (Nat×Bk)}(h:OpOK E { o with guard:=g } s fr t blk):OpOK E o s fr t blk:=
 ⟨h.1,h.2.1,fun S base w0 s' ρ a w K Q h1 h2 h3 h4 h5=>(wp_guard E.P o g a w K Q)▸h.2.2 S base w0 s' ρ a w K Q h1 h2 h3 h4 h5⟩
theorem GL.guard{E:EnvX}{ops r:List Oper}{o:Oper}{s:St}{k:St→Prop}(j d:Nat)(hg:o.guard=some (j,true))(hd:(ops[j]?).bind (·.dst)=some d)(hs:s.sl d=.d (.v (.bool true)))
  (h:Stop (regA E ops [{ o with guard:=none }] s fun s'=>GL E ops r s' k)):GL E ops (o::r) s k:=by
 refine⟨fun S base w0 ρ a w g=>?_⟩
 have hw:Wants ops o s true:=by unfold Wants;rw[hg];exact⟨d,_,hd,hs,by simp[boolOf]⟩
 rcases mutK_sound h.out with⟨_,hm⟩|h
 ·unfold wpList
  rw[hw.real g (fun _ _ _ _ _=>rfl),if_pos rfl]
  refine .inl (wp_guard E.P o none a w _ _▸hm S base w0 ρ a w _ _ g fun s' a' w' ρ' hk g'=>?_)
  have hk':GL E ops r s' k:=hk.out
  exact hk'.out S base w0 ρ' a' w' g'
 ·obtain⟨t,blk,hk,hs⟩:=stepK_sound h
  have hk':GL E ops r (s.app2 o.dst t blk) k:=hk.out
  have hs':StepOK E ops o s s.h.length t blk:=by
   rcases hs with⟨_,ho⟩|⟨hf,_⟩
   ·exact .inl ⟨hw,opok_guard ho⟩
   ·exact absurd hf (by unfold Wants;simp)
  unfold wpList
  refine hs'.run (s':=⟨s.t,s.h++List.replicate 1 none⟩) (ρ:=ρ) (a:=a) (w:=w) (fun x hx=>⟨by cases x<;>rfl,fun b _=>bk_more s 1 b⟩) (fun _ _ _ _ _=>rfl) (g.sim (Sim.more s 1)) ?_ (by simp) fun a' w' ρ' g'=>?_
  ·rw[bk_more]
   unfold St.bk
   rw[List.getD_eq_getElem?_getD,List.getElem?_eq_none (Nat.le_refl _)];rfl
  ·exact hk'.out _ _ _ _ _ _ (g'.simBack app2_sim)
end
section
structure GX(E:EnvX)(S:Nat→Prop)(base:Nat)(w0:W0 E.G)(c:Code)(s:St)(Q:Exit→Act→World→Prop):Prop where
 out:∀(ρ:Nat→Option Value) (a:Act) (w:World),Good S base w0 s ρ a w→c.wp E.P Q a w
structure GXL(E:EnvX)(S:Nat→Prop)(base:Nat)(w0:W0 E.G)(ops l:List Oper)(s:St)(K:Act→World→Prop):Prop where
 out:∀(ρ:Nat→Option Value) (a:Act) (w:World),Good S base w0 s ρ a w→wpList E.P ops.toArray (fun e a' w'=>e=.normal∧K a' w') l a w
structure GQ(E:EnvX)(S:Nat→Prop)(base:Nat)(w0:W0 E.G)(s:St)(K:Act→World→Prop):Prop where
 out:∀(ρ:Nat→Option Value) (a:Act) (w:World),Good S base w0 s ρ a w→K a w
section
variable {E : EnvX} {S : Nat → Prop} {base : Nat} {w0 : W0 E.G} {s : St}
theorem GX.of{c:Code}{Q:Exit→Act→World→Prop}(h:wpA E c s fun e s'=>GQ E S base w0 s' (Q e)):GX E S base w0 c s Q:=by
 refine⟨fun ρ a w g=>wp_mono (wpA_sound c h g) ?_⟩
 rintro e a' w' ⟨s',ρ',h1,h2⟩
 exact h1.out _ _ _ h2
theorem GX.seq{x y:Code}{Q:Exit→Act→World→Prop}(h:wpA E x s fun e s'=>match e with| .normal=>GX E S base w0 y s' Q|e=>GQ E S base w0 s' (Q e)):GX E S base w0 (.seq x y) s Q:=by
 refine⟨fun ρ a w g=>wp_seq (wp_mono (wpA_sound x h g) ?_)⟩
 rintro e a' w' ⟨s',ρ',h1,h2⟩
 cases e with
 |normal=>exact GX.out h1 _ _ _ h2
 |_=>exact GQ.out h1 _ _ _ h2
theorem GX.seqH{x y:Code}{Q:Exit→Act→World→Prop}(h:∀y',y'=y→wpA E x s fun e s'=>match e with| .normal=>GX E S base w0 y' s' Q|e=>GQ E S base w0 s' (Q e)):GX E S base w0 (.seq x y) s Q:=.seq (h y rfl)
theorem GX.region{id:Nat}{ops:Array Oper}{y:Code}{Q:Exit→Act→World→Prop}(h:GXL E S base w0 ops.toList ops.toList s (fun a w=>y.wp E.P Q a w)):GX E S base w0 (.seq (.region id ops false) y) s Q:=by
 refine⟨fun ρ a w g=>wp_seq (wp_mono (wp_region_list (by have:=h.out ρ a w g;rwa [Array.toArray_toList]at this)) ?_)⟩
 rintro e a' w' ⟨rfl,hk⟩
 exact hk
theorem GXL.preN(n:Nat){ops l:List Oper}{K:Act→World→Prop}(h:Stop (regA E ops (l.take n) s fun s'=>GXL E S base w0 ops (l.drop n) s' K)):GXL E S base w0 ops l s K:=by
 refine⟨fun ρ a w g=>?_⟩
 have:=preA (r:=l.drop n) (fun s ρ a w hj g=>GXL.out hj ρ a w g) h.out g
 rwa [List.take_append_drop]at this
theorem GXL.last{ops l:List Oper}{y:Code}{Q:Exit→Act→World→Prop}(h:Stop (regA E ops l s fun s'=>GX E S base w0 y s' Q)):GXL E S base w0 ops l s (fun a w=>y.wp E.P Q a w):=by
 refine⟨fun ρ a w g=>?_⟩
 have:=preA (r:=[]) (Q:=fun e a' w'=>e=.normal∧y.wp E.P Q a' w') (fun s ρ a w hj g=>⟨rfl,GX.out hj ρ a w g⟩) h.out g
 rwa [List.append_nil]at this
theorem GXL.hand{ops r:List Oper}{o:Oper}{K:Act→World→Prop}(hg:o.guard=none)
  (h:∀(ρ:Nat→Option Value) (a:Act) (w:World) (next:Act→World→Prop) (Q0:Exit→Act→World→Prop),Good S base w0 s ρ a w→
   (∀(S':Nat→Prop) (base':Nat) (w0':W0 E.G) (s':St) (ρ':Nat→Option Value) (a':Act) (w':World),Good S' base' w0' s' ρ' a' w'→GXL E S' base' w0' ops r s' K→next a' w')→o.wp E.P a w next Q0):GXL E S base w0 ops (o::r) s K:=by
 refine⟨fun ρ a w g=>?_⟩
 unfold wpList
 rw[show Region.wanted o (yielded ops.toArray a.tmps)=true by unfold Region.wanted;rw[hg],if_pos rfl]
 exact .inl (h ρ a w _ _ g fun S' base' w0' s' ρ' a' w' g' hl=>hl.out ρ' a' w' g')
theorem Good.rebase{ρ:Nat→Option Value}{a:Act}{w w':World}(g:Good S base w0 s ρ a w)(hs:∀b x,s.bk b=some x→∃l,x=.var l)(X:Nat→Prop)(hw:GrownX X w w')(hX:∀q,X q→¬Dt S base ρ q∧∀b u,ρ b=some u→¬Rl u q):
  Good (fun z=>Dt S base ρ z∧z<w.heap.size) w'.heap.size (⟨w',fun q=>∃b u,ρ b=some u∧Rl u q,w0.pin,w0.defs⟩:W0 E.G) s ρ a w':=by
 have K:Keeps (Dt S base ρ) w (Dt (fun z=>Dt S base ρ z∧z<w.heap.size) w'.heap.size ρ) w':=⟨hw.size,fun r hr hd=>⟨⟨.inl ⟨hd,hr⟩,hd.2⟩,fun o=>World.cell?_of_block (hw.block r hr fun e=>(hX r e).1 hd)⟩⟩
 refine⟨g.len,fun i hi=>(g.t i hi).up K (fun _ _=>rfl),fun b=>?_,g.dang,g.inj,fun b u r h1 h2=>⟨.inr ⟨b,u,h1,h2⟩,Nat.lt_of_lt_of_le (g.low b u r h1 h2).2 hw.size⟩,BelX.refl _ _ _,g.glob.up K,g.pin,Nat.le_refl _,g.defs⟩
 have hB:=g.b b
 cases hk:s.bk b with
 |none=>rw[hk]at hB;exact hB
 |some y=>
  obtain⟨l,rfl⟩:=hs b y hk
  rw[hk]at hB
  obtain⟨r,cs,t,h1,h2,h3,h4⟩:=hB
  exact⟨r,cs,t,h1,h2,(hw.block r (g.low b _ r h1 rfl).2 fun e=>(hX r e).2 b _ h1 rfl).trans h3,h4.up K⟩
theorem append_raw {D : Nat → Prop} {w : World} {t ty : TypeId} {i j : TI} {n m : Nat} {cs : List Value} {news : List Seg} {po lv : Value} (hY : E.Y t = some i) (hs1 : i.sl = true) (he : i.esz ≠ 0) (hj : E.Y i.elem = some j) (hjb : j.bytes ≠ 0) (hjs : segN j.zero = i.esz)
    (ho : w.ownsRow 0 i.elem i.esz po n cs) (hl : RA D w (.row m news) lv) (hseg : segN news = m * i.esz) (hm : m ≠ 0) (hb : (n + m) * j.bytes ≤ 140737488355328) :
    ∃ v' w' ns, (Builtin.append_ #[t, t] ty #[po, lv]).run E.P w = .ok v' w' ∧ w'.ownsRow 0 i.elem i.esz v' (n + m) (cs ++ ns) ∧ RL D w news ns ∧ w.grownBy w' po.ownBlock ∧ (v'.ownBlock = po.ownBlock ∨ v'.ownBlock = some w.heap.size) := by
  obtain ⟨_, f, h5, h6⟩ := (E.hY t i hY).arr he
  obtain ⟨f', z, h7, h8, h9, h10, h11⟩ := (E.hY _ j hj).info
  rw [h5] at h7; cases h7
  have hu := (E.hY t i hY).sl hs1
  have hz := (zeroB_spec (S := D) (w := w) h11).len
  have h63 : n + m ≤ maxLen := by
    have : n + m ≤ (n + m) * j.bytes := Nat.le_mul_of_pos_right _ (Nat.pos_of_ne_zero hjb)
    unfold maxLen; omega
  cases hl with
  | row k k1 k2 k3 k4 =>
    rename_i c ns ad
    have hns : ns.length = m * i.esz := by rw [k.len, hseg]
    rcases k4 with k4 | ⟨b, q, rfl, k5, k6, k7⟩
    · exfalso
      rw [k4] at hns
      have : 0 < m * i.esz := Nat.mul_pos (Nat.pos_of_ne_zero hm) (Nat.pos_of_ne_zero he)
      simp at hns; omega
    · obtain ⟨v', w', hr, h1, h2, h3, h4⟩ := run_append_own_at (P := E.P) w 0 t ty i.elem f z i.esz j.bytes hu h5 h10 h6 h9 (by
          rw [hjs] at hz; simpa using hz) (Nat.pos_of_ne_zero he) _ n cs ho ⟨b, q, none⟩ m c ns hns (fun j u hj => by
          obtain ⟨hlt, e⟩ := List.getElem?_eq_some_iff.1 hj
          rw [add_at, k7 j hlt, e]) k.one h63 hb (Nat.zero_le _)
      exact ⟨v', w', ns, hr, h1, k, h2, h4⟩
theorem vars_of(h:s.h.all (fun o=>match o with|none=>true|some (.var _)=>true|_=>false)=true):∀b x,s.bk b=some x→∃l,x=.var l:=by
 intro b x hb
 unfold St.bk at hb
 rw[List.getD_eq_getElem?_getD]at hb
 cases e:s.h[b]? with
 |none=>rw[e]at hb;cases hb
 |some o=>
  rw[e]at hb
  obtain rfl:o=some x:=hb
  have h2:=List.all_eq_true.1 h _ (List.mem_of_getElem? e)
  cases x<;>first|exact⟨_,rfl⟩|(simp at h2;done)
theorem GXL.append{ops r:List Oper}{o:Oper}{K:Act→World→Prop}{c:Call}{x y:Operand}{t:TypeId}{i j:TI}{n m:Nat}{cs:List Value}{news:List Seg}{po:Value}(hg:o.guard=none)(ho:o.op=.call c)(hc:c.callee=.builtin .append)(ha:c.args.toList=[x,y])(ht:c.argTypes.toList=[t,t])
  (hY:E.Y t=some i)(hs1:i.sl=true)(he:i.esz≠0)(hj:E.Y i.elem=some j)(hjb:j.bytes≠0)(hjs:segN j.zero=i.esz)(hx:s.ev x=.d (.v po))(hy:s.ev y=.d (.row m news))(hseg:segN news=m*i.esz)(hm:m≠0)(hb:(n+m)*j.bytes≤140737488355328)
  (hs:∀b x,s.bk b=some x→∃l,x=.var l)(hown:w0.w.ownsRow 0 i.elem i.esz po n cs)(hfr:∀q,po.ownBlock=some q→q<base∧q<w0.w.heap.size∧¬w0.X q∧¬S q)
  (h:∀(S':Nat→Prop) (w0':W0 E.G) (v':Value) (w1:World) (ns:List Value),(∀q,S' q→S q∨base≤q)→(∀q,w0'.X q→w0.X q∨base≤q)→(∀q,w0'.X q→¬S' q)→(∀q,w0.pin=some q→w0'.X q)→w0'.pin=w0.pin→w0'.defs=w0.defs→w0'.w.ownsRow 0 i.elem i.esz v' (n+m) (cs++ns)→RL S' w0'.w news ns→
   BelX base w0.X w0.w w1→base≤w1.heap.size→GrownX (fun q=>po.ownBlock=some q) w1 w0'.w→(v'.ownBlock=po.ownBlock∨v'.ownBlock=some w1.heap.size)→(∀q,v'.ownBlock=some q→q<w0'.w.heap.size∧¬S' q∧¬w0'.X q)→(∀q,S q→q<base→¬w0.X q→S' q)→
   GXL E S' w0'.w.heap.size w0' ops r (s.app2 o.dst (.d (.v v')) none) K):GXL E S base w0 ops (o::r) s K:=by
 refine GXL.hand hg fun ρ a w next Q0 g hn=>?_
 have hca:c.args=#[x,y]:=by cases hq:c.args;simp_all
 have hct:c.argTypes=#[t,t]:=by cases hq:c.argTypes;simp_all
 have hown':w.ownsRow 0 i.elem i.esz po n cs:=ownsRow_up hown fun q hq=>by
  have hq':po.ownBlock=some q:=by
   rcases hown.2 with⟨e1,e2⟩|⟨q',cap,cur,e1,_⟩<;>(rw[e1]at hq ⊢)
   ·cases hq
   ·cases hq;rfl
  exact g.bel.block q (hfr q hq').1 (hfr q hq').2.2.1
 have hvx:a.eval x=po:=by
  have:=g.ev x
  rw[hx]at this
  cases this;rfl
 have hvy:=g.ev y
 rw[hy]at hvy
 obtain⟨v',w',ns,h1,h2,h3,h4,h5⟩:=append_raw (E:=E) (ty:=o.type) hY hs1 he hj hjb hjs hown' hvy hseg hm hb
 have hX:∀q,po.ownBlock=some q→¬Dt S base ρ q∧∀b u,ρ b=some u→¬Rl u q:=fun q hq=>by
  obtain⟨f1,f2,f3,f4⟩:=hfr q hq
  refine⟨fun hd=>?_,fun b u hb hu=>?_⟩
  ·rcases hd.1 with hd|hd
   ·exact f4 hd
   ·omega
  ·rcases(g.low b u q hb hu).1 with h6|h6
   ·omega
   ·exact f3 h6
 have hgx:GrownX (fun q=>po.ownBlock=some q) w w':=⟨h4.os,h4.tape,h4.output,h4.size,fun k hk hn=>h4.block k hk (fun e=>hn e.symm)⟩
 have g2:=g.rebase hs _ hgx hX
 have kk:Keeps (Dt S base ρ) w (fun z=>Dt S base ρ z∧z<w.heap.size) w':=⟨hgx.size,fun q hq hd=>⟨⟨hd,hq⟩,fun o=>World.cell?_of_block (hgx.block q hq fun e=>(hX q e).1 hd)⟩⟩
 have hv:∀q,v'.ownBlock=some q→q<w'.heap.size∧¬(Dt S base ρ q∧q<w.heap.size)∧¬∃b u,ρ b=some u∧Rl u q:=fun q hq=>by
  have hq2:q<w'.heap.size:=by
   rcases h2.2 with⟨e1,e2⟩|⟨q',cap,cur,e1,_,e4,_⟩<;>rw[e1]at hq<;>cases hq
   exact(Array.getElem?_eq_some_iff.1 e4).1
  rcases h5 with h5|h5
  ·exact⟨hq2,fun hd=>(hX q (h5.symm.trans hq)).1 hd.1,fun⟨b,u,h7,h8⟩=>(hX q (h5.symm.trans hq)).2 b u h7 h8⟩
  ·rw[h5]at hq;cases hq
   exact⟨hq2,fun hd=>Nat.lt_irrefl _ hd.2,fun⟨b,u,h7,h8⟩=>Nat.lt_irrefl _ (g.low b u _ h7 h8).2⟩
 have hfin:=hn _ _ _ _ _ _ _ (g2.put' o.dst (t:=.d (.v v')) (.v v') (by simp[T.refs])) (h (fun z=>Dt S base ρ z∧z<w.heap.size) ⟨w',fun q=>∃b u,ρ b=some u∧Rl u q,w0.pin,w0.defs⟩ v' w ns (fun q hq=>hq.1.1) (fun q ⟨b,u,h7,h8⟩=>(g.low b u q h7 h8).1.symm) (fun q ⟨b,u,h7,h8⟩ hd=>hd.1.2 b u h7 h8) (fun q hq=>⟨0,_,g.pin q hq,rfl⟩) rfl rfl h2 (h3.up kk) g.bel g.size hgx h5 hv fun q hq hlt hx=>⟨⟨.inl hq,fun b u h7 h8=>(g.low b u q h7 h8).1.elim (fun h9=>by omega) hx⟩,Nat.lt_of_lt_of_le hlt g.size⟩)
 unfold Oper.wp execOp
 simp only[ho,hc,hca,hct,resolve,invoke,builtin,Sem.run_bind,Sem.run_pure,Result.andThen_ok,List.map_toArray,List.map_cons,List.map_nil,hvx,h1]
 exact hfin
theorem calls_lent{f:FuncId}{fn:Func}{c:Code}{pos n:Nat}{args:List A}{vs:List Value}{x:Bk}{w:World}{q:Nat}{t:List T}{R:Ending→World→Prop}(hf:E.P.funcs[f]?=some fn)(hnt:fn.ntmps=n)(hb:fn.body=some c)(hn:args.length+1≤n)(hp:pos≤args.length)(hx:∀e sz n l,x≠ .sl e sz n l)
  (ht:(args.map T.d).insertIdx pos (.ptr 0 0)++List.replicate (n- (args.length+1)) (.d (.v undef))=t)
  (hq:q<w.heap.size)(hG:GOK E.G (fun z=>S z∧z≠q) w)(hB:HB (fun z=>S z∧z≠q) w q x)(hv:RAs (fun z=>S z∧z≠q) w args vs)
  (h:GX E S w.heap.size (⟨w,fun r=>r=q,some q,[]⟩:W0 E.G) c ⟨t,[some x]⟩ (fun e a' w'=>(e=.normal∨e=.ret)∧a'.defers=[]∧∃v,(results fn a'.tmps).run E.P w'=.ok v w'∧R (.returned v) w')):Calls E.P f (vs.insertIdx pos (.pointer (some ⟨q,0,none⟩))).toArray w R:=by
 subst hnt;subst ht
 refine calls_of_wp hf hb (wp_mono (h.out _ _ _ (begin_lent fn.ntmps hn hp hx hq hG hB hv)) ?_)
 rintro e a' w' ⟨he,h1,v,h2,h3⟩
 rcases he with rfl|rfl<;>exact⟨h1,v,h2,h3⟩
theorem GQ.fin{w w1:World}{r tm:Nat}{S':Nat→Prop}{w0':W0 E.G}{fn:Func}{R:Ending→World→Prop}{x po v':Value}{l' news:List Seg}{e:TypeId}{sz n:Nat}{cs ns:List Value}{ex:Exit}(hfn:fn.results=[ResultVar.tmp tm].toArray)(hx:s.sl tm=.d (.v x))(hb:s.bk 0=some (.var l'))(he:ex=.normal∨ex=.ret)(hr:r<w.heap.size)
  (f1:∀q,S' q→S q∨w.heap.size≤q)(f2:∀q,w0'.X q→q=r∨w.heap.size≤q)(f3:∀q,w0'.X q→¬S' q)(f4:∀q,some r=some q→w0'.X q)(f5:w0'.pin=some r)(f6:w0'.defs=[])(f7:w0'.w.ownsRow 0 e sz v' n cs)(f8:RL S' w0'.w news ns)
  (f9:BelX w.heap.size (fun q=>q=r) w w1)(f10:w.heap.size≤w1.heap.size)(f11:GrownX (fun q=>po.ownBlock=some q) w1 w0'.w)(f12:v'.ownBlock=po.ownBlock∨v'.ownBlock=some w1.heap.size)(f13:∀q,v'.ownBlock=some q→q<w0'.w.heap.size∧¬S' q∧¬w0'.X q)
  (hR:∀w2,HB (fun z=>(S z∨w.heap.size≤z)∧z≠r∧v'.ownBlock≠some z) w2 r (.var l')→w2.ownsRow 0 e sz v' n cs→RL (fun z=>(S z∨w.heap.size≤z)∧z≠r∧v'.ownBlock≠some z) w2 news ns→GrownX (fun z=>z=r∨po.ownBlock=some z) w w2→
   (∀z,v'.ownBlock=some z→z<w2.heap.size∧(po.ownBlock=some z∨w.heap.size≤z))→R (.returned x) w2):
  GQ E S' w0'.w.heap.size w0' s (fun a' w'=>(ex=.normal∨ex=.ret)∧a'.defers=[]∧∃v,(results fn a'.tmps).run E.P w'=.ok v w'∧R (.returned v) w'):=by
 refine⟨fun ρ a w2 g=>⟨he,g.defs.trans f6,x,?_,?_⟩⟩
 ·have h1:=g.ev (.tmp tm)
  rw[show s.ev (.tmp tm)=.d (.v x)from hx]at h1
  have h2:a.tmps.getD tm undef=x:=RA.plain h1
  rw[←h2]
  exact run_results1 hfn rfl
 ·have hpin:=g.pin r f5
  have hrX:w0'.X r:=f4 r rfl
  have dd:∀z,Dt S' w0'.w.heap.size ρ z→(S z∨w.heap.size≤z)∧z≠r∧v'.ownBlock≠some z:=fun z hz=>by
   refine⟨?_,fun e=>hz.2 0 _ hpin (by rw[e];rfl),fun e=>?_⟩
   ·rcases hz.1 with h|h
    ·exact f1 z h
    ·exact .inr (Nat.le_trans f10 (Nat.le_trans f11.size h))
   ·obtain⟨h1,h2,_⟩:=f13 z e
    rcases hz.1 with h|h
    ·exact h2 h
    ·omega
  have hB:=g.b 0
  rw[hb]at hB
  obtain⟨r',cs',t,h1,_,h2,h3⟩:=hB
  rw[hpin]at h1;cases h1
  have same:∀z,z<w0'.w.heap.size→¬w0'.X z→w2.heap[z]?=w0'.w.heap[z]?:=fun z hz hX=>g.bel.block z hz hX
  have hk:Keeps S' w0'.w (fun z=>(S z∨w.heap.size≤z)∧z≠r∧v'.ownBlock≠some z) w2:=by
   refine⟨g.bel.size,fun z hz hS=>⟨⟨f1 z hS,fun e=>?_,fun e=>(f13 z e).2.1 hS⟩,fun o=>World.cell?_of_block (same z hz fun hX=>f3 z hX hS)⟩⟩
   subst e;exact f3 z hrX hS
  have hg:GrownX (fun z=>z=r∨po.ownBlock=some z) w w2:=by
   refine⟨(g.bel.os.trans f11.os).trans f9.os,(g.bel.tape.trans f11.tape).trans f9.tape,(g.bel.output.trans f11.output).trans f9.output,Nat.le_trans f10 (Nat.le_trans f11.size g.bel.size),fun z hz hn=>?_⟩
   have hz0:z<w0'.w.heap.size:=Nat.lt_of_lt_of_le hz (Nat.le_trans f10 f11.size)
   rw[same z hz0 (fun hX=>by rcases f2 z hX with h|h;exact hn (.inl h);omega),f11.block z (Nat.lt_of_lt_of_le hz f10) (fun h=>hn (.inr h)),f9.block z hz (fun h=>hn (.inl h))]
  have ho:w2.ownsRow 0 e sz v' n cs:=by
   refine ownsRow_up f7 fun z hz=>?_
   have hz':v'.ownBlock=some z:=by
    rcases f7.2 with⟨e1,e2⟩|⟨q',cap,cur,e1,_⟩<;>(rw[e1]at hz ⊢)
    ·cases hz
    ·cases hz;rfl
   exact same z (f13 z hz').1 (f13 z hz').2.2
  refine hR w2 ⟨cs',t,h2,h3.up (toKeeps dd)⟩ ho (f8.up hk) hg fun z hz=>⟨Nat.lt_of_lt_of_le (f13 z hz).1 g.bel.size,?_⟩
  rcases f12 with h|h
  ·exact .inl (h.symm.trans hz)
  ·rw[h]at hz;cases hz;exact .inr f10
theorem raw_slots(l:List Value)(i:Nat){D:Nat→Prop}{ρ:Nat→Option Value}{w:World}:i<l.length→RT D ρ w ((l.map fun v=>T.d (.v v)).getD i .dead) (l.getD i undef):=by
 intro hi
 rw[List.getD_eq_getElem?_getD,List.getD_eq_getElem?_getD,List.getElem?_map,List.getElem?_eq_getElem hi]
 exact .v _
theorem mid_var(j:Nat){a:Act}{w:World}{r:Nat}{x:Bk}{ds:List Deferred}{ts:List T}(hsz:base≤w.heap.size)(hx:∃l,x=.var l)(hr:r<w.heap.size)(hG:GOK E.G (Dt S base (fun b=>if b=0 then some (.pointer (some ⟨r,0,none⟩))else none)) w)(hB:HB (Dt S base (fun b=>if b=0 then some (.pointer (some ⟨r,0,none⟩))else none)) w r x)
  (hd:a.defers=ds)(ht:(a.tmps.toList.map fun v=>T.d (.v v)).set j (.ptr 0 0)=ts)(hj:j<a.tmps.size)(hv:a.tmps.getD j undef=.pointer (some ⟨r,0,none⟩)):
  Good S base (⟨w,fun q=>q=r,some r,ds⟩:W0 E.G) ⟨ts,[some x]⟩ (fun b=>if b=0 then some (.pointer (some ⟨r,0,none⟩))else none) a w:=by
 subst hd;subst ht
 have hρ:∀b u,(if b=0 then some (Value.pointer (some ⟨r,0,none⟩))else none)=some u→b=0∧u=.pointer (some ⟨r,0,none⟩):=fun b u h=>by
  split at h
  ·next e=>cases h;exact⟨e,rfl⟩
  ·cases h
 refine⟨by simp,fun i hi=>?_,fun b=>?_,fun i b hb=>?_,fun b b' u u' r h1 h2 _ _=>(hρ b u h1).1.trans (hρ b' u' h2).1.symm,fun b u q h1 h2=>?_,BelX.refl _ _ _,hG,fun q hq=>(by cases hq;rfl),hsz,rfl⟩
 ·have hgen:∀y,RT (Dt S base (fun b=>if b=0 then some (.pointer (some ⟨r,0,none⟩))else none)) (fun b=>if b=0 then some (.pointer (some ⟨r,0,none⟩))else none) w (St.sl (⟨(a.tmps.toList.map fun v=>T.d (.v v)).set j (.ptr 0 0),[some x]⟩:St) i) y↔RT (Dt S base (fun b=>if b=0 then some (.pointer (some ⟨r,0,none⟩))else none)) (fun b=>if b=0 then some (.pointer (some ⟨r,0,none⟩))else none) w (if j=i∧j<(a.tmps.toList.map fun v=>T.d (.v v)).length then .ptr 0 0 else(a.tmps.toList.map fun v=>T.d (.v v)).getD i .dead) y:=fun y=>by
   unfold St.sl
   rw[getD_set_list]
  obtain⟨y,hy⟩:∃y,y=a.tmps.getD i undef:=⟨_,rfl⟩
  show RT _ _ _ _ (a.tmps.getD i undef)
  rw[←hy,hgen]
  split
  ·next h=>
   obtain rfl:y=.pointer (some ⟨r,0,none⟩):=by rw[hy,←h.1,hv]
   intro u hu
   obtain⟨_,rfl⟩:=hρ 0 u hu
   exact⟨r,.inl rfl,rfl⟩
  ·have:=raw_slots (D:=Dt S base (fun b=>if b=0 then some (.pointer (some ⟨r,0,none⟩))else none)) (ρ:=fun b=>if b=0 then some (.pointer (some ⟨r,0,none⟩))else none) (w:=w) a.tmps.toList i (by simpa using hi)
   rw[hy,show a.tmps.getD i undef=a.tmps.toList.getD i undef by simp[List.getD_eq_getElem?_getD,Array.getD_eq_getD_getElem?]]
   exact this
 ·by_cases hb:b=0
  ·subst hb
   obtain⟨l,rfl⟩:=hx
   obtain⟨cs,t,h1,h2⟩:=hB
   exact⟨r,cs,t,rfl,trivial,h1,h2⟩
  ·have:St.bk (⟨(a.tmps.toList.map fun v=>T.d (.v v)).set j (.ptr 0 0),[some x]⟩:St) b=none:=by
    cases b with
    |zero=>exact absurd rfl hb
    |succ b=>rfl
   rw[this]
   exact if_neg hb
 ·unfold St.sl at hb
  rw[getD_set_list]at hb
  split at hb
  ·simp[T.refs]at hb
   subst hb
   simp[St.bk]
  ·exfalso
   rw[List.getD_eq_getElem?_getD,List.getElem?_map]at hb
   cases h:a.tmps.toList[i]? with
   |none=>rw[h]at hb;simp[T.refs]at hb
   |some v=>rw[h]at hb;simp[T.refs]at hb
 ·obtain⟨_,rfl⟩:=hρ b u h1
  obtain rfl:r=q:=h2
  exact⟨.inr rfl,hr⟩
end
end
section
open Pm
def deriveN:List A→(Res→Prop)→Prop
 |[.agg [.bytes 32 h],.v (.string s),x],K=>s.size≤1000000∧rowsOfK x fun L=>∀d,d=deriveW h (sb s) L.flatten→K (.d (.agg [.bytes 32 d]))
 |_,_=>False
theorem deriveN_ok:∀args K,deriveN args K→∃r,FnO 43 args r∧K r:=by
 intro args K hd
 unfold deriveN at hd
 split at hd
 ·next h s x=>
  obtain⟨hs,hd⟩:=hd
  obtain⟨L,hK,hL⟩:=rowsOfK_spec hd
  refine⟨_,fun S w vs _ ha=>?_,hK _ rfl⟩
  obtain⟨v1,v2,v3,rfl,h1,h2,h3⟩:=ra_three ha
  obtain⟨rfl,hh⟩:=hash_of h1
  rw[RA.plain h2]
  obtain⟨a,n,c,rfl,h4,_⟩:=hL h3
  refine(derive_any h hh s (by unfold maxLen;omega) a n c L w h4).mono ?_
  rintro e w' ⟨rfl,hb⟩
  exact⟨_,rfl,ra_hash (sumW_length _),hb⟩
 ·exact hd.elim
attribute [local irreducible] condK LoopA regA powI scal mulI isI fourB deriveW numB numsB bodyB nodeW nextW viewHV doR chkV planL sealB boxD keyZ helD commonI placeI apE doP comE comP nextP joinP upW lefW tagE welSegs welF welN createP enterP mayB commitB commitN
def comBS:List A→(Res→Prop)→Prop
 |[x],K=>cArgK x fun c=>mayB c=true∧∀N B,N=commitN c→B=commitB c→K (.t [.row N [.bytes N B],.v (.int .i64 0)])
 |_,_=>False
theorem comBS_ok:∀args K,comBS args K→∃r,FnO 100 args r∧K r:=by
 intro args K h
 unfold comBS at h
 split at h
 ·next x=>
  obtain⟨c,⟨hm,h⟩,hc⟩:=cArgK_spec h
  refine⟨_,fun S w vs hG ha=>?_,h _ _ rfl rfl⟩
  cases ha with
  |cons k1 kn=>
   cases kn
   obtain⟨k2,k3,k4⟩:=hc k1
   have:=wcommit_ok c k3 k4 S w _ hG (.cons k2 .nil)
   unfold commitR at this
   rw[if_pos hm]at this
   exact this
 ·exact h.elim
noncomputable def envWr0:EnvX:=env0.withY yTab7 yOK7 yEq7
noncomputable def envWr1:EnvX:=envWr0.add 100 comBS comBS_ok ⟨_,Tryz.func100,by kernel_rfl,by kernel_rfl⟩
noncomputable def envWr2:EnvX:={ envWr1 with fz:=true }
set_option maxHeartbeats 4000000 in
theorem letters0_fn(e fr:Int)(n:Nat)(ops:List Int)(m:Nat)(vs:List Int)(sl p0 p1 p2:Int)(k:Nat)(bx:Nat→List UInt8)(tg:List UInt8)(sE sS:Int)(hn:n≤3000)(hm:m≤3000)(hk:k≤3000)(hb:∀j,j<k→(bx j).length≤6000)(hM:mayB ⟨e,fr,n,ops,m,vs,sl,p0,p1,p2,k,bx,tg,sE,sS⟩=true)(W:Nat→List Seg):
  FnO 63 [.agg (cSegs2 ⟨e,fr,n,ops,m,vs,sl,p0,p1,p2,k,bx,tg,sE,sS⟩),.recs 0 108 W] (.t [.row 1 [.gen 1 [.row (commitN ⟨e,fr,n,ops,m,vs,sl,p0,p1,p2,k,bx,tg,sE,sS⟩) [.bytes (commitN ⟨e,fr,n,ops,m,vs,sl,p0,p1,p2,k,bx,tg,sE,sS⟩) (commitB ⟨e,fr,n,ops,m,vs,sl,p0,p1,p2,k,bx,tg,sE,sS⟩)]]],.v (.int .i64 0)]):=by
 refine fnA (E:=envWr2) Tryz.func63 Tryz.ntmps63 ?_
 unfold cSegs2
 refine agow ?_;(try exact⟨⟩)
 intro N B hN hB
 rw[←hN,←hB]
 clear hN hB hM
 refine agow ?_;(try exact⟨⟩)
 refine StopL.mk (loop_unroll 2 ?_)
 refine agow ?_;(try exact⟨⟩)
def numD:List A→(Res→Prop)→Prop
 |[.v (.int .i64 n)],K=>K (.d (.row 8 [.bytes 8 (numB n)]))
 |_,_=>False
theorem numD_ok:∀args K,numD args K→∃r,FnO 50 args r∧K r:=by
 intro args K h
 unfold numD at h
 split at h
 ·exact⟨_,fn_row (num_fn _),h⟩
 ·exact h.elim
theorem votes0_M(l:List Seg)(x:A):FnMO 62 0 (.var l) [x,.v (.slice none 0 0)] (.d (.v (.slice none 0 0))) (.var l):=by
 refine fnMA (E:=envWr1) Tryz.func62 Tryz.ntmps62 ?_
 refine agow ?_;(try exact⟨⟩)
def votes0M:Nat→Bk→List A→(Res→Bk→Prop)→Prop
 |0,.var l,[x,.v (.slice none 0 0)],K=>K (.d (.v (.slice none 0 0))) (.var l)
 |_,_,_,_=>False
theorem votes0M_ok:∀pos x args K,votes0M pos x args K→∃r x',FnMO 62 pos x args r x'∧K r x':=by
 intro pos x args K h
 unfold votes0M at h
 split at h
 ·exact⟨_,_,votes0_M _ _,h⟩
 ·exact h.elim
end
section
open Pm
attribute [local irreducible] condK LoopA regA powI scal mulI isI fourB deriveW numB numsB bodyB nodeW nextW viewHV doR chkV planL sealB boxD keyZ helD commonI placeI apE doP comE comP nextP joinP upW lefW tagE welSegs welF welN createP enterP mayB commitB commitN
def wdV(n mu:Int)(l:List A)(po ap:A):List Seg:=[.ints .i64 1 [n],.ints .i32 1 [mu],.ints .u32 1 [0],.gen 16 l,.gen 2 [po,ap]]
def drawW(i:Int):List UInt8:=deriveW (zB 32) (sb ⟨#[100,114,97,119]⟩) [numB i].flatten
noncomputable def envWr3b:EnvX:=envWr0.add 61 commS commS_ok ⟨_,Tryz.func61,by kernel_rfl,by kernel_rfl⟩
noncomputable def envWr3:EnvX:=envWr3b.add 50 numD numD_ok ⟨_,Tryz.func50,by kernel_rfl,by kernel_rfl⟩
noncomputable def envWr3a:EnvX:=envWr3.add 43 deriveN deriveN_ok ⟨_,Tryz.func43,by kernel_rfl,by kernel_rfl⟩
noncomputable def envWr4:EnvX:=envWr3a.addM 62 votes0M votes0M_ok ⟨_,Tryz.func62,by kernel_rfl,by kernel_rfl⟩
def let0S:List A→(Res→Prop)→Prop
 |[.agg [.ints .i64 2 [e,fr],.gen 2 [.row n [.ints .i64 n5 ops],.row m [.ints .i64 m3 vs]],.ints .i64 4 [sl,p0,p1,p2],.gen 1 [.row k [.gen k' bl]],.bytes 32 tg,.ints .i64 2 [sE,sS]],.recs N 108 W],K=>
  n5=n*5∧m3=m*3∧k'=k∧N=0∧n≤3000∧m≤3000∧k≤3000∧∃bx:Nat→List UInt8,bl=rowsF bx k∧(∀j,j<k→(bx j).length≤6000)∧mayB ⟨e,fr,n,ops,m,vs,sl,p0,p1,p2,k,bx,tg,sE,sS⟩=true∧
   ∀L B,L=commitN ⟨e,fr,n,ops,m,vs,sl,p0,p1,p2,k,bx,tg,sE,sS⟩→B=commitB ⟨e,fr,n,ops,m,vs,sl,p0,p1,p2,k,bx,tg,sE,sS⟩→K (.t [.row 1 [.gen 1 [.row L [.bytes L B]]],.v (.int .i64 0)])
 |_,_=>False
theorem let0S_ok:∀args K,let0S args K→∃r,FnO 63 args r∧K r:=by
 intro args K h
 unfold let0S at h
 split at h
 ·obtain⟨rfl,rfl,rfl,rfl,h1,h2,h3,bx,rfl,h4,h5,h⟩:=h
  exact⟨_,letters0_fn _ _ _ _ _ _ _ _ _ _ _ _ _ _ _ h1 h2 h3 h4 h5 _,h _ _ rfl rfl⟩
 ·exact h.elim
noncomputable def envWr5:EnvX:=envWr4.add 63 let0S let0S_ok ⟨_,Tryz.func63,by kernel_rfl,by kernel_rfl⟩
noncomputable def envWr6:EnvX:={ envWr5 with fz:=true }
set_option maxHeartbeats 8000000 in
theorem wcommit0_walk{S:Nat→Prop}{w:World}{r:Nat}{n:Int}{l:List A}{i k:Nat}{po:Value}{ap y:A}{cs:List Value}{p:PS}{s:Vw}{c:CS}{q:PS}{nn fr dr:Int}{vs:List Value}
  (hr:r<w.heap.size)(hG:GOK gTab (fun z=>S z∧z≠r) w)(hB:HB (fun z=>S z∧z≠r) w r (.var (wdV n 1 l (.v po) ap)))(hi:i<8)(hl:l.getD i (.v undef)=.sref (pSegs p) 0)(hlf:leafB p.lf=true)
  (hown:w.ownsRow 0 35 1 po k cs)(hk:k<60)(hpo:(po=.slice none 0 0∧k=0)∨∃ad cp,po=.slice (some ad) k cp)(hfr:∀z,po.ownBlock=some z→z<w.heap.size∧z≠r∧¬S z)
  (hE:comE p 0 [] 0 []=0)(hs:s=doP p p.lf 0 [])(hc:c=comP p s 0 [] 0 [] (drawW dr))(hq:q=nextP p s 0 [] 0 [] (drawW dr))(hm:mayB c=true)(hw:welN s.ng 8=0)(h1:c.n≤3000)(h2:c.m≤3000)(h3:c.k≤3000)(h4:∀j,j<c.k→(c.bx j).length≤6000)
  {R:Ending→World→Prop}(hR:∀w2 v' ns L B,L=commitN c→B=commitB c→HB (fun z=>(S z∨w.heap.size≤z)∧z≠r∧v'.ownBlock≠some z) w2 r (.var (wdV n 1 (l.set i (.sref (pSegs q) 0)) (.v v') ap))→w2.ownsRow 0 35 1 v' (k+1) (cs++ns)→
   RL (fun z=>(S z∨w.heap.size≤z)∧z≠r∧v'.ownBlock≠some z) w2 [.gen 1 [.row L [.bytes L B]]] ns→GrownX (fun z=>z=r∨po.ownBlock=some z) w w2→(∀z,v'.ownBlock=some z→z<w2.heap.size∧(po.ownBlock=some z∨w.heap.size≤z))→R (.returned (.int .i64 0)) w2)
  (ha:RAs (fun z=>S z∧z≠r) w [.agg [.ints .i64 4 [2,(i:Nat),nn,fr],.gen 1 [.v (.slice none 0 0)],.ints .i64 1 [dr],.gen 1 [y]]] vs):
  Calls Tryz.prog 36 (vs.insertIdx 0 (.pointer (some ⟨r,0,none⟩))).toArray w R:=by
 have HR:=Lib.hid hR
 clear hR
 refine calls_lent (E:=envWr6) (n:=80) Tryz.func36 Tryz.ntmps36 rfl (by exact Nat.le_of_ble_eq_true rfl) (by exact Nat.zero_le _) (by intro _ _ _ _ h;cases h) (by(conv=>lhs;simp only[List.insertIdx_zero,Seg.n,wn1,wn2,wn3,wn4,wn5,wn6,wn7,wn8,wn9,wn10,wn11,wn12,wn13,wn14,wn15,wn16,Int.reduceAdd,Int.zero_add,Seg.cell,Seg.sub,List.set_nil,isAlloc,trimH,List.take_append_drop,St.app,St.app2,St.ev,List.getD_cons_zero,List.getD_cons_succ,List.getD_nil,St.sl,St.bk,tiInt,tiBool,tiSl,tiArr,tiStruct,weaken,keepT,List.set_cons_zero,List.set_cons_succ,List.length_cons,List.length_nil,List.cons_append,List.nil_append,List.append_nil,List.map_cons,List.map_nil,List.replicate_succ,List.replicate_zero,List.take_succ_cons,List.take_zero,List.drop_succ_cons,List.drop_zero,List.take_nil,List.drop_nil,Nat.reduceAdd,Nat.reduceSub,Nat.reduceMul,Nat.reduceEqDiff,Nat.reduceLT,Nat.reduceLeDiff,Nat.zero_add,Nat.add_zero,Nat.sub_self,Nat.sub_zero,Nat.one_mul,Nat.mul_one,Nat.zero_mul,joinS,manyS,List.flatten_cons,List.flatten_nil,eq_self,ite_true,if_true,if_false,↓reduceIte,reduceCtorEq,Int.reduceToNat])) hr hG hB ha ?_
 unfold wdV
 obtain⟨Q,hQ⟩:∃Q:Exit→Act→World→Prop,Q=(fun e a' w'=>(e=.normal∨e=.ret)∧a'.defers=[]∧∃v,(results Tryz.f36 a'.tmps).run envWr6.P w'=.ok v w'∧R (.returned v) w'):=⟨_,rfl⟩
 rw[←hQ]
 have HQ:=Lib.hid hQ
 clear hQ
 (conv=>arg 6;simp only[Seg.n,wn1,wn2,wn3,wn4,wn5,wn6,wn7,wn8,wn9,wn10,wn11,wn12,wn13,wn14,wn15,wn16,Int.reduceAdd,Int.zero_add,Seg.cell,Seg.sub,List.set_nil,isAlloc,trimH,List.take_append_drop,St.app,St.app2,St.ev,List.getD_cons_zero,List.getD_cons_succ,List.getD_nil,St.sl,St.bk,tiInt,tiBool,tiSl,tiArr,tiStruct,weaken,keepT,List.set_cons_zero,List.set_cons_succ,List.length_cons,List.length_nil,List.cons_append,List.nil_append,List.append_nil,List.map_cons,List.map_nil,List.replicate_succ,List.replicate_zero,List.take_succ_cons,List.take_zero,List.drop_succ_cons,List.drop_zero,List.take_nil,List.drop_nil,Nat.reduceAdd,Nat.reduceSub,Nat.reduceMul,Nat.reduceEqDiff,Nat.reduceLT,Nat.reduceLeDiff,Nat.zero_add,Nat.add_zero,Nat.sub_self,Nat.sub_zero,Nat.one_mul,Nat.mul_one,Nat.zero_mul,joinS,manyS,List.flatten_cons,List.flatten_nil,eq_self,ite_true,if_true,if_false,↓reduceIte,reduceCtorEq,Int.reduceToNat])
 (refine GX.seqH fun y1 hy=>?_);(have HY:=Lib.hid hy);clear hy
 refine agow ?_;(try exact⟨⟩)
 (rw[HY.out];clear HY;(conv=>arg 6;simp only[Seg.n,wn1,wn2,wn3,wn4,wn5,wn6,wn7,wn8,wn9,wn10,wn11,wn12,wn13,wn14,wn15,wn16,Int.reduceAdd,Int.zero_add,Seg.cell,Seg.sub,List.set_nil,isAlloc,trimH,List.take_append_drop,St.app,St.app2,St.ev,List.getD_cons_zero,List.getD_cons_succ,List.getD_nil,St.sl,St.bk,tiInt,tiBool,tiSl,tiArr,tiStruct,weaken,keepT,List.set_cons_zero,List.set_cons_succ,List.length_cons,List.length_nil,List.cons_append,List.nil_append,List.append_nil,List.map_cons,List.map_nil,List.replicate_succ,List.replicate_zero,List.take_succ_cons,List.take_zero,List.drop_succ_cons,List.drop_zero,List.take_nil,List.drop_nil,Nat.reduceAdd,Nat.reduceSub,Nat.reduceMul,Nat.reduceEqDiff,Nat.reduceLT,Nat.reduceLeDiff,Nat.zero_add,Nat.add_zero,Nat.sub_self,Nat.sub_zero,Nat.one_mul,Nat.mul_one,Nat.zero_mul,joinS,manyS,List.flatten_cons,List.flatten_nil,eq_self,ite_true,if_true,if_false,↓reduceIte,reduceCtorEq,Int.reduceToNat]))
 (refine GX.seqH fun y1 hy=>?_);(have HY:=Lib.hid hy);clear hy
 refine agow ?_;(try exact⟨⟩)
 (rw[HY.out];clear HY;(conv=>arg 6;simp only[Seg.n,wn1,wn2,wn3,wn4,wn5,wn6,wn7,wn8,wn9,wn10,wn11,wn12,wn13,wn14,wn15,wn16,Int.reduceAdd,Int.zero_add,Seg.cell,Seg.sub,List.set_nil,isAlloc,trimH,List.take_append_drop,St.app,St.app2,St.ev,List.getD_cons_zero,List.getD_cons_succ,List.getD_nil,St.sl,St.bk,tiInt,tiBool,tiSl,tiArr,tiStruct,weaken,keepT,List.set_cons_zero,List.set_cons_succ,List.length_cons,List.length_nil,List.cons_append,List.nil_append,List.append_nil,List.map_cons,List.map_nil,List.replicate_succ,List.replicate_zero,List.take_succ_cons,List.take_zero,List.drop_succ_cons,List.drop_zero,List.take_nil,List.drop_nil,Nat.reduceAdd,Nat.reduceSub,Nat.reduceMul,Nat.reduceEqDiff,Nat.reduceLT,Nat.reduceLeDiff,Nat.zero_add,Nat.add_zero,Nat.sub_self,Nat.sub_zero,Nat.one_mul,Nat.mul_one,Nat.zero_mul,joinS,manyS,List.flatten_cons,List.flatten_nil,eq_self,ite_true,if_true,if_false,↓reduceIte,reduceCtorEq,Int.reduceToNat]))
 rw[hl]
 (refine GX.seqH fun y1 hy=>?_);(have HY:=Lib.hid hy);clear hy
 refine agow ?_;(try exact⟨⟩)
 (rw[HY.out];clear HY;(conv=>arg 6;simp only[Seg.n,wn1,wn2,wn3,wn4,wn5,wn6,wn7,wn8,wn9,wn10,wn11,wn12,wn13,wn14,wn15,wn16,Int.reduceAdd,Int.zero_add,Seg.cell,Seg.sub,List.set_nil,isAlloc,trimH,List.take_append_drop,St.app,St.app2,St.ev,List.getD_cons_zero,List.getD_cons_succ,List.getD_nil,St.sl,St.bk,tiInt,tiBool,tiSl,tiArr,tiStruct,weaken,keepT,List.set_cons_zero,List.set_cons_succ,List.length_cons,List.length_nil,List.cons_append,List.nil_append,List.append_nil,List.map_cons,List.map_nil,List.replicate_succ,List.replicate_zero,List.take_succ_cons,List.take_zero,List.drop_succ_cons,List.drop_zero,List.take_nil,List.drop_nil,Nat.reduceAdd,Nat.reduceSub,Nat.reduceMul,Nat.reduceEqDiff,Nat.reduceLT,Nat.reduceLeDiff,Nat.zero_add,Nat.add_zero,Nat.sub_self,Nat.sub_zero,Nat.one_mul,Nat.mul_one,Nat.zero_mul,joinS,manyS,List.flatten_cons,List.flatten_nil,eq_self,ite_true,if_true,if_false,↓reduceIte,reduceCtorEq,Int.reduceToNat]))
 (refine GX.seqH fun y1 hy=>?_);(have HY:=Lib.hid hy);clear hy
 refine agow ?_;(try exact⟨⟩)
 intro d hd
 refine agow ?_;(try exact⟨⟩)
 (rw[HY.out];clear HY;(conv=>arg 6;simp only[Seg.n,wn1,wn2,wn3,wn4,wn5,wn6,wn7,wn8,wn9,wn10,wn11,wn12,wn13,wn14,wn15,wn16,Int.reduceAdd,Int.zero_add,Seg.cell,Seg.sub,List.set_nil,isAlloc,trimH,List.take_append_drop,St.app,St.app2,St.ev,List.getD_cons_zero,List.getD_cons_succ,List.getD_nil,St.sl,St.bk,tiInt,tiBool,tiSl,tiArr,tiStruct,weaken,keepT,List.set_cons_zero,List.set_cons_succ,List.length_cons,List.length_nil,List.cons_append,List.nil_append,List.append_nil,List.map_cons,List.map_nil,List.replicate_succ,List.replicate_zero,List.take_succ_cons,List.take_zero,List.drop_succ_cons,List.drop_zero,List.take_nil,List.drop_nil,Nat.reduceAdd,Nat.reduceSub,Nat.reduceMul,Nat.reduceEqDiff,Nat.reduceLT,Nat.reduceLeDiff,Nat.zero_add,Nat.add_zero,Nat.sub_self,Nat.sub_zero,Nat.one_mul,Nat.mul_one,Nat.zero_mul,joinS,manyS,List.flatten_cons,List.flatten_nil,eq_self,ite_true,if_true,if_false,↓reduceIte,reduceCtorEq,Int.reduceToNat]))
 (refine GX.seqH fun y1 hy=>?_);(have HY:=Lib.hid hy);clear hy
 refine agow ?_;(try exact⟨⟩)
 intro e he
 obtain rfl:e=0:=he.trans hE
 clear he
 refine agow ?_;(try exact⟨⟩)
 obtain rfl:d=drawW dr:=hd
 intro s' c' q' N W hs' hc' hq' hN hW
 obtain rfl:s'=s:=hs'.trans hs.symm
 obtain rfl:c'=c:=hc'.trans hc.symm
 obtain rfl:q'=q:=hq'.trans hq.symm
 obtain rfl:N=0:=hN.trans hw
 clear hs' hc' hq' hN hW hs hc hq hw hE
 refine agow ?_;(try exact⟨⟩)
 (rw[HY.out];clear HY;(conv=>arg 6;simp only[Seg.n,wn1,wn2,wn3,wn4,wn5,wn6,wn7,wn8,wn9,wn10,wn11,wn12,wn13,wn14,wn15,wn16,Int.reduceAdd,Int.zero_add,Seg.cell,Seg.sub,List.set_nil,isAlloc,trimH,List.take_append_drop,St.app,St.app2,St.ev,List.getD_cons_zero,List.getD_cons_succ,List.getD_nil,St.sl,St.bk,tiInt,tiBool,tiSl,tiArr,tiStruct,weaken,keepT,List.set_cons_zero,List.set_cons_succ,List.length_cons,List.length_nil,List.cons_append,List.nil_append,List.append_nil,List.map_cons,List.map_nil,List.replicate_succ,List.replicate_zero,List.take_succ_cons,List.take_zero,List.drop_succ_cons,List.drop_zero,List.take_nil,List.drop_nil,Nat.reduceAdd,Nat.reduceSub,Nat.reduceMul,Nat.reduceEqDiff,Nat.reduceLT,Nat.reduceLeDiff,Nat.zero_add,Nat.add_zero,Nat.sub_self,Nat.sub_zero,Nat.one_mul,Nat.mul_one,Nat.zero_mul,joinS,manyS,List.flatten_cons,List.flatten_nil,eq_self,ite_true,if_true,if_false,↓reduceIte,reduceCtorEq,Int.reduceToNat]))
 (refine GX.seqH fun y1 hy=>?_);(have HY:=Lib.hid hy);clear hy
 refine agow ?_;(try exact⟨⟩)
 (rw[HY.out];clear HY;(conv=>arg 6;simp only[Seg.n,wn1,wn2,wn3,wn4,wn5,wn6,wn7,wn8,wn9,wn10,wn11,wn12,wn13,wn14,wn15,wn16,Int.reduceAdd,Int.zero_add,Seg.cell,Seg.sub,List.set_nil,isAlloc,trimH,List.take_append_drop,St.app,St.app2,St.ev,List.getD_cons_zero,List.getD_cons_succ,List.getD_nil,St.sl,St.bk,tiInt,tiBool,tiSl,tiArr,tiStruct,weaken,keepT,List.set_cons_zero,List.set_cons_succ,List.length_cons,List.length_nil,List.cons_append,List.nil_append,List.append_nil,List.map_cons,List.map_nil,List.replicate_succ,List.replicate_zero,List.take_succ_cons,List.take_zero,List.drop_succ_cons,List.drop_zero,List.take_nil,List.drop_nil,Nat.reduceAdd,Nat.reduceSub,Nat.reduceMul,Nat.reduceEqDiff,Nat.reduceLT,Nat.reduceLeDiff,Nat.zero_add,Nat.add_zero,Nat.sub_self,Nat.sub_zero,Nat.one_mul,Nat.mul_one,Nat.zero_mul,joinS,manyS,List.flatten_cons,List.flatten_nil,eq_self,ite_true,if_true,if_false,↓reduceIte,reduceCtorEq,Int.reduceToNat]))
 rcases hpo with⟨rfl,rfl⟩|⟨ad,cp,rfl⟩
 ·(refine GX.seqH fun y1 hy=>?_);(have HY:=Lib.hid hy);clear hy
  refine agow ?_;(try exact⟨⟩)
  (rw[HY.out];clear HY;(conv=>arg 6;simp only[Seg.n,wn1,wn2,wn3,wn4,wn5,wn6,wn7,wn8,wn9,wn10,wn11,wn12,wn13,wn14,wn15,wn16,Int.reduceAdd,Int.zero_add,Seg.cell,Seg.sub,List.set_nil,isAlloc,trimH,List.take_append_drop,St.app,St.app2,St.ev,List.getD_cons_zero,List.getD_cons_succ,List.getD_nil,St.sl,St.bk,tiInt,tiBool,tiSl,tiArr,tiStruct,weaken,keepT,List.set_cons_zero,List.set_cons_succ,List.length_cons,List.length_nil,List.cons_append,List.nil_append,List.append_nil,List.map_cons,List.map_nil,List.replicate_succ,List.replicate_zero,List.take_succ_cons,List.take_zero,List.drop_succ_cons,List.drop_zero,List.take_nil,List.drop_nil,Nat.reduceAdd,Nat.reduceSub,Nat.reduceMul,Nat.reduceEqDiff,Nat.reduceLT,Nat.reduceLeDiff,Nat.zero_add,Nat.add_zero,Nat.sub_self,Nat.sub_zero,Nat.one_mul,Nat.mul_one,Nat.zero_mul,joinS,manyS,List.flatten_cons,List.flatten_nil,eq_self,ite_true,if_true,if_false,↓reduceIte,reduceCtorEq,Int.reduceToNat]))
  (refine GX.seqH fun y1 hy=>?_);(have HY:=Lib.hid hy);clear hy
  refine agow ?_;(try exact⟨⟩)
  intro L B hL hB
  refine agow ?_;(try exact⟨⟩)
  (rw[HY.out];clear HY;(conv=>arg 6;simp only[Seg.n,wn1,wn2,wn3,wn4,wn5,wn6,wn7,wn8,wn9,wn10,wn11,wn12,wn13,wn14,wn15,wn16,Int.reduceAdd,Int.zero_add,Seg.cell,Seg.sub,List.set_nil,isAlloc,trimH,List.take_append_drop,St.app,St.app2,St.ev,List.getD_cons_zero,List.getD_cons_succ,List.getD_nil,St.sl,St.bk,tiInt,tiBool,tiSl,tiArr,tiStruct,weaken,keepT,List.set_cons_zero,List.set_cons_succ,List.length_cons,List.length_nil,List.cons_append,List.nil_append,List.append_nil,List.map_cons,List.map_nil,List.replicate_succ,List.replicate_zero,List.take_succ_cons,List.take_zero,List.drop_succ_cons,List.drop_zero,List.take_nil,List.drop_nil,Nat.reduceAdd,Nat.reduceSub,Nat.reduceMul,Nat.reduceEqDiff,Nat.reduceLT,Nat.reduceLeDiff,Nat.zero_add,Nat.add_zero,Nat.sub_self,Nat.sub_zero,Nat.one_mul,Nat.mul_one,Nat.zero_mul,joinS,manyS,List.flatten_cons,List.flatten_nil,eq_self,ite_true,if_true,if_false,↓reduceIte,reduceCtorEq,Int.reduceToNat]))
  (refine GX.seqH fun y1 hy=>?_);(have HY:=Lib.hid hy);clear hy
  refine agow ?_;(try exact⟨⟩)
  (rw[HY.out];clear HY;(conv=>arg 6;simp only[Seg.n,wn1,wn2,wn3,wn4,wn5,wn6,wn7,wn8,wn9,wn10,wn11,wn12,wn13,wn14,wn15,wn16,Int.reduceAdd,Int.zero_add,Seg.cell,Seg.sub,List.set_nil,isAlloc,trimH,List.take_append_drop,St.app,St.app2,St.ev,List.getD_cons_zero,List.getD_cons_succ,List.getD_nil,St.sl,St.bk,tiInt,tiBool,tiSl,tiArr,tiStruct,weaken,keepT,List.set_cons_zero,List.set_cons_succ,List.length_cons,List.length_nil,List.cons_append,List.nil_append,List.append_nil,List.map_cons,List.map_nil,List.replicate_succ,List.replicate_zero,List.take_succ_cons,List.take_zero,List.drop_succ_cons,List.drop_zero,List.take_nil,List.drop_nil,Nat.reduceAdd,Nat.reduceSub,Nat.reduceMul,Nat.reduceEqDiff,Nat.reduceLT,Nat.reduceLeDiff,Nat.zero_add,Nat.add_zero,Nat.sub_self,Nat.sub_zero,Nat.one_mul,Nat.mul_one,Nat.zero_mul,joinS,manyS,List.flatten_cons,List.flatten_nil,eq_self,ite_true,if_true,if_false,↓reduceIte,reduceCtorEq,Int.reduceToNat]))
  refine GX.region (GXL.preN 6 ?_)
  refine agow ?_;(try exact⟨⟩)
  (conv=>arg 7;simp only[Seg.n,wn1,wn2,wn3,wn4,wn5,wn6,wn7,wn8,wn9,wn10,wn11,wn12,wn13,wn14,wn15,wn16,Int.reduceAdd,Int.zero_add,Seg.cell,Seg.sub,List.set_nil,isAlloc,trimH,List.take_append_drop,St.app,St.app2,St.ev,List.getD_cons_zero,List.getD_cons_succ,List.getD_nil,St.sl,St.bk,tiInt,tiBool,tiSl,tiArr,tiStruct,weaken,keepT,List.set_cons_zero,List.set_cons_succ,List.length_cons,List.length_nil,List.cons_append,List.nil_append,List.append_nil,List.map_cons,List.map_nil,List.replicate_succ,List.replicate_zero,List.take_succ_cons,List.take_zero,List.drop_succ_cons,List.drop_zero,List.take_nil,List.drop_nil,Nat.reduceAdd,Nat.reduceSub,Nat.reduceMul,Nat.reduceEqDiff,Nat.reduceLT,Nat.reduceLeDiff,Nat.zero_add,Nat.add_zero,Nat.sub_self,Nat.sub_zero,Nat.one_mul,Nat.mul_one,Nat.zero_mul,joinS,manyS,List.flatten_cons,List.flatten_nil,eq_self,ite_true,if_true,if_false,↓reduceIte,reduceCtorEq,Int.reduceToNat])
  refine GXL.append (t:=38) (x:=.tmp 68) (y:=.tmp 69) (po:=.slice none 0 0) (m:=1) (n:=0) rfl rfl rfl rfl rfl rfl rfl (by decide) rfl (by decide) rfl rfl rfl rfl (by decide) ?_ (vars_of rfl) hown (fun z hz=>⟨(hfr z hz).1,(hfr z hz).1,(hfr z hz).2.1,(hfr z hz).2.2⟩) ?_
  ·show(0+1)*24≤_
   omega
  intro S' w0' v' w1 ns f1 f2 f3 f4 f5 f6 f7 f8 f9 f10 f11 f12 f13 f14
  obtain⟨ad',cp',rfl⟩:=ownsRow_form f7
  have F1:=Lib.hid f1;have F2:=Lib.hid f2;have F3:=Lib.hid f3;have F4:=Lib.hid f4;have F5:=Lib.hid f5;have F6:=Lib.hid f6;have F7:=Lib.hid f7;have F8:=Lib.hid f8;have F9:=Lib.hid f9;have F10:=Lib.hid f10;have F11:=Lib.hid f11;have F12:=Lib.hid f12;have F13:=Lib.hid f13;have F14:=Lib.hid f14
  clear f1 f2 f3 f4 f5 f6 f7 f8 f9 f10 f11 f12 f13 f14
  (conv=>arg 7;simp only[Seg.n,wn1,wn2,wn3,wn4,wn5,wn6,wn7,wn8,wn9,wn10,wn11,wn12,wn13,wn14,wn15,wn16,Int.reduceAdd,Int.zero_add,Seg.cell,Seg.sub,List.set_nil,isAlloc,trimH,List.take_append_drop,St.app,St.app2,St.ev,List.getD_cons_zero,List.getD_cons_succ,List.getD_nil,St.sl,St.bk,tiInt,tiBool,tiSl,tiArr,tiStruct,weaken,keepT,List.set_cons_zero,List.set_cons_succ,List.length_cons,List.length_nil,List.cons_append,List.nil_append,List.append_nil,List.map_cons,List.map_nil,List.replicate_succ,List.replicate_zero,List.take_succ_cons,List.take_zero,List.drop_succ_cons,List.drop_zero,List.take_nil,List.drop_nil,Nat.reduceAdd,Nat.reduceSub,Nat.reduceMul,Nat.reduceEqDiff,Nat.reduceLT,Nat.reduceLeDiff,Nat.zero_add,Nat.add_zero,Nat.sub_self,Nat.sub_zero,Nat.one_mul,Nat.mul_one,Nat.zero_mul,joinS,manyS,List.flatten_cons,List.flatten_nil,eq_self,ite_true,if_true,if_false,↓reduceIte,reduceCtorEq,Int.reduceToNat])
  refine GXL.last ?_
  refine agow ?_;(try exact⟨⟩)
  (conv=>arg 6;simp only[Seg.n,wn1,wn2,wn3,wn4,wn5,wn6,wn7,wn8,wn9,wn10,wn11,wn12,wn13,wn14,wn15,wn16,Int.reduceAdd,Int.zero_add,Seg.cell,Seg.sub,List.set_nil,isAlloc,trimH,List.take_append_drop,St.app,St.app2,St.ev,List.getD_cons_zero,List.getD_cons_succ,List.getD_nil,St.sl,St.bk,tiInt,tiBool,tiSl,tiArr,tiStruct,weaken,keepT,List.set_cons_zero,List.set_cons_succ,List.length_cons,List.length_nil,List.cons_append,List.nil_append,List.append_nil,List.map_cons,List.map_nil,List.replicate_succ,List.replicate_zero,List.take_succ_cons,List.take_zero,List.drop_succ_cons,List.drop_zero,List.take_nil,List.drop_nil,Nat.reduceAdd,Nat.reduceSub,Nat.reduceMul,Nat.reduceEqDiff,Nat.reduceLT,Nat.reduceLeDiff,Nat.zero_add,Nat.add_zero,Nat.sub_self,Nat.sub_zero,Nat.one_mul,Nat.mul_one,Nat.zero_mul,joinS,manyS,List.flatten_cons,List.flatten_nil,eq_self,ite_true,if_true,if_false,↓reduceIte,reduceCtorEq,Int.reduceToNat])
  (refine GX.seqH fun y1 hy=>?_);(have HY:=Lib.hid hy);clear hy
  refine agow ?_;(try exact⟨⟩)
  (rw[HY.out];clear HY;(conv=>arg 6;simp only[Seg.n,wn1,wn2,wn3,wn4,wn5,wn6,wn7,wn8,wn9,wn10,wn11,wn12,wn13,wn14,wn15,wn16,Int.reduceAdd,Int.zero_add,Seg.cell,Seg.sub,List.set_nil,isAlloc,trimH,List.take_append_drop,St.app,St.app2,St.ev,List.getD_cons_zero,List.getD_cons_succ,List.getD_nil,St.sl,St.bk,tiInt,tiBool,tiSl,tiArr,tiStruct,weaken,keepT,List.set_cons_zero,List.set_cons_succ,List.length_cons,List.length_nil,List.cons_append,List.nil_append,List.append_nil,List.map_cons,List.map_nil,List.replicate_succ,List.replicate_zero,List.take_succ_cons,List.take_zero,List.drop_succ_cons,List.drop_zero,List.take_nil,List.drop_nil,Nat.reduceAdd,Nat.reduceSub,Nat.reduceMul,Nat.reduceEqDiff,Nat.reduceLT,Nat.reduceLeDiff,Nat.zero_add,Nat.add_zero,Nat.sub_self,Nat.sub_zero,Nat.one_mul,Nat.mul_one,Nat.zero_mul,joinS,manyS,List.flatten_cons,List.flatten_nil,eq_self,ite_true,if_true,if_false,↓reduceIte,reduceCtorEq,Int.reduceToNat]))
  refine GX.of ?_
  refine agow ?_;(try exact⟨⟩)
  rw[HQ.out]
  refine GQ.fin (tm:=4) (x:=.int .i64 0) (po:=.slice none 0 0) rfl rfl rfl (.inr rfl) hr F1.out F2.out F3.out F4.out F5.out F6.out F7.out F8.out F9.out F10.out F11.out F12.out F13.out ?_
  intro w2 g1 g2 g3 g4 g5
  exact HR.out w2 _ ns L B hL hB g1 g2 g3 g4 g5
 ·(refine GX.seqH fun y1 hy=>?_);(have HY:=Lib.hid hy);clear hy
  refine agow ?_;(try exact⟨⟩)
  (rw[HY.out];clear HY;(conv=>arg 6;simp only[Seg.n,wn1,wn2,wn3,wn4,wn5,wn6,wn7,wn8,wn9,wn10,wn11,wn12,wn13,wn14,wn15,wn16,Int.reduceAdd,Int.zero_add,Seg.cell,Seg.sub,List.set_nil,isAlloc,trimH,List.take_append_drop,St.app,St.app2,St.ev,List.getD_cons_zero,List.getD_cons_succ,List.getD_nil,St.sl,St.bk,tiInt,tiBool,tiSl,tiArr,tiStruct,weaken,keepT,List.set_cons_zero,List.set_cons_succ,List.length_cons,List.length_nil,List.cons_append,List.nil_append,List.append_nil,List.map_cons,List.map_nil,List.replicate_succ,List.replicate_zero,List.take_succ_cons,List.take_zero,List.drop_succ_cons,List.drop_zero,List.take_nil,List.drop_nil,Nat.reduceAdd,Nat.reduceSub,Nat.reduceMul,Nat.reduceEqDiff,Nat.reduceLT,Nat.reduceLeDiff,Nat.zero_add,Nat.add_zero,Nat.sub_self,Nat.sub_zero,Nat.one_mul,Nat.mul_one,Nat.zero_mul,joinS,manyS,List.flatten_cons,List.flatten_nil,eq_self,ite_true,if_true,if_false,↓reduceIte,reduceCtorEq,Int.reduceToNat]))
  (refine GX.seqH fun y1 hy=>?_);(have HY:=Lib.hid hy);clear hy
  refine agow ?_;(try exact⟨⟩)
  intro L B hL hB
  refine agow ?_;(try exact⟨⟩)
  (rw[HY.out];clear HY;(conv=>arg 6;simp only[Seg.n,wn1,wn2,wn3,wn4,wn5,wn6,wn7,wn8,wn9,wn10,wn11,wn12,wn13,wn14,wn15,wn16,Int.reduceAdd,Int.zero_add,Seg.cell,Seg.sub,List.set_nil,isAlloc,trimH,List.take_append_drop,St.app,St.app2,St.ev,List.getD_cons_zero,List.getD_cons_succ,List.getD_nil,St.sl,St.bk,tiInt,tiBool,tiSl,tiArr,tiStruct,weaken,keepT,List.set_cons_zero,List.set_cons_succ,List.length_cons,List.length_nil,List.cons_append,List.nil_append,List.append_nil,List.map_cons,List.map_nil,List.replicate_succ,List.replicate_zero,List.take_succ_cons,List.take_zero,List.drop_succ_cons,List.drop_zero,List.take_nil,List.drop_nil,Nat.reduceAdd,Nat.reduceSub,Nat.reduceMul,Nat.reduceEqDiff,Nat.reduceLT,Nat.reduceLeDiff,Nat.zero_add,Nat.add_zero,Nat.sub_self,Nat.sub_zero,Nat.one_mul,Nat.mul_one,Nat.zero_mul,joinS,manyS,List.flatten_cons,List.flatten_nil,eq_self,ite_true,if_true,if_false,↓reduceIte,reduceCtorEq,Int.reduceToNat]))
  (refine GX.seqH fun y1 hy=>?_);(have HY:=Lib.hid hy);clear hy
  refine agow ?_;(try exact⟨⟩)
  (rw[HY.out];clear HY;(conv=>arg 6;simp only[Seg.n,wn1,wn2,wn3,wn4,wn5,wn6,wn7,wn8,wn9,wn10,wn11,wn12,wn13,wn14,wn15,wn16,Int.reduceAdd,Int.zero_add,Seg.cell,Seg.sub,List.set_nil,isAlloc,trimH,List.take_append_drop,St.app,St.app2,St.ev,List.getD_cons_zero,List.getD_cons_succ,List.getD_nil,St.sl,St.bk,tiInt,tiBool,tiSl,tiArr,tiStruct,weaken,keepT,List.set_cons_zero,List.set_cons_succ,List.length_cons,List.length_nil,List.cons_append,List.nil_append,List.append_nil,List.map_cons,List.map_nil,List.replicate_succ,List.replicate_zero,List.take_succ_cons,List.take_zero,List.drop_succ_cons,List.drop_zero,List.take_nil,List.drop_nil,Nat.reduceAdd,Nat.reduceSub,Nat.reduceMul,Nat.reduceEqDiff,Nat.reduceLT,Nat.reduceLeDiff,Nat.zero_add,Nat.add_zero,Nat.sub_self,Nat.sub_zero,Nat.one_mul,Nat.mul_one,Nat.zero_mul,joinS,manyS,List.flatten_cons,List.flatten_nil,eq_self,ite_true,if_true,if_false,↓reduceIte,reduceCtorEq,Int.reduceToNat]))
  refine GX.region (GXL.preN 6 ?_)
  refine agow ?_;(try exact⟨⟩)
  (conv=>arg 7;simp only[Seg.n,wn1,wn2,wn3,wn4,wn5,wn6,wn7,wn8,wn9,wn10,wn11,wn12,wn13,wn14,wn15,wn16,Int.reduceAdd,Int.zero_add,Seg.cell,Seg.sub,List.set_nil,isAlloc,trimH,List.take_append_drop,St.app,St.app2,St.ev,List.getD_cons_zero,List.getD_cons_succ,List.getD_nil,St.sl,St.bk,tiInt,tiBool,tiSl,tiArr,tiStruct,weaken,keepT,List.set_cons_zero,List.set_cons_succ,List.length_cons,List.length_nil,List.cons_append,List.nil_append,List.append_nil,List.map_cons,List.map_nil,List.replicate_succ,List.replicate_zero,List.take_succ_cons,List.take_zero,List.drop_succ_cons,List.drop_zero,List.take_nil,List.drop_nil,Nat.reduceAdd,Nat.reduceSub,Nat.reduceMul,Nat.reduceEqDiff,Nat.reduceLT,Nat.reduceLeDiff,Nat.zero_add,Nat.add_zero,Nat.sub_self,Nat.sub_zero,Nat.one_mul,Nat.mul_one,Nat.zero_mul,joinS,manyS,List.flatten_cons,List.flatten_nil,eq_self,ite_true,if_true,if_false,↓reduceIte,reduceCtorEq,Int.reduceToNat])
  refine GXL.append (t:=38) (x:=.tmp 68) (y:=.tmp 69) (po:=.slice (some ad) k cp) (m:=1) (n:=k) rfl rfl rfl rfl rfl rfl rfl (by decide) rfl (by decide) rfl rfl rfl rfl (by decide) ?_ (vars_of rfl) hown (fun z hz=>⟨(hfr z hz).1,(hfr z hz).1,(hfr z hz).2.1,(hfr z hz).2.2⟩) ?_
  ·show(k+1)*24≤_
   omega
  intro S' w0' v' w1 ns f1 f2 f3 f4 f5 f6 f7 f8 f9 f10 f11 f12 f13 f14
  obtain⟨ad',cp',rfl⟩:=ownsRow_form f7
  have F1:=Lib.hid f1;have F2:=Lib.hid f2;have F3:=Lib.hid f3;have F4:=Lib.hid f4;have F5:=Lib.hid f5;have F6:=Lib.hid f6;have F7:=Lib.hid f7;have F8:=Lib.hid f8;have F9:=Lib.hid f9;have F10:=Lib.hid f10;have F11:=Lib.hid f11;have F12:=Lib.hid f12;have F13:=Lib.hid f13;have F14:=Lib.hid f14
  clear f1 f2 f3 f4 f5 f6 f7 f8 f9 f10 f11 f12 f13 f14
  (conv=>arg 7;simp only[Seg.n,wn1,wn2,wn3,wn4,wn5,wn6,wn7,wn8,wn9,wn10,wn11,wn12,wn13,wn14,wn15,wn16,Int.reduceAdd,Int.zero_add,Seg.cell,Seg.sub,List.set_nil,isAlloc,trimH,List.take_append_drop,St.app,St.app2,St.ev,List.getD_cons_zero,List.getD_cons_succ,List.getD_nil,St.sl,St.bk,tiInt,tiBool,tiSl,tiArr,tiStruct,weaken,keepT,List.set_cons_zero,List.set_cons_succ,List.length_cons,List.length_nil,List.cons_append,List.nil_append,List.append_nil,List.map_cons,List.map_nil,List.replicate_succ,List.replicate_zero,List.take_succ_cons,List.take_zero,List.drop_succ_cons,List.drop_zero,List.take_nil,List.drop_nil,Nat.reduceAdd,Nat.reduceSub,Nat.reduceMul,Nat.reduceEqDiff,Nat.reduceLT,Nat.reduceLeDiff,Nat.zero_add,Nat.add_zero,Nat.sub_self,Nat.sub_zero,Nat.one_mul,Nat.mul_one,Nat.zero_mul,joinS,manyS,List.flatten_cons,List.flatten_nil,eq_self,ite_true,if_true,if_false,↓reduceIte,reduceCtorEq,Int.reduceToNat])
  refine GXL.last ?_
  refine agow ?_;(try exact⟨⟩)
  (conv=>arg 6;simp only[Seg.n,wn1,wn2,wn3,wn4,wn5,wn6,wn7,wn8,wn9,wn10,wn11,wn12,wn13,wn14,wn15,wn16,Int.reduceAdd,Int.zero_add,Seg.cell,Seg.sub,List.set_nil,isAlloc,trimH,List.take_append_drop,St.app,St.app2,St.ev,List.getD_cons_zero,List.getD_cons_succ,List.getD_nil,St.sl,St.bk,tiInt,tiBool,tiSl,tiArr,tiStruct,weaken,keepT,List.set_cons_zero,List.set_cons_succ,List.length_cons,List.length_nil,List.cons_append,List.nil_append,List.append_nil,List.map_cons,List.map_nil,List.replicate_succ,List.replicate_zero,List.take_succ_cons,List.take_zero,List.drop_succ_cons,List.drop_zero,List.take_nil,List.drop_nil,Nat.reduceAdd,Nat.reduceSub,Nat.reduceMul,Nat.reduceEqDiff,Nat.reduceLT,Nat.reduceLeDiff,Nat.zero_add,Nat.add_zero,Nat.sub_self,Nat.sub_zero,Nat.one_mul,Nat.mul_one,Nat.zero_mul,joinS,manyS,List.flatten_cons,List.flatten_nil,eq_self,ite_true,if_true,if_false,↓reduceIte,reduceCtorEq,Int.reduceToNat])
  (refine GX.seqH fun y1 hy=>?_);(have HY:=Lib.hid hy);clear hy
  refine agow ?_;(try exact⟨⟩)
  (rw[HY.out];clear HY;(conv=>arg 6;simp only[Seg.n,wn1,wn2,wn3,wn4,wn5,wn6,wn7,wn8,wn9,wn10,wn11,wn12,wn13,wn14,wn15,wn16,Int.reduceAdd,Int.zero_add,Seg.cell,Seg.sub,List.set_nil,isAlloc,trimH,List.take_append_drop,St.app,St.app2,St.ev,List.getD_cons_zero,List.getD_cons_succ,List.getD_nil,St.sl,St.bk,tiInt,tiBool,tiSl,tiArr,tiStruct,weaken,keepT,List.set_cons_zero,List.set_cons_succ,List.length_cons,List.length_nil,List.cons_append,List.nil_append,List.append_nil,List.map_cons,List.map_nil,List.replicate_succ,List.replicate_zero,List.take_succ_cons,List.take_zero,List.drop_succ_cons,List.drop_zero,List.take_nil,List.drop_nil,Nat.reduceAdd,Nat.reduceSub,Nat.reduceMul,Nat.reduceEqDiff,Nat.reduceLT,Nat.reduceLeDiff,Nat.zero_add,Nat.add_zero,Nat.sub_self,Nat.sub_zero,Nat.one_mul,Nat.mul_one,Nat.zero_mul,joinS,manyS,List.flatten_cons,List.flatten_nil,eq_self,ite_true,if_true,if_false,↓reduceIte,reduceCtorEq,Int.reduceToNat]))
  refine GX.of ?_
  refine agow ?_;(try exact⟨⟩)
  rw[HQ.out]
  refine GQ.fin (tm:=4) (x:=.int .i64 0) (po:=.slice (some ad) k cp) rfl rfl rfl (.inr rfl) hr F1.out F2.out F3.out F4.out F5.out F6.out F7.out F8.out F9.out F10.out F11.out F12.out F13.out ?_
  intro w2 g1 g2 g3 g4 g5
  exact HR.out w2 _ ns L B hL hB g1 g2 g3 g4 g5
end
section
open Pm
theorem wparty_M(n:Int)(l po:List A)(i:Nat)(hi:i<8)(a b:A)(ha:l[i]?=some a)(hc:FnO 42 [a] (.d b)):
  FnMO 14 0 (.var (wdS n l po)) [.v (.int .i64 (i:Nat))] (.d b) (.var (wdS n l po)):=by
 intro S w r vs hr hG hH hv
 cases hv with
 |cons h1 hnil=>
  cases hnil
  obtain rfl:=h1.plain
  obtain⟨ps,bs,v1,v2,t,hl,hb,hp,back⟩:=wd_open hH
  obtain⟨v,hv1,hv2⟩:=hp i _ hi ha
  refine(party_walk w r t n ps bs v1 v2 i hi v hv1 hb (fun v w2=>RA (fun q=>(S q∧q≠r)∨w.heap.size≤q) w2 b v) fun w1 hb1 hg1=>?_).mono ?_
  ·have kp:Keeps (fun q=>S q∧q≠r) w (fun q=>S q∧q≠r) w1:=⟨hg1.size,fun q hq hS=>⟨hS,((keeps_grown hg1).2 q hq hS).2⟩⟩
   refine(hc _ w1 [v] (hG.up kp) (.cons (hv2.up kp) .nil)).mono ?_
   rintro e w2 ⟨v',rfl,h2,h3⟩
   refine⟨v',rfl,RA.up (w:=w2) ⟨Nat.le_refl _,fun q hq h=>⟨?_,fun o=>rfl⟩⟩ h2,h3⟩
   rcases h with h|h
   ·exact .inl h
   ·exact .inr (Nat.le_trans hg1.size h)
  ·rintro e w' ⟨v',w2,rfl,h2,rfl,hb2,hg2⟩
   have hb3:Blk (w2.setCell ⟨r,1,none⟩ (.int .i32 0)) r (WL n 0 ps bs v1 v2).toArray t:=(hb2.set 1 _).copy (WL_mu _)
   have hg3:w.grownBy (w2.setCell ⟨r,1,none⟩ (.int .i32 0)) (some r):=grown_setCell hg2 1 _
   have hg4:w2.grownBy (w2.setCell ⟨r,1,none⟩ (.int .i32 0)) (some r):=grown_setCell (grown_refl w2 _) 1 _
   refine⟨_,rfl,?_,back _ _ _ (keeps_grown hg3) hb3,hg3⟩
   refine RA.up (S:=fun q=>(S q∧q≠r)∨w.heap.size≤q) ⟨hg4.size,fun q hq hS=>⟨hS,fun o=>?_⟩⟩ h2
   have hne:q≠r:=by
    rcases hS with h|h
    ·exact h.2
    ·exact fun e=>by omega
   exact((keeps_grown (S:=fun q=>True) hg4).2 q hq ⟨trivial,hne⟩).2 o
end
section
open Pm
attribute [local irreducible] condK LoopA regA deriveW numB numsB wsd createP
theorem createT_ok:∀args K,createE args K→∃r,FnO 24 args r∧K r:=by
 intro args K h
 unfold createE at h
 split at h
 ·exact⟨_,fn_sref (create_fn _),h _ rfl⟩
 ·exact h.elim
noncomputable def envWo0:EnvX:=envK3.withY yTab7 yOK7 yEq7
noncomputable def envWo1:EnvX:=envWo0.add 23 newBkS newBkS_ok ⟨_,Tryz.func23,by kernel_rfl,by kernel_rfl⟩
noncomputable def envWo2:EnvX:=envWo1.add 25 wseedS (wseedS_of wseed_fn) ⟨_,Tryz.func25,by kernel_rfl,by kernel_rfl⟩
noncomputable def envWo3:EnvX:=envWo2.add 24 createE createT_ok ⟨_,Tryz.func24,by kernel_rfl,by kernel_rfl⟩
set_option maxHeartbeats 4000000 in
theorem new_fn:FnO 9 [] (.p (.var (wdS 0 (.sref (pSegs (createP (wsd 0))) 0::(nilP 7++List.replicate 8 (.sref bk0 0))) [.v (.slice none 0 0),.v (.slice none 0 0)]))):=by
 refine fnA (E:=envWo3) Tryz.func9 Tryz.ntmps9 ?_
 refine agow ?_;(try exact⟨⟩)
 refine StopL.mk (loop_unroll 9 ?_)
 refine agow ?_;(try exact⟨⟩)
 intro h hh
 obtain rfl:h=wsd 0:=hh
 refine agow ?_;(try exact⟨⟩)
 intro p hp
 rw[←hp]
 refine agow ?_;(try exact⟨⟩)
 rfl
end
section
open Pm
attribute [local irreducible] condK LoopA regA deriveW numB numsB wsd createP
def newWS:List A→(Res→Prop)→Prop
 |[],K=>∀p,p=createP (wsd 0)→K (.p (.var [.ints .i64 1 [0],.ints .i32 1 [0],.ints .u32 1 [0],.gen 16 (.sref (pSegs p) 0::(nilP 7++List.replicate 8 (.sref bk0 0))),.gen 2 [.v (.slice none 0 0),.v (.slice none 0 0)]]))
 |_,_=>False
theorem newWS_ok:∀args K,newWS args K→∃r,FnO 9 args r∧K r:=by
 intro args K h
 unfold newWS at h
 split at h
 ·exact⟨_,new_fn,h _ rfl⟩
 ·exact h.elim
def wdK:Bk→(Int→List A→List A→Prop)→Prop
 | .var [.ints .i64 1 [n],.ints .i32 1 [a],.ints .u32 1 [b],.gen 16 l,.gen 2 po],K=>a=0∧b=0∧0≤n∧n≤1000000∧K n l po
 |_,_=>False
theorem wdK_eq{x:Bk}{K:Int→List A→List A→Prop}(h:wdK x K):∃n l po,x=.var (wdS n l po)∧(0≤n∧n≤1000000)∧K n l po:=by
 unfold wdK at h
 split at h
 ·obtain⟨rfl,rfl,h0,h1,h⟩:=h
  exact⟨_,_,_,rfl,⟨h0,h1⟩,h⟩
 ·exact h.elim
def wstepsM:Nat→Bk→List A→(Res→Bk→Prop)→Prop
 |0,x,[],K=>wdK x fun n l po=>K (.d (.v (.int .i64 n))) (.var (wdS n l po))
 |_,_,_,_=>False
theorem wstepsM_ok:∀pos x args K,wstepsM pos x args K→∃r x',FnMO 19 pos x args r x'∧K r x':=by
 intro pos x args K h
 unfold wstepsM at h
 split at h
 ·obtain⟨n,l,po,rfl,hn,h⟩:=wdK_eq h
  exact⟨_,_,wsteps_M n hn l po,h⟩
 ·exact h.elim
theorem wstep_absI(n:Int)(hn:0≤n∧n≤1000000)(l po:List A)(i:Int)(h0:0≤i)(h1:i<8)(ha:l[i.toNat]?=some (.v (.pointer none)))(nn fr dr:Int)(x y:A):
  FnMO 12 0 (.var (wdS n l po)) [.agg [.ints .i64 4 [2,i,nn,fr],.gen 1 [x],.ints .i64 1 [dr],.gen 1 [y]]] (.d (.v (.int .i64 13))) (.var (wdS (n+1) l po)):=by
 obtain⟨j,rfl⟩:∃j:Nat,i=j:=⟨i.toNat,by omega⟩
 exact wstep_absent n hn l po j (by omega) ha nn fr dr x y
theorem wparty_I(n:Int)(l po:List A)(i:Int)(h0:0≤i)(h1:i<8)(a b:A)(ha:l[i.toNat]?=some a)(hc:FnO 42 [a] (.d b)):
  FnMO 14 0 (.var (wdS n l po)) [.v (.int .i64 i)] (.d b) (.var (wdS n l po)):=by
 obtain⟨j,rfl⟩:∃j:Nat,i=j:=⟨i.toNat,by omega⟩
 exact wparty_M n l po j (by omega) a b ha hc
def wabsM:Nat→Bk→List A→(Res→Bk→Prop)→Prop
 |0,x,[.agg [.ints .i64 4 [2,i,nn,fr],.gen 1 [y],.ints .i64 1 [dr],.gen 1 [z]]],K=>wdK x fun n l po=>0≤i∧i<8∧l[i.toNat]?=some (.v (.pointer none))∧K (.d (.v (.int .i64 13))) (.var (wdS (n+1) l po))
 |_,_,_,_=>False
theorem wabsM_ok:∀pos x args K,wabsM pos x args K→∃r x',FnMO 12 pos x args r x'∧K r x':=by
 intro pos x args K h
 unfold wabsM at h
 split at h
 ·obtain⟨n,l,po,rfl,hn,h0,h1,h2,h⟩:=wdK_eq h
  exact⟨_,_,wstep_absI n hn l po _ h0 h1 h2 _ _ _ _ _,h⟩
 ·exact h.elim
def wpartyM:Nat→Bk→List A→(Res→Bk→Prop)→Prop
 |0,x,[.v (.int .i64 i)],K=>wdK x fun n l po=>0≤i∧i<8∧match l[i.toNat]? with
  |some (.v (.pointer none))=>K (.d (.v (.pointer none))) (.var (wdS n l po))
  |some a=>prK a fun p=>K (.d (.sref (pSegs p) 0)) (.var (wdS n l po))
  |none=>False
 |_,_,_,_=>False
theorem wpartyM_ok:∀pos x args K,wpartyM pos x args K→∃r x',FnMO 14 pos x args r x'∧K r x':=by
 intro pos x args K h
 unfold wpartyM at h
 split at h
 ·obtain⟨n,l,po,rfl,hn,h0,h1,h⟩:=wdK_eq h
  split at h
  ·next e=>exact⟨_,_,wparty_I n l po _ h0 h1 _ _ e copy0_fn,h⟩
  ·next a _ e=>
   obtain⟨p,rfl,h⟩:=prK_eq h
   exact⟨_,_,wparty_I n l po _ h0 h1 _ _ e (fn_sref (copy_fn p)),h⟩
  ·exact h.elim
 ·exact h.elim
noncomputable def envWp0:EnvX:=envWo0.add 9 newWS newWS_ok ⟨_,Tryz.func9,by kernel_rfl,by kernel_rfl⟩
noncomputable def envWp1:EnvX:=envWp0.addM 12 wabsM wabsM_ok ⟨_,Tryz.func12,by kernel_rfl,by kernel_rfl⟩
noncomputable def envWp2:EnvX:=envWp1.addM 19 wstepsM wstepsM_ok ⟨_,Tryz.func19,by kernel_rfl,by kernel_rfl⟩
noncomputable def envWp3:EnvX:=envWp2.addM 14 wpartyM wpartyM_ok ⟨_,Tryz.func14,by kernel_rfl,by kernel_rfl⟩
noncomputable def envWp4:EnvX:=envWp3.add 25 wseedS (wseedS_of wseed_fn) ⟨_,Tryz.func25,by kernel_rfl,by kernel_rfl⟩
noncomputable def envWp5:EnvX:=envWp4.add 11 wseedS (wseedS_of rwseed_fn) ⟨_,Tryz.func11,by kernel_rfl,by kernel_rfl⟩
end
section
open Pm
theorem wd_openV{D:Nat→Prop}{w:World}{r:Nat}{n mu:Int}{l:List A}{po ap:A}(h:HB D w r (.var (wdV n mu l po ap))):∃ps bs v1 v2 t,(ps.length=8∧bs.length=8)∧Blk w r (WL n mu ps bs v1 v2).toArray t∧(∀i a,i<8→l[i]?=some a→∃v,ps[i]?=some v∧RA D w a v)∧RA D w po v1∧
  ∀(D':Nat→Prop) (w':World) (n' mu':Int) (t':TypeId),Keeps D w D' w'→Blk w' r (WL n' mu' ps bs v1 v2).toArray t'→HB D' w' r (.var (wdV n' mu' l po ap)):=by
 obtain⟨cs,t,h1,h2⟩:=h
 unfold wdV at h2
 obtain⟨c1,d1,e1,k1,r1,_⟩:=h2.head
 obtain⟨c2,d2,e2,k2,r2,_⟩:=r1.head
 obtain⟨c3,d3,e3,k3,r3,_⟩:=r2.head
 obtain⟨c4,d4,e4,k4,r4,l4⟩:=r3.head
 obtain⟨_,rfl⟩:=k1.toInts
 obtain⟨_,rfl⟩:=k2.toInts
 obtain⟨_,rfl⟩:=k3.toInts
 obtain⟨g4,q4⟩:=k4.toGen
 obtain⟨g5,q5⟩:=r4.toGen
 have len4:c4.length=16:=q4.two.symm.trans g4
 have len5:d4.length=2:=q5.two.symm.trans g5
 obtain⟨v1,v2,rfl⟩:∃a b,d4=[a,b]:=by
  rcases d4 with _|⟨a,_|⟨b,_|⟨c,x⟩⟩⟩<;>first|(simp at len5;done)|exact⟨a,b,rfl⟩
 have ec:cs=WL n mu (c4.take 8) (c4.drop 8) v1 v2:=by
  rw[e1,e2,e3,e4]
  unfold WL
  rw[←List.append_assoc (c4.take 8),List.take_append_drop]
  rfl
 refine⟨c4.take 8,c4.drop 8,v1,v2,t,by simp[len4],by rw[ec]at h1;exact h1,fun i a hi ha=>?_,?_,fun D' w' n' mu' t' kp hb=>⟨_,t',hb,?_⟩⟩
 ·obtain⟨v,x1,x2⟩:=q4.at' i a ha
  exact⟨v,by rw[List.getElem?_take,if_pos hi];exact x1,x2⟩
 ·cases q5 with|cons a _ _=>exact a
 ·have u4:=RL.up kp k4
  have u5:=RL.up kp r4
  have e:WL n' mu' (c4.take 8) (c4.drop 8) v1 v2=[.int .i64 n']++([.int .i32 mu']++([.int .u32 0]++(c4++[v1,v2]))):=by
   unfold WL
   rw[←List.append_assoc (c4.take 8),List.take_append_drop]
   rfl
  rw[e]
  unfold wdV
  obtain⟨_,p4⟩:=u4.toGen
  obtain⟨_,p5⟩:=u5.toGen
  have q:=RL.ints (k:=.i64) (n:=1) (zs:=[n']) rfl (RL.ints (k:=.i32) (n:=1) (zs:=[mu']) rfl (RL.ints (k:=.u32) (n:=1) (zs:=[0]) rfl (RL.gen p4 g4 (RL.gen p5 g5 .nil))))
  rw[List.append_nil]at q
  exact q
def wvP (mu n : Int) (l rows : List A) (ap : A) : OP :=
  ⟨fun D w F r => ∃ po cs, r ∈ F ∧ HB D w r (.var (wdV n mu l (.v po) ap)) ∧ w.ownsRow 0 35 1 po rows.length cs ∧ RG D w rows cs ∧ (∀ z, po.ownBlock = some z → z ∈ F ∧ z ≠ r) ∧ (rows = [] → po = .slice none 0 0),
   fun {D D' w w' F r} k e ⟨po, cs, h0, h1, h2, h3, h4, h5⟩ => ⟨po, cs, h0, h1.up k (e r h0), ownsRow_up h2 (fun q hq => by
      have hq' : po.ownBlock = some q := by
        rcases h2.2 with ⟨e1, e2⟩ | ⟨q', cap, cur, e1, _⟩ <;> (rw [e1] at hq ⊢)
        · cases hq
        · cases hq; rfl
      exact e q (h4 q hq').1), h3.up k, h4, h5⟩⟩
def ownL(v:Value):List Nat:=match v.ownBlock with|some z=>[z]|none=>[]
theorem ownL_mem{v:Value}{z:Nat}:z∈ownL v↔v.ownBlock=some z:=by
 unfold ownL
 cases v.ownBlock with
 |none=>simp
 |some q=>simp[eq_comm]
theorem own_lt{w:World}{e:TypeId}{sz n:Nat}{v:Value}{cs:List Value}(h:w.ownsRow 0 e sz v n cs){z:Nat}(hz:v.ownBlock=some z):z<w.heap.size:=by
 rcases h.2 with⟨e1,e2⟩|⟨q',cap,cur,e1,_,e4,_⟩<;>rw[e1]at hz<;>cases hz
 exact(Array.getElem?_eq_some_iff.1 e4).1
theorem own_keep{w w':World}{e:TypeId}{sz n:Nat}{v:Value}{cs:List Value}(h:w.ownsRow 0 e sz v n cs)(k:∀z,v.ownBlock=some z→w'.heap[z]?=w.heap[z]?):w'.ownsRow 0 e sz v n cs:=ownsRow_up h fun q hq=>by
 refine k q ?_
 rcases h.2 with⟨e1,e2⟩|⟨q',cap,cur,e1,_⟩<;>(rw[e1]at hq ⊢)
 ·cases hq
 ·cases hq;rfl
theorem wv_close{S D':Nat→Prop}{w w1 w2:World}{r:Nat}{F:List Nat}{n:Int}{l rows news:List A}{ap:A}{po v':Value}{cs ns:List Value}(hS:∀z,S z→z∉r::F)(hlt:∀z∈r::F,z<w.heap.size)(hF:∀z,po.ownBlock=some z→z∈r::F∧z≠r)(hg1:w.grownBy w1 (some r))(hrows:RG S w rows cs)
  (hD:∀z,D' z→(S z∨w.heap.size≤z)∧z≠r∧v'.ownBlock≠some z)
  (g1:HB D' w2 r (.var (wdV n 1 l (.v v') ap)))(g2:w2.ownsRow 0 35 1 v' (rows.length+news.length) (cs++ns))(g3:RG D' w2 news ns)(g4:GrownX (fun z=>z=r∨po.ownBlock=some z) w1 w2)(g5:∀z,v'.ownBlock=some z→z<w2.heap.size∧(po.ownBlock=some z∨w1.heap.size≤z))(g6:rows++news=[]→v'=.slice none 0 0):
  ∃cs2 t',Blk w2 r cs2 t'∧cs2[1]?=some (.int .i32 1)∧∃F',F'=ownL v'∧(∀q∈F',q∈r::F∨w.heap.size≤q)∧(∀q∈r::F',q<(w2.setCell ⟨r,1,none⟩ (.int .i32 0)).heap.size)∧
   (wvP 0 n l (rows++news) ap).p (fun q=>((S q∨w.heap.size≤q)∧q∉r::F')∧q∉([]:List Nat)) (w2.setCell ⟨r,1,none⟩ (.int .i32 0)) (r::F') r∧GrownX (fun q=>q∈r::F) w (w2.setCell ⟨r,1,none⟩ (.int .i32 0)):=by
 obtain⟨ps,bs,v1,v2,t,hl,hb,_,hpo,back⟩:=wd_openV g1
 have hr:r<w2.heap.size:=hb.lt
 have hs2:(w2.setCell ⟨r,1,none⟩ (.int .i32 0)).heap.size=w2.heap.size:=by simp[World.setCell]
 have hw:∀z,z≠r→(w2.setCell ⟨r,1,none⟩ (.int .i32 0)).heap[z]?=w2.heap[z]?:=fun z hz=>heap_setCell_other w2 ⟨r,1,none⟩ z _ hz
 have hb3:Blk (w2.setCell ⟨r,1,none⟩ (.int .i32 0)) r (WL n 0 ps bs v1 v2).toArray t:=(hb.set 1 _).copy (WL_mu _)
 have hne:∀z,v'.ownBlock=some z→z≠r:=fun z hz e=>by
  rcases(g5 z hz).2 with h|h
  ·exact(hF z h).2 e
  ·have:=hlt r (by simp);have:=hg1.size;omega
 have kp:Keeps D' w2 (fun q=>((S q∨w.heap.size≤q)∧q∉r::ownL v')∧q∉([]:List Nat)) (w2.setCell ⟨r,1,none⟩ (.int .i32 0)):=
  ⟨by rw[hs2];exact Nat.le_refl _,fun z hz hd=>⟨⟨⟨(hD z hd).1,fun hm=>by
   rcases List.mem_cons.1 hm with h|h
   ·exact(hD z hd).2.1 h
   ·exact(hD z hd).2.2 (ownL_mem.1 h)⟩,by simp⟩,fun o=>World.cell?_of_block (hw z (hD z hd).2.1)⟩⟩
 have hsz:w.heap.size≤w2.heap.size:=Nat.le_trans hg1.size g4.size
 have ks:Keeps S w (fun q=>((S q∨w.heap.size≤q)∧q∉r::ownL v')∧q∉([]:List Nat)) (w2.setCell ⟨r,1,none⟩ (.int .i32 0)):=
  ⟨by rw[hs2];exact hsz,fun z hz hd=>⟨⟨⟨.inl hd,fun hm=>by
   rcases List.mem_cons.1 hm with h|h
   ·exact hS z hd (by simp[h])
   ·rcases(g5 z (ownL_mem.1 h)).2 with h2|h2
    ·exact hS z hd (hF z h2).1
    ·have:=hg1.size;omega⟩,by simp⟩,fun o=>World.cell?_of_block (by
   have n1:z≠r:=fun e=>hS z hd (by simp[e])
   rw[hw z n1,g4.block z (Nat.lt_of_lt_of_le hz hg1.size) (fun e=>by rcases e with e|e;exact n1 e;exact hS z hd (hF z e).1),hg1.block z hz (fun e=>n1 (by cases e;rfl))])⟩⟩
 refine⟨_,t,hb,by rw[List.getElem?_toArray];rfl,ownL v',rfl,fun q hq=>?_,fun q hq=>?_,⟨v',cs++ns,by simp,back _ _ _ _ _ kp hb3,?_,(hrows.up ks).append (g3.up kp),fun z hz=>⟨by simp[ownL_mem.2 hz],hne z hz⟩,g6⟩,?_⟩
 ·rcases(g5 q (ownL_mem.1 hq)).2 with h|h
  ·exact .inl (hF q h).1
  ·exact .inr (Nat.le_trans hg1.size h)
 ·rw[hs2]
  rcases List.mem_cons.1 hq with rfl|hq
  ·exact hr
  ·exact(g5 q (ownL_mem.1 hq)).1
 ·rw[List.length_append]
  exact own_keep g2 fun z hz=>hw z (hne z hz)
 ·refine⟨g4.os.trans hg1.os,g4.tape.trans hg1.tape,g4.output.trans hg1.output,by rw[hs2];exact hsz,fun z hz hn=>?_⟩
  have n1:z≠r:=fun e=>hn (by simp[e])
  rw[hw z n1,g4.block z (Nat.lt_of_lt_of_le hz hg1.size) (fun e=>by rcases e with e|e;exact n1 e;exact hn (hF z e).1),hg1.block z hz (fun e=>n1 (by cases e;rfl))]
end
section
open Pm
attribute [local irreducible] condK LoopA regA powI scal mulI isI fourB deriveW numB numsB bodyB nodeW nextW viewHV doR chkV planL sealB boxD keyZ helD commonI placeI apE doP comE comP nextP joinP upW lefW tagE welSegs welF welN createP enterP mayB commitB commitN
end
section
open Pm
theorem own_form{w:World}{e:TypeId}{sz n:Nat}{v:Value}{cs:List Value}(h:w.ownsRow 0 e sz v n cs):(v=.slice none 0 0∧n=0)∨∃ad cp,v=.slice (some ad) n cp:=by
 rcases h.2 with⟨e1,e2⟩|⟨q',cap,cur,e1,_⟩
 ·exact .inl ⟨e1,e2⟩
 ·exact .inr ⟨_,_,e1⟩
theorem keeps_by{S:Nat→Prop}{w w1:World}{r:Nat}(hg:w.grownBy w1 (some r)):Keeps (fun z=>S z∧z≠r) w (fun z=>S z∧z≠r) w1:=
 ⟨hg.size,fun z hz hd=>⟨hd,fun o=>World.cell?_of_block (hg.block z hz fun e=>hd.2 (by cases e;rfl))⟩⟩
theorem ra_plainV{S:Nat→Prop}{w:World}{x v:Value}(h:RA S w (.v x) v):v=x:=by cases h;rfl
theorem wstep0_B{n:Int}{l rows:List A}{ap y:A}{i:Nat}{nn fr dr:Int}{p:PS}{s:Vw}{c:CS}{q:PS}(hn:0≤n∧n≤1000000)(hi:i<8)(hl:l.getD i (.v undef)=.sref (pSegs p) 0)(hlf:leafB p.lf=true)(hk:rows.length<60)
  (hE:comE p 0 [] 0 []=0)(hs:s=doP p p.lf 0 [])(hc:c=comP p s 0 [] 0 [] (drawW dr))(hq:q=nextP p s 0 [] 0 [] (drawW dr))(hm:mayB c=true)(hw:welN s.ng 8=0)(h1:c.n≤3000)(h2:c.m≤3000)(h3:c.k≤3000)(h4:∀j,j<c.k→(c.bx j).length≤6000):
  FnB Tryz.prog gTab 12 0 (wvP 0 n l rows ap) [.agg [.ints .i64 4 [2,(i:Nat),nn,fr],.gen 1 [.v (.slice none 0 0)],.ints .i64 1 [dr],.gen 1 [y]]] (.d (.v (.int .i64 0))) (wvP 0 (n+1) (l.set i (.sref (pSegs q) 0)) (rows++[.row (commitN c) [.bytes (commitN c) (commitB c)]]) ap):=by
 intro S w r F vs hG hlt hp hA hS
 obtain⟨po,cs,_,hH,hown,hrg,hF,hnil0⟩:=hp
 have hA0:=hA
 cases hA with
 |cons a1 hnil=>
  cases hnil
  obtain⟨vx,vy,rfl,hx,hy⟩:=act_open a1
  have kS:Keeps S w (fun z=>S z∧z≠r) w:=toKeeps fun z hz=>⟨hz,fun e=>hS z hz (by simp[e])⟩
  obtain⟨ps,bs,v1,v2,t,hl8,hb,_,hpo,back⟩:=wd_openV (hH.up kS rfl)
  obtain rfl:=ra_plainV hpo
  refine(step_commit w r t n hn ps bs v1 v2 i hi nn fr dr vx vy hb (fun v cells w2=>v=.int .i64 0∧∃F',(∀q∈F',q∈r::F∨w.heap.size≤q)∧(∀q∈r::F',q<(w2.setCell ⟨r,1,none⟩ (.int .i32 0)).heap.size)∧
   (wvP 0 (n+1) (l.set i (.sref (pSegs q) 0)) (rows++[.row (commitN c) [.bytes (commitN c) (commitB c)]]) ap).p (fun q=>((S q∨w.heap.size≤q)∧q∉r::F')∧q∉([]:List Nat)) (w2.setCell ⟨r,1,none⟩ (.int .i32 0)) (r::F') r∧GrownX (fun q=>q∈r::F) w (w2.setCell ⟨r,1,none⟩ (.int .i32 0))) fun w1 hb1 hg1=>?_).mono ?_
  ·have kp:=keeps_by (S:=S) hg1
   have hown1:=own_keep hown (w':=w1) fun z hz=>hg1.block z (own_lt hown hz) fun e=>(hF z hz).2 (by cases e;rfl)
   refine wcommit0_walk (S:=S) (w:=w1) (r:=r) (n:=n+1) (l:=l) (i:=i) (k:=rows.length) (po:=v1) (ap:=ap) (y:=y) (cs:=cs) (p:=p) (s:=s) (c:=c) (q:=q) (nn:=nn) (fr:=fr) (dr:=dr) (vs:=[_]) hb1.lt (hG.up ⟨hg1.size,fun z hz hd=>?_⟩) (back _ _ _ _ _ kp hb1) hi hl hlf hown1 hk (own_form hown) (fun z hz=>⟨own_lt hown1 hz,(hF z hz).2,fun e=>hS z e (hF z hz).1⟩) hE hs hc hq hm hw h1 h2 h3 h4 (fun w2 v' ns L B hL hB g1 g2 g3 g4 g5=>?_) (RAs.up kp (RAs.up kS hA0))
   ·exact⟨⟨hd,fun e=>hS z hd (by simp[e])⟩,fun o=>World.cell?_of_block (hg1.block z hz fun e=>hS z hd (by cases e;simp))⟩
   ·subst hL;subst hB
    obtain⟨cs2,t',k1,k2,F',_,k3,k4,k5,k6⟩:=wv_close (news:=[.row (commitN c) [.bytes (commitN c) (commitB c)]]) hS hlt (po:=v1) (fun z hz=>hF z hz) hg1 hrg (fun z hz=>⟨hz.1.imp id (Nat.le_trans hg1.size),hz.2⟩) g1 g2 (g3.toGen).2 g4 g5 (fun e=>by simp at e)
    exact⟨_,cs2,t',rfl,⟨rfl,F',k3,k4,k5,k6⟩,k1,k2⟩
  ·rintro e w' ⟨v,cells,w2,t',rfl,⟨rfl,F',k3,k4,k5,k6⟩,rfl,_⟩
   exact⟨_,F',[],rfl,k3,k4,k5,.v _,k6⟩
end
section
attribute [local irreducible] condK LoopA regA
abbrev Ln:=Int×List UInt8
def lineF(L:List Ln)(j:Nat):List Seg:=[.ints .i64 1 [(L.getD j (0,[])).1],.bytes 32 (L.getD j (0,[])).2]
def bookSegs(mu:Int)(L:List Ln)(s f:Int):List Seg:=[.ints .i32 1 [mu],.ints .u32 1 [0],.gen 1 [.recs L.length 33 (lineF L)],.ints .i64 2 [s,f]]
def H0:List UInt8:=[0,0,0,0,0,0,0,0,0,0,0,0,0,0,0,0,0,0,0,0,0,0,0,0,0,0,0,0,0,0,0,0]
def hasV(L:List Ln)(e:Int):Bool:=L.any fun x=>x.1==e
def getV(L:List Ln)(e:Int):List UInt8:=match L.find? (fun x=>x.1==e)with|some x=>x.2|none=>H0
theorem first_ln(L:List Ln)(e:Int):∃N,N≤L.length∧(∀j,j<N→¬(L.getD j (0,[])).1=e)∧(N=L.length∧hasV L e=false∧getV L e=H0∨(N<L.length∧(L.getD N (0,[])).1=e∧hasV L e=true∧getV L e=(L.getD N (0,[])).2)):=by
 induction L with
 |nil=>exact⟨0,Nat.le_refl _,fun j hj=>absurd hj (by omega),.inl ⟨rfl,rfl,rfl⟩⟩
 |cons x L ih=>
  by_cases h:x.1=e
  ·exact⟨0,Nat.zero_le _,fun j hj=>absurd hj (by omega),.inr ⟨by simp,by simpa using h,by simp[hasV,h],by simp[getV,List.find?,h]⟩⟩
  ·obtain⟨N,h1,h2,h3⟩:=ih
   have hb:(x.1==e)=false:=by simpa using h
   refine⟨N+1,by simpa using h1,fun j hj=>?_,?_⟩
   ·cases j with
    |zero=>simpa using h
    |succ j=>simpa using h2 j (by omega)
   ·have e1:hasV (x::L) e=hasV L e:=by simp[hasV,hb]
    have e2:getV (x::L) e=getV L e:=by simp[getV,List.find?,hb]
    rw[e1,e2]
    rcases h3 with⟨h3,h4,h5⟩|⟨h3,h4,h5,h6⟩
    ·exact .inl ⟨by simp[h3],h4,h5⟩
    ·exact .inr ⟨by simpa using h3,by simpa using h4,h5,by simpa using h6⟩
attribute [local irreducible] hasV getV
set_option maxHeartbeats 1000000 in
noncomputable def envN:EnvX:={ P:=Tryz.prog,Y:=yTab,G:=fun _=>none,C:=fun _ _ _=>False,M:=fun _ _ _ _ _=>False,hY:=yOK,hC:=fun _ _ _ h=>h.elim,hMu:=fun _ _ _ _ _ h=>h.elim,hF:=fun _ _ _ h=>h.elim,hE:=yEq,hM:=by kernel_rfl }
theorem find_ok(mu:Int)(L:List Ln)(s f e:Int)(hL:L.length≤1000000):
  FnOK Tryz.prog (fun _=>none) 46 [.sref (bookSegs mu L s f) 0,.v (.int .i64 e)] (.t [.agg [.bytes 32 (getV L e)],.v (.bool (hasV L e))]):=by
 refine fnA (E:=envN) Tryz.func46 Tryz.ntmps46 ?_
 obtain⟨N,hN,hno,hend⟩:=first_ln L e
 refine agow ?_;(try exact⟨⟩)
 refine StopL.mk (loop_forG [0,1,4,5,11,12,13] [0] N (fun j=>⟨[.d (.sref (bookSegs mu L s f) 0),.d (.v (.int .i64 e)),.dead,.dead,.ptr 0 0,.d (.v (.bool false)),.dead,.dead,.dead,.dead,.dead,.d (.recs L.length 33 (lineF L)),.d (.v (.int .i64 L.length)),.d (.v (.int .i64 (j:Nat))),.dead,.dead,.dead,.dead,.dead,.dead,.dead,.dead,.dead,.dead,.dead],[some (.var [.bytes 32 H0])]⟩) ?_)
 intro j hj hl
 by_cases h:j<N
 ·have h1:(j:Int)<(L.length:Int):=by omega
  have h2:((L.getD j (0,[])).1==e)=false:=by simpa using hno j h
  clear hend hno
  refine agow ?_;(try exact⟨⟩)
  refine hl.go h [0,1,4,5,11,12,13] [0] ?_
  rfl
 ·obtain rfl:j=N:=by omega
  rcases hend with⟨rfl,h4,h5⟩|⟨h3,h4,h5,h6⟩
  ·have h1:¬(L.length:Int)<(L.length:Int):=by omega
   rw[h4,h5]
   clear h4 h5 hno
   refine agow ?_;(try exact⟨⟩)
   rfl
  ·have h1:(j:Int)<(L.length:Int):=by omega
   have h2:((L.getD j (0,[])).1==e)=true:=by simpa using h4
   rw[h5,h6]
   clear h4 h5 h6 hno
   refine agow ?_;(try exact⟨⟩)
end
section
abbrev BC(mu:Int)(v:Value)(s f:Int):Array Value:=#[.int .i32 mu,.int .u32 0,v,.int .i64 s,.int .i64 f]
def lnC(L:List Ln):List Value:=L.flatMap fun x=>.int .i64 x.1::HL x.2
def bookP(L:List Ln)(s f:Int):(Nat→Option Obj)→Nat→Prop:=fun h r=>∃t v,h r=some (.cells (BC 0 v s f) t (0,0))∧(v=.slice none 0 0∧L.length=0∨∃q cap cur,v=.slice (some ⟨q,0,none⟩) L.length cap∧q≠r∧h q=some (.cells cur 100 (0,0))∧L.length≤cap∧cap≤maxLen∧cur.size=cap*33∧cur.toList.take (L.length*33)=lnC L)∧∀x∈L,x.2.length=32
theorem lnC_length(L:List Ln)(h:∀x∈L,x.2.length=32):(lnC L).length=L.length*33:=by
 induction L with
 |nil=>rfl
 |cons x L ih=>
  have h1:=h x (by simp)
  have h2:=ih fun y hy=>h y (by simp[hy])
  unfold lnC at h2 ⊢
  simp only[List.flatMap_cons,List.length_append,List.length_cons,h2,HL_length,h1]
  omega
structure BookW(w:World)(r:Nat)(t:TypeId)(v:Value)(L:List Ln)(s f:Int):Prop where
 blk:Blk w r (BC 0 v s f) t
 own:w.ownsRow 0 100 33 v L.length (lnC L)
 sep:v.ownBlock≠some r
 len:∀x∈L,x.2.length=32
theorem BookW.of{w:World}{r:Nat}{F:List Nat}{L:List Ln}{s f:Int}(h:bookP L s f (hres w (r::F)) r):∃t v,BookW w r t v L s f∧∀q,v.ownBlock=some q→q∈F:=by
 obtain⟨t,v,h1,h2,h3⟩:=h
 have hr:w.heap[r]?=some (.cells (BC 0 v s f) t (0,0)):=by unfold hres at h1;rw[if_pos (by simp)]at h1;exact h1
 rcases h2 with⟨rfl,h4⟩|⟨q,cap,cur,rfl,h4,h5,h6⟩
 ·have hL:L=[]:=List.length_eq_zero_iff.1 h4
  subst hL
  exact⟨t,_,⟨hr,⟨rfl,.inl ⟨rfl,rfl⟩⟩,by simp[Value.ownBlock],h3⟩,by simp[Value.ownBlock]⟩
 ·have hq:q∈r::F:=by
   apply Decidable.byContradiction
   intro hn
   unfold hres at h5;rw[if_neg hn]at h5;cases h5
  have hq2:w.heap[q]?=some (.cells cur 100 (0,0)):=by unfold hres at h5;rw[if_pos hq]at h5;exact h5
  refine⟨t,_,⟨hr,⟨lnC_length L h3,.inr ⟨q,cap,cur,rfl,Nat.zero_le _,hq2,h6⟩⟩,by simp[Value.ownBlock];exact h4,h3⟩,fun q' e=>?_⟩
  simp[Value.ownBlock]at e;subst e
  rcases List.mem_cons.1 hq with h|h
  ·exact(h4 h).elim
  ·exact h
theorem BookW.next{w w':World}{r:Nat}{t:TypeId}{v:Value}{L:List Ln}{s f s' f':Int}(h:BookW w r t v L s f)(hb:Blk w' r (BC 0 v s' f') t)(hg:w.grownBy w' (some r)):BookW w' r t v L s' f':=by
 refine⟨hb,⟨h.own.1,?_⟩,h.sep,h.len⟩
 rcases h.own.2 with h1|⟨q,cap,cur,e,h2,h3,h4⟩
 ·exact .inl h1
 ·refine .inr ⟨q,cap,cur,e,h2,?_,h4⟩
  rw[hg.block q (Array.getElem?_eq_some_iff.1 h3).1 (fun e2=>h.sep (by rw[e];cases e2;rfl))]
  exact h3
theorem run_len_any{v:Value}{n:Nat}{w:World}{xs:List Value}(h:w.ownsRow 0 100 33 v n xs):∃ad c,v=.slice ad n c:=by
 rcases h.2 with⟨e1,e2⟩|⟨q,cap,cur,e1,_⟩
 ·exact⟨_,_,by rw[e1,e2]⟩
 ·exact⟨_,_,e1⟩
set_option maxRecDepth 100000 in
set_option maxHeartbeats 1000000 in
theorem len_walk(w:World)(r:Nat)(t:TypeId)(v:Value)(L:List Ln)(s f:Int)(h:BookW w r t v L s f):
  Calls Tryz.prog 22 #[.pointer (some ⟨r,0,none⟩)] w fun e w'=>e=.returned (.int .i64 L.length)∧Blk w' r (BC 0 v s f) t∧w.grownBy w' (some r):=by
 have hb:=h.blk
 obtain⟨ad,c,rfl⟩:=run_len_any h.own
 have hb1:Blk (w.setCell ⟨r,0,none⟩ (.int .i32 1)) r (BC 1 (.slice ad L.length c) s f) t:=(hb.set 0 _).copy rfl
 have hg1:w.grownBy (w.setCell ⟨r,0,none⟩ (.int .i32 1)) (some r):=grown_setCell (grown_refl w _) 0 _
 have c2:(w.setCell ⟨r,0,none⟩ (.int .i32 1)).cell? ⟨r,2,none⟩=some (.slice ad L.length c):=hb1.cell 2
 have HB:=Lib.hid hb;have HB1:=Lib.hid hb1;have HG1:=Lib.hid hg1
 clear hb hb1 hg1 h
 go_enter_defers Tryz.func22,Tryz.ntmps22
 go_wp2_with (go_at_call 33;refine(lock_free ⟨r,0,none⟩ _ (HB.out.cell 0) (HB.out.frozen 0)).mono ?_;rintro e w' ⟨rfl,rfl⟩)
 refine leaves_cons (f:=34) (args:=#[.pointer (some ⟨r,0,none⟩)]) (by simp) (by simp[go_sem]) ?_
 refine(unlock_deferred ⟨r,0,none⟩ _ _ (HB1.out.cell 0) (HB1.out.frozen 0)).mono ?_
 rintro e u' w4 ⟨rfl,rfl,hw4⟩
 have hk4:Blk w4 r (BC 0 (.slice ad L.length c) s f) t:=by rw[hw4];exact(HB1.out.set 0 _).copy rfl
 have hg4:w.grownBy w4 (some r):=by rw[hw4];exact grown_setCell HG1.out 0 _
 clear hw4
 simp[Leaves,settle,results,Tryz.results22]
 exact⟨hk4,hg4⟩
end
section
theorem lnC_at(L:List Ln)(h:∀x∈L,x.2.length=32):∀(j i:Nat),j<L.length→i<33→(lnC L)[j*33+i]?=(Value.int .i64 (L.getD j (0,[])).1::HL (L.getD j (0,[])).2)[i]?:=by
 induction L with
 |nil=>intro j i hj;simp at hj
 |cons x L ih=>
  intro j i hj hi
  have h1:=h x (by simp)
  have hl:(Value.int .i64 x.1::HL x.2).length=33:=by simp[HL_length,h1]
  have e:lnC (x::L)=(Value.int .i64 x.1::HL x.2)++lnC L:=rfl
  rw[e]
  cases j with
  |zero=>rw[Nat.zero_mul,Nat.zero_add,List.getElem?_append_left (by omega)];rfl
  |succ j=>
   rw[List.getElem?_append_right (by omega),hl,show(j+1)*33+i-33=j*33+i by omega,ih (fun y hy=>h y (by simp[hy])) j i (by simpa using hj) hi]
   simp
theorem bookRA{w:World}{r:Nat}{t:TypeId}{v:Value}{mu s f:Int}{L:List Ln}(hb:Blk w r (BC mu v s f) t)(ho:w.ownsRow 0 100 33 v L.length (lnC L))(hl:∀x∈L,x.2.length=32):
  RA (fun _=>True) w (.sref (bookSegs mu L s f) 0) (.pointer (some ⟨r,0,none⟩)):=by
 have hv:RA (fun _=>True) w (.recs L.length 33 (lineF L)) v:=by
  rcases ho.2 with⟨e1,e2⟩|⟨q,cap,cur,rfl,_,h5,h6,h7,h8,h9⟩
  ·rw[e1,e2]
   exact .recs (cs:=fun _=>[]) (fun j hj=>absurd hj (by omega)) (Nat.le_refl _) (Nat.zero_le _) (fun _=>rfl) (.inl rfl)
  ·refine .recs (cs:=fun j=>.int .i64 (L.getD j (0,[])).1::HL (L.getD j (0,[])).2) (fun j hj=>?_) h6 h7 (fun e=>by cases e) (.inr ⟨q,0,rfl,fun j hj=>.inr ⟨q,0+j*33,rfl,trivial,(Array.getElem?_eq_some_iff.1 h5).1,fun i hi=>?_⟩⟩)
   ·have hm:L.getD j (0,[])∈L:=by rw[List.getD_eq_getElem?_getD,List.getElem?_eq_getElem hj];exact List.getElem_mem hj
    have:=RL.append (.ofInts (k:=.i64) (n:=1) (zs:=[(L.getD j (0,[])).1]) rfl rfl) (RL.ofBytes (S:=fun _=>True) (w:=w) (hl _ hm) rfl)
    exact this
   ·have hm:L.getD j (0,[])∈L:=by rw[List.getD_eq_getElem?_getD,List.getElem?_eq_getElem hj];exact List.getElem_mem hj
    have hi2:i<33:=by rw[List.length_cons,HL_length,hl _ hm]at hi;exact hi
    have hn:=lnC_length L hl
    rw[cell_of_row w q (0+j*33+i) cur _ (0,0) h5,Nat.zero_add]
    have:(cur.toList.take (L.length*33))[j*33+i]?=(lnC L)[j*33+i]?:=by rw[h9]
    rw[List.getElem?_take,if_pos (by omega),Array.getElem?_toList,lnC_at L hl j i hj hi2]at this
    rw[this,List.getElem?_eq_getElem hi]
 have hv1:v.oneCell'=true:=by obtain⟨ad,c,rfl⟩:=run_len_any ho;rfl
 have hR:RL (fun _=>True) w (bookSegs mu L s f) (BC mu v s f).toList:=by
  have h1:=RL.append (.ofInts (k:=.i32) (n:=1) (zs:=[mu]) rfl rfl) (RL.append (.ofInts (k:=.u32) (n:=1) (zs:=[0]) rfl rfl) (RL.append (.ofGen (n:=1) rfl (.cons hv hv1 .nil)) (RL.ofInts (S:=fun _=>True) (w:=w) (k:=.i64) (n:=2) (zs:=[s,f]) rfl rfl)))
  exact h1
 refine .sref (off:=0) hR (.inr ⟨r,0,rfl,trivial,(Array.getElem?_eq_some_iff.1 hb).1,fun i hi=>?_⟩)
 rw[Nat.zero_add,cells_of hb i,List.getElem?_eq_getElem hi]
theorem ra_agg32{S:Nat→Prop}{w:World}{p:List UInt8}{v:Value}(h:RA S w (.agg [.bytes 32 p]) v):v=.agg (HL p).toArray∧p.length=32:=by
 cases h with|agg k=>obtain⟨h1,rfl⟩:=k.toBytes;exact⟨rfl,h1⟩
theorem find_any{w:World}{r:Nat}{t:TypeId}{v:Value}{mu s f:Int}{L:List Ln}(e:Int)(hL:L.length≤1000000)(hb:Blk w r (BC mu v s f) t)(ho:w.ownsRow 0 100 33 v L.length (lnC L))(hl:∀x∈L,x.2.length=32):
  Calls Tryz.prog 46 #[.pointer (some ⟨r,0,none⟩),.int .i64 e] w fun x w'=>x=.returned (.tuple #[HV (getV L e),.bool (hasV L e)])∧Below w.heap.size w w':=by
 refine(find_ok mu L s f e hL (fun _=>True) w [.pointer (some ⟨r,0,none⟩),.int .i64 e] (fun q l h=>by cases h) (.cons (bookRA hb ho hl) (.cons (.v _) .nil))).mono ?_
 rintro x w' ⟨v',rfl,⟨vs,rfl,h2⟩,h3⟩
 cases h2 with
 |cons h2 h4=>cases h4 with
  |cons h4 h5=>cases h5;obtain⟨rfl,_⟩:=ra_agg32 h2;cases h4;exact⟨rfl,h3⟩
theorem getV_len(L:List Ln)(h:∀x∈L,x.2.length=32)(e:Int):(getV L e).length=32:=by
 unfold getV
 split
 ·next x hx=>exact h x (List.mem_of_find?_eq_some hx)
 ·rfl
theorem grownB{w w':World}{row:Option Nat}(h:Below w.heap.size w w'):w.grownBy w' row:=⟨h.os,h.tape,h.output,h.size,fun k hk _=>h.block k hk⟩
theorem grown_alloc(w:World)(o:Obj)(row:Option Nat):w.grownBy (w.alloc o) row:=⟨rfl,rfl,rfl,by rw[size_alloc];omega,fun k hk _=>Below.heap_alloc _ _ _ hk⟩
theorem BookW.grow{w w':World}{r:Nat}{t:TypeId}{v:Value}{L:List Ln}{s f:Int}(h:BookW w r t v L s f)(hg:w.grownBy w' none):BookW w' r t v L s f:=by
 have hb:Blk w' r (BC 0 v s f) t:=(hg.block r h.blk.lt (by simp)).trans h.blk
 exact h.next hb ⟨hg.os,hg.tape,hg.output,hg.size,fun k hk hne=>hg.block k hk (by simp)⟩
structure BookL(w:World)(r:Nat)(t:TypeId)(v:Value)(L:List Ln)(s f:Int):Prop where
 blk:Blk w r (BC 1 v s f) t
 own:w.ownsRow 0 100 33 v L.length (lnC L)
 sep:v.ownBlock≠some r
 len:∀x∈L,x.2.length=32
theorem BookL.of{w:World}{r:Nat}{t:TypeId}{v:Value}{L:List Ln}{s f:Int}(h:BookW w r t v L s f):BookL (w.setCell ⟨r,0,none⟩ (.int .i32 1)) r t v L s f:=by
 have hb:Blk (w.setCell ⟨r,0,none⟩ (.int .i32 1)) r (BC 1 v s f) t:=(h.blk.set 0 _).copy rfl
 have hg:w.grownBy (w.setCell ⟨r,0,none⟩ (.int .i32 1)) (some r):=grown_setCell (grown_refl w _) 0 _
 refine⟨hb,⟨h.own.1,?_⟩,h.sep,h.len⟩
 rcases h.own.2 with h1|⟨q,cap,cur,e,h2,h3,h4⟩
 ·exact .inl h1
 ·refine .inr ⟨q,cap,cur,e,h2,?_,h4⟩
  rw[hg.block q (Array.getElem?_eq_some_iff.1 h3).1 (fun e2=>h.sep (by rw[e];cases e2;rfl))]
  exact h3
theorem BookL.grow{w w':World}{r:Nat}{t:TypeId}{v:Value}{L:List Ln}{s f:Int}(h:BookL w r t v L s f)(hg:w.grownBy w' none):BookL w' r t v L s f:=by
 refine⟨(hg.block r h.blk.lt (by simp)).trans h.blk,⟨h.own.1,?_⟩,h.sep,h.len⟩
 rcases h.own.2 with h1|⟨q,cap,cur,e,h2,h3,h4⟩
 ·exact .inl h1
 ·exact .inr ⟨q,cap,cur,e,h2,(hg.block q (Array.getElem?_eq_some_iff.1 h3).1 (by simp)).trans h3,h4⟩
theorem BookL.setNew{w:World}{r g:Nat}{t:TypeId}{v:Value}{L:List Ln}{s f:Int}(h:BookL w r t v L s f)(hg:g≠r)(hv:v.ownBlock≠some g)(cs:Array Value):BookL (w.setRow g cs) r t v L s f:=by
 refine⟨(setRow_other _ _ _ _ (Ne.symm hg)).trans h.blk,⟨h.own.1,?_⟩,h.sep,h.len⟩
 rcases h.own.2 with h1|⟨q,cap,cur,e,h2,h3,h4⟩
 ·exact .inl h1
 ·exact .inr ⟨q,cap,cur,e,h2,(setRow_other _ _ _ _ (fun e2=>hv (by rw[e,←e2];rfl))).trans h3,h4⟩
theorem BookL.lt{w:World}{r:Nat}{t:TypeId}{v:Value}{L:List Ln}{s f:Int}(h:BookL w r t v L s f):∀q,v.ownBlock=some q→q<w.heap.size:=by
 intro q hq
 rcases h.own.2 with⟨e1,e2⟩|⟨q',cap,cur,e,h2,h3,h4⟩
 ·rw[e1]at hq;cases hq
 ·rw[e]at hq;cases hq;exact(Array.getElem?_eq_some_iff.1 h3).1
theorem BookL.find{w:World}{r:Nat}{t:TypeId}{v:Value}{L:List Ln}{s f:Int}(h:BookL w r t v L s f)(hL:L.length≤1000000)(e:Int):
  Calls Tryz.prog 46 #[.pointer (some ⟨r,0,none⟩),.int .i64 e] w fun x w'=>x=.returned (.tuple #[HV (getV L e),.bool (hasV L e)])∧Below w.heap.size w w':=find_any e hL h.blk h.own h.len
end
section
theorem BookL.grownX{w w':World}{r:Nat}{t:TypeId}{v:Value}{L:List Ln}{s f:Int}(h:BookL w r t v L s f)(hb:Below w.heap.size w w'):BookL w' r t v L s f:=h.grow (grownB hb)
theorem wplB_gen{P:Program}{ops:Array Oper}{rest:List Oper}{Q:Exit→Act→World→Prop}{a:Act}{w:World}(h:∀w1,w1=w→wpList P ops Q rest a w1):wpList P ops Q rest a w:=h w rfl
attribute [local go_sem] eqh_guard
end
section
def lineC(e:Int)(p:List UInt8):Array Value:=(Value.int .i64 e::HL p).toArray
theorem lineC_size(e:Int)(p:List UInt8)(hp:p.length=32):(lineC e p).size=33:=by simp[lineC,HL_length,hp]
theorem rl_line{D:Nat→Prop}{w:World}{e:Int}{p:List UInt8}{cs:Array Value}(h:RL D w [.ints .i64 1 [e],.bytes 32 p] cs.toList):cs=lineC e p:=by
 obtain⟨c,d,h1,h2,h3,_⟩:=h.head
 obtain⟨_,rfl⟩:=h2.toInts
 obtain⟨_,rfl⟩:=h3.toBytes
 apply Array.toList_inj.1
 rw[h1];rfl
theorem rl_of_line{D:Nat→Prop}{w:World}(e:Int){p:List UInt8}(hp:p.length=32):RL D w [.ints .i64 1 [e],.bytes 32 p] (lineC e p).toList:=
 RL.append (.ofInts (k:=.i64) (n:=1) (zs:=[e]) rfl rfl) (RL.ofBytes hp rfl)
theorem line_ty:∃i,env0.Y 100=some i∧i.agg=true∧i.esz=0∧i.plc=[(0,1),(1,32)]∧i.zero=[.ints .i64 1 [0],.bytes 32 (List.replicate 32 0)]∧i.sz=33∧i.bytes=40:=⟨_,rfl,rfl,rfl,rfl,rfl,rfl,rfl⟩
theorem built_line(e:Int){p:List UInt8}(hp:p.length=32):Tryz.prog.built 100 [(0,.int .i64 e),(1,.agg (HC p))]=some (lineC e p):=by
 obtain⟨i,hY,ha,he,hpl,hz,_⟩:=line_ty
 obtain⟨f,z,h1,h2,_,h3,h4⟩:=(env0.hY _ i hY).info
 obtain⟨fs,k1,k2⟩:=(env0.hY _ i hY).plc ha he
 rw[hz]at h4
 obtain⟨l',rfl,hf⟩:=fillA_spec (off:=fun q=>i.plc[q]?) (s:=⟨[.d (.v (.int .i64 e)),.d (.agg [.bytes 32 p])],[]⟩) (parts:=[(0,.tmp 0),(1,.tmp 1)]) (l:=[.ints .i64 1 [0],.bytes 32 (List.replicate 32 0)]) (K:=fun l=>l=[.ints .i64 1 [e],.bytes 32 p]) (by rw[hpl];exact⟨by decide,rfl,rfl,by decide,rfl,rfl⟩)
 obtain⟨cs',h5,h6⟩:=hf (D:=fun _=>True) (w:=default) (ρ:=fun _=>none) (fun x=>match x with| .tmp 0=>.int .i64 e|_=>.agg (HC p)) z.cells (fun q hq=>by
  rcases List.mem_cons.1 hq with rfl|hq
  ·exact .v _
  ·rcases List.mem_cons.1 hq with rfl|hq
   ·exact .agg (.ofBytes hp rfl)
   ·cases hq) (zeroB_spec h4)
 rw[←rl_line h6]
 have h1':Tryz.prog.info? 100=some f:=h1
 have k1':Tryz.prog.underlying 100=some (.struct fs):=k1
 have k2':fs.toList.mapM (fun f=>(Tryz.prog.info? f.type).map fun j=>(f.offset,j.size))=some i.plc:=k2
 unfold Program.built
 simp only[h1',k1',h3,k2']
 have e9:(fun x:Nat=>i.plc.toArray[x]?)=fun q:Nat=>i.plc[q]?:=by funext q;simp
 rw[e9]
 exact h5
theorem slice_line(w:World)(e:Int){p:List UInt8}(hp:p.length=32):(Instr.buildSlice 94 1 #[(0,.agg (lineC e p))]).run Tryz.prog w=.ok (.slice (some ⟨w.heap.size,0,none⟩) 1 1) (w.alloc (.cells (lineC e p) 100)):=by
 obtain⟨i,hY,ha,he,hpl,hz,hsz,_⟩:=line_ty
 obtain⟨f,z,h1,h2,_,h3,h4⟩:=(env0.hY _ i hY).info
 have hfs:f.size=33:=h2.trans hsz
 rw[hz]at h4
 have hzr:=zeroB_spec (S:=fun _=>True) (w:=w) h4
 have hzl:z.cells.size=33:=by have:=hzr.len;simpa[segN,Seg.n]using this
 have hc:=many_cells z.cells (by omega) 1
 obtain⟨l',rfl,hf⟩:=fillA_spec (off:=fun q=>some (q*33,33)) (s:=⟨[.d (.agg [.ints .i64 1 [e],.bytes 32 p])],[]⟩) (parts:=[(0,.tmp 0)]) (l:=[.ints .i64 1 [0],.bytes 32 (List.replicate 32 0)]) (K:=fun l=>l=[.ints .i64 1 [e],.bytes 32 p]) ⟨by decide,rfl,rfl⟩
 obtain⟨cs',h5,h6⟩:=hf (D:=fun _=>True) (w:=w) (ρ:=fun _=>none) (fun x=>.agg (lineC e p)) ((Array.range (1*f.size)).map (z.cells[·%z.cells.size]!)) (fun q hq=>by
  rcases List.mem_cons.1 hq with rfl|hq
  ·have:=RA.agg (rl_of_line (D:=fun _=>True) (w:=w) e hp);exact this
  ·cases hq) (by rw[hfs,←hzl,hc];simpa using hzr)
 rw[rl_line h6]at h5
 have hu:Tryz.prog.underlying 94=some (.slice 100):=Tryz.underlying94
 exact run_buildSlice (P:=Tryz.prog) w 94 100 1 #[(0,.agg (lineC e p))] (lineC e p) f z hu h1 h3 (by rw[hfs];decide) (by rw[hfs];decide) (by rw[←hfs]at h5;exact h5)
theorem append_line(w:World){v:Value}{L:List Ln}{g:Nat}(e:Int){p:List UInt8}(hp:p.length=32)(ty:TypeId)(hL:L.length≤1000)(ho:w.ownsRow 0 100 33 v L.length (lnC L))(hg:Blk w g (lineC e p) 100):
  ∃v' w',(Builtin.append_ #[94,94] ty #[v,.slice (some ⟨g,0,none⟩) 1 1]).run Tryz.prog w=.ok v' w'∧w'.ownsRow 0 100 33 v' (L.length+1) (lnC (L++[(e,p)]))∧w.grownBy w' v.ownBlock∧(v'.ownBlock=v.ownBlock∨v'.ownBlock=some w.heap.size):=by
 obtain⟨i,hY,ha,he,hpl,hz,hsz,hby⟩:=line_ty
 obtain⟨f,z,h1,h2,h2b,h3,h4⟩:=(env0.hY _ i hY).info
 have hfs:f.size=33:=h2.trans hsz
 rw[hz]at h4
 have hzr:=zeroB_spec (S:=fun _=>True) (w:=w) h4
 have hzl:z.cells.size=33:=by have:=hzr.len;simpa[segN,Seg.n]using this
 obtain⟨v',w',k1,k2,k3,_,k5⟩:=run_append_own_at (P:=Tryz.prog) w 0 94 ty 100 f z 33 40 Tryz.underlying94 h1 h3 hfs (h2b.trans hby) hzl (by decide) v L.length (lnC L) ho ⟨g,0,none⟩ 1 1 (lineC e p).toList (by rw[Array.length_toList,lineC_size e p hp]) (fun j u hu=>by
   rw[add_at,Nat.zero_add,hg.cell j,←Array.getElem?_toList];exact hu) (rl_of_line (D:=fun _=>True) (w:=w) e hp).one (by unfold maxLen;omega) (by omega) (Nat.zero_le _)
 refine⟨v',w',k1,?_,k3,k5⟩
 have:lnC (L++[(e,p)])=lnC L++(lineC e p).toList:=by simp[lnC,lineC]
 rw[this];exact k2
end
section
def cstB(r:Nat)(V:Value)(e:Int)(p:List UInt8):Nat→Option Value
 |0=>some (.pointer (some ⟨r,0,none⟩))
 |1=>some (.pointer (some ⟨r,0,none⟩))
 |2=>some (.pointer (some ⟨r,0,none⟩))
 |3=>some (.pointer (some ⟨r,2,none⟩))
 |4=>some V
 |5=>some (.int .i64 e)
 |6=>some (.agg (HC p))
 |7=>some (.agg (lineC e p))
 |10=>some (.pointer (some ⟨r,0,none⟩))
 |11=>some (.pointer (some ⟨r,2,none⟩))
 |_=>none
structure JB(w3:World)(r A0:Nat)(t:TypeId)(V:Value)(L:List Ln)(s f e:Int)(p:List UInt8)(S:Nat→Bool)(vals:Nat→Value)(w:World):Prop where
 grown:GrownX (fun k=>k=r∨V.ownBlock=some k) w3 w
 paper:Blk w A0 (HC p) 28
 val:∀k x,S k=true→cstB r V e p k=some x→vals k=x
 x8:S 8=true→∃g,vals 8=.slice (some ⟨g,0,none⟩) 1 1∧Blk w g (lineC e p) 100∧w3.heap.size≤g
 old:S 9=false→w.ownsRow 0 100 33 V L.length (lnC L)
 new:S 9=true→w.ownsRow 0 100 33 (vals 9) (L.length+1) (lnC (L++[(e,p)]))∧((vals 9).ownBlock=V.ownBlock∨∃q,(vals 9).ownBlock=some q∧w3.heap.size≤q)
 blk0:S 12=false→Blk w r (BC 1 V s f) t
 blk1:S 12=true→Blk w r (BC 1 (vals 9) s f) t
 seq:S 12=true→S 9=true
section
variable {w3 : World} {r A0 : Nat} {t : TypeId} {V : Value} {L : List Ln} {s f e : Int} {p : List UInt8} {S : Nat → Bool} {vals : Nat → Value} {w : World}
theorem updV(vals:Nat→Value)(i:Nat)(x:Value){k:Nat}(h:k≠i):(if k=i then x else vals k)=vals k:=if_neg h
theorem JB.pure(h:JB w3 r A0 t V L s f e p S vals w){i:Nat}{x:Value}(hc:cstB r V e p i=some x):JB w3 r A0 t V L s f e p (add1 S i) (fun j=>if j=i then x else vals j) w:=by
 have n8:8≠i:=by rintro rfl;cases hc
 have n9:9≠i:=by rintro rfl;cases hc
 have n12:12≠i:=by rintro rfl;cases hc
 have s8:=add1_other S n8;have s9:=add1_other S n9;have s12:=add1_other S n12
 have v8:=updV vals i x n8;have v9:=updV vals i x n9
 refine⟨h.grown,h.paper,fun k y hk hy=>?_,fun hk=>?_,fun hk=>?_,fun hk=>?_,fun hk=>?_,fun hk=>?_,fun hk=>?_⟩
 ·by_cases e1:k=i
  ·subst e1;rw[hc]at hy;cases hy;exact if_pos rfl
  ·rw[add1_other S e1]at hk;rw[updV vals i x e1];exact h.val k y hk hy
 ·rw[s8]at hk;rw[v8];exact h.x8 hk
 ·rw[s9]at hk;exact h.old hk
 ·rw[s9]at hk;rw[v9];exact h.new hk
 ·rw[s12]at hk;exact h.blk0 hk
 ·rw[s12]at hk;rw[v9];exact h.blk1 hk
 ·rw[s12]at hk;rw[s9];exact h.seq hk
theorem ownsRow_keep{w w':World}{v:Value}{n:Nat}{xs:List Value}(h:w.ownsRow 0 100 33 v n xs)(hk:∀q,v.ownBlock=some q→q<w.heap.size→w'.heap[q]?=w.heap[q]?):w'.ownsRow 0 100 33 v n xs:=by
 refine⟨h.1,?_⟩
 rcases h.2 with h1|⟨q,cap,cur,e,h2,h3,h4⟩
 ·exact .inl h1
 ·exact .inr ⟨q,cap,cur,e,h2,(hk q (by rw[e];rfl) (Array.getElem?_eq_some_iff.1 h3).1).trans h3,h4⟩
theorem JB.alloc(h:JB w3 r A0 t V L s f e p S vals w)(h9:S 9=false)(h12:S 12=false):JB w3 r A0 t V L s f e p (add1 S 8) (fun j=>if j=8 then .slice (some ⟨w.heap.size,0,none⟩) 1 1 else vals j) (w.alloc (.cells (lineC e p) 100)):=by
 have s9:=add1_other S (show 9≠8 by decide);have s12:=add1_other S (show 12≠8 by decide)
 have ka:∀q,q<w.heap.size→(w.alloc (.cells (lineC e p) 100)).heap[q]?=w.heap[q]?:=fun q hq=>Below.heap_alloc _ _ _ hq
 refine⟨⟨h.grown.os,h.grown.tape,h.grown.output,by rw[size_alloc];have:=h.grown.size;omega,fun k hk hn=>(ka k (Nat.lt_of_lt_of_le hk h.grown.size)).trans (h.grown.block k hk hn)⟩,(ka _ h.paper.lt).trans h.paper,fun k y hk hy=>?_,fun _=>⟨w.heap.size,if_pos rfl,heap_alloc_new _ _,h.grown.size⟩,fun hk=>ownsRow_keep (h.old h9) fun q _ hq=>ka q hq,fun hk=>?_,fun hk=>(ka _ (h.blk0 h12).lt).trans (h.blk0 h12),fun hk=>?_,fun hk=>?_⟩
 ·have e1:k≠8:=by rintro rfl;cases hy
  rw[add1_other S e1]at hk;rw[updV vals 8 _ e1];exact h.val k y hk hy
 ·rw[s9,h9]at hk;cases hk
 ·rw[s12,h12]at hk;cases hk
 ·rw[s12,h12]at hk;cases hk
theorem JB.app(h:JB w3 r A0 t V L s f e p S vals w)(h9:S 9=false)(h12:S 12=false){v':Value}{w':World}(hown:w'.ownsRow 0 100 33 v' (L.length+1) (lnC (L++[(e,p)])))(hg:w.grownBy w' V.ownBlock)(hv:v'.ownBlock=V.ownBlock∨v'.ownBlock=some w.heap.size)(h1:V.ownBlock≠some r)(h2:V.ownBlock≠some A0)(h3:∀q,V.ownBlock=some q→q<w3.heap.size):
  JB w3 r A0 t V L s f e p (add1 S 9) (fun j=>if j=9 then v' else vals j) w':=by
 have s8:=add1_other S (show 8≠9 by decide);have s12:=add1_other S (show 12≠9 by decide)
 have ka:∀q,q<w.heap.size→V.ownBlock≠some q→w'.heap[q]?=w.heap[q]?:=fun q hq hn=>hg.block q hq (fun e=>hn e.symm)
 have hm:∀q,V.ownBlock=some q→q<w3.heap.size:=h3
 refine⟨⟨hg.os.trans h.grown.os,hg.tape.trans h.grown.tape,hg.output.trans h.grown.output,Nat.le_trans h.grown.size hg.size,fun k hk hn=>(ka k (Nat.lt_of_lt_of_le hk h.grown.size) (fun e=>hn (.inr e))).trans (h.grown.block k hk hn)⟩,(ka _ h.paper.lt h2).trans h.paper,fun k y hk hy=>?_,fun hk=>?_,fun hk=>?_,fun _=>?_,fun hk=>(ka _ (h.blk0 h12).lt h1).trans (h.blk0 h12),fun hk=>?_,fun _=>add1_same S 9⟩
 ·have e1:k≠9:=by rintro rfl;cases hy
  rw[add1_other S e1]at hk;rw[updV vals 9 _ e1];exact h.val k y hk hy
 ·rw[s8]at hk
  obtain⟨g,k1,k2,k3⟩:=h.x8 hk
  refine⟨g,by rw[updV vals 9 _ (show 8≠9 by decide)];exact k1,(ka g k2.lt (fun e=>?_)).trans k2,k3⟩
  have:=hm g e;omega
 ·rw[add1_same]at hk;cases hk
 ·show World.ownsRow w' 0 _ 33 v' _ _∧(v'.ownBlock=V.ownBlock∨_)
  refine⟨hown,hv.imp id fun e=>⟨_,e,h.grown.size⟩⟩
 ·rw[s12,h12]at hk;cases hk
theorem JB.store(h:JB w3 r A0 t V L s f e p S vals w)(h9:S 9=true)(h12:S 12=false)(hA:A0≠r)(hr:r<w3.heap.size)(h1:V.ownBlock≠some r)(x:Value):JB w3 r A0 t V L s f e p (add1 S 12) (fun j=>if j=12 then x else vals j) (w.setCell ⟨r,2,none⟩ (vals 9)):=by
 have s8:=add1_other S (show 8≠12 by decide);have s9:=add1_other S (show 9≠12 by decide)
 have v8:=updV vals 12 x (show 8≠12 by decide);have v9:=updV vals 12 x (show 9≠12 by decide)
 have ka:∀q,q≠r→(w.setCell ⟨r,2,none⟩ (vals 9)).heap[q]?=w.heap[q]?:=fun q hq=>heap_setCell_other w ⟨r,2,none⟩ q _ hq
 have hs:(w.setCell ⟨r,2,none⟩ (vals 9)).heap.size=w.heap.size:=by simp[World.setCell]
 have hb:Blk (w.setCell ⟨r,2,none⟩ (vals 9)) r (BC 1 (vals 9) s f) t:=((h.blk0 h12).set 2 _).copy rfl
 obtain⟨n1,n2⟩:=h.new h9
 have hnr:∀q,(vals 9).ownBlock=some q→q≠r:=fun q hq e1=>by
  subst e1
  rcases n2 with n2|⟨q',n2,n3⟩
  ·rw[n2]at hq;exact h1 hq
  ·rw[n2]at hq;cases hq;omega
 refine⟨⟨h.grown.os,h.grown.tape,h.grown.output,by rw[hs];exact h.grown.size,fun k hk hn=>(ka k (fun e=>hn (.inl e))).trans (h.grown.block k hk hn)⟩,(ka _ hA).trans h.paper,fun k y hk hy=>?_,fun hk=>?_,fun hk=>?_,fun _=>?_,fun hk=>?_,fun _=>by rw[v9];exact hb,fun _=>by rw[s9];exact h9⟩
 ·have e1:k≠12:=by rintro rfl;cases hy
  rw[add1_other S e1]at hk;rw[updV vals 12 _ e1];exact h.val k y hk hy
 ·rw[s8]at hk
  obtain⟨g,k1,k2,k3⟩:=h.x8 hk
  exact⟨g,by rw[v8];exact k1,(ka g (by omega)).trans k2,k3⟩
 ·rw[s9,h9]at hk;cases hk
 ·rw[v9]
  exact⟨ownsRow_keep n1 fun q hq _=>ka q (hnr q hq),n2⟩
 ·rw[add1_same]at hk;cases hk
end
end
section
attribute [local go_sem] eqh_guard
theorem opv{P:Program}{ops:Array Oper}{o:Oper}{a:Act}{w w2:World}{v:Value}{F:Value→World→Prop}(hg:o.guard=none)(h:(execOp a.eval o).run P w=.ok (.value v) w2)(hF:F (keeps o.dst v) w2):opRuns P ops (fun _ _=>True) o a w F:=by
 unfold opRuns
 simp only[Region.wanted,hg,h,if_true]
 exact⟨trivial,hF⟩
theorem ops_{P:Program}{ops:Array Oper}{o:Oper}{a:Act}{w w2:World}{F:Value→World→Prop}(hg:o.guard=none)(h:(execOp a.eval o).run P w=.ok .skip w2)(hF:F undef w2):opRuns P ops (fun _ _=>True) o a w F:=by
 unfold opRuns
 simp only[Region.wanted,hg,h,if_true]
 exact⟨trivial,hF⟩
theorem GrownX.trans{X:Nat→Prop}{a b c:World}(h:GrownX X a b)(k:GrownX X b c):GrownX X a c:=⟨k.os.trans h.os,k.tape.trans h.tape,k.output.trans h.output,Nat.le_trans h.size k.size,fun q hq hn=>(k.block q (Nat.lt_of_lt_of_le hq h.size) hn).trans (h.block q hq hn)⟩
theorem GrownX.ofBy{X:Nat→Prop}{r:Nat}{a b:World}(h:a.grownBy b (some r))(hr:X r):GrownX X a b:=⟨h.os,h.tape,h.output,h.size,fun k hk hn=>h.block k hk (fun e=>hn (by cases e;exact hr))⟩
set_option maxRecDepth 100000 in
set_option maxHeartbeats 2000000 in
theorem write_new (w : World) (r : Nat) (t : TypeId) (v : Value) (L : List Ln) (s f e : Int) (p : List UInt8) (hp : p.length = 32) (h0 : 0 ≤ e) (h1 : e ≤ 1099511627776) (hL : L.length ≤ 1000000) (hh : hasV L e = false) (hfull : L.length < 100) (h : BookW w r t v L s f) :
    Calls Tryz.prog 21 #[.pointer (some ⟨r, 0, none⟩), .int .i64 e, .agg (HC p)] w fun x w' => x = .returned (.int .i64 0) ∧ ∃ v', BookW w' r t v' (L ++ [(e, p)]) s f ∧ (v'.ownBlock = v.ownBlock ∨ ∃ q, v'.ownBlock = some q ∧ w.heap.size ≤ q) ∧ GrownX (fun k => k = r ∨ v.ownBlock = some k) w w' := by
  have hlen := getV_len L h.len e
  have hsz : (Tryz.prog.info? 28).map (·.size) = some (HC (getV L e)).size := by rw [HC_size, hlen]; kernel_rfl
  have hsz2 : (HC (List.replicate 32 (0 : UInt8))).size = (HC (getV L e)).size := by rw [HC_size, HC_size, hlen]; rfl
  have hsz3 : (Tryz.prog.info? 28).map (·.size) = some (HC p).size := by rw [HC_size, hp]; kernel_rfl
  have hA := h.grow (grown_alloc w (.cells (HC p) 28) none)
  have he2 : ¬ e < 0 := by omega
  have he3 : ¬ e > 1099511627776 := by omega
  obtain ⟨ad, c, rfl⟩ := run_len_any h.own
  have hge : (L.length : Int) < 100 := by omega
  have S1 := Lib.hid hsz; have S2 := Lib.hid hsz2; have S3 := Lib.hid hsz3; have HP := Lib.hid hp; have HF := Lib.hid hfull
  have HH := Lib.hid h; have HLL := Lib.hid hL; have HA := Lib.hid hA
  clear h hL hlen hsz hsz2 hsz3 h0 h1 hp hA hfull
  go_enter_defers Tryz.func21, Tryz.ntmps21
  go_wp2_with fail
  go_at_call 33
  refine (lock_free ⟨r, 0, none⟩ _ (HA.out.blk.cell 0) (HA.out.blk.frozen 0)).mono ?_
  rintro x1 w1 ⟨rfl, hw1⟩
  have hL1 : BookL w1 r t (.slice ad L.length c) L s f := by rw [hw1]; exact BookL.of HA.out
  have hR1 : Blk w1 w.heap.size (HC p) 28 := by
    rw [hw1]
    exact (Blk.newAt _ _ rfl).other _ _ (by have := HH.out.blk.lt; show w.heap.size ≠ r; omega)
  have hG1 : w.grownBy w1 (some r) := by rw [hw1]; exact grown_setCell (grown_alloc w _ _) 0 _
  have HL1 := Lib.hid hL1; have HR1 := Lib.hid hR1; have HG1 := Lib.hid hG1
  clear hw1 hL1 hR1 hG1
  go_wp2_with fail
  go_at_call 46
  refine (HL1.out.find HLL.out e).mono ?_
  rintro x2 w2 ⟨rfl, hb2⟩
  have hL2 := (HL1.out.grow (grownB hb2)).grow (grown_alloc w2 (.cells (HC (List.replicate 32 (0 : UInt8))) 28) none)
  have hR2 : Blk (w2.alloc (.cells (HC (List.replicate 32 (0 : UInt8))) 28)) w.heap.size (HC p) 28 := (HR1.out.keep hb2).keep ((Below.refl _ _).alloc (Nat.le_refl _) _)
  have hR3 : Blk (w2.alloc (.cells (HC (List.replicate 32 (0 : UInt8))) 28)) w2.heap.size (HC (List.replicate 32 (0 : UInt8))) 28 := Blk.newAt _ _ rfl
  have hG2 : w.grownBy (w2.alloc (.cells (HC (List.replicate 32 (0 : UInt8))) 28)) (some r) := grown_trans (grown_trans HG1.out (grownB hb2)) (grown_alloc w2 _ _)
  have hn1 : w.heap.size < w2.heap.size := Nat.lt_of_lt_of_le HR1.out.lt hb2.size
  have hn2 : r < w.heap.size := HH.out.blk.lt
  have hvn : (Value.slice ad L.length c).ownBlock ≠ some w2.heap.size := fun e => by have := (HL1.out.grow (grownB hb2)).lt _ e; omega
  have HL2 := Lib.hid hL2; have HR2 := Lib.hid hR2; have HR3 := Lib.hid hR3; have HG2 := Lib.hid hG2; have HN1 := Lib.hid hn1; have HN2 := Lib.hid hn2; have HVN := Lib.hid hvn
  clear hb2 hL2 hR2 hR3 hG2 hn1 hn2 hvn
  go_wp2_with (first
    | (refine wpList_store_row rfl 28 _ _ rfl w2.heap.size (HC (getV L e)) rfl rfl 28 (HC (List.replicate 32 0)) HR3.out S1.out S2.out (HC_one _) ?_
       refine wplB_gen (fun w3 hw3 => ?_)
       have hL3 : BookL w3 r t (.slice ad L.length c) L s f := by rw [hw3]; exact HL2.out.setNew (by have := HN1.out; have := HN2.out; omega) HVN.out (HC (getV L e))
       have hR4 : Blk w3 w.heap.size (HC p) 28 := by rw [hw3]; exact (setRow_other _ _ _ _ (by have := HN1.out; omega)).trans HR2.out
       have hR5 : Blk w3 w2.heap.size (HC (getV L e)) 28 := by rw [hw3]; exact HR3.out.setRow _
       have hG3 : w.grownBy w3 (some r) := by rw [hw3]; exact grown_setRow HG2.out _ (.inl (Nat.le_of_lt HN1.out))
       have c2 : w3.cell? ⟨r, 2, none⟩ = some (.slice ad L.length c) := hL3.blk.cell 2
       have HL3 := Lib.hid hL3; have HR4 := Lib.hid hR4; have HR5 := Lib.hid hR5; have HG3 := Lib.hid hG3
       clear hw3 hL3 hR4 hR5 hG3)
    | (refine list_wanted rfl ?_; refine wpList_load_row rfl 28 _ rfl w2.heap.size rfl 28 (HC (getV L e)) (0, 0) _ HR5.out Tryz.underlying28 rfl S1.out ?_)
    | (refine list_wanted rfl ?_; refine wpList_load_row rfl 28 _ rfl w.heap.size rfl 28 (HC p) (0, 0) _ HR4.out Tryz.underlying28 rfl S3.out ?_))
  have hs12 : ∀ {S : Nat → Bool}, (∀ k, S k = true → ∀ j ∈ ([[], [], [1], [2], [3], [], [], [5, 6], [7], [4, 8], [0, 9], [10], [11, 9]] : List (List Nat)).getD k [], S j = true) → S 9 = false → S 12 = false := fun {S} hcl h9 => by
    cases h : S 12 with
    | false => rfl
    | true => have := hcl 12 h 9 (by simp); rw [h9] at this; cases this
  have hA0 : w.heap.size ≠ r := by have := HN2.out; omega
  have hV1 : (Value.slice ad L.length c).ownBlock ≠ some r := HL3.out.sep
  have hV2 : (Value.slice ad L.length c).ownBlock ≠ some w.heap.size := fun e => by have h := HH.out.own.2; rcases h with ⟨e1, _⟩ | ⟨q, cap, cur, e1, _, h5, _⟩ <;> rw [e1] at e <;> cases e; exact absurd (Array.getElem?_eq_some_iff.1 h5).1 (Nat.lt_irrefl _)
  have hV3 := HL3.out.lt
  have hr3 : r < w3.heap.size := HL3.out.blk.lt
  refine region_inv (JB w3 r w.heap.size t (.slice ad L.length c) L s f e p) [[], [], [1], [2], [3], [], [], [5, 6], [7], [4, 8], [0, 9], [10], [11, 9]] (by kernel_rfl) (by kernel_rfl) (by kernel_rfl)
    ⟨⟨rfl, rfl, rfl, Nat.le_refl _, fun _ _ _ => rfl⟩, HR4.out.drew, (fun k x hk => Bool.noConfusion hk), (fun hk => Bool.noConfusion hk), (fun _ => HL3.out.own), (fun hk => Bool.noConfusion hk), (fun _ => HL3.out.blk.drew), (fun hk => Bool.noConfusion hk), (fun hk => Bool.noConfusion hk)⟩ ?_ ?_
  · refine ⟨?_, ?_, ?_, ?_, ?_, ?_, ?_, ?_, ?_, ?_, ?_, ?_, ?_, trivial⟩
    · intro S vals wj hJ hSi hD hcl
      refine opv rfl ?_ (hJ.pure (i := 0) rfl)
      simp [execOp, putAll, Act.put, Act.eval, Instr.fieldAt, go_sem]
    · intro S vals wj hJ hSi hD hcl
      refine opv rfl ?_ (hJ.pure (i := 1) rfl)
      simp [execOp, putAll, Act.put, Act.eval, Instr.fieldAt, go_sem]
    · intro S vals wj hJ hSi hD hcl
      have d1 := hJ.val 1 _ (hD 1 (by simp)) rfl
      refine opv rfl ?_ (hJ.pure (i := 2) rfl)
      simp [execOp, putAll, Act.put, Act.eval, Instr.fieldAt, go_sem, d1]
    · intro S vals wj hJ hSi hD hcl
      have d2 := hJ.val 2 _ (hD 2 (by simp)) rfl
      refine opv rfl ?_ (hJ.pure (i := 3) rfl)
      simp [execOp, putAll, Act.put, Act.eval, Instr.fieldAt, go_sem, d2]
    · intro S vals wj hJ hSi hD hcl
      have d3 := hJ.val 3 _ (hD 3 (by simp)) rfl
      have h9 : S 9 = false := by cases h : S 9 with | false => rfl | true => have := hcl 9 h 4 (by simp); rw [hSi] at this; cases this
      have c9 : wj.cell? ⟨r, 2, none⟩ = some (.slice ad L.length c) := (hJ.blk0 (hs12 hcl h9)).cell 2
      refine opv rfl ?_ (hJ.pure (i := 4) rfl)
      simp [execOp, putAll, Act.put, Act.eval, go_sem, d3, c9]
    · intro S vals wj hJ hSi hD hcl
      refine opv rfl ?_ (hJ.pure (i := 5) rfl)
      simp [execOp, putAll, Act.put, Act.eval, Instr.fieldAt, go_sem]
    · intro S vals wj hJ hSi hD hcl
      have := run_loadVar_row (P := Tryz.prog) wj w.heap.size 28 28 (HC p) (0, 0) _ hJ.paper Tryz.underlying28 rfl S3.out
      exact opv rfl (exec_load rfl (by simp [putAll, Act.put, Act.eval]) this) (hJ.pure (i := 6) rfl)
    · intro S vals wj hJ hSi hD hcl
      have d5 := hJ.val 5 _ (hD 5 (by simp)) rfl
      have d6 := hJ.val 6 _ (hD 6 (by simp)) rfl
      refine opv rfl ?_ (hJ.pure (i := 7) rfl)
      have := run_build wj 100 _ _ (built_line e HP.out)
      simp [execOp, putAll, Act.put, Act.eval, d5, d6, this, Sem.run_bind]
    · intro S vals wj hJ hSi hD hcl
      have d7 := hJ.val 7 _ (hD 7 (by simp)) rfl
      have h9 : S 9 = false := by cases h : S 9 with | false => rfl | true => have := hcl 9 h 8 (by simp); rw [hSi] at this; cases this
      refine opv rfl ?_ (hJ.alloc h9 (hs12 hcl h9))
      have := slice_line wj e HP.out
      simp [execOp, putAll, Act.put, Act.eval, d7, this, Sem.run_bind]
    · intro S vals wj hJ hSi hD hcl
      have d4 := hJ.val 4 _ (hD 4 (by simp)) rfl
      obtain ⟨g, k1, k2, k3⟩ := hJ.x8 (hD 8 (by simp))
      obtain ⟨v', wn, k4, k5, k6, k7⟩ := append_line wj e HP.out 94 (by have := HF.out; omega) (hJ.old hSi) k2
      refine opv rfl ?_ (hJ.app hSi (hs12 hcl hSi) k5 k6 k7 hV1 hV2 hV3)
      simp [execOp, putAll, Act.put, Act.eval, d4, k1, resolve, invoke, builtin, k4, Sem.run_bind]
    · intro S vals wj hJ hSi hD hcl
      have d0 := hJ.val 0 _ (hD 0 (by simp)) rfl
      refine opv rfl ?_ (hJ.pure (i := 10) rfl)
      simp [execOp, putAll, Act.put, Act.eval, Instr.fieldAt, go_sem, d0]
    · intro S vals wj hJ hSi hD hcl
      have d10 := hJ.val 10 _ (hD 10 (by simp)) rfl
      refine opv rfl ?_ (hJ.pure (i := 11) rfl)
      simp [execOp, putAll, Act.put, Act.eval, Instr.fieldAt, go_sem, d10]
    · intro S vals wj hJ hSi hD hcl
      have d11 := hJ.val 11 _ (hD 11 (by simp)) rfl
      have z9 := (hJ.blk0 hSi).frozen 2
      have z8 : wj.cell? ⟨r, 2, none⟩ = some (.slice ad L.length c) := (hJ.blk0 hSi).cell 2
      obtain ⟨ad9, c9, hv9⟩ := run_len_any (hJ.new (hD 9 (by simp))).1
      refine ops_ rfl ?_ (hJ.store (hD 9 (by simp)) hSi hA0 hr3 hV1 undef)
      simp [execOp, putAll, Act.put, Act.eval, go_sem, d11, z9, z8, hv9]
  · intro vals wz hJ
    have e0 := hJ.val 0 _ rfl rfl
    have e1 := hJ.val 1 _ rfl rfl
    have e2 := hJ.val 2 _ rfl rfl
    have e3 := hJ.val 3 _ rfl rfl
    have e4 := hJ.val 4 _ rfl rfl
    have e5 := hJ.val 5 _ rfl rfl
    have e6 := hJ.val 6 _ rfl rfl
    have e7 := hJ.val 7 _ rfl rfl
    have e10 := hJ.val 10 _ rfl rfl
    have e11 := hJ.val 11 _ rfl rfl
    obtain ⟨n1, n2⟩ := hJ.new rfl
    have n3 := hJ.blk1 rfl
    have n4 := hJ.grown
    have hlen2 : (L ++ [(e, p)]).length = L.length + 1 := by simp
    have hok : ∀ x ∈ L ++ [(e, p)], x.2.length = 32 := by
      intro x hx
      rcases List.mem_append.1 hx with hx | hx
      · exact HH.out.len x hx
      · rcases List.mem_cons.1 hx with rfl | hx
        · exact HP.out
        · cases hx
    generalize hV9 : vals 9 = V9 at n1 n2 n3
    have N1 := Lib.hid n1; have N2 := Lib.hid n2; have N3 := Lib.hid n3; have N4 := Lib.hid n4; have HOK := Lib.hid hok; have H1 := Lib.hid hV1
    clear n1 n2 n3 n4 hok hJ hV1 hV2 hV3 hr3 hA0 hs12 hlen2
    simp [putAll, List.range, List.range.loop, Act.put, e0, e1, e2, e3, e4, e5, e6, e7, e10, e11, hV9]
    clear hV9 e0 e1 e2 e3 e4 e5 e6 e7 e10 e11
    go_wp2_with fail
    refine leaves_cons (f := 34) (args := #[.pointer (some ⟨r, 0, none⟩)]) (by simp) (by simp [go_sem]) ?_
    refine (unlock_deferred ⟨r, 0, none⟩ _ _ (N3.out.cell 0) (N3.out.frozen 0)).mono ?_
    rintro x4 u' w4 ⟨rfl, rfl, hw4⟩
    have hr3 : r < w3.heap.size := HL3.out.blk.lt
    have hk4 : Blk w4 r (BC 0 V9 s f) t := by rw [hw4]; exact (N3.out.set 0 _).copy rfl
    have hg4 : wz.grownBy w4 (some r) := by rw [hw4]; exact grown_setCell (grown_refl wz _) 0 _
    have hsep : V9.ownBlock ≠ some r := fun e1 => by
      rcases N2.out with e2 | ⟨q, e2, e3⟩
      · rw [e2] at e1; exact H1.out e1
      · rw [e2] at e1; cases e1; omega
    have hbw : BookW w4 r t V9 (L ++ [(e, p)]) s f := by
      refine ⟨hk4, ?_, hsep, HOK.out⟩
      have e1 : (L ++ [(e, p)]).length = L.length + 1 := by simp
      rw [e1]
      exact ownsRow_keep N1.out fun q hq hlt => hg4.block q hlt (fun e2 => hsep (by cases e2; exact hq))
    have hgw : GrownX (fun k => k = r ∨ (Value.slice ad L.length c).ownBlock = some k) w w4 := ((GrownX.ofBy HG3.out (.inl rfl)).trans N4.out).trans (.ofBy hg4 (.inl rfl))
    have hnb : V9.ownBlock = (Value.slice ad L.length c).ownBlock ∨ ∃ q, V9.ownBlock = some q ∧ w.heap.size ≤ q := N2.out.imp id fun ⟨q, e2, e3⟩ => ⟨q, e2, Nat.le_trans HG3.out.size e3⟩
    clear hw4
    simp [Leaves, settle, results, Tryz.results21]
    exact ⟨V9, hbw, hnb, hgw⟩
end
section
theorem cloneNil_walk(w:World)(m c:Nat):Calls Tryz.prog 69 #[.slice none m c] w fun x w'=>x=.returned (.slice none 0 0)∧w'=w:=by
 have qT:∀(w:World) (a:Option Addr) (n c:Nat),(binOp .eql 94 (.slice a n c) (.slice none 0 0)).run Tryz.prog w=.ok (.bool a.isNone) w:=fun w a n c=>Lib.run_eql_slice_nil w _ _ a n c 0 0 Tryz.underlying94
 go_enter Tryz.func69,Tryz.ntmps69
 go_wp2
 go_ret
 exact⟨rfl,rfl⟩
theorem wpList_run{P:Program}{ops:Array Oper}{rest:List Oper}{o:Oper}{a:Act}{w w2:World}{v:Value}{Q:Exit→Act→World→Prop}(hg:o.guard=none)(hr:(execOp a.eval o).run P w=.ok (.value v) w2)(h:wpList P ops Q rest (a.put o.dst v) w2):wpList P ops Q (o::rest) a w:=
 wpList_plain hg fun _ hK=>by unfold Oper.wp;rw[hr];exact hK _ _ h
theorem lnC_take(L:List Ln)(h:∀x∈L,x.2.length=32)(m:Nat):(lnC L).take (m*33)=lnC (L.take m):=by
 induction L generalizing m with
 |nil=>simp[lnC]
 |cons x L ih=>
  cases m with
  |zero=>simp[lnC]
  |succ m=>
   have hl:(Value.int .i64 x.1::HL x.2).length=33:=by simp[HL_length,h x (by simp)]
   have e:lnC (x::L)=(Value.int .i64 x.1::HL x.2)++lnC L:=rfl
   have e2:lnC ((x::L).take (m+1))=(Value.int .i64 x.1::HL x.2)++lnC (L.take m):=rfl
   rw[e,e2,List.take_append,hl,show(m+1)*33-33=m*33 by omega,ih (fun y hy=>h y (by simp[hy])),List.take_of_length_le (by rw[hl];omega)]
theorem lnC_one(L:List Ln):∀u∈lnC L,u.oneCell'=true:=by
 intro u hu
 obtain⟨x,_,hx⟩:=List.mem_flatMap.1 hu
 rcases List.mem_cons.1 hx with rfl|hx
 ·rfl
 ·exact HL_one _ u hx
theorem append_copy(w:World){q c n:Nat}{cur:Array Value}{L:List Ln}(hq:w.heap[q]?=some (.cells cur 100 (0,0)))(m:Nat)(hm:m≤L.length)(hL:L.length≤1000)(hl:∀x∈L,x.2.length=32)(hcur:cur.toList.take (L.length*33)=lnC L){g:Nat}(hg:w.heap[g]?=some (.cells #[] 100 (0,0)))(ty:TypeId):
  ∃v' w',(Builtin.append_ #[94,94] ty #[.slice (some ⟨g,0,none⟩) 0 0,.slice (some ⟨q,0,none⟩) m c]).run Tryz.prog w=.ok v' w'∧w'.ownsRow 0 100 33 v' m (lnC (L.take m))∧w.grownBy w' (some g)∧(v'.ownBlock=some g∨v'.ownBlock=some w.heap.size):=by
 obtain⟨i,hY,ha,he,hpl,hz,hsz,hby⟩:=line_ty
 obtain⟨f,z,h1,h2,h2b,h3,h4⟩:=(env0.hY _ i hY).info
 have hfs:f.size=33:=h2.trans hsz
 rw[hz]at h4
 have hzr:=zeroB_spec (S:=fun _=>True) (w:=w) h4
 have hzl:z.cells.size=33:=by have:=hzr.len;simpa[segN,Seg.n]using this
 have hnl:=lnC_length (L.take m) fun x hx=>hl x (List.mem_of_mem_take hx)
 rw[List.length_take,Nat.min_eq_left hm]at hnl
 obtain⟨v',w',k1,k2,k3,_,k5⟩:=run_append_own_at (P:=Tryz.prog) w 0 94 ty 100 f z 33 40 Tryz.underlying94 h1 h3 hfs (h2b.trans hby) hzl (by decide) (.slice (some ⟨g,0,none⟩) 0 0) 0 [] ⟨by simp,.inr ⟨g,0,#[],rfl,Nat.zero_le _,hg,Nat.le_refl _,Nat.zero_le _,by simp,by simp⟩⟩ ⟨q,0,none⟩ m c (lnC (L.take m)) hnl (fun j u hu=>by
   have hj:j<m*33:=by rw[←hnl];exact(List.getElem?_eq_some_iff.1 hu).1
   rw[add_at,Nat.zero_add,cell_of_row w q j cur _ (0,0) hq,←Array.getElem?_toList]
   rw[←lnC_take L hl m,←hcur,List.getElem?_take,if_pos hj,List.getElem?_take,if_pos (by have:=Nat.mul_le_mul_right 33 hm;omega)]at hu
   exact hu) (lnC_one _) (by unfold maxLen;omega) (by omega) (Nat.zero_le _)
 rw[Nat.zero_add,List.nil_append]at k2
 exact⟨v',w',k1,k2,k3,k5⟩
set_option maxRecDepth 100000 in
theorem clone_walk (w : World) (q m c : Nat) {cur : Array Value} {L : List Ln} (hq : w.heap[q]? = some (.cells cur 100 (0, 0))) (hm : m ≤ L.length) (hL : L.length ≤ 1000) (hl : ∀ x ∈ L, x.2.length = 32) (hcur : cur.toList.take (L.length * 33) = lnC L) :
    Calls Tryz.prog 69 #[.slice (some ⟨q, 0, none⟩) m c] w fun x w' => ∃ v', x = .returned v' ∧ w'.ownsRow 0 100 33 v' m (lnC (L.take m)) ∧ Below w.heap.size w w' ∧ ∀ z, v'.ownBlock = some z → w.heap.size ≤ z := by
  have qT : ∀ (w : World) (a : Option Addr) (n c : Nat), (binOp .eql 94 (.slice a n c) (.slice none 0 0)).run Tryz.prog w = .ok (.bool a.isNone) w := fun w a n c => Lib.run_eql_slice_nil w _ _ a n c 0 0 Tryz.underlying94
  have hq2 : (w.alloc (.cells #[] 100)).heap[q]? = some (.cells cur 100 (0, 0)) := (Below.heap_alloc _ _ _ (Array.getElem?_eq_some_iff.1 hq).1).trans hq
  obtain ⟨v', wn, k1, k2, k3, k4⟩ := append_copy (w.alloc (.cells #[] 100)) (c := c) (n := m) hq2 m hm hL hl hcur (heap_alloc_new w _) 94
  have hb : Below w.heap.size w wn := ((Below.refl _ _).alloc (Nat.le_refl _) _).grown k3 (by rw [size_alloc]; omega) (by intro k e; cases e; exact Nat.le_refl _)
  have hz : ∀ z, v'.ownBlock = some z → w.heap.size ≤ z := fun z e => by
    rcases k4 with k4 | k4 <;> rw [k4] at e <;> cases e
    · exact Nat.le_refl _
    · rw [size_alloc]; omega
  have K1 := Lib.hid k1; have K2 := Lib.hid k2; have HB := Lib.hid hb; have HZ := Lib.hid hz
  clear k1 k2 k3 k4 hb hz hq hq2 hm hL hl hcur
  go_enter Tryz.func69, Tryz.ntmps69
  go_wp2_with (at_builtin
               refine wpList_run (v := v') (w2 := wn) rfl (by simp [execOp, Act.eval, resolve, invoke, builtin, K1.out, Sem.run_bind]) ?_)
  go_ret
  exact ⟨_, rfl, K2.out, HB.out, HZ.out⟩
end
section
def leftN(n s:Nat)(keep:Int):Nat:=s+min keep.toNat (n-s)
theorem leftN_le{n s:Nat}(h:s≤n)(keep:Int):leftN n s keep≤n:=by unfold leftN;omega
def cstC(r:Nat)(V:Value)(n s:Nat)(keep:Int):Nat→Option Value
 |0=>some (.pointer (some ⟨r,0,none⟩))
 |1=>some (.pointer (some ⟨r,0,none⟩))
 |2=>some (.pointer (some ⟨r,3,none⟩))
 |3=>some (.int .i64 s)
 |4=>some (.int .i64 keep)
 |5=>some (.int .i64 (max keep 0))
 |6=>some (.pointer (some ⟨r,0,none⟩))
 |7=>some (.pointer (some ⟨r,0,none⟩))
 |8=>some (.pointer (some ⟨r,2,none⟩))
 |9=>some V
 |10=>some (.int .i64 n)
 |11=>some (.pointer (some ⟨r,0,none⟩))
 |12=>some (.pointer (some ⟨r,0,none⟩))
 |13=>some (.pointer (some ⟨r,3,none⟩))
 |14=>some (.int .i64 s)
 |15=>some (.int .i64 ((n:Int) -s))
 |16=>some (.int .i64 (min (max keep 0) ((n:Int) -s)))
 |17=>some (.int .i64 (leftN n s keep))
 |18=>some (.int .i64 (leftN n s keep))
 |_=>none
structure JC(w0:World)(r:Nat)(V:Value)(n s:Nat)(keep:Int)(S:Nat→Bool)(vals:Nat→Value)(w:World):Prop where
 w:w=w0
 val:∀k x,S k=true→cstC r V n s keep k=some x→vals k=x
theorem JC.pure{w0:World}{r:Nat}{V:Value}{n s:Nat}{keep:Int}{S:Nat→Bool}{vals:Nat→Value}{w:World}(h:JC w0 r V n s keep S vals w){i:Nat}{x:Value}(hc:cstC r V n s keep i=some x):JC w0 r V n s keep (add1 S i) (fun j=>if j=i then x else vals j) w:=by
 refine⟨h.w,fun k y hk hy=>?_⟩
 by_cases e1:k=i
 ·subst e1;rw[hc]at hy;cases hy;exact if_pos rfl
 ·rw[add1_other S e1]at hk;show(if k=i then x else vals k)=y;rw[if_neg e1];exact h.val k y hk hy
theorem left_int{n s:Nat}(h:s≤n)(keep:Int):(s:Int)+min (max keep 0) ((n:Int) -s)=(leftN n s keep:Nat):=by unfold leftN;omega
theorem built_book{v:Value}(hv:v.oneCell'=true)(z:Int):Tryz.prog.built 96 [(1,v),(2,.int .i64 z)]=some (BC 0 v z 0):=by
 obtain⟨i,hY,ha,he,hpl,hz⟩:∃i,env0.Y 96=some i∧i.agg=true∧i.esz=0∧i.plc=[(0,2),(2,1),(3,1),(4,1)]∧i.zero=[.ints .i32 1 [0],.ints .u32 1 [0],.gen 1 [.v (.slice none 0 0)],.ints .i64 2 [0,0]]:=⟨_,rfl,rfl,rfl,rfl,rfl⟩
 obtain⟨f,z0,h1,h2,_,h3,h4⟩:=(env0.hY _ i hY).info
 obtain⟨fs,k1,k2⟩:=(env0.hY _ i hY).plc ha he
 rw[hz]at h4
 obtain⟨l',rfl,hf⟩:=fillA_spec (off:=fun q=>i.plc[q]?) (s:=⟨[.d (.v v),.d (.v (.int .i64 z))],[]⟩) (parts:=[(1,.tmp 0),(2,.tmp 1)]) (l:=[.ints .i32 1 [0],.ints .u32 1 [0],.gen 1 [.v (.slice none 0 0)],.ints .i64 2 [0,0]]) (K:=fun l=>l=[.ints .i32 1 [0],.ints .u32 1 [0],.gen 1 [.v v],.ints .i64 2 [z,0]]) (by rw[hpl];exact⟨by decide,rfl,hv,by decide,rfl,rfl,rfl⟩)
 obtain⟨cs',h5,h6⟩:=hf (D:=fun _=>True) (w:=default) (ρ:=fun _=>none) (fun x=>match x with| .tmp 0=>v|_=>.int .i64 z) z0.cells (fun q hq=>by
  rcases List.mem_cons.1 hq with rfl|hq
  ·exact .v _
  ·rcases List.mem_cons.1 hq with rfl|hq
   ·exact .v _
   ·cases hq) (zeroB_spec h4)
 have h9:cs'=BC 0 v z 0:=by
  obtain⟨c1,d1,e1,g1,r1,_⟩:=h6.head
  obtain⟨c2,d2,e2,g2,r2,_⟩:=r1.head
  obtain⟨c3,d3,e3,g3,r3,_⟩:=r2.head
  obtain⟨_,rfl⟩:=g1.toInts
  obtain⟨_,rfl⟩:=g2.toInts
  obtain⟨_,g3⟩:=g3.toGen
  obtain⟨_,rfl⟩:=r3.toInts
  cases g3 with
  |cons g4 _ g5=>
   cases g5;cases g4
   apply Array.toList_inj.1
   rw[e1,e2,e3];rfl
 subst h9
 have h1':Tryz.prog.info? 96=some f:=h1
 have k1':Tryz.prog.underlying 96=some (.struct fs):=k1
 have k2':fs.toList.mapM (fun f=>(Tryz.prog.info? f.type).map fun j=>(f.offset,j.size))=some i.plc:=k2
 unfold Program.built
 simp only[h1',k1',h3,k2']
 have e9:(fun x:Nat=>i.plc.toArray[x]?)=fun q:Nat=>i.plc[q]?:=by funext q;simp
 rw[e9]
 exact h5
set_option maxRecDepth 100000 in
set_option maxHeartbeats 1000000 in
theorem crash_walk(w:World)(r:Nat)(t:TypeId)(v:Value)(L:List Ln)(s:Nat)(f keep:Int)(hs:s≤L.length)(hL:L.length≤1000)(hk: -9223372036854775808≤keep∧keep≤9223372036854775807)(h:BookW w r t v L s f):
  Calls Tryz.prog 45 #[.pointer (some ⟨r,0,none⟩),.int .i64 keep] w fun x w'=>∃g v',x=.returned (.pointer (some ⟨g,0,none⟩))∧Blk w' r (BC 0 v s f) t∧BookW w' g 96 v' (L.take (leftN L.length s keep)) (leftN L.length s keep:Nat) 0∧w.heap.size≤g∧(∀z,v'.ownBlock=some z→w.heap.size≤z)∧w.grownBy w' (some r):=by
 have hb:=h.blk
 obtain⟨ad,c,rfl⟩:=run_len_any h.own
 have hb1:Blk (w.setCell ⟨r,0,none⟩ (.int .i32 1)) r (BC 1 (.slice ad L.length c) s f) t:=(hb.set 0 _).copy rfl
 have hg1:w.grownBy (w.setCell ⟨r,0,none⟩ (.int .i32 1)) (some r):=grown_setCell (grown_refl w _) 0 _
 have c2:(w.setCell ⟨r,0,none⟩ (.int .i32 1)).cell? ⟨r,2,none⟩=some (.slice ad L.length c):=hb1.cell 2
 have c3:(w.setCell ⟨r,0,none⟩ (.int .i32 1)).cell? ⟨r,3,none⟩=some (.int .i64 s):=hb1.cell 3
 have HB:=Lib.hid hb;have HB1:=Lib.hid hb1;have HG1:=Lib.hid hg1;have HH:=Lib.hid h;have HS:=Lib.hid hs;have HL:=Lib.hid hL;have HK:=Lib.hid hk
 clear hb hb1 hg1 h hs hL hk
 go_enter_defers Tryz.func45,Tryz.ntmps45
 go_wp2_with (go_at_call 33;refine(lock_free ⟨r,0,none⟩ _ (HB.out.cell 0) (HB.out.frozen 0)).mono ?_;rintro e w' ⟨rfl,rfl⟩)
 have hle:=leftN_le HS.out keep
 have hw1:IntKind.i64.wrap ((L.length:Int) -s)=(L.length:Int) -s:=wrapS (by have:=HS.out;have:=HL.out;omega) (by have:=HS.out;have:=HL.out;omega)
 have hw2:IntKind.i64.wrap ((s:Int)+min (max keep 0) ((L.length:Int) -s))=(leftN L.length s keep:Nat):=by rw[left_int HS.out];exact wrapS (by omega) (by have:=HL.out;omega)
 have W1:=Lib.hid hw1;have W2:=Lib.hid hw2;have C2:=Lib.hid c2;have C3:=Lib.hid c3
 clear hw1 hw2 hle c2 c3
 refine region_inv (JC (w.setCell ⟨r,0,none⟩ (.int .i32 1)).drew r (.slice ad L.length c) L.length s keep) [[],[0],[1],[2],[],[4],[],[6],[7],[8],[9],[],[11],[12],[13],[10,14],[5,15],[3,16],[17]] (by kernel_rfl) (by kernel_rfl) (by kernel_rfl) ⟨rfl,fun k x hk=>Bool.noConfusion hk⟩ ?_ ?_
 ·refine⟨?_,?_,?_,?_,?_,?_,?_,?_,?_,?_,?_,?_,?_,?_,?_,?_,?_,?_,?_,trivial⟩
  ·intro S vals wj hJ hSi hD hcl
   obtain⟨rfl,_⟩:=id hJ
   refine opv rfl ?_ (hJ.pure (i:=0) rfl)
   simp[execOp,putAll,Act.put,Act.eval,Instr.fieldAt,go_sem]
  ·intro S vals wj hJ hSi hD hcl
   obtain⟨rfl,_⟩:=id hJ
   have d0:=hJ.val 0 _ (hD 0 (by simp)) rfl
   refine opv rfl ?_ (hJ.pure (i:=1) rfl)
   simp[execOp,putAll,Act.put,Act.eval,Instr.fieldAt,go_sem,d0]
  ·intro S vals wj hJ hSi hD hcl
   obtain⟨rfl,_⟩:=id hJ
   have d1:=hJ.val 1 _ (hD 1 (by simp)) rfl
   refine opv rfl ?_ (hJ.pure (i:=2) rfl)
   simp[execOp,putAll,Act.put,Act.eval,Instr.fieldAt,go_sem,d1]
  ·intro S vals wj hJ hSi hD hcl
   obtain⟨rfl,_⟩:=id hJ
   have d2:=hJ.val 2 _ (hD 2 (by simp)) rfl
   refine opv rfl ?_ (hJ.pure (i:=3) rfl)
   simp[execOp,putAll,Act.put,Act.eval,Instr.fieldAt,go_sem,d2,C3.out]
  ·intro S vals wj hJ hSi hD hcl
   obtain⟨rfl,_⟩:=id hJ
   refine opv rfl ?_ (hJ.pure (i:=4) rfl)
   simp[execOp,putAll,Act.put,Act.eval,Instr.fieldAt,go_sem]
  ·intro S vals wj hJ hSi hD hcl
   obtain⟨rfl,_⟩:=id hJ
   have d4:=hJ.val 4 _ (hD 4 (by simp)) rfl
   refine opv rfl ?_ (hJ.pure (i:=5) rfl)
   simp[execOp,putAll,Act.put,Act.eval,Instr.fieldAt,go_sem,d4,resolve,invoke,builtin]
   omega
  ·intro S vals wj hJ hSi hD hcl
   obtain⟨rfl,_⟩:=id hJ
   refine opv rfl ?_ (hJ.pure (i:=6) rfl)
   simp[execOp,putAll,Act.put,Act.eval,Instr.fieldAt,go_sem]
  ·intro S vals wj hJ hSi hD hcl
   obtain⟨rfl,_⟩:=id hJ
   have d6:=hJ.val 6 _ (hD 6 (by simp)) rfl
   refine opv rfl ?_ (hJ.pure (i:=7) rfl)
   simp[execOp,putAll,Act.put,Act.eval,Instr.fieldAt,go_sem,d6]
  ·intro S vals wj hJ hSi hD hcl
   obtain⟨rfl,_⟩:=id hJ
   have d7:=hJ.val 7 _ (hD 7 (by simp)) rfl
   refine opv rfl ?_ (hJ.pure (i:=8) rfl)
   simp[execOp,putAll,Act.put,Act.eval,Instr.fieldAt,go_sem,d7]
  ·intro S vals wj hJ hSi hD hcl
   obtain⟨rfl,_⟩:=id hJ
   have d8:=hJ.val 8 _ (hD 8 (by simp)) rfl
   refine opv rfl ?_ (hJ.pure (i:=9) rfl)
   simp[execOp,putAll,Act.put,Act.eval,Instr.fieldAt,go_sem,d8,C2.out]
  ·intro S vals wj hJ hSi hD hcl
   obtain⟨rfl,_⟩:=id hJ
   have d9:=hJ.val 9 _ (hD 9 (by simp)) rfl
   refine opv rfl ?_ (hJ.pure (i:=10) rfl)
   simp[execOp,putAll,Act.put,Act.eval,Instr.fieldAt,go_sem,d9,resolve,invoke,builtin]
  ·intro S vals wj hJ hSi hD hcl
   obtain⟨rfl,_⟩:=id hJ
   refine opv rfl ?_ (hJ.pure (i:=11) rfl)
   simp[execOp,putAll,Act.put,Act.eval,Instr.fieldAt,go_sem]
  ·intro S vals wj hJ hSi hD hcl
   obtain⟨rfl,_⟩:=id hJ
   have d11:=hJ.val 11 _ (hD 11 (by simp)) rfl
   refine opv rfl ?_ (hJ.pure (i:=12) rfl)
   simp[execOp,putAll,Act.put,Act.eval,Instr.fieldAt,go_sem,d11]
  ·intro S vals wj hJ hSi hD hcl
   obtain⟨rfl,_⟩:=id hJ
   have d12:=hJ.val 12 _ (hD 12 (by simp)) rfl
   refine opv rfl ?_ (hJ.pure (i:=13) rfl)
   simp[execOp,putAll,Act.put,Act.eval,Instr.fieldAt,go_sem,d12]
  ·intro S vals wj hJ hSi hD hcl
   obtain⟨rfl,_⟩:=id hJ
   have d13:=hJ.val 13 _ (hD 13 (by simp)) rfl
   refine opv rfl ?_ (hJ.pure (i:=14) rfl)
   simp[execOp,putAll,Act.put,Act.eval,Instr.fieldAt,go_sem,d13,C3.out]
  ·intro S vals wj hJ hSi hD hcl
   obtain⟨rfl,_⟩:=id hJ
   have d10:=hJ.val 10 _ (hD 10 (by simp)) rfl
   have d14:=hJ.val 14 _ (hD 14 (by simp)) rfl
   refine opv rfl ?_ (hJ.pure (i:=15) rfl)
   simp[execOp,putAll,Act.put,Act.eval,Instr.fieldAt,go_sem,d10,d14,W1.out]
  ·intro S vals wj hJ hSi hD hcl
   obtain⟨rfl,_⟩:=id hJ
   have d5:=hJ.val 5 _ (hD 5 (by simp)) rfl
   have d15:=hJ.val 15 _ (hD 15 (by simp)) rfl
   refine opv rfl ?_ (hJ.pure (i:=16) rfl)
   simp[execOp,putAll,Act.put,Act.eval,Instr.fieldAt,go_sem,d5,d15,resolve,invoke,builtin]
   omega
  ·intro S vals wj hJ hSi hD hcl
   obtain⟨rfl,_⟩:=id hJ
   have d3:=hJ.val 3 _ (hD 3 (by simp)) rfl
   have d16:=hJ.val 16 _ (hD 16 (by simp)) rfl
   refine opv rfl ?_ (hJ.pure (i:=17) rfl)
   simp[execOp,putAll,Act.put,Act.eval,Instr.fieldAt,go_sem,d3,d16,W2.out]
  ·intro S vals wj hJ hSi hD hcl
   obtain⟨rfl,_⟩:=id hJ
   have d17:=hJ.val 17 _ (hD 17 (by simp)) rfl
   refine opv rfl ?_ (hJ.pure (i:=18) rfl)
   simp[execOp,putAll,Act.put,Act.eval,Instr.fieldAt,go_sem,d17]
 ·intro vals wz hJ
  obtain⟨rfl,_⟩:=id hJ
  have e0:=hJ.val 0 _ rfl rfl
  have e1:=hJ.val 1 _ rfl rfl
  have e2:=hJ.val 2 _ rfl rfl
  have e3:=hJ.val 3 _ rfl rfl
  have e4:=hJ.val 4 _ rfl rfl
  have e5:=hJ.val 5 _ rfl rfl
  have e6:=hJ.val 6 _ rfl rfl
  have e7:=hJ.val 7 _ rfl rfl
  have e8:=hJ.val 8 _ rfl rfl
  have e9:=hJ.val 9 _ rfl rfl
  have e10:=hJ.val 10 _ rfl rfl
  have e11:=hJ.val 11 _ rfl rfl
  have e12:=hJ.val 12 _ rfl rfl
  have e13:=hJ.val 13 _ rfl rfl
  have e14:=hJ.val 14 _ rfl rfl
  have e15:=hJ.val 15 _ rfl rfl
  have e16:=hJ.val 16 _ rfl rfl
  have e17:=hJ.val 17 _ rfl rfl
  have e18:=hJ.val 18 _ rfl rfl
  simp[putAll,List.range,List.range.loop,Act.put,e0,e1,e2,e3,e4,e5,e6,e7,e8,e9,e10,e11,e12,e13,e14,e15,e16,e17,e18]
  clear e0 e1 e2 e3 e4 e5 e6 e7 e8 e9 e10 e11 e12 e13 e14 e15 e16 e17 e18 hJ
  have hlc:((leftN L.length s keep:Nat):Int)≤(c:Int):=by
   have:=leftN_le HS.out keep
   rcases HH.out.own.2 with⟨e1,e2⟩|⟨q,cap,cur,e1,_,_,e2,_⟩<;>simp only[Value.slice.injEq]at e1<;>omega
  rcases HH.out.own.2 with⟨e1,e2⟩|⟨q,cap,cur,e1,e3,e4,e5,e6,e7,e8⟩
  ·simp only[Value.slice.injEq]at e1
   obtain⟨rfl,_,rfl⟩:=e1
   obtain rfl:L=[]:=List.length_eq_zero_iff.1 e2
   obtain⟨m,hm⟩:∃m,leftN ([]:List Ln).length s keep=m:=⟨_,rfl⟩
   have hm0:m=0:=by rw[←hm];exact Nat.le_zero.1 (leftN_le HS.out keep)
   have hlm:((m:Nat):Int)≤0:=by omega
   have HM:=Lib.hid hm;have HM0:=Lib.hid hm0
   clear hlc W1 W2 hm0
   rw[hm]
   clear hm
   have c2:(w.setCell ⟨r,0,none⟩ (.int .i32 1)).drew.cell? ⟨r,2,none⟩=some (.slice none 0 0):=C2.out
   go_wp2_with fail
   refine(cloneNil_walk _ m 0).mono ?_
   rintro x2 w2 ⟨hx2,hw2⟩
   obtain⟨v',rfl,k1,k2,k3⟩:∃v',x2=.returned v'∧w2.ownsRow 0 100 33 v' (m) (lnC (([]:List Ln).take (m)))∧Below (w.setCell ⟨r,0,none⟩ (.int .i32 1)).drew.heap.size (w.setCell ⟨r,0,none⟩ (.int .i32 1)).drew w2∧∀z,v'.ownBlock=some z→(w.setCell ⟨r,0,none⟩ (.int .i32 1)).drew.heap.size≤z:=by
    have e9:m=0:=HM0.out
    refine⟨_,hx2,?_,by rw[hw2];exact Below.refl _ _,fun z e1=>by cases e1⟩
    rw[e9];exact⟨rfl,.inl ⟨rfl,rfl⟩⟩
   clear hx2 hw2
   have hv1:v'.oneCell'=true:=by obtain⟨a9,c9,rfl⟩:=run_len_any k1;rfl
   have kb:=run_build (P:=Tryz.prog) w2 96 _ _ (built_book hv1 (m:Nat))
   have KO:=Lib.hid k1;have KW:=Lib.hid k2;have KZ:=Lib.hid k3;have KB:=Lib.hid kb
   clear k1 k2 k3 kb hv1 c2
   go_wp2_with (refine wpList_run (v:=.agg (BC 0 v' (m:Nat) 0)) (w2:=w2) rfl ?_ ?_;(focus (simp[execOp,Act.eval,KB.out,Sem.run_bind];done)))
   have hB3:BookW (w2.alloc (.cells (BC 0 v' (m:Nat) 0) 96)) w2.heap.size 96 v' (([]:List Ln).take (m)) (m:Nat) 0:=by
    refine⟨Blk.newAt _ _ rfl,?_,fun e1=>?_,fun x hx=>HH.out.len x (List.mem_of_mem_take hx)⟩
    ·have e1:(([]:List Ln).take (m)).length=m:=by rw[List.length_take];exact Nat.min_eq_left (by have:=HM0.out;omega)
     rw[e1]
     exact ownsRow_keep KO.out fun q _ hq=>Below.heap_alloc _ _ _ hq
    ·rcases KO.out.2 with⟨e2,_⟩|⟨q,cap,cur,e2,_,h5,_⟩<;>rw[e2]at e1<;>cases e1
     exact absurd (Array.getElem?_eq_some_iff.1 h5).1 (Nat.lt_irrefl _)
   have hs1:(w.setCell ⟨r,0,none⟩ (.int .i32 1)).drew.heap.size=w.heap.size:=by simp[World.setCell,World.drew]
   have hk3:Blk (w2.alloc (.cells (BC 0 v' (m:Nat) 0) 96)) r (BC 1 (.slice none ([]:List Ln).length 0) s f) t:=((HB1.out.drew.keep KW.out)).keep ((Below.refl _ _).alloc (Nat.le_refl _) _)
   have hg3:w.grownBy (w2.alloc (.cells (BC 0 v' (m:Nat) 0) 96)) (some r):=grown_trans (grown_trans (grown_drew HG1.out) (grownB KW.out)) (grown_alloc w2 _ _)
   have hrn:r<w.heap.size:=HB.out.lt
   have hle2:w.heap.size≤w2.heap.size:=by have:=KW.out.size;rw[hs1]at this;exact this
   have hz3:∀z,v'.ownBlock=some z→w.heap.size≤z:=fun z e1=>by have:=KZ.out z e1;rw[hs1]at this;exact this
   refine leaves_cons (f:=34) (args:=#[.pointer (some ⟨r,0,none⟩)]) (by simp) (by simp[go_sem]) ?_
   refine(unlock_deferred ⟨r,0,none⟩ _ _ (hk3.cell 0) (hk3.frozen 0)).mono ?_
   rintro x4 u' w4 ⟨rfl,rfl,hw4⟩
   have hk4:Blk w4 r (BC 0 (.slice none ([]:List Ln).length 0) s f) t:=by rw[hw4];exact(hk3.set 0 _).copy rfl
   have hg4:w.grownBy w4 (some r):=by rw[hw4];exact grown_setCell hg3 0 _
   have hg5:(w2.alloc (.cells (BC 0 v' (m:Nat) 0) 96)).grownBy w4 (some r):=by rw[hw4];exact grown_setCell (grown_refl _ _) 0 _
   have hB4:BookW w4 w2.heap.size 96 v' (([]:List Ln).take (m)) (m:Nat) 0:=by
    refine⟨(hg5.block _ hB3.blk.lt (fun e1=>by cases e1;omega)).trans hB3.blk,ownsRow_keep hB3.own fun q hq hlt=>hg5.block q hlt (fun e1=>by cases e1;have:=hz3 _ hq;omega),hB3.sep,hB3.len⟩
   clear hw4
   exact⟨_,results_tmp rfl _ _ _,w2.heap.size,v',rfl,hk4,by rw[HM.out];exact hB4,hle2,hz3,hg4⟩
  ·cases e1
   have c2:(w.setCell ⟨r,0,none⟩ (.int .i32 1)).drew.cell? ⟨r,2,none⟩=some (.slice (some ⟨q,0,none⟩) L.length c):=C2.out
   have had:(⟨q,0,none⟩:Addr).add 0=⟨q,0,none⟩:=add_at q 0 0
   have hqr:q≠r:=fun e1=>HH.out.sep (by rw[e1];rfl)
   have hq3:(w.setCell ⟨r,0,none⟩ (.int .i32 1)).drew.heap[q]?=some (.cells cur 100 (0,0)):=(heap_setCell_other w ⟨r,0,none⟩ q _ hqr).trans e4
   have HQ:=Lib.hid hq3;have HC8:=Lib.hid e8
   clear e3 e4 e5 e6 e7 e8 hq3 hqr
   go_wp2_with fail
   refine(clone_walk _ q (leftN L.length s keep) c HQ.out (leftN_le HS.out keep) HL.out HH.out.len HC8.out).mono ?_
   rintro x2 w2 ⟨v',rfl,k1,k2,k3⟩
   have hv1:v'.oneCell'=true:=by obtain⟨a9,c9,rfl⟩:=run_len_any k1;rfl
   have kb:=run_build (P:=Tryz.prog) w2 96 _ _ (built_book hv1 (leftN L.length s keep:Nat))
   have KO:=Lib.hid k1;have KW:=Lib.hid k2;have KZ:=Lib.hid k3;have KB:=Lib.hid kb
   clear k1 k2 k3 kb hv1 c2
   go_wp2_with (refine wpList_run (v:=.agg (BC 0 v' (leftN L.length s keep:Nat) 0)) (w2:=w2) rfl ?_ ?_;(focus (simp[execOp,Act.eval,KB.out,Sem.run_bind];done)))
   have hB3:BookW (w2.alloc (.cells (BC 0 v' (leftN L.length s keep:Nat) 0) 96)) w2.heap.size 96 v' (L.take (leftN L.length s keep)) (leftN L.length s keep:Nat) 0:=by
    refine⟨Blk.newAt _ _ rfl,?_,fun e1=>?_,fun x hx=>HH.out.len x (List.mem_of_mem_take hx)⟩
    ·have e1:(L.take (leftN L.length s keep)).length=leftN L.length s keep:=by rw[List.length_take];exact Nat.min_eq_left (leftN_le HS.out keep)
     rw[e1]
     exact ownsRow_keep KO.out fun q _ hq=>Below.heap_alloc _ _ _ hq
    ·rcases KO.out.2 with⟨e2,_⟩|⟨q,cap,cur,e2,_,h5,_⟩<;>rw[e2]at e1<;>cases e1
     exact absurd (Array.getElem?_eq_some_iff.1 h5).1 (Nat.lt_irrefl _)
   have hs1:(w.setCell ⟨r,0,none⟩ (.int .i32 1)).drew.heap.size=w.heap.size:=by simp[World.setCell,World.drew]
   have hk3:Blk (w2.alloc (.cells (BC 0 v' (leftN L.length s keep:Nat) 0) 96)) r (BC 1 (.slice (some ⟨q,0,none⟩) L.length c) s f) t:=((HB1.out.drew.keep KW.out)).keep ((Below.refl _ _).alloc (Nat.le_refl _) _)
   have hg3:w.grownBy (w2.alloc (.cells (BC 0 v' (leftN L.length s keep:Nat) 0) 96)) (some r):=grown_trans (grown_trans (grown_drew HG1.out) (grownB KW.out)) (grown_alloc w2 _ _)
   have hrn:r<w.heap.size:=HB.out.lt
   have hle2:w.heap.size≤w2.heap.size:=by have:=KW.out.size;rw[hs1]at this;exact this
   have hz3:∀z,v'.ownBlock=some z→w.heap.size≤z:=fun z e1=>by have:=KZ.out z e1;rw[hs1]at this;exact this
   refine leaves_cons (f:=34) (args:=#[.pointer (some ⟨r,0,none⟩)]) (by simp) (by simp[go_sem]) ?_
   refine(unlock_deferred ⟨r,0,none⟩ _ _ (hk3.cell 0) (hk3.frozen 0)).mono ?_
   rintro x4 u' w4 ⟨rfl,rfl,hw4⟩
   have hk4:Blk w4 r (BC 0 (.slice (some ⟨q,0,none⟩) L.length c) s f) t:=by rw[hw4];exact(hk3.set 0 _).copy rfl
   have hg4:w.grownBy w4 (some r):=by rw[hw4];exact grown_setCell hg3 0 _
   have hg5:(w2.alloc (.cells (BC 0 v' (leftN L.length s keep:Nat) 0) 96)).grownBy w4 (some r):=by rw[hw4];exact grown_setCell (grown_refl _ _) 0 _
   have hB4:BookW w4 w2.heap.size 96 v' (L.take (leftN L.length s keep)) (leftN L.length s keep:Nat) 0:=by
    refine⟨(hg5.block _ hB3.blk.lt (fun e1=>by cases e1;omega)).trans hB3.blk,ownsRow_keep hB3.own fun q hq hlt=>hg5.block q hlt (fun e1=>by cases e1;have:=hz3 _ hq;omega),hB3.sep,hB3.len⟩
   clear hw4
   exact⟨_,results_tmp rfl _ _ _,w2.heap.size,v',rfl,hk4,hB4,hle2,hz3,hg4⟩
end
section
structure BS where
 L:List Ln
 s:Nat
 f:Nat
theorem FnB.of{f:FuncId}{pos:Nat}{p p':OP}{args:List A}{res:Res}(q:Prop)(hq:∀D w F r,p.p D w F r→q)(h:q→FnB Tryz.prog gTab f pos p args res p'):FnB Tryz.prog gTab f pos p args res p':=fun S w r F vs hG hlt hp ha hS=>h (hq _ _ _ _ hp) S w r F vs hG hlt hp ha hS
set_option maxRecDepth 100000 in
theorem new_walk(w:World):Calls Tryz.prog 23 #[] w fun x w'=>x=.returned (.pointer (some ⟨w.heap.size,0,none⟩))∧w'=w.alloc (.cells (BC 0 (.slice none 0 0) 0 0) 96):=by
 go_enter Tryz.func23,Tryz.ntmps23
 go_wp2
 go_ret
 exact⟨rfl,rfl⟩
end
section
open Pm
theorem opc{P:Program}{ops:Array Oper}{o:Oper}{a:Act}{w:World}{f:FuncId}{args:Array Value}{F:Value→World→Prop}(hg:o.guard=none)(h:(execOp a.eval o).run P w=.ok (.enter f args) w)(hc:Calls P f args w fun e w'=>∃v,e=.returned v∧F (keeps o.dst v) w'):opRuns P ops (fun _ _=>True) o a w F:=by
 unfold opRuns
 simp only[Region.wanted,hg,h,if_true]
 exact hc.mono fun e w' ⟨v,h1,h2⟩=>⟨v,h1,trivial,h2⟩
abbrev BK0:Obj:=.cells (BC 0 (.slice none 0 0) 0 0) 96
structure NewB(w0:World)(r:Nat)(t:TypeId)(j:Nat)(bs:List Value)(w:World):Prop where
 blk:Blk w r (WL 0 0 (List.replicate 8 (.pointer none)) bs (.slice none 0 0) (.slice none 0 0)).toArray t
 len:bs.length=8
 at':∀i,i<j→∃q,bs[i]?=some (.pointer (some ⟨q,0,none⟩))∧w.heap[q]?=some BK0∧r<q
 ne:∀i k q,i<j→k<j→bs[i]?=some (.pointer (some ⟨q,0,none⟩))→bs[k]?=some (.pointer (some ⟨q,0,none⟩))→i=k
 base:w0.heap.size≤r
 below:Below w0.heap.size w0 w
theorem WL_b{n mu:Int}{ps bs:List Value}{po ap:Value}(hp:ps.length=8){i:Nat}(hi:i<bs.length)(v:Value):(WL n mu ps bs po ap).toArray.setIfInBounds (11+i) v=(WL n mu ps (bs.set i v) po ap).toArray:=by
 rw[List.setIfInBounds_toArray]
 congr 1
 rw[show 11+i=i+8+3 by omega]
 show _::_::_::(ps++(bs++[po,ap])).set (i+8) v=_
 rw[List.set_append_right _ _ (by omega),show i+8-ps.length=i by omega,List.set_append_left _ _ hi]
 rfl
theorem NewB.next{w0 w1:World}{r:Nat}{t:TypeId}{j:Nat}{bs:List Value}(h:NewB w0 r t j bs w1)(hj:j<8):NewB w0 r t (j+1) (bs.set j (.pointer (some ⟨w1.heap.size,0,none⟩))) ((w1.drew.alloc BK0).setCell ⟨r,11+j,none⟩ (.pointer (some ⟨w1.heap.size,0,none⟩))):=by
 have hr:r<w1.heap.size:=h.blk.lt
 have hsz:w1.drew.heap.size=w1.heap.size:=rfl
 have hother:∀q,q≠r→((w1.drew.alloc BK0).setCell ⟨r,11+j,none⟩ (.pointer (some ⟨w1.heap.size,0,none⟩))).heap[q]?=(w1.drew.alloc BK0).heap[q]?:=fun q hq=>heap_setCell_other _ ⟨r,11+j,none⟩ q _ hq
 have hold:∀q,q<w1.heap.size→q≠r→((w1.drew.alloc BK0).setCell ⟨r,11+j,none⟩ (.pointer (some ⟨w1.heap.size,0,none⟩))).heap[q]?=w1.heap[q]?:=fun q hq hn=>by
  rw[hother q hn]
  exact Below.heap_alloc w1.drew BK0 q hq
 have hnew:((w1.drew.alloc BK0).setCell ⟨r,11+j,none⟩ (.pointer (some ⟨w1.heap.size,0,none⟩))).heap[w1.heap.size]?=some BK0:=by
  rw[hother _ (by omega)]
  exact heap_alloc_new _ _
 have hb:Blk (w1.drew.alloc BK0) r (WL 0 0 (List.replicate 8 (.pointer none)) bs (.slice none 0 0) (.slice none 0 0)).toArray t:=World.alloc_keep h.blk.drew
 have hget:∀i,(bs.set j (.pointer (some ⟨w1.heap.size,0,none⟩)))[i]?=if i=j then some (.pointer (some ⟨w1.heap.size,0,none⟩))else bs[i]?:=fun i=>by
  rw[List.getElem?_set]
  by_cases e:j=i
  ·rw[if_pos e,if_pos e.symm,if_pos (by rw[h.len];omega)]
  ·rw[if_neg e,if_neg (fun e'=>e e'.symm)]
 refine⟨(hb.set (11+j) _).copy (WL_b rfl (by rw[h.len];exact hj) _),by rw[List.length_set];exact h.len,fun i hi=>?_,fun i k q hi hk e1 e2=>?_,h.base,?_⟩
 ·rw[hget]
  by_cases e:i=j
  ·rw[if_pos e];exact⟨_,rfl,hnew,hr⟩
  ·rw[if_neg e]
   obtain⟨q,k1,k2,k3⟩:=h.at' i (by omega)
   exact⟨q,k1,by rw[hold q (Array.getElem?_eq_some_iff.1 k2).1 (by omega)];exact k2,k3⟩
 ·rw[hget]at e1 e2
  by_cases a1:i=j
  ·by_cases a2:k=j
   ·rw[a1,a2]
   ·exfalso
    rw[if_pos a1]at e1;rw[if_neg a2]at e2
    cases e1
    obtain⟨q,k1,k2,_⟩:=h.at' k (by omega)
    rw[k1]at e2;cases e2
    exact Nat.lt_irrefl _ (Array.getElem?_eq_some_iff.1 k2).1
  ·by_cases a2:k=j
   ·exfalso
    rw[if_neg a1]at e1;rw[if_pos a2]at e2
    cases e2
    obtain⟨q,k1,k2,_⟩:=h.at' i (by omega)
    rw[k1]at e1;cases e1
    exact Nat.lt_irrefl _ (Array.getElem?_eq_some_iff.1 k2).1
   ·rw[if_neg a1]at e1;rw[if_neg a2]at e2
    exact h.ne i k q (by omega) (by omega) e1 e2
 ·have hb1:=h.below
  refine⟨hb1.os,hb1.tape,hb1.output,?_,fun q hq=>?_⟩
  ·show w0.heap.size≤((w1.drew.alloc BK0).setCell _ _).heap.size
   simp[World.setCell,size_alloc]
   exact Nat.le_succ_of_le hb1.size
  ·have:=h.base
   rw[hold q (Nat.lt_of_lt_of_le hq hb1.size) (by omega)]
   exact hb1.block q hq
def cstN(r j:Nat):Nat→Option Value
 |0=>some (.pointer (some ⟨r,0,none⟩))
 |1=>some (.int .i64 (j:Nat))
 |3=>some (.pointer (some ⟨r,0,none⟩))
 |4=>some (.pointer (some ⟨r,11,none⟩))
 |5=>some (.pointer (some ⟨r,11+j,none⟩))
 |_=>none
structure JN(w3:World)(r j:Nat)(S:Nat→Bool)(vals:Nat→Value)(w:World):Prop where
 val:∀k x,S k=true→cstN r j k=some x→vals k=x
 x2:S 2=true→vals 2=.pointer (some ⟨w3.heap.size,0,none⟩)
 w0:S 2=false→w=w3
 w1:S 2=true→S 6=false→w=w3.alloc BK0
 w2:S 6=true→w=(w3.alloc BK0).setCell ⟨r,11+j,none⟩ (.pointer (some ⟨w3.heap.size,0,none⟩))
section
variable {w3 : World} {r j : Nat} {S : Nat → Bool} {vals : Nat → Value} {w : World}
theorem JN.pure(h:JN w3 r j S vals w){i:Nat}{x:Value}(hc:cstN r j i=some x):JN w3 r j (add1 S i) (fun k=>if k=i then x else vals k) w:=by
 have n2:2≠i:=by rintro rfl;cases hc
 have n6:6≠i:=by rintro rfl;cases hc
 have s2:=add1_other S n2;have s6:=add1_other S n6
 refine⟨fun k y hk hy=>?_,fun hk=>?_,fun hk=>?_,fun hk h6=>?_,fun hk=>?_⟩
 ·by_cases e1:k=i
  ·subst e1;rw[hc]at hy;cases hy;exact if_pos rfl
  ·rw[add1_other S e1]at hk;rw[updV vals i x e1];exact h.val k y hk hy
 ·rw[s2]at hk;rw[updV vals i x n2];exact h.x2 hk
 ·rw[s2]at hk;exact h.w0 hk
 ·rw[s2]at hk;rw[s6]at h6;exact h.w1 hk h6
 ·rw[s6]at hk;exact h.w2 hk
theorem JN.call(h:JN w3 r j S vals w)(h2:S 2=false)(h6:S 6=false):JN w3 r j (add1 S 2) (fun k=>if k=2 then .pointer (some ⟨w.heap.size,0,none⟩)else vals k) (w.alloc BK0):=by
 have e:=h.w0 h2
 subst e
 have s6:=add1_other S (show 6≠2 by decide)
 refine⟨fun k y hk hy=>?_,fun _=>if_pos rfl,fun hk=>?_,fun _ _=>rfl,fun hk=>?_⟩
 ·have e1:k≠2:=by rintro rfl;cases hy
  rw[add1_other S e1]at hk;rw[updV vals 2 _ e1];exact h.val k y hk hy
 ·rw[add1_same]at hk;cases hk
 ·rw[s6,h6]at hk;cases hk
theorem JN.store(h:JN w3 r j S vals w)(h2:S 2=true)(h6:S 6=false)(x:Value):JN w3 r j (add1 S 6) (fun k=>if k=6 then x else vals k) (w.setCell ⟨r,11+j,none⟩ (vals 2)):=by
 have e:=h.w1 h2 h6
 have s2:=add1_other S (show 2≠6 by decide)
 refine⟨fun k y hk hy=>?_,fun _=>?_,fun hk=>?_,fun _ hk=>?_,fun hk=>?_⟩
 ·have e1:k≠6:=by rintro rfl;cases hy
  rw[add1_other S e1]at hk;rw[updV vals 6 _ e1];exact h.val k y hk hy
 ·rw[updV vals 6 _ (show 2≠6 by decide)];exact h.x2 h2
 ·rw[s2,h2]at hk;cases hk
 ·rw[add1_same]at hk;cases hk
 ·rw[h.x2 h2,e]
end
noncomputable def envWu0:EnvX:=envWr0.add 25 wseedS (wseedS_of wseed_fn) ⟨_,Tryz.func25,by kernel_rfl,by kernel_rfl⟩
noncomputable def envWu1:EnvX:=envWu0.add 24 createE createT_ok ⟨_,Tryz.func24,by kernel_rfl,by kernel_rfl⟩
set_option maxRecDepth 100000 in
set_option maxHeartbeats 4000000 in
theorem rg_ptrs{S:Nat→Prop}{w:World}:∀{l:List Value},(∀x∈l,x.oneCell'=true)→RG S w (l.map .v) l
 |[],_=>.nil
 |x::l,h=>.cons (.v _) (h x (by simp)) (rg_ptrs fun y hy=>h y (by simp[hy]))
set_option maxRecDepth 100000 in
set_option maxHeartbeats 4000000 in
theorem newW_walk(S:Nat→Prop)(w:World)(hG:GOK gTab S w):Calls Tryz.prog 9 #[] w fun e w'=>∃bs:List Value,e=.returned (.pointer (some ⟨w.heap.size,0,none⟩))∧bs.length=8∧(∀i,i<8→∃q,bs[i]?=some (.pointer (some ⟨q,0,none⟩))∧w'.heap[q]?=some BK0∧w.heap.size<q)∧
  (∀i k q,i<8→k<8→bs[i]?=some (.pointer (some ⟨q,0,none⟩))→bs[k]?=some (.pointer (some ⟨q,0,none⟩))→i=k)∧Below w.heap.size w w'∧
  HB (fun z=>((S z∧z<w.heap.size)∨w.heap.size<z)∧∀i,i<8→bs[i]?≠some (.pointer (some ⟨z,0,none⟩))) w' w.heap.size (.var (wdV 0 0 ((nilP 8++bs.map A.v).set 0 (.sref (pSegs (createP (wsd 0))) 0)) (.v (.slice none 0 0)) (.v (.slice none 0 0)))):=by
 go_enter Tryz.func9,Tryz.ntmps9
 go_wp2_with fail
 rename_i Q K ha
 have h0:NewB w w.heap.size 74 0 (List.replicate 8 (.pointer none)) (w.alloc (.cells (WL 0 0 (List.replicate 8 (.pointer none)) (List.replicate 8 (.pointer none)) (.slice none 0 0) (.slice none 0 0)).toArray 74)):=
  ⟨heap_alloc_new _ _,rfl,fun i hi=>absurd hi (by omega),fun i k q hi=>absurd hi (by omega),Nat.le_refl _,(Below.refl _ _).alloc (Nat.le_refl _) _⟩
 refine wp_loop (fun a w'=>∃(j:Nat) (bs:List Value) (x2 x6 x7 x8 x9 x10 x11 x12 x13 x14:Value),j≤8∧NewB w w.heap.size 74 j bs w'∧a=⟨#[.pointer none,.pointer (some ⟨w.heap.size,0,none⟩),x2,.agg (WL 0 0 (List.replicate 8 (.pointer none)) (List.replicate 8 (.pointer none)) (.slice none 0 0) (.slice none 0 0)).toArray,.pointer (some ⟨w.heap.size,0,none⟩),.int .i64 (j:Nat),x6,x7,x8,x9,x10,x11,x12,x13,x14,undef,undef,undef,undef,undef,undef,undef],[]⟩)
  (fun a w'=>8- (intOf (a.tmps.getD 5 undef)).toNat) ⟨0,_,undef,undef,undef,undef,undef,undef,undef,undef,undef,undef,by omega,h0,rfl⟩ ?_
 rintro a w1 ⟨j,bs,x2,x6,x7,x8,x9,x10,x11,x12,x13,x14,hj,hN,rfl⟩
 have HN:=Lib.hid hN
 have HA:=Lib.hid ha
 have H0:=Lib.hid h0
 clear hN h0 ha
 by_cases h8:j<8
 ·have i8:(j:Int)<8:=by omega
  go_wp2_with fail
  have hlt:w.heap.size<w1.heap.size:=HN.out.blk.lt
  refine region_inv (JN w1.drew w.heap.size j) [[],[],[],[0],[3],[4,1],[5,2]] (by kernel_rfl) (by kernel_rfl) (by kernel_rfl) ⟨fun k x hk=>Bool.noConfusion hk,fun hk=>Bool.noConfusion hk,fun _=>rfl,fun hk=>Bool.noConfusion hk,fun hk=>Bool.noConfusion hk⟩ ?_ ?_
  ·refine⟨?_,?_,?_,?_,?_,?_,?_,trivial⟩
   ·intro S vals wj hJ hSi hD hcl
    have q:=hJ.pure (show cstN w.heap.size j 0=some (.pointer (some ⟨w.heap.size,0,none⟩))from rfl)
    refine opv (v:=.pointer (some ⟨w.heap.size,0,none⟩)) (w2:=wj) rfl ?_ q
    simp[execOp,putAll,Act.put,Act.eval,Instr.fieldAt,go_sem]
   ·intro S vals wj hJ hSi hD hcl
    have q:=hJ.pure (show cstN w.heap.size j 1=some (.int .i64 (j:Nat))from rfl)
    refine opv (v:=.int .i64 (j:Nat)) (w2:=wj) rfl ?_ q
    simp[execOp,putAll,Act.put,Act.eval,Instr.fieldAt,go_sem]
   ·intro S vals wj hJ hSi hD hcl
    have h6:S 6=false:=by cases h:S 6 with|false=>rfl|true=>have:=hcl 6 h 2 (by simp);rw[hSi]at this;cases this
    refine opc (f:=23) (args:=#[]) rfl (by simp[execOp,putAll,Act.put,Act.eval,resolve,invoke,go_sem]) ?_
    refine(new_walk wj).mono ?_
    rintro e w' ⟨rfl,rfl⟩
    exact⟨_,rfl,hJ.call hSi h6⟩
   ·intro S vals wj hJ hSi hD hcl
    have d0:=hJ.val 0 _ (hD 0 (by simp)) rfl
    have q:=hJ.pure (show cstN w.heap.size j 3=some (.pointer (some ⟨w.heap.size,0,none⟩))from rfl)
    refine opv (v:=.pointer (some ⟨w.heap.size,0,none⟩)) (w2:=wj) rfl ?_ q
    simp[execOp,putAll,Act.put,Act.eval,Instr.fieldAt,go_sem,d0]
   ·intro S vals wj hJ hSi hD hcl
    have d3:=hJ.val 3 _ (hD 3 (by simp)) rfl
    have q:=hJ.pure (show cstN w.heap.size j 4=some (.pointer (some ⟨w.heap.size,11,none⟩))from rfl)
    refine opv (v:=.pointer (some ⟨w.heap.size,11,none⟩)) (w2:=wj) rfl ?_ q
    simp[execOp,putAll,Act.put,Act.eval,Instr.fieldAt,go_sem,d3]
   ·intro S vals wj hJ hSi hD hcl
    have d4:=hJ.val 4 _ (hD 4 (by simp)) rfl
    have d1:=hJ.val 1 _ (hD 1 (by simp)) rfl
    have q:=hJ.pure (show cstN w.heap.size j 5=some (.pointer (some ⟨w.heap.size,11+j,none⟩))from rfl)
    refine opv (v:=.pointer (some ⟨w.heap.size,11+j,none⟩)) (w2:=wj) rfl ?_ q
    simp[execOp,putAll,Act.put,Act.eval,Instr.fieldAt,go_sem,d4,d1,i8]
   ·intro S vals wj hJ hSi hD hcl
    have d5:=hJ.val 5 _ (hD 5 (by simp)) rfl
    have d2:=hJ.x2 (hD 2 (by simp))
    have e1:=hJ.w1 (hD 2 (by simp)) hSi
    have hbw:Blk wj w.heap.size (WL 0 0 (List.replicate 8 (.pointer none)) bs (.slice none 0 0) (.slice none 0 0)).toArray 74:=by rw[e1];exact World.alloc_keep HN.out.blk.drew
    obtain⟨vo,hvo⟩:∃vo,wj.cell? ⟨w.heap.size,11+j,none⟩=some vo:=by
     refine⟨_,(hbw.cell (11+j)).trans (Array.getElem?_eq_getElem ?_)⟩
     simp[WL,HN.out.len]
     omega
    have hfz:=hbw.frozen (11+j)
    refine ops_ rfl ?_ (hJ.store (hD 2 (by simp)) hSi undef)
    simp[execOp,putAll,Act.put,Act.eval,go_sem,d5,d2,hfz,hvo]
  ·intro vals wz hJ
   have e0:=hJ.val 0 _ rfl rfl
   have e1:=hJ.val 1 _ rfl rfl
   have e3:=hJ.val 3 _ rfl rfl
   have e4:=hJ.val 4 _ rfl rfl
   have e5:=hJ.val 5 _ rfl rfl
   have e2:=hJ.x2 rfl
   have e6:=hJ.w2 rfl
   have hnx:=HN.out.next h8
   have e7:wz=(w1.drew.alloc BK0).setCell ⟨w.heap.size,11+j,none⟩ (.pointer (some ⟨w1.heap.size,0,none⟩)):=e6
   rw[←e7]at hnx
   have HX:=Lib.hid hnx
   clear hnx e6 e7
   simp[putAll,List.range,List.range.loop,Act.put,e0,e1,e2,e3,e4,e5]
   clear hJ e0 e1 e2 e3 e4 e5
   have wj1:IntKind.i64.wrap ((j:Int)+1)=(j:Int)+1:=wrapS (by omega) (by omega)
   go_wp2_with fail
   refine⟨⟨j+1,_,_,_,_,_,_,_,_,_,_,_,by omega,HX.out,rfl⟩,?_⟩
   show 8- ((j:Int)+1).toNat<8- (j:Int).toNat
   omega
 ·have i8:¬(j:Int)<8:=by omega
  go_wp2_with fail
  refine HA.out _ _ ?_
  obtain rfl:j=8:=by omega
  have hN:=HN.out
  have hr:w.heap.size<w1.heap.size:=hN.blk.lt
  have hB:HB (Dt (fun z=>S z∧z<w.heap.size) w1.heap.size (fun b=>if b=0 then some (.pointer (some ⟨w.heap.size,0,none⟩))else none)) w1 w.heap.size (.var (wdV 0 0 (nilP 8++bs.map .v) (.v (.slice none 0 0)) (.v (.slice none 0 0)))):=by
   refine⟨_,_,hN.blk,?_⟩
   have g16:RG (Dt (fun z=>S z∧z<w.heap.size) w1.heap.size (fun b=>if b=0 then some (.pointer (some ⟨w.heap.size,0,none⟩))else none)) w1 (nilP 8++bs.map .v) (List.replicate 8 (.pointer none)++bs):=by
    refine RG.append ?_ ?_
    ·exact .cons (.v _) rfl (.cons (.v _) rfl (.cons (.v _) rfl (.cons (.v _) rfl (.cons (.v _) rfl (.cons (.v _) rfl (.cons (.v _) rfl (.cons (.v _) rfl .nil)))))))
    ·have one:∀x∈bs,x.oneCell'=true:=fun x hx=>by
      obtain⟨i,hi,e⟩:=List.getElem_of_mem hx
      obtain⟨q,k1,_⟩:=hN.at' i (by rw[←hN.len];exact hi)
      rw[List.getElem?_eq_getElem hi,e]at k1
      cases k1;rfl
     exact rg_ptrs one
   unfold WL wdV
   have q:=RL.ints (k:=.i64) (n:=1) (zs:=[0]) rfl (RL.ints (k:=.i32) (n:=1) (zs:=[0]) rfl (RL.ints (k:=.u32) (n:=1) (zs:=[0]) rfl (RL.gen (n:=16) g16 (by simp[nilP,hN.len]) (RL.gen (n:=2) (.cons (.v (.slice none 0 0)) rfl (.cons (.v (.slice none 0 0)) rfl .nil)) rfl .nil))))
   rw[List.append_nil,List.append_assoc]at q
   exact q
  have hG1:GOK gTab (Dt (fun z=>S z∧z<w.heap.size) w1.heap.size (fun b=>if b=0 then some (.pointer (some ⟨w.heap.size,0,none⟩))else none)) w1:=by
   refine hG.up ⟨hN.below.size,fun z hz hd=>⟨⟨.inl ⟨hd,hz⟩,fun b u hb hu=>?_⟩,fun o=>World.cell?_of_block (hN.below.block z hz)⟩⟩
   dsimp only at hb
   split at hb
   ·cases hb
    obtain rfl:w.heap.size=z:=hu
    omega
   ·cases hb
  refine GX.out (E:=envWu1) (S:=fun z=>S z∧z<w.heap.size) (base:=w1.heap.size) (w0:=⟨w1,fun q=>q=w.heap.size,some w.heap.size,[]⟩) (s:=⟨([.pointer none,.pointer (some ⟨w.heap.size,0,none⟩),x2,.agg (WL 0 0 (List.replicate 8 (.pointer none)) (List.replicate 8 (.pointer none)) (.slice none 0 0) (.slice none 0 0)).toArray,.pointer (some ⟨w.heap.size,0,none⟩),.int .i64 (8:Nat),.bool false,x7,x8,x9,x10,x11,x12,x13,x14,undef,undef,undef,undef,undef,undef,undef].map fun v=>T.d (.v v)).set 1 (.ptr 0 0),[some (.var (wdV 0 0 (nilP 8++bs.map .v) (.v (.slice none 0 0)) (.v (.slice none 0 0))))]⟩) ?_ (fun b=>if b=0 then some (.pointer (some ⟨w.heap.size,0,none⟩))else none) _ _ ?_
  rotate_left
  ·refine mid_var (E:=envWu1) (S:=fun z=>S z∧z<w.heap.size) 1 (Nat.le_refl _) ⟨_,rfl⟩ hr hG1 hB ?_ ?_ ?_ ?_
   ·rfl
   ·rfl
   ·exact Nat.le_of_ble_eq_true rfl
   ·rfl
  simp only[List.map_cons,List.map_nil,Seg.n,wn1,wn2,wn3,wn4,wn5,wn6,wn7,wn8,wn9,wn10,wn11,wn12,wn13,wn14,wn15,wn16,Int.reduceAdd,Int.zero_add,Seg.cell,Seg.sub,List.set_nil,isAlloc,trimH,List.take_append_drop,St.app,St.app2,St.ev,List.getD_cons_zero,List.getD_cons_succ,List.getD_nil,St.sl,St.bk,tiInt,tiBool,tiSl,tiArr,tiStruct,weaken,keepT,List.set_cons_zero,List.set_cons_succ,List.length_cons,List.length_nil,List.cons_append,List.nil_append,List.append_nil,List.map_cons,List.map_nil,List.replicate_succ,List.replicate_zero,List.take_succ_cons,List.take_zero,List.drop_succ_cons,List.drop_zero,List.take_nil,List.drop_nil,Nat.reduceAdd,Nat.reduceSub,Nat.reduceMul,Nat.reduceEqDiff,Nat.reduceLT,Nat.reduceLeDiff,Nat.zero_add,Nat.add_zero,Nat.sub_self,Nat.sub_zero,Nat.one_mul,Nat.mul_one,Nat.zero_mul,joinS,manyS,List.flatten_cons,List.flatten_nil,eq_self,ite_true,if_true,if_false,↓reduceIte,reduceCtorEq,Int.reduceToNat]
  unfold wdV
  refine GX.of ?_
  refine agow ?_;(try exact⟨⟩)
  intro h hh
  refine agow ?_;(try exact⟨⟩)
  intro p hp
  refine agow ?_;(try exact⟨⟩)
  obtain rfl:p=createP (wsd 0):=by rw[hp,hh]
  refine GQ.mk fun ρ a w3 g=>?_
  have hpin:=g.pin _ rfl
  have hv:=g.ev (.tmp 0)
  obtain⟨r',e1,e2⟩:=hv _ hpin
  obtain rfl:=e1.ptr
  have hB3:=g.b 0
  obtain⟨r2,cs2,t2,k1,_,k2,k3⟩:=hB3
  rw[hpin]at k1;cases k1
  have hsame:∀z,z<w1.heap.size→z≠w.heap.size→w3.heap[z]?=w1.heap[z]?:=fun z h1 h2=>g.bel.block z h1 h2
  have hbk:∀i,i<8→∃q,bs[i]?=some (.pointer (some ⟨q,0,none⟩))∧w3.heap[q]?=some BK0∧w.heap.size<q:=fun i hi=>by
   obtain⟨q,m1,m2,m3⟩:=hN.at' i hi
   exact⟨q,m1,by rw[hsame q (Array.getElem?_eq_some_iff.1 m2).1 (by omega)];exact m2,m3⟩
  have hlt:∀i z,i<8→bs[i]?=some (.pointer (some ⟨z,0,none⟩))→w.heap.size<z∧z<w1.heap.size:=fun i z hi e=>by
   obtain⟨q,m1,m2,m3⟩:=hN.at' i hi
   rw[m1]at e;cases e
   exact⟨m3,(Array.getElem?_eq_some_iff.1 m2).1⟩
  have hbw:Below w.heap.size w w3:=by
   have h1:=hN.below
   refine⟨g.bel.os.trans h1.os,g.bel.tape.trans h1.tape,g.bel.output.trans h1.output,Nat.le_trans h1.size g.bel.size,fun z hz=>?_⟩
   rw[hsame z (by omega) (by omega)]
   exact h1.block z hz
  refine⟨g.defs,.pointer (some ⟨w.heap.size,0,none⟩),?_,bs,rfl,hN.len,hbk,hN.ne,hbw,cs2,t2,k2,k3.up (toKeeps fun z hz=>⟨?_,fun i hi e=>?_⟩)⟩
  ·have e3:a.tmps.getD 0 undef=.pointer (some ⟨w.heap.size,0,none⟩):=e2
   rw[←e3]
   exact run_results1 rfl rfl
  ·rcases hz.1 with h|h
   ·exact .inl h
   ·exact .inr (by omega)
  ·obtain⟨m1,m2⟩:=hlt i z hi e
   rcases hz.1 with h|h
   ·have:=h.2;omega
   ·omega
end
section
open Pm
attribute [local irreducible] condK LoopA regA
theorem clone2_fn(k:Nat)(l:List A)(hk:k≠0)(h1:k≤1000):FnO 40 [.row k [.gen k l]] (.o 35 1 k [.gen k l]):=by
 refine fnA (E:=envWr0) Tryz.func40 Tryz.ntmps40 ?_
 refine agow ?_;(try exact⟨⟩)
theorem clone1_fn(k:Nat)(b:List UInt8)(hk:k≠0)(h1:k≤1000000):FnO 41 [.row k [.bytes k b]] (.o 5 1 k [.bytes k b]):=by
 refine fnA (E:=envWr0) Tryz.func41 Tryz.ntmps41 ?_
 refine agow ?_;(try exact⟨⟩)
 show Res.o _ 1 k [.bytes (0+k) ([]++b)]=_
 rw[Nat.zero_add,List.nil_append]
theorem ra_own{w:World}{e:TypeId}{k:Nat}{v:Value}{cs:List Value}(h:w.ownsRow 0 e 1 v k cs)(ho:∀x∈cs,x.oneCell'=true):RA (fun q=>v.ownBlock=some q) w (.row k [.gen k (cs.map .v)]) v:=by
 have rg:∀{l:List Value},(∀x∈l,x.oneCell'=true)→RG (fun q=>v.ownBlock=some q) w (l.map .v) l:=by
  intro l
  induction l with
  |nil=>intro _;exact .nil
  |cons x l ih=>intro hl;exact .cons (.v _) (hl x (by simp)) (ih fun y hy=>hl y (by simp[hy]))
 have hl:cs.length=k:=by rw[h.1,Nat.mul_one]
 have hr:RL (fun q=>v.ownBlock=some q) w [.gen k (cs.map .v)] cs:=RL.ofGen (by simp[hl]) (rg ho)
 rcases h.2 with⟨rfl,rfl⟩|⟨g,cap,cur,rfl,h1,h2,h3,h4,h5⟩
 ·obtain rfl:cs=[]:=List.length_eq_zero_iff.1 hl
  exact .row hr (Nat.le_refl _) (Nat.zero_le _) (fun _=>rfl) (.inl rfl)
 ·refine .row hr h3 h4 (fun e=>by cases e) (.inr ⟨g,0,rfl,rfl,(Array.getElem?_eq_some_iff.1 h2).1,fun i hi=>?_⟩)
  have:=World.ownsRow.cells h (g:=g) rfl i cs[i] (List.getElem?_eq_getElem hi)
  rw[add_at]at this
  exact this
theorem own_post{w:World}{r k:Nat}{t:TypeId}{L:Array Value}{po v:Value}{cs:List Value}(hb:Blk w r L t)(h:w.ownsRow 0 35 1 po k cs)(hne:po.ownBlock≠some r):(w.setCell ⟨r,1,none⟩ v).ownsRow 0 35 1 po k cs:=ownsRow_up h fun q hq=>by
 refine heap_setCell_other w ⟨r,1,none⟩ q v ?_
 rcases h.2 with⟨e1,e2⟩|⟨q',cap,cur,e1,_⟩
 ·rw[e1]at hq;cases hq
 ·rw[e1]at hq hne;cases hq
  intro e
  exact hne (congrArg some e)
theorem own_base{w:World}{b b':Nat}{e:TypeId}{sz n:Nat}{u:Value}{cs:List Value}(h:w.ownsRow b e sz u n cs)(k:b'≤b):w.ownsRow b' e sz u n cs:=⟨h.1,h.2.imp id fun⟨q,cap,cur,e1,e2,e3⟩=>⟨q,cap,cur,e1,Nat.le_trans k e2,e3⟩⟩
end
section
open Pm
attribute [local irreducible] condK LoopA regA
theorem clone0_fn:FnO 40 [.v (.slice none 0 0)] (.d (.v (.slice none 0 0))):=by
 refine fnA (E:=envWr0) Tryz.func40 Tryz.ntmps40 ?_
 refine agow ?_;(try exact⟨⟩)
theorem rg_raw{S:Nat→Prop}{w:World}:∀{l cs:List Value},RG S w (l.map .v) cs→cs=l
 |[],_,h=>by cases h;rfl
 |x::l,_,h=>by
  cases h with
  |cons a b r=>rw[rg_raw r,ra_plainV a]
theorem clone_raw{po:Value}{k:Nat}{cs:List Value}(hk:k≤1000)(ho:∀x∈cs,x.oneCell'=true)(hn:k=0→po=.slice none 0 0){S:Nat→Prop}(w1:World)(hG:GOK gTab S w1)(h:w1.ownsRow 0 35 1 po k cs):
  Calls Tryz.prog 40 #[po] w1 fun e w2=>∃sv,e=.returned sv∧w2.ownsRow w1.heap.size 35 1 sv k cs∧Below w1.heap.size w1 w2:=by
 by_cases h0:k=0
 ·subst h0
  have hcs:cs=[]:=List.length_eq_zero_iff.1 (by rw[h.1])
  subst hcs
  obtain rfl:=hn rfl
  refine(clone0_fn S w1 [_] hG (.cons (.v _) .nil)).mono ?_
  rintro e w2 ⟨v,rfl,h1,h2⟩
  exact⟨_,rfl,by rw[ra_plainV h1];exact⟨rfl,.inl ⟨rfl,rfl⟩⟩,h2⟩
 ·refine(clone2_fn k (cs.map .v) h0 hk (fun q=>S q∨po.ownBlock=some q) w1 [po] (hG.up (toKeeps fun z hz=>.inl hz)) (.cons ((ra_own h ho).up (toKeeps fun z hz=>.inr hz)) .nil)).mono ?_
  rintro e w2 ⟨v,rfl,⟨cs',h1,h2⟩,h3⟩
  obtain rfl:=rg_raw (h2.toGen).2
  exact⟨_,rfl,h1,h3⟩
end
section
open Pm
theorem WL_bk{n mu:Int}{ps bs:List Value}{po ap:Value}(hp:ps.length=8){i:Nat}{v:Value}(hi:bs[i]?=some v):(WL n mu ps bs po ap).toArray[11+i]?=some v:=by
 rw[List.getElem?_toArray,show 11+i=i+8+3 by omega]
 show(ps++(bs++[po,ap]))[i+8]?=_
 rw[List.getElem?_append_right (by omega),show i+8-ps.length=i by omega,List.getElem?_append_left (List.getElem?_eq_some_iff.1 hi).1]
 exact hi
set_option maxRecDepth 100000 in
set_option maxHeartbeats 4000000 in
theorem book_walk(w:World)(r:Nat)(t:TypeId)(n:Int)(ps bs:List Value)(po ap:Value)(i:Nat)(hi:i<8)(q:Nat)(tq:TypeId)(h8:ps.length=8)(hq:bs[i]?=some (.pointer (some ⟨q,0,none⟩)))(hb:Blk w r (WL n 0 ps bs po ap).toArray t)(hB:BookW w q tq (.slice none 0 0) [] 0 0)(hrq:r≠q):
  Calls Tryz.prog 20 #[.pointer (some ⟨r,0,none⟩),.int .i64 (i:Nat)] w fun e w'=>∃g v',e=.returned (.pointer (some ⟨g,0,none⟩))∧BookW w' g 96 v' [] 0 0∧w.heap.size≤g∧(∀z,v'.ownBlock=some z→w.heap.size≤z)∧Below w.heap.size w w':=by
 have hb1:Blk (w.setCell ⟨r,1,none⟩ (.int .i32 1)) r (WL n 1 ps bs po ap).toArray t:=(hb.set 1 _).copy (WL_mu 1)
 have hg1:w.grownBy (w.setCell ⟨r,1,none⟩ (.int .i32 1)) (some r):=grown_setCell (grown_refl w _) 1 _
 have c1:w.cell? ⟨r,1,none⟩=some (.int .i32 0):=(hb.cell 1).trans (by rw[List.getElem?_toArray];rfl)
 have c2:(w.setCell ⟨r,1,none⟩ (.int .i32 1)).cell? ⟨r,11+i,none⟩=some (.pointer (some ⟨q,0,none⟩)):=(hb1.cell (11+i)).trans (WL_bk h8 hq)
 have hB1:BookW (w.setCell ⟨r,1,none⟩ (.int .i32 1)) q tq (.slice none 0 0) [] 0 0:=⟨hB.blk.other ⟨r,1,none⟩ _ (fun e=>hrq e.symm),⟨rfl,.inl ⟨rfl,rfl⟩⟩,hB.sep,hB.len⟩
 have i0:¬(i:Int)<0:=by omega
 have i1:(i:Int)<8:=by omega
 have HB:=Lib.hid hb;have HB1:=Lib.hid hb1;have HG1:=Lib.hid hg1;have C1:=Lib.hid c1;have HQ:=Lib.hid hB;have HQ1:=Lib.hid hB1;have HRQ:=Lib.hid hrq
 clear hb hb1 hg1 c1 hq hB hB1 hrq h8
 go_enter_defers Tryz.func20,Tryz.ntmps20
 go_wp2_with (first|(go_at_call 32;refine(isPlace_in hi _).mono ?_;rintro e w' ⟨rfl,rfl⟩)|(go_at_call 33;refine(lock_free ⟨r,1,none⟩ _ C1.out (HB.out.frozen 1)).mono ?_;rintro e w' ⟨rfl,rfl⟩)|(go_at_call 22;refine(len_walk _ q tq _ _ _ _ HQ1.out).mono ?_;rintro e w2 ⟨rfl,k1,k2⟩;have K1:=Lib.hid k1;have K2:=Lib.hid k2;clear k1 k2)|(go_at_call 45;refine(crash_walk _ q tq _ [] 0 0 0 (by simp) (by simp) (by decide) (HQ1.out.next K1.out K2.out)).mono ?_;rintro e w3 ⟨g,v',rfl,k1,k2,k3,k4,k5⟩))
 have h2:(w.setCell ⟨r,1,none⟩ (.int .i32 1)).grownBy w3 (some q):=grown_trans K2.out k5
 have hb3:Blk w3 r (WL n 1 ps bs po ap).toArray t:=(h2.block r HB1.out.lt (fun e=>HRQ.out (by cases e;rfl))).trans HB1.out
 have hsz:(w.setCell ⟨r,1,none⟩ (.int .i32 1)).heap.size=w.heap.size:=by simp[World.setCell]
 have hs2:w.heap.size≤w2.heap.size:=by have:=K2.out.size;rw[hsz]at this;exact this
 have hl:leftN ([]:List Ln).length 0 0=0:=rfl
 rw[hl,List.take_nil]at k2
 have hgr:g≠r:=fun e=>by have:=HB.out.lt;omega
 refine leaves_cons (f:=34) (args:=#[.pointer (some ⟨r,1,none⟩)]) (by simp) (by simp[go_sem]) ?_
 refine(unlock_deferred ⟨r,1,none⟩ _ _ ((hb3.cell 1).trans (by rw[List.getElem?_toArray];rfl)) (hb3.frozen 1)).mono ?_
 rintro e u' w4 ⟨rfl,rfl,hw4⟩
 have ho:∀z,z≠r→w4.heap[z]?=w3.heap[z]?:=fun z hz=>by rw[hw4];exact heap_setCell_other w3 ⟨r,1,none⟩ z _ hz
 have hs4:w4.heap.size=w3.heap.size:=by rw[hw4];simp[World.setCell]
 have hb4:Blk w4 r (WL n 0 ps bs po ap).toArray t:=by rw[hw4];exact(hb3.set 1 _).copy (WL_mu 0)
 simp[Leaves,settle,results,Tryz.results20]
 refine⟨v',⟨(ho g hgr).trans k2.blk,own_keep k2.own fun z hz=>ho z (fun e=>by have:=k4 z hz;have:=HB.out.lt;omega),k2.sep,k2.len⟩,by omega,fun z hz=>by have:=k4 z hz;omega,?_⟩
 refine⟨?_,?_,?_,?_,fun z hz=>?_⟩
 ·rw[hw4];exact h2.os.trans HG1.out.os
 ·rw[hw4];exact h2.tape.trans HG1.out.tape
 ·rw[hw4];exact h2.output.trans HG1.out.output
 ·rw[hs4];exact Nat.le_trans hs2 k5.size
 ·by_cases e1:z=r
  ·rw[e1];exact Eq.trans hb4 HB.out.symm
  ·rw[ho z e1]
   by_cases e2:z=q
   ·rw[e2];exact Eq.trans k1 HQ.out.blk.symm
   ·rw[h2.block z (by rw[hsz];exact hz) (fun e=>e2 (by cases e;rfl))]
    exact heap_setCell_other w ⟨r,1,none⟩ z _ e1
end
section
open Pm
def nodeK(zs:List Int)(m:Nat):Bool:=zs.getD m 0 !=0
abbrev n1(lf:Int):Nat:=(lf / 2*4+1).toNat
abbrev n2(lf:Int):Nat:=(lf / 4*8+3).toNat
def setAb(p:PS)(q:Nat)(h:List UInt8):PS:={ p with ab:=p.ab.take (q*32)++(h++p.ab.drop (q*32+32)) }
end
section
open Pm
theorem putL_hi{zs xs:List Int}(hz:zs.length=31)(hx:xs.length=2){i:Nat}(hi:i<8){m:Nat}(hm:16≤m):(putL zs xs (i:Nat)).getD m 0=if m=16+n1 (i:Nat)∨m=16+n2 (i:Nat)∨m=23 then 0 else zs.getD m 0:=by
 have hlb:leafB (i:Int)=true:=by simp[leafB];omega
 have hl:(zs.take (i*2)++(xs++zs.drop (i*2+2))).length=31:=by simp[hx,hz];omega
 have e0:(zs.take (i*2)++(xs++zs.drop (i*2+2))).getD m 0=zs.getD m 0:=by rw[splice_get hx (by omega),if_neg (by omega)]
 unfold putL
 rw[if_pos hlb,Int.toNat_natCast,getD_set_list,getD_set_list,getD_set_list,e0]
 simp only[List.length_set,hl]
 unfold n1 n2
 by_cases e1:m=23
 ·rw[if_pos ⟨e1.symm,by decide⟩,if_pos (.inr (.inr e1))]
 ·rw[if_neg (fun h=>e1 h.1.symm)]
  by_cases e2:m=16+((i:Int) / 4*8+3).toNat
  ·rw[if_pos ⟨e2.symm,by omega⟩,if_pos (.inr (.inl e2))]
  ·rw[if_neg (fun h=>e2 h.1.symm)]
   by_cases e3:m=16+((i:Int) / 2*4+1).toNat
   ·rw[if_pos ⟨e3.symm,by omega⟩,if_pos (.inl e3)]
   ·rw[if_neg (fun h=>e3 h.1.symm),if_neg (by rintro(h|h|h);exact e3 h;exact e2 h;exact e1 h)]
structure Keep(zs0:List Int)(j:Nat)(s:Vw):Prop where
 zl:s.zs.length=31
 nl:s.ng.length=8
 gl:s.gn.length=8
 or:s.gn.getD j false=true∨(memL s.zs j=true∧leafP s.zs j=leafP zs0 j∧s.ng.getD j false=false)
theorem Keep.step{zs0:List Int}{j:Nat}(hj:j<8){s:Vw}(h:Keep zs0 j s)(fr:Int){o:List Int}(he:errOp s fr o=0):Keep zs0 j (nextOp s o):=by
 obtain⟨h1,h2,h3,h4⟩:=h
 unfold nextOp
 unfold errOp at he
 by_cases k1:o.getD 0 0=1
 ·rw[if_pos k1]at he ⊢
  obtain⟨hf,hi1,hi2⟩:=errAdd_0 he
  obtain⟨hf8,hfm⟩:=free_lt hf
  refine⟨putL_length h1 rfl,by simp[h2],h3,?_⟩
  rcases h4 with h4|⟨h5,h6,h7⟩
  ·exact .inl h4
  ·have hne:j≠freeN s.zs:=fun e=>by rw[←e,h5]at hfm;cases hfm
   refine .inr ⟨?_,?_,?_⟩
   ·rw[memL_put h1 rfl hf8 hj,if_neg hne];exact h5
   ·rw[leafP_put h1 rfl hf8 hj,if_neg hne];exact h6
   ·show(s.ng.set (freeN s.zs) true).getD j false=false
    rw[getD_setB,if_neg (fun e=>hne e.1.symm)];exact h7
 rw[if_neg k1]at he ⊢
 by_cases k2:o.getD 0 0=2
 ·rw[if_pos k2]at he ⊢
  unfold errRem at he
  have hw:¬(o.getD 1 0=fr∨memB s.zs (o.getD 1 0)=false):=fun hx=>by rw[if_pos hx]at he;cases he
  have hm:memB s.zs (o.getD 1 0)=true:=by
   cases hq:memB s.zs (o.getD 1 0)with
   |true=>rfl
   |false=>exact(hw (.inr hq)).elim
  obtain⟨hb0,hb1⟩:=memB_bd hm
  obtain⟨n,hn⟩:=Int.eq_ofNat_of_zero_le hb0
  rw[hn]at hb1 ⊢
  refine⟨putL_length h1 rfl,by simp[h2],by simp[h3],?_⟩
  by_cases hne:j=n
  ·left
   show(s.gn.set (n:Int).toNat true).getD j false=true
   rw[Int.toNat_natCast,getD_setB,if_pos ⟨hne.symm,by omega⟩]
  ·rcases h4 with h4|⟨h5,h6,h7⟩
   ·left
    show(s.gn.set (n:Int).toNat true).getD j false=true
    rw[Int.toNat_natCast,getD_setB,if_neg (fun e=>hne e.1.symm)];exact h4
   ·refine .inr ⟨?_,?_,?_⟩
    ·rw[memL_put h1 rfl (by omega) hj,if_neg hne];exact h5
    ·rw[leafP_put h1 rfl (by omega) hj,if_neg hne];exact h6
    ·show(s.ng.set (n:Int).toNat false).getD j false=false
     rw[Int.toNat_natCast,getD_setB,if_neg (fun e=>hne e.1.symm)];exact h7
 rw[if_neg k2]
 by_cases k3:o.getD 0 0=3
 ·rw[if_pos k3];exact⟨h1,h2,h3,h4⟩
 rw[if_neg k3]
 by_cases k4:o.getD 0 0=4
 ·rw[if_pos k4];exact⟨h1,h2,h3,h4⟩
 rw[if_neg k4]
 exact⟨h1,h2,h3,h4⟩
structure Goes(zs0:List Int)(s:Vw):Prop where
 zl:s.zs.length=31
 al:s.ad.length=8
 nl:s.ng.length=8
 t:isT s.zs=true
 adm:admTo s.zs s.ad 8=true
 k:1≤s.k
 nd:∀m,16≤m→s.zs.getD m 0=0∨s.zs.getD m 0=zs0.getD m 0
 new:∀j,j<8→s.ng.getD j false=true→memL s.zs j=true∧s.zs.getD (16+n1 (j:Nat)) 0=0∧s.zs.getD (16+n2 (j:Nat)) 0=0∧s.zs.getD 23 0=0
theorem isT_iff(zs:List Int):isT zs=true↔(∀k,k<8→leafOK zs k=true)∧∀k,k<15→nodeOK zs k=true:=by
 unfold isT
 rw[Bool.and_eq_true,List.all_eq_true,List.all_eq_true]
 simp only[List.mem_range]
theorem leafOK_is{zs:List Int}{k:Nat}{a b:Int}(h:leafP zs k=[a,b])(ha:isI a=true)(hb:isI b=true):leafOK zs k=true:=by
 unfold leafOK;rw[h];simp[ha,hb]
theorem leafOK_zero{zs:List Int}{k:Nat}(h:leafP zs k=[0,0]):leafOK zs k=true:=by
 unfold leafOK;rw[h];rfl
theorem leafOK_eq{zs zs':List Int}{k:Nat}(h:leafP zs k=leafP zs' k):leafOK zs k=leafOK zs' k:=by
 unfold leafOK;rw[h]
theorem nodeOK_get{zs:List Int}{k:Nat}(hk:k<15):nodeOK zs k=(decide (zs.getD (16+k) 0=0)||(!((k:Int).tmod 2==0)&&isI (zs.getD (16+k) 0))):=by
 unfold nodeOK;rw[nodeV_eq zs hk]
theorem isT_putK{zs xs:List Int}(hz:zs.length=31)(h:isT zs=true){i:Nat}(hi:i<8)(hx:xs=[0,0]∨∃a b,xs=[a,b]∧isI a=true∧isI b=true):isT (putL zs xs (i:Nat))=true:=by
 have hx2:xs.length=2:=by rcases hx with rfl|⟨a,b,rfl,_⟩<;>rfl
 obtain⟨h1,h2⟩:=(isT_iff zs).1 h
 refine(isT_iff _).2 ⟨fun k hk=>?_,fun k hk=>?_⟩
 ·have e:=leafP_put hz hx2 hi hk
  by_cases hki:k=i
  ·rw[if_pos hki]at e
   rcases hx with rfl|⟨a,b,rfl,ha,hb⟩
   ·exact leafOK_zero e
   ·exact leafOK_is e ha hb
  ·rw[if_neg hki]at e
   rw[leafOK_eq e];exact h1 k hk
 ·have:=h2 k hk
  rw[nodeOK_get hk]at this ⊢
  rw[putL_hi hz hx2 hi (by omega)]
  split
  ·rfl
  ·exact this
theorem memL_of{zs:List Int}{k:Nat}{a b:Int}(h:leafP zs k=[a,b])(ha:isI a=true):memL zs k=true:=by
 unfold memL;rw[h]
 have:=isI_ne ha
 simp[this]
theorem Goes.step{zs0:List Int}{s:Vw}(h:Goes zs0 s)(fr:Int){o:List Int}(he:errOp s fr o=0):Goes zs0 (nextOp s o):=by
 have hinv:Inv s:=⟨h.adm,h.zl,h.al⟩
 have hnx:=nextOp_inv hinv fr he
 obtain⟨h1,h2,h3,h4,h5,h6,h7,h8⟩:=h
 refine⟨hnx.zl,hnx.al,?_,?_,hnx.adm,?_,?_,?_⟩<;>unfold nextOp<;>unfold errOp at he<;>by_cases k1:o.getD 0 0=1
 ·rw[if_pos k1];simp[h3]
 ·rw[if_neg k1];split
  ·simp[h3]
  ·split
   ·exact h3
   ·split<;>exact h3
 ·rw[if_pos k1]at he ⊢
  obtain⟨hf,hi1,hi2⟩:=errAdd_0 he
  obtain⟨hf8,hfm⟩:=free_lt hf
  exact isT_putK h1 h4 hf8 (.inr ⟨_,_,rfl,hi1,hi2⟩)
 ·rw[if_neg k1]at he ⊢
  by_cases k2:o.getD 0 0=2
  ·rw[if_pos k2]at he ⊢
   unfold errRem at he
   have hm:memB s.zs (o.getD 1 0)=true:=by
    cases hq:memB s.zs (o.getD 1 0)with
    |true=>rfl
    |false=>rw[if_pos (.inr hq)]at he;cases he
   obtain⟨hb0,hb1⟩:=memB_bd hm
   obtain⟨n,hn⟩:=Int.eq_ofNat_of_zero_le hb0
   rw[hn]at hb1 ⊢
   exact isT_putK h1 h4 (by omega) (.inl rfl)
  ·rw[if_neg k2];split
   ·exact h4
   ·split<;>exact h4
 ·rw[if_pos k1];exact h6
 ·rw[if_neg k1]at he ⊢
  split
  ·exact h6
  ·next k2=>
   rw[if_neg k2]at he
   split
   ·exact h6
   ·next k3=>
    rw[if_neg k3]at he
    split
    ·exact h6
    ·next k4=>
     rw[if_neg k4]at he
     unfold errLim at he
     show 1≤o.getD 2 0
     by_cases hk:o.getD 2 0<1∨o.getD 2 0>8
     ·rw[if_pos hk]at he;cases he
     ·omega
 ·rw[if_pos k1]at he ⊢
  obtain⟨hf,hi1,hi2⟩:=errAdd_0 he
  obtain⟨hf8,hfm⟩:=free_lt hf
  intro m hm
  show(putL s.zs _ _).getD m 0=0∨(putL s.zs _ _).getD m 0=_
  rw[putL_hi h1 rfl hf8 hm]
  split
  ·exact .inl rfl
  ·exact h7 m hm
 ·rw[if_neg k1]at he ⊢
  by_cases k2:o.getD 0 0=2
  ·rw[if_pos k2]at he ⊢
   unfold errRem at he
   have hm:memB s.zs (o.getD 1 0)=true:=by
    cases hq:memB s.zs (o.getD 1 0)with
    |true=>rfl
    |false=>rw[if_pos (.inr hq)]at he;cases he
   obtain⟨hb0,hb1⟩:=memB_bd hm
   obtain⟨n,hn⟩:=Int.eq_ofNat_of_zero_le hb0
   rw[hn]at hb1 ⊢
   intro m hm
   show(putL s.zs _ _).getD m 0=0∨(putL s.zs _ _).getD m 0=_
   rw[putL_hi h1 rfl (by omega) hm]
   split
   ·exact .inl rfl
   ·exact h7 m hm
  ·rw[if_neg k2];split
   ·exact h7
   ·split<;>exact h7
 ·rw[if_pos k1]at he ⊢
  obtain⟨hf,hi1,hi2⟩:=errAdd_0 he
  obtain⟨hf8,hfm⟩:=free_lt hf
  intro j hj hng
  have hng:(s.ng.set (freeN s.zs) true).getD j false=true:=hng
  show memL (putL s.zs _ _) j=true∧(putL s.zs _ _).getD _ 0=0∧(putL s.zs _ _).getD _ 0=0∧(putL s.zs _ _).getD _ 0=0
  rw[putL_hi h1 rfl hf8 (by omega),putL_hi h1 rfl hf8 (by omega),putL_hi h1 rfl hf8 (by omega)]
  by_cases hje:j=freeN s.zs
  ·subst hje
   refine⟨memL_of (by rw[leafP_put h1 rfl hf8 hf8,if_pos rfl]) hi1,?_,?_,?_⟩
   ·rw[if_pos (.inl rfl)]
   ·rw[if_pos (.inr (.inl rfl))]
   ·rw[if_pos (.inr (.inr rfl))]
  ·rw[getD_setB,if_neg (fun e=>hje e.1.symm)]at hng
   obtain⟨a1,a2,a3,a4⟩:=h8 j hj hng
   refine⟨by rw[memL_put h1 rfl hf8 hj,if_neg hje];exact a1,?_,?_,?_⟩
   ·split
    ·rfl
    ·exact a2
   ·split
    ·rfl
    ·exact a3
   ·split
    ·rfl
    ·exact a4
 ·rw[if_neg k1]at he ⊢
  by_cases k2:o.getD 0 0=2
  ·rw[if_pos k2]at he ⊢
   unfold errRem at he
   have hm:memB s.zs (o.getD 1 0)=true:=by
    cases hq:memB s.zs (o.getD 1 0)with
    |true=>rfl
    |false=>rw[if_pos (.inr hq)]at he;cases he
   obtain⟨hb0,hb1⟩:=memB_bd hm
   obtain⟨n,hn⟩:=Int.eq_ofNat_of_zero_le hb0
   rw[hn]at hb1 ⊢
   intro j hj hng
   have hng:(s.ng.set (n:Int).toNat false).getD j false=true:=hng
   rw[Int.toNat_natCast]at hng
   show memL (putL s.zs _ _) j=true∧(putL s.zs _ _).getD _ 0=0∧(putL s.zs _ _).getD _ 0=0∧(putL s.zs _ _).getD _ 0=0
   rw[putL_hi h1 rfl (by omega) (by omega),putL_hi h1 rfl (by omega) (by omega),putL_hi h1 rfl (by omega) (by omega)]
   by_cases hje:j=n
   ·subst hje
    rw[getD_setB,if_pos ⟨rfl,by omega⟩]at hng
    cases hng
   ·rw[getD_setB,if_neg (fun e=>hje e.1.symm)]at hng
    obtain⟨a1,a2,a3,a4⟩:=h8 j hj hng
    refine⟨by rw[memL_put h1 rfl (by omega) hj,if_neg hje];exact a1,?_,?_,?_⟩
    ·split
     ·rfl
     ·exact a2
    ·split
     ·rfl
     ·exact a3
    ·split
     ·rfl
     ·exact a4
  ·rw[if_neg k2];split
   ·exact h8
   ·split<;>exact h8
end
section
open Pm
structure PInv(p:PS):Prop where
 lf0:0≤p.lf
 lf1:p.lf<8
 zl:p.zs.length=31
 al:p.ad.length=8
 cl:p.ch.length=32
 gl:p.sg.length=32
 sl:p.sc.length=32
 bl:p.ab.length=96
 el:p.ep.length=32
 il:p.ini.length=32
 a0:nodeK p.zs (16+n1 p.lf)=false→abK p.ab 0=zB 32
 a1:nodeK p.zs (16+n2 p.lf)=false→abK p.ab 1=zB 32
 a2:nodeK p.zs 23=false→abK p.ab 2=zB 32
structure Own(p:PS):Prop where
 inv:PInv p
 may:mayV p.e p.zs p.ad p.k=true
 lf:leafP p.zs p.lf.toNat=[powI 4 (scal p.sg),nodeY p.sc]
 k0:nodeK p.zs (16+n1 p.lf)=true→p.zs.getD (16+n1 p.lf) 0=nodeY (abK p.ab 0)
 k1:nodeK p.zs (16+n2 p.lf)=true→p.zs.getD (16+n2 p.lf) 0=nodeY (abK p.ab 1)
 k2:nodeK p.zs 23=true→p.zs.getD 23 0=nodeY (abK p.ab 2)
structure Like(p q:PS):Prop where
 e:p.e=q.e
 zs:p.zs=q.zs
 ad:p.ad=q.ad
 k:p.k=q.k
 ch:p.ch=q.ch
 ep:p.ep=q.ep
 ini:p.ini=q.ini
theorem nodeY_isI(h:List UInt8):isI (nodeY h)=true:=isI_pub (scal (nodeW h)) (scal_bd _)
theorem nodeK_not(zs:List Int)(m:Nat):nodeK zs m=false↔zs.getD m 0=0:=by unfold nodeK;simp
structure SameP(p p':PS):Prop where
 e:p'.e=p.e
 zs:p'.zs=p.zs
 ad:p'.ad=p.ad
 k:p'.k=p.k
 ch:p'.ch=p.ch
 lf:p'.lf=p.lf
 sg:p'.sg=p.sg
 sc:p'.sc=p.sc
 ep:p'.ep=p.ep
 ini:p'.ini=p.ini
theorem SameP.refl(p:PS):SameP p p:=⟨rfl,rfl,rfl,rfl,rfl,rfl,rfl,rfl,rfl,rfl⟩
theorem SameP.trans{p q r:PS}(h:SameP p q)(k:SameP q r):SameP p r:=⟨k.1.trans h.1,k.2.trans h.2,k.3.trans h.3,k.4.trans h.4,k.5.trans h.5,k.6.trans h.6,k.7.trans h.7,k.8.trans h.8,k.9.trans h.9,k.10.trans h.10⟩
theorem SameP.set(p:PS)(q:Nat)(h:List UInt8):SameP p (setAb p q h):=⟨rfl,rfl,rfl,rfl,rfl,rfl,rfl,rfl,rfl,rfl⟩
end
section
open Pm
theorem Own.mem{p:PS}(h:Own p):memL p.zs p.lf.toNat=true:=memL_of h.lf (isI_pub _ (scal_bd _))
theorem Own.memB{p:PS}(h:Own p):memB p.zs p.lf=true:=by
 unfold Go.Proofs.YtgnhmfmhbimfkaaGreatDoor.memB
 rw[h.mem]
 have h0:=h.inv.lf0
 have h1:=h.inv.lf1
 simp[leafB,h0,h1]
end
section
open Pm
theorem createW_fields(h:List UInt8):(createP h).e=0∧(createP h).zs=[powI 4 (scal (sgnW h)),nodeY (lefW h)]++List.replicate 29 0∧(createP h).ad=[true,false,false,false,false,false,false,false]∧(createP h).k=1∧(createP h).ch=zB 32∧(createP h).lf=0∧
  (createP h).sg=sgnW h∧(createP h).sc=lefW h∧(createP h).ab=zB 96∧(createP h).ep=fstW (lefW h)∧(createP h).ini=iniW (fstW (lefW h)):=by
 unfold createP enterP leafZ
 exact⟨rfl,rfl,rfl,rfl,rfl,rfl,rfl,rfl,rfl,rfl,rfl⟩
theorem ownW_of{p:PS}{x y:Int}(h1:p.zs=[x,y]++List.replicate 29 0)(h2:p.ad.length=8)(h3:p.ch.length=32)(h4:p.lf=0)(h5:p.sg.length=32)(h6:p.sc.length=32)(h7:p.ab=zB 96)(h8:p.ep.length=32)(h9:p.ini.length=32)(hm:mayV p.e p.zs p.ad p.k=true)(hx:x=powI 4 (scal p.sg))(hy:y=nodeY p.sc):Own p:=by
 have z:∀k,k<3→abK (zB 96) k=zB 32:=fun k hk=>by
  unfold abK
  rw[List.drop_replicate,List.take_replicate,show min 32 (96-k*32)=32 by omega]
 have n:∀j:Nat,2≤j→j<31→p.zs.getD j 0=0:=fun j hj hj2=>by
  rw[h1,List.getD_eq_getElem?_getD,List.getElem?_append_right (by simp;omega),List.getElem?_replicate,if_pos (by simp;omega)]
  rfl
 have k1:nodeK p.zs (16+n1 p.lf)=false:=(nodeK_not _ _).2 (n _ (by unfold n1;omega) (by rw[h4];decide))
 have k2:nodeK p.zs (16+n2 p.lf)=false:=(nodeK_not _ _).2 (n _ (by unfold n2;omega) (by rw[h4];decide))
 have k3:nodeK p.zs 23=false:=(nodeK_not _ _).2 (n _ (by decide) (by decide))
 refine⟨⟨by omega,by omega,by rw[h1];simp,h2,h3,h5,h6,by rw[h7];simp,h8,h9,fun _=>by rw[h7];exact z 0 (by decide),fun _=>by rw[h7];exact z 1 (by decide),fun _=>by rw[h7];exact z 2 (by decide)⟩,hm,?_,fun h=>by(rw[k1]at h;cases h),fun h=>by(rw[k2]at h;cases h),fun h=>by(rw[k3]at h;cases h)⟩
 rw[h4,h1,hx,hy]
 rfl
theorem createW_own(h:List UInt8):Own (createP h):=by
 obtain⟨_,k2,k3,_,k5,k6,k7,k8,k9,k10,k11⟩:=createW_fields h
 exact ownW_of k2 (by rw[k3];rfl) (by rw[k5];simp) k6 (by rw[k7];exact sgnW_len _) (by rw[k8];exact lefW_len _) k9 (by rw[k10];exact fstW_len _) (by rw[k11];exact iniW_len _) (create_may h) (by rw[k7]) (by rw[k8])
theorem comW_nil{p:PS}(h:Own p)(he:p.e<1099511627776):comE p 0 [] 0 []=0∧doP p p.lf 0 []=⟨p.zs,p.ad,p.k,F8,F8⟩:=by
 have hd:=doR_none (e:=p.e) (s:=⟨p.zs,p.ad,p.k,F8,F8⟩) (fr:=p.lf) h.may h.memB
 refine⟨?_,?_⟩
 ·have hc:chkV p.e p.zs p.ad p.k p.ch p.lf [] 0 [] 0=0:=by unfold chkV;rw[if_pos rfl,if_pos rfl]
  unfold comE
  rw[if_neg (fun h=>h hc),hd,if_neg (fun h=>h rfl),if_neg (by omega)]
 ·unfold doP;rw[hd]
theorem resF_even{zs:List Int}{n:Int}(h:oddB n=false):∀d,(resF d zs n).length≤1
 |0=>by unfold resF;split<;>simp
 |d+1=>by
  unfold resF
  rw[h]
  split<;>simp
theorem resF_two{zs:List Int}{n:Int}(h1:oddB (n-stepZ n)=false)(h2:oddB (n+stepZ n)=false)(d:Nat):(resF (d+1) zs n).length≤2:=by
 unfold resF
 have a:=resF_even (zs:=zs) h1 d
 have b:=resF_even (zs:=zs) h2 d
 split
 ·split
  ·rw[List.length_append];omega
  ·simp
 ·simp
theorem planL_16(zs:List Int)(bt:List Bool)(x:Int):(planL zs x bt).length≤16:=by
 unfold planL
 split
 ·next hx=>
  have hb:0≤x∧x<8:=by unfold leafB at hx;simp at hx;omega
  have e0:oddB ((sideL x).getD 0 0)=false:=eight (p:=fun x=>oddB ((sideL x).getD 0 0)=false) hb rfl rfl rfl rfl rfl rfl rfl rfl
  have e1:oddB ((sideL x).getD 1 0-stepZ ((sideL x).getD 1 0))=false:=eight (p:=fun x=>oddB ((sideL x).getD 1 0-stepZ ((sideL x).getD 1 0))=false) hb rfl rfl rfl rfl rfl rfl rfl rfl
  have e2:oddB ((sideL x).getD 1 0+stepZ ((sideL x).getD 1 0))=false:=eight (p:=fun x=>oddB ((sideL x).getD 1 0+stepZ ((sideL x).getD 1 0))=false) hb rfl rfl rfl rfl rfl rfl rfl rfl
  have a0:(pairsK bt ((0:Nat):Int) (resF 3 zs ((sideL x).getD 0 0))).length≤1:=Nat.le_trans (pairsK_len bt ((0:Nat):Int) _) (resF_even (zs:=zs) e0 3)
  have a1:(pairsK bt ((1:Nat):Int) (resF 3 zs ((sideL x).getD 1 0))).length≤2:=Nat.le_trans (pairsK_len bt ((1:Nat):Int) _) (resF_two (zs:=zs) e1 e2 2)
  have a2:(pairsK bt ((2:Nat):Int) (resF 3 zs ((sideL x).getD 2 0))).length≤8:=Nat.le_trans (pairsK_len bt ((2:Nat):Int) _) (Nat.le_trans (resF_len zs 3 ((sideL x).getD 2 0)) (show 2^3≤8 by decide))
  rw[show planTo zs bt x 3=(([]++pairsK bt ((0:Nat):Int) (resF 3 zs ((sideL x).getD 0 0)))++pairsK bt ((1:Nat):Int) (resF 3 zs ((sideL x).getD 1 0)))++pairsK bt ((2:Nat):Int) (resF 3 zs ((sideL x).getD 2 0))from rfl]
  simp only[List.length_append,List.length_nil]
  omega
 ·simp
theorem within_of{n m:Int}(h0:0≤n)(h1:n≤m):withinB n m=true:=by
 unfold withinB;simp[h0,h1]
theorem nodeY_in(h:List UInt8):withinB (nodeY h) 2147483579=true:=by
 obtain⟨h1,h2,_⟩:=(isI_iff _).1 (nodeY_isI h)
 exact within_of (by omega) (by omega)
theorem mayB_of{c:CS}(a1:withinB c.e 1099511627776=true)(a2:withinB c.fr 7=true)(a3:sigB c.sE c.sS=true)(a4:withinB c.sl 2147483579=true)(a5:withinB c.p0 2147483579=true)(a6:withinB c.p1 2147483579=true)(a7:withinB c.p2 2147483579=true)(n0:c.n=0)(m0:c.m=0)(k0:c.k≤16)(b0:∀j,j<c.k→(c.bx j).length≤300):mayB c=true:=by
 have e0:∀q:Nat→Bool,anyP q 0=false:=fun q=>by
  cases h:anyP q 0 with
  |false=>rfl
  |true=>obtain⟨j,hj,_⟩:=(anyP_iff _ _).1 h;omega
 have e1:anyP (fun i=>decide (((c.bx i).length:Int)>300)) c.k=false:=by
  cases h:anyP (fun i=>decide (((c.bx i).length:Int)>300)) c.k with
  |false=>rfl
  |true=>
   obtain⟨j,hj,hb⟩:=(anyP_iff _ _).1 h
   have h1:=b0 j hj
   have h2:=of_decide_eq_true hb
   omega
 have k1:decide ((c.k:Int)≤16)=true:=decide_eq_true (by omega)
 unfold mayB
 rw[a1,a2,a3,a4,a5,a6,a7,n0,m0,e0,e0,e1,k1]
 rfl
theorem mayB_com{p:PS}(h:Own p)(he0:0≤p.e)(he:p.e<1099511627776)(d:List UInt8){c:CS}(hc:c=comP p (doP p p.lf 0 []) 0 [] 0 [] d):mayB c=true∧c.n≤3000∧c.m≤3000∧c.k≤3000∧∀j,j<c.k→(c.bx j).length≤6000:=by
 have l0:=h.inv.lf0
 have l1:=h.inv.lf1
 have e1:c.n=0:=by rw[hc];dsimp only[comP,com0]
 have e2:c.m=0:=by rw[hc];dsimp only[comP,com0]
 have e3:c.k≤16:=by rw[hc];dsimp only[comP,com0];exact planL_16 _ _ _
 have e4:∀j,j<c.k→(c.bx j).length≤300:=fun j _=>by
  rw[hc]
  dsimp only[comP,com0,boxesP,boxOf]
  exact Nat.le_trans (sealB_bd _ _ _) (by decide)
 refine⟨mayB_of ?_ ?_ ?_ ?_ ?_ ?_ ?_ e1 e2 e3 e4,by omega,by omega,by omega,fun j hj=>Nat.le_trans (e4 j hj) (by decide)⟩
 ·rw[hc];exact within_of he0 (by show p.e≤_;omega)
 ·rw[hc];exact within_of l0 (by show p.lf≤_;omega)
 ·have s1:=sigE_bd (scal p.sg) (bodyB (com0 p (doP p p.lf 0 []) 0 [] 0 [] d)++tagE (nextP p (doP p p.lf 0 []) 0 [] 0 [] d).ep)
  have s2:=sigS_bd (scal p.sg) (bodyB (com0 p (doP p p.lf 0 []) 0 [] 0 [] d)++tagE (nextP p (doP p p.lf 0 []) 0 [] 0 [] d).ep)
  rw[hc]
  unfold sigB
  rw[show(comP p (doP p p.lf 0 []) 0 [] 0 [] d).sE=sigE (scal p.sg) (bodyB (com0 p (doP p p.lf 0 []) 0 [] 0 [] d)++tagE (nextP p (doP p p.lf 0 []) 0 [] 0 [] d).ep)from rfl,show(comP p (doP p p.lf 0 []) 0 [] 0 [] d).sS=sigS (scal p.sg) (bodyB (com0 p (doP p p.lf 0 []) 0 [] 0 [] d)++tagE (nextP p (doP p p.lf 0 []) 0 [] 0 [] d).ep)from rfl]
  rw[within_of s1.1 (by omega),within_of s2.1 (by omega)]
  rfl
 ·rw[hc];dsimp only[comP,com0];exact nodeY_in _
 ·rw[hc];dsimp only[comP,com0];exact nodeY_in _
 ·rw[hc];dsimp only[comP,com0];exact nodeY_in _
 ·rw[hc];dsimp only[comP,com0];exact nodeY_in _
end
section
open Pm
structure OW(N:Nat)(S:Nat→Prop)(r q:Nat)(F:List Nat)(n:Int)(l rows:List A)(ap:A)(w:World):Prop where
 g:GOK gTab S w
 p:(wvP 0 n l rows ap).p S w (r::F) r
 lt:∀z∈r::F,z<N
 s:∀z,S z→z<N∧z∉r::F∧z≠q
 q:q<N∧q∉r::F∧w.heap[q]?=some BK0
 n:N≤w.heap.size
section
variable {N : Nat} {S : Nat → Prop} {r q : Nat} {F : List Nat} {n : Int} {l rows : List A} {ap : A} {w w' : World}
theorem OW.keep(h:OW N S r q F n l rows ap w)(b:Below N w w'):OW N S r q F n l rows ap w':=by
 have k:Keeps S w S w':=⟨b.size,fun z hz hd=>⟨hd,fun o=>World.cell?_of_block (b.block z (h.s z hd).1)⟩⟩
 exact⟨h.g.up k,(wvP 0 n l rows ap).up k (fun z hz=>b.block z (h.lt z hz)) h.p,h.lt,h.s,⟨h.q.1,h.q.2.1,(b.block q h.q.1).trans h.q.2.2⟩,Nat.le_trans h.n b.size⟩
theorem below_le{B B':Nat}(h:B≤B')(b:Below B' w w'):Below B w w':=⟨b.os,b.tape,b.output,b.size,fun z hz=>b.block z (Nat.lt_of_lt_of_le hz h)⟩
theorem OW.open(h:OW N S r q F n l rows ap w):∃ps bs po v2 t cs,ps.length=8∧bs.length=8∧Blk w r (WL n 0 ps bs po v2).toArray t∧(∀i v,i<8→l[8+i]?=some (.v v)→bs[i]?=some v)∧w.ownsRow 0 35 1 po rows.length cs∧RG S w rows cs∧po.ownBlock≠some r:=by
 obtain⟨po,cs,h0,⟨ds,t,h1,h2⟩,h3,h4,h5,_⟩:=h.p
 unfold wdV at h2
 obtain⟨c1,d1,e1,k1,r1,_⟩:=h2.head
 obtain⟨c2,d2,e2,k2,r2,_⟩:=r1.head
 obtain⟨c3,d3,e3,k3,r3,_⟩:=r2.head
 obtain⟨c4,d4,e4,k4,r4,l4⟩:=r3.head
 obtain⟨_,rfl⟩:=k1.toInts
 obtain⟨_,rfl⟩:=k2.toInts
 obtain⟨_,rfl⟩:=k3.toInts
 obtain⟨g4,q4⟩:=k4.toGen
 obtain⟨g5,q5⟩:=r4.toGen
 have len4:c4.length=16:=q4.two.symm.trans g4
 obtain⟨v2,rfl⟩:∃b,d4=[po,b]:=by
  cases q5 with
  |cons a _ x=>cases x with
   |cons b _ y=>cases y;exact⟨_,by rw[ra_plainV a]⟩
 have ec:ds=WL n 0 (c4.take 8) (c4.drop 8) po v2:=by
  rw[e1,e2,e3,e4]
  unfold WL
  rw[←List.append_assoc (c4.take 8),List.take_append_drop]
  rfl
 refine⟨c4.take 8,c4.drop 8,po,v2,t,cs,by simp[len4],by simp[len4],by rw[ec]at h1;exact h1,fun i v hi ha=>?_,h3,h4,fun e=>(h5 r e).2 rfl⟩
 obtain⟨v',x1,x2⟩:=q4.at' _ _ ha
 rw[List.getElem?_drop,x1,ra_plainV x2]
theorem OW.book(h:OW N S r q F n l rows ap w){i:Nat}(hi:i<8)(hl:l[8+i]?=some (.v (.pointer (some ⟨q,0,none⟩)))):
  Calls Tryz.prog 20 #[.pointer (some ⟨r,0,none⟩),.int .i64 (i:Nat)] w fun e w'=>∃g v',e=.returned (.pointer (some ⟨g,0,none⟩))∧BookW w' g 96 v' [] 0 0∧w.heap.size≤g∧(∀z,v'.ownBlock=some z→w.heap.size≤z)∧Below w.heap.size w w':=by
 obtain⟨ps,bs,po,v2,t,cs,h1,h2,h3,h4,h5,h6,h7⟩:=h.open
 exact book_walk w r t n ps bs po v2 i hi q 96 h1 (h4 i _ hi hl) h3 ⟨h.q.2.2,⟨rfl,.inl ⟨rfl,rfl⟩⟩,by simp[Value.ownBlock],by simp⟩ (fun e=>h.q.2.1 (by simp[e]))
end
theorem new_OW{S:Nat→Prop}{w:World}(hG:GOK gTab S w):Calls Tryz.prog 9 #[] w fun e w'=>e=.returned (.pointer (some ⟨w.heap.size,0,none⟩))∧Below w.heap.size w w'∧∃(N:Nat) (S':Nat→Prop) (q:Nat) (bs:List Value) (p:PS),Own p∧p.e=0∧bs.length=7∧w.heap.size<N∧OW N S' w.heap.size q [] 0 (.sref (pSegs p) 0::(nilP 7++ .v (.pointer (some ⟨q,0,none⟩))::bs.map A.v)) [] (.v (.slice none 0 0)) w':=by
 refine(newW_walk S w hG).mono ?_
 rintro e w' ⟨bs,rfl,h1,h2,h3,h4,h5⟩
 obtain⟨q,k1,k2,k3⟩:=h2 0 (by decide)
 obtain⟨cs,t,b1,b2⟩:=h5
 have hr:w.heap.size<w'.heap.size:=(Array.getElem?_eq_some_iff.1 b1).1
 have hq:q<w'.heap.size:=(Array.getElem?_eq_some_iff.1 k2).1
 obtain⟨b,bs',rfl⟩:∃b bs',bs=b::bs':=by
  cases bs with
  |nil=>simp at h1
  |cons b l=>exact⟨_,_,rfl⟩
 obtain rfl:b=.pointer (some ⟨q,0,none⟩):=by simpa using k1
 refine⟨rfl,h4,w'.heap.size,fun z=>(((S z∧z<w.heap.size)∨w.heap.size<z)∧∀i,i<8→(Value.pointer (some ⟨q,0,none⟩)::bs')[i]?≠some (.pointer (some ⟨z,0,none⟩)))∧z<w'.heap.size,q,bs',createP (wsd 0),createW_own _,(createW_fields _).1,by simpa using h1,hr,?_,?_,?_,?_,?_,Nat.le_refl _⟩
 ·refine hG.up ⟨h4.size,fun z hz hd=>⟨⟨⟨.inl ⟨hd,hz⟩,fun i hi e=>?_⟩,by omega⟩,fun o=>World.cell?_of_block (h4.block z hz)⟩⟩
  obtain⟨q',m1,_,m3⟩:=h2 i hi
  rw[m1]at e;cases e;omega
 ·refine⟨.slice none 0 0,[],by simp,⟨cs,t,b1,b2.up ⟨Nat.le_refl _,fun z hz hd=>⟨⟨hd,hz⟩,fun _=>rfl⟩⟩⟩,⟨rfl,.inl ⟨rfl,rfl⟩⟩,.nil,(fun z hz=>by cases hz),fun _=>rfl⟩
 ·intro z hz
  obtain rfl:z=w.heap.size:=by simpa using hz
  exact hr
 ·intro z hz
  refine⟨hz.2,fun hm=>?_,fun e=>?_⟩
  ·obtain rfl:z=w.heap.size:=by simpa using hm
   rcases hz.1.1 with h|h
   ·exact absurd h.2 (Nat.lt_irrefl _)
   ·exact absurd h (Nat.lt_irrefl _)
  ·subst e
   exact hz.1.2 0 (by decide) k1
 ·exact⟨hq,fun hm=>by
   obtain rfl:q=w.heap.size:=by simpa using hm
   exact absurd k3 (Nat.lt_irrefl _),k2⟩
theorem commitB_0(c:CS):(commitB c)[0]?=some 1:=rfl
theorem step_OW{N:Nat}{S:Nat→Prop}{r q:Nat}{l rows:List A}{ap:A}{w:World}{i:Nat}{nn fr dr:Int}{n:Int}{p:PS}(h:OW N S r q [] n l rows ap w)(hn:0≤n∧n≤1000000)(hi:i<8)(hl:l.getD i (.v undef)=.sref (pSegs p) 0)(hp:Own p)(he:0≤p.e∧p.e≤1000)(hk:rows.length<60):
  Calls Tryz.prog 12 #[.pointer (some ⟨r,0,none⟩),.agg #[.int .i64 2,.int .i64 (i:Nat),.int .i64 nn,.int .i64 fr,.slice none 0 0,.int .i64 dr,.slice none 0 0]] w fun e w'=>e=.returned (.int .i64 0)∧GrownX (fun z=>z=r) w w'∧
   ∃(N':Nat) (S':Nat→Prop) (F':List Nat) (q':PS) (L:Nat) (B:List UInt8),0<L∧L≤1000000∧B[0]?=some 1∧N≤N'∧OW N' S' r q F' (n+1) (l.set i (.sref (pSegs q') 0)) (rows++[.row L [.bytes L B]]) ap w':=by
 obtain⟨c1,c2⟩:=comW_nil hp (by omega)
 obtain⟨m1,m2,m3,m4,m5⟩:=mayB_com hp (by omega) (by omega) (drawW dr) (c:=comP p (doP p p.lf 0 []) 0 [] 0 [] (drawW dr)) rfl
 have hlf:leafB p.lf=true:=by
  have l0:=hp.inv.lf0
  have l1:=hp.inv.lf1
  unfold leafB
  rw[decide_eq_true l0,decide_eq_true (by omega)];rfl
 have hf:=wstep0_B (n:=n) (l:=l) (rows:=rows) (ap:=ap) (y:=.v (.slice none 0 0)) (i:=i) (nn:=nn) (fr:=fr) (dr:=dr) (p:=p) (s:=doP p p.lf 0 []) (c:=comP p (doP p p.lf 0 []) 0 [] 0 [] (drawW dr)) (q:=nextP p (doP p p.lf 0 []) 0 [] 0 [] (drawW dr)) hn hi hl hlf hk c1 rfl rfl rfl m1 (by rw[c2];rfl) m2 m3 m4 m5
 have ha:RAs S w [A.agg [.ints .i64 4 [2,(i:Nat),nn,fr],.gen 1 [.v (.slice none 0 0)],.ints .i64 1 [dr],.gen 1 [.v (.slice none 0 0)]]] [.agg #[.int .i64 2,.int .i64 (i:Nat),.int .i64 nn,.int .i64 fr,.slice none 0 0,.int .i64 dr,.slice none 0 0]]:=by
  refine .cons ?_ .nil
  have:=RA.agg (RL.ints (S:=S) (w:=w) (k:=.i64) (n:=4) (zs:=[2,(i:Nat),nn,fr]) rfl (RL.gen (n:=1) (.cons (.v (.slice none 0 0)) rfl .nil) rfl (RL.ints (k:=.i64) (n:=1) (zs:=[dr]) rfl (RL.gen (n:=1) (.cons (.v (.slice none 0 0)) rfl .nil) rfl .nil))))
  exact this
 refine(hf S w r [] _ h.g (fun z hz=>Nat.lt_of_lt_of_le (h.lt z hz) h.n) h.p ha (fun z hz=>(h.s z hz).2.1)).mono ?_
 rintro e w' ⟨v,F',N0,rfl,k1,k2,k3,k4,k5⟩
 obtain rfl:v=.int .i64 0:=ra_plainV k4
 have hg:GrownX (fun z=>z=r) w w':=⟨k5.os,k5.tape,k5.output,k5.size,fun z hz hn=>k5.block z hz fun hm=>hn (by simpa using hm)⟩
 have hr:r<N:=h.lt r (by simp)
 have hsz:w.heap.size≤w'.heap.size:=hg.size
 have hF:∀z∈r::F',z=r∨w.heap.size≤z:=fun z hz=>by
  rcases List.mem_cons.1 hz with e|hz
  ·exact .inl e
  ·exact(k1 z hz).imp (fun h=>by simpa using h) id
 have hN:N≤w.heap.size:=h.n
 refine⟨rfl,hg,w'.heap.size,fun z=>((S z∨w.heap.size≤z)∧z∉r::F')∧z<w'.heap.size,F',nextP p (doP p p.lf 0 []) 0 [] 0 [] (drawW dr),commitN (comP p (doP p p.lf 0 []) 0 [] 0 [] (drawW dr)),commitB (comP p (doP p p.lf 0 []) 0 [] 0 [] (drawW dr)),?_,?_,commitB_0 _,Nat.le_trans hN hsz,?_,?_,?_,?_,?_,Nat.le_refl _⟩
 ·unfold commitN;omega
 ·have hk:(comP p (doP p p.lf 0 []) 0 [] 0 [] (drawW dr)).k≤24:=by dsimp only[comP,com0];exact planL_len _ _ _
  have hb:=bxN_le m5
  unfold commitN bodyN;omega
 ·refine h.g.up ⟨hsz,fun z hz hd=>⟨⟨⟨.inl hd,fun hm=>?_⟩,by omega⟩,fun o=>World.cell?_of_block (hg.block z hz fun e=>(h.s z hd).2.1 (by simp[e]))⟩⟩
  rcases hF z hm with e|e
  ·exact(h.s z hd).2.1 (by simp[e])
  ·omega
 ·exact OP.up _ ⟨Nat.le_refl _,fun z hz hd=>⟨⟨hd.1,hz⟩,fun o=>rfl⟩⟩ (fun _ _=>rfl) k3
 ·exact k2
 ·intro z hz
  refine⟨hz.2,hz.1.2,fun e=>?_⟩
  subst e
  rcases hz.1.1 with h1|h1
  ·exact(h.s z h1).2.2 rfl
  ·have:=h.q.1;omega
 ·have hq:=h.q.1
  refine⟨by omega,fun hm=>?_,(hg.block q (by omega) fun e=>h.q.2.1 (by simp[e])).trans h.q.2.2⟩
  rcases hF q hm with e|e
  ·exact h.q.2.1 (by simp[e])
  ·omega
end
section
open Pm
theorem own_blk{w:World}{B:Nat}{e:TypeId}{v:Value}{n:Nat}{cs:List Value}(h:w.ownsRow B e 1 v n cs)(hn:n≠0):∃q cap cur,v=.slice (some ⟨q,0,none⟩) n cap∧B≤q∧Blk w q cur e∧n≤cap∧cap≤maxLen∧cur.size=cap*1∧cur.toList.take (n*1)=cs:=by
 rcases h.2 with⟨_,e2⟩|⟨q,cap,cur,e1,h1,h2,h3,h4,h5,h6⟩
 ·exact absurd e2 hn
 ·exact⟨q,cap,cur,e1,h1,h2,h3,h4,h5,h6⟩
theorem take_cell{cur:Array Value}{cap n i:Nat}{cs:List Value}{v:Value}(h1:n≤cap)(h2:cur.toList.take (n*1)=cs)(h3:cs[i]?=some v):cur[i]?=some v:=by
 subst h2
 rw[List.getElem?_take]at h3
 split at h3
 ·rw[←Array.getElem?_toList];exact h3
 ·cases h3
theorem own_set{w:World}{B q n cap i:Nat}{e:TypeId}{cur:Array Value}{cs:List Value}{v:Value}(hB:B≤q)(hb:Blk w q cur e)(h1:n≤cap)(h2:cap≤maxLen)(h3:cur.size=cap*1)(h4:cur.toList.take (n*1)=cs)(hcs:cs.length=n*1):
  (w.setCell ⟨q,i,none⟩ v).ownsRow B e 1 (.slice (some ⟨q,0,none⟩) n cap) n (cs.set i v):=by
 refine⟨by rw[List.length_set];exact hcs,.inr ⟨q,cap,_,rfl,hB,hb.set i v,h1,h2,by simpa using h3,?_⟩⟩
 rw[Array.toList_setIfInBounds,List.take_set,h4]
set_option maxRecDepth 100000 in
set_option maxHeartbeats 4000000 in
theorem post1_walk(S:Nat→Prop)(w:World)(r:Nat)(t:TypeId)(n:Int)(ps bs:List Value)(po ap v0:Value)(L:Nat)(B:List UInt8)(hps:ps.length=8)(hbs:bs.length=8)(hb:Blk w r (WL n 0 ps bs po ap).toArray t)(hown:w.ownsRow 0 35 1 po 1 [v0])(hne:po.ownBlock≠some r)
  (hS:¬S r)(hG:GOK gTab S w)(hv:RA S w (.row L [.bytes L B]) v0)(hv1:v0.oneCell'=true)(hL:L≠0)(hL2:L≤1000000):
  Calls Tryz.prog 13 #[.pointer (some ⟨r,0,none⟩)] w fun e w'=>∃sv v1,e=.returned sv∧w'.ownsRow w.heap.size 35 1 sv 1 [v1]∧w'.ownsRow w.heap.size 5 1 v1 L (HL B)∧sv.ownBlock≠v1.ownBlock∧Below w.heap.size w w':=by
 have hb1:Blk (w.setCell ⟨r,1,none⟩ (.int .i32 1)) r (WL n 1 ps bs po ap).toArray t:=(hb.set 1 _).copy (WL_mu 1)
 have hg1:w.grownBy (w.setCell ⟨r,1,none⟩ (.int .i32 1)) (some r):=grown_setCell (grown_refl w _) 1 _
 have c1:w.cell? ⟨r,1,none⟩=some (.int .i32 0):=(hb.cell 1).trans (by rw[List.getElem?_toArray];rfl)
 have c2:(w.setCell ⟨r,1,none⟩ (.int .i32 1)).cell? ⟨r,19,none⟩=some po:=(hb1.cell 19).trans (by
  rw[List.getElem?_toArray]
  show(ps++(bs++[po,ap]))[16]?=some po
  rw[List.getElem?_append_right (by omega),List.getElem?_append_right (by omega),hps,hbs]
  rfl)
 have hsz:(w.setCell ⟨r,1,none⟩ (.int .i32 1)).heap.size=w.heap.size:=by simp[World.setCell]
 have hK:Keeps S w S (w.setCell ⟨r,1,none⟩ (.int .i32 1)):=⟨by rw[hsz];exact Nat.le_refl _,fun z hz hd=>⟨hd,fun o=>World.cell?_of_block (heap_setCell_other w ⟨r,1,none⟩ z _ (fun e=>hS (by rw[←show z=r from e];exact hd)))⟩⟩
 have hG2:GOK gTab S (w.setCell ⟨r,1,none⟩ (.int .i32 1)):=hG.up hK
 have hv2:=hv.up hK
 have HG2:=Lib.hid hG2;have HV2:=Lib.hid hv2
 have HB:=Lib.hid hb;have HB1:=Lib.hid hb1;have HG1:=Lib.hid hg1;have C1:=Lib.hid c1
 have HO:=Lib.hid hown;have HN:=Lib.hid hne;have HS:=Lib.hid hS;have HW:=Lib.hid hv1;have HL0:=Lib.hid hL;have HL2:=Lib.hid hL2;have HZ:=Lib.hid hsz
 clear hb hb1 hg1 c1 hown hps hbs hne hS hG hG2 hv hv2 hK hv1 hL hL2 hsz
 go_enter_defers Tryz.func13,Tryz.ntmps13
 go_wp2_with (first|(go_at_call 33;refine(lock_free ⟨r,1,none⟩ _ C1.out (HB.out.frozen 1)).mono ?_;rintro e w' ⟨rfl,rfl⟩)|(go_at_call 40;refine(clone_raw (k:=1) (cs:=[v0]) (by decide) (fun x hx=>by(have:=HW.out;simp at hx;subst hx;exact this)) (fun h=>by cases h) _ HG2.out (own_post HB.out HO.out HN.out)).mono ?_;rintro e w2 ⟨sv,rfl,hsv,hbel⟩;obtain⟨q,cap,cur,rfl,k1,k2,k3,k4,k5,k6⟩:=own_blk hsv (by decide);have HSV:=Lib.hid hsv;have HBEL:=Lib.hid hbel;have K1:=Lib.hid k1;have K2:=Lib.hid k2;have K3:=Lib.hid k3;have K4:=Lib.hid k4;have K5:=Lib.hid k5;have K6:=Lib.hid k6;have cc:w2.cell? ⟨q,0,none⟩=some v0:=(k2.cell 0).trans (take_cell k3 k6 rfl);clear hsv hbel k1 k2 k3 k4 k5 k6))
 rename_i K ha
 have HA:=Lib.hid ha
 clear ha
 have kk:Keeps S (w.setCell ⟨r,1,none⟩ (.int .i32 1)) S w2:=⟨HBEL.out.size,fun z hz hd=>⟨hd,fun o=>World.cell?_of_block (HBEL.out.block z hz)⟩⟩
 have G3:=Lib.hid (HG2.out.up kk)
 have V3:=Lib.hid (HV2.out.up kk)
 clear kk
 refine wp_loop_rounds 2 ?_
 rw[rounds_succ]
 go_wp2_with fail
 rename_i KK ha1
 have HA1:=Lib.hid ha1
 clear ha1
 refine(clone1_fn L B HL0.out HL2.out S w2 [v0] G3.out (.cons V3.out .nil)).mono ?_
 rintro e w3 ⟨v1,rfl,⟨cs1,m1,m2⟩,m3⟩
 obtain rfl:=(m2.toBytes).2
 have b3:Blk w3 q cur 35:=(m3.block q K2.out.lt).trans K2.out
 have cc3:w3.cell? ⟨q,0,none⟩=some v0:=(b3.cell 0).trans (take_cell K3.out K6.out rfl)
 have fz3:w3.frozen? ⟨q,0,none⟩=false:=b3.frozen 0
 obtain⟨q1,cap1,cur1,rfl,p1,p2,_⟩:=own_blk m1 HL0.out
 have P1:=Lib.hid p1;have P2:=Lib.hid p2
 have M1:=Lib.hid m1;have M3:=Lib.hid m3;have B3:=Lib.hid b3
 clear m1 m2 m3 b3 p1 p2
 dsimp only
 refine HA1.out _ _ ?_
 clear HA1
 go_wp2_with fail
 rw[rounds_succ]
 go_wp2_with fail
 refine HA.out _ _ ?_
 clear HA
 go_wp2_with fail
 have hrw:r<w.heap.size:=HB.out.lt
 have hq:w.heap.size≤q:=by have:=K1.out;rw[HZ.out]at this;exact this
 have s2:w.heap.size≤w2.heap.size:=by have:=HBEL.out.size;rw[HZ.out]at this;exact this
 have hq2:q<w2.heap.size:=K2.out.lt
 have hq1:w2.heap.size≤q1:=P1.out
 have h2:Blk w2 r (WL n 1 ps bs po ap).toArray t:=(HBEL.out.block r HB1.out.lt).trans HB1.out
 have h3:Blk w3 r (WL n 1 ps bs po ap).toArray t:=(M3.out.block r h2.lt).trans h2
 obtain⟨w5,hw5⟩:∃w5,w5=w3.setCell ⟨q,0,none⟩ (.slice (some ⟨q1,0,none⟩) L cap1):=⟨_,rfl⟩
 have hsl:w5.ownsRow w.heap.size 35 1 (.slice (some ⟨q,0,none⟩) 1 cap) 1 [.slice (some ⟨q1,0,none⟩) L cap1]:=by
  rw[hw5]
  exact own_set (i:=0) (cs:=[v0]) hq B3.out K3.out K4.out K5.out K6.out rfl
 rw[←hw5]
 have o5:∀z,z≠q→w5.heap[z]?=w3.heap[z]?:=fun z hz=>by rw[hw5];exact heap_setCell_other w3 ⟨q,0,none⟩ z _ hz
 have s5:w5.heap.size=w3.heap.size:=by rw[hw5];simp[World.setCell]
 have h5:Blk w5 r (WL n 1 ps bs po ap).toArray t:=(o5 r (by omega)).trans h3
 have e5:w5.os=w3.os∧w5.tape=w3.tape∧w5.output=w3.output:=by rw[hw5];exact⟨rfl,rfl,rfl⟩
 clear hw5
 refine leaves_cons (f:=34) (args:=#[.pointer (some ⟨r,1,none⟩)]) (by simp) (by simp[go_sem]) ?_
 refine(unlock_deferred ⟨r,1,none⟩ _ _ ((h5.cell 1).trans (by rw[List.getElem?_toArray];rfl)) (h5.frozen 1)).mono ?_
 rintro e u' w4 ⟨rfl,rfl,hw4⟩
 have o4:∀z,z≠r→w4.heap[z]?=w5.heap[z]?:=fun z hz=>by rw[hw4];exact heap_setCell_other w5 ⟨r,1,none⟩ z _ hz
 have s4:w4.heap.size=w5.heap.size:=by rw[hw4];simp[World.setCell]
 have h4:Blk w4 r (WL n 0 ps bs po ap).toArray t:=by rw[hw4];exact(h5.set 1 _).copy (WL_mu 0)
 have e4:w4.os=w5.os∧w4.tape=w5.tape∧w4.output=w5.output:=by rw[hw4];exact⟨rfl,rfl,rfl⟩
 clear hw4
 simp[Leaves,settle,results,Tryz.results13]
 refine⟨_,ownsRow_up hsl (fun z (hz:q=z)=>o4 z (fun e=>by omega)),own_base (ownsRow_up M1.out (fun z (hz:q1=z)=>?_)) s2,?_,?_,?_,?_,?_,fun z hz=>?_⟩
 ·subst hz
  rw[o4 q1 (by omega),o5 q1 (by omega)]
 ·intro e
  have e:some q=some q1:=e
  cases e;omega
 ·exact(e4.1.trans e5.1).trans (M3.out.os.trans (HBEL.out.os.trans HG1.out.os))
 ·exact(e4.2.1.trans e5.2.1).trans (M3.out.tape.trans (HBEL.out.tape.trans HG1.out.tape))
 ·exact(e4.2.2.trans e5.2.2).trans (M3.out.output.trans (HBEL.out.output.trans HG1.out.output))
 ·rw[s4,s5];exact Nat.le_trans s2 M3.out.size
 ·by_cases e1:z=r
  ·rw[e1];exact Eq.trans h4 HB.out.symm
  ·rw[o4 z e1,o5 z (by omega),M3.out.block z (by omega),HBEL.out.block z (by rw[HZ.out];exact hz)]
   exact heap_setCell_other w ⟨r,1,none⟩ z _ e1
theorem OW.post{N:Nat}{S:Nat→Prop}{r q:Nat}{F:List Nat}{n:Int}{l:List A}{ap:A}{w:World}{L:Nat}{B:List UInt8}(h:OW N S r q F n l [.row L [.bytes L B]] ap w)(hL:L≠0)(hL2:L≤1000000):
  Calls Tryz.prog 13 #[.pointer (some ⟨r,0,none⟩)] w fun e w'=>∃sv v1,e=.returned sv∧w'.ownsRow w.heap.size 35 1 sv 1 [v1]∧w'.ownsRow w.heap.size 5 1 v1 L (HL B)∧sv.ownBlock≠v1.ownBlock∧Below w.heap.size w w':=by
 obtain⟨ps,bs,po,v2,t,cs,h1,h2,h3,h4,h5,h6,h7⟩:=h.open
 cases h6 with
 |cons a h1v rest=>
  cases rest
  exact post1_walk S w r t n ps bs po v2 _ L B h1 h2 h3 h5 h7 (fun hs=>(h.s r hs).2.1 (by simp)) h.g a h1v hL hL2
end
section
open Pm
attribute [local irreducible] condK LoopA regA deriveW numB numsB wsd createP
set_option maxHeartbeats 4000000 in
theorem wknown_fn:FnO 18 [] (.d (.v (.bool true))):=by
 refine fnGW (E:=envWp5) Tryz.func18 Tryz.ntmps18 ?_
 refine GW.seq (GW.of ?_)
 refine agow ?_;(try exact⟨⟩)
 refine GW.seq (GW.of ?_)
 refine agow ?_;(try exact⟨⟩)
 intro p hp
 clear hp
 refine agow ?_;(try exact⟨⟩)
 refine GW.seq (GW.region (GL.preN 5 ?_))
 refine agow ?_;(try exact⟨⟩)
 refine GL.guard 2 5 rfl rfl rfl ?_
 refine agow ?_;(try exact⟨⟩)
 refine GL.preN 4 ?_
 refine agow ?_;(try exact⟨⟩)
 refine GL.guard 8 11 rfl rfl rfl ?_
 refine agow ?_;(try exact⟨⟩)
 refine GL.preN 4 ?_
 refine agow ?_;(try exact⟨⟩)
 refine GL.guard 13 16 rfl rfl rfl ?_
 refine agow ?_;(try exact⟨⟩)
 refine GL.preN 4 ?_
 refine agow ?_;(try exact⟨⟩)
 refine GL.guard 18 21 rfl rfl rfl ?_
 refine agow ?_;(try exact⟨⟩)
 refine GL.of (Stop.out ?_)
 refine agow ?_;(try exact⟨⟩)
 intro h hh
 refine agow ?_;(try exact⟨⟩)
 intro h' hh'
 obtain rfl:h'=h:=hh'.trans hh.symm
 clear hh hh'
 have q:eqSegs [Seg.bytes 32 h'] [Seg.bytes 32 h']=true:=by simp[eqSegs]
 refine agow ?_;(try exact⟨⟩)
 refine GW.of ?_
 refine agow ?_;(try exact⟨⟩)
 rw[q]
end
section
open Pm
theorem eq0{L:Nat}(h:0<L):((L:Int)==0)=false:=by
 have:¬(L:Int)=0:=by omega
 simpa using this
theorem gt0{L:Nat}(h:0<L):(L:Int)>0:=by omega
theorem hl_0{B:List UInt8}(h:B[0]?=some 1):(HL B)[0]?=some (.int .u8 1):=by
 unfold HL
 rw[List.getElem?_map,h];rfl
theorem bel_set{B q i:Nat}{w w3:World}{v:Value}(h:Below B w w3)(hq:B≤q):Below B w (w3.setCell ⟨q,i,none⟩ v):=
 ⟨h.os,h.tape,h.output,by simp only[World.setCell,Array.size_modify];exact h.size,fun z hz=>(heap_setCell_other w3 ⟨q,i,none⟩ z v (fun e=>by have e:z=q:=e;omega)).trans (h.block z hz)⟩
theorem bel_trans{B B':Nat}{a b c:World}(h:Below B a b)(k:Below B' b c)(hB:B≤B'):Below B a c:=
 ⟨k.os.trans h.os,k.tape.trans h.tape,k.output.trans h.output,Nat.le_trans h.size k.size,fun z hz=>(k.block z (Nat.lt_of_lt_of_le hz hB)).trans (h.block z hz)⟩
theorem bel_x{B:Nat}{X:Nat→Prop}{a b c:World}(h:Below B a b)(k:GrownX X b c)(hX:∀z,X z→B≤z)(hB:B≤b.heap.size):Below B a c:=
 ⟨k.os.trans h.os,k.tape.trans h.tape,k.output.trans h.output,Nat.le_trans h.size k.size,fun z hz=>(k.block z (by omega) (fun e=>by have:=hX z e;omega)).trans (h.block z hz)⟩
theorem isPlace_8(w:World):Calls Tryz.prog 32 #[.int .i64 8] w fun e w'=>e=.returned (.bool false)∧w=w':=
 (isPlace_any _ _).mono fun e w' ⟨h1,h2⟩=>⟨by rw[h1];rfl,h2⟩
set_option maxRecDepth 100000 in
theorem party_8(w:World)(r:Nat):Calls Tryz.prog 14 #[.pointer (some ⟨r,0,none⟩),.int .i64 8] w fun e w'=>e=.returned (.pointer none)∧w=w':=by
 go_enter Tryz.func14,Tryz.ntmps14
 go_wp2_with (go_at_call 32;refine(isPlace_8 _).mono ?_;rintro e w' ⟨rfl,rfl⟩)
 go_ret
 exact⟨rfl,rfl⟩
set_option maxRecDepth 100000 in
theorem book_8(w:World)(r:Nat):Calls Tryz.prog 20 #[.pointer (some ⟨r,0,none⟩),.int .i64 8] w fun e w'=>e=.returned (.pointer none)∧w=w':=by
 go_enter Tryz.func20,Tryz.ntmps20
 go_wp2_with (go_at_call 32;refine(isPlace_8 _).mono ?_;rintro e w' ⟨rfl,rfl⟩)
 go_ret
 exact⟨rfl,rfl⟩
set_option maxRecDepth 100000 in
set_option maxHeartbeats 4000000 in
theorem worldOwn_walk{w:World}(draw:Int)(hd:(Lit.int .i64 draw).wf=true)(hG:GOK gTab (fun _=>True) w):
  Calls Tryz.prog 8 #[.int .i64 draw] w fun e w'=>e=.returned (.bool true)∧Below w.heap.size w w':=by
 have HG:=Lib.hid hG
 clear hG
 go_enter Tryz.func8,Tryz.ntmps8
 go_wp2_with (first|(go_at_call 9;refine(new_OW HG.out).mono ?_;rintro e w1 ⟨rfl,hb1,N,S,q,bs,p,hp1,hp2,hl1,hn1,o1⟩;have HP:=Lib.hid hp1;have HE:=Lib.hid hp2;have HB1:=Lib.hid hb1;have O1:=Lib.hid o1;have HN1:=Lib.hid hn1;clear hb1 o1 hn1 hp1 hp2)|(go_at_call 12;refine(step_OW (i:=0) (p:=p) O1.out (by decide) (by decide) rfl HP.out (by rw[HE.out];decide) (by decide)).mono ?_;rintro e w2 ⟨rfl,hg2,N2,S2,F2,q2,L,B,hl0,hl2,hB0,hn2,o2⟩;have l0:((L:Int)==0)=false:=eq0 hl0;have l1:(L:Int)>0:=gt0 hl0;have HG2:=Lib.hid hg2;have O2:=Lib.hid o2;have HN2:=Lib.hid hn2;have HL2:=Lib.hid hl2;have HB0:=Lib.hid hB0;clear hg2 o2 hn2 hl2 hB0)|(go_at_call 13;refine(O2.out.post (Nat.pos_iff_ne_zero.1 hl0) HL2.out).mono ?_;rintro e w3 ⟨sv,v1,rfl,m1,m2,m3,m4⟩;obtain⟨qs,cps,cus,rfl,ps1,ps2,ps3,ps4,ps5,ps6⟩:=own_blk m1 (by decide);obtain⟨qr,cpr,cur,rfl,pr1,pr2,pr3,pr4,pr5,pr6⟩:=own_blk m2 (Nat.pos_iff_ne_zero.1 hl0);have cc1:w3.cell? ⟨qs,0,none⟩=some (.slice (some ⟨qr,0,none⟩) L cpr):=(ps2.cell 0).trans (take_cell ps3 ps6 rfl);have cc2:w3.cell? ⟨qr,0,none⟩=some (.int .u8 1):=(pr2.cell 0).trans (take_cell pr3 pr6 (hl_0 HB0.out));have fz2:w3.frozen? ⟨qr,0,none⟩=false:=pr2.frozen 0;have BK3:=Lib.hid (bel_set (i:=0) (v:=.int .u8 (bits BinOp.xor IntKind.u8 1 1)) (below_le O2.out.n m4) (Nat.le_trans O2.out.n pr1));clear m1 m2 m3 m4 ps1 ps2 ps3 ps4 ps5 ps6 pr1 pr2 pr3 pr4 pr5 pr6)|(go_at_call 20;refine((O2.out.keep BK3.out).book (i:=0) (by decide) rfl).mono ?_;rintro e w5 ⟨g,vg,rfl,g1,g2,g3,g4⟩;have G1:=Lib.hid g1;have GN:=Lib.hid (O2.out.keep BK3.out).n;have G2:=Lib.hid (Nat.le_trans GN.out g2);have G3:=Lib.hid (fun z hz=>Nat.le_trans GN.out (g3 z hz));have BK5:=Lib.hid (bel_trans BK3.out g4 GN.out);clear g1 g2 g3 g4)|(go_at_call 21;refine(write_new w5 g _ vg [] 0 0 5 (1::List.replicate 31 0) rfl (by decide) (by decide) (by decide) rfl (by decide) G1.out).mono ?_;rintro e w6 ⟨rfl,vw,_,_,k3⟩;have BK6:=Lib.hid (bel_x BK5.out k3 (fun z hz=>hz.elim (fun e=>by rw[e];exact G2.out) (G3.out z)) (O2.out.keep BK5.out).n);clear k3)|(go_at_call 13;refine((O2.out.keep BK6.out).post (Nat.pos_iff_ne_zero.1 hl0) HL2.out).mono ?_;rintro e w7 ⟨sv7,v7,rfl,m1,m2,m3,m4⟩;obtain⟨qs7,cps7,cus7,rfl,ps1,ps2,ps3,ps4,ps5,ps6⟩:=own_blk m1 (by decide);obtain⟨qr7,cpr7,cur7,rfl,pr1,pr2,pr3,pr4,pr5,pr6⟩:=own_blk m2 (Nat.pos_iff_ne_zero.1 hl0);have PS2:=Lib.hid ps2;have PR2:=Lib.hid pr2;have PS3:=Lib.hid (take_cell (i:=0) ps3 ps6 rfl);have PR3:=Lib.hid (take_cell pr3 pr6 (hl_0 HB0.out));have BK7:=Lib.hid (bel_trans BK6.out m4 (O2.out.keep BK6.out).n);clear m1 m2 m3 m4 ps1 ps2 ps3 ps4 ps5 ps6 pr1 pr2 pr3 pr4 pr5 pr6)|(go_at_call 20;refine((O2.out.keep BK7.out).book (i:=0) (by decide) rfl).mono ?_;rintro e w8 ⟨g8,vg8,rfl,g1,g2,g3,g4⟩;have G8:=Lib.hid g1;have GN8:=Lib.hid (Nat.le_trans (O2.out.keep BK7.out).n g2);have BK8:=Lib.hid (bel_trans BK7.out g4 (O2.out.keep BK7.out).n);have cs8:w8.cell? ⟨qs7,0,none⟩=some (.slice (some ⟨qr7,0,none⟩) L cpr7):=((PS2.out.keep g4).cell 0).trans PS3.out;have cr8:w8.cell? ⟨qr7,0,none⟩=some (.int .u8 1):=((PR2.out.keep g4).cell 0).trans PR3.out;clear g1 g2 g3 g4))
 go_wp2_with (first|(go_at_call 22;refine(len_walk w8 g8 _ vg8 [] 0 0 G8.out).mono ?_;rintro e w9 ⟨rfl,_,k2⟩;have BK9:=Lib.hid (below_grown BK8.out k2 GN8.out (O2.out.keep BK8.out).n);clear k2)|(go_at_call 20;refine(book_8 _ _).mono ?_;rintro e w10 ⟨rfl,rfl⟩)|(go_at_call 14;refine(party_8 _ _).mono ?_;rintro e w10 ⟨rfl,rfl⟩)|(go_at_call 18;refine(wknown_fn S2 w9 [] (O2.out.keep BK9.out).g .nil).mono ?_;rintro e w11 ⟨v11,rfl,hv,k11⟩;obtain rfl:=ra_plainV hv;have BK11:=Lib.hid (bel_trans BK9.out k11 (O2.out.keep BK9.out).n);clear hv k11))
 go_ret
 have h1:=HN1.out
 have h2:=HN2.out
 exact⟨rfl,bel_trans (bel_x HB1.out HG2.out (fun z hz=>by rw[hz];exact Nat.le_refl _) HB1.out.size) BK11.out (by omega)⟩
end
end Go.Proofs.YtgnhmfmhbimfkaaGreatDoor
