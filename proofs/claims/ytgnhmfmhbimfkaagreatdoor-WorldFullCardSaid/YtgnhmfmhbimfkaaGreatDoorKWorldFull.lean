/-
  The world's types.
-/
import Derived.Test.YtgnhmfmhbimfkaaGreatDoorRows
import Derived.Test.YtgnhmfmhbimfkaaGreatDoorJ10
import Derived.LaidMore
import Derived.LaidHandle
import Derived.Stop.Joined
import Derived.Test.YtgnhmfmhbimfkaaGreatDoorJ37
import Derived.Test.YtgnhmfmhbimfkaaGreatDoorJ38
namespace Go.Proofs.YtgnhmfmhbimfkaaGreatDoor
set_option maxRecDepth 100000
open Go.ChangeShapes Go.WideShapes Go.ChangeAt Go.RowKit
set_option linter.unusedVariables false
def laid2:List (String×DataW Unit):=[("math/bits.deBruijn32tab",Rows.laid_math_bits_deBruijn32tab),("math/bits.deBruijn64tab",Rows.laid_math_bits_deBruijn64tab)]
theorem door_met(os:Os)(args:Array Value):laidMetH Tryz.prog laid2 ((World.doorLaid Tryz.prog 19 os).forCall (fun _ _=>0) ⟨#[],args,[]⟩).memory:=
 laidMetH_of_parts3 (fuel:=8) (laidMet_of_run' 8 (by kernel_rfl) (by kernel_rfl)) (by kernel_rfl) (by kernel_rfl)
theorem arr_bytes{H:Type}{enc:TypeId×Value→H}{P:Program}{w:World}{base:Nat}{sp:Nat→Bool}{held:Bool}{fuel n:Nat}{t e:TypeId}{cs:List Value}{q:List MemPlace}(bs:List UInt8)(ht:P.underlying t=some (.array n e))(he:P.underlying e=some (.int .u8))(h1:P.cellsOf e=1)(hn:P.cellsOf t=n)
  (h:DataW.trod enc P w base sp held fuel t cs=some (.agg (bs.map fun b=>.lit (.int .u8 (Bt b))),q)):cs=HL bs:=by
 obtain⟨xs,m,_,hx,hl,hxl,hel⟩:=DataW.trod_array ht h
 simp only[Prod.mk.injEq,DataW.agg.injEq]at hx
 have hb:xs.map (·.1)=bs.map fun b=>.lit (.int .u8 (Bt b)):=hx.1.symm
 have hlen:bs.length=n:=by have:=congrArg List.length hb;simp at this;omega
 refine List.ext_getElem (by rw[hl,hn];simp[HL,hlen]) fun i h2 h3=>?_
 have hin:i<n:=by rw[hl,hn]at h2;exact h2
 have h4:=hel i hin
 rw[h1,List.getElem?_eq_getElem (by omega)]at h4
 obtain⟨z,e1,e2,_⟩:=DataW.trod_int he h4
 have h5:(xs.map (·.1))[i]'(by simp;omega)=(bs.map fun b=>(DataW.lit (.int .u8 (Bt b)):DataW H))[i]'(by simp;omega):=by simp only[hb]
 simp only[List.getElem_map]at h5
 rw[e2]at h5
 simp only[DataW.lit.injEq,Lit.int.injEq,true_and]at h5
 have h6:cs[i]=.int .u8 z:=by
  have:=congrArg (·[0]?) e1
  simpa[h2]using this
 rw[h6,h5]
 simp[HL]
theorem gNum:Tryz.prog.globalNamed "math/bits.deBruijn64tab"=some 1:=by kernel_rfl
theorem gType:(Tryz.prog.globals[1]?).map (·.type)=some 284:=by kernel_rfl
theorem gok_of_laid{w:World}(h:laidMetH Tryz.prog laid2 w):GOK gTab (fun _=>True) w:=by
 rw[MakeChecks.laidMetH_plain _ _ _ (by kernel_rfl)]at h
 obtain⟨ps,⟨g0,t0,cs0,f0,p0,q0,hg0,ht0,hv0,hd0,⟨g1,t1,cs1,f1,p1,q1,hg1,ht1,hv1,hd1,_,_⟩,_⟩,_,_⟩:=h
 obtain rfl:=Option.some.inj (gNum.symm.trans hg1)
 obtain rfl:=Option.some.inj (gType.symm.trans ht1)
 have hcs:=arr_bytes tab64 Tryz.underlying284 Tryz.underlying5 (by kernel_rfl) (by kernel_rfl) (q:=p1) (by
  refine hd1.trans ?_
  rfl)
 intro q l hq
 unfold gTab at hq
 split at hq
 ·cases hq
  refine⟨cs1.toList,.ofBytes rfl hcs,.inr ⟨_,0,rfl,trivial,?_,fun i hi=>?_⟩⟩
  ·have:=World.var?_cell hg1 hv1 0
   have h0:cs1[0]?≠none:=by
    rw[←Array.getElem?_toList,hcs];simp[HL,tab64]
   cases hc:cs1[0]? with
   |none=>exact absurd hc h0
   |some v=>rw[hc]at this;exact World.block_lt_of_cell? w _ this
  ·have:=World.var?_cell hg1 hv1 i
   rw[Nat.zero_add,this,←Array.getElem?_toList,List.getElem?_eq_getElem hi]
 ·cases hq
end Go.Proofs.YtgnhmfmhbimfkaaGreatDoor
namespace Go.Proofs.YtgnhmfmhbimfkaaGreatDoor
set_option linter.unusedVariables false
set_option linter.unusedSimpArgs false
set_option maxRecDepth 100000
open Go.RowKit
section
def nilP(n:Nat):List A:=List.replicate n (.v (.pointer none))
def yTab7(t0:TypeId):Option TI:=
 match t0 with
 |74=>some (tiStruct 21 [.ints .i64 1 [0],.ints .i32 1 [0],.ints .u32 1 [0],.gen 16 (nilP 16),.gen 2 [.v (.slice none 0 0),.v (.slice none 0 0)]] [0,1,3,11,19,20] [63,69,70,71,38,72] 192 false [(0,1),(1,2),(3,8),(11,8),(19,1),(20,1)])
 |22=>some (tiPtr)
 |56=>some (tiPtr)
 |70=>some { tiArr 8 40 1 [.gen 8 (nilP 8)] 64 with eq:=false }
 |71=>some { tiArr 8 56 1 [.gen 8 (nilP 8)] 64 with eq:=false }
 |37=>some (tiStruct 7 [.ints .i64 4 [0,0,0,0],.gen 1 [.v (.slice none 0 0)],.ints .i64 1 [0],.gen 1 [.v (.slice none 0 0)]] [0,1,2,3,4,5,6] [3,3,3,3,32,3,35] 88 false [(0,1),(1,1),(2,1),(3,1),(4,1),(5,1),(6,1)])
 |_=>yTab3 t0
set_option maxRecDepth 100000 in
theorem yOK7:∀t i,yTab7 t=some i→TyOK Tryz.prog t i:=by
 intro t i h
 unfold yTab7 at h
 split at h<;>first|(cases h;exact tyB_spec (by kernel_rfl))|exact yOK3 _ _ h
set_option maxRecDepth 100000 in
theorem yEq7:∀t i,yTab7 t=some i→i.eq=true→EqT Tryz.prog t i:=by
 intro t i h
 unfold yTab7 at h
 split at h<;>first|(cases h;intro he;cases he;done)|(cases h;intro _;exact eqB_spec (by kernel_rfl))|exact yEq3 _ _ h
end
section
open Pm
attribute [local irreducible] condK LoopA regA powI scal mulI isI fourB deriveW numB numsB bodyB nodeW nextW viewHV doR chkV planL sealB boxD keyZ helD commonI placeI apE doP comE comP nextP joinP upW lefW tagE welSegs welF welN createP enterP
def comK(p:PS)(n:Nat)(ops:List Int)(m:Nat)(vs:List Int)(d:List UInt8)(K:List A→Prop):Prop:=
 ∀e,e=comE p n ops m vs→StopC (condK (decide (e=0))
  (∀s c q N W,s=doP p p.lf n ops→c=comP p s n ops m vs d→q=nextP p s n ops m vs d→N=welN s.ng 8→W=welF (welSegs q (upW (lefW d)) (joinP p d) (tagE q.ep) d) s.ng 8→K [.agg (cSegs2 c),.recs N 108 W,.sref (pSegs q) 0,.v (.int .i64 0)])
  (K [.agg cZero,.v (.slice none 0 0),.v (.pointer none),.v (.int .i64 e)]))
def comR (p : PS) (n : Nat) (ops : List Int) (m : Nat) (vs : List Int) (d : List UInt8) : List A :=
  if comE p n ops m vs = 0 then [.agg (cSegs2 (comP p (doP p p.lf n ops) n ops m vs d)), .recs (welN (doP p p.lf n ops).ng 8) 108 (welF (welSegs (nextP p (doP p p.lf n ops) n ops m vs d) (upW (lefW d)) (joinP p d) (tagE (nextP p (doP p p.lf n ops) n ops m vs d).ep) d) (doP p p.lf n ops).ng 8), .sref (pSegs (nextP p (doP p p.lf n ops) n ops m vs d)) 0, .v (.int .i64 0)]
        else [.agg cZero, .v (.slice none 0 0), .v (.pointer none), .v (.int .i64 (comE p n ops m vs))]
def commS:List A→(Res→Prop)→Prop
 |[.v (.pointer none),o,v,.agg [.bytes 32 d]],K=>K (.t [.agg cZero,.v (.slice none 0 0),.v (.pointer none),.v (.int .i64 13)])
 |[x,o,v,.agg [.bytes 32 d]],K=>prK x fun p=>leafB p.lf=true∧opsK o fun n ops=>votK v fun m vs=>n≤3000∧m≤3000∧comK p n ops m vs d fun l=>K (.t l)
 |_,_=>False
theorem commS_ok:∀args K,commS args K→∃r,FnO 61 args r∧K r:=by
 intro args K h
 unfold commS at h
 split at h
 ·exact⟨_,commit0_fn _ _ _,h⟩
 ·next o v d _=>
  obtain⟨p,rfl,hf,h⟩:=prK_eq h
  obtain⟨n,ops,_,h,ho⟩:=opsK_spec h
  obtain⟨m,vs,_,⟨hn,hm,h⟩,hv⟩:=votK_spec h
  have h:=(h _ rfl).out
  refine⟨.t (comR p n ops m vs d),fun S w vs' hG ha=>?_,?_⟩
  ·obtain⟨v1,v2,v3,v4,rfl,k1,k2,k3,k4⟩:=ra_four ha
   exact commit_fn p n ops hn m vs hm _ hf S w _ hG (.cons k1 (.cons (ho k2) (.cons (hv k3) (.cons k4 .nil))))
  ·unfold comR
   by_cases he:comE p n ops m vs=0
   ·rw[decide_eq_true he,condK_true]at h
    rw[if_pos he]
    exact h _ _ _ _ _ rfl rfl rfl rfl rfl
   ·rw[decide_eq_false he,condK_false]at h
    rw[if_neg he]
    exact h
 ·exact h.elim
def createE:List A→(Res→Prop)→Prop
 |[.agg [.bytes 32 h]],K=>∀p,p=createP h→K (.d (.sref (pSegs p) 0))
 |_,_=>False
end
section
open Pm
attribute [local irreducible] condK LoopA regA powI scal mulI isI fourB deriveW numB numsB bodyB nodeW nextW viewHV doR chkV planL sealB boxD keyZ helD commonI placeI apE doP comE comP nextP joinP upW lefW tagE welSegs welF createP enterP
theorem nextP_e(p:PS)(s:Vw)(n:Nat)(ops:List Int)(m:Nat)(vs:List Int)(d:List UInt8):(nextP p s n ops m vs d).e=p.e+1:=by unfold nextP reachP enterP behP renewP;rfl
end
section
open Pm
theorem wload_any(a:Addr)(x:Int)(w:World)(hc:w.cell? a=some (.int .i64 x)):
  Calls Tryz.prog 44 #[.pointer (some a)] w fun e w'=>e=.returned (.int .i64 x)∧w=w':=by
 have hl:=run_call_load (P:=Tryz.prog) Tryz.func68 (by kernel_rfl) (by kernel_rfl) (by kernel_rfl) .i64 (by kernel_rfl) hc
 go_enter Tryz.func44,Tryz.ntmps44
 go_wp2
 go_ret
 exact⟨rfl,rfl⟩
theorem wadd_any(a:Addr)(x:Int)(hx:0≤x∧x≤1000000)(w:World)(hc:w.cell? a=some (.int .i64 x))(hz:w.frozen? a=false):
  Calls Tryz.prog 31 #[.pointer (some a),.int .i64 1] w fun e w'=>(∃y,e=.returned y)∧w'=w.setCell a (.int .i64 (x+1)):=by
 have hwr:RowKit.wrap64 (x+1)=x+1:=IntWalk.wrap64_in _ (by omega)
 have hwi:IntKind.i64.wrap (x+1)=x+1:=wrapS (by omega) (by omega)
 clear hx
 have hadd:=run_call_add (P:=Tryz.prog) Tryz.func53 (by kernel_rfl) (by kernel_rfl) (by kernel_rfl) .i64 (by kernel_rfl) (y:=1) (s:=x+1) hc hz (by simp[go_sem,hwr,hwi])
 go_enter Tryz.func31,Tryz.ntmps31
 go_wp2
 go_ret
 exact⟨⟨_,rfl⟩,rfl⟩
end
section
open Pm
def WL(n mu:Int)(ps bs:List Value)(po ap:Value):List Value:=.int .i64 n::.int .i32 mu::.int .u32 0::(ps++(bs++[po,ap]))
theorem WL_mu{n mu:Int}{ps bs:List Value}{po ap:Value}(m:Int):(WL n mu ps bs po ap).toArray.setIfInBounds 1 (.int .i32 m)=(WL n m ps bs po ap).toArray:=by
 rw[List.setIfInBounds_toArray];rfl
theorem WL_n{n mu:Int}{ps bs:List Value}{po ap:Value}(m:Int):(WL n mu ps bs po ap).toArray.setIfInBounds 0 (.int .i64 m)=(WL m mu ps bs po ap).toArray:=by
 rw[List.setIfInBounds_toArray];rfl
theorem WL_p{n mu:Int}{ps bs:List Value}{po ap:Value}{i:Nat}{v:Value}(hi:ps[i]?=some v):(WL n mu ps bs po ap).toArray[3+i]?=some v:=by
 rw[List.getElem?_toArray,show 3+i=i+3 by omega]
 show(ps++(bs++[po,ap]))[i]?=_
 rw[List.getElem?_append_left (List.getElem?_eq_some_iff.1 hi).1]
 exact hi
theorem isPlace_any(i:Int)(w:World):Calls Tryz.prog 32 #[.int .i64 i] w fun e w'=>e=.returned (.bool (decide (0≤i∧i<8)))∧w=w':=by
 by_cases h0:0≤i
 ·by_cases h1:i<8
  ·rw[decide_eq_true ⟨h0,h1⟩]
   have g0:i≥0:=h0
   go_enter Tryz.func32,Tryz.ntmps32
   go_wp2
   go_ret
   exact⟨rfl,rfl⟩
  ·rw[decide_eq_false (fun h=>h1 h.2)]
   have g0:i≥0:=h0
   go_enter Tryz.func32,Tryz.ntmps32
   go_wp2
   go_ret
   exact⟨rfl,rfl⟩
 ·rw[decide_eq_false (fun h=>h0 h.1)]
  have g0:¬i≥0:=h0
  go_enter Tryz.func32,Tryz.ntmps32
  go_wp2
  go_ret
  exact⟨rfl,rfl⟩
theorem isPlace_in{i:Nat}(hi:i<8)(w:World):Calls Tryz.prog 32 #[.int .i64 (i:Nat)] w fun e w'=>e=.returned (.bool true)∧w=w':=
 (isPlace_any _ _).mono fun e w' ⟨h1,h2⟩=>⟨by rw[h1,decide_eq_true (show 0≤(i:Int)∧(i:Int)<8 from⟨by omega,by omega⟩)],h2⟩
set_option maxRecDepth 100000 in
set_option maxHeartbeats 4000000 in
theorem party_walk(w:World)(r:Nat)(t:TypeId)(n:Int)(ps bs:List Value)(po ap:Value)(i:Nat)(hi:i<8)(pv:Value)(hp:ps[i]?=some pv)(hb:Blk w r (WL n 0 ps bs po ap).toArray t)(Q:Value→World→Prop)
  (hcopy:∀w1,Blk w1 r (WL n 1 ps bs po ap).toArray t→w.grownBy w1 (some r)→Calls Tryz.prog 42 #[pv] w1 fun e w2=>∃v,e=.returned v∧Q v w2∧Below w1.heap.size w1 w2):
  Calls Tryz.prog 14 #[.pointer (some ⟨r,0,none⟩),.int .i64 (i:Nat)] w fun e w'=>∃v w2,e=.returned v∧Q v w2∧w'=w2.setCell ⟨r,1,none⟩ (.int .i32 0)∧Blk w2 r (WL n 1 ps bs po ap).toArray t∧w.grownBy w2 (some r):=by
 have hb1:Blk (w.setCell ⟨r,1,none⟩ (.int .i32 1)) r (WL n 1 ps bs po ap).toArray t:=(hb.set 1 _).copy (WL_mu 1)
 have hg1:w.grownBy (w.setCell ⟨r,1,none⟩ (.int .i32 1)) (some r):=grown_setCell (grown_refl w _) 1 _
 have c1:w.cell? ⟨r,1,none⟩=some (.int .i32 0):=(hb.cell 1).trans (by rw[List.getElem?_toArray];rfl)
 have c2:(w.setCell ⟨r,1,none⟩ (.int .i32 1)).cell? ⟨r,3+i,none⟩=some pv:=(hb1.cell (3+i)).trans (WL_p hp)
 have i0:¬(i:Int)<0:=by omega
 have i1:(i:Int)<8:=by omega
 have HB:=Lib.hid hb;have HB1:=Lib.hid hb1;have HG1:=Lib.hid hg1;have C1:=Lib.hid c1;have HC:=Lib.hid hcopy
 clear hb hb1 hg1 hcopy c1 hp
 go_enter_defers Tryz.func14,Tryz.ntmps14
 go_wp2_with (first|(go_at_call 32;refine(isPlace_in hi _).mono ?_;rintro e w' ⟨rfl,rfl⟩)|(go_at_call 33;refine(lock_free ⟨r,1,none⟩ _ C1.out (HB.out.frozen 1)).mono ?_;rintro e w' ⟨rfl,rfl⟩)|(go_at_call 42;refine(HC.out _ HB1.out HG1.out).mono ?_;rintro e w' ⟨v,rfl,hq,hbel⟩))
 have hb2:=HB1.out.keep hbel
 have c3:w'.cell? ⟨r,1,none⟩=some (.int .i32 1):=(hb2.cell 1).trans (by rw[List.getElem?_toArray];rfl)
 have hbw:w.grownBy w' (some r):=grown_below HG1.out hbel
 refine leaves_cons (f:=34) (args:=#[.pointer (some ⟨r,1,none⟩)]) (by simp) (by simp[go_sem]) ?_
 refine(unlock_deferred ⟨r,1,none⟩ _ _ c3 (hb2.frozen 1)).mono ?_
 rintro e u' w4 ⟨rfl,rfl,hw4⟩
 simp[Leaves,settle,results,Tryz.results14]
 exact⟨w',hq,hw4,hb2,hbw⟩
end
section
open Pm
abbrev AC(kd who nn fr:Int)(ops:Value)(dr:Int)(by':Value):Array Value:=#[.int .i64 kd,.int .i64 who,.int .i64 nn,.int .i64 fr,ops,.int .i64 dr,by']
theorem World.alloc_keep{w:World}{o:Obj}{r:Nat}{cs:Array Value}{t:TypeId}(h:Blk w r cs t):Blk (w.alloc o) r cs t:=(Below.heap_alloc _ _ _ h.lt).trans h
set_option maxRecDepth 100000 in
set_option maxHeartbeats 4000000 in
theorem step_commit(w:World)(r:Nat)(t:TypeId)(n:Int)(hn:0≤n∧n≤1000000)(ps bs:List Value)(po ap:Value)(i:Nat)(hi:i<8)(nn fr dr:Int)(ops by':Value)(hb:Blk w r (WL n 0 ps bs po ap).toArray t)(Q:Value→Array Value→World→Prop)
  (hsub:∀w1,Blk w1 r (WL (n+1) 1 ps bs po ap).toArray t→w.grownBy w1 (some r)→Calls Tryz.prog 36 #[.pointer (some ⟨r,0,none⟩),.agg (AC 2 (i:Nat) nn fr ops dr by')] w1 fun e w2=>∃v cs t',e=.returned v∧Q v cs w2∧Blk w2 r cs t'∧cs[1]?=some (.int .i32 1)):
  Calls Tryz.prog 12 #[.pointer (some ⟨r,0,none⟩),.agg (AC 2 (i:Nat) nn fr ops dr by')] w fun e w'=>∃v cs w2 t',e=.returned v∧Q v cs w2∧w'=w2.setCell ⟨r,1,none⟩ (.int .i32 0)∧Blk w2 r cs t':=by
 have b0:Blk (w.alloc (.cells (AC 2 (i:Nat) nn fr ops dr by') 37)) r (WL n 0 ps bs po ap).toArray t:=World.alloc_keep hb
 have a0:Blk (w.alloc (.cells (AC 2 (i:Nat) nn fr ops dr by') 37)) w.heap.size (AC 2 (i:Nat) nn fr ops dr by') 37:=Blk.newAt _ _ rfl
 have g0:w.grownBy (w.alloc (.cells (AC 2 (i:Nat) nn fr ops dr by') 37)) (some r):=⟨rfl,rfl,rfl,by rw[size_alloc];omega,fun k hk _=>Below.heap_alloc _ _ _ hk⟩
 have hne:r≠w.heap.size:=by have:=hb.lt;omega
 have b1:Blk ((w.alloc (.cells (AC 2 (i:Nat) nn fr ops dr by') 37)).setCell ⟨r,0,none⟩ (.int .i64 (n+1))) r (WL (n+1) 0 ps bs po ap).toArray t:=(b0.set 0 _).copy (WL_n _)
 have a1:Blk ((w.alloc (.cells (AC 2 (i:Nat) nn fr ops dr by') 37)).setCell ⟨r,0,none⟩ (.int .i64 (n+1))) w.heap.size (AC 2 (i:Nat) nn fr ops dr by') 37:=a0.other ⟨r,0,none⟩ _ hne.symm
 have g1:w.grownBy ((w.alloc (.cells (AC 2 (i:Nat) nn fr ops dr by') 37)).setCell ⟨r,0,none⟩ (.int .i64 (n+1))) (some r):=grown_setCell g0 0 _
 have b2:Blk (((w.alloc (.cells (AC 2 (i:Nat) nn fr ops dr by') 37)).setCell ⟨r,0,none⟩ (.int .i64 (n+1))).setCell ⟨r,1,none⟩ (.int .i32 1)) r (WL (n+1) 1 ps bs po ap).toArray t:=(b1.set 1 _).copy (WL_mu _)
 have a2:Blk (((w.alloc (.cells (AC 2 (i:Nat) nn fr ops dr by') 37)).setCell ⟨r,0,none⟩ (.int .i64 (n+1))).setCell ⟨r,1,none⟩ (.int .i32 1)) w.heap.size (AC 2 (i:Nat) nn fr ops dr by') 37:=a1.other ⟨r,1,none⟩ _ hne.symm
 have g2:w.grownBy (((w.alloc (.cells (AC 2 (i:Nat) nn fr ops dr by') 37)).setCell ⟨r,0,none⟩ (.int .i64 (n+1))).setCell ⟨r,1,none⟩ (.int .i32 1)) (some r):=grown_setCell g1 1 _
 have c0:(w.alloc (.cells (AC 2 (i:Nat) nn fr ops dr by') 37)).cell? ⟨r,0,none⟩=some (.int .i64 n):=(b0.cell 0).trans (by rw[List.getElem?_toArray];rfl)
 have c1:((w.alloc (.cells (AC 2 (i:Nat) nn fr ops dr by') 37)).setCell ⟨r,0,none⟩ (.int .i64 (n+1))).cell? ⟨r,1,none⟩=some (.int .i32 0):=(b1.cell 1).trans (by rw[List.getElem?_toArray];rfl)
 have k1:((w.alloc (.cells (AC 2 (i:Nat) nn fr ops dr by') 37)).setCell ⟨r,0,none⟩ (.int .i64 (n+1))).cell? ⟨w.heap.size,1,none⟩=some (.int .i64 (i:Nat)):=a1.cell 1
 have k2:(((w.alloc (.cells (AC 2 (i:Nat) nn fr ops dr by') 37)).setCell ⟨r,0,none⟩ (.int .i64 (n+1))).setCell ⟨r,1,none⟩ (.int .i32 1)).cell? ⟨w.heap.size,0,none⟩=some (.int .i64 2):=a2.cell 0
 have HS:=Lib.hid hsub;have HN:=Lib.hid hn;have B0:=Lib.hid b0;have B1:=Lib.hid b1;have B2:=Lib.hid b2;have A2:=Lib.hid a2;have G2:=Lib.hid g2;have C0:=Lib.hid c0;have C1:=Lib.hid c1
 clear hb hsub hn b0 a0 g0 b1 a1 g1 b2 a2 g2 c0 c1
 go_enter_defers Tryz.func12,Tryz.ntmps12
 go_wp2_with (first|(go_at_call 31;refine(wadd_any ⟨r,0,none⟩ n HN.out _ C0.out (B0.out.frozen 0)).mono ?_;rintro e w' ⟨⟨y,rfl⟩,rfl⟩)|(go_at_call 32;refine(isPlace_in hi _).mono ?_;rintro e w' ⟨rfl,rfl⟩)|(go_at_call 33;refine(lock_free ⟨r,1,none⟩ _ C1.out (B1.out.frozen 1)).mono ?_;rintro e w' ⟨rfl,rfl⟩)|(go_at_call 36;refine(HS.out _ B2.out G2.out).mono ?_;rintro e w' ⟨v,cs,t',rfl,hq,hb3,hc3⟩))
 refine leaves_cons (f:=34) (args:=#[.pointer (some ⟨r,1,none⟩)]) (by simp) (by simp[go_sem]) ?_
 refine(unlock_deferred ⟨r,1,none⟩ _ _ ((hb3.cell 1).trans hc3) (hb3.frozen 1)).mono ?_
 rintro e u' w4 ⟨rfl,rfl,hw4⟩
 simp[Leaves,settle,results,Tryz.results12]
 exact⟨cs,w',hq,hw4,t',hb3⟩
end
section
open Pm
set_option maxRecDepth 100000 in
set_option maxHeartbeats 4000000 in
theorem commit_absent(w:World)(r:Nat)(t:TypeId)(n mu:Int)(ps bs:List Value)(po ap:Value)(i:Nat)(hi:i<8)(hp:ps[i]?=some (.pointer none))(kd nn fr dr:Int)(ops by':Value)(hb:Blk w r (WL n mu ps bs po ap).toArray t):
  Calls Tryz.prog 36 #[.pointer (some ⟨r,0,none⟩),.agg (AC kd (i:Nat) nn fr ops dr by')] w fun e w'=>e=.returned (.int .i64 13)∧Blk w' r (WL n mu ps bs po ap).toArray t∧w.grownBy w' none:=by
 have b0:Blk (w.alloc (.cells (AC kd (i:Nat) nn fr ops dr by') 37)) r (WL n mu ps bs po ap).toArray t:=World.alloc_keep hb
 have a0:Blk (w.alloc (.cells (AC kd (i:Nat) nn fr ops dr by') 37)) w.heap.size (AC kd (i:Nat) nn fr ops dr by') 37:=Blk.newAt _ _ rfl
 have g0:w.grownBy (w.alloc (.cells (AC kd (i:Nat) nn fr ops dr by') 37)) none:=⟨rfl,rfl,rfl,by rw[size_alloc];omega,fun k hk _=>Below.heap_alloc _ _ _ hk⟩
 have k1:(w.alloc (.cells (AC kd (i:Nat) nn fr ops dr by') 37)).cell? ⟨w.heap.size,1,none⟩=some (.int .i64 (i:Nat)):=a0.cell 1
 have k2:(w.alloc (.cells (AC kd (i:Nat) nn fr ops dr by') 37)).cell? ⟨r,3+i,none⟩=some (.pointer none):=(b0.cell (3+i)).trans (WL_p hp)
 have i0:0≤(i:Int):=by omega
 have i1:(i:Int)<8:=by omega
 have B0:=Lib.hid b0;have G0:=Lib.hid g0
 clear hb b0 a0 g0 hp
 go_enter Tryz.func36,Tryz.ntmps36
 go_wp2_with fail
 refine region_tail 7 (by kernel_rfl) (by kernel_rfl) ?_
 repeat still_step
 refine wpStill_nil ?_
 go_wp2
 go_ret
 exact⟨rfl,B0.out.drew,grown_drew G0.out⟩
end
section
open Pm
def bk0:List Seg:=[.ints .i32 1 [0],.ints .u32 1 [0],.gen 1 [.v (.slice none 0 0)],.ints .i64 2 [0,0]]
attribute [local irreducible] condK LoopA regA deriveW numB numsB
theorem newBook_fn:FnO 23 [] (.d (.sref bk0 0)):=by
 refine fn_sref (fnA (E:=env0) Tryz.func23 Tryz.ntmps23 ?_)
 refine agow ?_;(try exact⟨⟩)
 rfl
def newBkS:List A→(Res→Prop)→Prop
 |[],K=>K (.d (.sref bk0 0))
 |_,_=>False
theorem newBkS_ok:∀args K,newBkS args K→∃r,FnO 23 args r∧K r:=by
 intro args K h
 unfold newBkS at h
 split at h
 ·exact⟨_,newBook_fn,h⟩
 ·exact h.elim
def wsd(i:Int):List UInt8:=deriveW (zB 32) (sb ⟨#[115,101,101,100]⟩) (numB i)
set_option maxHeartbeats 4000000 in
theorem wseed_fn(i:Int):FnO 25 [.v (.int .i64 i)] (.d (.agg [.bytes 32 (wsd i)])):=by
 refine fnA (E:=envK3) Tryz.func25 Tryz.ntmps25 ?_
 refine agow ?_;(try exact⟨⟩)
 rfl
theorem rwseed_fn(i:Int):FnO 11 [.v (.int .i64 i)] (.d (.agg [.bytes 32 (wsd i)])):=by
 refine fnA (E:=envK4) Tryz.func11 Tryz.ntmps11 ?_
 have hl:(numB i).length≤100000000:=by rw[numB_length];decide
 refine agow ?_;(try exact⟨⟩)
 rfl
def wseedS:List A→(Res→Prop)→Prop
 |[.v (.int .i64 i)],K=>∀h,h=wsd i→K (.d (.agg [.bytes 32 h]))
 |_,_=>False
theorem wseedS_of{f:FuncId}(hf:∀i,FnO f [.v (.int .i64 i)] (.d (.agg [.bytes 32 (wsd i)]))):∀args K,wseedS args K→∃r,FnO f args r∧K r:=by
 intro args K h
 unfold wseedS at h
 split at h
 ·exact⟨_,hf _,h _ rfl⟩
 ·exact h.elim
end
section
open Pm
def wdS(n:Int)(l:List A)(po:List A):List Seg:=[.ints .i64 1 [n],.ints .i32 1 [0],.ints .u32 1 [0],.gen 16 l,.gen 2 po]
theorem RG.two{S:Nat→Prop}{w:World}:∀{l:List A} {cs:List Value},RG S w l cs→l.length=cs.length
 |_,_,.nil=>rfl
 |_,_,.cons _ _ r=>by rw[List.length_cons,List.length_cons,r.two]
theorem RG.at'{S:Nat→Prop}{w:World}:∀{l:List A} {cs:List Value},RG S w l cs→∀(i:Nat) (a:A),l[i]?=some a→∃v,cs[i]?=some v∧RA S w a v
 |_,_,.nil,i,a,e=>by cases e
 |_,_,.cons h1 _ r,0,a,e=>by cases e;exact⟨_,rfl,h1⟩
 |_,_,.cons _ _ r,i+1,a,e=>r.at' i a e
theorem wd_open{D:Nat→Prop}{w:World}{r:Nat}{n:Int}{l po:List A}(h:HB D w r (.var (wdS n l po))):∃ps bs v1 v2 t,ps.length=8∧Blk w r (WL n 0 ps bs v1 v2).toArray t∧(∀i a,i<8→l[i]?=some a→∃v,ps[i]?=some v∧RA D w a v)∧
  ∀(D':Nat→Prop) (w':World) (n':Int) {t':TypeId},Keeps D w D' w'→Blk w' r (WL n' 0 ps bs v1 v2).toArray t'→HB D' w' r (.var (wdS n' l po)):=by
 obtain⟨cs,t,h1,h2⟩:=h
 unfold wdS at h2
 obtain⟨c1,d1,e1,k1,r1,_⟩:=h2.head
 obtain⟨c2,d2,e2,k2,r2,_⟩:=r1.head
 obtain⟨c3,d3,e3,k3,r3,_⟩:=r2.head
 obtain⟨c4,d4,e4,k4,r4,l4⟩:=r3.head
 obtain⟨_,rfl⟩:=k1.toInts
 obtain⟨_,rfl⟩:=k2.toInts
 obtain⟨_,rfl⟩:=k3.toInts
 obtain⟨g4,q4⟩:=k4.toGen
 obtain⟨g5,q5⟩:=r4.toGen
 have len4:c4.length=16:=q4.two.symm.trans g4
 have len5:d4.length=2:=q5.two.symm.trans g5
 obtain⟨v1,v2,rfl⟩:∃a b,d4=[a,b]:=by
  rcases d4 with _|⟨a,_|⟨b,_|⟨c,x⟩⟩⟩<;>first|(simp at len5;done)|exact⟨a,b,rfl⟩
 have ec:cs=WL n 0 (c4.take 8) (c4.drop 8) v1 v2:=by
  rw[e1,e2,e3,e4]
  unfold WL
  rw[←List.append_assoc (c4.take 8),List.take_append_drop]
  rfl
 refine⟨c4.take 8,c4.drop 8,v1,v2,t,by simp[len4],by rw[ec]at h1;exact h1,fun i a hi ha=>?_,fun D' w' n' {t'} kp hb=>⟨_,t',hb,?_⟩⟩
 ·obtain⟨v,x1,x2⟩:=q4.at' i a ha
  exact⟨v,by rw[List.getElem?_take,if_pos hi];exact x1,x2⟩
 ·have u4:=RL.up kp k4
  have u5:=RL.up kp r4
  have e:WL n' 0 (c4.take 8) (c4.drop 8) v1 v2=[.int .i64 n']++([.int .i32 0]++([.int .u32 0]++(c4++[v1,v2]))):=by
   unfold WL
   rw[←List.append_assoc (c4.take 8),List.take_append_drop]
   rfl
  rw[e]
  unfold wdS
  obtain⟨_,p4⟩:=u4.toGen
  obtain⟨_,p5⟩:=u5.toGen
  have q:=RL.ints (k:=.i64) (n:=1) (zs:=[n']) rfl (RL.ints (k:=.i32) (n:=1) (zs:=[0]) rfl (RL.ints (k:=.u32) (n:=1) (zs:=[0]) rfl (RL.gen p4 g4 (RL.gen p5 g5 .nil))))
  rw[List.append_nil]at q
  exact q
end
section
open Pm
theorem keeps_grown{S:Nat→Prop}{w w':World}{r:Nat}(g:w.grownBy w' (some r)):Keeps (fun q=>S q∧q≠r) w (fun q=>(S q∨w.heap.size≤q)∧q≠r) w':=
 ⟨g.size,fun b hb hS=>⟨⟨.inl hS.1,hS.2⟩,fun o=>by
  have e:w'.heap[b]?=w.heap[b]?:=g.block b hb (fun e=>hS.2 (by cases e;rfl))
  unfold World.cell?
  rw[e]⟩⟩
theorem grown_none{a b c:World}{r:Nat}(h:a.grownBy b (some r))(k:b.grownBy c none):a.grownBy c (some r):=
 grown_trans h ⟨k.os,k.tape,k.output,k.size,fun q hq _=>k.block q hq (fun e=>by cases e)⟩
set_option maxRecDepth 100000 in
theorem wsteps_walk(w:World)(r:Nat)(t:TypeId)(n:Int)(ps bs:List Value)(po ap:Value)(hb:Blk w r (WL n 0 ps bs po ap).toArray t)(hn:0≤n∧n≤1000000):
  Calls Tryz.prog 19 #[.pointer (some ⟨r,0,none⟩)] w fun e w'=>e=.returned (.int .i64 n)∧w=w':=by
 have c0:w.cell? ⟨r,0,none⟩=some (.int .i64 n):=(hb.cell 0).trans (by rw[List.getElem?_toArray];rfl)
 have C0:=Lib.hid c0
 have hw:IntKind.i64.wrap n=n:=wrapS (by omega) (by omega)
 clear hb hn c0
 go_enter Tryz.func19,Tryz.ntmps19
 go_wp2_with (go_at_call 44;refine(wload_any ⟨r,0,none⟩ n _ C0.out).mono ?_;rintro e w' ⟨rfl,rfl⟩)
 go_ret
 exact⟨rfl,rfl⟩
theorem wsteps_M(n:Int)(hn:0≤n∧n≤1000000)(l po:List A):FnM Tryz.prog gTab 19 0 (.var (wdS n l po)) [] (.d (.v (.int .i64 n))) (.var (wdS n l po)):=by
 intro S w r vs hr hG hH hv
 cases hv
 obtain⟨ps,bs,v1,v2,t,hl,hb,_,back⟩:=wd_open hH
 refine(wsteps_walk w r t n ps bs v1 v2 hb hn).mono ?_
 rintro e w' ⟨rfl,rfl⟩
 exact⟨_,rfl,.v _,HB.up (keeps_grown (grown_refl w (some r))) rfl hH,grown_refl w _⟩
theorem act_open{D:Nat→Prop}{w:World}{kd who nn fr dr:Int}{x y:A}{v:Value}(h:RA D w (.agg [.ints .i64 4 [kd,who,nn,fr],.gen 1 [x],.ints .i64 1 [dr],.gen 1 [y]]) v):∃vx vy,v=.agg (AC kd who nn fr vx dr vy)∧RA D w x vx∧RA D w y vy:=by
 cases h with
 |agg hl=>
  rename_i cs
  obtain⟨c1,d1,e1,k1,r1,_⟩:=hl.head
  obtain⟨c2,d2,e2,k2,r2,_⟩:=r1.head
  obtain⟨c3,d3,e3,k3,r3,_⟩:=r2.head
  obtain⟨_,rfl⟩:=k1.toInts
  obtain⟨_,rfl⟩:=k3.toInts
  obtain⟨_,q2⟩:=k2.toGen
  obtain⟨_,q4⟩:=r3.toGen
  cases q2 with
  |cons a1 _ n1=>
   cases n1
   cases q4 with
   |cons a2 _ n2=>
    cases n2
    refine⟨_,_,?_,a1,a2⟩
    congr 1
    apply Array.toList_inj.1
    rw[e1,e2,e3]
    rfl
theorem wstep_absent(n:Int)(hn:0≤n∧n≤1000000)(l po:List A)(i:Nat)(hi:i<8)(ha:l[i]?=some (.v (.pointer none)))(nn fr dr:Int)(x y:A):
  FnM Tryz.prog gTab 12 0 (.var (wdS n l po)) [.agg [.ints .i64 4 [2,(i:Nat),nn,fr],.gen 1 [x],.ints .i64 1 [dr],.gen 1 [y]]] (.d (.v (.int .i64 13))) (.var (wdS (n+1) l po)):=by
 intro S w r vs hr hG hH hv
 cases hv with
 |cons h1 hnil=>
  cases hnil
  obtain⟨vx,vy,rfl,_,_⟩:=act_open h1
  obtain⟨ps,bs,v1,v2,t,hl,hb,hp,back⟩:=wd_open hH
  obtain⟨v,hv1,hv2⟩:=hp i _ hi ha
  obtain rfl:v=.pointer none:=hv2.plain
  refine(step_commit w r t n hn ps bs v1 v2 i hi nn fr dr vx vy hb (fun v cs w2=>v=.int .i64 13∧cs=(WL (n+1) 1 ps bs v1 v2).toArray∧w.grownBy w2 (some r)) fun w1 hb1 hg1=>?_).mono ?_
  ·refine(commit_absent w1 r t (n+1) 1 ps bs v1 v2 i hi hv1 2 nn fr dr vx vy hb1).mono ?_
   rintro e w2 ⟨rfl,hb2,hg2⟩
   exact⟨_,_,_,rfl,⟨rfl,rfl,grown_none hg1 hg2⟩,hb2,by rw[List.getElem?_toArray];rfl⟩
  ·rintro e w' ⟨v,cs,w2,t',rfl,⟨rfl,rfl,hg⟩,rfl,hb2⟩
   have hb3:Blk (w2.setCell ⟨r,1,none⟩ (.int .i32 0)) r (WL (n+1) 0 ps bs v1 v2).toArray t':=(hb2.set 1 _).copy (WL_mu _)
   have hg3:w.grownBy (w2.setCell ⟨r,1,none⟩ (.int .i32 0)) (some r):=grown_setCell hg 1 _
   exact⟨_,rfl,.v _,back _ _ _ (keeps_grown hg3) hb3,hg3⟩
end
section
theorem wp_guard(P:Program)(o:Oper)(g:Option (Nat×Bool))(a:Act)(w:World)(n:Act→World→Prop)(Q:Exit→Act→World→Prop):Oper.wp P { o with guard:=g } a w n Q=Oper.wp P o a w n Q:=by
 cases o
 unfold Oper.wp Oper.upon execOp
 rfl
theorem opok_guard{E:EnvX}{o:Oper}{g:Option (Nat×Bool)}{s:St}{fr:Nat}{t:T}{blk:Option (Nat×Bk)}(h:OpOK E { o with guard:=g } s fr t blk):OpOK E o s fr t blk:=
 ⟨h.1,h.2.1,fun S base w0 s' ρ a w K Q h1 h2 h3 h4 h5=>(wp_guard E.P o g a w K Q)▸h.2.2 S base w0 s' ρ a w K Q h1 h2 h3 h4 h5⟩
theorem GL.guard{E:EnvX}{ops r:List Oper}{o:Oper}{s:St}{k:St→Prop}(j d:Nat)(hg:o.guard=some (j,true))(hd:(ops[j]?).bind (·.dst)=some d)(hs:s.sl d=.d (.v (.bool true)))
  (h:Stop (regA E ops [{ o with guard:=none }] s fun s'=>GL E ops r s' k)):GL E ops (o::r) s k:=by
 refine⟨fun S base w0 ρ a w g=>?_⟩
 have hw:Wants ops o s true:=by unfold Wants;rw[hg];exact⟨d,_,hd,hs,by simp[boolOf]⟩
 rcases mutK_sound h.out with⟨_,hm⟩|h
 ·unfold wpList
  rw[hw.real g (fun _ _ _ _ _=>rfl),if_pos rfl]
  refine .inl (wp_guard E.P o none a w _ _▸hm S base w0 ρ a w _ _ g fun s' a' w' ρ' hk g'=>?_)
  have hk':GL E ops r s' k:=hk.out
  exact hk'.out S base w0 ρ' a' w' g'
 ·obtain⟨t,blk,hk,hs⟩:=stepK_sound h
  have hk':GL E ops r (s.app2 o.dst t blk) k:=hk.out
  have hs':StepOK E ops o s s.h.length t blk:=by
   rcases hs with⟨_,ho⟩|⟨hf,_⟩
   ·exact .inl ⟨hw,opok_guard ho⟩
   ·exact absurd hf (by unfold Wants;simp)
  unfold wpList
  refine hs'.run (s':=⟨s.t,s.h++List.replicate 1 none⟩) (ρ:=ρ) (a:=a) (w:=w) (fun x hx=>⟨by cases x<;>rfl,fun b _=>bk_more s 1 b⟩) (fun _ _ _ _ _=>rfl) (g.sim (Sim.more s 1)) ?_ (by simp) fun a' w' ρ' g'=>?_
  ·rw[bk_more]
   unfold St.bk
   rw[List.getD_eq_getElem?_getD,List.getElem?_eq_none (Nat.le_refl _)];rfl
  ·exact hk'.out _ _ _ _ _ _ (g'.simBack app2_sim)
end
section
structure GX(E:EnvX)(S:Nat→Prop)(base:Nat)(w0:W0 E.G)(c:Code)(s:St)(Q:Exit→Act→World→Prop):Prop where
 out:∀(ρ:Nat→Option Value) (a:Act) (w:World),Good S base w0 s ρ a w→c.wp E.P Q a w
structure GXL(E:EnvX)(S:Nat→Prop)(base:Nat)(w0:W0 E.G)(ops l:List Oper)(s:St)(K:Act→World→Prop):Prop where
 out:∀(ρ:Nat→Option Value) (a:Act) (w:World),Good S base w0 s ρ a w→wpList E.P ops.toArray (fun e a' w'=>e=.normal∧K a' w') l a w
structure GQ(E:EnvX)(S:Nat→Prop)(base:Nat)(w0:W0 E.G)(s:St)(K:Act→World→Prop):Prop where
 out:∀(ρ:Nat→Option Value) (a:Act) (w:World),Good S base w0 s ρ a w→K a w
section
variable {E : EnvX} {S : Nat → Prop} {base : Nat} {w0 : W0 E.G} {s : St}
theorem GX.of{c:Code}{Q:Exit→Act→World→Prop}(h:wpA E c s fun e s'=>GQ E S base w0 s' (Q e)):GX E S base w0 c s Q:=by
 refine⟨fun ρ a w g=>wp_mono (wpA_sound c h g) ?_⟩
 rintro e a' w' ⟨s',ρ',h1,h2⟩
 exact h1.out _ _ _ h2
theorem GX.seq{x y:Code}{Q:Exit→Act→World→Prop}(h:wpA E x s fun e s'=>match e with| .normal=>GX E S base w0 y s' Q|e=>GQ E S base w0 s' (Q e)):GX E S base w0 (.seq x y) s Q:=by
 refine⟨fun ρ a w g=>wp_seq (wp_mono (wpA_sound x h g) ?_)⟩
 rintro e a' w' ⟨s',ρ',h1,h2⟩
 cases e with
 |normal=>exact GX.out h1 _ _ _ h2
 |_=>exact GQ.out h1 _ _ _ h2
theorem GX.seqH{x y:Code}{Q:Exit→Act→World→Prop}(h:∀y',y'=y→wpA E x s fun e s'=>match e with| .normal=>GX E S base w0 y' s' Q|e=>GQ E S base w0 s' (Q e)):GX E S base w0 (.seq x y) s Q:=.seq (h y rfl)
theorem GX.region{id:Nat}{ops:Array Oper}{y:Code}{Q:Exit→Act→World→Prop}(h:GXL E S base w0 ops.toList ops.toList s (fun a w=>y.wp E.P Q a w)):GX E S base w0 (.seq (.region id ops false) y) s Q:=by
 refine⟨fun ρ a w g=>wp_seq (wp_mono (wp_region_list (by have:=h.out ρ a w g;rwa [Array.toArray_toList]at this)) ?_)⟩
 rintro e a' w' ⟨rfl,hk⟩
 exact hk
theorem GXL.preN(n:Nat){ops l:List Oper}{K:Act→World→Prop}(h:Stop (regA E ops (l.take n) s fun s'=>GXL E S base w0 ops (l.drop n) s' K)):GXL E S base w0 ops l s K:=by
 refine⟨fun ρ a w g=>?_⟩
 have:=preA (r:=l.drop n) (fun s ρ a w hj g=>GXL.out hj ρ a w g) h.out g
 rwa [List.take_append_drop]at this
theorem GXL.last{ops l:List Oper}{y:Code}{Q:Exit→Act→World→Prop}(h:Stop (regA E ops l s fun s'=>GX E S base w0 y s' Q)):GXL E S base w0 ops l s (fun a w=>y.wp E.P Q a w):=by
 refine⟨fun ρ a w g=>?_⟩
 have:=preA (r:=[]) (Q:=fun e a' w'=>e=.normal∧y.wp E.P Q a' w') (fun s ρ a w hj g=>⟨rfl,GX.out hj ρ a w g⟩) h.out g
 rwa [List.append_nil]at this
theorem GXL.hand{ops r:List Oper}{o:Oper}{K:Act→World→Prop}(hg:o.guard=none)
  (h:∀(ρ:Nat→Option Value) (a:Act) (w:World) (next:Act→World→Prop) (Q0:Exit→Act→World→Prop),Good S base w0 s ρ a w→
   (∀(S':Nat→Prop) (base':Nat) (w0':W0 E.G) (s':St) (ρ':Nat→Option Value) (a':Act) (w':World),Good S' base' w0' s' ρ' a' w'→GXL E S' base' w0' ops r s' K→next a' w')→o.wp E.P a w next Q0):GXL E S base w0 ops (o::r) s K:=by
 refine⟨fun ρ a w g=>?_⟩
 unfold wpList
 rw[show Region.wanted o (yielded ops.toArray a.tmps)=true by unfold Region.wanted;rw[hg],if_pos rfl]
 exact .inl (h ρ a w _ _ g fun S' base' w0' s' ρ' a' w' g' hl=>hl.out ρ' a' w' g')
theorem Good.rebase{ρ:Nat→Option Value}{a:Act}{w w':World}(g:Good S base w0 s ρ a w)(hs:∀b x,s.bk b=some x→∃l,x=.var l)(X:Nat→Prop)(hw:GrownX X w w')(hX:∀q,X q→¬Dt S base ρ q∧∀b u,ρ b=some u→¬Rl u q):
  Good (fun z=>Dt S base ρ z∧z<w.heap.size) w'.heap.size (⟨w',fun q=>∃b u,ρ b=some u∧Rl u q,w0.pin,w0.defs⟩:W0 E.G) s ρ a w':=by
 have K:Keeps (Dt S base ρ) w (Dt (fun z=>Dt S base ρ z∧z<w.heap.size) w'.heap.size ρ) w':=⟨hw.size,fun r hr hd=>⟨⟨.inl ⟨hd,hr⟩,hd.2⟩,fun o=>World.cell?_of_block (hw.block r hr fun e=>(hX r e).1 hd)⟩⟩
 refine⟨g.len,fun i hi=>(g.t i hi).up K (fun _ _=>rfl),fun b=>?_,g.dang,g.inj,fun b u r h1 h2=>⟨.inr ⟨b,u,h1,h2⟩,Nat.lt_of_lt_of_le (g.low b u r h1 h2).2 hw.size⟩,BelX.refl _ _ _,g.glob.up K,g.pin,Nat.le_refl _,g.defs⟩
 have hB:=g.b b
 cases hk:s.bk b with
 |none=>rw[hk]at hB;exact hB
 |some y=>
  obtain⟨l,rfl⟩:=hs b y hk
  rw[hk]at hB
  obtain⟨r,cs,t,h1,h2,h3,h4⟩:=hB
  exact⟨r,cs,t,h1,h2,(hw.block r (g.low b _ r h1 rfl).2 fun e=>(hX r e).2 b _ h1 rfl).trans h3,h4.up K⟩
theorem append_raw {D : Nat → Prop} {w : World} {t ty : TypeId} {i j : TI} {n m : Nat} {cs : List Value} {news : List Seg} {po lv : Value} (hY : E.Y t = some i) (hs1 : i.sl = true) (he : i.esz ≠ 0) (hj : E.Y i.elem = some j) (hjb : j.bytes ≠ 0) (hjs : segN j.zero = i.esz)
    (ho : w.ownsRow 0 i.elem i.esz po n cs) (hl : RA D w (.row m news) lv) (hseg : segN news = m * i.esz) (hm : m ≠ 0) (hb : (n + m) * j.bytes ≤ 140737488355328) :
    ∃ v' w' ns, (Builtin.append_ #[t, t] ty #[po, lv]).run E.P w = .ok v' w' ∧ w'.ownsRow 0 i.elem i.esz v' (n + m) (cs ++ ns) ∧ RL D w news ns ∧ w.grownBy w' po.ownBlock ∧ (v'.ownBlock = po.ownBlock ∨ v'.ownBlock = some w.heap.size) := by
  obtain ⟨_, f, h5, h6⟩ := (E.hY t i hY).arr he
  obtain ⟨f', z, h7, h8, h9, h10, h11⟩ := (E.hY _ j hj).info
  rw [h5] at h7; cases h7
  have hu := (E.hY t i hY).sl hs1
  have hz := (zeroB_spec (S := D) (w := w) h11).len
  have h63 : n + m ≤ maxLen := by
    have : n + m ≤ (n + m) * j.bytes := Nat.le_mul_of_pos_right _ (Nat.pos_of_ne_zero hjb)
    unfold maxLen; omega
  cases hl with
  | row k k1 k2 k3 k4 =>
    rename_i c ns ad
    have hns : ns.length = m * i.esz := by rw [k.len, hseg]
    rcases k4 with k4 | ⟨b, q, rfl, k5, k6, k7⟩
    · exfalso
      rw [k4] at hns
      have : 0 < m * i.esz := Nat.mul_pos (Nat.pos_of_ne_zero hm) (Nat.pos_of_ne_zero he)
      simp at hns; omega
    · obtain ⟨v', w', hr, h1, h2, h3, h4⟩ := run_append_own_at (P := E.P) w 0 t ty i.elem f z i.esz j.bytes hu h5 h10 h6 h9 (by
          rw [hjs] at hz; simpa using hz) (Nat.pos_of_ne_zero he) _ n cs ho ⟨b, q, none⟩ m c ns hns (fun j u hj => by
          obtain ⟨hlt, e⟩ := List.getElem?_eq_some_iff.1 hj
          rw [add_at, k7 j hlt, e]) k.one h63 hb (Nat.zero_le _)
      exact ⟨v', w', ns, hr, h1, k, h2, h4⟩
theorem vars_of(h:s.h.all (fun o=>match o with|none=>true|some (.var _)=>true|_=>false)=true):∀b x,s.bk b=some x→∃l,x=.var l:=by
 intro b x hb
 unfold St.bk at hb
 rw[List.getD_eq_getElem?_getD]at hb
 cases e:s.h[b]? with
 |none=>rw[e]at hb;cases hb
 |some o=>
  rw[e]at hb
  obtain rfl:o=some x:=hb
  have h2:=List.all_eq_true.1 h _ (List.mem_of_getElem? e)
  cases x<;>first|exact⟨_,rfl⟩|(simp at h2;done)
theorem GXL.append{ops r:List Oper}{o:Oper}{K:Act→World→Prop}{c:Call}{x y:Operand}{t:TypeId}{i j:TI}{n m:Nat}{cs:List Value}{news:List Seg}{po:Value}(hg:o.guard=none)(ho:o.op=.call c)(hc:c.callee=.builtin .append)(ha:c.args.toList=[x,y])(ht:c.argTypes.toList=[t,t])
  (hY:E.Y t=some i)(hs1:i.sl=true)(he:i.esz≠0)(hj:E.Y i.elem=some j)(hjb:j.bytes≠0)(hjs:segN j.zero=i.esz)(hx:s.ev x=.d (.v po))(hy:s.ev y=.d (.row m news))(hseg:segN news=m*i.esz)(hm:m≠0)(hb:(n+m)*j.bytes≤140737488355328)
  (hs:∀b x,s.bk b=some x→∃l,x=.var l)(hown:w0.w.ownsRow 0 i.elem i.esz po n cs)(hfr:∀q,po.ownBlock=some q→q<base∧q<w0.w.heap.size∧¬w0.X q∧¬S q)
  (h:∀(S':Nat→Prop) (w0':W0 E.G) (v':Value) (w1:World) (ns:List Value),(∀q,S' q→S q∨base≤q)→(∀q,w0'.X q→w0.X q∨base≤q)→(∀q,w0'.X q→¬S' q)→(∀q,w0.pin=some q→w0'.X q)→w0'.pin=w0.pin→w0'.defs=w0.defs→w0'.w.ownsRow 0 i.elem i.esz v' (n+m) (cs++ns)→RL S' w0'.w news ns→
   BelX base w0.X w0.w w1→base≤w1.heap.size→GrownX (fun q=>po.ownBlock=some q) w1 w0'.w→(v'.ownBlock=po.ownBlock∨v'.ownBlock=some w1.heap.size)→(∀q,v'.ownBlock=some q→q<w0'.w.heap.size∧¬S' q∧¬w0'.X q)→(∀q,S q→q<base→¬w0.X q→S' q)→
   GXL E S' w0'.w.heap.size w0' ops r (s.app2 o.dst (.d (.v v')) none) K):GXL E S base w0 ops (o::r) s K:=by
 refine GXL.hand hg fun ρ a w next Q0 g hn=>?_
 have hca:c.args=#[x,y]:=by cases hq:c.args;simp_all
 have hct:c.argTypes=#[t,t]:=by cases hq:c.argTypes;simp_all
 have hown':w.ownsRow 0 i.elem i.esz po n cs:=ownsRow_up hown fun q hq=>by
  have hq':po.ownBlock=some q:=by
   rcases hown.2 with⟨e1,e2⟩|⟨q',cap,cur,e1,_⟩<;>(rw[e1]at hq ⊢)
   ·cases hq
   ·cases hq;rfl
  exact g.bel.block q (hfr q hq').1 (hfr q hq').2.2.1
 have hvx:a.eval x=po:=by
  have:=g.ev x
  rw[hx]at this
  cases this;rfl
 have hvy:=g.ev y
 rw[hy]at hvy
 obtain⟨v',w',ns,h1,h2,h3,h4,h5⟩:=append_raw (E:=E) (ty:=o.type) hY hs1 he hj hjb hjs hown' hvy hseg hm hb
 have hX:∀q,po.ownBlock=some q→¬Dt S base ρ q∧∀b u,ρ b=some u→¬Rl u q:=fun q hq=>by
  obtain⟨f1,f2,f3,f4⟩:=hfr q hq
  refine⟨fun hd=>?_,fun b u hb hu=>?_⟩
  ·rcases hd.1 with hd|hd
   ·exact f4 hd
   ·omega
  ·rcases(g.low b u q hb hu).1 with h6|h6
   ·omega
   ·exact f3 h6
 have hgx:GrownX (fun q=>po.ownBlock=some q) w w':=⟨h4.os,h4.tape,h4.output,h4.size,fun k hk hn=>h4.block k hk (fun e=>hn e.symm)⟩
 have g2:=g.rebase hs _ hgx hX
 have kk:Keeps (Dt S base ρ) w (fun z=>Dt S base ρ z∧z<w.heap.size) w':=⟨hgx.size,fun q hq hd=>⟨⟨hd,hq⟩,fun o=>World.cell?_of_block (hgx.block q hq fun e=>(hX q e).1 hd)⟩⟩
 have hv:∀q,v'.ownBlock=some q→q<w'.heap.size∧¬(Dt S base ρ q∧q<w.heap.size)∧¬∃b u,ρ b=some u∧Rl u q:=fun q hq=>by
  have hq2:q<w'.heap.size:=by
   rcases h2.2 with⟨e1,e2⟩|⟨q',cap,cur,e1,_,e4,_⟩<;>rw[e1]at hq<;>cases hq
   exact(Array.getElem?_eq_some_iff.1 e4).1
  rcases h5 with h5|h5
  ·exact⟨hq2,fun hd=>(hX q (h5.symm.trans hq)).1 hd.1,fun⟨b,u,h7,h8⟩=>(hX q (h5.symm.trans hq)).2 b u h7 h8⟩
  ·rw[h5]at hq;cases hq
   exact⟨hq2,fun hd=>Nat.lt_irrefl _ hd.2,fun⟨b,u,h7,h8⟩=>Nat.lt_irrefl _ (g.low b u _ h7 h8).2⟩
 have hfin:=hn _ _ _ _ _ _ _ (g2.put' o.dst (t:=.d (.v v')) (.v v') (by simp[T.refs])) (h (fun z=>Dt S base ρ z∧z<w.heap.size) ⟨w',fun q=>∃b u,ρ b=some u∧Rl u q,w0.pin,w0.defs⟩ v' w ns (fun q hq=>hq.1.1) (fun q ⟨b,u,h7,h8⟩=>(g.low b u q h7 h8).1.symm) (fun q ⟨b,u,h7,h8⟩ hd=>hd.1.2 b u h7 h8) (fun q hq=>⟨0,_,g.pin q hq,rfl⟩) rfl rfl h2 (h3.up kk) g.bel g.size hgx h5 hv fun q hq hlt hx=>⟨⟨.inl hq,fun b u h7 h8=>(g.low b u q h7 h8).1.elim (fun h9=>by omega) hx⟩,Nat.lt_of_lt_of_le hlt g.size⟩)
 unfold Oper.wp execOp
 simp only[ho,hc,hca,hct,resolve,invoke,builtin,Sem.run_bind,Sem.run_pure,Result.andThen_ok,List.map_toArray,List.map_cons,List.map_nil,hvx,h1]
 exact hfin
theorem calls_lent{f:FuncId}{fn:Func}{c:Code}{pos n:Nat}{args:List A}{vs:List Value}{x:Bk}{w:World}{q:Nat}{t:List T}{R:Ending→World→Prop}(hf:E.P.funcs[f]?=some fn)(hnt:fn.ntmps=n)(hb:fn.body=some c)(hn:args.length+1≤n)(hp:pos≤args.length)(hx:∀e sz n l,x≠ .sl e sz n l)
  (ht:(args.map T.d).insertIdx pos (.ptr 0 0)++List.replicate (n- (args.length+1)) (.d (.v undef))=t)
  (hq:q<w.heap.size)(hG:GOK E.G (fun z=>S z∧z≠q) w)(hB:HB (fun z=>S z∧z≠q) w q x)(hv:RAs (fun z=>S z∧z≠q) w args vs)
  (h:GX E S w.heap.size (⟨w,fun r=>r=q,some q,[]⟩:W0 E.G) c ⟨t,[some x]⟩ (fun e a' w'=>(e=.normal∨e=.ret)∧a'.defers=[]∧∃v,(results fn a'.tmps).run E.P w'=.ok v w'∧R (.returned v) w')):Calls E.P f (vs.insertIdx pos (.pointer (some ⟨q,0,none⟩))).toArray w R:=by
 subst hnt;subst ht
 refine calls_of_wp hf hb (wp_mono (h.out _ _ _ (begin_lent fn.ntmps hn hp hx hq hG hB hv)) ?_)
 rintro e a' w' ⟨he,h1,v,h2,h3⟩
 rcases he with rfl|rfl<;>exact⟨h1,v,h2,h3⟩
theorem GQ.fin{w w1:World}{r tm:Nat}{S':Nat→Prop}{w0':W0 E.G}{fn:Func}{R:Ending→World→Prop}{x po v':Value}{l' news:List Seg}{e:TypeId}{sz n:Nat}{cs ns:List Value}{ex:Exit}(hfn:fn.results=[ResultVar.tmp tm].toArray)(hx:s.sl tm=.d (.v x))(hb:s.bk 0=some (.var l'))(he:ex=.normal∨ex=.ret)(hr:r<w.heap.size)
  (f1:∀q,S' q→S q∨w.heap.size≤q)(f2:∀q,w0'.X q→q=r∨w.heap.size≤q)(f3:∀q,w0'.X q→¬S' q)(f4:∀q,some r=some q→w0'.X q)(f5:w0'.pin=some r)(f6:w0'.defs=[])(f7:w0'.w.ownsRow 0 e sz v' n cs)(f8:RL S' w0'.w news ns)
  (f9:BelX w.heap.size (fun q=>q=r) w w1)(f10:w.heap.size≤w1.heap.size)(f11:GrownX (fun q=>po.ownBlock=some q) w1 w0'.w)(f12:v'.ownBlock=po.ownBlock∨v'.ownBlock=some w1.heap.size)(f13:∀q,v'.ownBlock=some q→q<w0'.w.heap.size∧¬S' q∧¬w0'.X q)
  (hR:∀w2,HB (fun z=>(S z∨w.heap.size≤z)∧z≠r∧v'.ownBlock≠some z) w2 r (.var l')→w2.ownsRow 0 e sz v' n cs→RL (fun z=>(S z∨w.heap.size≤z)∧z≠r∧v'.ownBlock≠some z) w2 news ns→GrownX (fun z=>z=r∨po.ownBlock=some z) w w2→
   (∀z,v'.ownBlock=some z→z<w2.heap.size∧(po.ownBlock=some z∨w.heap.size≤z))→R (.returned x) w2):
  GQ E S' w0'.w.heap.size w0' s (fun a' w'=>(ex=.normal∨ex=.ret)∧a'.defers=[]∧∃v,(results fn a'.tmps).run E.P w'=.ok v w'∧R (.returned v) w'):=by
 refine⟨fun ρ a w2 g=>⟨he,g.defs.trans f6,x,?_,?_⟩⟩
 ·have h1:=g.ev (.tmp tm)
  rw[show s.ev (.tmp tm)=.d (.v x)from hx]at h1
  have h2:a.tmps.getD tm undef=x:=RA.plain h1
  rw[←h2]
  exact run_results1 hfn rfl
 ·have hpin:=g.pin r f5
  have hrX:w0'.X r:=f4 r rfl
  have dd:∀z,Dt S' w0'.w.heap.size ρ z→(S z∨w.heap.size≤z)∧z≠r∧v'.ownBlock≠some z:=fun z hz=>by
   refine⟨?_,fun e=>hz.2 0 _ hpin (by rw[e];rfl),fun e=>?_⟩
   ·rcases hz.1 with h|h
    ·exact f1 z h
    ·exact .inr (Nat.le_trans f10 (Nat.le_trans f11.size h))
   ·obtain⟨h1,h2,_⟩:=f13 z e
    rcases hz.1 with h|h
    ·exact h2 h
    ·omega
  have hB:=g.b 0
  rw[hb]at hB
  obtain⟨r',cs',t,h1,_,h2,h3⟩:=hB
  rw[hpin]at h1;cases h1
  have same:∀z,z<w0'.w.heap.size→¬w0'.X z→w2.heap[z]?=w0'.w.heap[z]?:=fun z hz hX=>g.bel.block z hz hX
  have hk:Keeps S' w0'.w (fun z=>(S z∨w.heap.size≤z)∧z≠r∧v'.ownBlock≠some z) w2:=by
   refine⟨g.bel.size,fun z hz hS=>⟨⟨f1 z hS,fun e=>?_,fun e=>(f13 z e).2.1 hS⟩,fun o=>World.cell?_of_block (same z hz fun hX=>f3 z hX hS)⟩⟩
   subst e;exact f3 z hrX hS
  have hg:GrownX (fun z=>z=r∨po.ownBlock=some z) w w2:=by
   refine⟨(g.bel.os.trans f11.os).trans f9.os,(g.bel.tape.trans f11.tape).trans f9.tape,(g.bel.output.trans f11.output).trans f9.output,Nat.le_trans f10 (Nat.le_trans f11.size g.bel.size),fun z hz hn=>?_⟩
   have hz0:z<w0'.w.heap.size:=Nat.lt_of_lt_of_le hz (Nat.le_trans f10 f11.size)
   rw[same z hz0 (fun hX=>by rcases f2 z hX with h|h;exact hn (.inl h);omega),f11.block z (Nat.lt_of_lt_of_le hz f10) (fun h=>hn (.inr h)),f9.block z hz (fun h=>hn (.inl h))]
  have ho:w2.ownsRow 0 e sz v' n cs:=by
   refine ownsRow_up f7 fun z hz=>?_
   have hz':v'.ownBlock=some z:=by
    rcases f7.2 with⟨e1,e2⟩|⟨q',cap,cur,e1,_⟩<;>(rw[e1]at hz ⊢)
    ·cases hz
    ·cases hz;rfl
   exact same z (f13 z hz').1 (f13 z hz').2.2
  refine hR w2 ⟨cs',t,h2,h3.up (toKeeps dd)⟩ ho (f8.up hk) hg fun z hz=>⟨Nat.lt_of_lt_of_le (f13 z hz).1 g.bel.size,?_⟩
  rcases f12 with h|h
  ·exact .inl (h.symm.trans hz)
  ·rw[h]at hz;cases hz;exact .inr f10
theorem raw_slots(l:List Value)(i:Nat){D:Nat→Prop}{ρ:Nat→Option Value}{w:World}:i<l.length→RT D ρ w ((l.map fun v=>T.d (.v v)).getD i .dead) (l.getD i undef):=by
 intro hi
 rw[List.getD_eq_getElem?_getD,List.getD_eq_getElem?_getD,List.getElem?_map,List.getElem?_eq_getElem hi]
 exact .v _
theorem mid_one(j:Nat){a:Act}{w:World}{e:TypeId}{sz k:Nat}{l:List Seg}{sv:Value}{cs:List Value}(hj:j<a.tmps.size)(hv:a.tmps.getD j undef=sv)(hsz:base≤w.heap.size)(hown:w.ownsRow base e sz sv k cs)(hG:GOK E.G (Dt S base (fun b=>if b=0 then some sv else none)) w)(hl:RL (Dt S base (fun b=>if b=0 then some sv else none)) w l cs):
  Good S base (⟨w,fun _=>False,none,a.defers⟩:W0 E.G) ⟨(a.tmps.toList.map fun v=>T.d (.v v)).set j (.own 0 k),[some (.sl e sz k l)]⟩ (fun b=>if b=0 then some sv else none) a w:=by
 have hρ:∀b u,(if b=0 then some sv else none)=some u→b=0∧u=sv:=fun b u h=>by
  split at h
  ·next e=>cases h;exact⟨e,rfl⟩
  ·cases h
 obtain⟨ad,c,hf⟩:=ownsRow_form hown
 refine⟨by simp,fun i hi=>?_,fun b=>?_,fun i b hb=>?_,fun b b' u u' r h1 h2 _ _=>(hρ b u h1).1.trans (hρ b' u' h2).1.symm,fun b u r h1 h2=>?_,BelX.refl _ _ _,hG,fun q hq=>(by cases hq),hsz,rfl⟩
 ·have hgen:∀x,RT (Dt S base (fun b=>if b=0 then some sv else none)) (fun b=>if b=0 then some sv else none) w (St.sl (⟨(a.tmps.toList.map fun v=>T.d (.v v)).set j (.own 0 k),[some (.sl e sz k l)]⟩:St) i) x↔RT (Dt S base (fun b=>if b=0 then some sv else none)) (fun b=>if b=0 then some sv else none) w (if j=i∧j<(a.tmps.toList.map fun v=>T.d (.v v)).length then .own 0 k else(a.tmps.toList.map fun v=>T.d (.v v)).getD i .dead) x:=fun x=>by
   unfold St.sl
   rw[getD_set_list]
  obtain⟨x,hx⟩:∃x,x=a.tmps.getD i undef:=⟨_,rfl⟩
  show RT _ _ _ _ (a.tmps.getD i undef)
  rw[←hx,hgen]
  split
  ·next h=>
   obtain rfl:x=sv:=by rw[hx,←h.1,hv]
   intro u hu
   obtain⟨_,e0⟩:=hρ 0 u hu
   exact⟨ad,k,c,e0.trans hf,Nat.le_refl _,fun _=>e0.symm⟩
  ·have:=raw_slots (D:=Dt S base (fun b=>if b=0 then some sv else none)) (ρ:=fun b=>if b=0 then some sv else none) (w:=w) a.tmps.toList i (by simpa using hi)
   rw[hx,show a.tmps.getD i undef=a.tmps.toList.getD i undef by simp[List.getD_eq_getElem?_getD,Array.getD_eq_getD_getElem?]]
   exact this
 ·by_cases hb:b=0
  ·subst hb
   exact⟨sv,cs,rfl,hown,hl⟩
  ·have:St.bk (⟨(a.tmps.toList.map fun v=>T.d (.v v)).set j (.own 0 k),[some (.sl e sz k l)]⟩:St) b=none:=by
    cases b with
    |zero=>exact absurd rfl hb
    |succ b=>rfl
   rw[this]
   exact if_neg hb
 ·unfold St.sl at hb
  rw[getD_set_list]at hb
  split at hb
  ·simp[T.refs]at hb
   subst hb
   simp[St.bk]
  ·exfalso
   rw[List.getD_eq_getElem?_getD,List.getElem?_map]at hb
   cases h:a.tmps.toList[i]? with
   |none=>rw[h]at hb;simp[T.refs]at hb
   |some v=>rw[h]at hb;simp[T.refs]at hb
 ·obtain⟨_,rfl⟩:=hρ b u h1
  exact⟨.inl (ownsRow_real hown h2).1,(ownsRow_real hown h2).2⟩
theorem mid_one'(j:Nat){a:Act}{w:World}{e:TypeId}{sz k:Nat}{l:List Seg}{sv:Value}{cs:List Value}{ds:List Deferred}{ts:List T}(hsz:base≤w.heap.size)(hown:w.ownsRow base e sz sv k cs)(hG:GOK E.G (Dt S base (fun b=>if b=0 then some sv else none)) w)(hl:RL (Dt S base (fun b=>if b=0 then some sv else none)) w l cs)
  (hd:a.defers=ds)(ht:(a.tmps.toList.map fun v=>T.d (.v v)).set j (.own 0 k)=ts)(hj:j<a.tmps.size)(hv:a.tmps.getD j undef=sv):
  Good S base (⟨w,fun _=>False,none,ds⟩:W0 E.G) ⟨ts,[some (.sl e sz k l)]⟩ (fun b=>if b=0 then some sv else none) a w:=by
 subst hd;subst ht;exact mid_one j hj hv hsz hown hG hl
end
end
section
open Pm
def deriveN:List A→(Res→Prop)→Prop
 |[.agg [.bytes 32 h],.v (.string s),x],K=>s.size≤1000000∧rowsOfK x fun L=>∀d,d=deriveW h (sb s) L.flatten→K (.d (.agg [.bytes 32 d]))
 |_,_=>False
theorem deriveN_ok:∀args K,deriveN args K→∃r,FnO 43 args r∧K r:=by
 intro args K hd
 unfold deriveN at hd
 split at hd
 ·next h s x=>
  obtain⟨hs,hd⟩:=hd
  obtain⟨L,hK,hL⟩:=rowsOfK_spec hd
  refine⟨_,fun S w vs _ ha=>?_,hK _ rfl⟩
  obtain⟨v1,v2,v3,rfl,h1,h2,h3⟩:=ra_three ha
  obtain⟨rfl,hh⟩:=hash_of h1
  rw[RA.plain h2]
  obtain⟨a,n,c,rfl,h4,_⟩:=hL h3
  refine(derive_any h hh s (by unfold maxLen;omega) a n c L w h4).mono ?_
  rintro e w' ⟨rfl,hb⟩
  exact⟨_,rfl,ra_hash (sumW_length _),hb⟩
 ·exact hd.elim
attribute [local irreducible] condK LoopA regA powI scal mulI isI fourB deriveW numB numsB bodyB nodeW nextW viewHV doR chkV planL sealB boxD keyZ helD commonI placeI apE doP comE comP nextP joinP upW lefW tagE welSegs welF welN createP enterP mayB commitB commitN
def comBS:List A→(Res→Prop)→Prop
 |[x],K=>cArgK x fun c=>mayB c=true∧∀N B,N=commitN c→B=commitB c→K (.t [.row N [.bytes N B],.v (.int .i64 0)])
 |_,_=>False
theorem comBS_ok:∀args K,comBS args K→∃r,FnO 100 args r∧K r:=by
 intro args K h
 unfold comBS at h
 split at h
 ·next x=>
  obtain⟨c,⟨hm,h⟩,hc⟩:=cArgK_spec h
  refine⟨_,fun S w vs hG ha=>?_,h _ _ rfl rfl⟩
  cases ha with
  |cons k1 kn=>
   cases kn
   obtain⟨k2,k3,k4⟩:=hc k1
   have:=wcommit_ok c k3 k4 S w _ hG (.cons k2 .nil)
   unfold commitR at this
   rw[if_pos hm]at this
   exact this
 ·exact h.elim
noncomputable def envWr0:EnvX:=env0.withY yTab7 yOK7 yEq7
noncomputable def envWr1:EnvX:=envWr0.add 100 comBS comBS_ok ⟨_,Tryz.func100,by kernel_rfl,by kernel_rfl⟩
noncomputable def envWr2:EnvX:={ envWr1 with fz:=true }
set_option maxHeartbeats 4000000 in
theorem letters0_fn(e fr:Int)(n:Nat)(ops:List Int)(m:Nat)(vs:List Int)(sl p0 p1 p2:Int)(k:Nat)(bx:Nat→List UInt8)(tg:List UInt8)(sE sS:Int)(hn:n≤3000)(hm:m≤3000)(hk:k≤3000)(hb:∀j,j<k→(bx j).length≤6000)(hM:mayB ⟨e,fr,n,ops,m,vs,sl,p0,p1,p2,k,bx,tg,sE,sS⟩=true)(W:Nat→List Seg):
  FnO 63 [.agg (cSegs2 ⟨e,fr,n,ops,m,vs,sl,p0,p1,p2,k,bx,tg,sE,sS⟩),.recs 0 108 W] (.t [.row 1 [.gen 1 [.row (commitN ⟨e,fr,n,ops,m,vs,sl,p0,p1,p2,k,bx,tg,sE,sS⟩) [.bytes (commitN ⟨e,fr,n,ops,m,vs,sl,p0,p1,p2,k,bx,tg,sE,sS⟩) (commitB ⟨e,fr,n,ops,m,vs,sl,p0,p1,p2,k,bx,tg,sE,sS⟩)]]],.v (.int .i64 0)]):=by
 refine fnA (E:=envWr2) Tryz.func63 Tryz.ntmps63 ?_
 unfold cSegs2
 refine agow ?_;(try exact⟨⟩)
 intro N B hN hB
 rw[←hN,←hB]
 clear hN hB hM
 refine agow ?_;(try exact⟨⟩)
 refine StopL.mk (loop_unroll 2 ?_)
 refine agow ?_;(try exact⟨⟩)
def numD:List A→(Res→Prop)→Prop
 |[.v (.int .i64 n)],K=>K (.d (.row 8 [.bytes 8 (numB n)]))
 |_,_=>False
theorem numD_ok:∀args K,numD args K→∃r,FnO 50 args r∧K r:=by
 intro args K h
 unfold numD at h
 split at h
 ·exact⟨_,fn_row (num_fn _),h⟩
 ·exact h.elim
theorem votes0_M(l:List Seg)(x:A):FnMO 62 0 (.var l) [x,.v (.slice none 0 0)] (.d (.v (.slice none 0 0))) (.var l):=by
 refine fnMA (E:=envWr1) Tryz.func62 Tryz.ntmps62 ?_
 refine agow ?_;(try exact⟨⟩)
def votes0M:Nat→Bk→List A→(Res→Bk→Prop)→Prop
 |0,.var l,[x,.v (.slice none 0 0)],K=>K (.d (.v (.slice none 0 0))) (.var l)
 |_,_,_,_=>False
theorem votes0M_ok:∀pos x args K,votes0M pos x args K→∃r x',FnMO 62 pos x args r x'∧K r x':=by
 intro pos x args K h
 unfold votes0M at h
 split at h
 ·exact⟨_,_,votes0_M _ _,h⟩
 ·exact h.elim
end
section
open Pm
attribute [local irreducible] condK LoopA regA powI scal mulI isI fourB deriveW numB numsB bodyB nodeW nextW viewHV doR chkV planL sealB boxD keyZ helD commonI placeI apE doP comE comP nextP joinP upW lefW tagE welSegs welF welN createP enterP mayB commitB commitN
def wdV(n mu:Int)(l:List A)(po ap:A):List Seg:=[.ints .i64 1 [n],.ints .i32 1 [mu],.ints .u32 1 [0],.gen 16 l,.gen 2 [po,ap]]
def drawW(i:Int):List UInt8:=deriveW (zB 32) (sb ⟨#[100,114,97,119]⟩) [numB i].flatten
noncomputable def envWr3b:EnvX:=envWr0.add 61 commS commS_ok ⟨_,Tryz.func61,by kernel_rfl,by kernel_rfl⟩
noncomputable def envWr3:EnvX:=envWr3b.add 50 numD numD_ok ⟨_,Tryz.func50,by kernel_rfl,by kernel_rfl⟩
noncomputable def envWr3a:EnvX:=envWr3.add 43 deriveN deriveN_ok ⟨_,Tryz.func43,by kernel_rfl,by kernel_rfl⟩
noncomputable def envWr4:EnvX:=envWr3a.addM 62 votes0M votes0M_ok ⟨_,Tryz.func62,by kernel_rfl,by kernel_rfl⟩
def let0S:List A→(Res→Prop)→Prop
 |[.agg [.ints .i64 2 [e,fr],.gen 2 [.row n [.ints .i64 n5 ops],.row m [.ints .i64 m3 vs]],.ints .i64 4 [sl,p0,p1,p2],.gen 1 [.row k [.gen k' bl]],.bytes 32 tg,.ints .i64 2 [sE,sS]],.recs N 108 W],K=>
  n5=n*5∧m3=m*3∧k'=k∧N=0∧n≤3000∧m≤3000∧k≤3000∧∃bx:Nat→List UInt8,bl=rowsF bx k∧(∀j,j<k→(bx j).length≤6000)∧mayB ⟨e,fr,n,ops,m,vs,sl,p0,p1,p2,k,bx,tg,sE,sS⟩=true∧
   ∀L B,L=commitN ⟨e,fr,n,ops,m,vs,sl,p0,p1,p2,k,bx,tg,sE,sS⟩→B=commitB ⟨e,fr,n,ops,m,vs,sl,p0,p1,p2,k,bx,tg,sE,sS⟩→K (.t [.row 1 [.gen 1 [.row L [.bytes L B]]],.v (.int .i64 0)])
 |_,_=>False
theorem let0S_ok:∀args K,let0S args K→∃r,FnO 63 args r∧K r:=by
 intro args K h
 unfold let0S at h
 split at h
 ·obtain⟨rfl,rfl,rfl,rfl,h1,h2,h3,bx,rfl,h4,h5,h⟩:=h
  exact⟨_,letters0_fn _ _ _ _ _ _ _ _ _ _ _ _ _ _ _ h1 h2 h3 h4 h5 _,h _ _ rfl rfl⟩
 ·exact h.elim
noncomputable def envWr5:EnvX:=envWr4.add 63 let0S let0S_ok ⟨_,Tryz.func63,by kernel_rfl,by kernel_rfl⟩
noncomputable def envWr6:EnvX:={ envWr5 with fz:=true }
set_option maxHeartbeats 8000000 in
theorem wcommit0_walk{S:Nat→Prop}{w:World}{r:Nat}{n:Int}{l:List A}{i k:Nat}{po:Value}{ap y:A}{cs:List Value}{p:PS}{s:Vw}{c:CS}{q:PS}{nn fr dr:Int}{vs:List Value}
  (hr:r<w.heap.size)(hG:GOK gTab (fun z=>S z∧z≠r) w)(hB:HB (fun z=>S z∧z≠r) w r (.var (wdV n 1 l (.v po) ap)))(hi:i<8)(hl:l.getD i (.v undef)=.sref (pSegs p) 0)(hlf:leafB p.lf=true)
  (hown:w.ownsRow 0 35 1 po k cs)(hk:k<60)(hpo:(po=.slice none 0 0∧k=0)∨∃ad cp,po=.slice (some ad) k cp)(hfr:∀z,po.ownBlock=some z→z<w.heap.size∧z≠r∧¬S z)
  (hE:comE p 0 [] 0 []=0)(hs:s=doP p p.lf 0 [])(hc:c=comP p s 0 [] 0 [] (drawW dr))(hq:q=nextP p s 0 [] 0 [] (drawW dr))(hm:mayB c=true)(hw:welN s.ng 8=0)(h1:c.n≤3000)(h2:c.m≤3000)(h3:c.k≤3000)(h4:∀j,j<c.k→(c.bx j).length≤6000)
  {R:Ending→World→Prop}(hR:∀w2 v' ns L B,L=commitN c→B=commitB c→HB (fun z=>(S z∨w.heap.size≤z)∧z≠r∧v'.ownBlock≠some z) w2 r (.var (wdV n 1 (l.set i (.sref (pSegs q) 0)) (.v v') ap))→w2.ownsRow 0 35 1 v' (k+1) (cs++ns)→
   RL (fun z=>(S z∨w.heap.size≤z)∧z≠r∧v'.ownBlock≠some z) w2 [.gen 1 [.row L [.bytes L B]]] ns→GrownX (fun z=>z=r∨po.ownBlock=some z) w w2→(∀z,v'.ownBlock=some z→z<w2.heap.size∧(po.ownBlock=some z∨w.heap.size≤z))→R (.returned (.int .i64 0)) w2)
  (ha:RAs (fun z=>S z∧z≠r) w [.agg [.ints .i64 4 [2,(i:Nat),nn,fr],.gen 1 [.v (.slice none 0 0)],.ints .i64 1 [dr],.gen 1 [y]]] vs):
  Calls Tryz.prog 36 (vs.insertIdx 0 (.pointer (some ⟨r,0,none⟩))).toArray w R:=by
 have HR:=Lib.hid hR
 clear hR
 refine calls_lent (E:=envWr6) (n:=80) Tryz.func36 Tryz.ntmps36 rfl (by exact Nat.le_of_ble_eq_true rfl) (by exact Nat.zero_le _) (by intro _ _ _ _ h;cases h) (by(conv=>lhs;simp only[List.insertIdx_zero,Seg.n,wn1,wn2,wn3,wn4,wn5,wn6,wn7,wn8,wn9,wn10,wn11,wn12,wn13,wn14,wn15,wn16,Int.reduceAdd,Int.zero_add,Seg.cell,Seg.sub,List.set_nil,isAlloc,trimH,List.take_append_drop,St.app,St.app2,St.ev,List.getD_cons_zero,List.getD_cons_succ,List.getD_nil,St.sl,St.bk,tiInt,tiBool,tiSl,tiArr,tiStruct,weaken,keepT,List.set_cons_zero,List.set_cons_succ,List.length_cons,List.length_nil,List.cons_append,List.nil_append,List.append_nil,List.map_cons,List.map_nil,List.replicate_succ,List.replicate_zero,List.take_succ_cons,List.take_zero,List.drop_succ_cons,List.drop_zero,List.take_nil,List.drop_nil,Nat.reduceAdd,Nat.reduceSub,Nat.reduceMul,Nat.reduceEqDiff,Nat.reduceLT,Nat.reduceLeDiff,Nat.zero_add,Nat.add_zero,Nat.sub_self,Nat.sub_zero,Nat.one_mul,Nat.mul_one,Nat.zero_mul,joinS,manyS,List.flatten_cons,List.flatten_nil,eq_self,ite_true,if_true,if_false,↓reduceIte,reduceCtorEq,Int.reduceToNat])) hr hG hB ha ?_
 unfold wdV
 obtain⟨Q,hQ⟩:∃Q:Exit→Act→World→Prop,Q=(fun e a' w'=>(e=.normal∨e=.ret)∧a'.defers=[]∧∃v,(results Tryz.f36 a'.tmps).run envWr6.P w'=.ok v w'∧R (.returned v) w'):=⟨_,rfl⟩
 rw[←hQ]
 have HQ:=Lib.hid hQ
 clear hQ
 (conv=>arg 6;simp only[Seg.n,wn1,wn2,wn3,wn4,wn5,wn6,wn7,wn8,wn9,wn10,wn11,wn12,wn13,wn14,wn15,wn16,Int.reduceAdd,Int.zero_add,Seg.cell,Seg.sub,List.set_nil,isAlloc,trimH,List.take_append_drop,St.app,St.app2,St.ev,List.getD_cons_zero,List.getD_cons_succ,List.getD_nil,St.sl,St.bk,tiInt,tiBool,tiSl,tiArr,tiStruct,weaken,keepT,List.set_cons_zero,List.set_cons_succ,List.length_cons,List.length_nil,List.cons_append,List.nil_append,List.append_nil,List.map_cons,List.map_nil,List.replicate_succ,List.replicate_zero,List.take_succ_cons,List.take_zero,List.drop_succ_cons,List.drop_zero,List.take_nil,List.drop_nil,Nat.reduceAdd,Nat.reduceSub,Nat.reduceMul,Nat.reduceEqDiff,Nat.reduceLT,Nat.reduceLeDiff,Nat.zero_add,Nat.add_zero,Nat.sub_self,Nat.sub_zero,Nat.one_mul,Nat.mul_one,Nat.zero_mul,joinS,manyS,List.flatten_cons,List.flatten_nil,eq_self,ite_true,if_true,if_false,↓reduceIte,reduceCtorEq,Int.reduceToNat])
 (refine GX.seqH fun y1 hy=>?_);(have HY:=Lib.hid hy);clear hy
 refine agow ?_;(try exact⟨⟩)
 (rw[HY.out];clear HY;(conv=>arg 6;simp only[Seg.n,wn1,wn2,wn3,wn4,wn5,wn6,wn7,wn8,wn9,wn10,wn11,wn12,wn13,wn14,wn15,wn16,Int.reduceAdd,Int.zero_add,Seg.cell,Seg.sub,List.set_nil,isAlloc,trimH,List.take_append_drop,St.app,St.app2,St.ev,List.getD_cons_zero,List.getD_cons_succ,List.getD_nil,St.sl,St.bk,tiInt,tiBool,tiSl,tiArr,tiStruct,weaken,keepT,List.set_cons_zero,List.set_cons_succ,List.length_cons,List.length_nil,List.cons_append,List.nil_append,List.append_nil,List.map_cons,List.map_nil,List.replicate_succ,List.replicate_zero,List.take_succ_cons,List.take_zero,List.drop_succ_cons,List.drop_zero,List.take_nil,List.drop_nil,Nat.reduceAdd,Nat.reduceSub,Nat.reduceMul,Nat.reduceEqDiff,Nat.reduceLT,Nat.reduceLeDiff,Nat.zero_add,Nat.add_zero,Nat.sub_self,Nat.sub_zero,Nat.one_mul,Nat.mul_one,Nat.zero_mul,joinS,manyS,List.flatten_cons,List.flatten_nil,eq_self,ite_true,if_true,if_false,↓reduceIte,reduceCtorEq,Int.reduceToNat]))
 (refine GX.seqH fun y1 hy=>?_);(have HY:=Lib.hid hy);clear hy
 refine agow ?_;(try exact⟨⟩)
 (rw[HY.out];clear HY;(conv=>arg 6;simp only[Seg.n,wn1,wn2,wn3,wn4,wn5,wn6,wn7,wn8,wn9,wn10,wn11,wn12,wn13,wn14,wn15,wn16,Int.reduceAdd,Int.zero_add,Seg.cell,Seg.sub,List.set_nil,isAlloc,trimH,List.take_append_drop,St.app,St.app2,St.ev,List.getD_cons_zero,List.getD_cons_succ,List.getD_nil,St.sl,St.bk,tiInt,tiBool,tiSl,tiArr,tiStruct,weaken,keepT,List.set_cons_zero,List.set_cons_succ,List.length_cons,List.length_nil,List.cons_append,List.nil_append,List.append_nil,List.map_cons,List.map_nil,List.replicate_succ,List.replicate_zero,List.take_succ_cons,List.take_zero,List.drop_succ_cons,List.drop_zero,List.take_nil,List.drop_nil,Nat.reduceAdd,Nat.reduceSub,Nat.reduceMul,Nat.reduceEqDiff,Nat.reduceLT,Nat.reduceLeDiff,Nat.zero_add,Nat.add_zero,Nat.sub_self,Nat.sub_zero,Nat.one_mul,Nat.mul_one,Nat.zero_mul,joinS,manyS,List.flatten_cons,List.flatten_nil,eq_self,ite_true,if_true,if_false,↓reduceIte,reduceCtorEq,Int.reduceToNat]))
 rw[hl]
 (refine GX.seqH fun y1 hy=>?_);(have HY:=Lib.hid hy);clear hy
 refine agow ?_;(try exact⟨⟩)
 (rw[HY.out];clear HY;(conv=>arg 6;simp only[Seg.n,wn1,wn2,wn3,wn4,wn5,wn6,wn7,wn8,wn9,wn10,wn11,wn12,wn13,wn14,wn15,wn16,Int.reduceAdd,Int.zero_add,Seg.cell,Seg.sub,List.set_nil,isAlloc,trimH,List.take_append_drop,St.app,St.app2,St.ev,List.getD_cons_zero,List.getD_cons_succ,List.getD_nil,St.sl,St.bk,tiInt,tiBool,tiSl,tiArr,tiStruct,weaken,keepT,List.set_cons_zero,List.set_cons_succ,List.length_cons,List.length_nil,List.cons_append,List.nil_append,List.append_nil,List.map_cons,List.map_nil,List.replicate_succ,List.replicate_zero,List.take_succ_cons,List.take_zero,List.drop_succ_cons,List.drop_zero,List.take_nil,List.drop_nil,Nat.reduceAdd,Nat.reduceSub,Nat.reduceMul,Nat.reduceEqDiff,Nat.reduceLT,Nat.reduceLeDiff,Nat.zero_add,Nat.add_zero,Nat.sub_self,Nat.sub_zero,Nat.one_mul,Nat.mul_one,Nat.zero_mul,joinS,manyS,List.flatten_cons,List.flatten_nil,eq_self,ite_true,if_true,if_false,↓reduceIte,reduceCtorEq,Int.reduceToNat]))
 (refine GX.seqH fun y1 hy=>?_);(have HY:=Lib.hid hy);clear hy
 refine agow ?_;(try exact⟨⟩)
 intro d hd
 refine agow ?_;(try exact⟨⟩)
 (rw[HY.out];clear HY;(conv=>arg 6;simp only[Seg.n,wn1,wn2,wn3,wn4,wn5,wn6,wn7,wn8,wn9,wn10,wn11,wn12,wn13,wn14,wn15,wn16,Int.reduceAdd,Int.zero_add,Seg.cell,Seg.sub,List.set_nil,isAlloc,trimH,List.take_append_drop,St.app,St.app2,St.ev,List.getD_cons_zero,List.getD_cons_succ,List.getD_nil,St.sl,St.bk,tiInt,tiBool,tiSl,tiArr,tiStruct,weaken,keepT,List.set_cons_zero,List.set_cons_succ,List.length_cons,List.length_nil,List.cons_append,List.nil_append,List.append_nil,List.map_cons,List.map_nil,List.replicate_succ,List.replicate_zero,List.take_succ_cons,List.take_zero,List.drop_succ_cons,List.drop_zero,List.take_nil,List.drop_nil,Nat.reduceAdd,Nat.reduceSub,Nat.reduceMul,Nat.reduceEqDiff,Nat.reduceLT,Nat.reduceLeDiff,Nat.zero_add,Nat.add_zero,Nat.sub_self,Nat.sub_zero,Nat.one_mul,Nat.mul_one,Nat.zero_mul,joinS,manyS,List.flatten_cons,List.flatten_nil,eq_self,ite_true,if_true,if_false,↓reduceIte,reduceCtorEq,Int.reduceToNat]))
 (refine GX.seqH fun y1 hy=>?_);(have HY:=Lib.hid hy);clear hy
 refine agow ?_;(try exact⟨⟩)
 intro e he
 obtain rfl:e=0:=he.trans hE
 clear he
 refine agow ?_;(try exact⟨⟩)
 obtain rfl:d=drawW dr:=hd
 intro s' c' q' N W hs' hc' hq' hN hW
 obtain rfl:s'=s:=hs'.trans hs.symm
 obtain rfl:c'=c:=hc'.trans hc.symm
 obtain rfl:q'=q:=hq'.trans hq.symm
 obtain rfl:N=0:=hN.trans hw
 clear hs' hc' hq' hN hW hs hc hq hw hE
 refine agow ?_;(try exact⟨⟩)
 (rw[HY.out];clear HY;(conv=>arg 6;simp only[Seg.n,wn1,wn2,wn3,wn4,wn5,wn6,wn7,wn8,wn9,wn10,wn11,wn12,wn13,wn14,wn15,wn16,Int.reduceAdd,Int.zero_add,Seg.cell,Seg.sub,List.set_nil,isAlloc,trimH,List.take_append_drop,St.app,St.app2,St.ev,List.getD_cons_zero,List.getD_cons_succ,List.getD_nil,St.sl,St.bk,tiInt,tiBool,tiSl,tiArr,tiStruct,weaken,keepT,List.set_cons_zero,List.set_cons_succ,List.length_cons,List.length_nil,List.cons_append,List.nil_append,List.append_nil,List.map_cons,List.map_nil,List.replicate_succ,List.replicate_zero,List.take_succ_cons,List.take_zero,List.drop_succ_cons,List.drop_zero,List.take_nil,List.drop_nil,Nat.reduceAdd,Nat.reduceSub,Nat.reduceMul,Nat.reduceEqDiff,Nat.reduceLT,Nat.reduceLeDiff,Nat.zero_add,Nat.add_zero,Nat.sub_self,Nat.sub_zero,Nat.one_mul,Nat.mul_one,Nat.zero_mul,joinS,manyS,List.flatten_cons,List.flatten_nil,eq_self,ite_true,if_true,if_false,↓reduceIte,reduceCtorEq,Int.reduceToNat]))
 (refine GX.seqH fun y1 hy=>?_);(have HY:=Lib.hid hy);clear hy
 refine agow ?_;(try exact⟨⟩)
 (rw[HY.out];clear HY;(conv=>arg 6;simp only[Seg.n,wn1,wn2,wn3,wn4,wn5,wn6,wn7,wn8,wn9,wn10,wn11,wn12,wn13,wn14,wn15,wn16,Int.reduceAdd,Int.zero_add,Seg.cell,Seg.sub,List.set_nil,isAlloc,trimH,List.take_append_drop,St.app,St.app2,St.ev,List.getD_cons_zero,List.getD_cons_succ,List.getD_nil,St.sl,St.bk,tiInt,tiBool,tiSl,tiArr,tiStruct,weaken,keepT,List.set_cons_zero,List.set_cons_succ,List.length_cons,List.length_nil,List.cons_append,List.nil_append,List.append_nil,List.map_cons,List.map_nil,List.replicate_succ,List.replicate_zero,List.take_succ_cons,List.take_zero,List.drop_succ_cons,List.drop_zero,List.take_nil,List.drop_nil,Nat.reduceAdd,Nat.reduceSub,Nat.reduceMul,Nat.reduceEqDiff,Nat.reduceLT,Nat.reduceLeDiff,Nat.zero_add,Nat.add_zero,Nat.sub_self,Nat.sub_zero,Nat.one_mul,Nat.mul_one,Nat.zero_mul,joinS,manyS,List.flatten_cons,List.flatten_nil,eq_self,ite_true,if_true,if_false,↓reduceIte,reduceCtorEq,Int.reduceToNat]))
 rcases hpo with⟨rfl,rfl⟩|⟨ad,cp,rfl⟩
 ·(refine GX.seqH fun y1 hy=>?_);(have HY:=Lib.hid hy);clear hy
  refine agow ?_;(try exact⟨⟩)
  (rw[HY.out];clear HY;(conv=>arg 6;simp only[Seg.n,wn1,wn2,wn3,wn4,wn5,wn6,wn7,wn8,wn9,wn10,wn11,wn12,wn13,wn14,wn15,wn16,Int.reduceAdd,Int.zero_add,Seg.cell,Seg.sub,List.set_nil,isAlloc,trimH,List.take_append_drop,St.app,St.app2,St.ev,List.getD_cons_zero,List.getD_cons_succ,List.getD_nil,St.sl,St.bk,tiInt,tiBool,tiSl,tiArr,tiStruct,weaken,keepT,List.set_cons_zero,List.set_cons_succ,List.length_cons,List.length_nil,List.cons_append,List.nil_append,List.append_nil,List.map_cons,List.map_nil,List.replicate_succ,List.replicate_zero,List.take_succ_cons,List.take_zero,List.drop_succ_cons,List.drop_zero,List.take_nil,List.drop_nil,Nat.reduceAdd,Nat.reduceSub,Nat.reduceMul,Nat.reduceEqDiff,Nat.reduceLT,Nat.reduceLeDiff,Nat.zero_add,Nat.add_zero,Nat.sub_self,Nat.sub_zero,Nat.one_mul,Nat.mul_one,Nat.zero_mul,joinS,manyS,List.flatten_cons,List.flatten_nil,eq_self,ite_true,if_true,if_false,↓reduceIte,reduceCtorEq,Int.reduceToNat]))
  (refine GX.seqH fun y1 hy=>?_);(have HY:=Lib.hid hy);clear hy
  refine agow ?_;(try exact⟨⟩)
  intro L B hL hB
  refine agow ?_;(try exact⟨⟩)
  (rw[HY.out];clear HY;(conv=>arg 6;simp only[Seg.n,wn1,wn2,wn3,wn4,wn5,wn6,wn7,wn8,wn9,wn10,wn11,wn12,wn13,wn14,wn15,wn16,Int.reduceAdd,Int.zero_add,Seg.cell,Seg.sub,List.set_nil,isAlloc,trimH,List.take_append_drop,St.app,St.app2,St.ev,List.getD_cons_zero,List.getD_cons_succ,List.getD_nil,St.sl,St.bk,tiInt,tiBool,tiSl,tiArr,tiStruct,weaken,keepT,List.set_cons_zero,List.set_cons_succ,List.length_cons,List.length_nil,List.cons_append,List.nil_append,List.append_nil,List.map_cons,List.map_nil,List.replicate_succ,List.replicate_zero,List.take_succ_cons,List.take_zero,List.drop_succ_cons,List.drop_zero,List.take_nil,List.drop_nil,Nat.reduceAdd,Nat.reduceSub,Nat.reduceMul,Nat.reduceEqDiff,Nat.reduceLT,Nat.reduceLeDiff,Nat.zero_add,Nat.add_zero,Nat.sub_self,Nat.sub_zero,Nat.one_mul,Nat.mul_one,Nat.zero_mul,joinS,manyS,List.flatten_cons,List.flatten_nil,eq_self,ite_true,if_true,if_false,↓reduceIte,reduceCtorEq,Int.reduceToNat]))
  (refine GX.seqH fun y1 hy=>?_);(have HY:=Lib.hid hy);clear hy
  refine agow ?_;(try exact⟨⟩)
  (rw[HY.out];clear HY;(conv=>arg 6;simp only[Seg.n,wn1,wn2,wn3,wn4,wn5,wn6,wn7,wn8,wn9,wn10,wn11,wn12,wn13,wn14,wn15,wn16,Int.reduceAdd,Int.zero_add,Seg.cell,Seg.sub,List.set_nil,isAlloc,trimH,List.take_append_drop,St.app,St.app2,St.ev,List.getD_cons_zero,List.getD_cons_succ,List.getD_nil,St.sl,St.bk,tiInt,tiBool,tiSl,tiArr,tiStruct,weaken,keepT,List.set_cons_zero,List.set_cons_succ,List.length_cons,List.length_nil,List.cons_append,List.nil_append,List.append_nil,List.map_cons,List.map_nil,List.replicate_succ,List.replicate_zero,List.take_succ_cons,List.take_zero,List.drop_succ_cons,List.drop_zero,List.take_nil,List.drop_nil,Nat.reduceAdd,Nat.reduceSub,Nat.reduceMul,Nat.reduceEqDiff,Nat.reduceLT,Nat.reduceLeDiff,Nat.zero_add,Nat.add_zero,Nat.sub_self,Nat.sub_zero,Nat.one_mul,Nat.mul_one,Nat.zero_mul,joinS,manyS,List.flatten_cons,List.flatten_nil,eq_self,ite_true,if_true,if_false,↓reduceIte,reduceCtorEq,Int.reduceToNat]))
  refine GX.region (GXL.preN 6 ?_)
  refine agow ?_;(try exact⟨⟩)
  (conv=>arg 7;simp only[Seg.n,wn1,wn2,wn3,wn4,wn5,wn6,wn7,wn8,wn9,wn10,wn11,wn12,wn13,wn14,wn15,wn16,Int.reduceAdd,Int.zero_add,Seg.cell,Seg.sub,List.set_nil,isAlloc,trimH,List.take_append_drop,St.app,St.app2,St.ev,List.getD_cons_zero,List.getD_cons_succ,List.getD_nil,St.sl,St.bk,tiInt,tiBool,tiSl,tiArr,tiStruct,weaken,keepT,List.set_cons_zero,List.set_cons_succ,List.length_cons,List.length_nil,List.cons_append,List.nil_append,List.append_nil,List.map_cons,List.map_nil,List.replicate_succ,List.replicate_zero,List.take_succ_cons,List.take_zero,List.drop_succ_cons,List.drop_zero,List.take_nil,List.drop_nil,Nat.reduceAdd,Nat.reduceSub,Nat.reduceMul,Nat.reduceEqDiff,Nat.reduceLT,Nat.reduceLeDiff,Nat.zero_add,Nat.add_zero,Nat.sub_self,Nat.sub_zero,Nat.one_mul,Nat.mul_one,Nat.zero_mul,joinS,manyS,List.flatten_cons,List.flatten_nil,eq_self,ite_true,if_true,if_false,↓reduceIte,reduceCtorEq,Int.reduceToNat])
  refine GXL.append (t:=38) (x:=.tmp 68) (y:=.tmp 69) (po:=.slice none 0 0) (m:=1) (n:=0) rfl rfl rfl rfl rfl rfl rfl (by decide) rfl (by decide) rfl rfl rfl rfl (by decide) ?_ (vars_of rfl) hown (fun z hz=>⟨(hfr z hz).1,(hfr z hz).1,(hfr z hz).2.1,(hfr z hz).2.2⟩) ?_
  ·show(0+1)*24≤_
   omega
  intro S' w0' v' w1 ns f1 f2 f3 f4 f5 f6 f7 f8 f9 f10 f11 f12 f13 f14
  obtain⟨ad',cp',rfl⟩:=ownsRow_form f7
  have F1:=Lib.hid f1;have F2:=Lib.hid f2;have F3:=Lib.hid f3;have F4:=Lib.hid f4;have F5:=Lib.hid f5;have F6:=Lib.hid f6;have F7:=Lib.hid f7;have F8:=Lib.hid f8;have F9:=Lib.hid f9;have F10:=Lib.hid f10;have F11:=Lib.hid f11;have F12:=Lib.hid f12;have F13:=Lib.hid f13;have F14:=Lib.hid f14
  clear f1 f2 f3 f4 f5 f6 f7 f8 f9 f10 f11 f12 f13 f14
  (conv=>arg 7;simp only[Seg.n,wn1,wn2,wn3,wn4,wn5,wn6,wn7,wn8,wn9,wn10,wn11,wn12,wn13,wn14,wn15,wn16,Int.reduceAdd,Int.zero_add,Seg.cell,Seg.sub,List.set_nil,isAlloc,trimH,List.take_append_drop,St.app,St.app2,St.ev,List.getD_cons_zero,List.getD_cons_succ,List.getD_nil,St.sl,St.bk,tiInt,tiBool,tiSl,tiArr,tiStruct,weaken,keepT,List.set_cons_zero,List.set_cons_succ,List.length_cons,List.length_nil,List.cons_append,List.nil_append,List.append_nil,List.map_cons,List.map_nil,List.replicate_succ,List.replicate_zero,List.take_succ_cons,List.take_zero,List.drop_succ_cons,List.drop_zero,List.take_nil,List.drop_nil,Nat.reduceAdd,Nat.reduceSub,Nat.reduceMul,Nat.reduceEqDiff,Nat.reduceLT,Nat.reduceLeDiff,Nat.zero_add,Nat.add_zero,Nat.sub_self,Nat.sub_zero,Nat.one_mul,Nat.mul_one,Nat.zero_mul,joinS,manyS,List.flatten_cons,List.flatten_nil,eq_self,ite_true,if_true,if_false,↓reduceIte,reduceCtorEq,Int.reduceToNat])
  refine GXL.last ?_
  refine agow ?_;(try exact⟨⟩)
  (conv=>arg 6;simp only[Seg.n,wn1,wn2,wn3,wn4,wn5,wn6,wn7,wn8,wn9,wn10,wn11,wn12,wn13,wn14,wn15,wn16,Int.reduceAdd,Int.zero_add,Seg.cell,Seg.sub,List.set_nil,isAlloc,trimH,List.take_append_drop,St.app,St.app2,St.ev,List.getD_cons_zero,List.getD_cons_succ,List.getD_nil,St.sl,St.bk,tiInt,tiBool,tiSl,tiArr,tiStruct,weaken,keepT,List.set_cons_zero,List.set_cons_succ,List.length_cons,List.length_nil,List.cons_append,List.nil_append,List.append_nil,List.map_cons,List.map_nil,List.replicate_succ,List.replicate_zero,List.take_succ_cons,List.take_zero,List.drop_succ_cons,List.drop_zero,List.take_nil,List.drop_nil,Nat.reduceAdd,Nat.reduceSub,Nat.reduceMul,Nat.reduceEqDiff,Nat.reduceLT,Nat.reduceLeDiff,Nat.zero_add,Nat.add_zero,Nat.sub_self,Nat.sub_zero,Nat.one_mul,Nat.mul_one,Nat.zero_mul,joinS,manyS,List.flatten_cons,List.flatten_nil,eq_self,ite_true,if_true,if_false,↓reduceIte,reduceCtorEq,Int.reduceToNat])
  (refine GX.seqH fun y1 hy=>?_);(have HY:=Lib.hid hy);clear hy
  refine agow ?_;(try exact⟨⟩)
  (rw[HY.out];clear HY;(conv=>arg 6;simp only[Seg.n,wn1,wn2,wn3,wn4,wn5,wn6,wn7,wn8,wn9,wn10,wn11,wn12,wn13,wn14,wn15,wn16,Int.reduceAdd,Int.zero_add,Seg.cell,Seg.sub,List.set_nil,isAlloc,trimH,List.take_append_drop,St.app,St.app2,St.ev,List.getD_cons_zero,List.getD_cons_succ,List.getD_nil,St.sl,St.bk,tiInt,tiBool,tiSl,tiArr,tiStruct,weaken,keepT,List.set_cons_zero,List.set_cons_succ,List.length_cons,List.length_nil,List.cons_append,List.nil_append,List.append_nil,List.map_cons,List.map_nil,List.replicate_succ,List.replicate_zero,List.take_succ_cons,List.take_zero,List.drop_succ_cons,List.drop_zero,List.take_nil,List.drop_nil,Nat.reduceAdd,Nat.reduceSub,Nat.reduceMul,Nat.reduceEqDiff,Nat.reduceLT,Nat.reduceLeDiff,Nat.zero_add,Nat.add_zero,Nat.sub_self,Nat.sub_zero,Nat.one_mul,Nat.mul_one,Nat.zero_mul,joinS,manyS,List.flatten_cons,List.flatten_nil,eq_self,ite_true,if_true,if_false,↓reduceIte,reduceCtorEq,Int.reduceToNat]))
  refine GX.of ?_
  refine agow ?_;(try exact⟨⟩)
  rw[HQ.out]
  refine GQ.fin (tm:=4) (x:=.int .i64 0) (po:=.slice none 0 0) rfl rfl rfl (.inr rfl) hr F1.out F2.out F3.out F4.out F5.out F6.out F7.out F8.out F9.out F10.out F11.out F12.out F13.out ?_
  intro w2 g1 g2 g3 g4 g5
  exact HR.out w2 _ ns L B hL hB g1 g2 g3 g4 g5
 ·(refine GX.seqH fun y1 hy=>?_);(have HY:=Lib.hid hy);clear hy
  refine agow ?_;(try exact⟨⟩)
  (rw[HY.out];clear HY;(conv=>arg 6;simp only[Seg.n,wn1,wn2,wn3,wn4,wn5,wn6,wn7,wn8,wn9,wn10,wn11,wn12,wn13,wn14,wn15,wn16,Int.reduceAdd,Int.zero_add,Seg.cell,Seg.sub,List.set_nil,isAlloc,trimH,List.take_append_drop,St.app,St.app2,St.ev,List.getD_cons_zero,List.getD_cons_succ,List.getD_nil,St.sl,St.bk,tiInt,tiBool,tiSl,tiArr,tiStruct,weaken,keepT,List.set_cons_zero,List.set_cons_succ,List.length_cons,List.length_nil,List.cons_append,List.nil_append,List.append_nil,List.map_cons,List.map_nil,List.replicate_succ,List.replicate_zero,List.take_succ_cons,List.take_zero,List.drop_succ_cons,List.drop_zero,List.take_nil,List.drop_nil,Nat.reduceAdd,Nat.reduceSub,Nat.reduceMul,Nat.reduceEqDiff,Nat.reduceLT,Nat.reduceLeDiff,Nat.zero_add,Nat.add_zero,Nat.sub_self,Nat.sub_zero,Nat.one_mul,Nat.mul_one,Nat.zero_mul,joinS,manyS,List.flatten_cons,List.flatten_nil,eq_self,ite_true,if_true,if_false,↓reduceIte,reduceCtorEq,Int.reduceToNat]))
  (refine GX.seqH fun y1 hy=>?_);(have HY:=Lib.hid hy);clear hy
  refine agow ?_;(try exact⟨⟩)
  intro L B hL hB
  refine agow ?_;(try exact⟨⟩)
  (rw[HY.out];clear HY;(conv=>arg 6;simp only[Seg.n,wn1,wn2,wn3,wn4,wn5,wn6,wn7,wn8,wn9,wn10,wn11,wn12,wn13,wn14,wn15,wn16,Int.reduceAdd,Int.zero_add,Seg.cell,Seg.sub,List.set_nil,isAlloc,trimH,List.take_append_drop,St.app,St.app2,St.ev,List.getD_cons_zero,List.getD_cons_succ,List.getD_nil,St.sl,St.bk,tiInt,tiBool,tiSl,tiArr,tiStruct,weaken,keepT,List.set_cons_zero,List.set_cons_succ,List.length_cons,List.length_nil,List.cons_append,List.nil_append,List.append_nil,List.map_cons,List.map_nil,List.replicate_succ,List.replicate_zero,List.take_succ_cons,List.take_zero,List.drop_succ_cons,List.drop_zero,List.take_nil,List.drop_nil,Nat.reduceAdd,Nat.reduceSub,Nat.reduceMul,Nat.reduceEqDiff,Nat.reduceLT,Nat.reduceLeDiff,Nat.zero_add,Nat.add_zero,Nat.sub_self,Nat.sub_zero,Nat.one_mul,Nat.mul_one,Nat.zero_mul,joinS,manyS,List.flatten_cons,List.flatten_nil,eq_self,ite_true,if_true,if_false,↓reduceIte,reduceCtorEq,Int.reduceToNat]))
  (refine GX.seqH fun y1 hy=>?_);(have HY:=Lib.hid hy);clear hy
  refine agow ?_;(try exact⟨⟩)
  (rw[HY.out];clear HY;(conv=>arg 6;simp only[Seg.n,wn1,wn2,wn3,wn4,wn5,wn6,wn7,wn8,wn9,wn10,wn11,wn12,wn13,wn14,wn15,wn16,Int.reduceAdd,Int.zero_add,Seg.cell,Seg.sub,List.set_nil,isAlloc,trimH,List.take_append_drop,St.app,St.app2,St.ev,List.getD_cons_zero,List.getD_cons_succ,List.getD_nil,St.sl,St.bk,tiInt,tiBool,tiSl,tiArr,tiStruct,weaken,keepT,List.set_cons_zero,List.set_cons_succ,List.length_cons,List.length_nil,List.cons_append,List.nil_append,List.append_nil,List.map_cons,List.map_nil,List.replicate_succ,List.replicate_zero,List.take_succ_cons,List.take_zero,List.drop_succ_cons,List.drop_zero,List.take_nil,List.drop_nil,Nat.reduceAdd,Nat.reduceSub,Nat.reduceMul,Nat.reduceEqDiff,Nat.reduceLT,Nat.reduceLeDiff,Nat.zero_add,Nat.add_zero,Nat.sub_self,Nat.sub_zero,Nat.one_mul,Nat.mul_one,Nat.zero_mul,joinS,manyS,List.flatten_cons,List.flatten_nil,eq_self,ite_true,if_true,if_false,↓reduceIte,reduceCtorEq,Int.reduceToNat]))
  refine GX.region (GXL.preN 6 ?_)
  refine agow ?_;(try exact⟨⟩)
  (conv=>arg 7;simp only[Seg.n,wn1,wn2,wn3,wn4,wn5,wn6,wn7,wn8,wn9,wn10,wn11,wn12,wn13,wn14,wn15,wn16,Int.reduceAdd,Int.zero_add,Seg.cell,Seg.sub,List.set_nil,isAlloc,trimH,List.take_append_drop,St.app,St.app2,St.ev,List.getD_cons_zero,List.getD_cons_succ,List.getD_nil,St.sl,St.bk,tiInt,tiBool,tiSl,tiArr,tiStruct,weaken,keepT,List.set_cons_zero,List.set_cons_succ,List.length_cons,List.length_nil,List.cons_append,List.nil_append,List.append_nil,List.map_cons,List.map_nil,List.replicate_succ,List.replicate_zero,List.take_succ_cons,List.take_zero,List.drop_succ_cons,List.drop_zero,List.take_nil,List.drop_nil,Nat.reduceAdd,Nat.reduceSub,Nat.reduceMul,Nat.reduceEqDiff,Nat.reduceLT,Nat.reduceLeDiff,Nat.zero_add,Nat.add_zero,Nat.sub_self,Nat.sub_zero,Nat.one_mul,Nat.mul_one,Nat.zero_mul,joinS,manyS,List.flatten_cons,List.flatten_nil,eq_self,ite_true,if_true,if_false,↓reduceIte,reduceCtorEq,Int.reduceToNat])
  refine GXL.append (t:=38) (x:=.tmp 68) (y:=.tmp 69) (po:=.slice (some ad) k cp) (m:=1) (n:=k) rfl rfl rfl rfl rfl rfl rfl (by decide) rfl (by decide) rfl rfl rfl rfl (by decide) ?_ (vars_of rfl) hown (fun z hz=>⟨(hfr z hz).1,(hfr z hz).1,(hfr z hz).2.1,(hfr z hz).2.2⟩) ?_
  ·show(k+1)*24≤_
   omega
  intro S' w0' v' w1 ns f1 f2 f3 f4 f5 f6 f7 f8 f9 f10 f11 f12 f13 f14
  obtain⟨ad',cp',rfl⟩:=ownsRow_form f7
  have F1:=Lib.hid f1;have F2:=Lib.hid f2;have F3:=Lib.hid f3;have F4:=Lib.hid f4;have F5:=Lib.hid f5;have F6:=Lib.hid f6;have F7:=Lib.hid f7;have F8:=Lib.hid f8;have F9:=Lib.hid f9;have F10:=Lib.hid f10;have F11:=Lib.hid f11;have F12:=Lib.hid f12;have F13:=Lib.hid f13;have F14:=Lib.hid f14
  clear f1 f2 f3 f4 f5 f6 f7 f8 f9 f10 f11 f12 f13 f14
  (conv=>arg 7;simp only[Seg.n,wn1,wn2,wn3,wn4,wn5,wn6,wn7,wn8,wn9,wn10,wn11,wn12,wn13,wn14,wn15,wn16,Int.reduceAdd,Int.zero_add,Seg.cell,Seg.sub,List.set_nil,isAlloc,trimH,List.take_append_drop,St.app,St.app2,St.ev,List.getD_cons_zero,List.getD_cons_succ,List.getD_nil,St.sl,St.bk,tiInt,tiBool,tiSl,tiArr,tiStruct,weaken,keepT,List.set_cons_zero,List.set_cons_succ,List.length_cons,List.length_nil,List.cons_append,List.nil_append,List.append_nil,List.map_cons,List.map_nil,List.replicate_succ,List.replicate_zero,List.take_succ_cons,List.take_zero,List.drop_succ_cons,List.drop_zero,List.take_nil,List.drop_nil,Nat.reduceAdd,Nat.reduceSub,Nat.reduceMul,Nat.reduceEqDiff,Nat.reduceLT,Nat.reduceLeDiff,Nat.zero_add,Nat.add_zero,Nat.sub_self,Nat.sub_zero,Nat.one_mul,Nat.mul_one,Nat.zero_mul,joinS,manyS,List.flatten_cons,List.flatten_nil,eq_self,ite_true,if_true,if_false,↓reduceIte,reduceCtorEq,Int.reduceToNat])
  refine GXL.last ?_
  refine agow ?_;(try exact⟨⟩)
  (conv=>arg 6;simp only[Seg.n,wn1,wn2,wn3,wn4,wn5,wn6,wn7,wn8,wn9,wn10,wn11,wn12,wn13,wn14,wn15,wn16,Int.reduceAdd,Int.zero_add,Seg.cell,Seg.sub,List.set_nil,isAlloc,trimH,List.take_append_drop,St.app,St.app2,St.ev,List.getD_cons_zero,List.getD_cons_succ,List.getD_nil,St.sl,St.bk,tiInt,tiBool,tiSl,tiArr,tiStruct,weaken,keepT,List.set_cons_zero,List.set_cons_succ,List.length_cons,List.length_nil,List.cons_append,List.nil_append,List.append_nil,List.map_cons,List.map_nil,List.replicate_succ,List.replicate_zero,List.take_succ_cons,List.take_zero,List.drop_succ_cons,List.drop_zero,List.take_nil,List.drop_nil,Nat.reduceAdd,Nat.reduceSub,Nat.reduceMul,Nat.reduceEqDiff,Nat.reduceLT,Nat.reduceLeDiff,Nat.zero_add,Nat.add_zero,Nat.sub_self,Nat.sub_zero,Nat.one_mul,Nat.mul_one,Nat.zero_mul,joinS,manyS,List.flatten_cons,List.flatten_nil,eq_self,ite_true,if_true,if_false,↓reduceIte,reduceCtorEq,Int.reduceToNat])
  (refine GX.seqH fun y1 hy=>?_);(have HY:=Lib.hid hy);clear hy
  refine agow ?_;(try exact⟨⟩)
  (rw[HY.out];clear HY;(conv=>arg 6;simp only[Seg.n,wn1,wn2,wn3,wn4,wn5,wn6,wn7,wn8,wn9,wn10,wn11,wn12,wn13,wn14,wn15,wn16,Int.reduceAdd,Int.zero_add,Seg.cell,Seg.sub,List.set_nil,isAlloc,trimH,List.take_append_drop,St.app,St.app2,St.ev,List.getD_cons_zero,List.getD_cons_succ,List.getD_nil,St.sl,St.bk,tiInt,tiBool,tiSl,tiArr,tiStruct,weaken,keepT,List.set_cons_zero,List.set_cons_succ,List.length_cons,List.length_nil,List.cons_append,List.nil_append,List.append_nil,List.map_cons,List.map_nil,List.replicate_succ,List.replicate_zero,List.take_succ_cons,List.take_zero,List.drop_succ_cons,List.drop_zero,List.take_nil,List.drop_nil,Nat.reduceAdd,Nat.reduceSub,Nat.reduceMul,Nat.reduceEqDiff,Nat.reduceLT,Nat.reduceLeDiff,Nat.zero_add,Nat.add_zero,Nat.sub_self,Nat.sub_zero,Nat.one_mul,Nat.mul_one,Nat.zero_mul,joinS,manyS,List.flatten_cons,List.flatten_nil,eq_self,ite_true,if_true,if_false,↓reduceIte,reduceCtorEq,Int.reduceToNat]))
  refine GX.of ?_
  refine agow ?_;(try exact⟨⟩)
  rw[HQ.out]
  refine GQ.fin (tm:=4) (x:=.int .i64 0) (po:=.slice (some ad) k cp) rfl rfl rfl (.inr rfl) hr F1.out F2.out F3.out F4.out F5.out F6.out F7.out F8.out F9.out F10.out F11.out F12.out F13.out ?_
  intro w2 g1 g2 g3 g4 g5
  exact HR.out w2 _ ns L B hL hB g1 g2 g3 g4 g5
end
section
open Pm
theorem wparty_M(n:Int)(l po:List A)(i:Nat)(hi:i<8)(a b:A)(ha:l[i]?=some a)(hc:FnO 42 [a] (.d b)):
  FnMO 14 0 (.var (wdS n l po)) [.v (.int .i64 (i:Nat))] (.d b) (.var (wdS n l po)):=by
 intro S w r vs hr hG hH hv
 cases hv with
 |cons h1 hnil=>
  cases hnil
  obtain rfl:=h1.plain
  obtain⟨ps,bs,v1,v2,t,hl,hb,hp,back⟩:=wd_open hH
  obtain⟨v,hv1,hv2⟩:=hp i _ hi ha
  refine(party_walk w r t n ps bs v1 v2 i hi v hv1 hb (fun v w2=>RA (fun q=>(S q∧q≠r)∨w.heap.size≤q) w2 b v) fun w1 hb1 hg1=>?_).mono ?_
  ·have kp:Keeps (fun q=>S q∧q≠r) w (fun q=>S q∧q≠r) w1:=⟨hg1.size,fun q hq hS=>⟨hS,((keeps_grown hg1).2 q hq hS).2⟩⟩
   refine(hc _ w1 [v] (hG.up kp) (.cons (hv2.up kp) .nil)).mono ?_
   rintro e w2 ⟨v',rfl,h2,h3⟩
   refine⟨v',rfl,RA.up (w:=w2) ⟨Nat.le_refl _,fun q hq h=>⟨?_,fun o=>rfl⟩⟩ h2,h3⟩
   rcases h with h|h
   ·exact .inl h
   ·exact .inr (Nat.le_trans hg1.size h)
  ·rintro e w' ⟨v',w2,rfl,h2,rfl,hb2,hg2⟩
   have hb3:Blk (w2.setCell ⟨r,1,none⟩ (.int .i32 0)) r (WL n 0 ps bs v1 v2).toArray t:=(hb2.set 1 _).copy (WL_mu _)
   have hg3:w.grownBy (w2.setCell ⟨r,1,none⟩ (.int .i32 0)) (some r):=grown_setCell hg2 1 _
   have hg4:w2.grownBy (w2.setCell ⟨r,1,none⟩ (.int .i32 0)) (some r):=grown_setCell (grown_refl w2 _) 1 _
   refine⟨_,rfl,?_,back _ _ _ (keeps_grown hg3) hb3,hg3⟩
   refine RA.up (S:=fun q=>(S q∧q≠r)∨w.heap.size≤q) ⟨hg4.size,fun q hq hS=>⟨hS,fun o=>?_⟩⟩ h2
   have hne:q≠r:=by
    rcases hS with h|h
    ·exact h.2
    ·exact fun e=>by omega
   exact((keeps_grown (S:=fun q=>True) hg4).2 q hq ⟨trivial,hne⟩).2 o
end
section
open Pm
attribute [local irreducible] condK LoopA regA deriveW numB numsB wsd createP
theorem createT_ok:∀args K,createE args K→∃r,FnO 24 args r∧K r:=by
 intro args K h
 unfold createE at h
 split at h
 ·exact⟨_,fn_sref (create_fn _),h _ rfl⟩
 ·exact h.elim
noncomputable def envWo0:EnvX:=envK3.withY yTab7 yOK7 yEq7
noncomputable def envWo1:EnvX:=envWo0.add 23 newBkS newBkS_ok ⟨_,Tryz.func23,by kernel_rfl,by kernel_rfl⟩
noncomputable def envWo2:EnvX:=envWo1.add 25 wseedS (wseedS_of wseed_fn) ⟨_,Tryz.func25,by kernel_rfl,by kernel_rfl⟩
noncomputable def envWo3:EnvX:=envWo2.add 24 createE createT_ok ⟨_,Tryz.func24,by kernel_rfl,by kernel_rfl⟩
set_option maxHeartbeats 4000000 in
theorem new_fn:FnO 9 [] (.p (.var (wdS 0 (.sref (pSegs (createP (wsd 0))) 0::(nilP 7++List.replicate 8 (.sref bk0 0))) [.v (.slice none 0 0),.v (.slice none 0 0)]))):=by
 refine fnA (E:=envWo3) Tryz.func9 Tryz.ntmps9 ?_
 refine agow ?_;(try exact⟨⟩)
 refine StopL.mk (loop_unroll 9 ?_)
 refine agow ?_;(try exact⟨⟩)
 intro h hh
 obtain rfl:h=wsd 0:=hh
 refine agow ?_;(try exact⟨⟩)
 intro p hp
 rw[←hp]
 refine agow ?_;(try exact⟨⟩)
 rfl
end
section
open Pm
attribute [local irreducible] condK LoopA regA deriveW numB numsB wsd createP
def newWS:List A→(Res→Prop)→Prop
 |[],K=>∀p,p=createP (wsd 0)→K (.p (.var [.ints .i64 1 [0],.ints .i32 1 [0],.ints .u32 1 [0],.gen 16 (.sref (pSegs p) 0::(nilP 7++List.replicate 8 (.sref bk0 0))),.gen 2 [.v (.slice none 0 0),.v (.slice none 0 0)]]))
 |_,_=>False
theorem newWS_ok:∀args K,newWS args K→∃r,FnO 9 args r∧K r:=by
 intro args K h
 unfold newWS at h
 split at h
 ·exact⟨_,new_fn,h _ rfl⟩
 ·exact h.elim
def wdK:Bk→(Int→List A→List A→Prop)→Prop
 | .var [.ints .i64 1 [n],.ints .i32 1 [a],.ints .u32 1 [b],.gen 16 l,.gen 2 po],K=>a=0∧b=0∧0≤n∧n≤1000000∧K n l po
 |_,_=>False
theorem wdK_eq{x:Bk}{K:Int→List A→List A→Prop}(h:wdK x K):∃n l po,x=.var (wdS n l po)∧(0≤n∧n≤1000000)∧K n l po:=by
 unfold wdK at h
 split at h
 ·obtain⟨rfl,rfl,h0,h1,h⟩:=h
  exact⟨_,_,_,rfl,⟨h0,h1⟩,h⟩
 ·exact h.elim
def wstepsM:Nat→Bk→List A→(Res→Bk→Prop)→Prop
 |0,x,[],K=>wdK x fun n l po=>K (.d (.v (.int .i64 n))) (.var (wdS n l po))
 |_,_,_,_=>False
theorem wstepsM_ok:∀pos x args K,wstepsM pos x args K→∃r x',FnMO 19 pos x args r x'∧K r x':=by
 intro pos x args K h
 unfold wstepsM at h
 split at h
 ·obtain⟨n,l,po,rfl,hn,h⟩:=wdK_eq h
  exact⟨_,_,wsteps_M n hn l po,h⟩
 ·exact h.elim
theorem wstep_absI(n:Int)(hn:0≤n∧n≤1000000)(l po:List A)(i:Int)(h0:0≤i)(h1:i<8)(ha:l[i.toNat]?=some (.v (.pointer none)))(nn fr dr:Int)(x y:A):
  FnMO 12 0 (.var (wdS n l po)) [.agg [.ints .i64 4 [2,i,nn,fr],.gen 1 [x],.ints .i64 1 [dr],.gen 1 [y]]] (.d (.v (.int .i64 13))) (.var (wdS (n+1) l po)):=by
 obtain⟨j,rfl⟩:∃j:Nat,i=j:=⟨i.toNat,by omega⟩
 exact wstep_absent n hn l po j (by omega) ha nn fr dr x y
theorem wparty_I(n:Int)(l po:List A)(i:Int)(h0:0≤i)(h1:i<8)(a b:A)(ha:l[i.toNat]?=some a)(hc:FnO 42 [a] (.d b)):
  FnMO 14 0 (.var (wdS n l po)) [.v (.int .i64 i)] (.d b) (.var (wdS n l po)):=by
 obtain⟨j,rfl⟩:∃j:Nat,i=j:=⟨i.toNat,by omega⟩
 exact wparty_M n l po j (by omega) a b ha hc
def wabsM:Nat→Bk→List A→(Res→Bk→Prop)→Prop
 |0,x,[.agg [.ints .i64 4 [2,i,nn,fr],.gen 1 [y],.ints .i64 1 [dr],.gen 1 [z]]],K=>wdK x fun n l po=>0≤i∧i<8∧l[i.toNat]?=some (.v (.pointer none))∧K (.d (.v (.int .i64 13))) (.var (wdS (n+1) l po))
 |_,_,_,_=>False
theorem wabsM_ok:∀pos x args K,wabsM pos x args K→∃r x',FnMO 12 pos x args r x'∧K r x':=by
 intro pos x args K h
 unfold wabsM at h
 split at h
 ·obtain⟨n,l,po,rfl,hn,h0,h1,h2,h⟩:=wdK_eq h
  exact⟨_,_,wstep_absI n hn l po _ h0 h1 h2 _ _ _ _ _,h⟩
 ·exact h.elim
def wpartyM:Nat→Bk→List A→(Res→Bk→Prop)→Prop
 |0,x,[.v (.int .i64 i)],K=>wdK x fun n l po=>0≤i∧i<8∧match l[i.toNat]? with
  |some (.v (.pointer none))=>K (.d (.v (.pointer none))) (.var (wdS n l po))
  |some a=>prK a fun p=>K (.d (.sref (pSegs p) 0)) (.var (wdS n l po))
  |none=>False
 |_,_,_,_=>False
theorem wpartyM_ok:∀pos x args K,wpartyM pos x args K→∃r x',FnMO 14 pos x args r x'∧K r x':=by
 intro pos x args K h
 unfold wpartyM at h
 split at h
 ·obtain⟨n,l,po,rfl,hn,h0,h1,h⟩:=wdK_eq h
  split at h
  ·next e=>exact⟨_,_,wparty_I n l po _ h0 h1 _ _ e copy0_fn,h⟩
  ·next a _ e=>
   obtain⟨p,rfl,h⟩:=prK_eq h
   exact⟨_,_,wparty_I n l po _ h0 h1 _ _ e (fn_sref (copy_fn p)),h⟩
  ·exact h.elim
 ·exact h.elim
noncomputable def envWp0:EnvX:=envWo0.add 9 newWS newWS_ok ⟨_,Tryz.func9,by kernel_rfl,by kernel_rfl⟩
noncomputable def envWp1:EnvX:=envWp0.addM 12 wabsM wabsM_ok ⟨_,Tryz.func12,by kernel_rfl,by kernel_rfl⟩
noncomputable def envWp2:EnvX:=envWp1.addM 19 wstepsM wstepsM_ok ⟨_,Tryz.func19,by kernel_rfl,by kernel_rfl⟩
noncomputable def envWp3:EnvX:=envWp2.addM 14 wpartyM wpartyM_ok ⟨_,Tryz.func14,by kernel_rfl,by kernel_rfl⟩
noncomputable def envWp4:EnvX:=envWp3.add 25 wseedS (wseedS_of wseed_fn) ⟨_,Tryz.func25,by kernel_rfl,by kernel_rfl⟩
noncomputable def envWp5:EnvX:=envWp4.add 11 wseedS (wseedS_of rwseed_fn) ⟨_,Tryz.func11,by kernel_rfl,by kernel_rfl⟩
end
section
open Pm
theorem wd_openV{D:Nat→Prop}{w:World}{r:Nat}{n mu:Int}{l:List A}{po ap:A}(h:HB D w r (.var (wdV n mu l po ap))):∃ps bs v1 v2 t,(ps.length=8∧bs.length=8)∧Blk w r (WL n mu ps bs v1 v2).toArray t∧(∀i a,i<8→l[i]?=some a→∃v,ps[i]?=some v∧RA D w a v)∧RA D w po v1∧
  ∀(D':Nat→Prop) (w':World) (n' mu':Int) (t':TypeId),Keeps D w D' w'→Blk w' r (WL n' mu' ps bs v1 v2).toArray t'→HB D' w' r (.var (wdV n' mu' l po ap)):=by
 obtain⟨cs,t,h1,h2⟩:=h
 unfold wdV at h2
 obtain⟨c1,d1,e1,k1,r1,_⟩:=h2.head
 obtain⟨c2,d2,e2,k2,r2,_⟩:=r1.head
 obtain⟨c3,d3,e3,k3,r3,_⟩:=r2.head
 obtain⟨c4,d4,e4,k4,r4,l4⟩:=r3.head
 obtain⟨_,rfl⟩:=k1.toInts
 obtain⟨_,rfl⟩:=k2.toInts
 obtain⟨_,rfl⟩:=k3.toInts
 obtain⟨g4,q4⟩:=k4.toGen
 obtain⟨g5,q5⟩:=r4.toGen
 have len4:c4.length=16:=q4.two.symm.trans g4
 have len5:d4.length=2:=q5.two.symm.trans g5
 obtain⟨v1,v2,rfl⟩:∃a b,d4=[a,b]:=by
  rcases d4 with _|⟨a,_|⟨b,_|⟨c,x⟩⟩⟩<;>first|(simp at len5;done)|exact⟨a,b,rfl⟩
 have ec:cs=WL n mu (c4.take 8) (c4.drop 8) v1 v2:=by
  rw[e1,e2,e3,e4]
  unfold WL
  rw[←List.append_assoc (c4.take 8),List.take_append_drop]
  rfl
 refine⟨c4.take 8,c4.drop 8,v1,v2,t,by simp[len4],by rw[ec]at h1;exact h1,fun i a hi ha=>?_,?_,fun D' w' n' mu' t' kp hb=>⟨_,t',hb,?_⟩⟩
 ·obtain⟨v,x1,x2⟩:=q4.at' i a ha
  exact⟨v,by rw[List.getElem?_take,if_pos hi];exact x1,x2⟩
 ·cases q5 with|cons a _ _=>exact a
 ·have u4:=RL.up kp k4
  have u5:=RL.up kp r4
  have e:WL n' mu' (c4.take 8) (c4.drop 8) v1 v2=[.int .i64 n']++([.int .i32 mu']++([.int .u32 0]++(c4++[v1,v2]))):=by
   unfold WL
   rw[←List.append_assoc (c4.take 8),List.take_append_drop]
   rfl
  rw[e]
  unfold wdV
  obtain⟨_,p4⟩:=u4.toGen
  obtain⟨_,p5⟩:=u5.toGen
  have q:=RL.ints (k:=.i64) (n:=1) (zs:=[n']) rfl (RL.ints (k:=.i32) (n:=1) (zs:=[mu']) rfl (RL.ints (k:=.u32) (n:=1) (zs:=[0]) rfl (RL.gen p4 g4 (RL.gen p5 g5 .nil))))
  rw[List.append_nil]at q
  exact q
def wvP (mu n : Int) (l rows : List A) (ap : A) : OP :=
  ⟨fun D w F r => ∃ po cs, r ∈ F ∧ HB D w r (.var (wdV n mu l (.v po) ap)) ∧ w.ownsRow 0 35 1 po rows.length cs ∧ RG D w rows cs ∧ (∀ z, po.ownBlock = some z → z ∈ F ∧ z ≠ r) ∧ (rows = [] → po = .slice none 0 0),
   fun {D D' w w' F r} k e ⟨po, cs, h0, h1, h2, h3, h4, h5⟩ => ⟨po, cs, h0, h1.up k (e r h0), ownsRow_up h2 (fun q hq => by
      have hq' : po.ownBlock = some q := by
        rcases h2.2 with ⟨e1, e2⟩ | ⟨q', cap, cur, e1, _⟩ <;> (rw [e1] at hq ⊢)
        · cases hq
        · cases hq; rfl
      exact e q (h4 q hq').1), h3.up k, h4, h5⟩⟩
def ownL(v:Value):List Nat:=match v.ownBlock with|some z=>[z]|none=>[]
theorem ownL_mem{v:Value}{z:Nat}:z∈ownL v↔v.ownBlock=some z:=by
 unfold ownL
 cases v.ownBlock with
 |none=>simp
 |some q=>simp[eq_comm]
theorem own_lt{w:World}{e:TypeId}{sz n:Nat}{v:Value}{cs:List Value}(h:w.ownsRow 0 e sz v n cs){z:Nat}(hz:v.ownBlock=some z):z<w.heap.size:=by
 rcases h.2 with⟨e1,e2⟩|⟨q',cap,cur,e1,_,e4,_⟩<;>rw[e1]at hz<;>cases hz
 exact(Array.getElem?_eq_some_iff.1 e4).1
theorem own_keep{w w':World}{e:TypeId}{sz n:Nat}{v:Value}{cs:List Value}(h:w.ownsRow 0 e sz v n cs)(k:∀z,v.ownBlock=some z→w'.heap[z]?=w.heap[z]?):w'.ownsRow 0 e sz v n cs:=ownsRow_up h fun q hq=>by
 refine k q ?_
 rcases h.2 with⟨e1,e2⟩|⟨q',cap,cur,e1,_⟩<;>(rw[e1]at hq ⊢)
 ·cases hq
 ·cases hq;rfl
theorem wv_close{S D':Nat→Prop}{w w1 w2:World}{r:Nat}{F:List Nat}{n:Int}{l rows news:List A}{ap:A}{po v':Value}{cs ns:List Value}(hS:∀z,S z→z∉r::F)(hlt:∀z∈r::F,z<w.heap.size)(hF:∀z,po.ownBlock=some z→z∈r::F∧z≠r)(hg1:w.grownBy w1 (some r))(hrows:RG S w rows cs)
  (hD:∀z,D' z→(S z∨w.heap.size≤z)∧z≠r∧v'.ownBlock≠some z)
  (g1:HB D' w2 r (.var (wdV n 1 l (.v v') ap)))(g2:w2.ownsRow 0 35 1 v' (rows.length+news.length) (cs++ns))(g3:RG D' w2 news ns)(g4:GrownX (fun z=>z=r∨po.ownBlock=some z) w1 w2)(g5:∀z,v'.ownBlock=some z→z<w2.heap.size∧(po.ownBlock=some z∨w1.heap.size≤z))(g6:rows++news=[]→v'=.slice none 0 0):
  ∃cs2 t',Blk w2 r cs2 t'∧cs2[1]?=some (.int .i32 1)∧∃F',F'=ownL v'∧(∀q∈F',q∈r::F∨w.heap.size≤q)∧(∀q∈r::F',q<(w2.setCell ⟨r,1,none⟩ (.int .i32 0)).heap.size)∧
   (wvP 0 n l (rows++news) ap).p (fun q=>((S q∨w.heap.size≤q)∧q∉r::F')∧q∉([]:List Nat)) (w2.setCell ⟨r,1,none⟩ (.int .i32 0)) (r::F') r∧GrownX (fun q=>q∈r::F) w (w2.setCell ⟨r,1,none⟩ (.int .i32 0)):=by
 obtain⟨ps,bs,v1,v2,t,hl,hb,_,hpo,back⟩:=wd_openV g1
 have hr:r<w2.heap.size:=hb.lt
 have hs2:(w2.setCell ⟨r,1,none⟩ (.int .i32 0)).heap.size=w2.heap.size:=by simp[World.setCell]
 have hw:∀z,z≠r→(w2.setCell ⟨r,1,none⟩ (.int .i32 0)).heap[z]?=w2.heap[z]?:=fun z hz=>heap_setCell_other w2 ⟨r,1,none⟩ z _ hz
 have hb3:Blk (w2.setCell ⟨r,1,none⟩ (.int .i32 0)) r (WL n 0 ps bs v1 v2).toArray t:=(hb.set 1 _).copy (WL_mu _)
 have hne:∀z,v'.ownBlock=some z→z≠r:=fun z hz e=>by
  rcases(g5 z hz).2 with h|h
  ·exact(hF z h).2 e
  ·have:=hlt r (by simp);have:=hg1.size;omega
 have kp:Keeps D' w2 (fun q=>((S q∨w.heap.size≤q)∧q∉r::ownL v')∧q∉([]:List Nat)) (w2.setCell ⟨r,1,none⟩ (.int .i32 0)):=
  ⟨by rw[hs2];exact Nat.le_refl _,fun z hz hd=>⟨⟨⟨(hD z hd).1,fun hm=>by
   rcases List.mem_cons.1 hm with h|h
   ·exact(hD z hd).2.1 h
   ·exact(hD z hd).2.2 (ownL_mem.1 h)⟩,by simp⟩,fun o=>World.cell?_of_block (hw z (hD z hd).2.1)⟩⟩
 have hsz:w.heap.size≤w2.heap.size:=Nat.le_trans hg1.size g4.size
 have ks:Keeps S w (fun q=>((S q∨w.heap.size≤q)∧q∉r::ownL v')∧q∉([]:List Nat)) (w2.setCell ⟨r,1,none⟩ (.int .i32 0)):=
  ⟨by rw[hs2];exact hsz,fun z hz hd=>⟨⟨⟨.inl hd,fun hm=>by
   rcases List.mem_cons.1 hm with h|h
   ·exact hS z hd (by simp[h])
   ·rcases(g5 z (ownL_mem.1 h)).2 with h2|h2
    ·exact hS z hd (hF z h2).1
    ·have:=hg1.size;omega⟩,by simp⟩,fun o=>World.cell?_of_block (by
   have n1:z≠r:=fun e=>hS z hd (by simp[e])
   rw[hw z n1,g4.block z (Nat.lt_of_lt_of_le hz hg1.size) (fun e=>by rcases e with e|e;exact n1 e;exact hS z hd (hF z e).1),hg1.block z hz (fun e=>n1 (by cases e;rfl))])⟩⟩
 refine⟨_,t,hb,by rw[List.getElem?_toArray];rfl,ownL v',rfl,fun q hq=>?_,fun q hq=>?_,⟨v',cs++ns,by simp,back _ _ _ _ _ kp hb3,?_,(hrows.up ks).append (g3.up kp),fun z hz=>⟨by simp[ownL_mem.2 hz],hne z hz⟩,g6⟩,?_⟩
 ·rcases(g5 q (ownL_mem.1 hq)).2 with h|h
  ·exact .inl (hF q h).1
  ·exact .inr (Nat.le_trans hg1.size h)
 ·rw[hs2]
  rcases List.mem_cons.1 hq with rfl|hq
  ·exact hr
  ·exact(g5 q (ownL_mem.1 hq)).1
 ·rw[List.length_append]
  exact own_keep g2 fun z hz=>hw z (hne z hz)
 ·refine⟨g4.os.trans hg1.os,g4.tape.trans hg1.tape,g4.output.trans hg1.output,by rw[hs2];exact hsz,fun z hz hn=>?_⟩
  have n1:z≠r:=fun e=>hn (by simp[e])
  rw[hw z n1,g4.block z (Nat.lt_of_lt_of_le hz hg1.size) (fun e=>by rcases e with e|e;exact n1 e;exact hn (hF z e).1),hg1.block z hz (fun e=>n1 (by cases e;rfl))]
theorem wv_same{S:Nat→Prop}{w w2:World}{r:Nat}{F:List Nat}{n:Int}{l rows:List A}{ap:A}{po:Value}{cs:List Value}(hS:∀z,S z→z∉r::F)(hlt:∀z∈r::F,z<w.heap.size)(hF:∀z,po.ownBlock=some z→z∈r::F∧z≠r)(hrows:RG S w rows cs)(hown:w.ownsRow 0 35 1 po rows.length cs)(h0:rows=[]→po=.slice none 0 0)
  (h:HB (fun z=>(S z∨w.heap.size≤z)∧z≠r) w2 r (.var (wdV n 1 l (.v po) ap)))(hg:w.grownBy w2 (some r)):
  ∃cs2 t',Blk w2 r cs2 t'∧cs2[1]?=some (.int .i32 1)∧(∀q∈r::ownL po,q∈r::F)∧(∀q∈r::ownL po,q<(w2.setCell ⟨r,1,none⟩ (.int .i32 0)).heap.size)∧
   (wvP 0 n l rows ap).p (fun q=>((S q∨w.heap.size≤q)∧q∉r::ownL po)∧q∉([]:List Nat)) (w2.setCell ⟨r,1,none⟩ (.int .i32 0)) (r::ownL po) r∧GrownX (fun q=>q∈r::F) w (w2.setCell ⟨r,1,none⟩ (.int .i32 0)):=by
 have hne:∀z,((S z∨w.heap.size≤z)∧z≠r)→(S z∨w.heap.size≤z)∧z≠r∧po.ownBlock≠some z:=fun z hz=>⟨hz.1,hz.2,fun e=>by
  rcases hz.1 with h1|h1
  ·exact hS z h1 (hF z e).1
  ·have:=hlt z (hF z e).1;omega⟩
 have ho:w2.ownsRow 0 35 1 po (rows.length+([]:List A).length) (cs++[]):=by
  rw[List.append_nil]
  exact own_keep hown fun z hz=>hg.block z (own_lt hown hz) fun e=>(hF z hz).2 (by cases e;rfl)
 obtain⟨cs2,t',k1,k2,F',rfl,k3,k4,k5,k6⟩:=wv_close (D':=fun z=>(S z∨w.heap.size≤z)∧z≠r) (w1:=w) (news:=[]) (ns:=[]) hS hlt hF (grown_refl w _) hrows hne h ho .nil ⟨hg.os,hg.tape,hg.output,hg.size,fun z hz hn=>hg.block z hz fun e=>hn (.inl (by cases e;rfl))⟩ (fun z hz=>⟨own_lt ho hz,.inl hz⟩) (by rw[List.append_nil];exact h0)
 rw[List.append_nil]at k5
 refine⟨cs2,t',k1,k2,fun q hq=>?_,k4,k5,k6⟩
 rcases List.mem_cons.1 hq with rfl|hq
 ·simp
 ·exact(hF q (ownL_mem.1 hq)).1
end
section
open Pm
attribute [local irreducible] condK LoopA regA powI scal mulI isI fourB deriveW numB numsB bodyB nodeW nextW viewHV doR chkV planL sealB boxD keyZ helD commonI placeI apE doP comE comP nextP joinP upW lefW tagE welSegs welF welN createP enterP mayB commitB commitN
set_option maxHeartbeats 8000000 in
theorem wcommitF_M{n:Int}{l:List A}{i:Nat}{ad:Addr}{cp:Nat}{ap y:A}{p:PS}{nn fr dr:Int}(hi:i<8)(hl:l.getD i (.v undef)=.sref (pSegs p) 0)(hlf:leafB p.lf=true)(hE:comE p 0 [] 0 []=0)(hw:welN (doP p p.lf 0 []).ng 8=0):
  FnMO 36 0 (.var (wdV n 1 l (.v (.slice (some ad) 60 cp)) ap)) [.agg [.ints .i64 4 [2,(i:Nat),nn,fr],.gen 1 [.v (.slice none 0 0)],.ints .i64 1 [dr],.gen 1 [y]]] (.d (.v (.int .i64 12))) (.var (wdV n 1 l (.v (.slice (some ad) 60 cp)) ap)):=by
 refine fnMA (E:=envWr6) Tryz.func36 Tryz.ntmps36 ?_
 unfold wdV
 refine agow ?_;(try exact⟨⟩)
 rw[hl]
 refine agow ?_;(try exact⟨⟩)
 intro d hd
 refine agow ?_;(try exact⟨⟩)
 intro e he
 obtain rfl:e=0:=he.trans hE
 clear he
 refine agow ?_;(try exact⟨⟩)
 intro s' c' q' N W hs' hc' hq' hN hW
 obtain rfl:N=0:=by rw[hN,hs'];exact hw
 clear hs' hc' hq' hN hW hw hE
 refine agow ?_;(try exact⟨⟩)
end
section
open Pm
theorem args0W{S:Nat→Prop}{w:World}{vs:List Value}(h:RAs S w [] vs):vs=[]:=by cases h;rfl
theorem args1W{x:Value}{S:Nat→Prop}{w:World}{vs:List Value}(h:RAs S w [.v x] vs):vs=[x]:=by
 cases h with|cons h r=>cases r;cases h;rfl
theorem own_form{w:World}{e:TypeId}{sz n:Nat}{v:Value}{cs:List Value}(h:w.ownsRow 0 e sz v n cs):(v=.slice none 0 0∧n=0)∨∃ad cp,v=.slice (some ad) n cp:=by
 rcases h.2 with⟨e1,e2⟩|⟨q',cap,cur,e1,_⟩
 ·exact .inl ⟨e1,e2⟩
 ·exact .inr ⟨_,_,e1⟩
theorem keeps_by{S:Nat→Prop}{w w1:World}{r:Nat}(hg:w.grownBy w1 (some r)):Keeps (fun z=>S z∧z≠r) w (fun z=>S z∧z≠r) w1:=
 ⟨hg.size,fun z hz hd=>⟨hd,fun o=>World.cell?_of_block (hg.block z hz fun e=>hd.2 (by cases e;rfl))⟩⟩
theorem ra_plainV{S:Nat→Prop}{w:World}{x v:Value}(h:RA S w (.v x) v):v=x:=by cases h;rfl
theorem wstep0_B{n:Int}{l rows:List A}{ap y:A}{i:Nat}{nn fr dr:Int}{p:PS}{s:Vw}{c:CS}{q:PS}(hn:0≤n∧n≤1000000)(hi:i<8)(hl:l.getD i (.v undef)=.sref (pSegs p) 0)(hlf:leafB p.lf=true)(hk:rows.length<60)
  (hE:comE p 0 [] 0 []=0)(hs:s=doP p p.lf 0 [])(hc:c=comP p s 0 [] 0 [] (drawW dr))(hq:q=nextP p s 0 [] 0 [] (drawW dr))(hm:mayB c=true)(hw:welN s.ng 8=0)(h1:c.n≤3000)(h2:c.m≤3000)(h3:c.k≤3000)(h4:∀j,j<c.k→(c.bx j).length≤6000):
  FnB Tryz.prog gTab 12 0 (wvP 0 n l rows ap) [.agg [.ints .i64 4 [2,(i:Nat),nn,fr],.gen 1 [.v (.slice none 0 0)],.ints .i64 1 [dr],.gen 1 [y]]] (.d (.v (.int .i64 0))) (wvP 0 (n+1) (l.set i (.sref (pSegs q) 0)) (rows++[.row (commitN c) [.bytes (commitN c) (commitB c)]]) ap):=by
 intro S w r F vs hG hlt hp hA hS
 obtain⟨po,cs,_,hH,hown,hrg,hF,hnil0⟩:=hp
 have hA0:=hA
 cases hA with
 |cons a1 hnil=>
  cases hnil
  obtain⟨vx,vy,rfl,hx,hy⟩:=act_open a1
  have kS:Keeps S w (fun z=>S z∧z≠r) w:=toKeeps fun z hz=>⟨hz,fun e=>hS z hz (by simp[e])⟩
  obtain⟨ps,bs,v1,v2,t,hl8,hb,_,hpo,back⟩:=wd_openV (hH.up kS rfl)
  obtain rfl:=ra_plainV hpo
  refine(step_commit w r t n hn ps bs v1 v2 i hi nn fr dr vx vy hb (fun v cells w2=>v=.int .i64 0∧∃F',(∀q∈F',q∈r::F∨w.heap.size≤q)∧(∀q∈r::F',q<(w2.setCell ⟨r,1,none⟩ (.int .i32 0)).heap.size)∧
   (wvP 0 (n+1) (l.set i (.sref (pSegs q) 0)) (rows++[.row (commitN c) [.bytes (commitN c) (commitB c)]]) ap).p (fun q=>((S q∨w.heap.size≤q)∧q∉r::F')∧q∉([]:List Nat)) (w2.setCell ⟨r,1,none⟩ (.int .i32 0)) (r::F') r∧GrownX (fun q=>q∈r::F) w (w2.setCell ⟨r,1,none⟩ (.int .i32 0))) fun w1 hb1 hg1=>?_).mono ?_
  ·have kp:=keeps_by (S:=S) hg1
   have hown1:=own_keep hown (w':=w1) fun z hz=>hg1.block z (own_lt hown hz) fun e=>(hF z hz).2 (by cases e;rfl)
   refine wcommit0_walk (S:=S) (w:=w1) (r:=r) (n:=n+1) (l:=l) (i:=i) (k:=rows.length) (po:=v1) (ap:=ap) (y:=y) (cs:=cs) (p:=p) (s:=s) (c:=c) (q:=q) (nn:=nn) (fr:=fr) (dr:=dr) (vs:=[_]) hb1.lt (hG.up ⟨hg1.size,fun z hz hd=>?_⟩) (back _ _ _ _ _ kp hb1) hi hl hlf hown1 hk (own_form hown) (fun z hz=>⟨own_lt hown1 hz,(hF z hz).2,fun e=>hS z e (hF z hz).1⟩) hE hs hc hq hm hw h1 h2 h3 h4 (fun w2 v' ns L B hL hB g1 g2 g3 g4 g5=>?_) (RAs.up kp (RAs.up kS hA0))
   ·exact⟨⟨hd,fun e=>hS z hd (by simp[e])⟩,fun o=>World.cell?_of_block (hg1.block z hz fun e=>hS z hd (by cases e;simp))⟩
   ·subst hL;subst hB
    obtain⟨cs2,t',k1,k2,F',_,k3,k4,k5,k6⟩:=wv_close (news:=[.row (commitN c) [.bytes (commitN c) (commitB c)]]) hS hlt (po:=v1) (fun z hz=>hF z hz) hg1 hrg (fun z hz=>⟨hz.1.imp id (Nat.le_trans hg1.size),hz.2⟩) g1 g2 (g3.toGen).2 g4 g5 (fun e=>by simp at e)
    exact⟨_,cs2,t',rfl,⟨rfl,F',k3,k4,k5,k6⟩,k1,k2⟩
  ·rintro e w' ⟨v,cells,w2,t',rfl,⟨rfl,F',k3,k4,k5,k6⟩,rfl,_⟩
   exact⟨_,F',[],rfl,k3,k4,k5,.v _,k6⟩
theorem wstepF_B{n:Int}{l rows:List A}{ap y:A}{i:Nat}{nn fr dr:Int}{p:PS}(hn:0≤n∧n≤1000000)(hi:i<8)(hl:l.getD i (.v undef)=.sref (pSegs p) 0)(hlf:leafB p.lf=true)(hk:rows.length=60)
  (hE:comE p 0 [] 0 []=0)(hw:welN (doP p p.lf 0 []).ng 8=0):
  FnB Tryz.prog gTab 12 0 (wvP 0 n l rows ap) [.agg [.ints .i64 4 [2,(i:Nat),nn,fr],.gen 1 [.v (.slice none 0 0)],.ints .i64 1 [dr],.gen 1 [y]]] (.d (.v (.int .i64 12))) (wvP 0 (n+1) l rows ap):=by
 intro S w r F vs hG hlt hp hA hS
 obtain⟨po,cs,_,hH,hown,hrg,hF,hnil0⟩:=hp
 have hA0:=hA
 cases hA with
 |cons a1 hnil=>
  cases hnil
  obtain⟨vx,vy,rfl,hx,hy⟩:=act_open a1
  have kS:Keeps S w (fun z=>S z∧z≠r) w:=toKeeps fun z hz=>⟨hz,fun e=>hS z hz (by simp[e])⟩
  obtain⟨ps,bs,v1,v2,t,hl8,hb,_,hpo,back⟩:=wd_openV (hH.up kS rfl)
  obtain rfl:=ra_plainV hpo
  refine(step_commit w r t n hn ps bs v1 v2 i hi nn fr dr vx vy hb (fun v cells w2=>v=.int .i64 12∧∃F',(∀q∈F',q∈r::F∨w.heap.size≤q)∧(∀q∈r::F',q<(w2.setCell ⟨r,1,none⟩ (.int .i32 0)).heap.size)∧
   (wvP 0 (n+1) l rows ap).p (fun q=>((S q∨w.heap.size≤q)∧q∉r::F')∧q∉([]:List Nat)) (w2.setCell ⟨r,1,none⟩ (.int .i32 0)) (r::F') r∧GrownX (fun q=>q∈r::F) w (w2.setCell ⟨r,1,none⟩ (.int .i32 0))) fun w1 hb1 hg1=>?_).mono ?_
  ·have kp:=keeps_by (S:=S) hg1
   have hf:=own_form hown
   rw[hk]at hf
   rcases hf with⟨_,h0⟩|⟨ad,cp,rfl⟩
   ·cases h0
   refine(wcommitF_M (n:=n+1) (l:=l) (i:=i) (ad:=ad) (cp:=cp) (ap:=ap) (y:=y) (p:=p) (nn:=nn) (fr:=fr) (dr:=dr) hi hl hlf hE hw S w1 r [_] hb1.lt (hG.up ⟨hg1.size,fun z hz hd=>?_⟩) (back _ _ _ _ _ kp hb1) (RAs.up kp (RAs.up kS hA0))).mono ?_
   ·exact⟨⟨hd,fun e=>hS z hd (by simp[e])⟩,fun o=>World.cell?_of_block (hg1.block z hz fun e=>hS z hd (by cases e;simp))⟩
   ·rintro e w2 ⟨v,rfl,hv,g1,g2⟩
    obtain rfl:=ra_plainV hv
    obtain⟨cs2,t',k1,k2,k3,k4,k5,k6⟩:=wv_same (F:=F) hS hlt (fun z hz=>hF z hz) hrg hown hnil0 (g1.up (toKeeps fun z hz=>⟨hz.1.imp id (Nat.le_trans hg1.size),hz.2⟩) rfl) (grown_trans hg1 g2)
    exact⟨_,cs2,t',rfl,⟨rfl,_,fun q hq=>.inl (k3 q (by simp[hq])),k4,k5,k6⟩,k1,k2⟩
  ·rintro e w' ⟨v,cells,w2,t',rfl,⟨rfl,F',k3,k4,k5,k6⟩,rfl,_⟩
   exact⟨_,F',[],rfl,k3,k4,k5,.v _,k6⟩
theorem wparty_B{n:Int}{l rows:List A}{ap a b:A}{i:Nat}(hi:i<8)(ha:l[i]?=some a)(hc:FnO 42 [a] (.d b)):
  FnB Tryz.prog gTab 14 0 (wvP 0 n l rows ap) [.v (.int .i64 (i:Nat))] (.d b) (wvP 0 n l rows ap):=by
 intro S w r F vs hG hlt hp hA hS
 obtain⟨po,cs,_,hH,hown,hrg,hF,hnil0⟩:=hp
 obtain rfl:=args1W hA
 have kS:Keeps S w (fun z=>S z∧z≠r) w:=toKeeps fun z hz=>⟨hz,fun e=>hS z hz (by simp[e])⟩
 obtain⟨ps,bs,v1,v2,t,hl8,hb,hps,hpo,back⟩:=wd_openV (hH.up kS rfl)
 obtain rfl:=ra_plainV hpo
 obtain⟨v,hv1,hv2⟩:=hps i a hi ha
 refine(party_walk w r t n ps bs v1 v2 i hi v hv1 hb (fun v w2=>RA (fun q=>(S q∧q≠r)∨w.heap.size≤q) w2 b v) fun w1 hb1 hg1=>?_).mono ?_
 ·have kp:=keeps_by (S:=S) hg1
  refine(hc _ w1 [v] ((hG.up kS).up kp) (.cons (hv2.up kp) .nil)).mono ?_
  rintro e w2 ⟨v',rfl,h2,h3⟩
  refine⟨v',rfl,RA.up (w:=w2) (toKeeps fun q h=>?_) h2,h3⟩
  rcases h with h|h
  ·exact .inl h
  ·exact .inr (Nat.le_trans hg1.size h)
 ·rintro e w' ⟨v',w2,rfl,h2,rfl,hb2,hg2⟩
  have kw:Keeps (fun z=>S z∧z≠r) w (fun z=>(S z∨w.heap.size≤z)∧z≠r) w2:=⟨hg2.size,fun z hz hd=>⟨⟨.inl hd.1,hd.2⟩,fun o=>World.cell?_of_block (hg2.block z hz fun e=>hd.2 (by cases e;rfl))⟩⟩
  obtain⟨cs2,t',k1,k2,k3,k4,k5,k6⟩:=wv_same (F:=F) hS hlt (fun z hz=>hF z hz) hrg hown hnil0 (back _ _ _ _ _ kw hb2) hg2
  refine⟨_,_,[],rfl,fun q hq=>.inl (k3 q (by simp[hq])),k4,k5,?_,k6⟩
  have hr:r<w.heap.size:=hlt r (by simp)
  have hne:∀q,(S q∧q≠r)∨w.heap.size≤q→q≠r:=fun q h=>by
   rcases h with h|h
   ·exact h.2
   ·omega
  have hnm:∀q,(S q∧q≠r)∨w.heap.size≤q→q∉r::ownL v1:=fun q h hm=>by
   have hm:=k3 q hm
   rcases h with h|h
   ·exact hS q h.1 hm
   ·have:=hlt q hm;omega
  exact RA.up (S:=fun q=>(S q∧q≠r)∨w.heap.size≤q) ⟨by simp[World.setCell],fun q hq h=>⟨⟨h.imp And.left id,hnm q h⟩,fun o=>World.cell?_of_block (heap_setCell_other w2 ⟨r,1,none⟩ q _ (hne q h))⟩⟩ h2
theorem wsteps_B{n:Int}{l rows:List A}{ap:A}(hn:0≤n∧n≤1000000):FnB Tryz.prog gTab 19 0 (wvP 0 n l rows ap) [] (.d (.v (.int .i64 n))) (wvP 0 n l rows ap):=by
 intro S w r F vs hG hlt hp hA hS
 have hp0:=hp
 obtain⟨po,cs,_,hH,hown,hrg,hF,hnil0⟩:=hp
 obtain rfl:=args0W hA
 obtain⟨ps,bs,v1,v2,t,hl8,hb,hps,hpo,back⟩:=wd_openV hH
 refine(wsteps_walk w r t n ps bs v1 v2 hb hn).mono ?_
 rintro e w' ⟨rfl,rfl⟩
 exact⟨_,F,[],rfl,fun q hq=>.inl (by simp[hq]),hlt,(wvP 0 n l rows ap).up (toKeeps fun z hz=>⟨⟨.inl hz,hS z hz⟩,by simp⟩) (fun _ _=>rfl) hp0,.v _,⟨rfl,rfl,rfl,Nat.le_refl _,fun _ _ _=>rfl⟩⟩
theorem newV_ok:FnO 9 [] (.ob (wvP 0 0 (.sref (pSegs (createP (wsd 0))) 0::(nilP 7++List.replicate 8 (.sref bk0 0))) [] (.v (.slice none 0 0)))):=by
 intro S w vs hG ha
 refine(new_fn S w vs hG ha).mono ?_
 rintro e w' ⟨v,rfl,⟨r,rfl,hr,hB⟩,hbel⟩
 refine⟨_,rfl,⟨r,[],rfl,fun q hq=>?_,.slice none 0 0,[],by simp,hB.up (toKeeps fun z hz=>⟨hz.1,by simpa using hz.2⟩) rfl,⟨rfl,.inl ⟨rfl,rfl⟩⟩,.nil,(fun z hz=>by cases hz),fun _=>rfl⟩,hbel⟩
 obtain rfl:q=r:=by simpa using hq
 obtain⟨cs,t,h1,_⟩:=hB
 exact⟨hr,(Array.getElem?_eq_some_iff.1 h1).1⟩
end
section
open Pm
def nodeK(zs:List Int)(m:Nat):Bool:=zs.getD m 0 !=0
abbrev n1(lf:Int):Nat:=(lf / 2*4+1).toNat
abbrev n2(lf:Int):Nat:=(lf / 4*8+3).toNat
def setAb(p:PS)(q:Nat)(h:List UInt8):PS:={ p with ab:=p.ab.take (q*32)++(h++p.ab.drop (q*32+32)) }
end
section
open Pm
theorem putL_hi{zs xs:List Int}(hz:zs.length=31)(hx:xs.length=2){i:Nat}(hi:i<8){m:Nat}(hm:16≤m):(putL zs xs (i:Nat)).getD m 0=if m=16+n1 (i:Nat)∨m=16+n2 (i:Nat)∨m=23 then 0 else zs.getD m 0:=by
 have hlb:leafB (i:Int)=true:=by simp[leafB];omega
 have hl:(zs.take (i*2)++(xs++zs.drop (i*2+2))).length=31:=by simp[hx,hz];omega
 have e0:(zs.take (i*2)++(xs++zs.drop (i*2+2))).getD m 0=zs.getD m 0:=by rw[splice_get hx (by omega),if_neg (by omega)]
 unfold putL
 rw[if_pos hlb,Int.toNat_natCast,getD_set_list,getD_set_list,getD_set_list,e0]
 simp only[List.length_set,hl]
 unfold n1 n2
 by_cases e1:m=23
 ·rw[if_pos ⟨e1.symm,by decide⟩,if_pos (.inr (.inr e1))]
 ·rw[if_neg (fun h=>e1 h.1.symm)]
  by_cases e2:m=16+((i:Int) / 4*8+3).toNat
  ·rw[if_pos ⟨e2.symm,by omega⟩,if_pos (.inr (.inl e2))]
  ·rw[if_neg (fun h=>e2 h.1.symm)]
   by_cases e3:m=16+((i:Int) / 2*4+1).toNat
   ·rw[if_pos ⟨e3.symm,by omega⟩,if_pos (.inl e3)]
   ·rw[if_neg (fun h=>e3 h.1.symm),if_neg (by rintro(h|h|h);exact e3 h;exact e2 h;exact e1 h)]
theorem behZ_len{zs:List Int}(hz:zs.length=31)(fr sl a b c:Int):(behZ zs fr sl a b c).length=31:=by unfold behZ;simp[hz]
theorem behZ_get{zs:List Int}(hz:zs.length=31){fr:Int}(f0:0≤fr)(f1:fr<8)(sl a b c:Int)(m:Nat):(behZ zs fr sl a b c).getD m 0=if m=23 then c else if m=16+n2 fr then b else if m=16+n1 fr then a else if m=fr.toNat*2+1 then sl else zs.getD m 0:=by
 unfold behZ
 rw[getD_set_list,getD_set_list,getD_set_list,getD_set_list]
 simp only[List.length_set,hz]
 unfold n1 n2
 by_cases e1:m=23
 ·rw[if_pos ⟨e1.symm,by decide⟩,if_pos e1]
 ·rw[if_neg (fun h=>e1 h.1.symm),if_neg e1]
  by_cases e2:m=16+(fr / 4*8+3).toNat
  ·rw[if_pos ⟨e2.symm,by omega⟩,if_pos e2]
  ·rw[if_neg (fun h=>e2 h.1.symm),if_neg e2]
   by_cases e3:m=16+(fr / 2*4+1).toNat
   ·rw[if_pos ⟨e3.symm,by omega⟩,if_pos e3]
   ·rw[if_neg (fun h=>e3 h.1.symm),if_neg e3]
    by_cases e4:m=fr.toNat*2+1
    ·rw[if_pos ⟨e4.symm,by omega⟩,if_pos e4]
    ·rw[if_neg (fun h=>e4 h.1.symm),if_neg e4]
structure Keep(zs0:List Int)(j:Nat)(s:Vw):Prop where
 zl:s.zs.length=31
 nl:s.ng.length=8
 gl:s.gn.length=8
 or:s.gn.getD j false=true∨(memL s.zs j=true∧leafP s.zs j=leafP zs0 j∧s.ng.getD j false=false)
theorem Keep.step{zs0:List Int}{j:Nat}(hj:j<8){s:Vw}(h:Keep zs0 j s)(fr:Int){o:List Int}(he:errOp s fr o=0):Keep zs0 j (nextOp s o):=by
 obtain⟨h1,h2,h3,h4⟩:=h
 unfold nextOp
 unfold errOp at he
 by_cases k1:o.getD 0 0=1
 ·rw[if_pos k1]at he ⊢
  obtain⟨hf,hi1,hi2⟩:=errAdd_0 he
  obtain⟨hf8,hfm⟩:=free_lt hf
  refine⟨putL_length h1 rfl,by simp[h2],h3,?_⟩
  rcases h4 with h4|⟨h5,h6,h7⟩
  ·exact .inl h4
  ·have hne:j≠freeN s.zs:=fun e=>by rw[←e,h5]at hfm;cases hfm
   refine .inr ⟨?_,?_,?_⟩
   ·rw[memL_put h1 rfl hf8 hj,if_neg hne];exact h5
   ·rw[leafP_put h1 rfl hf8 hj,if_neg hne];exact h6
   ·show(s.ng.set (freeN s.zs) true).getD j false=false
    rw[getD_setB,if_neg (fun e=>hne e.1.symm)];exact h7
 rw[if_neg k1]at he ⊢
 by_cases k2:o.getD 0 0=2
 ·rw[if_pos k2]at he ⊢
  unfold errRem at he
  have hw:¬(o.getD 1 0=fr∨memB s.zs (o.getD 1 0)=false):=fun hx=>by rw[if_pos hx]at he;cases he
  have hm:memB s.zs (o.getD 1 0)=true:=by
   cases hq:memB s.zs (o.getD 1 0)with
   |true=>rfl
   |false=>exact(hw (.inr hq)).elim
  obtain⟨hb0,hb1⟩:=memB_bd hm
  obtain⟨n,hn⟩:=Int.eq_ofNat_of_zero_le hb0
  rw[hn]at hb1 ⊢
  refine⟨putL_length h1 rfl,by simp[h2],by simp[h3],?_⟩
  by_cases hne:j=n
  ·left
   show(s.gn.set (n:Int).toNat true).getD j false=true
   rw[Int.toNat_natCast,getD_setB,if_pos ⟨hne.symm,by omega⟩]
  ·rcases h4 with h4|⟨h5,h6,h7⟩
   ·left
    show(s.gn.set (n:Int).toNat true).getD j false=true
    rw[Int.toNat_natCast,getD_setB,if_neg (fun e=>hne e.1.symm)];exact h4
   ·refine .inr ⟨?_,?_,?_⟩
    ·rw[memL_put h1 rfl (by omega) hj,if_neg hne];exact h5
    ·rw[leafP_put h1 rfl (by omega) hj,if_neg hne];exact h6
    ·show(s.ng.set (n:Int).toNat false).getD j false=false
     rw[Int.toNat_natCast,getD_setB,if_neg (fun e=>hne e.1.symm)];exact h7
 rw[if_neg k2]
 by_cases k3:o.getD 0 0=3
 ·rw[if_pos k3];exact⟨h1,h2,h3,h4⟩
 rw[if_neg k3]
 by_cases k4:o.getD 0 0=4
 ·rw[if_pos k4];exact⟨h1,h2,h3,h4⟩
 rw[if_neg k4]
 exact⟨h1,h2,h3,h4⟩
structure Goes(zs0:List Int)(s:Vw):Prop where
 zl:s.zs.length=31
 al:s.ad.length=8
 nl:s.ng.length=8
 t:isT s.zs=true
 adm:admTo s.zs s.ad 8=true
 k:1≤s.k
 nd:∀m,16≤m→s.zs.getD m 0=0∨s.zs.getD m 0=zs0.getD m 0
 new:∀j,j<8→s.ng.getD j false=true→memL s.zs j=true∧s.zs.getD (16+n1 (j:Nat)) 0=0∧s.zs.getD (16+n2 (j:Nat)) 0=0∧s.zs.getD 23 0=0
theorem isT_iff(zs:List Int):isT zs=true↔(∀k,k<8→leafOK zs k=true)∧∀k,k<15→nodeOK zs k=true:=by
 unfold isT
 rw[Bool.and_eq_true,List.all_eq_true,List.all_eq_true]
 simp only[List.mem_range]
theorem leafOK_is{zs:List Int}{k:Nat}{a b:Int}(h:leafP zs k=[a,b])(ha:isI a=true)(hb:isI b=true):leafOK zs k=true:=by
 unfold leafOK;rw[h];simp[ha,hb]
theorem leafOK_zero{zs:List Int}{k:Nat}(h:leafP zs k=[0,0]):leafOK zs k=true:=by
 unfold leafOK;rw[h];rfl
theorem leafOK_eq{zs zs':List Int}{k:Nat}(h:leafP zs k=leafP zs' k):leafOK zs k=leafOK zs' k:=by
 unfold leafOK;rw[h]
theorem nodeOK_get{zs:List Int}{k:Nat}(hk:k<15):nodeOK zs k=(decide (zs.getD (16+k) 0=0)||(!((k:Int).tmod 2==0)&&isI (zs.getD (16+k) 0))):=by
 unfold nodeOK;rw[nodeV_eq zs hk]
theorem isT_putK{zs xs:List Int}(hz:zs.length=31)(h:isT zs=true){i:Nat}(hi:i<8)(hx:xs=[0,0]∨∃a b,xs=[a,b]∧isI a=true∧isI b=true):isT (putL zs xs (i:Nat))=true:=by
 have hx2:xs.length=2:=by rcases hx with rfl|⟨a,b,rfl,_⟩<;>rfl
 obtain⟨h1,h2⟩:=(isT_iff zs).1 h
 refine(isT_iff _).2 ⟨fun k hk=>?_,fun k hk=>?_⟩
 ·have e:=leafP_put hz hx2 hi hk
  by_cases hki:k=i
  ·rw[if_pos hki]at e
   rcases hx with rfl|⟨a,b,rfl,ha,hb⟩
   ·exact leafOK_zero e
   ·exact leafOK_is e ha hb
  ·rw[if_neg hki]at e
   rw[leafOK_eq e];exact h1 k hk
 ·have:=h2 k hk
  rw[nodeOK_get hk]at this ⊢
  rw[putL_hi hz hx2 hi (by omega)]
  split
  ·rfl
  ·exact this
theorem memL_of{zs:List Int}{k:Nat}{a b:Int}(h:leafP zs k=[a,b])(ha:isI a=true):memL zs k=true:=by
 unfold memL;rw[h]
 have:=isI_ne ha
 simp[this]
theorem Goes.step{zs0:List Int}{s:Vw}(h:Goes zs0 s)(fr:Int){o:List Int}(he:errOp s fr o=0):Goes zs0 (nextOp s o):=by
 have hinv:Inv s:=⟨h.adm,h.zl,h.al⟩
 have hnx:=nextOp_inv hinv fr he
 obtain⟨h1,h2,h3,h4,h5,h6,h7,h8⟩:=h
 refine⟨hnx.zl,hnx.al,?_,?_,hnx.adm,?_,?_,?_⟩<;>unfold nextOp<;>unfold errOp at he<;>by_cases k1:o.getD 0 0=1
 ·rw[if_pos k1];simp[h3]
 ·rw[if_neg k1];split
  ·simp[h3]
  ·split
   ·exact h3
   ·split<;>exact h3
 ·rw[if_pos k1]at he ⊢
  obtain⟨hf,hi1,hi2⟩:=errAdd_0 he
  obtain⟨hf8,hfm⟩:=free_lt hf
  exact isT_putK h1 h4 hf8 (.inr ⟨_,_,rfl,hi1,hi2⟩)
 ·rw[if_neg k1]at he ⊢
  by_cases k2:o.getD 0 0=2
  ·rw[if_pos k2]at he ⊢
   unfold errRem at he
   have hm:memB s.zs (o.getD 1 0)=true:=by
    cases hq:memB s.zs (o.getD 1 0)with
    |true=>rfl
    |false=>rw[if_pos (.inr hq)]at he;cases he
   obtain⟨hb0,hb1⟩:=memB_bd hm
   obtain⟨n,hn⟩:=Int.eq_ofNat_of_zero_le hb0
   rw[hn]at hb1 ⊢
   exact isT_putK h1 h4 (by omega) (.inl rfl)
  ·rw[if_neg k2];split
   ·exact h4
   ·split<;>exact h4
 ·rw[if_pos k1];exact h6
 ·rw[if_neg k1]at he ⊢
  split
  ·exact h6
  ·next k2=>
   rw[if_neg k2]at he
   split
   ·exact h6
   ·next k3=>
    rw[if_neg k3]at he
    split
    ·exact h6
    ·next k4=>
     rw[if_neg k4]at he
     unfold errLim at he
     show 1≤o.getD 2 0
     by_cases hk:o.getD 2 0<1∨o.getD 2 0>8
     ·rw[if_pos hk]at he;cases he
     ·omega
 ·rw[if_pos k1]at he ⊢
  obtain⟨hf,hi1,hi2⟩:=errAdd_0 he
  obtain⟨hf8,hfm⟩:=free_lt hf
  intro m hm
  show(putL s.zs _ _).getD m 0=0∨(putL s.zs _ _).getD m 0=_
  rw[putL_hi h1 rfl hf8 hm]
  split
  ·exact .inl rfl
  ·exact h7 m hm
 ·rw[if_neg k1]at he ⊢
  by_cases k2:o.getD 0 0=2
  ·rw[if_pos k2]at he ⊢
   unfold errRem at he
   have hm:memB s.zs (o.getD 1 0)=true:=by
    cases hq:memB s.zs (o.getD 1 0)with
    |true=>rfl
    |false=>rw[if_pos (.inr hq)]at he;cases he
   obtain⟨hb0,hb1⟩:=memB_bd hm
   obtain⟨n,hn⟩:=Int.eq_ofNat_of_zero_le hb0
   rw[hn]at hb1 ⊢
   intro m hm
   show(putL s.zs _ _).getD m 0=0∨(putL s.zs _ _).getD m 0=_
   rw[putL_hi h1 rfl (by omega) hm]
   split
   ·exact .inl rfl
   ·exact h7 m hm
  ·rw[if_neg k2];split
   ·exact h7
   ·split<;>exact h7
 ·rw[if_pos k1]at he ⊢
  obtain⟨hf,hi1,hi2⟩:=errAdd_0 he
  obtain⟨hf8,hfm⟩:=free_lt hf
  intro j hj hng
  have hng:(s.ng.set (freeN s.zs) true).getD j false=true:=hng
  show memL (putL s.zs _ _) j=true∧(putL s.zs _ _).getD _ 0=0∧(putL s.zs _ _).getD _ 0=0∧(putL s.zs _ _).getD _ 0=0
  rw[putL_hi h1 rfl hf8 (by omega),putL_hi h1 rfl hf8 (by omega),putL_hi h1 rfl hf8 (by omega)]
  by_cases hje:j=freeN s.zs
  ·subst hje
   refine⟨memL_of (by rw[leafP_put h1 rfl hf8 hf8,if_pos rfl]) hi1,?_,?_,?_⟩
   ·rw[if_pos (.inl rfl)]
   ·rw[if_pos (.inr (.inl rfl))]
   ·rw[if_pos (.inr (.inr rfl))]
  ·rw[getD_setB,if_neg (fun e=>hje e.1.symm)]at hng
   obtain⟨a1,a2,a3,a4⟩:=h8 j hj hng
   refine⟨by rw[memL_put h1 rfl hf8 hj,if_neg hje];exact a1,?_,?_,?_⟩
   ·split
    ·rfl
    ·exact a2
   ·split
    ·rfl
    ·exact a3
   ·split
    ·rfl
    ·exact a4
 ·rw[if_neg k1]at he ⊢
  by_cases k2:o.getD 0 0=2
  ·rw[if_pos k2]at he ⊢
   unfold errRem at he
   have hm:memB s.zs (o.getD 1 0)=true:=by
    cases hq:memB s.zs (o.getD 1 0)with
    |true=>rfl
    |false=>rw[if_pos (.inr hq)]at he;cases he
   obtain⟨hb0,hb1⟩:=memB_bd hm
   obtain⟨n,hn⟩:=Int.eq_ofNat_of_zero_le hb0
   rw[hn]at hb1 ⊢
   intro j hj hng
   have hng:(s.ng.set (n:Int).toNat false).getD j false=true:=hng
   rw[Int.toNat_natCast]at hng
   show memL (putL s.zs _ _) j=true∧(putL s.zs _ _).getD _ 0=0∧(putL s.zs _ _).getD _ 0=0∧(putL s.zs _ _).getD _ 0=0
   rw[putL_hi h1 rfl (by omega) (by omega),putL_hi h1 rfl (by omega) (by omega),putL_hi h1 rfl (by omega) (by omega)]
   by_cases hje:j=n
   ·subst hje
    rw[getD_setB,if_pos ⟨rfl,by omega⟩]at hng
    cases hng
   ·rw[getD_setB,if_neg (fun e=>hje e.1.symm)]at hng
    obtain⟨a1,a2,a3,a4⟩:=h8 j hj hng
    refine⟨by rw[memL_put h1 rfl (by omega) hj,if_neg hje];exact a1,?_,?_,?_⟩
    ·split
     ·rfl
     ·exact a2
    ·split
     ·rfl
     ·exact a3
    ·split
     ·rfl
     ·exact a4
  ·rw[if_neg k2];split
   ·exact h8
   ·split<;>exact h8
theorem mayV_parts{e:Int}{zs:List Int}{ad:List Bool}{k:Int}:mayV e zs ad k=true↔0≤e∧e≤1099511627776∧isT zs=true∧admTo zs ad 8=true∧1≤k∧k≤((cntB ad:Nat):Int):=by
 unfold mayV
 simp only[Bool.and_eq_true,decide_eq_true_eq]
 constructor
 ·rintro⟨⟨⟨⟨⟨a,b⟩,c⟩,d⟩,e⟩,f⟩;exact⟨a,b,c,d,e,f⟩
 ·rintro⟨a,b,c,d,e,f⟩;exact⟨⟨⟨⟨⟨a,b⟩,c⟩,d⟩,e⟩,f⟩
theorem goes_of{e:Int}{zs:List Int}{ad:List Bool}{k:Int}{fr:Int}{ops:List Int}{n:Nat}(hz:zs.length=31)(ha:ad.length=8)(h:(doR e ⟨zs,ad,k,F8,F8⟩ fr ops n).1=0):
  Goes zs (doR e ⟨zs,ad,k,F8,F8⟩ fr ops n).2∧(doR e ⟨zs,ad,k,F8,F8⟩ fr ops n).2.k≤((cntB (doR e ⟨zs,ad,k,F8,F8⟩ fr ops n).2.ad:Nat):Int)∧mayV e zs ad k=true∧memB zs fr=true:=by
 obtain⟨h1,h2,h3,h4,h5,h6,h7⟩:=doR_yes h
 obtain⟨_,_,m3,m4,m5,_⟩:=mayV_parts.1 h1
 rw[h6]
 refine⟨runE_keeps (I:=Goes zs) (fun s o hs he=>hs.step fr he) _ _ _ ⟨hz,ha,rfl,m3,m4,m5,fun m _=>.inr rfl,fun j hj hn=>?_⟩ h5,h7,h1,h4⟩
 have:F8.getD j false=false:=by rcases j with _|_|_|_|_|_|_|_|j<;>first|rfl|omega
 rw[show(⟨zs,ad,k,F8,F8⟩:Vw).ng=F8 from rfl,this]at hn
 cases hn
end
section
open Pm
structure PInv(p:PS):Prop where
 lf0:0≤p.lf
 lf1:p.lf<8
 zl:p.zs.length=31
 al:p.ad.length=8
 cl:p.ch.length=32
 gl:p.sg.length=32
 sl:p.sc.length=32
 bl:p.ab.length=96
 el:p.ep.length=32
 il:p.ini.length=32
 a0:nodeK p.zs (16+n1 p.lf)=false→abK p.ab 0=zB 32
 a1:nodeK p.zs (16+n2 p.lf)=false→abK p.ab 1=zB 32
 a2:nodeK p.zs 23=false→abK p.ab 2=zB 32
structure Own(p:PS):Prop where
 inv:PInv p
 may:mayV p.e p.zs p.ad p.k=true
 lf:leafP p.zs p.lf.toNat=[powI 4 (scal p.sg),nodeY p.sc]
 k0:nodeK p.zs (16+n1 p.lf)=true→p.zs.getD (16+n1 p.lf) 0=nodeY (abK p.ab 0)
 k1:nodeK p.zs (16+n2 p.lf)=true→p.zs.getD (16+n2 p.lf) 0=nodeY (abK p.ab 1)
 k2:nodeK p.zs 23=true→p.zs.getD 23 0=nodeY (abK p.ab 2)
structure Like(p q:PS):Prop where
 e:p.e=q.e
 zs:p.zs=q.zs
 ad:p.ad=q.ad
 k:p.k=q.k
 ch:p.ch=q.ch
 ep:p.ep=q.ep
 ini:p.ini=q.ini
theorem nodeY_isI(h:List UInt8):isI (nodeY h)=true:=isI_pub (scal (nodeW h)) (scal_bd _)
theorem nodeY_ne(h:List UInt8):nodeY h≠0:=isI_ne (nodeY_isI h)
theorem nodeK_not(zs:List Int)(m:Nat):nodeK zs m=false↔zs.getD m 0=0:=by unfold nodeK;simp
theorem up_k0(h:List UInt8):abK (upW h) 0=nextW h:=by
 unfold abK upW
 have h1:=nextW_len h
 simp[List.take_append,h1]
theorem up_k1(h:List UInt8):abK (upW h) 1=nextW (nextW h):=by
 unfold abK upW
 have h1:=nextW_len h
 have h2:=nextW_len (nextW h)
 simp[List.take_append,List.drop_append,h1,h2]
theorem up_k2(h:List UInt8):abK (upW h) 2=nextW (nextW (nextW h)):=by
 unfold abK upW
 have h1:=nextW_len h
 have h2:=nextW_len (nextW h)
 have h3:=nextW_len (nextW (nextW h))
 have e1:List.drop 64 (nextW h)=[]:=List.drop_eq_nil_of_le (by omega)
 have e2:List.take 32 (nextW (nextW (nextW h)))=nextW (nextW (nextW h)):=List.take_of_length_le (by omega)
 simp[List.take_append,List.drop_append,h1,h2,h3,e1,e2]
structure SameP(p p':PS):Prop where
 e:p'.e=p.e
 zs:p'.zs=p.zs
 ad:p'.ad=p.ad
 k:p'.k=p.k
 ch:p'.ch=p.ch
 lf:p'.lf=p.lf
 sg:p'.sg=p.sg
 sc:p'.sc=p.sc
 ep:p'.ep=p.ep
 ini:p'.ini=p.ini
theorem SameP.refl(p:PS):SameP p p:=⟨rfl,rfl,rfl,rfl,rfl,rfl,rfl,rfl,rfl,rfl⟩
theorem SameP.trans{p q r:PS}(h:SameP p q)(k:SameP q r):SameP p r:=⟨k.1.trans h.1,k.2.trans h.2,k.3.trans h.3,k.4.trans h.4,k.5.trans h.5,k.6.trans h.6,k.7.trans h.7,k.8.trans h.8,k.9.trans h.9,k.10.trans h.10⟩
theorem SameP.set(p:PS)(q:Nat)(h:List UInt8):SameP p (setAb p q h):=⟨rfl,rfl,rfl,rfl,rfl,rfl,rfl,rfl,rfl,rfl⟩
end
section
open Pm
theorem leafP_beh{zs:List Int}(hz:zs.length=31){fr:Int}(f0:0≤fr)(f1:fr<8)(sl a b c:Int){j:Nat}(hj:j<8):leafP (behZ zs fr sl a b c) j=if j=fr.toNat then[zs.getD (fr.toNat*2) 0,sl]else leafP zs j:=by
 have hl:=behZ_len hz fr sl a b c
 rw[leafP_two (by omega) hj,behZ_get hz f0 f1,behZ_get hz f0 f1,leafP_two (by omega) hj]
 unfold n1 n2
 by_cases e:j=fr.toNat
 ·rw[if_neg (by omega),if_neg (by omega),if_neg (by omega),if_neg (by omega),if_neg (by omega),if_neg (by omega),if_neg (by omega),if_pos (by omega),if_pos e,e]
 ·rw[if_neg (by omega),if_neg (by omega),if_neg (by omega),if_neg (by omega),if_neg (by omega),if_neg (by omega),if_neg (by omega),if_neg (by omega),if_neg e]
theorem isT_beh{zs:List Int}(hz:zs.length=31)(h:isT zs=true){fr:Int}(f0:0≤fr)(f1:fr<8){sl a b c x y:Int}(hx:leafP zs fr.toNat=[x,y])(ix:isI x=true)(i0:isI sl=true)(i1:isI a=true)(i2:isI b=true)(i3:isI c=true):isT (behZ zs fr sl a b c)=true:=by
 obtain⟨h1,h2⟩:=(isT_iff zs).1 h
 refine(isT_iff _).2 ⟨fun k hk=>?_,fun k hk=>?_⟩
 ·have e:=leafP_beh hz f0 f1 sl a b c hk
  by_cases hki:k=fr.toNat
  ·rw[if_pos hki]at e
   have hx2:=hx
   rw[leafP_two (by omega) (by omega)]at hx2
   have e1:zs.getD (fr.toNat*2) 0=x:=(List.cons.inj hx2).1
   rw[e1]at e
   exact leafOK_is e ix i0
  ·rw[if_neg hki]at e
   rw[leafOK_eq e];exact h1 k hk
 ·have:=h2 k hk
  rw[nodeOK_get hk]at this ⊢
  rw[behZ_get hz f0 f1]
  unfold n1 n2
  have odd:∀v:Int,isI v=true→(k:Int)%2=1→(decide (v=0)||(!((k:Int).tmod 2==0)&&isI v))=true:=fun v hv ho=>by
   have:(k:Int).tmod 2=1:=by rw[Int.tmod_eq_emod_of_nonneg (by omega)];exact ho
   rw[this,hv];simp
  split
  ·exact odd c i3 (by omega)
  ·split
   ·exact odd b i2 (by omega)
   ·split
    ·exact odd a i1 (by omega)
    ·rw[if_neg (by omega)];exact this
theorem memL_beh{zs:List Int}(hz:zs.length=31){fr:Int}(f0:0≤fr)(f1:fr<8)(sl a b c:Int){j:Nat}(hj:j<8)(hs:sl≠0)(h:memL zs j=true):memL (behZ zs fr sl a b c) j=true:=by
 unfold memL at h ⊢
 rw[leafP_beh hz f0 f1 sl a b c hj]
 split
 ·simp[hs]
 ·exact h
theorem may_beh{zs0:List Int}{s:Vw}(g:Goes zs0 s)(hk:s.k≤((cntB s.ad:Nat):Int)){fr:Int}(f0:0≤fr)(f1:fr<8){sl a b c x y:Int}(hx:leafP s.zs fr.toNat=[x,y])(ix:isI x=true)(i0:isI sl=true)(i1:isI a=true)(i2:isI b=true)(i3:isI c=true){e:Int}(e0:0≤e)(e1:e≤1099511627776):
  mayV e (behZ s.zs fr sl a b c) s.ad s.k=true:=by
 refine mayV_parts.2 ⟨e0,e1,isT_beh g.zl g.t f0 f1 hx ix i0 i1 i2 i3,?_,g.k,hk⟩
 rw[admTo_iff]
 intro i hi ha
 exact memL_beh g.zl f0 f1 sl a b c hi (isI_ne i0) ((admTo_iff _ _).1 g.adm i hi ha)
theorem comE_0{q:PS}{n:Nat}{ops:List Int}{m:Nat}{vs:List Int}(h:comE q n ops m vs=0):chkV q.e q.zs q.ad q.k q.ch q.lf ops n vs m=0∧(doR q.e ⟨q.zs,q.ad,q.k,F8,F8⟩ q.lf ops n).1=0∧q.e<1099511627776:=by
 unfold comE at h
 by_cases h1:chkV q.e q.zs q.ad q.k q.ch q.lf ops n vs m=0
 ·rw[if_neg (fun x=>x h1)]at h
  by_cases h2:(doR q.e ⟨q.zs,q.ad,q.k,F8,F8⟩ q.lf ops n).1=0
  ·rw[if_neg (fun x=>x h2)]at h
   refine⟨h1,h2,?_⟩
   by_cases h3:q.e≥1099511627776
   ·rw[if_pos h3]at h;cases h
   ·omega
  ·rw[if_pos h2]at h;exact absurd h h2
 ·rw[if_pos h1]at h;exact absurd h h1
theorem Own.mem{p:PS}(h:Own p):memL p.zs p.lf.toNat=true:=memL_of h.lf (isI_pub _ (scal_bd _))
theorem Own.memB{p:PS}(h:Own p):memB p.zs p.lf=true:=by
 unfold Go.Proofs.YtgnhmfmhbimfkaaGreatDoor.memB
 rw[h.mem]
 have h0:=h.inv.lf0
 have h1:=h.inv.lf1
 simp[leafB,h0,h1]
theorem nextP_zs(p:PS)(s:Vw)(n:Nat)(ops:List Int)(m:Nat)(vs:List Int)(d:List UInt8):(nextP p s n ops m vs d).zs=behZ s.zs p.lf (nodeY (lefW d)) (nodeY (nextW (lefW d))) (nodeY (nextW (nextW (lefW d)))) (nodeY (nextW (nextW (nextW (lefW d))))):=by
 dsimp only[nextP,reachP,enterP,behP,renewP,com0]
theorem com_own{q:PS}(hq:Own q){n:Nat}{ops:List Int}{m:Nat}{vs:List Int}(hc:comE q n ops m vs=0)(d:List UInt8):Own (nextP q (doP q q.lf n ops) n ops m vs d):=by
 obtain⟨h1,h2,h3⟩:=comE_0 hc
 obtain⟨g,gk,gm,_⟩:=goes_of hq.inv.zl hq.inv.al h2
 obtain⟨l0,l1⟩:=(⟨hq.inv.lf0,hq.inv.lf1⟩:0≤q.lf∧q.lf<8)
 have hst:Stay q.zs q.lf.toNat (doP q q.lf n ops):=by
  have e:((q.lf.toNat:Nat):Int)=q.lf:=by omega
  have h2':=h2
  rw[←e]at h2'
  have:=(stay_of hq.inv.zl hq.inv.al h2').2
  rw[e]at this
  exact this
 obtain⟨e0,_⟩:=mayV_parts.1 gm
 have hg:Goes q.zs (doP q q.lf n ops):=g
 have hgk:(doP q q.lf n ops).k≤((cntB (doP q q.lf n ops).ad:Nat):Int):=gk
 generalize doP q q.lf n ops=s at hst hg hgk
 have hx:leafP s.zs q.lf.toNat=[powI 4 (scal q.sg),nodeY q.sc]:=hst.own.trans hq.lf
 have ix:isI (powI 4 (scal q.sg))=true:=isI_pub _ (scal_bd _)
 have y0:=nodeY_isI (lefW d)
 have y1:=nodeY_isI (nextW (lefW d))
 have y2:=nodeY_isI (nextW (nextW (lefW d)))
 have y3:=nodeY_isI (nextW (nextW (nextW (lefW d))))
 obtain⟨zs,hzs⟩:∃zs,zs=behZ s.zs q.lf (nodeY (lefW d)) (nodeY (nextW (lefW d))) (nodeY (nextW (nextW (lefW d)))) (nodeY (nextW (nextW (nextW (lefW d))))):=⟨_,rfl⟩
 have ez:(nextP q s n ops m vs d).zs=zs:=(nextP_zs q s n ops m vs d).trans hzs.symm
 have hlen:zs.length=31:=by rw[hzs];exact behZ_len hg.zl _ _ _ _ _
 have get:=behZ_get hg.zl l0 l1 (nodeY (lefW d)) (nodeY (nextW (lefW d))) (nodeY (nextW (nextW (lefW d)))) (nodeY (nextW (nextW (nextW (lefW d)))))
 rw[←hzs]at get
 have g0:zs.getD (16+n1 q.lf) 0=nodeY (nextW (lefW d)):=by rw[get];unfold n1 n2;rw[if_neg (by omega),if_neg (by omega),if_pos rfl]
 have g1:zs.getD (16+n2 q.lf) 0=nodeY (nextW (nextW (lefW d))):=by rw[get];unfold n2;rw[if_neg (by omega),if_pos rfl]
 have g2:zs.getD 23 0=nodeY (nextW (nextW (nextW (lefW d)))):=by rw[get,if_pos rfl]
 have eab:(nextP q s n ops m vs d).ab=upW (lefW d):=rfl
 have elf:(nextP q s n ops m vs d).lf=q.lf:=rfl
 have yes:∀{k:Nat} {x:List UInt8} {P:Prop},zs.getD k 0=nodeY x→nodeK zs k=false→P:=fun e h=>((nodeY_ne _) (e.symm.trans ((nodeK_not _ _).1 h))).elim
 refine⟨⟨l0,l1,by rw[ez];exact hlen,hg.al,chnW_len _ _,hq.inv.gl,lefW_len d,by rw[eab];exact upW_len _,epoW_len _ _,iniW_len _,?_,?_,?_⟩,?_,?_,?_,?_,?_⟩
 ·rw[ez,elf];exact yes g0
 ·rw[ez,elf];exact yes g1
 ·rw[ez];exact yes g2
 ·show mayV (q.e+1) (nextP q s n ops m vs d).zs s.ad s.k=true
  rw[ez,hzs]
  exact may_beh hg hgk l0 l1 hx ix y0 y1 y2 y3 (by omega) (by omega)
 ·show leafP (nextP q s n ops m vs d).zs q.lf.toNat=[powI 4 (scal q.sg),nodeY (lefW d)]
  rw[ez,hzs,leafP_beh hg.zl l0 l1 _ _ _ _ (by omega),if_pos rfl]
  have h4:=hx
  rw[leafP_two (by have:=hg.zl;omega) (by omega)]at h4
  rw[(List.cons.inj h4).1]
 ·intro _;rw[ez,elf,eab,up_k0];exact g0
 ·intro _;rw[ez,elf,eab,up_k1];exact g1
 ·intro _;rw[ez,eab,up_k2];exact g2
end
section
open Pm
theorem createW_fields(h:List UInt8):(createP h).e=0∧(createP h).zs=[powI 4 (scal (sgnW h)),nodeY (lefW h)]++List.replicate 29 0∧(createP h).ad=[true,false,false,false,false,false,false,false]∧(createP h).k=1∧(createP h).ch=zB 32∧(createP h).lf=0∧
  (createP h).sg=sgnW h∧(createP h).sc=lefW h∧(createP h).ab=zB 96∧(createP h).ep=fstW (lefW h)∧(createP h).ini=iniW (fstW (lefW h)):=by
 unfold createP enterP leafZ
 exact⟨rfl,rfl,rfl,rfl,rfl,rfl,rfl,rfl,rfl,rfl,rfl⟩
theorem ownW_of{p:PS}{x y:Int}(h1:p.zs=[x,y]++List.replicate 29 0)(h2:p.ad.length=8)(h3:p.ch.length=32)(h4:p.lf=0)(h5:p.sg.length=32)(h6:p.sc.length=32)(h7:p.ab=zB 96)(h8:p.ep.length=32)(h9:p.ini.length=32)(hm:mayV p.e p.zs p.ad p.k=true)(hx:x=powI 4 (scal p.sg))(hy:y=nodeY p.sc):Own p:=by
 have z:∀k,k<3→abK (zB 96) k=zB 32:=fun k hk=>by
  unfold abK
  rw[List.drop_replicate,List.take_replicate,show min 32 (96-k*32)=32 by omega]
 have n:∀j:Nat,2≤j→j<31→p.zs.getD j 0=0:=fun j hj hj2=>by
  rw[h1,List.getD_eq_getElem?_getD,List.getElem?_append_right (by simp;omega),List.getElem?_replicate,if_pos (by simp;omega)]
  rfl
 have k1:nodeK p.zs (16+n1 p.lf)=false:=(nodeK_not _ _).2 (n _ (by unfold n1;omega) (by rw[h4];decide))
 have k2:nodeK p.zs (16+n2 p.lf)=false:=(nodeK_not _ _).2 (n _ (by unfold n2;omega) (by rw[h4];decide))
 have k3:nodeK p.zs 23=false:=(nodeK_not _ _).2 (n _ (by decide) (by decide))
 refine⟨⟨by omega,by omega,by rw[h1];simp,h2,h3,h5,h6,by rw[h7];simp,h8,h9,fun _=>by rw[h7];exact z 0 (by decide),fun _=>by rw[h7];exact z 1 (by decide),fun _=>by rw[h7];exact z 2 (by decide)⟩,hm,?_,fun h=>by(rw[k1]at h;cases h),fun h=>by(rw[k2]at h;cases h),fun h=>by(rw[k3]at h;cases h)⟩
 rw[h4,h1,hx,hy]
 rfl
theorem createW_own(h:List UInt8):Own (createP h):=by
 obtain⟨_,k2,k3,_,k5,k6,k7,k8,k9,k10,k11⟩:=createW_fields h
 exact ownW_of k2 (by rw[k3];rfl) (by rw[k5];simp) k6 (by rw[k7];exact sgnW_len _) (by rw[k8];exact lefW_len _) k9 (by rw[k10];exact fstW_len _) (by rw[k11];exact iniW_len _) (create_may h) (by rw[k7]) (by rw[k8])
theorem comW_nil{p:PS}(h:Own p)(he:p.e<1099511627776):comE p 0 [] 0 []=0∧doP p p.lf 0 []=⟨p.zs,p.ad,p.k,F8,F8⟩:=by
 have hd:=doR_none (e:=p.e) (s:=⟨p.zs,p.ad,p.k,F8,F8⟩) (fr:=p.lf) h.may h.memB
 refine⟨?_,?_⟩
 ·have hc:chkV p.e p.zs p.ad p.k p.ch p.lf [] 0 [] 0=0:=by unfold chkV;rw[if_pos rfl,if_pos rfl]
  unfold comE
  rw[if_neg (fun h=>h hc),hd,if_neg (fun h=>h rfl),if_neg (by omega)]
 ·unfold doP;rw[hd]
theorem resF_even{zs:List Int}{n:Int}(h:oddB n=false):∀d,(resF d zs n).length≤1
 |0=>by unfold resF;split<;>simp
 |d+1=>by
  unfold resF
  rw[h]
  split<;>simp
theorem resF_two{zs:List Int}{n:Int}(h1:oddB (n-stepZ n)=false)(h2:oddB (n+stepZ n)=false)(d:Nat):(resF (d+1) zs n).length≤2:=by
 unfold resF
 have a:=resF_even (zs:=zs) h1 d
 have b:=resF_even (zs:=zs) h2 d
 split
 ·split
  ·rw[List.length_append];omega
  ·simp
 ·simp
theorem planL_16(zs:List Int)(bt:List Bool)(x:Int):(planL zs x bt).length≤16:=by
 unfold planL
 split
 ·next hx=>
  have hb:0≤x∧x<8:=by unfold leafB at hx;simp at hx;omega
  have e0:oddB ((sideL x).getD 0 0)=false:=eight (p:=fun x=>oddB ((sideL x).getD 0 0)=false) hb rfl rfl rfl rfl rfl rfl rfl rfl
  have e1:oddB ((sideL x).getD 1 0-stepZ ((sideL x).getD 1 0))=false:=eight (p:=fun x=>oddB ((sideL x).getD 1 0-stepZ ((sideL x).getD 1 0))=false) hb rfl rfl rfl rfl rfl rfl rfl rfl
  have e2:oddB ((sideL x).getD 1 0+stepZ ((sideL x).getD 1 0))=false:=eight (p:=fun x=>oddB ((sideL x).getD 1 0+stepZ ((sideL x).getD 1 0))=false) hb rfl rfl rfl rfl rfl rfl rfl rfl
  have a0:(pairsK bt ((0:Nat):Int) (resF 3 zs ((sideL x).getD 0 0))).length≤1:=Nat.le_trans (pairsK_len bt ((0:Nat):Int) _) (resF_even (zs:=zs) e0 3)
  have a1:(pairsK bt ((1:Nat):Int) (resF 3 zs ((sideL x).getD 1 0))).length≤2:=Nat.le_trans (pairsK_len bt ((1:Nat):Int) _) (resF_two (zs:=zs) e1 e2 2)
  have a2:(pairsK bt ((2:Nat):Int) (resF 3 zs ((sideL x).getD 2 0))).length≤8:=Nat.le_trans (pairsK_len bt ((2:Nat):Int) _) (Nat.le_trans (resF_len zs 3 ((sideL x).getD 2 0)) (show 2^3≤8 by decide))
  rw[show planTo zs bt x 3=(([]++pairsK bt ((0:Nat):Int) (resF 3 zs ((sideL x).getD 0 0)))++pairsK bt ((1:Nat):Int) (resF 3 zs ((sideL x).getD 1 0)))++pairsK bt ((2:Nat):Int) (resF 3 zs ((sideL x).getD 2 0))from rfl]
  simp only[List.length_append,List.length_nil]
  omega
 ·simp
theorem within_of{n m:Int}(h0:0≤n)(h1:n≤m):withinB n m=true:=by
 unfold withinB;simp[h0,h1]
theorem nodeY_in(h:List UInt8):withinB (nodeY h) 2147483579=true:=by
 obtain⟨h1,h2,_⟩:=(isI_iff _).1 (nodeY_isI h)
 exact within_of (by omega) (by omega)
theorem mayB_of{c:CS}(a1:withinB c.e 1099511627776=true)(a2:withinB c.fr 7=true)(a3:sigB c.sE c.sS=true)(a4:withinB c.sl 2147483579=true)(a5:withinB c.p0 2147483579=true)(a6:withinB c.p1 2147483579=true)(a7:withinB c.p2 2147483579=true)(n0:c.n=0)(m0:c.m=0)(k0:c.k≤16)(b0:∀j,j<c.k→(c.bx j).length≤300):mayB c=true:=by
 have e0:∀q:Nat→Bool,anyP q 0=false:=fun q=>by
  cases h:anyP q 0 with
  |false=>rfl
  |true=>obtain⟨j,hj,_⟩:=(anyP_iff _ _).1 h;omega
 have e1:anyP (fun i=>decide (((c.bx i).length:Int)>300)) c.k=false:=by
  cases h:anyP (fun i=>decide (((c.bx i).length:Int)>300)) c.k with
  |false=>rfl
  |true=>
   obtain⟨j,hj,hb⟩:=(anyP_iff _ _).1 h
   have h1:=b0 j hj
   have h2:=of_decide_eq_true hb
   omega
 have k1:decide ((c.k:Int)≤16)=true:=decide_eq_true (by omega)
 unfold mayB
 rw[a1,a2,a3,a4,a5,a6,a7,n0,m0,e0,e0,e1,k1]
 rfl
theorem mayB_com{p:PS}(h:Own p)(he0:0≤p.e)(he:p.e<1099511627776)(d:List UInt8){c:CS}(hc:c=comP p (doP p p.lf 0 []) 0 [] 0 [] d):mayB c=true∧c.n≤3000∧c.m≤3000∧c.k≤3000∧∀j,j<c.k→(c.bx j).length≤6000:=by
 have l0:=h.inv.lf0
 have l1:=h.inv.lf1
 have e1:c.n=0:=by rw[hc];dsimp only[comP,com0]
 have e2:c.m=0:=by rw[hc];dsimp only[comP,com0]
 have e3:c.k≤16:=by rw[hc];dsimp only[comP,com0];exact planL_16 _ _ _
 have e4:∀j,j<c.k→(c.bx j).length≤300:=fun j _=>by
  rw[hc]
  dsimp only[comP,com0,boxesP,boxOf]
  exact Nat.le_trans (sealB_bd _ _ _) (by decide)
 refine⟨mayB_of ?_ ?_ ?_ ?_ ?_ ?_ ?_ e1 e2 e3 e4,by omega,by omega,by omega,fun j hj=>Nat.le_trans (e4 j hj) (by decide)⟩
 ·rw[hc];exact within_of he0 (by show p.e≤_;omega)
 ·rw[hc];exact within_of l0 (by show p.lf≤_;omega)
 ·have s1:=sigE_bd (scal p.sg) (bodyB (com0 p (doP p p.lf 0 []) 0 [] 0 [] d)++tagE (nextP p (doP p p.lf 0 []) 0 [] 0 [] d).ep)
  have s2:=sigS_bd (scal p.sg) (bodyB (com0 p (doP p p.lf 0 []) 0 [] 0 [] d)++tagE (nextP p (doP p p.lf 0 []) 0 [] 0 [] d).ep)
  rw[hc]
  unfold sigB
  rw[show(comP p (doP p p.lf 0 []) 0 [] 0 [] d).sE=sigE (scal p.sg) (bodyB (com0 p (doP p p.lf 0 []) 0 [] 0 [] d)++tagE (nextP p (doP p p.lf 0 []) 0 [] 0 [] d).ep)from rfl,show(comP p (doP p p.lf 0 []) 0 [] 0 [] d).sS=sigS (scal p.sg) (bodyB (com0 p (doP p p.lf 0 []) 0 [] 0 [] d)++tagE (nextP p (doP p p.lf 0 []) 0 [] 0 [] d).ep)from rfl]
  rw[within_of s1.1 (by omega),within_of s2.1 (by omega)]
  rfl
 ·rw[hc];dsimp only[comP,com0];exact nodeY_in _
 ·rw[hc];dsimp only[comP,com0];exact nodeY_in _
 ·rw[hc];dsimp only[comP,com0];exact nodeY_in _
 ·rw[hc];dsimp only[comP,com0];exact nodeY_in _
end
section
open Pm
attribute [local irreducible] condK LoopA regA
theorem clone2_fn(k:Nat)(l:List A)(hk:k≠0)(h1:k≤1000):FnO 40 [.row k [.gen k l]] (.o 35 1 k [.gen k l]):=by
 refine fnA (E:=envWr0) Tryz.func40 Tryz.ntmps40 ?_
 refine agow ?_;(try exact⟨⟩)
theorem clone1_fn(k:Nat)(b:List UInt8)(hk:k≠0)(h1:k≤1000000):FnO 41 [.row k [.bytes k b]] (.o 5 1 k [.bytes k b]):=by
 refine fnA (E:=envWr0) Tryz.func41 Tryz.ntmps41 ?_
 refine agow ?_;(try exact⟨⟩)
 show Res.o _ 1 k [.bytes (0+k) ([]++b)]=_
 rw[Nat.zero_add,List.nil_append]
def cloneD:List A→(Res→Prop)→Prop
 |[.row k [.bytes k' b]],K=>k'=k∧k≠0∧k≤1000000∧K (.d (.row k [.bytes k b]))
 |_,_=>False
theorem cloneD_ok:∀args K,cloneD args K→∃r,FnO 41 args r∧K r:=by
 intro args K h
 unfold cloneD at h
 split at h
 ·obtain⟨rfl,h1,h2,h⟩:=h
  exact⟨_,fn_row (clone1_fn _ _ h1 h2),h⟩
 ·exact h.elim
noncomputable def envWt0:EnvX:=envWr0.add 41 cloneD cloneD_ok ⟨_,Tryz.func41,by kernel_rfl,by kernel_rfl⟩
theorem ra_own{w:World}{e:TypeId}{k:Nat}{v:Value}{cs:List Value}(h:w.ownsRow 0 e 1 v k cs)(ho:∀x∈cs,x.oneCell'=true):RA (fun q=>v.ownBlock=some q) w (.row k [.gen k (cs.map .v)]) v:=by
 have rg:∀{l:List Value},(∀x∈l,x.oneCell'=true)→RG (fun q=>v.ownBlock=some q) w (l.map .v) l:=by
  intro l
  induction l with
  |nil=>intro _;exact .nil
  |cons x l ih=>intro hl;exact .cons (.v _) (hl x (by simp)) (ih fun y hy=>hl y (by simp[hy]))
 have hl:cs.length=k:=by rw[h.1,Nat.mul_one]
 have hr:RL (fun q=>v.ownBlock=some q) w [.gen k (cs.map .v)] cs:=RL.ofGen (by simp[hl]) (rg ho)
 rcases h.2 with⟨rfl,rfl⟩|⟨g,cap,cur,rfl,h1,h2,h3,h4,h5⟩
 ·obtain rfl:cs=[]:=List.length_eq_zero_iff.1 hl
  exact .row hr (Nat.le_refl _) (Nat.zero_le _) (fun _=>rfl) (.inl rfl)
 ·refine .row hr h3 h4 (fun e=>by cases e) (.inr ⟨g,0,rfl,rfl,(Array.getElem?_eq_some_iff.1 h2).1,fun i hi=>?_⟩)
  have:=World.ownsRow.cells h (g:=g) rfl i cs[i] (List.getElem?_eq_getElem hi)
  rw[add_at]at this
  exact this
theorem own_post{w:World}{r k:Nat}{t:TypeId}{L:Array Value}{po v:Value}{cs:List Value}(hb:Blk w r L t)(h:w.ownsRow 0 35 1 po k cs)(hne:po.ownBlock≠some r):(w.setCell ⟨r,1,none⟩ v).ownsRow 0 35 1 po k cs:=ownsRow_up h fun q hq=>by
 refine heap_setCell_other w ⟨r,1,none⟩ q v ?_
 rcases h.2 with⟨e1,e2⟩|⟨q',cap,cur,e1,_⟩
 ·rw[e1]at hq;cases hq
 ·rw[e1]at hq hne;cases hq
  intro e
  exact hne (congrArg some e)
set_option maxRecDepth 100000 in
set_option maxHeartbeats 4000000 in
theorem post_walk(S:Nat→Prop)(w:World)(r:Nat)(t:TypeId)(n:Int)(ps bs:List Value)(po ap:Value)(k:Nat)(cs:List Value)(rows:List A)(hps:ps.length=8)(hbs:bs.length=8)(hb:Blk w r (WL n 0 ps bs po ap).toArray t)(hown:w.ownsRow 0 35 1 po k cs)(hne:po.ownBlock≠some r)
  (hS:¬S r)(hG:GOK gTab S w)(hrows:RG S w rows cs)(hk:k≤1000)(hrw:∀j,j<k→∃L B,rows.getD j (.v undef)=.row L [.bytes L B]∧L≠0∧L≤1000000)
  (hcl:∀w1,GOK gTab S w1→w1.ownsRow 0 35 1 po k cs→Calls Tryz.prog 40 #[po] w1 fun e w2=>∃sv,e=.returned sv∧w2.ownsRow w1.heap.size 35 1 sv k cs∧Below w1.heap.size w1 w2):
  Calls Tryz.prog 13 #[.pointer (some ⟨r,0,none⟩)] w fun e w'=>∃v w2,e=.returned v∧RA (fun q=>S q∨w.heap.size≤q) w2 (.row k [.gen k rows]) v∧w'=w2.setCell ⟨r,1,none⟩ (.int .i32 0)∧Blk w2 r (WL n 1 ps bs po ap).toArray t∧w.grownBy w2 (some r):=by
 have hb1:Blk (w.setCell ⟨r,1,none⟩ (.int .i32 1)) r (WL n 1 ps bs po ap).toArray t:=(hb.set 1 _).copy (WL_mu 1)
 have hg1:w.grownBy (w.setCell ⟨r,1,none⟩ (.int .i32 1)) (some r):=grown_setCell (grown_refl w _) 1 _
 have c1:w.cell? ⟨r,1,none⟩=some (.int .i32 0):=(hb.cell 1).trans (by rw[List.getElem?_toArray];rfl)
 have c2:(w.setCell ⟨r,1,none⟩ (.int .i32 1)).cell? ⟨r,19,none⟩=some po:=(hb1.cell 19).trans (by
  rw[List.getElem?_toArray]
  show(ps++(bs++[po,ap]))[16]?=some po
  rw[List.getElem?_append_right (by omega),List.getElem?_append_right (by omega),hps,hbs]
  rfl)
 have hsz:(w.setCell ⟨r,1,none⟩ (.int .i32 1)).heap.size=w.heap.size:=by simp[World.setCell]
 have hG2:GOK gTab S (w.setCell ⟨r,1,none⟩ (.int .i32 1)):=hG.up ⟨by rw[hsz];exact Nat.le_refl _,fun z hz hd=>⟨hd,fun o=>World.cell?_of_block (heap_setCell_other w ⟨r,1,none⟩ z _ (fun e=>hS (by rw[←show z=r from e];exact hd)))⟩⟩
 have HG2:=Lib.hid hG2;clear hG2
 have HB:=Lib.hid hb;have HB1:=Lib.hid hb1;have HG1:=Lib.hid hg1;have C1:=Lib.hid c1;have HC:=Lib.hid hcl
 have HO:=Lib.hid hown;have HN:=Lib.hid hne;have HS:=Lib.hid hS;have HG:=Lib.hid hG;have HR:=Lib.hid hrows;have HK:=Lib.hid hk;have HW:=Lib.hid hrw;have HZ:=Lib.hid hsz
 clear hb hb1 hg1 hcl c1 hown hps hbs hne hS hG hrows hk hrw hsz
 go_enter_defers Tryz.func13,Tryz.ntmps13
 go_wp2_with (first|(go_at_call 33;refine(lock_free ⟨r,1,none⟩ _ C1.out (HB.out.frozen 1)).mono ?_;rintro e w' ⟨rfl,rfl⟩)|(go_at_call 40;refine(HC.out _ HG2.out (own_post HB.out HO.out HN.out)).mono ?_;rintro e w2 ⟨sv,rfl,hsv,hbel⟩;obtain⟨ad,cp,rfl⟩:=ownsRow_form hsv;have HSV:=Lib.hid hsv;have HBEL:=Lib.hid hbel;clear hsv hbel))
 rename_i K ha
 have hsv:=HSV.out
 have hbel:=HBEL.out
 rw[HZ.out]at hsv hbel
 have hsv':∀z,Rl (.slice ad k cp) z→w.heap.size≤z:=fun z hz=>(ownsRow_real hsv hz).1
 have kk:Keeps S w (Dt S w.heap.size (fun b=>if b=0 then some (.slice ad k cp)else none)) w2:=by
  refine⟨by have:=hbel.size;rw[HZ.out]at this;exact this,fun z hz hd=>⟨⟨.inl hd,fun b u hb hu=>?_⟩,fun o=>World.cell?_of_block ?_⟩⟩
  ·dsimp only at hb
   split at hb
   ·cases hb;have:=hsv' z hu;omega
   ·cases hb
  ·rw[hbel.block z hz]
   exact heap_setCell_other w ⟨r,1,none⟩ z _ (fun e=>HS.out (by rw[←show z=r from e];exact hd))
 have hrl:RL (Dt S w.heap.size (fun b=>if b=0 then some (.slice ad k cp)else none)) w2 [.gen k rows] cs:=RL.ofGen (by rw[HR.out.two,hsv.1,Nat.mul_one]) (HR.out.up kk)
 refine GX.out (E:=envWt0) (S:=S) (base:=w.heap.size) (w0:=⟨w2,fun _=>False,none,[{ target:=.fn (.func 34) #[],args:=#[.pointer (some ⟨r,1,none⟩)] }]⟩) (s:=⟨([.pointer (some ⟨r,0,none⟩),undef,.slice none 0 0,.slice ad k cp,undef,.pointer (some ⟨r,0,none⟩),.bool false,.pointer (some ⟨r,0,none⟩),.pointer (some ⟨r,0,none⟩),.pointer (some ⟨r,1,none⟩),.tuple #[],.pointer (some ⟨r,0,none⟩),.pointer (some ⟨r,0,none⟩),.pointer (some ⟨r,1,none⟩),.pointer (some ⟨r,0,none⟩),.pointer (some ⟨r,0,none⟩),.pointer (some ⟨r,19,none⟩),po,.slice ad k cp,.slice ad k cp,.int .i64 (k:Nat),.int .i64 0,undef,undef,undef,undef,undef,undef,undef,undef,undef,undef,undef,undef].map fun v=>T.d (.v v)).set 3 (.own 0 k),[some (.sl 35 1 k [.gen k rows])]⟩) ?_ (fun b=>if b=0 then some (.slice ad k cp)else none) _ _ ?_
 rotate_left
 ·refine mid_one' (E:=envWt0) (S:=S) (sv:=.slice ad k cp) (l:=[.gen k rows]) 3 kk.1 hsv (HG.out.up kk) hrl ?_ ?_ ?_ ?_
  ·rfl
  ·rfl
  ·exact Nat.le_of_ble_eq_true rfl
  ·rfl
 simp only[List.map_cons,List.map_nil,Seg.n,wn1,wn2,wn3,wn4,wn5,wn6,wn7,wn8,wn9,wn10,wn11,wn12,wn13,wn14,wn15,wn16,Int.reduceAdd,Int.zero_add,Seg.cell,Seg.sub,List.set_nil,isAlloc,trimH,List.take_append_drop,St.app,St.app2,St.ev,List.getD_cons_zero,List.getD_cons_succ,List.getD_nil,St.sl,St.bk,tiInt,tiBool,tiSl,tiArr,tiStruct,weaken,keepT,List.set_cons_zero,List.set_cons_succ,List.length_cons,List.length_nil,List.cons_append,List.nil_append,List.append_nil,List.map_cons,List.map_nil,List.replicate_succ,List.replicate_zero,List.take_succ_cons,List.take_zero,List.drop_succ_cons,List.drop_zero,List.take_nil,List.drop_nil,Nat.reduceAdd,Nat.reduceSub,Nat.reduceMul,Nat.reduceEqDiff,Nat.reduceLT,Nat.reduceLeDiff,Nat.zero_add,Nat.add_zero,Nat.sub_self,Nat.sub_zero,Nat.one_mul,Nat.mul_one,Nat.zero_mul,joinS,manyS,List.flatten_cons,List.flatten_nil,eq_self,ite_true,if_true,if_false,↓reduceIte,reduceCtorEq,Int.reduceToNat]
 refine GX.of ?_
 refine agow ?_;(try exact⟨⟩)
 have hlen:rows.length=k:=by rw[HR.out.two,hsv.1,Nat.mul_one]
 refine StopL.mk (loop_forG [3,20,21] [0] k (fun j=>⟨[.dead,.dead,.dead,.own 0 k,.dead,.dead,.dead,.dead,.dead,.dead,.dead,.dead,.dead,.dead,.dead,.dead,.dead,.dead,.dead,.dead,.d (.v (.int .i64 (k:Nat))),.d (.v (.int .i64 (j:Nat))),.dead,.dead,.dead,.dead,.dead,.dead,.dead,.dead,.dead,.dead,.dead,.dead],[some (.sl 35 1 k [.gen k rows])]⟩) ?_)
 intro j hj hl
 have hk1:=HK.out
 by_cases h:j<k
 ·have g1:(j:Int)<k:=by omega
  obtain⟨L,B,e1,e2,e3⟩:=HW.out j h
  have e4:rows.set j (.row L [.bytes L B])=rows:=by
   refine List.ext_getElem (by simp) fun i h1 h2=>?_
   rw[List.getElem_set]
   split
   ·next q=>subst q;rw[←e1,List.getD_eq_getElem?_getD,List.getElem?_eq_getElem (by omega)];rfl
   ·rfl
  have E4:=Lib.hid e4
  clear e4
  have el:loc [.gen k rows] 0=some ([],.gen k rows,[],0):=by unfold loc;rw[if_pos (by show 0<k;omega)]
  have EL:=Lib.hid el
  clear el
  refine agow ?_;(try exact⟨⟩)
  rw[e1]
  refine agow ?_;(try exact⟨⟩)
  rw[EL.out]
  refine agow ?_;(try exact⟨⟩)
  refine hl.go h [3,20,21] [0] ?_
  dsimp only
  rw[E4.out]
  rfl
 ·obtain rfl:k=j:=by omega
  refine agow ?_;(try exact⟨⟩)
  refine GQ.mk fun ρ a w3 g=>?_
  show K a w3
  refine ha a w3 (GX.out ?_ ρ a w3 g)
  refine GX.of ?_
  refine agow ?_;(try exact⟨⟩)
  refine GQ.mk fun ρ a w3 g=>?_
  show Leaves _ _ _ _ a.defers .returning w3
  have hd:a.defers=_:=g.defs
  rw[hd]
  have h3:Blk w3 r (WL n 1 ps bs po ap).toArray t:=by
   show w3.heap[r]?=_
   have hr:r<w.heap.size:=HB.out.lt
   rw[g.bel.block r hr (fun h=>h),hbel.block r hr]
   exact HB1.out
  have hg3:w.grownBy w3 (some r):=by
   have hs:=hbel.size
   rw[HZ.out]at hs
   refine⟨g.bel.os.trans (hbel.os.trans HG1.out.os),g.bel.tape.trans (hbel.tape.trans HG1.out.tape),g.bel.output.trans (hbel.output.trans HG1.out.output),Nat.le_trans hs g.bel.size,fun z hz hn=>?_⟩
   rw[g.bel.block z hz (fun h=>h),hbel.block z hz]
   exact HG1.out.block z hz hn
  refine leaves_cons (f:=34) (args:=#[.pointer (some ⟨r,1,none⟩)]) (by simp) (by simp[go_sem]) ?_
  refine(unlock_deferred ⟨r,1,none⟩ _ _ ((h3.cell 1).trans (by rw[List.getElem?_toArray];rfl)) (h3.frozen 1)).mono ?_
  rintro e u' w4 ⟨rfl,rfl,hw4⟩
  have hv:=g.ev (.tmp 2)
  obtain⟨cs',hρ,ho,hl2⟩:=own_now g rfl hv
  obtain⟨ad2,cp2,hf⟩:=ownsRow_form ho
  show ∃v,(results Tryz.f13 a.tmps).run Tryz.prog w4=.ok v w4∧_
  refine⟨a.tmps.getD 2 undef,run_results1 rfl rfl,a.tmps.getD 2 undef,w3,rfl,?_,hw4,h3,hg3⟩
  exact rr_row (S:=S) (B:=w.heap.size) ⟨cs',ho,hl2.up (toKeeps fun z hz=>⟨hz.1,fun e=>hz.2 0 _ hρ ((rl_own ⟨_,_,_,hf⟩).2 e)⟩)⟩
end
section
open Pm
attribute [local irreducible] condK LoopA regA
theorem clone0_fn:FnO 40 [.v (.slice none 0 0)] (.d (.v (.slice none 0 0))):=by
 refine fnA (E:=envWr0) Tryz.func40 Tryz.ntmps40 ?_
 refine agow ?_;(try exact⟨⟩)
theorem rg_one{S:Nat→Prop}{w:World}:∀{l:List A} {cs:List Value},RG S w l cs→∀x∈cs,x.oneCell'=true
 |_,_,.nil,x,h=>by cases h
 |_,_,.cons _ h1 r,x,h=>by
  rcases List.mem_cons.1 h with rfl|h
  ·exact h1
  ·exact rg_one r x h
theorem rg_raw{S:Nat→Prop}{w:World}:∀{l cs:List Value},RG S w (l.map .v) cs→cs=l
 |[],_,h=>by cases h;rfl
 |x::l,_,h=>by
  cases h with
  |cons a b r=>rw[rg_raw r,ra_plainV a]
theorem clone_raw{po:Value}{k:Nat}{cs:List Value}(hk:k≤1000)(ho:∀x∈cs,x.oneCell'=true)(hn:k=0→po=.slice none 0 0){S:Nat→Prop}(w1:World)(hG:GOK gTab S w1)(h:w1.ownsRow 0 35 1 po k cs):
  Calls Tryz.prog 40 #[po] w1 fun e w2=>∃sv,e=.returned sv∧w2.ownsRow w1.heap.size 35 1 sv k cs∧Below w1.heap.size w1 w2:=by
 by_cases h0:k=0
 ·subst h0
  have hcs:cs=[]:=List.length_eq_zero_iff.1 (by rw[h.1])
  subst hcs
  obtain rfl:=hn rfl
  refine(clone0_fn S w1 [_] hG (.cons (.v _) .nil)).mono ?_
  rintro e w2 ⟨v,rfl,h1,h2⟩
  exact⟨_,rfl,by rw[ra_plainV h1];exact⟨rfl,.inl ⟨rfl,rfl⟩⟩,h2⟩
 ·refine(clone2_fn k (cs.map .v) h0 hk (fun q=>S q∨po.ownBlock=some q) w1 [po] (hG.up (toKeeps fun z hz=>.inl hz)) (.cons ((ra_own h ho).up (toKeeps fun z hz=>.inr hz)) .nil)).mono ?_
  rintro e w2 ⟨v,rfl,⟨cs',h1,h2⟩,h3⟩
  obtain rfl:=rg_raw (h2.toGen).2
  exact⟨_,rfl,h1,h3⟩
theorem wpost_B{n:Int}{l rows:List A}{ap:A}(hk:rows.length≤1000)(hrw:∀j,j<rows.length→∃L B,rows.getD j (.v undef)=.row L [.bytes L B]∧L≠0∧L≤1000000):
  FnB Tryz.prog gTab 13 0 (wvP 0 n l rows ap) [] (.d (.row rows.length [.gen rows.length rows])) (wvP 0 n l rows ap):=by
 intro S w r F vs hG hlt hp hA hS
 obtain⟨po,cs,_,hH,hown,hrg,hF,hnil0⟩:=hp
 obtain rfl:=args0W hA
 have kS:Keeps S w (fun z=>S z∧z≠r) w:=toKeeps fun z hz=>⟨hz,fun e=>hS z hz (by simp[e])⟩
 obtain⟨ps,bs,v1,v2,t,hl8,hb,hps,hpo,back⟩:=wd_openV (hH.up kS rfl)
 obtain rfl:=ra_plainV hpo
 refine(post_walk S w r t n ps bs v1 v2 rows.length cs rows hl8.1 hl8.2 hb hown (fun e=>(hF r e).2 rfl) (fun h=>hS r h (by simp)) hG hrg hk hrw (fun w1 h1 h2=>clone_raw hk (rg_one hrg) (fun e=>hnil0 (List.length_eq_zero_iff.1 e)) w1 h1 h2)).mono ?_
 rintro e w' ⟨v',w2,rfl,h2,rfl,hb2,hg2⟩
 have kw:Keeps (fun z=>S z∧z≠r) w (fun z=>(S z∨w.heap.size≤z)∧z≠r) w2:=⟨hg2.size,fun z hz hd=>⟨⟨.inl hd.1,hd.2⟩,fun o=>World.cell?_of_block (hg2.block z hz fun e=>hd.2 (by cases e;rfl))⟩⟩
 obtain⟨cs2,t',k1,k2,k3,k4,k5,k6⟩:=wv_same (F:=F) hS hlt (fun z hz=>hF z hz) hrg hown hnil0 (back _ _ _ _ _ kw hb2) hg2
 refine⟨_,_,[],rfl,fun q hq=>.inl (k3 q (by simp[hq])),k4,k5,?_,k6⟩
 have hr:r<w.heap.size:=hlt r (by simp)
 have hnm:∀q,S q∨w.heap.size≤q→q∉r::ownL v1:=fun q h hm=>by
  have hm:=k3 q hm
  rcases h with h|h
  ·exact hS q h hm
  ·have:=hlt q hm;omega
 exact RA.up (S:=fun q=>S q∨w.heap.size≤q) ⟨by simp[World.setCell],fun q hq h=>⟨⟨h,hnm q h⟩,fun o=>World.cell?_of_block (heap_setCell_other w2 ⟨r,1,none⟩ q _ (fun e=>hnm q h (by rw[show q=r from e];simp)))⟩⟩ h2
end
section
open Pm
attribute [local irreducible] condK LoopA regA deriveW numB numsB wsd createP
set_option maxHeartbeats 4000000 in
theorem wknown_fn:FnO 18 [] (.d (.v (.bool true))):=by
 refine fnGW (E:=envWp5) Tryz.func18 Tryz.ntmps18 ?_
 refine GW.seq (GW.of ?_)
 refine agow ?_;(try exact⟨⟩)
 refine GW.seq (GW.of ?_)
 refine agow ?_;(try exact⟨⟩)
 intro p hp
 clear hp
 refine agow ?_;(try exact⟨⟩)
 refine GW.seq (GW.region (GL.preN 5 ?_))
 refine agow ?_;(try exact⟨⟩)
 refine GL.guard 2 5 rfl rfl rfl ?_
 refine agow ?_;(try exact⟨⟩)
 refine GL.preN 4 ?_
 refine agow ?_;(try exact⟨⟩)
 refine GL.guard 8 11 rfl rfl rfl ?_
 refine agow ?_;(try exact⟨⟩)
 refine GL.preN 4 ?_
 refine agow ?_;(try exact⟨⟩)
 refine GL.guard 13 16 rfl rfl rfl ?_
 refine agow ?_;(try exact⟨⟩)
 refine GL.preN 4 ?_
 refine agow ?_;(try exact⟨⟩)
 refine GL.guard 18 21 rfl rfl rfl ?_
 refine agow ?_;(try exact⟨⟩)
 refine GL.of (Stop.out ?_)
 refine agow ?_;(try exact⟨⟩)
 intro h hh
 refine agow ?_;(try exact⟨⟩)
 intro h' hh'
 obtain rfl:h'=h:=hh'.trans hh.symm
 clear hh hh'
 have q:eqSegs [Seg.bytes 32 h'] [Seg.bytes 32 h']=true:=by simp[eqSegs]
 refine agow ?_;(try exact⟨⟩)
 refine GW.of ?_
 refine agow ?_;(try exact⟨⟩)
 rw[q]
end
section
open Pm
noncomputable def pF:Nat→PS
 |0=>createP (wsd 0)
 |j+1=>nextP (pF j) (doP (pF j) (pF j).lf 0 []) 0 [] 0 [] (drawW (j:Nat))
noncomputable def cF(j:Nat):CS:=comP (pF j) (doP (pF j) (pF j).lf 0 []) 0 [] 0 [] (drawW (j:Nat))
noncomputable def rF(j:Nat):A:=.row (commitN (cF j)) [.bytes (commitN (cF j)) (commitB (cF j))]
noncomputable def rowsW(k:Nat):List A:=(List.range k).map rF
noncomputable def wF(j:Nat):OP:=wvP 0 (j:Nat) (.sref (pSegs (pF (min j 60))) 0::(nilP 7++List.replicate 8 (.sref bk0 0))) (rowsW (min j 60)) (.v (.slice none 0 0))
theorem rowsW_len(k:Nat):(rowsW k).length=k:=by unfold rowsW;simp
theorem pF_own:∀j:Nat,j≤1000→Own (pF j)∧(pF j).e=j
 |0,_=>⟨createW_own _,(createW_fields _).1⟩
 |j+1,h=>by
  obtain⟨h1,h2⟩:=pF_own j (by omega)
  rw[pF]
  exact⟨com_own h1 (comW_nil h1 (by rw[h2];omega)).1 _,by rw[nextP_e,h2];omega⟩
abbrev actF(d:Int):A:=.agg [.ints .i64 4 [2,0,0,0],.gen 1 [.v (.slice none 0 0)],.ints .i64 1 [d],.gen 1 [.v (.slice none 0 0)]]
theorem stepW_ok{j:Nat}(hj:j<60):FnB Tryz.prog gTab 12 0 (wF j) [actF (j:Nat)] (.d (.v (.int .i64 0))) (wF (j+1)):=by
 obtain⟨h1,h2⟩:=pF_own j (by omega)
 obtain⟨c1,c2⟩:=comW_nil h1 (by rw[h2];omega)
 obtain⟨m1,m2,m3,m4,m5⟩:=mayB_com h1 (by rw[h2];omega) (by rw[h2];omega) (drawW (j:Nat)) (c:=cF j) rfl
 have e1:min j 60=j:=by omega
 have e2:min (j+1) 60=j+1:=by omega
 have hlf:leafB (pF j).lf=true:=by
  have l0:=h1.inv.lf0
  have l1:=h1.inv.lf1
  unfold leafB
  rw[decide_eq_true l0,decide_eq_true (by omega)];rfl
 have:=wstep0_B (n:=(j:Nat)) (l:=.sref (pSegs (pF j)) 0::(nilP 7++List.replicate 8 (.sref bk0 0))) (rows:=rowsW j) (ap:=.v (.slice none 0 0)) (y:=.v (.slice none 0 0)) (i:=0) (nn:=0) (fr:=0) (dr:=(j:Nat)) (p:=pF j) (s:=doP (pF j) (pF j).lf 0 []) (c:=cF j) (q:=pF (j+1)) (by omega) (by decide) rfl hlf (by rw[rowsW_len];exact hj) c1 rfl rfl (by rw[pF]) m1 (by rw[c2];rfl) m2 m3 m4 m5
 unfold wF
 rw[e1,e2,show rowsW (j+1)=rowsW j++[rF j] by unfold rowsW;rw[List.range_succ,List.map_append];rfl]
 exact this
theorem stepX_ok{j:Nat}(hj:60≤j)(h2:j≤1000):FnB Tryz.prog gTab 12 0 (wF j) [actF (j:Nat)] (.d (.v (.int .i64 12))) (wF (j+1)):=by
 obtain⟨h1,h2⟩:=pF_own 60 (by omega)
 obtain⟨c1,c2⟩:=comW_nil h1 (by rw[h2];omega)
 have e1:min j 60=60:=by omega
 have e2:min (j+1) 60=60:=by omega
 have hlf:leafB (pF 60).lf=true:=by
  have l0:=h1.inv.lf0
  have l1:=h1.inv.lf1
  unfold leafB
  rw[decide_eq_true l0,decide_eq_true (by omega)];rfl
 have:=wstepF_B (n:=(j:Nat)) (l:=.sref (pSegs (pF 60)) 0::(nilP 7++List.replicate 8 (.sref bk0 0))) (rows:=rowsW 60) (ap:=.v (.slice none 0 0)) (y:=.v (.slice none 0 0)) (i:=0) (nn:=0) (fr:=0) (dr:=(j:Nat)) (p:=pF 60) (by omega) (by decide) rfl hlf (rowsW_len _) c1 (by rw[c2];rfl)
 unfold wF
 rw[e1,e2]
 exact this
theorem rF_row{j:Nat}(hj:j≤1000):∃L B,rF j=.row L [.bytes L B]∧L≠0∧L≤1000000:=by
 obtain⟨h1,h2⟩:=pF_own j hj
 obtain⟨m1,m2,m3,m4,m5⟩:=mayB_com h1 (by rw[h2];omega) (by rw[h2];omega) (drawW (j:Nat)) (c:=cF j) rfl
 have hk:(cF j).k≤24:=by
  show(comP (pF j) (doP (pF j) (pF j).lf 0 []) 0 [] 0 [] (drawW (j:Nat))).k≤24
  dsimp only[comP,com0];exact planL_len _ _ _
 have hb:=bxN_le m5
 refine⟨_,_,rfl,?_,?_⟩
 ·unfold commitN;omega
 ·unfold commitN bodyN;omega
theorem postW_ok{j:Nat}(hj:j≤1000):FnB Tryz.prog gTab 13 0 (wF j) [] (.d (.row (min j 60) [.gen (min j 60) (rowsW (min j 60))])) (wF j):=by
 have:=wpost_B (n:=(j:Nat)) (l:=.sref (pSegs (pF (min j 60))) 0::(nilP 7++List.replicate 8 (.sref bk0 0))) (rows:=rowsW (min j 60)) (ap:=.v (.slice none 0 0)) (by rw[rowsW_len];omega) (fun i hi=>by
  rw[rowsW_len]at hi
  rw[show(rowsW (min j 60)).getD i (.v undef)=rF i by
   unfold rowsW
   rw[List.getD_eq_getElem?_getD,List.getElem?_map,List.getElem?_range hi];rfl]
  exact rF_row (by omega))
 rw[rowsW_len]at this
 unfold wF
 exact this
def newF:List A→(Res→Prop)→Prop
 |[],K=>K (.ob (wF 0))
 |_,_=>False
theorem newF_ok:∀args K,newF args K→∃r,FnO 9 args r∧K r:=by
 intro args K h
 unfold newF at h
 split at h
 ·exact⟨_,newV_ok,h⟩
 ·exact h.elim
def stepF:Nat→OP→List A→(Res→OP→Prop)→Prop
 |0,q,[.agg [.ints .i64 4 [2,0,0,0],.gen 1 [.v (.slice none 0 0)],.ints .i64 1 [d],.gen 1 [.v (.slice none 0 0)]]],K=>∃j:Nat,q=wF j∧d=(j:Nat)∧j≤1000∧∀e:Int,e=(if j<60 then 0 else 12)→K (.d (.v (.int .i64 e))) (wF (j+1))
 |_,_,_,_=>False
theorem stepF_ok:∀pos p args K,stepF pos p args K→∃r p',FnB Tryz.prog gTab 12 pos p args r p'∧K r p':=by
 intro pos p args K h
 unfold stepF at h
 split at h
 ·obtain⟨j,rfl,rfl,hj,h⟩:=h
  by_cases hc:j<60
  ·exact⟨_,_,stepW_ok hc,h _ (by rw[if_pos hc])⟩
  ·exact⟨_,_,stepX_ok (by omega) hj,h _ (by rw[if_neg hc])⟩
 ·exact h.elim
def partyF:Nat→OP→List A→(Res→OP→Prop)→Prop
 |0,q,[.v (.int .i64 0)],K=>∃j:Nat,q=wF j∧∀p,p=pF (min j 60)→K (.d (.sref (pSegs p) 0)) (wF j)
 |_,_,_,_=>False
theorem partyF_ok:∀pos p args K,partyF pos p args K→∃r p',FnB Tryz.prog gTab 14 pos p args r p'∧K r p':=by
 intro pos p args K h
 unfold partyF at h
 split at h
 ·obtain⟨j,rfl,h⟩:=h
  exact⟨_,_,wparty_B (i:=0) (by decide) rfl (fn_sref (copy_fn _)),h _ rfl⟩
 ·exact h.elim
def postF:Nat→OP→List A→(Res→OP→Prop)→Prop
 |0,q,[],K=>∃j:Nat,q=wF j∧j≤1000∧∀l,l=rowsW (min j 60)→K (.d (.row (min j 60) [.gen (min j 60) l])) (wF j)
 |_,_,_,_=>False
theorem postF_ok:∀pos p args K,postF pos p args K→∃r p',FnB Tryz.prog gTab 13 pos p args r p'∧K r p':=by
 intro pos p args K h
 unfold postF at h
 split at h
 ·obtain⟨j,rfl,hj,h⟩:=h
  exact⟨_,_,postW_ok hj,h _ rfl⟩
 ·exact h.elim
def stepsF:Nat→OP→List A→(Res→OP→Prop)→Prop
 |0,q,[],K=>∃j:Nat,q=wF j∧j≤1000∧K (.d (.v (.int .i64 (j:Nat)))) (wF j)
 |_,_,_,_=>False
theorem stepsF_ok:∀pos p args K,stepsF pos p args K→∃r p',FnB Tryz.prog gTab 19 pos p args r p'∧K r p':=by
 intro pos p args K h
 unfold stepsF at h
 split at h
 ·obtain⟨j,rfl,hj,h⟩:=h
  exact⟨_,_,wsteps_B (by omega),h⟩
 ·exact h.elim
def knownF:List A→(Res→Prop)→Prop
 |[],K=>K (.d (.v (.bool true)))
 |_,_=>False
theorem knownF_ok:∀args K,knownF args K→∃r,FnO 18 args r∧K r:=by
 intro args K h
 unfold knownF at h
 split at h
 ·exact⟨_,wknown_fn,h⟩
 ·exact h.elim
noncomputable def envWs1:EnvX:=envWr0.add 9 newF newF_ok ⟨_,Tryz.func9,by kernel_rfl,by kernel_rfl⟩
noncomputable def envWs2:EnvX:=envWs1.addB 12 stepF stepF_ok ⟨_,Tryz.func12,by kernel_rfl,by kernel_rfl⟩
noncomputable def envWs3:EnvX:=envWs2.addB 14 partyF partyF_ok ⟨_,Tryz.func14,by kernel_rfl,by kernel_rfl⟩
noncomputable def envWs4:EnvX:=envWs3.addB 13 postF postF_ok ⟨_,Tryz.func13,by kernel_rfl,by kernel_rfl⟩
noncomputable def envWs5:EnvX:=envWs4.addB 19 stepsF stepsF_ok ⟨_,Tryz.func19,by kernel_rfl,by kernel_rfl⟩
noncomputable def envWs6:EnvX:=envWs5.add 18 knownF knownF_ok ⟨_,Tryz.func18,by kernel_rfl,by kernel_rfl⟩
noncomputable def envWs7:EnvX:=envWs6.add 16 (ofP (fun p=>.d (.agg (vSegs p.e p.zs p.ad p.k p.ch))) (.d (.agg vZero))) (ofP_of view0_fn view_fn) ⟨_,Tryz.func16,by kernel_rfl,by kernel_rfl⟩
end
section
open Pm
attribute [local irreducible] condK LoopA regA powI scal mulI isI fourB deriveW numB numsB bodyB nodeW nextW viewHV doR chkV planL sealB boxD keyZ helD commonI placeI apE doP comE comP nextP joinP upW lefW tagE welSegs welF welN createP enterP mayB commitB commitN wsd pF cF rF rowsW wF drawW
set_option maxHeartbeats 4000000 in
theorem worldFull_ok(n:Int):FnO 7 [.v (.int .i64 n)] (.d (.v (.bool true))):=by
 refine fnA (E:=envWs7) Tryz.func7 Tryz.ntmps7 ?_
 by_cases h0:n<0
 ·refine agow ?_;(try exact⟨⟩)
 by_cases h1:n>80
 ·refine agow ?_;(try exact⟨⟩)
 obtain⟨N,rfl⟩:∃N:Nat,n=N:=⟨n.toNat,by omega⟩
 have hN:N≤80:=by omega
 clear h0
 have h0:¬(N:Int)<0:=by omega
 refine agow ?_;(try exact⟨⟩)
 refine StopL.mk (loop_forG [0,3,4] [0] N (fun j=>⟨[.d (.v (.int .i64 (N:Nat))),.dead,.dead,.ob 0,.d (.v (.int .i64 (j:Nat))),.dead,.dead,.dead,.dead,.dead,.dead,.dead,.dead,.dead,.dead,.dead,.dead,.dead,.dead,.dead,.dead,.dead,.dead,.dead,.dead,.dead,.dead,.dead,.dead,.dead,.dead,.dead,.dead,.dead,.dead,.dead,.dead,.dead,.dead,.dead,.dead,.dead,.dead,.dead,.dead,.dead,.dead,.dead,.dead,.dead,.dead,.dead,.dead,.dead,.dead,.dead,.dead,.dead,.dead,.dead,.dead,.dead,.dead,.dead,.dead,.dead,.dead],[some (.abs (wF j))]⟩) ?_)
 intro j hj hl
 by_cases h:j<N
 ·have g1:(j:Int)<N:=by omega
  refine agow ?_;(try exact⟨⟩)
  intro e he
  by_cases h6:j<60
  ·have g2:(j:Int)<60:=by omega
   rw[if_pos h6]at he
   subst he
   refine agow ?_;(try exact⟨⟩)
   refine hl.go h [0,3,4] [0] ?_
   rfl
  ·have g2:¬(j:Int)<60:=by omega
   rw[if_neg h6]at he
   subst he
   refine agow ?_;(try exact⟨⟩)
   refine hl.go h [0,3,4] [0] ?_
   rfl
 ·obtain rfl:N=j:=by omega
  refine agow ?_;(try exact⟨⟩)
  intro p hp
  have he:p.e=(min N 60:Nat):=by rw[hp];exact(pF_own _ (by omega)).2
  clear hp
  have h60:((if(60:Int)<(N:Int)then 60 else(N:Int)):Int)=(min N 60:Nat):=by split<;>omega
  refine agow ?_;(try exact⟨⟩)
  intro l hl2
  clear hl2
  refine agow ?_;(try exact⟨⟩)
theorem worldFull_walk{w:World}(n:Int)(hn:(Lit.int .i64 n).wf=true)(hG:GOK gTab (fun _=>True) w):
  Calls Tryz.prog 7 #[.int .i64 n] w fun e w'=>e=.returned (.bool true)∧Below w.heap.size w w':=
 law_of_fn (worldFull_ok n) hG (.cons (.v _) .nil)
end
end Go.Proofs.YtgnhmfmhbimfkaaGreatDoor
