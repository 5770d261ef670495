/-
  The world's types.
-/
import Derived.Test.YtbdmnobocecnfaaGreatDoorRows
import Derived.Test.YtbdmnobocecnfaaGreatDoorJ10
import Derived.LaidMore
import Derived.LaidHandle
import Derived.Stop.Joined
import Derived.Test.YtbdmnobocecnfaaGreatDoorJ37
import Derived.Test.YtbdmnobocecnfaaGreatDoorJ38
import Derived.WalkSpells
namespace Go.Proofs.YtbdmnobocecnfaaGreatDoor
set_option maxRecDepth 100000
open Go.ChangeShapes Go.WideShapes Go.ChangeAt Go.RowKit
set_option linter.unusedVariables false
def laid2:List (String×DataW Unit):=[("math/bits.deBruijn32tab",Rows.laid_math_bits_deBruijn32tab),("math/bits.deBruijn64tab",Rows.laid_math_bits_deBruijn64tab)]
theorem door_met(os:Os)(args:Array Value):laidMetH Tryz.prog laid2 ((World.doorLaid Tryz.prog 19 os).forCall (fun _ _=>0) ⟨#[],args,[]⟩).memory:=
 laidMetH_of_parts3 (fuel:=8) (laidMet_of_run' 8 (by kernel_rfl) (by kernel_rfl)) (by kernel_rfl) (by kernel_rfl)
theorem arr_bytes{H:Type}{enc:TypeId×Value→H}{P:Program}{w:World}{base:Nat}{sp:Nat→Bool}{held:Bool}{fuel n:Nat}{t e:TypeId}{cs:List Value}{q:List MemPlace}(bs:List UInt8)(ht:P.underlying t=some (.array n e))(he:P.underlying e=some (.int .u8))(h1:P.cellsOf e=1)(hn:P.cellsOf t=n)
  (h:DataW.trod enc P w base sp held fuel t cs=some (.agg (bs.map fun b=>.lit (.int .u8 (Bt b))),q)):cs=HL bs:=by
 obtain⟨xs,m,_,hx,hl,hxl,hel⟩:=DataW.trod_array ht h
 simp only[Prod.mk.injEq,DataW.agg.injEq]at hx
 have hb:xs.map (·.1)=bs.map fun b=>.lit (.int .u8 (Bt b)):=hx.1.symm
 have hlen:bs.length=n:=by have:=congrArg List.length hb;simp at this;omega
 refine List.ext_getElem (by rw[hl,hn];simp[HL,hlen]) fun i h2 h3=>?_
 have hin:i<n:=by rw[hl,hn]at h2;exact h2
 have h4:=hel i hin
 rw[h1,List.getElem?_eq_getElem (by omega)]at h4
 obtain⟨z,e1,e2,_⟩:=DataW.trod_int he h4
 have h5:(xs.map (·.1))[i]'(by simp;omega)=(bs.map fun b=>(DataW.lit (.int .u8 (Bt b)):DataW H))[i]'(by simp;omega):=by simp only[hb]
 simp only[List.getElem_map]at h5
 rw[e2]at h5
 simp only[DataW.lit.injEq,Lit.int.injEq,true_and]at h5
 have h6:cs[i]=.int .u8 z:=by
  have:=congrArg (·[0]?) e1
  simpa[h2]using this
 rw[h6,h5]
 simp[HL]
theorem gNum:Tryz.prog.globalNamed "math/bits.deBruijn64tab"=some 1:=by kernel_rfl
theorem gType:(Tryz.prog.globals[1]?).map (·.type)=some 281:=by kernel_rfl
theorem gok_of_laid{w:World}(h:laidMetH Tryz.prog laid2 w):GOK gTab (fun _=>True) w:=by
 rw[MakeChecks.laidMetH_plain _ _ _ (by kernel_rfl)]at h
 obtain⟨ps,⟨g0,t0,cs0,f0,p0,q0,hg0,ht0,hv0,hd0,⟨g1,t1,cs1,f1,p1,q1,hg1,ht1,hv1,hd1,_,_⟩,_⟩,_,_⟩:=h
 obtain rfl:=Option.some.inj (gNum.symm.trans hg1)
 obtain rfl:=Option.some.inj (gType.symm.trans ht1)
 have hcs:=arr_bytes tab64 Tryz.underlying281 Tryz.underlying5 (by kernel_rfl) (by kernel_rfl) (q:=p1) (by
  refine hd1.trans ?_
  rfl)
 intro q l hq
 unfold gTab at hq
 split at hq
 ·cases hq
  refine⟨cs1.toList,.ofBytes rfl hcs,.inr ⟨_,0,rfl,trivial,?_,fun i hi=>?_⟩⟩
  ·have:=World.var?_cell hg1 hv1 0
   have h0:cs1[0]?≠none:=by
    rw[←Array.getElem?_toList,hcs];simp[HL,tab64]
   cases hc:cs1[0]? with
   |none=>exact absurd hc h0
   |some v=>rw[hc]at this;exact World.block_lt_of_cell? w _ this
  ·have:=World.var?_cell hg1 hv1 i
   rw[Nat.zero_add,this,←Array.getElem?_toList,List.getElem?_eq_getElem hi]
 ·cases hq
end Go.Proofs.YtbdmnobocecnfaaGreatDoor
namespace Go.Proofs.YtbdmnobocecnfaaGreatDoor
set_option linter.unusedVariables false
set_option linter.unusedSimpArgs false
set_option maxRecDepth 100000
open Go.RowKit
section
def nilP(n:Nat):List A:=List.replicate n (.v (.pointer none))
def yTab7(t0:TypeId):Option TI:=
 match t0 with
 |59=>some (tiStruct 21 [.ints .i64 1 [0],.ints .i32 1 [0],.ints .u32 1 [0],.gen 16 (nilP 16),.gen 2 [.v (.slice none 0 0),.v (.slice none 0 0)]] [0,1,3,11,19,20] [45,51,53,55,56,57] 192 false [(0,1),(1,2),(3,8),(11,8),(19,1),(20,1)])
 |22=>some (tiPtr)
 |54=>some (tiPtr)
 |53=>some { tiArr 8 52 1 [.gen 8 (nilP 8)] 64 with eq:=false }
 |55=>some { tiArr 8 54 1 [.gen 8 (nilP 8)] 64 with eq:=false }
 |37=>some (tiStruct 7 [.ints .i64 4 [0,0,0,0],.gen 1 [.v (.slice none 0 0)],.ints .i64 1 [0],.gen 1 [.v (.slice none 0 0)]] [0,1,2,3,4,5,6] [3,3,3,3,32,3,35] 88 false [(0,1),(1,1),(2,1),(3,1),(4,1),(5,1),(6,1)])
 |108=>some (tiStruct 35 [.bytes 32 (List.replicate 32 0),.ints .i64 3 [0,0,0]] [0,32] [28,99] 56 false [(0,32),(32,3)])
 |57=>some (tiSl 108 35)
 |_=>yTab3 t0
set_option maxRecDepth 100000 in
theorem yOK7:∀t i,yTab7 t=some i→TyOK Tryz.prog t i:=by
 intro t i h
 unfold yTab7 at h
 split at h<;>first|(cases h;exact tyB_spec (by kernel_rfl))|exact yOK3 _ _ h
set_option maxRecDepth 100000 in
theorem yEq7:∀t i,yTab7 t=some i→i.eq=true→EqT Tryz.prog t i:=by
 intro t i h
 unfold yTab7 at h
 split at h<;>first|(cases h;intro he;cases he;done)|(cases h;intro _;exact eqB_spec (by kernel_rfl))|exact yEq3 _ _ h
end
section
open Pm
attribute [local irreducible] condK LoopA regA powI scal mulI isI fourB deriveW numB numsB bodyB nodeW nextW viewHV doR chkV planL sealB boxD keyZ helD commonI placeI apE doP comE comP nextP joinP upW lefW tagE welSegs welF welN createP enterP
def comK(p:PS)(n:Nat)(ops:List Int)(m:Nat)(vs:List Int)(d:List UInt8)(K:List A→Prop):Prop:=
 ∀e,e=comE p n ops m vs→StopC (condK (decide (e=0))
  (∀s c q N W,s=doP p p.lf n ops→c=comP p s n ops m vs d→q=nextP p s n ops m vs d→N=welN s.ng 8→W=welF (welSegs q (upW (lefW d)) (joinP p d) (tagE q.ep) d) s.ng 8→K [.agg (cSegs2 c),.recs N 108 W,.sref (pSegs q) 0,.v (.int .i64 0)])
  (K [.agg cZero,.v (.slice none 0 0),.v (.pointer none),.v (.int .i64 e)]))
def comR (p : PS) (n : Nat) (ops : List Int) (m : Nat) (vs : List Int) (d : List UInt8) : List A :=
  if comE p n ops m vs = 0 then [.agg (cSegs2 (comP p (doP p p.lf n ops) n ops m vs d)), .recs (welN (doP p p.lf n ops).ng 8) 108 (welF (welSegs (nextP p (doP p p.lf n ops) n ops m vs d) (upW (lefW d)) (joinP p d) (tagE (nextP p (doP p p.lf n ops) n ops m vs d).ep) d) (doP p p.lf n ops).ng 8), .sref (pSegs (nextP p (doP p p.lf n ops) n ops m vs d)) 0, .v (.int .i64 0)]
        else [.agg cZero, .v (.slice none 0 0), .v (.pointer none), .v (.int .i64 (comE p n ops m vs))]
def commS:List A→(Res→Prop)→Prop
 |[.v (.pointer none),o,v,.agg [.bytes 32 d]],K=>K (.t [.agg cZero,.v (.slice none 0 0),.v (.pointer none),.v (.int .i64 13)])
 |[x,o,v,.agg [.bytes 32 d]],K=>prK x fun p=>leafB p.lf=true∧opsK o fun n ops=>votK v fun m vs=>n≤3000∧m≤3000∧comK p n ops m vs d fun l=>K (.t l)
 |_,_=>False
theorem commS_ok:∀args K,commS args K→∃r,FnO 48 args r∧K r:=by
 intro args K h
 unfold commS at h
 split at h
 ·exact⟨_,commit0_fn _ _ _,h⟩
 ·next o v d _=>
  obtain⟨p,rfl,hf,h⟩:=prK_eq h
  obtain⟨n,ops,_,h,ho⟩:=opsK_spec h
  obtain⟨m,vs,_,⟨hn,hm,h⟩,hv⟩:=votK_spec h
  have h:=(h _ rfl).out
  refine⟨.t (comR p n ops m vs d),fun S w vs' hG ha=>?_,?_⟩
  ·obtain⟨v1,v2,v3,v4,rfl,k1,k2,k3,k4⟩:=ra_four ha
   exact commit_fn p n ops hn m vs hm _ hf S w _ hG (.cons k1 (.cons (ho k2) (.cons (hv k3) (.cons k4 .nil))))
  ·unfold comR
   by_cases he:comE p n ops m vs=0
   ·rw[decide_eq_true he,condK_true]at h
    rw[if_pos he]
    exact h _ _ _ _ _ rfl rfl rfl rfl rfl
   ·rw[decide_eq_false he,condK_false]at h
    rw[if_neg he]
    exact h
 ·exact h.elim
def createE:List A→(Res→Prop)→Prop
 |[.agg [.bytes 32 h]],K=>∀p,p=createP h→K (.d (.sref (pSegs p) 0))
 |_,_=>False
end
section
open Pm
attribute [local irreducible] condK LoopA regA powI scal mulI isI fourB deriveW numB numsB bodyB nodeW nextW viewHV doR chkV planL sealB boxD keyZ helD commonI placeI apE doP comE comP nextP joinP upW lefW tagE welSegs welF createP enterP
end
section
open Pm
theorem wadd_any(a:Addr)(x:Int)(hx:0≤x∧x≤1000000)(w:World)(hc:w.cell? a=some (.int .i64 x))(hz:w.frozen? a=false):
  Calls Tryz.prog 19 #[.pointer (some a),.int .i64 1] w fun e w'=>(∃y,e=.returned y)∧w'=w.setCell a (.int .i64 (x+1)):=by
 have hwr:RowKit.wrap64 (x+1)=x+1:=IntWalk.wrap64_in _ (by omega)
 have hwi:IntKind.i64.wrap (x+1)=x+1:=wrapS (by omega) (by omega)
 clear hx
 have hadd:=run_call_add (P:=Tryz.prog) Tryz.func38 (by kernel_rfl) (by kernel_rfl) (by kernel_rfl) .i64 (by kernel_rfl) (y:=1) (s:=x+1) hc hz (by simp[go_sem,hwr,hwi])
 go_enter Tryz.func19,Tryz.ntmps19
 go_wp2
 go_ret
 exact⟨⟨_,rfl⟩,rfl⟩
end
section
open Pm
def WL(n mu:Int)(ps bs:List Value)(po ap:Value):List Value:=.int .i64 n::.int .i32 mu::.int .u32 0::(ps++(bs++[po,ap]))
theorem WL_mu{n mu:Int}{ps bs:List Value}{po ap:Value}(m:Int):(WL n mu ps bs po ap).toArray.setIfInBounds 1 (.int .i32 m)=(WL n m ps bs po ap).toArray:=by
 rw[List.setIfInBounds_toArray];rfl
theorem WL_n{n mu:Int}{ps bs:List Value}{po ap:Value}(m:Int):(WL n mu ps bs po ap).toArray.setIfInBounds 0 (.int .i64 m)=(WL m mu ps bs po ap).toArray:=by
 rw[List.setIfInBounds_toArray];rfl
theorem WL_p{n mu:Int}{ps bs:List Value}{po ap:Value}{i:Nat}{v:Value}(hi:ps[i]?=some v):(WL n mu ps bs po ap).toArray[3+i]?=some v:=by
 rw[List.getElem?_toArray,show 3+i=i+3 by omega]
 show(ps++(bs++[po,ap]))[i]?=_
 rw[List.getElem?_append_left (List.getElem?_eq_some_iff.1 hi).1]
 exact hi
theorem isPlace_any(i:Int)(w:World):Calls Tryz.prog 20 #[.int .i64 i] w fun e w'=>e=.returned (.bool (decide (0≤i∧i<8)))∧w=w':=by
 by_cases h0:0≤i
 ·by_cases h1:i<8
  ·rw[decide_eq_true ⟨h0,h1⟩]
   have g0:i≥0:=h0
   go_enter Tryz.func20,Tryz.ntmps20
   go_wp2
   go_ret
   exact⟨rfl,rfl⟩
  ·rw[decide_eq_false (fun h=>h1 h.2)]
   have g0:i≥0:=h0
   go_enter Tryz.func20,Tryz.ntmps20
   go_wp2
   go_ret
   exact⟨rfl,rfl⟩
 ·rw[decide_eq_false (fun h=>h0 h.1)]
  have g0:¬i≥0:=h0
  go_enter Tryz.func20,Tryz.ntmps20
  go_wp2
  go_ret
  exact⟨rfl,rfl⟩
theorem isPlace_in{i:Nat}(hi:i<8)(w:World):Calls Tryz.prog 20 #[.int .i64 (i:Nat)] w fun e w'=>e=.returned (.bool true)∧w=w':=
 (isPlace_any _ _).mono fun e w' ⟨h1,h2⟩=>⟨by rw[h1,decide_eq_true (show 0≤(i:Int)∧(i:Int)<8 from⟨by omega,by omega⟩)],h2⟩
set_option maxRecDepth 100000 in
set_option maxHeartbeats 4000000 in
theorem party_walk(w:World)(r:Nat)(t:TypeId)(n:Int)(ps bs:List Value)(po ap:Value)(i:Nat)(hi:i<8)(pv:Value)(hp:ps[i]?=some pv)(hb:Blk w r (WL n 0 ps bs po ap).toArray t)(Q:Value→World→Prop)
  (hcopy:∀w1,Blk w1 r (WL n 1 ps bs po ap).toArray t→w.grownBy w1 (some r)→Calls Tryz.prog 54 #[pv] w1 fun e w2=>∃v,e=.returned v∧Q v w2∧Below w1.heap.size w1 w2):
  Calls Tryz.prog 29 #[.pointer (some ⟨r,0,none⟩),.int .i64 (i:Nat)] w fun e w'=>∃v w2,e=.returned v∧Q v w2∧w'=w2.setCell ⟨r,1,none⟩ (.int .i32 0)∧Blk w2 r (WL n 1 ps bs po ap).toArray t∧w.grownBy w2 (some r):=by
 have hb1:Blk (w.setCell ⟨r,1,none⟩ (.int .i32 1)) r (WL n 1 ps bs po ap).toArray t:=(hb.set 1 _).copy (WL_mu 1)
 have hg1:w.grownBy (w.setCell ⟨r,1,none⟩ (.int .i32 1)) (some r):=grown_setCell (grown_refl w _) 1 _
 have c1:w.cell? ⟨r,1,none⟩=some (.int .i32 0):=(hb.cell 1).trans (by rw[List.getElem?_toArray];rfl)
 have c2:(w.setCell ⟨r,1,none⟩ (.int .i32 1)).cell? ⟨r,3+i,none⟩=some pv:=(hb1.cell (3+i)).trans (WL_p hp)
 have i0:¬(i:Int)<0:=by omega
 have i1:(i:Int)<8:=by omega
 have HB:=Lib.hid hb;have HB1:=Lib.hid hb1;have HG1:=Lib.hid hg1;have C1:=Lib.hid c1;have HC:=Lib.hid hcopy
 clear hb hb1 hg1 hcopy c1 hp
 go_enter_defers Tryz.func29,Tryz.ntmps29
 go_wp2_with (first|(go_at_call 20;refine(isPlace_in hi _).mono ?_;rintro e w' ⟨rfl,rfl⟩)|(go_at_call 21;refine(lock_free ⟨r,1,none⟩ _ C1.out (HB.out.frozen 1)).mono ?_;rintro e w' ⟨rfl,rfl⟩)|(go_at_call 54;refine(HC.out _ HB1.out HG1.out).mono ?_;rintro e w' ⟨v,rfl,hq,hbel⟩))
 have hb2:=HB1.out.keep hbel
 have c3:w'.cell? ⟨r,1,none⟩=some (.int .i32 1):=(hb2.cell 1).trans (by rw[List.getElem?_toArray];rfl)
 have hbw:w.grownBy w' (some r):=grown_below HG1.out hbel
 refine leaves_cons (f:=22) (args:=#[.pointer (some ⟨r,1,none⟩)]) (by simp) (by simp[go_sem]) ?_
 refine(unlock_deferred ⟨r,1,none⟩ _ _ c3 (hb2.frozen 1)).mono ?_
 rintro e u' w4 ⟨rfl,rfl,hw4⟩
 simp[Leaves,settle,results,Tryz.results29]
 exact⟨w',hq,hw4,hb2,hbw⟩
end
section
open Pm
abbrev AC(kd who nn fr:Int)(ops:Value)(dr:Int)(by':Value):Array Value:=#[.int .i64 kd,.int .i64 who,.int .i64 nn,.int .i64 fr,ops,.int .i64 dr,by']
theorem World.alloc_keep{w:World}{o:Obj}{r:Nat}{cs:Array Value}{t:TypeId}(h:Blk w r cs t):Blk (w.alloc o) r cs t:=(Below.heap_alloc _ _ _ h.lt).trans h
set_option maxRecDepth 100000 in
set_option maxHeartbeats 4000000 in
theorem step_commit(w:World)(r:Nat)(t:TypeId)(n:Int)(hn:0≤n∧n≤1000000)(ps bs:List Value)(po ap:Value)(i:Nat)(hi:i<8)(nn fr dr:Int)(ops by':Value)(hb:Blk w r (WL n 0 ps bs po ap).toArray t)(Q:Value→Array Value→World→Prop)
  (hsub:∀w1,Blk w1 r (WL (n+1) 1 ps bs po ap).toArray t→w.grownBy w1 (some r)→Calls Tryz.prog 24 #[.pointer (some ⟨r,0,none⟩),.agg (AC 2 (i:Nat) nn fr ops dr by')] w1 fun e w2=>∃v cs t',e=.returned v∧Q v cs w2∧Blk w2 r cs t'∧cs[1]?=some (.int .i32 1)):
  Calls Tryz.prog 8 #[.pointer (some ⟨r,0,none⟩),.agg (AC 2 (i:Nat) nn fr ops dr by')] w fun e w'=>∃v cs w2 t',e=.returned v∧Q v cs w2∧w'=w2.setCell ⟨r,1,none⟩ (.int .i32 0)∧Blk w2 r cs t':=by
 have b0:Blk (w.alloc (.cells (AC 2 (i:Nat) nn fr ops dr by') 37)) r (WL n 0 ps bs po ap).toArray t:=World.alloc_keep hb
 have a0:Blk (w.alloc (.cells (AC 2 (i:Nat) nn fr ops dr by') 37)) w.heap.size (AC 2 (i:Nat) nn fr ops dr by') 37:=Blk.newAt _ _ rfl
 have g0:w.grownBy (w.alloc (.cells (AC 2 (i:Nat) nn fr ops dr by') 37)) (some r):=⟨rfl,rfl,rfl,by rw[size_alloc];omega,fun k hk _=>Below.heap_alloc _ _ _ hk⟩
 have hne:r≠w.heap.size:=by have:=hb.lt;omega
 have b1:Blk ((w.alloc (.cells (AC 2 (i:Nat) nn fr ops dr by') 37)).setCell ⟨r,0,none⟩ (.int .i64 (n+1))) r (WL (n+1) 0 ps bs po ap).toArray t:=(b0.set 0 _).copy (WL_n _)
 have a1:Blk ((w.alloc (.cells (AC 2 (i:Nat) nn fr ops dr by') 37)).setCell ⟨r,0,none⟩ (.int .i64 (n+1))) w.heap.size (AC 2 (i:Nat) nn fr ops dr by') 37:=a0.other ⟨r,0,none⟩ _ hne.symm
 have g1:w.grownBy ((w.alloc (.cells (AC 2 (i:Nat) nn fr ops dr by') 37)).setCell ⟨r,0,none⟩ (.int .i64 (n+1))) (some r):=grown_setCell g0 0 _
 have b2:Blk (((w.alloc (.cells (AC 2 (i:Nat) nn fr ops dr by') 37)).setCell ⟨r,0,none⟩ (.int .i64 (n+1))).setCell ⟨r,1,none⟩ (.int .i32 1)) r (WL (n+1) 1 ps bs po ap).toArray t:=(b1.set 1 _).copy (WL_mu _)
 have a2:Blk (((w.alloc (.cells (AC 2 (i:Nat) nn fr ops dr by') 37)).setCell ⟨r,0,none⟩ (.int .i64 (n+1))).setCell ⟨r,1,none⟩ (.int .i32 1)) w.heap.size (AC 2 (i:Nat) nn fr ops dr by') 37:=a1.other ⟨r,1,none⟩ _ hne.symm
 have g2:w.grownBy (((w.alloc (.cells (AC 2 (i:Nat) nn fr ops dr by') 37)).setCell ⟨r,0,none⟩ (.int .i64 (n+1))).setCell ⟨r,1,none⟩ (.int .i32 1)) (some r):=grown_setCell g1 1 _
 have c0:(w.alloc (.cells (AC 2 (i:Nat) nn fr ops dr by') 37)).cell? ⟨r,0,none⟩=some (.int .i64 n):=(b0.cell 0).trans (by rw[List.getElem?_toArray];rfl)
 have c1:((w.alloc (.cells (AC 2 (i:Nat) nn fr ops dr by') 37)).setCell ⟨r,0,none⟩ (.int .i64 (n+1))).cell? ⟨r,1,none⟩=some (.int .i32 0):=(b1.cell 1).trans (by rw[List.getElem?_toArray];rfl)
 have k1:((w.alloc (.cells (AC 2 (i:Nat) nn fr ops dr by') 37)).setCell ⟨r,0,none⟩ (.int .i64 (n+1))).cell? ⟨w.heap.size,1,none⟩=some (.int .i64 (i:Nat)):=a1.cell 1
 have k2:(((w.alloc (.cells (AC 2 (i:Nat) nn fr ops dr by') 37)).setCell ⟨r,0,none⟩ (.int .i64 (n+1))).setCell ⟨r,1,none⟩ (.int .i32 1)).cell? ⟨w.heap.size,0,none⟩=some (.int .i64 2):=a2.cell 0
 have HS:=Lib.hid hsub;have HN:=Lib.hid hn;have B0:=Lib.hid b0;have B1:=Lib.hid b1;have B2:=Lib.hid b2;have A2:=Lib.hid a2;have G2:=Lib.hid g2;have C0:=Lib.hid c0;have C1:=Lib.hid c1
 clear hb hsub hn b0 a0 g0 b1 a1 g1 b2 a2 g2 c0 c1
 go_enter_defers Tryz.func8,Tryz.ntmps8
 go_wp2_with (first|(go_at_call 19;refine(wadd_any ⟨r,0,none⟩ n HN.out _ C0.out (B0.out.frozen 0)).mono ?_;rintro e w' ⟨⟨y,rfl⟩,rfl⟩)|(go_at_call 20;refine(isPlace_in hi _).mono ?_;rintro e w' ⟨rfl,rfl⟩)|(go_at_call 21;refine(lock_free ⟨r,1,none⟩ _ C1.out (B1.out.frozen 1)).mono ?_;rintro e w' ⟨rfl,rfl⟩)|(go_at_call 24;refine(HS.out _ B2.out G2.out).mono ?_;rintro e w' ⟨v,cs,t',rfl,hq,hb3,hc3⟩))
 refine leaves_cons (f:=22) (args:=#[.pointer (some ⟨r,1,none⟩)]) (by simp) (by simp[go_sem]) ?_
 refine(unlock_deferred ⟨r,1,none⟩ _ _ ((hb3.cell 1).trans hc3) (hb3.frozen 1)).mono ?_
 rintro e u' w4 ⟨rfl,rfl,hw4⟩
 simp[Leaves,settle,results,Tryz.results8]
 exact⟨cs,w',hq,hw4,t',hb3⟩
end
section
open Pm
set_option maxRecDepth 100000 in
set_option maxHeartbeats 4000000 in
theorem step_vote(w:World)(r:Nat)(t:TypeId)(n:Int)(hn:0≤n∧n≤1000000)(ps bs:List Value)(po ap:Value)(i:Nat)(hi:i<8)(nn fr dr:Int)(ops by':Value)(hb:Blk w r (WL n 0 ps bs po ap).toArray t)(Q:Value→Array Value→World→Prop)
  (hsub:∀w1,Blk w1 r (WL (n+1) 1 ps bs po ap).toArray t→w.grownBy w1 (some r)→Calls Tryz.prog 23 #[.pointer (some ⟨r,0,none⟩),.agg (AC 1 (i:Nat) nn fr ops dr by')] w1 fun e w2=>∃v cs t',e=.returned v∧Q v cs w2∧Blk w2 r cs t'∧cs[1]?=some (.int .i32 1)):
  Calls Tryz.prog 8 #[.pointer (some ⟨r,0,none⟩),.agg (AC 1 (i:Nat) nn fr ops dr by')] w fun e w'=>∃v cs w2 t',e=.returned v∧Q v cs w2∧w'=w2.setCell ⟨r,1,none⟩ (.int .i32 0)∧Blk w2 r cs t':=by
 have b0:Blk (w.alloc (.cells (AC 1 (i:Nat) nn fr ops dr by') 37)) r (WL n 0 ps bs po ap).toArray t:=World.alloc_keep hb
 have a0:Blk (w.alloc (.cells (AC 1 (i:Nat) nn fr ops dr by') 37)) w.heap.size (AC 1 (i:Nat) nn fr ops dr by') 37:=Blk.newAt _ _ rfl
 have g0:w.grownBy (w.alloc (.cells (AC 1 (i:Nat) nn fr ops dr by') 37)) (some r):=⟨rfl,rfl,rfl,by rw[size_alloc];omega,fun k hk _=>Below.heap_alloc _ _ _ hk⟩
 have hne:r≠w.heap.size:=by have:=hb.lt;omega
 have b1:Blk ((w.alloc (.cells (AC 1 (i:Nat) nn fr ops dr by') 37)).setCell ⟨r,0,none⟩ (.int .i64 (n+1))) r (WL (n+1) 0 ps bs po ap).toArray t:=(b0.set 0 _).copy (WL_n _)
 have a1:Blk ((w.alloc (.cells (AC 1 (i:Nat) nn fr ops dr by') 37)).setCell ⟨r,0,none⟩ (.int .i64 (n+1))) w.heap.size (AC 1 (i:Nat) nn fr ops dr by') 37:=a0.other ⟨r,0,none⟩ _ hne.symm
 have g1:w.grownBy ((w.alloc (.cells (AC 1 (i:Nat) nn fr ops dr by') 37)).setCell ⟨r,0,none⟩ (.int .i64 (n+1))) (some r):=grown_setCell g0 0 _
 have b2:Blk (((w.alloc (.cells (AC 1 (i:Nat) nn fr ops dr by') 37)).setCell ⟨r,0,none⟩ (.int .i64 (n+1))).setCell ⟨r,1,none⟩ (.int .i32 1)) r (WL (n+1) 1 ps bs po ap).toArray t:=(b1.set 1 _).copy (WL_mu _)
 have a2:Blk (((w.alloc (.cells (AC 1 (i:Nat) nn fr ops dr by') 37)).setCell ⟨r,0,none⟩ (.int .i64 (n+1))).setCell ⟨r,1,none⟩ (.int .i32 1)) w.heap.size (AC 1 (i:Nat) nn fr ops dr by') 37:=a1.other ⟨r,1,none⟩ _ hne.symm
 have g2:w.grownBy (((w.alloc (.cells (AC 1 (i:Nat) nn fr ops dr by') 37)).setCell ⟨r,0,none⟩ (.int .i64 (n+1))).setCell ⟨r,1,none⟩ (.int .i32 1)) (some r):=grown_setCell g1 1 _
 have c0:(w.alloc (.cells (AC 1 (i:Nat) nn fr ops dr by') 37)).cell? ⟨r,0,none⟩=some (.int .i64 n):=(b0.cell 0).trans (by rw[List.getElem?_toArray];rfl)
 have c1:((w.alloc (.cells (AC 1 (i:Nat) nn fr ops dr by') 37)).setCell ⟨r,0,none⟩ (.int .i64 (n+1))).cell? ⟨r,1,none⟩=some (.int .i32 0):=(b1.cell 1).trans (by rw[List.getElem?_toArray];rfl)
 have k1:((w.alloc (.cells (AC 1 (i:Nat) nn fr ops dr by') 37)).setCell ⟨r,0,none⟩ (.int .i64 (n+1))).cell? ⟨w.heap.size,1,none⟩=some (.int .i64 (i:Nat)):=a1.cell 1
 have k2:(((w.alloc (.cells (AC 1 (i:Nat) nn fr ops dr by') 37)).setCell ⟨r,0,none⟩ (.int .i64 (n+1))).setCell ⟨r,1,none⟩ (.int .i32 1)).cell? ⟨w.heap.size,0,none⟩=some (.int .i64 1):=a2.cell 0
 have HS:=Lib.hid hsub;have HN:=Lib.hid hn;have B0:=Lib.hid b0;have B1:=Lib.hid b1;have B2:=Lib.hid b2;have A2:=Lib.hid a2;have G2:=Lib.hid g2;have C0:=Lib.hid c0;have C1:=Lib.hid c1
 clear hb hsub hn b0 a0 g0 b1 a1 g1 b2 a2 g2 c0 c1
 go_enter_defers Tryz.func8,Tryz.ntmps8
 go_wp2_with (first|(go_at_call 19;refine(wadd_any ⟨r,0,none⟩ n HN.out _ C0.out (B0.out.frozen 0)).mono ?_;rintro e w' ⟨⟨y,rfl⟩,rfl⟩)|(go_at_call 20;refine(isPlace_in hi _).mono ?_;rintro e w' ⟨rfl,rfl⟩)|(go_at_call 21;refine(lock_free ⟨r,1,none⟩ _ C1.out (B1.out.frozen 1)).mono ?_;rintro e w' ⟨rfl,rfl⟩)|(go_at_call 23;refine(HS.out _ B2.out G2.out).mono ?_;rintro e w' ⟨v,cs,t',rfl,hq,hb3,hc3⟩))
 refine leaves_cons (f:=22) (args:=#[.pointer (some ⟨r,1,none⟩)]) (by simp) (by simp[go_sem]) ?_
 refine(unlock_deferred ⟨r,1,none⟩ _ _ ((hb3.cell 1).trans hc3) (hb3.frozen 1)).mono ?_
 rintro e u' w4 ⟨rfl,rfl,hw4⟩
 simp[Leaves,settle,results,Tryz.results8]
 exact⟨cs,w',hq,hw4,t',hb3⟩
set_option maxRecDepth 100000 in
set_option maxHeartbeats 4000000 in
theorem step_crash(w:World)(r:Nat)(t:TypeId)(n:Int)(hn:0≤n∧n≤1000000)(ps bs:List Value)(po ap:Value)(i:Nat)(hi:i<8)(nn fr dr:Int)(ops by':Value)(hb:Blk w r (WL n 0 ps bs po ap).toArray t)(Q:Array Value→World→Prop)
  (hsub:∀w1,Blk w1 r (WL (n+1) 1 ps bs po ap).toArray t→w.grownBy w1 (some r)→Calls Tryz.prog 27 #[.pointer (some ⟨r,0,none⟩),.int .i64 (i:Nat),.int .i64 nn] w1 fun e w2=>∃cs,e=.returned (.tuple #[])∧Q cs w2∧Blk w2 r cs t∧cs[1]?=some (.int .i32 1)):
  Calls Tryz.prog 8 #[.pointer (some ⟨r,0,none⟩),.agg (AC 5 (i:Nat) nn fr ops dr by')] w fun e w'=>∃cs w2,e=.returned (.int .i64 0)∧Q cs w2∧w'=w2.setCell ⟨r,1,none⟩ (.int .i32 0)∧Blk w2 r cs t:=by
 have b0:Blk (w.alloc (.cells (AC 5 (i:Nat) nn fr ops dr by') 37)) r (WL n 0 ps bs po ap).toArray t:=World.alloc_keep hb
 have a0:Blk (w.alloc (.cells (AC 5 (i:Nat) nn fr ops dr by') 37)) w.heap.size (AC 5 (i:Nat) nn fr ops dr by') 37:=Blk.newAt _ _ rfl
 have g0:w.grownBy (w.alloc (.cells (AC 5 (i:Nat) nn fr ops dr by') 37)) (some r):=⟨rfl,rfl,rfl,by rw[size_alloc];omega,fun k hk _=>Below.heap_alloc _ _ _ hk⟩
 have hne:r≠w.heap.size:=by have:=hb.lt;omega
 have b1:Blk ((w.alloc (.cells (AC 5 (i:Nat) nn fr ops dr by') 37)).setCell ⟨r,0,none⟩ (.int .i64 (n+1))) r (WL (n+1) 0 ps bs po ap).toArray t:=(b0.set 0 _).copy (WL_n _)
 have a1:Blk ((w.alloc (.cells (AC 5 (i:Nat) nn fr ops dr by') 37)).setCell ⟨r,0,none⟩ (.int .i64 (n+1))) w.heap.size (AC 5 (i:Nat) nn fr ops dr by') 37:=a0.other ⟨r,0,none⟩ _ hne.symm
 have g1:w.grownBy ((w.alloc (.cells (AC 5 (i:Nat) nn fr ops dr by') 37)).setCell ⟨r,0,none⟩ (.int .i64 (n+1))) (some r):=grown_setCell g0 0 _
 have b2:Blk (((w.alloc (.cells (AC 5 (i:Nat) nn fr ops dr by') 37)).setCell ⟨r,0,none⟩ (.int .i64 (n+1))).setCell ⟨r,1,none⟩ (.int .i32 1)) r (WL (n+1) 1 ps bs po ap).toArray t:=(b1.set 1 _).copy (WL_mu _)
 have a2:Blk (((w.alloc (.cells (AC 5 (i:Nat) nn fr ops dr by') 37)).setCell ⟨r,0,none⟩ (.int .i64 (n+1))).setCell ⟨r,1,none⟩ (.int .i32 1)) w.heap.size (AC 5 (i:Nat) nn fr ops dr by') 37:=a1.other ⟨r,1,none⟩ _ hne.symm
 have g2:w.grownBy (((w.alloc (.cells (AC 5 (i:Nat) nn fr ops dr by') 37)).setCell ⟨r,0,none⟩ (.int .i64 (n+1))).setCell ⟨r,1,none⟩ (.int .i32 1)) (some r):=grown_setCell g1 1 _
 have c0:(w.alloc (.cells (AC 5 (i:Nat) nn fr ops dr by') 37)).cell? ⟨r,0,none⟩=some (.int .i64 n):=(b0.cell 0).trans (by rw[List.getElem?_toArray];rfl)
 have c1:((w.alloc (.cells (AC 5 (i:Nat) nn fr ops dr by') 37)).setCell ⟨r,0,none⟩ (.int .i64 (n+1))).cell? ⟨r,1,none⟩=some (.int .i32 0):=(b1.cell 1).trans (by rw[List.getElem?_toArray];rfl)
 have k1:((w.alloc (.cells (AC 5 (i:Nat) nn fr ops dr by') 37)).setCell ⟨r,0,none⟩ (.int .i64 (n+1))).cell? ⟨w.heap.size,1,none⟩=some (.int .i64 (i:Nat)):=a1.cell 1
 have k2:(((w.alloc (.cells (AC 5 (i:Nat) nn fr ops dr by') 37)).setCell ⟨r,0,none⟩ (.int .i64 (n+1))).setCell ⟨r,1,none⟩ (.int .i32 1)).cell? ⟨w.heap.size,0,none⟩=some (.int .i64 5):=a2.cell 0
 have k3:(((w.alloc (.cells (AC 5 (i:Nat) nn fr ops dr by') 37)).setCell ⟨r,0,none⟩ (.int .i64 (n+1))).setCell ⟨r,1,none⟩ (.int .i32 1)).cell? ⟨w.heap.size,1,none⟩=some (.int .i64 (i:Nat)):=a2.cell 1
 have k4:(((w.alloc (.cells (AC 5 (i:Nat) nn fr ops dr by') 37)).setCell ⟨r,0,none⟩ (.int .i64 (n+1))).setCell ⟨r,1,none⟩ (.int .i32 1)).cell? ⟨w.heap.size,2,none⟩=some (.int .i64 nn):=a2.cell 2
 have HS:=Lib.hid hsub;have HN:=Lib.hid hn;have B0:=Lib.hid b0;have B1:=Lib.hid b1;have B2:=Lib.hid b2;have A2:=Lib.hid a2;have G2:=Lib.hid g2;have C0:=Lib.hid c0;have C1:=Lib.hid c1
 clear hb hsub hn b0 a0 g0 b1 a1 g1 b2 a2 g2 c0 c1
 go_enter_defers Tryz.func8,Tryz.ntmps8
 go_wp2_with (first|(go_at_call 19;refine(wadd_any ⟨r,0,none⟩ n HN.out _ C0.out (B0.out.frozen 0)).mono ?_;rintro e w' ⟨⟨y,rfl⟩,rfl⟩)|(go_at_call 20;refine(isPlace_in hi _).mono ?_;rintro e w' ⟨rfl,rfl⟩)|(go_at_call 21;refine(lock_free ⟨r,1,none⟩ _ C1.out (B1.out.frozen 1)).mono ?_;rintro e w' ⟨rfl,rfl⟩)|(go_at_call 27;refine(HS.out _ B2.out G2.out).mono ?_;rintro e w' ⟨cs,rfl,hq,hb3,hc3⟩))
 refine leaves_cons (f:=22) (args:=#[.pointer (some ⟨r,1,none⟩)]) (by simp) (by simp[go_sem]) ?_
 refine(unlock_deferred ⟨r,1,none⟩ _ _ ((hb3.cell 1).trans hc3) (hb3.frozen 1)).mono ?_
 rintro e u' w4 ⟨rfl,rfl,hw4⟩
 simp[Leaves,settle,results,Tryz.results8]
 exact⟨cs,w',hq,hw4,hb3⟩
set_option maxRecDepth 100000 in
set_option maxHeartbeats 4000000 in
theorem step_odd(w:World)(r:Nat)(t:TypeId)(n:Int)(hn:0≤n∧n≤1000000)(ps bs:List Value)(po ap:Value)(i:Nat)(hi:i<8)(kd nn fr dr:Int)(d1:(kd==1)=false)(d2:(kd==2)=false)(d3:(kd==3)=false)(d4:(kd==4)=false)(d5:(kd==5)=false)(ops by':Value)(hb:Blk w r (WL n 0 ps bs po ap).toArray t):
  Calls Tryz.prog 8 #[.pointer (some ⟨r,0,none⟩),.agg (AC kd (i:Nat) nn fr ops dr by')] w fun e w'=>e=.returned (.int .i64 1)∧Blk w' r (WL (n+1) 0 ps bs po ap).toArray t∧w.grownBy w' (some r):=by
 have b0:Blk (w.alloc (.cells (AC kd (i:Nat) nn fr ops dr by') 37)) r (WL n 0 ps bs po ap).toArray t:=World.alloc_keep hb
 have a0:Blk (w.alloc (.cells (AC kd (i:Nat) nn fr ops dr by') 37)) w.heap.size (AC kd (i:Nat) nn fr ops dr by') 37:=Blk.newAt _ _ rfl
 have g0:w.grownBy (w.alloc (.cells (AC kd (i:Nat) nn fr ops dr by') 37)) (some r):=⟨rfl,rfl,rfl,by rw[size_alloc];omega,fun k hk _=>Below.heap_alloc _ _ _ hk⟩
 have hne:r≠w.heap.size:=by have:=hb.lt;omega
 have b1:Blk ((w.alloc (.cells (AC kd (i:Nat) nn fr ops dr by') 37)).setCell ⟨r,0,none⟩ (.int .i64 (n+1))) r (WL (n+1) 0 ps bs po ap).toArray t:=(b0.set 0 _).copy (WL_n _)
 have a1:Blk ((w.alloc (.cells (AC kd (i:Nat) nn fr ops dr by') 37)).setCell ⟨r,0,none⟩ (.int .i64 (n+1))) w.heap.size (AC kd (i:Nat) nn fr ops dr by') 37:=a0.other ⟨r,0,none⟩ _ hne.symm
 have g1:w.grownBy ((w.alloc (.cells (AC kd (i:Nat) nn fr ops dr by') 37)).setCell ⟨r,0,none⟩ (.int .i64 (n+1))) (some r):=grown_setCell g0 0 _
 have b2:Blk (((w.alloc (.cells (AC kd (i:Nat) nn fr ops dr by') 37)).setCell ⟨r,0,none⟩ (.int .i64 (n+1))).setCell ⟨r,1,none⟩ (.int .i32 1)) r (WL (n+1) 1 ps bs po ap).toArray t:=(b1.set 1 _).copy (WL_mu _)
 have a2:Blk (((w.alloc (.cells (AC kd (i:Nat) nn fr ops dr by') 37)).setCell ⟨r,0,none⟩ (.int .i64 (n+1))).setCell ⟨r,1,none⟩ (.int .i32 1)) w.heap.size (AC kd (i:Nat) nn fr ops dr by') 37:=a1.other ⟨r,1,none⟩ _ hne.symm
 have g2:w.grownBy (((w.alloc (.cells (AC kd (i:Nat) nn fr ops dr by') 37)).setCell ⟨r,0,none⟩ (.int .i64 (n+1))).setCell ⟨r,1,none⟩ (.int .i32 1)) (some r):=grown_setCell g1 1 _
 have c0:(w.alloc (.cells (AC kd (i:Nat) nn fr ops dr by') 37)).cell? ⟨r,0,none⟩=some (.int .i64 n):=(b0.cell 0).trans (by rw[List.getElem?_toArray];rfl)
 have c1:((w.alloc (.cells (AC kd (i:Nat) nn fr ops dr by') 37)).setCell ⟨r,0,none⟩ (.int .i64 (n+1))).cell? ⟨r,1,none⟩=some (.int .i32 0):=(b1.cell 1).trans (by rw[List.getElem?_toArray];rfl)
 have k1:((w.alloc (.cells (AC kd (i:Nat) nn fr ops dr by') 37)).setCell ⟨r,0,none⟩ (.int .i64 (n+1))).cell? ⟨w.heap.size,1,none⟩=some (.int .i64 (i:Nat)):=a1.cell 1
 have k2:(((w.alloc (.cells (AC kd (i:Nat) nn fr ops dr by') 37)).setCell ⟨r,0,none⟩ (.int .i64 (n+1))).setCell ⟨r,1,none⟩ (.int .i32 1)).cell? ⟨w.heap.size,0,none⟩=some (.int .i64 kd):=a2.cell 0
 have HN:=Lib.hid hn;have B0:=Lib.hid b0;have B1:=Lib.hid b1;have B2:=Lib.hid b2;have A2:=Lib.hid a2;have G2:=Lib.hid g2;have C0:=Lib.hid c0;have C1:=Lib.hid c1
 clear hb hn b0 a0 g0 b1 a1 g1 b2 a2 g2 c0 c1
 go_enter_defers Tryz.func8,Tryz.ntmps8
 go_wp2_with (first|(go_at_call 19;refine(wadd_any ⟨r,0,none⟩ n HN.out _ C0.out (B0.out.frozen 0)).mono ?_;rintro e w' ⟨⟨y,rfl⟩,rfl⟩)|(go_at_call 20;refine(isPlace_in hi _).mono ?_;rintro e w' ⟨rfl,rfl⟩)|(go_at_call 21;refine(lock_free ⟨r,1,none⟩ _ C1.out (B1.out.frozen 1)).mono ?_;rintro e w' ⟨rfl,rfl⟩))
 refine leaves_cons (f:=22) (args:=#[.pointer (some ⟨r,1,none⟩)]) (by simp) (by simp[go_sem]) ?_
 refine(unlock_deferred ⟨r,1,none⟩ _ _ ((B2.out.cell 1).trans (by rw[List.getElem?_toArray];rfl)) (B2.out.frozen 1)).mono ?_
 rintro e u' w4 ⟨rfl,rfl,hw4⟩
 simp[Leaves,settle,results,Tryz.results8]
 exact⟨by rw[hw4];exact(B2.out.set 1 _).copy (WL_mu _),by rw[hw4];exact grown_setCell G2.out 1 _⟩
end
section
open Pm
attribute [local irreducible] condK LoopA regA deriveW numB numsB
def wsd(i:Int):List UInt8:=deriveW (zB 32) (sb ⟨#[115,101,101,100]⟩) (numB i)
set_option maxHeartbeats 4000000 in
theorem wseed_fn(i:Int):FnO 13 [.v (.int .i64 i)] (.d (.agg [.bytes 32 (wsd i)])):=by
 refine fnA (E:=envK3) Tryz.func13 Tryz.ntmps13 ?_
 refine agow ?_;(try exact⟨⟩)
 rfl
theorem rwseed_fn(i:Int):FnO 7 [.v (.int .i64 i)] (.d (.agg [.bytes 32 (wsd i)])):=by
 refine fnA (E:=envK4) Tryz.func7 Tryz.ntmps7 ?_
 have hl:(numB i).length≤100000000:=by rw[numB_length];decide
 refine agow ?_;(try exact⟨⟩)
 rfl
def wseedS:List A→(Res→Prop)→Prop
 |[.v (.int .i64 i)],K=>∀h,h=wsd i→K (.d (.agg [.bytes 32 h]))
 |_,_=>False
theorem wseedS_of{f:FuncId}(hf:∀i,FnO f [.v (.int .i64 i)] (.d (.agg [.bytes 32 (wsd i)]))):∀args K,wseedS args K→∃r,FnO f args r∧K r:=by
 intro args K h
 unfold wseedS at h
 split at h
 ·exact⟨_,hf _,h _ rfl⟩
 ·exact h.elim
end
section
open Pm
theorem RG.two{S:Nat→Prop}{w:World}:∀{l:List A} {cs:List Value},RG S w l cs→l.length=cs.length
 |_,_,.nil=>rfl
 |_,_,.cons _ _ r=>by rw[List.length_cons,List.length_cons,r.two]
theorem RG.at'{S:Nat→Prop}{w:World}:∀{l:List A} {cs:List Value},RG S w l cs→∀(i:Nat) (a:A),l[i]?=some a→∃v,cs[i]?=some v∧RA S w a v
 |_,_,.nil,i,a,e=>by cases e
 |_,_,.cons h1 _ r,0,a,e=>by cases e;exact⟨_,rfl,h1⟩
 |_,_,.cons _ _ r,i+1,a,e=>r.at' i a e
end
section
theorem wp_guard(P:Program)(o:Oper)(g:Option (Nat×Bool))(a:Act)(w:World)(n:Act→World→Prop)(Q:Exit→Act→World→Prop):Oper.wp P { o with guard:=g } a w n Q=Oper.wp P o a w n Q:=by
 cases o
 unfold Oper.wp Oper.upon execOp
 rfl
theorem opok_guard{E:EnvX}{o:Oper}{g:Option (Nat×Bool)}{s:St}{fr:Nat}{t:T}{blk:Option (Nat×Bk)}(h:OpOK E { o with guard:=g } s fr t blk):OpOK E o s fr t blk:=
 ⟨h.1,h.2.1,fun S base w0 s' ρ a w K Q h1 h2 h3 h4 h5=>(wp_guard E.P o g a w K Q)▸h.2.2 S base w0 s' ρ a w K Q h1 h2 h3 h4 h5⟩
theorem GL.guard{E:EnvX}{ops r:List Oper}{o:Oper}{s:St}{k:St→Prop}(j d:Nat)(hg:o.guard=some (j,true))(hd:(ops[j]?).bind (·.dst)=some d)(hs:s.sl d=.d (.v (.bool true)))
  (h:Stop (regA E ops [{ o with guard:=none }] s fun s'=>GL E ops r s' k)):GL E ops (o::r) s k:=by
 refine⟨fun S base w0 ρ a w g=>?_⟩
 have hw:Wants ops o s true:=by unfold Wants;rw[hg];exact⟨d,_,hd,hs,by simp[boolOf]⟩
 rcases mutK_sound h.out with⟨_,hm⟩|h
 ·unfold wpList
  rw[hw.real g (fun _ _ _ _ _=>rfl),if_pos rfl]
  refine .inl (wp_guard E.P o none a w _ _▸hm S base w0 ρ a w _ _ g fun s' a' w' ρ' hk g'=>?_)
  have hk':GL E ops r s' k:=hk.out
  exact hk'.out S base w0 ρ' a' w' g'
 ·obtain⟨t,blk,hk,hs⟩:=stepK_sound h
  have hk':GL E ops r (s.app2 o.dst t blk) k:=hk.out
  have hs':StepOK E ops o s s.h.length t blk:=by
   rcases hs with⟨_,ho⟩|⟨hf,_⟩
   ·exact .inl ⟨hw,opok_guard ho⟩
   ·exact absurd hf (by unfold Wants;simp)
  unfold wpList
  refine hs'.run (s':=⟨s.t,s.h++List.replicate 1 none⟩) (ρ:=ρ) (a:=a) (w:=w) (fun x hx=>⟨by cases x<;>rfl,fun b _=>bk_more s 1 b⟩) (fun _ _ _ _ _=>rfl) (g.sim (Sim.more s 1)) ?_ (by simp) fun a' w' ρ' g'=>?_
  ·rw[bk_more]
   unfold St.bk
   rw[List.getD_eq_getElem?_getD,List.getElem?_eq_none (Nat.le_refl _)];rfl
  ·exact hk'.out _ _ _ _ _ _ (g'.simBack app2_sim)
end
section
structure GX(E:EnvX)(S:Nat→Prop)(base:Nat)(w0:W0 E.G)(c:Code)(s:St)(Q:Exit→Act→World→Prop):Prop where
 out:∀(ρ:Nat→Option Value) (a:Act) (w:World),Good S base w0 s ρ a w→c.wp E.P Q a w
structure GXL(E:EnvX)(S:Nat→Prop)(base:Nat)(w0:W0 E.G)(ops l:List Oper)(s:St)(K:Act→World→Prop):Prop where
 out:∀(ρ:Nat→Option Value) (a:Act) (w:World),Good S base w0 s ρ a w→wpList E.P ops.toArray (fun e a' w'=>e=.normal∧K a' w') l a w
structure GQ(E:EnvX)(S:Nat→Prop)(base:Nat)(w0:W0 E.G)(s:St)(K:Act→World→Prop):Prop where
 out:∀(ρ:Nat→Option Value) (a:Act) (w:World),Good S base w0 s ρ a w→K a w
section
variable {E : EnvX} {S : Nat → Prop} {base : Nat} {w0 : W0 E.G} {s : St}
theorem GX.of{c:Code}{Q:Exit→Act→World→Prop}(h:wpA E c s fun e s'=>GQ E S base w0 s' (Q e)):GX E S base w0 c s Q:=by
 refine⟨fun ρ a w g=>wp_mono (wpA_sound c h g) ?_⟩
 rintro e a' w' ⟨s',ρ',h1,h2⟩
 exact h1.out _ _ _ h2
theorem GX.seq{x y:Code}{Q:Exit→Act→World→Prop}(h:wpA E x s fun e s'=>match e with| .normal=>GX E S base w0 y s' Q|e=>GQ E S base w0 s' (Q e)):GX E S base w0 (.seq x y) s Q:=by
 refine⟨fun ρ a w g=>wp_seq (wp_mono (wpA_sound x h g) ?_)⟩
 rintro e a' w' ⟨s',ρ',h1,h2⟩
 cases e with
 |normal=>exact GX.out h1 _ _ _ h2
 |_=>exact GQ.out h1 _ _ _ h2
theorem GX.seqH{x y:Code}{Q:Exit→Act→World→Prop}(h:∀y',y'=y→wpA E x s fun e s'=>match e with| .normal=>GX E S base w0 y' s' Q|e=>GQ E S base w0 s' (Q e)):GX E S base w0 (.seq x y) s Q:=.seq (h y rfl)
theorem GX.region{id:Nat}{ops:Array Oper}{y:Code}{Q:Exit→Act→World→Prop}(h:GXL E S base w0 ops.toList ops.toList s (fun a w=>y.wp E.P Q a w)):GX E S base w0 (.seq (.region id ops false) y) s Q:=by
 refine⟨fun ρ a w g=>wp_seq (wp_mono (wp_region_list (by have:=h.out ρ a w g;rwa [Array.toArray_toList]at this)) ?_)⟩
 rintro e a' w' ⟨rfl,hk⟩
 exact hk
theorem GXL.preN(n:Nat){ops l:List Oper}{K:Act→World→Prop}(h:Stop (regA E ops (l.take n) s fun s'=>GXL E S base w0 ops (l.drop n) s' K)):GXL E S base w0 ops l s K:=by
 refine⟨fun ρ a w g=>?_⟩
 have:=preA (r:=l.drop n) (fun s ρ a w hj g=>GXL.out hj ρ a w g) h.out g
 rwa [List.take_append_drop]at this
theorem GXL.last{ops l:List Oper}{y:Code}{Q:Exit→Act→World→Prop}(h:Stop (regA E ops l s fun s'=>GX E S base w0 y s' Q)):GXL E S base w0 ops l s (fun a w=>y.wp E.P Q a w):=by
 refine⟨fun ρ a w g=>?_⟩
 have:=preA (r:=[]) (Q:=fun e a' w'=>e=.normal∧y.wp E.P Q a' w') (fun s ρ a w hj g=>⟨rfl,GX.out hj ρ a w g⟩) h.out g
 rwa [List.append_nil]at this
theorem GXL.hand{ops r:List Oper}{o:Oper}{K:Act→World→Prop}(hg:o.guard=none)
  (h:∀(ρ:Nat→Option Value) (a:Act) (w:World) (next:Act→World→Prop) (Q0:Exit→Act→World→Prop),Good S base w0 s ρ a w→
   (∀(S':Nat→Prop) (base':Nat) (w0':W0 E.G) (s':St) (ρ':Nat→Option Value) (a':Act) (w':World),Good S' base' w0' s' ρ' a' w'→GXL E S' base' w0' ops r s' K→next a' w')→o.wp E.P a w next Q0):GXL E S base w0 ops (o::r) s K:=by
 refine⟨fun ρ a w g=>?_⟩
 unfold wpList
 rw[show Region.wanted o (yielded ops.toArray a.tmps)=true by unfold Region.wanted;rw[hg],if_pos rfl]
 exact .inl (h ρ a w _ _ g fun S' base' w0' s' ρ' a' w' g' hl=>hl.out ρ' a' w' g')
theorem Good.rebase{ρ:Nat→Option Value}{a:Act}{w w':World}(g:Good S base w0 s ρ a w)(hs:∀b x,s.bk b=some x→∃l,x=.var l)(X:Nat→Prop)(hw:GrownX X w w')(hX:∀q,X q→¬Dt S base ρ q∧∀b u,ρ b=some u→¬Rl u q):
  Good (fun z=>Dt S base ρ z∧z<w.heap.size) w'.heap.size (⟨w',fun q=>∃b u,ρ b=some u∧Rl u q,w0.pin,w0.defs⟩:W0 E.G) s ρ a w':=by
 have K:Keeps (Dt S base ρ) w (Dt (fun z=>Dt S base ρ z∧z<w.heap.size) w'.heap.size ρ) w':=⟨hw.size,fun r hr hd=>⟨⟨.inl ⟨hd,hr⟩,hd.2⟩,fun o=>World.cell?_of_block (hw.block r hr fun e=>(hX r e).1 hd)⟩⟩
 refine⟨g.len,fun i hi=>(g.t i hi).up K (fun _ _=>rfl),fun b=>?_,g.dang,g.inj,fun b u r h1 h2=>⟨.inr ⟨b,u,h1,h2⟩,Nat.lt_of_lt_of_le (g.low b u r h1 h2).2 hw.size⟩,BelX.refl _ _ _,g.glob.up K,g.pin,Nat.le_refl _,g.defs⟩
 have hB:=g.b b
 cases hk:s.bk b with
 |none=>rw[hk]at hB;exact hB
 |some y=>
  obtain⟨l,rfl⟩:=hs b y hk
  rw[hk]at hB
  obtain⟨r,cs,t,h1,h2,h3,h4⟩:=hB
  exact⟨r,cs,t,h1,h2,(hw.block r (g.low b _ r h1 rfl).2 fun e=>(hX r e).2 b _ h1 rfl).trans h3,h4.up K⟩
theorem append_raw {D : Nat → Prop} {w : World} {t ty : TypeId} {i j : TI} {n m : Nat} {cs : List Value} {news : List Seg} {po lv : Value} (hY : E.Y t = some i) (hs1 : i.sl = true) (he : i.esz ≠ 0) (hj : E.Y i.elem = some j) (hjb : j.bytes ≠ 0) (hjs : segN j.zero = i.esz)
    (ho : w.ownsRow 0 i.elem i.esz po n cs) (hl : RA D w (.row m news) lv) (hseg : segN news = m * i.esz) (hm : m ≠ 0) (hb : (n + m) * j.bytes ≤ 140737488355328) :
    ∃ v' w' ns, (Builtin.append_ #[t, t] ty #[po, lv]).run E.P w = .ok v' w' ∧ w'.ownsRow 0 i.elem i.esz v' (n + m) (cs ++ ns) ∧ RL D w news ns ∧ w.grownBy w' po.ownBlock ∧ (v'.ownBlock = po.ownBlock ∨ v'.ownBlock = some w.heap.size) := by
  obtain ⟨_, f, h5, h6⟩ := (E.hY t i hY).arr he
  obtain ⟨f', z, h7, h8, h9, h10, h11⟩ := (E.hY _ j hj).info
  rw [h5] at h7; cases h7
  have hu := (E.hY t i hY).sl hs1
  have hz := (zeroB_spec (S := D) (w := w) h11).len
  have h63 : n + m ≤ maxLen := by
    have : n + m ≤ (n + m) * j.bytes := Nat.le_mul_of_pos_right _ (Nat.pos_of_ne_zero hjb)
    unfold maxLen; omega
  cases hl with
  | row k k1 k2 k3 k4 =>
    rename_i c ns ad
    have hns : ns.length = m * i.esz := by rw [k.len, hseg]
    rcases k4 with k4 | ⟨b, q, rfl, k5, k6, k7⟩
    · exfalso
      rw [k4] at hns
      have : 0 < m * i.esz := Nat.mul_pos (Nat.pos_of_ne_zero hm) (Nat.pos_of_ne_zero he)
      simp at hns; omega
    · obtain ⟨v', w', hr, h1, h2, h3, h4⟩ := run_append_own_at (P := E.P) w 0 t ty i.elem f z i.esz j.bytes hu h5 h10 h6 h9 (by
          rw [hjs] at hz; simpa using hz) (Nat.pos_of_ne_zero he) _ n cs ho ⟨b, q, none⟩ m c ns hns (fun j u hj => by
          obtain ⟨hlt, e⟩ := List.getElem?_eq_some_iff.1 hj
          rw [add_at, k7 j hlt, e]) k.one h63 hb (Nat.zero_le _)
      exact ⟨v', w', ns, hr, h1, k, h2, h4⟩
theorem vars_of(h:s.h.all (fun o=>match o with|none=>true|some (.var _)=>true|_=>false)=true):∀b x,s.bk b=some x→∃l,x=.var l:=by
 intro b x hb
 unfold St.bk at hb
 rw[List.getD_eq_getElem?_getD]at hb
 cases e:s.h[b]? with
 |none=>rw[e]at hb;cases hb
 |some o=>
  rw[e]at hb
  obtain rfl:o=some x:=hb
  have h2:=List.all_eq_true.1 h _ (List.mem_of_getElem? e)
  cases x<;>first|exact⟨_,rfl⟩|(simp at h2;done)
theorem GXL.append{ops r:List Oper}{o:Oper}{K:Act→World→Prop}{c:Call}{x y:Operand}{t:TypeId}{i j:TI}{n m:Nat}{cs:List Value}{news:List Seg}{po:Value}(hg:o.guard=none)(ho:o.op=.call c)(hc:c.callee=.builtin .append)(ha:c.args.toList=[x,y])(ht:c.argTypes.toList=[t,t])
  (hY:E.Y t=some i)(hs1:i.sl=true)(he:i.esz≠0)(hj:E.Y i.elem=some j)(hjb:j.bytes≠0)(hjs:segN j.zero=i.esz)(hx:s.ev x=.d (.v po))(hy:s.ev y=.d (.row m news))(hseg:segN news=m*i.esz)(hm:m≠0)(hb:(n+m)*j.bytes≤140737488355328)
  (hs:∀b x,s.bk b=some x→∃l,x=.var l)(hown:w0.w.ownsRow 0 i.elem i.esz po n cs)(hfr:∀q,po.ownBlock=some q→q<base∧q<w0.w.heap.size∧¬w0.X q∧¬S q)
  (h:∀(S':Nat→Prop) (w0':W0 E.G) (v':Value) (w1:World) (ns:List Value),(∀q,S' q→S q∨base≤q)→(∀q,w0'.X q→w0.X q∨base≤q)→(∀q,w0'.X q→¬S' q)→(∀q,w0.pin=some q→w0'.X q)→w0'.pin=w0.pin→w0'.defs=w0.defs→w0'.w.ownsRow 0 i.elem i.esz v' (n+m) (cs++ns)→RL S' w0'.w news ns→
   BelX base w0.X w0.w w1→base≤w1.heap.size→GrownX (fun q=>po.ownBlock=some q) w1 w0'.w→(v'.ownBlock=po.ownBlock∨v'.ownBlock=some w1.heap.size)→(∀q,v'.ownBlock=some q→q<w0'.w.heap.size∧¬S' q∧¬w0'.X q)→(∀q,S q→q<base→¬w0.X q→S' q)→
   GXL E S' w0'.w.heap.size w0' ops r (s.app2 o.dst (.d (.v v')) none) K):GXL E S base w0 ops (o::r) s K:=by
 refine GXL.hand hg fun ρ a w next Q0 g hn=>?_
 have hca:c.args=#[x,y]:=by cases hq:c.args;simp_all
 have hct:c.argTypes=#[t,t]:=by cases hq:c.argTypes;simp_all
 have hown':w.ownsRow 0 i.elem i.esz po n cs:=ownsRow_up hown fun q hq=>by
  have hq':po.ownBlock=some q:=by
   rcases hown.2 with⟨e1,e2⟩|⟨q',cap,cur,e1,_⟩<;>(rw[e1]at hq ⊢)
   ·cases hq
   ·cases hq;rfl
  exact g.bel.block q (hfr q hq').1 (hfr q hq').2.2.1
 have hvx:a.eval x=po:=by
  have:=g.ev x
  rw[hx]at this
  cases this;rfl
 have hvy:=g.ev y
 rw[hy]at hvy
 obtain⟨v',w',ns,h1,h2,h3,h4,h5⟩:=append_raw (E:=E) (ty:=o.type) hY hs1 he hj hjb hjs hown' hvy hseg hm hb
 have hX:∀q,po.ownBlock=some q→¬Dt S base ρ q∧∀b u,ρ b=some u→¬Rl u q:=fun q hq=>by
  obtain⟨f1,f2,f3,f4⟩:=hfr q hq
  refine⟨fun hd=>?_,fun b u hb hu=>?_⟩
  ·rcases hd.1 with hd|hd
   ·exact f4 hd
   ·omega
  ·rcases(g.low b u q hb hu).1 with h6|h6
   ·omega
   ·exact f3 h6
 have hgx:GrownX (fun q=>po.ownBlock=some q) w w':=⟨h4.os,h4.tape,h4.output,h4.size,fun k hk hn=>h4.block k hk (fun e=>hn e.symm)⟩
 have g2:=g.rebase hs _ hgx hX
 have kk:Keeps (Dt S base ρ) w (fun z=>Dt S base ρ z∧z<w.heap.size) w':=⟨hgx.size,fun q hq hd=>⟨⟨hd,hq⟩,fun o=>World.cell?_of_block (hgx.block q hq fun e=>(hX q e).1 hd)⟩⟩
 have hv:∀q,v'.ownBlock=some q→q<w'.heap.size∧¬(Dt S base ρ q∧q<w.heap.size)∧¬∃b u,ρ b=some u∧Rl u q:=fun q hq=>by
  have hq2:q<w'.heap.size:=by
   rcases h2.2 with⟨e1,e2⟩|⟨q',cap,cur,e1,_,e4,_⟩<;>rw[e1]at hq<;>cases hq
   exact(Array.getElem?_eq_some_iff.1 e4).1
  rcases h5 with h5|h5
  ·exact⟨hq2,fun hd=>(hX q (h5.symm.trans hq)).1 hd.1,fun⟨b,u,h7,h8⟩=>(hX q (h5.symm.trans hq)).2 b u h7 h8⟩
  ·rw[h5]at hq;cases hq
   exact⟨hq2,fun hd=>Nat.lt_irrefl _ hd.2,fun⟨b,u,h7,h8⟩=>Nat.lt_irrefl _ (g.low b u _ h7 h8).2⟩
 have hfin:=hn _ _ _ _ _ _ _ (g2.put' o.dst (t:=.d (.v v')) (.v v') (by simp[T.refs])) (h (fun z=>Dt S base ρ z∧z<w.heap.size) ⟨w',fun q=>∃b u,ρ b=some u∧Rl u q,w0.pin,w0.defs⟩ v' w ns (fun q hq=>hq.1.1) (fun q ⟨b,u,h7,h8⟩=>(g.low b u q h7 h8).1.symm) (fun q ⟨b,u,h7,h8⟩ hd=>hd.1.2 b u h7 h8) (fun q hq=>⟨0,_,g.pin q hq,rfl⟩) rfl rfl h2 (h3.up kk) g.bel g.size hgx h5 hv fun q hq hlt hx=>⟨⟨.inl hq,fun b u h7 h8=>(g.low b u q h7 h8).1.elim (fun h9=>by omega) hx⟩,Nat.lt_of_lt_of_le hlt g.size⟩)
 unfold Oper.wp execOp
 simp only[ho,hc,hca,hct,resolve,invoke,builtin,Sem.run_bind,Sem.run_pure,Result.andThen_ok,List.map_toArray,List.map_cons,List.map_nil,hvx,h1]
 exact hfin
theorem calls_lent{f:FuncId}{fn:Func}{c:Code}{pos n:Nat}{args:List A}{vs:List Value}{x:Bk}{w:World}{q:Nat}{t:List T}{R:Ending→World→Prop}(hf:E.P.funcs[f]?=some fn)(hnt:fn.ntmps=n)(hb:fn.body=some c)(hn:args.length+1≤n)(hp:pos≤args.length)(hx:∀e sz n l,x≠ .sl e sz n l)
  (ht:(args.map T.d).insertIdx pos (.ptr 0 0)++List.replicate (n- (args.length+1)) (.d (.v undef))=t)
  (hq:q<w.heap.size)(hG:GOK E.G (fun z=>S z∧z≠q) w)(hB:HB (fun z=>S z∧z≠q) w q x)(hv:RAs (fun z=>S z∧z≠q) w args vs)
  (h:GX E S w.heap.size (⟨w,fun r=>r=q,some q,[]⟩:W0 E.G) c ⟨t,[some x]⟩ (fun e a' w'=>(e=.normal∨e=.ret)∧a'.defers=[]∧∃v,(results fn a'.tmps).run E.P w'=.ok v w'∧R (.returned v) w')):Calls E.P f (vs.insertIdx pos (.pointer (some ⟨q,0,none⟩))).toArray w R:=by
 subst hnt;subst ht
 refine calls_of_wp hf hb (wp_mono (h.out _ _ _ (begin_lent fn.ntmps hn hp hx hq hG hB hv)) ?_)
 rintro e a' w' ⟨he,h1,v,h2,h3⟩
 rcases he with rfl|rfl<;>exact⟨h1,v,h2,h3⟩
theorem GQ.fin{w w1:World}{r tm:Nat}{S':Nat→Prop}{w0':W0 E.G}{fn:Func}{R:Ending→World→Prop}{x po v':Value}{l' news:List Seg}{e:TypeId}{sz n:Nat}{cs ns:List Value}{ex:Exit}(hfn:fn.results=[ResultVar.tmp tm].toArray)(hx:s.sl tm=.d (.v x))(hb:s.bk 0=some (.var l'))(he:ex=.normal∨ex=.ret)(hr:r<w.heap.size)
  (f1:∀q,S' q→S q∨w.heap.size≤q)(f2:∀q,w0'.X q→q=r∨w.heap.size≤q)(f3:∀q,w0'.X q→¬S' q)(f4:∀q,some r=some q→w0'.X q)(f5:w0'.pin=some r)(f6:w0'.defs=[])(f7:w0'.w.ownsRow 0 e sz v' n cs)(f8:RL S' w0'.w news ns)
  (f9:BelX w.heap.size (fun q=>q=r) w w1)(f10:w.heap.size≤w1.heap.size)(f11:GrownX (fun q=>po.ownBlock=some q) w1 w0'.w)(f12:v'.ownBlock=po.ownBlock∨v'.ownBlock=some w1.heap.size)(f13:∀q,v'.ownBlock=some q→q<w0'.w.heap.size∧¬S' q∧¬w0'.X q)
  (hR:∀w2,HB (fun z=>(S z∨w.heap.size≤z)∧z≠r∧v'.ownBlock≠some z) w2 r (.var l')→w2.ownsRow 0 e sz v' n cs→RL (fun z=>(S z∨w.heap.size≤z)∧z≠r∧v'.ownBlock≠some z) w2 news ns→GrownX (fun z=>z=r∨po.ownBlock=some z) w w2→
   (∀z,v'.ownBlock=some z→z<w2.heap.size∧(po.ownBlock=some z∨w.heap.size≤z))→R (.returned x) w2):
  GQ E S' w0'.w.heap.size w0' s (fun a' w'=>(ex=.normal∨ex=.ret)∧a'.defers=[]∧∃v,(results fn a'.tmps).run E.P w'=.ok v w'∧R (.returned v) w'):=by
 refine⟨fun ρ a w2 g=>⟨he,g.defs.trans f6,x,?_,?_⟩⟩
 ·have h1:=g.ev (.tmp tm)
  rw[show s.ev (.tmp tm)=.d (.v x)from hx]at h1
  have h2:a.tmps.getD tm undef=x:=RA.plain h1
  rw[←h2]
  exact run_results1 hfn rfl
 ·have hpin:=g.pin r f5
  have hrX:w0'.X r:=f4 r rfl
  have dd:∀z,Dt S' w0'.w.heap.size ρ z→(S z∨w.heap.size≤z)∧z≠r∧v'.ownBlock≠some z:=fun z hz=>by
   refine⟨?_,fun e=>hz.2 0 _ hpin (by rw[e];rfl),fun e=>?_⟩
   ·rcases hz.1 with h|h
    ·exact f1 z h
    ·exact .inr (Nat.le_trans f10 (Nat.le_trans f11.size h))
   ·obtain⟨h1,h2,_⟩:=f13 z e
    rcases hz.1 with h|h
    ·exact h2 h
    ·omega
  have hB:=g.b 0
  rw[hb]at hB
  obtain⟨r',cs',t,h1,_,h2,h3⟩:=hB
  rw[hpin]at h1;cases h1
  have same:∀z,z<w0'.w.heap.size→¬w0'.X z→w2.heap[z]?=w0'.w.heap[z]?:=fun z hz hX=>g.bel.block z hz hX
  have hk:Keeps S' w0'.w (fun z=>(S z∨w.heap.size≤z)∧z≠r∧v'.ownBlock≠some z) w2:=by
   refine⟨g.bel.size,fun z hz hS=>⟨⟨f1 z hS,fun e=>?_,fun e=>(f13 z e).2.1 hS⟩,fun o=>World.cell?_of_block (same z hz fun hX=>f3 z hX hS)⟩⟩
   subst e;exact f3 z hrX hS
  have hg:GrownX (fun z=>z=r∨po.ownBlock=some z) w w2:=by
   refine⟨(g.bel.os.trans f11.os).trans f9.os,(g.bel.tape.trans f11.tape).trans f9.tape,(g.bel.output.trans f11.output).trans f9.output,Nat.le_trans f10 (Nat.le_trans f11.size g.bel.size),fun z hz hn=>?_⟩
   have hz0:z<w0'.w.heap.size:=Nat.lt_of_lt_of_le hz (Nat.le_trans f10 f11.size)
   rw[same z hz0 (fun hX=>by rcases f2 z hX with h|h;exact hn (.inl h);omega),f11.block z (Nat.lt_of_lt_of_le hz f10) (fun h=>hn (.inr h)),f9.block z hz (fun h=>hn (.inl h))]
  have ho:w2.ownsRow 0 e sz v' n cs:=by
   refine ownsRow_up f7 fun z hz=>?_
   have hz':v'.ownBlock=some z:=by
    rcases f7.2 with⟨e1,e2⟩|⟨q',cap,cur,e1,_⟩<;>(rw[e1]at hz ⊢)
    ·cases hz
    ·cases hz;rfl
   exact same z (f13 z hz').1 (f13 z hz').2.2
  refine hR w2 ⟨cs',t,h2,h3.up (toKeeps dd)⟩ ho (f8.up hk) hg fun z hz=>⟨Nat.lt_of_lt_of_le (f13 z hz).1 g.bel.size,?_⟩
  rcases f12 with h|h
  ·exact .inl (h.symm.trans hz)
  ·rw[h]at hz;cases hz;exact .inr f10
theorem raw_slots(l:List Value)(i:Nat){D:Nat→Prop}{ρ:Nat→Option Value}{w:World}:i<l.length→RT D ρ w ((l.map fun v=>T.d (.v v)).getD i .dead) (l.getD i undef):=by
 intro hi
 rw[List.getD_eq_getElem?_getD,List.getD_eq_getElem?_getD,List.getElem?_map,List.getElem?_eq_getElem hi]
 exact .v _
theorem mid_var(j:Nat){a:Act}{w:World}{r:Nat}{x:Bk}{ds:List Deferred}{ts:List T}(hsz:base≤w.heap.size)(hx:∃l,x=.var l)(hr:r<w.heap.size)(hG:GOK E.G (Dt S base (fun b=>if b=0 then some (.pointer (some ⟨r,0,none⟩))else none)) w)(hB:HB (Dt S base (fun b=>if b=0 then some (.pointer (some ⟨r,0,none⟩))else none)) w r x)
  (hd:a.defers=ds)(ht:(a.tmps.toList.map fun v=>T.d (.v v)).set j (.ptr 0 0)=ts)(hj:j<a.tmps.size)(hv:a.tmps.getD j undef=.pointer (some ⟨r,0,none⟩)):
  Good S base (⟨w,fun q=>q=r,some r,ds⟩:W0 E.G) ⟨ts,[some x]⟩ (fun b=>if b=0 then some (.pointer (some ⟨r,0,none⟩))else none) a w:=by
 subst hd;subst ht
 have hρ:∀b u,(if b=0 then some (Value.pointer (some ⟨r,0,none⟩))else none)=some u→b=0∧u=.pointer (some ⟨r,0,none⟩):=fun b u h=>by
  split at h
  ·next e=>cases h;exact⟨e,rfl⟩
  ·cases h
 refine⟨by simp,fun i hi=>?_,fun b=>?_,fun i b hb=>?_,fun b b' u u' r h1 h2 _ _=>(hρ b u h1).1.trans (hρ b' u' h2).1.symm,fun b u q h1 h2=>?_,BelX.refl _ _ _,hG,fun q hq=>(by cases hq;rfl),hsz,rfl⟩
 ·have hgen:∀y,RT (Dt S base (fun b=>if b=0 then some (.pointer (some ⟨r,0,none⟩))else none)) (fun b=>if b=0 then some (.pointer (some ⟨r,0,none⟩))else none) w (St.sl (⟨(a.tmps.toList.map fun v=>T.d (.v v)).set j (.ptr 0 0),[some x]⟩:St) i) y↔RT (Dt S base (fun b=>if b=0 then some (.pointer (some ⟨r,0,none⟩))else none)) (fun b=>if b=0 then some (.pointer (some ⟨r,0,none⟩))else none) w (if j=i∧j<(a.tmps.toList.map fun v=>T.d (.v v)).length then .ptr 0 0 else(a.tmps.toList.map fun v=>T.d (.v v)).getD i .dead) y:=fun y=>by
   unfold St.sl
   rw[getD_set_list]
  obtain⟨y,hy⟩:∃y,y=a.tmps.getD i undef:=⟨_,rfl⟩
  show RT _ _ _ _ (a.tmps.getD i undef)
  rw[←hy,hgen]
  split
  ·next h=>
   obtain rfl:y=.pointer (some ⟨r,0,none⟩):=by rw[hy,←h.1,hv]
   intro u hu
   obtain⟨_,rfl⟩:=hρ 0 u hu
   exact⟨r,.inl rfl,rfl⟩
  ·have:=raw_slots (D:=Dt S base (fun b=>if b=0 then some (.pointer (some ⟨r,0,none⟩))else none)) (ρ:=fun b=>if b=0 then some (.pointer (some ⟨r,0,none⟩))else none) (w:=w) a.tmps.toList i (by simpa using hi)
   rw[hy,show a.tmps.getD i undef=a.tmps.toList.getD i undef by simp[List.getD_eq_getElem?_getD,Array.getD_eq_getD_getElem?]]
   exact this
 ·by_cases hb:b=0
  ·subst hb
   obtain⟨l,rfl⟩:=hx
   obtain⟨cs,t,h1,h2⟩:=hB
   exact⟨r,cs,t,rfl,trivial,h1,h2⟩
  ·have:St.bk (⟨(a.tmps.toList.map fun v=>T.d (.v v)).set j (.ptr 0 0),[some x]⟩:St) b=none:=by
    cases b with
    |zero=>exact absurd rfl hb
    |succ b=>rfl
   rw[this]
   exact if_neg hb
 ·unfold St.sl at hb
  rw[getD_set_list]at hb
  split at hb
  ·simp[T.refs]at hb
   subst hb
   simp[St.bk]
  ·exfalso
   rw[List.getD_eq_getElem?_getD,List.getElem?_map]at hb
   cases h:a.tmps.toList[i]? with
   |none=>rw[h]at hb;simp[T.refs]at hb
   |some v=>rw[h]at hb;simp[T.refs]at hb
 ·obtain⟨_,rfl⟩:=hρ b u h1
  obtain rfl:r=q:=h2
  exact⟨.inr rfl,hr⟩
end
end
section
open Pm
def deriveN:List A→(Res→Prop)→Prop
 |[.agg [.bytes 32 h],.v (.string s),x],K=>s.size≤1000000∧rowsOfK x fun L=>∀d,d=deriveW h (sb s) L.flatten→K (.d (.agg [.bytes 32 d]))
 |_,_=>False
theorem deriveN_ok:∀args K,deriveN args K→∃r,FnO 34 args r∧K r:=by
 intro args K hd
 unfold deriveN at hd
 split at hd
 ·next h s x=>
  obtain⟨hs,hd⟩:=hd
  obtain⟨L,hK,hL⟩:=rowsOfK_spec hd
  refine⟨_,fun S w vs _ ha=>?_,hK _ rfl⟩
  obtain⟨v1,v2,v3,rfl,h1,h2,h3⟩:=ra_three ha
  obtain⟨rfl,hh⟩:=hash_of h1
  rw[RA.plain h2]
  obtain⟨a,n,c,rfl,h4,_⟩:=hL h3
  refine(derive_any h hh s (by unfold maxLen;omega) a n c L w h4).mono ?_
  rintro e w' ⟨rfl,hb⟩
  exact⟨_,rfl,ra_hash (sumW_length _),hb⟩
 ·exact hd.elim
attribute [local irreducible] condK LoopA regA powI scal mulI isI fourB deriveW numB numsB bodyB nodeW nextW viewHV doR chkV planL sealB boxD keyZ helD commonI placeI apE doP comE comP nextP joinP upW lefW tagE welSegs welF welN createP enterP mayB commitB commitN
def comBS:List A→(Res→Prop)→Prop
 |[x],K=>cArgK x fun c=>mayB c=true∧∀N B,N=commitN c→B=commitB c→K (.t [.row N [.bytes N B],.v (.int .i64 0)])
 |_,_=>False
theorem comBS_ok:∀args K,comBS args K→∃r,FnO 89 args r∧K r:=by
 intro args K h
 unfold comBS at h
 split at h
 ·next x=>
  obtain⟨c,⟨hm,h⟩,hc⟩:=cArgK_spec h
  refine⟨_,fun S w vs hG ha=>?_,h _ _ rfl rfl⟩
  cases ha with
  |cons k1 kn=>
   cases kn
   obtain⟨k2,k3,k4⟩:=hc k1
   have:=wcommit_ok c k3 k4 S w _ hG (.cons k2 .nil)
   unfold commitR at this
   rw[if_pos hm]at this
   exact this
 ·exact h.elim
noncomputable def envWr0:EnvX:=env0.withY yTab7 yOK7 yEq7
noncomputable def envWr1:EnvX:=envWr0.add 89 comBS comBS_ok ⟨_,Tryz.func89,by kernel_rfl,by kernel_rfl⟩
def numD:List A→(Res→Prop)→Prop
 |[.v (.int .i64 n)],K=>K (.d (.row 8 [.bytes 8 (numB n)]))
 |_,_=>False
theorem numD_ok:∀args K,numD args K→∃r,FnO 35 args r∧K r:=by
 intro args K h
 unfold numD at h
 split at h
 ·exact⟨_,fn_row (num_fn _),h⟩
 ·exact h.elim
end
section
open Pm
attribute [local irreducible] condK LoopA regA powI scal mulI isI fourB deriveW numB numsB bodyB nodeW nextW viewHV doR chkV planL sealB boxD keyZ helD commonI placeI apE doP comE comP nextP joinP upW lefW tagE welSegs welF welN createP enterP mayB commitB commitN
def wdV(n mu:Int)(l:List A)(po ap:A):List Seg:=[.ints .i64 1 [n],.ints .i32 1 [mu],.ints .u32 1 [0],.gen 16 l,.gen 2 [po,ap]]
def drawW(i:Int):List UInt8:=deriveW (zB 32) (sb ⟨#[100,114,97,119]⟩) [numB i].flatten
noncomputable def envWr3b:EnvX:=envWr0.add 48 commS commS_ok ⟨_,Tryz.func48,by kernel_rfl,by kernel_rfl⟩
noncomputable def envWr3:EnvX:=envWr3b.add 35 numD numD_ok ⟨_,Tryz.func35,by kernel_rfl,by kernel_rfl⟩
noncomputable def envWr3a:EnvX:=envWr3.add 34 deriveN deriveN_ok ⟨_,Tryz.func34,by kernel_rfl,by kernel_rfl⟩
end
section
open Pm
attribute [local irreducible] condK LoopA regA deriveW numB numsB wsd createP
theorem createT_ok:∀args K,createE args K→∃r,FnO 12 args r∧K r:=by
 intro args K h
 unfold createE at h
 split at h
 ·exact⟨_,fn_sref (create_fn _),h _ rfl⟩
 ·exact h.elim
end
section
open Pm
attribute [local irreducible] condK LoopA regA deriveW numB numsB wsd createP
end
section
open Pm
def ownL(v:Value):List Nat:=match v.ownBlock with|some z=>[z]|none=>[]
theorem ownL_mem{v:Value}{z:Nat}:z∈ownL v↔v.ownBlock=some z:=by
 unfold ownL
 cases v.ownBlock with
 |none=>simp
 |some q=>simp[eq_comm]
theorem own_lt{w:World}{e:TypeId}{sz n:Nat}{v:Value}{cs:List Value}(h:w.ownsRow 0 e sz v n cs){z:Nat}(hz:v.ownBlock=some z):z<w.heap.size:=by
 rcases h.2 with⟨e1,e2⟩|⟨q',cap,cur,e1,_,e4,_⟩<;>rw[e1]at hz<;>cases hz
 exact(Array.getElem?_eq_some_iff.1 e4).1
theorem own_keep{w w':World}{e:TypeId}{sz n:Nat}{v:Value}{cs:List Value}(h:w.ownsRow 0 e sz v n cs)(k:∀z,v.ownBlock=some z→w'.heap[z]?=w.heap[z]?):w'.ownsRow 0 e sz v n cs:=ownsRow_up h fun q hq=>by
 refine k q ?_
 rcases h.2 with⟨e1,e2⟩|⟨q',cap,cur,e1,_⟩<;>(rw[e1]at hq ⊢)
 ·cases hq
 ·cases hq;rfl
end
section
open Pm
attribute [local irreducible] condK LoopA regA powI scal mulI isI fourB deriveW numB numsB bodyB nodeW nextW viewHV doR chkV planL sealB boxD keyZ helD commonI placeI apE doP comE comP nextP joinP upW lefW tagE welSegs welF welN createP enterP mayB commitB commitN
end
section
open Pm
theorem args0W{S:Nat→Prop}{w:World}{vs:List Value}(h:RAs S w [] vs):vs=[]:=by cases h;rfl
theorem args1W{x:Value}{S:Nat→Prop}{w:World}{vs:List Value}(h:RAs S w [.v x] vs):vs=[x]:=by
 cases h with|cons h r=>cases r;cases h;rfl
theorem ra_plainV{S:Nat→Prop}{w:World}{x v:Value}(h:RA S w (.v x) v):v=x:=by cases h;rfl
end
section
attribute [local irreducible] condK LoopA regA
abbrev Ln:=Int×List UInt8
def lineF(L:List Ln)(j:Nat):List Seg:=[.ints .i64 1 [(L.getD j (0,[])).1],.bytes 32 (L.getD j (0,[])).2]
def bookSegs(mu:Int)(L:List Ln)(s f:Int):List Seg:=[.ints .i32 1 [mu],.ints .u32 1 [0],.gen 1 [.recs L.length 33 (lineF L)],.ints .i64 2 [s,f]]
def H0:List UInt8:=[0,0,0,0,0,0,0,0,0,0,0,0,0,0,0,0,0,0,0,0,0,0,0,0,0,0,0,0,0,0,0,0]
def hasV(L:List Ln)(e:Int):Bool:=L.any fun x=>x.1==e
def getV(L:List Ln)(e:Int):List UInt8:=match L.find? (fun x=>x.1==e)with|some x=>x.2|none=>H0
theorem first_ln(L:List Ln)(e:Int):∃N,N≤L.length∧(∀j,j<N→¬(L.getD j (0,[])).1=e)∧(N=L.length∧hasV L e=false∧getV L e=H0∨(N<L.length∧(L.getD N (0,[])).1=e∧hasV L e=true∧getV L e=(L.getD N (0,[])).2)):=by
 induction L with
 |nil=>exact⟨0,Nat.le_refl _,fun j hj=>absurd hj (by omega),.inl ⟨rfl,rfl,rfl⟩⟩
 |cons x L ih=>
  by_cases h:x.1=e
  ·exact⟨0,Nat.zero_le _,fun j hj=>absurd hj (by omega),.inr ⟨by simp,by simpa using h,by simp[hasV,h],by simp[getV,List.find?,h]⟩⟩
  ·obtain⟨N,h1,h2,h3⟩:=ih
   have hb:(x.1==e)=false:=by simpa using h
   refine⟨N+1,by simpa using h1,fun j hj=>?_,?_⟩
   ·cases j with
    |zero=>simpa using h
    |succ j=>simpa using h2 j (by omega)
   ·have e1:hasV (x::L) e=hasV L e:=by simp[hasV,hb]
    have e2:getV (x::L) e=getV L e:=by simp[getV,List.find?,hb]
    rw[e1,e2]
    rcases h3 with⟨h3,h4,h5⟩|⟨h3,h4,h5,h6⟩
    ·exact .inl ⟨by simp[h3],h4,h5⟩
    ·exact .inr ⟨by simpa using h3,by simpa using h4,h5,by simpa using h6⟩
attribute [local irreducible] hasV getV
set_option maxHeartbeats 1000000 in
noncomputable def envN:EnvX:={ P:=Tryz.prog,Y:=yTab,G:=fun _=>none,C:=fun _ _ _=>False,M:=fun _ _ _ _ _=>False,hY:=yOK,hC:=fun _ _ _ h=>h.elim,hMu:=fun _ _ _ _ _ h=>h.elim,hF:=fun _ _ _ h=>h.elim,hE:=yEq,hM:=by kernel_rfl }
theorem find_ok(mu:Int)(L:List Ln)(s f e:Int)(hL:L.length≤1000000):
  FnOK Tryz.prog (fun _=>none) 77 [.sref (bookSegs mu L s f) 0,.v (.int .i64 e)] (.t [.agg [.bytes 32 (getV L e)],.v (.bool (hasV L e))]):=by
 refine fnA (E:=envN) Tryz.func77 Tryz.ntmps77 ?_
 obtain⟨N,hN,hno,hend⟩:=first_ln L e
 refine agow ?_;(try exact⟨⟩)
 refine StopL.mk (loop_forG [0,1,4,5,11,12,13] [0] N (fun j=>⟨[.d (.sref (bookSegs mu L s f) 0),.d (.v (.int .i64 e)),.dead,.dead,.ptr 0 0,.d (.v (.bool false)),.dead,.dead,.dead,.dead,.dead,.d (.recs L.length 33 (lineF L)),.d (.v (.int .i64 L.length)),.d (.v (.int .i64 (j:Nat))),.dead,.dead,.dead,.dead,.dead,.dead,.dead,.dead,.dead,.dead,.dead],[some (.var [.bytes 32 H0])]⟩) ?_)
 intro j hj hl
 by_cases h:j<N
 ·have h1:(j:Int)<(L.length:Int):=by omega
  have h2:((L.getD j (0,[])).1==e)=false:=by simpa using hno j h
  clear hend hno
  refine agow ?_;(try exact⟨⟩)
  refine hl.go h [0,1,4,5,11,12,13] [0] ?_
  rfl
 ·obtain rfl:j=N:=by omega
  rcases hend with⟨rfl,h4,h5⟩|⟨h3,h4,h5,h6⟩
  ·have h1:¬(L.length:Int)<(L.length:Int):=by omega
   rw[h4,h5]
   clear h4 h5 hno
   refine agow ?_;(try exact⟨⟩)
   rfl
  ·have h1:(j:Int)<(L.length:Int):=by omega
   have h2:((L.getD j (0,[])).1==e)=true:=by simpa using h4
   rw[h5,h6]
   clear h4 h5 h6 hno
   refine agow ?_;(try exact⟨⟩)
end
section
abbrev BC(mu:Int)(v:Value)(s f:Int):Array Value:=#[.int .i32 mu,.int .u32 0,v,.int .i64 s,.int .i64 f]
def lnC(L:List Ln):List Value:=L.flatMap fun x=>.int .i64 x.1::HL x.2
def bookP(L:List Ln)(s f:Int):(Nat→Option Obj)→Nat→Prop:=fun h r=>∃t v,h r=some (.cells (BC 0 v s f) t (0,0))∧(v=.slice none 0 0∧L.length=0∨∃q cap cur,v=.slice (some ⟨q,0,none⟩) L.length cap∧q≠r∧h q=some (.cells cur 151 (0,0))∧L.length≤cap∧cap≤maxLen∧cur.size=cap*33∧cur.toList.take (L.length*33)=lnC L)∧∀x∈L,x.2.length=32
theorem lnC_length(L:List Ln)(h:∀x∈L,x.2.length=32):(lnC L).length=L.length*33:=by
 induction L with
 |nil=>rfl
 |cons x L ih=>
  have h1:=h x (by simp)
  have h2:=ih fun y hy=>h y (by simp[hy])
  unfold lnC at h2 ⊢
  simp only[List.flatMap_cons,List.length_append,List.length_cons,h2,HL_length,h1]
  omega
structure BookW(w:World)(r:Nat)(t:TypeId)(v:Value)(L:List Ln)(s f:Int):Prop where
 blk:Blk w r (BC 0 v s f) t
 own:w.ownsRow 0 151 33 v L.length (lnC L)
 sep:v.ownBlock≠some r
 len:∀x∈L,x.2.length=32
theorem BookW.of{w:World}{r:Nat}{F:List Nat}{L:List Ln}{s f:Int}(h:bookP L s f (hres w (r::F)) r):∃t v,BookW w r t v L s f∧∀q,v.ownBlock=some q→q∈F:=by
 obtain⟨t,v,h1,h2,h3⟩:=h
 have hr:w.heap[r]?=some (.cells (BC 0 v s f) t (0,0)):=by unfold hres at h1;rw[if_pos (by simp)]at h1;exact h1
 rcases h2 with⟨rfl,h4⟩|⟨q,cap,cur,rfl,h4,h5,h6⟩
 ·have hL:L=[]:=List.length_eq_zero_iff.1 h4
  subst hL
  exact⟨t,_,⟨hr,⟨rfl,.inl ⟨rfl,rfl⟩⟩,by simp[Value.ownBlock],h3⟩,by simp[Value.ownBlock]⟩
 ·have hq:q∈r::F:=by
   apply Decidable.byContradiction
   intro hn
   unfold hres at h5;rw[if_neg hn]at h5;cases h5
  have hq2:w.heap[q]?=some (.cells cur 151 (0,0)):=by unfold hres at h5;rw[if_pos hq]at h5;exact h5
  refine⟨t,_,⟨hr,⟨lnC_length L h3,.inr ⟨q,cap,cur,rfl,Nat.zero_le _,hq2,h6⟩⟩,by simp[Value.ownBlock];exact h4,h3⟩,fun q' e=>?_⟩
  simp[Value.ownBlock]at e;subst e
  rcases List.mem_cons.1 hq with h|h
  ·exact(h4 h).elim
  ·exact h
theorem BookW.to{w:World}{r:Nat}{F:List Nat}{t:TypeId}{v:Value}{L:List Ln}{s f:Int}(h:BookW w r t v L s f)(hF:∀q,v.ownBlock=some q→q∈F):bookP L s f (hres w (r::F)) r:=by
 refine⟨t,v,?_,?_,h.len⟩
 ·unfold hres;rw[if_pos (by simp)];exact h.blk
 ·rcases h.own.2 with⟨e1,e2⟩|⟨q,cap,cur,rfl,_,h5,h6⟩
  ·exact .inl ⟨e1,e2⟩
  ·have h7:=hF q rfl
   refine .inr ⟨q,cap,cur,rfl,fun e=>h.sep (by rw[←e];rfl),?_,h6⟩
   unfold hres;rw[if_pos (by simp[h7])];exact h5
theorem BookW.next{w w':World}{r:Nat}{t:TypeId}{v:Value}{L:List Ln}{s f s' f':Int}(h:BookW w r t v L s f)(hb:Blk w' r (BC 0 v s' f') t)(hg:w.grownBy w' (some r)):BookW w' r t v L s' f':=by
 refine⟨hb,⟨h.own.1,?_⟩,h.sep,h.len⟩
 rcases h.own.2 with h1|⟨q,cap,cur,e,h2,h3,h4⟩
 ·exact .inl h1
 ·refine .inr ⟨q,cap,cur,e,h2,?_,h4⟩
  rw[hg.block q (Array.getElem?_eq_some_iff.1 h3).1 (fun e2=>h.sep (by rw[e];cases e2;rfl))]
  exact h3
theorem run_len_any{v:Value}{n:Nat}{w:World}{xs:List Value}(h:w.ownsRow 0 151 33 v n xs):∃ad c,v=.slice ad n c:=by
 rcases h.2 with⟨e1,e2⟩|⟨q,cap,cur,e1,_⟩
 ·exact⟨_,_,by rw[e1,e2]⟩
 ·exact⟨_,_,e1⟩
theorem aadd_any(a:Addr)(x:Int)(hx:0≤x∧x≤1000000)(w:World)(hc:w.cell? a=some (.int .i64 x))(hz:w.frozen? a=false):
  Calls Tryz.prog 19 #[.pointer (some a),.int .i64 1] w fun e w'=>(∃y,e=.returned y)∧w'=w.setCell a (.int .i64 (x+1)):=by
 have hwr:RowKit.wrap64 (x+1)=x+1:=IntWalk.wrap64_in _ (by omega)
 have hwi:IntKind.i64.wrap (x+1)=x+1:=wrapS (by omega) (by omega)
 clear hx
 have hadd:=run_call_add (P:=Tryz.prog) Tryz.func38 (by kernel_rfl) (by kernel_rfl) (by kernel_rfl) .i64 (by kernel_rfl) (y:=1) (s:=x+1) hc hz (by simp[go_sem,hwr,hwi])
 go_enter Tryz.func19,Tryz.ntmps19
 go_wp2
 go_ret
 exact⟨⟨_,rfl⟩,rfl⟩
set_option maxRecDepth 100000 in
set_option maxHeartbeats 1000000 in
theorem flush_walk(w:World)(r:Nat)(t:TypeId)(v:Value)(L:List Ln)(s f:Int)(h:BookW w r t v L s f)(hf:0≤f∧f≤1000000):
  Calls Tryz.prog 46 #[.pointer (some ⟨r,0,none⟩)] w fun e w'=>e=.returned (.tuple #[])∧Blk w' r (BC 0 v L.length (f+1)) t∧w.grownBy w' (some r):=by
 have hb:=h.blk
 obtain⟨ad,c,rfl⟩:=run_len_any h.own
 have hw:IntKind.i64.wrap (f+1)=f+1:=wrapS (by omega) (by omega)
 have hb1:Blk (w.setCell ⟨r,4,none⟩ (.int .i64 (f+1))) r (BC 0 (.slice ad L.length c) s (f+1)) t:=(hb.set 4 _).copy rfl
 have hg1:w.grownBy (w.setCell ⟨r,4,none⟩ (.int .i64 (f+1))) (some r):=grown_setCell (grown_refl w _) 4 _
 have hb2:Blk ((w.setCell ⟨r,4,none⟩ (.int .i64 (f+1))).setCell ⟨r,0,none⟩ (.int .i32 1)) r (BC 1 (.slice ad L.length c) s (f+1)) t:=(hb1.set 0 _).copy rfl
 have hg2:w.grownBy ((w.setCell ⟨r,4,none⟩ (.int .i64 (f+1))).setCell ⟨r,0,none⟩ (.int .i32 1)) (some r):=grown_setCell hg1 0 _
 have c2:((w.setCell ⟨r,4,none⟩ (.int .i64 (f+1))).setCell ⟨r,0,none⟩ (.int .i32 1)).cell? ⟨r,2,none⟩=some (.slice ad L.length c):=hb2.cell 2
 have c3:((w.setCell ⟨r,4,none⟩ (.int .i64 (f+1))).setCell ⟨r,0,none⟩ (.int .i32 1)).cell? ⟨r,3,none⟩=some (.int .i64 s):=hb2.cell 3
 have z3:((w.setCell ⟨r,4,none⟩ (.int .i64 (f+1))).setCell ⟨r,0,none⟩ (.int .i32 1)).frozen? ⟨r,3,none⟩=false:=hb2.frozen 3
 have HB:=Lib.hid hb;have HB1:=Lib.hid hb1;have HB2:=Lib.hid hb2;have HG2:=Lib.hid hg2;have HW:=Lib.hid hw;have HF:=Lib.hid hf
 clear hb hb1 hg1 hb2 hg2 h hf hw
 go_enter_defers Tryz.func46,Tryz.ntmps46
 go_wp2_with (first|(go_at_call 19;refine(aadd_any ⟨r,4,none⟩ f HF.out _ (HB.out.cell 4) (HB.out.frozen 4)).mono ?_;rintro e w' ⟨⟨y,rfl⟩,rfl⟩)|(go_at_call 21;refine(lock_free ⟨r,0,none⟩ _ (HB1.out.cell 0) (HB1.out.frozen 0)).mono ?_;rintro e w' ⟨rfl,rfl⟩))
 have hb3:Blk (((w.setCell ⟨r,4,none⟩ (.int .i64 (f+1))).setCell ⟨r,0,none⟩ (.int .i32 1)).setCell ⟨r,3,none⟩ (.int .i64 L.length)) r (BC 1 (.slice ad L.length c) L.length (f+1)) t:=(HB2.out.set 3 _).copy rfl
 have hg3:w.grownBy (((w.setCell ⟨r,4,none⟩ (.int .i64 (f+1))).setCell ⟨r,0,none⟩ (.int .i32 1)).setCell ⟨r,3,none⟩ (.int .i64 L.length)) (some r):=grown_setCell HG2.out 3 _
 refine leaves_cons (f:=22) (args:=#[.pointer (some ⟨r,0,none⟩)]) (by simp) (by simp[go_sem]) ?_
 refine(unlock_deferred ⟨r,0,none⟩ _ _ (hb3.cell 0) (hb3.frozen 0)).mono ?_
 rintro e u' w4 ⟨rfl,rfl,hw4⟩
 have hk4:Blk w4 r (BC 0 (.slice ad L.length c) L.length (f+1)) t:=by rw[hw4];exact(hb3.set 0 _).copy rfl
 have hg4:w.grownBy w4 (some r):=by rw[hw4];exact grown_setCell hg3 0 _
 clear hw4
 simp[Leaves,settle,results,Tryz.results46]
 exact⟨hk4,hg4⟩
end
section
theorem lnC_at(L:List Ln)(h:∀x∈L,x.2.length=32):∀(j i:Nat),j<L.length→i<33→(lnC L)[j*33+i]?=(Value.int .i64 (L.getD j (0,[])).1::HL (L.getD j (0,[])).2)[i]?:=by
 induction L with
 |nil=>intro j i hj;simp at hj
 |cons x L ih=>
  intro j i hj hi
  have h1:=h x (by simp)
  have hl:(Value.int .i64 x.1::HL x.2).length=33:=by simp[HL_length,h1]
  have e:lnC (x::L)=(Value.int .i64 x.1::HL x.2)++lnC L:=rfl
  rw[e]
  cases j with
  |zero=>rw[Nat.zero_mul,Nat.zero_add,List.getElem?_append_left (by omega)];rfl
  |succ j=>
   rw[List.getElem?_append_right (by omega),hl,show(j+1)*33+i-33=j*33+i by omega,ih (fun y hy=>h y (by simp[hy])) j i (by simpa using hj) hi]
   simp
theorem bookRA{w:World}{r:Nat}{t:TypeId}{v:Value}{mu s f:Int}{L:List Ln}(hb:Blk w r (BC mu v s f) t)(ho:w.ownsRow 0 151 33 v L.length (lnC L))(hl:∀x∈L,x.2.length=32):
  RA (fun _=>True) w (.sref (bookSegs mu L s f) 0) (.pointer (some ⟨r,0,none⟩)):=by
 have hv:RA (fun _=>True) w (.recs L.length 33 (lineF L)) v:=by
  rcases ho.2 with⟨e1,e2⟩|⟨q,cap,cur,rfl,_,h5,h6,h7,h8,h9⟩
  ·rw[e1,e2]
   exact .recs (cs:=fun _=>[]) (fun j hj=>absurd hj (by omega)) (Nat.le_refl _) (Nat.zero_le _) (fun _=>rfl) (.inl rfl)
  ·refine .recs (cs:=fun j=>.int .i64 (L.getD j (0,[])).1::HL (L.getD j (0,[])).2) (fun j hj=>?_) h6 h7 (fun e=>by cases e) (.inr ⟨q,0,rfl,fun j hj=>.inr ⟨q,0+j*33,rfl,trivial,(Array.getElem?_eq_some_iff.1 h5).1,fun i hi=>?_⟩⟩)
   ·have hm:L.getD j (0,[])∈L:=by rw[List.getD_eq_getElem?_getD,List.getElem?_eq_getElem hj];exact List.getElem_mem hj
    have:=RL.append (.ofInts (k:=.i64) (n:=1) (zs:=[(L.getD j (0,[])).1]) rfl rfl) (RL.ofBytes (S:=fun _=>True) (w:=w) (hl _ hm) rfl)
    exact this
   ·have hm:L.getD j (0,[])∈L:=by rw[List.getD_eq_getElem?_getD,List.getElem?_eq_getElem hj];exact List.getElem_mem hj
    have hi2:i<33:=by rw[List.length_cons,HL_length,hl _ hm]at hi;exact hi
    have hn:=lnC_length L hl
    rw[cell_of_row w q (0+j*33+i) cur _ (0,0) h5,Nat.zero_add]
    have:(cur.toList.take (L.length*33))[j*33+i]?=(lnC L)[j*33+i]?:=by rw[h9]
    rw[List.getElem?_take,if_pos (by omega),Array.getElem?_toList,lnC_at L hl j i hj hi2]at this
    rw[this,List.getElem?_eq_getElem hi]
 have hv1:v.oneCell'=true:=by obtain⟨ad,c,rfl⟩:=run_len_any ho;rfl
 have hR:RL (fun _=>True) w (bookSegs mu L s f) (BC mu v s f).toList:=by
  have h1:=RL.append (.ofInts (k:=.i32) (n:=1) (zs:=[mu]) rfl rfl) (RL.append (.ofInts (k:=.u32) (n:=1) (zs:=[0]) rfl rfl) (RL.append (.ofGen (n:=1) rfl (.cons hv hv1 .nil)) (RL.ofInts (S:=fun _=>True) (w:=w) (k:=.i64) (n:=2) (zs:=[s,f]) rfl rfl)))
  exact h1
 refine .sref (off:=0) hR (.inr ⟨r,0,rfl,trivial,(Array.getElem?_eq_some_iff.1 hb).1,fun i hi=>?_⟩)
 rw[Nat.zero_add,cells_of hb i,List.getElem?_eq_getElem hi]
theorem ra_agg32{S:Nat→Prop}{w:World}{p:List UInt8}{v:Value}(h:RA S w (.agg [.bytes 32 p]) v):v=.agg (HL p).toArray∧p.length=32:=by
 cases h with|agg k=>obtain⟨h1,rfl⟩:=k.toBytes;exact⟨rfl,h1⟩
theorem find_any{w:World}{r:Nat}{t:TypeId}{v:Value}{mu s f:Int}{L:List Ln}(e:Int)(hL:L.length≤1000000)(hb:Blk w r (BC mu v s f) t)(ho:w.ownsRow 0 151 33 v L.length (lnC L))(hl:∀x∈L,x.2.length=32):
  Calls Tryz.prog 77 #[.pointer (some ⟨r,0,none⟩),.int .i64 e] w fun x w'=>x=.returned (.tuple #[HV (getV L e),.bool (hasV L e)])∧Below w.heap.size w w':=by
 refine(find_ok mu L s f e hL (fun _=>True) w [.pointer (some ⟨r,0,none⟩),.int .i64 e] (fun q l h=>by cases h) (.cons (bookRA hb ho hl) (.cons (.v _) .nil))).mono ?_
 rintro x w' ⟨v',rfl,⟨vs,rfl,h2⟩,h3⟩
 cases h2 with
 |cons h2 h4=>cases h4 with
  |cons h4 h5=>cases h5;obtain⟨rfl,_⟩:=ra_agg32 h2;cases h4;exact⟨rfl,h3⟩
theorem getV_len(L:List Ln)(h:∀x∈L,x.2.length=32)(e:Int):(getV L e).length=32:=by
 unfold getV
 split
 ·next x hx=>exact h x (List.mem_of_find?_eq_some hx)
 ·rfl
theorem grownB{w w':World}{row:Option Nat}(h:Below w.heap.size w w'):w.grownBy w' row:=⟨h.os,h.tape,h.output,h.size,fun k hk _=>h.block k hk⟩
theorem grown_alloc(w:World)(o:Obj)(row:Option Nat):w.grownBy (w.alloc o) row:=⟨rfl,rfl,rfl,by rw[size_alloc];omega,fun k hk _=>Below.heap_alloc _ _ _ hk⟩
theorem BookW.grow{w w':World}{r:Nat}{t:TypeId}{v:Value}{L:List Ln}{s f:Int}(h:BookW w r t v L s f)(hg:w.grownBy w' none):BookW w' r t v L s f:=by
 have hb:Blk w' r (BC 0 v s f) t:=(hg.block r h.blk.lt (by simp)).trans h.blk
 exact h.next hb ⟨hg.os,hg.tape,hg.output,hg.size,fun k hk hne=>hg.block k hk (by simp)⟩
structure BookL(w:World)(r:Nat)(t:TypeId)(v:Value)(L:List Ln)(s f:Int):Prop where
 blk:Blk w r (BC 1 v s f) t
 own:w.ownsRow 0 151 33 v L.length (lnC L)
 sep:v.ownBlock≠some r
 len:∀x∈L,x.2.length=32
theorem BookL.of{w:World}{r:Nat}{t:TypeId}{v:Value}{L:List Ln}{s f:Int}(h:BookW w r t v L s f):BookL (w.setCell ⟨r,0,none⟩ (.int .i32 1)) r t v L s f:=by
 have hb:Blk (w.setCell ⟨r,0,none⟩ (.int .i32 1)) r (BC 1 v s f) t:=(h.blk.set 0 _).copy rfl
 have hg:w.grownBy (w.setCell ⟨r,0,none⟩ (.int .i32 1)) (some r):=grown_setCell (grown_refl w _) 0 _
 refine⟨hb,⟨h.own.1,?_⟩,h.sep,h.len⟩
 rcases h.own.2 with h1|⟨q,cap,cur,e,h2,h3,h4⟩
 ·exact .inl h1
 ·refine .inr ⟨q,cap,cur,e,h2,?_,h4⟩
  rw[hg.block q (Array.getElem?_eq_some_iff.1 h3).1 (fun e2=>h.sep (by rw[e];cases e2;rfl))]
  exact h3
theorem BookL.grow{w w':World}{r:Nat}{t:TypeId}{v:Value}{L:List Ln}{s f:Int}(h:BookL w r t v L s f)(hg:w.grownBy w' none):BookL w' r t v L s f:=by
 refine⟨(hg.block r h.blk.lt (by simp)).trans h.blk,⟨h.own.1,?_⟩,h.sep,h.len⟩
 rcases h.own.2 with h1|⟨q,cap,cur,e,h2,h3,h4⟩
 ·exact .inl h1
 ·exact .inr ⟨q,cap,cur,e,h2,(hg.block q (Array.getElem?_eq_some_iff.1 h3).1 (by simp)).trans h3,h4⟩
theorem BookL.setNew{w:World}{r g:Nat}{t:TypeId}{v:Value}{L:List Ln}{s f:Int}(h:BookL w r t v L s f)(hg:g≠r)(hv:v.ownBlock≠some g)(cs:Array Value):BookL (w.setRow g cs) r t v L s f:=by
 refine⟨(setRow_other _ _ _ _ (Ne.symm hg)).trans h.blk,⟨h.own.1,?_⟩,h.sep,h.len⟩
 rcases h.own.2 with h1|⟨q,cap,cur,e,h2,h3,h4⟩
 ·exact .inl h1
 ·exact .inr ⟨q,cap,cur,e,h2,(setRow_other _ _ _ _ (fun e2=>hv (by rw[e,←e2];rfl))).trans h3,h4⟩
theorem BookL.lt{w:World}{r:Nat}{t:TypeId}{v:Value}{L:List Ln}{s f:Int}(h:BookL w r t v L s f):∀q,v.ownBlock=some q→q<w.heap.size:=by
 intro q hq
 rcases h.own.2 with⟨e1,e2⟩|⟨q',cap,cur,e,h2,h3,h4⟩
 ·rw[e1]at hq;cases hq
 ·rw[e]at hq;cases hq;exact(Array.getElem?_eq_some_iff.1 h3).1
theorem BookL.find{w:World}{r:Nat}{t:TypeId}{v:Value}{L:List Ln}{s f:Int}(h:BookL w r t v L s f)(hL:L.length≤1000000)(e:Int):
  Calls Tryz.prog 77 #[.pointer (some ⟨r,0,none⟩),.int .i64 e] w fun x w'=>x=.returned (.tuple #[HV (getV L e),.bool (hasV L e)])∧Below w.heap.size w w':=find_any e hL h.blk h.own h.len
end
section
theorem BookL.grownX{w w':World}{r:Nat}{t:TypeId}{v:Value}{L:List Ln}{s f:Int}(h:BookL w r t v L s f)(hb:Below w.heap.size w w'):BookL w' r t v L s f:=h.grow (grownB hb)
set_option maxRecDepth 100000 in
set_option maxHeartbeats 1000000 in
theorem write_arg(w:World)(r:Nat)(t:TypeId)(v:Value)(L:List Ln)(s f e:Int)(p:List UInt8)(hp:p.length=32)(he:e<0∨e>1099511627776)(h:BookW w r t v L s f):
  Calls Tryz.prog 45 #[.pointer (some ⟨r,0,none⟩),.int .i64 e,.agg (HC p)] w fun x w'=>x=.returned (.int .i64 1)∧Blk w' r (BC 0 v s f) t∧w.grownBy w' (some r):=by
 have hA:=h.grow (grown_alloc w (.cells (HC p) 28) none)
 have HA:=Lib.hid hA.blk;have HG:=Lib.hid (grown_alloc w (.cells (HC p) 28) (some r))
 clear h hA hp
 rcases he with he|he
 ·go_enter Tryz.func45,Tryz.ntmps45
  go_wp2
  go_ret
  exact⟨rfl,HA.out,HG.out⟩
 ·have he2:¬e<0:=by omega
  go_enter Tryz.func45,Tryz.ntmps45
  go_wp2
  go_ret
  exact⟨rfl,HA.out,HG.out⟩
theorem wplB_gen{P:Program}{ops:Array Oper}{rest:List Oper}{Q:Exit→Act→World→Prop}{a:Act}{w:World}(h:∀w1,w1=w→wpList P ops Q rest a w1):wpList P ops Q rest a w:=h w rfl
attribute [local go_sem] eqh_guard
set_option maxRecDepth 100000 in
set_option maxHeartbeats 2000000 in
theorem write_walk (w : World) (r : Nat) (t : TypeId) (v : Value) (L : List Ln) (s f e : Int) (p : List UInt8) (hp : p.length = 32) (h0 : 0 ≤ e) (h1 : e ≤ 1099511627776) (hL : L.length ≤ 1000000) (hh : hasV L e = true) (b : Bool) (hy : (getV L e == p) = b) (h : BookW w r t v L s f) :
    Calls Tryz.prog 45 #[.pointer (some ⟨r, 0, none⟩), .int .i64 e, .agg (HC p)] w fun x w' => x = .returned (.int .i64 (if b = true then 0 else 9)) ∧ Blk w' r (BC 0 v s f) t ∧ w.grownBy w' (some r) := by
  have hlen := getV_len L h.len e
  have hsz : (Tryz.prog.info? 28).map (·.size) = some (HC (getV L e)).size := by rw [HC_size, hlen]; kernel_rfl
  have hsz2 : (HC (List.replicate 32 (0 : UInt8))).size = (HC (getV L e)).size := by rw [HC_size, HC_size, hlen]; rfl
  have hsz3 : (Tryz.prog.info? 28).map (·.size) = some (HC p).size := by rw [HC_size, hp]; kernel_rfl
  have hA := h.grow (grown_alloc w (.cells (HC p) 28) none)
  have he2 : ¬ e < 0 := by omega
  have he3 : ¬ e > 1099511627776 := by omega
  obtain ⟨ie, hie⟩ := infoe8
  have kE := fun w1 => equal_hash (P := Tryz.prog) w1 Tryz.underlying28 Tryz.underlying5 hie (by kernel_rfl) (getV L e) p hlen hp
  rw [hy] at kE
  have S1 := Lib.hid hsz; have S2 := Lib.hid hsz2; have S3 := Lib.hid hsz3
  have HH := Lib.hid h; have HLL := Lib.hid hL; have HA := Lib.hid hA
  clear h hL hlen hsz hsz2 hsz3 h0 h1 hp hA hy
  go_enter_defers Tryz.func45, Tryz.ntmps45
  go_wp2_with fail
  go_at_call 21
  refine (lock_free ⟨r, 0, none⟩ _ (HA.out.blk.cell 0) (HA.out.blk.frozen 0)).mono ?_
  rintro x1 w1 ⟨rfl, hw1⟩
  have hL1 : BookL w1 r t v L s f := by rw [hw1]; exact BookL.of HA.out
  have hR1 : Blk w1 w.heap.size (HC p) 28 := by
    rw [hw1]
    exact (Blk.newAt _ _ rfl).other _ _ (by have := HH.out.blk.lt; show w.heap.size ≠ r; omega)
  have hG1 : w.grownBy w1 (some r) := by rw [hw1]; exact grown_setCell (grown_alloc w _ _) 0 _
  have HL1 := Lib.hid hL1; have HR1 := Lib.hid hR1; have HG1 := Lib.hid hG1
  clear hw1 hL1 hR1 hG1
  go_wp2_with fail
  go_at_call 77
  refine (HL1.out.find HLL.out e).mono ?_
  rintro x2 w2 ⟨rfl, hb2⟩
  have hL2 := (HL1.out.grow (grownB hb2)).grow (grown_alloc w2 (.cells (HC (List.replicate 32 (0 : UInt8))) 28) none)
  have hR2 : Blk (w2.alloc (.cells (HC (List.replicate 32 (0 : UInt8))) 28)) w.heap.size (HC p) 28 := (HR1.out.keep hb2).keep ((Below.refl _ _).alloc (Nat.le_refl _) _)
  have hR3 : Blk (w2.alloc (.cells (HC (List.replicate 32 (0 : UInt8))) 28)) w2.heap.size (HC (List.replicate 32 (0 : UInt8))) 28 := Blk.newAt _ _ rfl
  have hG2 : w.grownBy (w2.alloc (.cells (HC (List.replicate 32 (0 : UInt8))) 28)) (some r) := grown_trans (grown_trans HG1.out (grownB hb2)) (grown_alloc w2 _ _)
  have hn1 : w.heap.size < w2.heap.size := Nat.lt_of_lt_of_le HR1.out.lt hb2.size
  have hn2 : r < w.heap.size := HH.out.blk.lt
  have hvn : v.ownBlock ≠ some w2.heap.size := fun e => by have := (HL1.out.grow (grownB hb2)).lt _ e; omega
  have HL2 := Lib.hid hL2; have HR2 := Lib.hid hR2; have HR3 := Lib.hid hR3; have HG2 := Lib.hid hG2; have HN1 := Lib.hid hn1; have HN2 := Lib.hid hn2; have HVN := Lib.hid hvn
  clear hb2 hL2 hR2 hR3 hG2 hn1 hn2 hvn
  cases b
  case false =>
    go_wp2_with (first
      | (refine wpList_store_row rfl 28 _ _ rfl w2.heap.size (HC (getV L e)) rfl rfl 28 (HC (List.replicate 32 0)) HR3.out S1.out S2.out (HC_one _) ?_
         refine wplB_gen (fun w3 hw3 => ?_)
         have hL3 : BookL w3 r t v L s f := by rw [hw3]; exact HL2.out.setNew (by have := HN1.out; have := HN2.out; omega) HVN.out (HC (getV L e))
         have hR4 : Blk w3 w.heap.size (HC p) 28 := by rw [hw3]; exact (setRow_other _ _ _ _ (by have := HN1.out; omega)).trans HR2.out
         have hR5 : Blk w3 w2.heap.size (HC (getV L e)) 28 := by rw [hw3]; exact HR3.out.setRow _
         have hG3 : w.grownBy w3 (some r) := by rw [hw3]; exact grown_setRow HG2.out _ (.inl (Nat.le_of_lt HN1.out))
         have HL3 := Lib.hid hL3; have HR4 := Lib.hid hR4; have HR5 := Lib.hid hR5; have HG3 := Lib.hid hG3
         clear hw3 hL3 hR4 hR5 hG3)
      | (refine list_wanted rfl ?_; refine wpList_load_row rfl 28 _ rfl w2.heap.size rfl 28 (HC (getV L e)) (0, 0) _ HR5.out Tryz.underlying28 rfl S1.out ?_)
      | (refine list_wanted rfl ?_; refine wpList_load_row rfl 28 _ rfl w.heap.size rfl 28 (HC p) (0, 0) _ HR4.out Tryz.underlying28 rfl S3.out ?_))
    refine leaves_cons (f := 22) (args := #[.pointer (some ⟨r, 0, none⟩)]) (by simp) (by simp [go_sem]) ?_
    refine (unlock_deferred ⟨r, 0, none⟩ _ _ (HL3.out.blk.cell 0) (HL3.out.blk.frozen 0)).mono ?_
    rintro x4 u' w4 ⟨rfl, rfl, hw4⟩
    have hk4 : Blk w4 r (BC 0 v s f) t := by rw [hw4]; exact (HL3.out.blk.set 0 _).copy rfl
    have hg4 : w.grownBy w4 (some r) := by rw [hw4]; exact grown_setCell HG3.out 0 _
    clear hw4
    simp [Leaves, settle, results, Tryz.results45]
    exact ⟨hk4, hg4⟩
  case true =>
    go_wp2_with (first
      | (refine wpList_store_row rfl 28 _ _ rfl w2.heap.size (HC (getV L e)) rfl rfl 28 (HC (List.replicate 32 0)) HR3.out S1.out S2.out (HC_one _) ?_
         refine wplB_gen (fun w3 hw3 => ?_)
         have hL3 : BookL w3 r t v L s f := by rw [hw3]; exact HL2.out.setNew (by have := HN1.out; have := HN2.out; omega) HVN.out (HC (getV L e))
         have hR4 : Blk w3 w.heap.size (HC p) 28 := by rw [hw3]; exact (setRow_other _ _ _ _ (by have := HN1.out; omega)).trans HR2.out
         have hR5 : Blk w3 w2.heap.size (HC (getV L e)) 28 := by rw [hw3]; exact HR3.out.setRow _
         have hG3 : w.grownBy w3 (some r) := by rw [hw3]; exact grown_setRow HG2.out _ (.inl (Nat.le_of_lt HN1.out))
         have HL3 := Lib.hid hL3; have HR4 := Lib.hid hR4; have HR5 := Lib.hid hR5; have HG3 := Lib.hid hG3
         clear hw3 hL3 hR4 hR5 hG3)
      | (refine list_wanted rfl ?_; refine wpList_load_row rfl 28 _ rfl w2.heap.size rfl 28 (HC (getV L e)) (0, 0) _ HR5.out Tryz.underlying28 rfl S1.out ?_)
      | (refine list_wanted rfl ?_; refine wpList_load_row rfl 28 _ rfl w.heap.size rfl 28 (HC p) (0, 0) _ HR4.out Tryz.underlying28 rfl S3.out ?_))
    refine leaves_cons (f := 22) (args := #[.pointer (some ⟨r, 0, none⟩)]) (by simp) (by simp [go_sem]) ?_
    refine (unlock_deferred ⟨r, 0, none⟩ _ _ (HL3.out.blk.cell 0) (HL3.out.blk.frozen 0)).mono ?_
    rintro x4 u' w4 ⟨rfl, rfl, hw4⟩
    have hk4 : Blk w4 r (BC 0 v s f) t := by rw [hw4]; exact (HL3.out.blk.set 0 _).copy rfl
    have hg4 : w.grownBy w4 (some r) := by rw [hw4]; exact grown_setCell HG3.out 0 _
    clear hw4
    simp [Leaves, settle, results, Tryz.results45]
    exact ⟨hk4, hg4⟩
set_option maxRecDepth 100000 in
set_option maxHeartbeats 2000000 in
theorem write_full (w : World) (r : Nat) (t : TypeId) (v : Value) (L : List Ln) (s f e : Int) (p : List UInt8) (hp : p.length = 32) (h0 : 0 ≤ e) (h1 : e ≤ 1099511627776) (hL : L.length ≤ 1000000) (hh : hasV L e = false) (hfull : 100 ≤ L.length) (h : BookW w r t v L s f) :
    Calls Tryz.prog 45 #[.pointer (some ⟨r, 0, none⟩), .int .i64 e, .agg (HC p)] w fun x w' => x = .returned (.int .i64 12) ∧ Blk w' r (BC 0 v s f) t ∧ w.grownBy w' (some r) := by
  have hlen := getV_len L h.len e
  have hsz : (Tryz.prog.info? 28).map (·.size) = some (HC (getV L e)).size := by rw [HC_size, hlen]; kernel_rfl
  have hsz2 : (HC (List.replicate 32 (0 : UInt8))).size = (HC (getV L e)).size := by rw [HC_size, HC_size, hlen]; rfl
  have hsz3 : (Tryz.prog.info? 28).map (·.size) = some (HC p).size := by rw [HC_size, hp]; kernel_rfl
  have hA := h.grow (grown_alloc w (.cells (HC p) 28) none)
  have he2 : ¬ e < 0 := by omega
  have he3 : ¬ e > 1099511627776 := by omega
  obtain ⟨ad, c, rfl⟩ := run_len_any h.own
  have hge : (100 : Int) ≤ (L.length : Int) := by omega
  have S1 := Lib.hid hsz; have S2 := Lib.hid hsz2; have S3 := Lib.hid hsz3
  have HH := Lib.hid h; have HLL := Lib.hid hL; have HA := Lib.hid hA
  clear h hL hlen hsz hsz2 hsz3 h0 h1 hp hA hfull
  go_enter_defers Tryz.func45, Tryz.ntmps45
  go_wp2_with fail
  go_at_call 21
  refine (lock_free ⟨r, 0, none⟩ _ (HA.out.blk.cell 0) (HA.out.blk.frozen 0)).mono ?_
  rintro x1 w1 ⟨rfl, hw1⟩
  have hL1 : BookL w1 r t (.slice ad L.length c) L s f := by rw [hw1]; exact BookL.of HA.out
  have hR1 : Blk w1 w.heap.size (HC p) 28 := by
    rw [hw1]
    exact (Blk.newAt _ _ rfl).other _ _ (by have := HH.out.blk.lt; show w.heap.size ≠ r; omega)
  have hG1 : w.grownBy w1 (some r) := by rw [hw1]; exact grown_setCell (grown_alloc w _ _) 0 _
  have HL1 := Lib.hid hL1; have HR1 := Lib.hid hR1; have HG1 := Lib.hid hG1
  clear hw1 hL1 hR1 hG1
  go_wp2_with fail
  go_at_call 77
  refine (HL1.out.find HLL.out e).mono ?_
  rintro x2 w2 ⟨rfl, hb2⟩
  have hL2 := (HL1.out.grow (grownB hb2)).grow (grown_alloc w2 (.cells (HC (List.replicate 32 (0 : UInt8))) 28) none)
  have hR2 : Blk (w2.alloc (.cells (HC (List.replicate 32 (0 : UInt8))) 28)) w.heap.size (HC p) 28 := (HR1.out.keep hb2).keep ((Below.refl _ _).alloc (Nat.le_refl _) _)
  have hR3 : Blk (w2.alloc (.cells (HC (List.replicate 32 (0 : UInt8))) 28)) w2.heap.size (HC (List.replicate 32 (0 : UInt8))) 28 := Blk.newAt _ _ rfl
  have hG2 : w.grownBy (w2.alloc (.cells (HC (List.replicate 32 (0 : UInt8))) 28)) (some r) := grown_trans (grown_trans HG1.out (grownB hb2)) (grown_alloc w2 _ _)
  have hn1 : w.heap.size < w2.heap.size := Nat.lt_of_lt_of_le HR1.out.lt hb2.size
  have hn2 : r < w.heap.size := HH.out.blk.lt
  have hvn : (Value.slice ad L.length c).ownBlock ≠ some w2.heap.size := fun e => by have := (HL1.out.grow (grownB hb2)).lt _ e; omega
  have HL2 := Lib.hid hL2; have HR2 := Lib.hid hR2; have HR3 := Lib.hid hR3; have HG2 := Lib.hid hG2; have HN1 := Lib.hid hn1; have HN2 := Lib.hid hn2; have HVN := Lib.hid hvn
  clear hb2 hL2 hR2 hR3 hG2 hn1 hn2 hvn
  go_wp2_with (first
    | (refine wpList_store_row rfl 28 _ _ rfl w2.heap.size (HC (getV L e)) rfl rfl 28 (HC (List.replicate 32 0)) HR3.out S1.out S2.out (HC_one _) ?_
       refine wplB_gen (fun w3 hw3 => ?_)
       have hL3 : BookL w3 r t (.slice ad L.length c) L s f := by rw [hw3]; exact HL2.out.setNew (by have := HN1.out; have := HN2.out; omega) HVN.out (HC (getV L e))
       have hR4 : Blk w3 w.heap.size (HC p) 28 := by rw [hw3]; exact (setRow_other _ _ _ _ (by have := HN1.out; omega)).trans HR2.out
       have hR5 : Blk w3 w2.heap.size (HC (getV L e)) 28 := by rw [hw3]; exact HR3.out.setRow _
       have hG3 : w.grownBy w3 (some r) := by rw [hw3]; exact grown_setRow HG2.out _ (.inl (Nat.le_of_lt HN1.out))
       have c2 : w3.cell? ⟨r, 2, none⟩ = some (.slice ad L.length c) := hL3.blk.cell 2
       have HL3 := Lib.hid hL3; have HR4 := Lib.hid hR4; have HR5 := Lib.hid hR5; have HG3 := Lib.hid hG3
       clear hw3 hL3 hR4 hR5 hG3)
    | (refine list_wanted rfl ?_; refine wpList_load_row rfl 28 _ rfl w2.heap.size rfl 28 (HC (getV L e)) (0, 0) _ HR5.out Tryz.underlying28 rfl S1.out ?_)
    | (refine list_wanted rfl ?_; refine wpList_load_row rfl 28 _ rfl w.heap.size rfl 28 (HC p) (0, 0) _ HR4.out Tryz.underlying28 rfl S3.out ?_))
  refine leaves_cons (f := 22) (args := #[.pointer (some ⟨r, 0, none⟩)]) (by simp) (by simp [go_sem]) ?_
  refine (unlock_deferred ⟨r, 0, none⟩ _ _ (HL3.out.blk.cell 0) (HL3.out.blk.frozen 0)).mono ?_
  rintro x4 u' w4 ⟨rfl, rfl, hw4⟩
  have hk4 : Blk w4 r (BC 0 (.slice ad L.length c) s f) t := by rw [hw4]; exact (HL3.out.blk.set 0 _).copy rfl
  have hg4 : w.grownBy w4 (some r) := by rw [hw4]; exact grown_setCell HG3.out 0 _
  clear hw4
  simp [Leaves, settle, results, Tryz.results45]
  exact ⟨hk4, hg4⟩
end
section
def lineC(e:Int)(p:List UInt8):Array Value:=(Value.int .i64 e::HL p).toArray
theorem lineC_size(e:Int)(p:List UInt8)(hp:p.length=32):(lineC e p).size=33:=by simp[lineC,HL_length,hp]
theorem rl_line{D:Nat→Prop}{w:World}{e:Int}{p:List UInt8}{cs:Array Value}(h:RL D w [.ints .i64 1 [e],.bytes 32 p] cs.toList):cs=lineC e p:=by
 obtain⟨c,d,h1,h2,h3,_⟩:=h.head
 obtain⟨_,rfl⟩:=h2.toInts
 obtain⟨_,rfl⟩:=h3.toBytes
 apply Array.toList_inj.1
 rw[h1];rfl
theorem rl_of_line{D:Nat→Prop}{w:World}(e:Int){p:List UInt8}(hp:p.length=32):RL D w [.ints .i64 1 [e],.bytes 32 p] (lineC e p).toList:=
 RL.append (.ofInts (k:=.i64) (n:=1) (zs:=[e]) rfl rfl) (RL.ofBytes hp rfl)
theorem line_ty:∃i,env0.Y 151=some i∧i.agg=true∧i.esz=0∧i.plc=[(0,1),(1,32)]∧i.zero=[.ints .i64 1 [0],.bytes 32 (List.replicate 32 0)]∧i.sz=33∧i.bytes=40:=⟨_,rfl,rfl,rfl,rfl,rfl,rfl,rfl⟩
theorem built_line(e:Int){p:List UInt8}(hp:p.length=32):Tryz.prog.built 151 [(0,.int .i64 e),(1,.agg (HC p))]=some (lineC e p):=by
 obtain⟨i,hY,ha,he,hpl,hz,_⟩:=line_ty
 obtain⟨f,z,h1,h2,_,h3,h4⟩:=(env0.hY _ i hY).info
 obtain⟨fs,k1,k2⟩:=(env0.hY _ i hY).plc ha he
 rw[hz]at h4
 obtain⟨l',rfl,hf⟩:=fillA_spec (off:=fun q=>i.plc[q]?) (s:=⟨[.d (.v (.int .i64 e)),.d (.agg [.bytes 32 p])],[]⟩) (parts:=[(0,.tmp 0),(1,.tmp 1)]) (l:=[.ints .i64 1 [0],.bytes 32 (List.replicate 32 0)]) (K:=fun l=>l=[.ints .i64 1 [e],.bytes 32 p]) (by rw[hpl];exact⟨by decide,rfl,rfl,by decide,rfl,rfl⟩)
 obtain⟨cs',h5,h6⟩:=hf (D:=fun _=>True) (w:=default) (ρ:=fun _=>none) (fun x=>match x with| .tmp 0=>.int .i64 e|_=>.agg (HC p)) z.cells (fun q hq=>by
  rcases List.mem_cons.1 hq with rfl|hq
  ·exact .v _
  ·rcases List.mem_cons.1 hq with rfl|hq
   ·exact .agg (.ofBytes hp rfl)
   ·cases hq) (zeroB_spec h4)
 rw[←rl_line h6]
 have h1':Tryz.prog.info? 151=some f:=h1
 have k1':Tryz.prog.underlying 151=some (.struct fs):=k1
 have k2':fs.toList.mapM (fun f=>(Tryz.prog.info? f.type).map fun j=>(f.offset,j.size))=some i.plc:=k2
 unfold Program.built
 simp only[h1',k1',h3,k2']
 have e9:(fun x:Nat=>i.plc.toArray[x]?)=fun q:Nat=>i.plc[q]?:=by funext q;simp
 rw[e9]
 exact h5
theorem slice_line(w:World)(e:Int){p:List UInt8}(hp:p.length=32):(Instr.buildSlice 82 1 #[(0,.agg (lineC e p))]).run Tryz.prog w=.ok (.slice (some ⟨w.heap.size,0,none⟩) 1 1) (w.alloc (.cells (lineC e p) 151)):=by
 obtain⟨i,hY,ha,he,hpl,hz,hsz,_⟩:=line_ty
 obtain⟨f,z,h1,h2,_,h3,h4⟩:=(env0.hY _ i hY).info
 have hfs:f.size=33:=h2.trans hsz
 rw[hz]at h4
 have hzr:=zeroB_spec (S:=fun _=>True) (w:=w) h4
 have hzl:z.cells.size=33:=by have:=hzr.len;simpa[segN,Seg.n]using this
 have hc:=many_cells z.cells (by omega) 1
 obtain⟨l',rfl,hf⟩:=fillA_spec (off:=fun q=>some (q*33,33)) (s:=⟨[.d (.agg [.ints .i64 1 [e],.bytes 32 p])],[]⟩) (parts:=[(0,.tmp 0)]) (l:=[.ints .i64 1 [0],.bytes 32 (List.replicate 32 0)]) (K:=fun l=>l=[.ints .i64 1 [e],.bytes 32 p]) ⟨by decide,rfl,rfl⟩
 obtain⟨cs',h5,h6⟩:=hf (D:=fun _=>True) (w:=w) (ρ:=fun _=>none) (fun x=>.agg (lineC e p)) ((Array.range (1*f.size)).map (z.cells[·%z.cells.size]!)) (fun q hq=>by
  rcases List.mem_cons.1 hq with rfl|hq
  ·have:=RA.agg (rl_of_line (D:=fun _=>True) (w:=w) e hp);exact this
  ·cases hq) (by rw[hfs,←hzl,hc];simpa using hzr)
 rw[rl_line h6]at h5
 have hu:Tryz.prog.underlying 82=some (.slice 151):=Tryz.underlying82
 exact run_buildSlice (P:=Tryz.prog) w 82 151 1 #[(0,.agg (lineC e p))] (lineC e p) f z hu h1 h3 (by rw[hfs];decide) (by rw[hfs];decide) (by rw[←hfs]at h5;exact h5)
theorem append_line(w:World){v:Value}{L:List Ln}{g:Nat}(e:Int){p:List UInt8}(hp:p.length=32)(ty:TypeId)(hL:L.length≤1000)(ho:w.ownsRow 0 151 33 v L.length (lnC L))(hg:Blk w g (lineC e p) 151):
  ∃v' w',(Builtin.append_ #[82,82] ty #[v,.slice (some ⟨g,0,none⟩) 1 1]).run Tryz.prog w=.ok v' w'∧w'.ownsRow 0 151 33 v' (L.length+1) (lnC (L++[(e,p)]))∧w.grownBy w' v.ownBlock∧(v'.ownBlock=v.ownBlock∨v'.ownBlock=some w.heap.size):=by
 obtain⟨i,hY,ha,he,hpl,hz,hsz,hby⟩:=line_ty
 obtain⟨f,z,h1,h2,h2b,h3,h4⟩:=(env0.hY _ i hY).info
 have hfs:f.size=33:=h2.trans hsz
 rw[hz]at h4
 have hzr:=zeroB_spec (S:=fun _=>True) (w:=w) h4
 have hzl:z.cells.size=33:=by have:=hzr.len;simpa[segN,Seg.n]using this
 obtain⟨v',w',k1,k2,k3,_,k5⟩:=run_append_own_at (P:=Tryz.prog) w 0 82 ty 151 f z 33 40 Tryz.underlying82 h1 h3 hfs (h2b.trans hby) hzl (by decide) v L.length (lnC L) ho ⟨g,0,none⟩ 1 1 (lineC e p).toList (by rw[Array.length_toList,lineC_size e p hp]) (fun j u hu=>by
   rw[add_at,Nat.zero_add,hg.cell j,←Array.getElem?_toList];exact hu) (rl_of_line (D:=fun _=>True) (w:=w) e hp).one (by unfold maxLen;omega) (by omega) (Nat.zero_le _)
 refine⟨v',w',k1,?_,k3,k5⟩
 have:lnC (L++[(e,p)])=lnC L++(lineC e p).toList:=by simp[lnC,lineC]
 rw[this];exact k2
end
section
def cstB(r:Nat)(V:Value)(e:Int)(p:List UInt8):Nat→Option Value
 |0=>some (.pointer (some ⟨r,0,none⟩))
 |1=>some (.pointer (some ⟨r,0,none⟩))
 |2=>some (.pointer (some ⟨r,0,none⟩))
 |3=>some (.pointer (some ⟨r,2,none⟩))
 |4=>some V
 |5=>some (.int .i64 e)
 |6=>some (.agg (HC p))
 |7=>some (.agg (lineC e p))
 |10=>some (.pointer (some ⟨r,0,none⟩))
 |11=>some (.pointer (some ⟨r,2,none⟩))
 |_=>none
structure JB(w3:World)(r A0:Nat)(t:TypeId)(V:Value)(L:List Ln)(s f e:Int)(p:List UInt8)(S:Nat→Bool)(vals:Nat→Value)(w:World):Prop where
 grown:GrownX (fun k=>k=r∨V.ownBlock=some k) w3 w
 paper:Blk w A0 (HC p) 28
 val:∀k x,S k=true→cstB r V e p k=some x→vals k=x
 x8:S 8=true→∃g,vals 8=.slice (some ⟨g,0,none⟩) 1 1∧Blk w g (lineC e p) 151∧w3.heap.size≤g
 old:S 9=false→w.ownsRow 0 151 33 V L.length (lnC L)
 new:S 9=true→w.ownsRow 0 151 33 (vals 9) (L.length+1) (lnC (L++[(e,p)]))∧((vals 9).ownBlock=V.ownBlock∨∃q,(vals 9).ownBlock=some q∧w3.heap.size≤q)
 blk0:S 12=false→Blk w r (BC 1 V s f) t
 blk1:S 12=true→Blk w r (BC 1 (vals 9) s f) t
 seq:S 12=true→S 9=true
section
variable {w3 : World} {r A0 : Nat} {t : TypeId} {V : Value} {L : List Ln} {s f e : Int} {p : List UInt8} {S : Nat → Bool} {vals : Nat → Value} {w : World}
theorem updV(vals:Nat→Value)(i:Nat)(x:Value){k:Nat}(h:k≠i):(if k=i then x else vals k)=vals k:=if_neg h
theorem JB.pure(h:JB w3 r A0 t V L s f e p S vals w){i:Nat}{x:Value}(hc:cstB r V e p i=some x):JB w3 r A0 t V L s f e p (add1 S i) (fun j=>if j=i then x else vals j) w:=by
 have n8:8≠i:=by rintro rfl;cases hc
 have n9:9≠i:=by rintro rfl;cases hc
 have n12:12≠i:=by rintro rfl;cases hc
 have s8:=add1_other S n8;have s9:=add1_other S n9;have s12:=add1_other S n12
 have v8:=updV vals i x n8;have v9:=updV vals i x n9
 refine⟨h.grown,h.paper,fun k y hk hy=>?_,fun hk=>?_,fun hk=>?_,fun hk=>?_,fun hk=>?_,fun hk=>?_,fun hk=>?_⟩
 ·by_cases e1:k=i
  ·subst e1;rw[hc]at hy;cases hy;exact if_pos rfl
  ·rw[add1_other S e1]at hk;rw[updV vals i x e1];exact h.val k y hk hy
 ·rw[s8]at hk;rw[v8];exact h.x8 hk
 ·rw[s9]at hk;exact h.old hk
 ·rw[s9]at hk;rw[v9];exact h.new hk
 ·rw[s12]at hk;exact h.blk0 hk
 ·rw[s12]at hk;rw[v9];exact h.blk1 hk
 ·rw[s12]at hk;rw[s9];exact h.seq hk
theorem ownsRow_keep{w w':World}{v:Value}{n:Nat}{xs:List Value}(h:w.ownsRow 0 151 33 v n xs)(hk:∀q,v.ownBlock=some q→q<w.heap.size→w'.heap[q]?=w.heap[q]?):w'.ownsRow 0 151 33 v n xs:=by
 refine⟨h.1,?_⟩
 rcases h.2 with h1|⟨q,cap,cur,e,h2,h3,h4⟩
 ·exact .inl h1
 ·exact .inr ⟨q,cap,cur,e,h2,(hk q (by rw[e];rfl) (Array.getElem?_eq_some_iff.1 h3).1).trans h3,h4⟩
theorem JB.alloc(h:JB w3 r A0 t V L s f e p S vals w)(h9:S 9=false)(h12:S 12=false):JB w3 r A0 t V L s f e p (add1 S 8) (fun j=>if j=8 then .slice (some ⟨w.heap.size,0,none⟩) 1 1 else vals j) (w.alloc (.cells (lineC e p) 151)):=by
 have s9:=add1_other S (show 9≠8 by decide);have s12:=add1_other S (show 12≠8 by decide)
 have ka:∀q,q<w.heap.size→(w.alloc (.cells (lineC e p) 151)).heap[q]?=w.heap[q]?:=fun q hq=>Below.heap_alloc _ _ _ hq
 refine⟨⟨h.grown.os,h.grown.tape,h.grown.output,by rw[size_alloc];have:=h.grown.size;omega,fun k hk hn=>(ka k (Nat.lt_of_lt_of_le hk h.grown.size)).trans (h.grown.block k hk hn)⟩,(ka _ h.paper.lt).trans h.paper,fun k y hk hy=>?_,fun _=>⟨w.heap.size,if_pos rfl,heap_alloc_new _ _,h.grown.size⟩,fun hk=>ownsRow_keep (h.old h9) fun q _ hq=>ka q hq,fun hk=>?_,fun hk=>(ka _ (h.blk0 h12).lt).trans (h.blk0 h12),fun hk=>?_,fun hk=>?_⟩
 ·have e1:k≠8:=by rintro rfl;cases hy
  rw[add1_other S e1]at hk;rw[updV vals 8 _ e1];exact h.val k y hk hy
 ·rw[s9,h9]at hk;cases hk
 ·rw[s12,h12]at hk;cases hk
 ·rw[s12,h12]at hk;cases hk
theorem JB.app(h:JB w3 r A0 t V L s f e p S vals w)(h9:S 9=false)(h12:S 12=false){v':Value}{w':World}(hown:w'.ownsRow 0 151 33 v' (L.length+1) (lnC (L++[(e,p)])))(hg:w.grownBy w' V.ownBlock)(hv:v'.ownBlock=V.ownBlock∨v'.ownBlock=some w.heap.size)(h1:V.ownBlock≠some r)(h2:V.ownBlock≠some A0)(h3:∀q,V.ownBlock=some q→q<w3.heap.size):
  JB w3 r A0 t V L s f e p (add1 S 9) (fun j=>if j=9 then v' else vals j) w':=by
 have s8:=add1_other S (show 8≠9 by decide);have s12:=add1_other S (show 12≠9 by decide)
 have ka:∀q,q<w.heap.size→V.ownBlock≠some q→w'.heap[q]?=w.heap[q]?:=fun q hq hn=>hg.block q hq (fun e=>hn e.symm)
 have hm:∀q,V.ownBlock=some q→q<w3.heap.size:=h3
 refine⟨⟨hg.os.trans h.grown.os,hg.tape.trans h.grown.tape,hg.output.trans h.grown.output,Nat.le_trans h.grown.size hg.size,fun k hk hn=>(ka k (Nat.lt_of_lt_of_le hk h.grown.size) (fun e=>hn (.inr e))).trans (h.grown.block k hk hn)⟩,(ka _ h.paper.lt h2).trans h.paper,fun k y hk hy=>?_,fun hk=>?_,fun hk=>?_,fun _=>?_,fun hk=>(ka _ (h.blk0 h12).lt h1).trans (h.blk0 h12),fun hk=>?_,fun _=>add1_same S 9⟩
 ·have e1:k≠9:=by rintro rfl;cases hy
  rw[add1_other S e1]at hk;rw[updV vals 9 _ e1];exact h.val k y hk hy
 ·rw[s8]at hk
  obtain⟨g,k1,k2,k3⟩:=h.x8 hk
  refine⟨g,by rw[updV vals 9 _ (show 8≠9 by decide)];exact k1,(ka g k2.lt (fun e=>?_)).trans k2,k3⟩
  have:=hm g e;omega
 ·rw[add1_same]at hk;cases hk
 ·show World.ownsRow w' 0 _ 33 v' _ _∧(v'.ownBlock=V.ownBlock∨_)
  refine⟨hown,hv.imp id fun e=>⟨_,e,h.grown.size⟩⟩
 ·rw[s12,h12]at hk;cases hk
theorem JB.store(h:JB w3 r A0 t V L s f e p S vals w)(h9:S 9=true)(h12:S 12=false)(hA:A0≠r)(hr:r<w3.heap.size)(h1:V.ownBlock≠some r)(x:Value):JB w3 r A0 t V L s f e p (add1 S 12) (fun j=>if j=12 then x else vals j) (w.setCell ⟨r,2,none⟩ (vals 9)):=by
 have s8:=add1_other S (show 8≠12 by decide);have s9:=add1_other S (show 9≠12 by decide)
 have v8:=updV vals 12 x (show 8≠12 by decide);have v9:=updV vals 12 x (show 9≠12 by decide)
 have ka:∀q,q≠r→(w.setCell ⟨r,2,none⟩ (vals 9)).heap[q]?=w.heap[q]?:=fun q hq=>heap_setCell_other w ⟨r,2,none⟩ q _ hq
 have hs:(w.setCell ⟨r,2,none⟩ (vals 9)).heap.size=w.heap.size:=by simp[World.setCell]
 have hb:Blk (w.setCell ⟨r,2,none⟩ (vals 9)) r (BC 1 (vals 9) s f) t:=((h.blk0 h12).set 2 _).copy rfl
 obtain⟨n1,n2⟩:=h.new h9
 have hnr:∀q,(vals 9).ownBlock=some q→q≠r:=fun q hq e1=>by
  subst e1
  rcases n2 with n2|⟨q',n2,n3⟩
  ·rw[n2]at hq;exact h1 hq
  ·rw[n2]at hq;cases hq;omega
 refine⟨⟨h.grown.os,h.grown.tape,h.grown.output,by rw[hs];exact h.grown.size,fun k hk hn=>(ka k (fun e=>hn (.inl e))).trans (h.grown.block k hk hn)⟩,(ka _ hA).trans h.paper,fun k y hk hy=>?_,fun hk=>?_,fun hk=>?_,fun _=>?_,fun hk=>?_,fun _=>by rw[v9];exact hb,fun _=>by rw[s9];exact h9⟩
 ·have e1:k≠12:=by rintro rfl;cases hy
  rw[add1_other S e1]at hk;rw[updV vals 12 _ e1];exact h.val k y hk hy
 ·rw[s8]at hk
  obtain⟨g,k1,k2,k3⟩:=h.x8 hk
  exact⟨g,by rw[v8];exact k1,(ka g (by omega)).trans k2,k3⟩
 ·rw[s9,h9]at hk;cases hk
 ·rw[v9]
  exact⟨ownsRow_keep n1 fun q hq _=>ka q (hnr q hq),n2⟩
 ·rw[add1_same]at hk;cases hk
end
end
section
attribute [local go_sem] eqh_guard
theorem opv{P:Program}{ops:Array Oper}{o:Oper}{a:Act}{w w2:World}{v:Value}{F:Value→World→Prop}(hg:o.guard=none)(h:(execOp a.eval o).run P w=.ok (.value v) w2)(hF:F (keeps o.dst v) w2):opRuns P ops (fun _ _=>True) o a w F:=by
 unfold opRuns
 simp only[Region.wanted,hg,h,if_true]
 exact⟨trivial,hF⟩
theorem ops_{P:Program}{ops:Array Oper}{o:Oper}{a:Act}{w w2:World}{F:Value→World→Prop}(hg:o.guard=none)(h:(execOp a.eval o).run P w=.ok .skip w2)(hF:F undef w2):opRuns P ops (fun _ _=>True) o a w F:=by
 unfold opRuns
 simp only[Region.wanted,hg,h,if_true]
 exact⟨trivial,hF⟩
theorem GrownX.trans{X:Nat→Prop}{a b c:World}(h:GrownX X a b)(k:GrownX X b c):GrownX X a c:=⟨k.os.trans h.os,k.tape.trans h.tape,k.output.trans h.output,Nat.le_trans h.size k.size,fun q hq hn=>(k.block q (Nat.lt_of_lt_of_le hq h.size) hn).trans (h.block q hq hn)⟩
theorem GrownX.ofBy{X:Nat→Prop}{r:Nat}{a b:World}(h:a.grownBy b (some r))(hr:X r):GrownX X a b:=⟨h.os,h.tape,h.output,h.size,fun k hk hn=>h.block k hk (fun e=>hn (by cases e;exact hr))⟩
set_option maxRecDepth 100000 in
set_option maxHeartbeats 2000000 in
theorem write_new (w : World) (r : Nat) (t : TypeId) (v : Value) (L : List Ln) (s f e : Int) (p : List UInt8) (hp : p.length = 32) (h0 : 0 ≤ e) (h1 : e ≤ 1099511627776) (hL : L.length ≤ 1000000) (hh : hasV L e = false) (hfull : L.length < 100) (h : BookW w r t v L s f) :
    Calls Tryz.prog 45 #[.pointer (some ⟨r, 0, none⟩), .int .i64 e, .agg (HC p)] w fun x w' => x = .returned (.int .i64 0) ∧ ∃ v', BookW w' r t v' (L ++ [(e, p)]) s f ∧ (v'.ownBlock = v.ownBlock ∨ ∃ q, v'.ownBlock = some q ∧ w.heap.size ≤ q) ∧ GrownX (fun k => k = r ∨ v.ownBlock = some k) w w' := by
  have hlen := getV_len L h.len e
  have hsz : (Tryz.prog.info? 28).map (·.size) = some (HC (getV L e)).size := by rw [HC_size, hlen]; kernel_rfl
  have hsz2 : (HC (List.replicate 32 (0 : UInt8))).size = (HC (getV L e)).size := by rw [HC_size, HC_size, hlen]; rfl
  have hsz3 : (Tryz.prog.info? 28).map (·.size) = some (HC p).size := by rw [HC_size, hp]; kernel_rfl
  have hA := h.grow (grown_alloc w (.cells (HC p) 28) none)
  have he2 : ¬ e < 0 := by omega
  have he3 : ¬ e > 1099511627776 := by omega
  obtain ⟨ad, c, rfl⟩ := run_len_any h.own
  have hge : (L.length : Int) < 100 := by omega
  have S1 := Lib.hid hsz; have S2 := Lib.hid hsz2; have S3 := Lib.hid hsz3; have HP := Lib.hid hp; have HF := Lib.hid hfull
  have HH := Lib.hid h; have HLL := Lib.hid hL; have HA := Lib.hid hA
  clear h hL hlen hsz hsz2 hsz3 h0 h1 hp hA hfull
  go_enter_defers Tryz.func45, Tryz.ntmps45
  go_wp2_with fail
  go_at_call 21
  refine (lock_free ⟨r, 0, none⟩ _ (HA.out.blk.cell 0) (HA.out.blk.frozen 0)).mono ?_
  rintro x1 w1 ⟨rfl, hw1⟩
  have hL1 : BookL w1 r t (.slice ad L.length c) L s f := by rw [hw1]; exact BookL.of HA.out
  have hR1 : Blk w1 w.heap.size (HC p) 28 := by
    rw [hw1]
    exact (Blk.newAt _ _ rfl).other _ _ (by have := HH.out.blk.lt; show w.heap.size ≠ r; omega)
  have hG1 : w.grownBy w1 (some r) := by rw [hw1]; exact grown_setCell (grown_alloc w _ _) 0 _
  have HL1 := Lib.hid hL1; have HR1 := Lib.hid hR1; have HG1 := Lib.hid hG1
  clear hw1 hL1 hR1 hG1
  go_wp2_with fail
  go_at_call 77
  refine (HL1.out.find HLL.out e).mono ?_
  rintro x2 w2 ⟨rfl, hb2⟩
  have hL2 := (HL1.out.grow (grownB hb2)).grow (grown_alloc w2 (.cells (HC (List.replicate 32 (0 : UInt8))) 28) none)
  have hR2 : Blk (w2.alloc (.cells (HC (List.replicate 32 (0 : UInt8))) 28)) w.heap.size (HC p) 28 := (HR1.out.keep hb2).keep ((Below.refl _ _).alloc (Nat.le_refl _) _)
  have hR3 : Blk (w2.alloc (.cells (HC (List.replicate 32 (0 : UInt8))) 28)) w2.heap.size (HC (List.replicate 32 (0 : UInt8))) 28 := Blk.newAt _ _ rfl
  have hG2 : w.grownBy (w2.alloc (.cells (HC (List.replicate 32 (0 : UInt8))) 28)) (some r) := grown_trans (grown_trans HG1.out (grownB hb2)) (grown_alloc w2 _ _)
  have hn1 : w.heap.size < w2.heap.size := Nat.lt_of_lt_of_le HR1.out.lt hb2.size
  have hn2 : r < w.heap.size := HH.out.blk.lt
  have hvn : (Value.slice ad L.length c).ownBlock ≠ some w2.heap.size := fun e => by have := (HL1.out.grow (grownB hb2)).lt _ e; omega
  have HL2 := Lib.hid hL2; have HR2 := Lib.hid hR2; have HR3 := Lib.hid hR3; have HG2 := Lib.hid hG2; have HN1 := Lib.hid hn1; have HN2 := Lib.hid hn2; have HVN := Lib.hid hvn
  clear hb2 hL2 hR2 hR3 hG2 hn1 hn2 hvn
  go_wp2_with (first
    | (refine wpList_store_row rfl 28 _ _ rfl w2.heap.size (HC (getV L e)) rfl rfl 28 (HC (List.replicate 32 0)) HR3.out S1.out S2.out (HC_one _) ?_
       refine wplB_gen (fun w3 hw3 => ?_)
       have hL3 : BookL w3 r t (.slice ad L.length c) L s f := by rw [hw3]; exact HL2.out.setNew (by have := HN1.out; have := HN2.out; omega) HVN.out (HC (getV L e))
       have hR4 : Blk w3 w.heap.size (HC p) 28 := by rw [hw3]; exact (setRow_other _ _ _ _ (by have := HN1.out; omega)).trans HR2.out
       have hR5 : Blk w3 w2.heap.size (HC (getV L e)) 28 := by rw [hw3]; exact HR3.out.setRow _
       have hG3 : w.grownBy w3 (some r) := by rw [hw3]; exact grown_setRow HG2.out _ (.inl (Nat.le_of_lt HN1.out))
       have c2 : w3.cell? ⟨r, 2, none⟩ = some (.slice ad L.length c) := hL3.blk.cell 2
       have HL3 := Lib.hid hL3; have HR4 := Lib.hid hR4; have HR5 := Lib.hid hR5; have HG3 := Lib.hid hG3
       clear hw3 hL3 hR4 hR5 hG3)
    | (refine list_wanted rfl ?_; refine wpList_load_row rfl 28 _ rfl w2.heap.size rfl 28 (HC (getV L e)) (0, 0) _ HR5.out Tryz.underlying28 rfl S1.out ?_)
    | (refine list_wanted rfl ?_; refine wpList_load_row rfl 28 _ rfl w.heap.size rfl 28 (HC p) (0, 0) _ HR4.out Tryz.underlying28 rfl S3.out ?_))
  have hs12 : ∀ {S : Nat → Bool}, (∀ k, S k = true → ∀ j ∈ ([[], [], [1], [2], [3], [], [], [5, 6], [7], [4, 8], [0, 9], [10], [11, 9]] : List (List Nat)).getD k [], S j = true) → S 9 = false → S 12 = false := fun {S} hcl h9 => by
    cases h : S 12 with
    | false => rfl
    | true => have := hcl 12 h 9 (by simp); rw [h9] at this; cases this
  have hA0 : w.heap.size ≠ r := by have := HN2.out; omega
  have hV1 : (Value.slice ad L.length c).ownBlock ≠ some r := HL3.out.sep
  have hV2 : (Value.slice ad L.length c).ownBlock ≠ some w.heap.size := fun e => by have h := HH.out.own.2; rcases h with ⟨e1, _⟩ | ⟨q, cap, cur, e1, _, h5, _⟩ <;> rw [e1] at e <;> cases e; exact absurd (Array.getElem?_eq_some_iff.1 h5).1 (Nat.lt_irrefl _)
  have hV3 := HL3.out.lt
  have hr3 : r < w3.heap.size := HL3.out.blk.lt
  refine region_inv (JB w3 r w.heap.size t (.slice ad L.length c) L s f e p) [[], [], [1], [2], [3], [], [], [5, 6], [7], [4, 8], [0, 9], [10], [11, 9]] (by kernel_rfl) (by kernel_rfl) (by kernel_rfl)
    ⟨⟨rfl, rfl, rfl, Nat.le_refl _, fun _ _ _ => rfl⟩, HR4.out.drew, (fun k x hk => Bool.noConfusion hk), (fun hk => Bool.noConfusion hk), (fun _ => HL3.out.own), (fun hk => Bool.noConfusion hk), (fun _ => HL3.out.blk.drew), (fun hk => Bool.noConfusion hk), (fun hk => Bool.noConfusion hk)⟩ ?_ ?_
  · refine ⟨?_, ?_, ?_, ?_, ?_, ?_, ?_, ?_, ?_, ?_, ?_, ?_, ?_, trivial⟩
    · intro S vals wj hJ hSi hD hcl
      refine opv rfl ?_ (hJ.pure (i := 0) rfl)
      simp [execOp, putAll, Act.put, Act.eval, Instr.fieldAt, go_sem]
    · intro S vals wj hJ hSi hD hcl
      refine opv rfl ?_ (hJ.pure (i := 1) rfl)
      simp [execOp, putAll, Act.put, Act.eval, Instr.fieldAt, go_sem]
    · intro S vals wj hJ hSi hD hcl
      have d1 := hJ.val 1 _ (hD 1 (by simp)) rfl
      refine opv rfl ?_ (hJ.pure (i := 2) rfl)
      simp [execOp, putAll, Act.put, Act.eval, Instr.fieldAt, go_sem, d1]
    · intro S vals wj hJ hSi hD hcl
      have d2 := hJ.val 2 _ (hD 2 (by simp)) rfl
      refine opv rfl ?_ (hJ.pure (i := 3) rfl)
      simp [execOp, putAll, Act.put, Act.eval, Instr.fieldAt, go_sem, d2]
    · intro S vals wj hJ hSi hD hcl
      have d3 := hJ.val 3 _ (hD 3 (by simp)) rfl
      have h9 : S 9 = false := by cases h : S 9 with | false => rfl | true => have := hcl 9 h 4 (by simp); rw [hSi] at this; cases this
      have c9 : wj.cell? ⟨r, 2, none⟩ = some (.slice ad L.length c) := (hJ.blk0 (hs12 hcl h9)).cell 2
      refine opv rfl ?_ (hJ.pure (i := 4) rfl)
      simp [execOp, putAll, Act.put, Act.eval, go_sem, d3, c9]
    · intro S vals wj hJ hSi hD hcl
      refine opv rfl ?_ (hJ.pure (i := 5) rfl)
      simp [execOp, putAll, Act.put, Act.eval, Instr.fieldAt, go_sem]
    · intro S vals wj hJ hSi hD hcl
      have := run_loadVar_row (P := Tryz.prog) wj w.heap.size 28 28 (HC p) (0, 0) _ hJ.paper Tryz.underlying28 rfl S3.out
      exact opv rfl (exec_load rfl (by simp [putAll, Act.put, Act.eval]) this) (hJ.pure (i := 6) rfl)
    · intro S vals wj hJ hSi hD hcl
      have d5 := hJ.val 5 _ (hD 5 (by simp)) rfl
      have d6 := hJ.val 6 _ (hD 6 (by simp)) rfl
      refine opv rfl ?_ (hJ.pure (i := 7) rfl)
      have := run_build wj 151 _ _ (built_line e HP.out)
      simp [execOp, putAll, Act.put, Act.eval, d5, d6, this, Sem.run_bind]
    · intro S vals wj hJ hSi hD hcl
      have d7 := hJ.val 7 _ (hD 7 (by simp)) rfl
      have h9 : S 9 = false := by cases h : S 9 with | false => rfl | true => have := hcl 9 h 8 (by simp); rw [hSi] at this; cases this
      refine opv rfl ?_ (hJ.alloc h9 (hs12 hcl h9))
      have := slice_line wj e HP.out
      simp [execOp, putAll, Act.put, Act.eval, d7, this, Sem.run_bind]
    · intro S vals wj hJ hSi hD hcl
      have d4 := hJ.val 4 _ (hD 4 (by simp)) rfl
      obtain ⟨g, k1, k2, k3⟩ := hJ.x8 (hD 8 (by simp))
      obtain ⟨v', wn, k4, k5, k6, k7⟩ := append_line wj e HP.out 82 (by have := HF.out; omega) (hJ.old hSi) k2
      refine opv rfl ?_ (hJ.app hSi (hs12 hcl hSi) k5 k6 k7 hV1 hV2 hV3)
      simp [execOp, putAll, Act.put, Act.eval, d4, k1, resolve, invoke, builtin, k4, Sem.run_bind]
    · intro S vals wj hJ hSi hD hcl
      have d0 := hJ.val 0 _ (hD 0 (by simp)) rfl
      refine opv rfl ?_ (hJ.pure (i := 10) rfl)
      simp [execOp, putAll, Act.put, Act.eval, Instr.fieldAt, go_sem, d0]
    · intro S vals wj hJ hSi hD hcl
      have d10 := hJ.val 10 _ (hD 10 (by simp)) rfl
      refine opv rfl ?_ (hJ.pure (i := 11) rfl)
      simp [execOp, putAll, Act.put, Act.eval, Instr.fieldAt, go_sem, d10]
    · intro S vals wj hJ hSi hD hcl
      have d11 := hJ.val 11 _ (hD 11 (by simp)) rfl
      have z9 := (hJ.blk0 hSi).frozen 2
      have z8 : wj.cell? ⟨r, 2, none⟩ = some (.slice ad L.length c) := (hJ.blk0 hSi).cell 2
      obtain ⟨ad9, c9, hv9⟩ := run_len_any (hJ.new (hD 9 (by simp))).1
      refine ops_ rfl ?_ (hJ.store (hD 9 (by simp)) hSi hA0 hr3 hV1 undef)
      simp [execOp, putAll, Act.put, Act.eval, go_sem, d11, z9, z8, hv9]
  · intro vals wz hJ
    have e0 := hJ.val 0 _ rfl rfl
    have e1 := hJ.val 1 _ rfl rfl
    have e2 := hJ.val 2 _ rfl rfl
    have e3 := hJ.val 3 _ rfl rfl
    have e4 := hJ.val 4 _ rfl rfl
    have e5 := hJ.val 5 _ rfl rfl
    have e6 := hJ.val 6 _ rfl rfl
    have e7 := hJ.val 7 _ rfl rfl
    have e10 := hJ.val 10 _ rfl rfl
    have e11 := hJ.val 11 _ rfl rfl
    obtain ⟨n1, n2⟩ := hJ.new rfl
    have n3 := hJ.blk1 rfl
    have n4 := hJ.grown
    have hlen2 : (L ++ [(e, p)]).length = L.length + 1 := by simp
    have hok : ∀ x ∈ L ++ [(e, p)], x.2.length = 32 := by
      intro x hx
      rcases List.mem_append.1 hx with hx | hx
      · exact HH.out.len x hx
      · rcases List.mem_cons.1 hx with rfl | hx
        · exact HP.out
        · cases hx
    generalize hV9 : vals 9 = V9 at n1 n2 n3
    have N1 := Lib.hid n1; have N2 := Lib.hid n2; have N3 := Lib.hid n3; have N4 := Lib.hid n4; have HOK := Lib.hid hok; have H1 := Lib.hid hV1
    clear n1 n2 n3 n4 hok hJ hV1 hV2 hV3 hr3 hA0 hs12 hlen2
    simp [putAll, List.range, List.range.loop, Act.put, e0, e1, e2, e3, e4, e5, e6, e7, e10, e11, hV9]
    clear hV9 e0 e1 e2 e3 e4 e5 e6 e7 e10 e11
    go_wp2_with fail
    refine leaves_cons (f := 22) (args := #[.pointer (some ⟨r, 0, none⟩)]) (by simp) (by simp [go_sem]) ?_
    refine (unlock_deferred ⟨r, 0, none⟩ _ _ (N3.out.cell 0) (N3.out.frozen 0)).mono ?_
    rintro x4 u' w4 ⟨rfl, rfl, hw4⟩
    have hr3 : r < w3.heap.size := HL3.out.blk.lt
    have hk4 : Blk w4 r (BC 0 V9 s f) t := by rw [hw4]; exact (N3.out.set 0 _).copy rfl
    have hg4 : wz.grownBy w4 (some r) := by rw [hw4]; exact grown_setCell (grown_refl wz _) 0 _
    have hsep : V9.ownBlock ≠ some r := fun e1 => by
      rcases N2.out with e2 | ⟨q, e2, e3⟩
      · rw [e2] at e1; exact H1.out e1
      · rw [e2] at e1; cases e1; omega
    have hbw : BookW w4 r t V9 (L ++ [(e, p)]) s f := by
      refine ⟨hk4, ?_, hsep, HOK.out⟩
      have e1 : (L ++ [(e, p)]).length = L.length + 1 := by simp
      rw [e1]
      exact ownsRow_keep N1.out fun q hq hlt => hg4.block q hlt (fun e2 => hsep (by cases e2; exact hq))
    have hgw : GrownX (fun k => k = r ∨ (Value.slice ad L.length c).ownBlock = some k) w w4 := ((GrownX.ofBy HG3.out (.inl rfl)).trans N4.out).trans (.ofBy hg4 (.inl rfl))
    have hnb : V9.ownBlock = (Value.slice ad L.length c).ownBlock ∨ ∃ q, V9.ownBlock = some q ∧ w.heap.size ≤ q := N2.out.imp id fun ⟨q, e2, e3⟩ => ⟨q, e2, Nat.le_trans HG3.out.size e3⟩
    clear hw4
    simp [Leaves, settle, results, Tryz.results45]
    exact ⟨V9, hbw, hnb, hgw⟩
end
section
theorem cloneNil_walk(w:World)(m c:Nat):Calls Tryz.prog 95 #[.slice none m c] w fun x w'=>x=.returned (.slice none 0 0)∧w'=w:=by
 have qT:∀(w:World) (a:Option Addr) (n c:Nat),(binOp .eql 82 (.slice a n c) (.slice none 0 0)).run Tryz.prog w=.ok (.bool a.isNone) w:=fun w a n c=>Lib.run_eql_slice_nil w _ _ a n c 0 0 Tryz.underlying82
 go_enter Tryz.func95,Tryz.ntmps95
 go_wp2
 go_ret
 exact⟨rfl,rfl⟩
theorem wpList_run{P:Program}{ops:Array Oper}{rest:List Oper}{o:Oper}{a:Act}{w w2:World}{v:Value}{Q:Exit→Act→World→Prop}(hg:o.guard=none)(hr:(execOp a.eval o).run P w=.ok (.value v) w2)(h:wpList P ops Q rest (a.put o.dst v) w2):wpList P ops Q (o::rest) a w:=
 wpList_plain hg fun _ hK=>by unfold Oper.wp;rw[hr];exact hK _ _ h
theorem lnC_take(L:List Ln)(h:∀x∈L,x.2.length=32)(m:Nat):(lnC L).take (m*33)=lnC (L.take m):=by
 induction L generalizing m with
 |nil=>simp[lnC]
 |cons x L ih=>
  cases m with
  |zero=>simp[lnC]
  |succ m=>
   have hl:(Value.int .i64 x.1::HL x.2).length=33:=by simp[HL_length,h x (by simp)]
   have e:lnC (x::L)=(Value.int .i64 x.1::HL x.2)++lnC L:=rfl
   have e2:lnC ((x::L).take (m+1))=(Value.int .i64 x.1::HL x.2)++lnC (L.take m):=rfl
   rw[e,e2,List.take_append,hl,show(m+1)*33-33=m*33 by omega,ih (fun y hy=>h y (by simp[hy])),List.take_of_length_le (by rw[hl];omega)]
theorem lnC_one(L:List Ln):∀u∈lnC L,u.oneCell'=true:=by
 intro u hu
 obtain⟨x,_,hx⟩:=List.mem_flatMap.1 hu
 rcases List.mem_cons.1 hx with rfl|hx
 ·rfl
 ·exact HL_one _ u hx
theorem append_copy(w:World){q c n:Nat}{cur:Array Value}{L:List Ln}(hq:w.heap[q]?=some (.cells cur 151 (0,0)))(m:Nat)(hm:m≤L.length)(hL:L.length≤1000)(hl:∀x∈L,x.2.length=32)(hcur:cur.toList.take (L.length*33)=lnC L){g:Nat}(hg:w.heap[g]?=some (.cells #[] 151 (0,0)))(ty:TypeId):
  ∃v' w',(Builtin.append_ #[82,82] ty #[.slice (some ⟨g,0,none⟩) 0 0,.slice (some ⟨q,0,none⟩) m c]).run Tryz.prog w=.ok v' w'∧w'.ownsRow 0 151 33 v' m (lnC (L.take m))∧w.grownBy w' (some g)∧(v'.ownBlock=some g∨v'.ownBlock=some w.heap.size):=by
 obtain⟨i,hY,ha,he,hpl,hz,hsz,hby⟩:=line_ty
 obtain⟨f,z,h1,h2,h2b,h3,h4⟩:=(env0.hY _ i hY).info
 have hfs:f.size=33:=h2.trans hsz
 rw[hz]at h4
 have hzr:=zeroB_spec (S:=fun _=>True) (w:=w) h4
 have hzl:z.cells.size=33:=by have:=hzr.len;simpa[segN,Seg.n]using this
 have hnl:=lnC_length (L.take m) fun x hx=>hl x (List.mem_of_mem_take hx)
 rw[List.length_take,Nat.min_eq_left hm]at hnl
 obtain⟨v',w',k1,k2,k3,_,k5⟩:=run_append_own_at (P:=Tryz.prog) w 0 82 ty 151 f z 33 40 Tryz.underlying82 h1 h3 hfs (h2b.trans hby) hzl (by decide) (.slice (some ⟨g,0,none⟩) 0 0) 0 [] ⟨by simp,.inr ⟨g,0,#[],rfl,Nat.zero_le _,hg,Nat.le_refl _,Nat.zero_le _,by simp,by simp⟩⟩ ⟨q,0,none⟩ m c (lnC (L.take m)) hnl (fun j u hu=>by
   have hj:j<m*33:=by rw[←hnl];exact(List.getElem?_eq_some_iff.1 hu).1
   rw[add_at,Nat.zero_add,cell_of_row w q j cur _ (0,0) hq,←Array.getElem?_toList]
   rw[←lnC_take L hl m,←hcur,List.getElem?_take,if_pos hj,List.getElem?_take,if_pos (by have:=Nat.mul_le_mul_right 33 hm;omega)]at hu
   exact hu) (lnC_one _) (by unfold maxLen;omega) (by omega) (Nat.zero_le _)
 rw[Nat.zero_add,List.nil_append]at k2
 exact⟨v',w',k1,k2,k3,k5⟩
set_option maxRecDepth 100000 in
theorem clone_walk (w : World) (q m c : Nat) {cur : Array Value} {L : List Ln} (hq : w.heap[q]? = some (.cells cur 151 (0, 0))) (hm : m ≤ L.length) (hL : L.length ≤ 1000) (hl : ∀ x ∈ L, x.2.length = 32) (hcur : cur.toList.take (L.length * 33) = lnC L) :
    Calls Tryz.prog 95 #[.slice (some ⟨q, 0, none⟩) m c] w fun x w' => ∃ v', x = .returned v' ∧ w'.ownsRow 0 151 33 v' m (lnC (L.take m)) ∧ Below w.heap.size w w' ∧ ∀ z, v'.ownBlock = some z → w.heap.size ≤ z := by
  have qT : ∀ (w : World) (a : Option Addr) (n c : Nat), (binOp .eql 82 (.slice a n c) (.slice none 0 0)).run Tryz.prog w = .ok (.bool a.isNone) w := fun w a n c => Lib.run_eql_slice_nil w _ _ a n c 0 0 Tryz.underlying82
  have hq2 : (w.alloc (.cells #[] 151)).heap[q]? = some (.cells cur 151 (0, 0)) := (Below.heap_alloc _ _ _ (Array.getElem?_eq_some_iff.1 hq).1).trans hq
  obtain ⟨v', wn, k1, k2, k3, k4⟩ := append_copy (w.alloc (.cells #[] 151)) (c := c) (n := m) hq2 m hm hL hl hcur (heap_alloc_new w _) 82
  have hb : Below w.heap.size w wn := ((Below.refl _ _).alloc (Nat.le_refl _) _).grown k3 (by rw [size_alloc]; omega) (by intro k e; cases e; exact Nat.le_refl _)
  have hz : ∀ z, v'.ownBlock = some z → w.heap.size ≤ z := fun z e => by
    rcases k4 with k4 | k4 <;> rw [k4] at e <;> cases e
    · exact Nat.le_refl _
    · rw [size_alloc]; omega
  have K1 := Lib.hid k1; have K2 := Lib.hid k2; have HB := Lib.hid hb; have HZ := Lib.hid hz
  clear k1 k2 k3 k4 hb hz hq hq2 hm hL hl hcur
  go_enter Tryz.func95, Tryz.ntmps95
  go_wp2_with (at_builtin
               refine wpList_run (v := v') (w2 := wn) rfl (by simp [execOp, Act.eval, resolve, invoke, builtin, K1.out, Sem.run_bind]) ?_)
  go_ret
  exact ⟨_, rfl, K2.out, HB.out, HZ.out⟩
end
section
def leftN(n s:Nat)(keep:Int):Nat:=s+min keep.toNat (n-s)
theorem leftN_le{n s:Nat}(h:s≤n)(keep:Int):leftN n s keep≤n:=by unfold leftN;omega
def cstC(r:Nat)(V:Value)(n s:Nat)(keep:Int):Nat→Option Value
 |0=>some (.pointer (some ⟨r,0,none⟩))
 |1=>some (.pointer (some ⟨r,0,none⟩))
 |2=>some (.pointer (some ⟨r,3,none⟩))
 |3=>some (.int .i64 s)
 |4=>some (.int .i64 keep)
 |5=>some (.int .i64 (max keep 0))
 |6=>some (.pointer (some ⟨r,0,none⟩))
 |7=>some (.pointer (some ⟨r,0,none⟩))
 |8=>some (.pointer (some ⟨r,2,none⟩))
 |9=>some V
 |10=>some (.int .i64 n)
 |11=>some (.pointer (some ⟨r,0,none⟩))
 |12=>some (.pointer (some ⟨r,0,none⟩))
 |13=>some (.pointer (some ⟨r,3,none⟩))
 |14=>some (.int .i64 s)
 |15=>some (.int .i64 ((n:Int) -s))
 |16=>some (.int .i64 (min (max keep 0) ((n:Int) -s)))
 |17=>some (.int .i64 (leftN n s keep))
 |18=>some (.int .i64 (leftN n s keep))
 |_=>none
structure JC(w0:World)(r:Nat)(V:Value)(n s:Nat)(keep:Int)(S:Nat→Bool)(vals:Nat→Value)(w:World):Prop where
 w:w=w0
 val:∀k x,S k=true→cstC r V n s keep k=some x→vals k=x
theorem JC.pure{w0:World}{r:Nat}{V:Value}{n s:Nat}{keep:Int}{S:Nat→Bool}{vals:Nat→Value}{w:World}(h:JC w0 r V n s keep S vals w){i:Nat}{x:Value}(hc:cstC r V n s keep i=some x):JC w0 r V n s keep (add1 S i) (fun j=>if j=i then x else vals j) w:=by
 refine⟨h.w,fun k y hk hy=>?_⟩
 by_cases e1:k=i
 ·subst e1;rw[hc]at hy;cases hy;exact if_pos rfl
 ·rw[add1_other S e1]at hk;show(if k=i then x else vals k)=y;rw[if_neg e1];exact h.val k y hk hy
theorem left_int{n s:Nat}(h:s≤n)(keep:Int):(s:Int)+min (max keep 0) ((n:Int) -s)=(leftN n s keep:Nat):=by unfold leftN;omega
theorem built_book{v:Value}(hv:v.oneCell'=true)(z:Int):Tryz.prog.built 84 [(1,v),(2,.int .i64 z)]=some (BC 0 v z 0):=by
 obtain⟨i,hY,ha,he,hpl,hz⟩:∃i,env0.Y 84=some i∧i.agg=true∧i.esz=0∧i.plc=[(0,2),(2,1),(3,1),(4,1)]∧i.zero=[.ints .i32 1 [0],.ints .u32 1 [0],.gen 1 [.v (.slice none 0 0)],.ints .i64 2 [0,0]]:=⟨_,rfl,rfl,rfl,rfl,rfl⟩
 obtain⟨f,z0,h1,h2,_,h3,h4⟩:=(env0.hY _ i hY).info
 obtain⟨fs,k1,k2⟩:=(env0.hY _ i hY).plc ha he
 rw[hz]at h4
 obtain⟨l',rfl,hf⟩:=fillA_spec (off:=fun q=>i.plc[q]?) (s:=⟨[.d (.v v),.d (.v (.int .i64 z))],[]⟩) (parts:=[(1,.tmp 0),(2,.tmp 1)]) (l:=[.ints .i32 1 [0],.ints .u32 1 [0],.gen 1 [.v (.slice none 0 0)],.ints .i64 2 [0,0]]) (K:=fun l=>l=[.ints .i32 1 [0],.ints .u32 1 [0],.gen 1 [.v v],.ints .i64 2 [z,0]]) (by rw[hpl];exact⟨by decide,rfl,hv,by decide,rfl,rfl,rfl⟩)
 obtain⟨cs',h5,h6⟩:=hf (D:=fun _=>True) (w:=default) (ρ:=fun _=>none) (fun x=>match x with| .tmp 0=>v|_=>.int .i64 z) z0.cells (fun q hq=>by
  rcases List.mem_cons.1 hq with rfl|hq
  ·exact .v _
  ·rcases List.mem_cons.1 hq with rfl|hq
   ·exact .v _
   ·cases hq) (zeroB_spec h4)
 have h9:cs'=BC 0 v z 0:=by
  obtain⟨c1,d1,e1,g1,r1,_⟩:=h6.head
  obtain⟨c2,d2,e2,g2,r2,_⟩:=r1.head
  obtain⟨c3,d3,e3,g3,r3,_⟩:=r2.head
  obtain⟨_,rfl⟩:=g1.toInts
  obtain⟨_,rfl⟩:=g2.toInts
  obtain⟨_,g3⟩:=g3.toGen
  obtain⟨_,rfl⟩:=r3.toInts
  cases g3 with
  |cons g4 _ g5=>
   cases g5;cases g4
   apply Array.toList_inj.1
   rw[e1,e2,e3];rfl
 subst h9
 have h1':Tryz.prog.info? 84=some f:=h1
 have k1':Tryz.prog.underlying 84=some (.struct fs):=k1
 have k2':fs.toList.mapM (fun f=>(Tryz.prog.info? f.type).map fun j=>(f.offset,j.size))=some i.plc:=k2
 unfold Program.built
 simp only[h1',k1',h3,k2']
 have e9:(fun x:Nat=>i.plc.toArray[x]?)=fun q:Nat=>i.plc[q]?:=by funext q;simp
 rw[e9]
 exact h5
set_option maxRecDepth 100000 in
set_option maxHeartbeats 1000000 in
theorem crash_walk(w:World)(r:Nat)(t:TypeId)(v:Value)(L:List Ln)(s:Nat)(f keep:Int)(hs:s≤L.length)(hL:L.length≤1000)(hk: -9223372036854775808≤keep∧keep≤9223372036854775807)(h:BookW w r t v L s f):
  Calls Tryz.prog 52 #[.pointer (some ⟨r,0,none⟩),.int .i64 keep] w fun x w'=>∃g v',x=.returned (.pointer (some ⟨g,0,none⟩))∧Blk w' r (BC 0 v s f) t∧BookW w' g 84 v' (L.take (leftN L.length s keep)) (leftN L.length s keep:Nat) 0∧w.heap.size≤g∧(∀z,v'.ownBlock=some z→w.heap.size≤z)∧w.grownBy w' (some r):=by
 have hb:=h.blk
 obtain⟨ad,c,rfl⟩:=run_len_any h.own
 have hb1:Blk (w.setCell ⟨r,0,none⟩ (.int .i32 1)) r (BC 1 (.slice ad L.length c) s f) t:=(hb.set 0 _).copy rfl
 have hg1:w.grownBy (w.setCell ⟨r,0,none⟩ (.int .i32 1)) (some r):=grown_setCell (grown_refl w _) 0 _
 have c2:(w.setCell ⟨r,0,none⟩ (.int .i32 1)).cell? ⟨r,2,none⟩=some (.slice ad L.length c):=hb1.cell 2
 have c3:(w.setCell ⟨r,0,none⟩ (.int .i32 1)).cell? ⟨r,3,none⟩=some (.int .i64 s):=hb1.cell 3
 have HB:=Lib.hid hb;have HB1:=Lib.hid hb1;have HG1:=Lib.hid hg1;have HH:=Lib.hid h;have HS:=Lib.hid hs;have HL:=Lib.hid hL;have HK:=Lib.hid hk
 clear hb hb1 hg1 h hs hL hk
 go_enter_defers Tryz.func52,Tryz.ntmps52
 go_wp2_with (go_at_call 21;refine(lock_free ⟨r,0,none⟩ _ (HB.out.cell 0) (HB.out.frozen 0)).mono ?_;rintro e w' ⟨rfl,rfl⟩)
 have hle:=leftN_le HS.out keep
 have hw1:IntKind.i64.wrap ((L.length:Int) -s)=(L.length:Int) -s:=wrapS (by have:=HS.out;have:=HL.out;omega) (by have:=HS.out;have:=HL.out;omega)
 have hw2:IntKind.i64.wrap ((s:Int)+min (max keep 0) ((L.length:Int) -s))=(leftN L.length s keep:Nat):=by rw[left_int HS.out];exact wrapS (by omega) (by have:=HL.out;omega)
 have W1:=Lib.hid hw1;have W2:=Lib.hid hw2;have C2:=Lib.hid c2;have C3:=Lib.hid c3
 clear hw1 hw2 hle c2 c3
 refine region_inv (JC (w.setCell ⟨r,0,none⟩ (.int .i32 1)).drew r (.slice ad L.length c) L.length s keep) [[],[0],[1],[2],[],[4],[],[6],[7],[8],[9],[],[11],[12],[13],[10,14],[5,15],[3,16],[17]] (by kernel_rfl) (by kernel_rfl) (by kernel_rfl) ⟨rfl,fun k x hk=>Bool.noConfusion hk⟩ ?_ ?_
 ·refine⟨?_,?_,?_,?_,?_,?_,?_,?_,?_,?_,?_,?_,?_,?_,?_,?_,?_,?_,?_,trivial⟩
  ·intro S vals wj hJ hSi hD hcl
   obtain⟨rfl,_⟩:=id hJ
   refine opv rfl ?_ (hJ.pure (i:=0) rfl)
   simp[execOp,putAll,Act.put,Act.eval,Instr.fieldAt,go_sem]
  ·intro S vals wj hJ hSi hD hcl
   obtain⟨rfl,_⟩:=id hJ
   have d0:=hJ.val 0 _ (hD 0 (by simp)) rfl
   refine opv rfl ?_ (hJ.pure (i:=1) rfl)
   simp[execOp,putAll,Act.put,Act.eval,Instr.fieldAt,go_sem,d0]
  ·intro S vals wj hJ hSi hD hcl
   obtain⟨rfl,_⟩:=id hJ
   have d1:=hJ.val 1 _ (hD 1 (by simp)) rfl
   refine opv rfl ?_ (hJ.pure (i:=2) rfl)
   simp[execOp,putAll,Act.put,Act.eval,Instr.fieldAt,go_sem,d1]
  ·intro S vals wj hJ hSi hD hcl
   obtain⟨rfl,_⟩:=id hJ
   have d2:=hJ.val 2 _ (hD 2 (by simp)) rfl
   refine opv rfl ?_ (hJ.pure (i:=3) rfl)
   simp[execOp,putAll,Act.put,Act.eval,Instr.fieldAt,go_sem,d2,C3.out]
  ·intro S vals wj hJ hSi hD hcl
   obtain⟨rfl,_⟩:=id hJ
   refine opv rfl ?_ (hJ.pure (i:=4) rfl)
   simp[execOp,putAll,Act.put,Act.eval,Instr.fieldAt,go_sem]
  ·intro S vals wj hJ hSi hD hcl
   obtain⟨rfl,_⟩:=id hJ
   have d4:=hJ.val 4 _ (hD 4 (by simp)) rfl
   refine opv rfl ?_ (hJ.pure (i:=5) rfl)
   simp[execOp,putAll,Act.put,Act.eval,Instr.fieldAt,go_sem,d4,resolve,invoke,builtin]
   omega
  ·intro S vals wj hJ hSi hD hcl
   obtain⟨rfl,_⟩:=id hJ
   refine opv rfl ?_ (hJ.pure (i:=6) rfl)
   simp[execOp,putAll,Act.put,Act.eval,Instr.fieldAt,go_sem]
  ·intro S vals wj hJ hSi hD hcl
   obtain⟨rfl,_⟩:=id hJ
   have d6:=hJ.val 6 _ (hD 6 (by simp)) rfl
   refine opv rfl ?_ (hJ.pure (i:=7) rfl)
   simp[execOp,putAll,Act.put,Act.eval,Instr.fieldAt,go_sem,d6]
  ·intro S vals wj hJ hSi hD hcl
   obtain⟨rfl,_⟩:=id hJ
   have d7:=hJ.val 7 _ (hD 7 (by simp)) rfl
   refine opv rfl ?_ (hJ.pure (i:=8) rfl)
   simp[execOp,putAll,Act.put,Act.eval,Instr.fieldAt,go_sem,d7]
  ·intro S vals wj hJ hSi hD hcl
   obtain⟨rfl,_⟩:=id hJ
   have d8:=hJ.val 8 _ (hD 8 (by simp)) rfl
   refine opv rfl ?_ (hJ.pure (i:=9) rfl)
   simp[execOp,putAll,Act.put,Act.eval,Instr.fieldAt,go_sem,d8,C2.out]
  ·intro S vals wj hJ hSi hD hcl
   obtain⟨rfl,_⟩:=id hJ
   have d9:=hJ.val 9 _ (hD 9 (by simp)) rfl
   refine opv rfl ?_ (hJ.pure (i:=10) rfl)
   simp[execOp,putAll,Act.put,Act.eval,Instr.fieldAt,go_sem,d9,resolve,invoke,builtin]
  ·intro S vals wj hJ hSi hD hcl
   obtain⟨rfl,_⟩:=id hJ
   refine opv rfl ?_ (hJ.pure (i:=11) rfl)
   simp[execOp,putAll,Act.put,Act.eval,Instr.fieldAt,go_sem]
  ·intro S vals wj hJ hSi hD hcl
   obtain⟨rfl,_⟩:=id hJ
   have d11:=hJ.val 11 _ (hD 11 (by simp)) rfl
   refine opv rfl ?_ (hJ.pure (i:=12) rfl)
   simp[execOp,putAll,Act.put,Act.eval,Instr.fieldAt,go_sem,d11]
  ·intro S vals wj hJ hSi hD hcl
   obtain⟨rfl,_⟩:=id hJ
   have d12:=hJ.val 12 _ (hD 12 (by simp)) rfl
   refine opv rfl ?_ (hJ.pure (i:=13) rfl)
   simp[execOp,putAll,Act.put,Act.eval,Instr.fieldAt,go_sem,d12]
  ·intro S vals wj hJ hSi hD hcl
   obtain⟨rfl,_⟩:=id hJ
   have d13:=hJ.val 13 _ (hD 13 (by simp)) rfl
   refine opv rfl ?_ (hJ.pure (i:=14) rfl)
   simp[execOp,putAll,Act.put,Act.eval,Instr.fieldAt,go_sem,d13,C3.out]
  ·intro S vals wj hJ hSi hD hcl
   obtain⟨rfl,_⟩:=id hJ
   have d10:=hJ.val 10 _ (hD 10 (by simp)) rfl
   have d14:=hJ.val 14 _ (hD 14 (by simp)) rfl
   refine opv rfl ?_ (hJ.pure (i:=15) rfl)
   simp[execOp,putAll,Act.put,Act.eval,Instr.fieldAt,go_sem,d10,d14,W1.out]
  ·intro S vals wj hJ hSi hD hcl
   obtain⟨rfl,_⟩:=id hJ
   have d5:=hJ.val 5 _ (hD 5 (by simp)) rfl
   have d15:=hJ.val 15 _ (hD 15 (by simp)) rfl
   refine opv rfl ?_ (hJ.pure (i:=16) rfl)
   simp[execOp,putAll,Act.put,Act.eval,Instr.fieldAt,go_sem,d5,d15,resolve,invoke,builtin]
   omega
  ·intro S vals wj hJ hSi hD hcl
   obtain⟨rfl,_⟩:=id hJ
   have d3:=hJ.val 3 _ (hD 3 (by simp)) rfl
   have d16:=hJ.val 16 _ (hD 16 (by simp)) rfl
   refine opv rfl ?_ (hJ.pure (i:=17) rfl)
   simp[execOp,putAll,Act.put,Act.eval,Instr.fieldAt,go_sem,d3,d16,W2.out]
  ·intro S vals wj hJ hSi hD hcl
   obtain⟨rfl,_⟩:=id hJ
   have d17:=hJ.val 17 _ (hD 17 (by simp)) rfl
   refine opv rfl ?_ (hJ.pure (i:=18) rfl)
   simp[execOp,putAll,Act.put,Act.eval,Instr.fieldAt,go_sem,d17]
 ·intro vals wz hJ
  obtain⟨rfl,_⟩:=id hJ
  have e0:=hJ.val 0 _ rfl rfl
  have e1:=hJ.val 1 _ rfl rfl
  have e2:=hJ.val 2 _ rfl rfl
  have e3:=hJ.val 3 _ rfl rfl
  have e4:=hJ.val 4 _ rfl rfl
  have e5:=hJ.val 5 _ rfl rfl
  have e6:=hJ.val 6 _ rfl rfl
  have e7:=hJ.val 7 _ rfl rfl
  have e8:=hJ.val 8 _ rfl rfl
  have e9:=hJ.val 9 _ rfl rfl
  have e10:=hJ.val 10 _ rfl rfl
  have e11:=hJ.val 11 _ rfl rfl
  have e12:=hJ.val 12 _ rfl rfl
  have e13:=hJ.val 13 _ rfl rfl
  have e14:=hJ.val 14 _ rfl rfl
  have e15:=hJ.val 15 _ rfl rfl
  have e16:=hJ.val 16 _ rfl rfl
  have e17:=hJ.val 17 _ rfl rfl
  have e18:=hJ.val 18 _ rfl rfl
  simp[putAll,List.range,List.range.loop,Act.put,e0,e1,e2,e3,e4,e5,e6,e7,e8,e9,e10,e11,e12,e13,e14,e15,e16,e17,e18]
  clear e0 e1 e2 e3 e4 e5 e6 e7 e8 e9 e10 e11 e12 e13 e14 e15 e16 e17 e18 hJ
  have hlc:((leftN L.length s keep:Nat):Int)≤(c:Int):=by
   have:=leftN_le HS.out keep
   rcases HH.out.own.2 with⟨e1,e2⟩|⟨q,cap,cur,e1,_,_,e2,_⟩<;>simp only[Value.slice.injEq]at e1<;>omega
  rcases HH.out.own.2 with⟨e1,e2⟩|⟨q,cap,cur,e1,e3,e4,e5,e6,e7,e8⟩
  ·simp only[Value.slice.injEq]at e1
   obtain⟨rfl,_,rfl⟩:=e1
   obtain rfl:L=[]:=List.length_eq_zero_iff.1 e2
   obtain⟨m,hm⟩:∃m,leftN ([]:List Ln).length s keep=m:=⟨_,rfl⟩
   have hm0:m=0:=by rw[←hm];exact Nat.le_zero.1 (leftN_le HS.out keep)
   have hlm:((m:Nat):Int)≤0:=by omega
   have HM:=Lib.hid hm;have HM0:=Lib.hid hm0
   clear hlc W1 W2 hm0
   rw[hm]
   clear hm
   have c2:(w.setCell ⟨r,0,none⟩ (.int .i32 1)).drew.cell? ⟨r,2,none⟩=some (.slice none 0 0):=C2.out
   go_wp2_with fail
   refine(cloneNil_walk _ m 0).mono ?_
   rintro x2 w2 ⟨hx2,hw2⟩
   obtain⟨v',rfl,k1,k2,k3⟩:∃v',x2=.returned v'∧w2.ownsRow 0 151 33 v' (m) (lnC (([]:List Ln).take (m)))∧Below (w.setCell ⟨r,0,none⟩ (.int .i32 1)).drew.heap.size (w.setCell ⟨r,0,none⟩ (.int .i32 1)).drew w2∧∀z,v'.ownBlock=some z→(w.setCell ⟨r,0,none⟩ (.int .i32 1)).drew.heap.size≤z:=by
    have e9:m=0:=HM0.out
    refine⟨_,hx2,?_,by rw[hw2];exact Below.refl _ _,fun z e1=>by cases e1⟩
    rw[e9];exact⟨rfl,.inl ⟨rfl,rfl⟩⟩
   clear hx2 hw2
   have hv1:v'.oneCell'=true:=by obtain⟨a9,c9,rfl⟩:=run_len_any k1;rfl
   have kb:=run_build (P:=Tryz.prog) w2 84 _ _ (built_book hv1 (m:Nat))
   have KO:=Lib.hid k1;have KW:=Lib.hid k2;have KZ:=Lib.hid k3;have KB:=Lib.hid kb
   clear k1 k2 k3 kb hv1 c2
   go_wp2_with (refine wpList_run (v:=.agg (BC 0 v' (m:Nat) 0)) (w2:=w2) rfl ?_ ?_;(focus (simp[execOp,Act.eval,KB.out,Sem.run_bind];done)))
   have hB3:BookW (w2.alloc (.cells (BC 0 v' (m:Nat) 0) 84)) w2.heap.size 84 v' (([]:List Ln).take (m)) (m:Nat) 0:=by
    refine⟨Blk.newAt _ _ rfl,?_,fun e1=>?_,fun x hx=>HH.out.len x (List.mem_of_mem_take hx)⟩
    ·have e1:(([]:List Ln).take (m)).length=m:=by rw[List.length_take];exact Nat.min_eq_left (by have:=HM0.out;omega)
     rw[e1]
     exact ownsRow_keep KO.out fun q _ hq=>Below.heap_alloc _ _ _ hq
    ·rcases KO.out.2 with⟨e2,_⟩|⟨q,cap,cur,e2,_,h5,_⟩<;>rw[e2]at e1<;>cases e1
     exact absurd (Array.getElem?_eq_some_iff.1 h5).1 (Nat.lt_irrefl _)
   have hs1:(w.setCell ⟨r,0,none⟩ (.int .i32 1)).drew.heap.size=w.heap.size:=by simp[World.setCell,World.drew]
   have hk3:Blk (w2.alloc (.cells (BC 0 v' (m:Nat) 0) 84)) r (BC 1 (.slice none ([]:List Ln).length 0) s f) t:=((HB1.out.drew.keep KW.out)).keep ((Below.refl _ _).alloc (Nat.le_refl _) _)
   have hg3:w.grownBy (w2.alloc (.cells (BC 0 v' (m:Nat) 0) 84)) (some r):=grown_trans (grown_trans (grown_drew HG1.out) (grownB KW.out)) (grown_alloc w2 _ _)
   have hrn:r<w.heap.size:=HB.out.lt
   have hle2:w.heap.size≤w2.heap.size:=by have:=KW.out.size;rw[hs1]at this;exact this
   have hz3:∀z,v'.ownBlock=some z→w.heap.size≤z:=fun z e1=>by have:=KZ.out z e1;rw[hs1]at this;exact this
   refine leaves_cons (f:=22) (args:=#[.pointer (some ⟨r,0,none⟩)]) (by simp) (by simp[go_sem]) ?_
   refine(unlock_deferred ⟨r,0,none⟩ _ _ (hk3.cell 0) (hk3.frozen 0)).mono ?_
   rintro x4 u' w4 ⟨rfl,rfl,hw4⟩
   have hk4:Blk w4 r (BC 0 (.slice none ([]:List Ln).length 0) s f) t:=by rw[hw4];exact(hk3.set 0 _).copy rfl
   have hg4:w.grownBy w4 (some r):=by rw[hw4];exact grown_setCell hg3 0 _
   have hg5:(w2.alloc (.cells (BC 0 v' (m:Nat) 0) 84)).grownBy w4 (some r):=by rw[hw4];exact grown_setCell (grown_refl _ _) 0 _
   have hB4:BookW w4 w2.heap.size 84 v' (([]:List Ln).take (m)) (m:Nat) 0:=by
    refine⟨(hg5.block _ hB3.blk.lt (fun e1=>by cases e1;omega)).trans hB3.blk,ownsRow_keep hB3.own fun q hq hlt=>hg5.block q hlt (fun e1=>by cases e1;have:=hz3 _ hq;omega),hB3.sep,hB3.len⟩
   clear hw4
   exact⟨_,results_tmp rfl _ _ _,w2.heap.size,v',rfl,hk4,by rw[HM.out];exact hB4,hle2,hz3,hg4⟩
  ·cases e1
   have c2:(w.setCell ⟨r,0,none⟩ (.int .i32 1)).drew.cell? ⟨r,2,none⟩=some (.slice (some ⟨q,0,none⟩) L.length c):=C2.out
   have had:(⟨q,0,none⟩:Addr).add 0=⟨q,0,none⟩:=add_at q 0 0
   have hqr:q≠r:=fun e1=>HH.out.sep (by rw[e1];rfl)
   have hq3:(w.setCell ⟨r,0,none⟩ (.int .i32 1)).drew.heap[q]?=some (.cells cur 151 (0,0)):=(heap_setCell_other w ⟨r,0,none⟩ q _ hqr).trans e4
   have HQ:=Lib.hid hq3;have HC8:=Lib.hid e8
   clear e3 e4 e5 e6 e7 e8 hq3 hqr
   go_wp2_with fail
   refine(clone_walk _ q (leftN L.length s keep) c HQ.out (leftN_le HS.out keep) HL.out HH.out.len HC8.out).mono ?_
   rintro x2 w2 ⟨v',rfl,k1,k2,k3⟩
   have hv1:v'.oneCell'=true:=by obtain⟨a9,c9,rfl⟩:=run_len_any k1;rfl
   have kb:=run_build (P:=Tryz.prog) w2 84 _ _ (built_book hv1 (leftN L.length s keep:Nat))
   have KO:=Lib.hid k1;have KW:=Lib.hid k2;have KZ:=Lib.hid k3;have KB:=Lib.hid kb
   clear k1 k2 k3 kb hv1 c2
   go_wp2_with (refine wpList_run (v:=.agg (BC 0 v' (leftN L.length s keep:Nat) 0)) (w2:=w2) rfl ?_ ?_;(focus (simp[execOp,Act.eval,KB.out,Sem.run_bind];done)))
   have hB3:BookW (w2.alloc (.cells (BC 0 v' (leftN L.length s keep:Nat) 0) 84)) w2.heap.size 84 v' (L.take (leftN L.length s keep)) (leftN L.length s keep:Nat) 0:=by
    refine⟨Blk.newAt _ _ rfl,?_,fun e1=>?_,fun x hx=>HH.out.len x (List.mem_of_mem_take hx)⟩
    ·have e1:(L.take (leftN L.length s keep)).length=leftN L.length s keep:=by rw[List.length_take];exact Nat.min_eq_left (leftN_le HS.out keep)
     rw[e1]
     exact ownsRow_keep KO.out fun q _ hq=>Below.heap_alloc _ _ _ hq
    ·rcases KO.out.2 with⟨e2,_⟩|⟨q,cap,cur,e2,_,h5,_⟩<;>rw[e2]at e1<;>cases e1
     exact absurd (Array.getElem?_eq_some_iff.1 h5).1 (Nat.lt_irrefl _)
   have hs1:(w.setCell ⟨r,0,none⟩ (.int .i32 1)).drew.heap.size=w.heap.size:=by simp[World.setCell,World.drew]
   have hk3:Blk (w2.alloc (.cells (BC 0 v' (leftN L.length s keep:Nat) 0) 84)) r (BC 1 (.slice (some ⟨q,0,none⟩) L.length c) s f) t:=((HB1.out.drew.keep KW.out)).keep ((Below.refl _ _).alloc (Nat.le_refl _) _)
   have hg3:w.grownBy (w2.alloc (.cells (BC 0 v' (leftN L.length s keep:Nat) 0) 84)) (some r):=grown_trans (grown_trans (grown_drew HG1.out) (grownB KW.out)) (grown_alloc w2 _ _)
   have hrn:r<w.heap.size:=HB.out.lt
   have hle2:w.heap.size≤w2.heap.size:=by have:=KW.out.size;rw[hs1]at this;exact this
   have hz3:∀z,v'.ownBlock=some z→w.heap.size≤z:=fun z e1=>by have:=KZ.out z e1;rw[hs1]at this;exact this
   refine leaves_cons (f:=22) (args:=#[.pointer (some ⟨r,0,none⟩)]) (by simp) (by simp[go_sem]) ?_
   refine(unlock_deferred ⟨r,0,none⟩ _ _ (hk3.cell 0) (hk3.frozen 0)).mono ?_
   rintro x4 u' w4 ⟨rfl,rfl,hw4⟩
   have hk4:Blk w4 r (BC 0 (.slice (some ⟨q,0,none⟩) L.length c) s f) t:=by rw[hw4];exact(hk3.set 0 _).copy rfl
   have hg4:w.grownBy w4 (some r):=by rw[hw4];exact grown_setCell hg3 0 _
   have hg5:(w2.alloc (.cells (BC 0 v' (leftN L.length s keep:Nat) 0) 84)).grownBy w4 (some r):=by rw[hw4];exact grown_setCell (grown_refl _ _) 0 _
   have hB4:BookW w4 w2.heap.size 84 v' (L.take (leftN L.length s keep)) (leftN L.length s keep:Nat) 0:=by
    refine⟨(hg5.block _ hB3.blk.lt (fun e1=>by cases e1;omega)).trans hB3.blk,ownsRow_keep hB3.own fun q hq hlt=>hg5.block q hlt (fun e1=>by cases e1;have:=hz3 _ hq;omega),hB3.sep,hB3.len⟩
   clear hw4
   exact⟨_,results_tmp rfl _ _ _,w2.heap.size,v',rfl,hk4,hB4,hle2,hz3,hg4⟩
end
section
structure BS where
 L:List Ln
 s:Nat
 f:Nat
def bkQ(x:BS)(h:Nat→Option Obj)(r:Nat):Prop:=bookP x.L x.s x.f h r∧x.s≤x.L.length∧x.L.length≤100
def bkP(x:BS):OP:=.of (bkQ x)
def writeE(x:BS)(e:Int)(p:List UInt8):Int:=
 if e<0∨e>1099511627776 then 1 else if hasV x.L e=true then(if(getV x.L e==p)=true then 0 else 9)else if 100≤x.L.length then 12 else 0
def writeB(x:BS)(e:Int)(p:List UInt8):BS:=
 if e<0∨e>1099511627776 then x else if hasV x.L e=true then x else if 100≤x.L.length then x else⟨x.L++[(e,p)],x.s,x.f⟩
def flushB(x:BS):BS:=⟨x.L,x.L.length,x.f+1⟩
def crashB(x:BS)(keep:Int):BS:=⟨x.L.take (leftN x.L.length x.s keep),leftN x.L.length x.s keep,0⟩
theorem FnB.of{f:FuncId}{pos:Nat}{p p':OP}{args:List A}{res:Res}(q:Prop)(hq:∀D w F r,p.p D w F r→q)(h:q→FnB Tryz.prog gTab f pos p args res p'):FnB Tryz.prog gTab f pos p args res p':=fun S w r F vs hG hlt hp ha hS=>h (hq _ _ _ _ hp) S w r F vs hG hlt hp ha hS
theorem args0{S:Nat→Prop}{w:World}{vs:List Value}(h:RAs S w [] vs):vs=[]:=by cases h;rfl
theorem args2{x:Value}{p:List UInt8}{S:Nat→Prop}{w:World}{vs:List Value}(h:RAs S w [.v x,.agg [.bytes 32 p]] vs):vs=[x,.agg (HC p)]∧p.length=32:=by
 cases h with|cons h r=>cases r with|cons h2 r=>cases r;cases h;obtain⟨rfl,h3⟩:=ra_agg32 h2;exact⟨rfl,h3⟩
theorem flushB_ok(x:BS)(hf:x.f≤1000):FnB Tryz.prog gTab 46 0 (bkP x) [] (.t []) (bkP (flushB x)):=by
 intro S w r F vs hG hlt hp hA hS
 obtain⟨hp,h1,h2⟩:=hp
 obtain rfl:=args0 hA
 obtain⟨t,v,hb,hF⟩:=BookW.of hp
 refine(flush_walk w r t v x.L x.s x.f hb (by omega)).mono ?_
 rintro y w' ⟨rfl,k1,k2⟩
 exact⟨_,F,[],rfl,fun q hq=>.inl (by simp[hq]),fun q hq=>Nat.lt_of_lt_of_le (hlt q hq) k2.size,⟨(hb.next k1 k2).to hF,Nat.le_refl _,h2⟩,⟨[],rfl,.nil⟩,⟨k2.os,k2.tape,k2.output,k2.size,fun k hk hn=>k2.block k hk (fun e=>hn (by cases e;simp))⟩⟩
theorem writeB_ok(x:BS)(e:Int)(p:List UInt8):FnB Tryz.prog gTab 45 0 (bkP x) [.v (.int .i64 e),.agg [.bytes 32 p]] (.d (.v (.int .i64 (writeE x e p)))) (bkP (writeB x e p)):=by
 intro S w r F vs hG hlt hp hA hS
 have hp0:=hp
 obtain⟨hp,h1,h2⟩:=hp
 obtain⟨rfl,hl⟩:=args2 hA
 obtain⟨t,v,hb,hF⟩:=BookW.of hp
 have stay:∀(y:Int),(∀(w':World),Blk w' r (BC 0 v x.s x.f) t∧w.grownBy w' (some r)→∃v' F' N,Ending.returned (.int .i64 y)=.returned v'∧(∀q∈F',q∈r::F∨w.heap.size≤q)∧(∀q∈r::F',q<w'.heap.size)∧bkQ x (hres w' (r::F')) r∧RRb S w w' (r::F') N (.d (.v (.int .i64 y))) v'∧GrownX (fun q=>q∈r::F) w w'):=fun y w' ⟨k1,k2⟩=>
  ⟨_,F,[],rfl,fun q hq=>.inl (by simp[hq]),fun q hq=>Nat.lt_of_lt_of_le (hlt q hq) k2.size,⟨(hb.next k1 k2).to hF,h1,h2⟩,.v _,⟨k2.os,k2.tape,k2.output,k2.size,fun k hk hn=>k2.block k hk (fun e=>hn (by cases e;simp))⟩⟩
 unfold writeE writeB
 by_cases c1:e<0∨e>1099511627776
 ·rw[if_pos c1,if_pos c1]
  refine(write_arg w r t v x.L x.s x.f e p hl c1 hb).mono ?_
  rintro y w' ⟨rfl,k⟩
  exact stay _ w' k
 ·rw[if_neg c1,if_neg c1]
  by_cases c2:hasV x.L e=true
  ·rw[if_pos c2,if_pos c2]
   refine(write_walk w r t v x.L x.s x.f e p hl (by omega) (by omega) (by omega) c2 _ rfl hb).mono ?_
   rintro y w' ⟨rfl,k⟩
   exact stay _ w' k
  ·rw[if_neg c2,if_neg c2]
   have c2':hasV x.L e=false:=by simpa using c2
   by_cases c3:100≤x.L.length
   ·rw[if_pos c3,if_pos c3]
    refine(write_full w r t v x.L x.s x.f e p hl (by omega) (by omega) (by omega) c2' c3 hb).mono ?_
    rintro y w' ⟨rfl,k⟩
    exact stay _ w' k
   ·rw[if_neg c3,if_neg c3]
    refine(write_new w r t v x.L x.s x.f e p hl (by omega) (by omega) (by omega) c2' (by omega) hb).mono ?_
    rintro y w' ⟨rfl,v',k1,k2,k3⟩
    have hin:∀q,v.ownBlock=some q→q∈r::F:=fun q hq=>by simp[hF q hq]
    refine⟨_,match v'.ownBlock with|some q=>[q]|none=>[],[],rfl,fun q hq=>?_,fun q hq=>?_,⟨k1.to fun q hq=>by rw[hq];simp,by simp;omega,by simp;omega⟩,.v _,⟨k3.os,k3.tape,k3.output,k3.size,fun k hk hn=>k3.block k hk (fun e=>hn (by rcases e with e|e;simp[e];exact hin k e))⟩⟩
    ·cases hv:v'.ownBlock with
     |none=>rw[hv]at hq;cases hq
     |some q'=>
      rw[hv]at hq
      simp at hq;subst hq
      rcases k2 with k2|⟨q2,k2,k4⟩
      ·exact .inl (hin q (by rw[←k2];exact hv))
      ·rw[hv]at k2;cases k2;exact .inr k4
    ·rcases List.mem_cons.1 hq with rfl|hq
     ·exact Nat.lt_of_lt_of_le (hlt _ (by simp)) k3.size
     ·cases hv:v'.ownBlock with
      |none=>rw[hv]at hq;cases hq
      |some q'=>
       rw[hv]at hq
       simp at hq;subst hq
       rcases k1.own.2 with⟨e1,_⟩|⟨q2,cap,cur,e1,_,h5,_⟩<;>rw[e1]at hv<;>cases hv
       exact(Array.getElem?_eq_some_iff.1 h5).1
set_option maxRecDepth 100000 in
theorem new_walk(w:World):Calls Tryz.prog 11 #[] w fun x w'=>x=.returned (.pointer (some ⟨w.heap.size,0,none⟩))∧w'=w.alloc (.cells (BC 0 (.slice none 0 0) 0 0) 84):=by
 go_enter Tryz.func11,Tryz.ntmps11
 go_wp2
 go_ret
 exact⟨rfl,rfl⟩
end
section
open Pm
structure Cm where
 p:(Nat→Prop)→World→List Nat→Value→Prop
 up:∀{D D':Nat→Prop} {w w':World} {B:List Nat} {v:Value},Keeps D w D' w'→(∀q∈B,w'.heap[q]?=w.heap[q]?)→p D w B v→p D' w' B v
 lt:∀{D:Nat→Prop} {w:World} {B:List Nat} {v:Value},p D w B v→∀q∈B,q<w.heap.size
 one:∀{D:Nat→Prop} {w:World} {B:List Nat} {v:Value},p D w B v→v.oneCell'=true
def cDat(a:A):Cm:=⟨fun D w B v=>B=[]∧RA D w a v∧v.oneCell'=true,fun k _ ⟨h1,h2,h3⟩=>⟨h1,h2.up k,h3⟩,fun⟨h1,_⟩ q hq=>(by rw[h1]at hq;cases hq),fun⟨_,_,h3⟩=>h3⟩
def cBk(x:BS):Cm:=⟨fun D w B v=>∃q G,B=q::G∧v=.pointer (some ⟨q,0,none⟩)∧(∀z∈q::G,z<w.heap.size)∧bkQ x (hres w (q::G)) q,
 fun {D D' w w' B v} k e ⟨q,G,h1,h2,h3,h4⟩=>⟨q,G,h1,h2,fun z hz=>Nat.lt_of_lt_of_le (h3 z hz) k.1,by rw[hres_eq fun z hz=>e z (by rw[h1];exact hz)];exact h4⟩,
 fun⟨q,G,h1,_,h3,_⟩ z hz=>h3 z (by rw[←h1];exact hz),fun⟨q,G,_,h2,_⟩=>by rw[h2];rfl⟩
def cSl(e:TypeId)(sz n:Nat)(l:List Seg):Cm:=⟨fun D w B v=>∃cs,B=ownL v∧w.ownsRow 0 e sz v n cs∧RL D w l cs,
 fun {D D' w w' B v} k e ⟨cs,h1,h2,h3⟩=>⟨cs,h1,own_keep h2 fun z hz=>e z (by rw[h1];exact ownL_mem.2 hz),h3.up k⟩,
 fun⟨cs,h1,h2,_⟩ z hz=>own_lt h2 (ownL_mem.1 (by rw[←h1];exact hz)),fun⟨cs,_,h2,_⟩=>by
  rcases h2.2 with⟨e1,_⟩|⟨q,cap,cur,rfl,_⟩
  ·rw[e1];rfl
  ·rfl⟩
def WLs(n mu:Int)(vs:List Value):List Value:=.int .i64 n::.int .i32 mu::.int .u32 0::vs
structure WQ(D:Nat→Prop)(w:World)(r:Nat)(mu n:Int)(c:Nat→Cm)(vs:List Value)(B:Nat→List Nat)(t:TypeId):Prop where
 len:vs.length=18
 blk:Blk w r (WLs n mu vs).toArray t
 at':∀j,j<18→(c j).p D w (B j) (vs.getD j undef)
 ne:∀j,j<18→r∉B j
 sep:∀j k,j<18→k<18→j≠k→∀q∈B j,q∉B k
 dat:∀z,D z→z≠r∧∀j,j<18→z∉B j
theorem WQ.set{D:Nat→Prop}{w w':World}{r j:Nat}{mu n mu' n':Int}{c:Nat→Cm}{vs:List Value}{B:Nat→List Nat}{t t':TypeId}{v':Value}{B':List Nat}{c':Cm}(h:WQ D w r mu n c vs B t)(hj:j<18)
  (hb:Blk w' r (WLs n' mu' (vs.set j v')).toArray t')(hg:GrownX (fun q=>q=r∨q∈B j) w w')(hB:∀q∈B',q∈B j∨w.heap.size≤q)(hr:r∉B')(hc:c'.p (fun z=>(D z∨w.heap.size≤z)∧z≠r∧z∉B') w' B' v'):
  WQ (fun z=>(D z∨w.heap.size≤z)∧z≠r∧z∉B') w' r mu' n' (upd c j c') (vs.set j v') (upd B j B') t':=by
 have hrl:r<w.heap.size:=h.blk.lt
 have kp:Keeps D w (fun z=>(D z∨w.heap.size≤z)∧z≠r∧z∉B') w':=⟨hg.size,fun z hz hd=>⟨⟨.inl hd,(h.dat z hd).1,fun hm=>by
  rcases hB z hm with h1|h1
  ·exact(h.dat z hd).2 j hj h1
  ·omega⟩,fun o=>World.cell?_of_block (hg.block z hz fun e=>by rcases e with e|e;exact(h.dat z hd).1 e;exact(h.dat z hd).2 j hj e)⟩⟩
 have same:∀k,k<18→k≠j→∀q∈B k,w'.heap[q]?=w.heap[q]?:=fun k hk hn q hq=>hg.block q ((c k).lt (h.at' k hk) q hq) fun e=>by
  rcases e with e|e
  ·exact h.ne k hk (by rw[←e];exact hq)
  ·exact h.sep k j hk hj hn q hq e
 refine⟨by rw[List.length_set];exact h.len,hb,fun k hk=>?_,fun k hk=>?_,fun k i hk hi hn q hq hm=>?_,fun z hz=>⟨hz.2.1,fun k hk hm=>?_⟩⟩
 ·rw[getD_set_list]
  by_cases e:k=j
  ·subst e
   rw[if_pos ⟨rfl,by rw[h.len];exact hj⟩]
   simp only[upd,if_true]
   exact hc
  ·rw[if_neg fun e2=>e e2.1.symm]
   simp only[upd,if_neg e]
   exact(c k).up kp (same k hk e) (h.at' k hk)
 ·unfold upd
  split
  ·exact hr
  ·exact h.ne k hk
 ·unfold upd at hq hm
  by_cases e1:k=j
  ·rw[if_pos e1]at hq
   have e2:i≠j:=fun e=>hn (e1.trans e.symm)
   rw[if_neg e2]at hm
   rcases hB q hq with h1|h1
   ·exact h.sep j i hj hi (fun e=>e2 e.symm) q h1 hm
   ·have:=(c i).lt (h.at' i hi) q hm;omega
  ·rw[if_neg e1]at hq
   by_cases e2:i=j
   ·rw[if_pos e2]at hm
    rcases hB q hm with h1|h1
    ·exact h.sep k j hk hj e1 q hq h1
    ·have:=(c k).lt (h.at' k hk) q hq;omega
   ·rw[if_neg e2]at hm
    exact h.sep k i hk hi hn q hq hm
 ·unfold upd at hm
  by_cases e1:k=j
  ·rw[if_pos e1]at hm;exact hz.2.2 hm
  ·rw[if_neg e1]at hm
   rcases hz.1 with h1|h1
   ·exact(h.dat z h1).2 k hk hm
   ·have:=(c k).lt (h.at' k hk) z hm;omega
def wcP (mu n : Int) (c : Nat → Cm) : OP :=
  ⟨fun D w F r => ∃ (vs : List Value) (B : Nat → List Nat) (t : TypeId), r ∈ F ∧ vs.length = 18 ∧ Blk w r (WLs n mu vs).toArray t ∧ (∀ j, j < 18 → (c j).p D w (B j) (vs.getD j undef)) ∧ (∀ j, j < 18 → r ∉ B j) ∧ (∀ j k, j < 18 → k < 18 → j ≠ k → ∀ q ∈ B j, q ∉ B k) ∧ ∀ j, j < 18 → ∀ q ∈ B j, q ∈ F,
   fun {D D' w w' F r} k e ⟨vs, B, t, h0, h1, h2, h3, h4, h5, h6⟩ => ⟨vs, B, t, h0, h1, (e r h0).trans h2, fun j hj => (c j).up k (fun q hq => e q (h6 j hj q hq)) (h3 j hj), h4, h5, h6⟩⟩
theorem wcP_open{S:Nat→Prop}{w:World}{r:Nat}{F:List Nat}{mu n:Int}{c:Nat→Cm}(h:(wcP mu n c).p S w (r::F) r)(hS:∀z,S z→z∉r::F):∃(vs:List Value) (B:Nat→List Nat) (t:TypeId),WQ S w r mu n c vs B t∧∀j,j<18→∀q∈B j,q∈r::F:=by
 obtain⟨vs,B,t,_,h1,h2,h3,h4,h5,h6⟩:=h
 exact⟨vs,B,t,⟨h1,h2,h3,h4,h5,fun z hz=>⟨fun e=>hS z hz (by simp[e]),fun j hj hm=>hS z hz (h6 j hj z hm)⟩⟩,h6⟩
end
section
open Pm
structure Ap where
 p:List UInt8
 k:Int
 e:Int
 s:Int
def ap0:Ap:=⟨[],0,0,0⟩
def apF(L:List Ap)(j:Nat):List Seg:=[.bytes 32 (L.getD j ap0).p,.ints .i64 3 [(L.getD j ap0).k,(L.getD j ap0).e,(L.getD j ap0).s]]
def isAp(p:List UInt8)(k:Int)(x:Ap):Bool:=x.p==p&&x.k==k
def tellB(L:List Ap)(p:List UInt8)(k:Int):Bool:=L.any (isAp p k)
def tellV(L:List Ap)(p:List UInt8)(k:Int):List Int:=match L.find? (isAp p k)with|some x=>[x.k,x.e,x.s]|none=>[0,0,0]
theorem first_ap(L:List Ap)(p:List UInt8)(k:Int):∃N,N≤L.length∧(∀j,j<N→isAp p k (L.getD j ap0)=false)∧(N=L.length∧tellB L p k=false∧tellV L p k=[0,0,0]∨N<L.length∧isAp p k (L.getD N ap0)=true∧tellB L p k=true∧tellV L p k=[(L.getD N ap0).k,(L.getD N ap0).e,(L.getD N ap0).s]):=by
 induction L with
 |nil=>exact⟨0,Nat.le_refl _,fun j hj=>absurd hj (by omega),.inl ⟨rfl,rfl,rfl⟩⟩
 |cons x L ih=>
  cases h:isAp p k x with
  |true=>exact⟨0,Nat.zero_le _,fun j hj=>absurd hj (by omega),.inr ⟨by simp,by simpa using h,by simp[tellB,h],by simp[tellV,List.find?,h]⟩⟩
  |false=>
   obtain⟨N,h1,h2,h3⟩:=ih
   have e1:tellB (x::L) p k=tellB L p k:=by simp[tellB,h]
   have e2:tellV (x::L) p k=tellV L p k:=by simp[tellV,List.find?,h]
   refine⟨N+1,by simpa using h1,fun j hj=>?_,?_⟩
   ·cases j with
    |zero=>simpa using h
    |succ j=>simpa using h2 j (by omega)
   ·rw[e1,e2]
    rcases h3 with⟨h3,h4,h5⟩|⟨h3,h4,h5,h6⟩
    ·exact .inl ⟨by simp[h3],h4,h5⟩
    ·exact .inr ⟨by simpa using h3,by simpa using h4,h5,by simpa using h6⟩
attribute [local irreducible] condK LoopA regA tellB tellV
theorem told_fn(n mu:Int)(l:List A)(po:A)(L:List Ap)(p:List UInt8)(k:Int)(hL:L.length≤1000000):
  FnO 78 [.sref (wdV n mu l po (.recs L.length 35 (apF L))) 0,.agg [.bytes 32 p],.v (.int .i64 k)] (.t [.agg [.ints .i64 3 (tellV L p k)],.v (.bool (tellB L p k))]):=by
 refine fnA (E:=envWr0) Tryz.func78 Tryz.ntmps78 ?_
 unfold wdV
 obtain⟨N,hN,hno,hend⟩:=first_ap L p k
 refine agow ?_;(try exact⟨⟩)
 refine StopL.mk (loop_forG [2,4,6,7,13,14,15] [0,1] N (fun j=>⟨[.dead,.dead,.d (.v (.int .i64 k)),.dead,.ptr 0 0,.dead,.ptr 1 0,.d (.v (.bool false)),.dead,.dead,.dead,.dead,.dead,.d (.recs L.length 35 (apF L)),.d (.v (.int .i64 (L.length:Nat))),.d (.v (.int .i64 (j:Nat))),.dead,.dead,.dead,.dead,.dead,.dead,.dead,.dead,.dead,.dead,.dead,.dead,.dead,.dead,.dead,.dead,.dead,.dead],[some (.var [.bytes 32 p]),some (.var [.ints .i64 3 [0,0,0]])]⟩) ?_)
 intro j hj hl
 by_cases h:j<N
 ·have h1:(j:Int)<(L.length:Int):=by omega
  have h2:=hno j h
  clear hend hno
  unfold isAp at h2
  cases hp:((L.getD j ap0).p==p)with
  |false=>
   have h3:eqSegs [.bytes 32 (L.getD j ap0).p] [.bytes 32 p]=false:=by simp[eqSegs];simpa using hp
   clear h2
   refine agow ?_;(try exact⟨⟩)
   refine hl.go h [2,4,6,7,13,14,15] [0,1] ?_
   rfl
  |true=>
   have h3:eqSegs [.bytes 32 (L.getD j ap0).p] [.bytes 32 p]=true:=by simp[eqSegs];simpa using hp
   have h4:((L.getD j ap0).k==k)=false:=by rw[hp]at h2;simpa using h2
   clear h2
   refine agow ?_;(try exact⟨⟩)
   refine hl.go h [2,4,6,7,13,14,15] [0,1] ?_
   rfl
 ·obtain rfl:j=N:=by omega
  rcases hend with⟨rfl,h4,h5⟩|⟨h3,h4,h5,h6⟩
  ·have h1:¬(L.length:Int)<(L.length:Int):=by omega
   rw[h4,h5]
   clear h4 h5 hno
   refine agow ?_;(try exact⟨⟩)
  ·have h1:(j:Int)<(L.length:Int):=by omega
   unfold isAp at h4
   rw[Bool.and_eq_true]at h4
   obtain⟨a1,a2⟩:=h4
   have a3:eqSegs [.bytes 32 (L.getD j ap0).p] [.bytes 32 p]=true:=by simp[eqSegs];simpa using a1
   rw[h5,h6]
   clear h5 h6 hno
   refine agow ?_;(try exact⟨⟩)
end
section
open Pm
def toldS:List A→(Res→Prop)→Prop
 |[.sref [.ints .i64 1 [n],.ints .i32 1 [mu],.ints .u32 1 [0],.gen 16 l,.gen 2 [po,.recs m 35 f]] 0,.agg [.bytes 32 p],.v (.int .i64 k)],K=>∃L:List Ap,f=apF L∧m=L.length∧m≤1000000∧∀b v,b=tellB L p k→v=tellV L p k→K (.t [.agg [.ints .i64 3 v],.v (.bool b)])
 |_,_=>False
theorem toldS_ok:∀args K,toldS args K→∃r,FnO 78 args r∧K r:=by
 intro args K h
 unfold toldS at h
 split at h
 ·obtain⟨L,rfl,rfl,h1,h⟩:=h
  exact⟨_,told_fn _ _ _ _ L _ _ h1,h _ _ rfl rfl⟩
 ·exact h.elim
def vN(L:List Ap)(p:List UInt8):Nat→Nat
 |0=>0
 |j+1=>if tellB L p (j:Nat)=true then vN L p j+1 else vN L p j
def vZ(L:List Ap)(p:List UInt8):Nat→List Int
 |0=>[]
 |j+1=>if tellB L p (j:Nat)=true then vZ L p j++tellV L p (j:Nat)else vZ L p j
theorem vN_le(L:List Ap)(p:List UInt8):∀j,vN L p j≤j
 |0=>Nat.le_refl _
 |j+1=>by have:=vN_le L p j;unfold vN;split<;>omega
theorem tellV_len(L:List Ap)(p:List UInt8)(k:Int):(tellV L p k).length=3:=by unfold tellV;split<;>rfl
attribute [local irreducible] condK LoopA regA tellB tellV vN vZ paperV wdV
noncomputable def envWv0:EnvX:=envWr0.add 44 paperS (paperS_of paper_fn) ⟨_,Tryz.func44,by kernel_rfl,by kernel_rfl⟩
noncomputable def envWv1:EnvX:=envWv0.add 78 toldS toldS_ok ⟨_,Tryz.func78,by kernel_rfl,by kernel_rfl⟩
noncomputable def envWv2:EnvX:=envWv1.add 30 (ofP (fun p=>.d (.agg (vSegs p.e p.zs p.ad p.k p.ch))) (.d (.agg vZero))) (ofP_of view0_fn view_fn) ⟨_,Tryz.func30,by kernel_rfl,by kernel_rfl⟩
noncomputable def envWv3:EnvX:=envWv2.add 42 (ofP (fun p=>.d (.v (.int .i64 p.lf))) (.d (.v (.int .i64 0)))) (ofP_of pleaf0_fn pleaf_fn) ⟨_,Tryz.func42,by kernel_rfl,by kernel_rfl⟩
theorem votes_fn(n mu:Int)(l:List A)(po:A)(L:List Ap)(q:PS)(m:Nat)(ops:List Int)(hL:L.length≤1000000)(hm:m≠0)(hm1:m≤1000000)(P:List UInt8)(hP:P=paperV q.e q.zs q.ad q.k q.ch q.lf ops):
  FnO 49 [.sref [.ints .i64 1 [n],.ints .i32 1 [mu],.ints .u32 1 [0],.gen 16 l,.gen 2 [po,.recs L.length 35 (apF L)]] 0,.sref (pSegs q) 0,.row m [.ints .i64 (m*5) ops]] (.o 99 3 (vN L P 8) [.ints .i64 (vN L P 8*3) (vZ L P 8)]):=by
 refine fnA (E:=envWv3) Tryz.func49 Tryz.ntmps49 ?_
 have h0:¬(m:Int)=0:=by omega
 refine agow ?_;(try exact⟨⟩)
 rw[←hP]
 refine StopL.mk (loop_forN [0,7,8,21] [0,1] 8 99 3 [.ints .i64 0 []] 8 (fun j=>⟨[.d (.sref [.ints .i64 1 [n],.ints .i32 1 [mu],.ints .u32 1 [0],.gen 16 l,.gen 2 [po,.recs L.length 35 (apF L)]] 0),.dead,.dead,.dead,.dead,.dead,.dead,.ptr 0 0,.own 1 (vN L P j),.dead,.dead,.dead,.dead,.dead,.dead,.dead,.dead,.dead,.dead,.dead,.dead,.d (.v (.int .i64 (j:Nat))),.dead,.dead,.dead,.dead,.dead,.dead,.dead,.dead,.dead,.dead,.dead,.dead,.dead,.dead,.dead,.dead],[some (.var [.bytes 32 P]),some (.sl 99 3 (vN L P j) [.ints .i64 (vN L P j*3) (vZ L P j)])]⟩) ?_ (h2:=by dsimp only;rw[show vN L P 0=0 by rw[vN],show vZ L P 0=[] by rw[vZ],Nat.zero_mul];rfl))
 intro j hj hl
 by_cases h:j<8
 ·have h1:(j:Int)<8:=by omega
  have hle:=vN_le L P j
  refine agow ?_;(try exact⟨⟩)
  intro b v hb hv
  have hv3:=tellV_len L P (j:Nat)
  rw[←hv]at hv3
  cases b with
  |false=>
   have e1:vN L P (j+1)=vN L P j:=by rw[vN,←hb];rfl
   have e2:vZ L P (j+1)=vZ L P j:=by rw[vZ,←hb];rfl
   clear hb hv
   have E1:=Lib.hid e1;have E2:=Lib.hid e2
   clear e1 e2
   refine agow ?_;(try exact⟨⟩)
   refine hl.go h [0,7,8,21] [0,1] ?_
   dsimp only
   rw[E1.out,E2.out]
   rfl
  |true=>
   have e1:vN L P (j+1)=vN L P j+1:=by rw[vN,←hb];rfl
   have e2:vZ L P (j+1)=vZ L P j++v:=by rw[vZ,←hb,hv];rfl
   clear hb hv
   have E1:=Lib.hid e1;have E2:=Lib.hid e2
   clear e1 e2
   refine agow ?_;(try exact⟨⟩)
   refine hl.go h [0,7,8,21] [0,1] ?_
   dsimp only
   rw[E1.out,E2.out,Nat.succ_mul]
   rfl
 ·obtain rfl:j=8:=by omega
  refine agow ?_;(try exact⟨⟩)
end
section
open Pm
def viewB(e:Int)(zs:List Int)(ad:List Bool)(k:Int)(ch:List UInt8):List UInt8:=((numsB [e,k]++flagsB ad)++ch)++(numsB (zs.take 16)++numsB ((zs.drop 16).take 15))
theorem flags_step(ad:List Bool){j:Nat}(h:j<ad.length):flagsB (ad.take (j+1))=flagsB (ad.take j)++[if ad.getD j false=true then 1 else 0]:=by
 unfold flagsB
 rw[List.take_add_one,List.map_append,List.getElem?_eq_getElem h,List.getD_eq_getElem?_getD,List.getElem?_eq_getElem h]
 rfl
theorem flags_nil(ad:List Bool):flagsB (ad.take 0)=[]:=rfl
attribute [local irreducible] condK LoopA regA numB numsB flagsB boxB anyP idxP mayB
set_option maxHeartbeats 8000000 in
theorem viewBytes_ok(e:Int)(zs:List Int)(ad:List Bool)(k:Int)(ch:List UInt8):FnO 132 [.agg (vSegs e zs ad k ch)] (.o 5 1 304 [.bytes 304 (viewB e zs ad k ch)]):=by
 refine fn_lens fun hl=>?_
 have hz:zs.length=31:=hl.1.2.1
 have ha:ad.length=8:=hl.1.2.2.1
 have hch:ch.length=32:=hl.1.2.2.2.2.1
 clear hl
 refine fnA (E:=envCq) Tryz.func132 Tryz.ntmps132 ?_
 refine agow ?_;(try exact⟨⟩)
 refine StopL.mk (loop_forG [1,3,15,16] [0,2] 8 (fun j=>⟨[.dead,.ptr 0 0,.dead,.own 1 (16+j),.dead,.dead,.dead,.dead,.dead,.dead,.dead,.dead,.dead,.dead,.dead,.d (.agg [.bools 8 ad]),.d (.v (.int .i64 (j:Nat))),.dead,.dead,.dead,.dead,.dead,.dead,.dead,.dead,.dead,.dead,.dead,.dead,.dead,.dead,.dead,.dead,.dead,.dead,.dead,.dead,.dead,.dead,.dead,.dead,.dead,.dead,.dead,.dead,.dead,.dead,.dead,.dead,.dead,.dead,.dead],[some (.var (vSegs e zs ad k ch)),some (.sl 5 1 (16+j) [.bytes (16+j) (numsB [e,k]++flagsB (ad.take j))])]⟩) ?_ (h2:=by rw[flags_nil,List.append_nil];exact rfl))
 intro j hj hl
 by_cases h:j<8
 ·have h1:(j:Int)<8:=by omega
  cases hb:ad.getD j false with
  |true=>
   refine agow ?_;(try exact⟨⟩)
   refine hl.go h [1,3,15,16] [0,1] ?_
   rw[flags_step ad (by omega),hb,if_pos rfl,←List.append_assoc]
   rfl
  |false=>
   refine agow ?_;(try exact⟨⟩)
   refine hl.go h [1,3,15,16] [0,1] ?_
   rw[flags_step ad (by omega),hb,if_neg (by decide),←List.append_assoc]
   rfl
 obtain rfl:j=8:=by omega
 rw[List.take_of_length_le (show ad.length≤8 by omega)]
 clear hl h hj
 refine agow ?_;(try exact⟨⟩)
 have hL:(zs.take 16).length=16:=by simp[hz]
 have hD:((zs.drop 16).take 15).length=15:=by simp[hz]
 refine StopL.mk (loop_forG [1,3,33,34] [0,1] 8 (fun j=>⟨[.dead,.ptr 0 0,.dead,.own 1 (56+j*16),.dead,.dead,.dead,.dead,.dead,.dead,.dead,.dead,.dead,.dead,.dead,.dead,.dead,.dead,.dead,.dead,.dead,.dead,.dead,.dead,.dead,.dead,.dead,.dead,.dead,.dead,.dead,.dead,.dead,.d (.agg [.ints .i64 16 (zs.take 16)]),.d (.v (.int .i64 (j:Nat))),.dead,.dead,.dead,.dead,.dead,.dead,.dead,.dead,.dead,.dead,.dead,.dead,.dead,.dead,.dead,.dead,.dead],[some (.var (vSegs e zs ad k ch)),some (.sl 5 1 (56+j*16) [.bytes (56+j*16) (((numsB [e,k]++flagsB ad)++ch)++numsB ((zs.take 16).take (j*2)))])]⟩) ?_ (h2:=by rw[Nat.zero_mul,List.take_zero,numsB_nil,List.append_nil];exact rfl))
 intro j hj hl
 by_cases h:j<8
 ·have h1:(j:Int)<8:=by omega
  refine agow ?_;(try exact⟨⟩)
  refine hl.go h [1,3,33,34] [0,1] ?_
  rw[show(j+1)*2=j*2+2 by omega,numsB_two _ (by omega),show(j+1)*16=j*16+16 by omega,←List.append_assoc,←Nat.add_assoc,←two_get _ (j*2) 1 (by omega),show ∀(L:List Int),L.getD (j*2) 0=L.getD (j*2+0) 0 from fun _=>rfl,←two_get _ (j*2) 0 (by omega),show ∀a b:Int,numB a++numB b=numsB [a,b]from fun a b=>by rw[numsB_cons,numsB_one]]
  rfl
 obtain rfl:j=8:=by omega
 rw[show(zs.take 16).take (8*2)=zs.take 16 from List.take_of_length_le (by omega)]
 clear hl h hj
 refine agow ?_;(try exact⟨⟩)
 rw[hD]
 unfold viewB
 rw[←List.append_assoc ((numsB [e,k]++flagsB ad)++ch)]
def viewBS:List A→(Res→Prop)→Prop
 |[.agg [.ints .i64 1 [e],.ints .i64 31 zs,.bools 8 ad,.ints .i64 1 [k],.bytes 32 ch]],K=>K (.o 5 1 304 [.bytes 304 (viewB e zs ad k ch)])
 |_,_=>False
theorem viewBS_ok:∀args K,viewBS args K→∃r,FnO 132 args r∧K r:=by
 intro args K h
 unfold viewBS at h
 split at h
 ·exact⟨_,viewBytes_ok _ _ _ _ _,h⟩
 ·exact h.elim
structure WS where
 leaf:Int
 fr:Int
 e:Int
 zs:List Int
 ad:List Bool
 k:Int
 ch:List UInt8
 box:List UInt8
 tag:List UInt8
def wlSegs(w:WS):List Seg:=[.ints .i64 2 [w.leaf,w.fr],.ints .i64 1 [w.e],.ints .i64 31 w.zs,.bools 8 w.ad,.ints .i64 1 [w.k],.bytes 32 w.ch,.gen 1 [.row w.box.length [.bytes w.box.length w.box]],.bytes 32 w.tag]
structure WSok(w:WS):Prop where
 zs:w.zs.length=31
 ad:w.ad.length=8
 ch:w.ch.length=32
 tag:w.tag.length=32
 box:w.box.length≤6000
def mayW(w:WS):Bool:=withinB w.leaf 7&&(withinB w.fr 7&&(mayV w.e w.zs w.ad w.k&&decide ((w.box.length:Int)≤300)))
def wlB(w:WS):List UInt8:=([2]++numsB [w.leaf,w.fr])++(viewB w.e w.zs w.ad w.k w.ch++(boxB w.box++w.tag))
def wlN(w:WS):Nat:=17+(304+((8+w.box.length)+32))
def wlR(w:WS):Res:=if mayW w=true then .t [.row (wlN w) [.bytes (wlN w) (wlB w)],.v (.int .i64 0)]else .t [.v (.slice none 0 0),.v (.int .i64 1)]
theorem viewB_length{e:Int}{zs:List Int}{ad:List Bool}{k:Int}{ch:List UInt8}(h1:zs.length=31)(h2:ad.length=8)(h3:ch.length=32):(viewB e zs ad k ch).length=304:=by
 have h4:(flagsB ad).length=8:=by unfold flagsB;rw[List.length_map];exact h2
 unfold viewB
 simp only[List.length_append,numsB_length,h3,h4,List.length_take,List.length_drop,h1,List.length_cons,List.length_nil]
 rfl
theorem wlB_length{w:WS}(h:WSok w):(wlB w).length=wlN w:=by
 unfold wlB wlN
 simp only[List.length_append,numsB_length,viewB_length h.zs h.ad h.ch,boxB_length,h.tag,List.length_cons,List.length_nil]
noncomputable def envWa:EnvX:=envCq.add 152 vIsS (vIsS_of vIs_ok) ⟨_,Tryz.func152,by kernel_rfl,by kernel_rfl⟩
noncomputable def envWb:EnvX:=envWa
noncomputable def envWc:EnvX:=envWb.add 132 viewBS viewBS_ok ⟨_,Tryz.func132,by kernel_rfl,by kernel_rfl⟩
attribute [local irreducible] viewB withinB mayV
set_option maxHeartbeats 4000000 in
theorem mayWelcome_ok(w:WS)(hw:WSok w):FnO 131 [.agg (wlSegs w)] (.d (.v (.bool (mayW w)))):=by
 refine fnA (E:=envWc) Tryz.func131 Tryz.ntmps131 ?_
 cases h1:withinB w.leaf 7
 case false=>
  have e1:mayW w=false:=by simp[mayW,h1]
  rw[e1]
  clear e1
  refine agow ?_;(try exact⟨⟩)
 cases h2:withinB w.fr 7
 case false=>
  have e1:mayW w=false:=by simp[mayW,h2]
  rw[e1]
  clear e1
  refine agow ?_;(try exact⟨⟩)
 cases h3:mayV w.e w.zs w.ad w.k
 case false=>
  have e1:mayW w=false:=by simp[mayW,h3]
  rw[e1]
  clear e1
  refine agow ?_;(try exact⟨⟩)
 have e1:mayW w=!decide ((w.box.length:Int)>300):=by
  simp only[mayW,h1,h2,h3,Bool.true_and]
  rw[Bool.eq_iff_iff];simp
 rw[e1]
 clear e1
 refine agow ?_;(try exact⟨⟩)
def wlS(res:WS→Res):List A→(Res→Prop)→Prop
 |[.agg l],K=>∃w,l=wlSegs w∧WSok w∧K (res w)
 |_,_=>False
theorem wlS_of{f:FuncId}{res:WS→Res}(h:∀w,WSok w→FnO f [.agg (wlSegs w)] (res w)):∀args K,wlS res args K→∃r,FnO f args r∧K r:=by
 intro args K hd
 unfold wlS at hd
 split at hd
 ·obtain⟨w,rfl,h1,hd⟩:=hd;exact⟨_,h _ h1,hd⟩
 ·exact hd.elim
noncomputable def envWd:EnvX:=envWc.add 131 (wlS fun w=>.d (.v (.bool (mayW w)))) (wlS_of mayWelcome_ok) ⟨_,Tryz.func131,by kernel_rfl,by kernel_rfl⟩
noncomputable def envWe:EnvX:=envWd
attribute [local irreducible] mayW
set_option maxHeartbeats 8000000 in
theorem wwelcome_ok(w:WS)(hw:WSok w):FnO 90 [.agg (wlSegs w)] (wlR w):=by
 refine fnA (E:=envWe) Tryz.func90 Tryz.ntmps90 ?_
 have hl:=wlB_length hw
 have hb:=hw.box
 have hv:=viewB_length (e:=w.e) (k:=w.k) hw.zs hw.ad hw.ch
 have htg:=hw.tag
 have hn2:(numsB [w.leaf,w.fr]).length=16:=by rw[numsB_length];rfl
 have hbx:=boxB_length w.box
 unfold wlR
 cases hm:mayW w with
 |false=>
  refine agow ?_;(try exact⟨⟩)
  rfl
 |true=>
  refine agow ?_;(try exact⟨⟩)
  generalize hp:ptsOf _ _ _=o
  obtain rfl:o=some [.own 1 17,.own 4 304,.own 5 (8+w.box.length),.win 0 76 32]:=hp.symm.trans (ptsOf_cons rfl (ptOf_own rfl rfl) (ptsOf_cons rfl (ptOf_own rfl rfl) (ptsOf_cons rfl (ptOf_own rfl rfl) (ptsOf_cons rfl rfl ptsOf_nil))))
  clear hp
  refine agow ?_;(try exact⟨⟩)
  have e:(numsB [w.leaf,w.fr]++(viewB w.e w.zs w.ad w.k w.ch++(boxB w.box++w.tag))).length+1=wlN w:=by
   simp only[List.length_append,hn2,hv,hbx,htg,wlN];omega
  rw[e,if_pos rfl]
  rfl
attribute [local irreducible] wlR
end
section
open Pm
theorem fnF_rowI{P:Program}{G:Nat→Option (List Seg)}{f:FuncId}{args:List A}{e:TypeId}{sz n m:Nat}{k:IntKind}{l:List Int}(h:FnOK P G f args (.o e sz n [.ints k m l])):FnF P G f args (.d (.row n [.ints k m l])):=fun S w vs hG hv=>
 (h S w vs hG hv).mono fun e w' ⟨v,h1,⟨cs,h2,h3⟩,h4⟩=>⟨v,h1,rr_row ⟨cs,h2,by cases h3 with|ints q r=>cases r;exact .ints q .nil⟩,h4⟩
theorem GL.consB{E:EnvX}{s:St}{ops r:List Oper}{o:Oper}{t:T}{blk:Option (Nat×Bk)}{k:St→Prop}(hg:o.guard=none)(ho:OpOK E o s s.h.length t blk)(h:GL E ops r (s.app2 o.dst t blk) k):GL E ops (o::r) s k:=by
 refine⟨fun S base w0 ρ a w g=>?_⟩
 have hs:StepOK E ops o s s.h.length t blk:=.inl ⟨by unfold Wants;rw[hg],ho⟩
 unfold wpList
 refine hs.run (s':=⟨s.t,s.h++List.replicate 1 none⟩) (ρ:=ρ) (a:=a) (w:=w) (fun x hx=>⟨by cases x<;>rfl,fun b _=>bk_more s 1 b⟩) (fun _ _ _ _ _=>rfl) (g.sim (Sim.more s 1)) ?_ (by simp) fun a' w' ρ' g'=>?_
 ·rw[bk_more]
  unfold St.bk
  rw[List.getD_eq_getElem?_getD,List.getElem?_eq_none (Nat.le_refl _)];rfl
 ·exact h.out _ _ _ _ _ _ (g'.simBack app2_sim)
theorem GL.build{E:EnvX}{s:St}{ops r:List Oper}{o:Oper}{t:TypeId}{len:Nat}{parts:Array (Nat×Operand)}{i j:TI}{k:St→Prop}(hg:o.guard=none)(ho:o.op=.buildSlice t len parts)(hY:E.Y t=some i)(hs1:i.sl=true)(he:i.esz≠0)(hl:len≠0)(hm:len*i.esz≤16777216)(hj:E.Y i.elem=some j)(hjs:segN j.zero=i.esz)
  (h:fillA (fun f=>some (f*i.esz,i.esz)) s parts.toList (manyS len j.zero) fun l=>Stop (GL E ops r (s.app2 o.dst (.own s.h.length len) (some (s.h.length,.sl i.elem i.esz len l))) k)):GL E ops (o::r) s k:=by
 obtain⟨l,h1,h2⟩:=ok_buildSlice (s:=s) (fr:=s.h.length) ho hY hs1 he hl hm hj hjs h
 exact GL.consB hg h2 h1.out
def wsOf:List Seg→WS
 |[.ints .i64 2 [leaf,fr],.ints .i64 1 [e],.ints .i64 31 zs,.bools 8 ad,.ints .i64 1 [k],.bytes 32 ch,.gen 1 [.row _ [.bytes _ box]],.bytes 32 tag]=>⟨leaf,fr,e,zs,ad,k,ch,box,tag⟩
 |_=>⟨0,0,0,[],[],0,[],[],[]⟩
theorem wsOf_eq(w:WS):wsOf (wlSegs w)=w:=rfl
def okW(l:List Seg):Prop:=∃w,l=wlSegs w∧WSok w∧mayW w=true
def wN(l:List Seg):Nat:=wlN (wsOf l)
def wB(l:List Seg):List UInt8:=wlB (wsOf l)
def welK:List A→(Res→Prop)→Prop
 |[.agg [.ints .i64 2 [leaf,fr],.ints .i64 1 [e],.ints .i64 31 zs,.bools 8 ad,.ints .i64 1 [k],.bytes 32 ch,.gen 1 [.row n [.bytes m box]],.bytes 32 tag]],K=>n=box.length∧m=box.length∧WSok ⟨leaf,fr,e,zs,ad,k,ch,box,tag⟩∧mayW ⟨leaf,fr,e,zs,ad,k,ch,box,tag⟩=true∧∀N B,N=wlN ⟨leaf,fr,e,zs,ad,k,ch,box,tag⟩→B=wlB ⟨leaf,fr,e,zs,ad,k,ch,box,tag⟩→K (.t [.row N [.bytes N B],.v (.int .i64 0)])
 |_,_=>False
theorem welK_ok:∀args K,welK args K→∃r,FnO 90 args r∧K r:=by
 intro args K h
 unfold welK at h
 split at h
 ·next leaf fr e zs ad k ch n m box tag=>
  obtain⟨rfl,rfl,h1,h2,h⟩:=h
  have:=wwelcome_ok ⟨leaf,fr,e,zs,ad,k,ch,box,tag⟩ h1
  unfold wlR at this
  rw[if_pos h2]at this
  exact⟨_,this,h _ _ rfl rfl⟩
 ·exact h.elim
def letL(c:CS)(W:Nat→List Seg):Nat→List A
 |0=>[.row (commitN c) [.bytes (commitN c) (commitB c)]]
 |j+1=>letL c W j++[.row (wN (W j)) [.bytes (wN (W j)) (wB (W j))]]
attribute [local irreducible] condK LoopA regA powI scal mulI isI fourB deriveW numB numsB bodyB nodeW nextW viewHV doR chkV planL sealB boxD keyZ helD commonI placeI apE doP comE comP nextP joinP upW lefW tagE welSegs welF welN createP enterP mayB commitB commitN okW wN wB letL wlN wlB mayW
noncomputable def envWi1:EnvX:=envWr1.add 90 welK welK_ok ⟨_,Tryz.func90,by kernel_rfl,by kernel_rfl⟩
set_option maxHeartbeats 4000000 in
theorem letters_fn(e fr:Int)(n:Nat)(ops:List Int)(m:Nat)(vs:List Int)(sl p0 p1 p2:Int)(k:Nat)(bx:Nat→List UInt8)(tg:List UInt8)(sE sS:Int)(hn:n≤3000)(hm:m≤3000)(hk:k≤3000)(hb:∀j,j<k→(bx j).length≤6000)(hM:mayB ⟨e,fr,n,ops,m,vs,sl,p0,p1,p2,k,bx,tg,sE,sS⟩=true)(N:Nat)(hN:N≤1000)(W:Nat→List Seg)(hW:∀j,j<N→okW (W j)):
  FnO 50 [.agg (cSegs2 ⟨e,fr,n,ops,m,vs,sl,p0,p1,p2,k,bx,tg,sE,sS⟩),.recs N 108 W] (.t [.row (N+1) [.gen (N+1) (letL ⟨e,fr,n,ops,m,vs,sl,p0,p1,p2,k,bx,tg,sE,sS⟩ W N)],.v (.int .i64 0)]):=by
 refine fnGW (E:=envWi1) Tryz.func50 Tryz.ntmps50 ?_
 obtain⟨c,hc⟩:∃c:CS,c=⟨e,fr,n,ops,m,vs,sl,p0,p1,p2,k,bx,tg,sE,sS⟩:=⟨_,rfl⟩
 unfold cSegs2
 refine GW.seq (GW.of ?_)
 refine agow ?_;(try exact⟨⟩)
 refine GW.seq (GW.of ?_)
 refine agow ?_;(try exact⟨⟩)
 intro L B hL hB
 rw[←hc]at hL hB ⊢
 have h0:letL c W 0=[.row L [.bytes L B]]:=by rw[letL,hL,hB]
 have hs:∀j,letL c W (j+1)=letL c W j++[.row (wN (W j)) [.bytes (wN (W j)) (wB (W j))]]:=fun j=>by rw[letL]
 clear hc hL hB hM
 generalize letL c W=T at*
 have H0:=Lib.hid h0
 have HS:=Lib.hid hs
 clear h0 hs
 refine agow ?_;(try exact⟨⟩)
 refine GW.seq (GW.of ?_)
 refine agow ?_;(try exact⟨⟩)
 refine GW.seq (GW.region (GL.preN 1 ?_))
 refine agow ?_;(try exact⟨⟩)
 refine GL.build (t:=56) rfl rfl rfl rfl (by decide) (by decide) (by decide) rfl rfl ?_
 refine agow ?_;(try exact⟨⟩)
 refine⟨GL.of (Stop.out ?_)⟩
 refine agow ?_;(try exact⟨⟩)
 refine GW.of ?_
 refine agow ?_;(try exact⟨⟩)
 refine StopL.mk (loop_forG [8,23,24,25] [0,1] N (fun j=>⟨[.dead,.dead,.dead,.dead,.dead,.dead,.dead,.dead,.own 1 (j+1),.dead,.dead,.dead,.dead,.dead,.dead,.dead,.dead,.dead,.dead,.dead,.dead,.dead,.dead,.d (.recs N 108 W),.d (.v (.int .i64 (N:Nat))),.d (.v (.int .i64 (j:Nat))),.dead,.dead,.dead,.dead,.dead,.dead,.dead,.dead,.dead,.dead,.dead,.dead,.dead,.dead,.dead,.dead,.dead],[some (.var (cSegs2 ⟨e,fr,n,ops,m,vs,sl,p0,p1,p2,k,bx,tg,sE,sS⟩)),some (.sl 35 1 (j+1) [.gen (j+1) (T j)])]⟩) ?_ (h2:=by dsimp only;rw[H0.out];rfl))
 intro j hj hl
 unfold cSegs2
 by_cases h:j<N
 ·have h1:(j:Int)<(N:Int):=by omega
  obtain⟨⟨leaf',fr',e',zs',ad',k',ch',box',tag'⟩,hw,hw1,hw2⟩:=(show ∃w,W j=wlSegs w∧WSok w∧mayW w=true from by have:=hW j h;unfold okW at this;exact this)
  have HW:=Lib.hid hw
  unfold wlSegs at hw
  dsimp only at hw
  refine agow ?_;(try exact⟨⟩)
  rw[hw]
  refine agow ?_;(try exact⟨⟩)
  intro L' B' hL' hB'
  have HL:=Lib.hid hL';have HB:=Lib.hid hB'
  clear hL' hB'
  refine agow ?_;(try exact⟨⟩)
  refine hl.go h [8,23,24,25] [0,1] ?_
  rw[HS.out,HW.out,show wN (wlSegs ⟨leaf',fr',e',zs',ad',k',ch',box',tag'⟩)=L' from by unfold wN;rw[wsOf_eq,HL.out],show wB (wlSegs ⟨leaf',fr',e',zs',ad',k',ch',box',tag'⟩)=B' from by unfold wB;rw[wsOf_eq,HB.out]]
  rfl
 ·obtain rfl:j=N:=by omega
  refine agow ?_;(try exact⟨⟩)
  done
def allW(N:Nat)(W:Nat→List Seg):Prop:=∀j,j<N→okW (W j)
def letNS:List A→(Res→Prop)→Prop
 |[.agg [.ints .i64 2 [e,fr],.gen 2 [.row n [.ints .i64 n5 ops],.row m [.ints .i64 m3 vs]],.ints .i64 4 [sl,p0,p1,p2],.gen 1 [.row k [.gen k' bl]],.bytes 32 tg,.ints .i64 2 [sE,sS]],.recs N 108 W],K=>
  n5=n*5∧m3=m*3∧k'=k∧N≤1000∧allW N W∧n≤3000∧m≤3000∧k≤3000∧∃bx:Nat→List UInt8,bl=rowsF bx k∧(∀j,j<k→(bx j).length≤6000)∧mayB ⟨e,fr,n,ops,m,vs,sl,p0,p1,p2,k,bx,tg,sE,sS⟩=true∧
   ∀M T,M=N+1→T=letL ⟨e,fr,n,ops,m,vs,sl,p0,p1,p2,k,bx,tg,sE,sS⟩ W N→K (.t [.row M [.gen M T],.v (.int .i64 0)])
 |_,_=>False
theorem letNS_ok:∀args K,letNS args K→∃r,FnO 50 args r∧K r:=by
 intro args K h
 unfold letNS at h
 split at h
 ·obtain⟨rfl,rfl,rfl,h0,hw,h1,h2,h3,bx,rfl,h4,h5,h⟩:=h
  exact⟨_,letters_fn _ _ _ _ _ _ _ _ _ _ _ _ _ _ _ h1 h2 h3 h4 h5 _ h0 _ hw,h _ _ rfl rfl⟩
 ·exact h.elim
noncomputable def envWi5:EnvX:=envWr3a.add 50 letNS letNS_ok ⟨_,Tryz.func50,by kernel_rfl,by kernel_rfl⟩
end
section
open Pm
def apL(x:Ap):List Value:=HL x.p++[.int .i64 x.k,.int .i64 x.e,.int .i64 x.s]
def apC(x:Ap):Array Value:=(apL x).toArray
def apsC(L:List Ap):List Value:=L.flatMap apL
theorem apC_size(x:Ap)(hp:x.p.length=32):(apC x).size=35:=by simp[apC,apL,HL,hp]
theorem rl_ap{D:Nat→Prop}{w:World}{x:Ap}{cs:Array Value}(h:RL D w [.bytes 32 x.p,.ints .i64 3 [x.k,x.e,x.s]] cs.toList):cs=apC x:=by
 obtain⟨c,d,h1,h2,h3,_⟩:=h.head
 obtain⟨_,rfl⟩:=h2.toBytes
 obtain⟨_,rfl⟩:=h3.toInts
 apply Array.toList_inj.1
 rw[h1];rfl
theorem rl_of_ap{D:Nat→Prop}{w:World}(x:Ap)(hp:x.p.length=32):RL D w [.bytes 32 x.p,.ints .i64 3 [x.k,x.e,x.s]] (apC x).toList:=
 RL.append (.ofBytes hp rfl) (RL.ofInts (k:=.i64) (n:=3) (zs:=[x.k,x.e,x.s]) rfl rfl)
theorem ap_ty:∃i,yTab7 108=some i∧i.agg=true∧i.esz=0∧i.plc=[(0,32),(32,3)]∧i.zero=[.bytes 32 (List.replicate 32 0),.ints .i64 3 [0,0,0]]∧i.sz=35∧i.bytes=56:=⟨_,rfl,rfl,rfl,rfl,rfl,rfl,rfl⟩
theorem slice_ap(w:World)(x:Ap)(hp:x.p.length=32):(Instr.buildSlice 57 1 #[(0,.agg (apC x))]).run Tryz.prog w=.ok (.slice (some ⟨w.heap.size,0,none⟩) 1 1) (w.alloc (.cells (apC x) 108)):=by
 obtain⟨i,hY,ha,he,hpl,hz,hsz,_⟩:=ap_ty
 obtain⟨f,z,h1,h2,_,h3,h4⟩:=(yOK7 _ i hY).info
 have hfs:f.size=35:=h2.trans hsz
 rw[hz]at h4
 have hzr:=zeroB_spec (S:=fun _=>True) (w:=w) h4
 have hzl:z.cells.size=35:=by have:=hzr.len;simpa[segN,Seg.n]using this
 have hc:=many_cells z.cells (by omega) 1
 obtain⟨l',rfl,hf⟩:=fillA_spec (off:=fun q=>some (q*35,35)) (s:=⟨[.d (.agg [.bytes 32 x.p,.ints .i64 3 [x.k,x.e,x.s]])],[]⟩) (parts:=[(0,.tmp 0)]) (l:=[.bytes 32 (List.replicate 32 0),.ints .i64 3 [0,0,0]]) (K:=fun l=>l=[.bytes 32 x.p,.ints .i64 3 [x.k,x.e,x.s]]) ⟨by decide,rfl,rfl⟩
 obtain⟨cs',h5,h6⟩:=hf (D:=fun _=>True) (w:=w) (ρ:=fun _=>none) (fun _=>.agg (apC x)) ((Array.range (1*f.size)).map (z.cells[·%z.cells.size]!)) (fun q hq=>by
  rcases List.mem_cons.1 hq with rfl|hq
  ·have:=RA.agg (rl_of_ap (D:=fun _=>True) (w:=w) x hp);exact this
  ·cases hq) (by rw[hfs,←hzl,hc];simpa using hzr)
 rw[rl_ap h6]at h5
 have hu:Tryz.prog.underlying 57=some (.slice 108):=Tryz.underlying57
 exact run_buildSlice (P:=Tryz.prog) w 57 108 1 #[(0,.agg (apC x))] (apC x) f z hu h1 h3 (by rw[hfs];decide) (by rw[hfs];decide) (by rw[←hfs]at h5;exact h5)
theorem append_ap(w:World){v:Value}{L:List Ap}{g:Nat}(x:Ap)(hp:x.p.length=32)(ty:TypeId)(hL:L.length≤1000000)(ho:w.ownsRow 0 108 35 v L.length (apsC L))(hg:Blk w g (apC x) 108):
  ∃v' w',(Builtin.append_ #[57,57] ty #[v,.slice (some ⟨g,0,none⟩) 1 1]).run Tryz.prog w=.ok v' w'∧w'.ownsRow 0 108 35 v' (L.length+1) (apsC (L++[x]))∧w.grownBy w' v.ownBlock∧(v'.ownBlock=v.ownBlock∨v'.ownBlock=some w.heap.size):=by
 obtain⟨i,hY,ha,he,hpl,hz,hsz,hby⟩:=ap_ty
 obtain⟨f,z,h1,h2,h2b,h3,h4⟩:=(yOK7 _ i hY).info
 have hfs:f.size=35:=h2.trans hsz
 rw[hz]at h4
 have hzr:=zeroB_spec (S:=fun _=>True) (w:=w) h4
 have hzl:z.cells.size=35:=by have:=hzr.len;simpa[segN,Seg.n]using this
 obtain⟨v',w',k1,k2,k3,_,k5⟩:=run_append_own_at (P:=Tryz.prog) w 0 57 ty 108 f z 35 56 Tryz.underlying57 h1 h3 hfs (h2b.trans hby) hzl (by decide) v L.length (apsC L) ho ⟨g,0,none⟩ 1 1 (apC x).toList (by rw[Array.length_toList,apC_size x hp]) (fun j u hu=>by
   rw[add_at,Nat.zero_add,hg.cell j,←Array.getElem?_toList];exact hu) (rl_of_ap (D:=fun _=>True) (w:=w) x hp).one (by unfold maxLen;omega) (by omega) (Nat.zero_le _)
 refine⟨v',w',k1,?_,k3,k5⟩
 have:apsC (L++[x])=apsC L++(apC x).toList:=by simp[apsC,apC]
 rw[this];exact k2
end
section
open Pm
theorem apL_length(x:Ap)(h:x.p.length=32):(apL x).length=35:=by simp[apL,HL,h]
theorem apsC_length(L:List Ap)(h:∀x∈L,x.p.length=32):(apsC L).length=L.length*35:=by
 induction L with
 |nil=>rfl
 |cons x L ih=>
  unfold apsC at ih ⊢
  rw[List.flatMap_cons,List.length_append,ih (fun y hy=>h y (by simp[hy])),apL_length x (h x (by simp)),List.length_cons];omega
theorem apsC_at(L:List Ap)(h:∀x∈L,x.p.length=32):∀(j i:Nat),j<L.length→i<35→(apsC L)[j*35+i]?=(apL (L.getD j ap0))[i]?:=by
 induction L with
 |nil=>intro j i hj;exact absurd hj (by simp)
 |cons x L ih=>
  intro j i hj hi
  have hx:=apL_length x (h x (by simp))
  unfold apsC at ih ⊢
  rw[List.flatMap_cons]
  cases j with
  |zero=>rw[List.getElem?_append_left (by omega)];simp
  |succ j=>
   rw[List.getElem?_append_right (by omega),hx,show(j+1)*35+i-35=j*35+i by omega,ih (fun y hy=>h y (by simp[hy])) j i (by simpa using hj) hi]
   simp
theorem apsRA{w:World}{v:Value}{L:List Ap}(ho:w.ownsRow 0 108 35 v L.length (apsC L))(hl:∀x∈L,x.p.length=32):RA (fun _=>True) w (.recs L.length 35 (apF L)) v:=by
 rcases ho.2 with⟨e1,e2⟩|⟨q,cap,cur,rfl,_,h5,h6,h7,h8,h9⟩
 ·rw[e1,e2]
  exact .recs (cs:=fun _=>[]) (fun j hj=>absurd hj (by omega)) (Nat.le_refl _) (Nat.zero_le _) (fun _=>rfl) (.inl rfl)
 ·refine .recs (cs:=fun j=>apL (L.getD j ap0)) (fun j hj=>?_) h6 h7 (fun e=>by cases e) (.inr ⟨q,0,rfl,fun j hj=>.inr ⟨q,0+j*35,rfl,trivial,(Array.getElem?_eq_some_iff.1 h5).1,fun i hi=>?_⟩⟩)
  ·have hm:L.getD j ap0∈L:=by rw[List.getD_eq_getElem?_getD,List.getElem?_eq_getElem hj];exact List.getElem_mem hj
   exact rl_of_ap (L.getD j ap0) (hl _ hm)
  ·have hm:L.getD j ap0∈L:=by rw[List.getD_eq_getElem?_getD,List.getElem?_eq_getElem hj];exact List.getElem_mem hj
   have hi2:i<35:=by rw[apL_length _ (hl _ hm)]at hi;exact hi
   have hn:=apsC_length L hl
   rw[cell_of_row w q (0+j*35+i) cur _ (0,0) h5,Nat.zero_add]
   have:(cur.toList.take (L.length*35))[j*35+i]?=(apsC L)[j*35+i]?:=by rw[h9]
   rw[List.getElem?_take,if_pos (by omega),Array.getElem?_toList,apsC_at L hl j i hj hi2]at this
   rw[this,List.getElem?_eq_getElem hi]
theorem rg_raw{S:Nat→Prop}{w:World}:∀{ps:List Value},(∀x∈ps,x.oneCell'=true)→RG S w (ps.map A.v) ps
 |[],_=>.nil
 |x::ps,h=>.cons (.v x) (h x (by simp)) (rg_raw fun y hy=>h y (by simp[hy]))
theorem ap_slice{w:World}{v:Value}{n:Nat}{xs:List Value}(h:w.ownsRow 0 108 35 v n xs):∃ad c,v=.slice ad n c:=by
 rcases h.2 with⟨e1,e2⟩|⟨q,cap,cur,rfl,_⟩
 ·rw[e1,e2];exact⟨_,_,rfl⟩
 ·exact⟨_,_,rfl⟩
theorem worldRA{w:World}{r:Nat}{t:TypeId}{mu n:Int}{ps:List Value}{v1 v:Value}{L:List Ap}(hb:Blk w r (WLs n mu (ps++[v1,v])).toArray t)(h16:ps.length=16)(h1:∀x∈ps,x.oneCell'=true)(h2:v1.oneCell'=true)(ho:w.ownsRow 0 108 35 v L.length (apsC L))(hl:∀x∈L,x.p.length=32):
  RA (fun _=>True) w (.sref (wdV n mu (ps.map A.v) (.v v1) (.recs L.length 35 (apF L))) 0) (.pointer (some ⟨r,0,none⟩)):=by
 have hv:=apsRA ho hl
 have hv1:v.oneCell'=true:=by obtain⟨ad,c,rfl⟩:=ap_slice ho;rfl
 have hR:RL (fun _=>True) w (wdV n mu (ps.map A.v) (.v v1) (.recs L.length 35 (apF L))) (WLs n mu (ps++[v1,v])).toArray.toList:=by
  have h3:=RL.append (.ofInts (k:=.i64) (n:=1) (zs:=[n]) rfl rfl) (RL.append (.ofInts (k:=.i32) (n:=1) (zs:=[mu]) rfl rfl) (RL.append (.ofInts (k:=.u32) (n:=1) (zs:=[0]) rfl rfl) (RL.append (RL.ofGen (S:=fun _=>True) (w:=w) (n:=16) (by simp[h16]) (rg_raw h1)) (.ofGen (n:=2) rfl (.cons (.v v1) h2 (.cons hv hv1 .nil))))))
  exact h3
 refine .sref (off:=0) hR (.inr ⟨r,0,rfl,trivial,(Array.getElem?_eq_some_iff.1 hb).1,fun i hi=>?_⟩)
 rw[Nat.zero_add,cells_of hb i,List.getElem?_eq_getElem hi]
theorem told_any{w:World}{r:Nat}{t:TypeId}{mu n:Int}{ps:List Value}{v1 v:Value}{L:List Ap}(hG:GOK gTab (fun _=>True) w)(p:List UInt8)(k:Int)(hp:p.length=32)(hL:L.length≤1000000)(hb:Blk w r (WLs n mu (ps++[v1,v])).toArray t)(h16:ps.length=16)(h1:∀x∈ps,x.oneCell'=true)(h2:v1.oneCell'=true)(ho:w.ownsRow 0 108 35 v L.length (apsC L))(hl:∀x∈L,x.p.length=32):
  Calls Tryz.prog 78 #[.pointer (some ⟨r,0,none⟩),.agg (HC p),.int .i64 k] w fun x w'=>x=.returned (.tuple #[.agg ((tellV L p k).map (Value.int .i64)).toArray,.bool (tellB L p k)])∧Below w.heap.size w w':=by
 refine(told_fn n mu (ps.map A.v) (.v v1) L p k hL (fun _=>True) w [.pointer (some ⟨r,0,none⟩),.agg (HC p),.int .i64 k] hG (.cons (worldRA hb h16 h1 h2 ho hl) (.cons (.agg (.ofBytes hp rfl)) (.cons (.v _) .nil)))).mono ?_
 rintro x w' ⟨v',rfl,⟨vs,rfl,h2⟩,h3⟩
 cases h2 with
 |cons h2 h4=>cases h4 with
  |cons h4 h5=>
   cases h5;cases h4
   cases h2 with
   |agg k=>obtain⟨_,rfl⟩:=k.toInts;exact⟨rfl,h3⟩
end
section
open Pm
theorem wls_at{n mu:Int}{ps:List Value}{v1 v:Value}(h:ps.length=16):(WLs n mu (ps++[v1,v])).toArray[20]?=some v:=by
 simp[WLs,h]
theorem wls_set{n mu:Int}{ps:List Value}{v1 v v':Value}(h:ps.length=16):(WLs n mu (ps++[v1,v])).toArray.setIfInBounds 20 v'=(WLs n mu (ps++[v1,v'])).toArray:=by
 apply Array.toList_inj.1
 simp[WLs,h,List.set_append]
def cstT(r:Nat)(V:Value)(x:Ap):Nat→Option Value
 |0=>some (.pointer (some ⟨r,0,none⟩))
 |1=>some (.pointer (some ⟨r,0,none⟩))
 |2=>some (.pointer (some ⟨r,0,none⟩))
 |3=>some (.pointer (some ⟨r,20,none⟩))
 |4=>some V
 |5=>some (.agg (apC x))
 |8=>some (.pointer (some ⟨r,0,none⟩))
 |9=>some (.pointer (some ⟨r,20,none⟩))
 |_=>none
structure JT(w3:World)(r A0:Nat)(t:TypeId)(V:Value)(L:List Ap)(n mu:Int)(ps:List Value)(v1:Value)(x:Ap)(S:Nat→Bool)(vals:Nat→Value)(w:World):Prop where
 grown:GrownX (fun k=>k=r∨V.ownBlock=some k) w3 w
 paper:Blk w A0 (apC x) 108
 val:∀k y,S k=true→cstT r V x k=some y→vals k=y
 x6:S 6=true→∃g,vals 6=.slice (some ⟨g,0,none⟩) 1 1∧Blk w g (apC x) 108∧w3.heap.size≤g
 old:S 7=false→w.ownsRow 0 108 35 V L.length (apsC L)
 new:S 7=true→w.ownsRow 0 108 35 (vals 7) (L.length+1) (apsC (L++[x]))∧((vals 7).ownBlock=V.ownBlock∨∃q,(vals 7).ownBlock=some q∧w3.heap.size≤q)
 blk0:S 10=false→Blk w r (WLs n mu (ps++[v1,V])).toArray t
 blk1:S 10=true→Blk w r (WLs n mu (ps++[v1,vals 7])).toArray t
 seq:S 10=true→S 7=true
section
variable {w3 : World} {r A0 : Nat} {t : TypeId} {V : Value} {L : List Ap} {n mu : Int} {ps : List Value} {v1 : Value} {x : Ap} {S : Nat → Bool} {vals : Nat → Value} {w : World}
theorem JT.pure(h:JT w3 r A0 t V L n mu ps v1 x S vals w){i:Nat}{z:Value}(hc:cstT r V x i=some z):JT w3 r A0 t V L n mu ps v1 x (add1 S i) (fun j=>if j=i then z else vals j) w:=by
 have n6:6≠i:=by rintro rfl;cases hc
 have n7:7≠i:=by rintro rfl;cases hc
 have n10:10≠i:=by rintro rfl;cases hc
 have s6:=add1_other S n6;have s7:=add1_other S n7;have s10:=add1_other S n10
 have v6:=updV vals i z n6;have v7:=updV vals i z n7
 refine⟨h.grown,h.paper,fun k y hk hy=>?_,fun hk=>?_,fun hk=>?_,fun hk=>?_,fun hk=>?_,fun hk=>?_,fun hk=>?_⟩
 ·by_cases e1:k=i
  ·subst e1;rw[hc]at hy;cases hy;exact if_pos rfl
  ·rw[add1_other S e1]at hk;rw[updV vals i z e1];exact h.val k y hk hy
 ·rw[s6]at hk;rw[v6];exact h.x6 hk
 ·rw[s7]at hk;exact h.old hk
 ·rw[s7]at hk;rw[v7];exact h.new hk
 ·rw[s10]at hk;exact h.blk0 hk
 ·rw[s10]at hk;rw[v7];exact h.blk1 hk
 ·rw[s10]at hk;rw[s7];exact h.seq hk
theorem ownsRow_keepT{w w':World}{v:Value}{n:Nat}{xs:List Value}(h:w.ownsRow 0 108 35 v n xs)(hk:∀q,v.ownBlock=some q→q<w.heap.size→w'.heap[q]?=w.heap[q]?):w'.ownsRow 0 108 35 v n xs:=by
 refine⟨h.1,?_⟩
 rcases h.2 with h1|⟨q,cap,cur,e,h2,h3,h4⟩
 ·exact .inl h1
 ·exact .inr ⟨q,cap,cur,e,h2,(hk q (by rw[e];rfl) (Array.getElem?_eq_some_iff.1 h3).1).trans h3,h4⟩
theorem JT.alloc(h:JT w3 r A0 t V L n mu ps v1 x S vals w)(h7:S 7=false)(h10:S 10=false):JT w3 r A0 t V L n mu ps v1 x (add1 S 6) (fun j=>if j=6 then .slice (some ⟨w.heap.size,0,none⟩) 1 1 else vals j) (w.alloc (.cells (apC x) 108)):=by
 have s7:=add1_other S (show 7≠6 by decide);have s10:=add1_other S (show 10≠6 by decide)
 have ka:∀q,q<w.heap.size→(w.alloc (.cells (apC x) 108)).heap[q]?=w.heap[q]?:=fun q hq=>Below.heap_alloc _ _ _ hq
 refine⟨⟨h.grown.os,h.grown.tape,h.grown.output,by rw[size_alloc];have:=h.grown.size;omega,fun k hk hn=>(ka k (Nat.lt_of_lt_of_le hk h.grown.size)).trans (h.grown.block k hk hn)⟩,(ka _ h.paper.lt).trans h.paper,fun k y hk hy=>?_,fun _=>⟨w.heap.size,if_pos rfl,heap_alloc_new _ _,h.grown.size⟩,fun hk=>ownsRow_keepT (h.old h7) fun q _ hq=>ka q hq,fun hk=>?_,fun hk=>(ka _ (h.blk0 h10).lt).trans (h.blk0 h10),fun hk=>?_,fun hk=>?_⟩
 ·have e1:k≠6:=by rintro rfl;cases hy
  rw[add1_other S e1]at hk;rw[updV vals 6 _ e1];exact h.val k y hk hy
 ·rw[s7,h7]at hk;cases hk
 ·rw[s10,h10]at hk;cases hk
 ·rw[s10,h10]at hk;cases hk
theorem JT.app(h:JT w3 r A0 t V L n mu ps v1 x S vals w)(h7:S 7=false)(h10:S 10=false){v':Value}{w':World}(hown:w'.ownsRow 0 108 35 v' (L.length+1) (apsC (L++[x])))(hg:w.grownBy w' V.ownBlock)(hv:v'.ownBlock=V.ownBlock∨v'.ownBlock=some w.heap.size)(h1:V.ownBlock≠some r)(h2:V.ownBlock≠some A0)(h3:∀q,V.ownBlock=some q→q<w3.heap.size):
  JT w3 r A0 t V L n mu ps v1 x (add1 S 7) (fun j=>if j=7 then v' else vals j) w':=by
 have s6:=add1_other S (show 6≠7 by decide);have s10:=add1_other S (show 10≠7 by decide)
 have ka:∀q,q<w.heap.size→V.ownBlock≠some q→w'.heap[q]?=w.heap[q]?:=fun q hq hn=>hg.block q hq (fun e=>hn e.symm)
 have hm:∀q,V.ownBlock=some q→q<w3.heap.size:=h3
 refine⟨⟨hg.os.trans h.grown.os,hg.tape.trans h.grown.tape,hg.output.trans h.grown.output,Nat.le_trans h.grown.size hg.size,fun k hk hn=>(ka k (Nat.lt_of_lt_of_le hk h.grown.size) (fun e=>hn (.inr e))).trans (h.grown.block k hk hn)⟩,(ka _ h.paper.lt h2).trans h.paper,fun k y hk hy=>?_,fun hk=>?_,fun hk=>?_,fun _=>?_,fun hk=>(ka _ (h.blk0 h10).lt h1).trans (h.blk0 h10),fun hk=>?_,fun _=>add1_same S 7⟩
 ·have e1:k≠7:=by rintro rfl;cases hy
  rw[add1_other S e1]at hk;rw[updV vals 7 _ e1];exact h.val k y hk hy
 ·rw[s6]at hk
  obtain⟨g,k1,k2,k3⟩:=h.x6 hk
  refine⟨g,by rw[updV vals 7 _ (show 6≠7 by decide)];exact k1,(ka g k2.lt (fun e=>?_)).trans k2,k3⟩
  have:=hm g e;omega
 ·rw[add1_same]at hk;cases hk
 ·show World.ownsRow w' 0 _ 35 v' _ _∧(v'.ownBlock=V.ownBlock∨_)
  refine⟨hown,hv.imp id fun e=>⟨_,e,h.grown.size⟩⟩
 ·rw[s10,h10]at hk;cases hk
theorem JT.store(h:JT w3 r A0 t V L n mu ps v1 x S vals w)(h16:ps.length=16)(h7:S 7=true)(h10:S 10=false)(hA:A0≠r)(hr:r<w3.heap.size)(h1:V.ownBlock≠some r)(z:Value):JT w3 r A0 t V L n mu ps v1 x (add1 S 10) (fun j=>if j=10 then z else vals j) (w.setCell ⟨r,20,none⟩ (vals 7)):=by
 have s6:=add1_other S (show 6≠10 by decide);have s7:=add1_other S (show 7≠10 by decide)
 have v6:=updV vals 10 z (show 6≠10 by decide);have v7:=updV vals 10 z (show 7≠10 by decide)
 have ka:∀q,q≠r→(w.setCell ⟨r,20,none⟩ (vals 7)).heap[q]?=w.heap[q]?:=fun q hq=>heap_setCell_other w ⟨r,20,none⟩ q _ hq
 have hs:(w.setCell ⟨r,20,none⟩ (vals 7)).heap.size=w.heap.size:=by simp[World.setCell]
 have hb:Blk (w.setCell ⟨r,20,none⟩ (vals 7)) r (WLs n mu (ps++[v1,vals 7])).toArray t:=((h.blk0 h10).set 20 _).copy (wls_set h16)
 obtain⟨n1,n2⟩:=h.new h7
 have hnr:∀q,(vals 7).ownBlock=some q→q≠r:=fun q hq e1=>by
  subst e1
  rcases n2 with n2|⟨q',n2,n3⟩
  ·rw[n2]at hq;exact h1 hq
  ·rw[n2]at hq;cases hq;omega
 refine⟨⟨h.grown.os,h.grown.tape,h.grown.output,by rw[hs];exact h.grown.size,fun k hk hn=>(ka k (fun e=>hn (.inl e))).trans (h.grown.block k hk hn)⟩,(ka _ hA).trans h.paper,fun k y hk hy=>?_,fun hk=>?_,fun hk=>?_,fun _=>?_,fun hk=>?_,fun _=>by rw[v7];exact hb,fun _=>by rw[s7];exact h7⟩
 ·have e1:k≠10:=by rintro rfl;cases hy
  rw[add1_other S e1]at hk;rw[updV vals 10 _ e1];exact h.val k y hk hy
 ·rw[s6]at hk
  obtain⟨g,k1,k2,k3⟩:=h.x6 hk
  exact⟨g,by rw[v6];exact k1,(ka g (by omega)).trans k2,k3⟩
 ·rw[s7,h7]at hk;cases hk
 ·rw[v7]
  exact⟨ownsRow_keepT n1 fun q hq _=>ka q (hnr q hq),n2⟩
 ·rw[add1_same]at hk;cases hk
end
end
section
open Pm
theorem opc{P:Program}{ops:Array Oper}{o:Oper}{a:Act}{w:World}{f:FuncId}{args:Array Value}{F:Value→World→Prop}(hg:o.guard=none)(h:(execOp a.eval o).run P w=.ok (.enter f args) w)(hc:Calls P f args w fun e w'=>∃v,e=.returned v∧F (keeps o.dst v) w'):opRuns P ops (fun _ _=>True) o a w F:=by
 unfold opRuns
 simp only[Region.wanted,hg,h,if_true]
 exact hc.mono fun e w' ⟨v,h1,h2⟩=>⟨v,h1,trivial,h2⟩
abbrev BK0:Obj:=.cells (BC 0 (.slice none 0 0) 0 0) 84
structure NewB(w0:World)(r:Nat)(t:TypeId)(j:Nat)(bs:List Value)(w:World):Prop where
 blk:Blk w r (WL 0 0 (List.replicate 8 (.pointer none)) bs (.slice none 0 0) (.slice none 0 0)).toArray t
 len:bs.length=8
 at':∀i,i<j→∃q,bs[i]?=some (.pointer (some ⟨q,0,none⟩))∧w.heap[q]?=some BK0∧r<q
 ne:∀i k q,i<j→k<j→bs[i]?=some (.pointer (some ⟨q,0,none⟩))→bs[k]?=some (.pointer (some ⟨q,0,none⟩))→i=k
 base:w0.heap.size≤r
 below:Below w0.heap.size w0 w
theorem WL_b{n mu:Int}{ps bs:List Value}{po ap:Value}(hp:ps.length=8){i:Nat}(hi:i<bs.length)(v:Value):(WL n mu ps bs po ap).toArray.setIfInBounds (11+i) v=(WL n mu ps (bs.set i v) po ap).toArray:=by
 rw[List.setIfInBounds_toArray]
 congr 1
 rw[show 11+i=i+8+3 by omega]
 show _::_::_::(ps++(bs++[po,ap])).set (i+8) v=_
 rw[List.set_append_right _ _ (by omega),show i+8-ps.length=i by omega,List.set_append_left _ _ hi]
 rfl
theorem NewB.next{w0 w1:World}{r:Nat}{t:TypeId}{j:Nat}{bs:List Value}(h:NewB w0 r t j bs w1)(hj:j<8):NewB w0 r t (j+1) (bs.set j (.pointer (some ⟨w1.heap.size,0,none⟩))) ((w1.drew.alloc BK0).setCell ⟨r,11+j,none⟩ (.pointer (some ⟨w1.heap.size,0,none⟩))):=by
 have hr:r<w1.heap.size:=h.blk.lt
 have hsz:w1.drew.heap.size=w1.heap.size:=rfl
 have hother:∀q,q≠r→((w1.drew.alloc BK0).setCell ⟨r,11+j,none⟩ (.pointer (some ⟨w1.heap.size,0,none⟩))).heap[q]?=(w1.drew.alloc BK0).heap[q]?:=fun q hq=>heap_setCell_other _ ⟨r,11+j,none⟩ q _ hq
 have hold:∀q,q<w1.heap.size→q≠r→((w1.drew.alloc BK0).setCell ⟨r,11+j,none⟩ (.pointer (some ⟨w1.heap.size,0,none⟩))).heap[q]?=w1.heap[q]?:=fun q hq hn=>by
  rw[hother q hn]
  exact Below.heap_alloc w1.drew BK0 q hq
 have hnew:((w1.drew.alloc BK0).setCell ⟨r,11+j,none⟩ (.pointer (some ⟨w1.heap.size,0,none⟩))).heap[w1.heap.size]?=some BK0:=by
  rw[hother _ (by omega)]
  exact heap_alloc_new _ _
 have hb:Blk (w1.drew.alloc BK0) r (WL 0 0 (List.replicate 8 (.pointer none)) bs (.slice none 0 0) (.slice none 0 0)).toArray t:=World.alloc_keep h.blk.drew
 have hget:∀i,(bs.set j (.pointer (some ⟨w1.heap.size,0,none⟩)))[i]?=if i=j then some (.pointer (some ⟨w1.heap.size,0,none⟩))else bs[i]?:=fun i=>by
  rw[List.getElem?_set]
  by_cases e:j=i
  ·rw[if_pos e,if_pos e.symm,if_pos (by rw[h.len];omega)]
  ·rw[if_neg e,if_neg (fun e'=>e e'.symm)]
 refine⟨(hb.set (11+j) _).copy (WL_b rfl (by rw[h.len];exact hj) _),by rw[List.length_set];exact h.len,fun i hi=>?_,fun i k q hi hk e1 e2=>?_,h.base,?_⟩
 ·rw[hget]
  by_cases e:i=j
  ·rw[if_pos e];exact⟨_,rfl,hnew,hr⟩
  ·rw[if_neg e]
   obtain⟨q,k1,k2,k3⟩:=h.at' i (by omega)
   exact⟨q,k1,by rw[hold q (Array.getElem?_eq_some_iff.1 k2).1 (by omega)];exact k2,k3⟩
 ·rw[hget]at e1 e2
  by_cases a1:i=j
  ·by_cases a2:k=j
   ·rw[a1,a2]
   ·exfalso
    rw[if_pos a1]at e1;rw[if_neg a2]at e2
    cases e1
    obtain⟨q,k1,k2,_⟩:=h.at' k (by omega)
    rw[k1]at e2;cases e2
    exact Nat.lt_irrefl _ (Array.getElem?_eq_some_iff.1 k2).1
  ·by_cases a2:k=j
   ·exfalso
    rw[if_neg a1]at e1;rw[if_pos a2]at e2
    cases e2
    obtain⟨q,k1,k2,_⟩:=h.at' i (by omega)
    rw[k1]at e1;cases e1
    exact Nat.lt_irrefl _ (Array.getElem?_eq_some_iff.1 k2).1
   ·rw[if_neg a1]at e1;rw[if_neg a2]at e2
    exact h.ne i k q (by omega) (by omega) e1 e2
 ·have hb1:=h.below
  refine⟨hb1.os,hb1.tape,hb1.output,?_,fun q hq=>?_⟩
  ·show w0.heap.size≤((w1.drew.alloc BK0).setCell _ _).heap.size
   simp[World.setCell,size_alloc]
   exact Nat.le_succ_of_le hb1.size
  ·have:=h.base
   rw[hold q (Nat.lt_of_lt_of_le hq hb1.size) (by omega)]
   exact hb1.block q hq
def cstN(r j:Nat):Nat→Option Value
 |0=>some (.pointer (some ⟨r,0,none⟩))
 |1=>some (.int .i64 (j:Nat))
 |3=>some (.pointer (some ⟨r,0,none⟩))
 |4=>some (.pointer (some ⟨r,11,none⟩))
 |5=>some (.pointer (some ⟨r,11+j,none⟩))
 |_=>none
structure JN(w3:World)(r j:Nat)(S:Nat→Bool)(vals:Nat→Value)(w:World):Prop where
 val:∀k x,S k=true→cstN r j k=some x→vals k=x
 x2:S 2=true→vals 2=.pointer (some ⟨w3.heap.size,0,none⟩)
 w0:S 2=false→w=w3
 w1:S 2=true→S 6=false→w=w3.alloc BK0
 w2:S 6=true→w=(w3.alloc BK0).setCell ⟨r,11+j,none⟩ (.pointer (some ⟨w3.heap.size,0,none⟩))
section
variable {w3 : World} {r j : Nat} {S : Nat → Bool} {vals : Nat → Value} {w : World}
theorem JN.pure(h:JN w3 r j S vals w){i:Nat}{x:Value}(hc:cstN r j i=some x):JN w3 r j (add1 S i) (fun k=>if k=i then x else vals k) w:=by
 have n2:2≠i:=by rintro rfl;cases hc
 have n6:6≠i:=by rintro rfl;cases hc
 have s2:=add1_other S n2;have s6:=add1_other S n6
 refine⟨fun k y hk hy=>?_,fun hk=>?_,fun hk=>?_,fun hk h6=>?_,fun hk=>?_⟩
 ·by_cases e1:k=i
  ·subst e1;rw[hc]at hy;cases hy;exact if_pos rfl
  ·rw[add1_other S e1]at hk;rw[updV vals i x e1];exact h.val k y hk hy
 ·rw[s2]at hk;rw[updV vals i x n2];exact h.x2 hk
 ·rw[s2]at hk;exact h.w0 hk
 ·rw[s2]at hk;rw[s6]at h6;exact h.w1 hk h6
 ·rw[s6]at hk;exact h.w2 hk
theorem JN.call(h:JN w3 r j S vals w)(h2:S 2=false)(h6:S 6=false):JN w3 r j (add1 S 2) (fun k=>if k=2 then .pointer (some ⟨w.heap.size,0,none⟩)else vals k) (w.alloc BK0):=by
 have e:=h.w0 h2
 subst e
 have s6:=add1_other S (show 6≠2 by decide)
 refine⟨fun k y hk hy=>?_,fun _=>if_pos rfl,fun hk=>?_,fun _ _=>rfl,fun hk=>?_⟩
 ·have e1:k≠2:=by rintro rfl;cases hy
  rw[add1_other S e1]at hk;rw[updV vals 2 _ e1];exact h.val k y hk hy
 ·rw[add1_same]at hk;cases hk
 ·rw[s6,h6]at hk;cases hk
theorem JN.store(h:JN w3 r j S vals w)(h2:S 2=true)(h6:S 6=false)(x:Value):JN w3 r j (add1 S 6) (fun k=>if k=6 then x else vals k) (w.setCell ⟨r,11+j,none⟩ (vals 2)):=by
 have e:=h.w1 h2 h6
 have s2:=add1_other S (show 2≠6 by decide)
 refine⟨fun k y hk hy=>?_,fun _=>?_,fun hk=>?_,fun _ hk=>?_,fun hk=>?_⟩
 ·have e1:k≠6:=by rintro rfl;cases hy
  rw[add1_other S e1]at hk;rw[updV vals 6 _ e1];exact h.val k y hk hy
 ·rw[updV vals 6 _ (show 2≠6 by decide)];exact h.x2 h2
 ·rw[s2,h2]at hk;cases hk
 ·rw[add1_same]at hk;cases hk
 ·rw[h.x2 h2,e]
end
noncomputable def envWu0:EnvX:=envWr0.add 13 wseedS (wseedS_of wseed_fn) ⟨_,Tryz.func13,by kernel_rfl,by kernel_rfl⟩
noncomputable def envWu1:EnvX:=envWu0.add 12 createE createT_ok ⟨_,Tryz.func12,by kernel_rfl,by kernel_rfl⟩
set_option maxRecDepth 100000 in
set_option maxHeartbeats 4000000 in
theorem rg_ptrs{S:Nat→Prop}{w:World}:∀{l:List Value},(∀x∈l,x.oneCell'=true)→RG S w (l.map .v) l
 |[],_=>.nil
 |x::l,h=>.cons (.v _) (h x (by simp)) (rg_ptrs fun y hy=>h y (by simp[hy]))
set_option maxRecDepth 100000 in
set_option maxHeartbeats 4000000 in
theorem newW_walk(S:Nat→Prop)(w:World)(hG:GOK gTab S w):Calls Tryz.prog 5 #[] w fun e w'=>∃bs:List Value,e=.returned (.pointer (some ⟨w.heap.size,0,none⟩))∧bs.length=8∧(∀i,i<8→∃q,bs[i]?=some (.pointer (some ⟨q,0,none⟩))∧w'.heap[q]?=some BK0∧w.heap.size<q)∧
  (∀i k q,i<8→k<8→bs[i]?=some (.pointer (some ⟨q,0,none⟩))→bs[k]?=some (.pointer (some ⟨q,0,none⟩))→i=k)∧Below w.heap.size w w'∧
  HB (fun z=>((S z∧z<w.heap.size)∨w.heap.size<z)∧∀i,i<8→bs[i]?≠some (.pointer (some ⟨z,0,none⟩))) w' w.heap.size (.var (wdV 0 0 ((nilP 8++bs.map A.v).set 0 (.sref (pSegs (createP (wsd 0))) 0)) (.v (.slice none 0 0)) (.v (.slice none 0 0)))):=by
 go_enter Tryz.func5,Tryz.ntmps5
 go_wp2_with fail
 rename_i Q K ha
 have h0:NewB w w.heap.size 59 0 (List.replicate 8 (.pointer none)) (w.alloc (.cells (WL 0 0 (List.replicate 8 (.pointer none)) (List.replicate 8 (.pointer none)) (.slice none 0 0) (.slice none 0 0)).toArray 59)):=
  ⟨heap_alloc_new _ _,rfl,fun i hi=>absurd hi (by omega),fun i k q hi=>absurd hi (by omega),Nat.le_refl _,(Below.refl _ _).alloc (Nat.le_refl _) _⟩
 refine wp_loop (fun a w'=>∃(j:Nat) (bs:List Value) (x2 x6 x7 x8 x9 x10 x11 x12 x13 x14:Value),j≤8∧NewB w w.heap.size 59 j bs w'∧a=⟨#[.pointer none,.pointer (some ⟨w.heap.size,0,none⟩),x2,.agg (WL 0 0 (List.replicate 8 (.pointer none)) (List.replicate 8 (.pointer none)) (.slice none 0 0) (.slice none 0 0)).toArray,.pointer (some ⟨w.heap.size,0,none⟩),.int .i64 (j:Nat),x6,x7,x8,x9,x10,x11,x12,x13,x14,undef,undef,undef,undef,undef,undef,undef],[]⟩)
  (fun a w'=>8- (intOf (a.tmps.getD 5 undef)).toNat) ⟨0,_,undef,undef,undef,undef,undef,undef,undef,undef,undef,undef,by omega,h0,rfl⟩ ?_
 rintro a w1 ⟨j,bs,x2,x6,x7,x8,x9,x10,x11,x12,x13,x14,hj,hN,rfl⟩
 have HN:=Lib.hid hN
 have HA:=Lib.hid ha
 have H0:=Lib.hid h0
 clear hN h0 ha
 by_cases h8:j<8
 ·have i8:(j:Int)<8:=by omega
  go_wp2_with fail
  have hlt:w.heap.size<w1.heap.size:=HN.out.blk.lt
  refine region_inv (JN w1.drew w.heap.size j) [[],[],[],[0],[3],[4,1],[5,2]] (by kernel_rfl) (by kernel_rfl) (by kernel_rfl) ⟨fun k x hk=>Bool.noConfusion hk,fun hk=>Bool.noConfusion hk,fun _=>rfl,fun hk=>Bool.noConfusion hk,fun hk=>Bool.noConfusion hk⟩ ?_ ?_
  ·refine⟨?_,?_,?_,?_,?_,?_,?_,trivial⟩
   ·intro S vals wj hJ hSi hD hcl
    have q:=hJ.pure (show cstN w.heap.size j 0=some (.pointer (some ⟨w.heap.size,0,none⟩))from rfl)
    refine opv (v:=.pointer (some ⟨w.heap.size,0,none⟩)) (w2:=wj) rfl ?_ q
    simp[execOp,putAll,Act.put,Act.eval,Instr.fieldAt,go_sem]
   ·intro S vals wj hJ hSi hD hcl
    have q:=hJ.pure (show cstN w.heap.size j 1=some (.int .i64 (j:Nat))from rfl)
    refine opv (v:=.int .i64 (j:Nat)) (w2:=wj) rfl ?_ q
    simp[execOp,putAll,Act.put,Act.eval,Instr.fieldAt,go_sem]
   ·intro S vals wj hJ hSi hD hcl
    have h6:S 6=false:=by cases h:S 6 with|false=>rfl|true=>have:=hcl 6 h 2 (by simp);rw[hSi]at this;cases this
    refine opc (f:=11) (args:=#[]) rfl (by simp[execOp,putAll,Act.put,Act.eval,resolve,invoke,go_sem]) ?_
    refine(new_walk wj).mono ?_
    rintro e w' ⟨rfl,rfl⟩
    exact⟨_,rfl,hJ.call hSi h6⟩
   ·intro S vals wj hJ hSi hD hcl
    have d0:=hJ.val 0 _ (hD 0 (by simp)) rfl
    have q:=hJ.pure (show cstN w.heap.size j 3=some (.pointer (some ⟨w.heap.size,0,none⟩))from rfl)
    refine opv (v:=.pointer (some ⟨w.heap.size,0,none⟩)) (w2:=wj) rfl ?_ q
    simp[execOp,putAll,Act.put,Act.eval,Instr.fieldAt,go_sem,d0]
   ·intro S vals wj hJ hSi hD hcl
    have d3:=hJ.val 3 _ (hD 3 (by simp)) rfl
    have q:=hJ.pure (show cstN w.heap.size j 4=some (.pointer (some ⟨w.heap.size,11,none⟩))from rfl)
    refine opv (v:=.pointer (some ⟨w.heap.size,11,none⟩)) (w2:=wj) rfl ?_ q
    simp[execOp,putAll,Act.put,Act.eval,Instr.fieldAt,go_sem,d3]
   ·intro S vals wj hJ hSi hD hcl
    have d4:=hJ.val 4 _ (hD 4 (by simp)) rfl
    have d1:=hJ.val 1 _ (hD 1 (by simp)) rfl
    have q:=hJ.pure (show cstN w.heap.size j 5=some (.pointer (some ⟨w.heap.size,11+j,none⟩))from rfl)
    refine opv (v:=.pointer (some ⟨w.heap.size,11+j,none⟩)) (w2:=wj) rfl ?_ q
    simp[execOp,putAll,Act.put,Act.eval,Instr.fieldAt,go_sem,d4,d1,i8]
   ·intro S vals wj hJ hSi hD hcl
    have d5:=hJ.val 5 _ (hD 5 (by simp)) rfl
    have d2:=hJ.x2 (hD 2 (by simp))
    have e1:=hJ.w1 (hD 2 (by simp)) hSi
    have hbw:Blk wj w.heap.size (WL 0 0 (List.replicate 8 (.pointer none)) bs (.slice none 0 0) (.slice none 0 0)).toArray 59:=by rw[e1];exact World.alloc_keep HN.out.blk.drew
    obtain⟨vo,hvo⟩:∃vo,wj.cell? ⟨w.heap.size,11+j,none⟩=some vo:=by
     refine⟨_,(hbw.cell (11+j)).trans (Array.getElem?_eq_getElem ?_)⟩
     simp[WL,HN.out.len]
     omega
    have hfz:=hbw.frozen (11+j)
    refine ops_ rfl ?_ (hJ.store (hD 2 (by simp)) hSi undef)
    simp[execOp,putAll,Act.put,Act.eval,go_sem,d5,d2,hfz,hvo]
  ·intro vals wz hJ
   have e0:=hJ.val 0 _ rfl rfl
   have e1:=hJ.val 1 _ rfl rfl
   have e3:=hJ.val 3 _ rfl rfl
   have e4:=hJ.val 4 _ rfl rfl
   have e5:=hJ.val 5 _ rfl rfl
   have e2:=hJ.x2 rfl
   have e6:=hJ.w2 rfl
   have hnx:=HN.out.next h8
   have e7:wz=(w1.drew.alloc BK0).setCell ⟨w.heap.size,11+j,none⟩ (.pointer (some ⟨w1.heap.size,0,none⟩)):=e6
   rw[←e7]at hnx
   have HX:=Lib.hid hnx
   clear hnx e6 e7
   simp[putAll,List.range,List.range.loop,Act.put,e0,e1,e2,e3,e4,e5]
   clear hJ e0 e1 e2 e3 e4 e5
   have wj1:IntKind.i64.wrap ((j:Int)+1)=(j:Int)+1:=wrapS (by omega) (by omega)
   go_wp2_with fail
   refine⟨⟨j+1,_,_,_,_,_,_,_,_,_,_,_,by omega,HX.out,rfl⟩,?_⟩
   show 8- ((j:Int)+1).toNat<8- (j:Int).toNat
   omega
 ·have i8:¬(j:Int)<8:=by omega
  go_wp2_with fail
  refine HA.out _ _ ?_
  obtain rfl:j=8:=by omega
  have hN:=HN.out
  have hr:w.heap.size<w1.heap.size:=hN.blk.lt
  have hB:HB (Dt (fun z=>S z∧z<w.heap.size) w1.heap.size (fun b=>if b=0 then some (.pointer (some ⟨w.heap.size,0,none⟩))else none)) w1 w.heap.size (.var (wdV 0 0 (nilP 8++bs.map .v) (.v (.slice none 0 0)) (.v (.slice none 0 0)))):=by
   refine⟨_,_,hN.blk,?_⟩
   have g16:RG (Dt (fun z=>S z∧z<w.heap.size) w1.heap.size (fun b=>if b=0 then some (.pointer (some ⟨w.heap.size,0,none⟩))else none)) w1 (nilP 8++bs.map .v) (List.replicate 8 (.pointer none)++bs):=by
    refine RG.append ?_ ?_
    ·exact .cons (.v _) rfl (.cons (.v _) rfl (.cons (.v _) rfl (.cons (.v _) rfl (.cons (.v _) rfl (.cons (.v _) rfl (.cons (.v _) rfl (.cons (.v _) rfl .nil)))))))
    ·have one:∀x∈bs,x.oneCell'=true:=fun x hx=>by
      obtain⟨i,hi,e⟩:=List.getElem_of_mem hx
      obtain⟨q,k1,_⟩:=hN.at' i (by rw[←hN.len];exact hi)
      rw[List.getElem?_eq_getElem hi,e]at k1
      cases k1;rfl
     exact rg_ptrs one
   unfold WL wdV
   have q:=RL.ints (k:=.i64) (n:=1) (zs:=[0]) rfl (RL.ints (k:=.i32) (n:=1) (zs:=[0]) rfl (RL.ints (k:=.u32) (n:=1) (zs:=[0]) rfl (RL.gen (n:=16) g16 (by simp[nilP,hN.len]) (RL.gen (n:=2) (.cons (.v (.slice none 0 0)) rfl (.cons (.v (.slice none 0 0)) rfl .nil)) rfl .nil))))
   rw[List.append_nil,List.append_assoc]at q
   exact q
  have hG1:GOK gTab (Dt (fun z=>S z∧z<w.heap.size) w1.heap.size (fun b=>if b=0 then some (.pointer (some ⟨w.heap.size,0,none⟩))else none)) w1:=by
   refine hG.up ⟨hN.below.size,fun z hz hd=>⟨⟨.inl ⟨hd,hz⟩,fun b u hb hu=>?_⟩,fun o=>World.cell?_of_block (hN.below.block z hz)⟩⟩
   dsimp only at hb
   split at hb
   ·cases hb
    obtain rfl:w.heap.size=z:=hu
    omega
   ·cases hb
  refine GX.out (E:=envWu1) (S:=fun z=>S z∧z<w.heap.size) (base:=w1.heap.size) (w0:=⟨w1,fun q=>q=w.heap.size,some w.heap.size,[]⟩) (s:=⟨([.pointer none,.pointer (some ⟨w.heap.size,0,none⟩),x2,.agg (WL 0 0 (List.replicate 8 (.pointer none)) (List.replicate 8 (.pointer none)) (.slice none 0 0) (.slice none 0 0)).toArray,.pointer (some ⟨w.heap.size,0,none⟩),.int .i64 (8:Nat),.bool false,x7,x8,x9,x10,x11,x12,x13,x14,undef,undef,undef,undef,undef,undef,undef].map fun v=>T.d (.v v)).set 1 (.ptr 0 0),[some (.var (wdV 0 0 (nilP 8++bs.map .v) (.v (.slice none 0 0)) (.v (.slice none 0 0))))]⟩) ?_ (fun b=>if b=0 then some (.pointer (some ⟨w.heap.size,0,none⟩))else none) _ _ ?_
  rotate_left
  ·refine mid_var (E:=envWu1) (S:=fun z=>S z∧z<w.heap.size) 1 (Nat.le_refl _) ⟨_,rfl⟩ hr hG1 hB ?_ ?_ ?_ ?_
   ·rfl
   ·rfl
   ·exact Nat.le_of_ble_eq_true rfl
   ·rfl
  simp only[List.map_cons,List.map_nil,Seg.n,wn1,wn2,wn3,wn4,wn5,wn6,wn7,wn8,wn9,wn10,wn11,wn12,wn13,wn14,wn15,wn16,Int.reduceAdd,Int.zero_add,Seg.cell,Seg.sub,List.set_nil,isAlloc,trimH,List.take_append_drop,St.app,St.app2,St.ev,List.getD_cons_zero,List.getD_cons_succ,List.getD_nil,St.sl,St.bk,tiInt,tiBool,tiSl,tiArr,tiStruct,weaken,keepT,List.set_cons_zero,List.set_cons_succ,List.length_cons,List.length_nil,List.cons_append,List.nil_append,List.append_nil,List.map_cons,List.map_nil,List.replicate_succ,List.replicate_zero,List.take_succ_cons,List.take_zero,List.drop_succ_cons,List.drop_zero,List.take_nil,List.drop_nil,Nat.reduceAdd,Nat.reduceSub,Nat.reduceMul,Nat.reduceEqDiff,Nat.reduceLT,Nat.reduceLeDiff,Nat.zero_add,Nat.add_zero,Nat.sub_self,Nat.sub_zero,Nat.one_mul,Nat.mul_one,Nat.zero_mul,joinS,manyS,List.flatten_cons,List.flatten_nil,eq_self,ite_true,if_true,if_false,↓reduceIte,reduceCtorEq,Int.reduceToNat]
  unfold wdV
  refine GX.of ?_
  refine agow ?_;(try exact⟨⟩)
  intro h hh
  refine agow ?_;(try exact⟨⟩)
  intro p hp
  refine agow ?_;(try exact⟨⟩)
  obtain rfl:p=createP (wsd 0):=by rw[hp,hh]
  refine GQ.mk fun ρ a w3 g=>?_
  have hpin:=g.pin _ rfl
  have hv:=g.ev (.tmp 0)
  obtain⟨r',e1,e2⟩:=hv _ hpin
  obtain rfl:=e1.ptr
  have hB3:=g.b 0
  obtain⟨r2,cs2,t2,k1,_,k2,k3⟩:=hB3
  rw[hpin]at k1;cases k1
  have hsame:∀z,z<w1.heap.size→z≠w.heap.size→w3.heap[z]?=w1.heap[z]?:=fun z h1 h2=>g.bel.block z h1 h2
  have hbk:∀i,i<8→∃q,bs[i]?=some (.pointer (some ⟨q,0,none⟩))∧w3.heap[q]?=some BK0∧w.heap.size<q:=fun i hi=>by
   obtain⟨q,m1,m2,m3⟩:=hN.at' i hi
   exact⟨q,m1,by rw[hsame q (Array.getElem?_eq_some_iff.1 m2).1 (by omega)];exact m2,m3⟩
  have hlt:∀i z,i<8→bs[i]?=some (.pointer (some ⟨z,0,none⟩))→w.heap.size<z∧z<w1.heap.size:=fun i z hi e=>by
   obtain⟨q,m1,m2,m3⟩:=hN.at' i hi
   rw[m1]at e;cases e
   exact⟨m3,(Array.getElem?_eq_some_iff.1 m2).1⟩
  have hbw:Below w.heap.size w w3:=by
   have h1:=hN.below
   refine⟨g.bel.os.trans h1.os,g.bel.tape.trans h1.tape,g.bel.output.trans h1.output,Nat.le_trans h1.size g.bel.size,fun z hz=>?_⟩
   rw[hsame z (by omega) (by omega)]
   exact h1.block z hz
  refine⟨g.defs,.pointer (some ⟨w.heap.size,0,none⟩),?_,bs,rfl,hN.len,hbk,hN.ne,hbw,cs2,t2,k2,k3.up (toKeeps fun z hz=>⟨?_,fun i hi e=>?_⟩)⟩
  ·have e3:a.tmps.getD 0 undef=.pointer (some ⟨w.heap.size,0,none⟩):=e2
   rw[←e3]
   exact run_results1 rfl rfl
  ·rcases hz.1 with h|h
   ·exact .inl h
   ·exact .inr (by omega)
  ·obtain⟨m1,m2⟩:=hlt i z hi e
   rcases hz.1 with h|h
   ·have:=h.2;omega
   ·omega
end
section
open Pm
theorem gok_alloc{w:World}(h:GOK gTab (fun _=>True) w)(o:Obj):GOK gTab (fun _=>True) (w.alloc o):=h.up ⟨by rw[size_alloc];omega,fun z hz _=>⟨trivial,fun o=>World.cell?_of_block (Below.heap_alloc _ _ _ hz)⟩⟩
theorem load_paper{w:World}{g:Nat}{x:Ap}{t:TypeId}(hp:x.p.length=32)(h:Blk w g (apC x) t):(loadVar 28 ⟨g,0,none⟩).run Tryz.prog w=.ok (.agg (HC x.p)) w:=
 run_loadVar_agg (yOK7 28 _ rfl) rfl (cs:=HL x.p) (by rw[HL_length];exact hp) fun j hj=>by
  rw[h.cell,Nat.zero_add,apC,List.getElem?_toArray,apL,List.getElem?_append_left hj,List.getElem?_eq_getElem hj]
theorem load_admin{w:World}{g:Nat}{x:Ap}{t:TypeId}(hp:x.p.length=32)(h:Blk w g (apC x) t):(loadVar 3 ⟨g,32,none⟩).run Tryz.prog w=.ok (.int .i64 x.k) w:=
 run_loadVar_one (yOK7 3 _ rfl) rfl (by
  rw[h.cell,apC,List.getElem?_toArray,apL,List.getElem?_append_right (by rw[HL_length,hp];exact Nat.le_refl _),HL_length,hp];rfl)
theorem load_ap{w:World}{g:Nat}{x:Ap}{t:TypeId}(hp:x.p.length=32)(h:Blk w g (apC x) t):(loadVar 108 ⟨g,0,none⟩).run Tryz.prog w=.ok (.agg (apC x)) w:=
 run_loadVar_agg (yOK7 108 _ rfl) rfl (cs:=apL x) (apL_length x hp) fun j hj=>by
  rw[h.cell,Nat.zero_add,apC,List.getElem?_toArray,List.getElem?_eq_getElem hj]
set_option maxRecDepth 100000 in
set_option maxHeartbeats 2000000 in
theorem tell_old(w:World)(r:Nat)(t:TypeId)(mu n:Int)(ps:List Value)(v1 v:Value)(L:List Ap)(x:Ap)(hG:GOK gTab (fun _=>True) w)(hp:x.p.length=32)(hL:L.length≤1000)(hb:Blk w r (WLs n mu (ps++[v1,v])).toArray t)(h16:ps.length=16)(h1:∀x∈ps,x.oneCell'=true)(h2:v1.oneCell'=true)(ho:w.ownsRow 0 108 35 v L.length (apsC L))(hl:∀x∈L,x.p.length=32)(hv:v.ownBlock≠some r)(hB:tellB L x.p x.k=true):
  Calls Tryz.prog 47 #[.pointer (some ⟨r,0,none⟩),.agg (apC x)] w fun e w'=>e=.returned (.tuple #[])∧Below w.heap.size w w':=by
 obtain⟨wa,hwa⟩:∃wa,wa=w.alloc (.cells (apC x) 108):=⟨_,rfl⟩
 have ha:Blk wa w.heap.size (apC x) 108:=by rw[hwa];exact Blk.new w _ _
 have hba:Blk wa r (WLs n mu (ps++[v1,v])).toArray t:=by rw[hwa];exact hb.alloc _
 have hoa:wa.ownsRow 0 108 35 v L.length (apsC L):=by rw[hwa];exact ownsRow_keepT ho fun q _ hq=>Below.heap_alloc _ _ _ hq
 have hga:GOK gTab (fun _=>True) wa:=by rw[hwa];exact gok_alloc hG _
 have htold:=told_any hga x.p x.k hp (by omega) hba h16 h1 h2 hoa hl
 have hbw:Below w.heap.size w wa:=by rw[hwa];exact(Below.refl _ _).alloc (Nat.le_refl _) _
 obtain⟨vt,hvt⟩:∃vt,vt=((tellV L x.p x.k).map (Value.int .i64)).toArray:=⟨_,rfl⟩
 have h3:(tellV L x.p x.k).length=3:=by unfold tellV;split<;>rfl
 have hvs:(Tryz.prog.info? 99).map (·.size)=some vt.size:=by rw[hvt,List.size_toArray,List.length_map,h3];kernel_rfl
 have hvz:(#[.int .i64 0,.int .i64 0,.int .i64 0]:Array Value).size=vt.size:=by show 3=vt.size;rw[hvt,List.size_toArray,List.length_map,h3]
 have hvo:vt.all (fun x=>x.oneCell')=true:=by rw[hvt];simp[Value.oneCell']
 rw[←hvt]at htold
 clear hvt h3
 have VS:=Lib.hid hvs;have VZ:=Lib.hid hvz;have VO:=Lib.hid hvo
 clear hvs hvz hvo
 subst hwa
 have HP:=Lib.hid (load_paper hp ha);have HA:=Lib.hid (load_admin hp ha);have HT:=Lib.hid htold;have HBW:=Lib.hid hbw;have HBB:=Lib.hid hB
 clear hp hb ho hba hoa hga htold hbw ha hl h1 h2 hG hB
 go_enter Tryz.func47,Tryz.ntmps47
 go_wp2_with (first
  |(refine wpList_value rfl (exec_load rfl rfl HP.out) ?_)
  |(refine wpList_value rfl (exec_load rfl rfl HA.out) ?_)
  |(go_at_call 78;refine HT.out.mono ?_;rintro e wb ⟨rfl,hwb⟩;rw[HBB.out])
  |(refine wpList_store_row rfl 99 _ _ rfl wb.heap.size vt rfl rfl 99 #[.int .i64 0,.int .i64 0,.int .i64 0] (Blk.new wb _ _) VS.out VZ.out VO.out ?_))
 exact⟨rfl,.tuple #[],results_none rfl _ _ _,rfl,below_setRow ((HBW.out.lift hwb (by rw[size_alloc];omega)).alloc (by have:=hwb.size;rw[size_alloc]at this;omega) _) _ (by have:=hwb.size;rw[size_alloc]at this;omega)⟩
set_option maxRecDepth 100000 in
set_option maxHeartbeats 2000000 in
theorem tell_new (w : World) (r : Nat) (t : TypeId) (mu n : Int) (ps : List Value) (v1 v : Value) (L : List Ap) (x : Ap) (hG : GOK gTab (fun _ => True) w) (hp : x.p.length = 32) (hL : L.length ≤ 1000) (hb : Blk w r (WLs n mu (ps ++ [v1, v])).toArray t) (h16 : ps.length = 16) (h1 : ∀ x ∈ ps, x.oneCell' = true) (h2 : v1.oneCell' = true) (ho : w.ownsRow 0 108 35 v L.length (apsC L)) (hl : ∀ x ∈ L, x.p.length = 32) (hv : v.ownBlock ≠ some r) (hB : tellB L x.p x.k = false) :
    Calls Tryz.prog 47 #[.pointer (some ⟨r, 0, none⟩), .agg (apC x)] w fun e w' => e = .returned (.tuple #[]) ∧ ∃ v', Blk w' r (WLs n mu (ps ++ [v1, v'])).toArray t ∧ w'.ownsRow 0 108 35 v' (L.length + 1) (apsC (L ++ [x])) ∧ (v'.ownBlock = v.ownBlock ∨ ∃ q, v'.ownBlock = some q ∧ w.heap.size ≤ q) ∧ GrownX (fun k => k = r ∨ v.ownBlock = some k) w w' := by
  obtain ⟨wa, hwa⟩ : ∃ wa, wa = w.alloc (.cells (apC x) 108) := ⟨_, rfl⟩
  have ha : Blk wa w.heap.size (apC x) 108 := by rw [hwa]; exact Blk.new w _ _
  have hba : Blk wa r (WLs n mu (ps ++ [v1, v])).toArray t := by rw [hwa]; exact hb.alloc _
  have hoa : wa.ownsRow 0 108 35 v L.length (apsC L) := by rw [hwa]; exact ownsRow_keepT ho fun q _ hq => Below.heap_alloc _ _ _ hq
  have hga : GOK gTab (fun _ => True) wa := by rw [hwa]; exact gok_alloc hG _
  have htold := told_any hga x.p x.k hp (by omega) hba h16 h1 h2 hoa hl
  have hbw : Below w.heap.size w wa := by rw [hwa]; exact (Below.refl _ _).alloc (Nat.le_refl _) _
  obtain ⟨vt, hvt⟩ : ∃ vt, vt = ((tellV L x.p x.k).map (Value.int .i64)).toArray := ⟨_, rfl⟩
  have h3 : (tellV L x.p x.k).length = 3 := by unfold tellV; split <;> rfl
  have hvs : (Tryz.prog.info? 99).map (·.size) = some vt.size := by rw [hvt, List.size_toArray, List.length_map, h3]; kernel_rfl
  have hvz : (#[.int .i64 0, .int .i64 0, .int .i64 0] : Array Value).size = vt.size := by show 3 = vt.size; rw [hvt, List.size_toArray, List.length_map, h3]
  have hvo : vt.all (fun x => x.oneCell') = true := by rw [hvt]; simp [Value.oneCell']
  rw [← hvt] at htold
  clear hvt h3
  have VS := Lib.hid hvs; have VZ := Lib.hid hvz; have VO := Lib.hid hvo
  clear hvs hvz hvo
  have hlt : ∀ q, v.ownBlock = some q → q < w.heap.size := fun q hq => own_lt ho hq
  have hrl : r < w.heap.size := hb.lt
  subst hwa
  have HAA := Lib.hid ha; have HR := Lib.hid hb; have HO := Lib.hid ho; have HX := Lib.hid hp; have HLT := Lib.hid hlt; have HV := Lib.hid hv; have HRL := Lib.hid hrl; have H16 := Lib.hid h16; have HL := Lib.hid hL
  have HP := Lib.hid (load_paper hp ha); have HA := Lib.hid (load_admin hp ha); have HT := Lib.hid htold; have HBW := Lib.hid hbw; have HBB := Lib.hid hB
  clear hlt hv hrl h16 hL hp hb ho hba hoa hga htold hbw ha hl h1 h2 hG hB
  go_enter Tryz.func47, Tryz.ntmps47
  go_wp2_with (first
    | (refine wpList_value rfl (exec_load rfl rfl HP.out) ?_)
    | (refine wpList_value rfl (exec_load rfl rfl HA.out) ?_)
    | (go_at_call 78; refine HT.out.mono ?_; rintro e wb ⟨rfl, hwb⟩; rw [HBB.out])
    | (refine wpList_store_row rfl 99 _ _ rfl wb.heap.size vt rfl rfl 99 #[.int .i64 0, .int .i64 0, .int .i64 0] (Blk.new wb _ _) VS.out VZ.out VO.out ?_
       refine wplB_gen (fun w3 hw3 => ?_)
       have hsz : w.heap.size < wb.heap.size := by have := hwb.size; rw [size_alloc] at this; omega
       have hbl : Below w.heap.size w w3 := by rw [hw3]; exact below_setRow ((HBW.out.lift hwb (by rw [size_alloc]; omega)).alloc (Nat.le_of_lt hsz) _) _ (Nat.le_of_lt hsz)
       have ha3 : Blk w3 w.heap.size (apC x) 108 := by rw [hw3]; exact (setRow_other _ _ _ _ (by omega)).trans (((HAA.out.keep hwb).alloc _))
       have hb3 : Blk w3 r (WLs n mu (ps ++ [v1, v])).toArray t := HR.out.below hbl HRL.out
       have ho3 := ownsRow_keepT HO.out fun q _ hq => hbl.block q hq
       have hg3 : GrownX (fun k => k = r ∨ v.ownBlock = some k) w w3 := .ofBy (grownB hbl) (.inl rfl)
       have c3 : w3.cell? ⟨r, 20, none⟩ = some v := (hb3.cell 20).trans (wls_at H16.out)
       have HBL := Lib.hid hbl; have HA3 := Lib.hid ha3; have HB3 := Lib.hid hb3; have HO3 := Lib.hid ho3; have HG3 := Lib.hid hg3
       clear hw3 hbl ha3 hb3 ho3 hg3 hsz))
  have hs10 : ∀ {S : Nat → Bool}, (∀ k, S k = true → ∀ j ∈ ([[], [], [1], [2], [3], [], [5], [4, 6], [0], [8], [9, 7]] : List (List Nat)).getD k [], S j = true) → S 7 = false → S 10 = false := fun {S} hcl h9 => by
    cases h : S 10 with
    | false => rfl
    | true => have := hcl 10 h 7 (by simp); rw [h9] at this; cases this
  have hA0 : w.heap.size ≠ r := by have := HRL.out; omega
  have hV2 : v.ownBlock ≠ some w.heap.size := fun e => Nat.lt_irrefl _ (HLT.out _ e)
  have hV3 : ∀ q, v.ownBlock = some q → q < w3.heap.size := fun q e => Nat.lt_of_lt_of_le (HLT.out q e) HBL.out.size
  have hr3 : r < w3.heap.size := HB3.out.lt
  refine region_inv (JT w3 r w.heap.size t v L n mu ps v1 x) [[], [], [1], [2], [3], [], [5], [4, 6], [0], [8], [9, 7]] (by kernel_rfl) (by kernel_rfl) (by kernel_rfl)
    ⟨⟨rfl, rfl, rfl, Nat.le_refl _, fun _ _ _ => rfl⟩, HA3.out.drew, (fun k x hk => Bool.noConfusion hk), (fun hk => Bool.noConfusion hk), (fun _ => HO3.out), (fun hk => Bool.noConfusion hk), (fun _ => HB3.out.drew), (fun hk => Bool.noConfusion hk), (fun hk => Bool.noConfusion hk)⟩ ?_ ?_
  · refine ⟨?_, ?_, ?_, ?_, ?_, ?_, ?_, ?_, ?_, ?_, ?_, trivial⟩
    · intro S vals wj hJ hSi hD hcl
      have q := hJ.pure (show cstT r v x 0 = some (.pointer (some ⟨r, 0, none⟩)) from rfl)
      refine opv (v := .pointer (some ⟨r, 0, none⟩)) (w2 := wj) rfl ?_ q
      simp [execOp, putAll, Act.put, Act.eval, Instr.fieldAt, go_sem]
    · intro S vals wj hJ hSi hD hcl
      have q := hJ.pure (show cstT r v x 1 = some (.pointer (some ⟨r, 0, none⟩)) from rfl)
      refine opv (v := .pointer (some ⟨r, 0, none⟩)) (w2 := wj) rfl ?_ q
      simp [execOp, putAll, Act.put, Act.eval, Instr.fieldAt, go_sem]
    · intro S vals wj hJ hSi hD hcl
      have d1 := hJ.val 1 _ (hD 1 (by simp)) rfl
      have q := hJ.pure (show cstT r v x 2 = some (.pointer (some ⟨r, 0, none⟩)) from rfl)
      refine opv (v := .pointer (some ⟨r, 0, none⟩)) (w2 := wj) rfl ?_ q
      simp [execOp, putAll, Act.put, Act.eval, Instr.fieldAt, go_sem, d1]
    · intro S vals wj hJ hSi hD hcl
      have d2 := hJ.val 2 _ (hD 2 (by simp)) rfl
      have q := hJ.pure (show cstT r v x 3 = some (.pointer (some ⟨r, 20, none⟩)) from rfl)
      refine opv (v := .pointer (some ⟨r, 20, none⟩)) (w2 := wj) rfl ?_ q
      simp [execOp, putAll, Act.put, Act.eval, Instr.fieldAt, go_sem, d2]
    · intro S vals wj hJ hSi hD hcl
      have d3 := hJ.val 3 _ (hD 3 (by simp)) rfl
      have h7 : S 7 = false := by cases h : S 7 with | false => rfl | true => have := hcl 7 h 4 (by simp); rw [hSi] at this; cases this
      have c9 : wj.cell? ⟨r, 20, none⟩ = some v := ((hJ.blk0 (hs10 hcl h7)).cell 20).trans (wls_at H16.out)
      refine opv rfl ?_ (hJ.pure (i := 4) rfl)
      simp [execOp, putAll, Act.put, Act.eval, go_sem, d3, c9]
    · intro S vals wj hJ hSi hD hcl
      exact opv rfl (exec_load rfl (by simp [putAll, Act.put, Act.eval]) (load_ap HX.out hJ.paper)) (hJ.pure (i := 5) rfl)
    · intro S vals wj hJ hSi hD hcl
      have d5 := hJ.val 5 _ (hD 5 (by simp)) rfl
      have h7 : S 7 = false := by cases h : S 7 with | false => rfl | true => have := hcl 7 h 6 (by simp); rw [hSi] at this; cases this
      refine opv rfl ?_ (hJ.alloc h7 (hs10 hcl h7))
      have := slice_ap wj x HX.out
      simp [execOp, putAll, Act.put, Act.eval, d5, this, Sem.run_bind]
    · intro S vals wj hJ hSi hD hcl
      have d4 := hJ.val 4 _ (hD 4 (by simp)) rfl
      obtain ⟨g, k1, k2, k3⟩ := hJ.x6 (hD 6 (by simp))
      obtain ⟨v', wn, k4, k5, k6, k7⟩ := append_ap wj x HX.out 57 (by have := HL.out; omega) (hJ.old hSi) k2
      refine opv rfl ?_ (hJ.app hSi (hs10 hcl hSi) k5 k6 k7 HV.out hV2 hV3)
      simp [execOp, putAll, Act.put, Act.eval, d4, k1, resolve, invoke, builtin, k4, Sem.run_bind]
    · intro S vals wj hJ hSi hD hcl
      have d0 := hJ.val 0 _ (hD 0 (by simp)) rfl
      have q := hJ.pure (show cstT r v x 8 = some (.pointer (some ⟨r, 0, none⟩)) from rfl)
      refine opv (v := .pointer (some ⟨r, 0, none⟩)) (w2 := wj) rfl ?_ q
      simp [execOp, putAll, Act.put, Act.eval, Instr.fieldAt, go_sem, d0]
    · intro S vals wj hJ hSi hD hcl
      have d8 := hJ.val 8 _ (hD 8 (by simp)) rfl
      have q := hJ.pure (show cstT r v x 9 = some (.pointer (some ⟨r, 20, none⟩)) from rfl)
      refine opv (v := .pointer (some ⟨r, 20, none⟩)) (w2 := wj) rfl ?_ q
      simp [execOp, putAll, Act.put, Act.eval, Instr.fieldAt, go_sem, d8]
    · intro S vals wj hJ hSi hD hcl
      have d9 := hJ.val 9 _ (hD 9 (by simp)) rfl
      have z9 := (hJ.blk0 hSi).frozen 20
      have z8 : wj.cell? ⟨r, 20, none⟩ = some v := ((hJ.blk0 hSi).cell 20).trans (wls_at H16.out)
      obtain ⟨ad9, c9, hv9⟩ := ap_slice (hJ.new (hD 7 (by simp))).1
      obtain ⟨ad8, c8, hv8⟩ := ap_slice HO3.out
      refine ops_ rfl ?_ (hJ.store H16.out (hD 7 (by simp)) hSi hA0 hr3 HV.out undef)
      simp [execOp, putAll, Act.put, Act.eval, go_sem, d9, z9, z8, hv9, hv8]
  · intro vals wz hJ
    obtain ⟨n1, n2⟩ := hJ.new rfl
    have n3 := hJ.blk1 rfl
    have n4 := hJ.grown
    have N1 := Lib.hid n1; have N2 := Lib.hid n2; have N3 := Lib.hid n3; have N4 := Lib.hid n4
    clear n1 n2 n3 n4 hJ hV2 hV3 hr3 hA0 hs10
    generalize hV7 : vals 7 = V7 at N1 N2 N3
    simp [putAll, List.range, List.range.loop, Act.put]
    clear hV7
    go_wp2_with fail
    exact ⟨rfl, .tuple #[], results_none rfl _ _ _, rfl, V7, N3.out, N1.out, N2.out.imp id (fun ⟨q, e2, e3⟩ => ⟨q, e2, Nat.le_trans HBL.out.size e3⟩), HG3.out.trans N4.out⟩
end
section
open Pm
def cAp(L:List Ap):Cm:=⟨fun D w B v=>B=ownL v∧w.ownsRow 0 108 35 v L.length (apsC L)∧∀x∈L,x.p.length=32,
 fun k e ⟨h1,h2,h3⟩=>⟨h1,own_keep h2 fun z hz=>e z (by rw[h1];exact ownL_mem.2 hz),h3⟩,
 fun⟨h1,h2,_⟩ z hz=>own_lt h2 (ownL_mem.1 (by rw[←h1];exact hz)),fun⟨_,h2,_⟩=>by obtain⟨ad,c,rfl⟩:=ap_slice h2;rfl⟩
def tellL(L:List Ap)(x:Ap):List Ap:=if tellB L x.p x.k=true then L else L++[x]
theorem last2{α:Type}:∀(n:Nat) (l:List α),l.length=n+2→∃ps a b,l=ps++[a,b]∧ps.length=n
 |0,[a,b],_=>⟨[],a,b,rfl,rfl⟩
 |n+1,x::l,h=>by
  obtain⟨ps,a,b,rfl,h2⟩:=last2 n l (by simpa using h)
  exact⟨x::ps,a,b,rfl,by simp[h2]⟩
theorem tell_WQ{D:Nat→Prop}{w:World}{r:Nat}{mu n:Int}{c:Nat→Cm}{vs:List Value}{B:Nat→List Nat}{t:TypeId}(h:WQ D w r mu n c vs B t)(L:List Ap)(x:Ap)(hc:c 17=cAp L)(hG:GOK gTab (fun _=>True) w)(hp:x.p.length=32)(hL:L.length≤1000):
  Calls Tryz.prog 47 #[.pointer (some ⟨r,0,none⟩),.agg (apC x)] w fun e w'=>e=.returned (.tuple #[])∧∃v' Bn,WQ (fun z=>(D z∨w.heap.size≤z)∧z≠r∧z∉Bn) w' r mu n (upd c 17 (cAp (tellL L x))) (vs.set 17 v') (upd B 17 Bn) t∧GrownX (fun q=>q=r∨q∈B 17) w w'∧∀q∈Bn,q∈B 17∨w.heap.size≤q:=by
 obtain⟨ps,v1,v,rfl,h16⟩:=last2 16 vs h.len
 have hv17:(ps++[v1,v]).getD 17 undef=v:=by rw[List.getD_eq_getElem?_getD,List.getElem?_append_right (by omega),h16];rfl
 have hset:∀v',(ps++[v1,v]).set 17 v'=ps++[v1,v']:=fun v'=>by rw[List.set_append_right _ _ (by omega),h16];rfl
 have h17:=h.at' 17 (by omega)
 rw[hc,hv17]at h17
 obtain⟨hB,ho,hl⟩:=h17
 have hone:∀y∈ps++[v1,v],y.oneCell'=true:=fun y hy=>by
  obtain⟨i,hi,e⟩:=List.getElem_of_mem hy
  have h1:=(c i).one (h.at' i (by rw[←h.len];exact hi))
  rw[List.getD_eq_getElem?_getD,List.getElem?_eq_getElem hi]at h1
  rw[←e];exact h1
 have h1:∀y∈ps,y.oneCell'=true:=fun y hy=>hone y (by simp[hy])
 have h2:v1.oneCell'=true:=hone v1 (by simp)
 have hv:v.ownBlock≠some r:=fun e=>h.ne 17 (by omega) (by rw[hB];exact ownL_mem.2 e)
 cases hT:tellB L x.p x.k with
 |true=>
  refine(tell_old w r t mu n ps v1 v L x hG hp hL h.blk h16 h1 h2 ho hl hv hT).mono ?_
  rintro e w' ⟨rfl,hb⟩
  have hg:GrownX (fun q=>q=r∨q∈B 17) w w':=.ofBy (grownB hb) (.inl rfl)
  refine⟨rfl,v,B 17,?_,hg,fun q hq=>.inl hq⟩
  have e1:tellL L x=L:=if_pos hT
  rw[e1]
  exact h.set (by omega) (by rw[hset];exact h.blk.below hb h.blk.lt) hg (fun q hq=>.inl hq) (h.ne 17 (by omega)) ⟨hB,own_keep ho fun z hz=>hb.block z (own_lt ho hz),hl⟩
 |false=>
  refine(tell_new w r t mu n ps v1 v L x hG hp hL h.blk h16 h1 h2 ho hl hv hT).mono ?_
  rintro e w' ⟨rfl,v',k1,k2,k3,k4⟩
  have hg:GrownX (fun q=>q=r∨q∈B 17) w w':=⟨k4.os,k4.tape,k4.output,k4.size,fun q hq hn=>k4.block q hq fun e=>hn (e.imp id fun e=>by rw[hB];exact ownL_mem.2 e)⟩
  have hBn:∀q∈ownL v',q∈B 17∨w.heap.size≤q:=fun q hq=>by
   have hq:=ownL_mem.1 hq
   rcases k3 with k3|⟨z,k3,k5⟩
   ·exact .inl (by rw[hB];exact ownL_mem.2 (by rw[←k3];exact hq))
   ·rw[k3]at hq;cases hq;exact .inr k5
  have e1:tellL L x=L++[x]:=if_neg (by rw[hT];exact Bool.false_ne_true)
  refine⟨rfl,v',ownL v',?_,hg,hBn⟩
  rw[e1]
  refine h.set (by omega) (by rw[hset];exact k1) hg hBn (fun hm=>?_) ⟨rfl,by rw[List.length_append];exact k2,fun y hy=>?_⟩
  ·rcases hBn r hm with e|e
   ·exact h.ne 17 (by omega) e
   ·have:=h.blk.lt;omega
  ·rcases List.mem_append.1 hy with hy|hy
   ·exact hl y hy
   ·rcases List.mem_cons.1 hy with rfl|hy
    ·exact hp
    ·cases hy
end
section
open Pm
def cstW(r i:Nat)(b k:Value):Nat→Option Value
 |0=>some (.pointer (some ⟨r,0,none⟩))
 |1=>some (.int .i64 (i:Nat))
 |2=>some (.pointer (some ⟨r,0,none⟩))
 |3=>some (.int .i64 (i:Nat))
 |4=>some (.pointer (some ⟨r,0,none⟩))
 |5=>some (.pointer (some ⟨r,11,none⟩))
 |6=>some (.pointer (some ⟨r,11+i,none⟩))
 |7=>some b
 |8=>some k
 |10=>some (.pointer (some ⟨r,0,none⟩))
 |11=>some (.pointer (some ⟨r,11,none⟩))
 |12=>some (.pointer (some ⟨r,11+i,none⟩))
 |_=>none
structure JW(w3:World)(r i:Nat)(b k:Value)(Q:Value→World→Prop)(S:Nat→Bool)(vals:Nat→Value)(w:World):Prop where
 val:∀k' x,S k'=true→cstW r i b k k'=some x→vals k'=x
 w0:S 9=false→w=w3
 w1:S 9=true→S 13=false→Q (vals 9) w
 w2:S 13=true→∃v w1,Q v w1∧w=w1.setCell ⟨r,11+i,none⟩ v
 seq:S 13=true→S 9=true
section
variable {w3 : World} {r i : Nat} {b k : Value} {Q : Value → World → Prop} {S : Nat → Bool} {vals : Nat → Value} {w : World}
theorem JW.pure(h:JW w3 r i b k Q S vals w){j:Nat}{x:Value}(hc:cstW r i b k j=some x):JW w3 r i b k Q (add1 S j) (fun k=>if k=j then x else vals k) w:=by
 have n9:9≠j:=by rintro rfl;cases hc
 have n13:13≠j:=by rintro rfl;cases hc
 have s9:=add1_other S n9;have s13:=add1_other S n13
 refine⟨fun k y hk hy=>?_,fun hk=>?_,fun hk h6=>?_,fun hk=>?_,fun hk=>?_⟩
 ·by_cases e1:k=j
  ·subst e1;rw[hc]at hy;cases hy;exact if_pos rfl
  ·rw[add1_other S e1]at hk;rw[updV vals j x e1];exact h.val k y hk hy
 ·rw[s9]at hk;exact h.w0 hk
 ·rw[s9]at hk;rw[s13]at h6;rw[updV vals j x n9];exact h.w1 hk h6
 ·rw[s13]at hk;exact h.w2 hk
 ·rw[s13]at hk;rw[s9];exact h.seq hk
theorem JW.call(h:JW w3 r i b k Q S vals w)(h13:S 13=false){v:Value}{w':World}(hq:Q v w'):JW w3 r i b k Q (add1 S 9) (fun k=>if k=9 then v else vals k) w':=by
 have s13:=add1_other S (show 13≠9 by decide)
 refine⟨fun k y hk hy=>?_,fun hk=>?_,fun _ _=>?_,fun hk=>?_,fun hk=>?_⟩
 ·have e1:k≠9:=by rintro rfl;cases hy
  rw[add1_other S e1]at hk;rw[updV vals 9 _ e1];exact h.val k y hk hy
 ·rw[add1_same]at hk;cases hk
 ·show Q (if 9=9 then v else vals 9) w'
  rw[if_pos rfl];exact hq
 ·rw[s13,h13]at hk;cases hk
 ·rw[s13,h13]at hk;cases hk
theorem JW.store(h:JW w3 r i b k Q S vals w)(h9:S 9=true)(h13:S 13=false)(x:Value):JW w3 r i b k Q (add1 S 13) (fun k=>if k=13 then x else vals k) (w.setCell ⟨r,11+i,none⟩ (vals 9)):=by
 have s9:=add1_other S (show 9≠13 by decide)
 refine⟨fun k y hk hy=>?_,fun hk=>?_,fun _ hk=>?_,fun _=>⟨_,_,h.w1 h9 h13,rfl⟩,fun _=>by rw[s9];exact h9⟩
 ·have e1:k≠13:=by rintro rfl;cases hy
  rw[add1_other S e1]at hk;rw[updV vals 13 _ e1];exact h.val k y hk hy
 ·rw[s9,h9]at hk;cases hk
 ·rw[add1_same]at hk;cases hk
end
set_option maxRecDepth 100000 in
set_option maxHeartbeats 4000000 in
theorem wcrash_walk(w:World)(r i:Nat)(keep:Int)(b:Value)(hi:i<8)(hb:w.cell? ⟨r,11+i,none⟩=some b)(Q:Value→World→Prop)
  (hc:∀w1,w1=w.drew→Calls Tryz.prog 52 #[b,.int .i64 keep] w1 fun e w2=>∃v,e=.returned v∧Q v w2)(hq:∀v w2,Q v w2→w2.frozen? ⟨r,11+i,none⟩=false∧(∃vo,w2.cell? ⟨r,11+i,none⟩=some vo)∧∃ad,v=.pointer ad):
  Calls Tryz.prog 27 #[.pointer (some ⟨r,0,none⟩),.int .i64 (i:Nat),.int .i64 keep] w fun e w'=>∃v w2,e=.returned (.tuple #[])∧Q v w2∧w'=w2.setCell ⟨r,11+i,none⟩ v:=by
 have i8:(i:Int)<8:=by omega
 have i0:¬(i:Int)<0:=by omega
 have HB:=Lib.hid hb;have HC:=Lib.hid hc;have HQ:=Lib.hid hq
 clear hb hc hq
 go_enter Tryz.func27,Tryz.ntmps27
 go_wp2_with fail
 refine region_inv (JW w.drew r i b (.int .i64 keep) Q) [[],[],[],[],[2],[4],[5,3],[6],[],[7,8],[0],[10],[11,1],[12,9]] (by kernel_rfl) (by kernel_rfl) (by kernel_rfl) ⟨fun k x hk=>Bool.noConfusion hk,fun _=>rfl,fun hk=>Bool.noConfusion hk,fun hk=>Bool.noConfusion hk,fun hk=>Bool.noConfusion hk⟩ ?_ ?_
 ·refine⟨?_,?_,?_,?_,?_,?_,?_,?_,?_,?_,?_,?_,?_,?_,trivial⟩
  ·intro S vals wj hJ hSi hD hcl
   have q:=hJ.pure (show cstW r i b (.int .i64 keep) 0=some (.pointer (some ⟨r,0,none⟩))from rfl)
   refine opv (v:=.pointer (some ⟨r,0,none⟩)) (w2:=wj) rfl ?_ q
   simp[execOp,putAll,Act.put,Act.eval,Instr.fieldAt,go_sem]
  ·intro S vals wj hJ hSi hD hcl
   have q:=hJ.pure (show cstW r i b (.int .i64 keep) 1=some (.int .i64 (i:Nat))from rfl)
   refine opv (v:=.int .i64 (i:Nat)) (w2:=wj) rfl ?_ q
   simp[execOp,putAll,Act.put,Act.eval,Instr.fieldAt,go_sem]
  ·intro S vals wj hJ hSi hD hcl
   have q:=hJ.pure (show cstW r i b (.int .i64 keep) 2=some (.pointer (some ⟨r,0,none⟩))from rfl)
   refine opv (v:=.pointer (some ⟨r,0,none⟩)) (w2:=wj) rfl ?_ q
   simp[execOp,putAll,Act.put,Act.eval,Instr.fieldAt,go_sem]
  ·intro S vals wj hJ hSi hD hcl
   have q:=hJ.pure (show cstW r i b (.int .i64 keep) 3=some (.int .i64 (i:Nat))from rfl)
   refine opv (v:=.int .i64 (i:Nat)) (w2:=wj) rfl ?_ q
   simp[execOp,putAll,Act.put,Act.eval,Instr.fieldAt,go_sem]
  ·intro S vals wj hJ hSi hD hcl
   have d2:=hJ.val 2 _ (hD 2 (by simp)) rfl
   have q:=hJ.pure (show cstW r i b (.int .i64 keep) 4=some (.pointer (some ⟨r,0,none⟩))from rfl)
   refine opv (v:=.pointer (some ⟨r,0,none⟩)) (w2:=wj) rfl ?_ q
   simp[execOp,putAll,Act.put,Act.eval,Instr.fieldAt,go_sem,d2]
  ·intro S vals wj hJ hSi hD hcl
   have d4:=hJ.val 4 _ (hD 4 (by simp)) rfl
   have q:=hJ.pure (show cstW r i b (.int .i64 keep) 5=some (.pointer (some ⟨r,11,none⟩))from rfl)
   refine opv (v:=.pointer (some ⟨r,11,none⟩)) (w2:=wj) rfl ?_ q
   simp[execOp,putAll,Act.put,Act.eval,Instr.fieldAt,go_sem,d4]
  ·intro S vals wj hJ hSi hD hcl
   have d5:=hJ.val 5 _ (hD 5 (by simp)) rfl
   have d3:=hJ.val 3 _ (hD 3 (by simp)) rfl
   have q:=hJ.pure (show cstW r i b (.int .i64 keep) 6=some (.pointer (some ⟨r,11+i,none⟩))from rfl)
   refine opv (v:=.pointer (some ⟨r,11+i,none⟩)) (w2:=wj) rfl ?_ q
   simp[execOp,putAll,Act.put,Act.eval,Instr.fieldAt,go_sem,d5,d3,i8]
  ·intro S vals wj hJ hSi hD hcl
   have d6:=hJ.val 6 _ (hD 6 (by simp)) rfl
   have h9:S 9=false:=by cases h:S 9 with|false=>rfl|true=>have:=hcl 9 h 7 (by simp);rw[hSi]at this;cases this
   have e:=hJ.w0 h9
   subst e
   have c9:w.drew.cell? ⟨r,11+i,none⟩=some b:=HB.out
   have q:=hJ.pure (show cstW r i b (.int .i64 keep) 7=some (b)from rfl)
   refine opv (v:=b) (w2:=w.drew) rfl ?_ q
   simp[execOp,putAll,Act.put,Act.eval,go_sem,d6,c9]
  ·intro S vals wj hJ hSi hD hcl
   have q:=hJ.pure (show cstW r i b (.int .i64 keep) 8=some (.int .i64 keep)from rfl)
   refine opv (v:=.int .i64 keep) (w2:=wj) rfl ?_ q
   simp[execOp,putAll,Act.put,Act.eval,Instr.fieldAt,go_sem]
  ·intro S vals wj hJ hSi hD hcl
   have d7:=hJ.val 7 _ (hD 7 (by simp)) rfl
   have d8:=hJ.val 8 _ (hD 8 (by simp)) rfl
   have h13:S 13=false:=by cases h:S 13 with|false=>rfl|true=>have:=hJ.seq h;rw[hSi]at this;cases this
   have e:=hJ.w0 hSi
   refine opc (f:=52) (args:=#[b,.int .i64 keep]) rfl (by simp[execOp,putAll,Act.put,Act.eval,resolve,invoke,go_sem,d7,d8]) ?_
   refine(HC.out wj e).mono ?_
   rintro e w2 ⟨v,rfl,hq⟩
   exact⟨_,rfl,hJ.call h13 hq⟩
  ·intro S vals wj hJ hSi hD hcl
   have d0:=hJ.val 0 _ (hD 0 (by simp)) rfl
   have q:=hJ.pure (show cstW r i b (.int .i64 keep) 10=some (.pointer (some ⟨r,0,none⟩))from rfl)
   refine opv (v:=.pointer (some ⟨r,0,none⟩)) (w2:=wj) rfl ?_ q
   simp[execOp,putAll,Act.put,Act.eval,Instr.fieldAt,go_sem,d0]
  ·intro S vals wj hJ hSi hD hcl
   have d10:=hJ.val 10 _ (hD 10 (by simp)) rfl
   have q:=hJ.pure (show cstW r i b (.int .i64 keep) 11=some (.pointer (some ⟨r,11,none⟩))from rfl)
   refine opv (v:=.pointer (some ⟨r,11,none⟩)) (w2:=wj) rfl ?_ q
   simp[execOp,putAll,Act.put,Act.eval,Instr.fieldAt,go_sem,d10]
  ·intro S vals wj hJ hSi hD hcl
   have d11:=hJ.val 11 _ (hD 11 (by simp)) rfl
   have d1:=hJ.val 1 _ (hD 1 (by simp)) rfl
   have q:=hJ.pure (show cstW r i b (.int .i64 keep) 12=some (.pointer (some ⟨r,11+i,none⟩))from rfl)
   refine opv (v:=.pointer (some ⟨r,11+i,none⟩)) (w2:=wj) rfl ?_ q
   simp[execOp,putAll,Act.put,Act.eval,Instr.fieldAt,go_sem,d11,d1,i8]
  ·intro S vals wj hJ hSi hD hcl
   have d12:=hJ.val 12 _ (hD 12 (by simp)) rfl
   obtain⟨hfz,⟨vo,hvo⟩,ad,had⟩:=HQ.out _ _ (hJ.w1 (hD 9 (by simp)) hSi)
   refine ops_ rfl ?_ (hJ.store (hD 9 (by simp)) hSi undef)
   simp[execOp,putAll,Act.put,Act.eval,go_sem,d12,hfz,hvo,had]
 ·intro vals wz hJ
  obtain⟨v,w2,hq,hw⟩:=hJ.w2 rfl
  have HW:=Lib.hid hw
  have HV:=Lib.hid hq
  clear hw hq hJ
  simp[putAll,List.range,List.range.loop,Act.put]
  go_wp2_with fail
  exact⟨rfl,.tuple #[],results_none rfl _ _ _,v,w2,rfl,HV.out,HW.out⟩
end
section
open Pm
theorem wls_get{n mu:Int}{vs:List Value}(i:Nat):(WLs n mu vs).toArray[3+i]?=vs[i]?:=by
 rw[Nat.add_comm];simp[WLs]
theorem wls_setj{n mu:Int}{vs:List Value}(i:Nat)(v:Value):(WLs n mu vs).toArray.setIfInBounds (3+i) v=(WLs n mu (vs.set i v)).toArray:=by
 rw[Nat.add_comm];apply Array.toList_inj.1;simp[WLs]
theorem wcrash_WQ{D:Nat→Prop}{w:World}{r:Nat}{mu n:Int}{c:Nat→Cm}{vs:List Value}{B:Nat→List Nat}{t:TypeId}(h:WQ D w r mu n c vs B t)(i:Nat)(hi:i<8)(y:BS)(keep:Int)(hk: -9223372036854775808≤keep∧keep≤9223372036854775807)(hc:c (8+i)=cBk y):
  Calls Tryz.prog 27 #[.pointer (some ⟨r,0,none⟩),.int .i64 (i:Nat),.int .i64 keep] w fun e w'=>e=.returned (.tuple #[])∧∃v' Bn,WQ (fun z=>(D z∨w.heap.size≤z)∧z≠r∧z∉Bn) w' r mu n (upd c (8+i) (cBk (crashB y keep))) (vs.set (8+i) v') (upd B (8+i) Bn) t∧GrownX (fun q=>q=r∨q∈B (8+i)) w w'∧∀q∈Bn,q∈B (8+i)∨w.heap.size≤q:=by
 have hp:=h.at' (8+i) (by omega)
 have hget:vs[8+i]?=some (vs.getD (8+i) undef):=by rw[List.getD_eq_getElem?_getD,List.getElem?_eq_getElem (by rw[h.len];omega)];rfl
 rw[hc]at hp
 obtain⟨q,G,hB,hv,hlt,hbq,h1,h2⟩:=hp
 rw[hv]at hget
 obtain⟨tb,vb,hb,hF⟩:=BookW.of hbq
 have hrq:r≠q:=fun e=>h.ne (8+i) (by omega) (by rw[hB,e];simp)
 have hrl:=h.blk.lt
 have hle:=leftN_le h1 keep
 have hcl:(y.L.take (leftN y.L.length y.s keep)).length=leftN y.L.length y.s keep:=by rw[List.length_take];exact Nat.min_eq_left hle
 have hcell:w.cell? ⟨r,11+i,none⟩=some (.pointer (some ⟨q,0,none⟩)):=by
  rw[h.blk.cell,show 11+i=3+(8+i) by omega,wls_get,hget]
 refine(wcrash_walk w r i keep _ hi hcell (fun v w2=>∃g v',v=.pointer (some ⟨g,0,none⟩)∧BookW w2 g 84 v' (y.L.take (leftN y.L.length y.s keep)) (leftN y.L.length y.s keep:Nat) 0∧w.heap.size≤g∧(∀z,v'.ownBlock=some z→w.heap.size≤z)∧Blk w2 r (WLs n mu vs).toArray t∧w.grownBy w2 (some q)) ?_ ?_).mono ?_
 ·rintro w1 rfl
  refine(crash_walk w.drew q tb vb y.L y.s y.f keep h1 (by omega) hk ⟨hb.blk.drew,hb.own,hb.sep,hb.len⟩).mono ?_
  rintro x w2 ⟨g,v',rfl,k1,k2,k3,k4,k5⟩
  have hg:w.grownBy w2 (some q):=⟨k5.os,k5.tape,k5.output,k5.size,k5.block⟩
  exact⟨_,rfl,g,v',rfl,k2,k3,k4,h.blk.grown hg hrq,hg⟩
 ·rintro v w2 ⟨g,v',rfl,k2,k3,k4,k5,k6⟩
  refine⟨k5.frozen _,⟨.pointer (some ⟨q,0,none⟩),?_⟩,_,rfl⟩
  rw[k5.cell,show 11+i=3+(8+i) by omega,wls_get,hget]
 ·rintro e w' ⟨v,w2,rfl,⟨g,v',rfl,k2,k3,k4,k5,k6⟩,hw⟩
  have hs:w'.heap.size=w2.heap.size:=by rw[hw];simp[World.setCell]
  have hsame:∀z,z≠r→w'.heap[z]?=w2.heap[z]?:=fun z hz=>by rw[hw];exact heap_setCell_other w2 ⟨r,11+i,none⟩ z _ hz
  have hbk:Blk w' r (WLs n mu (vs.set (8+i) (.pointer (some ⟨g,0,none⟩)))).toArray t:=by
   rw[hw]
   have:=(k5.set (11+i) (.pointer (some ⟨g,0,none⟩)))
   rw[show(WLs n mu vs).toArray.setIfInBounds (11+i) (.pointer (some ⟨g,0,none⟩))=(WLs n mu (vs.set (8+i) (.pointer (some ⟨g,0,none⟩)))).toArray by rw[show 11+i=3+(8+i) by omega,wls_setj]]at this
   exact this
  have hg:GrownX (fun z=>z=r∨z∈B (8+i)) w w':=by
   have e1:GrownX (fun z=>z=r∨z∈B (8+i)) w w2:=.ofBy k6 (.inr (by rw[hB];simp))
   exact e1.trans (by rw[hw];exact .ofBy (grown_setCell (grown_refl w2 _) _ _) (.inl rfl))
  have hnew:∀z∈g::ownL v',w.heap.size≤z∧z<w2.heap.size:=fun z hz=>by
   rcases List.mem_cons.1 hz with rfl|hz
   ·exact⟨k3,k2.blk.lt⟩
   ·exact⟨k4 z (ownL_mem.1 hz),own_lt k2.own (ownL_mem.1 hz)⟩
  have hcm:(cBk (crashB y keep)).p (fun _=>False) w2 (g::ownL v') (.pointer (some ⟨g,0,none⟩)):=⟨g,ownL v',rfl,rfl,fun z hz=>(hnew z hz).2,k2.to fun z hz=>ownL_mem.2 hz,Nat.le_of_eq hcl.symm,by show(y.L.take (leftN y.L.length y.s keep)).length≤100;omega⟩
  refine⟨rfl,_,g::ownL v',h.set (by omega) hbk hg (fun z hz=>.inr (hnew z hz).1) (fun hm=>by have:=(hnew r hm).1;omega) ((cBk (crashB y keep)).up ⟨by rw[hs];exact Nat.le_refl _,fun z hz hd=>hd.elim⟩ (fun z hz=>hsame z fun e=>by have:=(hnew z hz).1;omega) hcm),hg,fun z hz=>.inr (hnew z hz).1⟩
end
section
open Pm
theorem bk_WQ{D:Nat→Prop}{w:World}{r:Nat}{mu n:Int}{c:Nat→Cm}{vs:List Value}{B:Nat→List Nat}{t:TypeId}(h:WQ D w r mu n c vs B t)(j:Nat)(hj:j<18){x y:BS}(hc:c j=cBk x){f:FuncId}{args:List A}{res:Res}(hf:FnB Tryz.prog gTab f 0 (bkP x) args res (bkP y))(hG:GOK gTab D w){av:List Value}(ha:RAs D w args av):
  Calls Tryz.prog f (vs.getD j undef::av).toArray w fun e w'=>∃v Bn N,e=.returned v∧WQ (fun z=>(D z∨w.heap.size≤z)∧z≠r∧z∉Bn) w' r mu n (upd c j (cBk y)) vs (upd B j Bn) t∧GrownX (fun q=>q∈B j) w w'∧RRb D w w' Bn N res v∧∀q∈Bn,q∈B j∨w.heap.size≤q:=by
 have hp:=h.at' j hj
 have hget:vs[j]?=some (vs.getD j undef):=by rw[List.getD_eq_getElem?_getD,List.getElem?_eq_getElem (by rw[h.len];omega)];rfl
 rw[hc]at hp
 obtain⟨q,G,hB,hv,hlt,hbq⟩:=hp
 rw[hv]at hget ⊢
 refine(hf D w q G av hG hlt hbq ha (fun z hz hm=>(h.dat z hz).2 j hj (by rw[hB];exact hm))).mono ?_
 rintro e w' ⟨v,F',N,rfl,k1,k2,k3,k4,k5⟩
 have hg:GrownX (fun q=>q∈B j) w w':=⟨k5.os,k5.tape,k5.output,k5.size,fun z hz hn=>k5.block z hz (by rw[←hB];exact hn)⟩
 have hBn:∀z∈q::F',z∈B j∨w.heap.size≤z:=fun z hz=>by
  rcases List.mem_cons.1 hz with rfl|hz
  ·exact .inl (by rw[hB];simp)
  ·rw[hB];exact k1 z hz
 refine⟨v,q::F',N,rfl,?_,hg,k4,hBn⟩
 have hset:vs.set j (.pointer (some ⟨q,0,none⟩))=vs:=by
  apply List.ext_getElem?
  intro i
  rw[List.getElem?_set]
  split
  ·next e=>subst e;rw[if_pos (by rw[h.len];exact hj),hget]
  ·rfl
 have hr:r∉q::F':=fun hm=>by
  rcases hBn r hm with e|e
  ·exact h.ne j hj e
  ·have:=h.blk.lt;omega
 have:=h.set (c':=cBk y) (v':=.pointer (some ⟨q,0,none⟩)) hj (by rw[hset];exact(hg.block r h.blk.lt (h.ne j hj)).trans h.blk) ⟨hg.os,hg.tape,hg.output,hg.size,fun z hz hn=>hg.block z hz fun e=>hn (.inr e)⟩ hBn hr ⟨q,F',rfl,rfl,k2,k3⟩
 rw[hset]at this
 exact this
end
section
open Pm
theorem WQ.keeps{D:Nat→Prop}{w w':World}{r j:Nat}{mu n:Int}{c:Nat→Cm}{vs:List Value}{B:Nat→List Nat}{t:TypeId}{Bn:List Nat}(h:WQ D w r mu n c vs B t)(hj:j<18)(hg:GrownX (fun q=>q=r∨q∈B j) w w')(hB:∀q∈Bn,q∈B j∨w.heap.size≤q):
  Keeps D w (fun z=>(D z∨w.heap.size≤z)∧z≠r∧z∉Bn) w':=⟨hg.size,fun z hz hd=>⟨⟨.inl hd,(h.dat z hd).1,fun hm=>by
  rcases hB z hm with h1|h1
  ·exact(h.dat z hd).2 j hj h1
  ·omega⟩,fun o=>World.cell?_of_block (hg.block z hz fun e=>by rcases e with e|e;exact(h.dat z hd).1 e;exact(h.dat z hd).2 j hj e)⟩⟩
theorem gok_all{D:Nat→Prop}{w:World}(h:GOK gTab D w):GOK gTab (fun _=>True) w:=h.up ⟨Nat.le_refl _,fun z _ _=>⟨trivial,fun _=>rfl⟩⟩
theorem WQ.dat_at{D:Nat→Prop}{w:World}{r:Nat}{mu n:Int}{c:Nat→Cm}{vs:List Value}{B:Nat→List Nat}{t:TypeId}(h:WQ D w r mu n c vs B t){j:Nat}(hj:j<18){a:A}(hc:c j=cDat a):RA D w a (vs.getD j undef):=by
 have:=h.at' j hj
 rw[hc]at this
 exact this.2.1
theorem WQ.cell_at{D:Nat→Prop}{w:World}{r:Nat}{mu n:Int}{c:Nat→Cm}{vs:List Value}{B:Nat→List Nat}{t:TypeId}(h:WQ D w r mu n c vs B t){j:Nat}(hj:j<18):w.cell? ⟨r,3+j,none⟩=some (vs.getD j undef):=by
 rw[h.blk.cell,wls_get,List.getD_eq_getElem?_getD,List.getElem?_eq_getElem (by rw[h.len];exact hj)];rfl
end
section
open Pm
structure JR(cst:Nat→Option Value)(w3:World)(S:Nat→Bool)(vals:Nat→Value)(w:World):Prop where
 val:∀k x,S k=true→cst k=some x→vals k=x
 same:w=w3
theorem JR.pure{cst:Nat→Option Value}{w3:World}{S:Nat→Bool}{vals:Nat→Value}{w:World}(h:JR cst w3 S vals w){j:Nat}{x:Value}(hc:cst j=some x):JR cst w3 (add1 S j) (fun k=>if k=j then x else vals k) w:=by
 refine⟨fun k y hk hy=>?_,h.same⟩
 by_cases e1:k=j
 ·subst e1;rw[hc]at hy;cases hy;exact if_pos rfl
 ·rw[add1_other S e1]at hk;rw[updV vals j x e1];exact h.val k y hk hy
def cstA(r g i:Nat)(pv bv:Value):Nat→Option Value
 |0=>some (.pointer (some ⟨r,0,none⟩))
 |1=>some (.pointer (some ⟨g,1,none⟩))
 |2=>some (.int .i64 (i:Nat))
 |3=>some (.pointer (some ⟨r,0,none⟩))
 |4=>some (.pointer (some ⟨r,3,none⟩))
 |5=>some (.pointer (some ⟨r,3+i,none⟩))
 |6=>some (pv)
 |7=>some (.pointer (some ⟨r,0,none⟩))
 |8=>some (.pointer (some ⟨g,1,none⟩))
 |9=>some (.int .i64 (i:Nat))
 |10=>some (.pointer (some ⟨r,0,none⟩))
 |11=>some (.pointer (some ⟨r,11,none⟩))
 |12=>some (.pointer (some ⟨r,11+i,none⟩))
 |13=>some (bv)
 |14=>some (pv)
 |15=>some (bv)
 |_=>none
end
end Go.Proofs.YtbdmnobocecnfaaGreatDoor
