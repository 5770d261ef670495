/-
 The statement of WorldOfNothing is proved: whatever the input, the law's call returns true, and each argument reads behind it as before. The listed package variables hold what the program's text lays (the card ties them).
-/
import Derived.Test.YtefgbmdmmhkeaaaGreatDoorJ37
import Derived.Test.YtefgbmdmmhkeaaaGreatDoorJ38
import Derived.Test.YtefgbmdmmhkeaaaGreatDoorCards
import Derived.Test.YtefgbmdmmhkeaaaGreatDoorTie
import Derived.Test.YtefgbmdmmhkeaaaGreatDoorDg
import Derived.ShutString
import Derived.ChangeOld
import Derived.Below
import Derived.SevenTiedAt
namespace Go.Proofs.YtefgbmdmmhkeaaaGreatDoor
set_option linter.unusedVariables false
set_option linter.unusedSimpArgs false
set_option maxRecDepth 100000
open Go.RowKit
section
open Pm
attribute [local irreducible] condK LoopA regA powI scal mulI isI fourB deriveW numB numsB bodyB nodeW nextW viewHV sealB keyZ commonI upW lefW createP enterP
def createE:List A→(Res→Prop)→Prop
 |[.agg [.bytes 32 h]],K=>∀p,p=createP h→K (.d (.sref (pSegs p) 0))
 |_,_=>False
end
section
open Pm
attribute [local irreducible] condK LoopA regA powI scal mulI isI fourB deriveW numB numsB bodyB nodeW nextW viewHV sealB keyZ commonI upW lefW createP enterP
end
section
open Pm
attribute [local irreducible] condK LoopA regA powI scal mulI isI deriveW numB numsB bodyB nodeW nextW viewHV sealB commonI keyZ upW openE openB
end
section
open Pm
attribute [local irreducible] condK LoopA regA powI scal mulI isI deriveW numB numsB bodyB nodeW nextW viewHV sealB commonI keyZ upW openE openB
end
section
open Pm
attribute [local irreducible] condK LoopA regA powI scal mulI isI deriveW numB numsB bodyB nodeW nextW viewHV sealB commonI keyZ upW openE openB memB
end
section
open Pm
attribute [local irreducible] condK LoopA regA powI scal mulI isI deriveW numB numsB bodyB nodeW nextW viewHV sealB commonI keyZ upW openE openB memB underB
end
end Go.Proofs.YtefgbmdmmhkeaaaGreatDoor
namespace Go.Proofs.YtefgbmdmmhkeaaaGreatDoor
set_option linter.unusedVariables false
set_option linter.unusedSimpArgs false
set_option maxRecDepth 100000
open Go.RowKit
section
def nilP(n:Nat):List A:=List.replicate n (.v (.pointer none))
def yTab7(t0:TypeId):Option TI:=
 match t0 with
 |55=>some (tiStruct 21 [.ints .i64 1 [0],.ints .i32 1 [0],.ints .u32 1 [0],.gen 16 (nilP 16),.gen 2 [.v (.slice none 0 0),.v (.slice none 0 0)]] [0,1,3,11,19,20] [44,50,51,52,35,53] 192 false [(0,1),(1,2),(3,8),(11,8),(19,1),(20,1)])
 |28=>some (tiPtr)
 |33=>some (tiPtr)
 |51=>some { tiArr 8 31 1 [.gen 8 (nilP 8)] 64 with eq:=false }
 |52=>some { tiArr 8 33 1 [.gen 8 (nilP 8)] 64 with eq:=false }
 |25=>some (tiStruct 7 [.ints .i64 4 [0,0,0,0],.gen 1 [.v (.slice none 0 0)],.ints .i64 1 [0],.gen 1 [.v (.slice none 0 0)]] [0,1,2,3,4,5,6] [3,3,3,3,22,3,23] 88 false [(0,1),(1,1),(2,1),(3,1),(4,1),(5,1),(6,1)])
 |27=>some (tiSl 25 7)
 |_=>yTab3 t0
set_option maxRecDepth 100000 in
theorem yOK7:∀t i,yTab7 t=some i→TyOK Tryz.prog t i:=by
 intro t i h
 unfold yTab7 at h
 split at h<;>first|(cases h;exact tyB_spec (by kernel_rfl))|exact yOK3 _ _ h
set_option maxRecDepth 100000 in
theorem yEq7:∀t i,yTab7 t=some i→i.eq=true→EqT Tryz.prog t i:=by
 intro t i h
 unfold yTab7 at h
 split at h<;>first|(cases h;intro he;cases he;done)|(cases h;intro _;exact eqB_spec (by kernel_rfl))|exact yEq3 _ _ h
end
section
open Pm
theorem wload_any(a:Addr)(x:Int)(w:World)(hc:w.cell? a=some (.int .i64 x)):
  Calls Tryz.prog 25 #[.pointer (some a)] w fun e w'=>e=.returned (.int .i64 x)∧w=w':=by
 have hl:=run_call_load (P:=Tryz.prog) Tryz.func47 (by kernel_rfl) (by kernel_rfl) (by kernel_rfl) .i64 (by kernel_rfl) hc
 go_enter Tryz.func25,Tryz.ntmps25
 go_wp2
 go_ret
 exact⟨rfl,rfl⟩
theorem wadd_any(a:Addr)(x:Int)(hx:0≤x∧x≤1000000)(w:World)(hc:w.cell? a=some (.int .i64 x))(hz:w.frozen? a=false):
  Calls Tryz.prog 11 #[.pointer (some a),.int .i64 1] w fun e w'=>(∃y,e=.returned y)∧w'=w.setCell a (.int .i64 (x+1)):=by
 have hwr:RowKit.wrap64 (x+1)=x+1:=IntWalk.wrap64_in _ (by omega)
 have hwi:IntKind.i64.wrap (x+1)=x+1:=wrapS (by omega) (by omega)
 clear hx
 have hadd:=run_call_add (P:=Tryz.prog) Tryz.func29 (by kernel_rfl) (by kernel_rfl) (by kernel_rfl) .i64 (by kernel_rfl) (y:=1) (s:=x+1) hc hz (by simp[go_sem,hwr,hwi])
 go_enter Tryz.func11,Tryz.ntmps11
 go_wp2
 go_ret
 exact⟨⟨_,rfl⟩,rfl⟩
end
section
open Pm
def WL(n mu:Int)(ps bs:List Value)(po ap:Value):List Value:=.int .i64 n::.int .i32 mu::.int .u32 0::(ps++(bs++[po,ap]))
theorem WL_mu{n mu:Int}{ps bs:List Value}{po ap:Value}(m:Int):(WL n mu ps bs po ap).toArray.setIfInBounds 1 (.int .i32 m)=(WL n m ps bs po ap).toArray:=by
 rw[List.setIfInBounds_toArray];rfl
theorem WL_n{n mu:Int}{ps bs:List Value}{po ap:Value}(m:Int):(WL n mu ps bs po ap).toArray.setIfInBounds 0 (.int .i64 m)=(WL m mu ps bs po ap).toArray:=by
 rw[List.setIfInBounds_toArray];rfl
theorem WL_p{n mu:Int}{ps bs:List Value}{po ap:Value}{i:Nat}{v:Value}(hi:ps[i]?=some v):(WL n mu ps bs po ap).toArray[3+i]?=some v:=by
 rw[List.getElem?_toArray,show 3+i=i+3 by omega]
 show(ps++(bs++[po,ap]))[i]?=_
 rw[List.getElem?_append_left (List.getElem?_eq_some_iff.1 hi).1]
 exact hi
theorem isPlace_any(i:Int)(w:World):Calls Tryz.prog 12 #[.int .i64 i] w fun e w'=>e=.returned (.bool (decide (0≤i∧i<8)))∧w=w':=by
 by_cases h0:0≤i
 ·by_cases h1:i<8
  ·rw[decide_eq_true ⟨h0,h1⟩]
   have g0:i≥0:=h0
   go_enter Tryz.func12,Tryz.ntmps12
   go_wp2
   go_ret
   exact⟨rfl,rfl⟩
  ·rw[decide_eq_false (fun h=>h1 h.2)]
   have g0:i≥0:=h0
   go_enter Tryz.func12,Tryz.ntmps12
   go_wp2
   go_ret
   exact⟨rfl,rfl⟩
 ·rw[decide_eq_false (fun h=>h0 h.1)]
  have g0:¬i≥0:=h0
  go_enter Tryz.func12,Tryz.ntmps12
  go_wp2
  go_ret
  exact⟨rfl,rfl⟩
theorem isPlace_in{i:Nat}(hi:i<8)(w:World):Calls Tryz.prog 12 #[.int .i64 (i:Nat)] w fun e w'=>e=.returned (.bool true)∧w=w':=
 (isPlace_any _ _).mono fun e w' ⟨h1,h2⟩=>⟨by rw[h1,decide_eq_true (show 0≤(i:Int)∧(i:Int)<8 from⟨by omega,by omega⟩)],h2⟩
set_option maxRecDepth 100000 in
set_option maxHeartbeats 4000000 in
theorem party_walk(w:World)(r:Nat)(t:TypeId)(n:Int)(ps bs:List Value)(po ap:Value)(i:Nat)(hi:i<8)(pv:Value)(hp:ps[i]?=some pv)(hb:Blk w r (WL n 0 ps bs po ap).toArray t)(Q:Value→World→Prop)
  (hcopy:∀w1,Blk w1 r (WL n 1 ps bs po ap).toArray t→w.grownBy w1 (some r)→Calls Tryz.prog 20 #[pv] w1 fun e w2=>∃v,e=.returned v∧Q v w2∧Below w1.heap.size w1 w2):
  Calls Tryz.prog 6 #[.pointer (some ⟨r,0,none⟩),.int .i64 (i:Nat)] w fun e w'=>∃v w2,e=.returned v∧Q v w2∧w'=w2.setCell ⟨r,1,none⟩ (.int .i32 0)∧Blk w2 r (WL n 1 ps bs po ap).toArray t∧w.grownBy w2 (some r):=by
 have hb1:Blk (w.setCell ⟨r,1,none⟩ (.int .i32 1)) r (WL n 1 ps bs po ap).toArray t:=(hb.set 1 _).copy (WL_mu 1)
 have hg1:w.grownBy (w.setCell ⟨r,1,none⟩ (.int .i32 1)) (some r):=grown_setCell (grown_refl w _) 1 _
 have c1:w.cell? ⟨r,1,none⟩=some (.int .i32 0):=(hb.cell 1).trans (by rw[List.getElem?_toArray];rfl)
 have c2:(w.setCell ⟨r,1,none⟩ (.int .i32 1)).cell? ⟨r,3+i,none⟩=some pv:=(hb1.cell (3+i)).trans (WL_p hp)
 have i0:¬(i:Int)<0:=by omega
 have i1:(i:Int)<8:=by omega
 have HB:=Lib.hid hb;have HB1:=Lib.hid hb1;have HG1:=Lib.hid hg1;have C1:=Lib.hid c1;have HC:=Lib.hid hcopy
 clear hb hb1 hg1 hcopy c1 hp
 go_enter_defers Tryz.func6,Tryz.ntmps6
 go_wp2_with (first|(go_at_call 12;refine(isPlace_in hi _).mono ?_;rintro e w' ⟨rfl,rfl⟩)|(go_at_call 13;refine(lock_free ⟨r,1,none⟩ _ C1.out (HB.out.frozen 1)).mono ?_;rintro e w' ⟨rfl,rfl⟩)|(go_at_call 20;refine(HC.out _ HB1.out HG1.out).mono ?_;rintro e w' ⟨v,rfl,hq,hbel⟩))
 have hb2:=HB1.out.keep hbel
 have c3:w'.cell? ⟨r,1,none⟩=some (.int .i32 1):=(hb2.cell 1).trans (by rw[List.getElem?_toArray];rfl)
 have hbw:w.grownBy w' (some r):=grown_below HG1.out hbel
 refine leaves_cons (f:=14) (args:=#[.pointer (some ⟨r,1,none⟩)]) (by simp) (by simp[go_sem]) ?_
 refine(unlock_deferred ⟨r,1,none⟩ _ _ c3 (hb2.frozen 1)).mono ?_
 rintro e u' w4 ⟨rfl,rfl,hw4⟩
 simp[Leaves,settle,results,Tryz.results6]
 exact⟨w',hq,hw4,hb2,hbw⟩
end
section
open Pm
abbrev AC(kd who nn fr:Int)(ops:Value)(dr:Int)(by':Value):Array Value:=#[.int .i64 kd,.int .i64 who,.int .i64 nn,.int .i64 fr,ops,.int .i64 dr,by']
theorem World.alloc_keep{w:World}{o:Obj}{r:Nat}{cs:Array Value}{t:TypeId}(h:Blk w r cs t):Blk (w.alloc o) r cs t:=(Below.heap_alloc _ _ _ h.lt).trans h
set_option maxRecDepth 100000 in
set_option maxHeartbeats 4000000 in
theorem step_commit(w:World)(r:Nat)(t:TypeId)(n:Int)(hn:0≤n∧n≤1000000)(ps bs:List Value)(po ap:Value)(i:Nat)(hi:i<8)(nn fr dr:Int)(ops by':Value)(hb:Blk w r (WL n 0 ps bs po ap).toArray t)(Q:Value→Array Value→World→Prop)
  (hsub:∀w1,Blk w1 r (WL (n+1) 1 ps bs po ap).toArray t→w.grownBy w1 (some r)→Calls Tryz.prog 16 #[.pointer (some ⟨r,0,none⟩),.agg (AC 2 (i:Nat) nn fr ops dr by')] w1 fun e w2=>∃v cs,e=.returned v∧Q v cs w2∧Blk w2 r cs t∧cs[1]?=some (.int .i32 1)):
  Calls Tryz.prog 5 #[.pointer (some ⟨r,0,none⟩),.agg (AC 2 (i:Nat) nn fr ops dr by')] w fun e w'=>∃v cs w2,e=.returned v∧Q v cs w2∧w'=w2.setCell ⟨r,1,none⟩ (.int .i32 0)∧Blk w2 r cs t:=by
 have b0:Blk (w.alloc (.cells (AC 2 (i:Nat) nn fr ops dr by') 25)) r (WL n 0 ps bs po ap).toArray t:=World.alloc_keep hb
 have a0:Blk (w.alloc (.cells (AC 2 (i:Nat) nn fr ops dr by') 25)) w.heap.size (AC 2 (i:Nat) nn fr ops dr by') 25:=Blk.newAt _ _ rfl
 have g0:w.grownBy (w.alloc (.cells (AC 2 (i:Nat) nn fr ops dr by') 25)) (some r):=⟨rfl,rfl,rfl,by rw[size_alloc];omega,fun k hk _=>Below.heap_alloc _ _ _ hk⟩
 have hne:r≠w.heap.size:=by have:=hb.lt;omega
 have b1:Blk ((w.alloc (.cells (AC 2 (i:Nat) nn fr ops dr by') 25)).setCell ⟨r,0,none⟩ (.int .i64 (n+1))) r (WL (n+1) 0 ps bs po ap).toArray t:=(b0.set 0 _).copy (WL_n _)
 have a1:Blk ((w.alloc (.cells (AC 2 (i:Nat) nn fr ops dr by') 25)).setCell ⟨r,0,none⟩ (.int .i64 (n+1))) w.heap.size (AC 2 (i:Nat) nn fr ops dr by') 25:=a0.other ⟨r,0,none⟩ _ hne.symm
 have g1:w.grownBy ((w.alloc (.cells (AC 2 (i:Nat) nn fr ops dr by') 25)).setCell ⟨r,0,none⟩ (.int .i64 (n+1))) (some r):=grown_setCell g0 0 _
 have b2:Blk (((w.alloc (.cells (AC 2 (i:Nat) nn fr ops dr by') 25)).setCell ⟨r,0,none⟩ (.int .i64 (n+1))).setCell ⟨r,1,none⟩ (.int .i32 1)) r (WL (n+1) 1 ps bs po ap).toArray t:=(b1.set 1 _).copy (WL_mu _)
 have a2:Blk (((w.alloc (.cells (AC 2 (i:Nat) nn fr ops dr by') 25)).setCell ⟨r,0,none⟩ (.int .i64 (n+1))).setCell ⟨r,1,none⟩ (.int .i32 1)) w.heap.size (AC 2 (i:Nat) nn fr ops dr by') 25:=a1.other ⟨r,1,none⟩ _ hne.symm
 have g2:w.grownBy (((w.alloc (.cells (AC 2 (i:Nat) nn fr ops dr by') 25)).setCell ⟨r,0,none⟩ (.int .i64 (n+1))).setCell ⟨r,1,none⟩ (.int .i32 1)) (some r):=grown_setCell g1 1 _
 have c0:(w.alloc (.cells (AC 2 (i:Nat) nn fr ops dr by') 25)).cell? ⟨r,0,none⟩=some (.int .i64 n):=(b0.cell 0).trans (by rw[List.getElem?_toArray];rfl)
 have c1:((w.alloc (.cells (AC 2 (i:Nat) nn fr ops dr by') 25)).setCell ⟨r,0,none⟩ (.int .i64 (n+1))).cell? ⟨r,1,none⟩=some (.int .i32 0):=(b1.cell 1).trans (by rw[List.getElem?_toArray];rfl)
 have k1:((w.alloc (.cells (AC 2 (i:Nat) nn fr ops dr by') 25)).setCell ⟨r,0,none⟩ (.int .i64 (n+1))).cell? ⟨w.heap.size,1,none⟩=some (.int .i64 (i:Nat)):=a1.cell 1
 have k2:(((w.alloc (.cells (AC 2 (i:Nat) nn fr ops dr by') 25)).setCell ⟨r,0,none⟩ (.int .i64 (n+1))).setCell ⟨r,1,none⟩ (.int .i32 1)).cell? ⟨w.heap.size,0,none⟩=some (.int .i64 2):=a2.cell 0
 have HS:=Lib.hid hsub;have HN:=Lib.hid hn;have B0:=Lib.hid b0;have B1:=Lib.hid b1;have B2:=Lib.hid b2;have A2:=Lib.hid a2;have G2:=Lib.hid g2;have C0:=Lib.hid c0;have C1:=Lib.hid c1
 clear hb hsub hn b0 a0 g0 b1 a1 g1 b2 a2 g2 c0 c1
 go_enter_defers Tryz.func5,Tryz.ntmps5
 go_wp2_with (first|(go_at_call 11;refine(wadd_any ⟨r,0,none⟩ n HN.out _ C0.out (B0.out.frozen 0)).mono ?_;rintro e w' ⟨⟨y,rfl⟩,rfl⟩)|(go_at_call 12;refine(isPlace_in hi _).mono ?_;rintro e w' ⟨rfl,rfl⟩)|(go_at_call 13;refine(lock_free ⟨r,1,none⟩ _ C1.out (B1.out.frozen 1)).mono ?_;rintro e w' ⟨rfl,rfl⟩)|(go_at_call 16;refine(HS.out _ B2.out G2.out).mono ?_;rintro e w' ⟨v,cs,rfl,hq,hb3,hc3⟩))
 refine leaves_cons (f:=14) (args:=#[.pointer (some ⟨r,1,none⟩)]) (by simp) (by simp[go_sem]) ?_
 refine(unlock_deferred ⟨r,1,none⟩ _ _ ((hb3.cell 1).trans hc3) (hb3.frozen 1)).mono ?_
 rintro e u' w4 ⟨rfl,rfl,hw4⟩
 simp[Leaves,settle,results,Tryz.results5]
 exact⟨cs,w',hq,hw4,hb3⟩
end
section
open Pm
set_option maxRecDepth 100000 in
set_option maxHeartbeats 4000000 in
theorem commit_absent(w:World)(r:Nat)(t:TypeId)(n mu:Int)(ps bs:List Value)(po ap:Value)(i:Nat)(hi:i<8)(hp:ps[i]?=some (.pointer none))(kd nn fr dr:Int)(ops by':Value)(hb:Blk w r (WL n mu ps bs po ap).toArray t):
  Calls Tryz.prog 16 #[.pointer (some ⟨r,0,none⟩),.agg (AC kd (i:Nat) nn fr ops dr by')] w fun e w'=>e=.returned (.int .i64 13)∧Blk w' r (WL n mu ps bs po ap).toArray t∧w.grownBy w' none:=by
 have b0:Blk (w.alloc (.cells (AC kd (i:Nat) nn fr ops dr by') 25)) r (WL n mu ps bs po ap).toArray t:=World.alloc_keep hb
 have a0:Blk (w.alloc (.cells (AC kd (i:Nat) nn fr ops dr by') 25)) w.heap.size (AC kd (i:Nat) nn fr ops dr by') 25:=Blk.newAt _ _ rfl
 have g0:w.grownBy (w.alloc (.cells (AC kd (i:Nat) nn fr ops dr by') 25)) none:=⟨rfl,rfl,rfl,by rw[size_alloc];omega,fun k hk _=>Below.heap_alloc _ _ _ hk⟩
 have k1:(w.alloc (.cells (AC kd (i:Nat) nn fr ops dr by') 25)).cell? ⟨w.heap.size,1,none⟩=some (.int .i64 (i:Nat)):=a0.cell 1
 have k2:(w.alloc (.cells (AC kd (i:Nat) nn fr ops dr by') 25)).cell? ⟨r,3+i,none⟩=some (.pointer none):=(b0.cell (3+i)).trans (WL_p hp)
 have i0:0≤(i:Int):=by omega
 have i1:(i:Int)<8:=by omega
 have B0:=Lib.hid b0;have G0:=Lib.hid g0
 clear hb b0 a0 g0 hp
 go_enter Tryz.func16,Tryz.ntmps16
 go_wp2_with fail
 refine region_tail 7 (by kernel_rfl) (by kernel_rfl) ?_
 repeat still_step
 refine wpStill_nil ?_
 go_wp2
 go_ret
 exact⟨rfl,B0.out.drew,grown_drew G0.out⟩
end
section
open Pm
set_option maxRecDepth 100000 in
set_option maxHeartbeats 1000000 in
theorem wsteps_nil(w:World):Calls Tryz.prog 9 #[.pointer none] w fun e w'=>e=.returned (.int .i64 0)∧w=w':=by
 go_enter Tryz.func9,Tryz.ntmps9
 go_wp2
 go_ret
 exact⟨rfl,rfl⟩
set_option maxRecDepth 100000 in
set_option maxHeartbeats 1000000 in
theorem wparty_nil(w:World)(i:Int):Calls Tryz.prog 6 #[.pointer none,.int .i64 i] w fun e w'=>e=.returned (.pointer none)∧w=w':=by
 go_enter_defers Tryz.func6,Tryz.ntmps6
 go_wp2
 simp[bodyPostD,Leaves,settle,results,Tryz.results6]
 done
set_option maxRecDepth 100000 in
set_option maxHeartbeats 1000000 in
theorem wstep_nil(w:World)(a:Array Value):Calls Tryz.prog 5 #[.pointer none,.agg a] w fun e w'=>e=.returned (.int .i64 1)∧w.grownBy w' none:=by
 have g0:w.grownBy (w.alloc (.cells a 25)) none:=⟨rfl,rfl,rfl,by rw[size_alloc];omega,fun k hk _=>Below.heap_alloc _ _ _ hk⟩
 go_enter_defers Tryz.func5,Tryz.ntmps5
 go_wp2
 simp[bodyPostD,Leaves,settle,results,Tryz.results5]
 exact g0
end
section
open Pm
def bk0:List Seg:=[.ints .i32 1 [0],.ints .u32 1 [0],.gen 1 [.v (.slice none 0 0)],.ints .i64 2 [0,0]]
attribute [local irreducible] condK LoopA regA deriveW numB numsB
theorem newBook_fn:FnO 48 [] (.d (.sref bk0 0)):=by
 refine fn_sref (fnA (E:=env0) Tryz.func48 Tryz.ntmps48 ?_)
 refine agow ?_;(try exact⟨⟩)
 rfl
def newBkS:List A→(Res→Prop)→Prop
 |[],K=>K (.d (.sref bk0 0))
 |_,_=>False
theorem newBkS_ok:∀args K,newBkS args K→∃r,FnO 48 args r∧K r:=by
 intro args K h
 unfold newBkS at h
 split at h
 ·exact⟨_,newBook_fn,h⟩
 ·exact h.elim
def wsd(i:Int):List UInt8:=deriveW (zB 32) (sb ⟨#[115,101,101,100]⟩) (numB i)
set_option maxHeartbeats 4000000 in
theorem wseed_fn(i:Int):FnO 27 [.v (.int .i64 i)] (.d (.agg [.bytes 32 (wsd i)])):=by
 refine fnA (E:=envK3) Tryz.func27 Tryz.ntmps27 ?_
 refine agow ?_;(try exact⟨⟩)
 rfl
theorem rwseed_fn(i:Int):FnO 28 [.v (.int .i64 i)] (.d (.agg [.bytes 32 (wsd i)])):=by
 refine fnA (E:=envK4) Tryz.func28 Tryz.ntmps28 ?_
 have hl:(numB i).length≤100000000:=by rw[numB_length];decide
 refine agow ?_;(try exact⟨⟩)
 rfl
def wseedS:List A→(Res→Prop)→Prop
 |[.v (.int .i64 i)],K=>∀h,h=wsd i→K (.d (.agg [.bytes 32 h]))
 |_,_=>False
theorem wseedS_of{f:FuncId}(hf:∀i,FnO f [.v (.int .i64 i)] (.d (.agg [.bytes 32 (wsd i)]))):∀args K,wseedS args K→∃r,FnO f args r∧K r:=by
 intro args K h
 unfold wseedS at h
 split at h
 ·exact⟨_,hf _,h _ rfl⟩
 ·exact h.elim
end
section
open Pm
def wdS(n:Int)(l:List A)(po:List A):List Seg:=[.ints .i64 1 [n],.ints .i32 1 [0],.ints .u32 1 [0],.gen 16 l,.gen 2 po]
theorem RG.two{S:Nat→Prop}{w:World}:∀{l:List A} {cs:List Value},RG S w l cs→l.length=cs.length
 |_,_,.nil=>rfl
 |_,_,.cons _ _ r=>by rw[List.length_cons,List.length_cons,r.two]
theorem RG.at'{S:Nat→Prop}{w:World}:∀{l:List A} {cs:List Value},RG S w l cs→∀(i:Nat) (a:A),l[i]?=some a→∃v,cs[i]?=some v∧RA S w a v
 |_,_,.nil,i,a,e=>by cases e
 |_,_,.cons h1 _ r,0,a,e=>by cases e;exact⟨_,rfl,h1⟩
 |_,_,.cons _ _ r,i+1,a,e=>r.at' i a e
theorem wd_open{D:Nat→Prop}{w:World}{r:Nat}{n:Int}{l po:List A}(h:HB D w r (.var (wdS n l po))):∃ps bs v1 v2 t,ps.length=8∧Blk w r (WL n 0 ps bs v1 v2).toArray t∧(∀i a,i<8→l[i]?=some a→∃v,ps[i]?=some v∧RA D w a v)∧
  ∀(D':Nat→Prop) (w':World) (n':Int),Keeps D w D' w'→Blk w' r (WL n' 0 ps bs v1 v2).toArray t→HB D' w' r (.var (wdS n' l po)):=by
 obtain⟨cs,t,h1,h2⟩:=h
 unfold wdS at h2
 obtain⟨c1,d1,e1,k1,r1,_⟩:=h2.head
 obtain⟨c2,d2,e2,k2,r2,_⟩:=r1.head
 obtain⟨c3,d3,e3,k3,r3,_⟩:=r2.head
 obtain⟨c4,d4,e4,k4,r4,l4⟩:=r3.head
 obtain⟨_,rfl⟩:=k1.toInts
 obtain⟨_,rfl⟩:=k2.toInts
 obtain⟨_,rfl⟩:=k3.toInts
 obtain⟨g4,q4⟩:=k4.toGen
 obtain⟨g5,q5⟩:=r4.toGen
 have len4:c4.length=16:=q4.two.symm.trans g4
 have len5:d4.length=2:=q5.two.symm.trans g5
 obtain⟨v1,v2,rfl⟩:∃a b,d4=[a,b]:=by
  rcases d4 with _|⟨a,_|⟨b,_|⟨c,x⟩⟩⟩<;>first|(simp at len5;done)|exact⟨a,b,rfl⟩
 have ec:cs=WL n 0 (c4.take 8) (c4.drop 8) v1 v2:=by
  rw[e1,e2,e3,e4]
  unfold WL
  rw[←List.append_assoc (c4.take 8),List.take_append_drop]
  rfl
 refine⟨c4.take 8,c4.drop 8,v1,v2,t,by simp[len4],by rw[ec]at h1;exact h1,fun i a hi ha=>?_,fun D' w' n' kp hb=>⟨_,t,hb,?_⟩⟩
 ·obtain⟨v,x1,x2⟩:=q4.at' i a ha
  exact⟨v,by rw[List.getElem?_take,if_pos hi];exact x1,x2⟩
 ·have u4:=RL.up kp k4
  have u5:=RL.up kp r4
  have e:WL n' 0 (c4.take 8) (c4.drop 8) v1 v2=[.int .i64 n']++([.int .i32 0]++([.int .u32 0]++(c4++[v1,v2]))):=by
   unfold WL
   rw[←List.append_assoc (c4.take 8),List.take_append_drop]
   rfl
  rw[e]
  unfold wdS
  obtain⟨_,p4⟩:=u4.toGen
  obtain⟨_,p5⟩:=u5.toGen
  have q:=RL.ints (k:=.i64) (n:=1) (zs:=[n']) rfl (RL.ints (k:=.i32) (n:=1) (zs:=[0]) rfl (RL.ints (k:=.u32) (n:=1) (zs:=[0]) rfl (RL.gen p4 g4 (RL.gen p5 g5 .nil))))
  rw[List.append_nil]at q
  exact q
end
section
open Pm
theorem keeps_grown{S:Nat→Prop}{w w':World}{r:Nat}(g:w.grownBy w' (some r)):Keeps (fun q=>S q∧q≠r) w (fun q=>(S q∨w.heap.size≤q)∧q≠r) w':=
 ⟨g.size,fun b hb hS=>⟨⟨.inl hS.1,hS.2⟩,fun o=>by
  have e:w'.heap[b]?=w.heap[b]?:=g.block b hb (fun e=>hS.2 (by cases e;rfl))
  unfold World.cell?
  rw[e]⟩⟩
theorem grown_none{a b c:World}{r:Nat}(h:a.grownBy b (some r))(k:b.grownBy c none):a.grownBy c (some r):=
 grown_trans h ⟨k.os,k.tape,k.output,k.size,fun q hq _=>k.block q hq (fun e=>by cases e)⟩
set_option maxRecDepth 100000 in
theorem wsteps_walk(w:World)(r:Nat)(t:TypeId)(n:Int)(ps bs:List Value)(po ap:Value)(hb:Blk w r (WL n 0 ps bs po ap).toArray t)(hn:0≤n∧n≤1000000):
  Calls Tryz.prog 9 #[.pointer (some ⟨r,0,none⟩)] w fun e w'=>e=.returned (.int .i64 n)∧w=w':=by
 have c0:w.cell? ⟨r,0,none⟩=some (.int .i64 n):=(hb.cell 0).trans (by rw[List.getElem?_toArray];rfl)
 have C0:=Lib.hid c0
 have hw:IntKind.i64.wrap n=n:=wrapS (by omega) (by omega)
 clear hb hn c0
 go_enter Tryz.func9,Tryz.ntmps9
 go_wp2_with (go_at_call 25;refine(wload_any ⟨r,0,none⟩ n _ C0.out).mono ?_;rintro e w' ⟨rfl,rfl⟩)
 go_ret
 exact⟨rfl,rfl⟩
theorem wsteps_M(n:Int)(hn:0≤n∧n≤1000000)(l po:List A):FnM Tryz.prog gTab 9 0 (.var (wdS n l po)) [] (.d (.v (.int .i64 n))) (.var (wdS n l po)):=by
 intro S w r vs hr hG hH hv
 cases hv
 obtain⟨ps,bs,v1,v2,t,hl,hb,_,back⟩:=wd_open hH
 refine(wsteps_walk w r t n ps bs v1 v2 hb hn).mono ?_
 rintro e w' ⟨rfl,rfl⟩
 exact⟨_,rfl,.v _,HB.up (keeps_grown (grown_refl w (some r))) rfl hH,grown_refl w _⟩
theorem act_open{D:Nat→Prop}{w:World}{kd who nn fr dr:Int}{x y:A}{v:Value}(h:RA D w (.agg [.ints .i64 4 [kd,who,nn,fr],.gen 1 [x],.ints .i64 1 [dr],.gen 1 [y]]) v):∃vx vy,v=.agg (AC kd who nn fr vx dr vy)∧RA D w x vx∧RA D w y vy:=by
 cases h with
 |agg hl=>
  rename_i cs
  obtain⟨c1,d1,e1,k1,r1,_⟩:=hl.head
  obtain⟨c2,d2,e2,k2,r2,_⟩:=r1.head
  obtain⟨c3,d3,e3,k3,r3,_⟩:=r2.head
  obtain⟨_,rfl⟩:=k1.toInts
  obtain⟨_,rfl⟩:=k3.toInts
  obtain⟨_,q2⟩:=k2.toGen
  obtain⟨_,q4⟩:=r3.toGen
  cases q2 with
  |cons a1 _ n1=>
   cases n1
   cases q4 with
   |cons a2 _ n2=>
    cases n2
    refine⟨_,_,?_,a1,a2⟩
    congr 1
    apply Array.toList_inj.1
    rw[e1,e2,e3]
    rfl
theorem wstep_absent(n:Int)(hn:0≤n∧n≤1000000)(l po:List A)(i:Nat)(hi:i<8)(ha:l[i]?=some (.v (.pointer none)))(nn fr dr:Int)(x y:A):
  FnM Tryz.prog gTab 5 0 (.var (wdS n l po)) [.agg [.ints .i64 4 [2,(i:Nat),nn,fr],.gen 1 [x],.ints .i64 1 [dr],.gen 1 [y]]] (.d (.v (.int .i64 13))) (.var (wdS (n+1) l po)):=by
 intro S w r vs hr hG hH hv
 cases hv with
 |cons h1 hnil=>
  cases hnil
  obtain⟨vx,vy,rfl,_,_⟩:=act_open h1
  obtain⟨ps,bs,v1,v2,t,hl,hb,hp,back⟩:=wd_open hH
  obtain⟨v,hv1,hv2⟩:=hp i _ hi ha
  obtain rfl:v=.pointer none:=hv2.plain
  refine(step_commit w r t n hn ps bs v1 v2 i hi nn fr dr vx vy hb (fun v cs w2=>v=.int .i64 13∧cs=(WL (n+1) 1 ps bs v1 v2).toArray∧w.grownBy w2 (some r)) fun w1 hb1 hg1=>?_).mono ?_
  ·refine(commit_absent w1 r t (n+1) 1 ps bs v1 v2 i hi hv1 2 nn fr dr vx vy hb1).mono ?_
   rintro e w2 ⟨rfl,hb2,hg2⟩
   exact⟨_,_,rfl,⟨rfl,rfl,grown_none hg1 hg2⟩,hb2,by rw[List.getElem?_toArray];rfl⟩
  ·rintro e w' ⟨v,cs,w2,rfl,⟨rfl,rfl,hg⟩,rfl,hb2⟩
   have hb3:Blk (w2.setCell ⟨r,1,none⟩ (.int .i32 0)) r (WL (n+1) 0 ps bs v1 v2).toArray t:=(hb2.set 1 _).copy (WL_mu _)
   have hg3:w.grownBy (w2.setCell ⟨r,1,none⟩ (.int .i32 0)) (some r):=grown_setCell hg 1 _
   exact⟨_,rfl,.v _,back _ _ _ (keeps_grown hg3) hb3,hg3⟩
end
section
open Pm
theorem wparty_M(n:Int)(l po:List A)(i:Nat)(hi:i<8)(a b:A)(ha:l[i]?=some a)(hc:FnO 20 [a] (.d b)):
  FnMO 6 0 (.var (wdS n l po)) [.v (.int .i64 (i:Nat))] (.d b) (.var (wdS n l po)):=by
 intro S w r vs hr hG hH hv
 cases hv with
 |cons h1 hnil=>
  cases hnil
  obtain rfl:=h1.plain
  obtain⟨ps,bs,v1,v2,t,hl,hb,hp,back⟩:=wd_open hH
  obtain⟨v,hv1,hv2⟩:=hp i _ hi ha
  refine(party_walk w r t n ps bs v1 v2 i hi v hv1 hb (fun v w2=>RA (fun q=>(S q∧q≠r)∨w.heap.size≤q) w2 b v) fun w1 hb1 hg1=>?_).mono ?_
  ·have kp:Keeps (fun q=>S q∧q≠r) w (fun q=>S q∧q≠r) w1:=⟨hg1.size,fun q hq hS=>⟨hS,((keeps_grown hg1).2 q hq hS).2⟩⟩
   refine(hc _ w1 [v] (hG.up kp) (.cons (hv2.up kp) .nil)).mono ?_
   rintro e w2 ⟨v',rfl,h2,h3⟩
   refine⟨v',rfl,RA.up (w:=w2) ⟨Nat.le_refl _,fun q hq h=>⟨?_,fun o=>rfl⟩⟩ h2,h3⟩
   rcases h with h|h
   ·exact .inl h
   ·exact .inr (Nat.le_trans hg1.size h)
  ·rintro e w' ⟨v',w2,rfl,h2,rfl,hb2,hg2⟩
   have hb3:Blk (w2.setCell ⟨r,1,none⟩ (.int .i32 0)) r (WL n 0 ps bs v1 v2).toArray t:=(hb2.set 1 _).copy (WL_mu _)
   have hg3:w.grownBy (w2.setCell ⟨r,1,none⟩ (.int .i32 0)) (some r):=grown_setCell hg2 1 _
   have hg4:w2.grownBy (w2.setCell ⟨r,1,none⟩ (.int .i32 0)) (some r):=grown_setCell (grown_refl w2 _) 1 _
   refine⟨_,rfl,?_,back _ _ _ (keeps_grown hg3) hb3,hg3⟩
   refine RA.up (S:=fun q=>(S q∧q≠r)∨w.heap.size≤q) ⟨hg4.size,fun q hq hS=>⟨hS,fun o=>?_⟩⟩ h2
   have hne:q≠r:=by
    rcases hS with h|h
    ·exact h.2
    ·exact fun e=>by omega
   exact((keeps_grown (S:=fun q=>True) hg4).2 q hq ⟨trivial,hne⟩).2 o
theorem below_none{a b:World}(g:a.grownBy b none):Below a.heap.size a b:=⟨g.os,g.tape,g.output,g.size,fun i hi=>g.block i hi (fun e=>by cases e)⟩
theorem wsteps0_fn:FnO 9 [.v (.pointer none)] (.d (.v (.int .i64 0))):=by
 intro S w vs hG hv
 cases hv with
 |cons h1 hnil=>
  cases hnil
  obtain rfl:=h1.plain
  refine(wsteps_nil w).mono ?_
  rintro e w' ⟨rfl,rfl⟩
  exact⟨_,rfl,.v _,below_none (grown_refl w _)⟩
theorem wparty0_fn(i:Int):FnO 6 [.v (.pointer none),.v (.int .i64 i)] (.d (.v (.pointer none))):=by
 intro S w vs hG hv
 cases hv with
 |cons h1 hv=>cases hv with
  |cons h2 hnil=>
   cases hnil
   obtain rfl:=h1.plain
   obtain rfl:=h2.plain
   refine(wparty_nil w i).mono ?_
   rintro e w' ⟨rfl,rfl⟩
   exact⟨_,rfl,.v _,below_none (grown_refl w _)⟩
theorem wstep0_fn(l:List Seg):FnO 5 [.v (.pointer none),.agg l] (.d (.v (.int .i64 1))):=by
 intro S w vs hG hv
 cases hv with
 |cons h1 hv=>cases hv with
  |cons h2 hnil=>
   cases hnil
   obtain rfl:=h1.plain
   cases h2 with
   |agg hl=>
    refine(wstep_nil w _).mono ?_
    rintro e w' ⟨rfl,hg⟩
    exact⟨_,rfl,.v _,below_none hg⟩
set_option maxRecDepth 100000 in
set_option maxHeartbeats 1000000 in
theorem wbook_nil(w:World)(i:Int):Calls Tryz.prog 7 #[.pointer none,.int .i64 i] w fun e w'=>e=.returned (.pointer none)∧w=w':=by
 go_enter_defers Tryz.func7,Tryz.ntmps7
 go_wp2
 simp[bodyPostD,Leaves,settle,results,Tryz.results7]
 done
set_option maxRecDepth 100000 in
set_option maxHeartbeats 1000000 in
theorem wpost_nil(w:World):Calls Tryz.prog 8 #[.pointer none] w fun e w'=>e=.returned (.slice none 0 0)∧w=w':=by
 go_enter_defers Tryz.func8,Tryz.ntmps8
 go_wp2
 simp[bodyPostD,Leaves,settle,results,Tryz.results8]
 done
theorem wbook0_fn(i:Int):FnO 7 [.v (.pointer none),.v (.int .i64 i)] (.d (.v (.pointer none))):=by
 intro S w vs hG hv
 cases hv with
 |cons h1 hv=>cases hv with
  |cons h2 hnil=>
   cases hnil
   obtain rfl:=h1.plain
   obtain rfl:=h2.plain
   refine(wbook_nil w i).mono ?_
   rintro e w' ⟨rfl,rfl⟩
   exact⟨_,rfl,.v _,below_none (grown_refl w _)⟩
theorem wpost0_fn:FnO 8 [.v (.pointer none)] (.d (.v (.slice none 0 0))):=by
 intro S w vs hG hv
 cases hv with
 |cons h1 hnil=>
  cases hnil
  obtain rfl:=h1.plain
  refine(wpost_nil w).mono ?_
  rintro e w' ⟨rfl,rfl⟩
  exact⟨_,rfl,.v _,below_none (grown_refl w _)⟩
end
section
open Pm
attribute [local irreducible] condK LoopA regA deriveW numB numsB wsd createP
theorem createT_ok:∀args K,createE args K→∃r,FnO 49 args r∧K r:=by
 intro args K h
 unfold createE at h
 split at h
 ·exact⟨_,fn_sref (create_fn _),h _ rfl⟩
 ·exact h.elim
noncomputable def envWo0:EnvX:=envK3.withY yTab7 yOK7 yEq7
noncomputable def envWo1:EnvX:=envWo0.add 48 newBkS newBkS_ok ⟨_,Tryz.func48,by kernel_rfl,by kernel_rfl⟩
noncomputable def envWo2:EnvX:=envWo1.add 27 wseedS (wseedS_of wseed_fn) ⟨_,Tryz.func27,by kernel_rfl,by kernel_rfl⟩
noncomputable def envWo3:EnvX:=envWo2.add 49 createE createT_ok ⟨_,Tryz.func49,by kernel_rfl,by kernel_rfl⟩
set_option maxHeartbeats 4000000 in
theorem new_fn:FnO 26 [] (.p (.var (wdS 0 (.sref (pSegs (createP (wsd 0))) 0::(nilP 7++List.replicate 8 (.sref bk0 0))) [.v (.slice none 0 0),.v (.slice none 0 0)]))):=by
 refine fnA (E:=envWo3) Tryz.func26 Tryz.ntmps26 ?_
 refine agow ?_;(try exact⟨⟩)
 refine StopL.mk (loop_unroll 9 ?_)
 refine agow ?_;(try exact⟨⟩)
 intro h hh
 obtain rfl:h=wsd 0:=hh
 refine agow ?_;(try exact⟨⟩)
 intro p hp
 rw[←hp]
 refine agow ?_;(try exact⟨⟩)
 rfl
end
section
open Pm
attribute [local irreducible] condK LoopA regA deriveW numB numsB wsd createP
theorem ra_rec1{S:Nat→Prop}{w:World}{v:Value}{l:List Seg}{z:Nat}(h0:segN l≠0)(h:RA S w (.row 1 l) v):RA S w (.recs 1 z (fun _=>l)) v:=by
 cases h with
 |row h h1 h2 h3 h4=>
  rename_i c cs a
  rcases h4 with rfl|⟨b,o,rfl,h5⟩
  ·exact absurd h.len.symm h0
  ·refine .recs (cs:=fun _=>cs) (fun j hj=>h) h1 h2 h3 (.inr ⟨b,o,rfl,fun j hj=>.inr ⟨b,o,?_,h5⟩⟩)
   obtain rfl:j=0:=by omega
   rw[Nat.zero_mul]
   rfl
def aSegs(kd who nn fr dr:Int)(n m:Nat)(ops:List Int)(bs:List UInt8):List Seg:=[.ints .i64 4 [kd,who,nn,fr],.gen 1 [.row n [.ints .i64 (n*5) ops]],.ints .i64 1 [dr],.gen 1 [.row m [.bytes m bs]]]
def actB(n m:Nat):Bool:=!decide (IntKind.i64.wrap (IntKind.i64.wrap (n:Int)+IntKind.i64.wrap ((m:Int).tdiv 100))>500)
theorem acts_rec(kd who nn fr dr:Int)(n m:Nat)(ops:List Int)(bs:List UInt8):FnO 4 [.recs 1 7 (fun _=>aSegs kd who nn fr dr n m ops bs)] (.d (.v (.bool (actB n m)))):=by
 refine fnA (E:=envWo0) Tryz.func4 Tryz.ntmps4 ?_
 unfold aSegs actB
 by_cases h:IntKind.i64.wrap (IntKind.i64.wrap (n:Int)+IntKind.i64.wrap ((m:Int).tdiv 100))>500
 ·have g1:=decide_eq_true h
  rw[g1]
  clear h
  refine agow ?_;(try exact⟨⟩)
  refine StopL.mk (loop_unroll 2 ?_)
  refine agow ?_;(try exact⟨⟩)
  rfl
 ·have g1:=decide_eq_false h
  rw[g1]
  clear h
  refine agow ?_;(try exact⟨⟩)
  refine StopL.mk (loop_unroll 2 ?_)
  refine agow ?_;(try exact⟨⟩)
  rfl
theorem acts_fn(kd who nn fr dr:Int)(n m:Nat)(ops:List Int)(bs:List UInt8):FnO 4 [.row 1 (aSegs kd who nn fr dr n m ops bs)] (.d (.v (.bool (actB n m)))):=by
 intro S w vs hG hv
 cases hv with
 |cons h1 hn=>exact acts_rec kd who nn fr dr n m ops bs S w _ hG (.cons (ra_rec1 (by unfold aSegs;simp[segN,Seg.n]) h1) hn)
def actsK:List A→(Res→Prop)→Prop
 |[.row 1 [.ints .i64 4 [kd,who,nn,fr],.gen 1 [.row n [.ints .i64 N ops]],.ints .i64 1 [dr],.gen 1 [.row m [.bytes M bs]]]],K=>N=n*5∧M=m∧∀b,b=actB n m→K (.d (.v (.bool b)))
 |_,_=>False
theorem actsK_ok:∀args K,actsK args K→∃r,FnO 4 args r∧K r:=by
 intro args K h
 unfold actsK at h
 split at h
 ·obtain⟨rfl,rfl,h⟩:=h
  exact⟨_,acts_fn _ _ _ _ _ _ _ _ _,h _ rfl⟩
 ·exact h.elim
def newWS:List A→(Res→Prop)→Prop
 |[],K=>∀p,p=createP (wsd 0)→K (.p (.var [.ints .i64 1 [0],.ints .i32 1 [0],.ints .u32 1 [0],.gen 16 (.sref (pSegs p) 0::(nilP 7++List.replicate 8 (.sref bk0 0))),.gen 2 [.v (.slice none 0 0),.v (.slice none 0 0)]]))
 |_,_=>False
theorem newWS_ok:∀args K,newWS args K→∃r,FnO 26 args r∧K r:=by
 intro args K h
 unfold newWS at h
 split at h
 ·exact⟨_,new_fn,h _ rfl⟩
 ·exact h.elim
def wdK:Bk→(Int→List A→List A→Prop)→Prop
 | .var [.ints .i64 1 [n],.ints .i32 1 [a],.ints .u32 1 [b],.gen 16 l,.gen 2 po],K=>a=0∧b=0∧0≤n∧n≤1000000∧K n l po
 |_,_=>False
theorem wdK_eq{x:Bk}{K:Int→List A→List A→Prop}(h:wdK x K):∃n l po,x=.var (wdS n l po)∧(0≤n∧n≤1000000)∧K n l po:=by
 unfold wdK at h
 split at h
 ·obtain⟨rfl,rfl,h0,h1,h⟩:=h
  exact⟨_,_,_,rfl,⟨h0,h1⟩,h⟩
 ·exact h.elim
def wstepsM:Nat→Bk→List A→(Res→Bk→Prop)→Prop
 |0,x,[],K=>wdK x fun n l po=>K (.d (.v (.int .i64 n))) (.var (wdS n l po))
 |_,_,_,_=>False
theorem wstepsM_ok:∀pos x args K,wstepsM pos x args K→∃r x',FnMO 9 pos x args r x'∧K r x':=by
 intro pos x args K h
 unfold wstepsM at h
 split at h
 ·obtain⟨n,l,po,rfl,hn,h⟩:=wdK_eq h
  exact⟨_,_,wsteps_M n hn l po,h⟩
 ·exact h.elim
theorem wstep_absI(n:Int)(hn:0≤n∧n≤1000000)(l po:List A)(i:Int)(h0:0≤i)(h1:i<8)(ha:l[i.toNat]?=some (.v (.pointer none)))(nn fr dr:Int)(x y:A):
  FnMO 5 0 (.var (wdS n l po)) [.agg [.ints .i64 4 [2,i,nn,fr],.gen 1 [x],.ints .i64 1 [dr],.gen 1 [y]]] (.d (.v (.int .i64 13))) (.var (wdS (n+1) l po)):=by
 obtain⟨j,rfl⟩:∃j:Nat,i=j:=⟨i.toNat,by omega⟩
 exact wstep_absent n hn l po j (by omega) ha nn fr dr x y
theorem wparty_I(n:Int)(l po:List A)(i:Int)(h0:0≤i)(h1:i<8)(a b:A)(ha:l[i.toNat]?=some a)(hc:FnO 20 [a] (.d b)):
  FnMO 6 0 (.var (wdS n l po)) [.v (.int .i64 i)] (.d b) (.var (wdS n l po)):=by
 obtain⟨j,rfl⟩:∃j:Nat,i=j:=⟨i.toNat,by omega⟩
 exact wparty_M n l po j (by omega) a b ha hc
def wabsM:Nat→Bk→List A→(Res→Bk→Prop)→Prop
 |0,x,[.agg [.ints .i64 4 [2,i,nn,fr],.gen 1 [y],.ints .i64 1 [dr],.gen 1 [z]]],K=>wdK x fun n l po=>0≤i∧i<8∧l[i.toNat]?=some (.v (.pointer none))∧K (.d (.v (.int .i64 13))) (.var (wdS (n+1) l po))
 |_,_,_,_=>False
theorem wabsM_ok:∀pos x args K,wabsM pos x args K→∃r x',FnMO 5 pos x args r x'∧K r x':=by
 intro pos x args K h
 unfold wabsM at h
 split at h
 ·obtain⟨n,l,po,rfl,hn,h0,h1,h2,h⟩:=wdK_eq h
  exact⟨_,_,wstep_absI n hn l po _ h0 h1 h2 _ _ _ _ _,h⟩
 ·exact h.elim
def wpartyM:Nat→Bk→List A→(Res→Bk→Prop)→Prop
 |0,x,[.v (.int .i64 i)],K=>wdK x fun n l po=>0≤i∧i<8∧match l[i.toNat]? with
  |some (.v (.pointer none))=>K (.d (.v (.pointer none))) (.var (wdS n l po))
  |some a=>prK a fun p=>K (.d (.sref (pSegs p) 0)) (.var (wdS n l po))
  |none=>False
 |_,_,_,_=>False
theorem wpartyM_ok:∀pos x args K,wpartyM pos x args K→∃r x',FnMO 6 pos x args r x'∧K r x':=by
 intro pos x args K h
 unfold wpartyM at h
 split at h
 ·obtain⟨n,l,po,rfl,hn,h0,h1,h⟩:=wdK_eq h
  split at h
  ·next e=>exact⟨_,_,wparty_I n l po _ h0 h1 _ _ e copy0_fn,h⟩
  ·next a _ e=>
   obtain⟨p,rfl,h⟩:=prK_eq h
   exact⟨_,_,wparty_I n l po _ h0 h1 _ _ e (fn_sref (copy_fn p)),h⟩
  ·exact h.elim
 ·exact h.elim
noncomputable def envWp0:EnvX:=envWo0.add 26 newWS newWS_ok ⟨_,Tryz.func26,by kernel_rfl,by kernel_rfl⟩
noncomputable def envWp1:EnvX:=envWp0.addM 5 wabsM wabsM_ok ⟨_,Tryz.func5,by kernel_rfl,by kernel_rfl⟩
noncomputable def envWp2:EnvX:=envWp1.addM 9 wstepsM wstepsM_ok ⟨_,Tryz.func9,by kernel_rfl,by kernel_rfl⟩
noncomputable def envWp3:EnvX:=envWp2.addM 6 wpartyM wpartyM_ok ⟨_,Tryz.func6,by kernel_rfl,by kernel_rfl⟩
noncomputable def envWp4:EnvX:=envWp3.add 27 wseedS (wseedS_of wseed_fn) ⟨_,Tryz.func27,by kernel_rfl,by kernel_rfl⟩
noncomputable def envWp5:EnvX:=envWp4.add 28 wseedS (wseedS_of rwseed_fn) ⟨_,Tryz.func28,by kernel_rfl,by kernel_rfl⟩
end
section
theorem wp_guard(P:Program)(o:Oper)(g:Option (Nat×Bool))(a:Act)(w:World)(n:Act→World→Prop)(Q:Exit→Act→World→Prop):Oper.wp P { o with guard:=g } a w n Q=Oper.wp P o a w n Q:=by
 cases o
 unfold Oper.wp Oper.upon execOp
 rfl
theorem opok_guard{E:EnvX}{o:Oper}{g:Option (Nat×Bool)}{s:St}{fr:Nat}{t:T}{blk:Option (Nat×Bk)}(h:OpOK E { o with guard:=g } s fr t blk):OpOK E o s fr t blk:=
 ⟨h.1,h.2.1,fun S base w0 s' ρ a w K Q h1 h2 h3 h4 h5=>(wp_guard E.P o g a w K Q)▸h.2.2 S base w0 s' ρ a w K Q h1 h2 h3 h4 h5⟩
theorem GL.guard{E:EnvX}{ops r:List Oper}{o:Oper}{s:St}{k:St→Prop}(j d:Nat)(hg:o.guard=some (j,true))(hd:(ops[j]?).bind (·.dst)=some d)(hs:s.sl d=.d (.v (.bool true)))
  (h:Stop (regA E ops [{ o with guard:=none }] s fun s'=>GL E ops r s' k)):GL E ops (o::r) s k:=by
 refine⟨fun S base w0 ρ a w g=>?_⟩
 have hw:Wants ops o s true:=by unfold Wants;rw[hg];exact⟨d,_,hd,hs,by simp[boolOf]⟩
 rcases mutK_sound h.out with⟨_,hm⟩|h
 ·unfold wpList
  rw[hw.real g (fun _ _ _ _ _=>rfl),if_pos rfl]
  refine .inl (wp_guard E.P o none a w _ _▸hm S base w0 ρ a w _ _ g fun s' a' w' ρ' hk g'=>?_)
  have hk':GL E ops r s' k:=hk.out
  exact hk'.out S base w0 ρ' a' w' g'
 ·obtain⟨t,blk,hk,hs⟩:=stepK_sound h
  have hk':GL E ops r (s.app2 o.dst t blk) k:=hk.out
  have hs':StepOK E ops o s s.h.length t blk:=by
   rcases hs with⟨_,ho⟩|⟨hf,_⟩
   ·exact .inl ⟨hw,opok_guard ho⟩
   ·exact absurd hf (by unfold Wants;simp)
  unfold wpList
  refine hs'.run (s':=⟨s.t,s.h++List.replicate 1 none⟩) (ρ:=ρ) (a:=a) (w:=w) (fun x hx=>⟨by cases x<;>rfl,fun b _=>bk_more s 1 b⟩) (fun _ _ _ _ _=>rfl) (g.sim (Sim.more s 1)) ?_ (by simp) fun a' w' ρ' g'=>?_
  ·rw[bk_more]
   unfold St.bk
   rw[List.getD_eq_getElem?_getD,List.getElem?_eq_none (Nat.le_refl _)];rfl
  ·exact hk'.out _ _ _ _ _ _ (g'.simBack app2_sim)
end
section
open Pm
attribute [local irreducible] condK LoopA regA deriveW numB numsB wsd createP
set_option maxHeartbeats 4000000 in
theorem wknown_fn:FnO 10 [] (.d (.v (.bool true))):=by
 refine fnGW (E:=envWp5) Tryz.func10 Tryz.ntmps10 ?_
 refine GW.seq (GW.of ?_)
 refine agow ?_;(try exact⟨⟩)
 refine GW.seq (GW.of ?_)
 refine agow ?_;(try exact⟨⟩)
 intro p hp
 clear hp
 refine agow ?_;(try exact⟨⟩)
 refine GW.seq (GW.region (GL.preN 5 ?_))
 refine agow ?_;(try exact⟨⟩)
 refine GL.guard 2 5 rfl rfl rfl ?_
 refine agow ?_;(try exact⟨⟩)
 refine GL.preN 4 ?_
 refine agow ?_;(try exact⟨⟩)
 refine GL.guard 8 11 rfl rfl rfl ?_
 refine agow ?_;(try exact⟨⟩)
 refine GL.preN 4 ?_
 refine agow ?_;(try exact⟨⟩)
 refine GL.guard 13 16 rfl rfl rfl ?_
 refine agow ?_;(try exact⟨⟩)
 refine GL.preN 4 ?_
 refine agow ?_;(try exact⟨⟩)
 refine GL.guard 18 21 rfl rfl rfl ?_
 refine agow ?_;(try exact⟨⟩)
 refine GL.of (Stop.out ?_)
 refine agow ?_;(try exact⟨⟩)
 intro h hh
 refine agow ?_;(try exact⟨⟩)
 intro h' hh'
 obtain rfl:h'=h:=hh'.trans hh.symm
 clear hh hh'
 have q:eqSegs [Seg.bytes 32 h'] [Seg.bytes 32 h']=true:=by simp[eqSegs]
 refine agow ?_;(try exact⟨⟩)
 refine GW.of ?_
 refine agow ?_;(try exact⟨⟩)
 rw[q]
end
section
open Pm Go.ChangeShapes
theorem row_lenA{S:Nat→Prop}{w:World}{n m:Nat}{zs:List Int}{v:Value}(h:RA S w (.row n [.ints .i64 m zs]) v):zs.length=m:=by
 cases h with
 |row h=>cases h with
  |ints h _=>exact h
theorem oneVA{l:List Value}{i:Nat}{v:Value}(h:l[i]?=some v):(l.drop i).take 1=[v]:=by
 obtain⟨hlt,hg⟩:=List.getElem?_eq_some_iff.1 h
 rw[List.drop_eq_getElem_cons hlt,hg];rfl
theorem one_ofA{zs:List Int}(h:zs.length=1):∃a,zs=[a]:=by
 rcases zs with _|⟨a,_|⟨b,l⟩⟩<;>first|(simp at h;done)|exact⟨a,rfl⟩
structure AcS where
 kd:Int
 who:Int
 nn:Int
 fr:Int
 dr:Int
 n:Nat
 m:Nat
 ops:List Int
 bs:List UInt8
abbrev AcS.segs(a:AcS):List Seg:=aSegs a.kd a.who a.nn a.fr a.dr a.n a.m a.ops a.bs
structure AcAll(a:AcS):Prop where
 n:a.n≤140737488351232
 m:a.m≤140737488351232
 ops:a.ops.length=a.n*5
 bs:a.bs.length=a.m
set_option maxHeartbeats 1000000 in
theorem open_act{H:Type}{enc:TypeId×Value→H}{w:World}{base b0:Nat}{held:Bool}{r:Reach}{v:Value}{d:DataW H}{ps:List MemPlace}
  (hval:Value.okWide Tryz.prog w r b0 25 v)(h:DataW.Trod enc Tryz.prog w base (fun _=>true) held 25 v d ps)(hlt:∀n∈d.weights Tryz.prog 25,n≤140737488351232):
  ∃a:AcS,AcAll a∧RA (fun _=>True) w (.agg a.segs) v:=by
 unfold Value.okWide at hval
 rw[Tryz.underlying25]at hval
 obtain⟨ar,rfl,hsz,hok⟩:=hval
 rw[show Tryz.prog.cellsOf 25=7 by kernel_rfl]at hsz
 obtain⟨cs,rfl⟩:∃l:List Value,ar=l.toArray:=⟨ar.toList,by simp⟩
 obtain⟨fuel,hf⟩:=h
 have hlen:cs.length=7:=by simpa using hsz
 rw[show(Value.agg cs.toArray).cells.toList=cs by simp[Value.cells]]at hf
 have hN:(Tryz.prog.cellTypes Tryz.prog.depth 25).map (·.length)=some 7:=by kernel_rfl
 obtain⟨k0,w0⟩:=fld_kinds hf hlt (i:=0) (off:=0) (n:=1) (u:=3) (sg:=List.replicate 1 (some .i64)) (by kernel_rfl) (by kernel_rfl) (by kernel_rfl) rfl (by omega)
 obtain⟨k1,w1⟩:=fld_kinds hf hlt (i:=1) (off:=1) (n:=1) (u:=3) (sg:=List.replicate 1 (some .i64)) (by kernel_rfl) (by kernel_rfl) (by kernel_rfl) rfl (by omega)
 obtain⟨k2,w2⟩:=fld_kinds hf hlt (i:=2) (off:=2) (n:=1) (u:=3) (sg:=List.replicate 1 (some .i64)) (by kernel_rfl) (by kernel_rfl) (by kernel_rfl) rfl (by omega)
 obtain⟨k3,w3⟩:=fld_kinds hf hlt (i:=3) (off:=3) (n:=1) (u:=3) (sg:=List.replicate 1 (some .i64)) (by kernel_rfl) (by kernel_rfl) (by kernel_rfl) rfl (by omega)
 obtain⟨k5,w5⟩:=fld_kinds hf hlt (i:=5) (off:=5) (n:=1) (u:=3) (sg:=List.replicate 1 (some .i64)) (by kernel_rfl) (by kernel_rfl) (by kernel_rfl) rfl (by omega)
 obtain⟨v4,hv4⟩:∃v,cs[4]?=some v:=⟨_,List.getElem?_eq_getElem (by omega)⟩
 obtain⟨v6,hv6⟩:∃v,cs[6]?=some v:=⟨_,List.getElem?_eq_getElem (by omega)⟩
 obtain⟨o4,d4,q4,t4,g4⟩:=fld_slice hf hlt hok hN (i:=4) (off:=4) (by omega) hv4 (u:=22) (by kernel_rfl) (by kernel_rfl) (by kernel_rfl) Tryz.underlying22
 obtain⟨o6,d6,q6,t6,g6⟩:=fld_slice hf hlt hok hN (i:=6) (off:=6) (by omega) hv6 (u:=23) (by kernel_rfl) (by kernel_rfl) (by kernel_rfl) Tryz.underlying23
 obtain⟨n,ops,hn,r4⟩:=open_flats (P:=Tryz.prog) (e:=151) (K:=5) (by kernel_rfl) (by kernel_rfl) (by omega) (by kernel_rfl) o4 t4 g4
 obtain⟨a6,l6,c6,bs,rfl,r6⟩:=open_bytes Tryz.underlying23 Tryz.underlying5 (by kernel_rfl) (by kernel_rfl) o6 t6 g6
 obtain⟨z0,y0,l0,_⟩:=kinds_ints k0 w0
 obtain⟨z1,y1,l1,_⟩:=kinds_ints k1 w1
 obtain⟨z2,y2,l2,_⟩:=kinds_ints k2 w2
 obtain⟨z3,y3,l3,_⟩:=kinds_ints k3 w3
 obtain⟨z5,y5,l5,_⟩:=kinds_ints k5 w5
 have sp:∀a b,cs.drop a=(cs.drop a).take b++cs.drop (a+b):=fun a b=>by rw[←List.drop_drop,List.take_append_drop]
 have l61:cs.drop 6=(cs.drop 6).take 1:=(List.take_of_length_le (by simp[hlen])).symm
 have e:cs=(cs.drop 0).take 1++((cs.drop 1).take 1++((cs.drop 2).take 1++((cs.drop 3).take 1++((cs.drop 4).take 1++((cs.drop 5).take 1++(cs.drop 6).take 1))))):=by
  rw[←l61,←sp 5 1,←sp 4 1,←sp 3 1,←sp 2 1,←sp 1 1,←sp 0 1]
  rfl
 rw[y0,y1,y2,y3,y5,oneVA hv4,oneVA hv6]at e
 obtain⟨e0,rfl⟩:=one_ofA l0
 obtain⟨e1,rfl⟩:=one_ofA l1
 obtain⟨e2,rfl⟩:=one_ofA l2
 obtain⟨e3,rfl⟩:=one_ofA l3
 obtain⟨e5,rfl⟩:=one_ofA l5
 refine⟨⟨e0,e1,e2,e3,e5,n,bs.length,ops,bs⟩,⟨hn,?_,row_lenA r4,rfl⟩,?_⟩
 ·show bs.length≤_
  rw[←r6.row.len_eq]
  have:=r6.le;have:=r6.small;omega
 ·rw[e]
  have R4:v4.oneCell'=true:=by cases r4;rfl
  exact .agg (.ints (zs:=[e0,e1,e2,e3]) rfl (.gen (vs:=[v4]) (.cons r4 R4 .nil) rfl (.ints (zs:=[e5]) rfl (.gen (vs:=[_]) (.cons (ra_arg8 r6) rfl .nil) rfl .nil))))
end
section
open Pm
attribute [local irreducible] condK LoopA regA deriveW numB numsB wsd createP actB
def nilI(r:Res):List A→(Res→Prop)→Prop
 |[.v (.pointer none),.v (.int .i64 i)],K=>K r
 |_,_=>False
def nilO(r:Res):List A→(Res→Prop)→Prop
 |[.v (.pointer none)],K=>K r
 |_,_=>False
def nilG(r:Res):List A→(Res→Prop)→Prop
 |[.v (.pointer none),.agg l],K=>K r
 |_,_=>False
theorem nilI_of{f:FuncId}{r:Res}(h:∀i,FnO f [.v (.pointer none),.v (.int .i64 i)] r):∀args K,nilI r args K→∃r,FnO f args r∧K r:=by
 intro args K hk
 unfold nilI at hk
 split at hk
 ·exact⟨_,h _,hk⟩
 ·exact hk.elim
theorem nilO_of{f:FuncId}{r:Res}(h:FnO f [.v (.pointer none)] r):∀args K,nilO r args K→∃r,FnO f args r∧K r:=by
 intro args K hk
 unfold nilO at hk
 split at hk
 ·exact⟨_,h,hk⟩
 ·exact hk.elim
theorem nilG_of{f:FuncId}{r:Res}(h:∀l,FnO f [.v (.pointer none),.agg l] r):∀args K,nilG r args K→∃r,FnO f args r∧K r:=by
 intro args K hk
 unfold nilG at hk
 split at hk
 ·exact⟨_,h _,hk⟩
 ·exact hk.elim
def wkS:List A→(Res→Prop)→Prop
 |[],K=>K (.d (.v (.bool true)))
 |_,_=>False
theorem wkS_ok:∀args K,wkS args K→∃r,FnO 10 args r∧K r:=by
 intro args K h
 unfold wkS at h
 split at h
 ·exact⟨_,wknown_fn,h⟩
 ·exact h.elim
noncomputable def envWq0:EnvX:={ envWo0 with fz:=true }
noncomputable def envWq1:EnvX:=envWq0.add 4 actsK actsK_ok ⟨_,Tryz.func4,by kernel_rfl,by kernel_rfl⟩
noncomputable def envWq2:EnvX:=envWq1.add 10 wkS wkS_ok ⟨_,Tryz.func10,by kernel_rfl,by kernel_rfl⟩
noncomputable def envWq3:EnvX:=envWq2.add 5 (nilG (.d (.v (.int .i64 1)))) (nilG_of wstep0_fn) ⟨_,Tryz.func5,by kernel_rfl,by kernel_rfl⟩
noncomputable def envWq4:EnvX:=envWq3.add 9 (nilO (.d (.v (.int .i64 0)))) (nilO_of wsteps0_fn) ⟨_,Tryz.func9,by kernel_rfl,by kernel_rfl⟩
noncomputable def envWq5:EnvX:=envWq4.add 6 (nilI (.d (.v (.pointer none)))) (nilI_of wparty0_fn) ⟨_,Tryz.func6,by kernel_rfl,by kernel_rfl⟩
noncomputable def envWq6:EnvX:=envWq5.add 7 (nilI (.d (.v (.pointer none)))) (nilI_of wbook0_fn) ⟨_,Tryz.func7,by kernel_rfl,by kernel_rfl⟩
noncomputable def envWq7:EnvX:=envWq6.add 8 (nilO (.d (.v (.slice none 0 0)))) (nilO_of wpost0_fn) ⟨_,Tryz.func8,by kernel_rfl,by kernel_rfl⟩
set_option maxHeartbeats 4000000 in
theorem worldOfNothing_ok(a:AcS)(i:Int):FnO 3 [.agg a.segs,.v (.int .i64 i)] (.d (.v (.bool true))):=by
 refine fnA (E:=envWq7) Tryz.func3 Tryz.ntmps3 ?_
 unfold AcS.segs aSegs
 refine agow ?_;(try exact⟨⟩)
 intro b hb
 clear hb
 cases b
 ·refine agow ?_;(try exact⟨⟩)
 ·refine agow ?_;(try exact⟨⟩)
theorem worldOfNothing_walk{w:World}(v:Value)(a:AcS)(hv:AcAll a)(hr:RA (fun _=>True) w (.agg a.segs) v)(i:Int)(hi:(Lit.int .i64 i).wf=true)(hG:GOK gTab (fun _=>True) w):
  Calls Tryz.prog 3 #[v,.int .i64 i] w fun e w'=>e=.returned (.bool true)∧Below w.heap.size w w':=
 law_of_fn (worldOfNothing_ok a i) hG (.cons hr (.cons (.v _) .nil))
end
end Go.Proofs.YtefgbmdmmhkeaaaGreatDoor
namespace Go.Proofs.YtefgbmdmmhkeaaaGreatDoor.lawWorldOfNothing
open Go.ChangeShapes Go.WideShapes Go.ChangeAt Go.RowKit
open Go.ChangeMaps (open_string shut_string)
set_option linter.unusedVariables false
theorem own:ownKnob Tryz.prog.godebug=none:=by kernel_rfl
theorem laidOut:laidOutB Tryz.prog=true:=by kernel_rfl
set_option maxRecDepth 100000 in
theorem lifted (os : Os) (started : os.Started) (H : Type) (enc : TypeId × Value → H) :
    ReturnsInHanded {} Tryz.checked os 3 .any (fun w args => (Rows.worldOfNothingSpec.pre enc Tryz.prog Tryz.f3 [] false w args ∧ laidMetH Tryz.prog laid2 w) ∧ sizedMet enc Tryz.prog Tryz.f3 (OpenSpec.ofChange Rows.worldOfNothingSpec) false w args)
      (Rows.worldOfNothingSpec.post enc Tryz.prog Tryz.f3 false true false false) := by
  refine returnsInHanded_of_change_and (C := Tryz.checked) (X := fun w _ => laidMetH Tryz.prog laid2 w) (fun _ _ _ hh h => h.of_heap hh) own started (by kernel_rfl) Tryz.func3
    (ChangeSpec.witness_shaped (enc := enc) (C := Tryz.checked) (os := os) (X := fun w _ => laidMetH Tryz.prog laid2 w) false (World.doorLaid Tryz.prog 19 os) #[(.agg #[.int .i64 0, .int .i64 0, .int .i64 0, .int .i64 0, .slice none 0 0, .int .i64 0, .slice none 0 0]), .int .i64 0] 8 rfl (World.shaped_of_RefB (by kernel_rfl) (by kernel_rfl)) (by kernel_rfl) (by kernel_rfl) (by kernel_rfl) (door_met os _)) ?_
  intro W base args ds gs before hval0 hW hcnd hsz0 hL _
  have hsz : (DataW.weightsEach Tryz.prog (Tryz.f3.params.toList ++ Rows.worldOfNothingSpec.plain.varTypes Tryz.prog) (ds ++ gs)).all (· ≤ reachBytes) = true := hsz0
  have hval : ∀ (j : Nat) t v, Tryz.f3.params[j]? = some t → args[j]? = some v → Value.okWide Tryz.prog W .any base t v := hval0
  have hW' := hW
  obtain ⟨p, q, hA0, hV, rfl, hfz, hnd⟩ := hW
  have hA : DataW.TrodAll enc Tryz.prog W 0 (fun _ => true) true Tryz.f3.params.toList args.toList ds p := hA0
  rw [Tryz.params3] at hA hval hsz
  obtain ⟨v0, vs0, d0, ds0, p0, q0, hargs, rfl, rfl, h0, r0⟩ := trodAll_cons hA
  obtain ⟨v1, vs1, d1, ds1, p1, q1, rfl, rfl, rfl, h1, r1⟩ := trodAll_cons r0
  obtain ⟨rfl, rfl, rfl⟩ := trodAll_nil r1
  obtain rfl : args = #[v0, v1] := by cases args; simp_all
  obtain ⟨rfl, rfl⟩ := trodVars_none hV
  have k0 := h0
  have lt0 : ∀ x ∈ p0, x.block < W.heap.size := by obtain ⟨m, hm⟩ := k0; exact DataW.trod_lt m _ _ _ hm
  obtain ⟨c0, w0, rr0⟩ := open_act (hval 0 25 v0 rfl rfl) h0 (light hsz 0 rfl rfl)
  have k1 := h1
  have lt1 : ∀ x ∈ p1, x.block < W.heap.size := by obtain ⟨m, hm⟩ := k1; exact DataW.trod_lt m _ _ _ hm
  obtain ⟨a1, rfl, rfl, rfl, w1⟩ := open_int Tryz.underlying3 (hval 1 3 v1 rfl rfl) h1
  clear hA0 hval0
  refine (worldOfNothing_walk v0 c0 w0 rr0 a1 w1 (w := W) (gok_of_laid hL)).mono fun e W' ⟨he, bel⟩ => ?_
  subst he
  exact ⟨_, rfl, _, _, _, [], _, [], hW', trodAll_mk1 (shut_bool Tryz.underlying4 _), (trodAll_cons_mk (Below.trod laidOut (by kernel_rfl) (of_decide_eq_true (by kernel_rfl)) k0 bel lt0) (trodAll_cons_mk (Below.trod laidOut (by kernel_rfl) (of_decide_eq_true (by kernel_rfl)) k1 bel lt1) trodAll_mk0)), rfl, bel.frame _, fun h => by cases h⟩
theorem over:Rows.worldOfNothingRow.holds Tryz.pinned (OpenSpec.ofChange Rows.worldOfNothingSpec):=
 OpenClaim.holds_of_wide 3 Tryz.f3 rfl rfl rfl rfl rfl rfl rfl ⟨rfl,rfl,rfl,rfl,rfl⟩ rfl rfl rfl rfl rfl (by kernel_rfl) Tryz.func3 (by kernel_rfl)
  (of_decide_eq_true (by kernel_rfl)) (by unfold Func.isWrapper;first|(rw[if_pos (by decide+kernel)];kernel_rfl)|(rw[if_neg (by decide+kernel)];exact⟨rfl,rfl⟩))
  (fun os started H enc _=>lifted os started H enc)
theorem proved:Rows.WorldOfNothingCardSaid:=
 Claim7.holds_tied_plain_at .later [] [.data,.data] true _ false
  over (fun _ h=>by cases h) (by kernel_rfl) (fun _ h=>by cases h) worldOfNothing_row_tie rfl ⟨rfl,rfl⟩ (by kernel_rfl) rfl
  (fun f fn hf hfn=>by
   obtain rfl:f=3:=Option.some.inj ((show Tryz.prog.funcNamed "curia/curialaw14.WorldOfNothing"=some 3 by kernel_rfl).symm.trans hf) |>.symm
   obtain rfl:fn=Tryz.f3:=(Option.some.inj (Tryz.func3.symm.trans hfn)).symm
   exact⟨by kernel_rfl,fun j t ht=>by
    rw[Tryz.params3]at ht
    have hm:t∈[25,3]:=by simpa using Array.mem_of_getElem? ht
    have hall:([25,3].all fun u=>!Tryz.prog.wantsStandIn u)=true:=by kernel_rfl
    exact(show Tryz.prog.wantsStandIn t=false by simpa using List.all_eq_true.1 hall t hm)⟩)
  (by kernel_rfl)
end Go.Proofs.YtefgbmdmmhkeaaaGreatDoor.lawWorldOfNothing
