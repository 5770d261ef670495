/- -/
import Derived.Test.YtegalalmamofdaaGreatDoorKWorldGrowsc
import Derived.Test.YtegalalmamofdaaGreatDoorKWorldGrows
import Derived.WalkSpells
namespace Go.Proofs.YtegalalmamofdaaGreatDoor
set_option linter.all false
set_option maxRecDepth 100000
open Go.RowKit
set_option maxHeartbeats 8000000
variable{mu s f:Int}{po v x:Value}{w w':World}{r n sz:Nat}{t e:TypeId}{S D:Nat->Prop}{o:Oper}{ops:List Oper}{Q:Exit->Act->World->Prop}{K:Act->World->Prop}{a:Act}{cs:List Value}{p:List UInt8}
section
open Pm
theorem ZE(a:Addr)(x:Int)(w:World)(hc:w.cell? a=some (.int .i64 x)):
  Calls Tryz.prog 58 #[.pointer (some a)] w fun e w'=>e=.returned (.int .i64 x)/\w=w':=by
 have hl:=run_call_load (P:=Tryz.prog) Tryz.func100 (by kernel_rfl) (by kernel_rfl) (by kernel_rfl) .i64 (by kernel_rfl) hc
 go_enter Tryz.func58,Tryz.ntmps58
 go_wp2
 go_ret
 exact⟨rfl,rfl⟩
theorem Im(a:Addr)(x:Int)(hx:0<=x/\x<=1000000)(w:World)(hc:w.cell? a=some (.int .i64 x))(hz:w.frozen? a=false):
  Calls Tryz.prog 24 #[.pointer (some a),.int .i64 1] w fun e w'=>(∃y,e=.returned y)/\w'=w.setCell a (.int .i64 (x+1)):=by
 have hwr:RowKit.wrap64 (x+1)=x+1:=IntWalk.wrap64_in _ (by omega)
 have hwi:IntKind.i64.wrap (x+1)=x+1:=gH (by omega) (by omega)
 clear hx
 have hadd:=run_call_add (P:=Tryz.prog) Tryz.func44 (by kernel_rfl) (by kernel_rfl) (by kernel_rfl) .i64 (by kernel_rfl) (y:=1) (s:=x+1) hc hz (by simp[go_sem,hwr,hwi])
 go_enter Tryz.func24,Tryz.ntmps24
 go_wp2
 go_ret
 exact⟨⟨_,rfl⟩,rfl⟩
end
section
open Pm
def WL(n mu:Int)(ps bs:List Value)(po ap:Value):List Value:=.int .i64 n::.int .i32 mu::.int .u32 0::(ps++(bs++[po,ap]))
theorem EP{n mu:Int}{ps bs:List Value}{po ap:Value}(m:Int):(WL n mu ps bs po ap).toArray.setIfInBounds 1 (.int .i32 m)=(WL n m ps bs po ap).toArray:=by
 rw[List.setIfInBounds_toArray];rfl
theorem bp1{n mu:Int}{ps bs:List Value}{po ap:Value}(m:Int):(WL n mu ps bs po ap).toArray.setIfInBounds 0 (.int .i64 m)=(WL m mu ps bs po ap).toArray:=by
 rw[List.setIfInBounds_toArray];rfl
theorem bL9{n mu:Int}{ps bs:List Value}{po ap:Value}{i:Nat}(hi:ps[i]?=some v):(WL n mu ps bs po ap).toArray[3+i]?=some v:=by
 rw[List.getElem?_toArray,show 3+i=i+3 by omega]
 show(ps++(bs++[po,ap]))[i]?=_
 rw[List.getElem?_append_left (List.getElem?_eq_some_iff.1 hi).1]
 exact hi
theorem OC(i:Int)(w:World):Calls Tryz.prog 25 #[.int .i64 i] w fun e w'=>e=.returned (.bool (decide (0<=i/\i<8)))/\w=w':=by
 by_cases h0:0<=i
 ·by_cases h1:i<8
  ·rw[decide_eq_true ⟨h0,h1⟩]
   have g0:i>=0:=h0
   go_enter Tryz.func25,Tryz.ntmps25
   go_wp2
   go_ret
   exact⟨rfl,rfl⟩
  ·rw[decide_eq_false (fun h=>h1 h.2)]
   have g0:i>=0:=h0
   go_enter Tryz.func25,Tryz.ntmps25
   go_wp2
   go_ret
   exact⟨rfl,rfl⟩
 ·rw[decide_eq_false (fun h=>h0 h.1)]
  have g0:¬i>=0:=h0
  go_enter Tryz.func25,Tryz.ntmps25
  go_wp2
  go_ret
  exact⟨rfl,rfl⟩
theorem uK{i:Nat}(hi:i<8)(w:World):Calls Tryz.prog 25 #[.int .i64 (i:Nat)] w fun e w'=>e=.returned (.bool true)/\w=w':=
 (OC _ _).mono fun e w' ⟨h1,h2⟩=>⟨by rw[h1,decide_eq_true (show 0<=(i:Int)/\(i:Int)<8 from⟨by omega,by omega⟩)],h2⟩
theorem Gw(w:World)(r:Nat)(t:TypeId)(n:Int)(ps bs:List Value)(po ap:Value)(i:Nat)(hi:i<8)(pv:Value)(hp:ps[i]?=some pv)(hb:aM w r (WL n 0 ps bs po ap).toArray t)(Q:Value->World->Prop)
  (hcopy:∀w1,aM w1 r (WL n 1 ps bs po ap).toArray t->w.grownBy w1 (some r)->Calls Tryz.prog 34 #[pv] w1 fun e w2=>∃v,e=.returned v/\Q v w2/\Below w1.heap.size w1 w2):
  Calls Tryz.prog 11 #[.pointer (some ⟨r,0,none⟩),.int .i64 (i:Nat)] w fun e w'=>∃v w2,e=.returned v/\Q v w2/\w'=w2.setCell ⟨r,1,none⟩ (.int .i32 0)/\aM w2 r (WL n 1 ps bs po ap).toArray t/\w.grownBy w2 (some r):=by
 have hb1:aM (w.setCell ⟨r,1,none⟩ (.int .i32 1)) r (WL n 1 ps bs po ap).toArray t:=(hb.set 1 _).copy (EP 1)
 have hg1:w.grownBy (w.setCell ⟨r,1,none⟩ (.int .i32 1)) (some r):=ay (bH w _) 1 _
 have c1:w.cell? ⟨r,1,none⟩=some (.int .i32 0):=(hb.cell 1).trans (by rw[List.getElem?_toArray];rfl)
 have c2:(w.setCell ⟨r,1,none⟩ (.int .i32 1)).cell? ⟨r,3+i,none⟩=some pv:=(hb1.cell (3+i)).trans (bL9 hp)
 have i0:¬(i:Int)<0:=by omega
 have i1:(i:Int)<8:=by omega
 have HB:=yHd hb;have HB1:=yHd hb1;have KY:=yHd hg1;have C1:=yHd c1;have HC:=yHd hcopy
 clear hb hb1 hg1 hcopy c1 hp
 go_enter_defers Tryz.func11,Tryz.ntmps11
 go_wp2_with (first|(go_at_call 25;refine(uK hi _).mono ?_;rintro e w' ⟨rfl,rfl⟩)|(go_at_call 26;refine(lock_free ⟨r,1,none⟩ _ C1.out (HB.out.frozen 1)).mono ?_;rintro e w' ⟨rfl,rfl⟩)|(go_at_call 34;refine(HC.out _ HB1.out KY.out).mono ?_;rintro e w' ⟨v,rfl,hq,hbel⟩))
 have hb2:=HB1.out.keep hbel
 have c3:w'.cell? ⟨r,1,none⟩=some (.int .i32 1):=(hb2.cell 1).trans (by rw[List.getElem?_toArray];rfl)
 have hbw:w.grownBy w' (some r):=jw KY.out hbel
 refine leaves_cons (f:=27) (args:=#[.pointer (some ⟨r,1,none⟩)]) (by simp) (by simp[go_sem]) ?_
 refine(unlock_deferred ⟨r,1,none⟩ _ _ c3 (hb2.frozen 1)).mono ?_
 rintro e u' w4 ⟨rfl,rfl,hw4⟩
 simp[Leaves,settle,results,Tryz.results11]
 exact⟨w',hq,hw4,hb2,hbw⟩
end
section
open Pm
abbrev AC(kd who nn fr:Int)(ops:Value)(dr:Int)(lg:Value):Array Value:=#[.int .i64 kd,.int .i64 who,.int .i64 nn,.int .i64 fr,ops,.int .i64 dr,lg]
theorem World.nL{o:Obj}{cs:Array Value}(h:aM w r cs t):aM (w.alloc o) r cs t:=(Below.heap_alloc _ _ _ h.lt).trans h
theorem DU(w:World)(r:Nat)(t:TypeId)(n:Int)(hn:0<=n/\n<=1000000)(ps bs:List Value)(po ap:Value)(i:Nat)(hi:i<8)(nn fr dr:Int)(ops lg:Value)(hb:aM w r (WL n 0 ps bs po ap).toArray t)(Q:Value->Array Value->World->Prop)
  (hsub:∀w1,aM w1 r (WL (n+1) 1 ps bs po ap).toArray t->w.grownBy w1 (some r)->Calls Tryz.prog 29 #[.pointer (some ⟨r,0,none⟩),.agg (AC 2 (i:Nat) nn fr ops dr lg)] w1 fun e w2=>∃v cs t',e=.returned v/\Q v cs w2/\aM w2 r cs t'/\cs[1]?=some (.int .i32 1)):
  Calls Tryz.prog 9 #[.pointer (some ⟨r,0,none⟩),.agg (AC 2 (i:Nat) nn fr ops dr lg)] w fun e w'=>∃v cs w2 t',e=.returned v/\Q v cs w2/\w'=w2.setCell ⟨r,1,none⟩ (.int .i32 0)/\aM w2 r cs t':=by
 have b0:aM (w.alloc (.cells (AC 2 (i:Nat) nn fr ops dr lg) 37)) r (WL n 0 ps bs po ap).toArray t:=World.nL hb
 have a0:aM (w.alloc (.cells (AC 2 (i:Nat) nn fr ops dr lg) 37)) w.heap.size (AC 2 (i:Nat) nn fr ops dr lg) 37:=aM.newAt _ _ rfl
 have g0:w.grownBy (w.alloc (.cells (AC 2 (i:Nat) nn fr ops dr lg) 37)) (some r):=⟨rfl,rfl,rfl,by rw[size_alloc];omega,fun k hk _=>Below.heap_alloc _ _ _ hk⟩
 have hne:r≠w.heap.size:=by have:=hb.lt;omega
 have b1:aM ((w.alloc (.cells (AC 2 (i:Nat) nn fr ops dr lg) 37)).setCell ⟨r,0,none⟩ (.int .i64 (n+1))) r (WL (n+1) 0 ps bs po ap).toArray t:=(b0.set 0 _).copy (bp1 _)
 have a1:aM ((w.alloc (.cells (AC 2 (i:Nat) nn fr ops dr lg) 37)).setCell ⟨r,0,none⟩ (.int .i64 (n+1))) w.heap.size (AC 2 (i:Nat) nn fr ops dr lg) 37:=a0.other ⟨r,0,none⟩ _ hne.symm
 have g1:w.grownBy ((w.alloc (.cells (AC 2 (i:Nat) nn fr ops dr lg) 37)).setCell ⟨r,0,none⟩ (.int .i64 (n+1))) (some r):=ay g0 0 _
 have b2:aM (((w.alloc (.cells (AC 2 (i:Nat) nn fr ops dr lg) 37)).setCell ⟨r,0,none⟩ (.int .i64 (n+1))).setCell ⟨r,1,none⟩ (.int .i32 1)) r (WL (n+1) 1 ps bs po ap).toArray t:=(b1.set 1 _).copy (EP _)
 have a2:aM (((w.alloc (.cells (AC 2 (i:Nat) nn fr ops dr lg) 37)).setCell ⟨r,0,none⟩ (.int .i64 (n+1))).setCell ⟨r,1,none⟩ (.int .i32 1)) w.heap.size (AC 2 (i:Nat) nn fr ops dr lg) 37:=a1.other ⟨r,1,none⟩ _ hne.symm
 have g2:w.grownBy (((w.alloc (.cells (AC 2 (i:Nat) nn fr ops dr lg) 37)).setCell ⟨r,0,none⟩ (.int .i64 (n+1))).setCell ⟨r,1,none⟩ (.int .i32 1)) (some r):=ay g1 1 _
 have c0:(w.alloc (.cells (AC 2 (i:Nat) nn fr ops dr lg) 37)).cell? ⟨r,0,none⟩=some (.int .i64 n):=(b0.cell 0).trans (by rw[List.getElem?_toArray];rfl)
 have c1:((w.alloc (.cells (AC 2 (i:Nat) nn fr ops dr lg) 37)).setCell ⟨r,0,none⟩ (.int .i64 (n+1))).cell? ⟨r,1,none⟩=some (.int .i32 0):=(b1.cell 1).trans (by rw[List.getElem?_toArray];rfl)
 have k1:((w.alloc (.cells (AC 2 (i:Nat) nn fr ops dr lg) 37)).setCell ⟨r,0,none⟩ (.int .i64 (n+1))).cell? ⟨w.heap.size,1,none⟩=some (.int .i64 (i:Nat)):=a1.cell 1
 have k2:(((w.alloc (.cells (AC 2 (i:Nat) nn fr ops dr lg) 37)).setCell ⟨r,0,none⟩ (.int .i64 (n+1))).setCell ⟨r,1,none⟩ (.int .i32 1)).cell? ⟨w.heap.size,0,none⟩=some (.int .i64 2):=a2.cell 0
 have HS:=yHd hsub;have HN:=yHd hn;have B0:=yHd b0;have B1:=yHd b1;have B2:=yHd b2;have A2:=yHd a2;have G2:=yHd g2;have C0:=yHd c0;have C1:=yHd c1
 clear hb hsub hn b0 a0 g0 b1 a1 g1 b2 a2 g2 c0 c1
 go_enter_defers Tryz.func9,Tryz.ntmps9
 go_wp2_with (first|(go_at_call 24;refine(Im ⟨r,0,none⟩ n HN.out _ C0.out (B0.out.frozen 0)).mono ?_;rintro e w' ⟨⟨y,rfl⟩,rfl⟩)|(go_at_call 25;refine(uK hi _).mono ?_;rintro e w' ⟨rfl,rfl⟩)|(go_at_call 26;refine(lock_free ⟨r,1,none⟩ _ C1.out (B1.out.frozen 1)).mono ?_;rintro e w' ⟨rfl,rfl⟩)|(go_at_call 29;refine(HS.out _ B2.out G2.out).mono ?_;rintro e w' ⟨v,cs,t',rfl,hq,hb3,hc3⟩))
 refine leaves_cons (f:=27) (args:=#[.pointer (some ⟨r,1,none⟩)]) (by simp) (by simp[go_sem]) ?_
 refine(unlock_deferred ⟨r,1,none⟩ _ _ ((hb3.cell 1).trans hc3) (hb3.frozen 1)).mono ?_
 rintro e u' w4 ⟨rfl,rfl,hw4⟩
 simp[Leaves,settle,results,Tryz.results9]
 exact⟨cs,w',hq,hw4,t',hb3⟩
end
section
open Pm
theorem IU(w:World)(r:Nat)(t:TypeId)(n mu:Int)(ps bs:List Value)(po ap:Value)(i:Nat)(hi:i<8)(hp:ps[i]?=some (.pointer none))(kd nn fr dr:Int)(ops lg:Value)(hb:aM w r (WL n mu ps bs po ap).toArray t):
  Calls Tryz.prog 29 #[.pointer (some ⟨r,0,none⟩),.agg (AC kd (i:Nat) nn fr ops dr lg)] w fun e w'=>e=.returned (.int .i64 13)/\aM w' r (WL n mu ps bs po ap).toArray t/\w.grownBy w' none:=by
 have b0:aM (w.alloc (.cells (AC kd (i:Nat) nn fr ops dr lg) 37)) r (WL n mu ps bs po ap).toArray t:=World.nL hb
 have a0:aM (w.alloc (.cells (AC kd (i:Nat) nn fr ops dr lg) 37)) w.heap.size (AC kd (i:Nat) nn fr ops dr lg) 37:=aM.newAt _ _ rfl
 have g0:w.grownBy (w.alloc (.cells (AC kd (i:Nat) nn fr ops dr lg) 37)) none:=⟨rfl,rfl,rfl,by rw[size_alloc];omega,fun k hk _=>Below.heap_alloc _ _ _ hk⟩
 have k1:(w.alloc (.cells (AC kd (i:Nat) nn fr ops dr lg) 37)).cell? ⟨w.heap.size,1,none⟩=some (.int .i64 (i:Nat)):=a0.cell 1
 have k2:(w.alloc (.cells (AC kd (i:Nat) nn fr ops dr lg) 37)).cell? ⟨r,3+i,none⟩=some (.pointer none):=(b0.cell (3+i)).trans (bL9 hp)
 have i0:0<=(i:Int):=by omega
 have i1:(i:Int)<8:=by omega
 have B0:=yHd b0;have G0:=yHd g0
 clear hb b0 a0 g0 hp
 go_enter Tryz.func29,Tryz.ntmps29
 go_wp2_with fail
 refine dW 7 (by kernel_rfl) (by kernel_rfl) ?_
 repeat still_step
 refine wpStill_nil ?_
 go_wp2
 go_ret
 exact⟨rfl,B0.out.drew,lW G0.out⟩
end
section
open Pm
theorem Zg(w:World)(r:Nat)(t:TypeId)(n:Int)(hn:0<=n/\n<=1000000)(ps bs:List Value)(po ap:Value)(i:Nat)(hi:i<8)(nn fr dr:Int)(ops lg:Value)(hb:aM w r (WL n 0 ps bs po ap).toArray t)(Q:Value->Array Value->World->Prop)
  (hsub:∀w1,aM w1 r (WL (n+1) 1 ps bs po ap).toArray t->w.grownBy w1 (some r)->Calls Tryz.prog 28 #[.pointer (some ⟨r,0,none⟩),.agg (AC 1 (i:Nat) nn fr ops dr lg)] w1 fun e w2=>∃v cs t',e=.returned v/\Q v cs w2/\aM w2 r cs t'/\cs[1]?=some (.int .i32 1)):
  Calls Tryz.prog 9 #[.pointer (some ⟨r,0,none⟩),.agg (AC 1 (i:Nat) nn fr ops dr lg)] w fun e w'=>∃v cs w2 t',e=.returned v/\Q v cs w2/\w'=w2.setCell ⟨r,1,none⟩ (.int .i32 0)/\aM w2 r cs t':=by
 have b0:aM (w.alloc (.cells (AC 1 (i:Nat) nn fr ops dr lg) 37)) r (WL n 0 ps bs po ap).toArray t:=World.nL hb
 have a0:aM (w.alloc (.cells (AC 1 (i:Nat) nn fr ops dr lg) 37)) w.heap.size (AC 1 (i:Nat) nn fr ops dr lg) 37:=aM.newAt _ _ rfl
 have g0:w.grownBy (w.alloc (.cells (AC 1 (i:Nat) nn fr ops dr lg) 37)) (some r):=⟨rfl,rfl,rfl,by rw[size_alloc];omega,fun k hk _=>Below.heap_alloc _ _ _ hk⟩
 have hne:r≠w.heap.size:=by have:=hb.lt;omega
 have b1:aM ((w.alloc (.cells (AC 1 (i:Nat) nn fr ops dr lg) 37)).setCell ⟨r,0,none⟩ (.int .i64 (n+1))) r (WL (n+1) 0 ps bs po ap).toArray t:=(b0.set 0 _).copy (bp1 _)
 have a1:aM ((w.alloc (.cells (AC 1 (i:Nat) nn fr ops dr lg) 37)).setCell ⟨r,0,none⟩ (.int .i64 (n+1))) w.heap.size (AC 1 (i:Nat) nn fr ops dr lg) 37:=a0.other ⟨r,0,none⟩ _ hne.symm
 have g1:w.grownBy ((w.alloc (.cells (AC 1 (i:Nat) nn fr ops dr lg) 37)).setCell ⟨r,0,none⟩ (.int .i64 (n+1))) (some r):=ay g0 0 _
 have b2:aM (((w.alloc (.cells (AC 1 (i:Nat) nn fr ops dr lg) 37)).setCell ⟨r,0,none⟩ (.int .i64 (n+1))).setCell ⟨r,1,none⟩ (.int .i32 1)) r (WL (n+1) 1 ps bs po ap).toArray t:=(b1.set 1 _).copy (EP _)
 have a2:aM (((w.alloc (.cells (AC 1 (i:Nat) nn fr ops dr lg) 37)).setCell ⟨r,0,none⟩ (.int .i64 (n+1))).setCell ⟨r,1,none⟩ (.int .i32 1)) w.heap.size (AC 1 (i:Nat) nn fr ops dr lg) 37:=a1.other ⟨r,1,none⟩ _ hne.symm
 have g2:w.grownBy (((w.alloc (.cells (AC 1 (i:Nat) nn fr ops dr lg) 37)).setCell ⟨r,0,none⟩ (.int .i64 (n+1))).setCell ⟨r,1,none⟩ (.int .i32 1)) (some r):=ay g1 1 _
 have c0:(w.alloc (.cells (AC 1 (i:Nat) nn fr ops dr lg) 37)).cell? ⟨r,0,none⟩=some (.int .i64 n):=(b0.cell 0).trans (by rw[List.getElem?_toArray];rfl)
 have c1:((w.alloc (.cells (AC 1 (i:Nat) nn fr ops dr lg) 37)).setCell ⟨r,0,none⟩ (.int .i64 (n+1))).cell? ⟨r,1,none⟩=some (.int .i32 0):=(b1.cell 1).trans (by rw[List.getElem?_toArray];rfl)
 have k1:((w.alloc (.cells (AC 1 (i:Nat) nn fr ops dr lg) 37)).setCell ⟨r,0,none⟩ (.int .i64 (n+1))).cell? ⟨w.heap.size,1,none⟩=some (.int .i64 (i:Nat)):=a1.cell 1
 have k2:(((w.alloc (.cells (AC 1 (i:Nat) nn fr ops dr lg) 37)).setCell ⟨r,0,none⟩ (.int .i64 (n+1))).setCell ⟨r,1,none⟩ (.int .i32 1)).cell? ⟨w.heap.size,0,none⟩=some (.int .i64 1):=a2.cell 0
 have HS:=yHd hsub;have HN:=yHd hn;have B0:=yHd b0;have B1:=yHd b1;have B2:=yHd b2;have A2:=yHd a2;have G2:=yHd g2;have C0:=yHd c0;have C1:=yHd c1
 clear hb hsub hn b0 a0 g0 b1 a1 g1 b2 a2 g2 c0 c1
 go_enter_defers Tryz.func9,Tryz.ntmps9
 go_wp2_with (first|(go_at_call 24;refine(Im ⟨r,0,none⟩ n HN.out _ C0.out (B0.out.frozen 0)).mono ?_;rintro e w' ⟨⟨y,rfl⟩,rfl⟩)|(go_at_call 25;refine(uK hi _).mono ?_;rintro e w' ⟨rfl,rfl⟩)|(go_at_call 26;refine(lock_free ⟨r,1,none⟩ _ C1.out (B1.out.frozen 1)).mono ?_;rintro e w' ⟨rfl,rfl⟩)|(go_at_call 28;refine(HS.out _ B2.out G2.out).mono ?_;rintro e w' ⟨v,cs,t',rfl,hq,hb3,hc3⟩))
 refine leaves_cons (f:=27) (args:=#[.pointer (some ⟨r,1,none⟩)]) (by simp) (by simp[go_sem]) ?_
 refine(unlock_deferred ⟨r,1,none⟩ _ _ ((hb3.cell 1).trans hc3) (hb3.frozen 1)).mono ?_
 rintro e u' w4 ⟨rfl,rfl,hw4⟩
 simp[Leaves,settle,results,Tryz.results9]
 exact⟨cs,w',hq,hw4,t',hb3⟩
theorem step_take(w:World)(r:Nat)(t:TypeId)(n:Int)(hn:0<=n/\n<=1000000)(ps bs:List Value)(po ap:Value)(i:Nat)(hi:i<8)(nn fr dr:Int)(ops lg:Value)(hb:aM w r (WL n 0 ps bs po ap).toArray t)(Q:Value->Array Value->World->Prop)
  (hsub:∀w1,aM w1 r (WL (n+1) 1 ps bs po ap).toArray t->w.grownBy w1 (some r)->Calls Tryz.prog 30 #[.pointer (some ⟨r,0,none⟩),.agg (AC 3 (i:Nat) nn fr ops dr lg)] w1 fun e w2=>∃v cs t',e=.returned v/\Q v cs w2/\aM w2 r cs t'/\cs[1]?=some (.int .i32 1)):
  Calls Tryz.prog 9 #[.pointer (some ⟨r,0,none⟩),.agg (AC 3 (i:Nat) nn fr ops dr lg)] w fun e w'=>∃v cs w2 t',e=.returned v/\Q v cs w2/\w'=w2.setCell ⟨r,1,none⟩ (.int .i32 0)/\aM w2 r cs t':=by
 have b0:aM (w.alloc (.cells (AC 3 (i:Nat) nn fr ops dr lg) 37)) r (WL n 0 ps bs po ap).toArray t:=World.nL hb
 have a0:aM (w.alloc (.cells (AC 3 (i:Nat) nn fr ops dr lg) 37)) w.heap.size (AC 3 (i:Nat) nn fr ops dr lg) 37:=aM.newAt _ _ rfl
 have g0:w.grownBy (w.alloc (.cells (AC 3 (i:Nat) nn fr ops dr lg) 37)) (some r):=⟨rfl,rfl,rfl,by rw[size_alloc];omega,fun k hk _=>Below.heap_alloc _ _ _ hk⟩
 have hne:r≠w.heap.size:=by have:=hb.lt;omega
 have b1:aM ((w.alloc (.cells (AC 3 (i:Nat) nn fr ops dr lg) 37)).setCell ⟨r,0,none⟩ (.int .i64 (n+1))) r (WL (n+1) 0 ps bs po ap).toArray t:=(b0.set 0 _).copy (bp1 _)
 have a1:aM ((w.alloc (.cells (AC 3 (i:Nat) nn fr ops dr lg) 37)).setCell ⟨r,0,none⟩ (.int .i64 (n+1))) w.heap.size (AC 3 (i:Nat) nn fr ops dr lg) 37:=a0.other ⟨r,0,none⟩ _ hne.symm
 have g1:w.grownBy ((w.alloc (.cells (AC 3 (i:Nat) nn fr ops dr lg) 37)).setCell ⟨r,0,none⟩ (.int .i64 (n+1))) (some r):=ay g0 0 _
 have b2:aM (((w.alloc (.cells (AC 3 (i:Nat) nn fr ops dr lg) 37)).setCell ⟨r,0,none⟩ (.int .i64 (n+1))).setCell ⟨r,1,none⟩ (.int .i32 1)) r (WL (n+1) 1 ps bs po ap).toArray t:=(b1.set 1 _).copy (EP _)
 have a2:aM (((w.alloc (.cells (AC 3 (i:Nat) nn fr ops dr lg) 37)).setCell ⟨r,0,none⟩ (.int .i64 (n+1))).setCell ⟨r,1,none⟩ (.int .i32 1)) w.heap.size (AC 3 (i:Nat) nn fr ops dr lg) 37:=a1.other ⟨r,1,none⟩ _ hne.symm
 have g2:w.grownBy (((w.alloc (.cells (AC 3 (i:Nat) nn fr ops dr lg) 37)).setCell ⟨r,0,none⟩ (.int .i64 (n+1))).setCell ⟨r,1,none⟩ (.int .i32 1)) (some r):=ay g1 1 _
 have c0:(w.alloc (.cells (AC 3 (i:Nat) nn fr ops dr lg) 37)).cell? ⟨r,0,none⟩=some (.int .i64 n):=(b0.cell 0).trans (by rw[List.getElem?_toArray];rfl)
 have c1:((w.alloc (.cells (AC 3 (i:Nat) nn fr ops dr lg) 37)).setCell ⟨r,0,none⟩ (.int .i64 (n+1))).cell? ⟨r,1,none⟩=some (.int .i32 0):=(b1.cell 1).trans (by rw[List.getElem?_toArray];rfl)
 have k1:((w.alloc (.cells (AC 3 (i:Nat) nn fr ops dr lg) 37)).setCell ⟨r,0,none⟩ (.int .i64 (n+1))).cell? ⟨w.heap.size,1,none⟩=some (.int .i64 (i:Nat)):=a1.cell 1
 have k2:(((w.alloc (.cells (AC 3 (i:Nat) nn fr ops dr lg) 37)).setCell ⟨r,0,none⟩ (.int .i64 (n+1))).setCell ⟨r,1,none⟩ (.int .i32 1)).cell? ⟨w.heap.size,0,none⟩=some (.int .i64 3):=a2.cell 0
 have HS:=yHd hsub;have HN:=yHd hn;have B0:=yHd b0;have B1:=yHd b1;have B2:=yHd b2;have A2:=yHd a2;have G2:=yHd g2;have C0:=yHd c0;have C1:=yHd c1
 clear hb hsub hn b0 a0 g0 b1 a1 g1 b2 a2 g2 c0 c1
 go_enter_defers Tryz.func9,Tryz.ntmps9
 go_wp2_with (first|(go_at_call 24;refine(Im ⟨r,0,none⟩ n HN.out _ C0.out (B0.out.frozen 0)).mono ?_;rintro e w' ⟨⟨y,rfl⟩,rfl⟩)|(go_at_call 25;refine(uK hi _).mono ?_;rintro e w' ⟨rfl,rfl⟩)|(go_at_call 26;refine(lock_free ⟨r,1,none⟩ _ C1.out (B1.out.frozen 1)).mono ?_;rintro e w' ⟨rfl,rfl⟩)|(go_at_call 30;refine(HS.out _ B2.out G2.out).mono ?_;rintro e w' ⟨v,cs,t',rfl,hq,hb3,hc3⟩))
 refine leaves_cons (f:=27) (args:=#[.pointer (some ⟨r,1,none⟩)]) (by simp) (by simp[go_sem]) ?_
 refine(unlock_deferred ⟨r,1,none⟩ _ _ ((hb3.cell 1).trans hc3) (hb3.frozen 1)).mono ?_
 rintro e u' w4 ⟨rfl,rfl,hw4⟩
 simp[Leaves,settle,results,Tryz.results9]
 exact⟨cs,w',hq,hw4,t',hb3⟩
end
section
open Pm
def bk0:List Seg:=[.ints .i32 1 [0],.ints .u32 1 [0],.gen 1 [.v (.slice none 0 0)],.ints .i64 2 [0,0]]
attribute [local irreducible] aN aQ bq aD aC aF
theorem SQ:aV 16 [] (.d (.sref bk0 0)):=by
 refine uH (eO (E:=sV) Tryz.func16 Tryz.ntmps16 ?_)
 refine ah ?_;(try exact⟨⟩)
 rfl
def SN:List A->(bC->Prop)->Prop
 |[],K=>K (.d (.sref bk0 0))
 |_,_=>False
theorem Yn:∀args K,SN args K->∃r,aV 16 args r/\K r:=by
 intro args K h
 unfold SN at h
 split at h
 ·exact⟨_,SQ,h⟩
 ·exact h.elim
def qU(i:Int):List UInt8:=aD (zB 32) (sb ⟨#[115,101,101,100]⟩) (aC i)
theorem BH(i:Int):aV 18 [.v (.int .i64 i)] (.d (.agg [.bytes 32 (qU i)])):=by
 refine eO (E:=ah4) Tryz.func18 Tryz.ntmps18 ?_
 refine ah ?_;(try exact⟨⟩)
 rfl
theorem Kv(i:Int):aV 8 [.v (.int .i64 i)] (.d (.agg [.bytes 32 (qU i)])):=by
 refine eO (E:=ah5) Tryz.func8 Tryz.ntmps8 ?_
 have hl:(aC i).length<=100000000:=by rw[fE];decide
 refine ah ?_;(try exact⟨⟩)
 rfl
def xG:List A->(bC->Prop)->Prop
 |[.v (.int .i64 i)],K=>∀h,h=qU i->K (.d (.agg [.bytes 32 h]))
 |_,_=>False
theorem qy{f:FuncId}(hf:∀i,aV f [.v (.int .i64 i)] (.d (.agg [.bytes 32 (qU i)]))):∀args K,xG args K->∃r,aV f args r/\K r:=by
 intro args K h
 unfold xG at h
 split at h
 ·exact⟨_,hf _,h _ rfl⟩
 ·exact h.elim
end
section
open Pm
def KQ(n:Int)(l:List A)(po:List A):List Seg:=[.ints .i64 1 [n],.ints .i32 1 [0],.ints .u32 1 [0],.gen 16 l,.gen 2 po]
theorem RG.two:∀{l:List A} {cs:List Value},RG S w l cs->l.length=cs.length
 |_,_,.nil=>rfl
 |_,_,.cons _ _ r=>by rw[List.length_cons,List.length_cons,r.two]
theorem RG.at':∀{l:List A} {cs:List Value},RG S w l cs->∀(i:Nat) (a:A),l[i]?=some a->∃v,cs[i]?=some v/\RA S w a v
 |_,_,.nil,i,a,e=>by cases e
 |_,_,.cons h1 _ r,0,a,e=>by cases e;exact⟨_,rfl,h1⟩
 |_,_,.cons _ _ r,i+1,a,e=>r.at' i a e
theorem M0{n:Int}{l po:List A}(h:HB D w r (.var (KQ n l po))):∃ps bs v1 v2 t,ps.length=8/\aM w r (WL n 0 ps bs v1 v2).toArray t/\(∀i a,i<8->l[i]?=some a->∃v,ps[i]?=some v/\RA D w a v)/\
  ∀(D':Nat->Prop) (w':World) (n':Int) {t':TypeId},Keeps D w D' w'->aM w' r (WL n' 0 ps bs v1 v2).toArray t'->HB D' w' r (.var (KQ n' l po)):=by
 obtain⟨cs,t,h1,h2⟩:=h
 unfold KQ at h2
 obtain⟨c1,d1,e1,k1,r1,_⟩:=h2.head
 obtain⟨c2,d2,e2,k2,r2,_⟩:=r1.head
 obtain⟨c3,d3,e3,k3,r3,_⟩:=r2.head
 obtain⟨c4,d4,e4,k4,r4,l4⟩:=r3.head
 obtain⟨_,rfl⟩:=k1.fB
 obtain⟨_,rfl⟩:=k2.fB
 obtain⟨_,rfl⟩:=k3.fB
 obtain⟨g4,q4⟩:=k4.gB
 obtain⟨g5,q5⟩:=r4.gB
 have bB8:c4.length=16:=q4.two.symm.trans g4
 have cu0:d4.length=2:=q5.two.symm.trans g5
 obtain⟨v1,v2,rfl⟩:∃a b,d4=[a,b]:=by
  rcases d4 with _|⟨a,_|⟨b,_|⟨c,x⟩⟩⟩<;>first|(simp at cu0;done)|exact⟨a,b,rfl⟩
 have ec:cs=WL n 0 (c4.take 8) (c4.drop 8) v1 v2:=by
  rw[e1,e2,e3,e4]
  unfold WL
  rw[<-List.append_assoc (c4.take 8),List.take_append_drop]
  rfl
 refine⟨c4.take 8,c4.drop 8,v1,v2,t,by simp[bB8],by rw[ec]at h1;exact h1,fun i a hi ha=>?_,fun D' w' n' {t'} kp hb=>⟨_,t',hb,?_⟩⟩
 ·obtain⟨v,x1,x2⟩:=q4.at' i a ha
  exact⟨v,by rw[List.getElem?_take,if_pos hi];exact x1,x2⟩
 ·have u4:=RL.up kp k4
  have u5:=RL.up kp r4
  have e:WL n' 0 (c4.take 8) (c4.drop 8) v1 v2=[.int .i64 n']++([.int .i32 0]++([.int .u32 0]++(c4++[v1,v2]))):=by
   unfold WL
   rw[<-List.append_assoc (c4.take 8),List.take_append_drop]
   rfl
  rw[e]
  unfold KQ
  obtain⟨_,p4⟩:=u4.gB
  obtain⟨_,p5⟩:=u5.gB
  have q:=RL.ints (k:=.i64) (n:=1) (zs:=[n']) rfl (RL.ints (k:=.i32) (n:=1) (zs:=[0]) rfl (RL.ints (k:=.u32) (n:=1) (zs:=[0]) rfl (RL.gen p4 g4 (RL.gen p5 g5 .nil))))
  rw[List.append_nil]at q
  exact q
end
section
open Pm
theorem oI(g:w.grownBy w' (some r)):Keeps (fun q=>S q/\q≠r) w (fun q=>(S q\/w.heap.size<=q)/\q≠r) w':=
 ⟨g.size,fun b hb hS=>⟨⟨.inl hS.1,hS.2⟩,fun o=>by
  have e:w'.heap[b]?=w.heap[b]?:=g.block b hb (fun e=>hS.2 (by cases e;rfl))
  unfold World.cell?
  rw[e]⟩⟩
theorem Sd{a b c:World}(h:a.grownBy b (some r))(k:b.grownBy c none):a.grownBy c (some r):=
 gQ h ⟨k.os,k.tape,k.output,k.size,fun q hq _=>k.block q hq (fun e=>by cases e)⟩
theorem QG(w:World)(r:Nat)(t:TypeId)(n:Int)(ps bs:List Value)(po ap:Value)(hb:aM w r (WL n 0 ps bs po ap).toArray t)(hn:0<=n/\n<=1000000):
  Calls Tryz.prog 33 #[.pointer (some ⟨r,0,none⟩)] w fun e w'=>e=.returned (.int .i64 n)/\w=w':=by
 have c0:w.cell? ⟨r,0,none⟩=some (.int .i64 n):=(hb.cell 0).trans (by rw[List.getElem?_toArray];rfl)
 have C0:=yHd c0
 have hw:IntKind.i64.wrap n=n:=gH (by omega) (by omega)
 clear hb hn c0
 go_enter Tryz.func33,Tryz.ntmps33
 go_wp2_with (go_at_call 58;refine(ZE ⟨r,0,none⟩ n _ C0.out).mono ?_;rintro e w' ⟨rfl,rfl⟩)
 go_ret
 exact⟨rfl,rfl⟩
theorem aI7(n:Int)(hn:0<=n/\n<=1000000)(l po:List A):QK Tryz.prog gTab 33 0 (.var (KQ n l po)) [] (.d (.v (.int .i64 n))) (.var (KQ n l po)):=by
 intro S w r vs hr hG hH hv
 cases hv
 obtain⟨ps,bs,v1,v2,t,hl,hb,_,back⟩:=M0 hH
 refine(QG w r t n ps bs v1 v2 hb hn).mono ?_
 rintro e w' ⟨rfl,rfl⟩
 exact⟨_,rfl,.v _,HB.up (oI (bH w (some r))) rfl hH,bH w _⟩
theorem aa0{kd who nn fr dr:Int}{x y:A}(h:RA D w (.agg [.ints .i64 4 [kd,who,nn,fr],.gen 1 [x],.ints .i64 1 [dr],.gen 1 [y]]) v):∃vx vy,v=.agg (AC kd who nn fr vx dr vy)/\RA D w x vx/\RA D w y vy:=by
 cases h with
 |agg hl=>
  rename_i cs
  obtain⟨c1,d1,e1,k1,r1,_⟩:=hl.head
  obtain⟨c2,d2,e2,k2,r2,_⟩:=r1.head
  obtain⟨c3,d3,e3,k3,r3,_⟩:=r2.head
  obtain⟨_,rfl⟩:=k1.fB
  obtain⟨_,rfl⟩:=k3.fB
  obtain⟨_,q2⟩:=k2.gB
  obtain⟨_,q4⟩:=r3.gB
  cases q2 with
  |cons a1 _ n1=>
   cases n1
   cases q4 with
   |cons a2 _ n2=>
    cases n2
    refine⟨_,_,?_,a1,a2⟩
    congr 1
    apply Array.toList_inj.1
    rw[e1,e2,e3]
    rfl
theorem Nb(n:Int)(hn:0<=n/\n<=1000000)(l po:List A)(i:Nat)(hi:i<8)(ha:l[i]?=some (.v (.pointer none)))(nn fr dr:Int)(x y:A):
  QK Tryz.prog gTab 9 0 (.var (KQ n l po)) [.agg [.ints .i64 4 [2,(i:Nat),nn,fr],.gen 1 [x],.ints .i64 1 [dr],.gen 1 [y]]] (.d (.v (.int .i64 13))) (.var (KQ (n+1) l po)):=by
 intro S w r vs hr hG hH hv
 cases hv with
 |cons h1 hnil=>
  cases hnil
  obtain⟨vx,vy,rfl,_,_⟩:=aa0 h1
  obtain⟨ps,bs,v1,v2,t,hl,hb,hp,back⟩:=M0 hH
  obtain⟨v,hv1,hv2⟩:=hp i _ hi ha
  obtain rfl:v=.pointer none:=hv2.plain
  refine(DU w r t n hn ps bs v1 v2 i hi nn fr dr vx vy hb (fun v cs w2=>v=.int .i64 13/\cs=(WL (n+1) 1 ps bs v1 v2).toArray/\w.grownBy w2 (some r)) fun w1 hb1 hg1=>?_).mono ?_
  ·refine(IU w1 r t (n+1) 1 ps bs v1 v2 i hi hv1 2 nn fr dr vx vy hb1).mono ?_
   rintro e w2 ⟨rfl,hb2,hg2⟩
   exact⟨_,_,_,rfl,⟨rfl,rfl,Sd hg1 hg2⟩,hb2,by rw[List.getElem?_toArray];rfl⟩
  ·rintro e w' ⟨v,cs,w2,t',rfl,⟨rfl,rfl,hg⟩,rfl,hb2⟩
   have hb3:aM (w2.setCell ⟨r,1,none⟩ (.int .i32 0)) r (WL (n+1) 0 ps bs v1 v2).toArray t':=(hb2.set 1 _).copy (EP _)
   have hg3:w.grownBy (w2.setCell ⟨r,1,none⟩ (.int .i32 0)) (some r):=ay hg 1 _
   exact⟨_,rfl,.v _,back _ _ _ (oI hg3) hb3,hg3⟩
end
section
theorem QD(P:Program)(o:Oper)(g:Option (Nat×Bool))(a:Act)(w:World)(n:Act->World->Prop)(Q:Exit->Act->World->Prop):Oper.wp P { o with guard:=g } a w n Q=Oper.wp P o a w n Q:=by
 cases o
 unfold Oper.wp Oper.upon execOp
 rfl
theorem Tz{E:ak}{g:Option (Nat×Bool)}{s:St}{fr:Nat}{t:T}{blk:Option (Nat×Bk)}(h:cO E { o with guard:=g } s fr t blk):cO E o s fr t blk:=
 ⟨h.1,h.2.1,fun S base w0 s' ρ a w K Q h1 h2 h3 h4 h5=>(QD E.P o g a w K Q)▸h.2.2 S base w0 s' ρ a w K Q h1 h2 h3 h4 h5⟩
theorem GL.guard{E:ak}{ops r:List Oper}{s:St}{k:St->Prop}(j d:Nat)(hg:o.guard=some (j,true))(hd:(ops[j]?).bind (·.dst)=some d)(hs:s.sl d=.d (.v (.bool true)))
  (h:Stop (bq E ops [{ o with guard:=none }] s fun s'=>GL E ops r s' k)):GL E ops (o::r) s k:=by
 refine⟨fun S base w0 ρ a w g=>?_⟩
 have hw:sN ops o s true:=by unfold sN;rw[hg];exact⟨d,_,hd,hs,by simp[Ld]⟩
 rcases zx h.out with⟨_,hm⟩|h
 ·unfold wpList
  rw[hw.real g (fun _ _ _ _ _=>rfl),if_pos rfl]
  refine .inl (QD E.P o none a w _ _▸hm S base w0 ρ a w _ _ g fun s' a' w' ρ' hk g'=>?_)
  have hk':GL E ops r s' k:=hk.out
  exact hk'.out S base w0 ρ' a' w' g'
 ·obtain⟨t,blk,hk,hs⟩:=rX h
  have hk':GL E ops r (s.qW o.dst t blk) k:=hk.out
  have hs':wm E ops o s s.h.length t blk:=by
   rcases hs with⟨_,ho⟩|⟨hf,_⟩
   ·exact .inl ⟨hw,Tz ho⟩
   ·exact absurd hf (by unfold sN;simp)
  unfold wpList
  refine hs'.run (s':=⟨s.t,s.h++List.replicate 1 none⟩) (ρ:=ρ) (a:=a) (w:=w) (fun x hx=>⟨by cases x<;>rfl,fun b _=>jA s 1 b⟩) (fun _ _ _ _ _=>rfl) (g.sim (U2.more s 1)) ?_ (by simp) fun a' w' ρ' g'=>?_
  ·rw[jA]
   unfold St.bk
   rw[yGd,List.getElem?_eq_none (yLr _)];rfl
  ·exact hk'.out _ _ _ _ _ _ (g'.yx wD)
end
section
structure GX(E:ak)(S:Nat->Prop)(base:Nat)(w0:W0 E.G)(c:Code)(s:St)(Q:Exit->Act->World->Prop):Prop where
 out:∀(ρ:Nat->Option Value) (a:Act) (w:World),Good S base w0 s ρ a w->c.wp E.P Q a w
structure BJ(E:ak)(S:Nat->Prop)(base:Nat)(w0:W0 E.G)(ops l:List Oper)(s:St)(K:Act->World->Prop):Prop where
 out:∀(ρ:Nat->Option Value) (a:Act) (w:World),Good S base w0 s ρ a w->wpList E.P ops.toArray (fun e a' w'=>e=.normal/\K a' w') l a w
structure GQ(E:ak)(S:Nat->Prop)(base:Nat)(w0:W0 E.G)(s:St)(K:Act->World->Prop):Prop where
 out:∀(ρ:Nat->Option Value) (a:Act) (w:World),Good S base w0 s ρ a w->K a w
section
variable {E : ak} {S : Nat -> Prop} {base : Nat} {w0 : W0 E.G} {s : St}
theorem wO{E:ak}{base:Nat}{w0:W0 E.G}{c:Code}{s s':St}(h:GX E S base w0 c s' Q)(e:s=s':=by exact nm):GX E S base w0 c s Q:=e▸h
theorem gxm{E:ak}{base:Nat}{w0:W0 E.G}{ops l:List Oper}{s s':St}(h:BJ E S base w0 ops l s' K)(e:s=s':=by exact nm):BJ E S base w0 ops l s K:=e▸h
theorem GX.of{c:Code}(h:IG E c s fun e s'=>GQ E S base w0 s' (Q e)):GX E S base w0 c s Q:=by
 refine⟨fun ρ a w g=>wp_mono (iD c h g) ?_⟩
 rintro e a' w' ⟨s',ρ',h1,h2⟩
 exact h1.out _ _ _ h2
theorem GX.seq{x y:Code}(h:IG E x s fun e s'=>match e with| .normal=>GX E S base w0 y s' Q|e=>GQ E S base w0 s' (Q e)):GX E S base w0 (.seq x y) s Q:=by
 refine⟨fun ρ a w g=>wp_seq (wp_mono (iD x h g) ?_)⟩
 rintro e a' w' ⟨s',ρ',h1,h2⟩
 cases e with
 |normal=>exact GX.out h1 _ _ _ h2
 |_=>exact GQ.out h1 _ _ _ h2
theorem GX.nT{x y:Code}(h:∀y',y'=y->IG E x s fun e s'=>match e with| .normal=>GX E S base w0 y' s' Q|e=>GQ E S base w0 s' (Q e)):GX E S base w0 (.seq x y) s Q:=.seq (h y rfl)
theorem GX.region{id:Nat}{ops:Array Oper}{y:Code}(h:BJ E S base w0 ops.toList ops.toList s (fun a w=>y.wp E.P Q a w)):GX E S base w0 (.seq (.region id ops false) y) s Q:=by
 refine⟨fun ρ a w g=>wp_seq (wp_mono (wp_region_list (by have:=h.out ρ a w g;rwa [Array.toArray_toList]at this)) ?_)⟩
 rintro e a' w' ⟨rfl,hk⟩
 exact hk
theorem BJ.I4(n:Nat){ops l:List Oper}(h:Stop (bq E ops (l.take n) s fun s'=>BJ E S base w0 ops (l.drop n) s' K)):BJ E S base w0 ops l s K:=by
 refine⟨fun ρ a w g=>?_⟩
 have:=az8 (r:=l.drop n) (fun s ρ a w hj g=>BJ.out hj ρ a w g) h.out g
 rwa [List.take_append_drop]at this
theorem BJ.last{ops l:List Oper}{y:Code}(h:Stop (bq E ops l s fun s'=>GX E S base w0 y s' Q)):BJ E S base w0 ops l s (fun a w=>y.wp E.P Q a w):=by
 refine⟨fun ρ a w g=>?_⟩
 have:=az8 (r:=[]) (Q:=fun e a' w'=>e=.normal/\y.wp E.P Q a' w') (fun s ρ a w hj g=>⟨rfl,GX.out hj ρ a w g⟩) h.out g
 rwa [List.append_nil]at this
theorem BJ.hand{ops r:List Oper}(hg:o.guard=none)
  (h:∀(ρ:Nat->Option Value) (a:Act) (w:World) (next:Act->World->Prop) (Q0:Exit->Act->World->Prop),Good S base w0 s ρ a w->
   (∀(S':Nat->Prop) (base':Nat) (w0':W0 E.G) (s':St) (ρ':Nat->Option Value) (a':Act) (w':World),Good S' base' w0' s' ρ' a' w'->BJ E S' base' w0' ops r s' K->next a' w')->o.wp E.P a w next Q0):BJ E S base w0 ops (o::r) s K:=by
 refine⟨fun ρ a w g=>?_⟩
 unfold wpList
 rw[show Region.wanted o (yielded ops.toArray a.tmps)=true by unfold Region.wanted;rw[hg],if_pos rfl]
 exact .inl (h ρ a w _ _ g fun S' base' w0' s' ρ' a' w' g' hl=>hl.out ρ' a' w' g')
theorem Good.bF2{ρ:Nat->Option Value}(g:Good S base w0 s ρ a w)(hs:∀b x,s.bk b=some x->∃l,x=.var l)(X:Nat->Prop)(hw:bX X w w')(hX:∀q,X q->¬Dt S base ρ q/\∀b u,ρ b=some u->¬Rl u q):
  Good (fun z=>Dt S base ρ z/\z<w.heap.size) w'.heap.size (⟨w',fun q=>∃b u,ρ b=some u/\Rl u q,w0.pin,w0.defs⟩:W0 E.G) s ρ a w':=by
 have K:Keeps (Dt S base ρ) w (Dt (fun z=>Dt S base ρ z/\z<w.heap.size) w'.heap.size ρ) w':=⟨hw.size,fun r hr hd=>⟨⟨.inl ⟨hd,hr⟩,hd.2⟩,fun o=>World.cell?_of_block (hw.block r hr fun e=>(hX r e).1 hd)⟩⟩
 refine⟨g.len,fun i hi=>(g.t i hi).up K (fun _ _=>rfl),fun b=>?_,g.ru,g.inj,fun b u r h1 h2=>⟨.inr ⟨b,u,h1,h2⟩,yLl (g.low b u r h1 h2).2 hw.size⟩,vR.refl _ _ _,g.glob.up K,g.pin,yLr _,g.defs⟩
 have hB:=g.b b
 cases hk:s.bk b with
 |none=>rw[hk]at hB;exact hB
 |some y=>
  obtain⟨l,rfl⟩:=hs b y hk
  rw[hk]at hB
  obtain⟨r,cs,t,h1,h2,h3,h4⟩:=hB
  exact⟨r,cs,t,h1,h2,(hw.block r (g.low b _ r h1 rfl).2 fun e=>(hX r e).2 b _ h1 rfl).trans h3,h4.up K⟩
theorem Q5 {D : Nat -> Prop} {w : World} {t ty : TypeId} {i j : TI} {n m : Nat} {cs : List Value} {news : List Seg} {po lv : Value} (hY : E.Y t = some i) (hs1 : i.sl = true) (he : i.bY ≠ 0) (hj : E.Y i.elem = some j) (hjb : j.bytes ≠ 0) (hjs : dM j.zero = i.bY)
    (ho : w.ownsRow 0 i.elem i.bY po n cs) (hl : RA D w (.row m news) lv) (hseg : dM news = m * i.bY) (hm : m ≠ 0) (hb : (n + m) * j.bytes <= 140737488355328) :
    ∃ v' w' ns, (Builtin.append_ #[t, t] ty #[po, lv]).run E.P w = .ok v' w' /\ w'.ownsRow 0 i.elem i.bY v' (n + m) (cs ++ ns) /\ RL D w news ns /\ w.grownBy w' po.ownBlock /\ (v'.ownBlock = po.ownBlock \/ v'.ownBlock = some w.heap.size) := by
  obtain ⟨_, f, h5, h6⟩ := (E.hY t i hY).arr he
  obtain ⟨f', z, h7, h8, h9, h10, h11⟩ := (E.hY _ j hj).info
  rw [h5] at h7; cases h7
  have hu := (E.hY t i hY).sl hs1
  have hz := (cZ (S := D) (w := w) h11).len
  have h63 : n + m <= maxLen := by
    have : n + m <= (n + m) * j.bytes := Nat.le_mul_of_pos_right _ (Nat.pos_of_ne_zero hjb)
    unfold maxLen; omega
  cases hl with
  | row k k1 k2 k3 k4 =>
    rename_i c ns ad
    have hns : ns.length = m * i.bY := by rw [k.len, hseg]
    rcases k4 with k4 | ⟨b, q, rfl, k5, k6, k7⟩
    · exfalso
      rw [k4] at hns
      have : 0 < m * i.bY := Nat.mul_pos (Nat.pos_of_ne_zero hm) (Nat.pos_of_ne_zero he)
      simp at hns; omega
    · obtain ⟨v', w', hr, h1, h2, h3, h4⟩ := run_append_own_at (P := E.P) w 0 t ty i.elem f z i.bY j.bytes hu h5 h10 h6 h9 (by
          rw [hjs] at hz; simpa using hz) (Nat.pos_of_ne_zero he) _ n cs ho ⟨b, q, none⟩ m c ns hns (fun j u hj => by
          obtain ⟨hlt, e⟩ := List.getElem?_eq_some_iff.1 hj
          rw [mP, k7 j hlt, e]) k.one h63 hb (Nat.zero_le _)
      exact ⟨v', w', ns, hr, h1, k, h2, h4⟩
theorem EK(h:s.h.all (fun o=>match o with|none=>true|some (.var _)=>true|_=>false)=true):∀b x,s.bk b=some x->∃l,x=.var l:=by
 intro b x hb
 unfold St.bk at hb
 rw[yGd]at hb
 cases e:s.h[b]? with
 |none=>rw[e]at hb;cases hb
 |some o=>
  rw[e]at hb
  obtain rfl:o=some x:=hb
  have h2:=List.all_eq_true.1 h _ (List.mem_of_getElem? e)
  cases x<;>first|exact⟨_,rfl⟩|(simp at h2;done)
theorem BJ.append{ops r:List Oper}{c:Call}{x y:Operand}{i j:TI}{n m:Nat}{news:List Seg}(hg:o.guard=none)(ho:o.op=.call c)(hc:c.callee=.builtin .append)(ha:c.args.toList=[x,y])(ht:c.argTypes.toList=[t,t])
  (hY:E.Y t=some i)(hs1:i.sl=true)(he:i.bY≠0)(hj:E.Y i.elem=some j)(hjb:j.bytes≠0)(hjs:dM j.zero=i.bY)(hx:s.ev x=.d (.v po))(hy:s.ev y=.d (.row m news))(hseg:dM news=m*i.bY)(hm:m≠0)(hb:(n+m)*j.bytes<=140737488355328)
  (hs:∀b x,s.bk b=some x->∃l,x=.var l)(hown:w0.w.ownsRow 0 i.elem i.bY po n cs)(hfr:∀q,po.ownBlock=some q->q<base/\q<w0.w.heap.size/\¬w0.X q/\¬S q)
  (h:∀(S':Nat->Prop) (w0':W0 E.G) (v':Value) (w1:World) (ns:List Value),(∀q,S' q->S q\/base<=q)->(∀q,w0'.X q->w0.X q\/base<=q)->(∀q,w0'.X q->¬S' q)->(∀q,w0.pin=some q->w0'.X q)->w0'.pin=w0.pin->w0'.defs=w0.defs->w0'.w.ownsRow 0 i.elem i.bY v' (n+m) (cs++ns)->RL S' w0'.w news ns->
   vR base w0.X w0.w w1->base<=w1.heap.size->bX (fun q=>po.ownBlock=some q) w1 w0'.w->(v'.ownBlock=po.ownBlock\/v'.ownBlock=some w1.heap.size)->(∀q,v'.ownBlock=some q->q<w0'.w.heap.size/\¬S' q/\¬w0'.X q)->(∀q,S q->q<base->¬w0.X q->S' q)->
   BJ E S' w0'.w.heap.size w0' ops r (s.qW o.dst (.d (.v v')) none) K):BJ E S base w0 ops (o::r) s K:=by
 refine BJ.hand hg fun ρ a w next Q0 g hn=>?_
 have hca:c.args=#[x,y]:=by cases hq:c.args;simp_all
 have hct:c.argTypes=#[t,t]:=by cases hq:c.argTypes;simp_all
 have hown':w.ownsRow 0 i.elem i.bY po n cs:=lX hown fun q hq=>by
  have hq':po.ownBlock=some q:=by
   rcases hown.2 with⟨e1,e2⟩|⟨q',cap,cur,e1,_⟩<;>(rw[e1]at hq ⊢)
   ·cases hq
   ·cases hq;rfl
  exact g.iE.block q (hfr q hq').1 (hfr q hq').2.2.1
 have hvx:a.eval x=po:=by
  have:=g.ev x
  rw[hx]at this
  cases this;rfl
 have hvy:=g.ev y
 rw[hy]at hvy
 obtain⟨v',w',ns,h1,h2,h3,h4,h5⟩:=Q5 (E:=E) (ty:=o.type) hY hs1 he hj hjb hjs hown' hvy hseg hm hb
 have hX:∀q,po.ownBlock=some q->¬Dt S base ρ q/\∀b u,ρ b=some u->¬Rl u q:=fun q hq=>by
  obtain⟨f1,f2,f3,f4⟩:=hfr q hq
  refine⟨fun hd=>?_,fun b u hb hu=>?_⟩
  ·rcases hd.1 with hd|hd
   ·exact f4 hd
   ·omega
  ·rcases(g.low b u q hb hu).1 with h6|h6
   ·omega
   ·exact f3 h6
 have hgx:bX (fun q=>po.ownBlock=some q) w w':=⟨h4.os,h4.tape,h4.output,h4.size,fun k hk hn=>h4.block k hk (fun e=>hn e.symm)⟩
 have g2:=g.bF2 hs _ hgx hX
 have kk:Keeps (Dt S base ρ) w (fun z=>Dt S base ρ z/\z<w.heap.size) w':=⟨hgx.size,fun q hq hd=>⟨⟨hd,hq⟩,fun o=>World.cell?_of_block (hgx.block q hq fun e=>(hX q e).1 hd)⟩⟩
 have hv:∀q,v'.ownBlock=some q->q<w'.heap.size/\¬(Dt S base ρ q/\q<w.heap.size)/\¬∃b u,ρ b=some u/\Rl u q:=fun q hq=>by
  have hq2:q<w'.heap.size:=by
   rcases h2.2 with⟨e1,e2⟩|⟨q',cap,cur,e1,_,e4,_⟩<;>rw[e1]at hq<;>cases hq
   exact(yAe.1 e4).1
  rcases h5 with h5|h5
  ·exact⟨hq2,fun hd=>(hX q (h5.symm.trans hq)).1 hd.1,fun⟨b,u,h7,h8⟩=>(hX q (h5.symm.trans hq)).2 b u h7 h8⟩
  ·rw[h5]at hq;cases hq
   exact⟨hq2,fun hd=>Nat.lt_irrefl _ hd.2,fun⟨b,u,h7,h8⟩=>Nat.lt_irrefl _ (g.low b u _ h7 h8).2⟩
 have hfin:=hn _ _ _ _ _ _ _ (g2.put' o.dst (t:=.d (.v v')) (.v v') (by simp[T.refs])) (h (fun z=>Dt S base ρ z/\z<w.heap.size) ⟨w',fun q=>∃b u,ρ b=some u/\Rl u q,w0.pin,w0.defs⟩ v' w ns (fun q hq=>hq.1.1) (fun q ⟨b,u,h7,h8⟩=>(g.low b u q h7 h8).1.symm) (fun q ⟨b,u,h7,h8⟩ hd=>hd.1.2 b u h7 h8) (fun q hq=>⟨0,_,g.pin q hq,rfl⟩) rfl rfl h2 (h3.up kk) g.iE g.size hgx h5 hv fun q hq hlt hx=>⟨⟨.inl hq,fun b u h7 h8=>(g.low b u q h7 h8).1.elim (fun h9=>by omega) hx⟩,yLl hlt g.size⟩)
 unfold Oper.wp execOp
 simp only[ho,hc,hca,hct,resolve,invoke,builtin,Sem.run_bind,Sem.run_pure,Result.andThen_ok,List.map_toArray,List.map_cons,List.map_nil,hvx,h1]
 exact hfin
theorem Fb{f:FuncId}{fn:Func}{c:Code}{pos n:Nat}{args:List A}{vs:List Value}{x:Bk}{q:Nat}{t:List T}{R:Ending->World->Prop}(hf:E.P.funcs[f]?=some fn)(hnt:fn.ntmps=n)(hb:fn.body=some c)(hn:args.length+1<=n)(hp:pos<=args.length)(hx:∀e sz n l,x≠ .sl e sz n l)
  (ht:(args.map T.d).insertIdx pos (.ptr 0 0)++List.replicate (n- (args.length+1)) (.d (.v undef))=t)
  (hq:q<w.heap.size)(hG:pI E.G (fun z=>S z/\z≠q) w)(hB:HB (fun z=>S z/\z≠q) w q x)(hv:mH (fun z=>S z/\z≠q) w args vs)
  (h:GX E S w.heap.size (⟨w,fun r=>r=q,some q,[]⟩:W0 E.G) c ⟨t,[some x]⟩ (fun e a' w'=>(e=.normal\/e=.ret)/\a'.defers=[]/\∃v,(results fn a'.tmps).run E.P w'=.ok v w'/\R (.returned v) w')):Calls E.P f (vs.insertIdx pos (.pointer (some ⟨q,0,none⟩))).toArray w R:=by
 subst hnt;subst ht
 refine calls_of_wp hf hb (wp_mono (h.out _ _ _ (EZ fn.ntmps hn hp hx hq hG hB hv)) ?_)
 rintro e a' w' ⟨he,h1,v,h2,h3⟩
 rcases he with rfl|rfl<;>exact⟨h1,v,h2,h3⟩
theorem GQ.fin{w w1:World}{r tm:Nat}{S':Nat->Prop}{w0':W0 E.G}{fn:Func}{R:Ending->World->Prop}{x po v':Value}{l' news:List Seg}{cs ns:List Value}{ex:Exit}(hfn:fn.results=[ResultVar.tmp tm].toArray)(hx:s.sl tm=.d (.v x))(hb:s.bk 0=some (.var l'))(he:ex=.normal\/ex=.ret)(hr:r<w.heap.size)
  (f1:∀q,S' q->S q\/w.heap.size<=q)(f2:∀q,w0'.X q->q=r\/w.heap.size<=q)(f3:∀q,w0'.X q->¬S' q)(f4:∀q,some r=some q->w0'.X q)(f5:w0'.pin=some r)(f6:w0'.defs=[])(f7:w0'.w.ownsRow 0 e sz v' n cs)(f8:RL S' w0'.w news ns)
  (f9:vR w.heap.size (fun q=>q=r) w w1)(f10:w.heap.size<=w1.heap.size)(f11:bX (fun q=>po.ownBlock=some q) w1 w0'.w)(f12:v'.ownBlock=po.ownBlock\/v'.ownBlock=some w1.heap.size)(f13:∀q,v'.ownBlock=some q->q<w0'.w.heap.size/\¬S' q/\¬w0'.X q)
  (hR:∀w2,HB (fun z=>(S z\/w.heap.size<=z)/\z≠r/\v'.ownBlock≠some z) w2 r (.var l')->w2.ownsRow 0 e sz v' n cs->RL (fun z=>(S z\/w.heap.size<=z)/\z≠r/\v'.ownBlock≠some z) w2 news ns->bX (fun z=>z=r\/po.ownBlock=some z) w w2->
   (∀z,v'.ownBlock=some z->z<w2.heap.size/\(po.ownBlock=some z\/w.heap.size<=z))->R (.returned x) w2):
  GQ E S' w0'.w.heap.size w0' s (fun a' w'=>(ex=.normal\/ex=.ret)/\a'.defers=[]/\∃v,(results fn a'.tmps).run E.P w'=.ok v w'/\R (.returned v) w'):=by
 refine⟨fun ρ a w2 g=>⟨he,g.defs.trans f6,x,?_,?_⟩⟩
 ·have h1:=g.ev (.tmp tm)
  rw[show s.ev (.tmp tm)=.d (.v x)from hx]at h1
  have h2:a.tmps.getD tm undef=x:=RA.plain h1
  rw[<-h2]
  exact gP hfn rfl
 ·have yB:=g.pin r f5
  have hrX:w0'.X r:=f4 r rfl
  have dd:∀z,Dt S' w0'.w.heap.size ρ z->(S z\/w.heap.size<=z)/\z≠r/\v'.ownBlock≠some z:=fun z hz=>by
   refine⟨?_,fun e=>hz.2 0 _ yB (by rw[e];rfl),fun e=>?_⟩
   ·rcases hz.1 with h|h
    ·exact f1 z h
    ·exact .inr (yLt f10 (yLt f11.size h))
   ·obtain⟨h1,h2,_⟩:=f13 z e
    rcases hz.1 with h|h
    ·exact h2 h
    ·omega
  have hB:=g.b 0
  rw[hb]at hB
  obtain⟨r',cs',t,h1,_,h2,h3⟩:=hB
  rw[yB]at h1;cases h1
  have same:∀z,z<w0'.w.heap.size->¬w0'.X z->w2.heap[z]?=w0'.w.heap[z]?:=fun z hz hX=>g.iE.block z hz hX
  have hk:Keeps S' w0'.w (fun z=>(S z\/w.heap.size<=z)/\z≠r/\v'.ownBlock≠some z) w2:=by
   refine⟨g.iE.size,fun z hz hS=>⟨⟨f1 z hS,fun e=>?_,fun e=>(f13 z e).2.1 hS⟩,fun o=>World.cell?_of_block (same z hz fun hX=>f3 z hX hS)⟩⟩
   subst e;exact f3 z hrX hS
  have hg:bX (fun z=>z=r\/po.ownBlock=some z) w w2:=by
   refine⟨(g.iE.os.trans f11.os).trans f9.os,(g.iE.tape.trans f11.tape).trans f9.tape,(g.iE.output.trans f11.output).trans f9.output,yLt f10 (yLt f11.size g.iE.size),fun z hz hn=>?_⟩
   have hz0:z<w0'.w.heap.size:=yLl hz (yLt f10 f11.size)
   rw[same z hz0 (fun hX=>by rcases f2 z hX with h|h;exact hn (.inl h);omega),f11.block z (yLl hz f10) (fun h=>hn (.inr h)),f9.block z hz (fun h=>hn (.inl h))]
  have ho:w2.ownsRow 0 e sz v' n cs:=by
   refine lX f7 fun z hz=>?_
   have hz':v'.ownBlock=some z:=by
    rcases f7.2 with⟨e1,e2⟩|⟨q',cap,cur,e1,_⟩<;>(rw[e1]at hz ⊢)
    ·cases hz
    ·cases hz;rfl
   exact same z (f13 z hz').1 (f13 z hz').2.2
  refine hR w2 ⟨cs',t,h2,h3.up (dw dd)⟩ ho (f8.up hk) hg fun z hz=>⟨yLl (f13 z hz).1 g.iE.size,?_⟩
  rcases f12 with h|h
  ·exact .inl (h.symm.trans hz)
  ·rw[h]at hz;cases hz;exact .inr f10
theorem Kt(l:List Value)(i:Nat){ρ:Nat->Option Value}:i<l.length->RT D ρ w ((l.map fun v=>T.d (.v v)).getD i .au) (l.getD i undef):=by
 intro hi
 rw[yGd,yGd,List.getElem?_map,yGe hi]
 exact .v _
theorem aT6(j:Nat){sz k:Nat}{l:List Seg}{sv:Value}(hj:j<a.tmps.size)(hv:a.tmps.getD j undef=sv)(hsz:base<=w.heap.size)(hown:w.ownsRow base e sz sv k cs)(hG:pI E.G (Dt S base (fun b=>if b=0 then some sv else none)) w)(hl:RL (Dt S base (fun b=>if b=0 then some sv else none)) w l cs):
  Good S base (⟨w,fun _=>False,none,a.defers⟩:W0 E.G) ⟨(a.tmps.toList.map fun v=>T.d (.v v)).set j (.own 0 k),[some (.sl e sz k l)]⟩ (fun b=>if b=0 then some sv else none) a w:=by
 have hρ:∀b u,(if b=0 then some sv else none)=some u->b=0/\u=sv:=fun b u h=>by
  split at h
  ·next e=>cases h;exact⟨e,rfl⟩
  ·cases h
 obtain⟨ad,c,hf⟩:=ownsRow_form hown
 refine⟨by simp,fun i hi=>?_,fun b=>?_,fun i b hb=>?_,fun b b' u u' r h1 h2 _ _=>(hρ b u h1).1.trans (hρ b' u' h2).1.symm,fun b u r h1 h2=>?_,vR.refl _ _ _,hG,fun q hq=>(by cases hq),hsz,rfl⟩
 ·have hgen:∀x,RT (Dt S base (fun b=>if b=0 then some sv else none)) (fun b=>if b=0 then some sv else none) w (St.sl (⟨(a.tmps.toList.map fun v=>T.d (.v v)).set j (.own 0 k),[some (.sl e sz k l)]⟩:St) i) x↔RT (Dt S base (fun b=>if b=0 then some sv else none)) (fun b=>if b=0 then some sv else none) w (if j=i/\j<(a.tmps.toList.map fun v=>T.d (.v v)).length then .own 0 k else(a.tmps.toList.map fun v=>T.d (.v v)).getD i .au) x:=fun x=>by
   unfold St.sl
   rw[aB]
  obtain⟨x,hx⟩:∃x,x=a.tmps.getD i undef:=⟨_,rfl⟩
  show RT _ _ _ _ (a.tmps.getD i undef)
  rw[<-hx,hgen]
  split
  ·next h=>
   obtain rfl:x=sv:=by rw[hx,<-h.1,hv]
   intro u hu
   obtain⟨_,e0⟩:=hρ 0 u hu
   exact⟨ad,k,c,e0.trans hf,yLr _,fun _=>e0.symm⟩
  ·have:=Kt (D:=Dt S base (fun b=>if b=0 then some sv else none)) (ρ:=fun b=>if b=0 then some sv else none) (w:=w) a.tmps.toList i (by simpa using hi)
   rw[hx,show a.tmps.getD i undef=a.tmps.toList.getD i undef by simp[yGd,Array.getD_eq_getD_getElem?]]
   exact this
 ·by_cases hb:b=0
  ·subst hb
   exact⟨sv,cs,rfl,hown,hl⟩
  ·have:St.bk (⟨(a.tmps.toList.map fun v=>T.d (.v v)).set j (.own 0 k),[some (.sl e sz k l)]⟩:St) b=none:=by
    cases b with
    |zero=>exact absurd rfl hb
    |succ b=>rfl
   rw[this]
   exact if_neg hb
 ·unfold St.sl at hb
  rw[aB]at hb
  split at hb
  ·simp[T.refs]at hb
   subst hb
   simp[St.bk]
  ·exfalso
   rw[yGd,List.getElem?_map]at hb
   cases h:a.tmps.toList[i]? with
   |none=>rw[h]at hb;simp[T.refs]at hb
   |some v=>rw[h]at hb;simp[T.refs]at hb
 ·obtain⟨_,rfl⟩:=hρ b u h1
  exact⟨.inl (iM hown h2).1,(iM hown h2).2⟩
theorem at0(j:Nat){sz k:Nat}{l:List Seg}{sv:Value}{ds:List Deferred}{ts:List T}(hsz:base<=w.heap.size)(hown:w.ownsRow base e sz sv k cs)(hG:pI E.G (Dt S base (fun b=>if b=0 then some sv else none)) w)(hl:RL (Dt S base (fun b=>if b=0 then some sv else none)) w l cs)
  (hd:a.defers=ds)(ht:(a.tmps.toList.map fun v=>T.d (.v v)).set j (.own 0 k)=ts)(hj:j<a.tmps.size)(hv:a.tmps.getD j undef=sv):
  Good S base (⟨w,fun _=>False,none,ds⟩:W0 E.G) ⟨ts,[some (.sl e sz k l)]⟩ (fun b=>if b=0 then some sv else none) a w:=by
 subst hd;subst ht;exact aT6 j hj hv hsz hown hG hl
theorem aT7(j:Nat){x:Bk}{ds:List Deferred}{ts:List T}(hsz:base<=w.heap.size)(hx:∃l,x=.var l)(hr:r<w.heap.size)(hG:pI E.G (Dt S base (fun b=>if b=0 then some (.pointer (some ⟨r,0,none⟩))else none)) w)(hB:HB (Dt S base (fun b=>if b=0 then some (.pointer (some ⟨r,0,none⟩))else none)) w r x)
  (hd:a.defers=ds)(ht:(a.tmps.toList.map fun v=>T.d (.v v)).set j (.ptr 0 0)=ts)(hj:j<a.tmps.size)(hv:a.tmps.getD j undef=.pointer (some ⟨r,0,none⟩)):
  Good S base (⟨w,fun q=>q=r,some r,ds⟩:W0 E.G) ⟨ts,[some x]⟩ (fun b=>if b=0 then some (.pointer (some ⟨r,0,none⟩))else none) a w:=by
 subst hd;subst ht
 have hρ:∀b u,(if b=0 then some (Value.pointer (some ⟨r,0,none⟩))else none)=some u->b=0/\u=.pointer (some ⟨r,0,none⟩):=fun b u h=>by
  split at h
  ·next e=>cases h;exact⟨e,rfl⟩
  ·cases h
 refine⟨by simp,fun i hi=>?_,fun b=>?_,fun i b hb=>?_,fun b b' u u' r h1 h2 _ _=>(hρ b u h1).1.trans (hρ b' u' h2).1.symm,fun b u q h1 h2=>?_,vR.refl _ _ _,hG,fun q hq=>(by cases hq;rfl),hsz,rfl⟩
 ·have hgen:∀y,RT (Dt S base (fun b=>if b=0 then some (.pointer (some ⟨r,0,none⟩))else none)) (fun b=>if b=0 then some (.pointer (some ⟨r,0,none⟩))else none) w (St.sl (⟨(a.tmps.toList.map fun v=>T.d (.v v)).set j (.ptr 0 0),[some x]⟩:St) i) y↔RT (Dt S base (fun b=>if b=0 then some (.pointer (some ⟨r,0,none⟩))else none)) (fun b=>if b=0 then some (.pointer (some ⟨r,0,none⟩))else none) w (if j=i/\j<(a.tmps.toList.map fun v=>T.d (.v v)).length then .ptr 0 0 else(a.tmps.toList.map fun v=>T.d (.v v)).getD i .au) y:=fun y=>by
   unfold St.sl
   rw[aB]
  obtain⟨y,hy⟩:∃y,y=a.tmps.getD i undef:=⟨_,rfl⟩
  show RT _ _ _ _ (a.tmps.getD i undef)
  rw[<-hy,hgen]
  split
  ·next h=>
   obtain rfl:y=.pointer (some ⟨r,0,none⟩):=by rw[hy,<-h.1,hv]
   intro u hu
   obtain⟨_,rfl⟩:=hρ 0 u hu
   exact⟨r,.inl rfl,rfl⟩
  ·have:=Kt (D:=Dt S base (fun b=>if b=0 then some (.pointer (some ⟨r,0,none⟩))else none)) (ρ:=fun b=>if b=0 then some (.pointer (some ⟨r,0,none⟩))else none) (w:=w) a.tmps.toList i (by simpa using hi)
   rw[hy,show a.tmps.getD i undef=a.tmps.toList.getD i undef by simp[yGd,Array.getD_eq_getD_getElem?]]
   exact this
 ·by_cases hb:b=0
  ·subst hb
   obtain⟨l,rfl⟩:=hx
   obtain⟨cs,t,h1,h2⟩:=hB
   exact⟨r,cs,t,rfl,trivial,h1,h2⟩
  ·have:St.bk (⟨(a.tmps.toList.map fun v=>T.d (.v v)).set j (.ptr 0 0),[some x]⟩:St) b=none:=by
    cases b with
    |zero=>exact absurd rfl hb
    |succ b=>rfl
   rw[this]
   exact if_neg hb
 ·unfold St.sl at hb
  rw[aB]at hb
  split at hb
  ·simp[T.refs]at hb
   subst hb
   simp[St.bk]
  ·exfalso
   rw[yGd,List.getElem?_map]at hb
   cases h:a.tmps.toList[i]? with
   |none=>rw[h]at hb;simp[T.refs]at hb
   |some v=>rw[h]at hb;simp[T.refs]at hb
 ·obtain⟨_,rfl⟩:=hρ b u h1
  obtain rfl:r=q:=h2
  exact⟨.inr rfl,hr⟩
end
end
noncomputable section
open Pm
def Lr:List A->(bC->Prop)->Prop
 |[.agg [.bytes 32 h],.v (.string s),x],K=>s.size<=1000000/\Bl x fun L=>∀d,d=aD h (sb s) L.flatten->K (.d (.agg [.bytes 32 d]))
 |_,_=>False
theorem RS:∀args K,Lr args K->∃r,aV 37 args r/\K r:=by
 intro args K hd
 unfold Lr at hd
 split at hd
 ·next h s x=>
  obtain⟨hs,hd⟩:=hd
  obtain⟨L,hK,hL⟩:=vk hd
  refine⟨_,fun S w vs _ ha=>?_,hK _ rfl⟩
  obtain⟨v1,v2,v3,rfl,h1,h2,h3⟩:=jH ha
  obtain⟨rfl,hh⟩:=xU h1
  rw[RA.plain h2]
  obtain⟨a,n,c,rfl,h4,_⟩:=hL h3
  refine(zn h hh s (by unfold maxLen;omega) a n c L w h4).mono ?_
  rintro e w' ⟨rfl,hb⟩
  exact⟨_,rfl,Ez (bG _),hb⟩
 ·exact hd.elim
attribute [local irreducible] aN aQ bq aJ aI eY dL bP aD aC aF bn aY aj bR fC fu bT dH jm eG jO bg aZ mI fq eX bJ aT dB jF aK eB dK kG fO bD fG dA bS bE
def ae9:List A->(bC->Prop)->Prop
 |[x],K=>Ab x fun c=>dA c=true/\∀N B,N=bE c->B=bS c->K (.t [.row N [.bytes N B],.v (.int .i64 0)])
 |_,_=>False
theorem af0:∀args K,ae9 args K->∃r,aV 93 args r/\K r:=by
 intro args K h
 unfold ae9 at h
 split at h
 ·next x=>
  obtain⟨c,⟨hm,h⟩,hc⟩:=lT h
  refine⟨_,fun S w vs hG ha=>?_,h _ _ rfl rfl⟩
  cases ha with
  |cons k1 kn=>
   cases kn
   obtain⟨k2,k3,k4⟩:=hc k1
   have:=Io c k3 k4 S w _ hG (.cons k2 .nil)
   unfold xM at this
   rw[if_pos hm]at this
   exact this
 ·exact h.elim
def oW:ak:=sV.KR IB Jc ch8
def RX:ak:=oW.add 93 ae9 af0 (.of Tryz.func93)
def bC5:List A->(bC->Prop)->Prop
 |[.v (.int .i64 n)],K=>K (.d (.row 8 [.bytes 8 (aC n)]))
 |_,_=>False
theorem aU7:∀args K,bC5 args K->∃r,aV 41 args r/\K r:=by
 intro args K h
 unfold bC5 at h
 split at h
 ·exact⟨_,sw (Tc _),h⟩
 ·exact h.elim
end
noncomputable section
open Pm
attribute [local irreducible] aN aQ bq aJ aI eY dL bP aD aC aF bn aY aj bR fC fu bT dH jm eG jO bg aZ mI fq eX bJ aT dB jF aK eB dK kG fO bD fG dA bS bE
def uf(n mu:Int)(l:List A)(po ap:A):List Seg:=[.ints .i64 1 [n],.ints .i32 1 [mu],.ints .u32 1 [0],.gen 16 l,.gen 2 [po,ap]]
def bF(i:Int):List UInt8:=aD (zB 32) (sb ⟨#[100,114,97,119]⟩) [aC i].flatten
def aO2:ak:=oW.add 53 Vh NS (.of Tryz.func53)
def bw7:ak:=aO2.add 41 bC5 aU7 (.of Tryz.func41)
def Vq:ak:=bw7.add 37 Lr RS (.of Tryz.func37)
end
section
open Pm
theorem aI6(n:Int)(l po:List A)(i:Nat)(hi:i<8)(a b:A)(ha:l[i]?=some a)(hc:aV 34 [a] (.d b)):
  bV 11 0 (.var (KQ n l po)) [.v (.int .i64 (i:Nat))] (.d b) (.var (KQ n l po)):=by
 intro S w r vs hr hG hH hv
 cases hv with
 |cons h1 hnil=>
  cases hnil
  obtain rfl:=h1.plain
  obtain⟨ps,bs,v1,v2,t,hl,hb,hp,back⟩:=M0 hH
  obtain⟨v,hv1,hv2⟩:=hp i _ hi ha
  refine(Gw w r t n ps bs v1 v2 i hi v hv1 hb (fun v w2=>RA (fun q=>(S q/\q≠r)\/w.heap.size<=q) w2 b v) fun w1 hb1 hg1=>?_).mono ?_
  ·have kp:Keeps (fun q=>S q/\q≠r) w (fun q=>S q/\q≠r) w1:=⟨hg1.size,fun q hq hS=>⟨hS,((oI hg1).2 q hq hS).2⟩⟩
   refine(hc _ w1 [v] (hG.up kp) (.cons (hv2.up kp) .nil)).mono ?_
   rintro e w2 ⟨v',rfl,h2,h3⟩
   refine⟨v',rfl,RA.up (w:=w2) ⟨yLr _,fun q hq h=>⟨?_,fun o=>rfl⟩⟩ h2,h3⟩
   rcases h with h|h
   ·exact .inl h
   ·exact .inr (yLt hg1.size h)
  ·rintro e w' ⟨v',w2,rfl,h2,rfl,hb2,hg2⟩
   have hb3:aM (w2.setCell ⟨r,1,none⟩ (.int .i32 0)) r (WL n 0 ps bs v1 v2).toArray t:=(hb2.set 1 _).copy (EP _)
   have hg3:w.grownBy (w2.setCell ⟨r,1,none⟩ (.int .i32 0)) (some r):=ay hg2 1 _
   have hg4:w2.grownBy (w2.setCell ⟨r,1,none⟩ (.int .i32 0)) (some r):=ay (bH w2 _) 1 _
   refine⟨_,rfl,?_,back _ _ _ (oI hg3) hb3,hg3⟩
   refine RA.up (S:=fun q=>(S q/\q≠r)\/w.heap.size<=q) ⟨hg4.size,fun q hq hS=>⟨hS,fun o=>?_⟩⟩ h2
   have hne:q≠r:=by
    rcases hS with h|h
    ·exact h.2
    ·exact fun e=>by omega
   exact((oI (S:=fun q=>True) hg4).2 q hq ⟨trivial,hne⟩).2 o
end
noncomputable section
open Pm
attribute [local irreducible] aN aQ bq aD aC aF qU bD
theorem Fp:∀args K,uz args K->∃r,aV 17 args r/\K r:=by
 intro args K h
 unfold uz at h
 split at h
 ·exact⟨_,uH (BU _),h _ rfl⟩
 ·exact h.elim
def aj0:ak:=ah4.KR IB Jc ch8
def bv7:ak:=aj0.add 16 SN Yn (.of Tryz.func16)
def bv8:ak:=bv7.add 18 xG (qy BH) (.of Tryz.func18)
def bv9:ak:=bv8.add 17 uz Fp (.of Tryz.func17)
theorem bC2:aV 6 [] (.p (.var (KQ 0 (.sref (aP (bD (qU 0))) 0::(D9 7++List.replicate 8 (.sref bk0 0))) [.v (.slice none 0 0),.v (.slice none 0 0)]))):=by
 refine eO (E:=bv9) Tryz.func6 Tryz.ntmps6 ?_
 refine ah ?_
 refine aX.mk (aH 9 ?_)
 refine ah ?_
 intro h hh
 obtain rfl:h=qU 0:=hh
 refine ah ?_
 intro p hp
 rw[<-hp]
 refine ah ?_;(try exact⟨⟩)
 rfl
end
noncomputable section
open Pm
attribute [local irreducible] aN aQ bq aD aC aF qU bD
def at7:List A->(bC->Prop)->Prop
 |[],K=>∀p,p=bD (qU 0)->K (.p (.var [.ints .i64 1 [0],.ints .i32 1 [0],.ints .u32 1 [0],.gen 16 (.sref (aP p) 0::(D9 7++List.replicate 8 (.sref bk0 0))),.gen 2 [.v (.slice none 0 0),.v (.slice none 0 0)]]))
 |_,_=>False
theorem au0:∀args K,at7 args K->∃r,aV 6 args r/\K r:=by
 intro args K h
 unfold at7 at h
 split at h
 ·exact⟨_,bC2,h _ rfl⟩
 ·exact h.elim
def wdK:Bk->(Int->List A->List A->Prop)->Prop
 | .var [.ints .i64 1 [n],.ints .i32 1 [a],.ints .u32 1 [b],.gen 16 l,.gen 2 po],K=>a=0/\b=0/\0<=n/\n<=1000000/\K n l po
 |_,_=>False
theorem UC{x:Bk}{K:Int->List A->List A->Prop}(h:wdK x K):∃n l po,x=.var (KQ n l po)/\(0<=n/\n<=1000000)/\K n l po:=by
 unfold wdK at h
 split at h
 ·obtain⟨rfl,rfl,h0,h1,h⟩:=h
  exact⟨_,_,_,rfl,⟨h0,h1⟩,h⟩
 ·exact h.elim
def Nc:Nat->Bk->List A->(bC->Bk->Prop)->Prop
 |0,x,[],K=>wdK x fun n l po=>K (.d (.v (.int .i64 n))) (.var (KQ n l po))
 |_,_,_,_=>False
theorem UR:∀pos x args K,Nc pos x args K->∃r x',bV 33 pos x args r x'/\K r x':=by
 intro pos x args K h
 unfold Nc at h
 split at h
 ·obtain⟨n,l,po,rfl,hn,h⟩:=UC h
  exact⟨_,_,aI7 n hn l po,h⟩
 ·exact h.elim
theorem UQ(n:Int)(hn:0<=n/\n<=1000000)(l po:List A)(i:Int)(h0:0<=i)(h1:i<8)(ha:l[i.toNat]?=some (.v (.pointer none)))(nn fr dr:Int)(x y:A):
  bV 9 0 (.var (KQ n l po)) [.agg [.ints .i64 4 [2,i,nn,fr],.gen 1 [x],.ints .i64 1 [dr],.gen 1 [y]]] (.d (.v (.int .i64 13))) (.var (KQ (n+1) l po)):=by
 obtain⟨j,rfl⟩:∃j:Nat,i=j:=⟨i.toNat,by omega⟩
 exact Nb n hn l po j (by omega) ha nn fr dr x y
theorem QE(n:Int)(l po:List A)(i:Int)(h0:0<=i)(h1:i<8)(a b:A)(ha:l[i.toNat]?=some a)(hc:aV 34 [a] (.d b)):
  bV 11 0 (.var (KQ n l po)) [.v (.int .i64 i)] (.d b) (.var (KQ n l po)):=by
 obtain⟨j,rfl⟩:∃j:Nat,i=j:=⟨i.toNat,by omega⟩
 exact aI6 n l po j (by omega) a b ha hc
def aH8:Nat->Bk->List A->(bC->Bk->Prop)->Prop
 |0,x,[.agg [.ints .i64 4 [2,i,nn,fr],.gen 1 [y],.ints .i64 1 [dr],.gen 1 [z]]],K=>wdK x fun n l po=>0<=i/\i<8/\l[i.toNat]?=some (.v (.pointer none))/\K (.d (.v (.int .i64 13))) (.var (KQ (n+1) l po))
 |_,_,_,_=>False
theorem aH9:∀pos x args K,aH8 pos x args K->∃r x',bV 9 pos x args r x'/\K r x':=by
 intro pos x args K h
 unfold aH8 at h
 split at h
 ·obtain⟨n,l,po,rfl,hn,h0,h1,h2,h⟩:=UC h
  exact⟨_,_,UQ n hn l po _ h0 h1 h2 _ _ _ _ _,h⟩
 ·exact h.elim
def M6:Nat->Bk->List A->(bC->Bk->Prop)->Prop
 |0,x,[.v (.int .i64 i)],K=>wdK x fun n l po=>0<=i/\i<8/\match l[i.toNat]? with
  |some (.v (.pointer none))=>K (.d (.v (.pointer none))) (.var (KQ n l po))
  |some a=>prK a fun p=>K (.d (.sref (aP p) 0)) (.var (KQ n l po))
  |none=>False
 |_,_,_,_=>False
theorem UO:∀pos x args K,M6 pos x args K->∃r x',bV 11 pos x args r x'/\K r x':=by
 intro pos x args K h
 unfold M6 at h
 split at h
 ·obtain⟨n,l,po,rfl,hn,h0,h1,h⟩:=UC h
  split at h
  ·next e=>exact⟨_,_,QE n l po _ h0 h1 _ _ e NT,h⟩
  ·next a _ e=>
   obtain⟨p,rfl,h⟩:=uV h
   exact⟨_,_,QE n l po _ h0 h1 _ _ e (uH (El p)),h⟩
  ·exact h.elim
 ·exact h.elim
def bw0:ak:=aj0.add 6 at7 au0 (.of Tryz.func6)
def bw1:ak:=bw0.gI 9 aH8 aH9 (.of Tryz.func9)
def bw2:ak:=bw1.gI 33 Nc UR (.of Tryz.func33)
def bw3:ak:=bw2.gI 11 M6 UO (.of Tryz.func11)
def bw4:ak:=bw3.add 18 xG (qy BH) (.of Tryz.func18)
def bw5:ak:=bw4.add 8 xG (qy Kv) (.of Tryz.func8)
end
section
open Pm
def yD(v:Value):List Nat:=match v.ownBlock with|some z=>[z]|none=>[]
theorem dV{z:Nat}:z∈yD v↔v.ownBlock=some z:=by
 unfold yD
 cases v.ownBlock with
 |none=>simp
 |some q=>simp[eq_comm]
theorem wY(h:w.ownsRow 0 e sz v n cs){z:Nat}(hz:v.ownBlock=some z):z<w.heap.size:=by
 rcases h.2 with⟨e1,e2⟩|⟨q',cap,cur,e1,_,e4,_⟩<;>rw[e1]at hz<;>cases hz
 exact(yAe.1 e4).1
theorem Bd(h:w.ownsRow 0 e sz v n cs)(k:∀z,v.ownBlock=some z->w'.heap[z]?=w.heap[z]?):w'.ownsRow 0 e sz v n cs:=lX h fun q hq=>by
 refine k q ?_
 rcases h.2 with⟨e1,e2⟩|⟨q',cap,cur,e1,_⟩<;>(rw[e1]at hq ⊢)
 ·cases hq
 ·cases hq;rfl
end
section
open Pm
attribute [local irreducible] aN aQ bq aJ aI eY dL bP aD aC aF bn aY aj bR fC fu bT dH jm eG jO bg aZ mI fq eX bJ aT dB jF aK eB dK kG fO bD fG dA bS bE
end
section
open Pm
theorem Rc{vs:List Value}(h:mH S w [] vs):vs=[]:=by cases h;rfl
theorem bq2{vs:List Value}(h:mH S w [.v x] vs):vs=[x]:=by
 cases h with|cons h r=>cases r;cases h;rfl
theorem qw(h:RA S w (.v x) v):v=x:=by cases h;rfl
end
section
attribute [local irreducible] aN aQ bq
abbrev Ln:=Int×List UInt8
def as3(L:List Ln)(j:Nat):List Seg:=[.ints .i64 1 [(L.getD j (0,[])).1],.bytes 32 (L.getD j (0,[])).2]
def zY(mu:Int)(L:List Ln)(s f:Int):List Seg:=[.ints .i32 1 [mu],.ints .u32 1 [0],.gen 1 [.recs L.length 33 (as3 L)],.ints .i64 2 [s,f]]
def H0:List UInt8:=[0,0,0,0,0,0,0,0,0,0,0,0,0,0,0,0,0,0,0,0,0,0,0,0,0,0,0,0,0,0,0,0]
def vU(L:List Ln)(e:Int):Bool:=L.any fun x=>x.1==e
def uI(L:List Ln)(e:Int):List UInt8:=match L.find? (fun x=>x.1==e)with|some x=>x.2|none=>H0
theorem ak6(L:List Ln)(e:Int):∃N,N<=L.length/\(∀j,j<N->¬(L.getD j (0,[])).1=e)/\(N=L.length/\vU L e=false/\uI L e=H0\/(N<L.length/\(L.getD N (0,[])).1=e/\vU L e=true/\uI L e=(L.getD N (0,[])).2)):=by
 induction L with
 |nil=>exact⟨0,yLr _,fun j hj=>absurd hj (by omega),.inl ⟨rfl,rfl,rfl⟩⟩
 |cons x L ih=>
  by_cases h:x.1=e
  ·exact⟨0,Nat.zero_le _,fun j hj=>absurd hj (by omega),.inr ⟨by simp,by simpa using h,by simp[vU,h],by simp[uI,List.find?,h]⟩⟩
  ·obtain⟨N,h1,h2,h3⟩:=ih
   have hb:(x.1==e)=false:=by simpa using h
   refine⟨N+1,by simpa using h1,fun j hj=>?_,?_⟩
   ·cases j with
    |zero=>simpa using h
    |succ j=>simpa using h2 j (by omega)
   ·have e1:vU (x::L) e=vU L e:=by simp[vU,hb]
    have e2:uI (x::L) e=uI L e:=by simp[uI,List.find?,hb]
    rw[e1,e2]
    rcases h3 with⟨h3,h4,h5⟩|⟨h3,h4,h5,h6⟩
    ·exact .inl ⟨by simp[h3],h4,h5⟩
    ·exact .inr ⟨by simpa using h3,by simpa using h4,h5,by simpa using h6⟩
attribute [local irreducible] vU uI
noncomputable def co9:ak:={ P:=Tryz.prog,Y:=U0,G:=fun _=>none,C:=fun _ _ _=>False,M:=fun _ _ _ _ _=>False,hY:=yOK,hC:=fun _ _ _ h=>h.elim,Ya:=fun _ _ _ _ _ h=>h.elim,hF:=fun _ _ _ h=>h.elim,hE:=yEq,hM:=by kernel_rfl }
theorem find_ok(mu:Int)(L:List Ln)(s f e:Int)(hL:L.length<=1000000):
  mG Tryz.prog (fun _=>none) 81 [.sref (zY mu L s f) 0,.v (.int .i64 e)] (.t [.agg [.bytes 32 (uI L e)],.v (.bool (vU L e))]):=by
 refine eO (E:=co9) Tryz.func81 Tryz.ntmps81 ?_
 obtain⟨N,hN,hno,hend⟩:=ak6 L e
 refine ah ?_
 refine aX.mk (cB [0,1,4,5,11,12,13] [0] N (fun j=>⟨.d (.sref (zY mu L s f) 0)::.d (.v (.int .i64 e))::.au::.au::.ptr 0 0::.d (.v (.bool false))::.au::.au::.au::.au::.au::.d (.recs L.length 33 (as3 L))::.d (.v (.int .i64 L.length))::.d (.v (.int .i64 (j:Nat)))::dz 11 [],[some (.var [.bytes 32 H0])]⟩) ?_)
 intro j hj hl
 by_cases h:j<N
 ·have h1:(j:Int)<(L.length:Int):=by omega
  have h2:((L.getD j (0,[])).1==e)=false:=by simpa using hno j h
  clear hend hno
  refine ah ?_
  refine hl.go h [0,1,4,5,11,12,13] [0] ?_
  rfl
 ·obtain rfl:j=N:=by omega
  rcases hend with⟨rfl,h4,h5⟩|⟨h3,h4,h5,h6⟩
  ·have h1:¬(L.length:Int)<(L.length:Int):=by omega
   rw[h4,h5]
   clear h4 h5 hno
   refine ah ?_;(try exact⟨⟩)
   rfl
  ·have h1:(j:Int)<(L.length:Int):=by omega
   have h2:((L.getD j (0,[])).1==e)=true:=by simpa using h4
   rw[h5,h6]
   clear h4 h5 h6 hno
   refine ah ?_;(try exact⟨⟩)
end
section
abbrev BC(mu:Int)(v:Value)(s f:Int):Array Value:=#[.int .i32 mu,.int .u32 0,v,.int .i64 s,.int .i64 f]
def J4(L:List Ln):List Value:=L.flatMap fun x=>.int .i64 x.1::HL x.2
def ab9(L:List Ln)(s f:Int):(Nat->Option Obj)->Nat->Prop:=fun h r=>∃t v,h r=some (.cells (BC 0 v s f) t (0,0))/\(v=.slice none 0 0/\L.length=0\/∃q cap cur,v=.slice (some ⟨q,0,none⟩) L.length cap/\q≠r/\h q=some (.cells cur 154 (0,0))/\L.length<=cap/\cap<=maxLen/\cur.size=cap*33/\cur.toList.take (L.length*33)=J4 L)/\∀x∈L,x.2.length=32
theorem FZ(L:List Ln)(h:∀x∈L,x.2.length=32):(J4 L).length=L.length*33:=by
 induction L with
 |nil=>rfl
 |cons x L ih=>
  have h1:=h x (by simp)
  have h2:=ih fun y hy=>h y (by simp[hy])
  unfold J4 at h2 ⊢
  simp only[List.flatMap_cons,List.length_append,List.length_cons,h2,gX,h1]
  omega
structure nC(w:World)(r:Nat)(t:TypeId)(v:Value)(L:List Ln)(s f:Int):Prop where
 blk:aM w r (BC 0 v s f) t
 own:w.ownsRow 0 154 33 v L.length (J4 L)
 sep:v.ownBlock≠some r
 len:∀x∈L,x.2.length=32
theorem nC.of{F:List Nat}{L:List Ln}(h:ab9 L s f (hres w (r::F)) r):∃t v,nC w r t v L s f/\∀q,v.ownBlock=some q->q∈F:=by
 obtain⟨t,v,h1,h2,h3⟩:=h
 have hr:w.heap[r]?=some (.cells (BC 0 v s f) t (0,0)):=by unfold hres at h1;rw[if_pos (by simp)]at h1;exact h1
 rcases h2 with⟨rfl,h4⟩|⟨q,cap,cur,rfl,h4,h5,h6⟩
 ·have hL:L=[]:=List.length_eq_zero_iff.1 h4
  subst hL
  exact⟨t,_,⟨hr,⟨rfl,.inl ⟨rfl,rfl⟩⟩,by simp[Value.ownBlock],h3⟩,by simp[Value.ownBlock]⟩
 ·have hq:q∈r::F:=by
   apply Decidable.byContradiction
   intro hn
   unfold hres at h5;rw[if_neg hn]at h5;cases h5
  have hq2:w.heap[q]?=some (.cells cur 154 (0,0)):=by unfold hres at h5;rw[if_pos hq]at h5;exact h5
  refine⟨t,_,⟨hr,⟨FZ L h3,.inr ⟨q,cap,cur,rfl,Nat.zero_le _,hq2,h6⟩⟩,by simp[Value.ownBlock];exact h4,h3⟩,fun q' e=>?_⟩
  simp[Value.ownBlock]at e;subst e
  rcases List.mem_cons.1 hq with h|h
  ·exact(h4 h).elim
  ·exact h
theorem nC.to{F:List Nat}{L:List Ln}(h:nC w r t v L s f)(hF:∀q,v.ownBlock=some q->q∈F):ab9 L s f (hres w (r::F)) r:=by
 refine⟨t,v,?_,?_,h.len⟩
 ·unfold hres;rw[if_pos (by simp)];exact h.blk
 ·rcases h.own.2 with⟨e1,e2⟩|⟨q,cap,cur,rfl,_,h5,h6⟩
  ·exact .inl ⟨e1,e2⟩
  ·have h7:=hF q rfl
   refine .inr ⟨q,cap,cur,rfl,fun e=>h.sep (by rw[<-e];rfl),?_,h6⟩
   unfold hres;rw[if_pos (by simp[h7])];exact h5
theorem nC.next{L:List Ln}{s f s' f':Int}(h:nC w r t v L s f)(hb:aM w' r (BC 0 v s' f') t)(hg:w.grownBy w' (some r)):nC w' r t v L s' f':=by
 refine⟨hb,⟨h.own.1,?_⟩,h.sep,h.len⟩
 rcases h.own.2 with h1|⟨q,cap,cur,e,h2,h3,h4⟩
 ·exact .inl h1
 ·refine .inr ⟨q,cap,cur,e,h2,?_,h4⟩
  rw[hg.block q (yAe.1 h3).1 (fun e2=>h.sep (by rw[e];cases e2;rfl))]
  exact h3
theorem rU{xs:List Value}(h:w.ownsRow 0 154 33 v n xs):∃ad c,v=.slice ad n c:=by
 rcases h.2 with⟨e1,e2⟩|⟨q,cap,cur,e1,_⟩
 ·exact⟨_,_,by rw[e1,e2]⟩
 ·exact⟨_,_,e1⟩
theorem Z9(a:Addr)(x:Int)(hx:0<=x/\x<=1000000)(w:World)(hc:w.cell? a=some (.int .i64 x))(hz:w.frozen? a=false):
  Calls Tryz.prog 24 #[.pointer (some a),.int .i64 1] w fun e w'=>(∃y,e=.returned y)/\w'=w.setCell a (.int .i64 (x+1)):=by
 have hwr:RowKit.wrap64 (x+1)=x+1:=IntWalk.wrap64_in _ (by omega)
 have hwi:IntKind.i64.wrap (x+1)=x+1:=gH (by omega) (by omega)
 clear hx
 have hadd:=run_call_add (P:=Tryz.prog) Tryz.func44 (by kernel_rfl) (by kernel_rfl) (by kernel_rfl) .i64 (by kernel_rfl) (y:=1) (s:=x+1) hc hz (by simp[go_sem,hwr,hwi])
 go_enter Tryz.func24,Tryz.ntmps24
 go_wp2
 go_ret
 exact⟨⟨_,rfl⟩,rfl⟩
theorem R3(w:World)(r:Nat)(t:TypeId)(v:Value)(L:List Ln)(s f:Int)(h:nC w r t v L s f)(hf:0<=f/\f<=1000000):
  Calls Tryz.prog 51 #[.pointer (some ⟨r,0,none⟩)] w fun e w'=>e=.returned (.tuple #[])/\aM w' r (BC 0 v L.length (f+1)) t/\w.grownBy w' (some r):=by
 have hb:=h.blk
 obtain⟨ad,c,rfl⟩:=rU h.own
 have hw:IntKind.i64.wrap (f+1)=f+1:=gH (by omega) (by omega)
 have hb1:aM (w.setCell ⟨r,4,none⟩ (.int .i64 (f+1))) r (BC 0 (.slice ad L.length c) s (f+1)) t:=(hb.set 4 _).copy rfl
 have hg1:w.grownBy (w.setCell ⟨r,4,none⟩ (.int .i64 (f+1))) (some r):=ay (bH w _) 4 _
 have hb2:aM ((w.setCell ⟨r,4,none⟩ (.int .i64 (f+1))).setCell ⟨r,0,none⟩ (.int .i32 1)) r (BC 1 (.slice ad L.length c) s (f+1)) t:=(hb1.set 0 _).copy rfl
 have hg2:w.grownBy ((w.setCell ⟨r,4,none⟩ (.int .i64 (f+1))).setCell ⟨r,0,none⟩ (.int .i32 1)) (some r):=ay hg1 0 _
 have c2:((w.setCell ⟨r,4,none⟩ (.int .i64 (f+1))).setCell ⟨r,0,none⟩ (.int .i32 1)).cell? ⟨r,2,none⟩=some (.slice ad L.length c):=hb2.cell 2
 have c3:((w.setCell ⟨r,4,none⟩ (.int .i64 (f+1))).setCell ⟨r,0,none⟩ (.int .i32 1)).cell? ⟨r,3,none⟩=some (.int .i64 s):=hb2.cell 3
 have z3:((w.setCell ⟨r,4,none⟩ (.int .i64 (f+1))).setCell ⟨r,0,none⟩ (.int .i32 1)).frozen? ⟨r,3,none⟩=false:=hb2.frozen 3
 have HB:=yHd hb;have HB1:=yHd hb1;have HB2:=yHd hb2;have HG2:=yHd hg2;have HW:=yHd hw;have HF:=yHd hf
 clear hb hb1 hg1 hb2 hg2 h hf hw
 go_enter_defers Tryz.func51,Tryz.ntmps51
 go_wp2_with (first|(go_at_call 24;refine(Z9 ⟨r,4,none⟩ f HF.out _ (HB.out.cell 4) (HB.out.frozen 4)).mono ?_;rintro e w' ⟨⟨y,rfl⟩,rfl⟩)|(go_at_call 26;refine(lock_free ⟨r,0,none⟩ _ (HB1.out.cell 0) (HB1.out.frozen 0)).mono ?_;rintro e w' ⟨rfl,rfl⟩))
 have hb3:aM (((w.setCell ⟨r,4,none⟩ (.int .i64 (f+1))).setCell ⟨r,0,none⟩ (.int .i32 1)).setCell ⟨r,3,none⟩ (.int .i64 L.length)) r (BC 1 (.slice ad L.length c) L.length (f+1)) t:=(HB2.out.set 3 _).copy rfl
 have hg3:w.grownBy (((w.setCell ⟨r,4,none⟩ (.int .i64 (f+1))).setCell ⟨r,0,none⟩ (.int .i32 1)).setCell ⟨r,3,none⟩ (.int .i64 L.length)) (some r):=ay HG2.out 3 _
 refine leaves_cons (f:=27) (args:=#[.pointer (some ⟨r,0,none⟩)]) (by simp) (by simp[go_sem]) ?_
 refine(unlock_deferred ⟨r,0,none⟩ _ _ (hb3.cell 0) (hb3.frozen 0)).mono ?_
 rintro e u' w4 ⟨rfl,rfl,hw4⟩
 have hk4:aM w4 r (BC 0 (.slice ad L.length c) L.length (f+1)) t:=by rw[hw4];exact(hb3.set 0 _).copy rfl
 have hg4:w.grownBy w4 (some r):=by rw[hw4];exact ay hg3 0 _
 clear hw4
 simp[Leaves,settle,results,Tryz.results51]
 exact⟨hk4,hg4⟩
end
section
theorem bB9(L:List Ln)(h:∀x∈L,x.2.length=32):∀(j i:Nat),j<L.length->i<33->(J4 L)[j*33+i]?=(Value.int .i64 (L.getD j (0,[])).1::HL (L.getD j (0,[])).2)[i]?:=by
 induction L with
 |nil=>intro j i hj;simp at hj
 |cons x L ih=>
  intro j i hj hi
  have h1:=h x (by simp)
  have hl:(Value.int .i64 x.1::HL x.2).length=33:=by simp[gX,h1]
  have e:J4 (x::L)=(Value.int .i64 x.1::HL x.2)++J4 L:=rfl
  rw[e]
  cases j with
  |zero=>rw[Nat.zero_mul,Nat.zero_add,List.getElem?_append_left (by omega)];rfl
  |succ j=>
   rw[List.getElem?_append_right (by omega),hl,show(j+1)*33+i-33=j*33+i by omega,ih (fun y hy=>h y (by simp[hy])) j i (by simpa using hj) hi]
   simp
theorem bq6{L:List Ln}(hb:aM w r (BC mu v s f) t)(ho:w.ownsRow 0 154 33 v L.length (J4 L))(hl:∀x∈L,x.2.length=32):
  RA (fun _=>True) w (.sref (zY mu L s f) 0) (.pointer (some ⟨r,0,none⟩)):=by
 have hv:RA (fun _=>True) w (.recs L.length 33 (as3 L)) v:=by
  rcases ho.2 with⟨e1,e2⟩|⟨q,cap,cur,rfl,_,h5,h6,h7,h8,h9⟩
  ·rw[e1,e2]
   exact .recs (cs:=fun _=>[]) (fun j hj=>absurd hj (by omega)) (yLr _) (Nat.zero_le _) (fun _=>rfl) (.inl rfl)
  ·refine .recs (cs:=fun j=>.int .i64 (L.getD j (0,[])).1::HL (L.getD j (0,[])).2) (fun j hj=>?_) h6 h7 (fun e=>by cases e) (.inr ⟨q,0,rfl,fun j hj=>.inr ⟨q,0+j*33,rfl,trivial,(yAe.1 h5).1,fun i hi=>?_⟩⟩)
   ·have hm:L.getD j (0,[])∈L:=by rw[yGd,yGe hj];exact List.getElem_mem hj
    have:=RL.append (.fI (k:=.i64) (n:=1) (zs:=[(L.getD j (0,[])).1]) rfl rfl) (RL.ofBytes (S:=fun _=>True) (w:=w) (hl _ hm) rfl)
    exact this
   ·have hm:L.getD j (0,[])∈L:=by rw[yGd,yGe hj];exact List.getElem_mem hj
    have hi2:i<33:=by rw[List.length_cons,gX,hl _ hm]at hi;exact hi
    have hn:=FZ L hl
    rw[cell_of_row w q (0+j*33+i) cur _ (0,0) h5,Nat.zero_add]
    have:(cur.toList.take (L.length*33))[j*33+i]?=(J4 L)[j*33+i]?:=by rw[h9]
    rw[List.getElem?_take,if_pos (by omega),Array.getElem?_toList,bB9 L hl j i hj hi2]at this
    rw[this,yGe hi]
 have hv1:v.oneCell'=true:=by obtain⟨ad,c,rfl⟩:=rU ho;rfl
 have hR:RL (fun _=>True) w (zY mu L s f) (BC mu v s f).toList:=by
  have h1:=RL.append (.fI (k:=.i32) (n:=1) (zs:=[mu]) rfl rfl) (RL.append (.fI (k:=.u32) (n:=1) (zs:=[0]) rfl rfl) (RL.append (.iL (n:=1) rfl (.cons hv hv1 .nil)) (RL.fI (S:=fun _=>True) (w:=w) (k:=.i64) (n:=2) (zs:=[s,f]) rfl rfl)))
  exact h1
 refine .sref (off:=0) hR (.inr ⟨r,0,rfl,trivial,(yAe.1 hb).1,fun i hi=>?_⟩)
 rw[Nat.zero_add,fU hb i,yGe hi]
theorem GI(h:RA S w (.agg [.bytes 32 p]) v):v=.agg (HL p).toArray/\p.length=32:=by
 cases h with|agg k=>obtain⟨h1,rfl⟩:=k.iZ;exact⟨rfl,h1⟩
theorem ak4{L:List Ln}(e:Int)(hL:L.length<=1000000)(hb:aM w r (BC mu v s f) t)(ho:w.ownsRow 0 154 33 v L.length (J4 L))(hl:∀x∈L,x.2.length=32):
  Calls Tryz.prog 81 #[.pointer (some ⟨r,0,none⟩),.int .i64 e] w fun x w'=>x=.returned (.tuple #[HV (uI L e),.bool (vU L e)])/\Below w.heap.size w w':=by
 refine(find_ok mu L s f e hL (fun _=>True) w [.pointer (some ⟨r,0,none⟩),.int .i64 e] (fun q l h=>by cases h) (.cons (bq6 hb ho hl) (.cons (.v _) .nil))).mono ?_
 rintro x w' ⟨v',rfl,⟨vs,rfl,h2⟩,h3⟩
 cases h2 with
 |cons h2 h4=>cases h4 with
  |cons h4 h5=>cases h5;obtain⟨rfl,_⟩:=GI h2;cases h4;exact⟨rfl,h3⟩
theorem am7(L:List Ln)(h:∀x∈L,x.2.length=32)(e:Int):(uI L e).length=32:=by
 unfold uI
 split
 ·next x hx=>exact h x (List.mem_of_find?_eq_some hx)
 ·rfl
theorem Cb{row:Option Nat}(h:Below w.heap.size w w'):w.grownBy w' row:=⟨h.os,h.tape,h.output,h.size,fun k hk _=>h.block k hk⟩
theorem rG(w:World)(o:Obj)(row:Option Nat):w.grownBy (w.alloc o) row:=⟨rfl,rfl,rfl,by rw[size_alloc];omega,fun k hk _=>Below.heap_alloc _ _ _ hk⟩
theorem nC.grow{L:List Ln}(h:nC w r t v L s f)(hg:w.grownBy w' none):nC w' r t v L s f:=by
 have hb:aM w' r (BC 0 v s f) t:=(hg.block r h.blk.lt (by simp)).trans h.blk
 exact h.next hb ⟨hg.os,hg.tape,hg.output,hg.size,fun k hk hne=>hg.block k hk (by simp)⟩
structure nA(w:World)(r:Nat)(t:TypeId)(v:Value)(L:List Ln)(s f:Int):Prop where
 blk:aM w r (BC 1 v s f) t
 own:w.ownsRow 0 154 33 v L.length (J4 L)
 sep:v.ownBlock≠some r
 len:∀x∈L,x.2.length=32
theorem nA.of{L:List Ln}(h:nC w r t v L s f):nA (w.setCell ⟨r,0,none⟩ (.int .i32 1)) r t v L s f:=by
 have hb:aM (w.setCell ⟨r,0,none⟩ (.int .i32 1)) r (BC 1 v s f) t:=(h.blk.set 0 _).copy rfl
 have hg:w.grownBy (w.setCell ⟨r,0,none⟩ (.int .i32 1)) (some r):=ay (bH w _) 0 _
 refine⟨hb,⟨h.own.1,?_⟩,h.sep,h.len⟩
 rcases h.own.2 with h1|⟨q,cap,cur,e,h2,h3,h4⟩
 ·exact .inl h1
 ·refine .inr ⟨q,cap,cur,e,h2,?_,h4⟩
  rw[hg.block q (yAe.1 h3).1 (fun e2=>h.sep (by rw[e];cases e2;rfl))]
  exact h3
theorem nA.grow{L:List Ln}(h:nA w r t v L s f)(hg:w.grownBy w' none):nA w' r t v L s f:=by
 refine⟨(hg.block r h.blk.lt (by simp)).trans h.blk,⟨h.own.1,?_⟩,h.sep,h.len⟩
 rcases h.own.2 with h1|⟨q,cap,cur,e,h2,h3,h4⟩
 ·exact .inl h1
 ·exact .inr ⟨q,cap,cur,e,h2,(hg.block q (yAe.1 h3).1 (by simp)).trans h3,h4⟩
theorem nA.bG0{r g:Nat}{L:List Ln}(h:nA w r t v L s f)(hg:g≠r)(hv:v.ownBlock≠some g)(cs:Array Value):nA (w.setRow g cs) r t v L s f:=by
 refine⟨(setRow_other _ _ _ _ (Ne.symm hg)).trans h.blk,⟨h.own.1,?_⟩,h.sep,h.len⟩
 rcases h.own.2 with h1|⟨q,cap,cur,e,h2,h3,h4⟩
 ·exact .inl h1
 ·exact .inr ⟨q,cap,cur,e,h2,(setRow_other _ _ _ _ (fun e2=>hv (by rw[e,<-e2];rfl))).trans h3,h4⟩
theorem nA.lt{L:List Ln}(h:nA w r t v L s f):∀q,v.ownBlock=some q->q<w.heap.size:=by
 intro q hq
 rcases h.own.2 with⟨e1,e2⟩|⟨q',cap,cur,e,h2,h3,h4⟩
 ·rw[e1]at hq;cases hq
 ·rw[e]at hq;cases hq;exact(yAe.1 h3).1
theorem nA.find{L:List Ln}(h:nA w r t v L s f)(hL:L.length<=1000000)(e:Int):
  Calls Tryz.prog 81 #[.pointer (some ⟨r,0,none⟩),.int .i64 e] w fun x w'=>x=.returned (.tuple #[HV (uI L e),.bool (vU L e)])/\Below w.heap.size w w':=ak4 e hL h.blk h.own h.len
end
section
theorem nA.an3{L:List Ln}(h:nA w r t v L s f)(hb:Below w.heap.size w w'):nA w' r t v L s f:=h.grow (Cb hb)
theorem BF{P:Program}{ops:Array Oper}{rest:List Oper}(h:∀w1,w1=w->wpList P ops Q rest a w1):wpList P ops Q rest a w:=h w rfl
attribute [local go_sem] xP
end
section
def nH(e:Int)(p:List UInt8):Array Value:=(Value.int .i64 e::HL p).toArray
theorem SF(e:Int)(p:List UInt8)(hp:p.length=32):(nH e p).size=33:=by simp[nH,gX,hp]
theorem Wy{e:Int}{cs:Array Value}(h:RL D w [.ints .i64 1 [e],.bytes 32 p] cs.toList):cs=nH e p:=by
 obtain⟨c,d,h1,h2,h3,_⟩:=h.head
 obtain⟨_,rfl⟩:=h2.fB
 obtain⟨_,rfl⟩:=h3.iZ
 apply Array.toList_inj.1
 rw[h1];rfl
theorem Hl(e:Int)(hp:p.length=32):RL D w [.ints .i64 1 [e],.bytes 32 p] (nH e p).toList:=
 RL.append (.fI (k:=.i64) (n:=1) (zs:=[e]) rfl rfl) (RL.ofBytes hp rfl)
theorem LW:∃i,sV.Y 154=some i/\i.agg=true/\i.bY=0/\i.Ko=[(0,1),(1,32)]/\i.zero=[.ints .i64 1 [0],.bytes 32 (List.replicate 32 0)]/\i.sz=33/\i.bytes=40:=⟨_,rfl,rfl,rfl,rfl,rfl,rfl,rfl⟩
theorem Ro(e:Int)(hp:p.length=32):Tryz.prog.built 154 [(0,.int .i64 e),(1,.agg (HC p))]=some (nH e p):=by
 obtain⟨i,hY,ha,he,hpl,hz,_⟩:=LW
 obtain⟨f,z,h1,h2,_,h3,h4⟩:=(sV.hY _ i hY).info
 obtain⟨fs,k1,k2⟩:=(sV.hY _ i hY).Ko ha he
 rw[hz]at h4
 obtain⟨l',rfl,hf⟩:=lV (off:=fun q=>i.Ko[q]?) (s:=⟨[.d (.v (.int .i64 e)),.d (.agg [.bytes 32 p])],[]⟩) (parts:=[(0,.tmp 0),(1,.tmp 1)]) (l:=[.ints .i64 1 [0],.bytes 32 (List.replicate 32 0)]) (K:=fun l=>l=[.ints .i64 1 [e],.bytes 32 p]) (by rw[hpl];exact⟨by decide,rfl,rfl,by decide,rfl,rfl⟩)
 obtain⟨cs',h5,h6⟩:=hf (D:=fun _=>True) (w:=default) (ρ:=fun _=>none) (fun x=>match x with| .tmp 0=>.int .i64 e|_=>.agg (HC p)) z.cells (fun q hq=>by
  rcases List.mem_cons.1 hq with rfl|hq
  ·exact .v _
  ·rcases List.mem_cons.1 hq with rfl|hq
   ·exact .agg (.ofBytes hp rfl)
   ·cases hq) (cZ h4)
 rw[<-Wy h6]
 have h1':Tryz.prog.info? 154=some f:=h1
 have k1':Tryz.prog.underlying 154=some (.struct fs):=k1
 have k2':fs.toList.mapM (fun f=>(Tryz.prog.info? f.type).map fun j=>(f.offset,j.size))=some i.Ko:=k2
 unfold Program.built
 simp only[h1',k1',h3,k2']
 have e9:(fun x:Nat=>i.Ko.toArray[x]?)=fun q:Nat=>i.Ko[q]?:=by funext q;simp
 rw[e9]
 exact h5
theorem Uk(w:World)(e:Int)(hp:p.length=32):(Instr.buildSlice 90 1 #[(0,.agg (nH e p))]).run Tryz.prog w=.ok (.slice (some ⟨w.heap.size,0,none⟩) 1 1) (w.alloc (.cells (nH e p) 154)):=by
 obtain⟨i,hY,ha,he,hpl,hz,hsz,_⟩:=LW
 obtain⟨f,z,h1,h2,_,h3,h4⟩:=(sV.hY _ i hY).info
 have hfs:f.size=33:=h2.trans hsz
 rw[hz]at h4
 have hzr:=cZ (S:=fun _=>True) (w:=w) h4
 have hzl:z.cells.size=33:=by have:=hzr.len;simpa[dM,Seg.n]using this
 have hc:=uN z.cells (by omega) 1
 obtain⟨l',rfl,hf⟩:=lV (off:=fun q=>some (q*33,33)) (s:=⟨[.d (.agg [.ints .i64 1 [e],.bytes 32 p])],[]⟩) (parts:=[(0,.tmp 0)]) (l:=[.ints .i64 1 [0],.bytes 32 (List.replicate 32 0)]) (K:=fun l=>l=[.ints .i64 1 [e],.bytes 32 p]) ⟨by decide,rfl,rfl⟩
 obtain⟨cs',h5,h6⟩:=hf (D:=fun _=>True) (w:=w) (ρ:=fun _=>none) (fun x=>.agg (nH e p)) ((Array.range (1*f.size)).map (z.cells[·%z.cells.size]!)) (fun q hq=>by
  rcases List.mem_cons.1 hq with rfl|hq
  ·have:=RA.agg (Hl (D:=fun _=>True) (w:=w) e hp);exact this
  ·cases hq) (by rw[hfs,<-hzl,hc];simpa using hzr)
 rw[Wy h6]at h5
 have hu:Tryz.prog.underlying 90=some (.slice 154):=Tryz.underlying90
 exact run_buildSlice (P:=Tryz.prog) w 90 154 1 #[(0,.agg (nH e p))] (nH e p) f z hu h1 h3 (by rw[hfs];decide) (by rw[hfs];decide) (by rw[<-hfs]at h5;exact h5)
theorem Nr(w:World){L:List Ln}{g:Nat}(e:Int)(hp:p.length=32)(ty:TypeId)(hL:L.length<=1000)(ho:w.ownsRow 0 154 33 v L.length (J4 L))(hg:aM w g (nH e p) 154):
  ∃v' w',(Builtin.append_ #[90,90] ty #[v,.slice (some ⟨g,0,none⟩) 1 1]).run Tryz.prog w=.ok v' w'/\w'.ownsRow 0 154 33 v' (L.length+1) (J4 (L++[(e,p)]))/\w.grownBy w' v.ownBlock/\(v'.ownBlock=v.ownBlock\/v'.ownBlock=some w.heap.size):=by
 obtain⟨i,hY,ha,he,hpl,hz,hsz,hby⟩:=LW
 obtain⟨f,z,h1,h2,h2b,h3,h4⟩:=(sV.hY _ i hY).info
 have hfs:f.size=33:=h2.trans hsz
 rw[hz]at h4
 have hzr:=cZ (S:=fun _=>True) (w:=w) h4
 have hzl:z.cells.size=33:=by have:=hzr.len;simpa[dM,Seg.n]using this
 obtain⟨v',w',k1,k2,k3,_,k5⟩:=run_append_own_at (P:=Tryz.prog) w 0 90 ty 154 f z 33 40 Tryz.underlying90 h1 h3 hfs (h2b.trans hby) hzl (by decide) v L.length (J4 L) ho ⟨g,0,none⟩ 1 1 (nH e p).toList (by rw[Array.length_toList,SF e p hp]) (fun j u hu=>by
   rw[mP,Nat.zero_add,hg.cell j,<-Array.getElem?_toList];exact hu) (Hl (D:=fun _=>True) (w:=w) e hp).one (by unfold maxLen;omega) (by omega) (Nat.zero_le _)
 refine⟨v',w',k1,?_,k3,k5⟩
 have:J4 (L++[(e,p)])=J4 L++(nH e p).toList:=by simp[J4,nH]
 rw[this];exact k2
end
section
def bN1(r:Nat)(V:Value)(e:Int)(p:List UInt8):Nat->Option Value
 |0=>some (.pointer (some ⟨r,0,none⟩))
 |1=>some (.pointer (some ⟨r,0,none⟩))
 |2=>some (.pointer (some ⟨r,0,none⟩))
 |3=>some (.pointer (some ⟨r,2,none⟩))
 |4=>some V
 |5=>some (.int .i64 e)
 |6=>some (.agg (HC p))
 |7=>some (.agg (nH e p))
 |10=>some (.pointer (some ⟨r,0,none⟩))
 |11=>some (.pointer (some ⟨r,2,none⟩))
 |_=>none
structure JB(w3:World)(r A0:Nat)(t:TypeId)(V:Value)(L:List Ln)(s f e:Int)(p:List UInt8)(S:Nat->Bool)(vals:Nat->Value)(w:World):Prop where
 grown:bX (fun k=>k=r\/V.ownBlock=some k) w3 w
 paper:aM w A0 (HC p) 28
 val:∀k x,S k=true->bN1 r V e p k=some x->vals k=x
 x8:S 8=true->∃g,vals 8=.slice (some ⟨g,0,none⟩) 1 1/\aM w g (nH e p) 154/\w3.heap.size<=g
 old:S 9=false->w.ownsRow 0 154 33 V L.length (J4 L)
 new:S 9=true->w.ownsRow 0 154 33 (vals 9) (L.length+1) (J4 (L++[(e,p)]))/\((vals 9).ownBlock=V.ownBlock\/∃q,(vals 9).ownBlock=some q/\w3.heap.size<=q)
 uq:S 12=false->aM w r (BC 1 V s f) t
 ab4:S 12=true->aM w r (BC 1 (vals 9) s f) t
 seq:S 12=true->S 9=true
section
variable {w3 : World} {r A0 : Nat} {t : TypeId} {V : Value} {L : List Ln} {s f e : Int} {p : List UInt8} {S : Nat -> Bool} {vals : Nat -> Value} {w : World}
theorem gG(vals:Nat->Value)(i:Nat)(x:Value){k:Nat}(h:k≠i):(if k=i then x else vals k)=vals k:=if_neg h
theorem JB.pure(h:JB w3 r A0 t V L s f e p S vals w){i:Nat}(hc:bN1 r V e p i=some x):JB w3 r A0 t V L s f e p (add1 S i) (fun j=>if j=i then x else vals j) w:=by
 have n8:8≠i:=by rintro rfl;cases hc
 have n9:9≠i:=by rintro rfl;cases hc
 have n12:12≠i:=by rintro rfl;cases hc
 have s8:=aA S n8;have s9:=aA S n9;have s12:=aA S n12
 have v8:=gG vals i x n8;have v9:=gG vals i x n9
 refine⟨h.grown,h.paper,fun k y hk hy=>?_,fun hk=>?_,fun hk=>?_,fun hk=>?_,fun hk=>?_,fun hk=>?_,fun hk=>?_⟩
 ·by_cases e1:k=i
  ·subst e1;rw[hc]at hy;cases hy;exact if_pos rfl
  ·rw[aA S e1]at hk;rw[gG vals i x e1];exact h.val k y hk hy
 ·rw[s8]at hk;rw[v8];exact h.x8 hk
 ·rw[s9]at hk;exact h.old hk
 ·rw[s9]at hk;rw[v9];exact h.new hk
 ·rw[s12]at hk;exact h.uq hk
 ·rw[s12]at hk;rw[v9];exact h.ab4 hk
 ·rw[s12]at hk;rw[s9];exact h.seq hk
theorem uT{xs:List Value}(h:w.ownsRow 0 154 33 v n xs)(hk:∀q,v.ownBlock=some q->q<w.heap.size->w'.heap[q]?=w.heap[q]?):w'.ownsRow 0 154 33 v n xs:=by
 refine⟨h.1,?_⟩
 rcases h.2 with h1|⟨q,cap,cur,e,h2,h3,h4⟩
 ·exact .inl h1
 ·exact .inr ⟨q,cap,cur,e,h2,(hk q (by rw[e];rfl) (yAe.1 h3).1).trans h3,h4⟩
theorem JB.alloc(h:JB w3 r A0 t V L s f e p S vals w)(h9:S 9=false)(h12:S 12=false):JB w3 r A0 t V L s f e p (add1 S 8) (fun j=>if j=8 then .slice (some ⟨w.heap.size,0,none⟩) 1 1 else vals j) (w.alloc (.cells (nH e p) 154)):=by
 have s9:=aA S (show 9≠8 by decide);have s12:=aA S (show 12≠8 by decide)
 have ka:∀q,q<w.heap.size->(w.alloc (.cells (nH e p) 154)).heap[q]?=w.heap[q]?:=fun q hq=>Below.heap_alloc _ _ _ hq
 refine⟨⟨h.grown.os,h.grown.tape,h.grown.output,by rw[size_alloc];have:=h.grown.size;omega,fun k hk hn=>(ka k (yLl hk h.grown.size)).trans (h.grown.block k hk hn)⟩,(ka _ h.paper.lt).trans h.paper,fun k y hk hy=>?_,fun _=>⟨w.heap.size,if_pos rfl,heap_alloc_new _ _,h.grown.size⟩,fun hk=>uT (h.old h9) fun q _ hq=>ka q hq,fun hk=>?_,fun hk=>(ka _ (h.uq h12).lt).trans (h.uq h12),fun hk=>?_,fun hk=>?_⟩
 ·have e1:k≠8:=by rintro rfl;cases hy
  rw[aA S e1]at hk;rw[gG vals 8 _ e1];exact h.val k y hk hy
 ·rw[s9,h9]at hk;cases hk
 ·rw[s12,h12]at hk;cases hk
 ·rw[s12,h12]at hk;cases hk
theorem JB.app(h:JB w3 r A0 t V L s f e p S vals w)(h9:S 9=false)(h12:S 12=false){v':Value}(hown:w'.ownsRow 0 154 33 v' (L.length+1) (J4 (L++[(e,p)])))(hg:w.grownBy w' V.ownBlock)(hv:v'.ownBlock=V.ownBlock\/v'.ownBlock=some w.heap.size)(h1:V.ownBlock≠some r)(h2:V.ownBlock≠some A0)(h3:∀q,V.ownBlock=some q->q<w3.heap.size):
  JB w3 r A0 t V L s f e p (add1 S 9) (fun j=>if j=9 then v' else vals j) w':=by
 have s8:=aA S (show 8≠9 by decide);have s12:=aA S (show 12≠9 by decide)
 have ka:∀q,q<w.heap.size->V.ownBlock≠some q->w'.heap[q]?=w.heap[q]?:=fun q hq hn=>hg.block q hq (fun e=>hn e.symm)
 have hm:∀q,V.ownBlock=some q->q<w3.heap.size:=h3
 refine⟨⟨hg.os.trans h.grown.os,hg.tape.trans h.grown.tape,hg.output.trans h.grown.output,yLt h.grown.size hg.size,fun k hk hn=>(ka k (yLl hk h.grown.size) (fun e=>hn (.inr e))).trans (h.grown.block k hk hn)⟩,(ka _ h.paper.lt h2).trans h.paper,fun k y hk hy=>?_,fun hk=>?_,fun hk=>?_,fun _=>?_,fun hk=>(ka _ (h.uq h12).lt h1).trans (h.uq h12),fun hk=>?_,fun _=>jc S 9⟩
 ·have e1:k≠9:=by rintro rfl;cases hy
  rw[aA S e1]at hk;rw[gG vals 9 _ e1];exact h.val k y hk hy
 ·rw[s8]at hk
  obtain⟨g,k1,k2,k3⟩:=h.x8 hk
  refine⟨g,by rw[gG vals 9 _ (show 8≠9 by decide)];exact k1,(ka g k2.lt (fun e=>?_)).trans k2,k3⟩
  have:=hm g e;omega
 ·rw[jc]at hk;cases hk
 ·show World.ownsRow w' 0 _ 33 v' _ _/\(v'.ownBlock=V.ownBlock\/_)
  refine⟨hown,hv.imp id fun e=>⟨_,e,h.grown.size⟩⟩
 ·rw[s12,h12]at hk;cases hk
theorem JB.store(h:JB w3 r A0 t V L s f e p S vals w)(h9:S 9=true)(h12:S 12=false)(hA:A0≠r)(hr:r<w3.heap.size)(h1:V.ownBlock≠some r)(x:Value):JB w3 r A0 t V L s f e p (add1 S 12) (fun j=>if j=12 then x else vals j) (w.setCell ⟨r,2,none⟩ (vals 9)):=by
 have s8:=aA S (show 8≠12 by decide);have s9:=aA S (show 9≠12 by decide)
 have v8:=gG vals 12 x (show 8≠12 by decide);have v9:=gG vals 12 x (show 9≠12 by decide)
 have ka:∀q,q≠r->(w.setCell ⟨r,2,none⟩ (vals 9)).heap[q]?=w.heap[q]?:=fun q hq=>heap_setCell_other w ⟨r,2,none⟩ q _ hq
 have hs:(w.setCell ⟨r,2,none⟩ (vals 9)).heap.size=w.heap.size:=by simp[World.setCell]
 have hb:aM (w.setCell ⟨r,2,none⟩ (vals 9)) r (BC 1 (vals 9) s f) t:=((h.uq h12).set 2 _).copy rfl
 obtain⟨n1,n2⟩:=h.new h9
 have hnr:∀q,(vals 9).ownBlock=some q->q≠r:=fun q hq e1=>by
  subst e1
  rcases n2 with n2|⟨q',n2,n3⟩
  ·rw[n2]at hq;exact h1 hq
  ·rw[n2]at hq;cases hq;omega
 refine⟨⟨h.grown.os,h.grown.tape,h.grown.output,by rw[hs];exact h.grown.size,fun k hk hn=>(ka k (fun e=>hn (.inl e))).trans (h.grown.block k hk hn)⟩,(ka _ hA).trans h.paper,fun k y hk hy=>?_,fun hk=>?_,fun hk=>?_,fun _=>?_,fun hk=>?_,fun _=>by rw[v9];exact hb,fun _=>by rw[s9];exact h9⟩
 ·have e1:k≠12:=by rintro rfl;cases hy
  rw[aA S e1]at hk;rw[gG vals 12 _ e1];exact h.val k y hk hy
 ·rw[s8]at hk
  obtain⟨g,k1,k2,k3⟩:=h.x8 hk
  exact⟨g,by rw[v8];exact k1,(ka g (by omega)).trans k2,k3⟩
 ·rw[s9,h9]at hk;cases hk
 ·rw[v9]
  exact⟨uT n1 fun q hq _=>ka q (hnr q hq),n2⟩
 ·rw[jc]at hk;cases hk
end
end
section
attribute [local go_sem] xP
theorem jX{P:Program}{ops:Array Oper}{w w2:World}{F:Value->World->Prop}(hg:o.guard=none)(h:(execOp a.eval o).run P w=.ok (.value v) w2)(hF:F (keeps o.dst v) w2):mX P ops (fun _ _=>True) o a w F:=by
 unfold mX
 simp only[Region.wanted,hg,h,if_true]
 exact⟨trivial,hF⟩
theorem ay0{P:Program}{ops:Array Oper}{w w2:World}{F:Value->World->Prop}(hg:o.guard=none)(h:(execOp a.eval o).run P w=.ok .skip w2)(hF:F undef w2):mX P ops (fun _ _=>True) o a w F:=by
 unfold mX
 simp only[Region.wanted,hg,h,if_true]
 exact⟨trivial,hF⟩
theorem bX.trans{X:Nat->Prop}{a b c:World}(h:bX X a b)(k:bX X b c):bX X a c:=⟨k.os.trans h.os,k.tape.trans h.tape,k.output.trans h.output,yLt h.size k.size,fun q hq hn=>(k.block q (yLl hq h.size) hn).trans (h.block q hq hn)⟩
theorem bX.ofBy{X:Nat->Prop}{a b:World}(h:a.grownBy b (some r))(hr:X r):bX X a b:=⟨h.os,h.tape,h.output,h.size,fun k hk hn=>h.block k hk (fun e=>hn (by cases e;exact hr))⟩
theorem ZI (w : World) (r : Nat) (t : TypeId) (v : Value) (L : List Ln) (s f e : Int) (p : List UInt8) (hp : p.length = 32) (h0 : 0 <= e) (h1 : e <= 1099511627776) (hL : L.length <= 1000000) (hh : vU L e = false) (hfull : L.length < 100) (h : nC w r t v L s f) :
    Calls Tryz.prog 50 #[.pointer (some ⟨r, 0, none⟩), .int .i64 e, .agg (HC p)] w fun x w' => x = .returned (.int .i64 0) /\ ∃ v', nC w' r t v' (L ++ [(e, p)]) s f /\ (v'.ownBlock = v.ownBlock \/ ∃ q, v'.ownBlock = some q /\ w.heap.size <= q) /\ bX (fun k => k = r \/ v.ownBlock = some k) w w' := by
  have hlen := am7 L h.len e
  have hsz : (Tryz.prog.info? 28).map (·.size) = some (HC (uI L e)).size := by rw [dO, hlen]; kernel_rfl
  have hsz2 : (HC (List.replicate 32 (0 : UInt8))).size = (HC (uI L e)).size := by rw [dO, dO, hlen]; rfl
  have aR3 : (Tryz.prog.info? 28).map (·.size) = some (HC p).size := by rw [dO, hp]; kernel_rfl
  have hA := h.grow (rG w (.cells (HC p) 28) none)
  have he2 : ¬ e < 0 := by omega
  have he3 : ¬ e > 1099511627776 := by omega
  obtain ⟨ad, c, rfl⟩ := rU h.own
  have hge : (L.length : Int) < 100 := by omega
  have S1 := yHd hsz; have S2 := yHd hsz2; have S3 := yHd aR3; have HP := yHd hp; have HF := yHd hfull
  have HH := yHd h; have HLL := yHd hL; have HA := yHd hA
  clear h hL hlen hsz hsz2 aR3 h0 h1 hp hA hfull
  go_enter_defers Tryz.func50, Tryz.ntmps50
  go_wp2_with fail
  go_at_call 26
  refine (lock_free ⟨r, 0, none⟩ _ (HA.out.blk.cell 0) (HA.out.blk.frozen 0)).mono ?_
  rintro x1 w1 ⟨rfl, hw1⟩
  have hL1 : nA w1 r t (.slice ad L.length c) L s f := by rw [hw1]; exact nA.of HA.out
  have Vz : aM w1 w.heap.size (HC p) 28 := by
    rw [hw1]
    exact (aM.newAt _ _ rfl).other _ _ (by have := HH.out.blk.lt; show w.heap.size ≠ r; omega)
  have hG1 : w.grownBy w1 (some r) := by rw [hw1]; exact ay (rG w _ _) 0 _
  have HL1 := yHd hL1; have HR1 := yHd Vz; have KY := yHd hG1
  clear hw1 hL1 Vz hG1
  go_wp2_with fail
  go_at_call 81
  refine (HL1.out.find HLL.out e).mono ?_
  rintro x2 w2 ⟨rfl, hb2⟩
  have hL2 := (HL1.out.grow (Cb hb2)).grow (rG w2 (.cells (HC (List.replicate 32 (0 : UInt8))) 28) none)
  have hR2 : aM (w2.alloc (.cells (HC (List.replicate 32 (0 : UInt8))) 28)) w.heap.size (HC p) 28 := (HR1.out.keep hb2).keep ((Below.refl _ _).alloc (yLr _) _)
  have VA : aM (w2.alloc (.cells (HC (List.replicate 32 (0 : UInt8))) 28)) w2.heap.size (HC (List.replicate 32 (0 : UInt8))) 28 := aM.newAt _ _ rfl
  have hG2 : w.grownBy (w2.alloc (.cells (HC (List.replicate 32 (0 : UInt8))) 28)) (some r) := gQ (gQ KY.out (Cb hb2)) (rG w2 _ _)
  have hn1 : w.heap.size < w2.heap.size := yLl HR1.out.lt hb2.size
  have hn2 : r < w.heap.size := HH.out.blk.lt
  have hvn : (Value.slice ad L.length c).ownBlock ≠ some w2.heap.size := fun e => by have := (HL1.out.grow (Cb hb2)).lt _ e; omega
  have HL2 := yHd hL2; have HR2 := yHd hR2; have HR3 := yHd VA; have HG2 := yHd hG2; have HN1 := yHd hn1; have HN2 := yHd hn2; have HVN := yHd hvn
  clear hb2 hL2 hR2 VA hG2 hn1 hn2 hvn
  go_wp2_with (first
    | (refine wpList_store_row rfl 28 _ _ rfl w2.heap.size (HC (uI L e)) rfl rfl 28 (HC (List.replicate 32 0)) HR3.out S1.out S2.out (wh _) ?_
       refine BF (fun w3 hw3 => ?_)
       have hL3 : nA w3 r t (.slice ad L.length c) L s f := by rw [hw3]; exact HL2.out.bG0 (by have := HN1.out; have := HN2.out; omega) HVN.out (HC (uI L e))
       have hR4 : aM w3 w.heap.size (HC p) 28 := by rw [hw3]; exact (setRow_other _ _ _ _ (by have := HN1.out; omega)).trans HR2.out
       have hR5 : aM w3 w2.heap.size (HC (uI L e)) 28 := by rw [hw3]; exact HR3.out.setRow _
       have hG3 : w.grownBy w3 (some r) := by rw [hw3]; exact kN HG2.out _ (.inl (Nat.le_of_lt HN1.out))
       have c2 : w3.cell? ⟨r, 2, none⟩ = some (.slice ad L.length c) := hL3.blk.cell 2
       have HL3 := yHd hL3; have HR4 := yHd hR4; have HR5 := yHd hR5; have HG3 := yHd hG3
       clear hw3 hL3 hR4 hR5 hG3)
    | (refine ko rfl ?_; refine wpList_load_row rfl 28 _ rfl w2.heap.size rfl 28 (HC (uI L e)) (0, 0) _ HR5.out Tryz.underlying28 rfl S1.out ?_)
    | (refine ko rfl ?_; refine wpList_load_row rfl 28 _ rfl w.heap.size rfl 28 (HC p) (0, 0) _ HR4.out Tryz.underlying28 rfl S3.out ?_))
  have aR2 : ∀ {S : Nat -> Bool}, (∀ k, S k = true -> ∀ j ∈ ([[], [], [1], [2], [3], [], [], [5, 6], [7], [4, 8], [0, 9], [10], [11, 9]] : List (List Nat)).getD k [], S j = true) -> S 9 = false -> S 12 = false := fun {S} hcl h9 => by
    cases h : S 12 with
    | false => rfl
    | true => have := hcl 12 h 9 (by simp); rw [h9] at this; cases this
  have hA0 : w.heap.size ≠ r := by have := HN2.out; omega
  have hV1 : (Value.slice ad L.length c).ownBlock ≠ some r := HL3.out.sep
  have hV2 : (Value.slice ad L.length c).ownBlock ≠ some w.heap.size := fun e => by have h := HH.out.own.2; rcases h with ⟨e1, _⟩ | ⟨q, cap, cur, e1, _, h5, _⟩ <;> rw [e1] at e <;> cases e; exact absurd (yAe.1 h5).1 (Nat.lt_irrefl _)
  have hV3 := HL3.out.lt
  have hr3 : r < w3.heap.size := HL3.out.blk.lt
  refine ku (JB w3 r w.heap.size t (.slice ad L.length c) L s f e p) [[], [], [1], [2], [3], [], [], [5, 6], [7], [4, 8], [0, 9], [10], [11, 9]] (by kernel_rfl) (by kernel_rfl) (by kernel_rfl)
    ⟨⟨rfl, rfl, rfl, yLr _, fun _ _ _ => rfl⟩, HR4.out.drew, (fun k x hk => Bool.noConfusion hk), (fun hk => Bool.noConfusion hk), (fun _ => HL3.out.own), (fun hk => Bool.noConfusion hk), (fun _ => HL3.out.blk.drew), (fun hk => Bool.noConfusion hk), (fun hk => Bool.noConfusion hk)⟩ ?_ ?_
  · refine ⟨?_, ?_, ?_, ?_, ?_, ?_, ?_, ?_, ?_, ?_, ?_, ?_, ?_, trivial⟩
    · intro S vals wj hJ fK hD hcl
      refine jX rfl ?_ (hJ.pure (i := 0) rfl)
      simp [execOp, aG, Act.put, Act.eval, Instr.fieldAt, go_sem]
    · intro S vals wj hJ fK hD hcl
      refine jX rfl ?_ (hJ.pure (i := 1) rfl)
      simp [execOp, aG, Act.put, Act.eval, Instr.fieldAt, go_sem]
    · intro S vals wj hJ fK hD hcl
      have d1 := hJ.val 1 _ (hD 1 (by simp)) rfl
      refine jX rfl ?_ (hJ.pure (i := 2) rfl)
      simp [execOp, aG, Act.put, Act.eval, Instr.fieldAt, go_sem, d1]
    · intro S vals wj hJ fK hD hcl
      have d2 := hJ.val 2 _ (hD 2 (by simp)) rfl
      refine jX rfl ?_ (hJ.pure (i := 3) rfl)
      simp [execOp, aG, Act.put, Act.eval, Instr.fieldAt, go_sem, d2]
    · intro S vals wj hJ fK hD hcl
      have d3 := hJ.val 3 _ (hD 3 (by simp)) rfl
      have h9 : S 9 = false := by cases h : S 9 with | false => rfl | true => have := hcl 9 h 4 (by simp); rw [fK] at this; cases this
      have c9 : wj.cell? ⟨r, 2, none⟩ = some (.slice ad L.length c) := (hJ.uq (aR2 hcl h9)).cell 2
      refine jX rfl ?_ (hJ.pure (i := 4) rfl)
      simp [execOp, aG, Act.put, Act.eval, go_sem, d3, c9]
    · intro S vals wj hJ fK hD hcl
      refine jX rfl ?_ (hJ.pure (i := 5) rfl)
      simp [execOp, aG, Act.put, Act.eval, Instr.fieldAt, go_sem]
    · intro S vals wj hJ fK hD hcl
      have := run_loadVar_row (P := Tryz.prog) wj w.heap.size 28 28 (HC p) (0, 0) _ hJ.paper Tryz.underlying28 rfl S3.out
      exact jX rfl (gq rfl (by simp [aG, Act.put, Act.eval]) this) (hJ.pure (i := 6) rfl)
    · intro S vals wj hJ fK hD hcl
      have d5 := hJ.val 5 _ (hD 5 (by simp)) rfl
      have d6 := hJ.val 6 _ (hD 6 (by simp)) rfl
      refine jX rfl ?_ (hJ.pure (i := 7) rfl)
      have := run_build wj 154 _ _ (Ro e HP.out)
      simp [execOp, aG, Act.put, Act.eval, d5, d6, this, Sem.run_bind]
    · intro S vals wj hJ fK hD hcl
      have d7 := hJ.val 7 _ (hD 7 (by simp)) rfl
      have h9 : S 9 = false := by cases h : S 9 with | false => rfl | true => have := hcl 9 h 8 (by simp); rw [fK] at this; cases this
      refine jX rfl ?_ (hJ.alloc h9 (aR2 hcl h9))
      have := Uk wj e HP.out
      simp [execOp, aG, Act.put, Act.eval, d7, this, Sem.run_bind]
    · intro S vals wj hJ fK hD hcl
      have d4 := hJ.val 4 _ (hD 4 (by simp)) rfl
      obtain ⟨g, k1, k2, k3⟩ := hJ.x8 (hD 8 (by simp))
      obtain ⟨v', wn, k4, k5, k6, k7⟩ := Nr wj e HP.out 90 (by have := HF.out; omega) (hJ.old fK) k2
      refine jX rfl ?_ (hJ.app fK (aR2 hcl fK) k5 k6 k7 hV1 hV2 hV3)
      simp [execOp, aG, Act.put, Act.eval, d4, k1, resolve, invoke, builtin, k4, Sem.run_bind]
    · intro S vals wj hJ fK hD hcl
      have d0 := hJ.val 0 _ (hD 0 (by simp)) rfl
      refine jX rfl ?_ (hJ.pure (i := 10) rfl)
      simp [execOp, aG, Act.put, Act.eval, Instr.fieldAt, go_sem, d0]
    · intro S vals wj hJ fK hD hcl
      have RO := hJ.val 10 _ (hD 10 (by simp)) rfl
      refine jX rfl ?_ (hJ.pure (i := 11) rfl)
      simp [execOp, aG, Act.put, Act.eval, Instr.fieldAt, go_sem, RO]
    · intro S vals wj hJ fK hD hcl
      have d11 := hJ.val 11 _ (hD 11 (by simp)) rfl
      have z9 := (hJ.uq fK).frozen 2
      have z8 : wj.cell? ⟨r, 2, none⟩ = some (.slice ad L.length c) := (hJ.uq fK).cell 2
      obtain ⟨ad9, c9, hv9⟩ := rU (hJ.new (hD 9 (by simp))).1
      refine ay0 rfl ?_ (hJ.store (hD 9 (by simp)) fK hA0 hr3 hV1 undef)
      simp [execOp, aG, Act.put, Act.eval, go_sem, d11, z9, z8, hv9]
  · intro vals wz hJ
    have e0 := hJ.val 0 _ rfl rfl
    have e1 := hJ.val 1 _ rfl rfl
    have e2 := hJ.val 2 _ rfl rfl
    have e3 := hJ.val 3 _ rfl rfl
    have e4 := hJ.val 4 _ rfl rfl
    have e5 := hJ.val 5 _ rfl rfl
    have e6 := hJ.val 6 _ rfl rfl
    have e7 := hJ.val 7 _ rfl rfl
    have e10 := hJ.val 10 _ rfl rfl
    have e11 := hJ.val 11 _ rfl rfl
    obtain ⟨n1, n2⟩ := hJ.new rfl
    have n3 := hJ.ab4 rfl
    have n4 := hJ.grown
    have ao3 : (L ++ [(e, p)]).length = L.length + 1 := by simp
    have hok : ∀ x ∈ L ++ [(e, p)], x.2.length = 32 := by
      intro x hx
      rcases List.mem_append.1 hx with hx | hx
      · exact HH.out.len x hx
      · rcases List.mem_cons.1 hx with rfl | hx
        · exact HP.out
        · cases hx
    generalize hV9 : vals 9 = V9 at n1 n2 n3
    have N1 := yHd n1; have N2 := yHd n2; have N3 := yHd n3; have N4 := yHd n4; have HOK := yHd hok; have H1 := yHd hV1
    clear n1 n2 n3 n4 hok hJ hV1 hV2 hV3 hr3 hA0 aR2 ao3
    simp [aG, List.range, List.range.loop, Act.put, e0, e1, e2, e3, e4, e5, e6, e7, e10, e11, hV9]
    clear hV9 e0 e1 e2 e3 e4 e5 e6 e7 e10 e11
    go_wp2_with fail
    refine leaves_cons (f := 27) (args := #[.pointer (some ⟨r, 0, none⟩)]) (by simp) (by simp [go_sem]) ?_
    refine (unlock_deferred ⟨r, 0, none⟩ _ _ (N3.out.cell 0) (N3.out.frozen 0)).mono ?_
    rintro x4 u' w4 ⟨rfl, rfl, hw4⟩
    have hr3 : r < w3.heap.size := HL3.out.blk.lt
    have hk4 : aM w4 r (BC 0 V9 s f) t := by rw [hw4]; exact (N3.out.set 0 _).copy rfl
    have hg4 : wz.grownBy w4 (some r) := by rw [hw4]; exact ay (bH wz _) 0 _
    have hsep : V9.ownBlock ≠ some r := fun e1 => by
      rcases N2.out with e2 | ⟨q, e2, e3⟩
      · rw [e2] at e1; exact H1.out e1
      · rw [e2] at e1; cases e1; omega
    have hbw : nC w4 r t V9 (L ++ [(e, p)]) s f := by
      refine ⟨hk4, ?_, hsep, HOK.out⟩
      have e1 : (L ++ [(e, p)]).length = L.length + 1 := by simp
      rw [e1]
      exact uT N1.out fun q hq hlt => hg4.block q hlt (fun e2 => hsep (by cases e2; exact hq))
    have hgw : bX (fun k => k = r \/ (Value.slice ad L.length c).ownBlock = some k) w w4 := ((bX.ofBy HG3.out (.inl rfl)).trans N4.out).trans (.ofBy hg4 (.inl rfl))
    have hnb : V9.ownBlock = (Value.slice ad L.length c).ownBlock \/ ∃ q, V9.ownBlock = some q /\ w.heap.size <= q := N2.out.imp id fun ⟨q, e2, e3⟩ => ⟨q, e2, yLt HG3.out.size e3⟩
    clear hw4
    simp [Leaves, settle, results, Tryz.results50]
    exact ⟨V9, hbw, hnb, hgw⟩
end
section
def VP(n s:Nat)(keep:Int):Nat:=s+min keep.toNat (n-s)
def bN2(r:Nat)(V:Value)(n s:Nat)(keep:Int):Nat->Option Value
 |0=>some (.pointer (some ⟨r,0,none⟩))
 |1=>some (.pointer (some ⟨r,0,none⟩))
 |2=>some (.pointer (some ⟨r,3,none⟩))
 |3=>some (.int .i64 s)
 |4=>some (.int .i64 keep)
 |5=>some (.int .i64 (max keep 0))
 |6=>some (.pointer (some ⟨r,0,none⟩))
 |7=>some (.pointer (some ⟨r,0,none⟩))
 |8=>some (.pointer (some ⟨r,2,none⟩))
 |9=>some V
 |10=>some (.int .i64 n)
 |11=>some (.pointer (some ⟨r,0,none⟩))
 |12=>some (.pointer (some ⟨r,0,none⟩))
 |13=>some (.pointer (some ⟨r,3,none⟩))
 |14=>some (.int .i64 s)
 |15=>some (.int .i64 ((n:Int) -s))
 |16=>some (.int .i64 (min (max keep 0) ((n:Int) -s)))
 |17=>some (.int .i64 (VP n s keep))
 |18=>some (.int .i64 (VP n s keep))
 |_=>none
structure JC(w0:World)(r:Nat)(V:Value)(n s:Nat)(keep:Int)(S:Nat->Bool)(vals:Nat->Value)(w:World):Prop where
 w:w=w0
 val:∀k x,S k=true->bN2 r V n s keep k=some x->vals k=x
theorem JC.pure{w0:World}{V:Value}{n s:Nat}{keep:Int}{S:Nat->Bool}{vals:Nat->Value}(h:JC w0 r V n s keep S vals w){i:Nat}(hc:bN2 r V n s keep i=some x):JC w0 r V n s keep (add1 S i) (fun j=>if j=i then x else vals j) w:=by
 refine⟨h.w,fun k y hk hy=>?_⟩
 by_cases e1:k=i
 ·subst e1;rw[hc]at hy;cases hy;exact if_pos rfl
 ·rw[aA S e1]at hk;show(if k=i then x else vals k)=y;rw[if_neg e1];exact h.val k y hk hy
end
end Go.Proofs.YtegalalmamofdaaGreatDoor
