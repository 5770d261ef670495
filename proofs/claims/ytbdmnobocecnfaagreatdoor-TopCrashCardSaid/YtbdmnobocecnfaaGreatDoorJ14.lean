/-
  Keys: what two keys share, the program's and the document's; the document's keys.
-/
import Derived.Test.YtbdmnobocecnfaaGreatDoorJ13
import Derived.Laws.ResultCell
import Derived.Test.YtbdmnobocecnfaaGreatDoorJ10
namespace Go.Proofs.YtbdmnobocecnfaaGreatDoor
set_option linter.unusedVariables false
set_option linter.unusedSimpArgs false
set_option maxRecDepth 100000
open Go.RowKit
section
open Pm
theorem results_row_tmp{P:Program}{fn:Func}{p u:Tmp}{ty:TypeId}(h:fn.results=#[.cell p ty,.tmp u])(tmps:Array Value)(w:World)(g:Nat)(t:TypeId)(cs:Array Value)(fr:Nat×Nat)(d:TypeDesc)(v2:Value)(hv2:tmps.getD u undef=v2)
  (hp:tmps.getD p undef=.pointer (some ⟨g,0,none⟩))(hg:w.heap[g]?=some (.cells cs t fr))
  (hu:P.underlying ty=some d)(hd:(match d with| .struct _| .array _ _=>true|_=>false)=true)(hi:(P.info? ty).map (·.size)=some cs.size):
  (results fn tmps).run P w=.ok (.tuple #[.agg cs,v2]) w:=by
 rw[results_cell_tmp h,hp,hv2]
 simp[asAddr,run_loadVar_row w g t ty cs fr d hg hu hd hi,Result.andThen]
theorem iadd_w(a:Addr)(x:Int)(w:World)(hc:w.cell? a=some (.int .i64 x))(hz:w.frozen? a=false):
  Calls Tryz.prog 19 #[.pointer (some a),.int .i64 1] w fun e w'=>e=.returned (.int .i64 (IntKind.i64.wrap (x+1)))∧w'=w.setCell a (.int .i64 (IntKind.i64.wrap (x+1))):=by
 generalize hw:IntKind.i64.wrap (x+1)=z
 have hadd:=run_call_add (P:=Tryz.prog) Tryz.func38 (by kernel_rfl) (by kernel_rfl) (by kernel_rfl) .i64 (by kernel_rfl) (y:=1) (s:=z) hc hz (by simp[go_sem,hw])
 clear hw
 go_enter Tryz.func19,Tryz.ntmps19
 go_wp2
 go_ret
 exact⟨rfl,rfl⟩
def shareW(p s:Int):List UInt8:=deriveW (List.replicate 32 0) (sb ⟨#[115,104,97,114,101]⟩) (fourB (powI p s))
theorem derive_share(p s:Int)(g:Nat)(w:World)(t q:TypeId)(hF:Blk w g (HC (fourB (powI p s))) t):
  Calls Tryz.prog 34 #[.agg zeros32,.string ⟨#[115,104,97,114,101]⟩,.slice (some ⟨w.heap.size,0,none⟩) 1 1] (w.alloc (.cells #[.slice (some ⟨g,0,none⟩) 4 4] q)) fun e w'=>e=.returned (HV (shareW p s))∧Below (w.alloc (.cells #[.slice (some ⟨g,0,none⟩) 4 4] q)).heap.size (w.alloc (.cells #[.slice (some ⟨g,0,none⟩) 4 4] q)) w':=by
 have e1:[fourB (powI p s)].flatten=fourB (powI p s):=by simp
 have hr:Row8 w (some ⟨g,0,none⟩) 4 (fourB (powI p s)):=Row8.ofBlk hF (by simp[maxLen,fourB]) 4 rfl
 have hR:RowR (w.alloc (.cells #[.slice (some ⟨g,0,none⟩) 4 4] q)) (some ⟨w.heap.size,0,none⟩) 1 [fourB (powI p s)]:=RowR.one hr
 have h:=derive_zero ⟨#[115,104,97,114,101]⟩ (by decide) _ 1 1 [fourB (powI p s)] _ hR
 rw[e1]at h
 exact h
theorem shareW_length(p s:Int):(shareW p s).length=32:=sumW_length _
theorem shared_no(g:Nat)(s dn pub md us p:Int)(hp:isI p=false)(w:World)(hk:Blk w g (CK s dn pub md us) 180):
  Calls Tryz.prog 167 #[.pointer (some ⟨g,0,none⟩),.int .i64 p] w fun e w'=>e=.returned (.tuple #[HV (List.replicate 32 0),.bool false])∧Below w.heap.size w w':=by
 have hR:Blk (w.alloc (.cells zeros32 28)) w.heap.size zeros32 28:=Blk.new w _ _
 have HR:=Lib.hid hR;have HP:=Lib.hid hp
 clear hR hp hk
 go_enter Tryz.func167,Tryz.ntmps167
 go_wp2_with (first
  |(go_at_call 166;refine(is_any p _).mono ?_;rintro e w' ⟨rfl,rfl⟩;rw[HP.out])
  |(refine wpList_store_row rfl 28 _ _ rfl w.heap.size zeros32 rfl rfl 28 zeros32 HR.out zsize rfl zone ?_))
 exact bodyPost_ret (v:=.tuple #[.agg zeros32,.bool false]) (results_row_tmp rfl _ _ w.heap.size _ _ (0,0) _ _ rfl rfl (HR.out.setRow _) Tryz.underlying28 rfl zsize) rfl
  ⟨rfl,below_setRow ((Below.refl _ w).next (Nat.le_refl _) _) _ (Nat.le_refl _)⟩
set_option maxHeartbeats 1600000 in
theorem shared_yesW (g : Nat) (s dn pub md us p : Int) (hp : isI p = true) (w : World) (hk : Blk w g (CK s dn pub md us) 180) :
    Calls Tryz.prog 167 #[.pointer (some ⟨g, 0, none⟩), .int .i64 p] w fun e w' => e = .returned (.tuple #[HV (shareW p s), .bool true]) ∧ Blk w' g (CK s dn pub md (IntKind.i64.wrap (us + 1))) 180 ∧ w.grownBy w' (some g) := by
  have hlt := hk.lt
  have hR : Blk (w.alloc (.cells zeros32 28)) w.heap.size zeros32 28 := Blk.new w _ _
  have hk0 := hk.alloc (.cells zeros32 28)
  have hg0 : w.grownBy (w.alloc (.cells zeros32 28)) (some g) := grown_below (grown_refl w _) ((Below.refl _ w).next (Nat.le_refl _) _)
  have hsz2 : zeros32.size = (HC (shareW p s)).size := by rw [HC_size, shareW_length]; rfl
  have hsz : (Tryz.prog.info? 28).map (·.size) = some (HC (shareW p s)).size := by rw [HC_size, shareW_length]; kernel_rfl
  have HK0 := Lib.hid hk0; have HP := Lib.hid hp; have HG0 := Lib.hid hg0; have HR0 := Lib.hid hR; have S2 := Lib.hid hsz2; have S1 := Lib.hid hsz
  clear hR hp hk hk0 hg0 hsz2 hsz
  go_enter Tryz.func167, Tryz.ntmps167
  go_wp2_with (first
    | (go_at_call 166; refine (is_any p _).mono ?_; rintro e w' ⟨rfl, rfl⟩; rw [HP.out])
    | (go_at_call 19; refine (iadd_w ⟨g, 6, none⟩ us _ (HK0.out.cell 6) (HK0.out.frozen 6)).mono ?_; rintro e w1 ⟨rfl, hw1⟩
       have hk1 : Blk w1 g (CK s dn pub md (IntKind.i64.wrap (us + 1))) 180 := by rw [hw1]; exact (HK0.out.set 6 _).copy rfl
       have hg1 : w.grownBy w1 (some g) := by rw [hw1]; exact grown_setCell HG0.out 6 _
       have hR1 : Blk w1 w.heap.size zeros32 28 := by rw [hw1]; exact HR0.out.other ⟨g, 6, none⟩ _ (by simp; omega)
       obtain ⟨c0, -, -, -, -, -, -⟩ := hk1.key
       have HK1 := Lib.hid hk1; have HG1 := Lib.hid hg1; have HR1 := Lib.hid hR1
       clear hw1 hk1 hg1 hR1 HK0 HG0 HR0)
    | (go_at_call 99; refine (pow_any p s _).mono ?_; rintro e w' ⟨rfl, rfl⟩)
    | (go_at_call 116; refine (four_any _ _).mono ?_; rintro e w2 ⟨rfl, hw2⟩
       have hF : Blk w2 w1.heap.size (HC (fourB (powI p s))) 5 := by rw [hw2]; exact Blk.new _ _ _
       have hb2 : Below w1.heap.size w1 w2 := by rw [hw2]; exact (Below.refl _ _).next (Nat.le_refl _) _
       have HF := Lib.hid hF; have HB2 := Lib.hid hb2
       clear hw2 hF hb2)
    | (go_at_call 34; refine (derive_share p s w1.heap.size w2 _ _ HF.out).mono ?_; rintro e w3 ⟨rfl, hb3⟩)
    | (refine wpList_store_row rfl 28 _ _ rfl w.heap.size (HC (shareW p s)) rfl rfl 28 zeros32 (((HR1.out.keep HB2.out).alloc _).keep hb3) S1.out S2.out (HC_one _) ?_))
  have hb : Below w1.heap.size w1 w3 := (HB2.out.next (Nat.le_refl _) _).later hb3 (Nat.le_refl _)
  have hlt1 : g < w1.heap.size := HK1.out.lt
  exact bodyPost_ret (v := .tuple #[HV (shareW p s), .bool true]) (results_row_tmp rfl _ _ w.heap.size _ (HC (shareW p s)) (0, 0) _ _ rfl rfl ((((HR1.out.keep HB2.out).alloc _).keep hb3).setRow _) Tryz.underlying28 rfl S1.out) rfl
    ⟨rfl, (HK1.out.keep hb).otherRow _ (by omega), grown_setRow (grown_below HG1.out hb) _ (.inl (Nat.le_refl _))⟩
theorem rfrom_any (h : List UInt8) (hh : h.length = 32) (w : World) :
    Calls Tryz.prog 36 #[HV h] w fun e w' => e = .returned (.agg #[.int .i64 (U (numN h 8) % 1073741788 + 1), .int .i64 (powI 4 (U (numN h 8) % 1073741788 + 1))]) ∧ Below w.heap.size w w' := by
  obtain ⟨x, hx⟩ : ∃ x, U (numN h 8) % 1073741788 + 1 = x := ⟨_, rfl⟩
  have hB := Blk.new w (HC h) 28
  have hsz : (Tryz.prog.info? 28).map (·.size) = some (HC h).size := by rw [HC_size, hh]; kernel_rfl
  have HB := Lib.hid hB; have S1 := Lib.hid hsz; have HH := Lib.hid hh; have HX := Lib.hid hx
  rw [hx]
  clear hB hsz hh hx
  unfold HV
  go_enter Tryz.func36, Tryz.ntmps36
  go_wp2_with (first
    | (refine wpList_load_row rfl 28 _ rfl w.heap.size rfl 28 (HC h) (0, 0) _ (HB.out.alloc _) Tryz.underlying28 rfl S1.out ?_)
    | (go_at_call 60; refine (rscalar_any h HH.out _).mono ?_; rintro e w1 ⟨rfl, hb1⟩; rw [HX.out]
       have hK1 : Blk w1 (w.heap.size + 1) #[.int .i64 0, .int .i64 0] 63 := (Blk.newAt _ _ (by simp)).keep hb1
       have c0 : w1.cell? ⟨w.heap.size + 1, 0, none⟩ = some (.int .i64 0) := hK1.cell 0
       have c1 : w1.cell? ⟨w.heap.size + 1, 1, none⟩ = some (.int .i64 0) := hK1.cell 1
       have f0 := hK1.frozen 0
       have f1 := hK1.frozen 1
       have HB1 := Lib.hid ((((Below.refl _ w).next (Nat.le_refl _) _).next (Nat.le_refl _) _).later hb1 (Nat.le_refl _))
       have HK1 := Lib.hid hK1
       clear hK1 hb1)
    | (go_at_call 61; refine (rpow_any 4 x _).mono ?_; rintro e w' ⟨rfl, rfl⟩))
  have hK2 : Blk ((w1.setCell ⟨w.heap.size + 1, 0, none⟩ (.int .i64 x)).setCell ⟨w.heap.size + 1, 1, none⟩ (.int .i64 (powI 4 x))) (w.heap.size + 1) #[.int .i64 x, .int .i64 (powI 4 x)] 63 := ((HK1.out.set 0 _).set 1 _).copy rfl
  have hg2 : w1.grownBy ((w1.setCell ⟨w.heap.size + 1, 0, none⟩ (.int .i64 x)).setCell ⟨w.heap.size + 1, 1, none⟩ (.int .i64 (powI 4 x))) (some (w.heap.size + 1)) := grown_setCell (grown_setCell (grown_refl _ _) 0 _) 1 _
  have hs1 := HB1.out.size
  exact bodyPost_ret (v := .agg #[.int .i64 x, .int .i64 (powI 4 x)]) (results_cell_row rfl _ _ (w.heap.size + 1) _ #[.int .i64 x, .int .i64 (powI 4 x)] (0, 0) _ rfl hK2 Tryz.underlying63 rfl (by kernel_rfl)) rfl
    ⟨rfl, below_grown HB1.out hg2 (by omega) hs1⟩
end
section
section
variable {P : Program} (w : World)
def intCells(k:IntKind)(l:List Int):Array Value:=(l.map (Value.int k)).toArray
theorem intCells_get(k:IntKind)(l:List Int)(i:Nat):(intCells k l)[i]?=(l[i]?).map (Value.int k):=by simp[intCells]
theorem run_part_int{e:TypeId}{k:IntKind}(hu:P.underlying e=some (.int k))(cs:Array Value)(i:Nat)(v:Value)(h:cs[i]?=some v):(part e cs (i*1)).run P w=.ok v w:=by
 rw[Nat.mul_one]
 simp[part,isAgg,Sem.run_bind,run_underlying hu,h]
theorem run_eqItems_int(d:Nat){e:TypeId}{k:IntKind}(hu:P.underlying e=some (.int k))(xs bs:List Int):∀(m s:Nat),s+m≤xs.length→s+m≤bs.length→
  (Op.eqItems (d+1) e 1 (intCells k xs) (intCells k bs) (List.range' s m)).run P w=.ok (decide ((xs.drop s).take m=(bs.drop s).take m)) w
 |0,s,_,_=>by simp[Op.eqItems]
 |m+1,s,ha,hb=>by
  have h1:(intCells k xs)[s]?=some (.int k xs[s]):=by rw[intCells_get,List.getElem?_eq_getElem (by omega)];rfl
  have h2:(intCells k bs)[s]?=some (.int k bs[s]):=by rw[intCells_get,List.getElem?_eq_getElem (by omega)];rfl
  rw[List.range'_succ]
  simp only[Op.eqItems,Sem.run_bind,run_part_int w hu _ _ _ h1,run_part_int w hu _ _ _ h2,Result.andThen_ok,run_equalIn_int w d e k k xs[s] bs[s] hu]
  have e1:(xs.drop s).take (m+1)=xs[s]::(xs.drop (s+1)).take m:=by rw[List.drop_eq_getElem_cons (by omega),List.take_succ_cons]
  have e2:(bs.drop s).take (m+1)=bs[s]::(bs.drop (s+1)).take m:=by rw[List.drop_eq_getElem_cons (by omega),List.take_succ_cons]
  have ih:=run_eqItems_int d hu xs bs m (s+1) (by omega) (by omega)
  by_cases h:xs[s]=bs[s]
  ·rw[show(xs[s]==bs[s])=true by rw[h];exact beq_self_eq_true _]
   simp only[Bool.not_true,Bool.false_eq_true,if_false]
   rw[ih,e1,e2,h]
   simp
  ·rw[show(xs[s]==bs[s])=false from beq_eq_false_iff_ne.2 h]
   simp only[Bool.not_false,if_true,Sem.run_pure]
   rw[e1,e2]
   simp[h]
theorem run_eql_ints{t e:TypeId}{n:Nat}{k:IntKind}{i:TypeInfo}(ht:P.underlying t=some (.array n e))(hu:P.underlying e=some (.int k))(hi:P.info? e=some i)(hc:P.cellsOf e=1)
  (xs bs:List Int)(ha:xs.length=n)(hb:bs.length=n):(binOp .eql t (.agg (intCells k xs)) (.agg (intCells k bs))).run P w=.ok (.bool (decide (xs=bs))) w:=by
 rw[run_eql_struct,show(10000:Nat)=9998+1+1 from rfl,run_equalIn_array w _ _ _ ht hi,hc,List.range_eq_range',run_eqItems_int w 9998 hu xs bs n 0 (by omega) (by omega)]
 simp only[List.drop_zero,Result.andThen_ok]
 rw[List.take_of_length_le (by omega),List.take_of_length_le (by omega)]
theorem HC_ints(l:List UInt8):HC l=intCells .u8 (l.map Bt):=by simp[HC,intCells]
theorem Bt_list(l m:List UInt8):decide (l.map Bt=m.map Bt)=(l==m):=by
 by_cases h:l=m
 ·subst h;simp
 ·rw[beq_eq_false_iff_ne.2 h]
  refine decide_eq_false fun e=>h ?_
  exact(List.map_inj_right (f:=Bt) (fun x y hxy=>Bt_inj hxy)).1 e
theorem run_eql_hash{t e:TypeId}{i:TypeInfo}(ht:P.underlying t=some (.array 32 e))(hu:P.underlying e=some (.int .u8))(hi:P.info? e=some i)(hc:P.cellsOf e=1)
  (l m:List UInt8)(hl:l.length=32)(hm:m.length=32):(binOp .eql t (.agg (HC l)) (.agg (HC m))).run P w=.ok (.bool (l==m)) w:=by
 rw[HC_ints,HC_ints,run_eql_ints w ht hu hi hc _ _ (by simpa using hl) (by simpa using hm),Bt_list]
theorem equal_hash{t e:TypeId}{i:TypeInfo}(ht:P.underlying t=some (.array 32 e))(hu:P.underlying e=some (.int .u8))(hi:P.info? e=some i)(hc:P.cellsOf e=1)
  (l m:List UInt8)(hl:l.length=32)(hm:m.length=32):(Op.equalIn 10000 t (.agg (HC l)) (.agg (HC m))).run P w=.ok (l==m) w:=by
 have h:=run_eql_hash w ht hu hi hc l m hl hm
 rw[run_eql_struct]at h
 generalize(Op.equalIn 10000 t _ _).run P w=r at*
 cases r<;>simp_all
end
end
section
theorem infoe8:∃i,Tryz.prog.info? 5=some i:=by
 obtain⟨i,hi,_⟩:=info_parts info8
 exact⟨i,hi⟩
theorem eqh_guard(w:World)(o:BinOp)(p q:Operand)(x y:List UInt8):(eqGuard o 28 p q (HV x) (HV y)).run Tryz.prog w=.ok () w:=
 run_eqGuard_agg w o 28 p q _ _ (by kernel_rfl)
end
section
open Pm
attribute [local go_sem] eqh_guard
theorem key_y(a b:Int)(w:World):(Instr.field 63 (.agg #[.int .i64 a,.int .i64 b]) 1).run Tryz.prog w=.ok (.int .i64 b) w:=by
 simp[Instr.field,asAgg,go_sem,Tryz.underlying63,Tryz.underlying3]
theorem key_x(a b:Int)(w:World):(Instr.field 63 (.agg #[.int .i64 a,.int .i64 b]) 0).run Tryz.prog w=.ok (.int .i64 a) w:=by
 simp[Instr.field,asAgg,go_sem,Tryz.underlying63,Tryz.underlying3]
attribute [local go_sem] key_y key_x
end
section
open Pm
def CD(s:Int)(d:Bool)(us:Int):Array Value:=CK s (if d then 1 else 0) (if d then powI 4 s else 0) (if d then 1 else 0) us
def shW(p s:Int):List UInt8:=if isI p then shareW p s else List.replicate 32 0
theorem shW_length(p s:Int):(shW p s).length=32:=by
 unfold shW
 split
 ·exact shareW_length _ _
 ·rfl
theorem public_st(g:Nat)(s us:Int)(d:Bool)(hs:0≤s∧s<1073741789)(w:World)(hk:Blk w g (CD s d us) 180):
  Calls Tryz.prog 55 #[.pointer (some ⟨g,0,none⟩)] w fun e w'=>e=.returned (.int .i64 (powI 4 s))∧Blk w' g (CD s true us) 180∧w.grownBy w' (some g):=by
 cases d with
 |false=>exact public_first g s us hs w hk
 |true=>
  refine(public_again g s (powI 4 s) 1 us w hk).mono ?_
  rintro e w' ⟨rfl,hb⟩
  exact⟨rfl,Blk.keep hk hb,grown_below (grown_refl w _) hb⟩
theorem shared_stW(g:Nat)(s us p:Int)(d:Bool)(w:World)(hk:Blk w g (CD s d us) 180):
  Calls Tryz.prog 167 #[.pointer (some ⟨g,0,none⟩),.int .i64 p] w fun e w'=>e=.returned (.tuple #[HV (shW p s),.bool (isI p)])∧(∃us',Blk w' g (CD s d us') 180)∧w.grownBy w' (some g):=by
 unfold shW
 by_cases hp:isI p=true
 ·rw[hp]
  refine(shared_yesW g s _ _ _ us p hp w hk).mono ?_
  rintro e w' ⟨rfl,h1,h2⟩
  exact⟨rfl,⟨_,h1⟩,h2⟩
 ·have hp:=Bool.eq_false_iff.2 hp
  rw[hp]
  refine(shared_no g s _ _ _ us p hp w hk).mono ?_
  rintro e w' ⟨rfl,hb⟩
  exact⟨rfl,⟨us,Blk.keep hk hb⟩,grown_below (grown_refl w _) hb⟩
end
section
open Pm
def rowK:A→(List UInt8→Prop)→Prop
 | .row n [.bytes m b],K=>n=m∧K b
 | .row 0 [],K=>K []
 | .v (.slice none 0 0),K=>K []
 |_,_=>False
def listK:List A→(List (List UInt8)→Prop)→Prop
 |[],K=>K []
 |a::r,K=>rowK a fun b=>listK r fun L=>K (b::L)
def rowsOfK:A→(List (List UInt8)→Prop)→Prop
 | .row n [.gen m rs],K=>n=m∧listK rs K
 | .v (.slice none 0 0),K=>K []
 |_,_=>False
theorem rowK_spec{x:A}{K:List UInt8→Prop}(h:rowK x K):∃b,K b∧∀{S:Nat→Prop} {w:World} {v:Value},RA S w x v→∃a n c,v=.slice a n c∧Row8 w a n b∧(a=none→c=0):=by
 unfold rowK at h
 split at h
 ·next n m b=>
  obtain⟨rfl,h⟩:=h
  refine⟨b,h,fun {S w v} hv=>?_⟩
  cases hv with
  |row k1 k2 k3 k4 k5=>
   rename_i c cs ad
   obtain⟨e1,e2⟩:=k1.toBytes
   refine⟨ad,_,c,rfl,⟨e1.symm,by rw[e1];exact Nat.le_trans k2 k3,?_⟩,k4⟩
   rcases k5 with k5|⟨q,o',k6,_,_,k7⟩
   ·left;rw[e2]at k5;exact List.map_eq_nil_iff.1 k5
   ·refine .inr ⟨q,o',k6,fun i hi=>?_⟩
    subst e2
    rw[k7 i (by simpa[HL]using hi)]
    simp[HL]
 ·refine⟨[],h,fun {S w v} hv=>?_⟩
  cases hv with
  |row k1 k2 k3 k4 k5=>exact⟨_,_,_,rfl,Row8.nil _ _,k4⟩
 ·refine⟨[],h,fun {S w v} hv=>?_⟩
  rw[RA.plain hv]
  exact⟨none,0,0,rfl,Row8.nil _ _,fun _=>rfl⟩
 ·exact h.elim
theorem listK_spec:∀{l:List A} {K:List (List UInt8)→Prop},listK l K→∃L,K L∧L.length=l.length∧∀{S:Nat→Prop} {w:World} {vs:List Value},RG S w l vs→∀(i:Nat) (h:i<L.length),∃a n c,vs[i]?=some (.slice a n c)∧Row8 w a n L[i]∧(a=none→c=0)
 |[],K,h=>⟨[],h,rfl,fun _ i hi=>by simp at hi⟩
 |a::r,K,h=>by
  obtain⟨b,h1,h2⟩:=rowK_spec h
  obtain⟨L,h3,h4,h5⟩:=listK_spec h1
  refine⟨b::L,h3,by simp[h4],fun {S w vs} hv i hi=>?_⟩
  cases hv with
  |cons k1 k2 k3=>
   cases i with
   |zero=>
    obtain⟨a',n,c,rfl,h6,h7⟩:=h2 k1
    exact⟨a',n,c,rfl,h6,h7⟩
   |succ i=>simpa using h5 k3 i (by simpa using hi)
theorem rowsOfK_spec{x:A}{K:List (List UInt8)→Prop}(h:rowsOfK x K):∃L,K L∧∀{S:Nat→Prop} {w:World} {v:Value},RA S w x v→∃a n c,v=.slice a n c∧RowR w a n L∧(a=none→c=0)∧
  (L=[]∨∃b off,a=some ⟨b,off,none⟩∧∀(i:Nat) (h:i<L.length),∃a' l' c',w.cell? ⟨b,off+i,none⟩=some (.slice a' l' c')∧Row8 w a' l' L[i]∧(a'=none→c'=0)):=by
 unfold rowsOfK at h
 split at h
 ·next n m rs=>
  obtain⟨rfl,h⟩:=h
  obtain⟨L,h1,h2,h3⟩:=listK_spec h
  refine⟨L,h1,fun {S w v} hv=>?_⟩
  cases hv with
  |row k1 k2 k3 k4 k5=>
   rename_i c cs ad
   obtain⟨e1,e2⟩:=k1.toGen
   have hl:L.length=n:=by rw[h2,e1]
   have key:L=[]∨∃b off,ad=some ⟨b,off,none⟩∧∀(i:Nat) (h:i<L.length),∃a' l' c',w.cell? ⟨b,off+i,none⟩=some (.slice a' l' c')∧Row8 w a' l' L[i]∧(a'=none→c'=0):=by
    rcases k5 with k5|⟨q,o',k6,_,_,k7⟩
    ·left
     have:=e2.len
     rw[k5]at this
     exact List.length_eq_zero_iff.1 (by rw[h2];exact this.symm)
    ·refine .inr ⟨q,o',k6,fun i hi=>?_⟩
     obtain⟨a',l',c',e3,e4,e5⟩:=h3 e2 i hi
     obtain⟨e6,e7⟩:=List.getElem?_eq_some_iff.1 e3
     exact⟨a',l',c',by rw[k7 i e6,e7],e4,e5⟩
   refine⟨ad,_,c,rfl,⟨hl.symm,by rw[hl];exact Nat.le_trans k2 k3,?_⟩,k4,key⟩
   rcases key with h0|⟨b,off,h4,h5⟩
   ·exact .inl h0
   ·exact .inr ⟨b,off,h4,fun i hi=>by obtain⟨a',l',c',e1,e2,_⟩:=h5 i hi;exact⟨a',l',c',e1,e2⟩⟩
 ·refine⟨[],h,fun {S w v} hv=>?_⟩
  rw[RA.plain hv]
  exact⟨none,0,0,rfl,⟨rfl,by simp,.inl rfl⟩,fun _=>rfl,.inl rfl⟩
 ·exact h.elim
theorem hash_of{S:Nat→Prop}{w:World}{h:List UInt8}{v:Value}(hv:RA S w (.agg [.bytes 32 h]) v):v=HV h∧h.length=32:=by
 cases hv with
 |agg k=>
  obtain⟨e1,e2⟩:=k.toBytes
  subst e2
  exact⟨rfl,e1⟩
theorem ra_hash{S:Nat→Prop}{w:World}{h:List UInt8}(hl:h.length=32):RA S w (.agg [.bytes 32 h]) (HV h):=.agg (.ofBytes hl rfl)
theorem ra_one{S:Nat→Prop}{w:World}{a:A}{vs:List Value}(h:RAs S w [a] vs):∃v,vs=[v]∧RA S w a v:=by
 cases h with|cons h r=>cases r;exact⟨_,rfl,h⟩
theorem ra_three{S:Nat→Prop}{w:World}{a b c:A}{vs:List Value}(h:RAs S w [a,b,c] vs):∃x y z,vs=[x,y,z]∧RA S w a x∧RA S w b y∧RA S w c z:=by
 cases h with|cons h r=>cases r with|cons h2 r=>cases r with|cons h3 r=>cases r;exact⟨_,_,_,rfl,h,h2,h3⟩
def deriveS:List A→(Res→Prop)→Prop
 |[.agg [.bytes 32 h],.v (.string s),x],K=>s.size≤1000000∧rowsOfK x fun L=>K (.d (.agg [.bytes 32 (deriveW h (sb s) L.flatten)]))
 |_,_=>False
theorem deriveS_ok:∀args K,deriveS args K→∃r,FnO 34 args r∧K r:=by
 intro args K hd
 unfold deriveS at hd
 split at hd
 ·next h s x=>
  obtain⟨hs,hd⟩:=hd
  obtain⟨L,hK,hL⟩:=rowsOfK_spec hd
  refine⟨_,fun S w vs _ ha=>?_,hK⟩
  obtain⟨v1,v2,v3,rfl,h1,h2,h3⟩:=ra_three ha
  obtain⟨rfl,hh⟩:=hash_of h1
  rw[RA.plain h2]
  obtain⟨a,n,c,rfl,h4,_⟩:=hL h3
  refine(derive_any h hh s (by unfold maxLen;omega) a n c L w h4).mono ?_
  rintro e w' ⟨rfl,hb⟩
  exact⟨_,rfl,ra_hash (sumW_length _),hb⟩
 ·exact hd.elim
def rderiveS:List A→(Res→Prop)→Prop
 |[.agg [.bytes 32 h],.v (.string s),x],K=>s.size≤1000000∧rowK x fun b=>b.length≤100000000∧K (.d (.agg [.bytes 32 (deriveW h (sb s) b)]))
 |_,_=>False
theorem rderiveS_ok:∀args K,rderiveS args K→∃r,FnO 17 args r∧K r:=by
 intro args K hd
 unfold rderiveS at hd
 split at hd
 ·next h s x=>
  obtain⟨hs,hd⟩:=hd
  obtain⟨b,⟨hbl,hK⟩,hL⟩:=rowK_spec hd
  refine⟨_,fun S w vs _ ha=>?_,hK⟩
  obtain⟨v1,v2,v3,rfl,h1,h2,h3⟩:=ra_three ha
  obtain⟨rfl,hh⟩:=hash_of h1
  rw[RA.plain h2]
  obtain⟨a,n,c,rfl,h4,h5⟩:=hL h3
  refine(rderive_any h hh s a n c b w h4 h5 (by omega)).mono ?_
  rintro e w' ⟨rfl,hb⟩
  exact⟨_,rfl,ra_hash (sumW_length _),hb⟩
 ·exact hd.elim
def scal(h:List UInt8):Int:=U (numN h 8)%1073741788+1
theorem scal_bd(h:List UInt8):1≤scal h∧scal h<1073741789:=by
 unfold scal
 have:=Int.emod_nonneg (U (numN h 8)) (show(1073741788:Int)≠0 by decide)
 have:=Int.emod_lt_of_pos (U (numN h 8)) (show(0:Int)<1073741788 by decide)
 omega
def KeyP(s:Int)(cs:List Value)(t:TypeId):Prop:=t=180∧∃d us,cs.toArray=CD s d us
def fromS:List A→(Res→Prop)→Prop
 |[.agg [.bytes 32 h]],K=>K (.p (.obj (KeyP (scal h))))
 |_,_=>False
theorem fromS_ok:∀args K,fromS args K→∃r,FnO 74 args r∧K r:=by
 intro args K hd
 unfold fromS at hd
 split at hd
 ·next h=>
  refine⟨_,fun S w vs _ ha=>?_,hd⟩
  obtain⟨v,rfl,h1⟩:=ra_one ha
  obtain⟨rfl,hh⟩:=hash_of h1
  refine(from_any h hh w).mono ?_
  rintro e w' ⟨g,rfl,hg,hb,hB⟩
  exact⟨_,rfl,⟨g,rfl,hg,(CK (U (numN h 8)%1073741788+1) 0 0 0 0).toList,_,hb,rfl,false,0,rfl⟩,hB⟩
 ·exact hd.elim
def publicS:Nat→Bk→List A→(Res→Bk→Prop)→Prop
 |0,.obj p,[],K=>∃s,p=KeyP s∧0≤s∧s<1073741789∧K (.d (.v (.int .i64 (powI 4 s)))) (.obj (KeyP s))
 |_,_,_,_=>False
theorem publicS_ok:∀pos x args K,publicS pos x args K→∃r x',FnMO 55 pos x args r x'∧K r x':=by
 intro pos x args K hd
 unfold publicS at hd
 split at hd
 ·next p=>
  obtain⟨s,rfl,h0,h1,hK⟩:=hd
  refine⟨_,_,fun S w r vs hr _ hx ha=>?_,hK⟩
  cases ha
  obtain⟨cs,t,h2,rfl,d,us,h3⟩:=hx
  have hb:Blk w r (CD s d us) 180:=by unfold Blk;rw[h2,←h3]
  refine(public_st r s us d ⟨h0,h1⟩ w hb).mono ?_
  rintro e w' ⟨rfl,h4,h5⟩
  exact⟨_,rfl,.v _,⟨(CD s true us).toList,_,h4,rfl,true,us,rfl⟩,h5⟩
 ·exact hd.elim
def rfromS:List A→(Res→Prop)→Prop
 |[.agg [.bytes 32 h]],K=>K (.d (.agg [.ints .i64 2 [scal h,powI 4 (scal h)]]))
 |_,_=>False
theorem rfromS_ok:∀args K,rfromS args K→∃r,FnO 36 args r∧K r:=by
 intro args K hd
 unfold rfromS at hd
 split at hd
 ·next h=>
  refine⟨_,fun S w vs _ ha=>?_,hd⟩
  obtain⟨v,rfl,h1⟩:=ra_one ha
  obtain⟨rfl,hh⟩:=hash_of h1
  refine(rfrom_any h hh w).mono ?_
  rintro e w' ⟨rfl,hB⟩
  exact⟨_,rfl,ra_ints (zs:=[scal h,powI 4 (scal h)]) rfl,hB⟩
 ·exact hd.elim
end
section
theorem made8(n:Nat):(madeCells (Value.int .u8 0).cells (n*1)).toList=HL (List.replicate n 0):=by
 refine List.ext_getElem? fun i=>?_
 simp[madeCells,HL,Value.cells,List.getElem?_replicate]
 by_cases h:i<n
 ·simp[h,Bt,Nat.mod_one]
 ·simp[h]
theorem blk_of_own{w:World}{base g n:Nat}{e:TypeId}{bs:List UInt8}(h:w.ownsRow base e 1 (.slice (some ⟨g,0,none⟩) n n) n (HL bs)):Blk w g (HC bs) e:=by
 rcases h.2 with⟨h1,_⟩|⟨g',cap,cur,h1,_,h2,h3,_,h4,h5⟩
 ·cases h1
 ·injection h1 with h1 _ h6
  injection h1 with h1
  injection h1 with h1
  subst h1;subst h6
  have:cur=HC bs:=by
   apply Array.toList_inj.1
   rw[HC_toList,←h5,List.take_of_length_le (by simp[h4])]
  rw[←this];exact h2
end
section
def numB(n:Int):List UInt8:=[lowB n 56,lowB n 48,lowB n 40,lowB n 32,lowB n 24,lowB n 16,lowB n 8,lowB n 0]
theorem numB_length(n:Int):(numB n).length=8:=rfl
theorem numB_get(n:Int)(k:Nat)(h:k<8):(numB n)[k]?=some (lowB n (56-8*k)):=by
 match k,h with
 |0,_=>rfl
 |1,_=>rfl
 |2,_=>rfl
 |3,_=>rfl
 |4,_=>rfl
 |5,_=>rfl
 |6,_=>rfl
 |7,_=>rfl
def partN(n:Int)(k:Nat):List UInt8:=(numB n).take k++List.replicate (8-k) 0
theorem partN_zero(n:Int):partN n 0=List.replicate 8 0:=rfl
theorem partN_all(n:Int):partN n 8=numB n:=rfl
theorem partN_length(n:Int)(k:Nat)(h:k≤8):(partN n k).length=8:=by simp[partN,numB_length];omega
theorem partN_set(n:Int)(k:Nat)(h:k<8):(partN n k).set k (lowB n (56-8*k))=partN n (k+1):=by
 match k,h with
 |0,_=>rfl
 |1,_=>rfl
 |2,_=>rfl
 |3,_=>rfl
 |4,_=>rfl
 |5,_=>rfl
 |6,_=>rfl
 |7,_=>rfl
theorem shift_factsR(k:Nat)(h:k≤7):IntKind.i64.wrap (8*(k:Int))=8*(k:Int)∧IntKind.i64.wrap (56-8*(k:Int))=56-8*(k:Int)∧0≤56-8*(k:Int)∧(56-8*(k:Int)).toNat=56-8*k∧56-8*k≤64:=
 ⟨IntWalk.i64_in _ (by omega),IntWalk.i64_in _ (by omega),by omega,by omega,by omega⟩
end
end Go.Proofs.YtbdmnobocecnfaaGreatDoor
