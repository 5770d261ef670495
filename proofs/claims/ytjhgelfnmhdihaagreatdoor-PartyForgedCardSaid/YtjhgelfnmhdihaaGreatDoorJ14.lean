/-
  Keys: what two keys share, the program's and the document's; the document's keys.
-/
import Derived.Test.YtjhgelfnmhdihaaGreatDoorJ13
import Derived.Laws.ResultCell
import Derived.Test.YtjhgelfnmhdihaaGreatDoorJ10
namespace Go.Proofs.YtjhgelfnmhdihaaGreatDoor
set_option linter.unusedVariables false
set_option linter.unusedSimpArgs false
set_option maxRecDepth 100000
open Go.RowKit
section
open Pm
theorem lK{P:Program}{fn:Func}{p u:Tmp}{ty:TypeId}(h:fn.results=#[.cell p ty,.tmp u])(tmps:Array Value)(w:World)(g:Nat)(t:TypeId)(cs:Array Value)(fr:Nat×Nat)(d:TypeDesc)(v2:Value)(hv2:tmps.getD u undef=v2)
  (hp:tmps.getD p undef=.pointer (some ⟨g,0,none⟩))(hg:w.heap[g]?=some (.cells cs t fr))
  (hu:P.underlying ty=some d)(hd:(match d with| .struct _| .array _ _=>true|_=>false)=true)(hi:(P.info? ty).map (·.size)=some cs.size):
  (results fn tmps).run P w=.ok (.tuple #[.agg cs,v2]) w:=by
 rw[results_cell_tmp h,hp,hv2]
 simp[asAddr,run_loadVar_row w g t ty cs fr d hg hu hd hi,Result.andThen]
theorem aP6(a:Addr)(x:Int)(w:World)(hc:w.cell? a=some (.int .i64 x))(hz:w.frozen? a=false):
  Calls Tryz.prog 201 #[.pointer (some a),.int .i64 1] w fun e w'=>e=.returned (.int .i64 (IntKind.i64.wrap (x+1)))∧w'=w.setCell a (.int .i64 (IntKind.i64.wrap (x+1))):=by
 generalize hw:IntKind.i64.wrap (x+1)=z
 have hadd:=run_call_add (P:=Tryz.prog) Tryz.func213 (by kernel_rfl) (by kernel_rfl) (by kernel_rfl) .i64 (by kernel_rfl) (y:=1) (s:=z) hc hz (by simp[go_sem,hw])
 clear hw
 go_enter Tryz.func201,Tryz.ntmps201
 go_wp2
 go_ret
 exact⟨rfl,rfl⟩
def kC(p s:Int):List UInt8:=aF (List.replicate 32 0) (sb ⟨#[115,104,97,114,101]⟩) (bD (aA p s))
theorem Iw(p s:Int)(g:Nat)(w:World)(t q:TypeId)(hF:bM w g (HC (bD (aA p s))) t):
  Calls Tryz.prog 51 #[.agg bY,.string ⟨#[115,104,97,114,101]⟩,.slice (some ⟨w.heap.size,0,none⟩) 1 1] (w.alloc (.cells #[.slice (some ⟨g,0,none⟩) 4 4] q)) fun e w'=>e=.returned (HV (kC p s))∧Below (w.alloc (.cells #[.slice (some ⟨g,0,none⟩) 4 4] q)).heap.size (w.alloc (.cells #[.slice (some ⟨g,0,none⟩) 4 4] q)) w':=by
 have e1:[bD (aA p s)].flatten=bD (aA p s):=by simp
 have hr:dP w (some ⟨g,0,none⟩) 4 (bD (aA p s)):=dP.wN hF (by simp[maxLen,bD]) 4 rfl
 have hR:qM (w.alloc (.cells #[.slice (some ⟨g,0,none⟩) 4 4] q)) (some ⟨w.heap.size,0,none⟩) 1 [bD (aA p s)]:=qM.one hr
 have h:=KA ⟨#[115,104,97,114,101]⟩ (by decide) _ 1 1 [bD (aA p s)] _ hR
 rw[e1]at h
 exact h
theorem lG(p s:Int):(kC p s).length=32:=bO _
theorem Vu(g:Nat)(s dn pub md us p:Int)(hp:cO p=false)(w:World)(hk:bM w g (CK s dn pub md us) 182):
  Calls Tryz.prog 158 #[.pointer (some ⟨g,0,none⟩),.int .i64 p] w fun e w'=>e=.returned (.tuple #[HV (List.replicate 32 0),.bool false])∧Below w.heap.size w w':=by
 have hR:bM (w.alloc (.cells bY 48)) w.heap.size bY 48:=bM.new w _ _
 have HR:=Lib.hid hR;have HP:=Lib.hid hp
 clear hR hp hk
 go_enter Tryz.func158,Tryz.ntmps158
 go_wp2_with (first
  |(go_at_call 175;refine(zZ p _).mono ?_;rintro e w' ⟨rfl,rfl⟩;rw[HP.out])
  |(refine wpList_store_row rfl 48 _ _ rfl w.heap.size bY rfl rfl 48 bY HR.out Ni rfl zone ?_))
 exact bodyPost_ret (v:=.tuple #[.agg bY,.bool false]) (lK rfl _ _ w.heap.size _ _ (0,0) _ _ rfl rfl (HR.out.setRow _) Tryz.underlying48 rfl Ni) rfl
  ⟨rfl,below_setRow ((Below.refl _ w).next (Nat.le_refl _) _) _ (Nat.le_refl _)⟩
set_option maxHeartbeats 1600000 in
theorem ML (g : Nat) (s dn pub md us p : Int) (hp : cO p = true) (w : World) (hk : bM w g (CK s dn pub md us) 182) :
    Calls Tryz.prog 158 #[.pointer (some ⟨g, 0, none⟩), .int .i64 p] w fun e w' => e = .returned (.tuple #[HV (kC p s), .bool true]) ∧ bM w' g (CK s dn pub md (IntKind.i64.wrap (us + 1))) 182 ∧ w.grownBy w' (some g) := by
  have hlt := hk.lt
  have hR : bM (w.alloc (.cells bY 48)) w.heap.size bY 48 := bM.new w _ _
  have hk0 := hk.alloc (.cells bY 48)
  have hg0 : w.grownBy (w.alloc (.cells bY 48)) (some g) := j6 (fM w _) ((Below.refl _ w).next (Nat.le_refl _) _)
  have hsz2 : bY.size = (HC (kC p s)).size := by rw [eO, lG]; rfl
  have hsz : (Tryz.prog.info? 48).map (·.size) = some (HC (kC p s)).size := by rw [eO, lG]; kernel_rfl
  have HK0 := Lib.hid hk0; have HP := Lib.hid hp; have HG0 := Lib.hid hg0; have HR0 := Lib.hid hR; have S2 := Lib.hid hsz2; have S1 := Lib.hid hsz
  clear hR hp hk hk0 hg0 hsz2 hsz
  go_enter Tryz.func158, Tryz.ntmps158
  go_wp2_with (first
    | (go_at_call 175; refine (zZ p _).mono ?_; rintro e w' ⟨rfl, rfl⟩; rw [HP.out])
    | (go_at_call 201; refine (aP6 ⟨g, 6, none⟩ us _ (HK0.out.cell 6) (HK0.out.frozen 6)).mono ?_; rintro e w1 ⟨rfl, hw1⟩
       have hk1 : bM w1 g (CK s dn pub md (IntKind.i64.wrap (us + 1))) 182 := by rw [hw1]; exact (HK0.out.set 6 _).copy rfl
       have hg1 : w.grownBy w1 (some g) := by rw [hw1]; exact aS HG0.out 6 _
       have YH : bM w1 w.heap.size bY 48 := by rw [hw1]; exact HR0.out.other ⟨g, 6, none⟩ _ (by simp; omega)
       obtain ⟨c0, -, -, -, -, -, -⟩ := hk1.key
       have HK1 := Lib.hid hk1; have HG1 := Lib.hid hg1; have HR1 := Lib.hid YH
       clear hw1 hk1 hg1 YH HK0 HG0 HR0)
    | (go_at_call 104; refine (zk p s _).mono ?_; rintro e w' ⟨rfl, rfl⟩)
    | (go_at_call 117; refine (Dp _ _).mono ?_; rintro e w2 ⟨rfl, hw2⟩
       have hF : bM w2 w1.heap.size (HC (bD (aA p s))) 5 := by rw [hw2]; exact bM.new _ _ _
       have hb2 : Below w1.heap.size w1 w2 := by rw [hw2]; exact (Below.refl _ _).next (Nat.le_refl _) _
       have HF := Lib.hid hF; have HB2 := Lib.hid hb2
       clear hw2 hF hb2)
    | (go_at_call 51; refine (Iw p s w1.heap.size w2 _ _ HF.out).mono ?_; rintro e w3 ⟨rfl, hb3⟩)
    | (refine wpList_store_row rfl 48 _ _ rfl w.heap.size (HC (kC p s)) rfl rfl 48 bY (((HR1.out.keep HB2.out).alloc _).keep hb3) S1.out S2.out (wS _) ?_))
  have hb : Below w1.heap.size w1 w3 := (HB2.out.next (Nat.le_refl _) _).later hb3 (Nat.le_refl _)
  have hlt1 : g < w1.heap.size := HK1.out.lt
  exact bodyPost_ret (v := .tuple #[HV (kC p s), .bool true]) (lK rfl _ _ w.heap.size _ (HC (kC p s)) (0, 0) _ _ rfl rfl ((((HR1.out.keep HB2.out).alloc _).keep hb3).setRow _) Tryz.underlying48 rfl S1.out) rfl
    ⟨rfl, (HK1.out.keep hb).Ej _ (by omega), mo (j6 HG1.out hb) _ (.inl (Nat.le_refl _))⟩
theorem Vj (h : List UInt8) (hh : h.length = 32) (w : World) :
    Calls Tryz.prog 141 #[HV h] w fun e w' => e = .returned (.agg #[.int .i64 (U (kL h 8) % 1073741788 + 1), .int .i64 (aA 4 (U (kL h 8) % 1073741788 + 1))]) ∧ Below w.heap.size w w' := by
  obtain ⟨x, hx⟩ : ∃ x, U (kL h 8) % 1073741788 + 1 = x := ⟨_, rfl⟩
  have hB := bM.new w (HC h) 48
  have hsz : (Tryz.prog.info? 48).map (·.size) = some (HC h).size := by rw [eO, hh]; kernel_rfl
  have HB := Lib.hid hB; have S1 := Lib.hid hsz; have HH := Lib.hid hh; have HX := Lib.hid hx
  rw [hx]
  clear hB hsz hh hx
  unfold HV
  go_enter Tryz.func141, Tryz.ntmps141
  go_wp2_with (first
    | (refine wpList_load_row rfl 48 _ rfl w.heap.size rfl 48 (HC h) (0, 0) _ (HB.out.alloc _) Tryz.underlying48 rfl S1.out ?_)
    | (go_at_call 151; refine (Bu h HH.out _).mono ?_; rintro e w1 ⟨rfl, hb1⟩; rw [HX.out]
       have hK1 : bM w1 (w.heap.size + 1) #[.int .i64 0, .int .i64 0] 52 := (bM.newAt _ _ (by simp)).keep hb1
       have c0 : w1.cell? ⟨w.heap.size + 1, 0, none⟩ = some (.int .i64 0) := hK1.cell 0
       have c1 : w1.cell? ⟨w.heap.size + 1, 1, none⟩ = some (.int .i64 0) := hK1.cell 1
       have f0 := hK1.frozen 0
       have f1 := hK1.frozen 1
       have HB1 := Lib.hid ((((Below.refl _ w).next (Nat.le_refl _) _).next (Nat.le_refl _) _).later hb1 (Nat.le_refl _))
       have HK1 := Lib.hid hK1
       clear hK1 hb1)
    | (go_at_call 153; refine (uZ 4 x _).mono ?_; rintro e w' ⟨rfl, rfl⟩))
  have hK2 : bM ((w1.setCell ⟨w.heap.size + 1, 0, none⟩ (.int .i64 x)).setCell ⟨w.heap.size + 1, 1, none⟩ (.int .i64 (aA 4 x))) (w.heap.size + 1) #[.int .i64 x, .int .i64 (aA 4 x)] 52 := ((HK1.out.set 0 _).set 1 _).copy rfl
  have hg2 : w1.grownBy ((w1.setCell ⟨w.heap.size + 1, 0, none⟩ (.int .i64 x)).setCell ⟨w.heap.size + 1, 1, none⟩ (.int .i64 (aA 4 x))) (some (w.heap.size + 1)) := aS (aS (fM _ _) 0 _) 1 _
  have hs1 := HB1.out.size
  exact bodyPost_ret (v := .agg #[.int .i64 x, .int .i64 (aA 4 x)]) (results_cell_row rfl _ _ (w.heap.size + 1) _ #[.int .i64 x, .int .i64 (aA 4 x)] (0, 0) _ rfl hK2 Tryz.underlying52 rfl (by kernel_rfl)) rfl
    ⟨rfl, below_grown HB1.out hg2 (by omega) hs1⟩
theorem P7(x y p:Int)(hp:cO p=false)(w:World):
  Calls Tryz.prog 145 #[.agg #[.int .i64 x,.int .i64 y],.int .i64 p] w fun e w'=>e=.returned (.tuple #[HV (List.replicate 32 0),.bool false])∧Below w.heap.size w w':=by
 have hR:bM ((w.alloc (.cells #[.int .i64 x,.int .i64 y] 52)).alloc (.cells bY 48)) (w.heap.size+1) bY 48:=bM.newAt _ _ (by simp)
 have HR:=Lib.hid hR;have HP:=Lib.hid hp
 clear hR hp
 go_enter Tryz.func145,Tryz.ntmps145
 go_wp2_with (first
  |(go_at_call 144;refine(vY p _).mono ?_;rintro e w' ⟨rfl,rfl⟩;rw[HP.out])
  |(refine wpList_store_row rfl 48 _ _ rfl (w.heap.size+1) bY rfl rfl 48 bY HR.out Ni rfl zone ?_))
 exact bodyPost_ret (v:=.tuple #[.agg bY,.bool false]) (lK rfl _ _ (w.heap.size+1) _ _ (0,0) _ _ rfl rfl (HR.out.setRow _) Tryz.underlying48 rfl Ni) rfl
  ⟨rfl,below_setRow (((Below.refl _ w).next (Nat.le_refl _) _).next (Nat.le_refl _) _) _ (by omega)⟩
theorem FJ(p s:Int)(g:Nat)(w:World)(t:TypeId)(hF:bM w g (HC (bD (aA p s))) t):
  Calls Tryz.prog 69 #[.agg bY,.string ⟨#[115,104,97,114,101]⟩,.slice (some ⟨g,0,none⟩) 4 4] w fun e w'=>e=.returned (HV (kC p s))∧Below w.heap.size w w':=
 Bp (List.replicate 32 0) rfl ⟨#[115,104,97,114,101]⟩ _ 4 4 (bD (aA p s)) w (dP.wN hF (by simp[maxLen,bD]) 4 rfl) (fun h=>by cases h) (by simp[bD];decide)
set_option maxHeartbeats 1600000 in
theorem Mx (x y p : Int) (hp : cO p = true) (w : World) :
    Calls Tryz.prog 145 #[.agg #[.int .i64 x, .int .i64 y], .int .i64 p] w fun e w' => e = .returned (.tuple #[HV (kC p x), .bool true]) ∧ Below w.heap.size w w' := by
  have hR : bM ((w.alloc (.cells #[.int .i64 x, .int .i64 y] 52)).alloc (.cells bY 48)) (w.heap.size + 1) bY 48 := bM.newAt _ _ (by simp)
  have hb0 : Below w.heap.size w ((w.alloc (.cells #[.int .i64 x, .int .i64 y] 52)).alloc (.cells bY 48)) := ((Below.refl _ w).next (Nat.le_refl _) _).next (Nat.le_refl _) _
  have hsz2 : bY.size = (HC (kC p x)).size := by rw [eO, lG]; rfl
  have hsz : (Tryz.prog.info? 48).map (·.size) = some (HC (kC p x)).size := by rw [eO, lG]; kernel_rfl
  have HR := Lib.hid hR; have HP := Lib.hid hp; have HB0 := Lib.hid hb0; have S2 := Lib.hid hsz2; have S1 := Lib.hid hsz
  clear hR hp hb0 hsz2 hsz
  go_enter Tryz.func145, Tryz.ntmps145
  go_wp2_with (first
    | (go_at_call 144; refine (vY p _).mono ?_; rintro e w' ⟨rfl, rfl⟩; rw [HP.out])
    | (go_at_call 153; refine (uZ p x _).mono ?_; rintro e w' ⟨rfl, rfl⟩)
    | (go_at_call 147; refine (Ar _ _).mono ?_; rintro e w2 ⟨rfl, hw2⟩
       have hF : bM w2 (w.heap.size + 1 + 1) (HC (bD (aA p x))) 5 := by rw [hw2]; exact bM.newAt _ _ (by simp)
       have hR2 : bM w2 (w.heap.size + 1) bY 48 := by rw [hw2]; exact HR.out.alloc _
       have hb2 : Below w.heap.size w w2 := by rw [hw2]; exact HB0.out.next (Nat.le_refl _) _
       have HF := Lib.hid hF; have HB2 := Lib.hid hb2; have HR2 := Lib.hid hR2
       clear hw2 hF hb2 hR2 HR HB0)
    | (go_at_call 69; refine (FJ p x (w.heap.size + 1 + 1) w2 _ HF.out).mono ?_; rintro e w3 ⟨rfl, hb3⟩)
    | (refine wpList_store_row rfl 48 _ _ rfl (w.heap.size + 1) (HC (kC p x)) rfl rfl 48 bY (HR2.out.keep hb3) S1.out S2.out (wS _) ?_))
  exact bodyPost_ret (v := .tuple #[HV (kC p x), .bool true]) (lK rfl _ _ (w.heap.size + 1) _ (HC (kC p x)) (0, 0) _ _ rfl rfl ((HR2.out.keep hb3).setRow _) Tryz.underlying48 rfl S1.out) rfl
    ⟨rfl, below_setRow (HB2.out.later hb3 (Nat.le_refl _)) _ (by omega)⟩
end
section
section
variable {P : Program} (w : World)
end
end
section
theorem F5(w:World)(o:BinOp)(p q:Operand)(x y:List UInt8):(eqGuard o 48 p q (HV x) (HV y)).run Tryz.prog w=.ok () w:=
 run_eqGuard_agg w o 48 p q _ _ (by kernel_rfl)
end
section
open Pm
attribute [local go_sem] F5
theorem aF9(a b:Int)(w:World):(Instr.field 52 (.agg #[.int .i64 a,.int .i64 b]) 1).run Tryz.prog w=.ok (.int .i64 b) w:=by
 simp[Instr.field,asAgg,go_sem,Tryz.underlying52,Tryz.underlying3]
theorem aF8(a b:Int)(w:World):(Instr.field 52 (.agg #[.int .i64 a,.int .i64 b]) 0).run Tryz.prog w=.ok (.int .i64 a) w:=by
 simp[Instr.field,asAgg,go_sem,Tryz.underlying52,Tryz.underlying3]
attribute [local go_sem] aF9 aF8
end
section
open Pm
def CD(s:Int)(d:Bool)(us:Int):Array Value:=CK s (if d then 1 else 0) (if d then aA 4 s else 0) (if d then 1 else 0) us
def uq(p s:Int):List UInt8:=if cO p then kC p s else List.replicate 32 0
theorem EO(p s:Int):(uq p s).length=32:=by
 unfold uq
 split
 ·exact lG _ _
 ·rfl
theorem U8(g:Nat)(s us:Int)(d:Bool)(hs:0≤s∧s<1073741789)(w:World)(hk:bM w g (CD s d us) 182):
  Calls Tryz.prog 48 #[.pointer (some ⟨g,0,none⟩)] w fun e w'=>e=.returned (.int .i64 (aA 4 s))∧bM w' g (CD s true us) 182∧w.grownBy w' (some g):=by
 cases d with
 |false=>exact Ju g s us hs w hk
 |true=>
  refine(Jt g s (aA 4 s) 1 us w hk).mono ?_
  rintro e w' ⟨rfl,hb⟩
  exact⟨rfl,bM.keep hk hb,j6 (fM w _) hb⟩
theorem Qj(g:Nat)(s us p:Int)(d:Bool)(w:World)(hk:bM w g (CD s d us) 182):
  Calls Tryz.prog 158 #[.pointer (some ⟨g,0,none⟩),.int .i64 p] w fun e w'=>e=.returned (.tuple #[HV (uq p s),.bool (cO p)])∧(∃us',bM w' g (CD s d us') 182)∧w.grownBy w' (some g):=by
 unfold uq
 by_cases hp:cO p=true
 ·rw[hp]
  refine(ML g s _ _ _ us p hp w hk).mono ?_
  rintro e w' ⟨rfl,h1,h2⟩
  exact⟨rfl,⟨_,h1⟩,h2⟩
 ·have hp:=Bool.eq_false_iff.2 hp
  rw[hp]
  refine(Vu g s _ _ _ us p hp w hk).mono ?_
  rintro e w' ⟨rfl,hb⟩
  exact⟨rfl,⟨us,bM.keep hk hb⟩,j6 (fM w _) hb⟩
theorem P8(x y p:Int)(w:World):
  Calls Tryz.prog 145 #[.agg #[.int .i64 x,.int .i64 y],.int .i64 p] w fun e w'=>e=.returned (.tuple #[HV (uq p x),.bool (cO p)])∧Below w.heap.size w w':=by
 unfold uq
 by_cases hp:cO p=true
 ·rw[hp];exact Mx x y p hp w
 ·have hp:=Bool.eq_false_iff.2 hp
  rw[hp];exact P7 x y p hp w
end
section
open Pm
def pV:A→(List UInt8→Prop)→Prop
 | .row n [.bytes m b],K=>n=m∧K b
 | .row 0 [],K=>K []
 | .v (.slice none 0 0),K=>K []
 |_,_=>False
def Zo:List A→(List (List UInt8)→Prop)→Prop
 |[],K=>K []
 |a::r,K=>pV a fun b=>Zo r fun L=>K (b::L)
def Cu:A→(List (List UInt8)→Prop)→Prop
 | .row n [.gen m rs],K=>n=m∧Zo rs K
 | .v (.slice none 0 0),K=>K []
 |_,_=>False
theorem GZ{x:A}{K:List UInt8→Prop}(h:pV x K):∃b,K b∧∀{S:Nat→Prop} {w:World} {v:Value},RA S w x v→∃a n c,v=.slice a n c∧dP w a n b∧(a=none→c=0):=by
 unfold pV at h
 split at h
 ·next n m b=>
  obtain⟨rfl,h⟩:=h
  refine⟨b,h,fun {S w v} hv=>?_⟩
  cases hv with
  |row k1 k2 k3 k4 k5=>
   rename_i c cs ad
   obtain⟨e1,e2⟩:=k1.kM
   refine⟨ad,_,c,rfl,⟨e1.symm,by rw[e1];exact Nat.le_trans k2 k3,?_⟩,k4⟩
   rcases k5 with k5|⟨q,o',k6,_,_,k7⟩
   ·left;rw[e2]at k5;exact List.map_eq_nil_iff.1 k5
   ·refine .inr ⟨q,o',k6,fun i hi=>?_⟩
    subst e2
    rw[k7 i (by simpa[HL]using hi)]
    simp[HL]
 ·refine⟨[],h,fun {S w v} hv=>?_⟩
  cases hv with
  |row k1 k2 k3 k4 k5=>exact⟨_,_,_,rfl,dP.nil _ _,k4⟩
 ·refine⟨[],h,fun {S w v} hv=>?_⟩
  rw[RA.plain hv]
  exact⟨none,0,0,rfl,dP.nil _ _,fun _=>rfl⟩
 ·exact h.elim
theorem DZ:∀{l:List A} {K:List (List UInt8)→Prop},Zo l K→∃L,K L∧L.length=l.length∧∀{S:Nat→Prop} {w:World} {vs:List Value},RG S w l vs→∀(i:Nat) (h:i<L.length),∃a n c,vs[i]?=some (.slice a n c)∧dP w a n L[i]∧(a=none→c=0)
 |[],K,h=>⟨[],h,rfl,fun _ i hi=>by simp at hi⟩
 |a::r,K,h=>by
  obtain⟨b,h1,h2⟩:=GZ h
  obtain⟨L,h3,h4,h5⟩:=DZ h1
  refine⟨b::L,h3,by simp[h4],fun {S w vs} hv i hi=>?_⟩
  cases hv with
  |cons k1 k2 k3=>
   cases i with
   |zero=>
    obtain⟨a',n,c,rfl,h6,h7⟩:=h2 k1
    exact⟨a',n,c,rfl,h6,h7⟩
   |succ i=>simpa using h5 k3 i (by simpa using hi)
theorem tq{x:A}{K:List (List UInt8)→Prop}(h:Cu x K):∃L,K L∧∀{S:Nat→Prop} {w:World} {v:Value},RA S w x v→∃a n c,v=.slice a n c∧qM w a n L∧(a=none→c=0)∧
  (L=[]∨∃b off,a=some ⟨b,off,none⟩∧∀(i:Nat) (h:i<L.length),∃a' l' c',w.cell? ⟨b,off+i,none⟩=some (.slice a' l' c')∧dP w a' l' L[i]∧(a'=none→c'=0)):=by
 unfold Cu at h
 split at h
 ·next n m rs=>
  obtain⟨rfl,h⟩:=h
  obtain⟨L,h1,h2,h3⟩:=DZ h
  refine⟨L,h1,fun {S w v} hv=>?_⟩
  cases hv with
  |row k1 k2 k3 k4 k5=>
   rename_i c cs ad
   obtain⟨e1,e2⟩:=k1.pX
   have hl:L.length=n:=by rw[h2,e1]
   have key:L=[]∨∃b off,ad=some ⟨b,off,none⟩∧∀(i:Nat) (h:i<L.length),∃a' l' c',w.cell? ⟨b,off+i,none⟩=some (.slice a' l' c')∧dP w a' l' L[i]∧(a'=none→c'=0):=by
    rcases k5 with k5|⟨q,o',k6,_,_,k7⟩
    ·left
     have:=e2.len
     rw[k5]at this
     exact List.length_eq_zero_iff.1 (by rw[h2];exact this.symm)
    ·refine .inr ⟨q,o',k6,fun i hi=>?_⟩
     obtain⟨a',l',c',e3,e4,e5⟩:=h3 e2 i hi
     obtain⟨e6,e7⟩:=List.getElem?_eq_some_iff.1 e3
     exact⟨a',l',c',by rw[k7 i e6,e7],e4,e5⟩
   refine⟨ad,_,c,rfl,⟨hl.symm,by rw[hl];exact Nat.le_trans k2 k3,?_⟩,k4,key⟩
   rcases key with h0|⟨b,off,h4,h5⟩
   ·exact .inl h0
   ·exact .inr ⟨b,off,h4,fun i hi=>by obtain⟨a',l',c',e1,e2,_⟩:=h5 i hi;exact⟨a',l',c',e1,e2⟩⟩
 ·refine⟨[],h,fun {S w v} hv=>?_⟩
  rw[RA.plain hv]
  exact⟨none,0,0,rfl,⟨rfl,by simp,.inl rfl⟩,fun _=>rfl,.inl rfl⟩
 ·exact h.elim
theorem yP{S:Nat→Prop}{w:World}{h:List UInt8}{v:Value}(hv:RA S w (.agg [.bytes 32 h]) v):v=HV h∧h.length=32:=by
 cases hv with
 |agg k=>
  obtain⟨e1,e2⟩:=k.kM
  subst e2
  exact⟨rfl,e1⟩
theorem Cr{S:Nat→Prop}{w:World}{h:List UInt8}(hl:h.length=32):RA S w (.agg [.bytes 32 h]) (HV h):=.agg (.ofBytes hl rfl)
theorem iP{S:Nat→Prop}{w:World}{a:A}{vs:List Value}(h:lW S w [a] vs):∃v,vs=[v]∧RA S w a v:=by
 cases h with|cons h r=>cases r;exact⟨_,rfl,h⟩
theorem jI{S:Nat→Prop}{w:World}{a b c:A}{vs:List Value}(h:lW S w [a,b,c] vs):∃x y z,vs=[x,y,z]∧RA S w a x∧RA S w b y∧RA S w c z:=by
 cases h with|cons h r=>cases r with|cons h2 r=>cases r with|cons h3 r=>cases r;exact⟨_,_,_,rfl,h,h2,h3⟩
def yG:List A→(bP→Prop)→Prop
 |[.agg [.bytes 32 h],.v (.string s),x],K=>s.size≤1000000∧Cu x fun L=>K (.d (.agg [.bytes 32 (aF h (sb s) L.flatten)]))
 |_,_=>False
theorem xk:∀args K,yG args K→∃r,aP 51 args r∧K r:=by
 intro args K hd
 unfold yG at hd
 split at hd
 ·next h s x=>
  obtain⟨hs,hd⟩:=hd
  obtain⟨L,hK,hL⟩:=tq hd
  refine⟨_,fun S w vs _ ha=>?_,hK⟩
  obtain⟨v1,v2,v3,rfl,h1,h2,h3⟩:=jI ha
  obtain⟨rfl,hh⟩:=yP h1
  rw[RA.plain h2]
  obtain⟨a,n,c,rfl,h4,_⟩:=hL h3
  refine(Da h hh s (by unfold maxLen;omega) a n c L w h4).mono ?_
  rintro e w' ⟨rfl,hb⟩
  exact⟨_,rfl,Cr (bO _),hb⟩
 ·exact hd.elim
def rG:List A→(bP→Prop)→Prop
 |[.agg [.bytes 32 h],.v (.string s),x],K=>s.size≤1000000∧pV x fun b=>b.length≤100000000∧K (.d (.agg [.bytes 32 (aF h (sb s) b)]))
 |_,_=>False
theorem qy:∀args K,rG args K→∃r,aP 69 args r∧K r:=by
 intro args K hd
 unfold rG at hd
 split at hd
 ·next h s x=>
  obtain⟨hs,hd⟩:=hd
  obtain⟨b,⟨hbl,hK⟩,hL⟩:=GZ hd
  refine⟨_,fun S w vs _ ha=>?_,hK⟩
  obtain⟨v1,v2,v3,rfl,h1,h2,h3⟩:=jI ha
  obtain⟨rfl,hh⟩:=yP h1
  rw[RA.plain h2]
  obtain⟨a,n,c,rfl,h4,h5⟩:=hL h3
  refine(Bp h hh s a n c b w h4 h5 (by omega)).mono ?_
  rintro e w' ⟨rfl,hb⟩
  exact⟨_,rfl,Cr (bO _),hb⟩
 ·exact hd.elim
def au(h:List UInt8):Int:=U (kL h 8)%1073741788+1
theorem dL(h:List UInt8):1≤au h∧au h<1073741789:=by
 unfold au
 have:=Int.emod_nonneg (U (kL h 8)) (show(1073741788:Int)≠0 by decide)
 have:=Int.emod_lt_of_pos (U (kL h 8)) (show(0:Int)<1073741788 by decide)
 omega
def p9(s:Int)(cs:List Value)(t:TypeId):Prop:=t=182∧∃d us,cs.toArray=CD s d us
def KV:List A→(bP→Prop)→Prop
 |[.agg [.bytes 32 h]],K=>K (.p (.obj (p9 (au h))))
 |_,_=>False
theorem Dv:∀args K,KV args K→∃r,aP 101 args r∧K r:=by
 intro args K hd
 unfold KV at hd
 split at hd
 ·next h=>
  refine⟨_,fun S w vs _ ha=>?_,hd⟩
  obtain⟨v,rfl,h1⟩:=iP ha
  obtain⟨rfl,hh⟩:=yP h1
  refine(Yw h hh w).mono ?_
  rintro e w' ⟨g,rfl,hg,hb,hB⟩
  exact⟨_,rfl,⟨g,rfl,hg,(CK (U (kL h 8)%1073741788+1) 0 0 0 0).toList,_,hb,rfl,false,0,rfl⟩,hB⟩
 ·exact hd.elim
def zn:Nat→Bk→List A→(bP→Bk→Prop)→Prop
 |0,.obj p,[],K=>∃s,p=p9 s∧0≤s∧s<1073741789∧K (.d (.v (.int .i64 (aA 4 s)))) (.obj (p9 s))
 |_,_,_,_=>False
theorem sV:∀pos x args K,zn pos x args K→∃r x',gq 48 pos x args r x'∧K r x':=by
 intro pos x args K hd
 unfold zn at hd
 split at hd
 ·next p=>
  obtain⟨s,rfl,h0,h1,hK⟩:=hd
  refine⟨_,_,fun S w r vs hr _ hx ha=>?_,hK⟩
  cases ha
  obtain⟨cs,t,h2,rfl,d,us,h3⟩:=hx
  have hb:bM w r (CD s d us) 182:=by unfold bM;rw[h2,←h3]
  refine(U8 r s us d ⟨h0,h1⟩ w hb).mono ?_
  rintro e w' ⟨rfl,h4,h5⟩
  exact⟨_,rfl,.v _,⟨(CD s true us).toList,_,h4,rfl,true,us,rfl⟩,h5⟩
 ·exact hd.elim
def ED:List A→(bP→Prop)→Prop
 |[.agg [.bytes 32 h]],K=>K (.d (.agg [.ints .i64 2 [au h,aA 4 (au h)]]))
 |_,_=>False
theorem Au:∀args K,ED args K→∃r,aP 141 args r∧K r:=by
 intro args K hd
 unfold ED at hd
 split at hd
 ·next h=>
  refine⟨_,fun S w vs _ ha=>?_,hd⟩
  obtain⟨v,rfl,h1⟩:=iP ha
  obtain⟨rfl,hh⟩:=yP h1
  refine(Vj h hh w).mono ?_
  rintro e w' ⟨rfl,hB⟩
  exact⟨_,rfl,aw7 (zs:=[au h,aA 4 (au h)]) rfl,hB⟩
 ·exact hd.elim
end
section
theorem bq3(n:Nat):(madeCells (Value.int .u8 0).cells (n*1)).toList=HL (List.replicate n 0):=by
 refine List.ext_getElem? fun i=>?_
 simp[madeCells,HL,Value.cells,List.getElem?_replicate]
 by_cases h:i<n
 ·simp[h,Bt,Nat.mod_one]
 ·simp[h]
theorem NH{w:World}{base g n:Nat}{e:TypeId}{bs:List UInt8}(h:w.ownsRow base e 1 (.slice (some ⟨g,0,none⟩) n n) n (HL bs)):bM w g (HC bs) e:=by
 rcases h.2 with⟨h1,_⟩|⟨g',cap,cur,h1,_,h2,h3,_,h4,h5⟩
 ·cases h1
 ·injection h1 with h1 _ h6
  injection h1 with h1
  injection h1 with h1
  subst h1;subst h6
  have:cur=HC bs:=by
   apply Array.toList_inj.1
   rw[vD,←h5,List.take_of_length_le (by simp[h4])]
  rw[←this];exact h2
end
section
def bZ(n:Int):List UInt8:=[ny n 56,ny n 48,ny n 40,ny n 32,ny n 24,ny n 16,ny n 8,ny n 0]
theorem fF(n:Int):(bZ n).length=8:=rfl
theorem ZB(n:Int)(k:Nat)(h:k<8):(bZ n)[k]?=some (ny n (56-8*k)):=by
 match k,h with
 |0,_=>rfl
 |1,_=>rfl
 |2,_=>rfl
 |3,_=>rfl
 |4,_=>rfl
 |5,_=>rfl
 |6,_=>rfl
 |7,_=>rfl
def Eo(n:Int)(k:Nat):List UInt8:=(bZ n).take k++List.replicate (8-k) 0
theorem Pn(n:Int):Eo n 0=List.replicate 8 0:=rfl
theorem UY(n:Int):Eo n 8=bZ n:=rfl
theorem Jo(n:Int)(k:Nat)(h:k≤8):(Eo n k).length=8:=by simp[Eo,fF];omega
theorem UZ(n:Int)(k:Nat)(h:k<8):(Eo n k).set k (ny n (56-8*k))=Eo n (k+1):=by
 match k,h with
 |0,_=>rfl
 |1,_=>rfl
 |2,_=>rfl
 |3,_=>rfl
 |4,_=>rfl
 |5,_=>rfl
 |6,_=>rfl
 |7,_=>rfl
theorem JK(k:Nat)(h:k≤7):IntKind.i64.wrap (8*(k:Int))=8*(k:Int)∧IntKind.i64.wrap (56-8*(k:Int))=56-8*(k:Int)∧0≤56-8*(k:Int)∧(56-8*(k:Int)).toNat=56-8*k∧56-8*k≤64:=
 ⟨IntWalk.i64_in _ (by omega),IntWalk.i64_in _ (by omega),by omega,by omega,by omega⟩
end
end Go.Proofs.YtjhgelfnmhdihaaGreatDoor
