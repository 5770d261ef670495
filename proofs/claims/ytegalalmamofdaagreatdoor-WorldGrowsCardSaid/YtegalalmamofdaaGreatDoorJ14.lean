/- -/
import Derived.Test.YtegalalmamofdaaGreatDoorJ13
import Derived.Laws.ResultCell
import Derived.Test.YtegalalmamofdaaGreatDoorJ10
namespace Go.Proofs.YtegalalmamofdaaGreatDoor
set_option linter.all false
set_option maxRecDepth 100000
open Go.RowKit
variable{S:Nat->Prop}{w:World}
section
open Pm
theorem vM{P:Program}{fn:Func}{p u:Tmp}{ty:TypeId}(h:fn.results=#[.cell p ty,.tmp u])(tmps:Array Value)(w:World)(g:Nat)(t:TypeId)(cs:Array Value)(fr:Nat×Nat)(d:TypeDesc)(v2:Value)(hv2:tmps.getD u undef=v2)
  (hp:tmps.getD p undef=.pointer (some ⟨g,0,none⟩))(hg:w.heap[g]?=some (.cells cs t fr))
  (hu:P.underlying ty=some d)(hd:(match d with| .struct _| .array _ _=>true|_=>false)=true)(hi:(P.info? ty).map (·.size)=some cs.size):
  (results fn tmps).run P w=.ok (.tuple #[.agg cs,v2]) w:=by
 rw[results_cell_tmp h,hp,hv2]
 simp[asAddr,run_loadVar_row w g t ty cs fr d hg hu hd hi,Result.andThen]
theorem bB2(a:Addr)(x:Int)(w:World)(hc:w.cell? a=some (.int .i64 x))(hz:w.frozen? a=false):
  Calls Tryz.prog 24 #[.pointer (some a),.int .i64 1] w fun e w'=>e=.returned (.int .i64 (IntKind.i64.wrap (x+1)))/\w'=w.setCell a (.int .i64 (IntKind.i64.wrap (x+1))):=by
 generalize hw:IntKind.i64.wrap (x+1)=z
 have hadd:=run_call_add (P:=Tryz.prog) Tryz.func44 (by kernel_rfl) (by kernel_rfl) (by kernel_rfl) .i64 (by kernel_rfl) (y:=1) (s:=z) hc hz (by simp[go_sem,hw])
 clear hw
 go_enter Tryz.func24,Tryz.ntmps24
 go_wp2
 go_ret
 exact⟨rfl,rfl⟩
def sI(p s:Int):List UInt8:=aD (List.replicate 32 0) (sb ⟨#[115,104,97,114,101]⟩) (bP (aJ p s))
theorem Ls(p s:Int)(g:Nat)(w:World)(t q:TypeId)(hF:aM w g (HC (bP (aJ p s))) t):
  Calls Tryz.prog 37 #[.agg dU,.string ⟨#[115,104,97,114,101]⟩,.slice (some ⟨w.heap.size,0,none⟩) 1 1] (w.alloc (.cells #[.slice (some ⟨g,0,none⟩) 4 4] q)) fun e w'=>e=.returned (HV (sI p s))/\Below (w.alloc (.cells #[.slice (some ⟨g,0,none⟩) 4 4] q)).heap.size (w.alloc (.cells #[.slice (some ⟨g,0,none⟩) 4 4] q)) w':=by
 have e1:[bP (aJ p s)].flatten=bP (aJ p s):=by simp
 have hr:fP w (some ⟨g,0,none⟩) 4 (bP (aJ p s)):=fP.Gm hF (by simp[maxLen,bP]) 4 rfl
 have hR:II (w.alloc (.cells #[.slice (some ⟨g,0,none⟩) 4 4] q)) (some ⟨w.heap.size,0,none⟩) 1 [bP (aJ p s)]:=II.one hr
 have h:=NV ⟨#[115,104,97,114,101]⟩ (by decide) _ 1 1 [bP (aJ p s)] _ hR
 rw[e1]at h
 exact h
theorem sJ(p s:Int):(sI p s).length=32:=bG _
theorem Zd(g:Nat)(s dn pub md us p:Int)(hp:dL p=false)(w:World)(hk:aM w g (CK s dn pub md us) 184):
  Calls Tryz.prog 171 #[.pointer (some ⟨g,0,none⟩),.int .i64 p] w fun e w'=>e=.returned (.tuple #[HV (List.replicate 32 0),.bool false])/\Below w.heap.size w w':=by
 have hR:aM (w.alloc (.cells dU 28)) w.heap.size dU 28:=aM.new w _ _
 have HR:=Lib.hid hR;have HP:=Lib.hid hp
 clear hR hp hk
 go_enter Tryz.func171,Tryz.ntmps171
 go_wp2_with (first
  |(go_at_call 170;refine(Ch p _).mono ?_;rintro e w' ⟨rfl,rfl⟩;rw[HP.out])
  |(refine wpList_store_row rfl 28 _ _ rfl w.heap.size dU rfl rfl 28 dU HR.out aJ5 rfl zone ?_))
 exact bodyPost_ret (v:=.tuple #[.agg dU,.bool false]) (vM rfl _ _ w.heap.size _ _ (0,0) _ _ rfl rfl (HR.out.setRow _) Tryz.underlying28 rfl aJ5) rfl
  ⟨rfl,below_setRow ((Below.refl _ w).next (Nat.le_refl _) _) _ (Nat.le_refl _)⟩
set_option maxHeartbeats 1600000 in
theorem Qc (g : Nat) (s dn pub md us p : Int) (hp : dL p = true) (w : World) (hk : aM w g (CK s dn pub md us) 184) :
    Calls Tryz.prog 171 #[.pointer (some ⟨g, 0, none⟩), .int .i64 p] w fun e w' => e = .returned (.tuple #[HV (sI p s), .bool true]) /\ aM w' g (CK s dn pub md (IntKind.i64.wrap (us + 1))) 184 /\ w.grownBy w' (some g) := by
  have hlt := hk.lt
  have hR : aM (w.alloc (.cells dU 28)) w.heap.size dU 28 := aM.new w _ _
  have hk0 := hk.alloc (.cells dU 28)
  have hg0 : w.grownBy (w.alloc (.cells dU 28)) (some g) := jw (bH w _) ((Below.refl _ w).next (Nat.le_refl _) _)
  have hsz2 : dU.size = (HC (sI p s)).size := by rw [dO, sJ]; rfl
  have hsz : (Tryz.prog.info? 28).map (·.size) = some (HC (sI p s)).size := by rw [dO, sJ]; kernel_rfl
  have HK0 := Lib.hid hk0; have HP := Lib.hid hp; have HG0 := Lib.hid hg0; have HR0 := Lib.hid hR; have S2 := Lib.hid hsz2; have S1 := Lib.hid hsz
  clear hR hp hk hk0 hg0 hsz2 hsz
  go_enter Tryz.func171, Tryz.ntmps171
  go_wp2_with (first
    | (go_at_call 170; refine (Ch p _).mono ?_; rintro e w' ⟨rfl, rfl⟩; rw [HP.out])
    | (go_at_call 24; refine (bB2 ⟨g, 6, none⟩ us _ (HK0.out.cell 6) (HK0.out.frozen 6)).mono ?_; rintro e w1 ⟨rfl, hw1⟩
       have hk1 : aM w1 g (CK s dn pub md (IntKind.i64.wrap (us + 1))) 184 := by rw [hw1]; exact (HK0.out.set 6 _).copy rfl
       have hg1 : w.grownBy w1 (some g) := by rw [hw1]; exact ay HG0.out 6 _
       have Vz : aM w1 w.heap.size dU 28 := by rw [hw1]; exact HR0.out.other ⟨g, 6, none⟩ _ (by simp; omega)
       obtain ⟨c0, -, -, -, -, -, -⟩ := hk1.key
       have HK1 := Lib.hid hk1; have KY := Lib.hid hg1; have HR1 := Lib.hid Vz
       clear hw1 hk1 hg1 Vz HK0 HG0 HR0)
    | (go_at_call 104; refine (Bg p s _).mono ?_; rintro e w' ⟨rfl, rfl⟩)
    | (go_at_call 120; refine (FH _ _).mono ?_; rintro e w2 ⟨rfl, hw2⟩
       have hF : aM w2 w1.heap.size (HC (bP (aJ p s))) 5 := by rw [hw2]; exact aM.new _ _ _
       have hb2 : Below w1.heap.size w1 w2 := by rw [hw2]; exact (Below.refl _ _).next (Nat.le_refl _) _
       have HF := Lib.hid hF; have HB2 := Lib.hid hb2
       clear hw2 hF hb2)
    | (go_at_call 37; refine (Ls p s w1.heap.size w2 _ _ HF.out).mono ?_; rintro e w3 ⟨rfl, hb3⟩)
    | (refine wpList_store_row rfl 28 _ _ rfl w.heap.size (HC (sI p s)) rfl rfl 28 dU (((HR1.out.keep HB2.out).alloc _).keep hb3) S1.out S2.out (wh _) ?_))
  have hb : Below w1.heap.size w1 w3 := (HB2.out.next (Nat.le_refl _) _).later hb3 (Nat.le_refl _)
  have hlt1 : g < w1.heap.size := HK1.out.lt
  exact bodyPost_ret (v := .tuple #[HV (sI p s), .bool true]) (vM rfl _ _ w.heap.size _ (HC (sI p s)) (0, 0) _ _ rfl rfl ((((HR1.out.keep HB2.out).alloc _).keep hb3).setRow _) Tryz.underlying28 rfl S1.out) rfl
    ⟨rfl, (HK1.out.keep hb).Gs _ (by omega), kN (jw KY.out hb) _ (.inl (Nat.le_refl _))⟩
theorem Y6 (h : List UInt8) (hh : h.length = 32) (w : World) :
    Calls Tryz.prog 42 #[HV h] w fun e w' => e = .returned (.agg #[.int .i64 (U (mK h 8) % 1073741788 + 1), .int .i64 (aJ 4 (U (mK h 8) % 1073741788 + 1))]) /\ Below w.heap.size w w' := by
  obtain ⟨x, hx⟩ : ∃ x, U (mK h 8) % 1073741788 + 1 = x := ⟨_, rfl⟩
  have hB := aM.new w (HC h) 28
  have hsz : (Tryz.prog.info? 28).map (·.size) = some (HC h).size := by rw [dO, hh]; kernel_rfl
  have HB := Lib.hid hB; have S1 := Lib.hid hsz; have HH := Lib.hid hh; have HX := Lib.hid hx
  rw [hx]
  clear hB hsz hh hx
  unfold HV
  go_enter Tryz.func42, Tryz.ntmps42
  go_wp2_with (first
    | (refine wpList_load_row rfl 28 _ rfl w.heap.size rfl 28 (HC h) (0, 0) _ (HB.out.alloc _) Tryz.underlying28 rfl S1.out ?_)
    | (go_at_call 64; refine (DL h HH.out _).mono ?_; rintro e w1 ⟨rfl, hb1⟩; rw [HX.out]
       have hK1 : aM w1 (w.heap.size + 1) #[.int .i64 0, .int .i64 0] 75 := (aM.newAt _ _ (by simp)).keep hb1
       have c0 : w1.cell? ⟨w.heap.size + 1, 0, none⟩ = some (.int .i64 0) := hK1.cell 0
       have c1 : w1.cell? ⟨w.heap.size + 1, 1, none⟩ = some (.int .i64 0) := hK1.cell 1
       have f0 := hK1.frozen 0
       have f1 := hK1.frozen 1
       have HB1 := Lib.hid ((((Below.refl _ w).next (Nat.le_refl _) _).next (Nat.le_refl _) _).later hb1 (Nat.le_refl _))
       have HK1 := Lib.hid hK1
       clear hK1 hb1)
    | (go_at_call 65; refine (PX 4 x _).mono ?_; rintro e w' ⟨rfl, rfl⟩))
  have hK2 : aM ((w1.setCell ⟨w.heap.size + 1, 0, none⟩ (.int .i64 x)).setCell ⟨w.heap.size + 1, 1, none⟩ (.int .i64 (aJ 4 x))) (w.heap.size + 1) #[.int .i64 x, .int .i64 (aJ 4 x)] 75 := ((HK1.out.set 0 _).set 1 _).copy rfl
  have hg2 : w1.grownBy ((w1.setCell ⟨w.heap.size + 1, 0, none⟩ (.int .i64 x)).setCell ⟨w.heap.size + 1, 1, none⟩ (.int .i64 (aJ 4 x))) (some (w.heap.size + 1)) := ay (ay (bH _ _) 0 _) 1 _
  have hs1 := HB1.out.size
  exact bodyPost_ret (v := .agg #[.int .i64 x, .int .i64 (aJ 4 x)]) (results_cell_row rfl _ _ (w.heap.size + 1) _ #[.int .i64 x, .int .i64 (aJ 4 x)] (0, 0) _ rfl hK2 Tryz.underlying75 rfl (by kernel_rfl)) rfl
    ⟨rfl, below_grown HB1.out hg2 (by omega) hs1⟩
end
section
section
variable {P : Program} (w : World)
end
end
section
theorem xP(w:World)(o:BinOp)(p q:Operand)(x y:List UInt8):(eqGuard o 28 p q (HV x) (HV y)).run Tryz.prog w=.ok () w:=
 run_eqGuard_agg w o 28 p q _ _ (by kernel_rfl)
end
section
open Pm
attribute [local go_sem] xP
theorem bm0(a b:Int)(w:World):(Instr.field 75 (.agg #[.int .i64 a,.int .i64 b]) 1).run Tryz.prog w=.ok (.int .i64 b) w:=by
 simp[Instr.field,asAgg,go_sem,Tryz.underlying75,Tryz.underlying3]
theorem bl9(a b:Int)(w:World):(Instr.field 75 (.agg #[.int .i64 a,.int .i64 b]) 0).run Tryz.prog w=.ok (.int .i64 a) w:=by
 simp[Instr.field,asAgg,go_sem,Tryz.underlying75,Tryz.underlying3]
attribute [local go_sem] bm0 bl9
end
section
open Pm
def CD(s:Int)(d:Bool)(us:Int):Array Value:=CK s (if d then 1 else 0) (if d then aJ 4 s else 0) (if d then 1 else 0) us
def DR(p s:Int):List UInt8:=if dL p then sI p s else List.replicate 32 0
theorem Uf(p s:Int):(DR p s).length=32:=by
 unfold DR
 split
 ·exact sJ _ _
 ·rfl
theorem Y0(g:Nat)(s us:Int)(d:Bool)(hs:0<=s/\s<1073741789)(w:World)(hk:aM w g (CD s d us) 184):
  Calls Tryz.prog 62 #[.pointer (some ⟨g,0,none⟩)] w fun e w'=>e=.returned (.int .i64 (aJ 4 s))/\aM w' g (CD s true us) 184/\w.grownBy w' (some g):=by
 cases d with
 |false=>exact Mt g s us hs w hk
 |true=>
  refine(Ms g s (aJ 4 s) 1 us w hk).mono ?_
  rintro e w' ⟨rfl,hb⟩
  exact⟨rfl,aM.keep hk hb,jw (bH w _) hb⟩
theorem Uh(g:Nat)(s us p:Int)(d:Bool)(w:World)(hk:aM w g (CD s d us) 184):
  Calls Tryz.prog 171 #[.pointer (some ⟨g,0,none⟩),.int .i64 p] w fun e w'=>e=.returned (.tuple #[HV (DR p s),.bool (dL p)])/\(∃us',aM w' g (CD s d us') 184)/\w.grownBy w' (some g):=by
 unfold DR
 by_cases hp:dL p=true
 ·rw[hp]
  refine(Qc g s _ _ _ us p hp w hk).mono ?_
  rintro e w' ⟨rfl,h1,h2⟩
  exact⟨rfl,⟨_,h1⟩,h2⟩
 ·have hp:=Bool.eq_false_iff.2 hp
  rw[hp]
  refine(Zd g s _ _ _ us p hp w hk).mono ?_
  rintro e w' ⟨rfl,hb⟩
  exact⟨rfl,⟨us,aM.keep hk hb⟩,jw (bH w _) hb⟩
end
section
open Pm
def sH:A->(List UInt8->Prop)->Prop
 | .row n [.bytes m b],K=>n=m/\K b
 | .row 0 [],K=>K []
 | .v (.slice none 0 0),K=>K []
 |_,_=>False
def as4:List A->(List (List UInt8)->Prop)->Prop
 |[],K=>K []
 |a::r,K=>sH a fun b=>as4 r fun L=>K (b::L)
def Bl:A->(List (List UInt8)->Prop)->Prop
 | .row n [.gen m rs],K=>n=m/\as4 rs K
 | .v (.slice none 0 0),K=>K []
 |_,_=>False
theorem C9{x:A}{K:List UInt8->Prop}(h:sH x K):∃b,K b/\∀{S:Nat->Prop} {w:World} {v:Value},RA S w x v->∃a n c,v=.slice a n c/\fP w a n b/\(a=none->c=0):=by
 unfold sH at h
 split at h
 ·next n m b=>
  obtain⟨rfl,h⟩:=h
  refine⟨b,h,fun {S w v} hv=>?_⟩
  cases hv with
  |row k1 k2 k3 k4 k5=>
   rename_i c cs ad
   obtain⟨e1,e2⟩:=k1.iZ
   refine⟨ad,_,c,rfl,⟨e1.symm,by rw[e1];exact Nat.le_trans k2 k3,?_⟩,k4⟩
   rcases k5 with k5|⟨q,o',k6,_,_,k7⟩
   ·left;rw[e2]at k5;exact List.map_eq_nil_iff.1 k5
   ·refine .inr ⟨q,o',k6,fun i hi=>?_⟩
    subst e2
    rw[k7 i (by simpa[HL]using hi)]
    simp[HL]
 ·refine⟨[],h,fun {S w v} hv=>?_⟩
  cases hv with
  |row k1 k2 k3 k4 k5=>exact⟨_,_,_,rfl,fP.nil _ _,k4⟩
 ·refine⟨[],h,fun {S w v} hv=>?_⟩
  rw[RA.plain hv]
  exact⟨none,0,0,rfl,fP.nil _ _,fun _=>rfl⟩
 ·exact h.elim
theorem FY:∀{l:List A} {K:List (List UInt8)->Prop},as4 l K->∃L,K L/\L.length=l.length/\∀{S:Nat->Prop} {w:World} {vs:List Value},RG S w l vs->∀(i:Nat) (h:i<L.length),∃a n c,vs[i]?=some (.slice a n c)/\fP w a n L[i]/\(a=none->c=0)
 |[],K,h=>⟨[],h,rfl,fun _ i hi=>by simp at hi⟩
 |a::r,K,h=>by
  obtain⟨b,h1,h2⟩:=C9 h
  obtain⟨L,h3,h4,h5⟩:=FY h1
  refine⟨b::L,h3,by simp[h4],fun {S w vs} hv i hi=>?_⟩
  cases hv with
  |cons k1 k2 k3=>
   cases i with
   |zero=>
    obtain⟨a',n,c,rfl,h6,h7⟩:=h2 k1
    exact⟨a',n,c,rfl,h6,h7⟩
   |succ i=>simpa using h5 k3 i (by simpa using hi)
theorem vk{x:A}{K:List (List UInt8)->Prop}(h:Bl x K):∃L,K L/\∀{S:Nat->Prop} {w:World} {v:Value},RA S w x v->∃a n c,v=.slice a n c/\II w a n L/\(a=none->c=0)/\
  (L=[]\/∃b off,a=some ⟨b,off,none⟩/\∀(i:Nat) (h:i<L.length),∃a' l' c',w.cell? ⟨b,off+i,none⟩=some (.slice a' l' c')/\fP w a' l' L[i]/\(a'=none->c'=0)):=by
 unfold Bl at h
 split at h
 ·next n m rs=>
  obtain⟨rfl,h⟩:=h
  obtain⟨L,h1,h2,h3⟩:=FY h
  refine⟨L,h1,fun {S w v} hv=>?_⟩
  cases hv with
  |row k1 k2 k3 k4 k5=>
   rename_i c cs ad
   obtain⟨e1,e2⟩:=k1.gB
   have hl:L.length=n:=by rw[h2,e1]
   have key:L=[]\/∃b off,ad=some ⟨b,off,none⟩/\∀(i:Nat) (h:i<L.length),∃a' l' c',w.cell? ⟨b,off+i,none⟩=some (.slice a' l' c')/\fP w a' l' L[i]/\(a'=none->c'=0):=by
    rcases k5 with k5|⟨q,o',k6,_,_,k7⟩
    ·left
     have:=e2.len
     rw[k5]at this
     exact List.length_eq_zero_iff.1 (by rw[h2];exact this.symm)
    ·refine .inr ⟨q,o',k6,fun i hi=>?_⟩
     obtain⟨a',l',c',e3,e4,e5⟩:=h3 e2 i hi
     obtain⟨e6,e7⟩:=List.getElem?_eq_some_iff.1 e3
     exact⟨a',l',c',by rw[k7 i e6,e7],e4,e5⟩
   refine⟨ad,_,c,rfl,⟨hl.symm,by rw[hl];exact Nat.le_trans k2 k3,?_⟩,k4,key⟩
   rcases key with h0|⟨b,off,h4,h5⟩
   ·exact .inl h0
   ·exact .inr ⟨b,off,h4,fun i hi=>by obtain⟨a',l',c',e1,e2,_⟩:=h5 i hi;exact⟨a',l',c',e1,e2⟩⟩
 ·refine⟨[],h,fun {S w v} hv=>?_⟩
  rw[RA.plain hv]
  exact⟨none,0,0,rfl,⟨rfl,by simp,.inl rfl⟩,fun _=>rfl,.inl rfl⟩
 ·exact h.elim
theorem xU{h:List UInt8}{v:Value}(hv:RA S w (.agg [.bytes 32 h]) v):v=HV h/\h.length=32:=by
 cases hv with
 |agg k=>
  obtain⟨e1,e2⟩:=k.iZ
  subst e2
  exact⟨rfl,e1⟩
theorem Ez{h:List UInt8}(hl:h.length=32):RA S w (.agg [.bytes 32 h]) (HV h):=.agg (.ofBytes hl rfl)
theorem iC{a:A}{vs:List Value}(h:mH S w [a] vs):∃v,vs=[v]/\RA S w a v:=by
 cases h with|cons h r=>cases r;exact⟨_,rfl,h⟩
theorem jH{a b c:A}{vs:List Value}(h:mH S w [a,b,c] vs):∃x y z,vs=[x,y,z]/\RA S w a x/\RA S w b y/\RA S w c z:=by
 cases h with|cons h r=>cases r with|cons h2 r=>cases r with|cons h3 r=>cases r;exact⟨_,_,_,rfl,h,h2,h3⟩
def Ah:List A->(bC->Prop)->Prop
 |[.agg [.bytes 32 h],.v (.string s),x],K=>s.size<=1000000/\Bl x fun L=>K (.d (.agg [.bytes 32 (aD h (sb s) L.flatten)]))
 |_,_=>False
theorem zm:∀args K,Ah args K->∃r,aV 37 args r/\K r:=by
 intro args K hd
 unfold Ah at hd
 split at hd
 ·next h s x=>
  obtain⟨hs,hd⟩:=hd
  obtain⟨L,hK,hL⟩:=vk hd
  refine⟨_,fun S w vs _ ha=>?_,hK⟩
  obtain⟨v1,v2,v3,rfl,h1,h2,h3⟩:=jH ha
  obtain⟨rfl,hh⟩:=xU h1
  rw[RA.plain h2]
  obtain⟨a,n,c,rfl,h4,_⟩:=hL h3
  refine(zn h hh s (by unfold maxLen;omega) a n c L w h4).mono ?_
  rintro e w' ⟨rfl,hb⟩
  exact⟨_,rfl,Ez (bG _),hb⟩
 ·exact hd.elim
def xA:List A->(bC->Prop)->Prop
 |[.agg [.bytes 32 h],.v (.string s),x],K=>s.size<=1000000/\sH x fun b=>b.length<=100000000/\K (.d (.agg [.bytes 32 (aD h (sb s) b)]))
 |_,_=>False
theorem xB:∀args K,xA args K->∃r,aV 22 args r/\K r:=by
 intro args K hd
 unfold xA at hd
 split at hd
 ·next h s x=>
  obtain⟨hs,hd⟩:=hd
  obtain⟨b,⟨hbl,hK⟩,hL⟩:=C9 hd
  refine⟨_,fun S w vs _ ha=>?_,hK⟩
  obtain⟨v1,v2,v3,rfl,h1,h2,h3⟩:=jH ha
  obtain⟨rfl,hh⟩:=xU h1
  rw[RA.plain h2]
  obtain⟨a,n,c,rfl,h4,h5⟩:=hL h3
  refine(PN h hh s a n c b w h4 h5 (by omega)).mono ?_
  rintro e w' ⟨rfl,hb⟩
  exact⟨_,rfl,Ez (bG _),hb⟩
 ·exact hd.elim
def aI(h:List UInt8):Int:=U (mK h 8)%1073741788+1
theorem iq(h:List UInt8):1<=aI h/\aI h<1073741789:=by
 unfold aI
 have:=Int.emod_nonneg (U (mK h 8)) (show(1073741788:Int)≠0 by decide)
 have:=Int.emod_lt_of_pos (U (mK h 8)) (show(0:Int)<1073741788 by decide)
 omega
def mO(s:Int)(cs:List Value)(t:TypeId):Prop:=t=184/\∃d us,cs.toArray=CD s d us
def Oi:List A->(bC->Prop)->Prop
 |[.agg [.bytes 32 h]],K=>K (.p (.obj (mO (aI h))))
 |_,_=>False
theorem FK:∀args K,Oi args K->∃r,aV 78 args r/\K r:=by
 intro args K hd
 unfold Oi at hd
 split at hd
 ·next h=>
  refine⟨_,fun S w vs _ ha=>?_,hd⟩
  obtain⟨v,rfl,h1⟩:=iC ha
  obtain⟨rfl,hh⟩:=xU h1
  refine(am4 h hh w).mono ?_
  rintro e w' ⟨g,rfl,hg,hb,hB⟩
  exact⟨_,rfl,⟨g,rfl,hg,(CK (U (mK h 8)%1073741788+1) 0 0 0 0).toList,_,hb,rfl,false,0,rfl⟩,hB⟩
 ·exact hd.elim
def Bh:Nat->Bk->List A->(bC->Bk->Prop)->Prop
 |0,.obj p,[],K=>∃s,p=mO s/\0<=s/\s<1073741789/\K (.d (.v (.int .i64 (aJ 4 s)))) (.obj (mO s))
 |_,_,_,_=>False
theorem uW:∀pos x args K,Bh pos x args K->∃r x',bV 62 pos x args r x'/\K r x':=by
 intro pos x args K hd
 unfold Bh at hd
 split at hd
 ·next p=>
  obtain⟨s,rfl,h0,h1,hK⟩:=hd
  refine⟨_,_,fun S w r vs hr _ hx ha=>?_,hK⟩
  cases ha
  obtain⟨cs,t,h2,rfl,d,us,h3⟩:=hx
  have hb:aM w r (CD s d us) 184:=by unfold aM;rw[h2,<-h3]
  refine(Y0 r s us d ⟨h0,h1⟩ w hb).mono ?_
  rintro e w' ⟨rfl,h4,h5⟩
  exact⟨_,rfl,.v _,⟨(CD s true us).toList,_,h4,rfl,true,us,rfl⟩,h5⟩
 ·exact hd.elim
def He:List A->(bC->Prop)->Prop
 |[.agg [.bytes 32 h]],K=>K (.d (.agg [.ints .i64 2 [aI h,aJ 4 (aI h)]]))
 |_,_=>False
theorem C8:∀args K,He args K->∃r,aV 42 args r/\K r:=by
 intro args K hd
 unfold He at hd
 split at hd
 ·next h=>
  refine⟨_,fun S w vs _ ha=>?_,hd⟩
  obtain⟨v,rfl,h1⟩:=iC ha
  obtain⟨rfl,hh⟩:=xU h1
  refine(Y6 h hh w).mono ?_
  rintro e w' ⟨rfl,hB⟩
  exact⟨_,rfl,aX4 (zs:=[aI h,aJ 4 (aI h)]) rfl,hB⟩
 ·exact hd.elim
end
section
theorem cf4(n:Nat):(madeCells (Value.int .u8 0).cells (n*1)).toList=HL (List.replicate n 0):=by
 refine List.ext_getElem? fun i=>?_
 simp[madeCells,HL,Value.cells,List.getElem?_replicate]
 by_cases h:i<n
 ·simp[h,Bt,Nat.mod_one]
 ·simp[h]
theorem Ri{base g n:Nat}{e:TypeId}{bs:List UInt8}(h:w.ownsRow base e 1 (.slice (some ⟨g,0,none⟩) n n) n (HL bs)):aM w g (HC bs) e:=by
 rcases h.2 with⟨h1,_⟩|⟨g',cap,cur,h1,_,h2,h3,_,h4,h5⟩
 ·cases h1
 ·injection h1 with h1 _ h6
  injection h1 with h1
  injection h1 with h1
  subst h1;subst h6
  have:cur=HC bs:=by
   apply Array.toList_inj.1
   rw[xH,<-h5,List.take_of_length_le (by simp[h4])]
  rw[<-this];exact h2
end
section
def aC(n:Int):List UInt8:=[kV n 56,kV n 48,kV n 40,kV n 32,kV n 24,kV n 16,kV n 8,kV n 0]
theorem fE(n:Int):(aC n).length=8:=rfl
theorem av0(n:Int)(k:Nat)(h:k<8):(aC n)[k]?=some (kV n (56-8*k)):=by
 match k,h with
 |0,_=>rfl
 |1,_=>rfl
 |2,_=>rfl
 |3,_=>rfl
 |4,_=>rfl
 |5,_=>rfl
 |6,_=>rfl
 |7,_=>rfl
def Gv(n:Int)(k:Nat):List UInt8:=(aC n).take k++List.replicate (8-k) 0
theorem TB(n:Int):Gv n 0=List.replicate 8 0:=rfl
theorem YM(n:Int):Gv n 8=aC n:=rfl
theorem Mk(n:Int)(k:Nat)(h:k<=8):(Gv n k).length=8:=by simp[Gv,fE];omega
theorem YN(n:Int)(k:Nat)(h:k<8):(Gv n k).set k (kV n (56-8*k))=Gv n (k+1):=by
 match k,h with
 |0,_=>rfl
 |1,_=>rfl
 |2,_=>rfl
 |3,_=>rfl
 |4,_=>rfl
 |5,_=>rfl
 |6,_=>rfl
 |7,_=>rfl
theorem MJ(k:Nat)(h:k<=7):IntKind.i64.wrap (8*(k:Int))=8*(k:Int)/\IntKind.i64.wrap (56-8*(k:Int))=56-8*(k:Int)/\0<=56-8*(k:Int)/\(56-8*(k:Int)).toNat=56-8*k/\56-8*k<=64:=
 ⟨IntWalk.i64_in _ (by omega),IntWalk.i64_in _ (by omega),by omega,by omega,by omega⟩
def qJ(b:List UInt8):Nat:=b.foldl (fun n c=>n*256+c.toNat) 0
def isNum(b:List UInt8):Bool:=b.length==8&&decide ((b.getD 0 0).toNat<=127)
def pq(b:List UInt8):Int:=if isNum b then(qJ b:Int)else 0
theorem Cv(b:List UInt8):qJ (b.take 0)=0:=by simp[qJ]
theorem Cu(b:List UInt8)(k:Nat)(h:k<b.length):qJ (b.take (k+1))=qJ (b.take k)*256+b[k].toNat:=by
 unfold qJ
 rw[List.take_add_one,List.getElem?_eq_getElem h,List.foldl_append]
 simp
theorem L8(b:List UInt8)(h0:(b.getD 0 0).toNat<=127):∀(k:Nat),k<b.length->qJ (b.take (k+1))<128*256^k
 |0,h=>by
  rw[Cu b 0 h,Cv]
  rw[List.getD_eq_getElem?_getD,List.getElem?_eq_getElem h]at h0
  simp at h0 ⊢
  omega
 |k+1,h=>by
  have ih:=L8 b h0 k (by omega)
  rw[Cu b (k+1) h]
  have hc:=UInt8.toNat_lt b[k+1]
  have e:128*256^(k+1)=128*256^k*256:=by rw[Nat.pow_succ,Nat.mul_assoc]
  rw[e]
  omega
theorem av1(b:List UInt8)(h0:(b.getD 0 0).toNat<=127)(hl:b.length=8)(k:Nat)(h:k<8):qJ (b.take k)*256+255<9223372036854775808:=by
 match k,h with
 |0,_=>rw[Cv];decide
 |k+1,h=>
  have h1:=L8 b h0 k (by omega)
  have h2:256^k<=256^6:=Nat.pow_le_pow_right (by decide) (by omega)
  have e:(256:Nat)^6=281474976710656:=by decide
  rw[e]at h2
  omega
theorem aW0(a b:Nat)(hb:b<256)(hs:a*256+b<9223372036854775808):bits .or .i64 ((a:Int)*256) (b:Int)=((a*256+b:Nat):Int):=by
 have e1:(a:Int)*256=((a*256:Nat):Int):=by omega
 rw[e1]
 show IntKind.i64.wrap ((BitVec.ofInt 64 ((a*256:Nat):Int)|||BitVec.ofInt 64 (b:Int)).toNat:Int)=_
 rw[BitVec.ofInt_natCast,BitVec.ofInt_natCast,BitVec.toNat_or,BitVec.toNat_ofNat,BitVec.toNat_ofNat,Nat.mod_eq_of_lt (by omega),Nat.mod_eq_of_lt (by omega)]
 have h:=Nat.shiftLeft_add_eq_or_of_lt (show b<2^8 by omega) a
 rw[Nat.shiftLeft_eq]at h
 have h2:a*256|||b=a*256+b:=h.symm
 rw[h2,IntWalk.i64_in _ (by omega)]
end
end Go.Proofs.YtegalalmamofdaaGreatDoor
