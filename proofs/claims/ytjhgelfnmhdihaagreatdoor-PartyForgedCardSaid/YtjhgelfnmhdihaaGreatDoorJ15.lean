/-
  Numbers as eight bytes: the walks of Num, the program's and the document's.
-/
import Derived.Test.YtjhgelfnmhdihaaGreatDoorJ14
namespace Go.Proofs.YtjhgelfnmhdihaaGreatDoor
set_option linter.unusedVariables false
set_option linter.unusedSimpArgs false
set_option maxRecDepth 100000
open Go.RowKit
section
theorem at7 (n : Int) (w : World) :
    Calls Tryz.prog 108 #[.int .i64 n] w fun e w' => ∃ Q, e = .returned (.slice (some ⟨Q, 0, none⟩) 8 8) ∧ w.heap.size ≤ Q ∧ bM w' Q (HC (bZ n)) 5 ∧ Below w.heap.size w w' := by
  obtain ⟨i8, hi8, hz8, hs8, hb8⟩ := info_parts info8
  go_enter Tryz.func108, Tryz.ntmps108
  go_wp2_with (at_make
               refine wpList_make_full _ rfl _ _ 78 rfl w.heap.size 5 i8 (.int .u8 0) 1 Tryz.underlying78 hi8 hz8 hs8 _ _ _ _ 8 rfl rfl rfl rfl ?m1 ?m2 ?m3 ?_
               case m1 => rw [hb8]; decide
               case m2 => simp only [maxLen]; decide
               case m3 => exact Nat.le_refl _
               intro w1 hown hg1
               rw [bq3] at hown
               have hX1 := NH hown
               have hB1 : Below w.heap.size w w1 := (Below.refl _ w).grown hg1 (Nat.le_refl _) (fun k hk => by cases hk)
               have HQ1 := Lib.hid hX1; have HB1 := Lib.hid hB1
               clear hown hg1 hX1 hB1)
  go_loopw [4, 8] (fun _ i wr => ∃ k : Nat, k ≤ 8 ∧ i = .int .i64 k ∧ bM wr w.heap.size (HC (Eo n k)) 5 ∧ Below w.heap.size w wr) (fun _ i _ => 8 - (intOf i).toNat)
  case atStart => exact ⟨0, Nat.zero_le _, rfl, by rw [Pn]; exact HQ1.out, HB1.out⟩
  case round =>
    obtain ⟨k, hk, rfl, hQ, hB⟩ := hrel
    by_cases hlt : k < 8
    · obtain ⟨vq, cQ⟩ : ∃ v, wr.cell? ⟨w.heap.size, k, none⟩ = some v := ⟨_, (hQ.cell k).trans (lV _ k (by rw [Jo n k hk]; exact hlt))⟩
      have fQ := hQ.frozen k
      have HQ := Lib.hid hQ; have HB := Lib.hid hB
      obtain ⟨hs1, hs2, hs3, hs4⟩ := JK k (by omega)
      clear hQ hB HQ1 HB1
      go_wp2
      go_roundw
      case rel =>
        refine ⟨k + 1, by omega, by go_num, (HQ.out.set k _).copy ?_, HB.out.setCell (by simp) _⟩
        rw [show n / 2 ^ (56 - 8 * k) % 256 = Bt (ny n (56 - 8 * k)) from (I7 n (56 - 8 * k)).symm, Ih, UZ n k hlt]
      case measure => simp [intOf]; omega
    · have hkl : k = 8 := by omega
      subst hkl
      rw [UY] at hQ
      have HQ := Lib.hid hQ; have HB := Lib.hid hB
      clear hQ hB HQ1 HB1
      go_wp2
      go_ret
      exact ⟨w.heap.size, rfl, Nat.le_refl _, HQ.out, HB.out⟩
set_option maxHeartbeats 1000000 in
theorem ac2 (n : Int) (w : World) :
    Calls Tryz.prog 70 #[.int .i64 n] w fun e w' => ∃ v, e = .returned v ∧ gV w' w.heap.size 5 v (bZ n) ∧ Below w.heap.size w w' := by
  go_enter Tryz.func70, Tryz.ntmps70
  go_wp2
  go_loopw [3, 4] (fun b i wr => ∃ k : Nat, k ≤ 8 ∧ i = .int .i64 (7 - (k : Int)) ∧ gV wr w.heap.size 5 b ((bZ n).take k) ∧ Below w.heap.size w wr) (fun _ i _ => (intOf i + 1).toNat)
  case atStart => exact ⟨0, Nat.zero_le _, rfl, World.ownsRow_nil _ _ _ _, Below.refl _ _⟩
  case round =>
    obtain ⟨k, hk, rfl, hO, hB⟩ := hrel
    by_cases hlt : k < 8
    · have hx : n / 2 ^ (56 - 8 * k) % 256 = Bt (ny n (56 - 8 * k)) := (I7 n (56 - 8 * k)).symm
      have hge : (7 - (k : Int) ≥ 0) := by omega
      have hm1 : IntKind.i64.wrap (8 * (7 - (k : Int))) = 56 - 8 * (k : Int) := by rw [IntWalk.i64_in _ (by omega)]; omega
      have hm2 : IntKind.u64.wrap (56 - 8 * (k : Int)) = 56 - 8 * (k : Int) := IntWalk.u64_in _ (by omega)
      have hm3 : (56 - 8 * (k : Int)).toNat = 56 - 8 * k := by omega
      have hm4 : IntKind.i64.wrap (7 - (k : Int) - 1) = 7 - ((k + 1 : Nat) : Int) := by rw [IntWalk.i64_in _ (by omega)]; omega
      have bO4 : 0 ≤ 56 - 8 * (k : Int) := by omega
      have hle2 : 56 - 8 * k ≤ 64 := by omega
      have HO := Lib.hid hO; have HB := Lib.hid hB
      clear hO hB
      go_wp2_with (at_builtin
                   refine eZ rfl (.tmp 9) (.tmp 16) 78 rfl w.heap.size 5 Tryz.underlying78 info8 _ ((bZ n).take k) rfl ?c1 _ _ _ [ny n (56 - 8 * k)] rfl ?c2 ?c3 ?c4 ?c5 ?_
                   case c1 => exact HO.out.below ((Below.refl _ _).next (Nat.le_refl _) _)
                   case c2 => exact dP.rD [ny n (56 - 8 * k)] _ rfl rfl rfl (by simp [maxLen])
                   case c3 => exact fun h => by cases h
                   case c4 => simp [fF]; omega
                   case c5 => exact (HB.out.next (Nat.le_refl _) _).size
                   intro v3 w3 hown3 hg3 hb3
                   have Nu := Lib.hid hown3; have HB3 := Lib.hid ((HB.out.next (Nat.le_refl _) _).trans hb3)
                   clear hown3 hg3 hb3)
      go_roundw
      case rel =>
        refine ⟨k + 1, by omega, by go_num, ?_, HB3.out⟩
        have e : (bZ n).take (k + 1) = (bZ n).take k ++ [ny n (56 - 8 * k)] := by
          rw [List.take_add_one, ZB n k hlt]; rfl
        rw [e]; exact Nu.out
      case measure => simp [intOf]; omega
    · have hkl : k = 8 := by omega
      subst hkl
      rw [List.take_of_length_le (by simp [fF])] at hO
      obtain ⟨a', c', rfl, hr, hn⟩ := hO.forms (by simp [fF, maxLen])
      have HO := Lib.hid hO; have HB := Lib.hid hB
      clear hO hB hr hn
      go_wp2
      go_ret
      exact ⟨_, rfl, HO.out, HB.out⟩
end
section
section
variable {P : Program}
def add1(S:Nat→Bool)(i:Nat):Nat→Bool:=fun j=>decide (j=i)||S j
theorem Tc(S:Nat→Bool)(i:Nat):add1 S i i=true:=by simp[add1]
theorem fB(S:Nat→Bool){i j:Nat}(h:j≠i):add1 S i j=S j:=by simp[add1,h]
section
variable {l : List Oper} {J : (Nat → Bool) → (Nat → Value) → World → Prop} {D : List (List Nat)} {a0 : Act} {w0 : World}
end
end
end
section
def og(Ts:List TypeId)(w w':World):Prop:=∀(g:Nat) (cs:Array Value) (t:TypeId) (fr:Nat×Nat),t∉Ts→w.heap[g]?=some (.cells cs t fr)→∃fr',w'.heap[g]?=some (.cells cs t fr')
theorem og.refl(Ts:List TypeId)(w:World):og Ts w w:=fun _ _ _ fr _ h=>⟨fr,h⟩
theorem og.trans{Ts:List TypeId}{a b c:World}(h:og Ts a b)(k:og Ts b c):og Ts a c:=fun g cs t fr ht hg=>by
 obtain⟨fr',h1⟩:=h g cs t fr ht hg
 exact k g cs t fr' ht h1
theorem og.below{Ts:List TypeId}{w w':World}(h:Below w.heap.size w w'):og Ts w w':=fun g _ _ fr _ hg=>⟨fr,(h.block g (Array.getElem?_eq_some_iff.1 hg).1).trans hg⟩
theorem og.grown{Ts:List TypeId}{w w':World}{g:Nat}{cs:Array Value}{t:TypeId}(hk:bM w g cs t)(ht:t∈Ts)(h:w.grownBy w' (some g)):og Ts w w':=fun g' cs' t' fr' ht' hg'=>by
 refine⟨fr',?_⟩
 have hne:g'≠g:=by
  rintro rfl
  unfold bM at hk
  rw[hk]at hg'
  have h1:=Option.some.inj hg'
  injection h1 with h2 h3
  exact ht' (h3▸ht)
 exact(h.block g' (Array.getElem?_eq_some_iff.1 hg').1 (fun e=>hne (by injection e))).trans hg'
structure kQ(Ts:List TypeId)(B:Nat)(w w':World):Prop where
 below:Below B w w'
 marks:og Ts w w'
theorem kQ.refl(Ts:List TypeId)(B:Nat)(w:World):kQ Ts B w w:=⟨Below.refl _ _,og.refl _ _⟩
theorem kQ.trans{Ts:List TypeId}{B:Nat}{a b c:World}(h:kQ Ts B a b)(k:kQ Ts B b c):kQ Ts B a c:=⟨h.below.trans k.below,h.marks.trans k.marks⟩
theorem kQ.size{Ts:List TypeId}{B:Nat}{a b:World}(h:kQ Ts B a b)(hB:B≤a.heap.size):B≤b.heap.size:=Nat.le_trans hB h.below.size
theorem kQ.of{Ts:List TypeId}{B:Nat}{w w':World}(h:Below w.heap.size w w')(hB:B≤w.heap.size):kQ Ts B w w':=⟨h.mono hB,.below h⟩
theorem kQ.alloc{Ts:List TypeId}{B:Nat}(w:World)(o:Obj)(hB:B≤w.heap.size):kQ Ts B w (w.alloc o):=.of ((Below.refl _ _).alloc (Nat.le_refl _) _) hB
theorem kQ.grown{Ts:List TypeId}{B:Nat}{w w':World}{g:Nat}{cs:Array Value}{t:TypeId}(hk:bM w g cs t)(ht:t∈Ts)(h:w.grownBy w' (some g))(hg:B≤g)(hB:B≤w.heap.size):kQ Ts B w w':=
 ⟨below_grown (Below.refl _ _) h hg hB,.grown hk ht h⟩
section
variable {P : Program} {l : List Oper} {L : List ((Nat → Value) → World → Prop)} {D : List (List Nat)} {a0 : Act} {w0 : World} {Ts : List TypeId} {B : Nat} {G : (Nat → Bool) → (Nat → Value) → World → Prop}
end
def DX(B:Nat)(T:TypeId)(k:Nat)(cs:Array Value)(S:Nat→Bool)(vals:Nat→Value)(w:World):Prop:=S k=true→∃g,vals k=.pointer (some ⟨g,0,none⟩)∧B≤g∧bM w g cs T
theorem DX.start(B:Nat)(T:TypeId)(k:Nat)(cs:Array Value)(vals:Nat→Value)(w:World):DX B T k cs (fun _=>false) vals w:=fun h=>Bool.noConfusion h
theorem DX.keep{B:Nat}{T:TypeId}{k:Nat}{cs:Array Value}{S:Nat→Bool}{vals:Nat→Value}{w w':World}(h:DX B T k cs S vals w)(v:Value)(i:Nat)(hi:k≠i)(hb:Below w.heap.size w w'):DX B T k cs (add1 S i) (fun j=>if j=i then v else vals j) w':=by
 intro hS
 rw[fB S hi]at hS
 obtain⟨g,h1,h2,h3⟩:=h hS
 exact⟨g,(if_neg hi).trans h1,h2,h3.keep hb⟩
theorem DX.new{B:Nat}{T:TypeId}{k:Nat}{cs:Array Value}{S:Nat→Bool}{vals:Nat→Value}{w':World}(g:Nat)(h0:B≤g)(hk:bM w' g cs T):DX B T k cs (add1 S k) (fun j=>if j=k then .pointer (some ⟨g,0,none⟩)else vals j) w':=
 fun _=>⟨g,if_pos rfl,h0,hk⟩
def newAt(B:Nat)(T:TypeId)(a b:Nat)(c0 c1:Array Value)(S:Nat→Bool)(vals:Nat→Value)(w:World):Prop:=S a=true→∃g,vals a=.pointer (some ⟨g,0,none⟩)∧B≤g∧bM w g (if S b then c1 else c0) T
theorem newAt.start(B:Nat)(T:TypeId)(a b:Nat)(c0 c1:Array Value)(vals:Nat→Value)(w:World):newAt B T a b c0 c1 (fun _=>false) vals w:=fun h=>Bool.noConfusion h
theorem newAt.keep{B:Nat}{T:TypeId}{a b:Nat}{c0 c1:Array Value}{S:Nat→Bool}{vals:Nat→Value}{w w':World}(h:newAt B T a b c0 c1 S vals w)(v:Value)(i:Nat)(ha:a≠i)(hb':b≠i)(hb:Below w.heap.size w w'):newAt B T a b c0 c1 (add1 S i) (fun j=>if j=i then v else vals j) w':=by
 intro hS
 rw[fB S ha]at hS
 obtain⟨g,h1,h2,h3⟩:=h hS
 exact⟨g,(if_neg ha).trans h1,h2,by rw[fB S hb'];exact h3.keep hb⟩
theorem newAt.new{B:Nat}{T:TypeId}{a b:Nat}{c0 c1:Array Value}{S:Nat→Bool}{vals:Nat→Value}{w':World}(g:Nat)(hab:b≠a)(hSb:S b=false)(h0:B≤g)(hk:bM w' g c0 T):newAt B T a b c0 c1 (add1 S a) (fun j=>if j=a then .pointer (some ⟨g,0,none⟩)else vals j) w':=
 fun _=>⟨g,if_pos rfl,h0,by rw[fB S hab,hSb];exact hk⟩
theorem newAt.store{B:Nat}{T:TypeId}{a b:Nat}{c0 c1:Array Value}{S:Nat→Bool}{vals:Nat→Value}{w':World}(v:Value)(g:Nat)(hab:a≠b)(hv:vals a=.pointer (some ⟨g,0,Option.none⟩))(h0:B≤g)(hk:bM w' g c1 T):newAt B T a b c0 c1 (add1 S b) (fun j=>if j=b then v else vals j) w':=
 fun _=>⟨g,(if_neg hab).trans hv,h0,by rw[Tc];exact hk⟩
def z8(g:Nat)(T:TypeId)(m:Nat)(c0 c1:Array Value)(S:Nat→Bool)(w:World):Prop:=bM w g (if S m then c1 else c0) T
theorem z8.start{g:Nat}{T:TypeId}{m:Nat}{c0 c1:Array Value}{w:World}(h:bM w g c0 T):z8 g T m c0 c1 (fun _=>false) w:=h
theorem z8.keep{g:Nat}{T:TypeId}{m:Nat}{c0 c1:Array Value}{S:Nat→Bool}{w w':World}(h:z8 g T m c0 c1 S w)(i:Nat)(hi:m≠i)(hb:Below w.heap.size w w'):z8 g T m c0 c1 (add1 S i) w':=by
 unfold z8 at*
 rw[fB S hi];exact h.keep hb
def rowOf(i:Nat)(bs:List UInt8)(t q:TypeId):(Nat→Value)→World→Prop:=fun vals w=>∃g g' fr fr',vals i=.slice (some ⟨g,0,none⟩) 1 1∧w.heap[g]?=some (.cells #[.slice (some ⟨g',0,none⟩) bs.length bs.length] q fr)∧w.heap[g']?=some (.cells (HC bs) t fr')
theorem rowOf.rows{w:World}{g g' n:Nat}{bs:List UInt8}{t q:TypeId}{fr fr':Nat×Nat}(h1:w.heap[g]?=some (.cells #[.slice (some ⟨g',0,none⟩) n n] q fr))(hn:n=bs.length)(h2:w.heap[g']?=some (.cells (HC bs) t fr'))(hs:bs.length≤1000):qM w (some ⟨g,0,none⟩) 1 [bs]:=by
 have hr:dP w (some ⟨g',0,none⟩) n bs:=dP.Je h2 hn (by simp only[maxLen];omega)
 refine⟨rfl,by simp[maxLen],.inr ⟨g,0,rfl,fun i hi=>?_⟩⟩
 match i,hi with
 |0,_=>exact⟨_,_,_,by rw[cell_of_row _ _ _ _ _ _ h1];rfl,hr⟩
 |n+1,hi=>exact absurd hi (by simp)
def LU(B:Nat)(e:TypeId)(m:Nat)(v0:Value)(c0 c1:List UInt8)(S:Nat→Bool)(vals:Nat→Value)(w:World):Prop:=(S m=false→gV w B e v0 c0)∧(S m=true→gV w B e (vals m) c1)
theorem LU.start{B:Nat}{e:TypeId}{m:Nat}{v0:Value}{c0 c1:List UInt8}{vals:Nat→Value}{w:World}(h:gV w B e v0 c0):LU B e m v0 c0 c1 (fun _=>false) vals w:=⟨fun _=>h,fun h=>Bool.noConfusion h⟩
theorem LU.keep{B:Nat}{e:TypeId}{m:Nat}{v0:Value}{c0 c1:List UInt8}{S:Nat→Bool}{vals:Nat→Value}{w w':World}(h:LU B e m v0 c0 c1 S vals w)(v:Value)(i:Nat)(hi:m≠i)(hb:Below w.heap.size w w'):LU B e m v0 c0 c1 (add1 S i) (fun j=>if j=i then v else vals j) w':=by
 refine⟨fun hS=>?_,fun hS=>?_⟩
 ·rw[fB S hi]at hS
  exact(h.1 hS).below hb
 ·rw[fB S hi]at hS
  show gV w' B e (if m=i then v else vals m) c1
  rw[if_neg hi]
  exact(h.2 hS).below hb
def ET(k m n:Nat)(bs:List UInt8)(S:Nat→Bool)(vals:Nat→Value)(w:World):Prop:=S k=true→S m=false→∃g,vals k=.slice (some ⟨g,0,none⟩) n n∧dP w (some ⟨g,0,none⟩) n bs
theorem ET.start(k m n:Nat)(bs:List UInt8)(vals:Nat→Value)(w:World):ET k m n bs (fun _=>false) vals w:=fun h=>Bool.noConfusion h
theorem ET.keep{k m n:Nat}{bs:List UInt8}{S:Nat→Bool}{vals:Nat→Value}{w w':World}(h:ET k m n bs S vals w)(v:Value)(i:Nat)(hk:k≠i)(hm:m≠i)(hb:Below w.heap.size w w'):ET k m n bs (add1 S i) (fun j=>if j=i then v else vals j) w':=by
 intro h1 h2
 rw[fB S hk]at h1
 rw[fB S hm]at h2
 obtain⟨g,h3,h4⟩:=h h1 h2
 exact⟨g,(if_neg hk).trans h3,h4.below hb⟩
theorem ET.new{k m n:Nat}{bs:List UInt8}{S:Nat→Bool}{vals:Nat→Value}{w':World}(g:Nat)(h:dP w' (some ⟨g,0,none⟩) n bs):ET k m n bs (add1 S k) (fun j=>if j=k then .slice (some ⟨g,0,none⟩) n n else vals j) w':=fun _ _=>⟨g,if_pos rfl,h⟩
theorem kQ.append{Ts:List TypeId}{B:Nat}{w w':World}{e:TypeId}{v:Value}{bs:List UInt8}(ho:gV w B e v bs)(he:e∈Ts)(hg:w.grownBy w' v.ownBlock)(hb:Below B w w'):kQ Ts B w w':=by
 refine⟨hb,fun g cs t fr ht hgt=>?_⟩
 have hne:v.ownBlock≠some g:=by
  intro hv
  rcases ho.2 with⟨h1,_⟩|⟨g',cap,cur,h1,_,h2,_,_,_,_⟩
  ·rw[h1]at hv;cases hv
  ·rw[h1]at hv
   have hgg:g'=g:=by injection hv
   rw[hgg,hgt]at h2
   have h3:=Option.some.inj h2
   injection h3 with h4 h5
   exact ht (h5▸he)
 exact⟨fr,(hg.block g (Array.getElem?_eq_some_iff.1 hgt).1 (fun h=>hne h.symm)).trans hgt⟩
def apart(i j:Nat)(S:Nat→Bool)(vals:Nat→Value):Prop:=S i=true→S j=true→vals i≠vals j
theorem apart.start(i j:Nat)(vals:Nat→Value):apart i j (fun _=>false) vals:=fun h=>Bool.noConfusion h
theorem apart.keep{i j:Nat}{S:Nat→Bool}{vals:Nat→Value}(h:apart i j S vals)(v:Value)(k:Nat)(hi:i≠k)(hj:j≠k):apart i j (add1 S k) (fun m=>if m=k then v else vals m):=by
 intro h1 h2
 rw[fB S hi]at h1;rw[fB S hj]at h2
 show(if i=k then v else vals i)≠(if j=k then v else vals j)
 rw[if_neg hi,if_neg hj]
 exact h h1 h2
end
section
def BM(φ:Value→World→Prop):Prop:=∀v w w',Below w.heap.size w w'→φ v w→φ v w'
def JQ(k m:Nat)(φ:Value→World→Prop)(S:Nat→Bool)(vals:Nat→Value)(w:World):Prop:=S k=true→S m=false→φ (vals k) w
theorem JQ.start(k m:Nat)(φ:Value→World→Prop)(vals:Nat→Value)(w:World):JQ k m φ (fun _=>false) vals w:=fun h=>Bool.noConfusion h
theorem JQ.keep{k m:Nat}{φ:Value→World→Prop}{S:Nat→Bool}{vals:Nat→Value}{w w':World}(h:JQ k m φ S vals w)(hφ:BM φ)(v:Value)(i:Nat)(hk:k≠i)(hm:m≠i)(hb:Below w.heap.size w w'):JQ k m φ (add1 S i) (fun j=>if j=i then v else vals j) w':=by
 intro h1 h2
 rw[fB S hk]at h1
 rw[fB S hm]at h2
 show φ (if k=i then v else vals k) w'
 rw[if_neg hk]
 exact hφ _ _ _ hb (h h1 h2)
theorem JQ.new{k m:Nat}{φ:Value→World→Prop}{S:Nat→Bool}{vals:Nat→Value}{w':World}{v:Value}(h:φ v w'):JQ k m φ (add1 S k) (fun j=>if j=k then v else vals j) w':=fun _ _=>by
 show φ (if k=k then v else vals k) w'
 rw[if_pos rfl];exact h
def OE(k:Nat)(φ:Value→World→Prop)(S:Nat→Bool)(vals:Nat→Value)(w:World):Prop:=S k=true→φ (vals k) w
theorem OE.start(k:Nat)(φ:Value→World→Prop)(vals:Nat→Value)(w:World):OE k φ (fun _=>false) vals w:=fun h=>Bool.noConfusion h
theorem OE.keep{k:Nat}{φ:Value→World→Prop}{S:Nat→Bool}{vals:Nat→Value}{w w':World}(h:OE k φ S vals w)(hφ:BM φ)(v:Value)(i:Nat)(hk:k≠i)(hb:Below w.heap.size w w'):OE k φ (add1 S i) (fun j=>if j=i then v else vals j) w':=by
 intro h1
 rw[fB S hk]at h1
 show φ (if k=i then v else vals k) w'
 rw[if_neg hk]
 exact hφ _ _ _ hb (h h1)
theorem OE.new{k:Nat}{φ:Value→World→Prop}{S:Nat→Bool}{vals:Nat→Value}{w':World}{v:Value}(h:φ v w'):OE k φ (add1 S k) (fun j=>if j=k then v else vals j) w':=fun _=>by
 show φ (if k=k then v else vals k) w'
 rw[if_pos rfl];exact h
theorem gV.base{w:World}{B B':Nat}{e:TypeId}{v:Value}{bs:List UInt8}(h:gV w B e v bs)(hB:B'≤B):gV w B' e v bs:=
 ⟨h.1,h.2.imp id fun⟨g,cap,cur,h1,h2,h3⟩=>⟨g,cap,cur,h1,Nat.le_trans hB h2,h3⟩⟩
end
section
theorem JQ.over{k m:Nat}{φ:Value→World→Prop}{S:Nat→Bool}{vals:Nat→Value}{w':World}{i:Nat}(hm:S m=true)(hi:m≠i):JQ k m φ (add1 S i) vals w':=by
 intro _ h
 rw[fB S hi,hm]at h;cases h
end
section
structure BF(w:World)(a:Option Addr)(l c:Nat)(bs:List UInt8):Prop where
 row:dP w a l bs
 nil:a=none→c=0
theorem BF.below{w w':World}{a:Option Addr}{l c:Nat}{bs:List UInt8}(h:BF w a l c bs)(b:Below w.heap.size w w'):BF w' a l c bs:=⟨h.row.below b,h.nil⟩
theorem BF.blk{w:World}{g n c:Nat}{bs:List UInt8}{t:TypeId}(h:bM w g (HC bs) t)(hn:n=bs.length)(hs:bs.length≤100000):BF w (some ⟨g,0,none⟩) n c bs:=⟨dP.wN h (by simp only[maxLen];omega) n hn,fun e=>by cases e⟩
structure zQ(w:World)(a:Option Addr)(len:Nat)(L:List (List UInt8)):Prop where
 len_eq:len=L.length
 small:L.length≤maxLen
 cells:L=[]∨∃b off,a=some ⟨b,off,none⟩∧∀(i:Nat) (h:i<L.length),∃a' l' c',w.cell? ⟨b,off+i,none⟩=some (.slice a' l' c')∧BF w a' l' c' L[i]
theorem zQ.below{w w':World}{a:Option Addr}{len:Nat}{L:List (List UInt8)}(h:zQ w a len L)(b:Below w.heap.size w w'):zQ w' a len L:=by
 refine⟨h.len_eq,h.small,?_⟩
 rcases h.cells with h1|⟨c,off,rfl,hc⟩
 ·exact .inl h1
 ·refine .inr ⟨c,off,rfl,fun i hi=>?_⟩
  obtain⟨a',l',c',h2,h3⟩:=hc i hi
  exact⟨a',l',c',(b.cell (block_lt_of_cell h2)).trans h2,h3.below b⟩
theorem zQ.rD{w:World}{g n:Nat}{e:TypeId}(L:List (List UInt8))(cs:Array Value)(hg:g=w.heap.size)(hn:n=L.length)(hm:L.length≤maxLen)
  (h:∀(i:Nat) (hi:i<L.length),∃a' l' c',cs[i]?=some (.slice a' l' c')∧BF w a' l' c' L[i]):zQ (w.alloc (.cells cs e)) (some ⟨g,0,none⟩) n L:=by
 subst hg hn
 refine⟨rfl,hm,.inr ⟨w.heap.size,0,rfl,fun i hi=>?_⟩⟩
 obtain⟨a',l',c',h1,h2⟩:=h i hi
 rw[Nat.zero_add,cell_of_row _ _ i _ _ _ (bM.new w cs e)]
 exact⟨a',l',c',h1,h2.below (Below.alloc (Below.refl _ _) (Nat.le_refl _) _)⟩
theorem zQ.one{w:World}{e:TypeId}{g:Nat}{a:Option Addr}{l c:Nat}{bs:List UInt8}(hg:g=w.heap.size)(h:BF w a l c bs):zQ (w.alloc (.cells #[.slice a l c] e)) (some ⟨g,0,none⟩) 1 [bs]:=
 zQ.rD _ _ hg rfl (by simp[maxLen]) fun i hi=>by
  match i,hi with
  |0,_=>exact⟨a,l,c,rfl,h⟩
  |n+1,hi=>exact absurd hi (by simp)
theorem zQ.two{w:World}{e:TypeId}{g:Nat}{a a2:Option Addr}{l c l2 c2:Nat}{bs Nn:List UInt8}(hg:g=w.heap.size)(h:BF w a l c bs)(h2:BF w a2 l2 c2 Nn):zQ (w.alloc (.cells #[.slice a l c,.slice a2 l2 c2] e)) (some ⟨g,0,none⟩) 2 [bs,Nn]:=
 zQ.rD _ _ hg rfl (by simp[maxLen]) fun i hi=>by
  match i,hi with
  |0,_=>exact⟨a,l,c,rfl,h⟩
  |1,_=>exact⟨a2,l2,c2,rfl,h2⟩
  |n+2,hi=>exact absurd hi (by simp)
theorem dP.sub{w:World}{b off l:Nat}{p:List UInt8}(h:dP w (some ⟨b,off,none⟩) l p)(i n:Nat)(hn:i+n≤p.length):dP w (some ⟨b,off+i,none⟩) n ((p.drop i).take n):=by
 have hl:((p.drop i).take n).length=n:=by rw[List.length_take,List.length_drop];omega
 refine⟨hl.symm,by have:=h.small;rw[hl];omega,.inr ⟨b,off+i,rfl,fun j hj=>?_⟩⟩
 rw[hl]at hj
 rcases h.cells with h1|⟨b',off',h1,hc⟩
 ·subst h1;simp at hn;omega
 ·injection h1 with h1;injection h1 with h2 h3;subst h2;subst h3
  have h4:=hc (i+j) (by omega)
  rw[List.getElem_take,List.getElem_drop,Nat.add_assoc]
  exact h4
theorem gV.wN{w:World}{B Q n:Nat}{e:TypeId}{bs:List UInt8}(h:bM w Q (HC bs) e)(hB:B≤Q)(hn:n=bs.length)(hm:bs.length≤maxLen):gV w B e (.slice (some ⟨Q,0,none⟩) n n) bs:=by
 subst hn
 refine⟨by rw[qY,Nat.mul_one],.inr ⟨Q,bs.length,HC bs,rfl,hB,h,Nat.le_refl _,hm,by rw[eO,Nat.mul_one],?_⟩⟩
 rw[vD,Nat.mul_one];exact List.take_of_length_le (by rw[qY];exact Nat.le_refl _)
theorem gV.key{w w':World}{B g:Nat}{e T:TypeId}{v:Value}{bs:List UInt8}{cs:Array Value}(h:gV w B e v bs)(hk:bM w g cs T)(hg:w.grownBy w' (some g))(he:e≠T):gV w' B e v bs:=by
 refine h.kept hg (.inr fun hv=>?_)
 rcases h.2 with⟨h1,_⟩|⟨g',cap,cur,h1,_,h2,_⟩
 ·rw[h1]at hv;cases hv
 ·rw[h1]at hv
  have hgg:g'=g:=by injection hv
  unfold bM at hk
  rw[hgg,hk]at h2
  have h3:=Option.some.inj h2
  injection h3 with h4 h5
  exact he h5.symm
section
variable {P : Program} {ops : Array Oper} {rest : List Oper} {o : Oper} {a : Act} {Q : Exit → Act → World → Prop} {w : World}
end
end
section
set_option maxRecDepth 100000 in
set_option maxHeartbeats 2000000 in
theorem ax1 (a : Option Addr) (len cap : Nat) (L : List (List UInt8)) (w : World) (hp : zQ w a len L) (hbound : L.flatten.length ≤ 140737488354000) :
    Calls Tryz.prog 76 #[.slice a len cap] w fun e w' => ∃ v, e = .returned v ∧ gV w' w.heap.size 5 v L.flatten ∧ Below w.heap.size w w' := by
  have hlen := hp.len_eq
  have hsm := hp.small
  unfold maxLen at hsm
  subst hlen
  have HP := Lib.hid hp; have HBD := Lib.hid hbound
  clear hp hbound
  go_enter Tryz.func76, Tryz.ntmps76
  go_wp2
  go_loopw [3, 4] (fun b i wr => ∃ k : Nat, k ≤ L.length ∧ i = .int .i64 k ∧ gV wr w.heap.size 5 b (L.take k).flatten ∧ Below w.heap.size w wr) (fun _ i _ => L.length - (intOf i).toNat)
  case atStart => exact ⟨0, Nat.zero_le _, rfl, World.ownsRow_nil _ _ _ _, Below.refl _ _⟩
  case round =>
    obtain ⟨k, hk, rfl, hO, hB⟩ := hrel
    by_cases hlt : k < L.length
    · obtain ⟨b, off, rfl, a', l', c', hcell, hrow⟩ : ∃ b off, a = some ⟨b, off, none⟩ ∧ ∃ a' l' c', wr.cell? ⟨b, off + k, none⟩ = some (.slice a' l' c') ∧ BF w a' l' c' L[k] := by
        rcases HP.out.cells with h1 | ⟨b, off, rfl, hc⟩
        · simp [h1] at hlt
        · obtain ⟨a', l', c', h2, h3⟩ := hc k hlt
          exact ⟨b, off, rfl, a', l', c', (hB.cell (block_lt_of_cell h2)).trans h2, h3⟩
      have hrow2 := hrow.row.below hB
      have hle : (L.take k).flatten.length + L[k].length ≤ 140737488355328 := by
        have h1 := JM L (k + 1)
        rw [Hr L k hlt, List.length_append] at h1
        have := HBD.out; omega
      have HO := Lib.hid hO; have HB := Lib.hid hB; have HW := Lib.hid hrow2; have HN := Lib.hid hrow.nil; have HLE := Lib.hid hle
      clear hO hB hrow hrow2 hle
      go_wp2_with (at_builtin
                   refine eZ rfl (.tmp 11) (.tmp 15) 78 rfl w.heap.size 5 Tryz.underlying78 info8 _ (L.take k).flatten rfl HO.out _ _ _ L[k] rfl HW.out HN.out HLE.out HB.out.size ?_
                   intro v3 w3 hown3 hg3 hb3
                   have Nu := Lib.hid hown3; have HB3 := Lib.hid hb3
                   clear hown3 hg3 hb3)
      go_roundw
      case rel =>
        refine ⟨k + 1, by omega, by go_num, ?_, HB.out.trans HB3.out⟩
        rw [Hr L k hlt]; exact Nu.out
      case measure => simp [intOf]; omega
    · rw [List.take_of_length_le (by omega)] at hO
      have HO := Lib.hid hO; have HB := Lib.hid hB
      clear hO hB
      go_wp2
      go_ret
      exact ⟨_, rfl, HO.out, HB.out⟩
end
end Go.Proofs.YtjhgelfnmhdihaaGreatDoor
