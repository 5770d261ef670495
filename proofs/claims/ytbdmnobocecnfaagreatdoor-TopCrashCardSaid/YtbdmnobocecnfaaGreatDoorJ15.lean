/-
  Numbers as eight bytes: the walks of Num, the program's and the document's.
-/
import Derived.Test.YtbdmnobocecnfaaGreatDoorJ14
namespace Go.Proofs.YtbdmnobocecnfaaGreatDoor
set_option linter.unusedVariables false
set_option linter.unusedSimpArgs false
set_option maxRecDepth 100000
open Go.RowKit
section
theorem num_any (n : Int) (w : World) :
    Calls Tryz.prog 35 #[.int .i64 n] w fun e w' => ∃ Q, e = .returned (.slice (some ⟨Q, 0, none⟩) 8 8) ∧ w.heap.size ≤ Q ∧ Blk w' Q (HC (numB n)) 5 ∧ Below w.heap.size w w' := by
  obtain ⟨i8, hi8, hz8, hs8, hb8⟩ := info_parts info8
  go_enter Tryz.func35, Tryz.ntmps35
  go_wp2_with (at_make
               refine wpList_make_full _ rfl _ _ 35 rfl w.heap.size 5 i8 (.int .u8 0) 1 Tryz.underlying35 hi8 hz8 hs8 _ _ _ _ 8 rfl rfl rfl rfl ?m1 ?m2 ?m3 ?_
               case m1 => rw [hb8]; decide
               case m2 => simp only [maxLen]; decide
               case m3 => exact Nat.le_refl _
               intro w1 hown hg1
               rw [made8] at hown
               have hX1 := blk_of_own hown
               have hB1 : Below w.heap.size w w1 := (Below.refl _ w).grown hg1 (Nat.le_refl _) (fun k hk => by cases hk)
               have HQ1 := Lib.hid hX1; have HB1 := Lib.hid hB1
               clear hown hg1 hX1 hB1)
  go_loopw [4, 8] (fun _ i wr => ∃ k : Nat, k ≤ 8 ∧ i = .int .i64 k ∧ Blk wr w.heap.size (HC (partN n k)) 5 ∧ Below w.heap.size w wr) (fun _ i _ => 8 - (intOf i).toNat)
  case atStart => exact ⟨0, Nat.zero_le _, rfl, by rw [partN_zero]; exact HQ1.out, HB1.out⟩
  case round =>
    obtain ⟨k, hk, rfl, hQ, hB⟩ := hrel
    by_cases hlt : k < 8
    · obtain ⟨vq, cQ⟩ : ∃ v, wr.cell? ⟨w.heap.size, k, none⟩ = some v := ⟨_, (hQ.cell k).trans (HC_get_lt _ k (by rw [partN_length n k hk]; exact hlt))⟩
      have fQ := hQ.frozen k
      have HQ := Lib.hid hQ; have HB := Lib.hid hB
      obtain ⟨hs1, hs2, hs3, hs4⟩ := shift_factsR k (by omega)
      clear hQ hB HQ1 HB1
      go_wp2
      go_roundw
      case rel =>
        refine ⟨k + 1, by omega, by go_num, (HQ.out.set k _).copy ?_, HB.out.setCell (by simp) _⟩
        rw [show n / 2 ^ (56 - 8 * k) % 256 = Bt (lowB n (56 - 8 * k)) from (lowB_eq n (56 - 8 * k)).symm, HC_set, partN_set n k hlt]
      case measure => simp [intOf]; omega
    · have hkl : k = 8 := by omega
      subst hkl
      rw [partN_all] at hQ
      have HQ := Lib.hid hQ; have HB := Lib.hid hB
      clear hQ hB HQ1 HB1
      go_wp2
      go_ret
      exact ⟨w.heap.size, rfl, Nat.le_refl _, HQ.out, HB.out⟩
set_option maxHeartbeats 1000000 in
theorem rnum_own (n : Int) (w : World) :
    Calls Tryz.prog 18 #[.int .i64 n] w fun e w' => ∃ v, e = .returned v ∧ Own8 w' w.heap.size 5 v (numB n) ∧ Below w.heap.size w w' := by
  go_enter Tryz.func18, Tryz.ntmps18
  go_wp2
  go_loopw [3, 4] (fun b i wr => ∃ k : Nat, k ≤ 8 ∧ i = .int .i64 (7 - (k : Int)) ∧ Own8 wr w.heap.size 5 b ((numB n).take k) ∧ Below w.heap.size w wr) (fun _ i _ => (intOf i + 1).toNat)
  case atStart => exact ⟨0, Nat.zero_le _, rfl, World.ownsRow_nil _ _ _ _, Below.refl _ _⟩
  case round =>
    obtain ⟨k, hk, rfl, hO, hB⟩ := hrel
    by_cases hlt : k < 8
    · have hx : n / 2 ^ (56 - 8 * k) % 256 = Bt (lowB n (56 - 8 * k)) := (lowB_eq n (56 - 8 * k)).symm
      have hge : (7 - (k : Int) ≥ 0) := by omega
      have hm1 : IntKind.i64.wrap (8 * (7 - (k : Int))) = 56 - 8 * (k : Int) := by rw [IntWalk.i64_in _ (by omega)]; omega
      have hm2 : IntKind.u64.wrap (56 - 8 * (k : Int)) = 56 - 8 * (k : Int) := IntWalk.u64_in _ (by omega)
      have hm3 : (56 - 8 * (k : Int)).toNat = 56 - 8 * k := by omega
      have hm4 : IntKind.i64.wrap (7 - (k : Int) - 1) = 7 - ((k + 1 : Nat) : Int) := by rw [IntWalk.i64_in _ (by omega)]; omega
      have hge2 : 0 ≤ 56 - 8 * (k : Int) := by omega
      have hle2 : 56 - 8 * k ≤ 64 := by omega
      have HO := Lib.hid hO; have HB := Lib.hid hB
      clear hO hB
      go_wp2_with (at_builtin
                   refine wpList_append8 rfl (.tmp 9) (.tmp 16) 35 rfl w.heap.size 5 Tryz.underlying35 info8 _ ((numB n).take k) rfl ?c1 _ _ _ [lowB n (56 - 8 * k)] rfl ?c2 ?c3 ?c4 ?c5 ?_
                   case c1 => exact HO.out.below ((Below.refl _ _).next (Nat.le_refl _) _)
                   case c2 => exact Row8.litAt [lowB n (56 - 8 * k)] _ rfl rfl rfl (by simp [maxLen])
                   case c3 => exact fun h => by cases h
                   case c4 => simp [numB_length]; omega
                   case c5 => exact (HB.out.next (Nat.le_refl _) _).size
                   intro v3 w3 hown3 hg3 hb3
                   have HO3 := Lib.hid hown3; have HB3 := Lib.hid ((HB.out.next (Nat.le_refl _) _).trans hb3)
                   clear hown3 hg3 hb3)
      go_roundw
      case rel =>
        refine ⟨k + 1, by omega, by go_num, ?_, HB3.out⟩
        have e : (numB n).take (k + 1) = (numB n).take k ++ [lowB n (56 - 8 * k)] := by
          rw [List.take_add_one, numB_get n k hlt]; rfl
        rw [e]; exact HO3.out
      case measure => simp [intOf]; omega
    · have hkl : k = 8 := by omega
      subst hkl
      rw [List.take_of_length_le (by simp [numB_length])] at hO
      obtain ⟨a', c', rfl, hr, hn⟩ := hO.forms (by simp [numB_length, maxLen])
      have HO := Lib.hid hO; have HB := Lib.hid hB
      clear hO hB hr hn
      go_wp2
      go_ret
      exact ⟨_, rfl, HO.out, HB.out⟩
end
section
section
variable {P : Program}
def add1(S:Nat→Bool)(i:Nat):Nat→Bool:=fun j=>decide (j=i)||S j
theorem add1_same(S:Nat→Bool)(i:Nat):add1 S i i=true:=by simp[add1]
theorem add1_other(S:Nat→Bool){i j:Nat}(h:j≠i):add1 S i j=S j:=by simp[add1,h]
def obsInv(P:Program)(ops:Array Oper)(J:(Nat→Bool)→(Nat→Value)→World→Prop)(D:List (List Nat))(a0:Act):Nat→List Oper→Prop
 |_,[]=>True
 |i,o::r=>(∀S vals w,J S vals w→S i=false→(∀j∈D.getD i [],S j=true)→(∀k,S k=true→∀j∈D.getD k [],S j=true)→
   opRuns P ops (fun _ _=>True) o (putAll ops vals (D.getD i []) a0) w fun v w'=>J (add1 S i) (fun j=>if j=i then v else vals j) w')∧obsInv P ops J D a0 (i+1) r
theorem obsInv_get{ops:Array Oper}{J:(Nat→Bool)→(Nat→Value)→World→Prop}{D:List (List Nat)}{a0:Act}:∀{l:List Oper} {k i:Nat} {o:Oper},obsInv P ops J D a0 k l→l[i]?=some o→
  ∀S vals w,J S vals w→S (k+i)=false→(∀j∈D.getD (k+i) [],S j=true)→(∀k,S k=true→∀j∈D.getD k [],S j=true)→
   opRuns P ops (fun _ _=>True) o (putAll ops vals (D.getD (k+i) []) a0) w fun v w'=>J (add1 S (k+i)) (fun j=>if j=k+i then v else vals j) w'
 |[],_,_,_,_,h=>by simp at h
 |o'::r,k,0,o,h,ho=>by
  simp only[List.getElem?_cons_zero,Option.some.injEq]at ho
  subst ho
  exact h.1
 |o'::r,k,i+1,o,h,ho=>by
  have:=obsInv_get (k:=k+1) (i:=i) h.2 (by simpa using ho)
  rw[show k+1+i=k+(i+1) by omega]at this
  exact this
section
variable {l : List Oper} {J : (Nat → Bool) → (Nat → Value) → World → Prop} {D : List (List Nat)} {a0 : Act} {w0 : World}
theorem any_of_inv{Q:Exit→Act→World→Prop}(hs:Region.noSelect l.toArray=true)(hall:∀(i:Nat) (o:Oper),l[i]?=some o→Fits l D i o)
  (hobs:obsInv P l.toArray J D a0 0 l)
  (hend:∀vals w,J (fun j=>decide (j<l.length)) vals w→Q .normal (putAll l.toArray vals (List.range l.length) a0) w):
  ∀(fuel:Nat) (listed:Array Bool) (a:Act) (w:World) (vals:Nat→Value),Stands l (fun _ _=>True) (phi [] D) D a0 w0 listed a w vals→J (fun j=>listed.getD j false) vals w→((List.range l.length).filter fun i=>!listed.getD i false).length≤fuel→
   wpAny P .any l.toArray Q fuel listed a w:=by
 have full:∀(listed:Array Bool) (a:Act) (w:World) (vals:Nat→Value),Stands l (fun _ _=>True) (phi [] D) D a0 w0 listed a w vals→J (fun j=>listed.getD j false) vals w→(∀i,i<l.length→listed.getD i false=true)→Q .normal a w:=by
  intro listed a w vals S hJ hl
  have eS:(fun j=>listed.getD j false)=fun j=>decide (j<l.length):=by
   funext j
   by_cases hj:j<l.length
   ·rw[hl j hj,decide_eq_true hj]
   ·rw[decide_eq_false hj]
    have:¬j<listed.size:=by rw[S.size];exact hj
    simp[this]
  rw[eS]at hJ
  have e:a=putAll l.toArray vals (List.range l.length) a0:=by
   refine Act.ext' (Array.ext_getElem? fun t=>?_) (by rw[S.defs,putAll_def])
   by_cases hw:∃j,dstOf l j=some t
   ·obtain⟨j,hj⟩:=hw
    by_cases hsz:t<a0.tmps.size
    ·rw[S.new j t (hl j (dstOf_lt hj)) hj hsz,putAll_some _ _ t j (by rw[dst_arr];exact hj) (fun k hk=>by rw[dst_arr]at hk;exact uniq hall hk hj) _ _ hsz (List.mem_range.2 (dstOf_lt hj))]
    ·rw[Array.getElem?_eq_none (Nat.le_of_not_lt (by rw[S.tsize];exact hsz)),Array.getElem?_eq_none (Nat.le_of_not_lt (by rw[putAll_size];exact hsz))]
   ·rw[S.old t (fun j _ hd=>hw ⟨j,hd⟩),putAll_none]
    intro k _ hd
    rw[dst_arr]at hd
    exact hw ⟨k,hd⟩
  rw[e]
  exact hend vals w hJ
 have least:∀(listed:Array Bool),Region.ready .any l.toArray listed=[]→listed.size=l.length→∀i,i<l.length→listed.getD i false=true:=by
  intro listed hr hsz i
  induction i using Nat.strongRecOn with
  |ind i ih=>
   intro hi
   rcases hb:listed.getD i false with _|_
   ·exfalso
    have hrd:i∈Region.ready .any l.toArray listed:=by
     rw[mem_ready]
     refine⟨?_,l[i],by simp[hi],fun e he hbe=>?_⟩
     ·have:i<listed.size:=by omega
      simp[this]at hb ⊢;exact hb
     ·have h1:=(hall i l[i] (List.getElem?_eq_getElem hi)).aft e he hbe
      exact ih e.on h1 (by omega)
    rw[hr]at hrd;cases hrd
   ·rfl
 intro fuel
 induction fuel with
 |zero=>
  intro listed a w vals S hJ hf
  have hl:∀i,i<l.length→listed.getD i false=true:=by
   intro i hi
   rcases hb:listed.getD i false with _|_
   ·have:i∈(List.range l.length).filter fun i=>!listed.getD i false:=List.mem_filter.2 ⟨List.mem_range.2 hi,by rw[hb];rfl⟩
    rw[List.length_eq_zero_iff.1 (Nat.le_zero.1 hf)]at this;cases this
   ·rfl
  refine⟨?_,full listed a w vals S hJ hl⟩
  apply List.eq_nil_iff_forall_not_mem.2
  intro i hi
  obtain⟨h0,o,ho,_⟩:=mem_ready.1 hi
  have hil:i<l.length:=by have:=(Array.getElem?_eq_some_iff.1 ho).1;simpa using this
  have h1:=hl i hil
  have:i<listed.size:=by rw[S.size];exact hil
  simp[this]at h0 h1
  rw[h0]at h1;cases h1
 |succ fuel ih=>
  intro listed a w vals S hJ hf
  refine⟨fun hr=>full listed a w vals S hJ (least listed hr S.size),fun i hi=>?_⟩
  obtain⟨h0,o,ho,haft⟩:=mem_ready.1 hi
  have hol:l[i]?=some o:=by simpa using ho
  have hil:i<l.length:=(List.getElem?_eq_some_iff.1 hol).1
  have hif:listed.getD i false=false:=by
   have:i<listed.size:=by rw[S.size];exact hil
   simp[this]at h0 ⊢;exact h0
  have F:=hall i o hol
  have hD:∀j∈D.getD i [],listed.getD j false=true:=by
   intro j hj
   rcases F.dep j hj with⟨e,he,hb,rfl⟩|⟨e,he,hb,h⟩
   ·exact haft e he hb
   ·exact S.closed e.on (haft e he hb) j h
  have hrun:=obsInv_get hobs hol _ vals w hJ (by rw[Nat.zero_add];exact hif) (by rw[Nat.zero_add];exact hD) S.closed
  rw[Nat.zero_add]at hrun
  have hrun2:=opRuns_same (fun cs b=>Region.noSelect_spec hs i o cs b ho) (S.look hall hol hD hif) hrun
  have hcount:((List.range l.length).filter fun j=>!(listed.setIfInBounds i true).getD j false).length≤fuel:=by
   have:=filter_fewer (p:=fun j=>!listed.getD j false) (q:=fun j=>!(listed.setIfInBounds i true).getD j false) (fun j hj=>by
    rcases hb:listed.getD j false with _|_
    ·rfl
    ·rw[getD_set_true hb]at hj;cases hj) (i:=i) (by rw[hif];rfl) (by
     have:i<listed.size:=by rw[S.size];exact hil
     simp[this]) (List.range l.length) (List.mem_range.2 hil)
   omega
  have hil2:i<listed.size:=by rw[S.size];exact hil
  have eA:(fun j=>(listed.setIfInBounds i true).getD j false)=add1 (fun j=>listed.getD j false) i:=by
   funext j
   unfold add1
   by_cases hji:j=i
   ·subst hji
    rw[decide_eq_true rfl,Bool.true_or];simp[hil2]
   ·rw[decide_eq_false hji,Bool.false_or,getD_set_ne false (Ne.symm hji)]
  have next:∀v w',J (add1 (fun j=>listed.getD j false) i) (fun j=>if j=i then v else vals j) w'→wpAny P .any l.toArray Q fuel (listed.setIfInBounds i true) (a.put o.dst v) w':=
   fun v w' hw=>ih _ _ _ _ (S.step hall hol hD hif (fun _ _=>trivial) (fun φ hφ=>by cases hφ) v w' trivial trivial) (by rw[eA];exact hw) hcount
  unfold wpOp
  rw[ho]
  unfold opRuns at hrun2
  by_cases hwd:Region.wanted o (yielded l.toArray a.tmps)=true
  ·simp only[hwd,if_true]at hrun2 ⊢
   refine .inl ?_
   unfold Oper.wp
   generalize(execOp a.eval o).run P w=r at hrun2 ⊢
   cases r with
   |ok n w'=>
    cases n<;>simp only[Oper.upon]at hrun2 ⊢
    case value v=>rw[←put_keeps];exact next _ w' hrun2.2
    case skip=>exact next undef w' hrun2.2
    case row r args=>
     refine hrun2.mono fun v w'' he=>?_
     rw[←put_keeps];exact next _ w'' he.2
    case enter f args=>
     refine hrun2.mono fun e w'' he=>?_
     obtain⟨v,rfl,h1,h2⟩:=he
     show wpAny P .any l.toArray Q fuel (listed.setIfInBounds i true) (a.put o.dst v) w''
     rw[←put_keeps];exact next _ w'' h2
   |halt x w'=>simp only at hrun2
  ·simp only[hwd,Bool.false_eq_true,if_false]at hrun2 ⊢
   exact next undef w hrun2
theorem region_inv{id:Nat}{Q:Exit→Act→World→Prop}(J:(Nat→Bool)→(Nat→Value)→World→Prop)(D:List (List Nat))(hm:P.follows .mixedOrders=true)
  (hs:Region.noSelect l.toArray=true)(hok:okTab l D=true)(h0:J (fun _=>false) (fun _=>undef) w0.drew)
  (hobs:obsInv P l.toArray J D a0 0 l)
  (hend:∀vals w,J (fun j=>decide (j<l.length)) vals w→Q .normal (putAll l.toArray vals (List.range l.length) a0) w):
  (Code.region id l.toArray true).wp P Q a0 w0:=by
 refine wp_region_any hm (any_of_inv (w0:=w0.drew) (vals:=fun _=>undef) hs (fun i o ho=>okTab_fits hok ho) hobs hend _ _ _ _ ⟨by simp,trivial,fun _ _=>trivial,?_,rfl,rfl,fun _ _=>rfl,?_⟩ ?_ ?_)
 ·intro j hj;rw[none_listed]at hj;cases hj
 ·intro j t hj;rw[none_listed]at hj;cases hj
 ·have:(fun j=>(Array.replicate l.toArray.size false).getD j false)=fun _=>false:=funext fun j=>none_listed _ j
  rw[this];exact h0
 ·refine Nat.le_trans (List.length_filter_le _ _) ?_
  simp
end
end
end
section
def MarksT(Ts:List TypeId)(w w':World):Prop:=∀(g:Nat) (cs:Array Value) (t:TypeId) (fr:Nat×Nat),t∉Ts→w.heap[g]?=some (.cells cs t fr)→∃fr',w'.heap[g]?=some (.cells cs t fr')
theorem MarksT.refl(Ts:List TypeId)(w:World):MarksT Ts w w:=fun _ _ _ fr _ h=>⟨fr,h⟩
theorem MarksT.trans{Ts:List TypeId}{a b c:World}(h:MarksT Ts a b)(k:MarksT Ts b c):MarksT Ts a c:=fun g cs t fr ht hg=>by
 obtain⟨fr',h1⟩:=h g cs t fr ht hg
 exact k g cs t fr' ht h1
theorem MarksT.below{Ts:List TypeId}{w w':World}(h:Below w.heap.size w w'):MarksT Ts w w':=fun g _ _ fr _ hg=>⟨fr,(h.block g (Array.getElem?_eq_some_iff.1 hg).1).trans hg⟩
theorem MarksT.grown{Ts:List TypeId}{w w':World}{g:Nat}{cs:Array Value}{t:TypeId}(hk:Blk w g cs t)(ht:t∈Ts)(h:w.grownBy w' (some g)):MarksT Ts w w':=fun g' cs' t' fr' ht' hg'=>by
 refine⟨fr',?_⟩
 have hne:g'≠g:=by
  rintro rfl
  unfold Blk at hk
  rw[hk]at hg'
  have h1:=Option.some.inj hg'
  injection h1 with h2 h3
  exact ht' (h3▸ht)
 exact(h.block g' (Array.getElem?_eq_some_iff.1 hg').1 (fun e=>hne (by injection e))).trans hg'
structure GrowsT(Ts:List TypeId)(B:Nat)(w w':World):Prop where
 below:Below B w w'
 marks:MarksT Ts w w'
theorem GrowsT.refl(Ts:List TypeId)(B:Nat)(w:World):GrowsT Ts B w w:=⟨Below.refl _ _,MarksT.refl _ _⟩
theorem GrowsT.trans{Ts:List TypeId}{B:Nat}{a b c:World}(h:GrowsT Ts B a b)(k:GrowsT Ts B b c):GrowsT Ts B a c:=⟨h.below.trans k.below,h.marks.trans k.marks⟩
theorem GrowsT.size{Ts:List TypeId}{B:Nat}{a b:World}(h:GrowsT Ts B a b)(hB:B≤a.heap.size):B≤b.heap.size:=Nat.le_trans hB h.below.size
theorem GrowsT.of{Ts:List TypeId}{B:Nat}{w w':World}(h:Below w.heap.size w w')(hB:B≤w.heap.size):GrowsT Ts B w w':=⟨h.mono hB,.below h⟩
theorem GrowsT.alloc{Ts:List TypeId}{B:Nat}(w:World)(o:Obj)(hB:B≤w.heap.size):GrowsT Ts B w (w.alloc o):=.of ((Below.refl _ _).alloc (Nat.le_refl _) _) hB
theorem GrowsT.grown{Ts:List TypeId}{B:Nat}{w w':World}{g:Nat}{cs:Array Value}{t:TypeId}(hk:Blk w g cs t)(ht:t∈Ts)(h:w.grownBy w' (some g))(hg:B≤g)(hB:B≤w.heap.size):GrowsT Ts B w w':=
 ⟨below_grown (Below.refl _ _) h hg hB,.grown hk ht h⟩
section
variable {P : Program} {l : List Oper} {L : List ((Nat → Value) → World → Prop)} {D : List (List Nat)} {a0 : Act} {w0 : World} {Ts : List TypeId} {B : Nat} {G : (Nat → Bool) → (Nat → Value) → World → Prop}
end
def keyAt(B:Nat)(T:TypeId)(k:Nat)(cs:Array Value)(S:Nat→Bool)(vals:Nat→Value)(w:World):Prop:=S k=true→∃g,vals k=.pointer (some ⟨g,0,none⟩)∧B≤g∧Blk w g cs T
theorem keyAt.start(B:Nat)(T:TypeId)(k:Nat)(cs:Array Value)(vals:Nat→Value)(w:World):keyAt B T k cs (fun _=>false) vals w:=fun h=>Bool.noConfusion h
theorem keyAt.keep{B:Nat}{T:TypeId}{k:Nat}{cs:Array Value}{S:Nat→Bool}{vals:Nat→Value}{w w':World}(h:keyAt B T k cs S vals w)(v:Value)(i:Nat)(hi:k≠i)(hb:Below w.heap.size w w'):keyAt B T k cs (add1 S i) (fun j=>if j=i then v else vals j) w':=by
 intro hS
 rw[add1_other S hi]at hS
 obtain⟨g,h1,h2,h3⟩:=h hS
 exact⟨g,(if_neg hi).trans h1,h2,h3.keep hb⟩
theorem keyAt.new{B:Nat}{T:TypeId}{k:Nat}{cs:Array Value}{S:Nat→Bool}{vals:Nat→Value}{w':World}(g:Nat)(h0:B≤g)(hk:Blk w' g cs T):keyAt B T k cs (add1 S k) (fun j=>if j=k then .pointer (some ⟨g,0,none⟩)else vals j) w':=
 fun _=>⟨g,if_pos rfl,h0,hk⟩
def newAt(B:Nat)(T:TypeId)(a b:Nat)(c0 c1:Array Value)(S:Nat→Bool)(vals:Nat→Value)(w:World):Prop:=S a=true→∃g,vals a=.pointer (some ⟨g,0,none⟩)∧B≤g∧Blk w g (if S b then c1 else c0) T
theorem newAt.start(B:Nat)(T:TypeId)(a b:Nat)(c0 c1:Array Value)(vals:Nat→Value)(w:World):newAt B T a b c0 c1 (fun _=>false) vals w:=fun h=>Bool.noConfusion h
theorem newAt.keep{B:Nat}{T:TypeId}{a b:Nat}{c0 c1:Array Value}{S:Nat→Bool}{vals:Nat→Value}{w w':World}(h:newAt B T a b c0 c1 S vals w)(v:Value)(i:Nat)(ha:a≠i)(hb':b≠i)(hb:Below w.heap.size w w'):newAt B T a b c0 c1 (add1 S i) (fun j=>if j=i then v else vals j) w':=by
 intro hS
 rw[add1_other S ha]at hS
 obtain⟨g,h1,h2,h3⟩:=h hS
 exact⟨g,(if_neg ha).trans h1,h2,by rw[add1_other S hb'];exact h3.keep hb⟩
theorem newAt.new{B:Nat}{T:TypeId}{a b:Nat}{c0 c1:Array Value}{S:Nat→Bool}{vals:Nat→Value}{w':World}(g:Nat)(hab:b≠a)(hSb:S b=false)(h0:B≤g)(hk:Blk w' g c0 T):newAt B T a b c0 c1 (add1 S a) (fun j=>if j=a then .pointer (some ⟨g,0,none⟩)else vals j) w':=
 fun _=>⟨g,if_pos rfl,h0,by rw[add1_other S hab,hSb];exact hk⟩
theorem newAt.store{B:Nat}{T:TypeId}{a b:Nat}{c0 c1:Array Value}{S:Nat→Bool}{vals:Nat→Value}{w':World}(v:Value)(g:Nat)(hab:a≠b)(hv:vals a=.pointer (some ⟨g,0,Option.none⟩))(h0:B≤g)(hk:Blk w' g c1 T):newAt B T a b c0 c1 (add1 S b) (fun j=>if j=b then v else vals j) w':=
 fun _=>⟨g,(if_neg hab).trans hv,h0,by rw[add1_same];exact hk⟩
def keyMut(g:Nat)(T:TypeId)(m:Nat)(c0 c1:Array Value)(S:Nat→Bool)(w:World):Prop:=Blk w g (if S m then c1 else c0) T
theorem keyMut.start{g:Nat}{T:TypeId}{m:Nat}{c0 c1:Array Value}{w:World}(h:Blk w g c0 T):keyMut g T m c0 c1 (fun _=>false) w:=h
theorem keyMut.keep{g:Nat}{T:TypeId}{m:Nat}{c0 c1:Array Value}{S:Nat→Bool}{w w':World}(h:keyMut g T m c0 c1 S w)(i:Nat)(hi:m≠i)(hb:Below w.heap.size w w'):keyMut g T m c0 c1 (add1 S i) w':=by
 unfold keyMut at*
 rw[add1_other S hi];exact h.keep hb
def rowOf(i:Nat)(bs:List UInt8)(t q:TypeId):(Nat→Value)→World→Prop:=fun vals w=>∃g g' fr fr',vals i=.slice (some ⟨g,0,none⟩) 1 1∧w.heap[g]?=some (.cells #[.slice (some ⟨g',0,none⟩) bs.length bs.length] q fr)∧w.heap[g']?=some (.cells (HC bs) t fr')
theorem rowOf.rows{w:World}{g g' n:Nat}{bs:List UInt8}{t q:TypeId}{fr fr':Nat×Nat}(h1:w.heap[g]?=some (.cells #[.slice (some ⟨g',0,none⟩) n n] q fr))(hn:n=bs.length)(h2:w.heap[g']?=some (.cells (HC bs) t fr'))(hs:bs.length≤1000):RowR w (some ⟨g,0,none⟩) 1 [bs]:=by
 have hr:Row8 w (some ⟨g',0,none⟩) n bs:=Row8.ofCells h2 hn (by simp only[maxLen];omega)
 refine⟨rfl,by simp[maxLen],.inr ⟨g,0,rfl,fun i hi=>?_⟩⟩
 match i,hi with
 |0,_=>exact⟨_,_,_,by rw[cell_of_row _ _ _ _ _ _ h1];rfl,hr⟩
 |n+1,hi=>exact absurd hi (by simp)
def ownAt(B:Nat)(e:TypeId)(m:Nat)(v0:Value)(c0 c1:List UInt8)(S:Nat→Bool)(vals:Nat→Value)(w:World):Prop:=(S m=false→Own8 w B e v0 c0)∧(S m=true→Own8 w B e (vals m) c1)
theorem ownAt.start{B:Nat}{e:TypeId}{m:Nat}{v0:Value}{c0 c1:List UInt8}{vals:Nat→Value}{w:World}(h:Own8 w B e v0 c0):ownAt B e m v0 c0 c1 (fun _=>false) vals w:=⟨fun _=>h,fun h=>Bool.noConfusion h⟩
theorem ownAt.keep{B:Nat}{e:TypeId}{m:Nat}{v0:Value}{c0 c1:List UInt8}{S:Nat→Bool}{vals:Nat→Value}{w w':World}(h:ownAt B e m v0 c0 c1 S vals w)(v:Value)(i:Nat)(hi:m≠i)(hb:Below w.heap.size w w'):ownAt B e m v0 c0 c1 (add1 S i) (fun j=>if j=i then v else vals j) w':=by
 refine⟨fun hS=>?_,fun hS=>?_⟩
 ·rw[add1_other S hi]at hS
  exact(h.1 hS).below hb
 ·rw[add1_other S hi]at hS
  show Own8 w' B e (if m=i then v else vals m) c1
  rw[if_neg hi]
  exact(h.2 hS).below hb
def tmpAt(k m n:Nat)(bs:List UInt8)(S:Nat→Bool)(vals:Nat→Value)(w:World):Prop:=S k=true→S m=false→∃g,vals k=.slice (some ⟨g,0,none⟩) n n∧Row8 w (some ⟨g,0,none⟩) n bs
theorem tmpAt.start(k m n:Nat)(bs:List UInt8)(vals:Nat→Value)(w:World):tmpAt k m n bs (fun _=>false) vals w:=fun h=>Bool.noConfusion h
theorem tmpAt.keep{k m n:Nat}{bs:List UInt8}{S:Nat→Bool}{vals:Nat→Value}{w w':World}(h:tmpAt k m n bs S vals w)(v:Value)(i:Nat)(hk:k≠i)(hm:m≠i)(hb:Below w.heap.size w w'):tmpAt k m n bs (add1 S i) (fun j=>if j=i then v else vals j) w':=by
 intro h1 h2
 rw[add1_other S hk]at h1
 rw[add1_other S hm]at h2
 obtain⟨g,h3,h4⟩:=h h1 h2
 exact⟨g,(if_neg hk).trans h3,h4.below hb⟩
theorem tmpAt.new{k m n:Nat}{bs:List UInt8}{S:Nat→Bool}{vals:Nat→Value}{w':World}(g:Nat)(h:Row8 w' (some ⟨g,0,none⟩) n bs):tmpAt k m n bs (add1 S k) (fun j=>if j=k then .slice (some ⟨g,0,none⟩) n n else vals j) w':=fun _ _=>⟨g,if_pos rfl,h⟩
theorem GrowsT.append{Ts:List TypeId}{B:Nat}{w w':World}{e:TypeId}{v:Value}{bs:List UInt8}(ho:Own8 w B e v bs)(he:e∈Ts)(hg:w.grownBy w' v.ownBlock)(hb:Below B w w'):GrowsT Ts B w w':=by
 refine⟨hb,fun g cs t fr ht hgt=>?_⟩
 have hne:v.ownBlock≠some g:=by
  intro hv
  rcases ho.2 with⟨h1,_⟩|⟨g',cap,cur,h1,_,h2,_,_,_,_⟩
  ·rw[h1]at hv;cases hv
  ·rw[h1]at hv
   have hgg:g'=g:=by injection hv
   rw[hgg,hgt]at h2
   have h3:=Option.some.inj h2
   injection h3 with h4 h5
   exact ht (h5▸he)
 exact⟨fr,(hg.block g (Array.getElem?_eq_some_iff.1 hgt).1 (fun h=>hne h.symm)).trans hgt⟩
def apart(i j:Nat)(S:Nat→Bool)(vals:Nat→Value):Prop:=S i=true→S j=true→vals i≠vals j
theorem apart.start(i j:Nat)(vals:Nat→Value):apart i j (fun _=>false) vals:=fun h=>Bool.noConfusion h
theorem apart.keep{i j:Nat}{S:Nat→Bool}{vals:Nat→Value}(h:apart i j S vals)(v:Value)(k:Nat)(hi:i≠k)(hj:j≠k):apart i j (add1 S k) (fun m=>if m=k then v else vals m):=by
 intro h1 h2
 rw[add1_other S hi]at h1;rw[add1_other S hj]at h2
 show(if i=k then v else vals i)≠(if j=k then v else vals j)
 rw[if_neg hi,if_neg hj]
 exact h h1 h2
theorem apart.left{i j B:Nat}{T:TypeId}{cs:Array Value}{S:Nat→Bool}{vals:Nat→Value}{w:World}(hk:keyAt B T j cs S vals w)(g:Nat)(hg:w.heap.size≤g)(hij:j≠i):apart i j (add1 S i) (fun m=>if m=i then .pointer (some ⟨g,0,none⟩)else vals m):=by
 intro _ h2 e
 rw[add1_other S hij]at h2
 obtain⟨q,h3,_,h4⟩:=hk h2
 have h5:(Value.pointer (some ⟨g,0,none⟩))=vals j:=by simpa[hij]using e
 rw[h3]at h5
 have h6:g=q:=by injection h5 with h5;injection h5 with h5;injection h5
 have:=h4.lt
 omega
end
section
def BM(φ:Value→World→Prop):Prop:=∀v w w',Below w.heap.size w w'→φ v w→φ v w'
def tmpF(k m:Nat)(φ:Value→World→Prop)(S:Nat→Bool)(vals:Nat→Value)(w:World):Prop:=S k=true→S m=false→φ (vals k) w
theorem tmpF.start(k m:Nat)(φ:Value→World→Prop)(vals:Nat→Value)(w:World):tmpF k m φ (fun _=>false) vals w:=fun h=>Bool.noConfusion h
theorem tmpF.keep{k m:Nat}{φ:Value→World→Prop}{S:Nat→Bool}{vals:Nat→Value}{w w':World}(h:tmpF k m φ S vals w)(hφ:BM φ)(v:Value)(i:Nat)(hk:k≠i)(hm:m≠i)(hb:Below w.heap.size w w'):tmpF k m φ (add1 S i) (fun j=>if j=i then v else vals j) w':=by
 intro h1 h2
 rw[add1_other S hk]at h1
 rw[add1_other S hm]at h2
 show φ (if k=i then v else vals k) w'
 rw[if_neg hk]
 exact hφ _ _ _ hb (h h1 h2)
theorem tmpF.new{k m:Nat}{φ:Value→World→Prop}{S:Nat→Bool}{vals:Nat→Value}{w':World}{v:Value}(h:φ v w'):tmpF k m φ (add1 S k) (fun j=>if j=k then v else vals j) w':=fun _ _=>by
 show φ (if k=k then v else vals k) w'
 rw[if_pos rfl];exact h
def hasF(k:Nat)(φ:Value→World→Prop)(S:Nat→Bool)(vals:Nat→Value)(w:World):Prop:=S k=true→φ (vals k) w
theorem hasF.start(k:Nat)(φ:Value→World→Prop)(vals:Nat→Value)(w:World):hasF k φ (fun _=>false) vals w:=fun h=>Bool.noConfusion h
theorem hasF.keep{k:Nat}{φ:Value→World→Prop}{S:Nat→Bool}{vals:Nat→Value}{w w':World}(h:hasF k φ S vals w)(hφ:BM φ)(v:Value)(i:Nat)(hk:k≠i)(hb:Below w.heap.size w w'):hasF k φ (add1 S i) (fun j=>if j=i then v else vals j) w':=by
 intro h1
 rw[add1_other S hk]at h1
 show φ (if k=i then v else vals k) w'
 rw[if_neg hk]
 exact hφ _ _ _ hb (h h1)
theorem hasF.new{k:Nat}{φ:Value→World→Prop}{S:Nat→Bool}{vals:Nat→Value}{w':World}{v:Value}(h:φ v w'):hasF k φ (add1 S k) (fun j=>if j=k then v else vals j) w':=fun _=>by
 show φ (if k=k then v else vals k) w'
 rw[if_pos rfl];exact h
theorem Own8.base{w:World}{B B':Nat}{e:TypeId}{v:Value}{bs:List UInt8}(h:Own8 w B e v bs)(hB:B'≤B):Own8 w B' e v bs:=
 ⟨h.1,h.2.imp id fun⟨g,cap,cur,h1,h2,h3⟩=>⟨g,cap,cur,h1,Nat.le_trans hB h2,h3⟩⟩
end
section
theorem tmpF.over{k m:Nat}{φ:Value→World→Prop}{S:Nat→Bool}{vals:Nat→Value}{w':World}{i:Nat}(hm:S m=true)(hi:m≠i):tmpF k m φ (add1 S i) vals w':=by
 intro _ h
 rw[add1_other S hi,hm]at h;cases h
end
section
structure RowC(w:World)(a:Option Addr)(l c:Nat)(bs:List UInt8):Prop where
 row:Row8 w a l bs
 nil:a=none→c=0
theorem RowC.below{w w':World}{a:Option Addr}{l c:Nat}{bs:List UInt8}(h:RowC w a l c bs)(b:Below w.heap.size w w'):RowC w' a l c bs:=⟨h.row.below b,h.nil⟩
theorem RowC.blk{w:World}{g n c:Nat}{bs:List UInt8}{t:TypeId}(h:Blk w g (HC bs) t)(hn:n=bs.length)(hs:bs.length≤100000):RowC w (some ⟨g,0,none⟩) n c bs:=⟨Row8.ofBlk h (by simp only[maxLen];omega) n hn,fun e=>by cases e⟩
structure RowN(w:World)(a:Option Addr)(len:Nat)(L:List (List UInt8)):Prop where
 len_eq:len=L.length
 small:L.length≤maxLen
 cells:L=[]∨∃b off,a=some ⟨b,off,none⟩∧∀(i:Nat) (h:i<L.length),∃a' l' c',w.cell? ⟨b,off+i,none⟩=some (.slice a' l' c')∧RowC w a' l' c' L[i]
theorem RowN.below{w w':World}{a:Option Addr}{len:Nat}{L:List (List UInt8)}(h:RowN w a len L)(b:Below w.heap.size w w'):RowN w' a len L:=by
 refine⟨h.len_eq,h.small,?_⟩
 rcases h.cells with h1|⟨c,off,rfl,hc⟩
 ·exact .inl h1
 ·refine .inr ⟨c,off,rfl,fun i hi=>?_⟩
  obtain⟨a',l',c',h2,h3⟩:=hc i hi
  exact⟨a',l',c',(b.cell (block_lt_of_cell h2)).trans h2,h3.below b⟩
theorem RowN.litAt{w:World}{g n:Nat}{e:TypeId}(L:List (List UInt8))(cs:Array Value)(hg:g=w.heap.size)(hn:n=L.length)(hm:L.length≤maxLen)
  (h:∀(i:Nat) (hi:i<L.length),∃a' l' c',cs[i]?=some (.slice a' l' c')∧RowC w a' l' c' L[i]):RowN (w.alloc (.cells cs e)) (some ⟨g,0,none⟩) n L:=by
 subst hg hn
 refine⟨rfl,hm,.inr ⟨w.heap.size,0,rfl,fun i hi=>?_⟩⟩
 obtain⟨a',l',c',h1,h2⟩:=h i hi
 rw[Nat.zero_add,cell_of_row _ _ i _ _ _ (Blk.new w cs e)]
 exact⟨a',l',c',h1,h2.below (Below.alloc (Below.refl _ _) (Nat.le_refl _) _)⟩
theorem RowN.one{w:World}{e:TypeId}{g:Nat}{a:Option Addr}{l c:Nat}{bs:List UInt8}(hg:g=w.heap.size)(h:RowC w a l c bs):RowN (w.alloc (.cells #[.slice a l c] e)) (some ⟨g,0,none⟩) 1 [bs]:=
 RowN.litAt _ _ hg rfl (by simp[maxLen]) fun i hi=>by
  match i,hi with
  |0,_=>exact⟨a,l,c,rfl,h⟩
  |n+1,hi=>exact absurd hi (by simp)
theorem RowN.two{w:World}{e:TypeId}{g:Nat}{a a2:Option Addr}{l c l2 c2:Nat}{bs bs2:List UInt8}(hg:g=w.heap.size)(h:RowC w a l c bs)(h2:RowC w a2 l2 c2 bs2):RowN (w.alloc (.cells #[.slice a l c,.slice a2 l2 c2] e)) (some ⟨g,0,none⟩) 2 [bs,bs2]:=
 RowN.litAt _ _ hg rfl (by simp[maxLen]) fun i hi=>by
  match i,hi with
  |0,_=>exact⟨a,l,c,rfl,h⟩
  |1,_=>exact⟨a2,l2,c2,rfl,h2⟩
  |n+2,hi=>exact absurd hi (by simp)
theorem Row8.sub{w:World}{b off l:Nat}{p:List UInt8}(h:Row8 w (some ⟨b,off,none⟩) l p)(i n:Nat)(hn:i+n≤p.length):Row8 w (some ⟨b,off+i,none⟩) n ((p.drop i).take n):=by
 have hl:((p.drop i).take n).length=n:=by rw[List.length_take,List.length_drop];omega
 refine⟨hl.symm,by have:=h.small;rw[hl];omega,.inr ⟨b,off+i,rfl,fun j hj=>?_⟩⟩
 rw[hl]at hj
 rcases h.cells with h1|⟨b',off',h1,hc⟩
 ·subst h1;simp at hn;omega
 ·injection h1 with h1;injection h1 with h2 h3;subst h2;subst h3
  have h4:=hc (i+j) (by omega)
  rw[List.getElem_take,List.getElem_drop,Nat.add_assoc]
  exact h4
theorem Own8.ofBlk{w:World}{B Q n:Nat}{e:TypeId}{bs:List UInt8}(h:Blk w Q (HC bs) e)(hB:B≤Q)(hn:n=bs.length)(hm:bs.length≤maxLen):Own8 w B e (.slice (some ⟨Q,0,none⟩) n n) bs:=by
 subst hn
 refine⟨by rw[HL_length,Nat.mul_one],.inr ⟨Q,bs.length,HC bs,rfl,hB,h,Nat.le_refl _,hm,by rw[HC_size,Nat.mul_one],?_⟩⟩
 rw[HC_toList,Nat.mul_one];exact List.take_of_length_le (by rw[HL_length];exact Nat.le_refl _)
theorem Own8.key{w w':World}{B g:Nat}{e T:TypeId}{v:Value}{bs:List UInt8}{cs:Array Value}(h:Own8 w B e v bs)(hk:Blk w g cs T)(hg:w.grownBy w' (some g))(he:e≠T):Own8 w' B e v bs:=by
 refine h.kept hg (.inr fun hv=>?_)
 rcases h.2 with⟨h1,_⟩|⟨g',cap,cur,h1,_,h2,_⟩
 ·rw[h1]at hv;cases hv
 ·rw[h1]at hv
  have hgg:g'=g:=by injection hv
  unfold Blk at hk
  rw[hgg,hk]at h2
  have h3:=Option.some.inj h2
  injection h3 with h4 h5
  exact he h5.symm
theorem wpList_value{P:Program}{ops:Array Oper}{rest:List Oper}{o:Oper}{a:Act}{Q:Exit→Act→World→Prop}{w w':World}{v:Value}(hgd:o.guard=none)(hrun:(execOp a.eval o).run P w=.ok (.value v) w')
  (h:wpList P ops Q rest (a.put o.dst v) w'):wpList P ops Q (o::rest) a w:=by
 refine wpList_plain hgd fun K hK=>?_
 unfold Oper.wp
 rw[hrun]
 exact hK _ _ h
section
variable {P : Program} {ops : Array Oper} {rest : List Oper} {o : Oper} {a : Act} {Q : Exit → Act → World → Prop} {w : World}
end
end
end Go.Proofs.YtbdmnobocecnfaaGreatDoor
