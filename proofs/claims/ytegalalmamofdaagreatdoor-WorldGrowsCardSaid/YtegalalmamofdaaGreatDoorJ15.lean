/- -/
import Derived.Test.YtegalalmamofdaaGreatDoorJ14
namespace Go.Proofs.YtegalalmamofdaaGreatDoor
set_option linter.all false
set_option maxRecDepth 100000
open Go.RowKit
variable{Q:Exit->Act->World->Prop}
section
theorem aU8 (n : Int) (w : World) :
    Calls Tryz.prog 41 #[.int .i64 n] w fun e w' => ∃ Q, e = .returned (.slice (some ⟨Q, 0, none⟩) 8 8) /\ w.heap.size <= Q /\ aM w' Q (HC (aC n)) 5 /\ Below w.heap.size w w' := by
  obtain ⟨i8, hi8, hz8, hs8, hb8⟩ := info_parts info8
  go_enter Tryz.func41, Tryz.ntmps41
  go_wp2_with (at_make
               refine wpList_make_full _ rfl _ _ 35 rfl w.heap.size 5 i8 (.int .u8 0) 1 Tryz.underlying35 hi8 hz8 hs8 _ _ _ _ 8 rfl rfl rfl rfl ?m1 ?m2 ?m3 ?_
               case m1 => rw [hb8]; decide
               case m2 => simp only [maxLen]; decide
               case m3 => exact Nat.le_refl _
               intro w1 hown hg1
               rw [cf4] at hown
               have hX1 := Ri hown
               have hB1 : Below w.heap.size w w1 := (Below.refl _ w).grown hg1 (Nat.le_refl _) (fun k hk => by cases hk)
               have HQ1 := Lib.hid hX1; have HB1 := Lib.hid hB1
               clear hown hg1 hX1 hB1)
  go_loopw [4, 8] (fun _ i wr => ∃ k : Nat, k <= 8 /\ i = .int .i64 k /\ aM wr w.heap.size (HC (Gv n k)) 5 /\ Below w.heap.size w wr) (fun _ i _ => 8 - (intOf i).toNat)
  case atStart => exact ⟨0, Nat.zero_le _, rfl, by rw [TB]; exact HQ1.out, HB1.out⟩
  case round =>
    obtain ⟨k, hk, rfl, hQ, hB⟩ := hrel
    by_cases hlt : k < 8
    · obtain ⟨vq, cQ⟩ : ∃ v, wr.cell? ⟨w.heap.size, k, none⟩ = some v := ⟨_, (hQ.cell k).trans (ql _ k (by rw [Mk n k hk]; exact hlt))⟩
      have fQ := hQ.frozen k
      have HQ := Lib.hid hQ; have HB := Lib.hid hB
      obtain ⟨hs1, hs2, hs3, hs4⟩ := MJ k (by omega)
      clear hQ hB HQ1 HB1
      go_wp2
      go_roundw
      case rel =>
        refine ⟨k + 1, by omega, by go_num, (HQ.out.set k _).copy ?_, HB.out.setCell (by simp) _⟩
        rw [show n / 2 ^ (56 - 8 * k) % 256 = Bt (kV n (56 - 8 * k)) from (xY n (56 - 8 * k)).symm, KX, YN n k hlt]
      case measure => simp [intOf]; omega
    · have hkl : k = 8 := by omega
      subst hkl
      rw [YM] at hQ
      have HQ := Lib.hid hQ; have HB := Lib.hid hB
      clear hQ hB HQ1 HB1
      go_wp2
      go_ret
      exact ⟨w.heap.size, rfl, Nat.le_refl _, HQ.out, HB.out⟩
set_option maxHeartbeats 1000000 in
theorem aB3 (n : Int) (w : World) :
    Calls Tryz.prog 23 #[.int .i64 n] w fun e w' => ∃ v, e = .returned v /\ iA w' w.heap.size 5 v (aC n) /\ Below w.heap.size w w' := by
  go_enter Tryz.func23, Tryz.ntmps23
  go_wp2
  go_loopw [3, 4] (fun b i wr => ∃ k : Nat, k <= 8 /\ i = .int .i64 (7 - (k : Int)) /\ iA wr w.heap.size 5 b ((aC n).take k) /\ Below w.heap.size w wr) (fun _ i _ => (intOf i + 1).toNat)
  case atStart => exact ⟨0, Nat.zero_le _, rfl, World.ownsRow_nil _ _ _ _, Below.refl _ _⟩
  case round =>
    obtain ⟨k, hk, rfl, hO, hB⟩ := hrel
    by_cases hlt : k < 8
    · have hx : n / 2 ^ (56 - 8 * k) % 256 = Bt (kV n (56 - 8 * k)) := (xY n (56 - 8 * k)).symm
      have hge : (7 - (k : Int) >= 0) := by omega
      have hm1 : IntKind.i64.wrap (8 * (7 - (k : Int))) = 56 - 8 * (k : Int) := by rw [IntWalk.i64_in _ (by omega)]; omega
      have hm2 : IntKind.u64.wrap (56 - 8 * (k : Int)) = 56 - 8 * (k : Int) := IntWalk.u64_in _ (by omega)
      have hm3 : (56 - 8 * (k : Int)).toNat = 56 - 8 * k := by omega
      have hm4 : IntKind.i64.wrap (7 - (k : Int) - 1) = 7 - ((k + 1 : Nat) : Int) := by rw [IntWalk.i64_in _ (by omega)]; omega
      have cJ2 : 0 <= 56 - 8 * (k : Int) := by omega
      have hle2 : 56 - 8 * k <= 64 := by omega
      have HO := Lib.hid hO; have HB := Lib.hid hB
      clear hO hB
      go_wp2_with (at_builtin
                   refine eF rfl (.tmp 9) (.tmp 16) 35 rfl w.heap.size 5 Tryz.underlying35 info8 _ ((aC n).take k) rfl ?c1 _ _ _ [kV n (56 - 8 * k)] rfl ?c2 ?c3 ?c4 ?c5 ?_
                   case c1 => exact HO.out.below ((Below.refl _ _).next (Nat.le_refl _) _)
                   case c2 => exact fP.yN [kV n (56 - 8 * k)] _ rfl rfl rfl (by simp [maxLen])
                   case c3 => exact fun h => by cases h
                   case c4 => simp [fE]; omega
                   case c5 => exact (HB.out.next (Nat.le_refl _) _).size
                   intro v3 w3 hown3 hg3 hb3
                   have QL := Lib.hid hown3; have HB3 := Lib.hid ((HB.out.next (Nat.le_refl _) _).trans hb3)
                   clear hown3 hg3 hb3)
      go_roundw
      case rel =>
        refine ⟨k + 1, by omega, by go_num, ?_, HB3.out⟩
        have e : (aC n).take (k + 1) = (aC n).take k ++ [kV n (56 - 8 * k)] := by
          rw [List.take_add_one, av0 n k hlt]; rfl
        rw [e]; exact QL.out
      case measure => simp [intOf]; omega
    · have hkl : k = 8 := by omega
      subst hkl
      rw [List.take_of_length_le (by simp [fE])] at hO
      obtain ⟨a', c', rfl, hr, hn⟩ := hO.forms (by simp [fE, maxLen])
      have HO := Lib.hid hO; have HB := Lib.hid hB
      clear hO hB hr hn
      go_wp2
      go_ret
      exact ⟨_, rfl, HO.out, HB.out⟩
end
section
section
variable {P : Program}
def add1(S:Nat->Bool)(i:Nat):Nat->Bool:=fun j=>decide (j=i)||S j
theorem jc(S:Nat->Bool)(i:Nat):add1 S i i=true:=by simp[add1]
theorem aA(S:Nat->Bool){i j:Nat}(h:j≠i):add1 S i j=S j:=by simp[add1,h]
def Cx(P:Program)(ops:Array Oper)(J:(Nat->Bool)->(Nat->Value)->World->Prop)(D:List (List Nat))(a0:Act):Nat->List Oper->Prop
 |_,[]=>True
 |i,o::r=>(∀S vals w,J S vals w->S i=false->(∀j∈D.getD i [],S j=true)->(∀k,S k=true->∀j∈D.getD k [],S j=true)->
   mX P ops (fun _ _=>True) o (aG ops vals (D.getD i []) a0) w fun v w'=>J (add1 S i) (fun j=>if j=i then v else vals j) w')/\Cx P ops J D a0 (i+1) r
theorem Gi{ops:Array Oper}{J:(Nat->Bool)->(Nat->Value)->World->Prop}{D:List (List Nat)}{a0:Act}:∀{l:List Oper} {k i:Nat} {o:Oper},Cx P ops J D a0 k l->l[i]?=some o->
  ∀S vals w,J S vals w->S (k+i)=false->(∀j∈D.getD (k+i) [],S j=true)->(∀k,S k=true->∀j∈D.getD k [],S j=true)->
   mX P ops (fun _ _=>True) o (aG ops vals (D.getD (k+i) []) a0) w fun v w'=>J (add1 S (k+i)) (fun j=>if j=k+i then v else vals j) w'
 |[],_,_,_,_,h=>by simp at h
 |o'::r,k,0,o,h,ho=>by
  simp only[List.getElem?_cons_zero,Option.some.injEq]at ho
  subst ho
  exact h.1
 |o'::r,k,i+1,o,h,ho=>by
  have:=Gi (k:=k+1) (i:=i) h.2 (by simpa using ho)
  rw[show k+1+i=k+(i+1) by omega]at this
  exact this
section
variable {l : List Oper} {J : (Nat -> Bool) -> (Nat -> Value) -> World -> Prop} {D : List (List Nat)} {a0 : Act} {w0 : World}
theorem QY(hs:Region.noSelect l.toArray=true)(hall:∀(i:Nat) (o:Oper),l[i]?=some o->Fits l D i o)
  (Sq:Cx P l.toArray J D a0 0 l)
  (hend:∀vals w,J (fun j=>decide (j<l.length)) vals w->Q .normal (aG l.toArray vals (List.range l.length) a0) w):
  ∀(fuel:Nat) (listed:Array Bool) (a:Act) (w:World) (vals:Nat->Value),y7 l (fun _ _=>True) (phi [] D) D a0 w0 listed a w vals->J (fun j=>listed.getD j false) vals w->((List.range l.length).filter fun i=>!listed.getD i false).length<=fuel->
   wpAny P .any l.toArray Q fuel listed a w:=by
 have full:∀(listed:Array Bool) (a:Act) (w:World) (vals:Nat->Value),y7 l (fun _ _=>True) (phi [] D) D a0 w0 listed a w vals->J (fun j=>listed.getD j false) vals w->(∀i,i<l.length->listed.getD i false=true)->Q .normal a w:=by
  intro listed a w vals S hJ hl
  have eS:(fun j=>listed.getD j false)=fun j=>decide (j<l.length):=by
   funext j
   by_cases hj:j<l.length
   ·rw[hl j hj,decide_eq_true hj]
   ·rw[decide_eq_false hj]
    have:¬j<listed.size:=by rw[S.size];exact hj
    simp[this]
  rw[eS]at hJ
  have e:a=aG l.toArray vals (List.range l.length) a0:=by
   refine Act.ext' (Array.ext_getElem? fun t=>?_) (by rw[S.defs,Gz])
   by_cases hw:∃j,kS l j=some t
   ·obtain⟨j,hj⟩:=hw
    by_cases hsz:t<a0.tmps.size
    ·rw[S.new j t (hl j (sU hj)) hj hsz,xu _ _ t j (by rw[uD];exact hj) (fun k hk=>by rw[uD]at hk;exact uniq hall hk hj) _ _ hsz (List.mem_range.2 (sU hj))]
    ·rw[Array.getElem?_eq_none (Nat.le_of_not_lt (by rw[S.WM];exact hsz)),Array.getElem?_eq_none (Nat.le_of_not_lt (by rw[xq];exact hsz))]
   ·rw[S.old t (fun j _ hd=>hw ⟨j,hd⟩),oO]
    intro k _ hd
    rw[uD]at hd
    exact hw ⟨k,hd⟩
  rw[e]
  exact hend vals w hJ
 have least:∀(listed:Array Bool),Region.ready .any l.toArray listed=[]->listed.size=l.length->∀i,i<l.length->listed.getD i false=true:=by
  intro listed hr hsz i
  induction i using Nat.strongRecOn with
  |ind i ih=>
   intro hi
   rcases hb:listed.getD i false with _|_
   ·exfalso
    have hrd:i∈Region.ready .any l.toArray listed:=by
     rw[mem_ready]
     refine⟨?_,l[i],by simp[hi],fun e he hbe=>?_⟩
     ·have:i<listed.size:=by omega
      simp[this]at hb ⊢;exact hb
     ·have h1:=(hall i l[i] (List.getElem?_eq_getElem hi)).aft e he hbe
      exact ih e.on h1 (by omega)
    rw[hr]at hrd;cases hrd
   ·rfl
 intro fuel
 induction fuel with
 |zero=>
  intro listed a w vals S hJ hf
  have hl:∀i,i<l.length->listed.getD i false=true:=by
   intro i hi
   rcases hb:listed.getD i false with _|_
   ·have:i∈(List.range l.length).filter fun i=>!listed.getD i false:=List.mem_filter.2 ⟨List.mem_range.2 hi,by rw[hb];rfl⟩
    rw[List.length_eq_zero_iff.1 (Nat.le_zero.1 hf)]at this;cases this
   ·rfl
  refine⟨?_,full listed a w vals S hJ hl⟩
  apply List.eq_nil_iff_forall_not_mem.2
  intro i hi
  obtain⟨h0,o,ho,_⟩:=mem_ready.1 hi
  have hil:i<l.length:=by have:=(Array.getElem?_eq_some_iff.1 ho).1;simpa using this
  have h1:=hl i hil
  have:i<listed.size:=by rw[S.size];exact hil
  simp[this]at h0 h1
  rw[h0]at h1;cases h1
 |succ fuel ih=>
  intro listed a w vals S hJ hf
  refine⟨fun hr=>full listed a w vals S hJ (least listed hr S.size),fun i hi=>?_⟩
  obtain⟨h0,o,ho,haft⟩:=mem_ready.1 hi
  have hol:l[i]?=some o:=by simpa using ho
  have hil:i<l.length:=(List.getElem?_eq_some_iff.1 hol).1
  have hif:listed.getD i false=false:=by
   have:i<listed.size:=by rw[S.size];exact hil
   simp[this]at h0 ⊢;exact h0
  have F:=hall i o hol
  have hD:∀j∈D.getD i [],listed.getD j false=true:=by
   intro j hj
   rcases F.dep j hj with⟨e,he,hb,rfl⟩|⟨e,he,hb,h⟩
   ·exact haft e he hb
   ·exact S.closed e.on (haft e he hb) j h
  have hrun:=Gi Sq hol _ vals w hJ (by rw[Nat.zero_add];exact hif) (by rw[Nat.zero_add];exact hD) S.closed
  rw[Nat.zero_add]at hrun
  have wP:=Po (fun cs b=>Region.noSelect_spec hs i o cs b ho) (S.look hall hol hD hif) hrun
  have hcount:((List.range l.length).filter fun j=>!(listed.setIfInBounds i true).getD j false).length<=fuel:=by
   have:=uG (p:=fun j=>!listed.getD j false) (q:=fun j=>!(listed.setIfInBounds i true).getD j false) (fun j hj=>by
    rcases hb:listed.getD j false with _|_
    ·rfl
    ·rw[getD_set_true hb]at hj;cases hj) (i:=i) (by rw[hif];rfl) (by
     have:i<listed.size:=by rw[S.size];exact hil
     simp[this]) (List.range l.length) (List.mem_range.2 hil)
   omega
  have bA4:i<listed.size:=by rw[S.size];exact hil
  have eA:(fun j=>(listed.setIfInBounds i true).getD j false)=add1 (fun j=>listed.getD j false) i:=by
   funext j
   unfold add1
   by_cases hji:j=i
   ·subst hji
    rw[decide_eq_true rfl,Bool.true_or];simp[bA4]
   ·rw[decide_eq_false hji,Bool.false_or,getD_set_ne false (Ne.symm hji)]
  have next:∀v w',J (add1 (fun j=>listed.getD j false) i) (fun j=>if j=i then v else vals j) w'->wpAny P .any l.toArray Q fuel (listed.setIfInBounds i true) (a.put o.dst v) w':=
   fun v w' hw=>ih _ _ _ _ (S.step hall hol hD hif (fun _ _=>trivial) (fun φ hφ=>by cases hφ) v w' trivial trivial) (by rw[eA];exact hw) hcount
  unfold wpOp
  rw[ho]
  unfold mX at wP
  by_cases hwd:Region.wanted o (yielded l.toArray a.tmps)=true
  ·simp only[hwd,if_true]at wP ⊢
   refine .inl ?_
   unfold Oper.wp
   generalize(execOp a.eval o).run P w=r at wP ⊢
   cases r with
   |ok n w'=>
    cases n<;>simp only[Oper.upon]at wP ⊢
    case value v=>rw[<-CQ];exact next _ w' wP.2
    case skip=>exact next undef w' wP.2
    case row r args=>
     refine wP.mono fun v w'' he=>?_
     rw[<-CQ];exact next _ w'' he.2
    case enter f args=>
     refine wP.mono fun e w'' he=>?_
     obtain⟨v,rfl,h1,h2⟩:=he
     show wpAny P .any l.toArray Q fuel (listed.setIfInBounds i true) (a.put o.dst v) w''
     rw[<-CQ];exact next _ w'' h2
   |halt x w'=>simp only at wP
  ·simp only[hwd,Bool.false_eq_true,if_false]at wP ⊢
   exact next undef w wP
theorem ku{id:Nat}(J:(Nat->Bool)->(Nat->Value)->World->Prop)(D:List (List Nat))(hm:P.follows .mixedOrders=true)
  (hs:Region.noSelect l.toArray=true)(hok:VX l D=true)(h0:J (fun _=>false) (fun _=>undef) w0.drew)
  (Sq:Cx P l.toArray J D a0 0 l)
  (hend:∀vals w,J (fun j=>decide (j<l.length)) vals w->Q .normal (aG l.toArray vals (List.range l.length) a0) w):
  (Code.region id l.toArray true).wp P Q a0 w0:=by
 refine wp_region_any hm (QY (w0:=w0.drew) (vals:=fun _=>undef) hs (fun i o ho=>Gn hok ho) Sq hend _ _ _ _ ⟨by simp,trivial,fun _ _=>trivial,?_,rfl,rfl,fun _ _=>rfl,?_⟩ ?_ ?_)
 ·intro j hj;rw[oL]at hj;cases hj
 ·intro j t hj;rw[oL]at hj;cases hj
 ·have:(fun j=>(Array.replicate l.toArray.size false).getD j false)=fun _=>false:=funext fun j=>oL _ j
  rw[this];exact h0
 ·refine Nat.le_trans (List.length_filter_le _ _) ?_
  simp
end
end
end
section
section
variable {P : Program} {l : List Oper} {L : List ((Nat -> Value) -> World -> Prop)} {D : List (List Nat)} {a0 : Act} {w0 : World} {Ts : List TypeId} {B : Nat} {G : (Nat -> Bool) -> (Nat -> Value) -> World -> Prop}
end
def apart(i j:Nat)(S:Nat->Bool)(vals:Nat->Value):Prop:=S i=true->S j=true->vals i≠vals j
end
section
theorem iA.base{w:World}{B B':Nat}{e:TypeId}{v:Value}{bs:List UInt8}(h:iA w B e v bs)(hB:B'<=B):iA w B' e v bs:=
 ⟨h.1,h.2.imp id fun⟨g,cap,cur,h1,h2,h3⟩=>⟨g,cap,cur,h1,Nat.le_trans hB h2,h3⟩⟩
end
section
structure bL7(w:World)(a:Option Addr)(l c:Nat)(bs:List UInt8):Prop where
 row:fP w a l bs
 nil:a=none->c=0
structure cn3(w:World)(a:Option Addr)(len:Nat)(L:List (List UInt8)):Prop where
 len_eq:len=L.length
 small:L.length<=maxLen
 cells:L=[]\/∃b off,a=some ⟨b,off,none⟩/\∀(i:Nat) (h:i<L.length),∃a' l' c',w.cell? ⟨b,off+i,none⟩=some (.slice a' l' c')/\bL7 w a' l' c' L[i]
theorem iA.Gm{w:World}{B Q n:Nat}{e:TypeId}{bs:List UInt8}(h:aM w Q (HC bs) e)(hB:B<=Q)(hn:n=bs.length)(hm:bs.length<=maxLen):iA w B e (.slice (some ⟨Q,0,none⟩) n n) bs:=by
 subst hn
 refine⟨by rw[gX,Nat.mul_one],.inr ⟨Q,bs.length,HC bs,rfl,hB,h,Nat.le_refl _,hm,by rw[dO,Nat.mul_one],?_⟩⟩
 rw[xH,Nat.mul_one];exact List.take_of_length_le (by rw[gX];exact Nat.le_refl _)
theorem qj{P:Program}{ops:Array Oper}{rest:List Oper}{o:Oper}{a:Act}{w w':World}{v:Value}(hgd:o.guard=none)(hrun:(execOp a.eval o).run P w=.ok (.value v) w')
  (h:wpList P ops Q rest (a.put o.dst v) w'):wpList P ops Q (o::rest) a w:=by
 refine wpList_plain hgd fun K hK=>?_
 unfold Oper.wp
 rw[hrun]
 exact hK _ _ h
section
variable {P : Program} {ops : Array Oper} {rest : List Oper} {o : Oper} {a : Act} {Q : Exit -> Act -> World -> Prop} {w : World}
end
end
end Go.Proofs.YtegalalmamofdaaGreatDoor
