/-
  A region whose order is open, by ONE INVARIANT over which of its operations are done, what they came to, and the world: for regions that write. No program is named here.
-/
import Derived.Test.YtcfdlffjghlghaaExt2
import Derived.Test.YtcfdlffjghlghaaMem
namespace Go.Proofs.Ytcfdlffjghlghaa
set_option maxRecDepth 100000
set_option pp.deepTerms true
set_option pp.maxSteps 1000000
open Go.RowKit
set_option linter.unusedVariables false

section
variable {P : Program}
/-- one more is done -/
def add1 (S : Nat → Bool) (i : Nat) : Nat → Bool := fun j => decide (j = i) || S j
theorem add1_same (S : Nat → Bool) (i : Nat) : add1 S i i = true := by simp [add1]
theorem add1_other (S : Nat → Bool) {i j : Nat} (h : j ≠ i) : add1 S i j = S j := by simp [add1, h]

/-- what is to be shown of each operation -/
def obsInv (P : Program) (ops : Array Oper) (J : (Nat → Bool) → (Nat → Value) → World → Prop) (D : List (List Nat)) (a0 : Act) : Nat → List Oper → Prop
  | _, [] => True
  | i, o :: r => (∀ S vals w, J S vals w → S i = false → (∀ j ∈ D.getD i [], S j = true) → (∀ k, S k = true → ∀ j ∈ D.getD k [], S j = true) →
      opRuns P ops (fun _ _ => True) o (putAll ops vals (D.getD i []) a0) w fun v w' => J (add1 S i) (fun j => if j = i then v else vals j) w') ∧ obsInv P ops J D a0 (i + 1) r
theorem obsInv_get {ops : Array Oper} {J : (Nat → Bool) → (Nat → Value) → World → Prop} {D : List (List Nat)} {a0 : Act} : ∀ {l : List Oper} {k i : Nat} {o : Oper}, obsInv P ops J D a0 k l → l[i]? = some o →
    ∀ S vals w, J S vals w → S (k + i) = false → (∀ j ∈ D.getD (k + i) [], S j = true) → (∀ k, S k = true → ∀ j ∈ D.getD k [], S j = true) →
      opRuns P ops (fun _ _ => True) o (putAll ops vals (D.getD (k + i) []) a0) w fun v w' => J (add1 S (k + i)) (fun j => if j = k + i then v else vals j) w'
  | [], _, _, _, _, h => by simp at h
  | o' :: r, k, 0, o, h, ho => by
    simp only [List.getElem?_cons_zero, Option.some.injEq] at ho
    subst ho
    exact h.1
  | o' :: r, k, i + 1, o, h, ho => by
    have := obsInv_get (k := k + 1) (i := i) h.2 (by simpa using ho)
    rw [show k + 1 + i = k + (i + 1) by omega] at this
    exact this

section
variable {l : List Oper} {J : (Nat → Bool) → (Nat → Value) → World → Prop} {D : List (List Nat)} {a0 : Act} {w0 : World}

/-- from where a run of the region stands, whatever order follows -/
theorem any_of_inv {Q : Exit → Act → World → Prop} (hs : Region.noSelect l.toArray = true) (hall : ∀ (i : Nat) (o : Oper), l[i]? = some o → Fits l D i o)
    (hobs : obsInv P l.toArray J D a0 0 l)
    (hend : ∀ vals w, J (fun j => decide (j < l.length)) vals w → Q .normal (putAll l.toArray vals (List.range l.length) a0) w) :
    ∀ (fuel : Nat) (listed : Array Bool) (a : Act) (w : World) (vals : Nat → Value), Stands l (fun _ _ => True) (phi [] D) D a0 w0 listed a w vals → J (fun j => listed.getD j false) vals w → ((List.range l.length).filter fun i => !listed.getD i false).length ≤ fuel →
      wpAny P .any l.toArray Q fuel listed a w := by
  have full : ∀ (listed : Array Bool) (a : Act) (w : World) (vals : Nat → Value), Stands l (fun _ _ => True) (phi [] D) D a0 w0 listed a w vals → J (fun j => listed.getD j false) vals w → (∀ i, i < l.length → listed.getD i false = true) → Q .normal a w := by
    intro listed a w vals S hJ hl
    have eS : (fun j => listed.getD j false) = fun j => decide (j < l.length) := by
      funext j
      by_cases hj : j < l.length
      · rw [hl j hj, decide_eq_true hj]
      · rw [decide_eq_false hj]
        have : ¬ j < listed.size := by rw [S.size]; exact hj
        simp [this]
    rw [eS] at hJ
    have e : a = putAll l.toArray vals (List.range l.length) a0 := by
      refine Act.ext' (Array.ext_getElem? fun t => ?_) (by rw [S.defs, putAll_def])
      by_cases hw : ∃ j, dstOf l j = some t
      · obtain ⟨j, hj⟩ := hw
        by_cases hsz : t < a0.tmps.size
        · rw [S.new j t (hl j (dstOf_lt hj)) hj hsz, putAll_some _ _ t j (by rw [dst_arr]; exact hj) (fun k hk => by rw [dst_arr] at hk; exact uniq hall hk hj) _ _ hsz (List.mem_range.2 (dstOf_lt hj))]
        · rw [Array.getElem?_eq_none (Nat.le_of_not_lt (by rw [S.tsize]; exact hsz)), Array.getElem?_eq_none (Nat.le_of_not_lt (by rw [putAll_size]; exact hsz))]
      · rw [S.old t (fun j _ hd => hw ⟨j, hd⟩), putAll_none]
        intro k _ hd
        rw [dst_arr] at hd
        exact hw ⟨k, hd⟩
    rw [e]
    exact hend vals w hJ
  have least : ∀ (listed : Array Bool), Region.ready .any l.toArray listed = [] → listed.size = l.length → ∀ i, i < l.length → listed.getD i false = true := by
    intro listed hr hsz i
    induction i using Nat.strongRecOn with
    | ind i ih =>
      intro hi
      rcases hb : listed.getD i false with _ | _
      · exfalso
        have hrd : i ∈ Region.ready .any l.toArray listed := by
          rw [mem_ready]
          refine ⟨?_, l[i], by simp [hi], fun e he hbe => ?_⟩
          · have : i < listed.size := by omega
            simp [this] at hb ⊢; exact hb
          · have h1 := (hall i l[i] (List.getElem?_eq_getElem hi)).aft e he hbe
            exact ih e.on h1 (by omega)
        rw [hr] at hrd; cases hrd
      · rfl
  intro fuel
  induction fuel with
  | zero =>
    intro listed a w vals S hJ hf
    have hl : ∀ i, i < l.length → listed.getD i false = true := by
      intro i hi
      rcases hb : listed.getD i false with _ | _
      · have : i ∈ (List.range l.length).filter fun i => !listed.getD i false := List.mem_filter.2 ⟨List.mem_range.2 hi, by rw [hb]; rfl⟩
        rw [List.length_eq_zero_iff.1 (Nat.le_zero.1 hf)] at this; cases this
      · rfl
    refine ⟨?_, full listed a w vals S hJ hl⟩
    apply List.eq_nil_iff_forall_not_mem.2
    intro i hi
    obtain ⟨h0, o, ho, _⟩ := mem_ready.1 hi
    have hil : i < l.length := by have := (Array.getElem?_eq_some_iff.1 ho).1; simpa using this
    have h1 := hl i hil
    have : i < listed.size := by rw [S.size]; exact hil
    simp [this] at h0 h1
    rw [h0] at h1; cases h1
  | succ fuel ih =>
    intro listed a w vals S hJ hf
    refine ⟨fun hr => full listed a w vals S hJ (least listed hr S.size), fun i hi => ?_⟩
    obtain ⟨h0, o, ho, haft⟩ := mem_ready.1 hi
    have hol : l[i]? = some o := by simpa using ho
    have hil : i < l.length := (List.getElem?_eq_some_iff.1 hol).1
    have hif : listed.getD i false = false := by
      have : i < listed.size := by rw [S.size]; exact hil
      simp [this] at h0 ⊢; exact h0
    have F := hall i o hol
    have hD : ∀ j ∈ D.getD i [], listed.getD j false = true := by
      intro j hj
      rcases F.dep j hj with ⟨e, he, hb, rfl⟩ | ⟨e, he, hb, h⟩
      · exact haft e he hb
      · exact S.closed e.on (haft e he hb) j h
    have hrun := obsInv_get hobs hol _ vals w hJ (by rw [Nat.zero_add]; exact hif) (by rw [Nat.zero_add]; exact hD) S.closed
    rw [Nat.zero_add] at hrun
    have hrun2 := opRuns_same (fun cs b => Region.noSelect_spec hs i o cs b ho) (S.look hall hol hD hif) hrun
    have hcount : ((List.range l.length).filter fun j => !(listed.setIfInBounds i true).getD j false).length ≤ fuel := by
      have := filter_fewer (p := fun j => !listed.getD j false) (q := fun j => !(listed.setIfInBounds i true).getD j false) (fun j hj => by
        rcases hb : listed.getD j false with _ | _
        · rfl
        · rw [getD_set_true hb] at hj; cases hj) (i := i) (by rw [hif]; rfl) (by
          have : i < listed.size := by rw [S.size]; exact hil
          simp [this]) (List.range l.length) (List.mem_range.2 hil)
      omega
    have hil2 : i < listed.size := by rw [S.size]; exact hil
    have eA : (fun j => (listed.setIfInBounds i true).getD j false) = add1 (fun j => listed.getD j false) i := by
      funext j
      unfold add1
      by_cases hji : j = i
      · subst hji
        rw [decide_eq_true rfl, Bool.true_or]; simp [hil2]
      · rw [decide_eq_false hji, Bool.false_or, getD_set_ne false (Ne.symm hji)]
    have next : ∀ v w', J (add1 (fun j => listed.getD j false) i) (fun j => if j = i then v else vals j) w' → wpAny P .any l.toArray Q fuel (listed.setIfInBounds i true) (a.put o.dst v) w' :=
      fun v w' hw => ih _ _ _ _ (S.step hall hol hD hif (fun _ _ => trivial) (fun φ hφ => by cases hφ) v w' trivial trivial) (by rw [eA]; exact hw) hcount
    unfold wpOp
    rw [ho]
    unfold opRuns at hrun2
    by_cases hwd : Region.wanted o (yielded l.toArray a.tmps) = true
    · simp only [hwd, if_true] at hrun2 ⊢
      refine .inl ?_
      unfold Oper.wp
      generalize (execOp a.eval o).run P w = r at hrun2 ⊢
      cases r with
      | ok n w' =>
        cases n <;> simp only [Oper.upon] at hrun2 ⊢
        case value v => rw [← put_keeps]; exact next _ w' hrun2.2
        case skip => exact next undef w' hrun2.2
        case row r args =>
          refine hrun2.mono fun v w'' he => ?_
          rw [← put_keeps]; exact next _ w'' he.2
        case enter f args =>
          refine hrun2.mono fun e w'' he => ?_
          obtain ⟨v, rfl, h1, h2⟩ := he
          show wpAny P .any l.toArray Q fuel (listed.setIfInBounds i true) (a.put o.dst v) w''
          rw [← put_keeps]; exact next _ w'' h2
      | halt x w' => simp only at hrun2
    · simp only [hwd, Bool.false_eq_true, if_false] at hrun2 ⊢
      exact next undef w hrun2

/-- THE LAW: a region whose order is open, by one invariant -/
theorem region_inv {id : Nat} {Q : Exit → Act → World → Prop} (J : (Nat → Bool) → (Nat → Value) → World → Prop) (D : List (List Nat)) (hm : P.follows .mixedOrders = true)
    (hs : Region.noSelect l.toArray = true) (hok : okTab l D = true) (h0 : J (fun _ => false) (fun _ => undef) w0.drew)
    (hobs : obsInv P l.toArray J D a0 0 l)
    (hend : ∀ vals w, J (fun j => decide (j < l.length)) vals w → Q .normal (putAll l.toArray vals (List.range l.length) a0) w) :
    (Code.region id l.toArray true).wp P Q a0 w0 := by
  refine wp_region_any hm (any_of_inv (w0 := w0.drew) (vals := fun _ => undef) hs (fun i o ho => okTab_fits hok ho) hobs hend _ _ _ _ ⟨by simp, trivial, fun _ _ => trivial, ?_, rfl, rfl, fun _ _ => rfl, ?_⟩ ?_ ?_)
  · intro j hj; rw [none_listed] at hj; cases hj
  · intro j t hj; rw [none_listed] at hj; cases hj
  · have : (fun j => (Array.replicate l.toArray.size false).getD j false) = fun _ => false := funext fun j => none_listed _ j
    rw [this]; exact h0
  · refine Nat.le_trans (List.length_filter_le _ _) ?_
    simp
end
end
end Go.Proofs.Ytcfdlffjghlghaa
