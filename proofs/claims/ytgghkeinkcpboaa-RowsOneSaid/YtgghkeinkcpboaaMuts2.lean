/-
  A region whose order is open and that writes: what is said of values by facts that last, and of what changes by one invariant. No program is named here.
-/
import Derived.Test.YtgghkeinkcpboaaMuts
import Derived.Test.YtgghkeinkcpboaaOwn
namespace Go.Proofs.Ytgghkeinkcpboaa
set_option maxRecDepth 100000
open Go.RowKit
set_option linter.unusedVariables false

/-- blocks of other types than these keep their cells -/
def MarksT (Ts : List TypeId) (w w' : World) : Prop := ∀ (g : Nat) (cs : Array Value) (t : TypeId) (fr : Nat × Nat), t ∉ Ts → w.heap[g]? = some (.cells cs t fr) → ∃ fr', w'.heap[g]? = some (.cells cs t fr')
theorem MarksT.refl (Ts : List TypeId) (w : World) : MarksT Ts w w := fun _ _ _ fr _ h => ⟨fr, h⟩
theorem MarksT.trans {Ts : List TypeId} {a b c : World} (h : MarksT Ts a b) (k : MarksT Ts b c) : MarksT Ts a c := fun g cs t fr ht hg => by
  obtain ⟨fr', h1⟩ := h g cs t fr ht hg
  exact k g cs t fr' ht h1
theorem MarksT.below {Ts : List TypeId} {w w' : World} (h : Below w.heap.size w w') : MarksT Ts w w' := fun g _ _ fr _ hg => ⟨fr, (h.block g (Array.getElem?_eq_some_iff.1 hg).1).trans hg⟩
/-- a block of one of these types was written -/
theorem MarksT.grown {Ts : List TypeId} {w w' : World} {g : Nat} {cs : Array Value} {t : TypeId} (hk : Blk w g cs t) (ht : t ∈ Ts) (h : w.grownBy w' (some g)) : MarksT Ts w w' := fun g' cs' t' fr' ht' hg' => by
  refine ⟨fr', ?_⟩
  have hne : g' ≠ g := by
    rintro rfl
    unfold Blk at hk
    rw [hk] at hg'
    have h1 := Option.some.inj hg'
    injection h1 with h2 h3
    exact ht' (h3 ▸ ht)
  exact (h.block g' (Array.getElem?_eq_some_iff.1 hg').1 (fun e => hne (by injection e))).trans hg'

/-- memory grows; what lies below B stays whole -/
structure GrowsT (Ts : List TypeId) (B : Nat) (w w' : World) : Prop where
  below : Below B w w'
  marks : MarksT Ts w w'
theorem GrowsT.refl (Ts : List TypeId) (B : Nat) (w : World) : GrowsT Ts B w w := ⟨Below.refl _ _, MarksT.refl _ _⟩
theorem GrowsT.trans {Ts : List TypeId} {B : Nat} {a b c : World} (h : GrowsT Ts B a b) (k : GrowsT Ts B b c) : GrowsT Ts B a c := ⟨h.below.trans k.below, h.marks.trans k.marks⟩
theorem GrowsT.size {Ts : List TypeId} {B : Nat} {a b : World} (h : GrowsT Ts B a b) (hB : B ≤ a.heap.size) : B ≤ b.heap.size := Nat.le_trans hB h.below.size
theorem GrowsT.of {Ts : List TypeId} {B : Nat} {w w' : World} (h : Below w.heap.size w w') (hB : B ≤ w.heap.size) : GrowsT Ts B w w' := ⟨h.mono hB, .below h⟩
theorem GrowsT.alloc {Ts : List TypeId} {B : Nat} (w : World) (o : Obj) (hB : B ≤ w.heap.size) : GrowsT Ts B w (w.alloc o) := .of ((Below.refl _ _).alloc (Nat.le_refl _) _) hB
theorem GrowsT.grown {Ts : List TypeId} {B : Nat} {w w' : World} {g : Nat} {cs : Array Value} {t : TypeId} (hk : Blk w g cs t) (ht : t ∈ Ts) (h : w.grownBy w' (some g)) (hg : B ≤ g) (hB : B ≤ w.heap.size) : GrowsT Ts B w w' :=
  ⟨below_grown (Below.refl _ _) h hg hB, .grown hk ht h⟩

def StT (Ts : List TypeId) (φ : (Nat → Value) → World → Prop) : Prop := ∀ vals w w', MarksT Ts w w' → φ vals w → φ vals w'
theorem stT_is {Ts : List TypeId} (i : Nat) (v : Value) : StT Ts (isV i v) := fun _ _ _ _ h => h
theorem stT_as {Ts : List TypeId} (i j : Nat) : StT Ts (asV i j) := fun _ _ _ _ h => h
/-- nothing is said here -/
def anyV : (Nat → Value) → World → Prop := fun _ _ => True
theorem stT_any {Ts : List TypeId} : StT Ts anyV := fun _ _ _ _ h => h
theorem stT_nil {Ts : List TypeId} : ∀ φ ∈ ([] : List ((Nat → Value) → World → Prop)), StT Ts φ := fun _ h => by cases h
theorem stT_cons {Ts : List TypeId} {φ : (Nat → Value) → World → Prop} {L : List ((Nat → Value) → World → Prop)} (h : StT Ts φ) (k : ∀ φ ∈ L, StT Ts φ) : ∀ ψ ∈ φ :: L, StT Ts ψ := List.forall_mem_cons.2 ⟨h, k⟩

/-- a way down the table -/
def wayB (D : List (List Nat)) (k : Nat) : List Nat → Nat → Bool
  | [], i => (D.getD k []).contains i
  | x :: r, i => (D.getD k []).contains x && wayB D x r i
theorem way_done {D : List (List Nat)} {S : Nat → Bool} (hcl : ∀ k, S k = true → ∀ j ∈ D.getD k [], S j = true) : ∀ (p : List Nat) (k i : Nat), wayB D k p i = true → S k = true → S i = true
  | [], k, i, h, hk => hcl k hk i (by simpa [wayB] using h)
  | x :: r, k, i, h, hk => by
    simp only [wayB, Bool.and_eq_true] at h
    exact way_done hcl r x i h.2 (hcl k hk x (by simpa using h.1))
theorem way_not {D : List (List Nat)} {S : Nat → Bool} (hcl : ∀ k, S k = true → ∀ j ∈ D.getD k [], S j = true) (p : List Nat) (k i : Nat) (h : wayB D k p i = true) (hi : S i = false) : S k = false := by
  rcases hb : S k with _ | _
  · rfl
  · rw [way_done hcl p k i h hb] at hi; cases hi

section
variable {P : Program} {l : List Oper} {L : List ((Nat → Value) → World → Prop)} {D : List (List Nat)} {a0 : Act} {w0 : World} {Ts : List TypeId} {B : Nat} {G : (Nat → Bool) → (Nat → Value) → World → Prop}
/-- what is to be walked of each operation -/
def walksG (P : Program) (ops : Array Oper) (ds : List (Option Tmp)) (Ts : List TypeId) (B : Nat) (G : (Nat → Bool) → (Nat → Value) → World → Prop) (L : List ((Nat → Value) → World → Prop)) (D : List (List Nat)) (a0 : Act) (w0 : World) : Nat → List Oper → Prop
  | _, [] => True
  | i, o :: r => (∀ S vals w, GrowsT Ts B w0 w → S i = false → (∀ j ∈ D.getD i [], S j = true) → (∀ k, S k = true → ∀ j ∈ D.getD k [], S j = true) → G S vals w → leans L D vals w (D.getD i []) →
      wpList P ops (Ends (GrowsT Ts B) a0.defers (ds.getD i none) (fun v w' => phi L D i (fun j => if j = i then v else vals j) w' ∧ G (add1 S i) (fun j => if j = i then v else vals j) w') w) [o] (putD ds vals (D.getD i []) a0) w) ∧ walksG P ops ds Ts B G L D a0 w0 (i + 1) r

def invG (Ts : List TypeId) (B : Nat) (G : (Nat → Bool) → (Nat → Value) → World → Prop) (L : List ((Nat → Value) → World → Prop)) (D : List (List Nat)) (w0 : World) (S : Nat → Bool) (vals : Nat → Value) (w : World) : Prop :=
  GrowsT Ts B w0 w ∧ (∀ j, S j = true → phi L D j vals w) ∧ (∀ k, S k = true → ∀ j ∈ D.getD k [], S j = true) ∧ G S vals w

theorem inv_of_walks {ds : List (Option Tmp)} {n : Nat} (hok : okTab l D = true) (hd : l.map (·.dst) = ds) (hn : (ds.all fun d => match d with | none => true | some t => decide (t < n)) = true) (ha : a0.tmps.size = n) (hst : ∀ φ ∈ L, StT Ts φ) :
    ∀ (m : List Oper) (i : Nat), l.drop i = m → walksG P l.toArray ds Ts B G L D a0 w0 i m → obsInv P l.toArray (invG Ts B G L D w0) D a0 i m
  | [], _, _, _ => trivial
  | o :: r, i, hm, h => by
    have hi : i < l.length := by
      apply Decidable.byContradiction
      intro hc
      rw [List.drop_eq_nil_of_le (Nat.le_of_not_lt hc)] at hm; cases hm
    have ho : l[i]? = some o := by
      rw [List.drop_eq_getElem_cons hi] at hm
      rw [List.getElem?_eq_getElem hi, (List.cons.inj hm).1]
    refine ⟨fun S vals w hJ hSi hdn hcl => ?_, inv_of_walks hok hd hn ha hst r (i + 1) (by rw [← List.drop_drop, hm]; rfl) h.2⟩
    obtain ⟨hg, hph, _, hG⟩ := hJ
    have h1 := h.1 S vals w hg hSi hdn hcl hG (factsOf_iff.2 fun j hj => hph j (hdn j hj))
    have hdo : ds.getD i none = o.dst := by subst hd; simp [List.getD_eq_getElem?_getD, List.getElem?_map, ho]
    rw [← putD_eq hd, hdo] at h1
    have F := okTab_fits hok ho
    have h2 : opRuns P l.toArray (GrowsT Ts B) o (putAll l.toArray vals (D.getD i []) a0) w fun v w' => phi L D i (fun j => if j = i then v else vals j) w' ∧ G (add1 S i) (fun j => if j = i then v else vals j) w' := by
      refine opRuns_of_list (fun t ht => ?_) ?_
      · rw [putAll_size, ha]
        have := List.all_eq_true.1 hn (some t) (by subst hd; exact List.mem_map.2 ⟨o, List.mem_of_getElem? ho, ht⟩)
        simpa using this
      · rw [putAll_def]; exact h1
    have step : ∀ v w', GrowsT Ts B w w' → (phi L D i (fun j => if j = i then v else vals j) w' ∧ G (add1 S i) (fun j => if j = i then v else vals j) w') →
        invG Ts B G L D w0 (add1 S i) (fun j => if j = i then v else vals j) w' := by
      intro v w' hw hv
      refine ⟨hg.trans hw, fun j hj => ?_, fun k hk j hj => ?_, hv.2⟩
      · by_cases hji : j = i
        · subst hji; exact hv.1
        · rw [add1_other S hji] at hj
          have h3 : phi L D j (fun j => if j = i then v else vals j) w := by
            refine phi_local (fun k hk => ?_) (hph j hj)
            have hki : k ≠ i := by
              rintro rfl
              rcases hk with h | h
              · exact hji h.symm
              · rw [hcl j hj _ h] at hSi; cases hSi
            rw [if_neg hki]
          unfold phi at *
          by_cases hjL : j < L.length
          · rw [List.getD_eq_getElem?_getD, List.getElem?_eq_getElem hjL] at h3 ⊢
            exact hst _ (List.getElem_mem hjL) _ _ _ hw.marks h3
          · rw [List.getD_eq_getElem?_getD, List.getElem?_eq_none (Nat.le_of_not_lt hjL)]
            trivial
      · by_cases hki : k = i
        · subst hki
          have := hdn j hj
          by_cases hjk : j = k
          · subst hjk; exact add1_same _ _
          · rw [add1_other S hjk]; exact this
        · rw [add1_other S hki] at hk
          have := hcl k hk j hj
          by_cases hji : j = i
          · subst hji; exact add1_same _ _
          · rw [add1_other S hji]; exact this
    unfold opRuns at h2 ⊢
    by_cases hwd : Region.wanted o (yielded l.toArray (putAll l.toArray vals (D.getD i []) a0).tmps) = true
    · simp only [hwd, if_true] at h2 ⊢
      generalize (execOp (putAll l.toArray vals (D.getD i []) a0).eval o).run P w = q at h2 ⊢
      cases q with
      | ok nx w' =>
        cases nx <;> simp only at h2 ⊢
        case value v => exact ⟨trivial, step _ _ h2.1 h2.2⟩
        case skip => exact ⟨trivial, step _ _ h2.1 h2.2⟩
        case enter f args =>
          refine h2.mono fun e w'' he => ?_
          obtain ⟨v, hv, h3, h4⟩ := he
          exact ⟨v, hv, trivial, step _ _ h3 h4⟩
        case row q args => exact h2.mono fun v w'' he => ⟨trivial, step _ _ he.1 he.2⟩
      | halt x w' => exact h2
    · simp only [hwd, Bool.false_eq_true, if_false] at h2 ⊢
      exact step _ _ (GrowsT.refl _ _ _) h2

/-- THE LAW, for regions that write -/
theorem region_muts {id : Nat} {Q : Exit → Act → World → Prop} (Ts : List TypeId) (B : Nat) (hB : B ≤ w0.heap.size) (G : (Nat → Bool) → (Nat → Value) → World → Prop) (L : List ((Nat → Value) → World → Prop)) (D : List (List Nat)) (ds : List (Option Tmp)) (n : Nat) (hm : P.follows .mixedOrders = true)
    (hs : Region.noSelect l.toArray = true) (hok : okTab l D = true) (hd : l.map (·.dst) = ds) (hn : (ds.all fun d => match d with | none => true | some t => decide (t < n)) = true) (ha : a0.tmps.size = n) (hst : ∀ φ ∈ L, StT Ts φ)
    (h0 : G (fun _ => false) (fun _ => undef) w0.drew)
    (hobs : (∀ w1, GrowsT Ts B w0.drew w1 → GrowsT Ts B w0 w1 ∧ B ≤ w1.heap.size) → walksG P l.toArray ds Ts B G L D a0 w0.drew 0 l)
    (hend : ∀ vals w, GrowsT Ts B w0 w → G (fun j => decide (j < l.length)) vals w → leans L D vals w (List.range l.length) → Q .normal (putD ds vals (List.range l.length) a0) w) :
    (Code.region id l.toArray true).wp P Q a0 w0 := by
  have hdr : ∀ w1, GrowsT Ts B w0.drew w1 → GrowsT Ts B w0 w1 := fun w1 h => ⟨⟨h.below.os, h.below.tape, h.below.output, h.below.size, h.below.block⟩, h.marks⟩
  refine region_inv (invG Ts B G L D w0.drew) D hm hs hok (And.intro (GrowsT.refl _ _ _) (And.intro (fun j hj => Bool.noConfusion hj) (And.intro (fun k hk => Bool.noConfusion hk) h0))) (inv_of_walks hok hd hn ha hst l 0 rfl (hobs fun w1 h => ⟨hdr w1 h, h.size hB⟩)) fun vals w hJ => ?_
  rw [putD_eq hd]
  exact hend vals w (hdr w hJ.1) hJ.2.2.2 (factsOf_iff.2 fun j hj => hJ.2.1 j (decide_eq_true (List.mem_range.1 hj)))
end

theorem mk_any {ks : List Nat} {i : Nat} {x : Value} {vals : Nat → Value} {w : World} : anyV (sel (i :: ks) fun j => if j = i then x else vals j) w := trivial
theorem mk_as {x : Value} {i j : Nat} {ks : List Nat} {vals : Nat → Value} {w : World} (h : x = vals j) (hj : ks.contains j = true) (hne : (j == i) = false) : asV i j (sel (i :: ks) fun j => if j = i then x else vals j) w := by
  have hne' : j ≠ i := by simpa using hne
  have h1 : (i :: ks).contains j = true := by simp at hj ⊢; exact .inr hj
  unfold asV
  rw [sel_own]
  unfold sel
  rw [if_pos h1]
  exact h.trans (if_neg hne').symm

/-- operation k, done, came to a pointer to such a block, none of the elder ones -/
def keyAt (B : Nat) (T : TypeId) (k : Nat) (cs : Array Value) (S : Nat → Bool) (vals : Nat → Value) (w : World) : Prop := S k = true → ∃ g, vals k = .pointer (some ⟨g, 0, none⟩) ∧ B ≤ g ∧ Blk w g cs T
theorem keyAt.start (B : Nat) (T : TypeId) (k : Nat) (cs : Array Value) (vals : Nat → Value) (w : World) : keyAt B T k cs (fun _ => false) vals w := fun h => Bool.noConfusion h
theorem keyAt.keep {B : Nat} {T : TypeId} {k : Nat} {cs : Array Value} {S : Nat → Bool} {vals : Nat → Value} {w w' : World} (h : keyAt B T k cs S vals w) (v : Value) (i : Nat) (hi : k ≠ i) (hb : Below w.heap.size w w') : keyAt B T k cs (add1 S i) (fun j => if j = i then v else vals j) w' := by
  intro hS
  rw [add1_other S hi] at hS
  obtain ⟨g, h1, h2, h3⟩ := h hS
  exact ⟨g, (if_neg hi).trans h1, h2, h3.keep hb⟩
theorem keyAt.new {B : Nat} {T : TypeId} {k : Nat} {cs : Array Value} {S : Nat → Bool} {vals : Nat → Value} {w' : World} (g : Nat) (h0 : B ≤ g) (hk : Blk w' g cs T) : keyAt B T k cs (add1 S k) (fun j => if j = k then .pointer (some ⟨g, 0, none⟩) else vals j) w' :=
  fun _ => ⟨g, if_pos rfl, h0, hk⟩
theorem keyAt.get {B : Nat} {T : TypeId} {k : Nat} {cs : Array Value} {S : Nat → Bool} {vals : Nat → Value} {w : World} (h : keyAt B T k cs S vals w) (hS : S k = true) : ∃ g, vals k = .pointer (some ⟨g, 0, none⟩) ∧ B ≤ g ∧ Blk w g cs T := h hS
/-- operation a made a new variable, operation b writes it -/
def newAt (B : Nat) (T : TypeId) (a b : Nat) (c0 c1 : Array Value) (S : Nat → Bool) (vals : Nat → Value) (w : World) : Prop := S a = true → ∃ g, vals a = .pointer (some ⟨g, 0, none⟩) ∧ B ≤ g ∧ Blk w g (if S b then c1 else c0) T
theorem newAt.start (B : Nat) (T : TypeId) (a b : Nat) (c0 c1 : Array Value) (vals : Nat → Value) (w : World) : newAt B T a b c0 c1 (fun _ => false) vals w := fun h => Bool.noConfusion h
theorem newAt.keep {B : Nat} {T : TypeId} {a b : Nat} {c0 c1 : Array Value} {S : Nat → Bool} {vals : Nat → Value} {w w' : World} (h : newAt B T a b c0 c1 S vals w) (v : Value) (i : Nat) (ha : a ≠ i) (hb' : b ≠ i) (hb : Below w.heap.size w w') : newAt B T a b c0 c1 (add1 S i) (fun j => if j = i then v else vals j) w' := by
  intro hS
  rw [add1_other S ha] at hS
  obtain ⟨g, h1, h2, h3⟩ := h hS
  exact ⟨g, (if_neg ha).trans h1, h2, by rw [add1_other S hb']; exact h3.keep hb⟩
theorem newAt.new {B : Nat} {T : TypeId} {a b : Nat} {c0 c1 : Array Value} {S : Nat → Bool} {vals : Nat → Value} {w' : World} (g : Nat) (hab : b ≠ a) (hSb : S b = false) (h0 : B ≤ g) (hk : Blk w' g c0 T) : newAt B T a b c0 c1 (add1 S a) (fun j => if j = a then .pointer (some ⟨g, 0, none⟩) else vals j) w' :=
  fun _ => ⟨g, if_pos rfl, h0, by rw [add1_other S hab, hSb]; exact hk⟩
theorem newAt.store {B : Nat} {T : TypeId} {a b : Nat} {c0 c1 : Array Value} {S : Nat → Bool} {vals : Nat → Value} {w' : World} (v : Value) (g : Nat) (hab : a ≠ b) (hv : vals a = .pointer (some ⟨g, 0, Option.none⟩)) (h0 : B ≤ g) (hk : Blk w' g c1 T) : newAt B T a b c0 c1 (add1 S b) (fun j => if j = b then v else vals j) w' :=
  fun _ => ⟨g, (if_neg hab).trans hv, h0, by rw [add1_same]; exact hk⟩
theorem newAt.get {B : Nat} {T : TypeId} {a b : Nat} {c0 c1 : Array Value} {S : Nat → Bool} {vals : Nat → Value} {w : World} (h : newAt B T a b c0 c1 S vals w) (hS : S a = true) : ∃ g, vals a = .pointer (some ⟨g, 0, Option.none⟩) ∧ B ≤ g ∧ Blk w g (if S b then c1 else c0) T := h hS
/-- a block that operation m alone writes -/
def keyMut (g : Nat) (T : TypeId) (m : Nat) (c0 c1 : Array Value) (S : Nat → Bool) (w : World) : Prop := Blk w g (if S m then c1 else c0) T
theorem keyMut.start {g : Nat} {T : TypeId} {m : Nat} {c0 c1 : Array Value} {w : World} (h : Blk w g c0 T) : keyMut g T m c0 c1 (fun _ => false) w := h
theorem keyMut.keep {g : Nat} {T : TypeId} {m : Nat} {c0 c1 : Array Value} {S : Nat → Bool} {w w' : World} (h : keyMut g T m c0 c1 S w) (i : Nat) (hi : m ≠ i) (hb : Below w.heap.size w w') : keyMut g T m c0 c1 (add1 S i) w' := by
  unfold keyMut at *
  rw [add1_other S hi]; exact h.keep hb
theorem keyMut.mark {g : Nat} {T : TypeId} {m : Nat} {c0 c1 : Array Value} {S : Nat → Bool} {w' : World} (h : Blk w' g c1 T) : keyMut g T m c0 c1 (add1 S m) w' := by
  unfold keyMut
  rw [add1_same]; exact h
theorem keyMut.ahead {g : Nat} {T : TypeId} {m : Nat} {c0 c1 : Array Value} {S : Nat → Bool} {w : World} (h : keyMut g T m c0 c1 S w) (hS : S m = false) : Blk w g c0 T := by
  unfold keyMut at h
  rw [hS] at h; exact h
theorem keyMut.behind {g : Nat} {T : TypeId} {m : Nat} {c0 c1 : Array Value} {S : Nat → Bool} {w : World} (h : keyMut g T m c0 c1 S w) (hS : S m = true) : Blk w g c1 T := by
  unfold keyMut at h
  rw [hS] at h; exact h
theorem newAt.behind {B : Nat} {T : TypeId} {a b : Nat} {c0 c1 : Array Value} {S : Nat → Bool} {vals : Nat → Value} {w : World} (h : newAt B T a b c0 c1 S vals w) (hS : S a = true) (hSb : S b = true) : ∃ g, vals a = .pointer (some ⟨g, 0, Option.none⟩) ∧ B ≤ g ∧ Blk w g c1 T := by
  obtain ⟨g, h1, h2, h3⟩ := h hS
  rw [hSb] at h3
  exact ⟨g, h1, h2, h3⟩
theorem newAt.ahead {B : Nat} {T : TypeId} {a b : Nat} {c0 c1 : Array Value} {S : Nat → Bool} {vals : Nat → Value} {w : World} (h : newAt B T a b c0 c1 S vals w) (hS : S a = true) (hSb : S b = false) : ∃ g, vals a = .pointer (some ⟨g, 0, Option.none⟩) ∧ B ≤ g ∧ Blk w g c0 T := by
  obtain ⟨g, h1, h2, h3⟩ := h hS
  rw [hSb] at h3
  exact ⟨g, h1, h2, h3⟩
theorem stT_lit {Ts : List TypeId} (B i n : Nat) (bs : List UInt8) (t : TypeId) (ht : t ∉ Ts) : StT Ts (litV B i n bs t) := fun _ _ _ hb ⟨g, fr, h0, h1, h2⟩ => by
  obtain ⟨fr', h3⟩ := hb _ _ _ _ ht h2
  exact ⟨g, fr', h0, h1, h3⟩
/-- operation i's value is a slice of one row, that is a whole block of bytes -/
def rowOf (i : Nat) (bs : List UInt8) (t q : TypeId) : (Nat → Value) → World → Prop := fun vals w => ∃ g g' fr fr', vals i = .slice (some ⟨g, 0, none⟩) 1 1 ∧ w.heap[g]? = some (.cells #[.slice (some ⟨g', 0, none⟩) bs.length bs.length] q fr) ∧ w.heap[g']? = some (.cells (HC bs) t fr')
theorem stT_rowOf {Ts : List TypeId} (i : Nat) (bs : List UInt8) (t q : TypeId) (ht : t ∉ Ts) (hq : q ∉ Ts) : StT Ts (rowOf i bs t q) := fun _ _ _ hb ⟨g, g', fr, fr', h0, h1, h2⟩ => by
  obtain ⟨f1, h3⟩ := hb _ _ _ _ hq h1
  obtain ⟨f2, h4⟩ := hb _ _ _ _ ht h2
  exact ⟨g, g', f1, f2, h0, h3, h4⟩
theorem sel_rowOf {ks : List Nat} {vals : Nat → Value} {i : Nat} {bs : List UInt8} {t q : TypeId} {w : World} (h : ks.contains i = true) : rowOf i bs t q (sel ks vals) w ↔ rowOf i bs t q vals w := by
  unfold rowOf sel
  simp only [h, if_true]
theorem mk_rowOf {x : Value} {i : Nat} {ks : List Nat} {bs : List UInt8} {t q : TypeId} {vals : Nat → Value} {w : World} (g g' : Nat) (fr fr' : Nat × Nat) (h : x = .slice (some ⟨g, 0, none⟩) 1 1) (h1 : w.heap[g]? = some (.cells #[.slice (some ⟨g', 0, none⟩) bs.length bs.length] q fr)) (h2 : w.heap[g']? = some (.cells (HC bs) t fr')) :
    rowOf i bs t q (sel (i :: ks) fun j => if j = i then x else vals j) w := ⟨g, g', fr, fr', sel_own.trans h, h1, h2⟩
theorem rowOf.rows {w : World} {g g' n : Nat} {bs : List UInt8} {t q : TypeId} {fr fr' : Nat × Nat} (h1 : w.heap[g]? = some (.cells #[.slice (some ⟨g', 0, none⟩) n n] q fr)) (hn : n = bs.length) (h2 : w.heap[g']? = some (.cells (HC bs) t fr')) (hs : bs.length ≤ 1000) : RowR w (some ⟨g, 0, none⟩) 1 [bs] := by
  have hr : Row8 w (some ⟨g', 0, none⟩) n bs := Row8.ofCells h2 hn (by simp only [maxLen]; omega)
  refine ⟨rfl, by simp [maxLen], .inr ⟨g, 0, rfl, fun i hi => ?_⟩⟩
  match i, hi with
  | 0, _ => exact ⟨_, _, _, by rw [cell_of_row _ _ _ _ _ _ h1]; rfl, hr⟩
  | n + 1, hi => exact absurd hi (by simp)
/-- a row of one's own that operation m appends to -/
def ownAt (B : Nat) (e : TypeId) (m : Nat) (v0 : Value) (c0 c1 : List UInt8) (S : Nat → Bool) (vals : Nat → Value) (w : World) : Prop := (S m = false → Own8 w B e v0 c0) ∧ (S m = true → Own8 w B e (vals m) c1)
theorem ownAt.start {B : Nat} {e : TypeId} {m : Nat} {v0 : Value} {c0 c1 : List UInt8} {vals : Nat → Value} {w : World} (h : Own8 w B e v0 c0) : ownAt B e m v0 c0 c1 (fun _ => false) vals w := ⟨fun _ => h, fun h => Bool.noConfusion h⟩
theorem ownAt.keep {B : Nat} {e : TypeId} {m : Nat} {v0 : Value} {c0 c1 : List UInt8} {S : Nat → Bool} {vals : Nat → Value} {w w' : World} (h : ownAt B e m v0 c0 c1 S vals w) (v : Value) (i : Nat) (hi : m ≠ i) (hb : Below w.heap.size w w') : ownAt B e m v0 c0 c1 (add1 S i) (fun j => if j = i then v else vals j) w' := by
  refine ⟨fun hS => ?_, fun hS => ?_⟩
  · rw [add1_other S hi] at hS
    exact (h.1 hS).below hb
  · rw [add1_other S hi] at hS
    show Own8 w' B e (if m = i then v else vals m) c1
    rw [if_neg hi]
    exact (h.2 hS).below hb
theorem ownAt.mark {B : Nat} {e : TypeId} {m : Nat} {v0 : Value} {c0 c1 : List UInt8} {S : Nat → Bool} {vals : Nat → Value} {w' : World} {v : Value} (h : Own8 w' B e v c1) : ownAt B e m v0 c0 c1 (add1 S m) (fun j => if j = m then v else vals j) w' := by
  refine ⟨fun hS => ?_, fun _ => ?_⟩
  · rw [add1_same] at hS; cases hS
  · show Own8 w' B e (if m = m then v else vals m) c1
    rw [if_pos rfl]; exact h
/-- between operation k, that lays these bytes, and operation m, that takes them -/
def tmpAt (k m n : Nat) (bs : List UInt8) (S : Nat → Bool) (vals : Nat → Value) (w : World) : Prop := S k = true → S m = false → ∃ g, vals k = .slice (some ⟨g, 0, none⟩) n n ∧ Row8 w (some ⟨g, 0, none⟩) n bs
theorem tmpAt.start (k m n : Nat) (bs : List UInt8) (vals : Nat → Value) (w : World) : tmpAt k m n bs (fun _ => false) vals w := fun h => Bool.noConfusion h
theorem tmpAt.keep {k m n : Nat} {bs : List UInt8} {S : Nat → Bool} {vals : Nat → Value} {w w' : World} (h : tmpAt k m n bs S vals w) (v : Value) (i : Nat) (hk : k ≠ i) (hm : m ≠ i) (hb : Below w.heap.size w w') : tmpAt k m n bs (add1 S i) (fun j => if j = i then v else vals j) w' := by
  intro h1 h2
  rw [add1_other S hk] at h1
  rw [add1_other S hm] at h2
  obtain ⟨g, h3, h4⟩ := h h1 h2
  exact ⟨g, (if_neg hk).trans h3, h4.below hb⟩
theorem tmpAt.new {k m n : Nat} {bs : List UInt8} {S : Nat → Bool} {vals : Nat → Value} {w' : World} (g : Nat) (h : Row8 w' (some ⟨g, 0, none⟩) n bs) : tmpAt k m n bs (add1 S k) (fun j => if j = k then .slice (some ⟨g, 0, none⟩) n n else vals j) w' := fun _ _ => ⟨g, if_pos rfl, h⟩
theorem tmpAt.done {k m n : Nat} {bs : List UInt8} {S : Nat → Bool} {vals : Nat → Value} {w' : World} (v : Value) : tmpAt k m n bs (add1 S m) (fun j => if j = m then v else vals j) w' := fun _ h => by rw [add1_same] at h; cases h
/-- appending grows memory as a region that writes may -/
theorem GrowsT.append {Ts : List TypeId} {B : Nat} {w w' : World} {e : TypeId} {v : Value} {bs : List UInt8} (ho : Own8 w B e v bs) (he : e ∈ Ts) (hg : w.grownBy w' v.ownBlock) (hb : Below B w w') : GrowsT Ts B w w' := by
  refine ⟨hb, fun g cs t fr ht hgt => ?_⟩
  have hne : v.ownBlock ≠ some g := by
    intro hv
    rcases ho.2 with ⟨h1, _⟩ | ⟨g', cap, cur, h1, _, h2, _, _, _, _⟩
    · rw [h1] at hv; cases hv
    · rw [h1] at hv
      have hgg : g' = g := by injection hv
      rw [hgg, hgt] at h2
      have h3 := Option.some.inj h2
      injection h3 with h4 h5
      exact ht (h5 ▸ he)
  exact ⟨fr, (hg.block g (Array.getElem?_eq_some_iff.1 hgt).1 (fun h => hne h.symm)).trans hgt⟩
/-- two operations came to unlike values -/
def apart (i j : Nat) (S : Nat → Bool) (vals : Nat → Value) : Prop := S i = true → S j = true → vals i ≠ vals j
theorem apart.start (i j : Nat) (vals : Nat → Value) : apart i j (fun _ => false) vals := fun h => Bool.noConfusion h
theorem apart.keep {i j : Nat} {S : Nat → Bool} {vals : Nat → Value} (h : apart i j S vals) (v : Value) (k : Nat) (hi : i ≠ k) (hj : j ≠ k) : apart i j (add1 S k) (fun m => if m = k then v else vals m) := by
  intro h1 h2
  rw [add1_other S hi] at h1; rw [add1_other S hj] at h2
  show (if i = k then v else vals i) ≠ (if j = k then v else vals j)
  rw [if_neg hi, if_neg hj]
  exact h h1 h2
theorem apart.left {i j B : Nat} {T : TypeId} {cs : Array Value} {S : Nat → Bool} {vals : Nat → Value} {w : World} (hk : keyAt B T j cs S vals w) (g : Nat) (hg : w.heap.size ≤ g) (hij : j ≠ i) : apart i j (add1 S i) (fun m => if m = i then .pointer (some ⟨g, 0, none⟩) else vals m) := by
  intro _ h2 e
  rw [add1_other S hij] at h2
  obtain ⟨q, h3, _, h4⟩ := hk h2
  have h5 : (Value.pointer (some ⟨g, 0, none⟩)) = vals j := by simpa [hij] using e
  rw [h3] at h5
  have h6 : g = q := by injection h5 with h5; injection h5 with h5; injection h5
  have := h4.lt
  omega
theorem apart.right {i j B : Nat} {T : TypeId} {cs : Array Value} {S : Nat → Bool} {vals : Nat → Value} {w : World} (hk : keyAt B T i cs S vals w) (g : Nat) (hg : w.heap.size ≤ g) (hij : i ≠ j) : apart i j (add1 S j) (fun m => if m = j then .pointer (some ⟨g, 0, none⟩) else vals m) := by
  intro h1 _ e
  rw [add1_other S hij] at h1
  obtain ⟨q, h3, _, h4⟩ := hk h1
  have h5 : vals i = (Value.pointer (some ⟨g, 0, none⟩)) := by simpa [hij] using e
  rw [h3] at h5
  have h6 : q = g := by injection h5 with h5; injection h5 with h5; injection h5
  have := h4.lt
  omega
theorem apart.leftN {i j b B : Nat} {T : TypeId} {c0 c1 : Array Value} {S : Nat → Bool} {vals : Nat → Value} {w : World} (hk : newAt B T j b c0 c1 S vals w) (g : Nat) (hg : w.heap.size ≤ g) (hij : j ≠ i) : apart i j (add1 S i) (fun m => if m = i then .pointer (some ⟨g, 0, none⟩) else vals m) := by
  refine apart.left (B := B) (T := T) (cs := if S b then c1 else c0) ?_ g hg hij
  exact fun hS => hk hS
theorem apart.rightN {i j b B : Nat} {T : TypeId} {c0 c1 : Array Value} {S : Nat → Bool} {vals : Nat → Value} {w : World} (hk : newAt B T i b c0 c1 S vals w) (g : Nat) (hg : w.heap.size ≤ g) (hij : i ≠ j) : apart i j (add1 S j) (fun m => if m = j then .pointer (some ⟨g, 0, none⟩) else vals m) := by
  refine apart.right (B := B) (T := T) (cs := if S b then c1 else c0) ?_ g hg hij
  exact fun hS => hk hS
/-- the world of a call under a name of its own -/
theorem calls_gen {P : Program} {f : FuncId} {args : Array Value} {w : World} {Q : Ending → World → Prop} (h : ∀ w1, w1 = w → Calls P f args w1 Q) : Calls P f args w Q := h w rfl
/-- .. and of a list of operations -/
theorem wpl_gen {P : Program} {ops : Array Oper} {rest : List Oper} {Q : Exit → Act → World → Prop} {a : Act} {w : World} (h : ∀ w1, w1 = w → wpList P ops Q rest a w1) : wpList P ops Q rest a w := h w rfl
/-- .. and of an exit -/
theorem post_gen {Q : Exit → Act → World → Prop} {e : Exit} {a : Act} {w : World} (h : ∀ w1, w1 = w → Q e a w1) : Q e a w := h w rfl
end Go.Proofs.Ytgghkeinkcpboaa
