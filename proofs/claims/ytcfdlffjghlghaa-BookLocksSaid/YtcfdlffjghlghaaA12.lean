/-
  Statements of the machine without memory whose order is open: whatever the order, they come to the same. No program is named here.
-/
import Derived.Test.YtcfdlffjghlghaaA11
namespace Go.Proofs.Ytcfdlffjghlghaa
set_option maxRecDepth 100000
open Go.RowKit
set_option linter.unusedVariables false
set_option linter.unusedSimpArgs false

structure RecD where
  s : St
  fr : Nat
  t : T
  blk : Option (Nat × Bk)

def opRefs (s : St) (o : Oper) : List Nat := o.op.operands.toList.flatMap fun x => seen o (s.ev x)
def isAlloc (o : Oper) : Bool :=
  match o.op with
  | .alloc _ | .box _ _ | .buildSlice _ _ _ | .makeSlice _ _ _ | .convert _ _ _ | .call _ => true
  | _ => false
abbrev Foot := List Nat × Option Nat × Nat
def regD (E : EnvX) (ops : List Oper) (n0 tot : Nat) : List Oper → Nat → St → List Foot → (List Foot → St → Prop) → Prop
  | [], c, s, acc, k => k acc s
  | o :: r, c, s, acc, k =>
    stepK E ops o s (if isAlloc o = true then n0 + c else n0 + tot) fun t blk =>
      StopD (regD E ops n0 tot r (if isAlloc o = true then c + 1 else c) (s.app o.dst t blk) (acc ++ [(opRefs s o, blk.map (·.1), if isAlloc o = true then n0 + c else n0 + tot)]) k)

section
variable {E : EnvX} {S : Nat → Prop} {base : Nat} {w0 : W0 E.G}

def ChainOK (E : EnvX) (ops : List Oper) : List Oper → List RecD → St → Prop
  | [], [], s => True
  | o :: r, x :: xs, s => x.s = s ∧ StepOK E ops o s x.fr x.t x.blk ∧ ChainOK E ops r xs (s.app o.dst x.t x.blk)
  | _, _, _ => False
def foot : List Oper → List RecD → List Foot
  | o :: r, x :: xs => (opRefs x.s o, x.blk.map (·.1), x.fr) :: foot r xs
  | _, _ => []
def runS : St → List Oper → List RecD → St
  | s, o :: r, x :: xs => runS (s.app o.dst x.t x.blk) r xs
  | s, _, _ => s
theorem regD_chain {ops : List Oper} {n0 tot : Nat} : ∀ {r : List Oper} {c : Nat} {s : St} {acc : List Foot} {k : List Foot → St → Prop}, regD E ops n0 tot r c s acc k →
    ∃ recs, recs.length = r.length ∧ k (acc ++ foot r recs) (runS s r recs) ∧ ChainOK E ops r recs s
  | [], c, s, acc, k, h => ⟨[], rfl, by unfold regD at h; simpa [foot, runS] using h, trivial⟩
  | o :: r, c, s, acc, k, h => by
    obtain ⟨t, blk, hk, hs⟩ := stepK_sound h
    obtain ⟨recs, h1, h2, h3⟩ := regD_chain hk.out
    exact ⟨⟨s, _, t, blk⟩ :: recs, by simp [h1], by rw [List.append_assoc, List.singleton_append] at h2; exact h2, rfl, hs, h3⟩

/-- the state of those operations that are done -/
def runP (s0 : St) (l : List Oper) (recs : List RecD) (p : Nat → Bool) : Nat → St
  | 0 => s0
  | i + 1 => match l[i]?, recs[i]? with
    | some o, some x => if p i = true then (runP s0 l recs p i).app o.dst x.t x.blk else runP s0 l recs p i
    | _, _ => runP s0 l recs p i
theorem runP_shift (s0 : St) (o : Oper) (l : List Oper) (x : RecD) (recs : List RecD) : ∀ i, runP s0 (o :: l) (x :: recs) (fun _ => true) (i + 1) = runP (s0.app o.dst x.t x.blk) l recs (fun _ => true) i
  | 0 => by simp [runP]
  | i + 1 => by
    have ih := runP_shift s0 o l x recs i
    rw [runP, ih, runP]
    simp only [List.getElem?_cons_succ]
theorem chain_at {ops : List Oper} : ∀ {l : List Oper} {recs : List RecD} {s0 : St}, ChainOK E ops l recs s0 → ∀ {i : Nat} {o : Oper} {x : RecD}, l[i]? = some o → recs[i]? = some x →
    x.s = runP s0 l recs (fun _ => true) i ∧ StepOK E ops o x.s x.fr x.t x.blk
  | [], [], s0, h, i, o, x, ho, hx => by simp at ho
  | o' :: l, x' :: recs, s0, h, 0, o, x, ho, hx => by
    simp at ho hx; subst ho; subst hx
    obtain ⟨h1, h2, h3⟩ := h
    exact ⟨h1, by rw [h1]; exact h2⟩
  | o' :: l, x' :: recs, s0, h, i + 1, o, x, ho, hx => by
    obtain ⟨h1, h2, h3⟩ := h
    rw [runP_shift]
    exact chain_at h3 (by simpa using ho) (by simpa using hx)
  | [], _ :: _, s0, h, _, _, _, _, _ => h.elim
  | _ :: _, [], s0, h, _, _, _, _, _ => h.elim
theorem runS_runP : ∀ {l : List Oper} {recs : List RecD} {s0 : St}, recs.length = l.length → runS s0 l recs = runP s0 l recs (fun _ => true) l.length
  | [], recs, s0, h => by cases recs <;> rfl
  | o :: l, [], s0, h => by simp at h
  | o :: l, x :: recs, s0, h => by
    rw [runS, runS_runP (by simpa using h), List.length_cons, runP_shift]
theorem foot_at : ∀ {l : List Oper} {recs : List RecD} {i : Nat} {o : Oper} {x : RecD}, l[i]? = some o → recs[i]? = some x → (foot l recs)[i]? = some (opRefs x.s o, x.blk.map (·.1), x.fr)
  | o' :: l, x' :: recs, 0, o, x, ho, hx => by simp at ho hx; subst ho; subst hx; rfl
  | o' :: l, x' :: recs, i + 1, o, x, ho, hx => by simpa [foot] using foot_at (l := l) (recs := recs) (i := i) (by simpa using ho) (by simpa using hx)
  | [], _, _, _, _, ho, _ => by simp at ho
  | _ :: _, [], _, _, _, _, hx => by simp at hx
theorem foot_len : ∀ {l : List Oper} {recs : List RecD}, recs.length = l.length → (foot l recs).length = l.length
  | [], recs, h => by cases recs <;> rfl
  | o :: l, [], h => by simp at h
  | o :: l, x :: recs, h => by simp [foot, foot_len (l := l) (recs := recs) (by simpa using h)]

section
variable {s0 : St} {l : List Oper} {recs : List RecD} {p q : Nat → Bool}

theorem runP_lens : ∀ i, (runP s0 l recs p i).t.length = s0.t.length ∧ (runP s0 l recs p i).h.length = s0.h.length
  | 0 => ⟨rfl, rfl⟩
  | i + 1 => by
    have ih := runP_lens i
    rw [runP]
    split
    · split
      · exact ⟨(app_lens _ _ _ _).1.trans ih.1, (app_lens _ _ _ _).2.trans ih.2⟩
      · exact ih
    · exact ih
theorem runP_slNone (t : Nat) (m : Nat) : ∀ n, m ≤ n → (∀ j o, m ≤ j → j < n → l[j]? = some o → p j = true → o.dst ≠ some t) → (runP s0 l recs p n).sl t = (runP s0 l recs p m).sl t
  | 0, h, _ => by rw [Nat.le_zero.1 h]
  | n + 1, h, hj => by
    by_cases hm : m = n + 1
    · rw [hm]
    have ih := runP_slNone t m n (by omega) (fun j o h1 h2 => hj j o h1 (by omega))
    rw [runP]
    split
    · next o x ho hx =>
      split
      · next hp => rw [app_sl, if_neg (fun e => hj n o (by omega) (by omega) ho hp e.1)]; exact ih
      · exact ih
    · exact ih
theorem runP_slSame (t : Nat) : ∀ n, (∀ j o, j < n → l[j]? = some o → o.dst = some t → p j = q j) → (runP s0 l recs p n).sl t = (runP s0 l recs q n).sl t
  | 0, _ => rfl
  | n + 1, hj => by
    have ih := runP_slSame t n (fun j o h1 => hj j o (by omega))
    rw [runP, runP]
    split
    · next o x ho hx =>
      by_cases hd : o.dst = some t
      · rw [hj n o (by omega) ho hd]
        split
        · rw [app_sl, app_sl, (runP_lens n).1, (runP_lens n).1, ih]
        · exact ih
      · have e : ∀ s : St, (s.app o.dst x.t x.blk).sl t = s.sl t := fun s => by rw [app_sl, if_neg (fun e => hd e.1)]
        split <;> split <;> simp only [e, ih]
    · exact ih
theorem runP_bkNone (b : Nat) (m : Nat) : ∀ n, m ≤ n → (∀ j x, m ≤ j → j < n → recs[j]? = some x → p j = true → x.blk.map (·.1) ≠ some b) → (runP s0 l recs p n).bk b = (runP s0 l recs p m).bk b
  | 0, h, _ => by rw [Nat.le_zero.1 h]
  | n + 1, h, hj => by
    by_cases hm : m = n + 1
    · rw [hm]
    have ih := runP_bkNone b m n (by omega) (fun j o h1 h2 => hj j o h1 (by omega))
    rw [runP]
    split
    · next o x ho hx =>
      split
      · next hp =>
        have h1 := hj n x (by omega) (by omega) hx hp
        rw [app_bk]
        cases hb : x.blk with
        | none => exact ih
        | some y =>
          obtain ⟨b0, z⟩ := y
          rw [hb] at h1
          simp only [Option.map_some, ne_eq, Option.some.injEq] at h1
          simp only
          rw [if_neg (fun e => h1 e.1)]; exact ih
      · exact ih
    · exact ih
theorem runP_bkSame (b : Nat) : ∀ n, (∀ j x, j < n → recs[j]? = some x → x.blk.map (·.1) = some b → p j = q j) → (runP s0 l recs p n).bk b = (runP s0 l recs q n).bk b
  | 0, _ => rfl
  | n + 1, hj => by
    have ih := runP_bkSame b n (fun j o h1 => hj j o (by omega))
    rw [runP, runP]
    split
    · next o x ho hx =>
      by_cases hd : x.blk.map (·.1) = some b
      · rw [hj n x (by omega) hx hd]
        split
        · rw [app_bk, app_bk, (runP_lens n).2, (runP_lens n).2, ih]
        · exact ih
      · have e : ∀ s : St, (s.app o.dst x.t x.blk).bk b = s.bk b := fun s => by
          rw [app_bk]
          cases hb : x.blk with
          | none => rfl
          | some y =>
            obtain ⟨b0, z⟩ := y
            rw [hb] at hd
            simp only [Option.map_some, Option.some.injEq] at hd
            simp only
            rw [if_neg (fun e => hd e.1)]
        split <;> split <;> simp only [e, ih]
    · exact ih
theorem runP_all (h : ∀ j, j < l.length → p j = true) : ∀ n, n ≤ l.length → runP s0 l recs p n = runP s0 l recs (fun _ => true) n
  | 0, _ => rfl
  | n + 1, hn => by
    have ih := runP_all h n (by omega)
    rw [runP, runP, ih, h n (by omega)]

/-- one operation more is done -/
theorem runP_more {i : Nat} {o : Oper} {x : RecD} (ho : l[i]? = some o) (hx : recs[i]? = some x) (hq : ∀ j, q j = (if j = i then true else p j)) (hi : p i = false)
    (hd : ∀ j o', j ≠ i → l[j]? = some o' → ∀ t, o'.dst = some t → o.dst ≠ some t) (hb : ∀ j y, i < j → recs[j]? = some y → p j = true → ∀ b, y.blk.map (·.1) = some b → x.blk.map (·.1) ≠ some b) (n : Nat) (hn : i < n) :
    Sim ((runP s0 l recs p n).app o.dst x.t x.blk) (runP s0 l recs q n) := by
  refine ⟨by rw [(app_lens _ _ _ _).1, (runP_lens n).1, (runP_lens n).1], by rw [(app_lens _ _ _ _).2, (runP_lens n).2, (runP_lens n).2]; exact Nat.le_refl _, fun t => ?_, fun b => ?_⟩
  · rw [app_sl, (runP_lens n).1]
    have below : (runP s0 l recs q i).sl t = (runP s0 l recs p i).sl t := runP_slSame t i (fun j o' hj _ _ => by rw [hq, if_neg (by omega)])
    have succ : (runP s0 l recs q (i + 1)).sl t = if o.dst = some t ∧ t < s0.t.length then x.t else (runP s0 l recs p i).sl t := by
      rw [runP, ho, hx]
      simp only
      rw [hq, if_pos rfl, if_pos rfl, app_sl, (runP_lens i).1, below]
    by_cases hdt : o.dst = some t
    · have no : ∀ j o', i + 1 ≤ j → j < n → l[j]? = some o' → o'.dst ≠ some t := fun j o' h1 h2 h3 h4 => hd j o' (by omega) h3 t h4 hdt
      rw [runP_slNone t (i + 1) n (by omega) (fun j o' h1 h2 h3 _ => no j o' h1 h2 h3), succ]
      have : (runP s0 l recs p n).sl t = (runP s0 l recs p i).sl t := runP_slNone t i n (by omega) (fun j o' h1 h2 h3 h4 => by
        by_cases hji : j = i
        · subst hji; rw [hi] at h4; cases h4
        · exact no j o' (by omega) h2 h3)
      rw [this]
    · rw [if_neg (fun e => hdt e.1)]
      exact runP_slSame t n (fun j o' h1 h2 h3 => by
        rw [hq]
        by_cases hji : j = i
        · subst hji; rw [ho] at h2; cases h2; exact absurd h3 hdt
        · rw [if_neg hji])
  · rw [app_bk, (runP_lens n).2]
    have below : (runP s0 l recs q i).bk b = (runP s0 l recs p i).bk b := runP_bkSame b i (fun j o' hj _ _ => by rw [hq, if_neg (by omega)])
    by_cases hbt : x.blk.map (·.1) = some b
    · have no : ∀ j y, i + 1 ≤ j → j < n → recs[j]? = some y → p j = true → y.blk.map (·.1) ≠ some b := fun j y h1 h2 h3 h4 h5 => hb j y (by omega) h3 h4 b h5 hbt
      rw [runP_bkNone b (i + 1) n (by omega) (fun j y h1 h2 h3 h4 => no j y h1 h2 h3 (by rw [hq, if_neg (by omega)] at h4; exact h4))]
      rw [runP, ho, hx]
      simp only
      rw [hq, if_pos rfl, if_pos rfl, app_bk, (runP_lens i).2, below]
      have : (runP s0 l recs p n).bk b = (runP s0 l recs p i).bk b := runP_bkNone b i n (by omega) (fun j y h1 h2 h3 h4 => by
        by_cases hji : j = i
        · subst hji; rw [hi] at h4; cases h4
        · exact no j y (by omega) h2 h3 h4)
      rw [this]
    · have e1 : (runP s0 l recs q n).bk b = (runP s0 l recs p n).bk b := runP_bkSame b n (fun j y h1 h2 h3 => by
        rw [hq]
        by_cases hji : j = i
        · subst hji; rw [hx] at h2; cases h2; exact absurd h3 hbt
        · rw [if_neg hji])
      rw [e1]
      cases hb2 : x.blk with
      | none => rfl
      | some y =>
        obtain ⟨b0, z⟩ := y
        rw [hb2] at hbt
        simp only [Option.map_some, Option.some.injEq] at hbt
        simp only
        rw [if_neg (fun e => hbt e.1)]
end

/-- what an operation writes among blocks -/
def wrF (dummy : Nat) (f : Foot) : List Nat := f.2.1.toList ++ (if f.2.2 = dummy then [] else [f.2.2])
/-- whichever operations touch the same blocks have their order -/
def chkB (D : List (List Nat)) (n0 dummy : Nat) (acc : List Foot) : Bool :=
  (acc.all fun (f : Foot) => f.2.1 != some dummy && decide (n0 ≤ f.2.2) && decide (f.2.2 ≤ dummy)) &&
  (List.range acc.length).all fun i => (List.range acc.length).all fun j => i == j ||
    (match acc[i]?, acc[j]? with
     | some f, some g => (((wrF dummy f).all fun b => !(g.1 ++ wrF dummy g).contains b) || (D.getD j []).contains i || (D.getD i []).contains j) && (decide (i < j) || f.2.2 == dummy || g.2.1 != some f.2.2)
     | _, _ => false)
structure ChkB (D : List (List Nat)) (n0 dummy : Nat) (acc : List Foot) : Prop where
  one : ∀ (i : Nat) (f : Foot), acc[i]? = some f → f.2.1 ≠ some dummy ∧ n0 ≤ f.2.2 ∧ f.2.2 ≤ dummy
  two : ∀ (i j : Nat) (f g : Foot), i ≠ j → acc[i]? = some f → acc[j]? = some g → ((∀ b ∈ wrF dummy f, b ∉ g.1 ++ wrF dummy g) ∨ i ∈ D.getD j [] ∨ j ∈ D.getD i []) ∧ (i < j ∨ f.2.2 = dummy ∨ g.2.1 ≠ some f.2.2)
theorem chkB_spec {D : List (List Nat)} {n0 dummy : Nat} {acc : List Foot} (h : chkB D n0 dummy acc = true) : ChkB D n0 dummy acc := by
  unfold chkB at h
  simp only [Bool.and_eq_true, List.all_eq_true, List.mem_range, Bool.or_eq_true, beq_iff_eq, bne_iff_ne, decide_eq_true_eq] at h
  obtain ⟨h1, h2⟩ := h
  refine ⟨fun i f hf => ?_, fun i j f g hij hf hg => ?_⟩
  · have := h1 f (List.mem_of_getElem? hf)
    exact ⟨this.1.1, this.1.2, this.2⟩
  · have h3 := h2 i (List.getElem?_eq_some_iff.1 hf).1 j (List.getElem?_eq_some_iff.1 hg).1
    rcases h3 with h3 | h3
    · exact absurd h3 hij
    · rw [hf, hg] at h3
      simp only [Bool.and_eq_true, List.all_eq_true, Bool.or_eq_true, beq_iff_eq, bne_iff_ne, decide_eq_true_eq, Bool.not_eq_true', List.contains_iff_mem] at h3
      obtain ⟨h4, h5⟩ := h3
      refine ⟨?_, ?_⟩
      · rcases h4 with (h4 | h4) | h4
        · exact .inl fun b hb hm => by
            have := h4 b hb
            rw [← Bool.not_eq_true, List.contains_iff_mem] at this
            exact this hm
        · exact .inr (.inl h4)
        · exact .inr (.inr h4)
      · rcases h5 with (h5 | h5) | h5
        · exact .inl h5
        · exact .inr (.inl h5)
        · exact .inr (.inr h5)

theorem drawn {l : List Oper} {D : List (List Nat)} {recs : List RecD} {s0 : St} {n0 dummy : Nat} {Q : Exit → Act → World → Prop} (hrl : recs.length = l.length) (hch : ChainOK E l l recs s0) (hall : ∀ (i : Nat) (o : Oper), l[i]? = some o → Fits l D i o)
    (hck : ChkB D n0 dummy (foot l recs)) (hdl : dummy < s0.h.length) (hno : ∀ b, n0 ≤ b → s0.bk b = none)
    (hQ : ∀ ρ a w, Good S base w0 (runP s0 l recs (fun _ => true) l.length) ρ a w → Q .normal a w) :
    ∀ (fuel : Nat) (listed : Array Bool) (ρ : Nat → Option Value) (a : Act) (w : World), listed.size = l.length → (∀ i, listed.getD i false = true → ∀ j ∈ D.getD i [], listed.getD j false = true) →
      Good S base w0 (runP s0 l recs (fun i => listed.getD i false) l.length) ρ a w → ((List.range l.length).filter fun i => !listed.getD i false).length ≤ fuel → wpAny E.P .any l.toArray Q fuel listed a w := by
  have full : ∀ (listed : Array Bool) (ρ : Nat → Option Value) (a : Act) (w : World), Good S base w0 (runP s0 l recs (fun i => listed.getD i false) l.length) ρ a w → (∀ i, i < l.length → listed.getD i false = true) → Q .normal a w := by
    intro listed ρ a w g hl
    refine hQ ρ a w ?_
    rw [runP_all hl l.length (Nat.le_refl _)] at g; exact g
  have least : ∀ (listed : Array Bool), Region.ready .any l.toArray listed = [] → listed.size = l.length → ∀ i, i < l.length → listed.getD i false = true := by
    intro listed hr hsz i
    induction i using Nat.strongRecOn with
    | ind i ih =>
      intro hi
      rcases hb : listed.getD i false with _ | _
      · exfalso
        have hrd : i ∈ Region.ready .any l.toArray listed := by
          rw [mem_ready]
          refine ⟨?_, l[i], by simp [hi], fun e he hbe => ?_⟩
          · have : i < listed.size := by omega
            simp [this] at hb ⊢; exact hb
          · have h1 := (hall i l[i] (List.getElem?_eq_getElem hi)).aft e he hbe
            exact ih e.on h1 (by omega)
        rw [hr] at hrd; cases hrd
      · rfl
  intro fuel
  induction fuel with
  | zero =>
    intro listed ρ a w hsz hcl g hf
    have hl : ∀ i, i < l.length → listed.getD i false = true := by
      intro i hi
      rcases hb : listed.getD i false with _ | _
      · have : i ∈ (List.range l.length).filter fun i => !listed.getD i false := List.mem_filter.2 ⟨List.mem_range.2 hi, by rw [hb]; rfl⟩
        rw [List.length_eq_zero_iff.1 (Nat.le_zero.1 hf)] at this; cases this
      · rfl
    refine ⟨?_, full listed ρ a w g hl⟩
    apply List.eq_nil_iff_forall_not_mem.2
    intro i hi
    obtain ⟨h0, o, ho, _⟩ := mem_ready.1 hi
    have hil : i < l.length := by have := (Array.getElem?_eq_some_iff.1 ho).1; simpa using this
    have h1 := hl i hil
    have : i < listed.size := by omega
    simp [this] at h0 h1
    rw [h0] at h1; cases h1
  | succ fuel ih =>
    intro listed ρ a w hsz hcl g hf
    refine ⟨fun hr => full listed ρ a w g (least listed hr hsz), fun i hi => ?_⟩
    obtain ⟨h0, o, ho, haft⟩ := mem_ready.1 hi
    have hol : l[i]? = some o := by simpa using ho
    have hil : i < l.length := (List.getElem?_eq_some_iff.1 hol).1
    have hif : listed.getD i false = false := by
      have : i < listed.size := by omega
      simp [this] at h0 ⊢; exact h0
    have F := hall i o hol
    have hD : ∀ j ∈ D.getD i [], listed.getD j false = true := by
      intro j hj
      rcases F.dep j hj with ⟨e, he, hb, rfl⟩ | ⟨e, he, hb, h⟩
      · exact haft e he hb
      · exact hcl e.on (haft e he hb) j h
    obtain ⟨x, hx⟩ : ∃ x, recs[i]? = some x := ⟨_, List.getElem?_eq_getElem (by omega)⟩
    obtain ⟨hxs, hst⟩ := chain_at hch hol hx
    have hfi := foot_at hol hx
    -- who is done is no one that waits for i
    have nodone : ∀ j, listed.getD j false = true → i ∉ D.getD j [] := fun j hj hm => by
      have := hcl j hj i hm; rw [hif] at this; cases this
    have lt : ∀ j, j ∈ D.getD i [] → j < i := F.lt
    have recAt : ∀ j, j < l.length → ∃ o' y, l[j]? = some o' ∧ recs[j]? = some y := fun j hj => ⟨_, _, List.getElem?_eq_getElem hj, List.getElem?_eq_getElem (by omega)⟩
    have recOf : ∀ j (y : RecD), recs[j]? = some y → ∃ o', l[j]? = some o' := fun j y hy => ⟨_, List.getElem?_eq_getElem (by have := (List.getElem?_eq_some_iff.1 hy).1; omega)⟩
    have gtD : ∀ j o', l[j]? = some o' → i ∈ D.getD j [] → i < j := fun j o' hj => (hall j o' hj).lt i
    have slots : ∀ t, t ∈ o.looksAt l.toArray → (runP s0 l recs (fun k => listed.getD k false) l.length).sl t = x.s.sl t := by
      intro t ht
      rw [hxs]
      refine (runP_slNone t i l.length (by omega) (fun j o' h1 h2 h3 h4 h5 => ?_)).trans (runP_slSame t i (fun j o' h1 h2 h3 => ?_))
      · by_cases hji : j = i
        · subst hji; simp only [hif] at h4; cases h4
        · rcases F.clean j t hji (by unfold dstOf; rw [h3]; exact h5) ht with h | h
          · have := lt j h; omega
          · exact nodone j h4 h
      · rcases F.clean j t (by omega) (by unfold dstOf; rw [h2]; exact h3) ht with h | h
        · exact hD j h
        · have := gtD j o' h2 h; omega
    have blocks : ∀ b, b ∈ opRefs x.s o → (runP s0 l recs (fun k => listed.getD k false) l.length).bk b = x.s.bk b := by
      intro b hb
      rw [hxs]
      have key : ∀ j y, j ≠ i → recs[j]? = some y → y.blk.map (·.1) = some b → j ∈ D.getD i [] ∨ i ∈ D.getD j [] := by
        intro j y hji hy hyb
        obtain ⟨o', ho'⟩ := recOf j y hy
        have := (hck.two j i _ _ hji (foot_at ho' hy) hfi).1
        rcases this with h | h | h
        · exact absurd (List.mem_append_left _ hb) (h b (List.mem_append_left _ (by simp [hyb])))
        · exact .inl h
        · exact .inr h
      refine (runP_bkNone b i l.length (by omega) (fun j y h1 h2 h3 h4 h5 => ?_)).trans (runP_bkSame b i (fun j y h1 h2 h3 => ?_))
      · by_cases hji : j = i
        · subst hji; simp only [hif] at h4; cases h4
        · rcases key j y hji h3 h5 with h | h
          · have := lt j h; omega
          · exact nodone j h4 h
      · obtain ⟨o', ho'⟩ := recOf j y h2
        rcases key j y (by omega) h2 h3 with h | h
        · exact hD j h
        · have := gtD j o' ho' h; omega
    have hfr : (runP s0 l recs (fun k => listed.getD k false) l.length).bk x.fr = none := by
      have h1 := hck.one i _ hfi
      have : (runP s0 l recs (fun k => listed.getD k false) l.length).bk x.fr = (runP s0 l recs (fun k => listed.getD k false) 0).bk x.fr := by
        refine runP_bkNone x.fr 0 l.length (Nat.zero_le _) (fun j y _ h2 h3 h4 h5 => ?_)
        obtain ⟨o', ho'⟩ := recOf j y h3
        by_cases hji : j = i
        · subst hji; simp only [hif] at h4; cases h4
        by_cases hdm : x.fr = dummy
        · have := (hck.one j _ (foot_at ho' h3)).1
          rw [hdm] at h5; exact this h5
        · have h6 := hck.two i j _ _ (Ne.symm hji) hfi (foot_at ho' h3)
          rcases h6.1 with h | h | h
          · refine h x.fr (List.mem_append_right _ (by simp [hdm])) (List.mem_append_right _ (List.mem_append_left _ ?_))
            simp [h5]
          · exact nodone j h4 h
          · have := lt j h
            rcases h6.2 with h7 | h7 | h7
            · omega
            · exact hdm h7
            · exact h7 h5
      rw [this]
      exact hno _ h1.2.1
    have hcount : ((List.range l.length).filter fun j => !(listed.setIfInBounds i true).getD j false).length ≤ fuel := by
      have := filter_fewer (p := fun j => !listed.getD j false) (q := fun j => !(listed.setIfInBounds i true).getD j false) (fun j hj => by
        rcases hb : listed.getD j false with _ | _
        · rfl
        · rw [getD_set_true hb] at hj; cases hj) (i := i) (by rw [hif]; rfl) (by
        have : i < listed.size := by omega
        simp [this]) (List.range l.length) (List.mem_range.2 hil)
      omega
    unfold wpOp
    rw [ho]
    simp only
    refine hst.run (s' := runP s0 l recs (fun k => listed.getD k false) l.length) (fun y hy => ⟨?_, fun b hb => ?_⟩) (fun j want d hg hd => ?_) g hfr ?_ (fun a' w' ρ' g' => ?_)
    · cases y with
      | tmp t => exact slots t (List.mem_append_left _ (List.mem_filterMap.2 ⟨.tmp t, by simpa using hy, rfl⟩))
      | _ => rfl
    · exact blocks b (List.mem_flatMap.2 ⟨y, by simpa using hy, hb⟩)
    · refine slots d (List.mem_append_right _ ?_)
      rw [hg]
      simp only [List.getElem?_toArray, hd]
      simp
    · rw [(runP_lens _).2]
      exact Nat.lt_of_le_of_lt (hck.one i _ hfi).2.2 hdl
    · refine ih _ ρ' a' w' (by simp [hsz]) ?_ ?_ hcount
      · intro j hj k hk
        by_cases hji : j = i
        · subst hji; exact getD_set_true (hD k hk)
        · rw [getD_set_ne false (Ne.symm hji)] at hj
          exact getD_set_true (hcl j hj k hk)
      · refine g'.sim (runP_more hol hx (fun j => ?_) hif (fun j o' hji hj t ht => ?_) (fun j y hij hy hp b hb hxb => ?_) l.length hil)
        · by_cases hji : j = i
          · subst hji
            have : j < listed.size := by omega
            simp [this]
          · rw [getD_set_ne false (Ne.symm hji), if_neg hji]
        · have := F.one j t hji (by unfold dstOf; rw [hj]; exact ht)
          unfold dstOf at this
          rw [hol] at this; exact this
        · obtain ⟨o', ho'⟩ := recOf j y hy
          have h6 := (hck.two i j _ _ (by omega) hfi (foot_at ho' hy)).1
          rcases h6 with h | h | h
          · exact h b (List.mem_append_left _ (by simp [hxb])) (List.mem_append_right _ (List.mem_append_left _ (by simp [hb])))
          · exact nodone j hp h
          · have := lt j h; omega
end
end Go.Proofs.Ytcfdlffjghlghaa
