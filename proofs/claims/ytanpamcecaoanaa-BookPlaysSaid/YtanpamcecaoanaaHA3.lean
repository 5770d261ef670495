/-
  Statements of the machine without memory: operations in a row; operations whose order is open. No program is named here.
-/
import Derived.Test.YtanpamcecaoanaaHA2
import Derived.Test.YtanpamcecaoanaaHBase
namespace Go.Proofs.Ytanpamcecaoanaa
set_option maxRecDepth 100000
open Go.RowKit
set_option linter.unusedVariables false
set_option linter.unusedSimpArgs false

def guardK (ops : List Oper) (o : Oper) (s : St) (run skip : Prop) : Prop :=
  match o.guard with
  | none => run
  | some (j, want) =>
    match (ops[j]?).bind (·.dst) with
    | none => False
    | some d =>
      match s.sl d with
      | .d (.v (.bool b)) => (match want with | true => StopC (condK b run skip) | false => StopC (condK b skip run))
      | .d (.v (.tuple _)) => skip
      | _ => False
def stepK (E : EnvX) (ops : List Oper) (o : Oper) (s : St) (fr : Nat) (k : KO) : Prop := guardK ops o s (opA E o s fr k) (k (.d (.v undef)) none)

def boolOf : Value → Option Bool | .bool c => some c | _ => none
/-- is the operation carried out? -/
def Wants (ops : List Oper) (o : Oper) (s : St) (b : Bool) : Prop :=
  match o.guard with
  | none => b = true
  | some (j, want) => ∃ d x, (ops[j]?).bind (·.dst) = some d ∧ s.sl d = .d (.v x) ∧ b = (boolOf x == some want)
def StepOK (E : EnvX) (ops : List Oper) (o : Oper) (s : St) (fr : Nat) (t : T) (blk : Option (Nat × Bk)) : Prop :=
  (Wants ops o s true ∧ OpOK E o s fr t blk) ∨ (Wants ops o s false ∧ t = .d (.v undef) ∧ blk = none)
theorem stepK_sound {E : EnvX} {ops : List Oper} {o : Oper} {s : St} {fr : Nat} {k : KO} (h : stepK E ops o s fr k) : ∃ t blk, k t blk ∧ StepOK E ops o s fr t blk := by
  unfold stepK guardK at h
  split at h
  · next hg =>
    obtain ⟨t, blk, h1, h2⟩ := opA_sound h
    exact ⟨t, blk, h1, .inl ⟨by unfold Wants; rw [hg], h2⟩⟩
  · next j want hg =>
    split at h
    · exact h.elim
    · next d hd =>
      have W : ∀ x b, s.sl d = .d (.v x) → b = (boolOf x == some want) → Wants ops o s b := fun x b h1 h2 => by
        unfold Wants; rw [hg]; exact ⟨d, x, hd, h1, h2⟩
      split at h
      · next b hs =>
        cases b <;> cases want
        · obtain ⟨t, blk, h1, h2⟩ := opA_sound h.out
          exact ⟨t, blk, h1, .inl ⟨W _ _ hs rfl, h2⟩⟩
        · exact ⟨_, _, h.out, .inr ⟨W _ _ hs rfl, rfl, rfl⟩⟩
        · exact ⟨_, _, h.out, .inr ⟨W _ _ hs rfl, rfl, rfl⟩⟩
        · obtain ⟨t, blk, h1, h2⟩ := opA_sound h.out
          exact ⟨t, blk, h1, .inl ⟨W _ _ hs rfl, h2⟩⟩
      · next hs => exact ⟨_, _, h, .inr ⟨W _ _ hs (by cases want <;> rfl), rfl, rfl⟩⟩
      · exact h.elim

section
variable {E : EnvX} {S : Nat → Prop} {base : Nat} {w0 : W0 E.G}

theorem Wants.real {ops : List Oper} {o : Oper} {s s' : St} {b : Bool} {ρ : Nat → Option Value} {a : Act} {w : World} (h : Wants ops o s b) (g : Good S base w0 s' ρ a w)
    (hs : ∀ j want d, o.guard = some (j, want) → (ops[j]?).bind (·.dst) = some d → s'.sl d = s.sl d) : Region.wanted o (yielded ops.toArray a.tmps) = b := by
  unfold Wants at h
  unfold Region.wanted
  split at h
  · next hg => rw [hg, h]
  · next j want hg =>
    obtain ⟨d, x, hd, hx, rfl⟩ := h
    rw [hg]
    have h1 := g.ev (.tmp d)
    have h2 : s'.ev (.tmp d) = .d (.v x) := by show s'.sl d = _; rw [hs j want d hg hd, hx]
    rw [h2] at h1
    have h3 : a.tmps.getD d undef = x := RA.plain h1
    have hlt : d < a.tmps.size := by
      apply Decidable.byContradiction
      intro hn
      have : s'.sl d = .dead := by
        unfold St.sl
        rw [List.getD_eq_getElem?_getD, List.getElem?_eq_none (by rw [g.len]; exact Nat.le_of_not_lt hn)]; rfl
      rw [show s'.sl d = .d (.v x) from h2] at this; cases this
    have h4 : a.tmps[d]? = some x := by
      rw [Array.getD_eq_getD_getElem?, Array.getElem?_eq_getElem hlt] at h3
      rw [Array.getElem?_eq_getElem hlt]; exact congrArg some h3
    have h5 : yielded ops.toArray a.tmps j = boolOf x := by
      unfold yielded
      rw [List.getElem?_toArray, hd, Option.bind_some, h4]
      cases x <;> rfl
    show (yielded ops.toArray a.tmps j == some want) = _
    rw [h5]

/-- states of which the same can be read -/
structure Sim (s s' : St) : Prop where
  t : s'.t.length = s.t.length
  h : s.h.length ≤ s'.h.length
  sl : ∀ i, s'.sl i = s.sl i
  bk : ∀ b, s'.bk b = s.bk b
theorem Good.sim {G : Nat → Option (List Seg)} {S : Nat → Prop} {base : Nat} {w0 : W0 G} {s s' : St} {ρ : Nat → Option Value} {a : Act} {w : World} (g : Good S base w0 s ρ a w) (e : Sim s s') : Good S base w0 s' ρ a w :=
  ⟨e.t.trans g.len, fun i hi => by rw [e.sl]; exact g.t i hi, fun b => by rw [e.bk]; exact g.b b, fun i b hb => by rw [e.bk]; rw [e.sl] at hb; exact g.dang i b hb, g.inj, g.low, g.bel, g.glob, g.pin, g.size, g.defs⟩
theorem bk_more (s : St) (n b : Nat) : St.bk ⟨s.t, s.h ++ List.replicate n none⟩ b = s.bk b := by
  simp only [St.bk, List.getD_eq_getElem?_getD]
  by_cases h : b < s.h.length
  · rw [List.getElem?_append_left h]
  · rw [List.getElem?_append_right (by omega), List.getElem?_eq_none (l := s.h) (by omega), List.getElem?_replicate]
    split <;> rfl
theorem Sim.more (s : St) (n : Nat) : Sim s ⟨s.t, s.h ++ List.replicate n none⟩ := ⟨rfl, by simp, fun _ => rfl, bk_more s n⟩

/-! operations in a row -/
def St.app2 (s : St) (dst : Option Nat) (t : T) (blk : Option (Nat × Bk)) : St :=
  ⟨match dst with | some d => s.t.set d t | none => s.t, match blk with | some (b, x) => if b = s.h.length then s.h ++ [some x] else s.h.set b (some x) | none => s.h⟩
/-- a call to which a variable of one's own is lent, by its address -/
def mutK (E : EnvX) (o : Oper) (s : St) (K : St → Prop) (other : Prop) : Prop :=
  match o.op with
  | .call c =>
    (match c.callee with
     | .value x =>
       (match fnOf (s.ev x) with
        | some f =>
          (match lentAt (c.args.toList.map s.ev) with
           | some (pos, b, rest) =>
             (match s.bk b with
              | some (.var l) => nolap b rest = true ∧ o.guard = none ∧ argK s rest fun args lent => E.M f pos (.var l) args fun r x' => (lent = true → flatRes r = true) ∧ (lent = true → flatBk x' = true) ∧
                  (match r with
                   | .d a => K ⟨match o.dst with | some d => s.t.set d (.d a) | none => s.t, s.h.set b (some x')⟩
                   | .t m => K ⟨match o.dst with | some d => s.t.set d (.tup m) | none => s.t, s.h.set b (some x')⟩
                   | _ => False)
              | _ => other)
           | none => other)
        | none => other)
     | _ => other)
  | _ => other
def regA (E : EnvX) (ops : List Oper) : List Oper → St → (St → Prop) → Prop
  | [], s, k => k s
  | o :: r, s, k => mutK E o s (fun s' => Stop (regA E ops r s' k)) <| stepK E ops o s s.h.length fun t blk => Stop (regA E ops r (s.app2 o.dst t blk) k)

theorem app_bk (s : St) (d : Option Nat) (t : T) (blk : Option (Nat × Bk)) (b : Nat) : (s.app d t blk).bk b = (match blk with | some (b0, x) => if b0 = b ∧ b0 < s.h.length then some x else s.bk b | none => s.bk b) := by
  unfold St.app St.bk
  cases blk with
  | none => rfl
  | some p => obtain ⟨b0, x⟩ := p; simp only [getD_set_list]
theorem app_sl (s : St) (d : Option Nat) (t : T) (blk : Option (Nat × Bk)) (i : Nat) : (s.app d t blk).sl i = if d = some i ∧ i < s.t.length then t else s.sl i := by
  unfold St.app St.sl
  cases d with
  | none => simp
  | some d =>
    simp only [getD_set_list, Option.some.injEq]
    by_cases h : d = i
    · subst h; rfl
    · rw [if_neg (fun e => h e.1), if_neg (fun e => h e.1)]
theorem app_lens (s : St) (d : Option Nat) (t : T) (blk : Option (Nat × Bk)) : (s.app d t blk).t.length = s.t.length ∧ (s.app d t blk).h.length = s.h.length := by
  unfold St.app
  constructor
  · cases d <;> simp
  · cases blk with
    | none => rfl
    | some p => simp
theorem app2_sim {s : St} {d : Option Nat} {t : T} {blk : Option (Nat × Bk)} : Sim (s.app2 d t blk) (St.app ⟨s.t, s.h ++ List.replicate 1 none⟩ d t blk) := by
  have hb : ∀ b, (St.app ⟨s.t, s.h ++ List.replicate 1 none⟩ d t blk).bk b = (s.app2 d t blk).bk b := by
    intro b
    rw [app_bk]
    unfold St.app2
    cases blk with
    | none => exact bk_more s 1 b
    | some p =>
      obtain ⟨b0, x⟩ := p
      simp only [bk_more, List.length_append, List.length_replicate]
      by_cases h : b0 = s.h.length
      · subst h
        simp only [if_true, St.bk, List.getD_eq_getElem?_getD, List.getElem?_append]
        by_cases hb : b < s.h.length
        · rw [if_neg (by omega), if_pos hb]
        · rw [if_neg hb]
          by_cases h2 : s.h.length = b
          · rw [if_pos (by omega)]; subst h2; simp
          · rw [if_neg (by omega), List.getElem?_eq_none (by omega)]
            rw [List.getElem?_eq_none (by simp; omega)]
      · rw [if_neg h]
        simp only [St.bk, getD_set_list]
        by_cases h2 : b0 = b
        · subst h2
          by_cases h3 : b0 < s.h.length
          · rw [if_pos (by omega), if_pos (by omega)]
          · rw [if_neg (by omega), if_neg (by omega)]
        · rw [if_neg (fun e => h2 e.1), if_neg (fun e => h2 e.1)]
  refine ⟨(app_lens _ _ _ _).1.trans ?_, ?_, fun i => ?_, hb⟩
  · unfold St.app2; cases d <;> simp
  · rw [(app_lens _ _ _ _).2]
    unfold St.app2
    cases blk with
    | none => simp
    | some p => obtain ⟨b0, x⟩ := p; simp only; split <;> simp
  · rw [app_sl]
    unfold St.app2 St.sl
    cases d with
    | none => simp
    | some d =>
      simp only [getD_set_list, Option.some.injEq]
      by_cases h : d = i
      · subst h; rfl
      · rw [if_neg (fun e => h e.1), if_neg (fun e => h e.1)]
theorem Good.simBack {s s' : St} {ρ : Nat → Option Value} {a : Act} {w : World} (g : Good S base w0 s' ρ a w) (e : Sim s s') : Good S base w0 s ρ a w :=
  ⟨e.t.symm.trans g.len, fun i hi => by rw [← e.sl]; exact g.t i hi, fun b => by rw [← e.bk]; exact g.b b, fun i b hb => by rw [← e.bk]; rw [← e.sl] at hb; exact g.dang i b hb, g.inj, g.low, g.bel, g.glob, g.pin, g.size, g.defs⟩

/-- one operation, in whatever world the state is -/
theorem StepOK.run {ops : List Oper} {o : Oper} {s s' : St} {fr : Nat} {t : T} {blk : Option (Nat × Bk)} {ρ : Nat → Option Value} {a : Act} {w : World} {K : Act → World → Prop} {Q : Exit → Act → World → Prop}
    (h : StepOK E ops o s fr t blk) (hs : Same o s s') (hg : ∀ j want d, o.guard = some (j, want) → (ops[j]?).bind (·.dst) = some d → s'.sl d = s.sl d) (g : Good S base w0 s' ρ a w) (h1 : s'.bk fr = none) (h2 : fr < s'.h.length)
    (hK : ∀ a' w' ρ', Good S base w0 (s'.app o.dst t blk) ρ' a' w' → K a' w') :
    if Region.wanted o (yielded ops.toArray a.tmps) then o.wp E.P a w K Q ∨ (o.asks E.P a w ∧ LetsOut Q) else K (a.put o.dst undef) w := by
  rcases h with ⟨hw, h⟩ | ⟨hw, rfl, rfl⟩
  · rw [hw.real g hg, if_pos rfl]
    exact .inl (h.2.2 S base w0 s' ρ a w K Q hs g h1 h2 hK)
  · rw [hw.real g hg, if_neg (by simp)]
    exact hK _ _ ρ (g.put' o.dst (t := .d (.v undef)) (.v undef) (by simp [T.refs]))

theorem mutK_sound {o : Oper} {s : St} {K : St → Prop} {other : Prop} (h : mutK E o s K other) : (o.guard = none ∧ ∀ (S : Nat → Prop) (base : Nat) (w0 : W0 E.G) (ρ : Nat → Option Value) (a : Act) (w : World) (K' : Act → World → Prop) (Q : Exit → Act → World → Prop),
    Good S base w0 s ρ a w → (∀ s' a' w' ρ', K s' → Good S base w0 s' ρ' a' w' → K' a' w') → o.wp E.P a w K' Q) ∨ other := by
  unfold mutK at h
  split at h
  case h_2 => exact .inr h
  next c ho =>
  split at h
  case h_2 => exact .inr h
  next y hc =>
  split at h
  case h_2 => exact .inr h
  next f hy =>
  split at h
  case h_2 => exact .inr h
  next pos b rest hl =>
  split at h
  case h_2 => exact .inr h
  next l hb =>
  obtain ⟨hnl, hg, h⟩ := h
  refine .inl ⟨hg, ?_⟩
  obtain ⟨r, x', lent, ⟨hf1, hf2, hr⟩, hrun⟩ := run_lent (K := fun lent r x' => (lent = true → flatRes r = true) ∧ (lent = true → flatBk x' = true) ∧
                  (match r with
                   | .d a => K ⟨match o.dst with | some d => s.t.set d (.d a) | none => s.t, s.h.set b (some x')⟩
                   | .t m => K ⟨match o.dst with | some d => s.t.set d (.tup m) | none => s.t, s.h.set b (some x')⟩
                   | _ => False)) ho hc (fnOf_spec hy) hl hb hnl h (by intro _ _ _ _ _ _ _ e; cases e)
  intro S base w0 ρ a w K' Q g hK'
  refine hrun S base w0 s ρ a w K' Q (fun x hx => ⟨rfl, fun _ _ => rfl⟩) g fun v w' q hρ hw ⟨S0, h3, h4, h5⟩ => ?_
  obtain ⟨g2, k2⟩ := g.lent hρ hb hw h4 hf2 h5
  cases r with
  | d d => exact hK' _ _ _ ρ hr (g2.put' o.dst (t := .d d) ((res_lent hf1 k2 h3).1 d rfl) (by simp [T.refs]))
  | t m => exact hK' _ _ _ ρ hr (g2.put' o.dst (t := .tup m) ((res_lent hf1 k2 h3).2 m rfl) (by simp [T.refs]))
  | _ => exact hr.elim
theorem regA_sound {ops : List Oper} : ∀ {l : List Oper} {s : St} {k : St → Prop} {ρ : Nat → Option Value} {a : Act} {w : World}, regA E ops l s k → Good S base w0 s ρ a w →
    wpList E.P ops.toArray (fun e a' w' => e = .normal ∧ ∃ s' ρ', k s' ∧ Good S base w0 s' ρ' a' w') l a w
  | [], s, k, ρ, a, w, h, g => ⟨rfl, s, ρ, h, g⟩
  | o :: r, s, k, ρ, a, w, h0, g => by
    rcases mutK_sound h0 with ⟨hg0, hm⟩ | h
    · unfold wpList
      rw [show Region.wanted o (yielded ops.toArray a.tmps) = true by unfold Region.wanted; rw [hg0], if_pos rfl]
      exact .inl (hm S base w0 ρ a w _ _ g fun s' a' w' ρ' hk g' => regA_sound hk.out g')
    obtain ⟨t, blk, hk, hs⟩ := stepK_sound h
    unfold wpList
    refine hs.run (s' := ⟨s.t, s.h ++ List.replicate 1 none⟩) (ρ := ρ) (a := a) (w := w) (fun x hx => ⟨by cases x <;> rfl, fun b _ => bk_more s 1 b⟩) (fun _ _ _ _ _ => rfl) (g.sim (Sim.more s 1)) ?_ (by simp) fun a' w' ρ' g' => ?_
    · rw [bk_more]
      unfold St.bk
      rw [List.getD_eq_getElem?_getD, List.getElem?_eq_none (Nat.le_refl _)]; rfl
    · exact regA_sound hk.out (g'.simBack app2_sim)
end
end Go.Proofs.Ytanpamcecaoanaa

/-
  Statements of the machine without memory whose order is open: whatever the order, they come to the same. No program is named here.
-/
namespace Go.Proofs.Ytanpamcecaoanaa
set_option maxRecDepth 100000
open Go.RowKit
set_option linter.unusedVariables false
set_option linter.unusedSimpArgs false

structure RecD where
  s : St
  fr : Nat
  t : T
  blk : Option (Nat × Bk)

def opRefs (s : St) (o : Oper) : List Nat := o.op.operands.toList.flatMap fun x => seen o (s.ev x)
def isAlloc (o : Oper) : Bool :=
  match o.op with
  | .alloc _ | .box _ _ | .buildSlice _ _ _ | .makeSlice _ _ _ | .convert _ _ _ | .call _ | .makeMap _ _ => true
  | _ => false
abbrev Foot := List Nat × Option Nat × Nat
def regD (E : EnvX) (ops : List Oper) (n0 tot : Nat) : List Oper → Nat → St → List Foot → (List Foot → St → Prop) → Prop
  | [], c, s, acc, k => k acc s
  | o :: r, c, s, acc, k =>
    stepK E ops o s (if isAlloc o = true then n0 + c else n0 + tot) fun t blk =>
      StopD (regD E ops n0 tot r (if isAlloc o = true then c + 1 else c) (s.app o.dst t blk) (acc ++ [(opRefs s o, blk.map (·.1), if isAlloc o = true then n0 + c else n0 + tot)]) k)

section
variable {E : EnvX} {S : Nat → Prop} {base : Nat} {w0 : W0 E.G}

def ChainOK (E : EnvX) (ops : List Oper) : List Oper → List RecD → St → Prop
  | [], [], s => True
  | o :: r, x :: xs, s => x.s = s ∧ StepOK E ops o s x.fr x.t x.blk ∧ ChainOK E ops r xs (s.app o.dst x.t x.blk)
  | _, _, _ => False
def foot : List Oper → List RecD → List Foot
  | o :: r, x :: xs => (opRefs x.s o, x.blk.map (·.1), x.fr) :: foot r xs
  | _, _ => []
def runS : St → List Oper → List RecD → St
  | s, o :: r, x :: xs => runS (s.app o.dst x.t x.blk) r xs
  | s, _, _ => s
theorem regD_chain {ops : List Oper} {n0 tot : Nat} : ∀ {r : List Oper} {c : Nat} {s : St} {acc : List Foot} {k : List Foot → St → Prop}, regD E ops n0 tot r c s acc k →
    ∃ recs, recs.length = r.length ∧ k (acc ++ foot r recs) (runS s r recs) ∧ ChainOK E ops r recs s
  | [], c, s, acc, k, h => ⟨[], rfl, by unfold regD at h; simpa [foot, runS] using h, trivial⟩
  | o :: r, c, s, acc, k, h => by
    obtain ⟨t, blk, hk, hs⟩ := stepK_sound h
    obtain ⟨recs, h1, h2, h3⟩ := regD_chain hk.out
    exact ⟨⟨s, _, t, blk⟩ :: recs, by simp [h1], by rw [List.append_assoc, List.singleton_append] at h2; exact h2, rfl, hs, h3⟩

/-- the state of those operations that are done -/
def runP (s0 : St) (l : List Oper) (recs : List RecD) (p : Nat → Bool) : Nat → St
  | 0 => s0
  | i + 1 => match l[i]?, recs[i]? with
    | some o, some x => if p i = true then (runP s0 l recs p i).app o.dst x.t x.blk else runP s0 l recs p i
    | _, _ => runP s0 l recs p i
theorem runP_shift (s0 : St) (o : Oper) (l : List Oper) (x : RecD) (recs : List RecD) : ∀ i, runP s0 (o :: l) (x :: recs) (fun _ => true) (i + 1) = runP (s0.app o.dst x.t x.blk) l recs (fun _ => true) i
  | 0 => by simp [runP]
  | i + 1 => by
    have ih := runP_shift s0 o l x recs i
    rw [runP, ih, runP]
    simp only [List.getElem?_cons_succ]
theorem chain_at {ops : List Oper} : ∀ {l : List Oper} {recs : List RecD} {s0 : St}, ChainOK E ops l recs s0 → ∀ {i : Nat} {o : Oper} {x : RecD}, l[i]? = some o → recs[i]? = some x →
    x.s = runP s0 l recs (fun _ => true) i ∧ StepOK E ops o x.s x.fr x.t x.blk
  | [], [], s0, h, i, o, x, ho, hx => by simp at ho
  | o' :: l, x' :: recs, s0, h, 0, o, x, ho, hx => by
    simp at ho hx; subst ho; subst hx
    obtain ⟨h1, h2, h3⟩ := h
    exact ⟨h1, by rw [h1]; exact h2⟩
  | o' :: l, x' :: recs, s0, h, i + 1, o, x, ho, hx => by
    obtain ⟨h1, h2, h3⟩ := h
    rw [runP_shift]
    exact chain_at h3 (by simpa using ho) (by simpa using hx)
  | [], _ :: _, s0, h, _, _, _, _, _ => h.elim
  | _ :: _, [], s0, h, _, _, _, _, _ => h.elim
theorem runS_runP : ∀ {l : List Oper} {recs : List RecD} {s0 : St}, recs.length = l.length → runS s0 l recs = runP s0 l recs (fun _ => true) l.length
  | [], recs, s0, h => by cases recs <;> rfl
  | o :: l, [], s0, h => by simp at h
  | o :: l, x :: recs, s0, h => by
    rw [runS, runS_runP (by simpa using h), List.length_cons, runP_shift]
theorem foot_at : ∀ {l : List Oper} {recs : List RecD} {i : Nat} {o : Oper} {x : RecD}, l[i]? = some o → recs[i]? = some x → (foot l recs)[i]? = some (opRefs x.s o, x.blk.map (·.1), x.fr)
  | o' :: l, x' :: recs, 0, o, x, ho, hx => by simp at ho hx; subst ho; subst hx; rfl
  | o' :: l, x' :: recs, i + 1, o, x, ho, hx => by simpa [foot] using foot_at (l := l) (recs := recs) (i := i) (by simpa using ho) (by simpa using hx)
  | [], _, _, _, _, ho, _ => by simp at ho
  | _ :: _, [], _, _, _, _, hx => by simp at hx
theorem foot_len : ∀ {l : List Oper} {recs : List RecD}, recs.length = l.length → (foot l recs).length = l.length
  | [], recs, h => by cases recs <;> rfl
  | o :: l, [], h => by simp at h
  | o :: l, x :: recs, h => by simp [foot, foot_len (l := l) (recs := recs) (by simpa using h)]

section
variable {s0 : St} {l : List Oper} {recs : List RecD} {p q : Nat → Bool}

theorem runP_lens : ∀ i, (runP s0 l recs p i).t.length = s0.t.length ∧ (runP s0 l recs p i).h.length = s0.h.length
  | 0 => ⟨rfl, rfl⟩
  | i + 1 => by
    have ih := runP_lens i
    rw [runP]
    split
    · split
      · exact ⟨(app_lens _ _ _ _).1.trans ih.1, (app_lens _ _ _ _).2.trans ih.2⟩
      · exact ih
    · exact ih
theorem runP_slNone (t : Nat) (m : Nat) : ∀ n, m ≤ n → (∀ j o, m ≤ j → j < n → l[j]? = some o → p j = true → o.dst ≠ some t) → (runP s0 l recs p n).sl t = (runP s0 l recs p m).sl t
  | 0, h, _ => by rw [Nat.le_zero.1 h]
  | n + 1, h, hj => by
    by_cases hm : m = n + 1
    · rw [hm]
    have ih := runP_slNone t m n (by omega) (fun j o h1 h2 => hj j o h1 (by omega))
    rw [runP]
    split
    · next o x ho hx =>
      split
      · next hp => rw [app_sl, if_neg (fun e => hj n o (by omega) (by omega) ho hp e.1)]; exact ih
      · exact ih
    · exact ih
theorem runP_slSame (t : Nat) : ∀ n, (∀ j o, j < n → l[j]? = some o → o.dst = some t → p j = q j) → (runP s0 l recs p n).sl t = (runP s0 l recs q n).sl t
  | 0, _ => rfl
  | n + 1, hj => by
    have ih := runP_slSame t n (fun j o h1 => hj j o (by omega))
    rw [runP, runP]
    split
    · next o x ho hx =>
      by_cases hd : o.dst = some t
      · rw [hj n o (by omega) ho hd]
        split
        · rw [app_sl, app_sl, (runP_lens n).1, (runP_lens n).1, ih]
        · exact ih
      · have e : ∀ s : St, (s.app o.dst x.t x.blk).sl t = s.sl t := fun s => by rw [app_sl, if_neg (fun e => hd e.1)]
        split <;> split <;> simp only [e, ih]
    · exact ih
theorem runP_bkNone (b : Nat) (m : Nat) : ∀ n, m ≤ n → (∀ j x, m ≤ j → j < n → recs[j]? = some x → p j = true → x.blk.map (·.1) ≠ some b) → (runP s0 l recs p n).bk b = (runP s0 l recs p m).bk b
  | 0, h, _ => by rw [Nat.le_zero.1 h]
  | n + 1, h, hj => by
    by_cases hm : m = n + 1
    · rw [hm]
    have ih := runP_bkNone b m n (by omega) (fun j o h1 h2 => hj j o h1 (by omega))
    rw [runP]
    split
    · next o x ho hx =>
      split
      · next hp =>
        have h1 := hj n x (by omega) (by omega) hx hp
        rw [app_bk]
        cases hb : x.blk with
        | none => exact ih
        | some y =>
          obtain ⟨b0, z⟩ := y
          rw [hb] at h1
          simp only [Option.map_some, ne_eq, Option.some.injEq] at h1
          simp only
          rw [if_neg (fun e => h1 e.1)]; exact ih
      · exact ih
    · exact ih
theorem runP_bkSame (b : Nat) : ∀ n, (∀ j x, j < n → recs[j]? = some x → x.blk.map (·.1) = some b → p j = q j) → (runP s0 l recs p n).bk b = (runP s0 l recs q n).bk b
  | 0, _ => rfl
  | n + 1, hj => by
    have ih := runP_bkSame b n (fun j o h1 => hj j o (by omega))
    rw [runP, runP]
    split
    · next o x ho hx =>
      by_cases hd : x.blk.map (·.1) = some b
      · rw [hj n x (by omega) hx hd]
        split
        · rw [app_bk, app_bk, (runP_lens n).2, (runP_lens n).2, ih]
        · exact ih
      · have e : ∀ s : St, (s.app o.dst x.t x.blk).bk b = s.bk b := fun s => by
          rw [app_bk]
          cases hb : x.blk with
          | none => rfl
          | some y =>
            obtain ⟨b0, z⟩ := y
            rw [hb] at hd
            simp only [Option.map_some, Option.some.injEq] at hd
            simp only
            rw [if_neg (fun e => hd e.1)]
        split <;> split <;> simp only [e, ih]
    · exact ih
theorem runP_all (h : ∀ j, j < l.length → p j = true) : ∀ n, n ≤ l.length → runP s0 l recs p n = runP s0 l recs (fun _ => true) n
  | 0, _ => rfl
  | n + 1, hn => by
    have ih := runP_all h n (by omega)
    rw [runP, runP, ih, h n (by omega)]

/-- one operation more is done -/
theorem runP_more {i : Nat} {o : Oper} {x : RecD} (ho : l[i]? = some o) (hx : recs[i]? = some x) (hq : ∀ j, q j = (if j = i then true else p j)) (hi : p i = false)
    (hd : ∀ j o', j ≠ i → l[j]? = some o' → ∀ t, o'.dst = some t → o.dst ≠ some t) (hb : ∀ j y, i < j → recs[j]? = some y → p j = true → ∀ b, y.blk.map (·.1) = some b → x.blk.map (·.1) ≠ some b) (n : Nat) (hn : i < n) :
    Sim ((runP s0 l recs p n).app o.dst x.t x.blk) (runP s0 l recs q n) := by
  refine ⟨by rw [(app_lens _ _ _ _).1, (runP_lens n).1, (runP_lens n).1], by rw [(app_lens _ _ _ _).2, (runP_lens n).2, (runP_lens n).2]; exact Nat.le_refl _, fun t => ?_, fun b => ?_⟩
  · rw [app_sl, (runP_lens n).1]
    have below : (runP s0 l recs q i).sl t = (runP s0 l recs p i).sl t := runP_slSame t i (fun j o' hj _ _ => by rw [hq, if_neg (by omega)])
    have succ : (runP s0 l recs q (i + 1)).sl t = if o.dst = some t ∧ t < s0.t.length then x.t else (runP s0 l recs p i).sl t := by
      rw [runP, ho, hx]
      simp only
      rw [hq, if_pos rfl, if_pos rfl, app_sl, (runP_lens i).1, below]
    by_cases hdt : o.dst = some t
    · have no : ∀ j o', i + 1 ≤ j → j < n → l[j]? = some o' → o'.dst ≠ some t := fun j o' h1 h2 h3 h4 => hd j o' (by omega) h3 t h4 hdt
      rw [runP_slNone t (i + 1) n (by omega) (fun j o' h1 h2 h3 _ => no j o' h1 h2 h3), succ]
      have : (runP s0 l recs p n).sl t = (runP s0 l recs p i).sl t := runP_slNone t i n (by omega) (fun j o' h1 h2 h3 h4 => by
        by_cases hji : j = i
        · subst hji; rw [hi] at h4; cases h4
        · exact no j o' (by omega) h2 h3)
      rw [this]
    · rw [if_neg (fun e => hdt e.1)]
      exact runP_slSame t n (fun j o' h1 h2 h3 => by
        rw [hq]
        by_cases hji : j = i
        · subst hji; rw [ho] at h2; cases h2; exact absurd h3 hdt
        · rw [if_neg hji])
  · rw [app_bk, (runP_lens n).2]
    have below : (runP s0 l recs q i).bk b = (runP s0 l recs p i).bk b := runP_bkSame b i (fun j o' hj _ _ => by rw [hq, if_neg (by omega)])
    by_cases hbt : x.blk.map (·.1) = some b
    · have no : ∀ j y, i + 1 ≤ j → j < n → recs[j]? = some y → p j = true → y.blk.map (·.1) ≠ some b := fun j y h1 h2 h3 h4 h5 => hb j y (by omega) h3 h4 b h5 hbt
      rw [runP_bkNone b (i + 1) n (by omega) (fun j y h1 h2 h3 h4 => no j y h1 h2 h3 (by rw [hq, if_neg (by omega)] at h4; exact h4))]
      rw [runP, ho, hx]
      simp only
      rw [hq, if_pos rfl, if_pos rfl, app_bk, (runP_lens i).2, below]
      have : (runP s0 l recs p n).bk b = (runP s0 l recs p i).bk b := runP_bkNone b i n (by omega) (fun j y h1 h2 h3 h4 => by
        by_cases hji : j = i
        · subst hji; rw [hi] at h4; cases h4
        · exact no j y (by omega) h2 h3 h4)
      rw [this]
    · have e1 : (runP s0 l recs q n).bk b = (runP s0 l recs p n).bk b := runP_bkSame b n (fun j y h1 h2 h3 => by
        rw [hq]
        by_cases hji : j = i
        · subst hji; rw [hx] at h2; cases h2; exact absurd h3 hbt
        · rw [if_neg hji])
      rw [e1]
      cases hb2 : x.blk with
      | none => rfl
      | some y =>
        obtain ⟨b0, z⟩ := y
        rw [hb2] at hbt
        simp only [Option.map_some, Option.some.injEq] at hbt
        simp only
        rw [if_neg (fun e => hbt e.1)]
end

/-- what an operation writes among blocks -/
def wrF (dummy : Nat) (f : Foot) : List Nat := f.2.1.toList ++ (if f.2.2 = dummy then [] else [f.2.2])
/-- whichever operations touch the same blocks have their order -/
def chkB (D : List (List Nat)) (n0 dummy : Nat) (acc : List Foot) : Bool :=
  (acc.all fun (f : Foot) => f.2.1 != some dummy && decide (n0 ≤ f.2.2) && decide (f.2.2 ≤ dummy)) &&
  (List.range acc.length).all fun i => (List.range acc.length).all fun j => i == j ||
    (match acc[i]?, acc[j]? with
     | some f, some g => (((wrF dummy f).all fun b => !(g.1 ++ wrF dummy g).contains b) || (D.getD j []).contains i || (D.getD i []).contains j) && (decide (i < j) || f.2.2 == dummy || g.2.1 != some f.2.2)
     | _, _ => false)
structure ChkB (D : List (List Nat)) (n0 dummy : Nat) (acc : List Foot) : Prop where
  one : ∀ (i : Nat) (f : Foot), acc[i]? = some f → f.2.1 ≠ some dummy ∧ n0 ≤ f.2.2 ∧ f.2.2 ≤ dummy
  two : ∀ (i j : Nat) (f g : Foot), i ≠ j → acc[i]? = some f → acc[j]? = some g → ((∀ b ∈ wrF dummy f, b ∉ g.1 ++ wrF dummy g) ∨ i ∈ D.getD j [] ∨ j ∈ D.getD i []) ∧ (i < j ∨ f.2.2 = dummy ∨ g.2.1 ≠ some f.2.2)
theorem chkB_spec {D : List (List Nat)} {n0 dummy : Nat} {acc : List Foot} (h : chkB D n0 dummy acc = true) : ChkB D n0 dummy acc := by
  unfold chkB at h
  simp only [Bool.and_eq_true, List.all_eq_true, List.mem_range, Bool.or_eq_true, beq_iff_eq, bne_iff_ne, decide_eq_true_eq] at h
  obtain ⟨h1, h2⟩ := h
  refine ⟨fun i f hf => ?_, fun i j f g hij hf hg => ?_⟩
  · have := h1 f (List.mem_of_getElem? hf)
    exact ⟨this.1.1, this.1.2, this.2⟩
  · have h3 := h2 i (List.getElem?_eq_some_iff.1 hf).1 j (List.getElem?_eq_some_iff.1 hg).1
    rcases h3 with h3 | h3
    · exact absurd h3 hij
    · rw [hf, hg] at h3
      simp only [Bool.and_eq_true, List.all_eq_true, Bool.or_eq_true, beq_iff_eq, bne_iff_ne, decide_eq_true_eq, Bool.not_eq_true', List.contains_iff_mem] at h3
      obtain ⟨h4, h5⟩ := h3
      refine ⟨?_, ?_⟩
      · rcases h4 with (h4 | h4) | h4
        · exact .inl fun b hb hm => by
            have := h4 b hb
            rw [← Bool.not_eq_true, List.contains_iff_mem] at this
            exact this hm
        · exact .inr (.inl h4)
        · exact .inr (.inr h4)
      · rcases h5 with (h5 | h5) | h5
        · exact .inl h5
        · exact .inr (.inl h5)
        · exact .inr (.inr h5)

theorem drawn {l : List Oper} {D : List (List Nat)} {recs : List RecD} {s0 : St} {n0 dummy : Nat} {Q : Exit → Act → World → Prop} (hrl : recs.length = l.length) (hch : ChainOK E l l recs s0) (hall : ∀ (i : Nat) (o : Oper), l[i]? = some o → Fits l D i o)
    (hck : ChkB D n0 dummy (foot l recs)) (hdl : dummy < s0.h.length) (hno : ∀ b, n0 ≤ b → s0.bk b = none)
    (hQ : ∀ ρ a w, Good S base w0 (runP s0 l recs (fun _ => true) l.length) ρ a w → Q .normal a w) :
    ∀ (fuel : Nat) (listed : Array Bool) (ρ : Nat → Option Value) (a : Act) (w : World), listed.size = l.length → (∀ i, listed.getD i false = true → ∀ j ∈ D.getD i [], listed.getD j false = true) →
      Good S base w0 (runP s0 l recs (fun i => listed.getD i false) l.length) ρ a w → ((List.range l.length).filter fun i => !listed.getD i false).length ≤ fuel → wpAny E.P .any l.toArray Q fuel listed a w := by
  have full : ∀ (listed : Array Bool) (ρ : Nat → Option Value) (a : Act) (w : World), Good S base w0 (runP s0 l recs (fun i => listed.getD i false) l.length) ρ a w → (∀ i, i < l.length → listed.getD i false = true) → Q .normal a w := by
    intro listed ρ a w g hl
    refine hQ ρ a w ?_
    rw [runP_all hl l.length (Nat.le_refl _)] at g; exact g
  have least : ∀ (listed : Array Bool), Region.ready .any l.toArray listed = [] → listed.size = l.length → ∀ i, i < l.length → listed.getD i false = true := by
    intro listed hr hsz i
    induction i using Nat.strongRecOn with
    | ind i ih =>
      intro hi
      rcases hb : listed.getD i false with _ | _
      · exfalso
        have hrd : i ∈ Region.ready .any l.toArray listed := by
          rw [mem_ready]
          refine ⟨?_, l[i], by simp [hi], fun e he hbe => ?_⟩
          · have : i < listed.size := by omega
            simp [this] at hb ⊢; exact hb
          · have h1 := (hall i l[i] (List.getElem?_eq_getElem hi)).aft e he hbe
            exact ih e.on h1 (by omega)
        rw [hr] at hrd; cases hrd
      · rfl
  intro fuel
  induction fuel with
  | zero =>
    intro listed ρ a w hsz hcl g hf
    have hl : ∀ i, i < l.length → listed.getD i false = true := by
      intro i hi
      rcases hb : listed.getD i false with _ | _
      · have : i ∈ (List.range l.length).filter fun i => !listed.getD i false := List.mem_filter.2 ⟨List.mem_range.2 hi, by rw [hb]; rfl⟩
        rw [List.length_eq_zero_iff.1 (Nat.le_zero.1 hf)] at this; cases this
      · rfl
    refine ⟨?_, full listed ρ a w g hl⟩
    apply List.eq_nil_iff_forall_not_mem.2
    intro i hi
    obtain ⟨h0, o, ho, _⟩ := mem_ready.1 hi
    have hil : i < l.length := by have := (Array.getElem?_eq_some_iff.1 ho).1; simpa using this
    have h1 := hl i hil
    have : i < listed.size := by omega
    simp [this] at h0 h1
    rw [h0] at h1; cases h1
  | succ fuel ih =>
    intro listed ρ a w hsz hcl g hf
    refine ⟨fun hr => full listed ρ a w g (least listed hr hsz), fun i hi => ?_⟩
    obtain ⟨h0, o, ho, haft⟩ := mem_ready.1 hi
    have hol : l[i]? = some o := by simpa using ho
    have hil : i < l.length := (List.getElem?_eq_some_iff.1 hol).1
    have hif : listed.getD i false = false := by
      have : i < listed.size := by omega
      simp [this] at h0 ⊢; exact h0
    have F := hall i o hol
    have hD : ∀ j ∈ D.getD i [], listed.getD j false = true := by
      intro j hj
      rcases F.dep j hj with ⟨e, he, hb, rfl⟩ | ⟨e, he, hb, h⟩
      · exact haft e he hb
      · exact hcl e.on (haft e he hb) j h
    obtain ⟨x, hx⟩ : ∃ x, recs[i]? = some x := ⟨_, List.getElem?_eq_getElem (by omega)⟩
    obtain ⟨hxs, hst⟩ := chain_at hch hol hx
    have hfi := foot_at hol hx
    -- who is done is no one that waits for i
    have nodone : ∀ j, listed.getD j false = true → i ∉ D.getD j [] := fun j hj hm => by
      have := hcl j hj i hm; rw [hif] at this; cases this
    have lt : ∀ j, j ∈ D.getD i [] → j < i := F.lt
    have recAt : ∀ j, j < l.length → ∃ o' y, l[j]? = some o' ∧ recs[j]? = some y := fun j hj => ⟨_, _, List.getElem?_eq_getElem hj, List.getElem?_eq_getElem (by omega)⟩
    have recOf : ∀ j (y : RecD), recs[j]? = some y → ∃ o', l[j]? = some o' := fun j y hy => ⟨_, List.getElem?_eq_getElem (by have := (List.getElem?_eq_some_iff.1 hy).1; omega)⟩
    have gtD : ∀ j o', l[j]? = some o' → i ∈ D.getD j [] → i < j := fun j o' hj => (hall j o' hj).lt i
    have slots : ∀ t, t ∈ o.looksAt l.toArray → (runP s0 l recs (fun k => listed.getD k false) l.length).sl t = x.s.sl t := by
      intro t ht
      rw [hxs]
      refine (runP_slNone t i l.length (by omega) (fun j o' h1 h2 h3 h4 h5 => ?_)).trans (runP_slSame t i (fun j o' h1 h2 h3 => ?_))
      · by_cases hji : j = i
        · subst hji; simp only [hif] at h4; cases h4
        · rcases F.clean j t hji (by unfold dstOf; rw [h3]; exact h5) ht with h | h
          · have := lt j h; omega
          · exact nodone j h4 h
      · rcases F.clean j t (by omega) (by unfold dstOf; rw [h2]; exact h3) ht with h | h
        · exact hD j h
        · have := gtD j o' h2 h; omega
    have blocks : ∀ b, b ∈ opRefs x.s o → (runP s0 l recs (fun k => listed.getD k false) l.length).bk b = x.s.bk b := by
      intro b hb
      rw [hxs]
      have key : ∀ j y, j ≠ i → recs[j]? = some y → y.blk.map (·.1) = some b → j ∈ D.getD i [] ∨ i ∈ D.getD j [] := by
        intro j y hji hy hyb
        obtain ⟨o', ho'⟩ := recOf j y hy
        have := (hck.two j i _ _ hji (foot_at ho' hy) hfi).1
        rcases this with h | h | h
        · exact absurd (List.mem_append_left _ hb) (h b (List.mem_append_left _ (by simp [hyb])))
        · exact .inl h
        · exact .inr h
      refine (runP_bkNone b i l.length (by omega) (fun j y h1 h2 h3 h4 h5 => ?_)).trans (runP_bkSame b i (fun j y h1 h2 h3 => ?_))
      · by_cases hji : j = i
        · subst hji; simp only [hif] at h4; cases h4
        · rcases key j y hji h3 h5 with h | h
          · have := lt j h; omega
          · exact nodone j h4 h
      · obtain ⟨o', ho'⟩ := recOf j y h2
        rcases key j y (by omega) h2 h3 with h | h
        · exact hD j h
        · have := gtD j o' ho' h; omega
    have hfr : (runP s0 l recs (fun k => listed.getD k false) l.length).bk x.fr = none := by
      have h1 := hck.one i _ hfi
      have : (runP s0 l recs (fun k => listed.getD k false) l.length).bk x.fr = (runP s0 l recs (fun k => listed.getD k false) 0).bk x.fr := by
        refine runP_bkNone x.fr 0 l.length (Nat.zero_le _) (fun j y _ h2 h3 h4 h5 => ?_)
        obtain ⟨o', ho'⟩ := recOf j y h3
        by_cases hji : j = i
        · subst hji; simp only [hif] at h4; cases h4
        by_cases hdm : x.fr = dummy
        · have := (hck.one j _ (foot_at ho' h3)).1
          rw [hdm] at h5; exact this h5
        · have h6 := hck.two i j _ _ (Ne.symm hji) hfi (foot_at ho' h3)
          rcases h6.1 with h | h | h
          · refine h x.fr (List.mem_append_right _ (by simp [hdm])) (List.mem_append_right _ (List.mem_append_left _ ?_))
            simp [h5]
          · exact nodone j h4 h
          · have := lt j h
            rcases h6.2 with h7 | h7 | h7
            · omega
            · exact hdm h7
            · exact h7 h5
      rw [this]
      exact hno _ h1.2.1
    have hcount : ((List.range l.length).filter fun j => !(listed.setIfInBounds i true).getD j false).length ≤ fuel := by
      have := filter_fewer (p := fun j => !listed.getD j false) (q := fun j => !(listed.setIfInBounds i true).getD j false) (fun j hj => by
        rcases hb : listed.getD j false with _ | _
        · rfl
        · rw [getD_set_true hb] at hj; cases hj) (i := i) (by rw [hif]; rfl) (by
        have : i < listed.size := by omega
        simp [this]) (List.range l.length) (List.mem_range.2 hil)
      omega
    unfold wpOp
    rw [ho]
    simp only
    refine hst.run (s' := runP s0 l recs (fun k => listed.getD k false) l.length) (fun y hy => ⟨?_, fun b hb => ?_⟩) (fun j want d hg hd => ?_) g hfr ?_ (fun a' w' ρ' g' => ?_)
    · cases y with
      | tmp t => exact slots t (List.mem_append_left _ (List.mem_filterMap.2 ⟨.tmp t, by simpa using hy, rfl⟩))
      | _ => rfl
    · exact blocks b (List.mem_flatMap.2 ⟨y, by simpa using hy, hb⟩)
    · refine slots d (List.mem_append_right _ ?_)
      rw [hg]
      simp only [List.getElem?_toArray, hd]
      simp
    · rw [(runP_lens _).2]
      exact Nat.lt_of_le_of_lt (hck.one i _ hfi).2.2 hdl
    · refine ih _ ρ' a' w' (by simp [hsz]) ?_ ?_ hcount
      · intro j hj k hk
        by_cases hji : j = i
        · subst hji; exact getD_set_true (hD k hk)
        · rw [getD_set_ne false (Ne.symm hji)] at hj
          exact getD_set_true (hcl j hj k hk)
      · refine g'.sim (runP_more hol hx (fun j => ?_) hif (fun j o' hji hj t ht => ?_) (fun j y hij hy hp b hb hxb => ?_) l.length hil)
        · by_cases hji : j = i
          · subst hji
            have : j < listed.size := by omega
            simp [this]
          · rw [getD_set_ne false (Ne.symm hji), if_neg hji]
        · have := F.one j t hji (by unfold dstOf; rw [hj]; exact ht)
          unfold dstOf at this
          rw [hol] at this; exact this
        · obtain ⟨o', ho'⟩ := recOf j y hy
          have h6 := (hck.two i j _ _ (by omega) hfi (foot_at ho' hy)).1
          rcases h6 with h | h | h
          · exact h b (List.mem_append_left _ (by simp [hxb])) (List.mem_append_right _ (List.mem_append_left _ (by simp [hb])))
          · exact nodone j hp h
          · have := lt j h; omega
end
end Go.Proofs.Ytanpamcecaoanaa

/-
  The machine without memory: code, loops, functions. No program is named here.
-/
namespace Go.Proofs.Ytanpamcecaoanaa
set_option maxRecDepth 100000
open Go.RowKit
set_option linter.unusedVariables false
set_option linter.unusedSimpArgs false

/-- what each operation waits for -/
def depsL (l : List Oper) : List (List Nat) :=
  l.foldl (fun D o => D ++ [((o.after.toList.filter (Region.binds .any)).flatMap fun e => e.on :: D.getD e.on []).eraseDups]) []
def trimH : List (Option Bk) → List (Option Bk)
  | [] => []
  | x :: l => match x, trimH l with
    | none, [] => []
    | x, l' => x :: l'
theorem trimH_bk : ∀ (h : List (Option Bk)) (b : Nat), (trimH h).getD b none = h.getD b none
  | [], b => rfl
  | x :: l, b => by
    have ih := trimH_bk l
    unfold trimH
    split
    · next h2 =>
      cases b with
      | zero => rfl
      | succ b => have := ih b; rw [h2] at this; simpa using this
    · cases b with
      | zero => rfl
      | succ b => simpa using ih b
theorem trimH_len : ∀ (h : List (Option Bk)), (trimH h).length ≤ h.length
  | [] => Nat.le_refl _
  | x :: l => by
    have ih := trimH_len l
    unfold trimH
    split
    · simp
    · simp; exact ih
def cntAlloc : List Oper → Nat
  | [] => 0
  | o :: l => (if isAlloc o = true then 1 else 0) + cntAlloc l
def tabOK (l : List Oper) : Bool := okTab l (depsL l) && Region.noSelect l.toArray
def regDr (E : EnvX) (l : List Oper) (s : St) (k : St → Prop) : Prop :=
  tabOK l = true ∧ regD E l s.h.length (cntAlloc l) l 0 ⟨s.t, s.h ++ List.replicate (cntAlloc l + 1) none⟩ [] fun acc s' =>
    chkB (depsL l) s.h.length (s.h.length + cntAlloc l) acc = true ∧ k ⟨s'.t, trimH s'.h⟩

def intAt (s : St) (i : Nat) : Nat := match s.sl i with | .d (.v (.int _ z)) => z.toNat | _ => 0
/-- a state of which only some slots and the first blocks are kept -/
def keepT (live : List Nat) : Nat → List T → List T
  | _, [] => []
  | i, t :: l => (if live.contains i = true then t else .dead) :: keepT live (i + 1) l
def weaken (live : List Nat) (m : Nat) (s : St) : St := ⟨keepT live 0 s.t, s.h.take m⟩
def liveOK (live : List Nat) (m : Nat) (s : St) : Prop := live.all (fun i => (s.sl i).refs.all fun b => decide (b < m)) = true
/-- so many rounds at most -/
def LoopU (body : St → (Exit → St → Prop) → Prop) (k : Exit → St → Prop) : Nat → St → Prop
  | 0, _ => False
  | n + 1, s => body s fun e s' => match e with | .normal => LoopU body k n s' | e => k e s'
/-- a state may be taken for another one -/
structure Ent (s s' : St) : Prop where
  out : ∀ (G : Nat → Option (List Seg)) (S : Nat → Prop) (base : Nat) (w0 : W0 G) (ρ : Nat → Option Value) (a : Act) (w : World), Good S base w0 s ρ a w → ∃ ρ', Good S base w0 s' ρ' a w
theorem Ent.refl (s : St) : Ent s s := ⟨fun G S base w0 ρ a w g => ⟨ρ, g⟩⟩
theorem Ent.trans {s s' s'' : St} (h : Ent s s') (k : Ent s' s'') : Ent s s'' := ⟨fun G S base w0 ρ a w g => by
  obtain ⟨ρ1, g1⟩ := h.out G S base w0 ρ a w g
  exact k.out G S base w0 ρ1 a w g1⟩
def LoopA (body : St → (Exit → St → Prop) → Prop) (s0 : St) (k : Exit → St → Prop) : Prop :=
  (∃ n, LoopU body k n s0) ∨ ∃ (s : St) (live : List Nat) (m : Nat) (I : St → Prop) (μ : St → Nat), Ent s0 s ∧ 0 < m ∧ liveOK live m s ∧ I (weaken live m s) ∧
    ∀ s, I s → body s fun e s' => match e with | .normal => liveOK live m s' ∧ I (weaken live m s') ∧ μ (weaken live m s') < μ s | e => k e s'
/-- a round is done: its state may be taken for one that the loop knows -/
structure RoundI (I : St → Prop) (μ : St → Nat) (n : Nat) (s' : St) : Prop where
  out : ∃ s'', Ent s' s'' ∧ I s'' ∧ μ s'' < n
/-- a loop told by states for which others may be taken -/
def LoopI (body : St → (Exit → St → Prop) → Prop) (s0 : St) (k : Exit → St → Prop) : Prop :=
  ∃ (s : St) (I : St → Prop) (μ : St → Nat), Ent s0 s ∧ I s ∧ ∀ s, I s → body s fun e s' => match e with | .normal => RoundI I μ (μ s) s' | e => k e s'

def wpA (E : EnvX) : Code → St → (Exit → St → Prop) → Prop
  | .skip, s, k => k .normal s
  | .label _, s, k => k .normal s
  | .region _ ops draw, s, k => (match draw with | false => Stop (regA E ops.toList ops.toList s (k .normal)) | true => StopE (regDr E ops.toList s (k .normal)))
  | .seq a b, s, k => wpA E a s fun e s' => match e with | .normal => wpA E b s' k | e => k e s'
  | .cond c a b, s, k => (match s.ev c with | .d (.v (.bool t)) => StopC (condK t (wpA E a s k) (wpA E b s k)) | _ => False)
  | .block id c, s, k => wpA E c s fun e s' => match e with | .exit j => (if j = id then k .normal s' else k (.exit j) s') | e => k e s'
  | .loop c, s, k => StopL (LoopA (fun s k => wpA E c s k) s k ∨ LoopI (fun s k => wpA E c s k) s k)
  | .exit id, s, k => k (.exit id) s
  | .ret, s, k => k .ret s
  | _, _, _ => False

section
variable {E : EnvX} {S : Nat → Prop} {base : Nat} {w0 : W0 E.G}

theorem regDr_sound {l : List Oper} {s : St} {k : St → Prop} {ρ : Nat → Option Value} {a : Act} {w : World} {id : Nat} (h : regDr E l s k) (g : Good S base w0 s ρ a w) :
    (Code.region id l.toArray true).wp E.P (fun e a' w' => e = .normal ∧ ∃ s' ρ', k s' ∧ Good S base w0 s' ρ' a' w') a w := by
  obtain ⟨htab, h⟩ := h
  simp only [tabOK, Bool.and_eq_true] at htab
  obtain ⟨recs, hrl, ⟨hck, hk⟩, hch⟩ := regD_chain h
  rw [List.nil_append] at hck
  have hall : ∀ (i : Nat) (o : Oper), l[i]? = some o → Fits l (depsL l) i o := fun i o ho => okTab_fits htab.1 ho
  have hlen : (⟨s.t, s.h ++ List.replicate (cntAlloc l + 1) none⟩ : St).h.length = s.h.length + cntAlloc l + 1 := by simp; omega
  have gd : Good S base w0 s ρ a { w with drawn := w.drawn + 1 } := (g.grow (w' := { w with drawn := w.drawn + 1 }) ⟨rfl, rfl, rfl, Nat.le_refl _, fun _ _ _ => rfl⟩).1
  refine wp_region_any E.hM ?_
  refine drawn (S := S) (base := base) (w0 := w0) (s0 := ⟨s.t, s.h ++ List.replicate (cntAlloc l + 1) none⟩) hrl hch hall (chkB_spec hck) (by rw [hlen]; omega) (fun b hb => ?_) (fun ρ' a' w' g' => ?_) _ _ ρ _ _ (by simp) ?_ ?_ ?_
  · rw [bk_more]
    unfold St.bk
    rw [List.getD_eq_getElem?_getD, List.getElem?_eq_none hb]; rfl
  · refine ⟨rfl, _, ρ', hk, ?_⟩
    rw [runS_runP hrl]
    exact g'.simBack ⟨rfl, trimH_len _, fun _ => rfl, fun b => (trimH_bk _ b).symm⟩
  · intro i hi; rw [none_listed] at hi; cases hi
  · have : runP ⟨s.t, s.h ++ List.replicate (cntAlloc l + 1) none⟩ l recs (fun i => (Array.replicate l.toArray.size false).getD i false) l.length = ⟨s.t, s.h ++ List.replicate (cntAlloc l + 1) none⟩ := by
      have : ∀ n, runP ⟨s.t, s.h ++ List.replicate (cntAlloc l + 1) none⟩ l recs (fun i => (Array.replicate l.toArray.size false).getD i false) n = ⟨s.t, s.h ++ List.replicate (cntAlloc l + 1) none⟩ := by
        intro n
        induction n with
        | zero => rfl
        | succ n ih =>
          rw [runP]
          split
          · exact (if_neg (by simp only [none_listed]; decide)).trans ih
          · exact ih
      exact this _
    rw [this]
    exact gd.sim (Sim.more s _)
  · refine Nat.le_trans (List.length_filter_le _ _) ?_
    simp

theorem keepT_len (live : List Nat) : ∀ (l : List T) (i : Nat), (keepT live i l).length = l.length
  | [], _ => rfl
  | _ :: l, i => by simp [keepT, keepT_len live l]
theorem keepT_get (live : List Nat) : ∀ (l : List T) (i j : Nat), (keepT live i l).getD j .dead = if live.contains (i + j) = true then l.getD j .dead else .dead
  | [], i, j => by simp [keepT]
  | t :: l, i, 0 => by simp [keepT]
  | t :: l, i, j + 1 => by
    have := keepT_get live l (i + 1) j
    rw [show i + 1 + j = i + (j + 1) by omega] at this
    simpa [keepT] using this
theorem Good.weaken {G : Nat → Option (List Seg)} {S : Nat → Prop} {base : Nat} {w0 : W0 G} {s : St} {ρ : Nat → Option Value} {a : Act} {w : World} (g : Good S base w0 s ρ a w) {live : List Nat} {m : Nat} (hm0 : 0 < m) (h : liveOK live m s) : ∃ ρ', Good S base w0 (weaken live m s) ρ' a w := by
  unfold liveOK at h
  rw [List.all_eq_true] at h
  have hbk : ∀ b, (Go.Proofs.Ytanpamcecaoanaa.weaken live m s).bk b = if b < m then s.bk b else none := by
    intro b
    unfold Go.Proofs.Ytanpamcecaoanaa.weaken St.bk
    simp only [List.getD_eq_getElem?_getD, List.getElem?_take]
    split <;> rfl
  have hsl : ∀ i, (Go.Proofs.Ytanpamcecaoanaa.weaken live m s).sl i = if live.contains i = true then s.sl i else .dead := by
    intro i
    have := keepT_get live s.t 0 i
    rw [Nat.zero_add] at this
    exact this
  let ρ' : Nat → Option Value := fun b => if b < m then ρ b else none
  have hρ : ∀ b u, ρ' b = some u → b < m ∧ ρ b = some u := by
    intro b u hb
    simp only [ρ'] at hb
    split at hb
    · next h1 => exact ⟨h1, hb⟩
    · cases hb
  have hρm : ∀ b, b < m → ρ' b = ρ b := fun b hb => if_pos hb
  have K : Keeps (Dt S base ρ) w (Dt S base ρ') w := ⟨Nat.le_refl _, fun r _ hd => ⟨⟨hd.1, fun b u hb => hd.2 b u (hρ b u hb).2⟩, fun _ => rfl⟩⟩
  refine ⟨ρ', (keepT_len _ _ _).trans g.len, fun i hi => ?_, fun b => ?_, fun i b hb => ?_, fun b b' u u' r h1 h2 => g.inj b b' u u' r (hρ b u h1).2 (hρ b' u' h2).2, fun b u r h1 => g.low b u r (hρ b u h1).2, g.bel, g.glob.up K, (fun q hq => (hρm 0 hm0).trans (g.pin q hq)), g.size, g.defs⟩
  · rw [hsl]
    by_cases hl : live.contains i = true
    · rw [if_pos hl]
      refine RT.up K (fun b hb => hρm b ?_) (g.t i hi)
      have := h i (by simpa using hl)
      rw [List.all_eq_true] at this
      exact of_decide_eq_true (this b hb)
    · rw [if_neg hl]; trivial
  · rw [hbk]
    have hB := g.b b
    by_cases hb : b < m
    · rw [if_pos hb]
      cases hk : s.bk b with
      | none => rw [hk] at hB; exact (hρm b hb).trans hB
      | some x =>
        rw [hk] at hB
        cases x with
        | var l => obtain ⟨r, cs, t, h1, h2, h3, h4⟩ := hB; exact ⟨r, cs, t, (hρm b hb).trans h1, h2, h3, h4.up K⟩
        | sl e sz n l => obtain ⟨u, cs, h1, h2, h3⟩ := hB; exact ⟨u, cs, (hρm b hb).trans h1, h2, h3.up K⟩
        | obj p => obtain ⟨r, cs, t, h1, h2, h3, h4⟩ := hB; exact ⟨r, cs, t, (hρm b hb).trans h1, h2, h3, h4⟩
        | abs p => obtain ⟨r, F, h1, h2, h3⟩ := hB; exact ⟨r, F, (hρm b hb).trans h1, h2, p.up K (fun _ _ => rfl) h3⟩
        | vh l off p e sz n m => obtain ⟨r, cs, t, su, ms, h1, h2, h3, h4, h5, h6, h7, h8⟩ := hB; exact ⟨r, cs, t, su, ms, (hρm b hb).trans h1, h2, h3, h4, h5.up K, h6.up K, h7, h8⟩
        | gone => obtain ⟨n, h1⟩ := hB; exact ⟨n, (hρm b hb).trans h1⟩
        | bx => obtain ⟨h0, q, r, t, h1, h2, h3⟩ := hB; exact ⟨h0, q, r, t, (hρm b hb).trans h1, h2, (hρm 0 hm0).trans h3⟩
    · rw [if_neg hb]
      exact if_neg hb
  · rw [hsl] at hb
    split at hb
    · next hl =>
      have := h i (by simpa using hl)
      rw [List.all_eq_true] at this
      rw [hbk, if_pos (of_decide_eq_true (this b hb))]
      exact g.dang i b hb
    · simp [T.refs] at hb

theorem Ent.weaken {s : St} {live : List Nat} {m : Nat} (hm0 : 0 < m) (h : liveOK live m s) : Ent s (weaken live m s) := ⟨fun G S base w0 ρ a w g => g.weaken hm0 h⟩
/-- cells that are none -/
def segNil : Seg → Bool
  | .ints _ n l => n == 0 && l.isEmpty
  | .bytes n l => n == 0 && l.isEmpty
  | .bools n l => n == 0 && l.isEmpty
  | .gen n l => n == 0 && l.isEmpty
theorem rl_nil {S : Nat → Prop} {w : World} : ∀ {l : List Seg}, l.all segNil = true → RL S w l []
  | [], _ => .nil
  | s :: l, h => by
    simp only [List.all_cons, Bool.and_eq_true] at h
    have r := rl_nil (S := S) (w := w) h.2
    cases s with
    | ints k n zs => simp [segNil] at h; obtain ⟨⟨rfl, rfl⟩, _⟩ := h; exact .ints rfl r
    | bytes n zs => simp [segNil] at h; obtain ⟨⟨rfl, rfl⟩, _⟩ := h; exact .bytes rfl r
    | bools n zs => simp [segNil] at h; obtain ⟨⟨rfl, rfl⟩, _⟩ := h; exact .bools rfl r
    | gen n zs => simp [segNil] at h; obtain ⟨⟨rfl, rfl⟩, _⟩ := h; exact .gen .nil rfl r
/-- nil is a slice of one's own with nothing in it -/
def ownNil (s : St) (i : Nat) (e : TypeId) (sz : Nat) (l : List Seg) : St := ⟨s.t.set i (.own s.h.length 0), s.h ++ [some (.sl e sz 0 l)]⟩
theorem Ent.nil {s : St} {i : Nat} {e : TypeId} {sz : Nat} {l : List Seg} (h : s.sl i = .d (.v (.slice none 0 0))) (hl : l.all segNil = true) : Ent s (ownNil s i e sz l) := .mk fun G S base w0 ρ a w g => by
  have g1 := g.sim (Sim.more s 1)
  have hfr : St.bk ⟨s.t, s.h ++ List.replicate 1 none⟩ s.h.length = none := by
    rw [bk_more]; simp [St.bk]
  have hi : i < a.tmps.size := by
    apply Decidable.byContradiction
    intro hn
    have : s.sl i = .dead := by
      show s.t.getD i .dead = .dead
      rw [List.getD_eq_getElem?_getD, List.getElem?_eq_none (by rw [g.len]; omega)]; rfl
    rw [this] at h; cases h
  have hv := g.t i hi
  rw [h] at hv
  have hv' : a.tmps.getD i undef = .slice none 0 0 := RA.plain hv
  have none' : w.grownBy w none := ⟨rfl, rfl, rfl, Nat.le_refl _, fun _ _ _ => rfl⟩
  have g2 := g1.newSl (fr := s.h.length) hfr (by simp) none' (e := e) (sz := sz) (n := 0) (l := l) (cs := []) (v := .slice none 0 0) (World.ownsRow_nil _ _ _ _) (rl_nil hl) (some i)
  have ha : a.put (some i) (.slice none 0 0) = a := by
    unfold Act.put
    have : a.tmps.setIfInBounds i (.slice none 0 0) = a.tmps := by
      apply Array.ext (by simp)
      intro j h1 h2
      by_cases e : i = j
      · subst e
        rw [Array.getElem_setIfInBounds_self]
        have := hv'
        rw [Array.getD_eq_getD_getElem?, Array.getElem?_eq_getElem hi] at this
        exact this.symm
      · rw [Array.getElem_setIfInBounds_ne h2 e]
    simp only [this]
  rw [ha] at g2
  have e2 : ∀ x, St.app ⟨s.t, s.h ++ List.replicate 1 none⟩ (some i) (.own s.h.length 0) (some (s.h.length, x)) = ⟨s.t.set i (.own s.h.length 0), s.h ++ [some x]⟩ := by
    intro x
    unfold St.app
    simp
  rw [e2] at g2
  exact ⟨_, g2⟩
theorem wpA_sound : ∀ (c : Code) {s : St} {k : Exit → St → Prop} {ρ : Nat → Option Value} {a : Act} {w : World}, wpA E c s k → Good S base w0 s ρ a w →
    c.wp E.P (fun e a' w' => ∃ s' ρ', k e s' ∧ Good S base w0 s' ρ' a' w') a w
  | .skip, s, k, ρ, a, w, h, g => wp_skip ⟨s, ρ, h, g⟩
  | .label l, s, k, ρ, a, w, h, g => wp_label ⟨s, ρ, h, g⟩
  | .region id ops false, s, k, ρ, a, w, h, g => by
    have := regA_sound (w0 := w0) (S := S) (base := base) h.out g
    rw [Array.toArray_toList] at this
    refine wp_mono (wp_region_list this) ?_
    rintro e a' w' ⟨rfl, s', ρ', h1, h2⟩
    exact ⟨s', ρ', h1, h2⟩
  | .region id ops true, s, k, ρ, a, w, h, g => by
    have := regDr_sound (id := id) (w0 := w0) (S := S) (base := base) h.out g
    rw [Array.toArray_toList] at this
    refine wp_mono this ?_
    rintro e a' w' ⟨rfl, s', ρ', h1, h2⟩
    exact ⟨s', ρ', h1, h2⟩
  | .seq x y, s, k, ρ, a, w, h, g => by
    refine wp_seq (wp_mono (wpA_sound x h g) ?_)
    rintro e a' w' ⟨s', ρ', h1, h2⟩
    cases e with
    | normal => exact wpA_sound y h1 h2
    | _ => exact ⟨s', ρ', h1, h2⟩
  | .cond c x y, s, k, ρ, a, w, h, g => by
    unfold wpA at h
    split at h
    · next t hc =>
      have h1 := g.ev c
      rw [hc] at h1
      cases t with
      | true => exact wp_cond (RA.plain h1) (wpA_sound x h.out g)
      | false => exact wp_cond (RA.plain h1) (wpA_sound y h.out g)
    · exact h.elim
  | .block id c, s, k, ρ, a, w, h, g => by
    refine wp_block (wp_mono (wpA_sound c h g) ?_)
    rintro e a' w' ⟨s', ρ', h1, h2⟩
    cases e with
    | exit j =>
      simp only [Exit.inBlock]
      simp only at h1
      split
      · next hj => rw [if_pos hj] at h1; exact ⟨s', ρ', h1, h2⟩
      · next hj => rw [if_neg hj] at h1; exact ⟨s', ρ', h1, h2⟩
    | _ => exact ⟨s', ρ', h1, h2⟩
  | .loop c, s, k, ρ, a, w, h, g => by
    have ih : ∀ {s : St} {k : Exit → St → Prop} {ρ : Nat → Option Value} {a : Act} {w : World}, wpA E c s k → Good S base w0 s ρ a w → c.wp E.P (fun e a' w' => ∃ s' ρ', k e s' ∧ Good S base w0 s' ρ' a' w') a w := fun h g => wpA_sound c h g
    rcases h.out with (⟨n, h⟩ | ⟨s00, live, m, I, μ, hent, h0, h1, h2, h3⟩) | ⟨s00, I, μ, hent, h2, h3⟩
    · have key : ∀ n s ρ a w, LoopU (fun s k => wpA E c s k) k n s → Good S base w0 s ρ a w → ∀ (b : Frame) (kk : List Item) (cs : List Frame), ∃ e a' w', (∃ s' ρ', k e s' ∧ Good S base w0 s' ρ' a' w') ∧ Arrives E.P (lone (b.at a (.code c :: .inLoop c :: kk)) cs w) b kk cs e a' w' := by
        intro n
        induction n with
        | zero => intro s ρ a w h; exact h.elim
        | succ n ihn =>
          intro s ρ a w h hg b kk cs
          obtain ⟨e, a1, w1, ⟨s1, ρ1, hq, hg1⟩, harr⟩ := ih h hg b (.inLoop c :: kk) cs
          cases e with
          | normal =>
            obtain ⟨e2, a2, w2, hq2, harr2⟩ := ihn s1 ρ1 a1 w1 hq hg1 b kk cs
            exact ⟨e2, a2, w2, hq2, .of_steps (Steps.trans harr (.one step_inLoop)) harr2⟩
          | exit id => exact ⟨_, a1, w1, ⟨s1, ρ1, hq, hg1⟩, .pass (x := .inLoop c) rfl (fun _ _ => .inl (by simp)) harr⟩
          | goto l => exact ⟨_, a1, w1, ⟨s1, ρ1, hq, hg1⟩, .pass (x := .inLoop c) rfl (fun _ _ => .inl (by simp)) harr⟩
          | ret => exact ⟨_, a1, w1, ⟨s1, ρ1, hq, hg1⟩, .pass (x := .inLoop c) rfl (fun _ _ => .inl (by simp)) harr⟩
          | panic ch => exact ⟨_, a1, w1, ⟨s1, ρ1, hq, hg1⟩, .pass (x := .inLoop c) rfl (fun _ _ => .inl (by simp)) harr⟩
          | outgrown => exact ⟨_, a1, w1, ⟨s1, ρ1, hq, hg1⟩, .pass (x := .inLoop c) rfl (fun _ _ => .inl (by simp)) harr⟩
      intro b kk cs
      obtain ⟨e, a', w', hq, harr⟩ := key n s ρ a w h g b kk cs
      exact ⟨e, a', w', hq, .of_steps (.one step_loop) harr⟩
    · let G : Nat → Act → World → Prop := fun n a w => ∃ s ρ, I s ∧ Good S base w0 s ρ a w ∧ μ s = n
      have key : ∀ n a w, G n a w → ∀ (b : Frame) (kk : List Item) (cs : List Frame), ∃ e a' w', (∃ s' ρ', k e s' ∧ Good S base w0 s' ρ' a' w') ∧ Arrives E.P (lone (b.at a (.code c :: .inLoop c :: kk)) cs w) b kk cs e a' w' := by
        intro n
        induction n using Nat.strongRecOn with
        | _ n ihn =>
          rintro a w ⟨s, ρ, hI, hg, rfl⟩ b kk cs
          obtain ⟨e, a1, w1, ⟨s1, ρ1, hq, hg1⟩, harr⟩ := ih (h3 s hI) hg b (.inLoop c :: kk) cs
          cases e with
          | normal =>
            obtain ⟨hl, hI1, hlt⟩ := hq
            obtain ⟨ρ2, hg2⟩ := hg1.weaken h0 hl
            obtain ⟨e2, a2, w2, hq2, harr2⟩ := ihn _ hlt a1 w1 ⟨_, ρ2, hI1, hg2, rfl⟩ b kk cs
            exact ⟨e2, a2, w2, hq2, .of_steps (Steps.trans harr (.one step_inLoop)) harr2⟩
          | exit id => exact ⟨_, a1, w1, ⟨s1, ρ1, hq, hg1⟩, .pass (x := .inLoop c) rfl (fun _ _ => .inl (by simp)) harr⟩
          | goto l => exact ⟨_, a1, w1, ⟨s1, ρ1, hq, hg1⟩, .pass (x := .inLoop c) rfl (fun _ _ => .inl (by simp)) harr⟩
          | ret => exact ⟨_, a1, w1, ⟨s1, ρ1, hq, hg1⟩, .pass (x := .inLoop c) rfl (fun _ _ => .inl (by simp)) harr⟩
          | panic ch => exact ⟨_, a1, w1, ⟨s1, ρ1, hq, hg1⟩, .pass (x := .inLoop c) rfl (fun _ _ => .inl (by simp)) harr⟩
          | outgrown => exact ⟨_, a1, w1, ⟨s1, ρ1, hq, hg1⟩, .pass (x := .inLoop c) rfl (fun _ _ => .inl (by simp)) harr⟩
      obtain ⟨ρ00, g00⟩ := hent.out _ _ _ _ _ _ _ g
      obtain ⟨ρ2, hg2⟩ := g00.weaken h0 h1
      intro b kk cs
      obtain ⟨e, a', w', hq, harr⟩ := key _ a w ⟨_, ρ2, h2, hg2, rfl⟩ b kk cs
      exact ⟨e, a', w', hq, .of_steps (.one step_loop) harr⟩
    · let G : Nat → Act → World → Prop := fun n a w => ∃ s ρ, I s ∧ Good S base w0 s ρ a w ∧ μ s = n
      have key : ∀ n a w, G n a w → ∀ (b : Frame) (kk : List Item) (cs : List Frame), ∃ e a' w', (∃ s' ρ', k e s' ∧ Good S base w0 s' ρ' a' w') ∧ Arrives E.P (lone (b.at a (.code c :: .inLoop c :: kk)) cs w) b kk cs e a' w' := by
        intro n
        induction n using Nat.strongRecOn with
        | _ n ihn =>
          rintro a w ⟨s, ρ, hI, hg, rfl⟩ b kk cs
          obtain ⟨e, a1, w1, ⟨s1, ρ1, hq, hg1⟩, harr⟩ := ih (h3 s hI) hg b (.inLoop c :: kk) cs
          cases e with
          | normal =>
            obtain ⟨s2, he2, hI1, hlt⟩ := hq.out
            obtain ⟨ρ2, hg2⟩ := he2.out _ _ _ _ _ _ _ hg1
            obtain ⟨e2, a2, w2, hq2, harr2⟩ := ihn _ hlt a1 w1 ⟨_, ρ2, hI1, hg2, rfl⟩ b kk cs
            exact ⟨e2, a2, w2, hq2, .of_steps (Steps.trans harr (.one step_inLoop)) harr2⟩
          | exit id => exact ⟨_, a1, w1, ⟨s1, ρ1, hq, hg1⟩, .pass (x := .inLoop c) rfl (fun _ _ => .inl (by simp)) harr⟩
          | goto l => exact ⟨_, a1, w1, ⟨s1, ρ1, hq, hg1⟩, .pass (x := .inLoop c) rfl (fun _ _ => .inl (by simp)) harr⟩
          | ret => exact ⟨_, a1, w1, ⟨s1, ρ1, hq, hg1⟩, .pass (x := .inLoop c) rfl (fun _ _ => .inl (by simp)) harr⟩
          | panic ch => exact ⟨_, a1, w1, ⟨s1, ρ1, hq, hg1⟩, .pass (x := .inLoop c) rfl (fun _ _ => .inl (by simp)) harr⟩
          | outgrown => exact ⟨_, a1, w1, ⟨s1, ρ1, hq, hg1⟩, .pass (x := .inLoop c) rfl (fun _ _ => .inl (by simp)) harr⟩
      obtain ⟨ρ00, g00⟩ := hent.out _ _ _ _ _ _ _ g
      intro b kk cs
      obtain ⟨e, a', w', hq, harr⟩ := key _ a w ⟨_, ρ00, h2, g00, rfl⟩ b kk cs
      exact ⟨e, a', w', hq, .of_steps (.one step_loop) harr⟩
  | .exit id, s, k, ρ, a, w, h, g => wp_exit ⟨s, ρ, h, g⟩
  | .ret, s, k, ρ, a, w, h, g => wp_ret ⟨s, ρ, h, g⟩
  | .rangeFunc _ _ _ _, s, k, ρ, a, w, h, g => h.elim
  | .scope _, s, k, ρ, a, w, h, g => h.elim
  | .goto _, s, k, ρ, a, w, h, g => h.elim
  | .refuse _, s, k, ρ, a, w, h, g => h.elim

/-! functions -/
/-- several results: slices of one's own are data from now on -/
def resL (E : EnvX) (s : St) : List ResultVar → (List A → Prop) → Prop
  | [], K => K []
  | .tmp t :: r, K =>
    (match s.sl t with
     | .d a => resL E s r fun l => K (a :: l)
     | .own b n => (match s.bk b with | some (.sl _ _ m l) => n = m ∧ resL E s r fun l' => K (.row n l :: l') | _ => False)
     | .ptr b 0 => (match s.bk b with | some (.var l) => b ≠ 0 ∧ resL E s r fun l' => K (.sref l 0 :: l') | _ => False)
     | _ => False)
  | .cell p ty :: r, K =>
    (match E.Y ty, s.sl p with
     | some i, .ptr b base => (match s.bk b with | some (.var l) => rdK l i.agg i.sz base fun a => resL E s r fun l => K (a :: l) | _ => False)
     | _, _ => False)
/-- what the results are -/
def resK' (E : EnvX) (s : St) (rs : List ResultVar) (K : Res → Prop) : Prop :=
  match rs with
  | [.tmp t] => (match s.sl t with
    | .d a => K (.d a)
    | .own b n => (match s.bk b with | some (.sl e sz m l) => n = m ∧ K (.o e sz n l) | _ => False)
    | .ptr b 0 => (match s.bk b with | some (.vh _ _ _ _ _ _ _) => False | some .bx => False | some x => K (.p x) | none => False)
    | .win b base n => (match s.bk b with | some (.var l) => (match cut l base n with | some m => b ≠ 0 ∧ base + n ≤ segN l ∧ K (.d (.row n m)) | none => False) | _ => False)
    | _ => False)
  | [.cell p ty] => (match E.Y ty, s.sl p with
    | some i, .ptr b base => (match s.bk b with | some (.var l) => rdK l i.agg i.sz base fun a => K (.d a) | _ => False)
    | _, _ => False)
  | [] => K (.t [])
  | l => resL E s l fun asx => K (.t asx)
theorem run_results1 {P : Program} {fn : Func} {tmps : Array Value} {w : World} {r : ResultVar} (h : fn.results = #[r]) {v : Value} (hr : (match r with | .tmp t => (pure (tmps.getD t undef) : Sem Value) | .cell a t => do loadVar t (← asAddr (tmps.getD a undef))).run P w = .ok v w) :
    (results fn tmps).run P w = .ok v w := by
  unfold results
  rw [h]
  simp only [List.mapM_toArray, List.mapM_cons, List.mapM_nil]
  cases r with
  | tmp t => simp at hr ⊢; exact hr
  | cell a t =>
    simp only [Sem.run_bind] at hr
    cases hq : (asAddr (tmps.getD a undef)).run P w with
    | halt x w1 => rw [hq] at hr; simp [Result.andThen] at hr
    | ok ad w1 =>
      rw [hq] at hr
      simp only [Result.andThen_ok] at hr
      simp only [Array.getD_eq_getD_getElem?] at hq
      simp [Sem.run_bind, hq, hr]
def resOf (tmps : Array Value) : ResultVar → Sem Value
  | .tmp t => pure (tmps.getD t undef)
  | .cell a t => do loadVar t (← asAddr (tmps.getD a undef))
theorem results_eq (fn : Func) (tmps : Array Value) : results fn tmps = (do let vs ← fn.results.mapM (resOf tmps); pure (if h : vs.size = 1 then vs[0] else .tuple vs)) := by
  unfold results
  congr 1
theorem resL_spec {s : St} {ρ : Nat → Option Value} {a : Act} {w : World} {S' : Nat → Prop} (hS : ∀ z, Dt S base ρ z → S' z ∨ base ≤ z) (hP : ∀ q, w0.X q → w0.pin = some q) (g : Good S base w0 s ρ a w) : ∀ {l : List ResultVar} {K : List A → Prop}, resL E s l K →
    ∃ asx vs, K asx ∧ vs.length = l.length ∧ (l.mapM (resOf a.tmps)).run E.P w = .ok vs w ∧ RAs (fun r => S' r ∨ base ≤ r) w asx vs
  | [], K, h => ⟨[], [], h, rfl, by simp, .nil⟩
  | .cell p ty :: r, K, h => by
    have out : Keeps (Dt S base ρ) w (fun r => S' r ∨ base ≤ r) w := toKeeps hS
    unfold resL at h
    split at h
    · next i b q hY hd =>
      split at h
      · next l hk =>
        obtain ⟨d, hK, hs⟩ := rdK_spec h
        obtain ⟨asx, vs, h1, hlen, h2, h3⟩ := resL_spec hS hP g hK
        obtain ⟨r, cs, t, k1, k2, k3, k4⟩ := g.var hk
        have k5 := g.ev (.tmp p)
        rw [show s.ev (.tmp p) = .ptr b q from hd] at k5
        obtain ⟨r', e1, e2⟩ := k5 _ k1
        obtain rfl := e1.ptr
        obtain ⟨v, k6, k7⟩ := run_load_part (E.hY ty i hY) (r := r) (o := 0) (fun j hj => by rw [Nat.zero_add, cells_of k3, List.getElem?_eq_getElem hj]) (hs k4)
        rw [Nat.zero_add] at k6
        have e3 : a.tmps.getD p undef = .pointer (some ⟨r, q, none⟩) := e2
        refine ⟨d :: asx, v :: vs, h1, by simp [hlen], ?_, .cons (RA.up out k7) h3⟩
        have e4 : (resOf a.tmps (.cell p ty)).run E.P w = .ok v w := by
          simp only [resOf, Sem.run_bind, e3, asAddr, Sem.run_pure, Result.andThen_ok, k6]
        simp [Sem.run_bind, e4, h2]
      · exact h.elim
    · exact h.elim
  | .tmp t :: r, K, h => by
    have out : Keeps (Dt S base ρ) w (fun r => S' r ∨ base ≤ r) w := toKeeps hS
    unfold resL at h
    split at h
    · next d hd =>
      obtain ⟨asx, vs, h1, hlen, h2, h3⟩ := resL_spec hS hP g h
      refine ⟨d :: asx, a.tmps.getD t undef :: vs, h1, by simp [hlen], ?_, .cons ?_ h3⟩
      · simp [Sem.run_bind, h2, resOf]
      · have := g.ev (.tmp t)
        rw [show s.ev (.tmp t) = .d d from hd] at this
        exact RA.up out this
    · next b n hd =>
      split at h
      · next ty sz m l hk =>
        obtain ⟨rfl, h⟩ := h
        obtain ⟨asx, vs, h1, hlen, h2, h3⟩ := resL_spec hS hP g h
        have k := g.ev (.tmp t)
        rw [show s.ev (.tmp t) = .own b n from hd] at k
        obtain ⟨cs, k1, k2, k3⟩ := own_now g hk k
        refine ⟨.row n l :: asx, a.tmps.getD t undef :: vs, h1, by simp [hlen], ?_, .cons ?_ h3⟩
        · simp [Sem.run_bind, h2, resOf]
        · have hv : a.tmps.getD t undef = a.eval (.tmp t) := rfl
          rw [hv]
          rcases k2.2 with ⟨e1, e2⟩ | ⟨r, cap, cur, e1, e3, e4, e5, e6, e7, e8⟩
          · rw [e1, e2]
            have hcs : cs = [] := by have := k2.1; rw [e2, Nat.zero_mul] at this; exact List.length_eq_zero_iff.1 this
            exact .row (k3.up out) (Nat.le_refl _) (Nat.zero_le _) (fun _ => rfl) (.inl hcs)
          · rw [e1]
            refine .row (k3.up out) e5 e6 (fun e => by cases e) (.inr ⟨r, 0, rfl, .inr e3, (Array.getElem?_eq_some_iff.1 e4).1, fun j hj => ?_⟩)
            rw [Nat.zero_add, cell_of_row w r j cur _ (0, 0) e4]
            have : (cur.toList.take (n * sz))[j]? = cs[j]? := by rw [e8]
            rw [List.getElem?_take, if_pos (by have := k2.1; omega), Array.getElem?_toList, List.getElem?_eq_getElem hj] at this
            exact this
      · exact h.elim
    · next b hd =>
      split at h
      · next l hk =>
        obtain ⟨hb0, h⟩ := h
        obtain ⟨asx, vs, h1, hlen, h2, h3⟩ := resL_spec hS hP g h
        obtain ⟨q, cs, ty, k1, k2, k3, k4⟩ := g.var hk
        have k5 := g.ev (.tmp t)
        rw [show s.ev (.tmp t) = .ptr b 0 from hd] at k5
        obtain ⟨r', e1, e2⟩ := k5 _ k1
        obtain rfl := e1.ptr
        refine ⟨.sref l 0 :: asx, a.tmps.getD t undef :: vs, h1, by simp [hlen], by simp [Sem.run_bind, h2, resOf], .cons ?_ h3⟩
        rw [show a.tmps.getD t undef = .pointer (some ⟨q, 0, none⟩) from e2]
        have hlow := g.low b _ q k1 rfl
        have hge : base ≤ q := by
          rcases hlow.1 with h5 | h5
          · exact h5
          · exact (hb0 (g.inj b 0 _ _ q k1 (g.pin _ (hP _ h5)) rfl rfl)).elim
        exact .sref (o := 0) (k4.up out) (.inr ⟨q, 0, rfl, .inr hge, hlow.2, fun i hi => by rw [Nat.zero_add, cells_of k3, List.getElem?_eq_getElem hi]⟩)
      · exact h.elim
    · exact h.elim
theorem resK_sound {fn : Func} {s : St} {ρ : Nat → Option Value} {a : Act} {w : World} {K : Res → Prop} {S' : Nat → Prop} (hS : ∀ z, Dt S base ρ z → S' z ∨ base ≤ z) (hX : ∀ y, K (.p y) → ∀ q, ¬ w0.X q) (hP : ∀ q, w0.X q → w0.pin = some q) (h : resK' E s fn.results.toList K) (g : Good S base w0 s ρ a w) :
    ∃ r v, K r ∧ (results fn a.tmps).run E.P w = .ok v w ∧ RR S' base w r v := by
  have out : Keeps (Dt S base ρ) w (fun r => S' r ∨ base ≤ r) w := toKeeps hS
  have hres : ∀ {l : List ResultVar}, fn.results.toList = l → fn.results = l.toArray := fun {l} e => by rw [← e]
  have slot : ∀ {t : Nat} {d : A}, s.sl t = .d d → RA (fun r => S' r ∨ base ≤ r) w d (a.tmps.getD t undef) := fun {t d} e => by
    have := g.ev (.tmp t)
    rw [show s.ev (.tmp t) = .d d from e] at this
    exact RA.up out this
  unfold resK' at h
  split at h
  · next t e =>
    split at h
    · next d hd => exact ⟨_, _, h, run_results1 (hres e) rfl, slot hd⟩
    · next b n hd =>
      split at h
      · next ty sz m l hk =>
        obtain ⟨rfl, h⟩ := h
        have h1 := g.ev (.tmp t)
        rw [show s.ev (.tmp t) = .own b n from hd] at h1
        obtain ⟨cs, h2, h3, h4⟩ := own_now g hk h1
        refine ⟨_, _, h, run_results1 (hres e) rfl, cs, h3, RL.up ⟨Nat.le_refl _, fun r _ hd => ⟨⟨hS r hd, fun e => ?_⟩, fun _ => rfl⟩⟩ h4⟩
        refine hd.2 b _ h2 ?_
        generalize hv : a.eval (.tmp t) = v at e
        have : v.ownBlock = some r := by rw [← hv]; exact e
        cases v <;> try (simp [Value.ownBlock] at this; done)
        next ad n' c => cases ad <;> simp_all [Value.ownBlock, Rl]
      · exact h.elim
    · next b hd =>
      split at h
      · exact h.elim
      · exact h.elim
      · next x hnv hbx hk =>
        have h1 := g.ev (.tmp t)
        rw [show s.ev (.tmp t) = .ptr b 0 from hd] at h1
        have hB := g.b b
        rw [hk] at hB
        have fin : ∀ q, ρ b = some (.pointer (some ⟨q, 0, none⟩)) → HB (Dt S base ρ) w q x → ∃ r v, K r ∧ (results fn a.tmps).run E.P w = .ok v w ∧ RR S' base w r v := fun q hρ hh => by
          obtain ⟨r', e1, e2⟩ := h1 _ hρ
          obtain rfl := e1.ptr
          refine ⟨_, _, h, run_results1 (hres e) rfl, q, e2, ?_, hh.up (toKeeps fun z hz => ⟨hS z hz, fun e => hz.2 b _ hρ (by rw [e]; rfl)⟩) rfl⟩
          rcases (g.low b _ q hρ rfl).1 with h5 | h5
          · exact h5
          · exact (hX _ h q h5).elim
        cases x with
        | var l => obtain ⟨q, cs, ty, k1, _, k2, k3⟩ := hB; exact fin q k1 ⟨cs, ty, k2, k3⟩
        | obj p => obtain ⟨q, cs, ty, k1, _, k2, k3⟩ := hB; exact fin q k1 ⟨cs, ty, k2, k3⟩
        | abs p => obtain ⟨q, F, k1, _⟩ := hB; obtain ⟨r', e1, _⟩ := h1 _ k1; exact e1.fpv.elim
        | vh => exact (hnv _ _ _ _ _ _ _ rfl).elim
        | gone => obtain ⟨n, k1⟩ := hB; obtain ⟨r', e1, _⟩ := h1 _ k1; exact e1.slice.elim
        | bx => exact (hbx rfl).elim
        | sl ty sz n l =>
          exfalso
          obtain ⟨u, cs, k1, k2, _⟩ := hB
          obtain ⟨r', e1, _⟩ := h1 u k1
          rcases k2.2 with ⟨e2, _⟩ | ⟨_, _, _, e2, _⟩ <;> rw [e2] at e1 <;> exact e1.slice
      · exact h.elim
    · next b q n hd =>
      split at h
      · next l hk =>
        split at h
        · next m hm =>
          obtain ⟨hb0, hqn, hK⟩ := h
          refine ⟨_, _, hK, run_results1 (hres e) rfl, ?_⟩
          have h1 := g.ev (.tmp t)
          rw [show s.ev (.tmp t) = .win b q n from hd] at h1
          obtain ⟨r, cs, ty, k1, k2, k3, k4⟩ := g.var hk
          obtain ⟨r', c, e1, e2, e3, e4⟩ := h1 _ k1
          obtain rfl := e1.ptr
          have hlow := g.low b _ r k1 rfl
          have hge : base ≤ r := by
            rcases hlow.1 with h5 | h5
            · exact h5
            · exact (hb0 (g.inj b 0 _ _ r k1 (g.pin _ (hP _ h5)) rfl rfl)).elim
          obtain ⟨k5, _⟩ := k4.cut hm
          show RA _ _ (.row n m) (a.eval (.tmp t))
          rw [e2]
          refine .row (k5.up out) e3 e4 (fun e => by cases e) (.inr ⟨r, q, rfl, .inr hge, hlow.2, fun i hi => ?_⟩)
          simp only [List.length_take, List.length_drop] at hi
          rw [cells_of k3, List.getElem_take, List.getElem_drop, List.getElem?_eq_getElem (by omega)]
        · exact h.elim
      · exact h.elim
    · exact h.elim
  · next p ty e =>
    split at h
    · next i b q hY hd =>
      split at h
      · next l hk =>
        obtain ⟨d, hK, hs⟩ := rdK_spec h
        obtain ⟨r, cs, t, h1, h2, h3, h4⟩ := g.var hk
        have h5 := g.ev (.tmp p)
        rw [show s.ev (.tmp p) = .ptr b q from hd] at h5
        obtain ⟨r', e1, e2⟩ := h5 _ h1
        obtain rfl := e1.ptr
        obtain ⟨v, h6, h7⟩ := run_load_part (E.hY ty i hY) (r := r) (o := 0) (fun j hj => by rw [Nat.zero_add, cells_of h3, List.getElem?_eq_getElem hj]) (hs h4)
        rw [Nat.zero_add] at h6
        refine ⟨_, v, hK, run_results1 (hres e) ?_, RA.up out h7⟩
        have e3 : a.tmps.getD p undef = .pointer (some ⟨r, q, none⟩) := e2
        simp only [Sem.run_bind, e3, asAddr, Sem.run_pure, Result.andThen_ok, h6]
      · exact h.elim
    · exact h.elim
  · next e => exact ⟨_, .tuple #[], h, results_none (hres e) _ _ _, [], rfl, .nil⟩
  · rename_i l n1 n2 n3
    obtain ⟨asx, vs, hK, hlen, hm, hr⟩ := resL_spec hS hP g h
    refine ⟨_, .tuple vs.toArray, hK, ?_, vs, rfl, hr⟩
    have hne : vs.length ≠ 1 := by
      intro e1
      rw [hlen] at e1
      obtain ⟨x, e2⟩ := List.length_eq_one_iff.1 e1
      cases x with
      | tmp t => first | exact n1 t e2 | exact n2 t e2 | exact n3 t e2
      | cell p ty => first | exact n1 p ty e2 | exact n2 p ty e2 | exact n3 p ty e2
    rw [results_eq]
    have h2 : fn.results = fn.results.toList.toArray := by simp
    rw [h2, List.mapM_toArray]
    simp [Sem.run_bind, hm, hne]

/-- what a function begins with -/
theorem begin_good {G : Nat → Option (List Seg)} {S : Nat → Prop} {w : World} {args : List A} {vs : List Value} (nt : Nat) (hn : args.length ≤ nt) (hG : GOK G S w) (hv : RAs S w args vs) :
    Good S w.heap.size (⟨w, fun _ => False, none, []⟩ : W0 G) ⟨args.map T.d ++ List.replicate (nt - args.length) (.d (.v undef)), []⟩ (fun _ => none) { tmps := vs.toArray ++ Array.replicate (nt - vs.toArray.size) undef, defers := [] } w := by
  have hlen : ∀ {l : List A} {vs : List Value}, RAs S w l vs → vs.length = l.length := by
    intro l vs h
    induction h with
    | nil => rfl
    | cons _ _ ih => simp [ih]
  have hl := hlen hv
  have D : Keeps S w (Dt S w.heap.size fun _ => none) w := ⟨Nat.le_refl _, fun r _ hs => ⟨⟨.inl hs, fun b u hb => by cases hb⟩, fun _ => rfl⟩⟩
  have get : ∀ {l : List A} {vs : List Value}, RAs S w l vs → ∀ i, i < l.length → RA S w (l.getD i (.v undef)) (vs.getD i undef) := by
    intro l vs h
    induction h with
    | nil => intro i hi; simp at hi
    | cons h r ih =>
      intro i hi
      cases i with
      | zero => simpa using h
      | succ i => simpa using ih i (by simpa using hi)
  refine ⟨by simp [hl], fun i hi => ?_, fun b => ?_, fun i b hb => ?_, fun b b' u u' r hb => (by cases hb), fun b u r hb => (by cases hb), BelX.refl _ _ _, hG.up D, fun q hq => (by cases hq), Nat.le_refl _, rfl⟩
  · by_cases h1 : i < args.length
    · have e1 : St.sl ⟨args.map T.d ++ List.replicate (nt - args.length) (.d (.v undef)), []⟩ i = .d (args.getD i (.v undef)) := by
        simp [St.sl, List.getD_eq_getElem?_getD, List.getElem?_append_left, h1]
      have e2 : (vs.toArray ++ Array.replicate (nt - vs.toArray.size) undef).getD i undef = vs.getD i undef := by
        rw [Array.getD_eq_getD_getElem?, Array.getElem?_append_left (by simp [hl, h1]), List.getD_eq_getElem?_getD]; simp
      rw [e1, e2]
      exact RA.up D (get hv i h1)
    · have hi2 : i < nt := by simp [hl] at hi; omega
      have e1 : St.sl ⟨args.map T.d ++ List.replicate (nt - args.length) (.d (.v undef)), []⟩ i = .d (.v undef) := by
        simp only [St.sl, List.getD_eq_getElem?_getD]
        rw [List.getElem?_append_right (by simp; omega), List.getElem?_replicate]
        rw [if_pos (by simp; omega)]; rfl
      have e2 : (vs.toArray ++ Array.replicate (nt - vs.toArray.size) undef).getD i undef = undef := by
        rw [Array.getD_eq_getD_getElem?, Array.getElem?_append_right (by simp [hl]; omega), Array.getElem?_replicate]
        split <;> rfl
      rw [e1, e2]
      exact .v undef
  · show RB _ _ _ _ _ (([] : List (Option Bk)).getD b none)
    rw [List.getD_eq_getElem?_getD]
    rfl
  · exfalso
    by_cases h1 : i < args.length
    · have e1 : St.sl ⟨args.map T.d ++ List.replicate (nt - args.length) (.d (.v undef)), []⟩ i = .d (args.getD i (.v undef)) := by
        simp [St.sl, List.getD_eq_getElem?_getD, List.getElem?_append_left, h1]
      rw [e1] at hb; simp [T.refs] at hb
    · have e1 : St.sl ⟨args.map T.d ++ List.replicate (nt - args.length) (.d (.v undef)), []⟩ i = .d (.v undef) ∨ St.sl ⟨args.map T.d ++ List.replicate (nt - args.length) (.d (.v undef)), []⟩ i = .dead := by
        simp only [St.sl, List.getD_eq_getElem?_getD]
        rw [List.getElem?_append_right (by simp; omega), List.getElem?_replicate]
        split
        · exact .inl rfl
        · exact .inr rfl
      rcases e1 with e1 | e1 <;> (rw [e1] at hb; simp [T.refs] at hb)
/-- a function answers what its code comes to -/
theorem fn_of_wpA {f : FuncId} {fn : Func} {c : Code} {args : List A} {res : Res} (hf : E.P.funcs[f]? = some fn) (hb : fn.body = some c) (hn : args.length ≤ fn.ntmps)
    (h : wpA E c ⟨args.map T.d ++ List.replicate (fn.ntmps - args.length) (.d (.v undef)), []⟩ fun e s => (e = .normal ∨ e = .ret) ∧ resK' E s fn.results.toList fun r => r = res) : FnOK E.P E.G f args res := by
  intro S w vs hG hv
  refine calls_of_wp hf hb ?_
  have g := begin_good fn.ntmps hn hG hv
  refine wp_mono (wpA_sound c h g) ?_
  rintro e a' w' ⟨s', ρ', ⟨he, hr⟩, hg⟩
  obtain ⟨r, v, rfl, h2, h3⟩ := resK_sound (fun z hz => hz.1) (fun _ _ _ h => h) (fun _ (h : False) => h.elim) hr hg
  rcases he with rfl | rfl
  · exact ⟨hg.defs, v, h2, v, rfl, h3, hg.bel.below fun _ h => h⟩
  · exact ⟨hg.defs, v, h2, v, rfl, h3, hg.bel.below fun _ h => h⟩

/-- what a function begins with to which a block is lent -/
theorem begin_lent {G : Nat → Option (List Seg)} {S : Nat → Prop} {w : World} {q pos : Nat} {args : List A} {vs : List Value} {x : Bk} (nt : Nat) (hn : args.length + 1 ≤ nt) (hp : pos ≤ args.length) (hx : ∀ e sz n l, x ≠ .sl e sz n l) (hq : q < w.heap.size) (hG : GOK G (fun z => S z ∧ z ≠ q) w) (hB : HB (fun z => S z ∧ z ≠ q) w q x) (hv : RAs (fun z => S z ∧ z ≠ q) w args vs) :
    Good S w.heap.size (⟨w, fun r => r = q, some q, []⟩ : W0 G) ⟨(args.map T.d).insertIdx pos (.ptr 0 0) ++ List.replicate (nt - (args.length + 1)) (.d (.v undef)), [some x]⟩ (fun b => if b = 0 then some (.pointer (some ⟨q, 0, none⟩)) else none)
      { tmps := (vs.insertIdx pos (.pointer (some ⟨q, 0, none⟩))).toArray ++ Array.replicate (nt - (vs.insertIdx pos (.pointer (some ⟨q, 0, none⟩))).toArray.size) undef, defers := [] } w := by
  have hlen : ∀ {D : Nat → Prop} {l : List A} {vs : List Value}, RAs D w l vs → vs.length = l.length := by
    intro D l vs h
    induction h with
    | nil => rfl
    | cons _ _ ih => simp [ih]
  have hl := hlen hv
  let ρ0 : Nat → Option Value := fun b => if b = 0 then some (.pointer (some ⟨q, 0, none⟩)) else none
  have hρ0 : ∀ b u, ρ0 b = some u → b = 0 ∧ u = .pointer (some ⟨q, 0, none⟩) := by
    intro b u hb
    simp only [ρ0] at hb
    split at hb
    · next e => cases hb; exact ⟨e, rfl⟩
    · cases hb
  have D : Keeps (fun z => S z ∧ z ≠ q) w (Dt S w.heap.size ρ0) w := ⟨Nat.le_refl _, fun r _ hs => ⟨⟨.inl hs.1, fun b u hb hu => by
    obtain ⟨_, rfl⟩ := hρ0 b u hb
    simp [Rl] at hu
    exact hs.2 hu.symm⟩, fun _ => rfl⟩⟩
  have hil : (vs.insertIdx pos (.pointer (some ⟨q, 0, none⟩))).length = args.length + 1 := by rw [List.length_insertIdx_of_le_length (by omega), hl]
  have hil2 : ((args.map T.d).insertIdx pos (.ptr 0 0)).length = args.length + 1 := by rw [List.length_insertIdx_of_le_length (by simpa using hp)]; simp
  have get : ∀ {l : List A} {vs : List Value}, RAs (fun z => S z ∧ z ≠ q) w l vs → ∀ i, i < l.length → RA (fun z => S z ∧ z ≠ q) w (l.getD i (.v undef)) (vs.getD i undef) := by
    intro l vs h
    induction h with
    | nil => intro i hi; simp at hi
    | cons h r ih =>
      intro i hi
      cases i with
      | zero => simpa using h
      | succ i => simpa using ih i (by simpa using hi)
  have slot : ∀ i, St.sl ⟨(args.map T.d).insertIdx pos (.ptr 0 0) ++ List.replicate (nt - (args.length + 1)) (.d (.v undef)), [some x]⟩ i =
      if i < pos then .d (args.getD i (.v undef)) else if i = pos then .ptr 0 0 else if i < args.length + 1 then .d (args.getD (i - 1) (.v undef)) else if i < nt then .d (.v undef) else .dead := by
    intro i
    simp only [St.sl, List.getD_eq_getElem?_getD]
    by_cases h0 : i < args.length + 1
    · rw [List.getElem?_append_left (by omega), List.getElem?_insertIdx]
      by_cases h1 : i < pos
      · rw [if_pos h1, if_pos h1]
        have : i < args.length := by omega
        simp [this]
      · rw [if_neg h1, if_neg h1]
        by_cases h2 : i = pos
        · rw [if_pos h2, if_pos h2]; simp [show i ≤ args.length by omega]
        · rw [if_neg h2, if_neg h2, if_pos h0]
          have : i - 1 < args.length := by omega
          simp [this]
    · rw [if_neg (by omega), if_neg (by omega), if_neg h0, List.getElem?_append_right (by omega), List.getElem?_replicate]
      by_cases h3 : i < nt
      · rw [if_pos h3, if_pos (by omega)]; rfl
      · rw [if_neg h3, if_neg (by omega)]; rfl
  refine ⟨by simp [hil, hil2], fun i hi => ?_, fun b => ?_, fun i b hb => ?_, fun b b' u u' r h1 h2 h3 h4 => ?_, fun b u r h1 h2 => ?_, BelX.refl _ _ _, hG.up D, fun z hz => (by cases hz; rfl), Nat.le_refl _, rfl⟩
  · rw [slot]
    have hi2 : i < nt := by simp [hil] at hi; omega
    have e2 : (((vs.insertIdx pos (.pointer (some ⟨q, 0, none⟩))).toArray ++ Array.replicate (nt - (vs.insertIdx pos (.pointer (some ⟨q, 0, none⟩))).toArray.size) undef).getD i undef) =
        if i < pos then vs.getD i undef else if i = pos then .pointer (some ⟨q, 0, none⟩) else if i < args.length + 1 then vs.getD (i - 1) undef else undef := by
      rw [Array.getD_eq_getD_getElem?]
      by_cases h0 : i < args.length + 1
      · rw [Array.getElem?_append_left (by simp [hil]; omega), List.getElem?_toArray, List.getElem?_insertIdx]
        by_cases h1 : i < pos
        · rw [if_pos h1, if_pos h1]; simp [List.getD_eq_getElem?_getD]
        · rw [if_neg h1, if_neg h1]
          by_cases h2 : i = pos
          · rw [if_pos h2, if_pos h2]; simp [hl, show i ≤ args.length by omega]
          · rw [if_neg h2, if_neg h2, if_pos h0]; simp [List.getD_eq_getElem?_getD]
      · rw [if_neg (by omega), if_neg (by omega), if_neg h0, Array.getElem?_append_right (by simp [hil]; omega), Array.getElem?_replicate]
        split <;> rfl
    rw [e2]
    by_cases h1 : i < pos
    · rw [if_pos h1, if_pos h1]; exact RA.up D (get hv i (by omega))
    · rw [if_neg h1, if_neg h1]
      by_cases h2 : i = pos
      · rw [if_pos h2, if_pos h2]
        intro u hu
        obtain ⟨_, rfl⟩ := hρ0 0 u hu
        exact ⟨q, .inl rfl, rfl⟩
      · rw [if_neg h2, if_neg h2]
        by_cases h0 : i < args.length + 1
        · rw [if_pos h0, if_pos h0]; exact RA.up D (get hv (i - 1) (by omega))
        · rw [if_neg h0, if_neg h0, if_pos hi2]; exact .v undef
  · by_cases hb : b = 0
    · subst hb
      have hB' := hB.up D rfl
      show RB _ _ _ _ 0 (some x)
      cases x with
      | var l => obtain ⟨cs, t, e, e2⟩ := hB'; exact ⟨q, cs, t, rfl, trivial, e, e2⟩
      | obj p => obtain ⟨cs, t, e, e2⟩ := hB'; exact ⟨q, cs, t, rfl, trivial, e, e2⟩
      | abs p => exact hB'.elim
      | vh => exact hB'.elim
      | gone => exact hB'.elim
      | bx => exact hB'.elim
      | sl e sz n l => exact (hx e sz n l rfl).elim
    · have : St.bk ⟨(args.map T.d).insertIdx pos (.ptr 0 0) ++ List.replicate (nt - (args.length + 1)) (.d (.v undef)), [some x]⟩ b = none := by
        cases b with
        | zero => exact absurd rfl hb
        | succ b => simp [St.bk]
      rw [this]
      show ρ0 b = none
      exact if_neg hb
  · rw [slot] at hb
    by_cases h1 : i < pos
    · rw [if_pos h1] at hb; simp [T.refs] at hb
    · rw [if_neg h1] at hb
      by_cases h2 : i = pos
      · rw [if_pos h2] at hb
        simp [T.refs] at hb
        subst hb
        simp [St.bk]
      · rw [if_neg h2] at hb
        by_cases h0 : i < args.length + 1
        · rw [if_pos h0] at hb; simp [T.refs] at hb
        · rw [if_neg h0] at hb
          split at hb <;> simp [T.refs] at hb
  · obtain ⟨rfl, _⟩ := hρ0 b u h1
    obtain ⟨rfl, _⟩ := hρ0 b' u' h2
    rfl
  · obtain ⟨_, rfl⟩ := hρ0 b u h1
    simp [Rl] at h2
    subst h2
    exact ⟨.inr rfl, hq⟩
/-- the same, where a block is lent to it -/
theorem fnM_of_wp {f : FuncId} {fn : Func} {c : Code} {pos : Nat} {x x' : Bk} {args : List A} {res : Res} (hf : E.P.funcs[f]? = some fn) (hb : fn.body = some c) (hn : args.length + 1 ≤ fn.ntmps) (hp : pos ≤ args.length) (hx : ∀ e sz n l, x ≠ .sl e sz n l)
    (h : ∀ (S : Nat → Prop) (base : Nat) (w0 : W0 E.G) (ρ : Nat → Option Value) (a : Act) (w : World), Good S base w0 ⟨(args.map T.d).insertIdx pos (.ptr 0 0) ++ List.replicate (fn.ntmps - (args.length + 1)) (.d (.v undef)), [some x]⟩ ρ a w → c.wp E.P (fun e a' w' => ∃ s' ρ', ((e = .normal ∨ e = .ret) ∧ s'.bk 0 = some x' ∧ resK' E s' fn.results.toList fun r => r = res) ∧ Good S base w0 s' ρ' a' w') a w) (hres : ∀ y, res ≠ .p y) : FnM E.P E.G f pos x args res x' := by
  intro S w q vs hq hG hB hv
  refine calls_of_wp hf hb ?_
  have g := begin_lent fn.ntmps hn hp hx hq hG hB hv
  refine wp_mono (h _ _ _ _ _ _ g) ?_
  rintro e a' w' ⟨s', ρ', ⟨he, hk, hr⟩, hg⟩
  have hpin := hg.pin q rfl
  have hnq : ∀ z, Dt S w.heap.size ρ' z → z ≠ q := fun z hz e => hz.2 0 _ hpin (by rw [e]; rfl)
  obtain ⟨r, v, rfl, h2, h3⟩ := resK_sound (S' := fun z => S z ∧ z ≠ q) (fun z hz => by
    rcases hz.1 with h1 | h1
    · exact .inl ⟨h1, hnq z hz⟩
    · exact .inr h1) (fun y hy => (hres y hy.symm).elim) (fun r (h : r = q) => by rw [h]) hr hg
  have h4 : HB (fun z => (S z ∨ w.heap.size ≤ z) ∧ z ≠ q) w' q x' := by
    have hB' := hg.b 0
    rw [hk] at hB'
    have K : Keeps (Dt S w.heap.size ρ') w' (fun z => (S z ∨ w.heap.size ≤ z) ∧ z ≠ q) w' := toKeeps fun z hz => ⟨hz.1, hnq z hz⟩
    cases x' with
    | var l => obtain ⟨q', cs, t, e1, _, e2, e3⟩ := hB'; rw [hpin] at e1; cases e1; exact ⟨cs, t, e2, e3.up K⟩
    | obj p => obtain ⟨q', cs, t, e1, _, e2, e3⟩ := hB'; rw [hpin] at e1; cases e1; exact ⟨cs, t, e2, e3⟩
    | abs p => obtain ⟨q', F, e1, _⟩ := hB'; rw [hpin] at e1; exact (fpv_no.1 _ (Option.some.inj e1).symm).elim
    | vh l off p e sz n m => obtain ⟨q', cs, t, su, ms, e1, _⟩ := hB'; rw [hpin] at e1; exact (uvh_no.1 _ (Option.some.inj e1).symm).elim
    | gone => obtain ⟨n, e1⟩ := hB'; rw [hpin] at e1; cases e1
    | bx => exact (hB'.1 rfl).elim
    | sl e sz n l =>
      exfalso
      obtain ⟨u, cs, e1, e2, _⟩ := hB'
      rw [hpin] at e1; cases e1
      rcases e2.2 with ⟨e3, _⟩ | ⟨_, _, _, e3, _⟩ <;> cases e3
  have h5 : w.grownBy w' (some q) := ⟨hg.bel.os, hg.bel.tape, hg.bel.output, hg.bel.size, fun k hk hne => hg.bel.block k hk (fun e => hne (by rw [e]))⟩
  rcases he with rfl | rfl
  · exact ⟨hg.defs, v, h2, v, rfl, h3, h4, h5⟩
  · exact ⟨hg.defs, v, h2, v, rfl, h3, h4, h5⟩
theorem fnM_of_wpA {f : FuncId} {fn : Func} {c : Code} {pos : Nat} {x x' : Bk} {args : List A} {res : Res} (hf : E.P.funcs[f]? = some fn) (hb : fn.body = some c) (hn : args.length + 1 ≤ fn.ntmps) (hp : pos ≤ args.length) (hx : ∀ e sz n l, x ≠ .sl e sz n l)
    (h : wpA E c ⟨(args.map T.d).insertIdx pos (.ptr 0 0) ++ List.replicate (fn.ntmps - (args.length + 1)) (.d (.v undef)), [some x]⟩ fun e s => (e = .normal ∨ e = .ret) ∧ s.bk 0 = some x' ∧ resK' E s fn.results.toList fun r => r = res) (hres : ∀ y, res ≠ .p y) : FnM E.P E.G f pos x args res x' :=
  fnM_of_wp hf hb hn hp hx (fun S base w0 ρ a w g => wpA_sound c h g) hres
end
end Go.Proofs.Ytanpamcecaoanaa

/-
  '==' on structs and arrays of numbers and truths: cell by cell. No program is named here.
-/
namespace Go.Proofs.Ytanpamcecaoanaa
set_option maxRecDepth 100000
open Go.RowKit
set_option linter.unusedVariables false
set_option linter.unusedSimpArgs false

/-- the kinds of a type's cells, where it is made of numbers and truths -/
def sigF (r : TypeId → Option (List (Option IntKind))) : Nat → List Field → Option (List (Option IntKind))
  | off, [] => some []
  | off, f :: fs => if f.name ≠ "_" ∧ f.offset = off then (match r f.type with | some s => (sigF r (off + s.length) fs).map (s ++ ·) | none => none) else none
def sigT (P : Program) : Nat → TypeId → Option (List (Option IntKind))
  | 0, _ => none
  | d + 1, t =>
    let s := match P.underlying t with
      | some .bool => some [none]
      | some (.int k) => some [some k]
      | some (.array n e) => (sigT P d e).map fun s => (List.replicate n s).flatten
      | some (.struct fs) => if P.stoodInHeld t = true then none else sigF (sigT P d) 0 fs.toList
      | _ => none
    match s with
    | some s => (match P.info? t with | some i => if i.size = s.length then some s else none | none => none)
    | none => none
def mkV (P : Program) (t : TypeId) (xs : List Value) : Value := if aggOf P t = true then .agg xs.toArray else xs.headD undef

section
variable {P : Program}

theorem sigT_info {d : Nat} {t : TypeId} {s : List (Option IntKind)} (h : sigT P d t = some s) : ∃ i, P.info? t = some i ∧ i.size = s.length ∧ P.cellsOf t = s.length ∧ ∃ u, P.underlying t = some u := by
  cases d with
  | zero => cases h
  | succ d =>
    unfold sigT at h
    simp only at h
    split at h
    · next s' hs =>
      split at h
      · next i hi =>
        split at h
        · next hsz =>
          cases h
          refine ⟨i, hi, hsz, by simp [Program.cellsOf, hi, hsz], ?_⟩
          cases hu : P.underlying t with
          | none => rw [hu] at hs; cases hs
          | some u => exact ⟨u, rfl⟩
        · cases h
      · cases h
    · cases h
theorem run_part_mk {d : Nat} {t : TypeId} {s : List (Option IntKind)} (h : sigT P d t = some s) (w : World) (xs : List Value) (off : Nat) (hl : off + s.length ≤ xs.length) (h1 : aggOf P t = false → s.length = 1) :
    (part t xs.toArray off).run P w = .ok (mkV P t ((xs.drop off).take s.length)) w := by
  obtain ⟨i, hi, hsz, hc, u, hu⟩ := sigT_info h
  have hag : (isAgg t).run P w = .ok (aggOf P t) w := by
    unfold isAgg aggOf
    rw [Sem.run_bind, run_underlying hu w, hu]
    cases u <;> simp
  cases ha : aggOf P t with
  | true =>
    simp only [part, Sem.run_bind, hag, ha, Result.andThen_ok, if_true, run_sizeOf w hi, hc, mkV, Sem.run_pure]
    congr 2
    apply Array.ext_getElem?
    intro m
    simp only [Array.getElem?_extract, List.getElem?_toArray, List.getElem?_take, List.getElem?_drop, List.size_toArray]
    by_cases hm : m < s.length
    · rw [if_pos (by omega), if_pos hm]
    · rw [if_neg (by omega), if_neg hm]
  | false =>
    have h2 := h1 ha
    have h3 : off < xs.length := by omega
    simp only [part, Sem.run_bind, hag, ha, Result.andThen_ok, Bool.false_eq_true, if_false, mkV]
    rw [h2, List.drop_eq_getElem_cons h3, List.take_succ_cons]
    simp [h3]

theorem kinds_sub {xs : List Value} {a b : List (Option IntKind)} {off : Nat} (h : (xs.drop off).map cellKind = (a ++ b).map some) : ((xs.drop off).take a.length).map cellKind = a.map some ∧ (xs.drop (off + a.length)).map cellKind = b.map some := by
  rw [List.map_append] at h
  constructor
  · rw [List.map_take, h, List.take_append_of_le_length (by simp), List.take_of_length_le (by simp)]
  · rw [← List.drop_drop, List.map_drop, h, List.drop_append_of_le_length (by simp), List.drop_of_length_le (by simp)]; simp
theorem len_of_kinds {xs : List Value} {a : List (Option IntKind)} (h : xs.map cellKind = a.map some) : xs.length = a.length := by
  have := congrArg List.length h; simpa using this

/-- what holds of a type's '==' -/
def EqAtT (P : Program) (d : Nat) (t : TypeId) (s : List (Option IntKind)) : Prop :=
  (aggOf P t = false → s.length = 1) ∧ ∀ (m : Nat) (w : World) (xs ys : List Value), xs.map cellKind = s.map some → ys.map cellKind = s.map some →
    ∃ b : Bool, (Op.equalIn (d + m) t (mkV P t xs) (mkV P t ys)).run P w = .ok b w ∧ (b = true ↔ xs = ys)

theorem eqFields_sig {d : Nat} (ih : ∀ t s, sigT P d t = some s → EqAtT P d t s) (m : Nat) (w : World) (xs ys : List Value) : ∀ (fs : List Field) (off : Nat) (s : List (Option IntKind)), sigF (sigT P d) off fs = some s →
    (xs.drop off).map cellKind = s.map some → (ys.drop off).map cellKind = s.map some → off ≤ xs.length → off ≤ ys.length → ∃ b : Bool, (Op.eqFields (d + m) xs.toArray ys.toArray fs).run P w = .ok b w ∧ (b = true ↔ xs.drop off = ys.drop off)
  | [], off, s, h, hx, hy, _, _ => by
    cases h
    refine ⟨true, by simp [Op.eqFields], ?_⟩
    have h1 : xs.drop off = [] := by simpa using hx
    have h2 : ys.drop off = [] := by simpa using hy
    rw [h1, h2]; simp
  | f :: fs, off, s, h, hx, hy, lx, ly => by
    unfold sigF at h
    split at h
    · next hf =>
      obtain ⟨hn, ho⟩ := hf
      cases hs : sigT P d f.type with
      | none => rw [hs] at h; cases h
      | some a =>
        rw [hs] at h
        cases hr : sigF (sigT P d) (off + a.length) fs with
        | none => simp [hr] at h
        | some b =>
          simp only [hr, Option.map_some, Option.some.injEq] at h
          subst h
          obtain ⟨k1, k2⟩ := kinds_sub hx
          obtain ⟨k3, k4⟩ := kinds_sub hy
          have l1 := len_of_kinds hx
          have l2 := len_of_kinds hy
          simp at l1 l2
          obtain ⟨e1, e2⟩ := ih f.type a hs
          obtain ⟨r, hrun, hiff⟩ := e2 m w _ _ k1 k3
          obtain ⟨r', hrun', hiff'⟩ := eqFields_sig ih m w xs ys fs (off + a.length) b hr k2 k4 (by omega) (by omega)
          have p1 := run_part_mk hs w xs off (by omega) e1
          have p2 := run_part_mk hs w ys off (by omega) e1
          simp only [Op.eqFields, hn, ne_eq, not_false_eq_true, if_true, Sem.run_bind, ho, p1, p2, hrun, Result.andThen_ok]
          have split : ∀ zs : List Value, zs.drop off = (zs.drop off).take a.length ++ zs.drop (off + a.length) := fun zs => by rw [← List.drop_drop, List.take_append_drop]
          cases r with
          | false =>
            refine ⟨false, by simp, ?_⟩
            constructor
            · intro h; cases h
            · intro h; exact absurd (hiff.2 (by rw [h])) (by simp)
          | true =>
            refine ⟨r', by simpa using hrun', ?_⟩
            rw [hiff', split xs, split ys, hiff.1 rfl]
            constructor
            · intro h; rw [h]
            · intro h; exact List.append_cancel_left h
    · cases h
theorem eqItems_sig {d : Nat} {e : TypeId} {a : List (Option IntKind)} (he : sigT P d e = some a) (ih : EqAtT P d e a) (m : Nat) (w : World) (xs ys : List Value) : ∀ (n k : Nat),
    (xs.drop (k * a.length)).map cellKind = ((List.replicate n a).flatten).map some → (ys.drop (k * a.length)).map cellKind = ((List.replicate n a).flatten).map some → k * a.length ≤ xs.length → k * a.length ≤ ys.length →
    ∃ b : Bool, (Op.eqItems (d + m) e a.length xs.toArray ys.toArray (List.range' k n)).run P w = .ok b w ∧ (b = true ↔ xs.drop (k * a.length) = ys.drop (k * a.length))
  | 0, k, hx, hy, _, _ => by
    refine ⟨true, by simp [Op.eqItems], ?_⟩
    have h1 : xs.drop (k * a.length) = [] := by simpa using hx
    have h2 : ys.drop (k * a.length) = [] := by simpa using hy
    rw [h1, h2]; simp
  | n + 1, k, hx, hy, lx, ly => by
    rw [List.replicate_succ, List.flatten_cons] at hx hy
    obtain ⟨k1, k2⟩ := kinds_sub hx
    obtain ⟨k3, k4⟩ := kinds_sub hy
    have l1 := len_of_kinds hx
    have l2 := len_of_kinds hy
    simp at l1 l2
    obtain ⟨e1, e2⟩ := ih
    obtain ⟨r, hrun, hiff⟩ := e2 m w _ _ k1 k3
    have hk : k * a.length + a.length = (k + 1) * a.length := by rw [Nat.add_mul, Nat.one_mul]
    rw [hk] at k2 k4
    obtain ⟨r', hrun', hiff'⟩ := eqItems_sig he ⟨e1, e2⟩ m w xs ys n (k + 1) k2 k4 (by omega) (by omega)
    have p1 := run_part_mk he w xs (k * a.length) (by omega) e1
    have p2 := run_part_mk he w ys (k * a.length) (by omega) e1
    rw [List.range'_succ]
    simp only [Op.eqItems, Sem.run_bind, p1, p2, hrun, Result.andThen_ok]
    have split : ∀ zs : List Value, zs.drop (k * a.length) = (zs.drop (k * a.length)).take a.length ++ zs.drop ((k + 1) * a.length) := fun zs => by rw [← hk, ← List.drop_drop, List.take_append_drop]
    cases r with
    | false =>
      refine ⟨false, by simp, ?_⟩
      constructor
      · intro h; cases h
      · intro h; exact absurd (hiff.2 (by rw [h])) (by simp)
    | true =>
      refine ⟨r', by simpa using hrun', ?_⟩
      rw [hiff', split xs, split ys, hiff.1 rfl]
      constructor
      · intro h; rw [h]
      · intro h; exact List.append_cancel_left h

theorem eq_sig : ∀ (d : Nat) (t : TypeId) (s : List (Option IntKind)), sigT P d t = some s → EqAtT P d t s
  | 0, t, s, h => by cases h
  | d + 1, t, s, h => by
    have ih := eq_sig d
    have h' := h
    unfold sigT at h
    simp only at h
    split at h
    case h_2 => cases h
    next s' hs =>
    split at h
    case h_2 => cases h
    next i hi =>
    split at h
    case isFalse => cases h
    next hsz =>
    cases h
    split at hs
    · next hu =>
      cases hs
      have ha : aggOf P t = false := by unfold aggOf; rw [hu]
      refine ⟨fun _ => rfl, fun m w xs ys hx hy => ?_⟩
      match xs, ys, hx, hy with
      | [.bool x], [.bool y], _, _ =>
        refine ⟨x == y, ?_, by simp⟩
        rw [show d + 1 + m = (d + m) + 1 by omega]
        simp only [mkV, ha, Bool.false_eq_true, if_false, List.headD_cons]
        exact run_equalIn_bool w (d + m) t x y hu
      | [], _, hx, _ => simp at hx
      | _ :: _ :: _, _, hx, _ => simp at hx
      | [_], [], _, hy => simp at hy
      | [_], _ :: _ :: _, _, hy => simp at hy
      | [.int _ _], [_], hx, _ => simp [cellKind] at hx
      | [.float _ _], [_], hx, _ => simp [cellKind] at hx
      | [.complex _ _ _], [_], hx, _ => simp [cellKind] at hx
      | [.string _], [_], hx, _ => simp [cellKind] at hx
      | [.pointer _], [_], hx, _ => simp [cellKind] at hx
      | [.slice _ _ _], [_], hx, _ => simp [cellKind] at hx
      | [.map _], [_], hx, _ => simp [cellKind] at hx
      | [.chan _], [_], hx, _ => simp [cellKind] at hx
      | [.func _ _ _], [_], hx, _ => simp [cellKind] at hx
      | [.nilFunc], [_], hx, _ => simp [cellKind] at hx
      | [.iface _ _], [_], hx, _ => simp [cellKind] at hx
      | [.nilIface], [_], hx, _ => simp [cellKind] at hx
      | [.agg _], [_], hx, _ => simp [cellKind] at hx
      | [.tuple _], [_], hx, _ => simp [cellKind] at hx
      | [.bool _], [.int _ _], _, hy => simp [cellKind] at hy
      | [.bool _], [.float _ _], _, hy => simp [cellKind] at hy
      | [.bool _], [.complex _ _ _], _, hy => simp [cellKind] at hy
      | [.bool _], [.string _], _, hy => simp [cellKind] at hy
      | [.bool _], [.pointer _], _, hy => simp [cellKind] at hy
      | [.bool _], [.slice _ _ _], _, hy => simp [cellKind] at hy
      | [.bool _], [.map _], _, hy => simp [cellKind] at hy
      | [.bool _], [.chan _], _, hy => simp [cellKind] at hy
      | [.bool _], [.func _ _ _], _, hy => simp [cellKind] at hy
      | [.bool _], [.nilFunc], _, hy => simp [cellKind] at hy
      | [.bool _], [.iface _ _], _, hy => simp [cellKind] at hy
      | [.bool _], [.nilIface], _, hy => simp [cellKind] at hy
      | [.bool _], [.agg _], _, hy => simp [cellKind] at hy
      | [.bool _], [.tuple _], _, hy => simp [cellKind] at hy
    · next k hu =>
      cases hs
      have ha : aggOf P t = false := by unfold aggOf; rw [hu]
      refine ⟨fun _ => rfl, fun m w xs ys hx hy => ?_⟩
      have one : ∀ zs : List Value, zs.map cellKind = [some k].map some → ∃ z, zs = [.int k z] := by
        intro zs hz
        match zs, hz with
        | [v], hz =>
          cases v <;> simp [cellKind] at hz
          subst hz; exact ⟨_, rfl⟩
        | [], hz => simp at hz
        | _ :: _ :: _, hz => simp at hz
      obtain ⟨x, rfl⟩ := one xs hx
      obtain ⟨y, rfl⟩ := one ys hy
      refine ⟨x == y, ?_, by simp⟩
      rw [show d + 1 + m = (d + m) + 1 by omega]
      simp only [mkV, ha, Bool.false_eq_true, if_false, List.headD_cons]
      exact run_equalIn_int w (d + m) t k k x y hu
    · next n e hu =>
      have ha : aggOf P t = true := by unfold aggOf; rw [hu]
      cases he : sigT P d e with
      | none => rw [he] at hs; cases hs
      | some a =>
        rw [he] at hs
        cases hs
        refine ⟨fun h => (by rw [ha] at h; cases h), fun m w xs ys hx hy => ?_⟩
        obtain ⟨ie, hie, _, hce, _⟩ := sigT_info he
        obtain ⟨b, hb, hbi⟩ := eqItems_sig he (ih e a he) m w xs ys n 0 (by simpa using hx) (by simpa using hy) (by simp) (by simp)
        refine ⟨b, ?_, by simpa using hbi⟩
        rw [show d + 1 + m = (d + m) + 1 by omega]
        simp only [mkV, ha, if_true]
        rw [run_equalIn_array w (d + m) _ _ hu hie, hce, List.range_eq_range']
        exact hb
    · next fs hu =>
      have ha : aggOf P t = true := by unfold aggOf; rw [hu]
      split at hs
      · cases hs
      · next hst =>
        refine ⟨fun h => (by rw [ha] at h; cases h), fun m w xs ys hx hy => ?_⟩
        obtain ⟨b, hb, hbi⟩ := eqFields_sig ih m w xs ys fs.toList 0 _ hs (by simpa using hx) (by simpa using hy) (by simp) (by simp)
        refine ⟨b, ?_, by simpa using hbi⟩
        have hfo : P.fieldsOf t = fs := by unfold Program.fieldsOf; rw [hu]
        rw [show d + 1 + m = (d + m) + 1 by omega]
        simp only [mkV, ha, if_true]
        rw [run_equalIn_struct w (d + m) t _ _ (by rw [hfo]; exact hu) (by simpa using hst), hfo]
        exact hb
    · cases hs

def kindsS : List Seg → List (Option (Option IntKind))
  | [] => []
  | .ints k n _ :: l => List.replicate n (some (some k)) ++ kindsS l
  | .bytes n _ :: l => List.replicate n (some (some .u8)) ++ kindsS l
  | .bools n _ :: l => List.replicate n (some none) ++ kindsS l
  | .gen n asx :: l => [none] ++ kindsS l
def eqB (P : Program) (t : TypeId) (i : TI) : Bool :=
  !P.eqGuardType P.depth t && aggOf P t && (match sigT P 20 t with | some s => decide (kindsS i.zero = s.map some) | none => false)
theorem kindsS_of {S : Nat → Prop} {w : World} : ∀ {l : List Seg} {cs : List Value} {s : List (Option IntKind)}, kindsS l = s.map some → RL S w l cs → cs.map cellKind = kindsS l
  | _, _, _, _, .nil => rfl
  | .ints k n zs :: l, _, s, h, .ints h1 r => by
    obtain ⟨s1, s2, rfl, h2, h3⟩ := List.map_eq_append_iff.1 h.symm
    rw [List.map_append, kindsS, kindsS_of h3.symm r]
    congr 1
    refine List.ext_getElem (by simp [h1]) fun i _ _ => by simp [cellKind]
  | .bytes n bs :: l, _, s, h, .bytes h1 r => by
    obtain ⟨s1, s2, rfl, h2, h3⟩ := List.map_eq_append_iff.1 h.symm
    rw [List.map_append, kindsS, kindsS_of h3.symm r]
    congr 1
    refine List.ext_getElem (by simp [HL, h1]) fun i _ _ => by simp [HL, cellKind]
  | .bools n bs :: l, _, s, h, .bools h1 r => by
    obtain ⟨s1, s2, rfl, h2, h3⟩ := List.map_eq_append_iff.1 h.symm
    rw [List.map_append, kindsS, kindsS_of h3.symm r]
    congr 1
    refine List.ext_getElem (by simp [h1]) fun i _ _ => by simp [cellKind]
  | .gen n asx :: l, _, s, h, .gen g h1 r => by
    exfalso
    rw [kindsS] at h
    cases s with
    | nil => simp at h
    | cons a s => simp at h
theorem eqB_spec {t : TypeId} {i : TI} (h : eqB P t i = true) : EqT P t i := by
  unfold eqB at h
  simp only [Bool.and_eq_true, Bool.not_eq_true'] at h
  obtain ⟨⟨h1, h2⟩, h3⟩ := h
  cases hs : sigT P 20 t with
  | none => rw [hs] at h3; cases h3
  | some s =>
    rw [hs] at h3
    have h4 : kindsS i.zero = s.map some := by simpa using h3
    refine ⟨h1, fun w xs ys z hz hx hy => ?_⟩
    have hzk := kindsS_of (S := fun _ => True) (w := w) h4 (zeroB_spec hz)
    obtain ⟨b, hb, hbi⟩ := (eq_sig 20 t s hs).2 9980 w xs ys (by rw [hx, hzk, h4]) (by rw [hy, hzk, h4])
    refine ⟨b, ?_, hbi⟩
    simpa [mkV, h2] using hb
end
end Go.Proofs.Ytanpamcecaoanaa

/-
  The machine without memory: its table of functions grows; rules by which it is reckoned. No program is named here.
-/
namespace Go.Proofs.Ytanpamcecaoanaa
set_option maxRecDepth 100000
open Go.RowKit
set_option linter.unusedVariables false
set_option linter.unusedSimpArgs false

def tiInt (k : IntKind) (bytes : Nat) : TI := ⟨1, false, [.ints k 1 [0]], [], [], 0, 0, false, 0, some k, bytes, false, []⟩
def tiByte : TI := ⟨1, false, [.bytes 1 [0]], [], [], 0, 0, false, 0, some .u8, 1, false, []⟩
def tiBool : TI := ⟨1, false, [.bools 1 [false]], [], [], 0, 0, false, 0, none, 1, false, []⟩
def tiStr' : TI := ⟨1, false, [.gen 1 [.v (.string .empty)]], [], [], 0, 0, false, 0, none, 16, false, []⟩
def tiPtr : TI := ⟨1, false, [.gen 1 [.v (.pointer none)]], [], [], 0, 0, false, 0, none, 8, false, []⟩
def tiSl (elem : TypeId) (esz : Nat) : TI := ⟨1, false, [.gen 1 [.v (.slice none 0 0)]], [], [], esz, 0, true, elem, none, 24, false, []⟩
def tiArr (n : Nat) (elem : TypeId) (esz : Nat) (zero : List Seg) (bytes : Nat) : TI := ⟨n * esz, true, zero, [], [], esz, n, false, elem, none, bytes, true, []⟩
def tiStruct (sz : Nat) (zero : List Seg) (fld : List Nat) (fty : List TypeId) (bytes : Nat) (eq : Bool) (plc : List (Nat × Nat)) : TI := ⟨sz, true, zero, fld, fty, 0, 0, false, 0, none, bytes, eq, plc⟩

structure FnThere (P : Program) (f : FuncId) : Prop where
  out : ∃ fn, P.funcs[f]? = some fn ∧ fn.body.isNone = false ∧ (fn.name == "runtime.NumGoroutine") = false

/-- one function more is known -/
noncomputable def EnvX.add (E : EnvX) (f0 : FuncId) (spec : List A → (Res → Prop) → Prop) (h : ∀ args K, spec args K → ∃ r, FnOK E.P E.G f0 args r ∧ K r) (hf : FnThere E.P f0) : EnvX :=
  { P := E.P, Y := E.Y, G := E.G, C := fun f args K => if f = f0 then spec args K else E.C f args K, M := E.M, B := E.B, hY := E.hY, hMu := E.hMu, hB := E.hB,
    hC := fun f args K hc => by
      by_cases e : f = f0
      · subst e; rw [if_pos rfl] at hc; exact h args K hc
      · rw [if_neg e] at hc; exact E.hC f args K hc
    hF := fun f args K hc => by
      by_cases e : f = f0
      · subst e; exact hf.out
      · rw [if_neg e] at hc; exact E.hF f args K hc
    fr := fun f => if f = f0 then false else E.fr f
    hfr := fun f args K h hc => by
      by_cases e : f = f0
      · subst e; rw [if_pos rfl] at h; cases h
      · rw [if_neg e] at h hc; exact E.hfr f args K h hc
    hE := E.hE, hM := E.hM }
/-- one function more, whose answers lie in new memory -/
noncomputable def EnvX.addF (E : EnvX) (f0 : FuncId) (spec : List A → (Res → Prop) → Prop) (h : ∀ args K, spec args K → ∃ r, FnOK E.P E.G f0 args r ∧ FnF E.P E.G f0 args r ∧ K r) (hf : FnThere E.P f0) : EnvX :=
  { P := E.P, Y := E.Y, G := E.G, C := fun f args K => if f = f0 then spec args K else E.C f args K, M := E.M, B := E.B, hY := E.hY, hMu := E.hMu, hB := E.hB,
    hC := fun f args K hc => by
      by_cases e : f = f0
      · subst e; rw [if_pos rfl] at hc; obtain ⟨r, h1, _, h2⟩ := h args K hc; exact ⟨r, h1, h2⟩
      · rw [if_neg e] at hc; exact E.hC f args K hc
    hF := fun f args K hc => by
      by_cases e : f = f0
      · subst e; exact hf.out
      · rw [if_neg e] at hc; exact E.hF f args K hc
    fr := fun f => if f = f0 then true else E.fr f
    hfr := fun f args K h1 hc => by
      by_cases e : f = f0
      · subst e; rw [if_pos rfl] at hc; exact h args K hc
      · rw [if_neg e] at h1 hc; exact E.hfr f args K h1 hc
    hE := E.hE, hM := E.hM }
/-- one function more to which a block is lent -/
noncomputable def EnvX.addM (E : EnvX) (f0 : FuncId) (spec : Nat → Bk → List A → (Res → Bk → Prop) → Prop) (h : ∀ pos x args K, spec pos x args K → ∃ r x', FnM E.P E.G f0 pos x args r x' ∧ K r x') (hf : FnThere E.P f0) : EnvX :=
  { P := E.P, Y := E.Y, G := E.G, C := E.C, M := fun f pos x args K => if f = f0 then spec pos x args K else E.M f pos x args K, B := E.B, hB := E.hB, hY := E.hY,
    hMu := fun f pos x args K hc => by
      by_cases e : f = f0
      · subst e; rw [if_pos rfl] at hc; exact ⟨h pos x args K hc, hf.out⟩
      · rw [if_neg e] at hc; exact E.hMu f pos x args K hc
    fr := E.fr, hfr := E.hfr, hC := E.hC, hF := E.hF, hE := E.hE, hM := E.hM }

/-- one function more to which an object is lent -/
noncomputable def EnvX.addB (E : EnvX) (f0 : FuncId) (spec : Nat → OP → List A → (Res → OP → Prop) → Prop) (h : ∀ pos p args K, spec pos p args K → ∃ r p', FnB E.P E.G f0 pos p args r p' ∧ K r p') (hf : FnThere E.P f0) : EnvX :=
  { P := E.P, Y := E.Y, G := E.G, C := E.C, M := E.M, B := fun f pos p args K => if f = f0 then spec pos p args K else E.B f pos p args K, hY := E.hY,
    hB := fun f pos p args K hc => by
      by_cases e : f = f0
      · subst e; rw [if_pos rfl] at hc; exact ⟨h pos p args K hc, hf.out⟩
      · rw [if_neg e] at hc; exact E.hB f pos p args K hc
    fr := E.fr, hfr := E.hfr, hMu := E.hMu, hC := E.hC, hF := E.hF, hE := E.hE, hM := E.hM }

theorem leLe {a b : Nat} (h : a ≤ b) : Nat.le a b := h
theorem wn1 : IntKind.i64.wrap 1 = 1 := by decide
theorem wn2 : IntKind.i64.wrap 2 = 2 := by decide
theorem wn3 : IntKind.i64.wrap 3 = 3 := by decide
theorem wn4 : IntKind.i64.wrap 4 = 4 := by decide
theorem wn5 : IntKind.i64.wrap 5 = 5 := by decide
theorem wn6 : IntKind.i64.wrap 6 = 6 := by decide
theorem wn7 : IntKind.i64.wrap 7 = 7 := by decide
theorem wn8 : IntKind.i64.wrap 8 = 8 := by decide
theorem wn9 : IntKind.i64.wrap 9 = 9 := by decide
theorem wn10 : IntKind.i64.wrap 10 = 10 := by decide
theorem wn11 : IntKind.i64.wrap 11 = 11 := by decide
theorem wn12 : IntKind.i64.wrap 12 = 12 := by decide
theorem wn13 : IntKind.i64.wrap 13 = 13 := by decide
theorem wn14 : IntKind.i64.wrap 14 = 14 := by decide
theorem wn15 : IntKind.i64.wrap 15 = 15 := by decide
theorem wn16 : IntKind.i64.wrap 16 = 16 := by decide
theorem condK_split {b : Bool} {x y : Prop} (h1 : b = true → x) (h2 : b = false → y) : condK b x y := by cases b; exact h2 rfl; exact h1 rfl
theorem condK_is {b : Bool} {x y : Prop} (h : b = true) (hx : x) : condK b x y := by rw [h]; exact hx
theorem condK_isnt {b : Bool} {x y : Prop} (h : b = false) (hy : y) : condK b x y := by rw [h]; exact hy
theorem regA_nil {E : EnvX} {ops : List Oper} {s : St} {k : St → Prop} (h : k s) : regA E ops [] s k := h
theorem regA_cons {E : EnvX} {ops : List Oper} {o : Oper} {r : List Oper} {s : St} {k : St → Prop} (h : mutK E o s (fun s' => Stop (regA E ops r s' k)) (stepK E ops o s s.h.length fun t blk => Stop (regA E ops r (s.app2 o.dst t blk) k))) : regA E ops (o :: r) s k := h
theorem regDr_intro {E : EnvX} {l : List Oper} {s : St} {k : St → Prop} (n : Nat) (hn : cntAlloc l = n) (h1 : tabOK l = true)
    (h2 : StopD (regD E l s.h.length n l 0 ⟨s.t, s.h ++ List.replicate (n + 1) none⟩ [] fun acc s' => chkB (depsL l) s.h.length (s.h.length + n) acc = true ∧ k ⟨s'.t, trimH s'.h⟩)) : regDr E l s k := by
  subst hn
  exact ⟨h1, h2.out⟩
/-- what is normalised next -/
def Nrm {α : Type} (f : α → Prop) (x : α) : Prop := f x
theorem toA {E : EnvX} {ops r : List Oper} {s : St} {k : St → Prop} (h : Nrm (fun s => regA E ops r s k) s) : Stop (regA E ops r s k) := ⟨h⟩
theorem ofA {E : EnvX} {ops r : List Oper} {s : St} {k : St → Prop} (h : regA E ops r s k) : Nrm (fun s => regA E ops r s k) s := h
theorem toE {E : EnvX} {l : List Oper} {s : St} {k : St → Prop} (h : Nrm (fun s => regDr E l s k) s) : StopE (regDr E l s k) := ⟨h⟩
theorem ofE {E : EnvX} {l : List Oper} {s : St} {k : St → Prop} (h : regDr E l s k) : Nrm (fun s => regDr E l s k) s := h
theorem toD {E : EnvX} {ops r : List Oper} {n0 tot c : Nat} {s : St} {acc : List Foot} {k : List Foot → St → Prop} (h : Nrm (fun p : Nat × Nat × Nat × St × List Foot => regD E ops p.1 p.2.1 r p.2.2.1 p.2.2.2.1 p.2.2.2.2 k) (n0, tot, c, s, acc)) : StopD (regD E ops n0 tot r c s acc k) := ⟨h⟩
theorem ofD {E : EnvX} {ops r : List Oper} {n0 tot c : Nat} {s : St} {acc : List Foot} {k : List Foot → St → Prop} (h : regD E ops n0 tot r c s acc k) : Nrm (fun p : Nat × Nat × Nat × St × List Foot => regD E ops p.1 p.2.1 r p.2.2.1 p.2.2.2.1 p.2.2.2.2 k) (n0, tot, c, s, acc) := h
theorem regD_cons {E : EnvX} {ops : List Oper} {n0 tot : Nat} {o : Oper} {r : List Oper} {c : Nat} {s : St} {acc : List Foot} {k : List Foot → St → Prop}
    (h : stepK E ops o s (if isAlloc o = true then n0 + c else n0 + tot) fun t blk =>
      StopD (regD E ops n0 tot r (if isAlloc o = true then c + 1 else c) (s.app o.dst t blk) (acc ++ [(opRefs s o, blk.map (·.1), if isAlloc o = true then n0 + c else n0 + tot)]) k)) : regD E ops n0 tot (o :: r) c s acc k := h
theorem regD_nil {E : EnvX} {ops : List Oper} {n0 tot : Nat} {c : Nat} {s : St} {acc : List Foot} {k : List Foot → St → Prop} (h : k acc s) : regD E ops n0 tot [] c s acc k := h
theorem loop_unroll {body : St → (Exit → St → Prop) → Prop} {s : St} {k : Exit → St → Prop} (n : Nat) (h : LoopU body k n s) : LoopA body s k ∨ LoopI body s k := .inl (.inl ⟨n, h⟩)
theorem loop_inv {body : St → (Exit → St → Prop) → Prop} {s : St} {k : Exit → St → Prop} (live : List Nat) (m : Nat) (I : St → Prop) (μ : St → Nat) (h1 : liveOK live m s) (h2 : I (weaken live m s))
    (h3 : ∀ s, I s → body s fun e s' => match e with | .normal => liveOK live m s' ∧ I (weaken live m s') ∧ μ (weaken live m s') < μ s | e => k e s') (h0 : 0 < m := by decide) : LoopA body s k ∨ LoopI body s k := .inl (.inr ⟨s, live, m, I, μ, .refl s, h0, h1, h2, h3⟩)
/-- the same, where a slice that is nil may grow -/
theorem loop_nil {body : St → (Exit → St → Prop) → Prop} {s : St} {k : Exit → St → Prop} (live : List Nat) (m : Nat) (i : Nat) (e : TypeId) (sz : Nat) (l : List Seg) (I : St → Prop) (μ : St → Nat) (h1 : liveOK live m s) (hn : (weaken live m s).sl i = .d (.v (.slice none 0 0))) (hl : l.all segNil = true)
    (h1' : liveOK live (m + 1) (ownNil (weaken live m s) i e sz l)) (h2 : I (weaken live (m + 1) (ownNil (weaken live m s) i e sz l)))
    (h3 : ∀ s, I s → body s fun e s' => match e with | .normal => liveOK live (m + 1) s' ∧ I (weaken live (m + 1) s') ∧ μ (weaken live (m + 1) s') < μ s | e => k e s') (h0 : 0 < m := by decide) : LoopA body s k ∨ LoopI body s k :=
  .inl (.inr ⟨ownNil (weaken live m s) i e sz l, live, m + 1, I, μ, (Ent.weaken h0 h1).trans (.nil hn hl), by omega, h1', h2, h3⟩)
/-- what is left to be shown -/
structure Left (q : Prop) : Prop where
  out : q
structure Isq (q : Prop) : Prop where
  out : True
theorem isqT : Isq True := ⟨trivial⟩
theorem isqA {q : Prop} : Isq q := ⟨trivial⟩
/-- reckoned as far as it goes: what is left is q -/
theorem ago {p q : Prop} (left : q) (h : (Left q → p) ∧ Isq q := by
    refine And.intro ?_ ?_
    · intro left_is
      (conv => whnf); repeat ((first | (refine And.intro ?_ ?_; focus (first | exact rfl | exact Nat.le_of_ble_eq_true rfl | exact Or.inr rfl | exact Or.inl rfl | (intro hx; cases hx <;> fail) | (intro _; rfl) | exact ⟨_, rfl, rfl⟩ | omega | (simp only [Seg.n, segN, tiInt, tiBool, tiSl, tiArr, tiStruct]; omega) | (refine leLe ?_; (try simp only [Seg.n, segN, tiInt, tiBool, tiSl, tiArr, tiStruct]); omega) | assumption | decide | (simp [Seg.n, segN, tiInt, tiBool, tiSl, tiArr, tiStruct, *] <;> omega))) | (refine ⟨_, And.intro rfl ?_⟩) | (refine StopC.mk ?_; first | (refine condK_is ?_ ?_; focus (first | rfl | assumption | (simp only [bne, beq_iff_eq, beq_eq_false_iff_ne, ne_eq, Bool.not_eq_true', Bool.not_eq_false', decide_eq_true_eq, decide_eq_false_iff_not, ge_iff_le, gt_iff_lt, *] <;> omega) | (simp [eqSegs, *] <;> omega))) | (refine condK_isnt ?_ ?_; focus (first | rfl | assumption | (simp only [bne, beq_iff_eq, beq_eq_false_iff_ne, ne_eq, Bool.not_eq_true', Bool.not_eq_false', decide_eq_true_eq, decide_eq_false_iff_not, ge_iff_le, gt_iff_lt, *] <;> omega) | (simp [eqSegs, *] <;> omega)))) | ((first | refine toA ?_ | refine toE ?_ | refine toD ?_); (try (conv => arg 2; simp only [Seg.n, wn1, wn2, wn3, wn4, wn5, wn6, wn7, wn8, wn9, wn10, wn11, wn12, wn13, wn14, wn15, wn16, Int.reduceAdd, Int.zero_add, Seg.cell, Seg.sub, List.set_nil, isAlloc, trimH, List.take_append_drop, St.app, St.app2, St.ev, List.getD_cons_zero, List.getD_cons_succ, List.getD_nil, St.sl, St.bk, tiInt, tiBool, tiSl, tiArr, tiStruct, weaken, keepT, List.set_cons_zero, List.set_cons_succ, List.length_cons, List.length_nil, List.cons_append, List.nil_append, List.append_nil, List.map_cons, List.map_nil, List.replicate_succ, List.replicate_zero, List.take_succ_cons, List.take_zero, List.drop_succ_cons, List.drop_zero, List.take_nil, List.drop_nil, Nat.reduceAdd, Nat.reduceSub, Nat.reduceMul, Nat.reduceEqDiff, Nat.reduceLT, Nat.reduceLeDiff, Nat.zero_add, Nat.add_zero, Nat.sub_self, Nat.sub_zero, Nat.one_mul, Nat.mul_one, Nat.zero_mul, joinS, manyS, List.flatten_cons, List.flatten_nil, eq_self, ite_true, if_true, if_false, ↓reduceIte, reduceCtorEq, Int.reduceToNat, cntAlloc, opRefs])); first | (refine ofA ?_; (conv => arg 3; whnf); first | refine regA_cons ?_ | refine regA_nil ?_) | (refine ofD ?_; (conv => arg 5; whnf); first | refine regD_cons ?_ | refine regD_nil ?_) | (refine ofE ?_; (conv => arg 2; whnf); (refine regDr_intro _ rfl ?_ ?_); focus (kernel_rfl)))); (conv => whnf))
      all_goals exact left_is.out
    · first | with_reducible exact isqT | exact isqA) : p := h.1 ⟨left⟩
theorem agom {p q : Prop} (left : q) (h : (Left q → p) ∧ Isq q := by
    refine And.intro ?_ ?_
    · intro left_is
      (conv => whnf); repeat ((first | (refine And.intro ?_ ?_; focus (first | exact rfl | exact Nat.le_of_ble_eq_true rfl | exact Or.inr rfl | exact Or.inl rfl | (intro hx; cases hx <;> fail) | (intro _; rfl) | exact ⟨_, rfl, rfl⟩ | omega | (simp only [Seg.n, segN, tiInt, tiBool, tiSl, tiArr, tiStruct]; omega) | (refine leLe ?_; (try simp only [Seg.n, segN, tiInt, tiBool, tiSl, tiArr, tiStruct]); omega) | assumption | decide | (simp [Seg.n, segN, tiInt, tiBool, tiSl, tiArr, tiStruct, *] <;> omega))) | (refine ⟨_, And.intro rfl ?_⟩) | (refine StopC.mk ?_; first | (refine condK_is ?_ ?_; focus (first | rfl | assumption | (simp only [bne, beq_iff_eq, beq_eq_false_iff_ne, ne_eq, Bool.not_eq_true', Bool.not_eq_false', decide_eq_true_eq, decide_eq_false_iff_not, ge_iff_le, gt_iff_lt, *] <;> omega) | (simp [eqSegs, *] <;> omega))) | (refine condK_isnt ?_ ?_; focus (first | rfl | assumption | (simp only [bne, beq_iff_eq, beq_eq_false_iff_ne, ne_eq, Bool.not_eq_true', Bool.not_eq_false', decide_eq_true_eq, decide_eq_false_iff_not, ge_iff_le, gt_iff_lt, *] <;> omega) | (simp [eqSegs, *] <;> omega)))) | ((first | refine toA ?_ | refine toE ?_ | refine toD ?_); (try (conv => arg 2; simp only [Int.toNat_natCast, Seg.n, wn1, wn2, wn3, wn4, wn5, wn6, wn7, wn8, wn9, wn10, wn11, wn12, wn13, wn14, wn15, wn16, Int.reduceAdd, Int.zero_add, Seg.cell, Seg.sub, List.set_nil, isAlloc, trimH, List.take_append_drop, St.app, St.app2, St.ev, List.getD_cons_zero, List.getD_cons_succ, List.getD_nil, St.sl, St.bk, tiInt, tiBool, tiSl, tiArr, tiStruct, weaken, keepT, List.set_cons_zero, List.set_cons_succ, List.length_cons, List.length_nil, List.cons_append, List.nil_append, List.append_nil, List.map_cons, List.map_nil, List.replicate_succ, List.replicate_zero, List.take_succ_cons, List.take_zero, List.drop_succ_cons, List.drop_zero, List.take_nil, List.drop_nil, Nat.reduceAdd, Nat.reduceSub, Nat.reduceMul, Nat.reduceEqDiff, Nat.reduceLT, Nat.reduceLeDiff, Nat.zero_add, Nat.add_zero, Nat.sub_self, Nat.sub_zero, Nat.one_mul, Nat.mul_one, Nat.zero_mul, joinS, manyS, List.flatten_cons, List.flatten_nil, eq_self, ite_true, if_true, if_false, ↓reduceIte, reduceCtorEq, Int.reduceToNat, cntAlloc, opRefs])); first | (refine ofA ?_; (conv => arg 3; whnf); first | refine regA_cons ?_ | refine regA_nil ?_) | (refine ofD ?_; (conv => arg 5; whnf); first | refine regD_cons ?_ | refine regD_nil ?_) | (refine ofE ?_; (conv => arg 2; whnf); (refine regDr_intro _ rfl ?_ ?_); focus (kernel_rfl)))); (conv => whnf))
      all_goals exact left_is.out
    · first | with_reducible exact isqT | exact isqA) : p := h.1 ⟨left⟩
/-- a function's contract is begun -/
theorem fnA {E : EnvX} {f : FuncId} {fn : Func} {c : Code} {args : List A} {res : Res} {n : Nat} {t : List T} (hf : E.P.funcs[f]? = some fn) (hnt : fn.ntmps = n)
    (left : wpA E c ⟨t, []⟩ fun e s => (e = .normal ∨ e = .ret) ∧ resK' E s fn.results.toList fun r => r = res) (hb : fn.body = some c := by exact rfl) (hn : args.length ≤ n := by exact Nat.le_of_ble_eq_true rfl)
    (ht : args.map T.d ++ List.replicate (n - args.length) (.d (.v undef)) = t := by (conv => lhs; simp only [Seg.n, wn1, wn2, wn3, wn4, wn5, wn6, wn7, wn8, wn9, wn10, wn11, wn12, wn13, wn14, wn15, wn16, Int.reduceAdd, Int.zero_add, Seg.cell, Seg.sub, List.set_nil, isAlloc, trimH, List.take_append_drop, St.app, St.app2, St.ev, List.getD_cons_zero, List.getD_cons_succ, List.getD_nil, St.sl, St.bk, tiInt, tiBool, tiSl, tiArr, tiStruct, weaken, keepT, List.set_cons_zero, List.set_cons_succ, List.length_cons, List.length_nil, List.cons_append, List.nil_append, List.append_nil, List.map_cons, List.map_nil, List.replicate_succ, List.replicate_zero, List.take_succ_cons, List.take_zero, List.drop_succ_cons, List.drop_zero, List.take_nil, List.drop_nil, Nat.reduceAdd, Nat.reduceSub, Nat.reduceMul, Nat.reduceEqDiff, Nat.reduceLT, Nat.reduceLeDiff, Nat.zero_add, Nat.add_zero, Nat.sub_self, Nat.sub_zero, Nat.one_mul, Nat.mul_one, Nat.zero_mul, joinS, manyS, List.flatten_cons, List.flatten_nil, eq_self, ite_true, if_true, if_false, ↓reduceIte, reduceCtorEq, Int.reduceToNat]); all_goals exact rfl) : FnOK E.P E.G f args res := by
  subst hnt; subst ht; exact fn_of_wpA hf hb hn left
theorem fnMA {E : EnvX} {f : FuncId} {fn : Func} {c : Code} {pos : Nat} {x x' : Bk} {args : List A} {res : Res} {n : Nat} {t : List T} (hf : E.P.funcs[f]? = some fn) (hnt : fn.ntmps = n)
    (left : wpA E c ⟨t, [some x]⟩ fun e s => (e = .normal ∨ e = .ret) ∧ s.bk 0 = some x' ∧ resK' E s fn.results.toList fun r => r = res) (hb : fn.body = some c := by exact rfl) (hn : args.length + 1 ≤ n := by exact Nat.le_of_ble_eq_true rfl) (hp : pos ≤ args.length := by exact Nat.zero_le _)
    (hx : ∀ e sz n l, x ≠ .sl e sz n l := by intro _ _ _ _ h; cases h) (hres : ∀ y, res ≠ .p y := by intro y h; cases h)
    (ht : (args.map T.d).insertIdx pos (.ptr 0 0) ++ List.replicate (n - (args.length + 1)) (.d (.v undef)) = t := by (conv => lhs; simp only [List.insertIdx_zero, Seg.n, wn1, wn2, wn3, wn4, wn5, wn6, wn7, wn8, wn9, wn10, wn11, wn12, wn13, wn14, wn15, wn16, Int.reduceAdd, Int.zero_add, Seg.cell, Seg.sub, List.set_nil, isAlloc, trimH, List.take_append_drop, St.app, St.app2, St.ev, List.getD_cons_zero, List.getD_cons_succ, List.getD_nil, St.sl, St.bk, tiInt, tiBool, tiSl, tiArr, tiStruct, weaken, keepT, List.set_cons_zero, List.set_cons_succ, List.length_cons, List.length_nil, List.cons_append, List.nil_append, List.append_nil, List.map_cons, List.map_nil, List.replicate_succ, List.replicate_zero, List.take_succ_cons, List.take_zero, List.drop_succ_cons, List.drop_zero, List.take_nil, List.drop_nil, Nat.reduceAdd, Nat.reduceSub, Nat.reduceMul, Nat.reduceEqDiff, Nat.reduceLT, Nat.reduceLeDiff, Nat.zero_add, Nat.add_zero, Nat.sub_self, Nat.sub_zero, Nat.one_mul, Nat.mul_one, Nat.zero_mul, joinS, manyS, List.flatten_cons, List.flatten_nil, eq_self, ite_true, if_true, if_false, ↓reduceIte, reduceCtorEq, Int.reduceToNat]); all_goals exact rfl) : FnM E.P E.G f pos x args res x' := by
  subst hnt; subst ht; exact fnM_of_wpA hf hb hn hp hx left hres
end Go.Proofs.Ytanpamcecaoanaa

/-
  Arguments made of numbers and truths, opened; laws out of contracts. No program is named here.
-/
namespace Go.Proofs.Ytanpamcecaoanaa
set_option maxRecDepth 100000
open Go.RowKit Go.ChangeShapes Go.WideShapes
set_option linter.unusedVariables false
set_option linter.unusedSimpArgs false

/-- a number is in its kind's range -/
def wfV : Value → Prop | .int k z => (Lit.int k z).wf = true | _ => True

section
variable {H : Type} {enc : TypeId × Value → H} {P : Program} {w : World} {base b0 : Nat} {spare : Nat → Bool} {held : Bool}

theorem kinds_of_trod : ∀ (d : Nat) (t : TypeId) (s : List (Option IntKind)), sigT P d t = some s → ∀ {fuel : Nat} {cs : List Value} {x : DataW H × List MemPlace}, DataW.trod enc P w base spare held fuel t cs = some x → cs.length = s.length →
    cs.map cellKind = s.map some ∧ ∀ v ∈ cs, wfV v
  | 0, t, s, h => by cases h
  | d + 1, t, s, h => by
    intro hx hl
    rename_i fuel cs x
    have ih := kinds_of_trod d
    unfold sigT at h
    simp only at h
    split at h
    case h_2 => cases h
    next s' hs =>
    split at h
    case h_2 => cases h
    next i hi =>
    split at h
    case isFalse => cases h
    next hsz =>
    cases h
    split at hs
    · next hu =>
      cases hs
      obtain ⟨b, rfl, _⟩ := DataW.trod_bool hu hx
      exact ⟨rfl, by simp [wfV]⟩
    · next k hu =>
      cases hs
      obtain ⟨z, rfl, _, hw⟩ := DataW.trod_int hu hx
      exact ⟨rfl, by simp [wfV, hw]⟩
    · next n e hu =>
      cases he : sigT P d e with
      | none => rw [he] at hs; cases hs
      | some a =>
        rw [he] at hs
        cases hs
        obtain ⟨xs, m, _, _, hcl, hxl, hel⟩ := DataW.trod_array hu hx
        obtain ⟨_, _, _, hce, _⟩ := sigT_info he
        rw [hce] at hel
        have go : ∀ (k j : Nat), j + k = n → (cs.drop (j * a.length)).map cellKind = ((List.replicate k a).flatten).map some ∧ ∀ v ∈ cs.drop (j * a.length), wfV v := by
          intro k
          induction k with
          | zero =>
            intro j hj
            have : cs.drop (j * a.length) = [] := by
              apply List.drop_of_length_le
              rw [hl]; simp; rw [show j = n by omega]; exact Nat.le_refl _
            rw [this]; simp
          | succ k ihk =>
            intro j hj
            obtain ⟨h1, h2⟩ := ihk (j + 1) (by omega)
            have hlt : j < xs.length := by omega
            have h3 := hel j (by omega)
            rw [List.getElem?_eq_getElem hlt] at h3
            have hja : (j + 1) * a.length ≤ cs.length := by
              rw [hl]; simp
              exact Nat.mul_le_mul_right _ (by omega)
            have hjj : (j + 1) * a.length = j * a.length + a.length := by rw [Nat.add_mul, Nat.one_mul]
            obtain ⟨h4, h5⟩ := ih e a he h3 (by simp; omega)
            have split : cs.drop (j * a.length) = (cs.drop (j * a.length)).take a.length ++ cs.drop ((j + 1) * a.length) := by rw [hjj, ← List.drop_drop, List.take_append_drop]
            rw [split, List.map_append, h4, h1, List.replicate_succ, List.flatten_cons, List.map_append]
            refine ⟨rfl, fun v hv => ?_⟩
            rcases List.mem_append.1 hv with hv | hv
            · exact h5 v hv
            · exact h2 v hv
        have := go n 0 (by omega)
        simpa using this
    · next fs hu =>
      split at hs
      · cases hs
      · obtain ⟨xs, m, _, _, hcl, hxl, hel⟩ := DataW.trod_struct hu hx
        have go : ∀ (fl : List Field) (j off : Nat) (s : List (Option IntKind)), fs.toList.drop j = fl → sigF (sigT P d) off fl = some s → off + s.length = cs.length → (cs.drop off).map cellKind = s.map some ∧ ∀ v ∈ cs.drop off, wfV v := by
          intro fl
          induction fl with
          | nil =>
            intro j off s _ hs hlen
            cases hs
            have : cs.drop off = [] := List.drop_of_length_le (by simp at hlen; omega)
            rw [this]; simp
          | cons f fl ihf =>
            intro j off s hd hs hlen
            unfold sigF at hs
            split at hs
            · next hf =>
              cases ha : sigT P d f.type with
              | none => rw [ha] at hs; cases hs
              | some a =>
                rw [ha] at hs
                cases hr : sigF (sigT P d) (off + a.length) fl with
                | none => simp [hr] at hs
                | some b =>
                  simp only [hr, Option.map_some, Option.some.injEq] at hs
                  subst hs
                  rw [List.length_append] at hlen
                  have hj : fs[j]? = some f := by
                    have := congrArg (·[0]?) hd
                    simpa using this
                  have hjl : j < xs.length := by
                    have := (Array.getElem?_eq_some_iff.1 hj).1
                    omega
                  obtain ⟨h1, h2⟩ := ihf (j + 1) (off + a.length) b (by
                    have := congrArg (List.drop 1) hd
                    rw [List.drop_drop] at this; simpa using this) hr (by omega)
                  have h3 := hel j f hj
                  obtain ⟨_, _, _, hca, _⟩ := sigT_info ha
                  rw [List.getElem?_eq_getElem hjl, hca, hf.2] at h3
                  obtain ⟨h4, h5⟩ := ih f.type a ha h3 (by simp; omega)
                  have split : cs.drop off = (cs.drop off).take a.length ++ cs.drop (off + a.length) := by rw [← List.drop_drop, List.take_append_drop]
                  rw [split, List.map_append, h4, h1, List.map_append]
                  refine ⟨rfl, fun v hv => ?_⟩
                  rcases List.mem_append.1 hv with hv | hv
                  · exact h5 v hv
                  · exact h2 v hv
            · cases hs
        have := go fs.toList 0 0 _ (by simp) hs (by rw [hl]; simp)
        simpa using this
    · cases hs

theorem ints_of_kinds {k : IntKind} : ∀ (cs : List Value), (∀ v ∈ cs, cellKind v = some (some k)) → (∀ v ∈ cs, wfV v) → ∃ zs : List Int, cs = zs.map (Value.int k) ∧ ∀ z ∈ zs, (Lit.int k z).wf = true
  | [], _, _ => ⟨[], rfl, by simp⟩
  | v :: cs, h, hw => by
    obtain ⟨zs, rfl, h2⟩ := ints_of_kinds cs (fun u hu => h u (by simp [hu])) (fun u hu => hw u (by simp [hu]))
    have h3 := h v (by simp)
    have h4 := hw v (by simp)
    cases v <;> simp [cellKind] at h3
    subst h3
    rename_i z
    exact ⟨z :: zs, rfl, fun y hy => by rcases List.mem_cons.1 hy with rfl | hy; exact h4; exact h2 y hy⟩
/-- a struct or an array of whole numbers -/
theorem open_flat {r : Reach} {t : TypeId} {v : Value} {dd : DataW H} {ps : List MemPlace} {n : Nat} (hs : sigT P 20 t = some (List.replicate n (some .i64))) (ha : aggOf P t = true)
    (hval : Value.okWide P w r b0 t v) (h : DataW.Trod enc P w base spare held t v dd ps) : ∃ zs : List Int, v = .agg (zs.map (Value.int .i64)).toArray ∧ zs.length = n ∧ ∀ z ∈ zs, (Lit.int .i64 z).wf = true := by
  obtain ⟨cs, rfl, hsz⟩ : ∃ cs, v = .agg cs ∧ cs.size = P.cellsOf t := by
    unfold Value.okWide at hval
    unfold aggOf at ha
    split at hval
    · obtain ⟨cs, h1, h2, _⟩ := hval; exact ⟨cs, h1, h2⟩
    · obtain ⟨cs, h1, h2, _⟩ := hval; exact ⟨cs, h1, h2⟩
    · next h1 h2 =>
      split at ha
      · next fs hu => exact absurd hu (h1 fs)
      · next n e hu => exact absurd hu (h2 n e)
      · cases ha
  obtain ⟨fuel, hf⟩ := h
  obtain ⟨_, _, _, hc, _⟩ := sigT_info hs
  have hl : cs.toList.length = n := by rw [Array.length_toList, hsz, hc]; simp
  obtain ⟨h1, h2⟩ := kinds_of_trod 20 t _ hs hf (by simp [Value.cells]; simpa using hl)
  obtain ⟨zs, h3, h4⟩ := ints_of_kinds cs.toList (k := .i64) (fun v hv => by
    have : cellKind v ∈ ((Value.agg cs).cells.toList).map cellKind := List.mem_map.2 ⟨v, hv, rfl⟩
    rw [h1] at this
    simp at this
    first | exact this.2.symm | exact this.2) h2
  refine ⟨zs, ?_, ?_, h4⟩
  · rw [← h3]
  · rw [← hl, h3, List.length_map]
end

/-- nil is a slice of one's own with nothing in it -/
theorem fnNil {P : Program} {G : Nat → Option (List Seg)} {f : FuncId} {args : List A} {e : TypeId} {sz : Nat} {l : List Seg} (h : FnOK P G f args (.d (.v (.slice none 0 0)))) (hl : l.all segNil = true) : FnOK P G f args (.o e sz 0 l) := by
  intro S w vs hG ha
  refine (h S w vs hG ha).mono ?_
  rintro e' w' ⟨v, rfl, h1, h2⟩
  refine ⟨v, rfl, ⟨[], ?_, rl_nil hl⟩, h2⟩
  rw [RA.plain h1]
  exact World.ownsRow_nil _ _ _ _
/-- a struct or an array of numbers and truths: its cells by their kinds -/
theorem open_agg {H : Type} {enc : TypeId × Value → H} {P : Program} {w : World} {base b0 : Nat} {spare : Nat → Bool} {held : Bool} {r : Reach} {t : TypeId} {v : Value} {dd : DataW H} {ps : List MemPlace} {sg : List (Option IntKind)} (hs : sigT P 20 t = some sg) (ha : aggOf P t = true)
    (hval : Value.okWide P w r b0 t v) (h : DataW.Trod enc P w base spare held t v dd ps) : ∃ cs : List Value, v = .agg cs.toArray ∧ cs.map cellKind = sg.map some ∧ ∀ u ∈ cs, wfV u := by
  obtain ⟨cs, rfl, hsz⟩ : ∃ cs, v = .agg cs ∧ cs.size = P.cellsOf t := by
    unfold Value.okWide at hval
    unfold aggOf at ha
    split at hval
    · obtain ⟨cs, h1, h2, _⟩ := hval; exact ⟨cs, h1, h2⟩
    · obtain ⟨cs, h1, h2, _⟩ := hval; exact ⟨cs, h1, h2⟩
    · next h1 h2 =>
      split at ha
      · next fs hu => exact absurd hu (h1 fs)
      · next n e hu => exact absurd hu (h2 n e)
      · cases ha
  obtain ⟨fuel, hf⟩ := h
  obtain ⟨_, _, _, hc, _⟩ := sigT_info hs
  have hl : cs.toList.length = sg.length := by rw [Array.length_toList, hsz, hc]
  obtain ⟨h1, h2⟩ := kinds_of_trod 20 t _ hs hf (by simp [Value.cells]; simpa using hl)
  exact ⟨cs.toList, by simp, h1, h2⟩
theorem kinds_split {cs : List Value} {a b : List (Option IntKind)} (h : cs.map cellKind = (a ++ b).map some) (hw : ∀ u ∈ cs, wfV u) :
    ∃ c d, cs = c ++ d ∧ c.map cellKind = a.map some ∧ d.map cellKind = b.map some ∧ (∀ u ∈ c, wfV u) ∧ ∀ u ∈ d, wfV u := by
  refine ⟨cs.take a.length, cs.drop a.length, (List.take_append_drop _ _).symm, ?_, ?_, fun u hu => hw u (List.mem_of_mem_take hu), fun u hu => hw u (List.mem_of_mem_drop hu)⟩
  · rw [List.map_take, h, List.map_append, List.take_append_of_le_length (by simp), List.take_of_length_le (by simp)]
  · rw [List.map_drop, h, List.map_append, List.drop_append_of_le_length (by simp), List.drop_of_length_le (by simp), List.nil_append]
theorem kinds_ints {k : IntKind} {n : Nat} {cs : List Value} (h : cs.map cellKind = (List.replicate n (some k)).map some) (hw : ∀ u ∈ cs, wfV u) : ∃ zs : List Int, cs = zs.map (Value.int k) ∧ zs.length = n ∧ ∀ z ∈ zs, (Lit.int k z).wf = true := by
  obtain ⟨zs, h3, h4⟩ := ints_of_kinds cs (k := k) (fun v hv => by
    have : cellKind v ∈ cs.map cellKind := List.mem_map.2 ⟨v, hv, rfl⟩
    rw [h] at this
    simp at this
    first | exact this.2.symm | exact this.2) hw
  refine ⟨zs, h3, ?_, h4⟩
  have := congrArg List.length h
  rw [h3] at this
  simpa using this
theorem kinds_bytes {n : Nat} {cs : List Value} (h : cs.map cellKind = (List.replicate n (some .u8)).map some) (hw : ∀ u ∈ cs, wfV u) : ∃ bs : List UInt8, cs = HL bs ∧ bs.length = n := by
  obtain ⟨zs, rfl, h2, h3⟩ := kinds_ints h hw
  refine ⟨zs.map fun z => UInt8.ofNat z.toNat, ?_, by simpa using h2⟩
  unfold HL
  rw [List.map_map]
  refine List.map_congr_left fun z hz => ?_
  have hb := h3 z hz
  simp [Lit.wf, IntKind.signed, IntKind.bits, IntKind.min, IntKind.max] at hb
  simp only [Function.comp, Bt]
  congr 1
  simp
  omega
theorem kinds_bools {n : Nat} {cs : List Value} (h : cs.map cellKind = (List.replicate n none).map some) : ∃ bs : List Bool, cs = bs.map Value.bool ∧ bs.length = n := by
  have hl : cs.length = n := by have := congrArg List.length h; simpa using this
  refine ⟨cs.map fun | .bool b => b | _ => false, ?_, by simpa using hl⟩
  rw [List.map_map]
  conv => lhs; rw [← List.map_id cs]
  refine List.map_congr_left fun v hv => ?_
  have : cellKind v ∈ cs.map cellKind := List.mem_map.2 ⟨v, hv, rfl⟩
  rw [h] at this
  simp at this
  have hk : cellKind v = some none := by first | exact this.2.symm | exact this.2
  cases v <;> simp [cellKind] at hk
  rfl
theorem open_bools {H : Type} {enc : TypeId × Value → H} {P : Program} {w : World} {base b0 : Nat} {spare : Nat → Bool} {held : Bool} {r : Reach} {t : TypeId} {v : Value} {dd : DataW H} {ps : List MemPlace} {n : Nat} (hs : sigT P 20 t = some (List.replicate n none)) (ha : aggOf P t = true)
    (hval : Value.okWide P w r b0 t v) (h : DataW.Trod enc P w base spare held t v dd ps) : ∃ bs : List Bool, v = .agg (bs.map Value.bool).toArray ∧ bs.length = n := by
  obtain ⟨cs, rfl, h1, _⟩ := open_agg hs ha hval h
  obtain ⟨bs, rfl, h2⟩ := kinds_bools h1
  exact ⟨bs, rfl, h2⟩
/-- a law's call out of its contract -/
theorem law_of_fn {P : Program} {G : Nat → Option (List Seg)} {f : FuncId} {args : List A} {vs : List Value} {w : World} (h : FnOK P G f args (.d (.v (.bool true)))) (hG : GOK G (fun _ => True) w) (ha : RAs (fun _ => True) w args vs) :
    Calls P f vs.toArray w fun e w' => e = .returned (.bool true) ∧ Below w.heap.size w w' := by
  refine (h _ w vs hG ha).mono ?_
  rintro e w' ⟨v, rfl, h1, h2⟩
  rw [RA.plain h1]
  exact ⟨rfl, h2⟩
theorem ra_ints {S : Nat → Prop} {w : World} {k : IntKind} {n : Nat} {zs : List Int} (h : zs.length = n) : RA S w (.agg [.ints k n zs]) (.agg (zs.map (Value.int k)).toArray) := .agg (.ofInts h rfl)
/-- contracts of functions that take and give plain values, and leave memory asx it is -/
theorem fn_plain1 {P : Program} {G : Nat → Option (List Seg)} {f : FuncId} {x v : Value} (h : ∀ w, Calls P f #[x] w fun e w' => e = .returned v ∧ w = w') : FnOK P G f [.v x] (.d (.v v)) := by
  intro S w vs _ ha
  cases ha with
  | cons h1 r =>
    cases r
    rw [RA.plain h1]
    refine (h w).mono ?_
    rintro e w' ⟨rfl, rfl⟩
    exact ⟨v, rfl, .v v, Below.refl _ _⟩
theorem fn_plain2 {P : Program} {G : Nat → Option (List Seg)} {f : FuncId} {x y v : Value} (h : ∀ w, Calls P f #[x, y] w fun e w' => e = .returned v ∧ w = w') : FnOK P G f [.v x, .v y] (.d (.v v)) := by
  intro S w vs _ ha
  cases ha with
  | cons h1 r =>
    cases r with
    | cons h2 r =>
      cases r
      rw [RA.plain h1, RA.plain h2]
      refine (h w).mono ?_
      rintro e w' ⟨rfl, rfl⟩
      exact ⟨v, rfl, .v v, Below.refl _ _⟩
theorem wrapS {z : Int} (h0 : -9223372036854775808 ≤ z) (h1 : z ≤ 9223372036854775807) : IntKind.i64.wrap z = z := by
  have e1 : (2 : Int) ^ 64 = 18446744073709551616 := by decide
  have e2 : (2 : Int) ^ (64 - 1) = 9223372036854775808 := by decide
  simp only [IntKind.wrap, IntKind.signed, IntKind.bits, Bool.true_and, decide_eq_true_eq, e1, e2]
  split <;> omega
end Go.Proofs.Ytanpamcecaoanaa

/-
  What is handed in is asx long asx it says. No program is named here.
-/
namespace Go.Proofs.Ytanpamcecaoanaa
set_option maxRecDepth 100000
open Go.RowKit
set_option linter.unusedVariables false
set_option linter.unusedSimpArgs false

def segLens : List Seg → Prop
  | [] => True
  | .ints _ n zs :: l => zs.length = n ∧ segLens l
  | .bytes n bs :: l => bs.length = n ∧ segLens l
  | .bools n bs :: l => bs.length = n ∧ segLens l
  | .gen n asx :: l => asx.length = n ∧ segLens l
def argLens : List A → Prop
  | [] => True
  | .agg l :: r => segLens l ∧ argLens r
  | .row _ l :: r => segLens l ∧ argLens r
  | _ :: r => argLens r
theorem rl_lens {S : Nat → Prop} {w : World} : ∀ {l : List Seg} {cs : List Value}, RL S w l cs → segLens l
  | _, _, .nil => trivial
  | _, _, .ints h r => ⟨h, rl_lens r⟩
  | _, _, .bytes h r => ⟨h, rl_lens r⟩
  | _, _, .bools h r => ⟨h, rl_lens r⟩
  | _, _, .gen _ h r => ⟨h, rl_lens r⟩
theorem ras_lens {S : Nat → Prop} {w : World} : ∀ {l : List A} {vs : List Value}, RAs S w l vs → argLens l
  | _, _, .nil => trivial
  | _, _, .cons h r => by
    have ih := ras_lens r
    cases h with
    | v => exact ih
    | agg h => exact ⟨rl_lens h, ih⟩
    | row h => exact ⟨rl_lens h, ih⟩
    | ref => exact ih
    | sref => exact ih
    | recs => exact ih
    | clo => exact ih
theorem fn_lens {P : Program} {G : Nat → Option (List Seg)} {f : FuncId} {args : List A} {res : Res} (h : argLens args → FnOK P G f args res) : FnOK P G f args res :=
  fun S w vs hG ha => h (ras_lens ha) S w vs hG ha
theorem hb_lens {D : Nat → Prop} {w : World} {r : Nat} {l : List Seg} (h : HB D w r (.var l)) : segLens l := by
  obtain ⟨cs, t, _, h⟩ := h
  exact rl_lens h
theorem fnM_lens {P : Program} {G : Nat → Option (List Seg)} {f : FuncId} {pos : Nat} {l : List Seg} {x' : Bk} {args : List A} {res : Res} (h : segLens l → argLens args → FnM P G f pos (.var l) args res x') : FnM P G f pos (.var l) args res x' :=
  fun S w r vs hr hG hb ha => h (hb_lens hb) (ras_lens ha) S w r vs hr hG hb ha
end Go.Proofs.Ytanpamcecaoanaa

/-
  The machine without memory: a loop that counts. No program is named here.
-/
namespace Go.Proofs.Ytanpamcecaoanaa
set_option maxRecDepth 100000
open Go.RowKit
set_option linter.unusedVariables false
set_option linter.unusedSimpArgs false

theorem max_of {p : Nat → Prop} : ∀ (N : Nat), (∃ j, j ≤ N ∧ p j) → ∃ j, j ≤ N ∧ p j ∧ ∀ i, i ≤ N → p i → i ≤ j
  | 0, ⟨j, h1, h2⟩ => by
    obtain rfl : j = 0 := by omega
    exact ⟨0, Nat.le_refl _, h2, fun i hi _ => hi⟩
  | N + 1, ⟨j, h1, h2⟩ => by
    by_cases h : p (N + 1)
    · exact ⟨N + 1, Nat.le_refl _, h, fun i hi _ => hi⟩
    · have hj : j ≤ N := by
        rcases Nat.lt_or_ge N j with h3 | h3
        · exact (h ((show j = N + 1 by omega) ▸ h2)).elim
        · exact h3
      obtain ⟨k, k1, k2, k3⟩ := max_of N ⟨j, hj, h2⟩
      refine ⟨k, by omega, k2, fun i hi hp => ?_⟩
      rcases Nat.lt_or_ge N i with h3 | h3
      · exact (h ((show i = N + 1 by omega) ▸ hp)).elim
      · exact k3 i h3 hp
/-- the last of so many states that a state is -/
noncomputable def lastOf (N : Nat) (f : Nat → St) (s : St) : Nat := by
  classical exact if h : ∃ j, j ≤ N ∧ s = f j then Classical.choose (max_of (p := fun j => s = f j) N h) else 0
theorem lastOf_spec {N : Nat} {f : Nat → St} {s : St} (h : ∃ j, j ≤ N ∧ s = f j) : lastOf N f s ≤ N ∧ s = f (lastOf N f s) ∧ ∀ i, i ≤ N → s = f i → i ≤ lastOf N f s := by
  have := Classical.choose_spec (max_of (p := fun j => s = f j) N h)
  unfold lastOf
  rw [dif_pos h]
  exact this
/-- a round is done: the state is the next one's -/
structure Round (N : Nat) (f : Nat → St) (j : Nat) (s' : St) : Prop where
  there : ∃ i, i ≤ N ∧ s' = f i
  less : N - lastOf N f s' < N - lastOf N f (f j)
/-- of the rounds with this state j is the last one -/
structure LastR (N : Nat) (f : Nat → St) (j : Nat) : Prop where
  le : j ≤ N
  last : ∀ i, i ≤ N → f j = f i → i ≤ j
theorem LastR.next {N : Nat} {f : Nat → St} {j : Nat} {s' : St} (h : LastR N f j) (hj : j < N) (e : s' = f (j + 1)) : Round N f j s' := by
  subst e
  refine ⟨⟨_, hj, rfl⟩, ?_⟩
  obtain ⟨c1, c2, c3⟩ := lastOf_spec (N := N) (f := f) (s := f (j + 1)) ⟨_, hj, rfl⟩
  obtain ⟨d1, d2, d3⟩ := lastOf_spec (N := N) (f := f) (s := f j) ⟨_, h.le, rfl⟩
  have h1 := c3 _ hj rfl
  have h2 := h.last _ d1 d2
  omega
/-- a loop of N rounds at most: its state ahead of each -/
theorem loop_for {body : St → (Exit → St → Prop) → Prop} {s : St} {k : Exit → St → Prop} (live : List Nat) (m : Nat) (N : Nat) (f : Nat → St)
    (h3 : ∀ j, j ≤ N → LastR N f j → body (f j) fun e s' => match e with | .normal => liveOK live m s' ∧ Round N f j (weaken live m s') | e => k e s')
    (h1 : liveOK live m s := by exact rfl) (h2 : weaken live m s = f 0 := by exact rfl) (h0 : 0 < m := by decide) : LoopA body s k ∨ LoopI body s k := by
  refine loop_inv live m (fun s => ∃ j, j ≤ N ∧ s = f j) (fun s => N - lastOf N f s) h1 ⟨0, Nat.zero_le _, h2⟩ ?_ h0
  intro s hs
  obtain ⟨a1, a2, a3⟩ := lastOf_spec hs
  generalize hj : lastOf N f s = j at *
  subst a2
  have h4 := h3 j a1 ⟨a1, a3⟩
  refine Eq.mp (congrArg (body (f j)) (funext fun e => funext fun s' => ?_)) h4
  cases e <;> simp only []
  exact propext ⟨fun h => ⟨h.1, h.2.there, by have := h.2.less; rw [hj] at this; exact this⟩, fun h => ⟨h.1, h.2.1, by rw [hj]; exact h.2.2⟩⟩

/-! a state told shorter: only some slots, only some blocks, counted anew -/
def renP (f : Nat → Nat) : Pt → Pt
  | .dat a => .dat a
  | .own b n => .own (f b) n
  | .win b base n => .win (f b) base n
def renT (f : Nat → Nat) : T → T
  | .ptr b base => .ptr (f b) base
  | .pti b base rel => .pti (f b) base rel
  | .own b n => .own (f b) n
  | .win b base n => .win (f b) base n
  | .ept b n off => .ept (f b) n off
  | .pre b n m => .pre (f b) n m
  | .rows l => .rows (l.map (renP f))
  | .ob b => .ob (f b)
  | .mp b => .mp (f b)
  | .hsl b n => .hsl (f b) n
  | .bxp b c => .bxp (f b) (f c)
  | .d a => .d a
  | .tup l => .tup l
  | .dead => .dead
def gatT (f : Nat → Nat) (live : List Nat) : Nat → List T → List T
  | _, [] => []
  | i, t :: l => (if live.contains i = true then renT f t else .dead) :: gatT f live (i + 1) l
def gather (live bs : List Nat) (s : St) : St := ⟨gatT (fun b => bs.idxOf b) live 0 s.t, bs.map s.bk⟩
def gatOK (live bs : List Nat) (s : St) : Bool := bs.head? == some 0 && bs.eraseDups == bs && live.all (fun i => (s.sl i).refs.all fun b => bs.contains b)

theorem gatT_len (f : Nat → Nat) (live : List Nat) : ∀ (l : List T) (i : Nat), (gatT f live i l).length = l.length
  | [], _ => rfl
  | _ :: l, i => by simp [gatT, gatT_len f live l (i + 1)]
theorem gatT_get (f : Nat → Nat) (live : List Nat) : ∀ (l : List T) (i j : Nat), (gatT f live i l).getD j .dead = if live.contains (i + j) = true then renT f (l.getD j .dead) else .dead
  | [], i, j => by simp [gatT, renT]
  | t :: l, i, 0 => by simp [gatT]
  | t :: l, i, j + 1 => by
    have := gatT_get f live l (i + 1) j
    rw [show i + 1 + j = i + (j + 1) by omega] at this
    simpa [gatT] using this
theorem renT_refs (f : Nat → Nat) (t : T) : (renT f t).refs = t.refs.map f := by
  cases t with
  | rows l =>
    simp only [renT, T.refs, List.flatMap_map, List.map_flatMap]
    congr 1
    funext p
    cases p <;> rfl
  | _ => rfl
theorem RP.ren {D D' : Nat → Prop} {ρ ρ' : Nat → Option Value} {w w' : World} (k : Keeps D w D' w') {f : Nat → Nat} {p : Pt} {v : Value} (hr : ∀ b ∈ p.refs, ρ' (f b) = ρ b) (h : RP D ρ w p v) : RP D' ρ' w' (renP f p) v := by
  cases p with
  | dat a => exact RA.up k h
  | own b n => intro u hu; rw [hr b (by simp [Pt.refs])] at hu; exact h u hu
  | win b base n => intro u hu; rw [hr b (by simp [Pt.refs])] at hu; exact h u hu
theorem RPs.ren {D D' : Nat → Prop} {ρ ρ' : Nat → Option Value} {w w' : World} {f : Nat → Nat} : ∀ {l : List Pt} {vs : List Value}, (∀ p ∈ l, ∀ v, RP D ρ w p v → RP D' ρ' w' (renP f p) v) → RPs D ρ w l vs → RPs D' ρ' w' (l.map (renP f)) vs
  | _, _, _, .nil => .nil
  | _, _, g, .cons h r => .cons (g _ (by simp) _ h) (r.ren fun p hp => g p (by simp [hp]))
theorem RT.ren {D D' : Nat → Prop} {ρ ρ' : Nat → Option Value} {w w' : World} (k : Keeps D w D' w') {f : Nat → Nat} {t : T} {v : Value} (hr : ∀ b ∈ t.refs, ρ' (f b) = ρ b) (h : RT D ρ w t v) : RT D' ρ' w' (renT f t) v := by
  cases t with
  | d a => exact RA.up k h
  | tup l => obtain ⟨vs, rfl, h⟩ := h; exact ⟨vs, rfl, h.up k⟩
  | rows l => obtain ⟨vs, h1, h2⟩ := h; exact ⟨vs, h1.ren fun p hp v hv => hv.ren k fun b hb => hr b (by simp only [T.refs, List.mem_flatMap]; exact ⟨p, hp, hb⟩), h2.up k⟩
  | dead => trivial
  | ptr b base => intro u hu; rw [hr b (by simp [T.refs])] at hu; exact h u hu
  | ob b => intro u hu; rw [hr b (by simp [T.refs])] at hu; exact h u hu
  | mp b => intro u hu; rw [hr b (by simp [T.refs])] at hu; exact h u hu
  | hsl b n => intro u hu; rw [hr b (by simp [T.refs])] at hu; exact h u hu
  | bxp b c => intro u hu; rw [hr b (by simp [T.refs])] at hu; exact h u hu
  | pti b base rel => intro u hu; rw [hr b (by simp [T.refs])] at hu; exact h u hu
  | own b n => intro u hu; rw [hr b (by simp [T.refs])] at hu; exact h u hu
  | win b base n => intro u hu; rw [hr b (by simp [T.refs])] at hu; exact h u hu
  | ept b n off => intro u hu; rw [hr b (by simp [T.refs])] at hu; exact h u hu
  | pre b n m => intro u hu; rw [hr b (by simp [T.refs])] at hu; exact h u hu
theorem dups_nodup : ∀ (n : Nat) (l : List Nat), l.length ≤ n → l.eraseDups.Nodup ∧ ∀ x, x ∈ l.eraseDups ↔ x ∈ l
  | _, [], _ => by simp
  | n + 1, a :: l, h => by
    rw [List.eraseDups_cons]
    have hl : (l.filter fun b => !b == a).length ≤ n := Nat.le_trans (List.length_filter_le _ _) (by simpa using h)
    obtain ⟨h1, h2⟩ := dups_nodup n _ hl
    refine ⟨List.nodup_cons.2 ⟨?_, h1⟩, fun x => ?_⟩
    · rw [h2]; simp
    · rw [List.mem_cons, h2]
      simp
      by_cases e : x = a <;> simp [e]
theorem nodup_of_dups {l : List Nat} (h : l.eraseDups = l) : l.Nodup := h ▸ (dups_nodup _ l (Nat.le_refl _)).1
theorem nodup_inj {l : List Nat} (h : l.Nodup) {i j : Nat} {hi : i < l.length} {hj : j < l.length} (e : l[i] = l[j]) : i = j := by
  have hp := List.pairwise_iff_getElem.1 h
  rcases Nat.lt_trichotomy i j with h1 | h1 | h1
  · exact absurd e (hp i j hi hj h1)
  · exact h1
  · exact absurd e.symm (hp j i hj hi h1)
theorem Ent.gather {s : St} {live bs : List Nat} (h : gatOK live bs s = true) : Ent s (gather live bs s) := ⟨fun G S base w0 ρ a w g => by
  unfold gatOK at h
  simp only [Bool.and_eq_true, beq_iff_eq] at h
  obtain ⟨⟨h0, h1⟩, h2⟩ := h
  have hnd := nodup_of_dups h1
  rw [List.all_eq_true] at h2
  let ρ' : Nat → Option Value := fun i => (bs[i]?).bind ρ
  have hbk : ∀ i, (Go.Proofs.Ytanpamcecaoanaa.gather live bs s).bk i = match bs[i]? with | some b => s.bk b | none => none := by
    intro i
    show (bs.map s.bk).getD i none = _
    rw [List.getD_eq_getElem?_getD, List.getElem?_map]
    cases bs[i]? <;> rfl
  have hsl : ∀ i, (Go.Proofs.Ytanpamcecaoanaa.gather live bs s).sl i = if live.contains i = true then renT (fun b => bs.idxOf b) (s.sl i) else .dead := by
    intro i
    have := gatT_get (fun b => bs.idxOf b) live s.t 0 i
    rw [Nat.zero_add] at this
    exact this
  have hρ : ∀ i u, ρ' i = some u → ∃ b, bs[i]? = some b ∧ ρ b = some u := by
    intro i u hb
    simp only [ρ'] at hb
    cases hx : bs[i]? with
    | none => rw [hx] at hb; cases hb
    | some b => rw [hx] at hb; exact ⟨b, rfl, hb⟩
  have hρm : ∀ b, b ∈ bs → ρ' (bs.idxOf b) = ρ b := fun b hb => by
    simp only [ρ']
    rw [List.getElem?_eq_getElem (List.idxOf_lt_length_of_mem hb), List.getElem_idxOf]; rfl
  have hρi : ∀ i b, bs[i]? = some b → ρ' i = ρ b := fun i b hb => by simp only [ρ']; rw [hb]; rfl
  have K : Keeps (Dt S base ρ) w (Dt S base ρ') w := ⟨Nat.le_refl _, fun r _ hd => ⟨⟨hd.1, fun b u hb => by obtain ⟨c, _, hc⟩ := hρ b u hb; exact hd.2 c u hc⟩, fun _ => rfl⟩⟩
  have h00 : bs[0]? = some 0 := by rw [← List.head?_eq_getElem?]; exact h0
  refine ⟨ρ', (gatT_len _ _ _ _).trans g.len, fun i hi => ?_, fun i => ?_, fun i b hb => ?_, fun i j u u' r hi hj e1 e2 => ?_, fun i u r hi => ?_, g.bel, g.glob.up K, (fun q hq => (hρi 0 0 h00).trans (g.pin q hq)), g.size, g.defs⟩
  · rw [hsl]
    by_cases hl : live.contains i = true
    · rw [if_pos hl]
      refine RT.ren K (fun b hb => hρm b ?_) (g.t i hi)
      have := h2 i (by simpa using hl)
      rw [List.all_eq_true] at this
      simpa using this b hb
    · rw [if_neg hl]; trivial
  · rw [hbk]
    cases hx : bs[i]? with
    | none => show ρ' i = none; simp only [ρ']; rw [hx]; rfl
    | some b =>
      have hB := g.b b
      have e := hρi i b hx
      show RB base (Dt S base ρ') ρ' w i (s.bk b)
      cases hk : s.bk b with
      | none => rw [hk] at hB; exact e.trans hB
      | some x =>
        rw [hk] at hB
        cases x with
        | var l => obtain ⟨r, cs, t, k1, k2, k3, k4⟩ := hB; exact ⟨r, cs, t, e.trans k1, k2, k3, k4.up K⟩
        | sl et sz n l => obtain ⟨u, cs, k1, k2, k3⟩ := hB; exact ⟨u, cs, e.trans k1, k2, k3.up K⟩
        | obj p => obtain ⟨r, cs, t, k1, k2, k3, k4⟩ := hB; exact ⟨r, cs, t, e.trans k1, k2, k3, k4⟩
        | abs p => obtain ⟨r, F, k1, k2, k3⟩ := hB; exact ⟨r, F, e.trans k1, k2, p.up K (fun _ _ => rfl) k3⟩
        | vh l off p e2 sz n m => obtain ⟨r, cs, t, su, ms, h1, h2, h3, h4, h5, h6, h7, h8⟩ := hB; exact ⟨r, cs, t, su, ms, e.trans h1, h2, h3, h4, h5.up K, h6.up K, h7, h8⟩
        | gone => obtain ⟨n, k1⟩ := hB; exact ⟨n, e.trans k1⟩
        | bx =>
          obtain ⟨h0', q, r, ty, k1, k2, k3⟩ := hB
          refine ⟨fun hi0 => ?_, q, r, ty, e.trans k1, k2, (hρi 0 0 h00).trans k3⟩
          subst hi0
          rw [h00] at hx; cases hx
          exact h0' rfl
  · rw [hsl] at hb
    by_cases hl : live.contains i = true
    · rw [if_pos hl, renT_refs] at hb
      obtain ⟨c, hc, rfl⟩ := List.mem_map.1 hb
      have := h2 i (by simpa using hl)
      rw [List.all_eq_true] at this
      have hm : c ∈ bs := by simpa using this c hc
      rw [hbk, List.getElem?_eq_getElem (List.idxOf_lt_length_of_mem hm), List.getElem_idxOf]
      exact g.dang i c hc
    · rw [if_neg hl] at hb; simp [T.refs] at hb
  · obtain ⟨b, hb1, hb2⟩ := hρ i u hi
    obtain ⟨c, hc1, hc2⟩ := hρ j u' hj
    have := g.inj b c u u' r hb2 hc2 e1 e2
    subst this
    obtain ⟨l1, e3⟩ := List.getElem?_eq_some_iff.1 hb1
    obtain ⟨l2, e4⟩ := List.getElem?_eq_some_iff.1 hc1
    exact nodup_inj hnd (e3.trans e4.symm)
  · obtain ⟨b, hb1, hb2⟩ := hρ i u hi
    exact g.low b u r hb2⟩
/-- a loop of N rounds at most, by states for which others may be taken -/
structure RoundE (N : Nat) (f : Nat → St) (j : Nat) (s' : St) : Prop where
  out : ∃ s'', Ent s' s'' ∧ (∃ i, i ≤ N ∧ s'' = f i) ∧ N - lastOf N f s'' < N - lastOf N f (f j)
theorem LastR.ent {N : Nat} {f : Nat → St} {j : Nat} {s' s'' : St} (h : LastR N f j) (hj : j < N) (he : Ent s' s'') (e : s'' = f (j + 1)) : RoundE N f j s' := by
  obtain ⟨h1, h2⟩ := h.next hj e
  exact ⟨s'', he, h1, h2⟩
theorem LastR.go {N : Nat} {f : Nat → St} {j : Nat} {s' : St} (h : LastR N f j) (hj : j < N) (live bs : List Nat) (e : gather live bs s' = f (j + 1)) (ok : gatOK live bs s' = true := by exact rfl) : RoundE N f j s' := h.ent hj (.gather ok) e
theorem loop_forE {body : St → (Exit → St → Prop) → Prop} {s s1 : St} {k : Exit → St → Prop} (N : Nat) (f : Nat → St) (he : Ent s s1) (h2 : s1 = f 0)
    (h3 : ∀ j, j ≤ N → LastR N f j → body (f j) fun e s' => match e with | .normal => RoundE N f j s' | e => k e s') : LoopA body s k ∨ LoopI body s k := by
  refine .inr ⟨s1, fun s => ∃ j, j ≤ N ∧ s = f j, fun s => N - lastOf N f s, he, ⟨0, Nat.zero_le _, h2⟩, ?_⟩
  intro s hs
  obtain ⟨a1, a2, a3⟩ := lastOf_spec hs
  generalize hj : lastOf N f s = j at *
  subst a2
  have h4 := h3 j a1 ⟨a1, a3⟩
  refine Eq.mp (congrArg (body (f j)) (funext fun e => funext fun s' => ?_)) h4
  cases e <;> simp only []
  exact propext ⟨fun h => ⟨h.out⟩, fun h => ⟨h.out⟩⟩
/-- the same, its first state told shorter -/
theorem loop_forG {body : St → (Exit → St → Prop) → Prop} {s : St} {k : Exit → St → Prop} (live bs : List Nat) (N : Nat) (f : Nat → St)
    (h3 : ∀ j, j ≤ N → LastR N f j → body (f j) fun e s' => match e with | .normal => RoundE N f j s' | e => k e s')
    (ok : gatOK live bs s = true := by exact rfl) (h2 : gather live bs s = f 0 := by exact rfl) : LoopA body s k ∨ LoopI body s k := loop_forE N f (.gather ok) h2 h3
/-- the same, where a slice that is nil may grow -/
theorem loop_forN {body : St → (Exit → St → Prop) → Prop} {s : St} {k : Exit → St → Prop} (live bs : List Nat) (i : Nat) (e : TypeId) (sz : Nat) (l : List Seg) (N : Nat) (f : Nat → St)
    (h3 : ∀ j, j ≤ N → LastR N f j → body (f j) fun e s' => match e with | .normal => RoundE N f j s' | e => k e s')
    (hn : s.sl i = .d (.v (.slice none 0 0)) := by exact rfl) (hl : l.all segNil = true := by exact rfl)
    (ok : gatOK live bs (ownNil s i e sz l) = true := by exact rfl) (h2 : gather live bs (ownNil s i e sz l) = f 0 := by exact rfl) : LoopA body s k ∨ LoopI body s k := loop_forE N f ((Ent.nil hn hl).trans (.gather ok)) h2 h3
end Go.Proofs.Ytanpamcecaoanaa

/-
  The machine without memory: reckoned as far as it goes, numbers that are in range told without their wrapping. No program is named here.
-/
namespace Go.Proofs.Ytanpamcecaoanaa
set_option maxRecDepth 100000
open Go.RowKit
set_option linter.unusedVariables false
set_option linter.unusedSimpArgs false
theorem agow {p q : Prop} (left : q) (h : (Left q → p) ∧ Isq q := by
    refine And.intro ?_ ?_
    · intro left_is
      (conv => whnf); repeat ((first | (refine And.intro ?_ ?_; focus (first | exact rfl | exact Nat.le_of_ble_eq_true rfl | exact Or.inr rfl | exact Or.inl rfl | (intro hx; cases hx <;> fail) | (intro _; rfl) | exact ⟨_, rfl, rfl⟩ | omega | (simp only [Seg.n, segN, tiByte, tiPtr, tiInt, tiBool, tiSl, tiArr, tiStruct]; omega) | (refine leLe ?_; (try simp only [Seg.n, segN, tiByte, tiPtr, tiInt, tiBool, tiSl, tiArr, tiStruct]); omega) | assumption | decide | (simp [Seg.n, segN, tiByte, tiPtr, tiInt, tiBool, tiSl, tiArr, tiStruct, *] <;> omega))) | (refine ⟨_, And.intro rfl ?_⟩) | (refine StopC.mk ?_; first | (refine condK_is ?_ ?_; focus (first | rfl | assumption | (simp only [bne, Bool.true_beq, Bool.false_beq, beq_true, beq_false, Bool.not_true, Bool.not_false, Bool.true_and, Bool.and_true, Bool.false_and, Bool.and_false, Bool.true_or, Bool.or_true, Bool.false_or, Bool.or_false, beq_iff_eq, beq_eq_false_iff_ne, ne_eq, Bool.not_eq_true', Bool.not_eq_false', decide_eq_true_eq, decide_eq_false_iff_not, ge_iff_le, gt_iff_lt, *] <;> omega) | (simp [eqSegs, *] <;> omega))) | (refine condK_isnt ?_ ?_; focus (first | rfl | assumption | (simp only [bne, Bool.true_beq, Bool.false_beq, beq_true, beq_false, Bool.not_true, Bool.not_false, Bool.true_and, Bool.and_true, Bool.false_and, Bool.and_false, Bool.true_or, Bool.or_true, Bool.false_or, Bool.or_false, beq_iff_eq, beq_eq_false_iff_ne, ne_eq, Bool.not_eq_true', Bool.not_eq_false', decide_eq_true_eq, decide_eq_false_iff_not, ge_iff_le, gt_iff_lt, *] <;> omega) | (simp [eqSegs, *] <;> omega)))) | ((first | refine toA ?_ | refine toE ?_ | refine toD ?_); (try (conv => arg 2; simp (disch := omega) only [wrapS, Int.toNat_natCast, Seg.n, wn1, wn2, wn3, wn4, wn5, wn6, wn7, wn8, wn9, wn10, wn11, wn12, wn13, wn14, wn15, wn16, Int.reduceAdd, Int.zero_add, Seg.cell, Seg.sub, List.set_nil, isAlloc, trimH, List.take_append_drop, St.app, St.app2, St.ev, List.getD_cons_zero, List.getD_cons_succ, List.getD_nil, St.sl, St.bk, tiInt, tiBool, tiSl, tiArr, tiStruct, weaken, keepT, List.set_cons_zero, List.set_cons_succ, List.length_cons, List.length_nil, List.cons_append, List.nil_append, List.append_nil, List.map_cons, List.map_nil, List.replicate_succ, List.replicate_zero, List.take_succ_cons, List.take_zero, List.drop_succ_cons, List.drop_zero, List.take_nil, List.drop_nil, Nat.reduceAdd, Nat.reduceSub, Nat.reduceMul, Nat.reduceEqDiff, Nat.reduceLT, Nat.reduceLeDiff, Nat.zero_add, Nat.add_zero, Nat.sub_self, Nat.sub_zero, Nat.one_mul, Nat.mul_one, Nat.zero_mul, joinS, manyS, List.flatten_cons, List.flatten_nil, eq_self, ite_true, if_true, if_false, ↓reduceIte, reduceCtorEq, Int.reduceToNat, cntAlloc, opRefs])); first | (refine ofA ?_; (conv => arg 3; whnf); first | refine regA_cons ?_ | refine regA_nil ?_) | (refine ofD ?_; (conv => arg 5; whnf); first | refine regD_cons ?_ | refine regD_nil ?_) | (refine ofE ?_; (conv => arg 2; whnf); (refine regDr_intro _ rfl ?_ ?_); focus (kernel_rfl)))); (conv => whnf))
      all_goals exact left_is.out
    · first | with_reducible exact isqT | exact isqA) : p := h.1 ⟨left⟩
/-- a function's contract is begun, where a block is lent to it further back -/
theorem fnMB {E : EnvX} {f : FuncId} {fn : Func} {c : Code} {pos : Nat} {x x' : Bk} {args : List A} {res : Res} {n : Nat} {t : List T} (hf : E.P.funcs[f]? = some fn) (hnt : fn.ntmps = n)
    (left : wpA E c ⟨t, [some x]⟩ fun e s => (e = .normal ∨ e = .ret) ∧ s.bk 0 = some x' ∧ resK' E s fn.results.toList fun r => r = res) (hb : fn.body = some c := by exact rfl) (hn : args.length + 1 ≤ n := by exact Nat.le_of_ble_eq_true rfl) (hp : pos ≤ args.length := by exact Nat.le_of_ble_eq_true rfl)
    (hx : ∀ e sz n l, x ≠ .sl e sz n l := by intro _ _ _ _ h; cases h) (hres : ∀ y, res ≠ .p y := by intro y h; cases h)
    (ht : (args.map T.d).insertIdx pos (.ptr 0 0) ++ List.replicate (n - (args.length + 1)) (.d (.v undef)) = t := by (conv => lhs; simp only [List.insertIdx_succ_cons, List.insertIdx_zero, Seg.n, wn1, wn2, wn3, wn4, wn5, wn6, wn7, wn8, wn9, wn10, wn11, wn12, wn13, wn14, wn15, wn16, Int.reduceAdd, Int.zero_add, Seg.cell, Seg.sub, List.set_nil, isAlloc, trimH, List.take_append_drop, St.app, St.app2, St.ev, List.getD_cons_zero, List.getD_cons_succ, List.getD_nil, St.sl, St.bk, tiInt, tiBool, tiSl, tiArr, tiStruct, weaken, keepT, List.set_cons_zero, List.set_cons_succ, List.length_cons, List.length_nil, List.cons_append, List.nil_append, List.append_nil, List.map_cons, List.map_nil, List.replicate_succ, List.replicate_zero, List.take_succ_cons, List.take_zero, List.drop_succ_cons, List.drop_zero, List.take_nil, List.drop_nil, Nat.reduceAdd, Nat.reduceSub, Nat.reduceMul, Nat.reduceEqDiff, Nat.reduceLT, Nat.reduceLeDiff, Nat.zero_add, Nat.add_zero, Nat.sub_self, Nat.sub_zero, Nat.one_mul, Nat.mul_one, Nat.zero_mul, joinS, manyS, List.flatten_cons, List.flatten_nil, eq_self, ite_true, if_true, if_false, ↓reduceIte, reduceCtorEq, Int.reduceToNat]); all_goals exact rfl) : FnM E.P E.G f pos x args res x' := by
  subst hnt; subst ht; exact fnM_of_wpA hf hb hn hp hx left hres
end Go.Proofs.Ytanpamcecaoanaa
