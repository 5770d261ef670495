/-
  Statements of the machine without memory: operations in a row; operations whose order is open. No program is named here.
-/
import Derived.Test.YtcfdlffjghlghaaA10
import Derived.Test.YtcfdlffjghlghaaExt
namespace Go.Proofs.Ytcfdlffjghlghaa
set_option maxRecDepth 100000
open Go.RowKit
set_option linter.unusedVariables false
set_option linter.unusedSimpArgs false

def guardK (ops : List Oper) (o : Oper) (s : St) (run skip : Prop) : Prop :=
  match o.guard with
  | none => run
  | some (j, want) =>
    match (ops[j]?).bind (·.dst) with
    | none => False
    | some d =>
      match s.sl d with
      | .d (.v (.bool b)) => (match want with | true => StopC (condK b run skip) | false => StopC (condK b skip run))
      | .d (.v (.tuple _)) => skip
      | _ => False
def stepK (E : EnvX) (ops : List Oper) (o : Oper) (s : St) (fr : Nat) (k : KO) : Prop := guardK ops o s (opA E o s fr k) (k (.d (.v undef)) none)

def boolOf : Value → Option Bool | .bool c => some c | _ => none
/-- is the operation carried out? -/
def Wants (ops : List Oper) (o : Oper) (s : St) (b : Bool) : Prop :=
  match o.guard with
  | none => b = true
  | some (j, want) => ∃ d x, (ops[j]?).bind (·.dst) = some d ∧ s.sl d = .d (.v x) ∧ b = (boolOf x == some want)
def StepOK (E : EnvX) (ops : List Oper) (o : Oper) (s : St) (fr : Nat) (t : T) (blk : Option (Nat × Bk)) : Prop :=
  (Wants ops o s true ∧ OpOK E o s fr t blk) ∨ (Wants ops o s false ∧ t = .d (.v undef) ∧ blk = none)
theorem stepK_sound {E : EnvX} {ops : List Oper} {o : Oper} {s : St} {fr : Nat} {k : KO} (h : stepK E ops o s fr k) : ∃ t blk, k t blk ∧ StepOK E ops o s fr t blk := by
  unfold stepK guardK at h
  split at h
  · next hg =>
    obtain ⟨t, blk, h1, h2⟩ := opA_sound h
    exact ⟨t, blk, h1, .inl ⟨by unfold Wants; rw [hg], h2⟩⟩
  · next j want hg =>
    split at h
    · exact h.elim
    · next d hd =>
      have W : ∀ x b, s.sl d = .d (.v x) → b = (boolOf x == some want) → Wants ops o s b := fun x b h1 h2 => by
        unfold Wants; rw [hg]; exact ⟨d, x, hd, h1, h2⟩
      split at h
      · next b hs =>
        cases b <;> cases want
        · obtain ⟨t, blk, h1, h2⟩ := opA_sound h.out
          exact ⟨t, blk, h1, .inl ⟨W _ _ hs rfl, h2⟩⟩
        · exact ⟨_, _, h.out, .inr ⟨W _ _ hs rfl, rfl, rfl⟩⟩
        · exact ⟨_, _, h.out, .inr ⟨W _ _ hs rfl, rfl, rfl⟩⟩
        · obtain ⟨t, blk, h1, h2⟩ := opA_sound h.out
          exact ⟨t, blk, h1, .inl ⟨W _ _ hs rfl, h2⟩⟩
      · next hs => exact ⟨_, _, h, .inr ⟨W _ _ hs (by cases want <;> rfl), rfl, rfl⟩⟩
      · exact h.elim

section
variable {E : EnvX} {S : Nat → Prop} {base : Nat} {w0 : W0 E.G}

theorem Wants.real {ops : List Oper} {o : Oper} {s s' : St} {b : Bool} {ρ : Nat → Option Value} {a : Act} {w : World} (h : Wants ops o s b) (g : Good S base w0 s' ρ a w)
    (hs : ∀ j want d, o.guard = some (j, want) → (ops[j]?).bind (·.dst) = some d → s'.sl d = s.sl d) : Region.wanted o (yielded ops.toArray a.tmps) = b := by
  unfold Wants at h
  unfold Region.wanted
  split at h
  · next hg => rw [hg, h]
  · next j want hg =>
    obtain ⟨d, x, hd, hx, rfl⟩ := h
    rw [hg]
    have h1 := g.ev (.tmp d)
    have h2 : s'.ev (.tmp d) = .d (.v x) := by show s'.sl d = _; rw [hs j want d hg hd, hx]
    rw [h2] at h1
    have h3 : a.tmps.getD d undef = x := RA.plain h1
    have hlt : d < a.tmps.size := by
      apply Decidable.byContradiction
      intro hn
      have : s'.sl d = .dead := by
        unfold St.sl
        rw [List.getD_eq_getElem?_getD, List.getElem?_eq_none (by rw [g.len]; exact Nat.le_of_not_lt hn)]; rfl
      rw [show s'.sl d = .d (.v x) from h2] at this; cases this
    have h4 : a.tmps[d]? = some x := by
      rw [Array.getD_eq_getD_getElem?, Array.getElem?_eq_getElem hlt] at h3
      rw [Array.getElem?_eq_getElem hlt]; exact congrArg some h3
    have h5 : yielded ops.toArray a.tmps j = boolOf x := by
      unfold yielded
      rw [List.getElem?_toArray, hd, Option.bind_some, h4]
      cases x <;> rfl
    show (yielded ops.toArray a.tmps j == some want) = _
    rw [h5]

/-- states of which the same can be read -/
structure Sim (s s' : St) : Prop where
  t : s'.t.length = s.t.length
  h : s.h.length ≤ s'.h.length
  sl : ∀ i, s'.sl i = s.sl i
  bk : ∀ b, s'.bk b = s.bk b
theorem Good.sim {G : Nat → Option (List Seg)} {S : Nat → Prop} {base : Nat} {w0 : W0 G} {s s' : St} {ρ : Nat → Option Value} {a : Act} {w : World} (g : Good S base w0 s ρ a w) (e : Sim s s') : Good S base w0 s' ρ a w :=
  ⟨e.t.trans g.len, fun i hi => by rw [e.sl]; exact g.t i hi, fun b => by rw [e.bk]; exact g.b b, fun i b hb => by rw [e.bk]; rw [e.sl] at hb; exact g.dang i b hb, g.inj, g.low, g.bel, g.glob, g.pin, g.size, g.defs⟩
theorem bk_more (s : St) (n b : Nat) : St.bk ⟨s.t, s.h ++ List.replicate n none⟩ b = s.bk b := by
  simp only [St.bk, List.getD_eq_getElem?_getD]
  by_cases h : b < s.h.length
  · rw [List.getElem?_append_left h]
  · rw [List.getElem?_append_right (by omega), List.getElem?_eq_none (l := s.h) (by omega), List.getElem?_replicate]
    split <;> rfl
theorem Sim.more (s : St) (n : Nat) : Sim s ⟨s.t, s.h ++ List.replicate n none⟩ := ⟨rfl, by simp, fun _ => rfl, bk_more s n⟩

/-! operations in a row -/
def St.app2 (s : St) (dst : Option Nat) (t : T) (blk : Option (Nat × Bk)) : St :=
  ⟨match dst with | some d => s.t.set d t | none => s.t, match blk with | some (b, x) => if b = s.h.length then s.h ++ [some x] else s.h.set b (some x) | none => s.h⟩
/-- a call to which a variable of one's own is lent, by its address -/
def mutK (E : EnvX) (o : Oper) (s : St) (K : St → Prop) (other : Prop) : Prop :=
  match o.op with
  | .call c =>
    (match c.callee with
     | .value x =>
       (match fnOf (s.ev x) with
        | some f =>
          (match lentAt (c.args.toList.map s.ev) with
           | some (pos, b, rest) =>
             (match s.bk b with
              | some (.var l) => nolap b rest = true ∧ o.guard = none ∧ argK s rest fun args lent => E.M f pos (.var l) args fun r x' => (lent = true → flatRes r = true) ∧ (lent = true → flatBk x' = true) ∧
                  (match r with
                   | .d a => K ⟨match o.dst with | some d => s.t.set d (.d a) | none => s.t, s.h.set b (some x')⟩
                   | .t m => K ⟨match o.dst with | some d => s.t.set d (.tup m) | none => s.t, s.h.set b (some x')⟩
                   | _ => False)
              | _ => other)
           | none => other)
        | none => other)
     | _ => other)
  | _ => other
def regA (E : EnvX) (ops : List Oper) : List Oper → St → (St → Prop) → Prop
  | [], s, k => k s
  | o :: r, s, k => mutK E o s (fun s' => Stop (regA E ops r s' k)) <| stepK E ops o s s.h.length fun t blk => Stop (regA E ops r (s.app2 o.dst t blk) k)

theorem app_bk (s : St) (d : Option Nat) (t : T) (blk : Option (Nat × Bk)) (b : Nat) : (s.app d t blk).bk b = (match blk with | some (b0, x) => if b0 = b ∧ b0 < s.h.length then some x else s.bk b | none => s.bk b) := by
  unfold St.app St.bk
  cases blk with
  | none => rfl
  | some p => obtain ⟨b0, x⟩ := p; simp only [getD_set_list]
theorem app_sl (s : St) (d : Option Nat) (t : T) (blk : Option (Nat × Bk)) (i : Nat) : (s.app d t blk).sl i = if d = some i ∧ i < s.t.length then t else s.sl i := by
  unfold St.app St.sl
  cases d with
  | none => simp
  | some d =>
    simp only [getD_set_list, Option.some.injEq]
    by_cases h : d = i
    · subst h; rfl
    · rw [if_neg (fun e => h e.1), if_neg (fun e => h e.1)]
theorem app_lens (s : St) (d : Option Nat) (t : T) (blk : Option (Nat × Bk)) : (s.app d t blk).t.length = s.t.length ∧ (s.app d t blk).h.length = s.h.length := by
  unfold St.app
  constructor
  · cases d <;> simp
  · cases blk with
    | none => rfl
    | some p => simp
theorem app2_sim {s : St} {d : Option Nat} {t : T} {blk : Option (Nat × Bk)} : Sim (s.app2 d t blk) (St.app ⟨s.t, s.h ++ List.replicate 1 none⟩ d t blk) := by
  have hb : ∀ b, (St.app ⟨s.t, s.h ++ List.replicate 1 none⟩ d t blk).bk b = (s.app2 d t blk).bk b := by
    intro b
    rw [app_bk]
    unfold St.app2
    cases blk with
    | none => exact bk_more s 1 b
    | some p =>
      obtain ⟨b0, x⟩ := p
      simp only [bk_more, List.length_append, List.length_replicate]
      by_cases h : b0 = s.h.length
      · subst h
        simp only [if_true, St.bk, List.getD_eq_getElem?_getD, List.getElem?_append]
        by_cases hb : b < s.h.length
        · rw [if_neg (by omega), if_pos hb]
        · rw [if_neg hb]
          by_cases h2 : s.h.length = b
          · rw [if_pos (by omega)]; subst h2; simp
          · rw [if_neg (by omega), List.getElem?_eq_none (by omega)]
            rw [List.getElem?_eq_none (by simp; omega)]
      · rw [if_neg h]
        simp only [St.bk, getD_set_list]
        by_cases h2 : b0 = b
        · subst h2
          by_cases h3 : b0 < s.h.length
          · rw [if_pos (by omega), if_pos (by omega)]
          · rw [if_neg (by omega), if_neg (by omega)]
        · rw [if_neg (fun e => h2 e.1), if_neg (fun e => h2 e.1)]
  refine ⟨(app_lens _ _ _ _).1.trans ?_, ?_, fun i => ?_, hb⟩
  · unfold St.app2; cases d <;> simp
  · rw [(app_lens _ _ _ _).2]
    unfold St.app2
    cases blk with
    | none => simp
    | some p => obtain ⟨b0, x⟩ := p; simp only; split <;> simp
  · rw [app_sl]
    unfold St.app2 St.sl
    cases d with
    | none => simp
    | some d =>
      simp only [getD_set_list, Option.some.injEq]
      by_cases h : d = i
      · subst h; rfl
      · rw [if_neg (fun e => h e.1), if_neg (fun e => h e.1)]
theorem Good.simBack {s s' : St} {ρ : Nat → Option Value} {a : Act} {w : World} (g : Good S base w0 s' ρ a w) (e : Sim s s') : Good S base w0 s ρ a w :=
  ⟨e.t.symm.trans g.len, fun i hi => by rw [← e.sl]; exact g.t i hi, fun b => by rw [← e.bk]; exact g.b b, fun i b hb => by rw [← e.bk]; rw [← e.sl] at hb; exact g.dang i b hb, g.inj, g.low, g.bel, g.glob, g.pin, g.size, g.defs⟩

/-- one operation, in whatever world the state is -/
theorem StepOK.run {ops : List Oper} {o : Oper} {s s' : St} {fr : Nat} {t : T} {blk : Option (Nat × Bk)} {ρ : Nat → Option Value} {a : Act} {w : World} {K : Act → World → Prop} {Q : Exit → Act → World → Prop}
    (h : StepOK E ops o s fr t blk) (hs : Same o s s') (hg : ∀ j want d, o.guard = some (j, want) → (ops[j]?).bind (·.dst) = some d → s'.sl d = s.sl d) (g : Good S base w0 s' ρ a w) (h1 : s'.bk fr = none) (h2 : fr < s'.h.length)
    (hK : ∀ a' w' ρ', Good S base w0 (s'.app o.dst t blk) ρ' a' w' → K a' w') :
    if Region.wanted o (yielded ops.toArray a.tmps) then o.wp E.P a w K Q ∨ (o.asks E.P a w ∧ LetsOut Q) else K (a.put o.dst undef) w := by
  rcases h with ⟨hw, h⟩ | ⟨hw, rfl, rfl⟩
  · rw [hw.real g hg, if_pos rfl]
    exact .inl (h.2.2 S base w0 s' ρ a w K Q hs g h1 h2 hK)
  · rw [hw.real g hg, if_neg (by simp)]
    exact hK _ _ ρ (g.put' o.dst (t := .d (.v undef)) (.v undef) (by simp [T.refs]))

theorem mutK_sound {o : Oper} {s : St} {K : St → Prop} {other : Prop} (h : mutK E o s K other) : (o.guard = none ∧ ∀ (S : Nat → Prop) (base : Nat) (w0 : W0 E.G) (ρ : Nat → Option Value) (a : Act) (w : World) (K' : Act → World → Prop) (Q : Exit → Act → World → Prop),
    Good S base w0 s ρ a w → (∀ s' a' w' ρ', K s' → Good S base w0 s' ρ' a' w' → K' a' w') → o.wp E.P a w K' Q) ∨ other := by
  unfold mutK at h
  split at h
  case h_2 => exact .inr h
  next c ho =>
  split at h
  case h_2 => exact .inr h
  next y hc =>
  split at h
  case h_2 => exact .inr h
  next f hy =>
  split at h
  case h_2 => exact .inr h
  next pos b rest hl =>
  split at h
  case h_2 => exact .inr h
  next l hb =>
  obtain ⟨hnl, hg, h⟩ := h
  refine .inl ⟨hg, ?_⟩
  obtain ⟨r, x', lent, ⟨hf1, hf2, hr⟩, hrun⟩ := run_lent (K := fun lent r x' => (lent = true → flatRes r = true) ∧ (lent = true → flatBk x' = true) ∧
                  (match r with
                   | .d a => K ⟨match o.dst with | some d => s.t.set d (.d a) | none => s.t, s.h.set b (some x')⟩
                   | .t m => K ⟨match o.dst with | some d => s.t.set d (.tup m) | none => s.t, s.h.set b (some x')⟩
                   | _ => False)) ho hc (fnOf_spec hy) hl hb hnl h
  intro S base w0 ρ a w K' Q g hK'
  refine hrun S base w0 s ρ a w K' Q (fun x hx => ⟨rfl, fun _ _ => rfl⟩) g fun v w' q hρ hw ⟨S0, h3, h4, h5⟩ => ?_
  obtain ⟨g2, k2⟩ := g.lent hρ hb hw h4 hf2 h5
  cases r with
  | d d => exact hK' _ _ _ ρ hr (g2.put' o.dst (t := .d d) ((res_lent hf1 k2 h3).1 d rfl) (by simp [T.refs]))
  | t m => exact hK' _ _ _ ρ hr (g2.put' o.dst (t := .tup m) ((res_lent hf1 k2 h3).2 m rfl) (by simp [T.refs]))
  | _ => exact hr.elim
theorem regA_sound {ops : List Oper} : ∀ {l : List Oper} {s : St} {k : St → Prop} {ρ : Nat → Option Value} {a : Act} {w : World}, regA E ops l s k → Good S base w0 s ρ a w →
    wpList E.P ops.toArray (fun e a' w' => e = .normal ∧ ∃ s' ρ', k s' ∧ Good S base w0 s' ρ' a' w') l a w
  | [], s, k, ρ, a, w, h, g => ⟨rfl, s, ρ, h, g⟩
  | o :: r, s, k, ρ, a, w, h0, g => by
    rcases mutK_sound h0 with ⟨hg0, hm⟩ | h
    · unfold wpList
      rw [show Region.wanted o (yielded ops.toArray a.tmps) = true by unfold Region.wanted; rw [hg0], if_pos rfl]
      exact .inl (hm S base w0 ρ a w _ _ g fun s' a' w' ρ' hk g' => regA_sound hk.out g')
    obtain ⟨t, blk, hk, hs⟩ := stepK_sound h
    unfold wpList
    refine hs.run (s' := ⟨s.t, s.h ++ List.replicate 1 none⟩) (ρ := ρ) (a := a) (w := w) (fun x hx => ⟨by cases x <;> rfl, fun b _ => bk_more s 1 b⟩) (fun _ _ _ _ _ => rfl) (g.sim (Sim.more s 1)) ?_ (by simp) fun a' w' ρ' g' => ?_
    · rw [bk_more]
      unfold St.bk
      rw [List.getD_eq_getElem?_getD, List.getElem?_eq_none (Nat.le_refl _)]; rfl
    · exact regA_sound hk.out (g'.simBack app2_sim)
end
end Go.Proofs.Ytcfdlffjghlghaa
