/-
  The machine without memory: code, loops, functions. No program is named here.
-/
import Derived.Test.YtcfdlffjghlghaaA12
namespace Go.Proofs.Ytcfdlffjghlghaa
set_option maxRecDepth 100000
open Go.RowKit
set_option linter.unusedVariables false
set_option linter.unusedSimpArgs false

/-- what each operation waits for -/
def depsL (l : List Oper) : List (List Nat) :=
  l.foldl (fun D o => D ++ [((o.after.toList.filter (Region.binds .any)).flatMap fun e => e.on :: D.getD e.on []).eraseDups]) []
def trimH : List (Option Bk) → List (Option Bk)
  | [] => []
  | x :: l => match x, trimH l with
    | none, [] => []
    | x, l' => x :: l'
theorem trimH_bk : ∀ (h : List (Option Bk)) (b : Nat), (trimH h).getD b none = h.getD b none
  | [], b => rfl
  | x :: l, b => by
    have ih := trimH_bk l
    unfold trimH
    split
    · next h2 =>
      cases b with
      | zero => rfl
      | succ b => have := ih b; rw [h2] at this; simpa using this
    · cases b with
      | zero => rfl
      | succ b => simpa using ih b
theorem trimH_len : ∀ (h : List (Option Bk)), (trimH h).length ≤ h.length
  | [] => Nat.le_refl _
  | x :: l => by
    have ih := trimH_len l
    unfold trimH
    split
    · simp
    · simp; exact ih
def cntAlloc : List Oper → Nat
  | [] => 0
  | o :: l => (if isAlloc o = true then 1 else 0) + cntAlloc l
def tabOK (l : List Oper) : Bool := okTab l (depsL l) && Region.noSelect l.toArray
def regDr (E : EnvX) (l : List Oper) (s : St) (k : St → Prop) : Prop :=
  tabOK l = true ∧ regD E l s.h.length (cntAlloc l) l 0 ⟨s.t, s.h ++ List.replicate (cntAlloc l + 1) none⟩ [] fun acc s' =>
    chkB (depsL l) s.h.length (s.h.length + cntAlloc l) acc = true ∧ k ⟨s'.t, trimH s'.h⟩

def intAt (s : St) (i : Nat) : Nat := match s.sl i with | .d (.v (.int _ z)) => z.toNat | _ => 0
/-- a state of which only some slots and the first blocks are kept -/
def keepT (live : List Nat) : Nat → List T → List T
  | _, [] => []
  | i, t :: l => (if live.contains i = true then t else .dead) :: keepT live (i + 1) l
def weaken (live : List Nat) (m : Nat) (s : St) : St := ⟨keepT live 0 s.t, s.h.take m⟩
def liveOK (live : List Nat) (m : Nat) (s : St) : Prop := live.all (fun i => (s.sl i).refs.all fun b => decide (b < m)) = true
/-- so many rounds at most -/
def LoopU (body : St → (Exit → St → Prop) → Prop) (k : Exit → St → Prop) : Nat → St → Prop
  | 0, _ => False
  | n + 1, s => body s fun e s' => match e with | .normal => LoopU body k n s' | e => k e s'
/-- a state may be taken for another one -/
structure Ent (s s' : St) : Prop where
  out : ∀ (G : Nat → Option (List Seg)) (S : Nat → Prop) (base : Nat) (w0 : W0 G) (ρ : Nat → Option Value) (a : Act) (w : World), Good S base w0 s ρ a w → ∃ ρ', Good S base w0 s' ρ' a w
theorem Ent.refl (s : St) : Ent s s := ⟨fun G S base w0 ρ a w g => ⟨ρ, g⟩⟩
theorem Ent.trans {s s' s'' : St} (h : Ent s s') (k : Ent s' s'') : Ent s s'' := ⟨fun G S base w0 ρ a w g => by
  obtain ⟨ρ1, g1⟩ := h.out G S base w0 ρ a w g
  exact k.out G S base w0 ρ1 a w g1⟩
def LoopA (body : St → (Exit → St → Prop) → Prop) (s0 : St) (k : Exit → St → Prop) : Prop :=
  (∃ n, LoopU body k n s0) ∨ ∃ (s : St) (live : List Nat) (m : Nat) (I : St → Prop) (μ : St → Nat), Ent s0 s ∧ 0 < m ∧ liveOK live m s ∧ I (weaken live m s) ∧
    ∀ s, I s → body s fun e s' => match e with | .normal => liveOK live m s' ∧ I (weaken live m s') ∧ μ (weaken live m s') < μ s | e => k e s'
/-- a round is done: its state may be taken for one that the loop knows -/
structure RoundI (I : St → Prop) (μ : St → Nat) (n : Nat) (s' : St) : Prop where
  out : ∃ s'', Ent s' s'' ∧ I s'' ∧ μ s'' < n
/-- a loop told by states for which others may be taken -/
def LoopI (body : St → (Exit → St → Prop) → Prop) (s0 : St) (k : Exit → St → Prop) : Prop :=
  ∃ (s : St) (I : St → Prop) (μ : St → Nat), Ent s0 s ∧ I s ∧ ∀ s, I s → body s fun e s' => match e with | .normal => RoundI I μ (μ s) s' | e => k e s'

def wpA (E : EnvX) : Code → St → (Exit → St → Prop) → Prop
  | .skip, s, k => k .normal s
  | .label _, s, k => k .normal s
  | .region _ ops draw, s, k => (match draw with | false => Stop (regA E ops.toList ops.toList s (k .normal)) | true => StopE (regDr E ops.toList s (k .normal)))
  | .seq a b, s, k => wpA E a s fun e s' => match e with | .normal => wpA E b s' k | e => k e s'
  | .cond c a b, s, k => (match s.ev c with | .d (.v (.bool t)) => StopC (condK t (wpA E a s k) (wpA E b s k)) | _ => False)
  | .block id c, s, k => wpA E c s fun e s' => match e with | .exit j => (if j = id then k .normal s' else k (.exit j) s') | e => k e s'
  | .loop c, s, k => StopL (LoopA (fun s k => wpA E c s k) s k ∨ LoopI (fun s k => wpA E c s k) s k)
  | .exit id, s, k => k (.exit id) s
  | .ret, s, k => k .ret s
  | _, _, _ => False

section
variable {E : EnvX} {S : Nat → Prop} {base : Nat} {w0 : W0 E.G}

theorem regDr_sound {l : List Oper} {s : St} {k : St → Prop} {ρ : Nat → Option Value} {a : Act} {w : World} {id : Nat} (h : regDr E l s k) (g : Good S base w0 s ρ a w) :
    (Code.region id l.toArray true).wp E.P (fun e a' w' => e = .normal ∧ ∃ s' ρ', k s' ∧ Good S base w0 s' ρ' a' w') a w := by
  obtain ⟨htab, h⟩ := h
  simp only [tabOK, Bool.and_eq_true] at htab
  obtain ⟨recs, hrl, ⟨hck, hk⟩, hch⟩ := regD_chain h
  rw [List.nil_append] at hck
  have hall : ∀ (i : Nat) (o : Oper), l[i]? = some o → Fits l (depsL l) i o := fun i o ho => okTab_fits htab.1 ho
  have hlen : (⟨s.t, s.h ++ List.replicate (cntAlloc l + 1) none⟩ : St).h.length = s.h.length + cntAlloc l + 1 := by simp; omega
  have gd : Good S base w0 s ρ a { w with drawn := w.drawn + 1 } := (g.grow (w' := { w with drawn := w.drawn + 1 }) ⟨rfl, rfl, rfl, Nat.le_refl _, fun _ _ _ => rfl⟩).1
  refine wp_region_any E.hM ?_
  refine drawn (S := S) (base := base) (w0 := w0) (s0 := ⟨s.t, s.h ++ List.replicate (cntAlloc l + 1) none⟩) hrl hch hall (chkB_spec hck) (by rw [hlen]; omega) (fun b hb => ?_) (fun ρ' a' w' g' => ?_) _ _ ρ _ _ (by simp) ?_ ?_ ?_
  · rw [bk_more]
    unfold St.bk
    rw [List.getD_eq_getElem?_getD, List.getElem?_eq_none hb]; rfl
  · refine ⟨rfl, _, ρ', hk, ?_⟩
    rw [runS_runP hrl]
    exact g'.simBack ⟨rfl, trimH_len _, fun _ => rfl, fun b => (trimH_bk _ b).symm⟩
  · intro i hi; rw [none_listed] at hi; cases hi
  · have : runP ⟨s.t, s.h ++ List.replicate (cntAlloc l + 1) none⟩ l recs (fun i => (Array.replicate l.toArray.size false).getD i false) l.length = ⟨s.t, s.h ++ List.replicate (cntAlloc l + 1) none⟩ := by
      have : ∀ n, runP ⟨s.t, s.h ++ List.replicate (cntAlloc l + 1) none⟩ l recs (fun i => (Array.replicate l.toArray.size false).getD i false) n = ⟨s.t, s.h ++ List.replicate (cntAlloc l + 1) none⟩ := by
        intro n
        induction n with
        | zero => rfl
        | succ n ih =>
          rw [runP]
          split
          · exact (if_neg (by simp only [none_listed]; decide)).trans ih
          · exact ih
      exact this _
    rw [this]
    exact gd.sim (Sim.more s _)
  · refine Nat.le_trans (List.length_filter_le _ _) ?_
    simp

theorem keepT_len (live : List Nat) : ∀ (l : List T) (i : Nat), (keepT live i l).length = l.length
  | [], _ => rfl
  | _ :: l, i => by simp [keepT, keepT_len live l]
theorem keepT_get (live : List Nat) : ∀ (l : List T) (i j : Nat), (keepT live i l).getD j .dead = if live.contains (i + j) = true then l.getD j .dead else .dead
  | [], i, j => by simp [keepT]
  | t :: l, i, 0 => by simp [keepT]
  | t :: l, i, j + 1 => by
    have := keepT_get live l (i + 1) j
    rw [show i + 1 + j = i + (j + 1) by omega] at this
    simpa [keepT] using this
theorem Good.weaken {G : Nat → Option (List Seg)} {S : Nat → Prop} {base : Nat} {w0 : W0 G} {s : St} {ρ : Nat → Option Value} {a : Act} {w : World} (g : Good S base w0 s ρ a w) {live : List Nat} {m : Nat} (hm0 : 0 < m) (h : liveOK live m s) : ∃ ρ', Good S base w0 (weaken live m s) ρ' a w := by
  unfold liveOK at h
  rw [List.all_eq_true] at h
  have hbk : ∀ b, (Go.Proofs.Ytcfdlffjghlghaa.weaken live m s).bk b = if b < m then s.bk b else none := by
    intro b
    unfold Go.Proofs.Ytcfdlffjghlghaa.weaken St.bk
    simp only [List.getD_eq_getElem?_getD, List.getElem?_take]
    split <;> rfl
  have hsl : ∀ i, (Go.Proofs.Ytcfdlffjghlghaa.weaken live m s).sl i = if live.contains i = true then s.sl i else .dead := by
    intro i
    have := keepT_get live s.t 0 i
    rw [Nat.zero_add] at this
    exact this
  let ρ' : Nat → Option Value := fun b => if b < m then ρ b else none
  have hρ : ∀ b u, ρ' b = some u → b < m ∧ ρ b = some u := by
    intro b u hb
    simp only [ρ'] at hb
    split at hb
    · next h1 => exact ⟨h1, hb⟩
    · cases hb
  have hρm : ∀ b, b < m → ρ' b = ρ b := fun b hb => if_pos hb
  have K : Keeps (Dt S base ρ) w (Dt S base ρ') w := ⟨Nat.le_refl _, fun r _ hd => ⟨⟨hd.1, fun b u hb => hd.2 b u (hρ b u hb).2⟩, fun _ => rfl⟩⟩
  refine ⟨ρ', (keepT_len _ _ _).trans g.len, fun i hi => ?_, fun b => ?_, fun i b hb => ?_, fun b b' u u' r h1 h2 => g.inj b b' u u' r (hρ b u h1).2 (hρ b' u' h2).2, fun b u r h1 => g.low b u r (hρ b u h1).2, g.bel, g.glob.up K, (fun q hq => (hρm 0 hm0).trans (g.pin q hq)), g.size, g.defs⟩
  · rw [hsl]
    by_cases hl : live.contains i = true
    · rw [if_pos hl]
      refine RT.up K (fun b hb => hρm b ?_) (g.t i hi)
      have := h i (by simpa using hl)
      rw [List.all_eq_true] at this
      exact of_decide_eq_true (this b hb)
    · rw [if_neg hl]; trivial
  · rw [hbk]
    have hB := g.b b
    by_cases hb : b < m
    · rw [if_pos hb]
      cases hk : s.bk b with
      | none => rw [hk] at hB; exact (hρm b hb).trans hB
      | some x =>
        rw [hk] at hB
        cases x with
        | var l => obtain ⟨r, cs, t, h1, h2, h3, h4⟩ := hB; exact ⟨r, cs, t, (hρm b hb).trans h1, h2, h3, h4.up K⟩
        | sl e sz n l => obtain ⟨u, cs, h1, h2, h3⟩ := hB; exact ⟨u, cs, (hρm b hb).trans h1, h2, h3.up K⟩
        | obj p => obtain ⟨r, cs, t, h1, h2, h3, h4⟩ := hB; exact ⟨r, cs, t, (hρm b hb).trans h1, h2, h3, h4⟩
        | abs p => obtain ⟨r, F, h1, h2, h3⟩ := hB; exact ⟨r, F, (hρm b hb).trans h1, h2, h3⟩
    · rw [if_neg hb]
      exact if_neg hb
  · rw [hsl] at hb
    split at hb
    · next hl =>
      have := h i (by simpa using hl)
      rw [List.all_eq_true] at this
      rw [hbk, if_pos (of_decide_eq_true (this b hb))]
      exact g.dang i b hb
    · simp [T.refs] at hb

theorem Ent.weaken {s : St} {live : List Nat} {m : Nat} (hm0 : 0 < m) (h : liveOK live m s) : Ent s (weaken live m s) := ⟨fun G S base w0 ρ a w g => g.weaken hm0 h⟩
/-- cells that are none -/
def segNil : Seg → Bool
  | .ints _ n l => n == 0 && l.isEmpty
  | .bytes n l => n == 0 && l.isEmpty
  | .bools n l => n == 0 && l.isEmpty
  | .gen n l => n == 0 && l.isEmpty
theorem rl_nil {S : Nat → Prop} {w : World} : ∀ {l : List Seg}, l.all segNil = true → RL S w l []
  | [], _ => .nil
  | s :: l, h => by
    simp only [List.all_cons, Bool.and_eq_true] at h
    have r := rl_nil (S := S) (w := w) h.2
    cases s with
    | ints k n zs => simp [segNil] at h; obtain ⟨⟨rfl, rfl⟩, _⟩ := h; exact .ints rfl r
    | bytes n zs => simp [segNil] at h; obtain ⟨⟨rfl, rfl⟩, _⟩ := h; exact .bytes rfl r
    | bools n zs => simp [segNil] at h; obtain ⟨⟨rfl, rfl⟩, _⟩ := h; exact .bools rfl r
    | gen n zs => simp [segNil] at h; obtain ⟨⟨rfl, rfl⟩, _⟩ := h; exact .gen .nil rfl r
/-- nil is a slice of one's own with nothing in it -/
def ownNil (s : St) (i : Nat) (e : TypeId) (sz : Nat) (l : List Seg) : St := ⟨s.t.set i (.own s.h.length 0), s.h ++ [some (.sl e sz 0 l)]⟩
theorem Ent.nil {s : St} {i : Nat} {e : TypeId} {sz : Nat} {l : List Seg} (h : s.sl i = .d (.v (.slice none 0 0))) (hl : l.all segNil = true) : Ent s (ownNil s i e sz l) := .mk fun G S base w0 ρ a w g => by
  have g1 := g.sim (Sim.more s 1)
  have hfr : St.bk ⟨s.t, s.h ++ List.replicate 1 none⟩ s.h.length = none := by
    rw [bk_more]; simp [St.bk]
  have hi : i < a.tmps.size := by
    apply Decidable.byContradiction
    intro hn
    have : s.sl i = .dead := by
      show s.t.getD i .dead = .dead
      rw [List.getD_eq_getElem?_getD, List.getElem?_eq_none (by rw [g.len]; omega)]; rfl
    rw [this] at h; cases h
  have hv := g.t i hi
  rw [h] at hv
  have hv' : a.tmps.getD i undef = .slice none 0 0 := RA.plain hv
  have none' : w.grownBy w none := ⟨rfl, rfl, rfl, Nat.le_refl _, fun _ _ _ => rfl⟩
  have g2 := g1.newSl (fr := s.h.length) hfr (by simp) none' (e := e) (sz := sz) (n := 0) (l := l) (cs := []) (v := .slice none 0 0) (World.ownsRow_nil _ _ _ _) (rl_nil hl) (some i)
  have ha : a.put (some i) (.slice none 0 0) = a := by
    unfold Act.put
    have : a.tmps.setIfInBounds i (.slice none 0 0) = a.tmps := by
      apply Array.ext (by simp)
      intro j h1 h2
      by_cases e : i = j
      · subst e
        rw [Array.getElem_setIfInBounds_self]
        have := hv'
        rw [Array.getD_eq_getD_getElem?, Array.getElem?_eq_getElem hi] at this
        exact this.symm
      · rw [Array.getElem_setIfInBounds_ne h2 e]
    simp only [this]
  rw [ha] at g2
  have e2 : ∀ x, St.app ⟨s.t, s.h ++ List.replicate 1 none⟩ (some i) (.own s.h.length 0) (some (s.h.length, x)) = ⟨s.t.set i (.own s.h.length 0), s.h ++ [some x]⟩ := by
    intro x
    unfold St.app
    simp
  rw [e2] at g2
  exact ⟨_, g2⟩
theorem wpA_sound : ∀ (c : Code) {s : St} {k : Exit → St → Prop} {ρ : Nat → Option Value} {a : Act} {w : World}, wpA E c s k → Good S base w0 s ρ a w →
    c.wp E.P (fun e a' w' => ∃ s' ρ', k e s' ∧ Good S base w0 s' ρ' a' w') a w
  | .skip, s, k, ρ, a, w, h, g => wp_skip ⟨s, ρ, h, g⟩
  | .label l, s, k, ρ, a, w, h, g => wp_label ⟨s, ρ, h, g⟩
  | .region id ops false, s, k, ρ, a, w, h, g => by
    have := regA_sound (w0 := w0) (S := S) (base := base) h.out g
    rw [Array.toArray_toList] at this
    refine wp_mono (wp_region_list this) ?_
    rintro e a' w' ⟨rfl, s', ρ', h1, h2⟩
    exact ⟨s', ρ', h1, h2⟩
  | .region id ops true, s, k, ρ, a, w, h, g => by
    have := regDr_sound (id := id) (w0 := w0) (S := S) (base := base) h.out g
    rw [Array.toArray_toList] at this
    refine wp_mono this ?_
    rintro e a' w' ⟨rfl, s', ρ', h1, h2⟩
    exact ⟨s', ρ', h1, h2⟩
  | .seq x y, s, k, ρ, a, w, h, g => by
    refine wp_seq (wp_mono (wpA_sound x h g) ?_)
    rintro e a' w' ⟨s', ρ', h1, h2⟩
    cases e with
    | normal => exact wpA_sound y h1 h2
    | _ => exact ⟨s', ρ', h1, h2⟩
  | .cond c x y, s, k, ρ, a, w, h, g => by
    unfold wpA at h
    split at h
    · next t hc =>
      have h1 := g.ev c
      rw [hc] at h1
      cases t with
      | true => exact wp_cond (RA.plain h1) (wpA_sound x h.out g)
      | false => exact wp_cond (RA.plain h1) (wpA_sound y h.out g)
    · exact h.elim
  | .block id c, s, k, ρ, a, w, h, g => by
    refine wp_block (wp_mono (wpA_sound c h g) ?_)
    rintro e a' w' ⟨s', ρ', h1, h2⟩
    cases e with
    | exit j =>
      simp only [Exit.inBlock]
      simp only at h1
      split
      · next hj => rw [if_pos hj] at h1; exact ⟨s', ρ', h1, h2⟩
      · next hj => rw [if_neg hj] at h1; exact ⟨s', ρ', h1, h2⟩
    | _ => exact ⟨s', ρ', h1, h2⟩
  | .loop c, s, k, ρ, a, w, h, g => by
    have ih : ∀ {s : St} {k : Exit → St → Prop} {ρ : Nat → Option Value} {a : Act} {w : World}, wpA E c s k → Good S base w0 s ρ a w → c.wp E.P (fun e a' w' => ∃ s' ρ', k e s' ∧ Good S base w0 s' ρ' a' w') a w := fun h g => wpA_sound c h g
    rcases h.out with (⟨n, h⟩ | ⟨s00, live, m, I, μ, hent, h0, h1, h2, h3⟩) | ⟨s00, I, μ, hent, h2, h3⟩
    · have key : ∀ n s ρ a w, LoopU (fun s k => wpA E c s k) k n s → Good S base w0 s ρ a w → ∀ (b : Frame) (kk : List Item) (cs : List Frame), ∃ e a' w', (∃ s' ρ', k e s' ∧ Good S base w0 s' ρ' a' w') ∧ Arrives E.P (lone (b.at a (.code c :: .inLoop c :: kk)) cs w) b kk cs e a' w' := by
        intro n
        induction n with
        | zero => intro s ρ a w h; exact h.elim
        | succ n ihn =>
          intro s ρ a w h hg b kk cs
          obtain ⟨e, a1, w1, ⟨s1, ρ1, hq, hg1⟩, harr⟩ := ih h hg b (.inLoop c :: kk) cs
          cases e with
          | normal =>
            obtain ⟨e2, a2, w2, hq2, harr2⟩ := ihn s1 ρ1 a1 w1 hq hg1 b kk cs
            exact ⟨e2, a2, w2, hq2, .of_steps (Steps.trans harr (.one step_inLoop)) harr2⟩
          | exit id => exact ⟨_, a1, w1, ⟨s1, ρ1, hq, hg1⟩, .pass (x := .inLoop c) rfl (fun _ _ => .inl (by simp)) harr⟩
          | goto l => exact ⟨_, a1, w1, ⟨s1, ρ1, hq, hg1⟩, .pass (x := .inLoop c) rfl (fun _ _ => .inl (by simp)) harr⟩
          | ret => exact ⟨_, a1, w1, ⟨s1, ρ1, hq, hg1⟩, .pass (x := .inLoop c) rfl (fun _ _ => .inl (by simp)) harr⟩
          | panic ch => exact ⟨_, a1, w1, ⟨s1, ρ1, hq, hg1⟩, .pass (x := .inLoop c) rfl (fun _ _ => .inl (by simp)) harr⟩
          | outgrown => exact ⟨_, a1, w1, ⟨s1, ρ1, hq, hg1⟩, .pass (x := .inLoop c) rfl (fun _ _ => .inl (by simp)) harr⟩
      intro b kk cs
      obtain ⟨e, a', w', hq, harr⟩ := key n s ρ a w h g b kk cs
      exact ⟨e, a', w', hq, .of_steps (.one step_loop) harr⟩
    · let G : Nat → Act → World → Prop := fun n a w => ∃ s ρ, I s ∧ Good S base w0 s ρ a w ∧ μ s = n
      have key : ∀ n a w, G n a w → ∀ (b : Frame) (kk : List Item) (cs : List Frame), ∃ e a' w', (∃ s' ρ', k e s' ∧ Good S base w0 s' ρ' a' w') ∧ Arrives E.P (lone (b.at a (.code c :: .inLoop c :: kk)) cs w) b kk cs e a' w' := by
        intro n
        induction n using Nat.strongRecOn with
        | _ n ihn =>
          rintro a w ⟨s, ρ, hI, hg, rfl⟩ b kk cs
          obtain ⟨e, a1, w1, ⟨s1, ρ1, hq, hg1⟩, harr⟩ := ih (h3 s hI) hg b (.inLoop c :: kk) cs
          cases e with
          | normal =>
            obtain ⟨hl, hI1, hlt⟩ := hq
            obtain ⟨ρ2, hg2⟩ := hg1.weaken h0 hl
            obtain ⟨e2, a2, w2, hq2, harr2⟩ := ihn _ hlt a1 w1 ⟨_, ρ2, hI1, hg2, rfl⟩ b kk cs
            exact ⟨e2, a2, w2, hq2, .of_steps (Steps.trans harr (.one step_inLoop)) harr2⟩
          | exit id => exact ⟨_, a1, w1, ⟨s1, ρ1, hq, hg1⟩, .pass (x := .inLoop c) rfl (fun _ _ => .inl (by simp)) harr⟩
          | goto l => exact ⟨_, a1, w1, ⟨s1, ρ1, hq, hg1⟩, .pass (x := .inLoop c) rfl (fun _ _ => .inl (by simp)) harr⟩
          | ret => exact ⟨_, a1, w1, ⟨s1, ρ1, hq, hg1⟩, .pass (x := .inLoop c) rfl (fun _ _ => .inl (by simp)) harr⟩
          | panic ch => exact ⟨_, a1, w1, ⟨s1, ρ1, hq, hg1⟩, .pass (x := .inLoop c) rfl (fun _ _ => .inl (by simp)) harr⟩
          | outgrown => exact ⟨_, a1, w1, ⟨s1, ρ1, hq, hg1⟩, .pass (x := .inLoop c) rfl (fun _ _ => .inl (by simp)) harr⟩
      obtain ⟨ρ00, g00⟩ := hent.out _ _ _ _ _ _ _ g
      obtain ⟨ρ2, hg2⟩ := g00.weaken h0 h1
      intro b kk cs
      obtain ⟨e, a', w', hq, harr⟩ := key _ a w ⟨_, ρ2, h2, hg2, rfl⟩ b kk cs
      exact ⟨e, a', w', hq, .of_steps (.one step_loop) harr⟩
    · let G : Nat → Act → World → Prop := fun n a w => ∃ s ρ, I s ∧ Good S base w0 s ρ a w ∧ μ s = n
      have key : ∀ n a w, G n a w → ∀ (b : Frame) (kk : List Item) (cs : List Frame), ∃ e a' w', (∃ s' ρ', k e s' ∧ Good S base w0 s' ρ' a' w') ∧ Arrives E.P (lone (b.at a (.code c :: .inLoop c :: kk)) cs w) b kk cs e a' w' := by
        intro n
        induction n using Nat.strongRecOn with
        | _ n ihn =>
          rintro a w ⟨s, ρ, hI, hg, rfl⟩ b kk cs
          obtain ⟨e, a1, w1, ⟨s1, ρ1, hq, hg1⟩, harr⟩ := ih (h3 s hI) hg b (.inLoop c :: kk) cs
          cases e with
          | normal =>
            obtain ⟨s2, he2, hI1, hlt⟩ := hq.out
            obtain ⟨ρ2, hg2⟩ := he2.out _ _ _ _ _ _ _ hg1
            obtain ⟨e2, a2, w2, hq2, harr2⟩ := ihn _ hlt a1 w1 ⟨_, ρ2, hI1, hg2, rfl⟩ b kk cs
            exact ⟨e2, a2, w2, hq2, .of_steps (Steps.trans harr (.one step_inLoop)) harr2⟩
          | exit id => exact ⟨_, a1, w1, ⟨s1, ρ1, hq, hg1⟩, .pass (x := .inLoop c) rfl (fun _ _ => .inl (by simp)) harr⟩
          | goto l => exact ⟨_, a1, w1, ⟨s1, ρ1, hq, hg1⟩, .pass (x := .inLoop c) rfl (fun _ _ => .inl (by simp)) harr⟩
          | ret => exact ⟨_, a1, w1, ⟨s1, ρ1, hq, hg1⟩, .pass (x := .inLoop c) rfl (fun _ _ => .inl (by simp)) harr⟩
          | panic ch => exact ⟨_, a1, w1, ⟨s1, ρ1, hq, hg1⟩, .pass (x := .inLoop c) rfl (fun _ _ => .inl (by simp)) harr⟩
          | outgrown => exact ⟨_, a1, w1, ⟨s1, ρ1, hq, hg1⟩, .pass (x := .inLoop c) rfl (fun _ _ => .inl (by simp)) harr⟩
      obtain ⟨ρ00, g00⟩ := hent.out _ _ _ _ _ _ _ g
      intro b kk cs
      obtain ⟨e, a', w', hq, harr⟩ := key _ a w ⟨_, ρ00, h2, g00, rfl⟩ b kk cs
      exact ⟨e, a', w', hq, .of_steps (.one step_loop) harr⟩
  | .exit id, s, k, ρ, a, w, h, g => wp_exit ⟨s, ρ, h, g⟩
  | .ret, s, k, ρ, a, w, h, g => wp_ret ⟨s, ρ, h, g⟩
  | .rangeFunc _ _ _ _, s, k, ρ, a, w, h, g => h.elim
  | .scope _, s, k, ρ, a, w, h, g => h.elim
  | .goto _, s, k, ρ, a, w, h, g => h.elim
  | .refuse _, s, k, ρ, a, w, h, g => h.elim

/-! functions -/
/-- several results: slices of one's own are data from now on -/
def resL (E : EnvX) (s : St) : List ResultVar → (List A → Prop) → Prop
  | [], K => K []
  | .tmp t :: r, K =>
    (match s.sl t with
     | .d a => resL E s r fun l => K (a :: l)
     | .own b n => (match s.bk b with | some (.sl _ _ m l) => n = m ∧ resL E s r fun l' => K (.row n l :: l') | _ => False)
     | _ => False)
  | .cell p ty :: r, K =>
    (match E.Y ty, s.sl p with
     | some i, .ptr b base => (match s.bk b with | some (.var l) => rdK l i.agg i.sz base fun a => resL E s r fun l => K (a :: l) | _ => False)
     | _, _ => False)
/-- what the results are -/
def resK' (E : EnvX) (s : St) (rs : List ResultVar) (K : Res → Prop) : Prop :=
  match rs with
  | [.tmp t] => (match s.sl t with
    | .d a => K (.d a)
    | .own b n => (match s.bk b with | some (.sl e sz m l) => n = m ∧ K (.o e sz n l) | _ => False)
    | .ptr b 0 => (match s.bk b with | some x => K (.p x) | none => False)
    | _ => False)
  | [.cell p ty] => (match E.Y ty, s.sl p with
    | some i, .ptr b base => (match s.bk b with | some (.var l) => rdK l i.agg i.sz base fun a => K (.d a) | _ => False)
    | _, _ => False)
  | [] => K (.t [])
  | l => resL E s l fun asx => K (.t asx)
theorem run_results1 {P : Program} {fn : Func} {tmps : Array Value} {w : World} {r : ResultVar} (h : fn.results = #[r]) {v : Value} (hr : (match r with | .tmp t => (pure (tmps.getD t undef) : Sem Value) | .cell a t => do loadVar t (← asAddr (tmps.getD a undef))).run P w = .ok v w) :
    (results fn tmps).run P w = .ok v w := by
  unfold results
  rw [h]
  simp only [List.mapM_toArray, List.mapM_cons, List.mapM_nil]
  cases r with
  | tmp t => simp at hr ⊢; exact hr
  | cell a t =>
    simp only [Sem.run_bind] at hr
    cases hq : (asAddr (tmps.getD a undef)).run P w with
    | halt x w1 => rw [hq] at hr; simp [Result.andThen] at hr
    | ok ad w1 =>
      rw [hq] at hr
      simp only [Result.andThen_ok] at hr
      simp only [Array.getD_eq_getD_getElem?] at hq
      simp [Sem.run_bind, hq, hr]
def resOf (tmps : Array Value) : ResultVar → Sem Value
  | .tmp t => pure (tmps.getD t undef)
  | .cell a t => do loadVar t (← asAddr (tmps.getD a undef))
theorem results_eq (fn : Func) (tmps : Array Value) : results fn tmps = (do let vs ← fn.results.mapM (resOf tmps); pure (if h : vs.size = 1 then vs[0] else .tuple vs)) := by
  unfold results
  congr 1
theorem resL_spec {s : St} {ρ : Nat → Option Value} {a : Act} {w : World} {S' : Nat → Prop} (hS : ∀ z, Dt S base ρ z → S' z ∨ base ≤ z) (g : Good S base w0 s ρ a w) : ∀ {l : List ResultVar} {K : List A → Prop}, resL E s l K →
    ∃ asx vs, K asx ∧ vs.length = l.length ∧ (l.mapM (resOf a.tmps)).run E.P w = .ok vs w ∧ RAs (fun r => S' r ∨ base ≤ r) w asx vs
  | [], K, h => ⟨[], [], h, rfl, by simp, .nil⟩
  | .cell p ty :: r, K, h => by
    have out : Keeps (Dt S base ρ) w (fun r => S' r ∨ base ≤ r) w := toKeeps hS
    unfold resL at h
    split at h
    · next i b q hY hd =>
      split at h
      · next l hk =>
        obtain ⟨d, hK, hs⟩ := rdK_spec h
        obtain ⟨asx, vs, h1, hlen, h2, h3⟩ := resL_spec hS g hK
        obtain ⟨r, cs, t, k1, k2, k3, k4⟩ := g.var hk
        have k5 := g.ev (.tmp p)
        rw [show s.ev (.tmp p) = .ptr b q from hd] at k5
        obtain ⟨r', e1, e2⟩ := k5 _ k1
        cases e1
        obtain ⟨v, k6, k7⟩ := run_load_part (E.hY ty i hY) (r := r) (o := 0) (fun j hj => by rw [Nat.zero_add, cells_of k3, List.getElem?_eq_getElem hj]) (hs k4)
        rw [Nat.zero_add] at k6
        have e3 : a.tmps.getD p undef = .pointer (some ⟨r, q, none⟩) := e2
        refine ⟨d :: asx, v :: vs, h1, by simp [hlen], ?_, .cons (RA.up out k7) h3⟩
        have e4 : (resOf a.tmps (.cell p ty)).run E.P w = .ok v w := by
          simp only [resOf, Sem.run_bind, e3, asAddr, Sem.run_pure, Result.andThen_ok, k6]
        simp [Sem.run_bind, e4, h2]
      · exact h.elim
    · exact h.elim
  | .tmp t :: r, K, h => by
    have out : Keeps (Dt S base ρ) w (fun r => S' r ∨ base ≤ r) w := toKeeps hS
    unfold resL at h
    split at h
    · next d hd =>
      obtain ⟨asx, vs, h1, hlen, h2, h3⟩ := resL_spec hS g h
      refine ⟨d :: asx, a.tmps.getD t undef :: vs, h1, by simp [hlen], ?_, .cons ?_ h3⟩
      · simp [Sem.run_bind, h2, resOf]
      · have := g.ev (.tmp t)
        rw [show s.ev (.tmp t) = .d d from hd] at this
        exact RA.up out this
    · next b n hd =>
      split at h
      · next ty sz m l hk =>
        obtain ⟨rfl, h⟩ := h
        obtain ⟨asx, vs, h1, hlen, h2, h3⟩ := resL_spec hS g h
        have k := g.ev (.tmp t)
        rw [show s.ev (.tmp t) = .own b n from hd] at k
        obtain ⟨cs, k1, k2, k3⟩ := own_now g hk k
        refine ⟨.row n l :: asx, a.tmps.getD t undef :: vs, h1, by simp [hlen], ?_, .cons ?_ h3⟩
        · simp [Sem.run_bind, h2, resOf]
        · have hv : a.tmps.getD t undef = a.eval (.tmp t) := rfl
          rw [hv]
          rcases k2.2 with ⟨e1, e2⟩ | ⟨r, cap, cur, e1, e3, e4, e5, e6, e7, e8⟩
          · rw [e1, e2]
            have hcs : cs = [] := by have := k2.1; rw [e2, Nat.zero_mul] at this; exact List.length_eq_zero_iff.1 this
            exact .row (k3.up out) (Nat.le_refl _) (Nat.zero_le _) (fun _ => rfl) (.inl hcs)
          · rw [e1]
            refine .row (k3.up out) e5 e6 (fun e => by cases e) (.inr ⟨r, 0, rfl, .inr e3, (Array.getElem?_eq_some_iff.1 e4).1, fun j hj => ?_⟩)
            rw [Nat.zero_add, cell_of_row w r j cur _ (0, 0) e4]
            have : (cur.toList.take (n * sz))[j]? = cs[j]? := by rw [e8]
            rw [List.getElem?_take, if_pos (by have := k2.1; omega), Array.getElem?_toList, List.getElem?_eq_getElem hj] at this
            exact this
      · exact h.elim
    · exact h.elim
theorem resK_sound {fn : Func} {s : St} {ρ : Nat → Option Value} {a : Act} {w : World} {K : Res → Prop} {S' : Nat → Prop} (hS : ∀ z, Dt S base ρ z → S' z ∨ base ≤ z) (hX : ∀ y, K (.p y) → ∀ q, ¬ w0.X q) (h : resK' E s fn.results.toList K) (g : Good S base w0 s ρ a w) :
    ∃ r v, K r ∧ (results fn a.tmps).run E.P w = .ok v w ∧ RR S' base w r v := by
  have out : Keeps (Dt S base ρ) w (fun r => S' r ∨ base ≤ r) w := toKeeps hS
  have hres : ∀ {l : List ResultVar}, fn.results.toList = l → fn.results = l.toArray := fun {l} e => by rw [← e]
  have slot : ∀ {t : Nat} {d : A}, s.sl t = .d d → RA (fun r => S' r ∨ base ≤ r) w d (a.tmps.getD t undef) := fun {t d} e => by
    have := g.ev (.tmp t)
    rw [show s.ev (.tmp t) = .d d from e] at this
    exact RA.up out this
  unfold resK' at h
  split at h
  · next t e =>
    split at h
    · next d hd => exact ⟨_, _, h, run_results1 (hres e) rfl, slot hd⟩
    · next b n hd =>
      split at h
      · next ty sz m l hk =>
        obtain ⟨rfl, h⟩ := h
        have h1 := g.ev (.tmp t)
        rw [show s.ev (.tmp t) = .own b n from hd] at h1
        obtain ⟨cs, h2, h3, h4⟩ := own_now g hk h1
        refine ⟨_, _, h, run_results1 (hres e) rfl, cs, h3, RL.up ⟨Nat.le_refl _, fun r _ hd => ⟨⟨hS r hd, fun e => ?_⟩, fun _ => rfl⟩⟩ h4⟩
        refine hd.2 b _ h2 ?_
        generalize hv : a.eval (.tmp t) = v at e
        have : v.ownBlock = some r := by rw [← hv]; exact e
        cases v <;> try (simp [Value.ownBlock] at this; done)
        next ad n' c => cases ad <;> simp_all [Value.ownBlock, Rl]
      · exact h.elim
    · next b hd =>
      split at h
      · next x hk =>
        have h1 := g.ev (.tmp t)
        rw [show s.ev (.tmp t) = .ptr b 0 from hd] at h1
        have hB := g.b b
        rw [hk] at hB
        have fin : ∀ q, ρ b = some (.pointer (some ⟨q, 0, none⟩)) → HB (Dt S base ρ) w q x → ∃ r v, K r ∧ (results fn a.tmps).run E.P w = .ok v w ∧ RR S' base w r v := fun q hρ hh => by
          obtain ⟨r', e1, e2⟩ := h1 _ hρ
          cases e1
          refine ⟨_, _, h, run_results1 (hres e) rfl, q, e2, ?_, hh.up (toKeeps fun z hz => ⟨hS z hz, fun e => hz.2 b _ hρ (by rw [e]; rfl)⟩) rfl⟩
          rcases (g.low b _ q hρ rfl).1 with h5 | h5
          · exact h5
          · exact (hX _ h q h5).elim
        cases x with
        | var l => obtain ⟨q, cs, ty, k1, _, k2, k3⟩ := hB; exact fin q k1 ⟨cs, ty, k2, k3⟩
        | obj p => obtain ⟨q, cs, ty, k1, _, k2, k3⟩ := hB; exact fin q k1 ⟨cs, ty, k2, k3⟩
        | abs p => obtain ⟨q, F, k1, _⟩ := hB; obtain ⟨r', e1, _⟩ := h1 _ k1; exact (fpv_no.1 _ e1).elim
        | sl ty sz n l =>
          exfalso
          obtain ⟨u, cs, k1, k2, _⟩ := hB
          obtain ⟨r', e1, _⟩ := h1 u k1
          rcases k2.2 with ⟨e2, _⟩ | ⟨_, _, _, e2, _⟩ <;> rw [e1] at e2 <;> cases e2
      · exact h.elim
    · exact h.elim
  · next p ty e =>
    split at h
    · next i b q hY hd =>
      split at h
      · next l hk =>
        obtain ⟨d, hK, hs⟩ := rdK_spec h
        obtain ⟨r, cs, t, h1, h2, h3, h4⟩ := g.var hk
        have h5 := g.ev (.tmp p)
        rw [show s.ev (.tmp p) = .ptr b q from hd] at h5
        obtain ⟨r', e1, e2⟩ := h5 _ h1
        cases e1
        obtain ⟨v, h6, h7⟩ := run_load_part (E.hY ty i hY) (r := r) (o := 0) (fun j hj => by rw [Nat.zero_add, cells_of h3, List.getElem?_eq_getElem hj]) (hs h4)
        rw [Nat.zero_add] at h6
        refine ⟨_, v, hK, run_results1 (hres e) ?_, RA.up out h7⟩
        have e3 : a.tmps.getD p undef = .pointer (some ⟨r, q, none⟩) := e2
        simp only [Sem.run_bind, e3, asAddr, Sem.run_pure, Result.andThen_ok, h6]
      · exact h.elim
    · exact h.elim
  · next e => exact ⟨_, .tuple #[], h, results_none (hres e) _ _ _, [], rfl, .nil⟩
  · rename_i l n1 n2 n3
    obtain ⟨asx, vs, hK, hlen, hm, hr⟩ := resL_spec hS g h
    refine ⟨_, .tuple vs.toArray, hK, ?_, vs, rfl, hr⟩
    have hne : vs.length ≠ 1 := by
      intro e1
      rw [hlen] at e1
      obtain ⟨x, e2⟩ := List.length_eq_one_iff.1 e1
      cases x with
      | tmp t => first | exact n1 t e2 | exact n2 t e2 | exact n3 t e2
      | cell p ty => first | exact n1 p ty e2 | exact n2 p ty e2 | exact n3 p ty e2
    rw [results_eq]
    have h2 : fn.results = fn.results.toList.toArray := by simp
    rw [h2, List.mapM_toArray]
    simp [Sem.run_bind, hm, hne]

/-- a function answers what its code comes to -/
theorem fn_of_wpA {f : FuncId} {fn : Func} {c : Code} {args : List A} {res : Res} (hf : E.P.funcs[f]? = some fn) (hb : fn.body = some c) (hn : args.length ≤ fn.ntmps)
    (h : wpA E c ⟨args.map T.d ++ List.replicate (fn.ntmps - args.length) (.d (.v undef)), []⟩ fun e s => (e = .normal ∨ e = .ret) ∧ resK' E s fn.results.toList fun r => r = res) : FnOK E.P E.G f args res := by
  intro S w vs hG hv
  have hlen : ∀ {l : List A} {vs : List Value}, RAs S w l vs → vs.length = l.length := by
    intro l vs h
    induction h with
    | nil => rfl
    | cons _ _ ih => simp [ih]
  have hl := hlen hv
  refine calls_of_wp hf hb ?_
  have g : Good S w.heap.size (⟨w, fun _ => False, none⟩ : W0 E.G) ⟨args.map T.d ++ List.replicate (fn.ntmps - args.length) (.d (.v undef)), []⟩ (fun _ => none) { tmps := vs.toArray ++ Array.replicate (fn.ntmps - vs.toArray.size) undef, defers := [] } w := by
    have D : Keeps S w (Dt S w.heap.size fun _ => none) w := ⟨Nat.le_refl _, fun r _ hs => ⟨⟨.inl hs, fun b u hb => by cases hb⟩, fun _ => rfl⟩⟩
    have get : ∀ {l : List A} {vs : List Value}, RAs S w l vs → ∀ i, i < l.length → RA S w (l.getD i (.v undef)) (vs.getD i undef) := by
      intro l vs h
      induction h with
      | nil => intro i hi; simp at hi
      | cons h r ih =>
        intro i hi
        cases i with
        | zero => simpa using h
        | succ i => simpa using ih i (by simpa using hi)
    refine ⟨by simp [hl], fun i hi => ?_, fun b => ?_, fun i b hb => ?_, fun b b' u u' r hb => (by cases hb), fun b u r hb => (by cases hb), BelX.refl _ _ _, hG.up D, fun q hq => (by cases hq), Nat.le_refl _, rfl⟩
    · by_cases h1 : i < args.length
      · have e1 : St.sl ⟨args.map T.d ++ List.replicate (fn.ntmps - args.length) (.d (.v undef)), []⟩ i = .d (args.getD i (.v undef)) := by
          simp [St.sl, List.getD_eq_getElem?_getD, List.getElem?_append_left, h1]
        have e2 : (vs.toArray ++ Array.replicate (fn.ntmps - vs.toArray.size) undef).getD i undef = vs.getD i undef := by
          rw [Array.getD_eq_getD_getElem?, Array.getElem?_append_left (by simp [hl, h1]), List.getD_eq_getElem?_getD]; simp
        rw [e1, e2]
        exact RA.up D (get hv i h1)
      · have hi2 : i < fn.ntmps := by simp [hl] at hi; omega
        have e1 : St.sl ⟨args.map T.d ++ List.replicate (fn.ntmps - args.length) (.d (.v undef)), []⟩ i = .d (.v undef) := by
          simp only [St.sl, List.getD_eq_getElem?_getD]
          rw [List.getElem?_append_right (by simp; omega), List.getElem?_replicate]
          rw [if_pos (by simp; omega)]; rfl
        have e2 : (vs.toArray ++ Array.replicate (fn.ntmps - vs.toArray.size) undef).getD i undef = undef := by
          rw [Array.getD_eq_getD_getElem?, Array.getElem?_append_right (by simp [hl]; omega), Array.getElem?_replicate]
          split <;> rfl
        rw [e1, e2]
        exact .v undef
    · show RB _ _ _ _ _ (([] : List (Option Bk)).getD b none)
      rw [List.getD_eq_getElem?_getD]
      rfl
    · exfalso
      by_cases h1 : i < args.length
      · have e1 : St.sl ⟨args.map T.d ++ List.replicate (fn.ntmps - args.length) (.d (.v undef)), []⟩ i = .d (args.getD i (.v undef)) := by
          simp [St.sl, List.getD_eq_getElem?_getD, List.getElem?_append_left, h1]
        rw [e1] at hb; simp [T.refs] at hb
      · have e1 : St.sl ⟨args.map T.d ++ List.replicate (fn.ntmps - args.length) (.d (.v undef)), []⟩ i = .d (.v undef) ∨ St.sl ⟨args.map T.d ++ List.replicate (fn.ntmps - args.length) (.d (.v undef)), []⟩ i = .dead := by
          simp only [St.sl, List.getD_eq_getElem?_getD]
          rw [List.getElem?_append_right (by simp; omega), List.getElem?_replicate]
          split
          · exact .inl rfl
          · exact .inr rfl
        rcases e1 with e1 | e1 <;> (rw [e1] at hb; simp [T.refs] at hb)
  refine wp_mono (wpA_sound c h g) ?_
  rintro e a' w' ⟨s', ρ', ⟨he, hr⟩, hg⟩
  obtain ⟨r, v, rfl, h2, h3⟩ := resK_sound (fun z hz => hz.1) (fun _ _ _ h => h) hr hg
  rcases he with rfl | rfl
  · exact ⟨hg.defs, v, h2, v, rfl, h3, hg.bel.below fun _ h => h⟩
  · exact ⟨hg.defs, v, h2, v, rfl, h3, hg.bel.below fun _ h => h⟩

/-- the same, where a block is lent to it -/
theorem fnM_of_wpA {f : FuncId} {fn : Func} {c : Code} {pos : Nat} {x x' : Bk} {args : List A} {res : Res} (hf : E.P.funcs[f]? = some fn) (hb : fn.body = some c) (hn : args.length + 1 ≤ fn.ntmps) (hp : pos ≤ args.length) (hx : ∀ e sz n l, x ≠ .sl e sz n l)
    (h : wpA E c ⟨(args.map T.d).insertIdx pos (.ptr 0 0) ++ List.replicate (fn.ntmps - (args.length + 1)) (.d (.v undef)), [some x]⟩ fun e s => (e = .normal ∨ e = .ret) ∧ s.bk 0 = some x' ∧ resK' E s fn.results.toList fun r => r = res) (hres : ∀ y, res ≠ .p y) : FnM E.P E.G f pos x args res x' := by
  intro S w q vs hq hG hB hv
  have hlen : ∀ {D : Nat → Prop} {l : List A} {vs : List Value}, RAs D w l vs → vs.length = l.length := by
    intro D l vs h
    induction h with
    | nil => rfl
    | cons _ _ ih => simp [ih]
  have hl := hlen hv
  let ρ0 : Nat → Option Value := fun b => if b = 0 then some (.pointer (some ⟨q, 0, none⟩)) else none
  have hρ0 : ∀ b u, ρ0 b = some u → b = 0 ∧ u = .pointer (some ⟨q, 0, none⟩) := by
    intro b u hb
    simp only [ρ0] at hb
    split at hb
    · next e => cases hb; exact ⟨e, rfl⟩
    · cases hb
  have D : Keeps (fun z => S z ∧ z ≠ q) w (Dt S w.heap.size ρ0) w := ⟨Nat.le_refl _, fun r _ hs => ⟨⟨.inl hs.1, fun b u hb hu => by
    obtain ⟨_, rfl⟩ := hρ0 b u hb
    simp [Rl] at hu
    exact hs.2 hu.symm⟩, fun _ => rfl⟩⟩
  refine calls_of_wp hf hb ?_
  have g : Good S w.heap.size (⟨w, fun r => r = q, some q⟩ : W0 E.G) ⟨(args.map T.d).insertIdx pos (.ptr 0 0) ++ List.replicate (fn.ntmps - (args.length + 1)) (.d (.v undef)), [some x]⟩ ρ0
      { tmps := (vs.insertIdx pos (.pointer (some ⟨q, 0, none⟩))).toArray ++ Array.replicate (fn.ntmps - (vs.insertIdx pos (.pointer (some ⟨q, 0, none⟩))).toArray.size) undef, defers := [] } w := by
    have hil : (vs.insertIdx pos (.pointer (some ⟨q, 0, none⟩))).length = args.length + 1 := by rw [List.length_insertIdx_of_le_length (by omega), hl]
    have hil2 : ((args.map T.d).insertIdx pos (.ptr 0 0)).length = args.length + 1 := by rw [List.length_insertIdx_of_le_length (by simpa using hp)]; simp
    have get : ∀ {l : List A} {vs : List Value}, RAs (fun z => S z ∧ z ≠ q) w l vs → ∀ i, i < l.length → RA (fun z => S z ∧ z ≠ q) w (l.getD i (.v undef)) (vs.getD i undef) := by
      intro l vs h
      induction h with
      | nil => intro i hi; simp at hi
      | cons h r ih =>
        intro i hi
        cases i with
        | zero => simpa using h
        | succ i => simpa using ih i (by simpa using hi)
    have slot : ∀ i, St.sl ⟨(args.map T.d).insertIdx pos (.ptr 0 0) ++ List.replicate (fn.ntmps - (args.length + 1)) (.d (.v undef)), [some x]⟩ i =
        if i < pos then .d (args.getD i (.v undef)) else if i = pos then .ptr 0 0 else if i < args.length + 1 then .d (args.getD (i - 1) (.v undef)) else if i < fn.ntmps then .d (.v undef) else .dead := by
      intro i
      simp only [St.sl, List.getD_eq_getElem?_getD]
      by_cases h0 : i < args.length + 1
      · rw [List.getElem?_append_left (by omega), List.getElem?_insertIdx]
        by_cases h1 : i < pos
        · rw [if_pos h1, if_pos h1]
          have : i < args.length := by omega
          simp [this]
        · rw [if_neg h1, if_neg h1]
          by_cases h2 : i = pos
          · rw [if_pos h2, if_pos h2]; simp [show i ≤ args.length by omega]
          · rw [if_neg h2, if_neg h2, if_pos h0]
            have : i - 1 < args.length := by omega
            simp [this]
      · rw [if_neg (by omega), if_neg (by omega), if_neg h0, List.getElem?_append_right (by omega), List.getElem?_replicate]
        by_cases h3 : i < fn.ntmps
        · rw [if_pos h3, if_pos (by omega)]; rfl
        · rw [if_neg h3, if_neg (by omega)]; rfl
    refine ⟨by simp [hil, hil2], fun i hi => ?_, fun b => ?_, fun i b hb => ?_, fun b b' u u' r h1 h2 h3 h4 => ?_, fun b u r h1 h2 => ?_, BelX.refl _ _ _, hG.up D, fun z hz => (by cases hz; rfl), Nat.le_refl _, rfl⟩
    · rw [slot]
      have hi2 : i < fn.ntmps := by simp [hil] at hi; omega
      have e2 : (((vs.insertIdx pos (.pointer (some ⟨q, 0, none⟩))).toArray ++ Array.replicate (fn.ntmps - (vs.insertIdx pos (.pointer (some ⟨q, 0, none⟩))).toArray.size) undef).getD i undef) =
          if i < pos then vs.getD i undef else if i = pos then .pointer (some ⟨q, 0, none⟩) else if i < args.length + 1 then vs.getD (i - 1) undef else undef := by
        rw [Array.getD_eq_getD_getElem?]
        by_cases h0 : i < args.length + 1
        · rw [Array.getElem?_append_left (by simp [hil]; omega), List.getElem?_toArray, List.getElem?_insertIdx]
          by_cases h1 : i < pos
          · rw [if_pos h1, if_pos h1]; simp [List.getD_eq_getElem?_getD]
          · rw [if_neg h1, if_neg h1]
            by_cases h2 : i = pos
            · rw [if_pos h2, if_pos h2]; simp [hl, show i ≤ args.length by omega]
            · rw [if_neg h2, if_neg h2, if_pos h0]; simp [List.getD_eq_getElem?_getD]
        · rw [if_neg (by omega), if_neg (by omega), if_neg h0, Array.getElem?_append_right (by simp [hil]; omega), Array.getElem?_replicate]
          split <;> rfl
      rw [e2]
      by_cases h1 : i < pos
      · rw [if_pos h1, if_pos h1]; exact RA.up D (get hv i (by omega))
      · rw [if_neg h1, if_neg h1]
        by_cases h2 : i = pos
        · rw [if_pos h2, if_pos h2]
          intro u hu
          obtain ⟨_, rfl⟩ := hρ0 0 u hu
          exact ⟨q, rfl, rfl⟩
        · rw [if_neg h2, if_neg h2]
          by_cases h0 : i < args.length + 1
          · rw [if_pos h0, if_pos h0]; exact RA.up D (get hv (i - 1) (by omega))
          · rw [if_neg h0, if_neg h0, if_pos hi2]; exact .v undef
    · by_cases hb : b = 0
      · subst hb
        have hB' := hB.up D rfl
        show RB _ _ _ _ 0 (some x)
        cases x with
        | var l => obtain ⟨cs, t, e, e2⟩ := hB'; exact ⟨q, cs, t, rfl, trivial, e, e2⟩
        | obj p => obtain ⟨cs, t, e, e2⟩ := hB'; exact ⟨q, cs, t, rfl, trivial, e, e2⟩
        | abs p => exact hB'.elim
        | sl e sz n l => exact (hx e sz n l rfl).elim
      · have : St.bk ⟨(args.map T.d).insertIdx pos (.ptr 0 0) ++ List.replicate (fn.ntmps - (args.length + 1)) (.d (.v undef)), [some x]⟩ b = none := by
          cases b with
          | zero => exact absurd rfl hb
          | succ b => simp [St.bk]
        rw [this]
        show ρ0 b = none
        exact if_neg hb
    · rw [slot] at hb
      by_cases h1 : i < pos
      · rw [if_pos h1] at hb; simp [T.refs] at hb
      · rw [if_neg h1] at hb
        by_cases h2 : i = pos
        · rw [if_pos h2] at hb
          simp [T.refs] at hb
          subst hb
          simp [St.bk]
        · rw [if_neg h2] at hb
          by_cases h0 : i < args.length + 1
          · rw [if_pos h0] at hb; simp [T.refs] at hb
          · rw [if_neg h0] at hb
            split at hb <;> simp [T.refs] at hb
    · obtain ⟨rfl, _⟩ := hρ0 b u h1
      obtain ⟨rfl, _⟩ := hρ0 b' u' h2
      rfl
    · obtain ⟨_, rfl⟩ := hρ0 b u h1
      simp [Rl] at h2
      subst h2
      exact ⟨.inr rfl, hq⟩
  refine wp_mono (wpA_sound c h g) ?_
  rintro e a' w' ⟨s', ρ', ⟨he, hk, hr⟩, hg⟩
  have hpin := hg.pin q rfl
  have hnq : ∀ z, Dt S w.heap.size ρ' z → z ≠ q := fun z hz e => hz.2 0 _ hpin (by rw [e]; rfl)
  obtain ⟨r, v, rfl, h2, h3⟩ := resK_sound (S' := fun z => S z ∧ z ≠ q) (fun z hz => by
    rcases hz.1 with h1 | h1
    · exact .inl ⟨h1, hnq z hz⟩
    · exact .inr h1) (fun y hy => (hres y hy.symm).elim) hr hg
  have h4 : HB (fun z => (S z ∨ w.heap.size ≤ z) ∧ z ≠ q) w' q x' := by
    have hB' := hg.b 0
    rw [hk] at hB'
    have K : Keeps (Dt S w.heap.size ρ') w' (fun z => (S z ∨ w.heap.size ≤ z) ∧ z ≠ q) w' := toKeeps fun z hz => ⟨hz.1, hnq z hz⟩
    cases x' with
    | var l => obtain ⟨q', cs, t, e1, _, e2, e3⟩ := hB'; rw [hpin] at e1; cases e1; exact ⟨cs, t, e2, e3.up K⟩
    | obj p => obtain ⟨q', cs, t, e1, _, e2, e3⟩ := hB'; rw [hpin] at e1; cases e1; exact ⟨cs, t, e2, e3⟩
    | abs p => obtain ⟨q', F, e1, _⟩ := hB'; rw [hpin] at e1; exact (fpv_no.1 _ (Option.some.inj e1).symm).elim
    | sl e sz n l =>
      exfalso
      obtain ⟨u, cs, e1, e2, _⟩ := hB'
      rw [hpin] at e1; cases e1
      rcases e2.2 with ⟨e3, _⟩ | ⟨_, _, _, e3, _⟩ <;> cases e3
  have h5 : w.grownBy w' (some q) := ⟨hg.bel.os, hg.bel.tape, hg.bel.output, hg.bel.size, fun k hk hne => hg.bel.block k hk (fun e => hne (by rw [e]))⟩
  rcases he with rfl | rfl
  · exact ⟨hg.defs, v, h2, v, rfl, h3, h4, h5⟩
  · exact ⟨hg.defs, v, h2, v, rfl, h3, h4, h5⟩
end
end Go.Proofs.Ytcfdlffjghlghaa
