/-
  The machine without memory: a loop that counts. No program is named here.
-/
import Derived.Test.YtbgdlggobbiibaaI10
import Derived.Test.YtbgdlggobbiibaaI11
import Derived.Test.YtbgdlggobbiibaaI12
namespace Go.Proofs.Ytbgdlggobbiibaa
set_option maxRecDepth 100000
open Go.RowKit
set_option linter.unusedVariables false
set_option linter.unusedSimpArgs false

theorem max_of {p : Nat → Prop} : ∀ (N : Nat), (∃ j, j ≤ N ∧ p j) → ∃ j, j ≤ N ∧ p j ∧ ∀ i, i ≤ N → p i → i ≤ j
  | 0, ⟨j, h1, h2⟩ => by
    obtain rfl : j = 0 := by omega
    exact ⟨0, Nat.le_refl _, h2, fun i hi _ => hi⟩
  | N + 1, ⟨j, h1, h2⟩ => by
    by_cases h : p (N + 1)
    · exact ⟨N + 1, Nat.le_refl _, h, fun i hi _ => hi⟩
    · have hj : j ≤ N := by
        rcases Nat.lt_or_ge N j with h3 | h3
        · exact (h ((show j = N + 1 by omega) ▸ h2)).elim
        · exact h3
      obtain ⟨k, k1, k2, k3⟩ := max_of N ⟨j, hj, h2⟩
      refine ⟨k, by omega, k2, fun i hi hp => ?_⟩
      rcases Nat.lt_or_ge N i with h3 | h3
      · exact (h ((show i = N + 1 by omega) ▸ hp)).elim
      · exact k3 i h3 hp
/-- the last of so many states that a state is -/
noncomputable def lastOf (N : Nat) (f : Nat → St) (s : St) : Nat := by
  classical exact if h : ∃ j, j ≤ N ∧ s = f j then Classical.choose (max_of (p := fun j => s = f j) N h) else 0
theorem lastOf_spec {N : Nat} {f : Nat → St} {s : St} (h : ∃ j, j ≤ N ∧ s = f j) : lastOf N f s ≤ N ∧ s = f (lastOf N f s) ∧ ∀ i, i ≤ N → s = f i → i ≤ lastOf N f s := by
  have := Classical.choose_spec (max_of (p := fun j => s = f j) N h)
  unfold lastOf
  rw [dif_pos h]
  exact this
/-- a round is done: the state is the next one's -/
structure Round (N : Nat) (f : Nat → St) (j : Nat) (s' : St) : Prop where
  there : ∃ i, i ≤ N ∧ s' = f i
  less : N - lastOf N f s' < N - lastOf N f (f j)
/-- of the rounds with this state j is the last one -/
structure LastR (N : Nat) (f : Nat → St) (j : Nat) : Prop where
  le : j ≤ N
  last : ∀ i, i ≤ N → f j = f i → i ≤ j
theorem LastR.next {N : Nat} {f : Nat → St} {j : Nat} {s' : St} (h : LastR N f j) (hj : j < N) (e : s' = f (j + 1)) : Round N f j s' := by
  subst e
  refine ⟨⟨_, hj, rfl⟩, ?_⟩
  obtain ⟨c1, c2, c3⟩ := lastOf_spec (N := N) (f := f) (s := f (j + 1)) ⟨_, hj, rfl⟩
  obtain ⟨d1, d2, d3⟩ := lastOf_spec (N := N) (f := f) (s := f j) ⟨_, h.le, rfl⟩
  have h1 := c3 _ hj rfl
  have h2 := h.last _ d1 d2
  omega
/-- a loop of N rounds at most: its state ahead of each -/
theorem loop_for {body : St → (Exit → St → Prop) → Prop} {s : St} {k : Exit → St → Prop} (live : List Nat) (m : Nat) (N : Nat) (f : Nat → St)
    (h3 : ∀ j, j ≤ N → LastR N f j → body (f j) fun e s' => match e with | .normal => liveOK live m s' ∧ Round N f j (weaken live m s') | e => k e s')
    (h1 : liveOK live m s := by exact rfl) (h2 : weaken live m s = f 0 := by exact rfl) (h0 : 0 < m := by decide) : LoopA body s k ∨ LoopI body s k := by
  refine loop_inv live m (fun s => ∃ j, j ≤ N ∧ s = f j) (fun s => N - lastOf N f s) h1 ⟨0, Nat.zero_le _, h2⟩ ?_ h0
  intro s hs
  obtain ⟨a1, a2, a3⟩ := lastOf_spec hs
  generalize hj : lastOf N f s = j at *
  subst a2
  have h4 := h3 j a1 ⟨a1, a3⟩
  refine Eq.mp (congrArg (body (f j)) (funext fun e => funext fun s' => ?_)) h4
  cases e <;> simp only []
  exact propext ⟨fun h => ⟨h.1, h.2.there, by have := h.2.less; rw [hj] at this; exact this⟩, fun h => ⟨h.1, h.2.1, by rw [hj]; exact h.2.2⟩⟩

/-! a state told shorter: only some slots, only some blocks, counted anew -/
def renP (f : Nat → Nat) : Pt → Pt
  | .dat a => .dat a
  | .own b n => .own (f b) n
  | .win b base n => .win (f b) base n
def renT (f : Nat → Nat) : T → T
  | .ptr b base => .ptr (f b) base
  | .pti b base rel => .pti (f b) base rel
  | .own b n => .own (f b) n
  | .win b base n => .win (f b) base n
  | .ept b n off => .ept (f b) n off
  | .pre b n m => .pre (f b) n m
  | .rows l => .rows (l.map (renP f))
  | .ob b => .ob (f b)
  | .mp b => .mp (f b)
  | .hsl b n => .hsl (f b) n
  | .bxp b c => .bxp (f b) (f c)
  | .d a => .d a
  | .tup l => .tup l
  | .dead => .dead
def gatT (f : Nat → Nat) (live : List Nat) : Nat → List T → List T
  | _, [] => []
  | i, t :: l => (if live.contains i = true then renT f t else .dead) :: gatT f live (i + 1) l
def gather (live bs : List Nat) (s : St) : St := ⟨gatT (fun b => bs.idxOf b) live 0 s.t, bs.map s.bk⟩
def gatOK (live bs : List Nat) (s : St) : Bool := bs.head? == some 0 && bs.eraseDups == bs && live.all (fun i => (s.sl i).refs.all fun b => bs.contains b)

theorem gatT_len (f : Nat → Nat) (live : List Nat) : ∀ (l : List T) (i : Nat), (gatT f live i l).length = l.length
  | [], _ => rfl
  | _ :: l, i => by simp [gatT, gatT_len f live l (i + 1)]
theorem gatT_get (f : Nat → Nat) (live : List Nat) : ∀ (l : List T) (i j : Nat), (gatT f live i l).getD j .dead = if live.contains (i + j) = true then renT f (l.getD j .dead) else .dead
  | [], i, j => by simp [gatT, renT]
  | t :: l, i, 0 => by simp [gatT]
  | t :: l, i, j + 1 => by
    have := gatT_get f live l (i + 1) j
    rw [show i + 1 + j = i + (j + 1) by omega] at this
    simpa [gatT] using this
theorem renT_refs (f : Nat → Nat) (t : T) : (renT f t).refs = t.refs.map f := by
  cases t with
  | rows l =>
    simp only [renT, T.refs, List.flatMap_map, List.map_flatMap]
    congr 1
    funext p
    cases p <;> rfl
  | _ => rfl
theorem RP.ren {D D' : Nat → Prop} {ρ ρ' : Nat → Option Value} {w w' : World} (k : Keeps D w D' w') {f : Nat → Nat} {p : Pt} {v : Value} (hr : ∀ b ∈ p.refs, ρ' (f b) = ρ b) (h : RP D ρ w p v) : RP D' ρ' w' (renP f p) v := by
  cases p with
  | dat a => exact RA.up k h
  | own b n => intro u hu; rw [hr b (by simp [Pt.refs])] at hu; exact h u hu
  | win b base n => intro u hu; rw [hr b (by simp [Pt.refs])] at hu; exact h u hu
theorem RPs.ren {D D' : Nat → Prop} {ρ ρ' : Nat → Option Value} {w w' : World} {f : Nat → Nat} : ∀ {l : List Pt} {vs : List Value}, (∀ p ∈ l, ∀ v, RP D ρ w p v → RP D' ρ' w' (renP f p) v) → RPs D ρ w l vs → RPs D' ρ' w' (l.map (renP f)) vs
  | _, _, _, .nil => .nil
  | _, _, g, .cons h r => .cons (g _ (by simp) _ h) (r.ren fun p hp => g p (by simp [hp]))
theorem RT.ren {D D' : Nat → Prop} {ρ ρ' : Nat → Option Value} {w w' : World} (k : Keeps D w D' w') {f : Nat → Nat} {t : T} {v : Value} (hr : ∀ b ∈ t.refs, ρ' (f b) = ρ b) (h : RT D ρ w t v) : RT D' ρ' w' (renT f t) v := by
  cases t with
  | d a => exact RA.up k h
  | tup l => obtain ⟨vs, rfl, h⟩ := h; exact ⟨vs, rfl, h.up k⟩
  | rows l => obtain ⟨vs, h1, h2⟩ := h; exact ⟨vs, h1.ren fun p hp v hv => hv.ren k fun b hb => hr b (by simp only [T.refs, List.mem_flatMap]; exact ⟨p, hp, hb⟩), h2.up k⟩
  | dead => trivial
  | ptr b base => intro u hu; rw [hr b (by simp [T.refs])] at hu; exact h u hu
  | ob b => intro u hu; rw [hr b (by simp [T.refs])] at hu; exact h u hu
  | mp b => intro u hu; rw [hr b (by simp [T.refs])] at hu; exact h u hu
  | hsl b n => intro u hu; rw [hr b (by simp [T.refs])] at hu; exact h u hu
  | bxp b c => intro u hu; rw [hr b (by simp [T.refs])] at hu; exact h u hu
  | pti b base rel => intro u hu; rw [hr b (by simp [T.refs])] at hu; exact h u hu
  | own b n => intro u hu; rw [hr b (by simp [T.refs])] at hu; exact h u hu
  | win b base n => intro u hu; rw [hr b (by simp [T.refs])] at hu; exact h u hu
  | ept b n off => intro u hu; rw [hr b (by simp [T.refs])] at hu; exact h u hu
  | pre b n m => intro u hu; rw [hr b (by simp [T.refs])] at hu; exact h u hu
theorem dups_nodup : ∀ (n : Nat) (l : List Nat), l.length ≤ n → l.eraseDups.Nodup ∧ ∀ x, x ∈ l.eraseDups ↔ x ∈ l
  | _, [], _ => by simp
  | n + 1, a :: l, h => by
    rw [List.eraseDups_cons]
    have hl : (l.filter fun b => !b == a).length ≤ n := Nat.le_trans (List.length_filter_le _ _) (by simpa using h)
    obtain ⟨h1, h2⟩ := dups_nodup n _ hl
    refine ⟨List.nodup_cons.2 ⟨?_, h1⟩, fun x => ?_⟩
    · rw [h2]; simp
    · rw [List.mem_cons, h2]
      simp
      by_cases e : x = a <;> simp [e]
theorem nodup_of_dups {l : List Nat} (h : l.eraseDups = l) : l.Nodup := h ▸ (dups_nodup _ l (Nat.le_refl _)).1
theorem nodup_inj {l : List Nat} (h : l.Nodup) {i j : Nat} {hi : i < l.length} {hj : j < l.length} (e : l[i] = l[j]) : i = j := by
  have hp := List.pairwise_iff_getElem.1 h
  rcases Nat.lt_trichotomy i j with h1 | h1 | h1
  · exact absurd e (hp i j hi hj h1)
  · exact h1
  · exact absurd e.symm (hp j i hj hi h1)
theorem Ent.gather {s : St} {live bs : List Nat} (h : gatOK live bs s = true) : Ent s (gather live bs s) := ⟨fun G S base w0 ρ a w g => by
  unfold gatOK at h
  simp only [Bool.and_eq_true, beq_iff_eq] at h
  obtain ⟨⟨h0, h1⟩, h2⟩ := h
  have hnd := nodup_of_dups h1
  rw [List.all_eq_true] at h2
  let ρ' : Nat → Option Value := fun i => (bs[i]?).bind ρ
  have hbk : ∀ i, (Go.Proofs.Ytbgdlggobbiibaa.gather live bs s).bk i = match bs[i]? with | some b => s.bk b | none => none := by
    intro i
    show (bs.map s.bk).getD i none = _
    rw [List.getD_eq_getElem?_getD, List.getElem?_map]
    cases bs[i]? <;> rfl
  have hsl : ∀ i, (Go.Proofs.Ytbgdlggobbiibaa.gather live bs s).sl i = if live.contains i = true then renT (fun b => bs.idxOf b) (s.sl i) else .dead := by
    intro i
    have := gatT_get (fun b => bs.idxOf b) live s.t 0 i
    rw [Nat.zero_add] at this
    exact this
  have hρ : ∀ i u, ρ' i = some u → ∃ b, bs[i]? = some b ∧ ρ b = some u := by
    intro i u hb
    simp only [ρ'] at hb
    cases hx : bs[i]? with
    | none => rw [hx] at hb; cases hb
    | some b => rw [hx] at hb; exact ⟨b, rfl, hb⟩
  have hρm : ∀ b, b ∈ bs → ρ' (bs.idxOf b) = ρ b := fun b hb => by
    simp only [ρ']
    rw [List.getElem?_eq_getElem (List.idxOf_lt_length_of_mem hb), List.getElem_idxOf]; rfl
  have hρi : ∀ i b, bs[i]? = some b → ρ' i = ρ b := fun i b hb => by simp only [ρ']; rw [hb]; rfl
  have K : Keeps (Dt S base ρ) w (Dt S base ρ') w := ⟨Nat.le_refl _, fun r _ hd => ⟨⟨hd.1, fun b u hb => by obtain ⟨c, _, hc⟩ := hρ b u hb; exact hd.2 c u hc⟩, fun _ => rfl⟩⟩
  have h00 : bs[0]? = some 0 := by rw [← List.head?_eq_getElem?]; exact h0
  refine ⟨ρ', (gatT_len _ _ _ _).trans g.len, fun i hi => ?_, fun i => ?_, fun i b hb => ?_, fun i j u u' r hi hj e1 e2 => ?_, fun i u r hi => ?_, g.bel, g.glob.up K, (fun q hq => (hρi 0 0 h00).trans (g.pin q hq)), g.size, g.defs⟩
  · rw [hsl]
    by_cases hl : live.contains i = true
    · rw [if_pos hl]
      refine RT.ren K (fun b hb => hρm b ?_) (g.t i hi)
      have := h2 i (by simpa using hl)
      rw [List.all_eq_true] at this
      simpa using this b hb
    · rw [if_neg hl]; trivial
  · rw [hbk]
    cases hx : bs[i]? with
    | none => show ρ' i = none; simp only [ρ']; rw [hx]; rfl
    | some b =>
      have hB := g.b b
      have e := hρi i b hx
      show RB base (Dt S base ρ') ρ' w i (s.bk b)
      cases hk : s.bk b with
      | none => rw [hk] at hB; exact e.trans hB
      | some x =>
        rw [hk] at hB
        cases x with
        | var l => obtain ⟨r, cs, t, k1, k2, k3, k4⟩ := hB; exact ⟨r, cs, t, e.trans k1, k2, k3, k4.up K⟩
        | sl et sz n l => obtain ⟨u, cs, k1, k2, k3⟩ := hB; exact ⟨u, cs, e.trans k1, k2, k3.up K⟩
        | obj p => obtain ⟨r, cs, t, k1, k2, k3, k4⟩ := hB; exact ⟨r, cs, t, e.trans k1, k2, k3, k4⟩
        | abs p => obtain ⟨r, F, k1, k2, k3⟩ := hB; exact ⟨r, F, e.trans k1, k2, k3⟩
        | vh l off p e2 sz n m => obtain ⟨r, cs, t, su, ms, h1, h2, h3, h4, h5, h6, h7, h8⟩ := hB; exact ⟨r, cs, t, su, ms, e.trans h1, h2, h3, h4, h5.up K, h6.up K, h7, h8⟩
        | gone => obtain ⟨n, k1⟩ := hB; exact ⟨n, e.trans k1⟩
        | bx =>
          obtain ⟨h0', q, r, ty, k1, k2, k3⟩ := hB
          refine ⟨fun hi0 => ?_, q, r, ty, e.trans k1, k2, (hρi 0 0 h00).trans k3⟩
          subst hi0
          rw [h00] at hx; cases hx
          exact h0' rfl
  · rw [hsl] at hb
    by_cases hl : live.contains i = true
    · rw [if_pos hl, renT_refs] at hb
      obtain ⟨c, hc, rfl⟩ := List.mem_map.1 hb
      have := h2 i (by simpa using hl)
      rw [List.all_eq_true] at this
      have hm : c ∈ bs := by simpa using this c hc
      rw [hbk, List.getElem?_eq_getElem (List.idxOf_lt_length_of_mem hm), List.getElem_idxOf]
      exact g.dang i c hc
    · rw [if_neg hl] at hb; simp [T.refs] at hb
  · obtain ⟨b, hb1, hb2⟩ := hρ i u hi
    obtain ⟨c, hc1, hc2⟩ := hρ j u' hj
    have := g.inj b c u u' r hb2 hc2 e1 e2
    subst this
    obtain ⟨l1, e3⟩ := List.getElem?_eq_some_iff.1 hb1
    obtain ⟨l2, e4⟩ := List.getElem?_eq_some_iff.1 hc1
    exact nodup_inj hnd (e3.trans e4.symm)
  · obtain ⟨b, hb1, hb2⟩ := hρ i u hi
    exact g.low b u r hb2⟩
/-- a loop of N rounds at most, by states for which others may be taken -/
structure RoundE (N : Nat) (f : Nat → St) (j : Nat) (s' : St) : Prop where
  out : ∃ s'', Ent s' s'' ∧ (∃ i, i ≤ N ∧ s'' = f i) ∧ N - lastOf N f s'' < N - lastOf N f (f j)
theorem LastR.ent {N : Nat} {f : Nat → St} {j : Nat} {s' s'' : St} (h : LastR N f j) (hj : j < N) (he : Ent s' s'') (e : s'' = f (j + 1)) : RoundE N f j s' := by
  obtain ⟨h1, h2⟩ := h.next hj e
  exact ⟨s'', he, h1, h2⟩
theorem LastR.go {N : Nat} {f : Nat → St} {j : Nat} {s' : St} (h : LastR N f j) (hj : j < N) (live bs : List Nat) (e : gather live bs s' = f (j + 1)) (ok : gatOK live bs s' = true := by exact rfl) : RoundE N f j s' := h.ent hj (.gather ok) e
theorem loop_forE {body : St → (Exit → St → Prop) → Prop} {s s1 : St} {k : Exit → St → Prop} (N : Nat) (f : Nat → St) (he : Ent s s1) (h2 : s1 = f 0)
    (h3 : ∀ j, j ≤ N → LastR N f j → body (f j) fun e s' => match e with | .normal => RoundE N f j s' | e => k e s') : LoopA body s k ∨ LoopI body s k := by
  refine .inr ⟨s1, fun s => ∃ j, j ≤ N ∧ s = f j, fun s => N - lastOf N f s, he, ⟨0, Nat.zero_le _, h2⟩, ?_⟩
  intro s hs
  obtain ⟨a1, a2, a3⟩ := lastOf_spec hs
  generalize hj : lastOf N f s = j at *
  subst a2
  have h4 := h3 j a1 ⟨a1, a3⟩
  refine Eq.mp (congrArg (body (f j)) (funext fun e => funext fun s' => ?_)) h4
  cases e <;> simp only []
  exact propext ⟨fun h => ⟨h.out⟩, fun h => ⟨h.out⟩⟩
/-- the same, its first state told shorter -/
theorem loop_forG {body : St → (Exit → St → Prop) → Prop} {s : St} {k : Exit → St → Prop} (live bs : List Nat) (N : Nat) (f : Nat → St)
    (h3 : ∀ j, j ≤ N → LastR N f j → body (f j) fun e s' => match e with | .normal => RoundE N f j s' | e => k e s')
    (ok : gatOK live bs s = true := by exact rfl) (h2 : gather live bs s = f 0 := by exact rfl) : LoopA body s k ∨ LoopI body s k := loop_forE N f (.gather ok) h2 h3
/-- the same, where a slice that is nil may grow -/
theorem loop_forN {body : St → (Exit → St → Prop) → Prop} {s : St} {k : Exit → St → Prop} (live bs : List Nat) (i : Nat) (e : TypeId) (sz : Nat) (l : List Seg) (N : Nat) (f : Nat → St)
    (h3 : ∀ j, j ≤ N → LastR N f j → body (f j) fun e s' => match e with | .normal => RoundE N f j s' | e => k e s')
    (hn : s.sl i = .d (.v (.slice none 0 0)) := by exact rfl) (hl : l.all segNil = true := by exact rfl)
    (ok : gatOK live bs (ownNil s i e sz l) = true := by exact rfl) (h2 : gather live bs (ownNil s i e sz l) = f 0 := by exact rfl) : LoopA body s k ∨ LoopI body s k := loop_forE N f ((Ent.nil hn hl).trans (.gather ok)) h2 h3
end Go.Proofs.Ytbgdlggobbiibaa

/-
  The machine without memory: reckoned as far as it goes, numbers that are in range told without their wrapping. No program is named here.
-/
namespace Go.Proofs.Ytbgdlggobbiibaa
set_option maxRecDepth 100000
open Go.RowKit
set_option linter.unusedVariables false
set_option linter.unusedSimpArgs false
theorem agow {p q : Prop} (left : q) (h : (Left q → p) ∧ Isq q := by
    refine And.intro ?_ ?_
    · intro left_is
      (conv => whnf); repeat ((first | (refine And.intro ?_ ?_; focus (first | exact rfl | exact Nat.le_of_ble_eq_true rfl | exact Or.inr rfl | exact Or.inl rfl | (intro hx; cases hx <;> fail) | (intro _; rfl) | exact ⟨_, rfl, rfl⟩ | omega | (simp only [Seg.n, segN, tiByte, tiPtr, tiInt, tiBool, tiSl, tiArr, tiStruct]; omega) | (refine leLe ?_; (try simp only [Seg.n, segN, tiByte, tiPtr, tiInt, tiBool, tiSl, tiArr, tiStruct]); omega) | assumption | decide | (simp [Seg.n, segN, tiByte, tiPtr, tiInt, tiBool, tiSl, tiArr, tiStruct, *] <;> omega))) | (refine ⟨_, And.intro rfl ?_⟩) | (refine StopC.mk ?_; first | (refine condK_is ?_ ?_; focus (first | rfl | assumption | (simp only [bne, Bool.true_beq, Bool.false_beq, beq_true, beq_false, Bool.not_true, Bool.not_false, Bool.true_and, Bool.and_true, Bool.false_and, Bool.and_false, Bool.true_or, Bool.or_true, Bool.false_or, Bool.or_false, beq_iff_eq, beq_eq_false_iff_ne, ne_eq, Bool.not_eq_true', Bool.not_eq_false', decide_eq_true_eq, decide_eq_false_iff_not, ge_iff_le, gt_iff_lt, *] <;> omega) | (simp [eqSegs, *] <;> omega))) | (refine condK_isnt ?_ ?_; focus (first | rfl | assumption | (simp only [bne, Bool.true_beq, Bool.false_beq, beq_true, beq_false, Bool.not_true, Bool.not_false, Bool.true_and, Bool.and_true, Bool.false_and, Bool.and_false, Bool.true_or, Bool.or_true, Bool.false_or, Bool.or_false, beq_iff_eq, beq_eq_false_iff_ne, ne_eq, Bool.not_eq_true', Bool.not_eq_false', decide_eq_true_eq, decide_eq_false_iff_not, ge_iff_le, gt_iff_lt, *] <;> omega) | (simp [eqSegs, *] <;> omega)))) | ((first | refine toA ?_ | refine toE ?_ | refine toD ?_); (try (conv => arg 2; simp (disch := omega) only [wrapS, Int.toNat_natCast, Seg.n, wn1, wn2, wn3, wn4, wn5, wn6, wn7, wn8, wn9, wn10, wn11, wn12, wn13, wn14, wn15, wn16, Int.reduceAdd, Int.zero_add, Seg.cell, Seg.sub, List.set_nil, isAlloc, trimH, List.take_append_drop, St.app, St.app2, St.ev, List.getD_cons_zero, List.getD_cons_succ, List.getD_nil, St.sl, St.bk, tiInt, tiBool, tiSl, tiArr, tiStruct, weaken, keepT, List.set_cons_zero, List.set_cons_succ, List.length_cons, List.length_nil, List.cons_append, List.nil_append, List.append_nil, List.map_cons, List.map_nil, List.replicate_succ, List.replicate_zero, List.take_succ_cons, List.take_zero, List.drop_succ_cons, List.drop_zero, List.take_nil, List.drop_nil, Nat.reduceAdd, Nat.reduceSub, Nat.reduceMul, Nat.reduceEqDiff, Nat.reduceLT, Nat.reduceLeDiff, Nat.zero_add, Nat.add_zero, Nat.sub_self, Nat.sub_zero, Nat.one_mul, Nat.mul_one, Nat.zero_mul, joinS, manyS, List.flatten_cons, List.flatten_nil, eq_self, ite_true, if_true, if_false, ↓reduceIte, reduceCtorEq, Int.reduceToNat, cntAlloc, opRefs])); first | (refine ofA ?_; (conv => arg 3; whnf); first | refine regA_cons ?_ | refine regA_nil ?_) | (refine ofD ?_; (conv => arg 5; whnf); first | refine regD_cons ?_ | refine regD_nil ?_) | (refine ofE ?_; (conv => arg 2; whnf); (refine regDr_intro _ rfl ?_ ?_); focus (kernel_rfl)))); (conv => whnf))
      all_goals exact left_is.out
    · first | with_reducible exact isqT | exact isqA) : p := h.1 ⟨left⟩
/-- a function's contract is begun, where a block is lent to it further back -/
theorem fnMB {E : EnvX} {f : FuncId} {fn : Func} {c : Code} {pos : Nat} {x x' : Bk} {args : List A} {res : Res} {n : Nat} {t : List T} (hf : E.P.funcs[f]? = some fn) (hnt : fn.ntmps = n)
    (left : wpA E c ⟨t, [some x]⟩ fun e s => (e = .normal ∨ e = .ret) ∧ s.bk 0 = some x' ∧ resK' E s fn.results.toList fun r => r = res) (hb : fn.body = some c := by exact rfl) (hn : args.length + 1 ≤ n := by exact Nat.le_of_ble_eq_true rfl) (hp : pos ≤ args.length := by exact Nat.le_of_ble_eq_true rfl)
    (hx : ∀ e sz n l, x ≠ .sl e sz n l := by intro _ _ _ _ h; cases h) (hres : ∀ y, res ≠ .p y := by intro y h; cases h)
    (ht : (args.map T.d).insertIdx pos (.ptr 0 0) ++ List.replicate (n - (args.length + 1)) (.d (.v undef)) = t := by (conv => lhs; simp only [List.insertIdx_succ_cons, List.insertIdx_zero, Seg.n, wn1, wn2, wn3, wn4, wn5, wn6, wn7, wn8, wn9, wn10, wn11, wn12, wn13, wn14, wn15, wn16, Int.reduceAdd, Int.zero_add, Seg.cell, Seg.sub, List.set_nil, isAlloc, trimH, List.take_append_drop, St.app, St.app2, St.ev, List.getD_cons_zero, List.getD_cons_succ, List.getD_nil, St.sl, St.bk, tiInt, tiBool, tiSl, tiArr, tiStruct, weaken, keepT, List.set_cons_zero, List.set_cons_succ, List.length_cons, List.length_nil, List.cons_append, List.nil_append, List.append_nil, List.map_cons, List.map_nil, List.replicate_succ, List.replicate_zero, List.take_succ_cons, List.take_zero, List.drop_succ_cons, List.drop_zero, List.take_nil, List.drop_nil, Nat.reduceAdd, Nat.reduceSub, Nat.reduceMul, Nat.reduceEqDiff, Nat.reduceLT, Nat.reduceLeDiff, Nat.zero_add, Nat.add_zero, Nat.sub_self, Nat.sub_zero, Nat.one_mul, Nat.mul_one, Nat.zero_mul, joinS, manyS, List.flatten_cons, List.flatten_nil, eq_self, ite_true, if_true, if_false, ↓reduceIte, reduceCtorEq, Int.reduceToNat]); all_goals exact rfl) : FnM E.P E.G f pos x args res x' := by
  subst hnt; subst ht; exact fnM_of_wpA hf hb hn hp hx left hres
end Go.Proofs.Ytbgdlggobbiibaa

/-
  Numbers as bytes, rows joined: as the machine without memory calls them.
-/
namespace Go.Proofs.Ytbgdlggobbiibaa
set_option maxRecDepth 100000
open Go.RowKit Pm
set_option linter.unusedVariables false
set_option linter.unusedSimpArgs false

theorem fn_own8 {f : FuncId} {args : List A} {bs : List UInt8} (h : ∀ (S : Nat → Prop) (w : World) (vs : List Value), RAs S w args vs → Calls Try.prog f vs.toArray w fun e w' => ∃ v, e = .returned v ∧ Own8 w' w.heap.size 5 v bs ∧ Below w.heap.size w w') :
    FnO f args (.o 5 1 bs.length [.bytes bs.length bs]) := fun S w vs _ ha => by
  refine (h S w vs ha).mono ?_
  rintro e w' ⟨v, rfl, ho, hb⟩
  exact ⟨v, rfl, ⟨_, ho, .ofBytes rfl rfl⟩, hb⟩
def numS : List A → (Res → Prop) → Prop
  | [.v (.int .i64 n)], K => K (.o 5 1 8 [.bytes 8 (numB n)])
  | _, _ => False
theorem numS_of {f : FuncId} (h : ∀ n, FnO f [.v (.int .i64 n)] (.o 5 1 8 [.bytes 8 (numB n)])) : ∀ args K, numS args K → ∃ r, FnO f args r ∧ K r := by
  intro args K hd
  unfold numS at hd
  split at hd
  · exact ⟨_, h _, hd⟩
  · exact hd.elim
theorem num_fn (n : Int) : FnO 78 [.v (.int .i64 n)] (.o 5 1 8 [.bytes 8 (numB n)]) := by
  have h := fn_own8 (f := 78) (args := [.v (.int .i64 n)]) (bs := numB n) fun S w vs ha => by
    obtain ⟨v, rfl, h1⟩ := ra_one ha
    rw [RA.plain h1]
    refine (num_any n w).mono ?_
    rintro e w' ⟨Q, rfl, hQ, hX, hB⟩
    exact ⟨_, rfl, Own8.ofBlk hX hQ (numB_length n).symm (by rw [numB_length]; simp [maxLen]), hB⟩
  rw [numB_length] at h
  exact h
theorem rnum_fn (n : Int) : FnO 57 [.v (.int .i64 n)] (.o 5 1 8 [.bytes 8 (numB n)]) := by
  have h := fn_own8 (f := 57) (args := [.v (.int .i64 n)]) (bs := numB n) fun S w vs ha => by
    obtain ⟨v, rfl, h1⟩ := ra_one ha
    rw [RA.plain h1]
    exact rnum_own n w
  rw [numB_length] at h
  exact h
/-- rows, one behind the other -/
def joinS' : List A → (Res → Prop) → Prop
  | [x], K => rowsOfK x fun L => L.flatten.length ≤ 100000000 ∧ K (.o 5 1 L.flatten.length [.bytes L.flatten.length L.flatten])
  | _, _ => False
theorem joinS_ok : ∀ args K, joinS' args K → ∃ r, FnO 49 args r ∧ K r := by
  intro args K hd
  unfold joinS' at hd
  split at hd
  · next x =>
    obtain ⟨L, ⟨hb, hK⟩, hL⟩ := rowsOfK_spec hd
    refine ⟨_, fn_own8 (f := 49) (args := [x]) (bs := L.flatten) fun S w vs ha => ?_, hK⟩
    obtain ⟨v, rfl, h1⟩ := ra_one ha
    obtain ⟨a, n, c, rfl, h2, h3, h4⟩ := hL h1
    refine rjoin_n a n c L w ⟨h2.len_eq, h2.small, ?_⟩ (by omega)
    rcases h4 with h4 | ⟨b, off, h5, h6⟩
    · exact .inl h4
    · refine .inr ⟨b, off, h5, fun i hi => ?_⟩
      obtain ⟨a', l', c', e1, e2, e3⟩ := h6 i hi
      exact ⟨a', l', c', e1, ⟨e2, e3⟩⟩
  · exact hd.elim
/-- numbers, one behind the other -/
def numsB (zs : List Int) : List UInt8 := zs.flatMap numB
theorem numsB_nil : numsB [] = [] := rfl
theorem numsB_append (a b : List Int) : numsB (a ++ b) = numsB a ++ numsB b := by unfold numsB; rw [List.flatMap_append]
theorem numsB_one (a : Int) : numsB [a] = numB a := by unfold numsB; simp
theorem numsB_cons (a : Int) (l : List Int) : numsB (a :: l) = numB a ++ numsB l := by unfold numsB; simp
theorem numsB_length : ∀ (l : List Int), (numsB l).length = l.length * 8
  | [] => rfl
  | a :: l => by rw [numsB_cons, List.length_append, numB_length, numsB_length l, List.length_cons]; omega
theorem numsB_take (zs : List Int) {j : Nat} (h : j < zs.length) : numsB (zs.take (j + 1)) = numsB (zs.take j) ++ numB (zs.getD j 0) := by
  rw [List.take_add_one, numsB_append, List.getElem?_eq_getElem h, List.getD_eq_getElem?_getD, List.getElem?_eq_getElem h]
  exact congrArg _ (numsB_one _)
noncomputable def envK0 : EnvX := env0.add 78 numS (numS_of num_fn) ⟨_, Try.func78, by kernel_rfl, by kernel_rfl⟩
noncomputable def envK1 : EnvX := envK0.add 57 numS (numS_of rnum_fn) ⟨_, Try.func57, by kernel_rfl, by kernel_rfl⟩
noncomputable def envK2 : EnvX := envK1.add 49 joinS' joinS_ok ⟨_, Try.func49, by kernel_rfl, by kernel_rfl⟩
noncomputable def envK3 : EnvX := envK2
noncomputable def envK4 : EnvX := envK3
end Go.Proofs.Ytbgdlggobbiibaa

/-
  What is handed in is asx long asx it says. No program is named here.
-/
namespace Go.Proofs.Ytbgdlggobbiibaa
set_option maxRecDepth 100000
open Go.RowKit
set_option linter.unusedVariables false
set_option linter.unusedSimpArgs false

def segLens : List Seg → Prop
  | [] => True
  | .ints _ n zs :: l => zs.length = n ∧ segLens l
  | .bytes n bs :: l => bs.length = n ∧ segLens l
  | .bools n bs :: l => bs.length = n ∧ segLens l
  | .gen n asx :: l => asx.length = n ∧ segLens l
def argLens : List A → Prop
  | [] => True
  | .agg l :: r => segLens l ∧ argLens r
  | .row _ l :: r => segLens l ∧ argLens r
  | _ :: r => argLens r
theorem rl_lens {S : Nat → Prop} {w : World} : ∀ {l : List Seg} {cs : List Value}, RL S w l cs → segLens l
  | _, _, .nil => trivial
  | _, _, .ints h r => ⟨h, rl_lens r⟩
  | _, _, .bytes h r => ⟨h, rl_lens r⟩
  | _, _, .bools h r => ⟨h, rl_lens r⟩
  | _, _, .gen _ h r => ⟨h, rl_lens r⟩
theorem ras_lens {S : Nat → Prop} {w : World} : ∀ {l : List A} {vs : List Value}, RAs S w l vs → argLens l
  | _, _, .nil => trivial
  | _, _, .cons h r => by
    have ih := ras_lens r
    cases h with
    | v => exact ih
    | agg h => exact ⟨rl_lens h, ih⟩
    | row h => exact ⟨rl_lens h, ih⟩
    | ref => exact ih
    | sref => exact ih
    | recs => exact ih
    | clo => exact ih
theorem fn_lens {P : Program} {G : Nat → Option (List Seg)} {f : FuncId} {args : List A} {res : Res} (h : argLens args → FnOK P G f args res) : FnOK P G f args res :=
  fun S w vs hG ha => h (ras_lens ha) S w vs hG ha
theorem hb_lens {D : Nat → Prop} {w : World} {r : Nat} {l : List Seg} (h : HB D w r (.var l)) : segLens l := by
  obtain ⟨cs, t, _, h⟩ := h
  exact rl_lens h
theorem fnM_lens {P : Program} {G : Nat → Option (List Seg)} {f : FuncId} {pos : Nat} {l : List Seg} {x' : Bk} {args : List A} {res : Res} (h : segLens l → argLens args → FnM P G f pos (.var l) args res x') : FnM P G f pos (.var l) args res x' :=
  fun S w r vs hr hG hb ha => h (hb_lens hb) (ras_lens ha) S w r vs hr hG hb ha
end Go.Proofs.Ytbgdlggobbiibaa

/-
  Numbers in a row as bytes, sums of trees.
-/
namespace Go.Proofs.Ytbgdlggobbiibaa
set_option maxRecDepth 100000
open Go.RowKit Pm
set_option linter.unusedVariables false
set_option linter.unusedSimpArgs false
attribute [local irreducible] condK LoopA regA numB deriveW numsB

def numsS : List A → (Res → Prop) → Prop
  | [.row n [.ints .i64 m zs]], K => n = zs.length ∧ m = zs.length ∧ zs.length ≤ 1000000 ∧ K (.o 5 1 (zs.length * 8) [.bytes (zs.length * 8) (numsB zs)])
  | _, _ => False
set_option maxHeartbeats 4000000 in
theorem nums_ok (zs : List Int) (hz : zs.length ≤ 1000000) : FnO 51 [.row zs.length [.ints .i64 zs.length zs]] (.o 5 1 (zs.length * 8) [.bytes (zs.length * 8) (numsB zs)]) := by
  refine fnA (E := envK4) Try.func51 Try.ntmps51 ?_
  refine agow ?_; (try with_reducible exact True.intro)
  refine StopL.mk (loop_forN [0, 3, 4] [0] 3 5 1 [.bytes 0 []] zs.length (fun j => ⟨[.d (.row zs.length [.ints .i64 zs.length zs]), .dead, .dead, .own 0 (j * 8), .d (.v (.int .i64 (j : Nat))), .dead, .dead, .dead, .dead, .dead, .dead, .dead, .dead, .dead, .dead, .dead, .dead, .dead, .dead], [some (.sl 5 1 (j * 8) [.bytes (j * 8) (numsB (zs.take j))])]⟩) ?_ (h2 := by rw [List.take_zero, numsB_nil]; exact rfl))
  intro j hj hl
  by_cases hjz : j < zs.length
  · refine agow ?_; (try with_reducible exact True.intro)
    refine hl.go hjz [0, 3, 4] [0] ?_
    rw [numsB_take zs hjz, Nat.add_mul, Nat.one_mul]
    rfl
  · obtain rfl : j = zs.length := by omega
    have e : zs.take zs.length = zs := List.take_length
    rw [e]
    refine agow ?_; (try with_reducible exact True.intro)
theorem numsS_ok : ∀ args K, numsS args K → ∃ r, FnO 51 args r ∧ K r := by
  intro args K h
  unfold numsS at h
  split at h
  · obtain ⟨rfl, rfl, h1, h2⟩ := h
    exact ⟨_, nums_ok _ h1, h2⟩
  · exact h.elim
noncomputable def envK5 : EnvX := envK4.add 51 numsS numsS_ok ⟨_, Try.func51, by kernel_rfl, by kernel_rfl⟩
theorem numsB_two (zs : List Int) {j : Nat} (h : j + 1 < zs.length) : numsB (zs.take (j + 2)) = numsB (zs.take j) ++ (numB (zs.getD j 0) ++ numB (zs.getD (j + 1) 0)) := by
  rw [show j + 2 = (j + 1) + 1 from rfl, numsB_take zs (j := j + 1) h, numsB_take zs (j := j) (by omega), List.append_assoc]
theorem two_get (L : List Int) (i k : Nat) (hk : k < 2) : ((L.drop i).take 2).getD k 0 = L.getD (i + k) 0 := by
  rw [List.getD_eq_getElem?_getD, List.getElem?_take, if_pos hk, List.getElem?_drop, ← List.getD_eq_getElem?_getD]
/-- a tree's sum -/
def treeHV (zs : List Int) : List UInt8 := deriveW (List.replicate 32 0) (sb ⟨#[116, 114, 101, 101]⟩) (numsB zs)
set_option maxHeartbeats 4000000 in
theorem rtreeBytes_ok (zs : List Int) : FnO 56 [.agg [.ints .i64 31 zs]] (.o 5 1 248 [.bytes 248 (numsB zs)]) := by
  refine fn_lens fun hl => ?_
  replace hl : zs.length = 31 := hl.1.1
  refine fnA (E := envK5) Try.func56 Try.ntmps56 ?_
  refine agow ?_; (try with_reducible exact True.intro)
  refine StopL.mk (loop_forN [1, 3, 4] [0, 1] 3 5 1 [.bytes 0 []] 8 (fun j => ⟨[.dead, .ptr 0 0, .dead, .own 1 (j * 16), .d (.v (.int .i64 (j : Nat))), .dead, .dead, .dead, .dead, .dead, .dead, .dead, .dead, .dead, .dead, .dead, .dead, .dead, .dead, .dead, .dead, .dead, .dead, .dead, .dead, .dead, .dead, .dead, .dead, .dead, .dead, .dead, .dead, .dead, .dead, .dead], [some (.var [.ints .i64 31 zs]), some (.sl 5 1 (j * 16) [.bytes (j * 16) (numsB (zs.take (j * 2)))])]⟩) ?_ (h2 := by rw [Nat.zero_mul, List.take_zero, numsB_nil]; exact rfl))
  intro j hj hl8
  by_cases hj8 : j < 8
  · refine agow ?_; (try with_reducible exact True.intro)
    refine hl8.go hj8 [1, 3, 4] [0, 1] ?_
    rw [show (j + 1) * 2 = j * 2 + 2 by omega, numsB_two _ (by omega), show (j + 1) * 16 = j * 16 + 16 by omega, show numB (zs.getD (j * 2) 0) ++ numB (zs.getD (j * 2 + 1) 0) = numsB [zs.getD (j * 2) 0, zs.getD (j * 2 + 1) 0] by rw [numsB_cons, numsB_one]]
    rfl
  · obtain rfl : j = 8 := by omega
    refine agow ?_; (try with_reducible exact True.intro)
    refine StopL.mk (loop_forG [1, 3, 5] [0, 1] 15 (fun j => ⟨[.dead, .ptr 0 0, .dead, .own 1 (128 + j * 8), .dead, .d (.v (.int .i64 (j : Nat))), .dead, .dead, .dead, .dead, .dead, .dead, .dead, .dead, .dead, .dead, .dead, .dead, .dead, .dead, .dead, .dead, .dead, .dead, .dead, .dead, .dead, .dead, .dead, .dead, .dead, .dead, .dead, .dead, .dead, .dead], [some (.var [.ints .i64 31 zs]), some (.sl 5 1 (128 + j * 8) [.bytes (128 + j * 8) (numsB (zs.take (16 + j)))])]⟩) ?_)
    clear hl8
    intro j hj hl15
    by_cases hj15 : j < 15
    · refine agow ?_; (try with_reducible exact True.intro)
      refine hl15.go hj15 [1, 3, 5] [0, 1] ?_
      rw [show 16 + (j + 1) = 16 + j + 1 by omega, numsB_take zs (show 16 + j < zs.length by omega), show 128 + (j + 1) * 8 = 128 + j * 8 + 8 by omega]
      rfl
    · obtain rfl : j = 15 := by omega
      have e2 : zs.take (16 + 15) = zs := List.take_of_length_le (by omega)
      rw [e2]
      refine agow ?_; (try with_reducible exact True.intro)
def rtBytesS : List A → (Res → Prop) → Prop
  | [.agg [.ints .i64 31 zs]], K => K (.o 5 1 248 [.bytes 248 (numsB zs)])
  | _, _ => False
theorem rtBytesS_ok : ∀ args K, rtBytesS args K → ∃ r, FnO 56 args r ∧ K r := by
  intro args K h
  unfold rtBytesS at h
  split at h
  · exact ⟨_, rtreeBytes_ok _, h⟩
  · exact h.elim
noncomputable def envK6 : EnvX := envK5.add 56 rtBytesS rtBytesS_ok ⟨_, Try.func56, by kernel_rfl, by kernel_rfl⟩
def treeHS : List A → (Res → Prop) → Prop
  | [.agg [.ints .i64 31 zs]], K => K (.d (.agg [.bytes 32 (treeHV zs)]))
  | _, _ => False
theorem treeHS_of {f : FuncId} (hx : ∀ zs, FnO f [.agg [.ints .i64 31 zs]] (.d (.agg [.bytes 32 (treeHV zs)]))) : ∀ args K, treeHS args K → ∃ r, FnO f args r ∧ K r := by
  intro args K h
  unfold treeHS at h
  split at h
  · exact ⟨_, hx _, h⟩
  · exact h.elim
noncomputable def envK7 : EnvX := envK6
noncomputable def envK8 : EnvX := envK7
end Go.Proofs.Ytbgdlggobbiibaa

/-
  Places and nodes: the first functions, by the machine without memory.
-/
namespace Go.Proofs.Ytbgdlggobbiibaa
set_option maxRecDepth 100000
open Go.RowKit
set_option linter.unusedVariables false
set_option linter.unusedSimpArgs false
attribute [local irreducible] condK LoopA regA

/-- is there such a leaf? -/
def leafB (x : Int) : Bool := decide (0 ≤ x) && decide (x < 8)
def leafS : List A → (Res → Prop) → Prop
  | [.v (.int .i64 x)], K => K (.d (.v (.bool (leafB x))))
  | _, _ => False
theorem leafS_ok {f : FuncId} (hx : ∀ x, FnO f [.v (.int .i64 x)] (.d (.v (.bool (leafB x))))) : ∀ args K, leafS args K → ∃ r, FnO f args r ∧ K r := by
  intro args K h
  unfold leafS at h
  split at h
  · exact ⟨_, hx _, h⟩
  · exact h.elim
noncomputable def env1a : EnvX := env0
noncomputable def env1 : EnvX := env1a

def pathL (x : Int) : List Int := if leafB x = true then [x / 2 * 4 + 1, x / 4 * 8 + 3, 7] else [0, 0, 0]
def pathS : List A → (Res → Prop) → Prop
  | [.v (.int .i64 x)], K => K (.d (.agg [.ints .i64 3 (pathL x)]))
  | _, _ => False
theorem path_nums (x : Int) (h0 : 0 ≤ x) (h1 : x < 8) : IntKind.i64.wrap (x.tdiv 2) = x / 2 ∧ IntKind.i64.wrap (x / 2 * 4) = x / 2 * 4 ∧ IntKind.i64.wrap (x / 2 * 4 + 1) = x / 2 * 4 + 1 ∧
    IntKind.i64.wrap (x.tdiv 4) = x / 4 ∧ IntKind.i64.wrap (x / 4 * 8) = x / 4 * 8 ∧ IntKind.i64.wrap (x / 4 * 8 + 3) = x / 4 * 8 + 3 := by
  rw [Int.tdiv_eq_ediv_of_nonneg h0, Int.tdiv_eq_ediv_of_nonneg h0]
  refine ⟨wrapS ?_ ?_, wrapS ?_ ?_, wrapS ?_ ?_, wrapS ?_ ?_, wrapS ?_ ?_, wrapS ?_ ?_⟩ <;> omega
end Go.Proofs.Ytbgdlggobbiibaa

/-
  Places and nodes: the functions over them, by the machine without memory.
-/
namespace Go.Proofs.Ytbgdlggobbiibaa
set_option maxRecDepth 100000
open Go.RowKit
set_option linter.unusedVariables false
set_option linter.unusedSimpArgs false
attribute [local irreducible] condK LoopA regA

theorem pathS_ok {f : FuncId} (hx : ∀ x, FnO f [.v (.int .i64 x)] (.d (.agg [.ints .i64 3 (pathL x)]))) : ∀ args K, pathS args K → ∃ r, FnO f args r ∧ K r := by
  intro args K h
  unfold pathS at h
  split at h
  · exact ⟨_, hx _, h⟩
  · exact h.elim
def idx3 (p q r v : Int) : Int := if v = p then 0 else if v = q then 1 else if v = r then 2 else -1
def idxS : List A → (Res → Prop) → Prop
  | [.row 3 [.ints .i64 3 [p, q, r]], .v (.int .i64 v)], K => K (.d (.v (.int .i64 (idx3 p q r v))))
  | _, _ => False
theorem idx_ok (p q r v : Int) : FnO 87 [.row 3 [.ints .i64 3 [p, q, r]], .v (.int .i64 v)] (.d (.v (.int .i64 (idx3 p q r v)))) := by
  refine fnA (E := env0) Try.func87 Try.ntmps87 ?_
  have lp : ∀ (a b : Int), ¬ a = b → (a == b) = false := fun a b h => by simp [h]
  by_cases h1 : v = p
  · refine ago ?_; (try with_reducible exact True.intro)
    refine StopL.mk (loop_unroll 4 ?_)
    refine ago ?_; (try with_reducible exact True.intro)
    simp [idx3, h1]
  · by_cases h2 : v = q
    · refine ago ?_; (try with_reducible exact True.intro)
      refine StopL.mk (loop_unroll 4 ?_)
      refine ago ?_; (try with_reducible exact True.intro)
      simp [idx3, h1, h2] <;> omega
    · by_cases h3 : v = r
      · refine ago ?_; (try with_reducible exact True.intro)
        refine StopL.mk (loop_unroll 4 ?_)
        refine ago ?_; (try with_reducible exact True.intro)
        simp [idx3, h1, h2, h3] <;> omega
      · refine ago ?_; (try with_reducible exact True.intro)
        refine StopL.mk (loop_unroll 4 ?_)
        refine ago ?_; (try with_reducible exact True.intro)
        simp [idx3, h1, h2, h3]
end Go.Proofs.Ytbgdlggobbiibaa

/-
  Places and nodes: beside, under, in common, by the machine without memory.
-/
namespace Go.Proofs.Ytbgdlggobbiibaa
set_option maxRecDepth 100000
open Go.RowKit
set_option linter.unusedVariables false
set_option linter.unusedSimpArgs false
attribute [local irreducible] condK LoopA regA

theorem idxS_ok {f : FuncId} (hx : ∀ p q r v, FnO f [.row 3 [.ints .i64 3 [p, q, r]], .v (.int .i64 v)] (.d (.v (.int .i64 (idx3 p q r v))))) : ∀ args K, idxS args K → ∃ r, FnO f args r ∧ K r := by
  intro args K h
  unfold idxS at h
  split at h
  · exact ⟨_, hx _ _ _ _, h⟩
  · exact h.elim
noncomputable def env2a : EnvX := env1.add 87 idxS (idxS_ok idx_ok) ⟨_, Try.func87, by kernel_rfl, by kernel_rfl⟩
def hasS : List A → (Res → Prop) → Prop
  | [.row 3 [.ints .i64 3 [p, q, r]], .v (.int .i64 v)], K => K (.d (.v (.bool (decide (idx3 p q r v ≥ 0)))))
  | _, _ => False
theorem has_ok (p q r v : Int) : FnO 81 [.row 3 [.ints .i64 3 [p, q, r]], .v (.int .i64 v)] (.d (.v (.bool (decide (idx3 p q r v ≥ 0))))) := by
  refine fnA (E := env2a) Try.func81 Try.ntmps81 ?_
  refine ago ?_; (try with_reducible exact True.intro)
theorem hasS_ok {f : FuncId} (hx : ∀ p q r v, FnO f [.row 3 [.ints .i64 3 [p, q, r]], .v (.int .i64 v)] (.d (.v (.bool (decide (idx3 p q r v ≥ 0)))))) : ∀ args K, hasS args K → ∃ r, FnO f args r ∧ K r := by
  intro args K h
  unfold hasS at h
  split at h
  · exact ⟨_, hx _ _ _ _, h⟩
  · exact h.elim
noncomputable def env2b : EnvX := env2a.add 81 hasS (hasS_ok has_ok) ⟨_, Try.func81, by kernel_rfl, by kernel_rfl⟩
/-- what a path is, where there is such a leaf and where there is none -/
theorem pathL_t {x : Int} (h : leafB x = true) : pathL x = [x / 2 * 4 + 1, x / 4 * 8 + 3, 7] := if_pos h
theorem pathL_f {x : Int} (h : leafB x = false) : pathL x = [0, 0, 0] := if_neg (by simp [h])
def pathT (x : Int) : List Int := [if leafB x = true then x / 2 * 4 + 1 else 0, if leafB x = true then x / 4 * 8 + 3 else 0, if leafB x = true then 7 else 0]
theorem pathT_eq (x : Int) : pathL x = pathT x := by unfold pathL pathT; split <;> rfl
def pathTS : List A → (Res → Prop) → Prop
  | [.v (.int .i64 x)], K => K (.d (.agg [.ints .i64 3 [if leafB x = true then x / 2 * 4 + 1 else 0, if leafB x = true then x / 4 * 8 + 3 else 0, if leafB x = true then 7 else 0]]))
  | _, _ => False
theorem pathTS_ok {f : FuncId} (hx : ∀ x, FnO f [.v (.int .i64 x)] (.d (.agg [.ints .i64 3 (pathL x)]))) : ∀ args K, pathTS args K → ∃ r, FnO f args r ∧ K r := by
  intro args K h
  unfold pathTS at h
  split at h
  · exact ⟨_, hx _, by rw [pathT_eq]; exact h⟩
  · exact h.elim
noncomputable def env2c : EnvX := env2b
noncomputable def env2 : EnvX := env2c
def underB (n x : Int) : Bool := leafB x && (decide (n = 2 * x) || decide (n = x / 2 * 4 + 1) || decide (n = x / 4 * 8 + 3) || decide (n = 7))
def underS : List A → (Res → Prop) → Prop
  | [.v (.int .i64 n), .v (.int .i64 x)], K => K (.d (.v (.bool (underB n x))))
  | _, _ => False
theorem leafB_t {x : Int} (h : leafB x = true) : 0 ≤ x ∧ x < 8 := by simpa [leafB] using h
def sideL (x : Int) : List Int := if leafB x = true then [if x % 2 = 0 then 2 * x + 2 else 2 * x - 2, if x / 2 % 2 = 0 then x / 2 * 4 + 5 else x / 2 * 4 - 3, if x / 4 = 0 then 11 else 3] else [0, 0, 0]
theorem eight {p : Int → Prop} {x : Int} (h : 0 ≤ x ∧ x < 8) (h0 : p 0) (h1 : p 1) (h2 : p 2) (h3 : p 3) (h4 : p 4) (h5 : p 5) (h6 : p 6) (h7 : p 7) : p x := by
  have : x = 0 ∨ x = 1 ∨ x = 2 ∨ x = 3 ∨ x = 4 ∨ x = 5 ∨ x = 6 ∨ x = 7 := by omega
  rcases this with rfl | rfl | rfl | rfl | rfl | rfl | rfl | rfl <;> assumption
def commonI (a b : Int) : Int := if leafB a = true ∧ leafB b = true then (if a = b then 2 * a else if a / 2 = b / 2 then a / 2 * 4 + 1 else if a / 4 = b / 4 then a / 4 * 8 + 3 else 7) else 0
theorem underS_ok {f : FuncId} (hx : ∀ n x, FnO f [.v (.int .i64 n), .v (.int .i64 x)] (.d (.v (.bool (underB n x))))) : ∀ args K, underS args K → ∃ r, FnO f args r ∧ K r := by
  intro args K h
  unfold underS at h
  split at h
  · exact ⟨_, hx _ _, h⟩
  · exact h.elim
def sideS : List A → (Res → Prop) → Prop
  | [.v (.int .i64 x)], K => K (.d (.agg [.ints .i64 3 [(sideL x).getD 0 0, (sideL x).getD 1 0, (sideL x).getD 2 0]]))
  | _, _ => False
theorem sideS_ok {f : FuncId} (hx : ∀ x, FnO f [.v (.int .i64 x)] (.d (.agg [.ints .i64 3 (sideL x)]))) : ∀ args K, sideS args K → ∃ r, FnO f args r ∧ K r := by
  intro args K h
  unfold sideS at h
  split at h
  · refine ⟨_, hx _, ?_⟩
    have e : ∀ x, [(sideL x).getD 0 0, (sideL x).getD 1 0, (sideL x).getD 2 0] = sideL x := by intro x; unfold sideL; split <;> rfl
    rw [e] at h; exact h
  · exact h.elim
noncomputable def env3a : EnvX := env2
noncomputable def env3b : EnvX := env3a
noncomputable def env3 : EnvX := env3b
def commonS : List A → (Res → Prop) → Prop
  | [.v (.int .i64 a), .v (.int .i64 b)], K => K (.d (.v (.int .i64 (commonI a b))))
  | _, _ => False
theorem commonS_ok {f : FuncId} (hx : ∀ a b, FnO f [.v (.int .i64 a), .v (.int .i64 b)] (.d (.v (.int .i64 (commonI a b))))) : ∀ args K, commonS args K → ∃ r, FnO f args r ∧ K r := by
  intro args K h
  unfold commonS at h
  split at h
  · exact ⟨_, hx _ _, h⟩
  · exact h.elim
noncomputable def env4 : EnvX := env3
end Go.Proofs.Ytbgdlggobbiibaa

/-
  Places and nodes: the laws of two places, by the machine without memory.
-/
namespace Go.Proofs.Ytbgdlggobbiibaa
set_option maxRecDepth 100000
open Go.RowKit
set_option linter.unusedVariables false
set_option linter.unusedSimpArgs false
attribute [local irreducible] condK LoopA regA

def knownS : List A → (Res → Prop) → Prop
  | [], K => K (.d (.v (.bool true)))
  | _, _ => False
theorem knownS_ok {f : FuncId} (hx : FnO f [] (.d (.v (.bool true)))) : ∀ args K, knownS args K → ∃ r, FnO f args r ∧ K r := by
  intro args K h
  unfold knownS at h
  split at h
  · exact ⟨_, hx, h⟩
  · exact h.elim
noncomputable def env5 : EnvX := env4

theorem leafB_i {x : Int} (h0 : 0 ≤ x) (h1 : x < 8) : leafB x = true := by simp [leafB, h0, h1]
end Go.Proofs.Ytbgdlggobbiibaa

/-
  Trees: keys of nodes; the two nodes below one.
-/
namespace Go.Proofs.Ytbgdlggobbiibaa
set_option maxRecDepth 100000
open Go.RowKit
set_option linter.unusedVariables false
set_option linter.unusedSimpArgs false
attribute [local irreducible] condK LoopA regA

/-- a node's key -/
def keyZ (zs : List Int) (n : Int) : Int := if 0 ≤ n ∧ n < 15 then (if n % 2 = 0 then zs.getD (n.toNat + 1) 0 else zs.getD (16 + n.toNat) 0) else 0
def keyTS : List A → (Res → Prop) → Prop
  | [.agg [.ints .i64 31 zs], .v (.int .i64 n)], K => K (.d (.v (.int .i64 (keyZ zs n))))
  | _, _ => False
theorem keyTS_ok {f : FuncId} (hx : ∀ zs n, FnO f [.agg [.ints .i64 31 zs], .v (.int .i64 n)] (.d (.v (.int .i64 (keyZ zs n))))) : ∀ args K, keyTS args K → ∃ r, FnO f args r ∧ K r := by
  intro args K h
  unfold keyTS at h
  split at h
  · exact ⟨_, hx _ _, h⟩
  · exact h.elim
theorem fifteenI {x : Int} (h : 0 ≤ x ∧ x < 15) : x = 0 ∨ x = 1 ∨ x = 2 ∨ x = 3 ∨ x = 4 ∨ x = 5 ∨ x = 6 ∨ x = 7 ∨ x = 8 ∨ x = 9 ∨ x = 10 ∨ x = 11 ∨ x = 12 ∨ x = 13 ∨ x = 14 := by omega
def nodeB (n : Int) : Bool := decide (0 ≤ n) && decide (n < 15)
def nodeS : List A → (Res → Prop) → Prop
  | [.v (.int .i64 x)], K => K (.d (.v (.bool (nodeB x))))
  | _, _ => False
theorem nodeS_ok {f : FuncId} (hx : ∀ x, FnO f [.v (.int .i64 x)] (.d (.v (.bool (nodeB x))))) : ∀ args K, nodeS args K → ∃ r, FnO f args r ∧ K r := by
  intro args K h
  unfold nodeS at h
  split at h
  · exact ⟨_, hx _, h⟩
  · exact h.elim
def evenS : List A → (Res → Prop) → Prop
  | [.v (.int .i64 y)], K => K (.d (.v (.bool (y.tmod 2 == 0))))
  | _, _ => False
theorem even_ok (y : Int) : FnO 80 [.v (.int .i64 y)] (.d (.v (.bool (y.tmod 2 == 0)))) := by
  refine fnA (E := env0) Try.func80 Try.ntmps80 ?_
  refine ago ?_; (try with_reducible exact True.intro)
theorem evenS_ok {f : FuncId} (hx : ∀ y, FnO f [.v (.int .i64 y)] (.d (.v (.bool (y.tmod 2 == 0))))) : ∀ args K, evenS args K → ∃ r, FnO f args r ∧ K r := by
  intro args K h
  unfold evenS at h
  split at h
  · exact ⟨_, hx _, h⟩
  · exact h.elim
noncomputable def env10a : EnvX := env5
noncomputable def env10b : EnvX := env10a.add 80 evenS (evenS_ok even_ok) ⟨_, Try.func80, by kernel_rfl, by kernel_rfl⟩
def stepZ (n : Int) : Int := if n = 7 then 4 else if n % 4 = 3 then 2 else 1
def oddB (n : Int) : Bool := decide (0 ≤ n) && decide (n < 15) && decide (n % 2 = 1)
def halfS : List A → (Res → Prop) → Prop
  | [.v (.int .i64 n)], K => oddB n = true ∧ K (.d (.v (.int .i64 (stepZ n))))
  | _, _ => False
theorem seven {x : Int} (h : oddB x = true) : x = 1 ∨ x = 3 ∨ x = 5 ∨ x = 7 ∨ x = 9 ∨ x = 11 ∨ x = 13 := by simp [oddB] at h; omega
def tzS : List A → (Res → Prop) → Prop
  | [.v (.int .u64 n)], K => oddB (n - 1) = true ∧ K (.d (.v (.int .i64 (if n = 8 then 3 else if n % 4 = 0 then 2 else 1))))
  | _, _ => False
theorem seven1 {x : Int} (h : oddB (x - 1) = true) : x = 2 ∨ x = 4 ∨ x = 6 ∨ x = 8 ∨ x = 10 ∨ x = 12 ∨ x = 14 := by simp [oddB] at h; omega
theorem tzS_ok {f : FuncId} (hx : ∀ n, oddB (n - 1) = true → FnO f [.v (.int .u64 n)] (.d (.v (.int .i64 (if n = 8 then 3 else if n % 4 = 0 then 2 else 1))))) : ∀ args K, tzS args K → ∃ r, FnO f args r ∧ K r := by
  intro args K h
  unfold tzS at h
  split at h
  · exact ⟨_, hx _ h.1, h.2⟩
  · exact h.elim
noncomputable def env10c : EnvX := env10b
noncomputable def env10d : EnvX := env10c
def belowS : List A → (Res → Prop) → Prop
  | [.v (.int .i64 n)], K => oddB n = true ∧ K (.t [.v (.int .i64 (n - stepZ n)), .v (.int .i64 (n + stepZ n))])
  | _, _ => False
noncomputable def env10e : EnvX := env10d
noncomputable def env10f : EnvX := env10e
noncomputable def env10g : EnvX := env10f
noncomputable def env10 : EnvX := env10g
end Go.Proofs.Ytbgdlggobbiibaa

/-
  Trees: by which nodes all below a node are reached.
-/
namespace Go.Proofs.Ytbgdlggobbiibaa
set_option maxRecDepth 100000
open Go.RowKit
set_option linter.unusedVariables false
set_option linter.unusedSimpArgs false
attribute [local irreducible] condK LoopA regA

/-- by which nodes all below a node are reached -/
def resF : Nat → List Int → Int → List Int
  | 0, zs, n => if keyZ zs n = 0 then [] else [n]
  | d + 1, zs, n => if keyZ zs n = 0 then (if oddB n = true then resF d zs (n - stepZ n) ++ resF d zs (n + stepZ n) else []) else [n]
theorem resF_len (zs : List Int) : ∀ (d : Nat) (n : Int), (resF d zs n).length ≤ 2 ^ d
  | 0, n => by unfold resF; split <;> simp
  | d + 1, n => by
    unfold resF
    have h1 := resF_len zs d (n - stepZ n)
    have h2 := resF_len zs d (n + stepZ n)
    have h3 : 1 ≤ 2 ^ d := Nat.one_le_two_pow
    rw [Nat.pow_succ]
    split
    · split
      · rw [List.length_append]; omega
      · simp
    · simp; omega
/-- how deep a node lies at the most -/
def okD (d : Nat) (n : Int) : Bool :=
  !oddB n || (decide (1 ≤ d) && decide (n % 4 = 1)) || (decide (2 ≤ d) && decide (n % 8 = 3)) || decide (3 ≤ d)
def resR (d : Nat) (zs : List Int) (n : Int) : Res := .o 3 1 (resF d zs n).length [.ints .i64 (resF d zs n).length (resF d zs n)]
def resS (d : Nat) : List A → (Res → Prop) → Prop
  | [.agg [.ints .i64 31 zs], .v (.int .i64 n)], K => okD d n = true ∧ K (.o 3 1 (resF d zs n).length [.ints .i64 (resF d zs n).length (resF d zs n)])
  | _, _ => False
theorem resS_ok {f : FuncId} {d : Nat} (hx : ∀ zs n, okD d n = true → FnO f [.agg [.ints .i64 31 zs], .v (.int .i64 n)] (resR d zs n)) : ∀ args K, resS d args K → ∃ r, FnO f args r ∧ K r := by
  intro args K h
  unfold resS at h
  split at h
  · exact ⟨_, hx _ _ h.1, h.2⟩
  · exact h.elim
theorem nodeB_of (n : Int) (h : oddB n = true) : nodeB n = true := by simp [oddB] at h; simp [nodeB, h]
theorem odd_levels {d : Nat} {n : Int} (hn : oddB n = true) (h : okD (d + 1) n = true) : okD d (n - stepZ n) = true ∧ okD d (n + stepZ n) = true := by
  rcases seven hn with rfl | rfl | rfl | rfl | rfl | rfl | rfl <;> rcases d with _ | _ | d <;> first | (simp [okD, oddB] at h; done) | (constructor <;> simp [okD, oddB, stepZ])
theorem odd_node {n : Int} (hn : oddB n = true) : nodeB n = true ∧ (n.tmod 2 == 0) = false := by
  rcases seven hn with rfl | rfl | rfl | rfl | rfl | rfl | rfl <;> decide
theorem odd_nums {n : Int} (hn : oddB n = true) : IntKind.i64.wrap (n - stepZ n) = n - stepZ n ∧ IntKind.i64.wrap (n + stepZ n) = n + stepZ n ∧ (bits .and .i64 n 1 == 0) = false ∧ 0 ≤ n ∧ n < 15 := by
  rcases seven hn with rfl | rfl | rfl | rfl | rfl | rfl | rfl <;> decide
end Go.Proofs.Ytbgdlggobbiibaa

/-
  Rows of numbers: whether two are one.
-/
namespace Go.Proofs.Ytbgdlggobbiibaa
set_option maxRecDepth 100000
open Go.RowKit
set_option linter.unusedVariables false
set_option linter.unusedSimpArgs false
attribute [local irreducible] condK LoopA regA

def sameS : List A → (Res → Prop) → Prop
  | [.row n [.ints .i64 n' xs], .row m [.ints .i64 m' ys]], K => n = xs.length ∧ n' = xs.length ∧ m = ys.length ∧ m' = ys.length ∧ xs.length ≤ 1000000 ∧ ys.length ≤ 1000000 ∧ K (.d (.v (.bool (decide (xs = ys)))))
  | _, _ => False
theorem same_of {xs ys : List Int} (h : xs.length = ys.length) (h2 : ∀ j, j < xs.length → xs.getD j 0 = ys.getD j 0) : xs = ys := by
  refine List.ext_getElem h fun i h3 h4 => ?_
  have := h2 i h3
  simpa [List.getD_eq_getElem?_getD, h3, h4] using this
noncomputable def env12a : EnvX := env10
noncomputable def env12b : EnvX := env12a
noncomputable def env12 : EnvX := env12b
end Go.Proofs.Ytbgdlggobbiibaa

/-
  Trees: the law of whom nodes reach.
-/
namespace Go.Proofs.Ytbgdlggobbiibaa
set_option maxRecDepth 100000
open Go.RowKit
set_option linter.unusedVariables false
set_option linter.unusedSimpArgs false
attribute [local irreducible] condK LoopA regA

end Go.Proofs.Ytbgdlggobbiibaa

/-
  Trees: each member below a node is under just one node of those by which it is reached.
-/
namespace Go.Proofs.Ytbgdlggobbiibaa
set_option maxRecDepth 100000
open Go.RowKit
set_option linter.unusedVariables false
set_option linter.unusedSimpArgs false
attribute [local irreducible] condK LoopA regA

/-- how many of these nodes a leaf is under -/
def cu (l : List Int) (i : Nat) : Nat := l.countP fun m => underB m (i : Int)
theorem cu_step (l : List Int) (i k : Nat) (hk : k < l.length) : cu (l.take (k + 1)) i = cu (l.take k) i + (if underB (l.getD k 0) (i : Int) = true then 1 else 0) := by
  unfold cu
  rw [List.take_succ_eq_append_getElem hk, List.countP_append, List.countP_singleton]
  simp [List.getD_eq_getElem?_getD, hk]
theorem cu_le (l : List Int) (i : Nat) : cu l i ≤ l.length := List.countP_le_length
theorem under_odd {n : Int} (hn : oddB n = true) {i : Nat} (hi : i < 8) : (if underB (n - stepZ n) (i : Int) = true then 1 else 0) + (if underB (n + stepZ n) (i : Int) = true then 1 else 0) = (if underB n (i : Int) = true then 1 else 0) := by
  have : i = 0 ∨ i = 1 ∨ i = 2 ∨ i = 3 ∨ i = 4 ∨ i = 5 ∨ i = 6 ∨ i = 7 := by omega
  rcases seven hn with rfl | rfl | rfl | rfl | rfl | rfl | rfl <;> rcases this with rfl | rfl | rfl | rfl | rfl | rfl | rfl | rfl <;> decide
theorem under_even {n : Int} (hn : oddB n = false) {i : Nat} (hi : i < 8) : underB n (i : Int) = decide (n = 2 * (i : Int)) := by
  have hl : leafB (i : Int) = true := by simp [leafB]; omega
  simp only [underB, hl, Bool.true_and]
  by_cases h0 : 0 ≤ n
  · by_cases h1 : n < 15
    · simp [oddB, h0, h1] at hn
      have a1 : ¬ n = (i : Int) / 2 * 4 + 1 := by omega
      have a2 : ¬ n = (i : Int) / 4 * 8 + 3 := by omega
      have a3 : ¬ n = 7 := by omega
      simp [a1, a2, a3]
    · have a1 : ¬ n = (i : Int) / 2 * 4 + 1 := by omega
      have a2 : ¬ n = (i : Int) / 4 * 8 + 3 := by omega
      have a3 : ¬ n = 7 := by omega
      simp [a1, a2, a3]
  · have a1 : ¬ n = (i : Int) / 2 * 4 + 1 := by omega
    have a2 : ¬ n = (i : Int) / 4 * 8 + 3 := by omega
    have a3 : ¬ n = 7 := by omega
    simp [a1, a2, a3]
theorem odd_in {d : Nat} {n : Int} (hn : oddB n = true) (h : okD (d + 1) n = true) : True := trivial
theorem count_res (zs : List Int) {i : Nat} (hi : i < 8) : ∀ (d : Nat) (n : Int), okD d n = true → cu (resF d zs n) i ≤ (if underB n (i : Int) = true then 1 else 0) ∧ (underB n (i : Int) = true → keyZ zs (2 * (i : Int)) ≠ 0 → cu (resF d zs n) i = 1) := by
  have one : ∀ n : Int, cu [n] i = if underB n (i : Int) = true then 1 else 0 := fun n => by simp [cu, List.countP_singleton]
  have leaf : ∀ (n : Int) (l : List Int), oddB n = false → l = (if keyZ zs n = 0 then [] else [n]) → cu l i ≤ (if underB n (i : Int) = true then 1 else 0) ∧ (underB n (i : Int) = true → keyZ zs (2 * (i : Int)) ≠ 0 → cu l i = 1) := by
    rintro n l hn rfl
    by_cases hk : keyZ zs n = 0
    · rw [if_pos hk]
      refine ⟨by simp [cu], fun hu hk2 => ?_⟩
      rw [under_even hn hi] at hu
      simp at hu
      rw [← hu] at hk2
      exact absurd hk hk2
    · rw [if_neg hk, one]
      exact ⟨Nat.le_refl _, fun hu _ => by simp [hu]⟩
  intro d
  induction d with
  | zero =>
    intro n hn
    exact leaf n _ (by simpa [okD] using hn) (by simp [resF])
  | succ d ih =>
    intro n hok
    cases hn : oddB n with
    | false => exact leaf n _ hn (by simp [resF, hn])
    | true =>
      obtain ⟨o1, o2⟩ := odd_levels hn hok
      have hu := under_odd hn hi
      by_cases hk : keyZ zs n = 0
      · have e : resF (d + 1) zs n = resF d zs (n - stepZ n) ++ resF d zs (n + stepZ n) := by simp [resF, hk, hn]
        have e2 : cu (resF (d + 1) zs n) i = cu (resF d zs (n - stepZ n)) i + cu (resF d zs (n + stepZ n)) i := by rw [e]; simp [cu]
        obtain ⟨a1, a2⟩ := ih _ o1
        obtain ⟨b1, b2⟩ := ih _ o2
        rw [e2]
        refine ⟨by omega, fun h1 h2 => ?_⟩
        rw [if_pos h1] at hu
        cases hq : underB (n - stepZ n) (i : Int) with
        | true =>
          rw [hq] at hu a1
          have := a2 hq h2
          simp at hu a1
          rw [if_neg (by simp [hu])] at b1
          omega
        | false =>
          rw [hq] at hu a1
          simp at hu a1
          have := b2 hu h2
          rw [hu] at b1
          simp at b1
          omega
      · have e : resF (d + 1) zs n = [n] := by simp [resF, hk]
        rw [e, one]
        exact ⟨Nat.le_refl _, fun h1 _ => by simp [h1]⟩
end Go.Proofs.Ytbgdlggobbiibaa

/-
  Trees: a leaf put.
-/
namespace Go.Proofs.Ytbgdlggobbiibaa
set_option maxRecDepth 100000
open Go.RowKit
set_option linter.unusedVariables false
set_option linter.unusedSimpArgs false
attribute [local irreducible] condK LoopA regA

def putL (zs xs : List Int) (i : Int) : List Int :=
  if leafB i = true then (((zs.take (i.toNat * 2) ++ (xs ++ zs.drop (i.toNat * 2 + 2))).set (16 + (i / 2 * 4 + 1).toNat) 0).set (16 + (i / 4 * 8 + 3).toNat) 0).set (16 + 7) 0 else List.replicate 31 0
def putS : List A → (Res → Prop) → Prop
  | [.agg [.ints .i64 31 zs], .v (.int .i64 i), .agg [.ints .i64 2 xs]], K => K (.d (.agg [.ints .i64 31 (putL zs xs i)]))
  | _, _ => False
theorem putS_ok {f : FuncId} (hx : ∀ zs i xs, FnO f [.agg [.ints .i64 31 zs], .v (.int .i64 i), .agg [.ints .i64 2 xs]] (.d (.agg [.ints .i64 31 (putL zs xs i)]))) : ∀ args K, putS args K → ∃ r, FnO f args r ∧ K r := by
  intro args K h
  unfold putS at h
  split at h
  · exact ⟨_, hx _ _ _, h⟩
  · exact h.elim
noncomputable def env6a : EnvX := env5
noncomputable def env6 : EnvX := env6a

end Go.Proofs.Ytbgdlggobbiibaa

/-
  Trees: whether one may be.
-/
namespace Go.Proofs.Ytbgdlggobbiibaa
set_option maxRecDepth 100000
open Go.RowKit Pm
set_option linter.unusedVariables false
set_option linter.unusedSimpArgs false
attribute [local irreducible] condK LoopA regA

def isS : List A → (Res → Prop) → Prop
  | [.v (.int .i64 y)], K => K (.d (.v (.bool (isI y))))
  | _, _ => False
theorem isS_ok {f : FuncId} (hx : ∀ y, FnO f [.v (.int .i64 y)] (.d (.v (.bool (isI y))))) : ∀ args K, isS args K → ∃ r, FnO f args r ∧ K r := by
  intro args K h
  unfold isS at h
  split at h
  · exact ⟨_, hx _, h⟩
  · exact h.elim
def ofLeafS : List A → (Res → Prop) → Prop
  | [.v (.int .i64 y)], K => K (.d (.v (.bool (y.tmod 2 == 0))))
  | _, _ => False
theorem ofLeaf_ok (y : Int) : FnO 80 [.v (.int .i64 y)] (.d (.v (.bool (y.tmod 2 == 0)))) := by
  refine fnA (E := env0) Try.func80 Try.ntmps80 ?_
  refine ago ?_; (try with_reducible exact True.intro)
theorem ofLeafS_ok {f : FuncId} (hx : ∀ y, FnO f [.v (.int .i64 y)] (.d (.v (.bool (y.tmod 2 == 0))))) : ∀ args K, ofLeafS args K → ∃ r, FnO f args r ∧ K r := by
  intro args K h
  unfold ofLeafS at h
  split at h
  · exact ⟨_, hx _, h⟩
  · exact h.elim
noncomputable def env7a : EnvX := env6.add 79 isS (isS_ok fun y => fn_plain1 fun w => is_any y w) ⟨_, Try.func79, by kernel_rfl, by kernel_rfl⟩
noncomputable def env7b : EnvX := env7a.add 88 isS (isS_ok fun y => fn_plain1 fun w => ris_any y w) ⟨_, Try.func88, by kernel_rfl, by kernel_rfl⟩
noncomputable def env7 : EnvX := env7b.add 80 ofLeafS (ofLeafS_ok ofLeaf_ok) ⟨_, Try.func80, by kernel_rfl, by kernel_rfl⟩

def leafP (zs : List Int) (k : Nat) : List Int := ((zs.take 16).drop (k * 2)).take 2
def leafOK (zs : List Int) (k : Nat) : Bool := decide (leafP zs k = [0, 0]) || (isI ((leafP zs k).getD 0 0) && isI ((leafP zs k).getD 1 0))
def nodeV (zs : List Int) (k : Nat) : Int := ((zs.drop 16).take 15).getD k 0
def nodeOK (zs : List Int) (k : Nat) : Bool := decide (nodeV zs k = 0) || (!((k : Int).tmod 2 == 0) && isI (nodeV zs k))
def isT (zs : List Int) : Bool := (List.range 8).all (leafOK zs) && (List.range 15).all (nodeOK zs)
theorem isT_leaf {zs : List Int} {k : Nat} (hk : k < 8) (h : leafOK zs k = false) : isT zs = false := by
  have : (List.range 8).all (leafOK zs) = false := List.all_eq_false.2 ⟨k, by simpa using hk, by simp [h]⟩
  simp [isT, this]
theorem isT_node {zs : List Int} {k : Nat} (hk : k < 15) (h : nodeOK zs k = false) : isT zs = false := by
  have : (List.range 15).all (nodeOK zs) = false := List.all_eq_false.2 ⟨k, by simpa using hk, by simp [h]⟩
  simp [isT, this]
theorem isT_all {zs : List Int} (h1 : ∀ k < 8, leafOK zs k = true) (h2 : ∀ k < 15, nodeOK zs k = true) : isT zs = true := by
  have e1 : (List.range 8).all (leafOK zs) = true := List.all_eq_true.2 fun k hk => h1 k (by simpa using hk)
  have e2 : (List.range 15).all (nodeOK zs) = true := List.all_eq_true.2 fun k hk => h2 k (by simpa using hk)
  simp only [isT, e1, e2]; rfl
set_option maxHeartbeats 16000000 in
theorem isTree_ok (zs : List Int) : FnO 73 [.agg [.ints .i64 31 zs]] (.d (.v (.bool (isT zs)))) := by
  refine fnA (E := env7) Try.func73 Try.ntmps73 ?_
  refine agom ?_; (try with_reducible exact True.intro)
  refine StopL.mk (loop_inv [1, 8, 9] 1 (fun s => ∃ k : Nat, k ≤ 8 ∧ (∀ j < k, leafOK zs j = true) ∧ s = ⟨[.dead, .ptr 0 0, .dead, .dead, .dead, .dead, .dead, .dead, .d (.agg [.ints .i64 16 (zs.take 16)]), .d (.v (.int .i64 (k : Nat))), .dead, .dead, .dead, .dead, .dead, .dead, .dead, .dead, .dead, .dead, .dead, .dead, .dead, .dead, .dead, .dead, .dead, .dead, .dead, .dead, .dead, .dead, .dead, .dead, .dead, .dead, .dead, .dead, .dead, .dead, .dead, .dead, .dead, .dead, .dead], [some (.var [.ints .i64 31 zs])]⟩) (fun s => 8 - intAt s 9) rfl ⟨0, by omega, fun j hj => by omega, rfl⟩ ?_)
  rintro s ⟨k, hk, hall, rfl⟩
  have hw : IntKind.i64.wrap ((k : Int) + 1) = ((k + 1 : Nat) : Int) := by rw [wrapS (by omega) (by omega)]; omega
  by_cases hk8 : k < 8
  · have next : leafOK zs k = true → ∀ j < k + 1, leafOK zs j = true := fun h j hj => by
      by_cases e : j = k
      · rw [e]; exact h
      · exact hall j (by omega)
    by_cases hz : ((zs.take 16).drop (k * 2)).take 2 = [0, 0]
    · have L : leafOK zs k = true := by simp [leafOK, leafP, hz]
      refine agom ?_; (try with_reducible exact True.intro)
      refine ⟨⟨k + 1, by omega, next L, by rw [← hw]; rfl⟩, ?_⟩
      show 8 - (IntKind.i64.wrap ((k : Int) + 1)).toNat < 8 - (k : Int).toNat
      rw [hw]; omega
    · cases ha : isI ((((zs.take 16).drop (k * 2)).take 2).getD 0 0) with
      | false =>
        have L : isT zs = false := isT_leaf hk8 (by unfold leafOK leafP; rw [decide_eq_false hz, ha]; rfl)
        refine agom ?_; (try with_reducible exact True.intro)
        rw [L]
      | true =>
        cases hb : isI ((((zs.take 16).drop (k * 2)).take 2).getD 1 0) with
        | false =>
          have L : isT zs = false := isT_leaf hk8 (by unfold leafOK leafP; rw [decide_eq_false hz, ha, hb]; rfl)
          refine agom ?_; (try with_reducible exact True.intro)
          rw [L]
        | true =>
          have L : leafOK zs k = true := by unfold leafOK leafP; rw [ha, hb]; simp
          refine agom ?_; (try with_reducible exact True.intro)
          refine ⟨⟨k + 1, by omega, next L, by rw [← hw]; rfl⟩, ?_⟩
          show 8 - (IntKind.i64.wrap ((k : Int) + 1)).toNat < 8 - (k : Int).toNat
          rw [hw]; omega
  · obtain rfl : k = 8 := by omega
    refine agom ?_; (try with_reducible exact True.intro)
    refine StopL.mk (loop_inv [28, 29] 1 (fun s => ∃ k : Nat, k ≤ 15 ∧ (∀ j < k, nodeOK zs j = true) ∧ s = ⟨[.dead, .dead, .dead, .dead, .dead, .dead, .dead, .dead, .dead, .dead, .dead, .dead, .dead, .dead, .dead, .dead, .dead, .dead, .dead, .dead, .dead, .dead, .dead, .dead, .dead, .dead, .dead, .dead, .d (.agg [.ints .i64 15 ((zs.drop 16).take 15)]), .d (.v (.int .i64 (k : Nat))), .dead, .dead, .dead, .dead, .dead, .dead, .dead, .dead, .dead, .dead, .dead, .dead, .dead, .dead, .dead], [some (.var [.ints .i64 31 zs])]⟩) (fun s => 15 - intAt s 29) rfl ⟨0, by omega, fun j hj => by omega, rfl⟩ ?_)
    clear hk8 hw hk
    rintro s ⟨k, hk, hall2, rfl⟩
    have hw : IntKind.i64.wrap ((k : Int) + 1) = ((k + 1 : Nat) : Int) := by rw [wrapS (by omega) (by omega)]; omega
    by_cases hk15 : k < 15
    · have next : nodeOK zs k = true → ∀ j < k + 1, nodeOK zs j = true := fun h j hj => by
        by_cases e : j = k
        · rw [e]; exact h
        · exact hall2 j (by omega)
      by_cases hz : ((zs.drop 16).take 15).getD k 0 = 0
      · have L : nodeOK zs k = true := by unfold nodeOK nodeV; rw [hz]; rfl
        have hz2 : (((zs.drop 16).take 15).getD k 0 != 0) = false := by rw [hz]; rfl
        refine agom ?_; (try with_reducible exact True.intro)
        refine ⟨⟨k + 1, by omega, next L, by rw [← hw]; rfl⟩, ?_⟩
        show 15 - (IntKind.i64.wrap ((k : Int) + 1)).toNat < 15 - (k : Int).toNat
        rw [hw]; omega
      · have hz' : decide (((zs.drop 16).take 15).getD k 0 = 0) = false := decide_eq_false hz
        have hz2 : (((zs.drop 16).take 15).getD k 0 != 0) = true := by rw [bne]; rw [beq_eq_false_iff_ne.2 hz]; rfl
        cases ha : ((k : Int).tmod 2 == 0) with
        | true =>
          have L : isT zs = false := isT_node hk15 (by unfold nodeOK nodeV; rw [hz', ha]; rfl)
          refine agom ?_; (try with_reducible exact True.intro)
          rw [L]
        | false =>
          cases hb : isI (((zs.drop 16).take 15).getD k 0) with
          | false =>
            have L : isT zs = false := isT_node hk15 (by unfold nodeOK nodeV; rw [hz', hb]; simp)
            refine agom ?_; (try with_reducible exact True.intro)
            rw [L]
          | true =>
            have L : nodeOK zs k = true := by unfold nodeOK nodeV; rw [hz', ha, hb]; rfl
            refine agom ?_; (try with_reducible exact True.intro)
            refine ⟨⟨k + 1, by omega, next L, by rw [← hw]; rfl⟩, ?_⟩
            show 15 - (IntKind.i64.wrap ((k : Int) + 1)).toNat < 15 - (k : Int).toNat
            rw [hw]; omega
    · obtain rfl : k = 15 := by omega
      have L : isT zs = true := isT_all hall hall2
      refine agom ?_; (try with_reducible exact True.intro)
      rw [L]
end Go.Proofs.Ytbgdlggobbiibaa

/-
  Trees: by the root's all members are reached, each once; with its own key by that alone.
-/
namespace Go.Proofs.Ytbgdlggobbiibaa
set_option maxRecDepth 100000
open Go.RowKit Pm
set_option linter.unusedVariables false
set_option linter.unusedSimpArgs false
attribute [local irreducible] condK LoopA regA

noncomputable def env15a : EnvX := env12.add 88 isS (isS_ok fun y => fn_plain1 fun w => ris_any y w) ⟨_, Try.func88, by kernel_rfl, by kernel_rfl⟩
theorem leafP_eq (zs : List Int) {k : Nat} (hk : k < 8) : leafP zs k = (zs.drop (k * 2)).take 2 := by
  unfold leafP
  rw [List.drop_take, List.take_take]
  congr 1; omega
theorem nodeV_eq (zs : List Int) {k : Nat} (hk : k < 15) : nodeV zs k = zs.getD (16 + k) 0 := by
  unfold nodeV
  simp [List.getD_eq_getElem?_getD, List.getElem?_take, hk]
set_option maxHeartbeats 16000000 in
theorem rIsTree_ok (zs : List Int) : FnO 84 [.agg [.ints .i64 31 zs]] (.d (.v (.bool (isT zs)))) := by
  refine fnA (E := env15a) Try.func84 Try.ntmps84 ?_
  refine agom ?_; (try with_reducible exact True.intro)
  refine StopL.mk (loop_inv [1, 3] 1 (fun s => ∃ k : Nat, k ≤ 8 ∧ (∀ j < k, leafOK zs j = true) ∧ s = ⟨[.dead, .ptr 0 0, .dead, .d (.v (.int .i64 (k : Nat))), .dead, .dead, .dead, .dead, .dead, .dead, .dead, .dead, .dead, .dead, .dead, .dead, .dead, .dead, .dead, .dead, .dead, .dead, .dead, .dead, .dead, .dead, .dead, .dead, .dead, .dead, .dead, .dead, .dead, .dead, .dead, .dead, .dead, .dead, .dead, .dead, .dead, .dead, .dead, .dead, .dead, .dead, .dead, .dead, .dead, .dead, .dead], [some (.var [.ints .i64 31 zs])]⟩) (fun s => 8 - intAt s 3) rfl ⟨0, by omega, fun j hj => by omega, rfl⟩ ?_)
  rintro s ⟨k, hk, hall, rfl⟩
  have hw : IntKind.i64.wrap ((k : Int) + 1) = ((k + 1 : Nat) : Int) := by rw [wrapS (by omega) (by omega)]; omega
  have goes : ∀ x : Int, x = IntKind.i64.wrap ((k : Int) + 1) → 8 - x.toNat < 8 - (k : Int).toNat ∨ 8 ≤ k := fun x hx => by rw [hx, hw]; omega
  by_cases hk8 : k < 8
  · have next : leafOK zs k = true → ∀ j < k + 1, leafOK zs j = true := fun h j hj => by
      by_cases e : j = k
      · rw [e]; exact h
      · exact hall j (by omega)
    by_cases hz : (zs.drop (k * 2)).take 2 = [0, 0]
    · have L : leafOK zs k = true := by simp [leafOK, leafP_eq zs hk8, hz]
      refine agom ?_; (try with_reducible exact True.intro)
      exact ⟨⟨k + 1, by omega, next L, by rw [← hw]; rfl⟩, (goes _ rfl).resolve_right (by omega)⟩
    · cases ha : isI (((zs.drop (k * 2)).take 2).getD 0 0) with
      | false =>
        have L : isT zs = false := isT_leaf hk8 (by unfold leafOK; rw [leafP_eq zs hk8, decide_eq_false hz, ha]; rfl)
        refine agom ?_; (try with_reducible exact True.intro)
        rw [L]
      | true =>
        cases hb : isI (((zs.drop (k * 2)).take 2).getD 1 0) with
        | false =>
          have L : isT zs = false := isT_leaf hk8 (by unfold leafOK; rw [leafP_eq zs hk8, decide_eq_false hz, ha, hb]; rfl)
          refine agom ?_; (try with_reducible exact True.intro)
          rw [L]
        | true =>
          have L : leafOK zs k = true := by unfold leafOK; rw [leafP_eq zs hk8, ha, hb]; simp
          refine agom ?_; (try with_reducible exact True.intro)
          exact ⟨⟨k + 1, by omega, next L, by rw [← hw]; rfl⟩, (goes _ rfl).resolve_right (by omega)⟩
  · obtain rfl : k = 8 := by omega
    refine agom ?_; (try with_reducible exact True.intro)
    refine StopL.mk (loop_inv [1, 5] 1 (fun s => ∃ k : Nat, k ≤ 15 ∧ (∀ j < k, nodeOK zs j = true) ∧ s = ⟨[.dead, .ptr 0 0, .dead, .dead, .dead, .d (.v (.int .i64 (k : Nat))), .dead, .dead, .dead, .dead, .dead, .dead, .dead, .dead, .dead, .dead, .dead, .dead, .dead, .dead, .dead, .dead, .dead, .dead, .dead, .dead, .dead, .dead, .dead, .dead, .dead, .dead, .dead, .dead, .dead, .dead, .dead, .dead, .dead, .dead, .dead, .dead, .dead, .dead, .dead, .dead, .dead, .dead, .dead, .dead, .dead], [some (.var [.ints .i64 31 zs])]⟩) (fun s => 15 - intAt s 5) rfl ⟨0, by omega, fun j hj => by omega, rfl⟩ ?_)
    clear hk8 hw hk goes
    rintro s ⟨k, hk, hall2, rfl⟩
    have hw : IntKind.i64.wrap ((k : Int) + 1) = ((k + 1 : Nat) : Int) := by rw [wrapS (by omega) (by omega)]; omega
    have goes : ∀ x : Int, x = IntKind.i64.wrap ((k : Int) + 1) → 15 - x.toNat < 15 - (k : Int).toNat ∨ 15 ≤ k := fun x hx => by rw [hx, hw]; omega
    by_cases hk15 : k < 15
    · have next : nodeOK zs k = true → ∀ j < k + 1, nodeOK zs j = true := fun h j hj => by
        by_cases e : j = k
        · rw [e]; exact h
        · exact hall2 j (by omega)
      have V := nodeV_eq zs hk15
      have hand : (bits .and .i64 (k : Int) 1 == 0) = ((k : Int).tmod 2 == 0) := by
        have : k = 0 ∨ k = 1 ∨ k = 2 ∨ k = 3 ∨ k = 4 ∨ k = 5 ∨ k = 6 ∨ k = 7 ∨ k = 8 ∨ k = 9 ∨ k = 10 ∨ k = 11 ∨ k = 12 ∨ k = 13 ∨ k = 14 := by omega
        clear hall2 next goes hw V
        rcases this with rfl | rfl | rfl | rfl | rfl | rfl | rfl | rfl | rfl | rfl | rfl | rfl | rfl | rfl | rfl <;> rfl
      by_cases hz : zs.getD (16 + k) 0 = 0
      · have L : nodeOK zs k = true := by unfold nodeOK; rw [V, hz]; rfl
        have hz2 : (zs.getD (16 + k) 0 != 0) = false := by rw [hz]; rfl
        clear hand V
        refine agom ?_; (try with_reducible exact True.intro)
        exact ⟨⟨k + 1, by omega, next L, by rw [← hw]; rfl⟩, (goes _ rfl).resolve_right (by omega)⟩
      · have hz' : decide (zs.getD (16 + k) 0 = 0) = false := decide_eq_false hz
        have hz2 : (zs.getD (16 + k) 0 != 0) = true := by rw [bne]; rw [beq_eq_false_iff_ne.2 hz]; rfl
        cases ha : (bits .and .i64 (k : Int) 1 == 0) with
        | true =>
          have L : isT zs = false := isT_node hk15 (by unfold nodeOK; rw [V, hz', ← hand, ha]; rfl)
          clear hand V
          refine agom ?_; (try with_reducible exact True.intro)
          rw [L]
        | false =>
          cases hb : isI (zs.getD (16 + k) 0) with
          | false =>
            have L : isT zs = false := isT_node hk15 (by unfold nodeOK; rw [V, hz', hb]; simp)
            clear hand V
            refine agom ?_; (try with_reducible exact True.intro)
            rw [L]
          | true =>
            have L : nodeOK zs k = true := by unfold nodeOK; rw [V, hz', ← hand, ha, hb]; rfl
            clear hand V
            refine agom ?_; (try with_reducible exact True.intro)
            exact ⟨⟨k + 1, by omega, next L, by rw [← hw]; rfl⟩, (goes _ rfl).resolve_right (by omega)⟩
    · obtain rfl : k = 15 := by omega
      have L : isT zs = true := isT_all hall hall2
      refine agom ?_; (try with_reducible exact True.intro)
      rw [L]
end Go.Proofs.Ytbgdlggobbiibaa
