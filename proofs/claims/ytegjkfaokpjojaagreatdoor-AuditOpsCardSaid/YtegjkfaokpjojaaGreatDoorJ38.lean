/-
  A variable of one's own takes a slice of one's own into one of its cells, and gives it up; loops told by such states. No program is named here.
-/
import Derived.Test.YtegjkfaokpjojaaGreatDoorJ25
import Derived.Test.YtegjkfaokpjojaaGreatDoorJ10
import Derived.Deep.Slices
import Derived.ChangeSame
namespace Go.Proofs.YtegjkfaokpjojaaGreatDoor
set_option maxRecDepth 100000
open Go.RowKit
set_option linter.unusedVariables false
set_option linter.unusedSimpArgs false

/-- is the cell a slice that is nil? -/
def nilAt (l : List Seg) (off : Nat) : Bool :=
  match loc l off with
  | some (_, .gen _ asx, _, i) => (match asx.getD i (.v undef) with | .v (.slice none 0 0) => true | _ => false)
  | _ => false
theorem nilAt_spec {D : Nat → Prop} {w : World} {l : List Seg} {off : Nat} {cs : List Value} (h : nilAt l off = true) (hl : RL D w l cs) : cs[off]? = some (.slice none 0 0) := by
  unfold nilAt at h
  split at h
  · next p k asx q i hc =>
    split at h
    · next hg =>
      obtain ⟨c, d, e, rfl, h1, h2, h3, h4, h5, h6⟩ := hl.found hc
      obtain ⟨v, h7, h8, h9⟩ := h2.cell i h5
      have h8' : RA D w (.v (.slice none 0 0)) v := by
        have : (Seg.gen k asx).cell i = .v (.slice none 0 0) := hg
        rwa [this] at h8
      rw [RA.plain h8'] at h7
      rw [← h4, List.getElem?_append_right (by omega), show c.length + i - c.length = i by omega, List.getElem?_append_left (by omega)]
      exact h7
    · cases h
  · cases h
/-- a slot that spoke of the variable's slice speaks of nothing -/
def offH (b : Nat) : T → T
  | .hsl b' n => if b' = b then .dead else .hsl b' n
  | t => t
theorem offH_refs (b : Nat) (t : T) : ∀ q ∈ (offH b t).refs, q ∈ t.refs := by
  intro q hq
  unfold offH at hq
  split at hq
  · split at hq
    · simp [T.refs] at hq
    · exact hq
  · exact hq
def St.hold (s : St) (b off : Nat) (e : TypeId) (sz : Nat) (m : List Seg) : St :=
  match s.bk b with
  | some (.var l) => ⟨s.t.map (offH b), s.h.set b (some (.vh l off true e sz 0 m))⟩
  | _ => s
theorem sl_map {f : T → T} (hf : f .dead = .dead) (l : List T) (i : Nat) : (l.map f).getD i .dead = f (l.getD i .dead) := by
  rw [List.getD_eq_getElem?_getD, List.getD_eq_getElem?_getD, List.getElem?_map]
  cases l[i]? with
  | none => simp [hf]
  | some x => rfl
/-- a nil slice in a variable's cell is a slice of one's own -/
theorem Ent.hold {s : St} {b off : Nat} {e : TypeId} {sz : Nat} {m : List Seg} {l : List Seg} (hk : s.bk b = some (.var l)) (hb : b ≠ 0) (hn : nilAt l off = true) (hm : m.all segNil = true) : Ent s (s.hold b off e sz m) := .mk fun G S base w0 ρ a w g => by
  unfold St.hold
  rw [hk]
  obtain ⟨r, cs, ty, h1, _, h2, h3⟩ := g.var hk
  have hc := nilAt_spec hn h3
  obtain ⟨h4, h5⟩ := List.getElem?_eq_some_iff.1 hc
  have hset : cs.set off (.slice none 0 0) = cs := by rw [← h5, List.set_getElem_self]
  have hrl : ∀ q, Rl (uvh r (.slice none 0 0)) q ↔ r = q := fun q => by
    rw [rl_uvh ⟨_, _, _, rfl⟩]
    constructor
    · rintro (h | h)
      · exact h
      · exact h.elim
    · exact .inl
  let ρ' := upd ρ b (some (uvh r (.slice none 0 0)))
  have hu : ∀ b', b' ≠ b → ρ' b' = ρ b' := fun b' hb' => by simp [ρ', upd, hb']
  have hu0 : ρ' b = some (uvh r (.slice none 0 0)) := by simp [ρ', upd]
  have hre : ∀ b' u q, ρ' b' = some u → Rl u q → ∃ u', ρ b' = some u' ∧ Rl u' q := fun b' u q h6 h7 => by
    by_cases e : b' = b
    · subst e
      rw [hu0] at h6; cases h6
      exact ⟨_, h1, (hrl q).1 h7⟩
    · exact ⟨u, by rw [← hu b' e]; exact h6, h7⟩
  have K : Keeps (Dt S base ρ) w (Dt S base ρ') w := ⟨Nat.le_refl _, fun q _ hd => ⟨⟨hd.1, fun b' u h6 h7 => by
    obtain ⟨u', h8, h9⟩ := hre b' u q h6 h7
    exact hd.2 b' u' h8 h9⟩, fun _ => rfl⟩⟩
  have hbl := bk_lt hk
  have hbk : ∀ b', St.bk ⟨s.t.map (offH b), s.h.set b (some (.vh l off true e sz 0 m))⟩ b' = if b' = b then some (.vh l off true e sz 0 m) else s.bk b' := fun b' => by
    simp only [St.bk, getD_set_list]
    by_cases e : b' = b
    · subst e; simp [hbl]
    · rw [if_neg (fun h => e h.1.symm), if_neg e]
  have hsl : ∀ i, St.sl ⟨s.t.map (offH b), s.h.set b (some (.vh l off true e sz 0 m))⟩ i = offH b (s.sl i) := fun i => sl_map rfl s.t i
  refine ⟨ρ', (by simpa using g.len), fun i hi => ?_, fun b' => ?_, fun i b' hb' => ?_, fun b1 b2 u u' q e1 e2 r1 r2 => ?_, fun b' u q e1 r1 => ?_, g.bel, g.glob.up K, (fun q hq => by rw [hu 0 (fun e => hb e.symm)]; exact g.pin q hq), g.size, g.defs⟩
  · rw [hsl]
    have h0 := g.t i hi
    have other : ∀ {t : T} {v : Value}, RT (Dt S base ρ) ρ w t v → b ∉ t.refs → RT (Dt S base ρ') ρ' w t v := fun h hb' => h.up K fun q hq => hu q (fun e => hb' (e ▸ hq))
    have pts : ∀ {v : Value} {p : Pt}, RP (Dt S base ρ) ρ w p v → RP (Dt S base ρ') ρ' w p v := fun {v p} h => by
      cases p with
      | dat a => exact RA.up K h
      | own b' n =>
        by_cases e : b' = b
        · subst e; obtain ⟨_, _, _, e2, _⟩ := h _ h1; cases e2
        · intro u hu'; rw [hu b' e] at hu'; exact h u hu'
      | win b' o n =>
        by_cases e : b' = b
        · subst e
          obtain ⟨r', c, hR, h6⟩ := h _ h1
          obtain rfl := hR.ptr
          intro u hu'; rw [hu0] at hu'; cases hu'
          exact ⟨_, c, .inr ⟨_, _, _, rfl⟩, h6⟩
        · intro u hu'; rw [hu b' e] at hu'; exact h u hu'
    generalize s.sl i = t at h0
    cases t with
    | d x => exact other (t := .d x) h0 (by simp [T.refs])
    | tup x => exact other (t := .tup x) h0 (by simp [T.refs])
    | dead => trivial
    | rows ps => obtain ⟨vs, h6, h7⟩ := h0; exact ⟨vs, h6.map fun p _ v hv => pts hv, h7.up K⟩
    | ptr b' o =>
      by_cases e : b' = b
      · subst e
        obtain ⟨r', hR, h6⟩ := h0 _ h1
        obtain rfl := hR.ptr
        intro u hu'; rw [hu0] at hu'; cases hu'
        exact ⟨_, .inr ⟨_, _, _, rfl⟩, h6⟩
      · exact other (t := .ptr b' o) h0 (by simp [T.refs]; exact fun h => e h.symm)
    | bxp b' c' =>
      by_cases e : b' = b
      · subst e
        obtain ⟨r', hR, h6⟩ := h0 _ h1
        obtain rfl := hR.ptr
        intro u hu'; rw [hu0] at hu'; cases hu'
        exact ⟨_, .inr ⟨_, _, _, rfl⟩, h6⟩
      · intro u hu'; rw [hu b' e] at hu'; exact h0 u hu'
    | pti b' o rel =>
      by_cases e : b' = b
      · subst e
        obtain ⟨r', hR, h6⟩ := h0 _ h1
        obtain rfl := hR.ptr
        intro u hu'; rw [hu0] at hu'; cases hu'
        exact ⟨_, .inr ⟨_, _, _, rfl⟩, h6⟩
      · exact other (t := .pti b' o rel) h0 (by simp [T.refs]; exact fun h => e h.symm)
    | win b' o n =>
      by_cases e : b' = b
      · subst e
        obtain ⟨r', c, hR, h6⟩ := h0 _ h1
        obtain rfl := hR.ptr
        intro u hu'; rw [hu0] at hu'; cases hu'
        exact ⟨_, c, .inr ⟨_, _, _, rfl⟩, h6⟩
      · exact other (t := .win b' o n) h0 (by simp [T.refs]; exact fun h => e h.symm)
    | own b' n =>
      by_cases e : b' = b
      · subst e; obtain ⟨_, _, _, e2, _⟩ := h0 _ h1; cases e2
      · exact other (t := .own b' n) h0 (by simp [T.refs]; exact fun h => e h.symm)
    | ept b' n o =>
      by_cases e : b' = b
      · subst e; obtain ⟨_, _, _, e2, _⟩ := h0 _ h1; cases e2
      · exact other (t := .ept b' n o) h0 (by simp [T.refs]; exact fun h => e h.symm)
    | pre b' n o =>
      by_cases e : b' = b
      · subst e; obtain ⟨_, _, _, e2, _⟩ := h0 _ h1; cases e2
      · exact other (t := .pre b' n o) h0 (by simp [T.refs]; exact fun h => e h.symm)
    | ob b' =>
      by_cases e : b' = b
      · subst e; obtain ⟨_, _, e2, _⟩ := h0 _ h1; exact (fpv_no.1 _ e2.symm).elim
      · exact other (t := .ob b') h0 (by simp [T.refs]; exact fun h => e h.symm)
    | mp b' =>
      by_cases e : b' = b
      · subst e; obtain ⟨_, _, e2, _⟩ := h0 _ h1; exact (fpv_no.1 _ e2.symm).elim
      · exact other (t := .mp b') h0 (by simp [T.refs]; exact fun h => e h.symm)
    | hsl b' n =>
      by_cases e : b' = b
      · subst e
        have e2 : offH b' (.hsl b' n) = .dead := by simp [offH]
        rw [e2]; trivial
      · have e2 : offH b (.hsl b' n) = .hsl b' n := by simp [offH, e]
        rw [e2]
        exact other h0 (by simp [T.refs]; exact fun h => e h.symm)
  · rw [hbk]
    by_cases e : b' = b
    · subst e
      rw [if_pos rfl]
      exact ⟨r, cs, ty, .slice none 0 0, [], hu0, h2, fun h => h, World.ownsRow_nil _ _ _ _, rl_nil hm, by rw [hset]; exact h3.up K, h4, fun _ => hc⟩
    · rw [if_neg e]
      have hB := g.b b'
      cases hk' : s.bk b' with
      | none => rw [hk'] at hB; exact (hu b' e).trans hB
      | some x =>
        rw [hk'] at hB
        cases x with
        | var l => obtain ⟨r, cs, t, h1, h2, h3, h4⟩ := hB; exact ⟨r, cs, t, (hu b' e).trans h1, h2, h3, h4.up K⟩
        | sl e' sz n l => obtain ⟨u, cs, h1, h2, h3⟩ := hB; exact ⟨u, cs, (hu b' e).trans h1, h2, h3.up K⟩
        | obj p => obtain ⟨r, cs, t, h1, h2, h3, h4⟩ := hB; exact ⟨r, cs, t, (hu b' e).trans h1, h2, h3, h4⟩
        | abs p => obtain ⟨r, F, h1, h2, h3⟩ := hB; exact ⟨r, F, (hu b' e).trans h1, h2, h3⟩
        | gone => obtain ⟨n, h1⟩ := hB; exact ⟨n, (hu b' e).trans h1⟩
        | bx => obtain ⟨h0, q, r, t, h1, h2, h3⟩ := hB; exact ⟨h0, q, r, t, (hu b' e).trans h1, h2, (hu 0 (fun e => hb e.symm)).trans h3⟩
        | vh l off p e' sz n m => obtain ⟨r, cs, t, su, ms, h1, h2, h3, h4, h5, h6, h7, h8⟩ := hB; exact ⟨r, cs, t, su, ms, (hu b' e).trans h1, h2, h3, h4, h5.up K, h6.up K, h7, h8⟩
  · rw [hsl] at hb'
    have := g.dang i b' (offH_refs _ _ _ hb')
    rw [hbk]
    split
    · simp
    · exact this
  · obtain ⟨u1, e3, r3⟩ := hre b1 u q e1 r1
    obtain ⟨u2, e4, r4⟩ := hre b2 u' q e2 r2
    exact g.inj b1 b2 u1 u2 q e3 e4 r3 r4
  · obtain ⟨u1, e3, r3⟩ := hre b' u q e1 r1
    exact g.low b' u1 q e3 r3
def St.give (s : St) (b : Nat) : St :=
  match s.bk b with
  | some (.vh l off true e sz n m) => (match unh l off n m with | some l' => ⟨s.t, s.h.set b (some (.var l'))⟩ | none => s)
  | _ => s
/-- the slice in a variable's cell is data -/
theorem Ent.give {s : St} {b : Nat} : Ent s (s.give b) := .mk fun G S base w0 ρ a w g => by
  unfold St.give
  split
  · next l off e sz n m hk =>
    split
    · next l' hl => exact g.unh hk hl
    · exact ⟨ρ, g⟩
  · exact ⟨ρ, g⟩
/-- a loop of N rounds at most, where a nil slice in a variable's cell may grow -/
theorem loop_forV {body : St → (Exit → St → Prop) → Prop} {s : St} {k : Exit → St → Prop} (live bs : List Nat) (b off : Nat) (e : TypeId) (sz : Nat) (m : List Seg) (N : Nat) (f : Nat → St)
    (h3 : ∀ j, j ≤ N → LastR N f j → body (f j) fun e s' => match e with | .normal => RoundE N f j s' | e => k e s')
    {l : List Seg} (hk : (s.give b).bk b = some (.var l) := by exact rfl) (hn : nilAt l off = true := by exact rfl) (hm : m.all segNil = true := by exact rfl) (hb : b ≠ 0 := by decide)
    (ok : gatOK live bs ((s.give b).hold b off e sz m) = true := by exact rfl) (h2 : gather live bs ((s.give b).hold b off e sz m) = f 0 := by exact rfl) : LoopA body s k ∨ LoopI body s k :=
  loop_forE N f ((Ent.give.trans (Ent.hold hk hb hn hm)).trans (.gather ok)) h2 h3
end Go.Proofs.YtegjkfaokpjojaaGreatDoor

/-
  Statements of the machine without memory: code of which a part is shown by hand; the length of a string. No program is named here.
-/
namespace Go.Proofs.YtegjkfaokpjojaaGreatDoor
set_option maxRecDepth 100000
open Go.RowKit
set_option linter.unusedVariables false
set_option linter.unusedSimpArgs false

/-- code that comes to this, shown in whatever way -/
structure GW (E : EnvX) (c : Code) (s : St) (k : Exit → St → Prop) : Prop where
  out : ∀ (S : Nat → Prop) (base : Nat) (w0 : W0 E.G) (ρ : Nat → Option Value) (a : Act) (w : World), Good S base w0 s ρ a w → c.wp E.P (fun e a' w' => ∃ s' ρ', k e s' ∧ Good S base w0 s' ρ' a' w') a w
structure GL (E : EnvX) (ops l : List Oper) (s : St) (k : St → Prop) : Prop where
  out : ∀ (S : Nat → Prop) (base : Nat) (w0 : W0 E.G) (ρ : Nat → Option Value) (a : Act) (w : World), Good S base w0 s ρ a w → wpList E.P ops.toArray (fun e a' w' => e = .normal ∧ ∃ s' ρ', k s' ∧ Good S base w0 s' ρ' a' w') l a w
section
variable {E : EnvX} {s : St}
theorem GW.of {c : Code} {k : Exit → St → Prop} (h : wpA E c s k) : GW E c s k := ⟨fun S base w0 ρ a w g => wpA_sound c h g⟩
theorem GW.seq {x y : Code} {k : Exit → St → Prop} (h : GW E x s fun e s' => match e with | .normal => GW E y s' k | e => k e s') : GW E (.seq x y) s k := by
  refine ⟨fun S base w0 ρ a w g => ?_⟩
  refine wp_seq (wp_mono (h.out S base w0 ρ a w g) ?_)
  rintro e a' w' ⟨s', ρ', h1, h2⟩
  cases e with
  | normal => exact GW.out h1 _ _ _ _ _ _ h2
  | _ => exact ⟨s', ρ', h1, h2⟩
theorem GL.of {ops l : List Oper} {k : St → Prop} (h : regA E ops l s k) : GL E ops l s k := ⟨fun S base w0 ρ a w g => regA_sound h g⟩
theorem GL.cons {ops r : List Oper} {o : Oper} {t : T} {k : St → Prop} (hg : o.guard = none) (ho : OpOK E o s s.h.length t none) (h : GL E ops r (s.app2 o.dst t none) k) : GL E ops (o :: r) s k := by
  refine ⟨fun S base w0 ρ a w g => ?_⟩
  have hs : StepOK E ops o s s.h.length t none := .inl ⟨by unfold Wants; rw [hg], ho⟩
  unfold wpList
  refine hs.run (s' := ⟨s.t, s.h ++ List.replicate 1 none⟩) (ρ := ρ) (a := a) (w := w) (fun x hx => ⟨by cases x <;> rfl, fun b _ => bk_more s 1 b⟩) (fun _ _ _ _ _ => rfl) (g.sim (Sim.more s 1)) ?_ (by simp) fun a' w' ρ' g' => ?_
  · rw [bk_more]
    unfold St.bk
    rw [List.getD_eq_getElem?_getD, List.getElem?_eq_none (Nat.le_refl _)]; rfl
  · exact h.out _ _ _ _ _ _ (g'.simBack app2_sim)
theorem GW.region {id : Nat} {ops : Array Oper} {k : Exit → St → Prop} (h : GL E ops.toList ops.toList s (k .normal)) : GW E (.region id ops false) s k := by
  refine ⟨fun S base w0 ρ a w g => ?_⟩
  have := h.out S base w0 ρ a w g
  rw [Array.toArray_toList] at this
  refine wp_mono (wp_region_list this) ?_
  rintro e a' w' ⟨rfl, s', ρ', h1, h2⟩
  exact ⟨s', ρ', h1, h2⟩
end
end Go.Proofs.YtegjkfaokpjojaaGreatDoor

/-
  The loops of a long function are shown one by one, a theorem for each. No program is named here.
-/
namespace Go.Proofs.YtegjkfaokpjojaaGreatDoor
set_option maxRecDepth 100000
open Go.RowKit
set_option linter.unusedVariables false

/-- what is to be shown of a loop's rounds -/
def Rnds (N : Nat) (f : Nat → St) (body : St → (Exit → St → Prop) → Prop) (k : Exit → St → Prop) : Prop :=
  ∀ j, j ≤ N → LastR N f j → body (f j) fun e s' => match e with | .normal => RoundE N f j s' | e => k e s'
/-- the loop that stands at a place of the code: first or second of a pair, of a choice -/
def atL (E : EnvX) : List Bool → Code → (Exit → St → Prop) → ((St → (Exit → St → Prop) → Prop) → (Exit → St → Prop) → Prop) → Prop
  | [], .loop c, k, P => P (fun s k => wpA E c s k) k
  | false :: ps, .seq a b, k, P => atL E ps a (fun e s' => match e with | .normal => wpA E b s' k | e => k e s') P
  | true :: ps, .seq a b, k, P => atL E ps b k P
  | false :: ps, .cond _ a b, k, P => atL E ps a k P
  | true :: ps, .cond _ a b, k, P => atL E ps b k P
  | _ :: ps, .block id c, k, P => atL E ps c (fun e s' => match e with | .exit j => (if j = id then k .normal s' else k (.exit j) s') | e => k e s') P
  | _, _, _, _ => False
def wayL : Nat → Nat → List Bool
  | 0, _ => []
  | k + 1, n => wayL k (n / 2) ++ [n % 2 == 1]
end Go.Proofs.YtegjkfaokpjojaaGreatDoor

/-
  A struct that is handed in: each field for itself. No program is named here.
-/
namespace Go.Proofs.YtegjkfaokpjojaaGreatDoor
set_option maxRecDepth 100000
open Go.RowKit Go.ChangeShapes
set_option linter.unusedVariables false
set_option linter.unusedSimpArgs false

end Go.Proofs.YtegjkfaokpjojaaGreatDoor

/-
  Slices of records, of structs of whole numbers that are handed in. No program is named here.
-/
namespace Go.Proofs.YtegjkfaokpjojaaGreatDoor
set_option maxRecDepth 100000
open Go.RowKit
set_option linter.unusedVariables false
set_option linter.unusedSimpArgs false

theorem lies_of {w : World} {a : Addr} {zs : List Int} (h : ∀ j < zs.length, w.cell? (a.add j) = some (.int .i64 (zs.getD j 0))) : Lies (fun _ => True) w (some a) (zs.map (Value.int .i64)) := by
  by_cases h0 : zs = []
  · left; subst h0; rfl
  · right
    have hp : 0 < zs.length := List.length_pos_iff.2 h0
    have hz := h 0 hp
    have hsp : a.spot = none := by
      have h1 := hz
      unfold World.cell? at h1
      split at h1
      · next c t fr hb =>
        by_cases hs : (a.add 0).spot.isSome = true
        · rw [if_pos hs] at h1; cases h1
        · simpa [Addr.add] using hs
      · cases h1
    refine ⟨a.block, a.off, by cases a; simp_all, trivial, ?_, fun i hi => ?_⟩
    · have := block_lt_of_cell hz
      simpa [Addr.add] using this
    · have hi' : i < zs.length := by simpa using hi
      have h1 := h i hi'
      have e : a.add i = ⟨a.block, a.off + i, none⟩ := by cases a; simp_all [Addr.add]
      rw [e] at h1
      rw [h1]
      simp [List.getD_eq_getElem?_getD, hi']
end Go.Proofs.YtegjkfaokpjojaaGreatDoor

/-
  A slice of whole numbers that came in, as a row of data. No program is named here.
-/
namespace Go.Proofs.YtegjkfaokpjojaaGreatDoor
set_option maxRecDepth 100000
open Go.RowKit Go.ChangeShapes Go.WideShapes Go.ChangeAt Go.ChangeMaps
set_option linter.unusedVariables false
set_option linter.unusedSimpArgs false

theorem open_rowU {H : Type} {enc : TypeId × Value → H} {P : Program} {w : World} {base b0 : Nat} {held : Bool} {r : Reach} {ts : List TypeId} {ds : List (DataW H)} {j : Nat} {t e : TypeId} {v : Value} {d : DataW H} {ps : List MemPlace} (ht : P.underlying t = some (.slice e)) (hu : P.underlying e = some (.int .i64)) (hc : P.cellsOf e = 1) (hby : P.bytesOf e = 8)
    (hval : Value.okWide P w r b0 t v) (h : DataW.Trod enc P w base (fun _ => true) held t v d ps) (hsz : (DataW.weightsEach P ts ds).all (· ≤ reachBytes) = true) (hj : ts[j]? = some t) (hd : ds[j]? = some d) :
    ∃ (n : Nat) (zs : List Int), n ≤ 140737488351232 ∧ RA (fun _ => True) w (.row n [.ints .i64 (n * 1) zs]) v := by
  have hlt : ∀ n ∈ d.weights P t, n ≤ 140737488351232 := fun n hn => by
    have := List.all_eq_true.1 hsz _ (DataW.weights_mem_each hj hd n hn)
    exact of_decide_eq_true this
  unfold Value.okWide at hval
  rw [ht] at hval
  obtain ⟨fuel, hf⟩ := h
  rcases open_ints ht hu hc hf with ⟨hcs, _⟩ | ⟨a, len, cap, zs, hcs, _, hl, hm, hz, hx, hcell, hw⟩
  · have : v = .slice none 0 0 := by cases v <;> simp_all [Value.cells, Cell.okWide, Cell.ok]
    subst this
    refine ⟨0, [], by omega, .row (cs := []) ?_ (Nat.le_refl _) (Nat.zero_le _) (fun _ => rfl) (.inl rfl)⟩
    exact .ofInts (by simp) rfl
  · have hv : v = .slice (some a) len cap := by cases v <;> simp_all [Value.cells, Cell.okWide, Cell.ok]
    subst hv
    simp only [if_true] at hz
    simp only [Prod.mk.injEq] at hx
    rw [hx.1] at hlt
    have hwt : ((lits (H := H) IntKind.i64 (List.take len zs)).length + (lits (H := H) IntKind.i64 (List.drop len zs)).length) * P.bytesOf e ≤ 140737488351232 := hlt _ (by simp [DataW.weights, ht])
    rw [hby] at hwt
    simp [lits] at hwt
    have hln : (zs.take len).length = len := by rw [List.length_take]; omega
    refine ⟨len, zs.take len, by omega, .row (cs := (zs.take len).map (Value.int .i64)) (.ofInts (by omega) rfl) hl (by omega) (fun h => by cases h) (lies_of fun j hj => ?_)⟩
    have hj2 : j < len := by omega
    rw [hcell j (by omega), List.getD_eq_getElem?_getD, List.getD_eq_getElem?_getD, List.getElem?_take, if_pos hj2]
end Go.Proofs.YtegjkfaokpjojaaGreatDoor
