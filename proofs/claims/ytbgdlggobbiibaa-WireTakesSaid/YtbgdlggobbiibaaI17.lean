/-
  A variable of one's own takes a slice of one's own into one of its cells, and gives it up; loops told by such states. No program is named here.
-/
import Derived.Test.YtbgdlggobbiibaaI13
import Derived.Test.YtbgdlggobbiibaaI16
import Derived.Test.YtbgdlggobbiibaaI14
import Derived.WalkSpells
import Derived.Test.YtbgdlggobbiibaaI15
namespace Go.Proofs.Ytbgdlggobbiibaa
set_option maxRecDepth 100000
open Go.RowKit
set_option linter.unusedVariables false
set_option linter.unusedSimpArgs false

/-- is the cell a slice that is nil? -/
def nilAt (l : List Seg) (off : Nat) : Bool :=
  match loc l off with
  | some (_, .gen _ asx, _, i) => (match asx.getD i (.v undef) with | .v (.slice none 0 0) => true | _ => false)
  | _ => false
theorem nilAt_spec {D : Nat → Prop} {w : World} {l : List Seg} {off : Nat} {cs : List Value} (h : nilAt l off = true) (hl : RL D w l cs) : cs[off]? = some (.slice none 0 0) := by
  unfold nilAt at h
  split at h
  · next p k asx q i hc =>
    split at h
    · next hg =>
      obtain ⟨c, d, e, rfl, h1, h2, h3, h4, h5, h6⟩ := hl.found hc
      obtain ⟨v, h7, h8, h9⟩ := h2.cell i h5
      have h8' : RA D w (.v (.slice none 0 0)) v := by
        have : (Seg.gen k asx).cell i = .v (.slice none 0 0) := hg
        rwa [this] at h8
      rw [RA.plain h8'] at h7
      rw [← h4, List.getElem?_append_right (by omega), show c.length + i - c.length = i by omega, List.getElem?_append_left (by omega)]
      exact h7
    · cases h
  · cases h
/-- a slot that spoke of the variable's slice speaks of nothing -/
def offH (b : Nat) : T → T
  | .hsl b' n => if b' = b then .dead else .hsl b' n
  | t => t
theorem offH_refs (b : Nat) (t : T) : ∀ q ∈ (offH b t).refs, q ∈ t.refs := by
  intro q hq
  unfold offH at hq
  split at hq
  · split at hq
    · simp [T.refs] at hq
    · exact hq
  · exact hq
def St.hold (s : St) (b off : Nat) (e : TypeId) (sz : Nat) (m : List Seg) : St :=
  match s.bk b with
  | some (.var l) => ⟨s.t.map (offH b), s.h.set b (some (.vh l off true e sz 0 m))⟩
  | _ => s
theorem sl_map {f : T → T} (hf : f .dead = .dead) (l : List T) (i : Nat) : (l.map f).getD i .dead = f (l.getD i .dead) := by
  rw [List.getD_eq_getElem?_getD, List.getD_eq_getElem?_getD, List.getElem?_map]
  cases l[i]? with
  | none => simp [hf]
  | some x => rfl
/-- a nil slice in a variable's cell is a slice of one's own -/
theorem Ent.hold {s : St} {b off : Nat} {e : TypeId} {sz : Nat} {m : List Seg} {l : List Seg} (hk : s.bk b = some (.var l)) (hb : b ≠ 0) (hn : nilAt l off = true) (hm : m.all segNil = true) : Ent s (s.hold b off e sz m) := .mk fun G S base w0 ρ a w g => by
  unfold St.hold
  rw [hk]
  obtain ⟨r, cs, ty, h1, _, h2, h3⟩ := g.var hk
  have hc := nilAt_spec hn h3
  obtain ⟨h4, h5⟩ := List.getElem?_eq_some_iff.1 hc
  have hset : cs.set off (.slice none 0 0) = cs := by rw [← h5, List.set_getElem_self]
  have hrl : ∀ q, Rl (uvh r (.slice none 0 0)) q ↔ r = q := fun q => by
    rw [rl_uvh ⟨_, _, _, rfl⟩]
    constructor
    · rintro (h | h)
      · exact h
      · exact h.elim
    · exact .inl
  let ρ' := upd ρ b (some (uvh r (.slice none 0 0)))
  have hu : ∀ b', b' ≠ b → ρ' b' = ρ b' := fun b' hb' => by simp [ρ', upd, hb']
  have hu0 : ρ' b = some (uvh r (.slice none 0 0)) := by simp [ρ', upd]
  have hre : ∀ b' u q, ρ' b' = some u → Rl u q → ∃ u', ρ b' = some u' ∧ Rl u' q := fun b' u q h6 h7 => by
    by_cases e : b' = b
    · subst e
      rw [hu0] at h6; cases h6
      exact ⟨_, h1, (hrl q).1 h7⟩
    · exact ⟨u, by rw [← hu b' e]; exact h6, h7⟩
  have K : Keeps (Dt S base ρ) w (Dt S base ρ') w := ⟨Nat.le_refl _, fun q _ hd => ⟨⟨hd.1, fun b' u h6 h7 => by
    obtain ⟨u', h8, h9⟩ := hre b' u q h6 h7
    exact hd.2 b' u' h8 h9⟩, fun _ => rfl⟩⟩
  have hbl := bk_lt hk
  have hbk : ∀ b', St.bk ⟨s.t.map (offH b), s.h.set b (some (.vh l off true e sz 0 m))⟩ b' = if b' = b then some (.vh l off true e sz 0 m) else s.bk b' := fun b' => by
    simp only [St.bk, getD_set_list]
    by_cases e : b' = b
    · subst e; simp [hbl]
    · rw [if_neg (fun h => e h.1.symm), if_neg e]
  have hsl : ∀ i, St.sl ⟨s.t.map (offH b), s.h.set b (some (.vh l off true e sz 0 m))⟩ i = offH b (s.sl i) := fun i => sl_map rfl s.t i
  refine ⟨ρ', (by simpa using g.len), fun i hi => ?_, fun b' => ?_, fun i b' hb' => ?_, fun b1 b2 u u' q e1 e2 r1 r2 => ?_, fun b' u q e1 r1 => ?_, g.bel, g.glob.up K, (fun q hq => by rw [hu 0 (fun e => hb e.symm)]; exact g.pin q hq), g.size, g.defs⟩
  · rw [hsl]
    have h0 := g.t i hi
    have other : ∀ {t : T} {v : Value}, RT (Dt S base ρ) ρ w t v → b ∉ t.refs → RT (Dt S base ρ') ρ' w t v := fun h hb' => h.up K fun q hq => hu q (fun e => hb' (e ▸ hq))
    have pts : ∀ {v : Value} {p : Pt}, RP (Dt S base ρ) ρ w p v → RP (Dt S base ρ') ρ' w p v := fun {v p} h => by
      cases p with
      | dat a => exact RA.up K h
      | own b' n =>
        by_cases e : b' = b
        · subst e; obtain ⟨_, _, _, e2, _⟩ := h _ h1; cases e2
        · intro u hu'; rw [hu b' e] at hu'; exact h u hu'
      | win b' o n =>
        by_cases e : b' = b
        · subst e
          obtain ⟨r', c, hR, h6⟩ := h _ h1
          obtain rfl := hR.ptr
          intro u hu'; rw [hu0] at hu'; cases hu'
          exact ⟨_, c, .inr ⟨_, _, _, rfl⟩, h6⟩
        · intro u hu'; rw [hu b' e] at hu'; exact h u hu'
    generalize s.sl i = t at h0
    cases t with
    | d x => exact other (t := .d x) h0 (by simp [T.refs])
    | tup x => exact other (t := .tup x) h0 (by simp [T.refs])
    | dead => trivial
    | rows ps => obtain ⟨vs, h6, h7⟩ := h0; exact ⟨vs, h6.map fun p _ v hv => pts hv, h7.up K⟩
    | ptr b' o =>
      by_cases e : b' = b
      · subst e
        obtain ⟨r', hR, h6⟩ := h0 _ h1
        obtain rfl := hR.ptr
        intro u hu'; rw [hu0] at hu'; cases hu'
        exact ⟨_, .inr ⟨_, _, _, rfl⟩, h6⟩
      · exact other (t := .ptr b' o) h0 (by simp [T.refs]; exact fun h => e h.symm)
    | bxp b' c' =>
      by_cases e : b' = b
      · subst e
        obtain ⟨r', hR, h6⟩ := h0 _ h1
        obtain rfl := hR.ptr
        intro u hu'; rw [hu0] at hu'; cases hu'
        exact ⟨_, .inr ⟨_, _, _, rfl⟩, h6⟩
      · intro u hu'; rw [hu b' e] at hu'; exact h0 u hu'
    | pti b' o rel =>
      by_cases e : b' = b
      · subst e
        obtain ⟨r', hR, h6⟩ := h0 _ h1
        obtain rfl := hR.ptr
        intro u hu'; rw [hu0] at hu'; cases hu'
        exact ⟨_, .inr ⟨_, _, _, rfl⟩, h6⟩
      · exact other (t := .pti b' o rel) h0 (by simp [T.refs]; exact fun h => e h.symm)
    | win b' o n =>
      by_cases e : b' = b
      · subst e
        obtain ⟨r', c, hR, h6⟩ := h0 _ h1
        obtain rfl := hR.ptr
        intro u hu'; rw [hu0] at hu'; cases hu'
        exact ⟨_, c, .inr ⟨_, _, _, rfl⟩, h6⟩
      · exact other (t := .win b' o n) h0 (by simp [T.refs]; exact fun h => e h.symm)
    | own b' n =>
      by_cases e : b' = b
      · subst e; obtain ⟨_, _, _, e2, _⟩ := h0 _ h1; cases e2
      · exact other (t := .own b' n) h0 (by simp [T.refs]; exact fun h => e h.symm)
    | ept b' n o =>
      by_cases e : b' = b
      · subst e; obtain ⟨_, _, _, e2, _⟩ := h0 _ h1; cases e2
      · exact other (t := .ept b' n o) h0 (by simp [T.refs]; exact fun h => e h.symm)
    | pre b' n o =>
      by_cases e : b' = b
      · subst e; obtain ⟨_, _, _, e2, _⟩ := h0 _ h1; cases e2
      · exact other (t := .pre b' n o) h0 (by simp [T.refs]; exact fun h => e h.symm)
    | ob b' =>
      by_cases e : b' = b
      · subst e; obtain ⟨_, _, e2, _⟩ := h0 _ h1; exact (fpv_no.1 _ e2.symm).elim
      · exact other (t := .ob b') h0 (by simp [T.refs]; exact fun h => e h.symm)
    | mp b' =>
      by_cases e : b' = b
      · subst e; obtain ⟨_, _, e2, _⟩ := h0 _ h1; exact (fpv_no.1 _ e2.symm).elim
      · exact other (t := .mp b') h0 (by simp [T.refs]; exact fun h => e h.symm)
    | hsl b' n =>
      by_cases e : b' = b
      · subst e
        have e2 : offH b' (.hsl b' n) = .dead := by simp [offH]
        rw [e2]; trivial
      · have e2 : offH b (.hsl b' n) = .hsl b' n := by simp [offH, e]
        rw [e2]
        exact other h0 (by simp [T.refs]; exact fun h => e h.symm)
  · rw [hbk]
    by_cases e : b' = b
    · subst e
      rw [if_pos rfl]
      exact ⟨r, cs, ty, .slice none 0 0, [], hu0, h2, fun h => h, World.ownsRow_nil _ _ _ _, rl_nil hm, by rw [hset]; exact h3.up K, h4, fun _ => hc⟩
    · rw [if_neg e]
      have hB := g.b b'
      cases hk' : s.bk b' with
      | none => rw [hk'] at hB; exact (hu b' e).trans hB
      | some x =>
        rw [hk'] at hB
        cases x with
        | var l => obtain ⟨r, cs, t, h1, h2, h3, h4⟩ := hB; exact ⟨r, cs, t, (hu b' e).trans h1, h2, h3, h4.up K⟩
        | sl e' sz n l => obtain ⟨u, cs, h1, h2, h3⟩ := hB; exact ⟨u, cs, (hu b' e).trans h1, h2, h3.up K⟩
        | obj p => obtain ⟨r, cs, t, h1, h2, h3, h4⟩ := hB; exact ⟨r, cs, t, (hu b' e).trans h1, h2, h3, h4⟩
        | abs p => obtain ⟨r, F, h1, h2, h3⟩ := hB; exact ⟨r, F, (hu b' e).trans h1, h2, h3⟩
        | gone => obtain ⟨n, h1⟩ := hB; exact ⟨n, (hu b' e).trans h1⟩
        | bx => obtain ⟨h0, q, r, t, h1, h2, h3⟩ := hB; exact ⟨h0, q, r, t, (hu b' e).trans h1, h2, (hu 0 (fun e => hb e.symm)).trans h3⟩
        | vh l off p e' sz n m => obtain ⟨r, cs, t, su, ms, h1, h2, h3, h4, h5, h6, h7, h8⟩ := hB; exact ⟨r, cs, t, su, ms, (hu b' e).trans h1, h2, h3, h4, h5.up K, h6.up K, h7, h8⟩
  · rw [hsl] at hb'
    have := g.dang i b' (offH_refs _ _ _ hb')
    rw [hbk]
    split
    · simp
    · exact this
  · obtain ⟨u1, e3, r3⟩ := hre b1 u q e1 r1
    obtain ⟨u2, e4, r4⟩ := hre b2 u' q e2 r2
    exact g.inj b1 b2 u1 u2 q e3 e4 r3 r4
  · obtain ⟨u1, e3, r3⟩ := hre b' u q e1 r1
    exact g.low b' u1 q e3 r3
def St.give (s : St) (b : Nat) : St :=
  match s.bk b with
  | some (.vh l off true e sz n m) => (match unh l off n m with | some l' => ⟨s.t, s.h.set b (some (.var l'))⟩ | none => s)
  | _ => s
/-- the slice in a variable's cell is data -/
theorem Ent.give {s : St} {b : Nat} : Ent s (s.give b) := .mk fun G S base w0 ρ a w g => by
  unfold St.give
  split
  · next l off e sz n m hk =>
    split
    · next l' hl => exact g.unh hk hl
    · exact ⟨ρ, g⟩
  · exact ⟨ρ, g⟩
/-- a loop of N rounds at most, where a nil slice in a variable's cell may grow -/
theorem loop_forV {body : St → (Exit → St → Prop) → Prop} {s : St} {k : Exit → St → Prop} (live bs : List Nat) (b off : Nat) (e : TypeId) (sz : Nat) (m : List Seg) (N : Nat) (f : Nat → St)
    (h3 : ∀ j, j ≤ N → LastR N f j → body (f j) fun e s' => match e with | .normal => RoundE N f j s' | e => k e s')
    {l : List Seg} (hk : (s.give b).bk b = some (.var l) := by exact rfl) (hn : nilAt l off = true := by exact rfl) (hm : m.all segNil = true := by exact rfl) (hb : b ≠ 0 := by decide)
    (ok : gatOK live bs ((s.give b).hold b off e sz m) = true := by exact rfl) (h2 : gather live bs ((s.give b).hold b off e sz m) = f 0 := by exact rfl) : LoopA body s k ∨ LoopI body s k :=
  loop_forE N f ((Ent.give.trans (Ent.hold hk hb hn hm)).trans (.gather ok)) h2 h3
end Go.Proofs.Ytbgdlggobbiibaa

/-
  Readers of bytes: take, ToNum, num, count.
-/
namespace Go.Proofs.Ytbgdlggobbiibaa
set_option maxRecDepth 100000
open Go.RowKit Pm
set_option linter.unusedVariables false
set_option linter.unusedSimpArgs false
attribute [local irreducible] condK LoopA regA numB numsB

noncomputable def envR0 : EnvX := env0.withY yTab2 yOK2 yEq2
/-- a reader -/
def rdL (R : Rd) : List Seg := [.gen 1 [.row R.bs.length [.bytes R.bs.length R.bs]], .bools 1 [R.bad]]
abbrev nilQ : A := .v (.slice none 0 0)
theorem nil_rowQ {S : Nat → Prop} {w : World} {l : List Seg} (h : RL S w l []) : RA S w (.row 0 l) (.slice none 0 0) := .row h (Nat.le_refl _) (Nat.zero_le _) (fun _ => rfl) (.inl rfl)
/-- what a lent call answers, told as data -/
theorem fnM_row {f : FuncId} {pos : Nat} {x x' : Bk} {args : List A} {e : TypeId} {sz n : Nat} {l : List Seg} (h : FnMO f pos x args (.o e sz n l) x') : FnMO f pos x args (.d (.row n l)) x' := by
  intro S w r vs h1 h2 h3 h4
  refine (h S w r vs h1 h2 h3 h4).mono ?_
  rintro e' w' ⟨v, rfl, ⟨cs, h5, h6⟩, h7, h8⟩
  refine ⟨v, rfl, row_of_own h5 (h6.up ⟨Nat.le_refl _, fun q _ hq => ⟨hq.1, fun _ => rfl⟩⟩) fun q hq => ?_, h7, h8⟩
  exact .inr (ownsRow_real h5 hq).1
theorem fnM_nil {f : FuncId} {pos : Nat} {x x' : Bk} {args : List A} {l : List Seg} (h : FnMO f pos x args (.d nilQ) x') (hl : l.all segNil = true) : FnMO f pos x args (.d (.row 0 l)) x' := by
  intro S w r vs h1 h2 h3 h4
  refine (h S w r vs h1 h2 h3 h4).mono ?_
  rintro e' w' ⟨v, rfl, h5, h7, h8⟩
  refine ⟨v, rfl, ?_, h7, h8⟩
  have h5 : RA _ _ nilQ v := h5
  rw [RA.plain h5]
  exact nil_rowQ (rl_nil hl)
/-- a function to which a reader is lent -/
def rdM (res : Rd → Res) (nx : Rd → Rd) : Nat → Bk → List A → (Res → Bk → Prop) → Prop
  | 0, .var l, [], K => ∃ R : Rd, l = rdL R ∧ R.bs.length ≤ 1000000 ∧ K (res R) (.var (rdL (nx R)))
  | _, _, _, _ => False
theorem rdM_of {f : FuncId} {res : Rd → Res} {nx : Rd → Rd} (h : ∀ R : Rd, R.bs.length ≤ 1000000 → FnMO f 0 (.var (rdL R)) [] (res R) (.var (rdL (nx R)))) : ∀ pos x args K, rdM res nx pos x args K → ∃ r x', FnMO f pos x args r x' ∧ K r x' := by
  intro pos x args K hd
  unfold rdM at hd
  split at hd
  · obtain ⟨R, rfl, h1, hd⟩ := hd; exact ⟨_, _, h R h1, hd⟩
  · exact hd.elim
def rdMn (p : Int → Prop) (res : Int → Rd → Res) (nx : Int → Rd → Rd) : Nat → Bk → List A → (Res → Bk → Prop) → Prop
  | 0, .var l, [.v (.int .i64 z)], K => ∃ R : Rd, l = rdL R ∧ R.bs.length ≤ 1000000 ∧ p z ∧ K (res z R) (.var (rdL (nx z R)))
  | _, _, _, _ => False
theorem rdMn_of {f : FuncId} {p : Int → Prop} {res : Int → Rd → Res} {nx : Int → Rd → Rd} (h : ∀ (z : Int) (R : Rd), R.bs.length ≤ 1000000 → p z → FnMO f 0 (.var (rdL R)) [.v (.int .i64 z)] (res z R) (.var (rdL (nx z R)))) : ∀ pos x args K, rdMn p res nx pos x args K → ∃ r x', FnMO f pos x args r x' ∧ K r x' := by
  intro pos x args K hd
  unfold rdMn at hd
  split at hd
  · obtain ⟨R, rfl, h1, h2, hd⟩ := hd; exact ⟨_, _, h _ R h1 h2, hd⟩
  · exact hd.elim
/-- what take answers: nil where it is bad -/
def tkRes (n : Nat) (R : Rd) : Res := .d (.row (tkV n R).length [.bytes (tkV n R).length (tkV n R)])
theorem rd_eq {R : Rd} {n : Nat} {bs : List UInt8} {b : Bool} (h : R = ⟨bs, b⟩) (hn : n = bs.length) : [Seg.gen 1 [.row n [.bytes n bs]], Seg.bools 1 [b]] = rdL R := by subst h; subst hn; rfl
theorem rd_drop {R : Rd} {n : Nat} (hb : R.bad = false) : [Seg.gen 1 [.row (R.bs.length - n) [.bytes (R.bs.length - n) (List.take (R.bs.length - n) (List.drop n R.bs))]], Seg.bools 1 [R.bad]] = rdL ⟨R.bs.drop n, false⟩ := by
  unfold rdL
  rw [hb, List.take_of_length_le (by rw [List.length_drop]; omega), List.length_drop]
theorem take_gen {f : FuncId} (hb : ∀ (z : Int) (R : Rd), R.bad = true → FnMO f 0 (.var (rdL R)) [.v (.int .i64 z)] (.d nilQ) (.var (rdL ⟨R.bs, true⟩)))
    (hs : ∀ (z : Int) (R : Rd), R.bad = false → (R.bs.length : Int) < z → R.bs.length ≤ 1000000 → FnMO f 0 (.var (rdL R)) [.v (.int .i64 z)] (.d nilQ) (.var (rdL ⟨R.bs, true⟩)))
    (hg : ∀ (n : Nat) (R : Rd), R.bad = false → n ≤ R.bs.length → R.bs.length ≤ 1000000 → FnMO f 0 (.var (rdL R)) [.v (.int .i64 n)] (.d (.row n [.bytes n (R.bs.take n)])) (.var (rdL ⟨R.bs.drop n, false⟩)))
    (z : Int) (R : Rd) (hR : R.bs.length ≤ 1000000) (hz : 0 ≤ z) : FnMO f 0 (.var (rdL R)) [.v (.int .i64 z)] (tkRes z.toNat R) (.var (rdL (tkN z.toNat R))) := by
  obtain ⟨n, rfl⟩ : ∃ n : Nat, z = n := ⟨z.toNat, by omega⟩
  rw [Int.toNat_natCast]
  unfold tkRes tkV tkN
  by_cases h : R.ok n = true
  · rw [if_pos h, if_pos h]
    unfold Rd.ok at h
    simp at h
    have := hg n R h.1 h.2 hR
    have e : (R.bs.take n).length = n := by rw [List.length_take]; omega
    rw [e]; exact this
  · rw [if_neg h, if_neg h]
    refine fnM_nil ?_ rfl
    cases hbad : R.bad with
    | true => exact hb _ R hbad
    | false =>
      refine hs _ R hbad ?_ hR
      unfold Rd.ok at h
      simp [hbad] at h
      omega
theorem wtake_ok (z : Int) (R : Rd) (hR : R.bs.length ≤ 1000000) (hz : 0 ≤ z) : FnMO 29 0 (.var (rdL R)) [.v (.int .i64 z)] (tkRes z.toNat R) (.var (rdL (tkN z.toNat R))) := by
  refine take_gen (fun z R hb => ?_) (fun z R hb hs hR => ?_) (fun n R hb hs hR => ?_) z R hR hz
  · refine fnMA (E := envR0) Try.func29 Try.ntmps29 ?_
    refine agow ?_; (try with_reducible exact True.intro)
  · refine fnMA (E := envR0) Try.func29 Try.ntmps29 ?_
    have h1 : z > (R.bs.length : Int) := hs
    refine agow ?_; (try with_reducible exact True.intro)
  · refine fnMA (E := envR0) Try.func29 Try.ntmps29 ?_
    have h1 : ¬ (n : Int) > (R.bs.length : Int) := by omega
    refine agow ?_; (try with_reducible exact True.intro)
    exact ⟨congrArg (fun l => some (Bk.var l)) (rd_drop hb), rfl⟩
theorem rtake_ok (z : Int) (R : Rd) (hR : R.bs.length ≤ 1000000) (hz : 0 ≤ z) : FnMO 15 0 (.var (rdL R)) [.v (.int .i64 z)] (tkRes z.toNat R) (.var (rdL (tkN z.toNat R))) := by
  refine take_gen (fun z R hb => ?_) (fun z R hb hs hR => ?_) (fun n R hb hs hR => ?_) z R hR hz
  · refine fnMA (E := envR0) Try.func15 Try.ntmps15 ?_
    refine agow ?_; (try with_reducible exact True.intro)
  · refine fnMA (E := envR0) Try.func15 Try.ntmps15 ?_
    have h0 : ¬ z < 0 := by omega
    have h1 : z > (R.bs.length : Int) := hs
    refine agow ?_; (try with_reducible exact True.intro)
  · refine fnM_row (e := 5) (sz := 1) ?_
    refine fnMA (E := envR0) Try.func15 Try.ntmps15 ?_
    have h0 : ¬ (n : Int) < 0 := by omega
    have h1 : ¬ (n : Int) > (R.bs.length : Int) := by omega
    refine agow ?_; (try with_reducible exact True.intro)
    refine ⟨congrArg (fun l => some (Bk.var l)) (rd_drop hb), ?_⟩
    refine agow ?_; (try with_reducible exact True.intro)
    show Res.o 5 1 n [Seg.bytes (0 + n) ([] ++ List.take n R.bs)] = _
    rw [Nat.zero_add]
    rfl
noncomputable def envR1 : EnvX := envR0.addM 29 (rdMn (fun z => 0 ≤ z) (fun z R => tkRes z.toNat R) (fun z R => tkN z.toNat R)) (rdMn_of wtake_ok) ⟨_, Try.func29, by kernel_rfl, by kernel_rfl⟩
noncomputable def envR2 : EnvX := envR1.addM 15 (rdMn (fun z => 0 ≤ z) (fun z R => tkRes z.toNat R) (fun z R => tkN z.toNat R)) (rdMn_of rtake_ok) ⟨_, Try.func15, by kernel_rfl, by kernel_rfl⟩
/-- eight bytes as a number -/
theorem tonum_gen {f : FuncId} (hs : ∀ (b : List UInt8), ((b.length : Int) == 8) = false → FnO f [.row b.length [.bytes b.length b]] (.t [.v (.int .i64 0), .v (.bool false)]))
    (hh : ∀ (b : List UInt8), b.length = 8 → ¬ (b.getD 0 0).toNat ≤ 127 → FnO f [.row 8 [.bytes 8 b]] (.t [.v (.int .i64 0), .v (.bool false)]))
    (hg : ∀ (b : List UInt8), b.length = 8 → (b.getD 0 0).toNat ≤ 127 → FnO f [.row 8 [.bytes 8 b]] (.t [.v (.int .i64 (numK b : Int)), .v (.bool true)]))
    (b : List UInt8) : FnO f [.row b.length [.bytes b.length b]] (.t [.v (.int .i64 (numT b)), .v (.bool (isNum b))]) := by
  by_cases h8 : b.length = 8
  · by_cases h : (b.getD 0 0).toNat ≤ 127
    · have h1 : isNum b = true := by unfold isNum; rw [h8, decide_eq_true h]; rfl
      have h2 : numT b = (numK b : Int) := by unfold numT; rw [if_pos h1]
      rw [h1, h2, h8]; exact hg b h8 h
    · have h1 : isNum b = false := by unfold isNum; rw [decide_eq_false h, Bool.and_false]
      have h2 : numT b = 0 := by unfold numT; rw [h1]; rfl
      rw [h1, h2, h8]; exact hh b h8 h
  · have h1 : isNum b = false := by unfold isNum; simp [h8]
    have h2 : numT b = 0 := by unfold numT; rw [h1]; rfl
    rw [h1, h2]; exact hs b (by simp; omega)
attribute [local irreducible] numK
theorem numK_step {b : List UInt8} {k : Nat} (h8 : b.length = 8) (h0 : (b.getD 0 0).toNat ≤ 127) (hk : k < 8) :
    IntKind.i64.wrap (((numK (b.take k) : Nat) : Int) * 2 ^ (min 8 IntKind.i64.bits)) = ((numK (b.take k) : Nat) : Int) * 256 ∧ IntKind.i64.wrap (Bt (b.getD k 0)) = Bt (b.getD k 0) ∧
    bits .or .i64 (((numK (b.take k) : Nat) : Int) * 256) (Bt (b.getD k 0)) = ((numK (b.take (k + 1)) : Nat) : Int) := by
  have hlim := numK_lim b h0 h8 k hk
  have hb : b.getD k 0 = b[k]'(by omega) := by rw [List.getD_eq_getElem?_getD, List.getElem?_eq_getElem (by omega)]; rfl
  have hlt := UInt8.toNat_lt (b[k]'(by omega))
  have e : (2 : Int) ^ (min 8 IntKind.i64.bits) = 256 := by decide
  rw [e, hb, numK_succ b k (by omega)]
  refine ⟨IntWalk.i64_in _ (by omega), IntWalk.i64_in _ (by have := Bt_bd (b[k]'(by omega)); omega), ?_⟩
  exact or_join _ _ hlt (by omega)
theorem wtonum_ok (b : List UInt8) : FnO 62 [.row b.length [.bytes b.length b]] (.t [.v (.int .i64 (numT b)), .v (.bool (isNum b))]) := by
  refine tonum_gen (fun b h => ?_) (fun b h8 h => ?_) (fun b h8 h => ?_) b
  · refine fnA (E := envR2) Try.func62 Try.ntmps62 ?_
    have h1 : ((b.length : Int) != 8) = true := by unfold bne; rw [h]; rfl
    refine agow ?_; (try with_reducible exact True.intro)
  · refine fnA (E := envR2) Try.func62 Try.ntmps62 ?_
    have h1 : Bt (b.getD 0 0) > 127 := by unfold Bt; omega
    refine agow ?_; (try with_reducible exact True.intro)
  · refine fnA (E := envR2) Try.func62 Try.ntmps62 ?_
    have h1 : decide (Bt (b.getD 0 0) > 127) = false := decide_eq_false (by unfold Bt; omega)
    refine agow ?_; (try with_reducible exact True.intro)
    refine StopL.mk (loop_forG [4, 16, 17, 18] [0] 8 (fun j => ⟨[.dead, .dead, .dead, .dead, .d (.v (.int .i64 ((numK (b.take j) : Nat) : Int))), .dead, .dead, .dead, .dead, .dead, .dead, .dead, .dead, .dead, .dead, .dead, .d (.row 8 [.bytes 8 b]), .d (.v (.int .i64 ((8 : Nat) : Int))), .d (.v (.int .i64 (j : Nat))), .dead, .dead, .dead, .dead, .dead, .dead, .dead, .dead, .dead, .dead], [none]⟩) ?_ (h2 := by rw [numK_zero]; exact rfl))
    intro j hj hl
    by_cases hj8 : j < 8
    · have h2 : (j : Int) < ((8 : Nat) : Int) := by omega
      obtain ⟨e1, e2, e3⟩ := numK_step h8 h hj8
      refine agow ?_; (try with_reducible exact True.intro)
      rw [e1, e2, e3]
      refine hl.go hj8 [4, 16, 17, 18] [0] ?_
      rfl
    · obtain rfl : j = 8 := by omega
      refine agow ?_; (try with_reducible exact True.intro)
      rw [List.take_of_length_le (by omega)]
theorem rtonum_ok (b : List UInt8) : FnO 46 [.row b.length [.bytes b.length b]] (.t [.v (.int .i64 (numT b)), .v (.bool (isNum b))]) := by
  refine tonum_gen (fun b h => ?_) (fun b h8 h => ?_) (fun b h8 h => ?_) b
  · refine fnA (E := envR2) Try.func46 Try.ntmps46 ?_
    have h1 : ((b.length : Int) != 8) = true := by unfold bne; rw [h]; rfl
    refine agow ?_; (try with_reducible exact True.intro)
  · refine fnA (E := envR2) Try.func46 Try.ntmps46 ?_
    have h1 : decide (Bt (b.getD 0 0) ≥ 128) = true := decide_eq_true (by unfold Bt; omega)
    refine agow ?_; (try with_reducible exact True.intro)
  · refine fnA (E := envR2) Try.func46 Try.ntmps46 ?_
    have h1 : decide (Bt (b.getD 0 0) ≥ 128) = false := decide_eq_false (by unfold Bt; omega)
    refine agow ?_; (try with_reducible exact True.intro)
    refine StopL.mk (loop_forG [0, 4, 5] [0] 8 (fun j => ⟨[.d (.row 8 [.bytes 8 b]), .dead, .dead, .dead, .d (.v (.int .i64 ((numK (b.take j) : Nat) : Int))), .d (.v (.int .i64 (j : Nat))), .dead, .dead, .dead, .dead, .dead, .dead, .dead, .dead, .dead, .dead, .dead, .dead, .dead, .dead, .dead, .dead, .dead, .dead, .dead, .dead, .dead, .dead], [none]⟩) ?_ (h2 := by rw [numK_zero]; exact rfl))
    intro j hj hl
    by_cases hj8 : j < 8
    · have h2 : (j : Int) < 8 := by omega
      obtain ⟨e1, e2, e3⟩ := numK_step h8 h hj8
      refine agow ?_; (try with_reducible exact True.intro)
      rw [e1, e2, e3]
      refine hl.go hj8 [0, 4, 5] [0] ?_
      rfl
    · obtain rfl : j = 8 := by omega
      refine agow ?_; (try with_reducible exact True.intro)
      rw [List.take_of_length_le (by omega)]
def toNumS : List A → (Res → Prop) → Prop
  | [.row n [.bytes m b]], K => n = b.length ∧ m = b.length ∧ K (.t [.v (.int .i64 (numT b)), .v (.bool (isNum b))])
  | _, _ => False
theorem toNumS_of {f : FuncId} (h : ∀ b : List UInt8, FnO f [.row b.length [.bytes b.length b]] (.t [.v (.int .i64 (numT b)), .v (.bool (isNum b))])) : ∀ args K, toNumS args K → ∃ r, FnO f args r ∧ K r := by
  intro args K hd
  unfold toNumS at hd
  split at hd
  · obtain ⟨rfl, rfl, hd⟩ := hd; exact ⟨_, h _, hd⟩
  · exact hd.elim
noncomputable def envR3 : EnvX := envR2.add 62 toNumS (toNumS_of wtonum_ok) ⟨_, Try.func62, by kernel_rfl, by kernel_rfl⟩
noncomputable def envR4 : EnvX := envR3.add 46 toNumS (toNumS_of rtonum_ok) ⟨_, Try.func46, by kernel_rfl, by kernel_rfl⟩
end Go.Proofs.Ytbgdlggobbiibaa

/-
  Readers of bytes: num, count, sums, signatures, leaves, operations, votes.
-/
namespace Go.Proofs.Ytbgdlggobbiibaa
set_option maxRecDepth 100000
open Go.RowKit Pm
set_option linter.unusedVariables false
set_option linter.unusedSimpArgs false
attribute [local irreducible] condK LoopA regA numB numsB tkV tkN numT isNum nmV nmN cntV cntN hashV

theorem tkN_len (n : Nat) (R : Rd) : (tkN n R).bs.length ≤ R.bs.length := by
  unfold tkN; split <;> simp
theorem nmN_len (R : Rd) : (nmN R).bs.length ≤ R.bs.length := by
  unfold nmN; split
  · exact tkN_len 8 R
  · exact tkN_len 8 R
theorem cntN_len (m : Int) (R : Rd) : (cntN m R).bs.length ≤ R.bs.length := by
  unfold cntN; split
  · exact nmN_len R
  · exact nmN_len R
theorem nmsN_len : ∀ (k : Nat) (R : Rd), (nmsN k R).bs.length ≤ R.bs.length
  | 0, R => Nat.le_refl _
  | k + 1, R => Nat.le_trans (nmsN_len k (nmN R)) (nmN_len R)
theorem boxN_len (m : Int) (R : Rd) : (boxN m R).bs.length ≤ R.bs.length := Nat.le_trans (tkN_len _ _) (cntN_len m R)
theorem bxsN_len (m : Int) : ∀ (k : Nat) (R : Rd), (bxsN m k R).bs.length ≤ R.bs.length
  | 0, R => Nat.le_refl _
  | k + 1, R => Nat.le_trans (bxsN_len m k (boxN m R)) (boxN_len m R)
theorem wcount_ok (z : Int) (R : Rd) (hR : R.bs.length ≤ 1000000) (hz : 0 ≤ z) : FnMO 31 0 (.var (rdL R)) [.v (.int .i64 z)] (.d (.v (.int .i64 (cntV z R)))) (.var (rdL (cntN z R))) := by
  refine fnMA (E := envR4) Try.func31 Try.ntmps31 ?_
  cases h : isNum (tkV 8 R) with
  | false =>
    have e0 : numT (tkV 8 R) = 0 := by unfold numT; rw [h]; rfl
    have eV : cntV z R = 0 := by unfold cntV nmV; rw [e0]; simp
    have eN : cntN z R = ⟨(tkN 8 R).bs, true⟩ := by unfold cntN nmV nmN; rw [e0, if_pos hz, h]; rfl
    rw [eV, eN]
    clear eV eN e0
    refine agow ?_; (try with_reducible exact True.intro)
  | true =>
    have e1 : nmN R = tkN 8 R := by unfold nmN; rw [if_pos h]
    by_cases h2 : numT (tkV 8 R) > z
    · have eV : cntV z R = 0 := by unfold cntV nmV; rw [if_neg (by omega)]
      have eN : cntN z R = ⟨(tkN 8 R).bs, true⟩ := by unfold cntN nmV; rw [if_neg (by omega), e1]
      rw [eV, eN]
      clear eV eN e1
      refine agow ?_; (try with_reducible exact True.intro)
    · have eV : cntV z R = numT (tkV 8 R) := by unfold cntV nmV; rw [if_pos (by omega)]
      have eN : cntN z R = tkN 8 R := by unfold cntN nmV; rw [if_pos (by omega), e1]
      rw [eV, eN]
      clear eV eN e1
      refine agow ?_; (try with_reducible exact True.intro)
noncomputable def envR5 : EnvX := envR4.addM 31 (rdMn (fun z => 0 ≤ z) (fun z R => .d (.v (.int .i64 (cntV z R)))) (fun z R => cntN z R)) (rdMn_of wcount_ok) ⟨_, Try.func31, by kernel_rfl, by kernel_rfl⟩
theorem numT_max (b : List UInt8) : numT b ≤ 9223372036854775807 := by
  unfold numT
  split
  · next h => have := numK_small b h; omega
  · decide
theorem wnum_ok (R : Rd) (hR : R.bs.length ≤ 1000000) : FnMO 30 0 (.var (rdL R)) [] (.d (.v (.int .i64 (nmV R)))) (.var (rdL (nmN R))) := by
  refine fnMA (E := envR5) Try.func30 Try.ntmps30 ?_
  have h : nmV R ≤ 9223372036854775807 := by unfold nmV; exact numT_max _
  have eV : nmV R = cntV 9223372036854775807 R := by unfold cntV; rw [if_pos h]
  have eN : nmN R = cntN 9223372036854775807 R := by unfold cntN; rw [if_pos h]
  rw [eV, eN]
  clear eV eN h
  refine agow ?_; (try with_reducible exact True.intro)
theorem rnum_ok (R : Rd) (hR : R.bs.length ≤ 1000000) : FnMO 16 0 (.var (rdL R)) [] (.d (.v (.int .i64 (nmV R)))) (.var (rdL (nmN R))) := by
  refine fnMA (E := envR5) Try.func16 Try.ntmps16 ?_
  have eV : nmV R = numT (tkV 8 R) := by unfold nmV; rfl
  rw [eV]
  clear eV
  cases h : isNum (tkV 8 R) with
  | false =>
    have eN : nmN R = ⟨(tkN 8 R).bs, true⟩ := by unfold nmN; rw [h]; rfl
    rw [eN]
    clear eN
    cases h2 : (tkN 8 R).bad with
    | true =>
      refine agow ?_; (try with_reducible exact True.intro)
    | false =>
      refine agow ?_; (try with_reducible exact True.intro)
      rw [h]
      exact ⟨rfl, rfl⟩
  | true =>
    have e1 : nmN R = tkN 8 R := by unfold nmN; rw [if_pos h]
    rw [e1]
    clear e1
    cases h2 : (tkN 8 R).bad with
    | true =>
      exfalso
      unfold tkN at h2
      unfold tkV at h
      by_cases h3 : R.ok 8 = true
      · rw [if_pos h3] at h2; cases h2
      · rw [if_neg h3, isNum_nil] at h; cases h
    | false =>
      refine agow ?_; (try with_reducible exact True.intro)
      rw [h]
      refine ⟨?_, rfl⟩
      show some (Bk.var [_, Seg.bools 1 [false]]) = _
      rw [← h2]
      rfl
noncomputable def envR6 : EnvX := envR5.addM 30 (rdM (fun R => .d (.v (.int .i64 (nmV R)))) nmN) (rdM_of wnum_ok) ⟨_, Try.func30, by kernel_rfl, by kernel_rfl⟩
noncomputable def envR7 : EnvX := envR6.addM 16 (rdM (fun R => .d (.v (.int .i64 (nmV R)))) nmN) (rdM_of rnum_ok) ⟨_, Try.func16, by kernel_rfl, by kernel_rfl⟩
/-- so many numbers in a struct -/
abbrev numsRes (k : Nat) (R : Rd) : Res := .d (.agg [.ints .i64 k (nmsV k R)])
theorem wsig_ok (R : Rd) (hR : R.bs.length ≤ 1000000) : FnMO 36 0 (.var (rdL R)) [] (.d (.agg [.ints .i64 2 [nmV R, nmV (nmN R)]])) (.var (rdL (nmN (nmN R)))) := by
  refine fnMA (E := envR7) Try.func36 Try.ntmps36 ?_
  have h1 := nmN_len R
  refine agow ?_; (try with_reducible exact True.intro)
theorem wleaf_ok (R : Rd) (hR : R.bs.length ≤ 1000000) : FnMO 63 0 (.var (rdL R)) [] (numsRes 2 R) (.var (rdL (nmsN 2 R))) := by
  refine fnMA (E := envR7) Try.func63 Try.ntmps63 ?_
  have h1 := nmN_len R
  refine agow ?_; (try with_reducible exact True.intro)
  rfl
theorem rsig2_ok (R : Rd) (hR : R.bs.length ≤ 1000000) : FnMO 18 0 (.var (rdL R)) [] (.d (.agg [.ints .i64 2 [nmV R, nmV (nmN R)]])) (.var (rdL (nmN (nmN R)))) := by
  refine fnMA (E := envR7) Try.func18 Try.ntmps18 ?_
  have h1 := nmN_len R
  refine agow ?_; (try with_reducible exact True.intro)
theorem rleaf2_ok (R : Rd) (hR : R.bs.length ≤ 1000000) : FnMO 47 0 (.var (rdL R)) [] (numsRes 2 R) (.var (rdL (nmsN 2 R))) := by
  refine fnMA (E := envR7) Try.func47 Try.ntmps47 ?_
  have h1 := nmN_len R
  refine agow ?_; (try with_reducible exact True.intro)
  rfl
noncomputable def envR8 : EnvX := envR7.addM 36 (rdM (fun R => .d (.agg [.ints .i64 2 [nmV R, nmV (nmN R)]])) (fun R => nmN (nmN R))) (rdM_of wsig_ok) ⟨_, Try.func36, by kernel_rfl, by kernel_rfl⟩
noncomputable def envR9 : EnvX := envR8.addM 63 (rdM (numsRes 2) (nmsN 2)) (rdM_of wleaf_ok) ⟨_, Try.func63, by kernel_rfl, by kernel_rfl⟩
noncomputable def envRa : EnvX := envR9.addM 18 (rdM (fun R => .d (.agg [.ints .i64 2 [nmV R, nmV (nmN R)]])) (fun R => nmN (nmN R))) (rdM_of rsig2_ok) ⟨_, Try.func18, by kernel_rfl, by kernel_rfl⟩
noncomputable def envRb : EnvX := envRa.addM 47 (rdM (numsRes 2) (nmsN 2)) (rdM_of rleaf2_ok) ⟨_, Try.func47, by kernel_rfl, by kernel_rfl⟩
theorem wop_ok (R : Rd) (hR : R.bs.length ≤ 1000000) : FnMO 32 0 (.var (rdL R)) [] (numsRes 5 R) (.var (rdL (nmsN 5 R))) := by
  refine fnMA (E := envRb) Try.func32 Try.ntmps32 ?_
  have h1 := nmN_len R
  have h2 := nmN_len (nmN R)
  have h3 := nmN_len (nmN (nmN R))
  refine agow ?_; (try with_reducible exact True.intro)
  rfl
theorem wvote_ok (R : Rd) (hR : R.bs.length ≤ 1000000) : FnMO 33 0 (.var (rdL R)) [] (numsRes 3 R) (.var (rdL (nmsN 3 R))) := by
  refine fnMA (E := envRb) Try.func33 Try.ntmps33 ?_
  have h1 := nmN_len R
  have h2 := nmN_len (nmN R)
  refine agow ?_; (try with_reducible exact True.intro)
  rfl
theorem rop_ok2 (R : Rd) (hR : R.bs.length ≤ 1000000) : FnMO 17 0 (.var (rdL R)) [] (numsRes 5 R) (.var (rdL (nmsN 5 R))) := by
  refine fnMA (E := envRb) Try.func17 Try.ntmps17 ?_
  have h1 := nmN_len R
  have h2 := nmN_len (nmN R)
  have h3 := nmN_len (nmN (nmN R))
  refine agow ?_; (try with_reducible exact True.intro)
  rfl
theorem whash_ok (R : Rd) (hR : R.bs.length ≤ 1000000) : FnMO 35 0 (.var (rdL R)) [] (.d (.agg [.bytes 32 (hashV R)])) (.var (rdL (tkN 32 R))) := by
  refine fnMA (E := envRb) Try.func35 Try.ntmps35 ?_
  by_cases h : R.ok 32 = true
  · have e1 : tkV 32 R = R.bs.take 32 := by unfold tkV; rw [if_pos h]
    have e2 : hashV R = tkV 32 R := by unfold hashV; rw [if_pos h, e1]
    have e3 : (tkV 32 R).length = 32 := by
      rw [e1, List.length_take]
      unfold Rd.ok at h; simp at h; omega
    rw [e2]
    clear e1 e2
    refine agow ?_; (try with_reducible exact True.intro)
    rw [e3]
    refine agow ?_; (try with_reducible exact True.intro)
    try rfl
  · have e1 : tkV 32 R = [] := by unfold tkV; rw [if_neg h]
    have e2 : hashV R = List.replicate 32 0 := by unfold hashV; rw [if_neg h]
    have e3 : (tkV 32 R).length = 0 := by rw [e1]; rfl
    rw [e2]
    clear e2
    refine agow ?_; (try with_reducible exact True.intro)
    rw [e1]
    refine agow ?_; (try with_reducible exact True.intro)
    try rfl
theorem set_step {p : List UInt8} (hp : p.length = 32) {j : Nat} (hj : j < 32) : (p.take j ++ List.replicate (32 - j) 0).set j (UInt8.ofNat (Bt (p.getD j 0)).toNat) = p.take (j + 1) ++ List.replicate (32 - (j + 1)) 0 := by
  have e : 32 - j = (32 - (j + 1)) + 1 := by omega
  have e2 : UInt8.ofNat (Bt (p.getD j 0)).toNat = p.getD j 0 := by unfold Bt; rw [Int.toNat_natCast, UInt8.ofNat_toNat]
  rw [e2, List.set_append_right _ _ (by rw [List.length_take]; omega), List.length_take, hp, Nat.min_eq_left (by omega), Nat.sub_self, e, List.replicate_succ, List.set_cons_zero, List.take_add_one, List.getElem?_eq_getElem (by omega), List.append_assoc, List.getD_eq_getElem?_getD, List.getElem?_eq_getElem (by omega)]
  rfl
theorem rhash_ok (R : Rd) (hR : R.bs.length ≤ 1000000) : FnMO 19 0 (.var (rdL R)) [] (.d (.agg [.bytes 32 (hashV R)])) (.var (rdL (tkN 32 R))) := by
  refine fnMA (E := envRb) Try.func19 Try.ntmps19 ?_
  by_cases h : R.ok 32 = true
  · have e1 : tkV 32 R = R.bs.take 32 := by unfold tkV; rw [if_pos h]
    have e2 : hashV R = tkV 32 R := by unfold hashV; rw [if_pos h, e1]
    have e3 : (tkV 32 R).length = 32 := by
      rw [e1, List.length_take]
      unfold Rd.ok at h; simp at h; omega
    rw [e2]
    clear e1 e2
    refine agow ?_; (try with_reducible exact True.intro)
    rw [e3]
    generalize tkV 32 R = p at *
    refine StopL.mk (loop_forG [2, 3, 4, 5] [0, 1, 2] 32 (fun j => ⟨[.dead, .dead, .ptr 1 0, .ptr 2 0, .d (.row 32 [.bytes 32 p]), .d (.v (.int .i64 (j : Nat))), .dead, .dead, .dead, .dead, .dead, .dead, .dead, .dead, .dead, .dead, .dead, .dead, .dead, .dead, .dead, .dead], [some (.var (rdL (tkN 32 R))), some (.var [.bytes 32 [0, 0, 0, 0, 0, 0, 0, 0, 0, 0, 0, 0, 0, 0, 0, 0, 0, 0, 0, 0, 0, 0, 0, 0, 0, 0, 0, 0, 0, 0, 0, 0]]), some (.var [.bytes 32 (p.take j ++ List.replicate (32 - j) 0)])]⟩) ?_)
    intro j hj hl
    by_cases hj8 : j < 32
    · have h2 : (j : Int) < ((32 : Nat) : Int) := by omega
      obtain ⟨b1, b2⟩ : 0 ≤ Bt (p.getD j 0) ∧ Bt (p.getD j 0) < 256 := by have := Bt_bd (p.getD j 0); omega
      refine agow ?_; (try with_reducible exact True.intro)
      refine hl.go hj8 [2, 3, 4, 5] [0, 1, 2] ?_
      rw [← set_step e3 hj8]
      rfl
    · obtain rfl : j = 32 := by omega
      refine agow ?_; (try with_reducible exact True.intro)
      rw [List.take_of_length_le (by omega)]
  · have e1 : tkV 32 R = [] := by unfold tkV; rw [if_neg h]
    have e2 : hashV R = List.replicate 32 0 := by unfold hashV; rw [if_neg h]
    have e3 : (tkV 32 R).length = 0 := by rw [e1]; rfl
    rw [e2]
    clear e2
    refine agow ?_; (try with_reducible exact True.intro)
    rw [e1]
    refine StopL.mk (loop_unroll 1 ?_)
    refine agow ?_; (try with_reducible exact True.intro)
    try rfl
noncomputable def envRc : EnvX := envRb.addM 32 (rdM (numsRes 5) (nmsN 5)) (rdM_of wop_ok) ⟨_, Try.func32, by kernel_rfl, by kernel_rfl⟩
noncomputable def envRd : EnvX := envRc.addM 33 (rdM (numsRes 3) (nmsN 3)) (rdM_of wvote_ok) ⟨_, Try.func33, by kernel_rfl, by kernel_rfl⟩
noncomputable def envRe : EnvX := envRd.addM 17 (rdM (numsRes 5) (nmsN 5)) (rdM_of rop_ok2) ⟨_, Try.func17, by kernel_rfl, by kernel_rfl⟩
noncomputable def envRf : EnvX := envRe.addM 35 (rdM (fun R => .d (.agg [.bytes 32 (hashV R)])) (tkN 32)) (rdM_of whash_ok) ⟨_, Try.func35, by kernel_rfl, by kernel_rfl⟩
noncomputable def envRg : EnvX := envRf.addM 19 (rdM (fun R => .d (.agg [.bytes 32 (hashV R)])) (tkN 32)) (rdM_of rhash_ok) ⟨_, Try.func19, by kernel_rfl, by kernel_rfl⟩
/-! a slice of bytes, copied -/
theorem clone_own (a : Option Addr) (n c : Nat) (bs : List UInt8) (w : World) (hp : Row8 w a n bs) (hc : a = none → c = 0) (hs : bs.length ≤ 1000000) :
    Calls Try.prog 64 #[.slice a n c] w fun e w' => ∃ v, e = .returned v ∧ Own8 w' w.heap.size 5 v bs ∧ Below w.heap.size w w' := by
  have qT : ∀ (w : World) (a : Option Addr) (n c : Nat), (binOp .eql 22 (.slice a n c) (.slice none 0 0)).run Try.prog w = .ok (.bool a.isNone) w := fun w a n c => Lib.run_eql_slice_nil w _ _ a n c 0 0 Try.underlying22
  rcases ha : a.isNone with _ | _
  · have hn := hp.len_eq
    subst hn
    have hnn : a = none → False := fun h => by rw [h] at ha; cases ha
    have HP := Lib.hid hp; have HS := Lib.hid hs; have HN := Lib.hid hnn; have HC := Lib.hid hc
    clear hp hs hnn hc
    go_enter Try.func64, Try.ntmps64
    go_wp2_with (at_builtin
                 refine wpList_append8 rfl (.tmp 5) (.tmp 6) 22 rfl w.heap.size 5 Try.underlying22 info8 (.slice (some ⟨w.heap.size, 0, none⟩) 0 0) [] rfl (Own8.litAt [] _ rfl rfl rfl (Nat.le_refl _) (small8 _ (by simp))) _ _ _ bs rfl (HP.out.below ((Below.refl _ _).next (Nat.le_refl _) _)) (fun e => (HN.out e).elim) (by have := HS.out; simp only [List.length_nil]; omega) (by simp) ?_
                 intro v2 w2 hown hg hb
                 rw [List.nil_append] at hown
                 have hb2 := ((Below.refl _ w).next (Nat.le_refl _) (.cells #[] 5)).trans hb
                 have HO := Lib.hid hown; have HB := Lib.hid hb2
                 clear hown hg hb hb2)
    refine bodyPost_ret (results_tmp rfl _ _ _) rfl ?_
    exact ⟨_, rfl, HO.out, HB.out⟩
  · have hnn : a = none := by cases a with
      | none => rfl
      | some x => cases ha
    have hb : bs = [] := by
      rcases hp.cells with h1 | ⟨b, off, h1, _⟩
      · exact h1
      · rw [hnn] at h1; cases h1
    have hn : n = 0 := by rw [hp.len_eq, hb]; rfl
    subst hn
    have HB := Lib.hid hb
    clear hp hnn hb hs hc
    go_enter Try.func64, Try.ntmps64
    go_wp2
    refine bodyPost_ret (results_tmp rfl _ _ _) rfl ?_
    exact ⟨_, rfl, by rw [HB.out]; exact World.ownsRow_nil _ _ _ _, Below.refl _ _⟩
theorem clone_fn (bs : List UInt8) (hs : bs.length ≤ 1000000) : FnO 64 [.row bs.length [.bytes bs.length bs]] (.o 5 1 bs.length [.bytes bs.length bs]) := by
  refine fn_own8 fun S w vs ha => ?_
  obtain ⟨v, rfl, h1⟩ := ra_one ha
  obtain ⟨b, hb, h2⟩ := rowK_spec (x := .row bs.length [.bytes bs.length bs]) (K := fun b => b = bs) (by unfold rowK; exact ⟨rfl, rfl⟩)
  subst hb
  obtain ⟨a, n, c, rfl, h3, h4⟩ := h2 h1
  exact clone_own a n c b w h3 h4 hs
def cloneS : List A → (Res → Prop) → Prop
  | [.row n [.bytes m b]], K => n = b.length ∧ m = b.length ∧ b.length ≤ 1000000 ∧ K (.o 5 1 b.length [.bytes b.length b])
  | _, _ => False
theorem cloneS_ok : ∀ args K, cloneS args K → ∃ r, FnO 64 args r ∧ K r := by
  intro args K hd
  unfold cloneS at hd
  split at hd
  · obtain ⟨rfl, rfl, h1, hd⟩ := hd; exact ⟨_, clone_fn _ h1, hd⟩
  · exact hd.elim
noncomputable def envRh : EnvX := envRg.add 64 cloneS cloneS_ok ⟨_, Try.func64, by kernel_rfl, by kernel_rfl⟩
theorem tkV_len (n : Nat) (R : Rd) : (tkV n R).length ≤ R.bs.length := by
  unfold tkV; split
  · rw [List.length_take]; omega
  · simp
theorem cntV_nat {m : Int} {R : Rd} : 0 ≤ cntV m R := by
  have h : 0 ≤ nmV R := by unfold nmV numT; split; omega; exact Int.le_refl 0
  unfold cntV; split
  · exact h
  · exact Int.le_refl 0
abbrev boxRes (m : Int) (R : Rd) : Res := .d (.row (boxV m R).length [.bytes (boxV m R).length (boxV m R)])
theorem wbox_rd (R : Rd) (hR : R.bs.length ≤ 1000000) : FnMO 34 0 (.var (rdL R)) [] (boxRes 300 R) (.var (rdL (boxN 300 R))) := by
  refine fnM_row (e := 5) (sz := 1) ?_
  refine fnMA (E := envRh) Try.func34 Try.ntmps34 ?_
  have h1 := cntN_len 300 R
  have h2 := tkV_len (cntV 300 R).toNat (cntN 300 R)
  have h3 := cntV_nat (m := 300) (R := R)
  refine agow ?_; (try with_reducible exact True.intro)
  rfl
noncomputable def envRi : EnvX := envRh.addM 34 (rdM (boxRes 300) (boxN 300)) (rdM_of wbox_rd) ⟨_, Try.func34, by kernel_rfl, by kernel_rfl⟩
end Go.Proofs.Ytbgdlggobbiibaa

/-
  Readers of bytes: a commit.
-/
namespace Go.Proofs.Ytbgdlggobbiibaa
set_option maxRecDepth 100000
open Go.RowKit Pm
set_option linter.unusedVariables false
set_option linter.unusedSimpArgs false
attribute [local irreducible] condK LoopA regA numB numsB tkV tkN numT isNum nmV nmN cntV cntN hashV boxV boxN nmsV nmsN bxsV bxsN

/-- rows of bytes, as data -/
def rowA (b : List UInt8) : A := .row b.length [.bytes b.length b]
def wq3 (R : Rd) : Rd := cntN 4 (nmN (nmN R))
def wo (R : Rd) : Nat := (cntV 4 (nmN (nmN R))).toNat
def wq4 (R : Rd) : Rd := nmsN (wo R * 5) (wq3 R)
def wq5 (R : Rd) : Rd := cntN 8 (wq4 R)
def wv (R : Rd) : Nat := (cntV 8 (wq4 R)).toNat
def wq6 (R : Rd) : Rd := nmsN (wv R * 3) (wq5 R)
def wq7 (R : Rd) : Rd := nmN (nmN (nmN (nmN (wq6 R))))
def wq8 (R : Rd) : Rd := cntN 16 (wq7 R)
def wb (R : Rd) : Nat := (cntV 16 (wq7 R)).toNat
def wq9 (R : Rd) : Rd := bxsN 300 (wb R) (wq8 R)
def wq10 (R : Rd) : Rd := tkN 32 (wq9 R)
def wq11 (R : Rd) : Rd := nmN (nmN (wq10 R))
def wSegs (R : Rd) : List Seg := [.ints .i64 2 [nmV R, nmV (nmN R)], .gen 2 [.row (wo R) [.ints .i64 (wo R * 5) (nmsV (wo R * 5) (wq3 R))], .row (wv R) [.ints .i64 (wv R * 3) (nmsV (wv R * 3) (wq5 R))]],
  .ints .i64 4 [nmV (wq6 R), nmV (nmN (wq6 R)), nmV (nmN (nmN (wq6 R))), nmV (nmN (nmN (nmN (wq6 R))))], .gen 1 [.row (wb R) [.gen (wb R) ((bxsV 300 (wb R) (wq8 R)).map rowA)]], .bytes 32 (hashV (wq9 R)), .ints .i64 2 [nmV (wq10 R), nmV (nmN (wq10 R))]]
theorem cntV_cast {m : Int} {R : Rd} : ((cntV m R).toNat : Int) = cntV m R := by have := cntV_nat (m := m) (R := R); omega
theorem cntV_le {m : Int} {R : Rd} (hm : 0 ≤ m) : cntV m R ≤ m := by unfold cntV; split; assumption; exact hm
theorem nmsN_zero (R : Rd) : nmsN 0 R = R := by unfold nmsN; rfl
theorem nmsV_zero (R : Rd) : nmsV 0 R = [] := by unfold nmsV; rfl
theorem bxsN_zero (m : Int) (R : Rd) : bxsN m 0 R = R := by unfold bxsN; rfl
theorem bxsV_zero (m : Int) (R : Rd) : bxsV m 0 R = [] := by unfold bxsV; rfl
theorem bxsN_one (m : Int) (j : Nat) (R : Rd) : bxsN m (j + 1) R = boxN m (bxsN m j R) := by
  rw [bxsN_add]
  generalize bxsN m j R = Q
  unfold bxsN
  exact bxsN_zero _ _
theorem bxsV_one (m : Int) (j : Nat) (R : Rd) : (bxsV m (j + 1) R).map rowA = (bxsV m j R).map rowA ++ [rowA (boxV m (bxsN m j R))] := by
  rw [bxsV_add, List.map_append]
  congr 1
  show (bxsV m (0 + 1) (bxsN m j R)).map rowA = _
  unfold bxsV
  rw [bxsV_zero]
  rfl
theorem five_mul (j : Nat) : (j + 1) * 5 = j * 5 + 5 := by omega
theorem three_mul (j : Nat) : (j + 1) * 3 = j * 3 + 3 := by omega
/-- a commit that is read up to its operations, votes, boxes -/
def cs1 (R : Rd) : List Seg := [.ints .i64 2 [nmV R, nmV (nmN R)], .gen 2 [.v (.slice none 0 0), .v (.slice none 0 0)], .ints .i64 4 [0, 0, 0, 0], .gen 1 [.v (.slice none 0 0)], .bytes 32 (List.replicate 32 0), .ints .i64 2 [0, 0]]
def cs2 (R : Rd) : List Seg := [.ints .i64 2 [nmV R, nmV (nmN R)], .gen 2 [.row (wo R) [.ints .i64 (wo R * 5) (nmsV (wo R * 5) (wq3 R))], .v (.slice none 0 0)], .ints .i64 4 [0, 0, 0, 0], .gen 1 [.v (.slice none 0 0)], .bytes 32 (List.replicate 32 0), .ints .i64 2 [0, 0]]
def cs3 (R : Rd) : List Seg := [.ints .i64 2 [nmV R, nmV (nmN R)], .gen 2 [.row (wo R) [.ints .i64 (wo R * 5) (nmsV (wo R * 5) (wq3 R))], .row (wv R) [.ints .i64 (wv R * 3) (nmsV (wv R * 3) (wq5 R))]],
  .ints .i64 4 [nmV (wq6 R), nmV (nmN (wq6 R)), nmV (nmN (nmN (wq6 R))), nmV (nmN (nmN (nmN (wq6 R))))], .gen 1 [.v (.slice none 0 0)], .bytes 32 (List.replicate 32 0), .ints .i64 2 [0, 0]]
def cs0Z : List Seg := [.ints .i64 2 [0, 0], .gen 2 [.v (.slice none 0 0), .v (.slice none 0 0)], .ints .i64 4 [0, 0, 0, 0], .gen 1 [.v (.slice none 0 0)], .bytes 32 (List.replicate 32 0), .ints .i64 2 [0, 0]]
set_option maxHeartbeats 8000000 in
theorem wcommit_rd (R : Rd) (hR : R.bs.length ≤ 1000000) : FnMO 12 0 (.var (rdL R)) [] (.d (.agg (wSegs R))) (.var (rdL (wq11 R))) := by
  refine fnMA (E := envRi) Try.func12 Try.ntmps12 ?_
  have l1 := nmN_len R
  have l2 := nmN_len (nmN R)
  have l3 : (wq3 R).bs.length ≤ 1000000 := by have : (wq3 R).bs.length ≤ (nmN (nmN R)).bs.length := cntN_len _ _; omega
  have n4 : ((wo R : Nat) : Int) = cntV 4 (nmN (nmN R)) := cntV_cast
  have m4 : cntV 4 (nmN (nmN R)) ≤ 4 := cntV_le (by decide)
  refine agow ?_; (try with_reducible exact True.intro)
  refine StopL.mk (loop_forV [0, 2, 3, 12, 13] [0, 1, 2] 2 2 68 5 [.ints .i64 0 []] (wo R) (fun j => ⟨[.ptr 0 0, .dead, .ptr 1 0, .ptr 2 0, .dead, .dead, .dead, .dead, .dead, .dead, .dead, .dead, .d (.v (.int .i64 (cntV 4 (nmN (nmN R))))), .d (.v (.int .i64 (j : Nat))), .dead, .dead, .dead, .dead, .dead, .dead, .dead, .dead, .dead, .dead, .dead, .dead, .dead, .dead, .dead, .dead, .dead, .dead, .dead, .dead, .dead, .dead, .dead, .dead, .dead, .dead, .dead, .dead, .dead, .dead, .dead, .dead, .dead, .dead, .dead, .dead, .dead, .dead, .dead, .dead, .dead, .dead, .dead, .dead, .dead, .dead, .dead, .dead, .dead, .dead, .dead, .dead], [some (.var (rdL (nmsN (j * 5) (wq3 R)))), some (.var cs0Z), some (.vh (cs1 R) 2 true 68 5 j [.ints .i64 (j * 5) (nmsV (j * 5) (wq3 R))])]⟩) ?_ (h2 := by rw [Nat.zero_mul, nmsN_zero, nmsV_zero]; exact rfl))
  intro j hj hl
  by_cases h : j < wo R
  · have h1 : (j : Int) < cntV 4 (nmN (nmN R)) := by omega
    have h2 : (nmsN (j * 5) (wq3 R)).bs.length ≤ 1000000 := by have := nmsN_len (j * 5) (wq3 R); omega
    refine agow ?_; (try with_reducible exact True.intro)
    refine hl.go h [0, 2, 3, 12, 13] [0, 1, 2] ?_
    rw [five_mul, nmsN_add, nmsV_add]
    rfl
  obtain rfl : j = wo R := by omega
  have h1 : ¬ ((wo R : Nat) : Int) < cntV 4 (nmN (nmN R)) := by omega
  have l4 : (wq4 R).bs.length ≤ 1000000 := by have : (wq4 R).bs.length ≤ (wq3 R).bs.length := nmsN_len _ _; omega
  have l4' : (nmsN (wo R * 5) (wq3 R)).bs.length ≤ 1000000 := l4
  have l5 : (wq5 R).bs.length ≤ 1000000 := by have : (wq5 R).bs.length ≤ (wq4 R).bs.length := cntN_len _ _; omega
  have n8 : ((wv R : Nat) : Int) = cntV 8 (wq4 R) := cntV_cast
  have m8 : cntV 8 (wq4 R) ≤ 8 := cntV_le (by decide)
  refine agow ?_; (try with_reducible exact True.intro)
  refine StopL.mk (loop_forV [0, 2, 3, 24, 25] [0, 1, 2] 2 3 71 3 [.ints .i64 0 []] (wv R) (fun j => ⟨[.ptr 0 0, .dead, .ptr 1 0, .ptr 2 0, .dead, .dead, .dead, .dead, .dead, .dead, .dead, .dead, .dead, .dead, .dead, .dead, .dead, .dead, .dead, .dead, .dead, .dead, .dead, .dead, .d (.v (.int .i64 (cntV 8 (wq4 R)))), .d (.v (.int .i64 (j : Nat))), .dead, .dead, .dead, .dead, .dead, .dead, .dead, .dead, .dead, .dead, .dead, .dead, .dead, .dead, .dead, .dead, .dead, .dead, .dead, .dead, .dead, .dead, .dead, .dead, .dead, .dead, .dead, .dead, .dead, .dead, .dead, .dead, .dead, .dead, .dead, .dead, .dead, .dead, .dead, .dead], [some (.var (rdL (nmsN (j * 3) (wq5 R)))), some (.var cs0Z), some (.vh (cs2 R) 3 true 71 3 j [.ints .i64 (j * 3) (nmsV (j * 3) (wq5 R))])]⟩) ?_ (h2 := by rw [Nat.zero_mul, nmsN_zero, nmsV_zero]; exact rfl))
  clear l1 l2 l3 l4 l4' hl h1 h hj
  intro j hj hl
  by_cases h : j < wv R
  · have h1 : (j : Int) < cntV 8 (wq4 R) := by omega
    have h2 : (nmsN (j * 3) (wq5 R)).bs.length ≤ 1000000 := by have := nmsN_len (j * 3) (wq5 R); omega
    refine agow ?_; (try with_reducible exact True.intro)
    refine hl.go h [0, 2, 3, 24, 25] [0, 1, 2] ?_
    rw [three_mul, nmsN_add, nmsV_add]
    rfl
  obtain rfl : j = wv R := by omega
  have h1 : ¬ ((wv R : Nat) : Int) < cntV 8 (wq4 R) := by omega
  have l6 : (wq6 R).bs.length ≤ 1000000 := by have : (wq6 R).bs.length ≤ (wq5 R).bs.length := nmsN_len _ _; omega
  have l6' : (nmsN (wv R * 3) (wq5 R)).bs.length ≤ 1000000 := l6
  have l6a : (nmN (nmsN (wv R * 3) (wq5 R))).bs.length ≤ 1000000 := by have := nmN_len (nmsN (wv R * 3) (wq5 R)); omega
  have l6b : (nmN (nmN (nmsN (wv R * 3) (wq5 R)))).bs.length ≤ 1000000 := by have := nmN_len (nmN (nmsN (wv R * 3) (wq5 R))); omega
  have l6c : (nmN (nmN (nmN (nmsN (wv R * 3) (wq5 R))))).bs.length ≤ 1000000 := by have := nmN_len (nmN (nmN (nmsN (wv R * 3) (wq5 R)))); omega
  have l7 : (wq7 R).bs.length ≤ 1000000 := by have : (wq7 R).bs.length ≤ (nmN (nmN (nmN (nmsN (wv R * 3) (wq5 R))))).bs.length := nmN_len _; omega
  have l7' : (nmN (nmN (nmN (nmN (nmsN (wv R * 3) (wq5 R)))))).bs.length ≤ 1000000 := l7
  have l8 : (wq8 R).bs.length ≤ 1000000 := by have : (wq8 R).bs.length ≤ (wq7 R).bs.length := cntN_len _ _; omega
  have n16 : ((wb R : Nat) : Int) = cntV 16 (wq7 R) := cntV_cast
  have m16 : cntV 16 (wq7 R) ≤ 16 := cntV_le (by decide)
  refine agow ?_; (try with_reducible exact True.intro)
  refine StopL.mk (loop_unroll 4 ?_)
  refine agow ?_; (try with_reducible exact True.intro)
  refine StopL.mk (loop_forV [0, 2, 3, 48, 49] [0, 1, 2] 2 8 22 1 [.gen 0 []] (wb R) (fun j => ⟨[.ptr 0 0, .dead, .ptr 1 0, .ptr 2 0, .dead, .dead, .dead, .dead, .dead, .dead, .dead, .dead, .dead, .dead, .dead, .dead, .dead, .dead, .dead, .dead, .dead, .dead, .dead, .dead, .dead, .dead, .dead, .dead, .dead, .dead, .dead, .dead, .dead, .dead, .dead, .dead, .dead, .dead, .dead, .dead, .dead, .dead, .dead, .dead, .dead, .dead, .dead, .dead, .d (.v (.int .i64 (cntV 16 (wq7 R)))), .d (.v (.int .i64 (j : Nat))), .dead, .dead, .dead, .dead, .dead, .dead, .dead, .dead, .dead, .dead, .dead, .dead, .dead, .dead, .dead, .dead], [some (.var (rdL (bxsN 300 j (wq8 R)))), some (.var cs0Z), some (.vh (cs3 R) 8 true 22 1 j [.gen j ((bxsV 300 j (wq8 R)).map rowA)])]⟩) ?_ (h2 := by rw [bxsN_zero, bxsV_zero]; exact rfl))
  clear l6 l6' l6a l6b l6c l7 l7' hl h1 h hj
  intro j hj hl
  by_cases h : j < wb R
  · have h1 : (j : Int) < cntV 16 (wq7 R) := by omega
    have h2 : (bxsN 300 j (wq8 R)).bs.length ≤ 1000000 := by have := bxsN_len 300 j (wq8 R); omega
    refine agow ?_; (try with_reducible exact True.intro)
    refine hl.go h [0, 2, 3, 48, 49] [0, 1, 2] ?_
    rw [bxsN_one, bxsV_one]
    rfl
  obtain rfl : j = wb R := by omega
  have h1 : ¬ ((wb R : Nat) : Int) < cntV 16 (wq7 R) := by omega
  have l9 : (wq9 R).bs.length ≤ 1000000 := by have : (wq9 R).bs.length ≤ (wq8 R).bs.length := bxsN_len _ _ _; omega
  have l9' : (bxsN 300 (wb R) (wq8 R)).bs.length ≤ 1000000 := l9
  have l10 : (tkN 32 (bxsN 300 (wb R) (wq8 R))).bs.length ≤ 1000000 := by have := tkN_len 32 (bxsN 300 (wb R) (wq8 R)); omega
  refine agow ?_; (try with_reducible exact True.intro)
  rfl
noncomputable def envRj : EnvX := envRi.addM 12 (rdM (fun R => .d (.agg (wSegs R))) wq11) (rdM_of wcommit_rd) ⟨_, Try.func12, by kernel_rfl, by kernel_rfl⟩
end Go.Proofs.Ytbgdlggobbiibaa

/-
  Commits read and written: what was written is read as it was; what is read, whole, was written so.
-/
namespace Go.Proofs.Ytbgdlggobbiibaa
set_option maxRecDepth 100000
open Go.RowKit Pm
set_option linter.unusedVariables false
set_option linter.unusedSimpArgs false

abbrev I63 (z : Int) : Prop := 0 ≤ z ∧ z ≤ 9223372036854775807
/-- what the numbers of a commit that may be are -/
structure MF (c : CS) : Prop where
  e : I63 c.e
  fr : I63 c.fr
  sl : I63 c.sl
  p0 : I63 c.p0
  p1 : I63 c.p1
  p2 : I63 c.p2
  sE : I63 c.sE
  sS : I63 c.sS
  ops : ∀ z ∈ c.ops, I63 z
  vs : ∀ z ∈ c.vs, I63 z
  n4 : c.n ≤ 4
  m8 : c.m ≤ 8
  k16 : c.k ≤ 16
  bx : ∀ j, j < c.k → (c.bx j).length ≤ 300
theorem within_i63 {z m : Int} (h : withinB z m = true) (hm : m ≤ 9223372036854775807) : I63 z := by
  unfold withinB at h; simp at h; exact ⟨h.1, by omega⟩
theorem sig_i63 {e s : Int} (h : sigB e s = true) : I63 e ∧ I63 s := by
  unfold sigB at h; simp only [Bool.and_eq_true] at h; exact ⟨within_i63 h.1 (by decide), within_i63 h.2 (by decide)⟩
theorem may_facts {c : CS} (h : mayB c = true) (hc : CSok c) : MF c := by
  unfold mayB at h
  simp only [Bool.and_eq_true, Bool.not_eq_true', decide_eq_true_eq] at h
  obtain ⟨h1, h2, h3, h4, h5, h6, h7, h8, h9, h10, h11, h12, h13⟩ := h
  have a9 : ∀ j, j < c.n → oddOpB (atK 5 c.ops j) = false := fun j hj => by
    cases e : oddOpB (atK 5 c.ops j) with
    | false => rfl
    | true => rw [(anyP_iff _ _).2 ⟨j, hj, e⟩] at h9; cases h9
  have a11 : ∀ j, j < c.m → oddVoteB (atK 3 c.vs j) = false := fun j hj => by
    cases e : oddVoteB (atK 3 c.vs j) with
    | false => rfl
    | true => rw [(anyP_iff _ _).2 ⟨j, hj, e⟩] at h11; cases h11
  refine ⟨within_i63 h1 (by decide), within_i63 h2 (by decide), within_i63 h4 (by decide), within_i63 h5 (by decide), within_i63 h6 (by decide), within_i63 h7 (by decide), (sig_i63 h3).1, (sig_i63 h3).2, fun z hz => ?_, fun z hz => ?_, by omega, by omega, by omega, fun j hj => ?_⟩
  · obtain ⟨i, hi, rfl⟩ := List.getElem_of_mem hz
    have hl := hc.ops
    have h14 := a9 (i / 5) (by omega)
    unfold oddOpB at h14
    rw [List.any_eq_false] at h14
    have h15 : c.ops[i] ∈ atK 5 c.ops (i / 5) := by
      unfold atK
      have h16 : ((c.ops.drop (i / 5 * 5)).take 5)[i % 5]? = some c.ops[i] := by
        rw [List.getElem?_take, if_pos (by omega), List.getElem?_drop, show i / 5 * 5 + i % 5 = i by omega, List.getElem?_eq_getElem hi]
      exact List.mem_of_getElem? h16
    have h17 := h14 _ h15
    simp only [Bool.not_eq_true', Bool.not_eq_false] at h17
    exact within_i63 h17 (by decide)
  · obtain ⟨i, hi, rfl⟩ := List.getElem_of_mem hz
    have hl := hc.vs
    have h14 := a11 (i / 3) (by omega)
    unfold oddVoteB at h14
    simp only [Bool.or_eq_false_iff, Bool.not_eq_false'] at h14
    have h16 : ∀ r, r < 3 → (atK 3 c.vs (i / 3)).getD r 0 = c.vs.getD (i / 3 * 3 + r) 0 := fun r hr => by
      unfold atK
      rw [List.getD_eq_getElem?_getD, List.getElem?_take, if_pos hr, List.getElem?_drop, ← List.getD_eq_getElem?_getD]
    rw [h16 0 (by omega), h16 1 (by omega), h16 2 (by omega)] at h14
    obtain ⟨k1, k2⟩ := h14
    obtain ⟨k3, k4⟩ := sig_i63 k2
    have k1 := within_i63 k1 (by decide)
    have e : c.vs[i] = c.vs.getD i 0 := by rw [List.getD_eq_getElem?_getD, List.getElem?_eq_getElem hi]; rfl
    rw [e]
    rcases (show i % 3 = 0 ∨ i % 3 = 1 ∨ i % 3 = 2 by omega) with h | h | h
    · rw [show i = i / 3 * 3 + 0 by omega]; exact k1
    · rw [show i = i / 3 * 3 + 1 by omega]; exact k3
    · rw [show i = i / 3 * 3 + 2 by omega]; exact k4
  · cases e : decide (((c.bx j).length : Int) > 300) with
    | false => have := of_decide_eq_false e; omega
    | true => rw [(anyP_iff _ _).2 ⟨j, hj, e⟩] at h13; cases h13
/-- the boxes in a row -/
def boxL (c : CS) : List (List UInt8) := (List.range c.k).map c.bx
theorem boxL_length (c : CS) : (boxL c).length = c.k := by simp [boxL]
theorem bxB_eq (bx : Nat → List UInt8) : ∀ k, bxB bx k = bxsB ((List.range k).map bx)
  | 0 => rfl
  | k + 1 => by
    show bxB bx k ++ boxB (bx k) = _
    rw [bxB_eq bx k, List.range_succ, List.map_append]
    unfold bxsB boxB
    rw [List.flatMap_append, numsB_one]
    simp
/-- a commit's bytes behind the first one, and more -/
def restF (c : CS) (t : List UInt8) : List UInt8 :=
  numB c.e ++ (numB c.fr ++ (numB (c.n : Int) ++ (numsB c.ops ++ (numB (c.m : Int) ++ (numsB c.vs ++ (numB c.sl ++ (numB c.p0 ++ (numB c.p1 ++ (numB c.p2 ++ (numB (c.k : Int) ++ (bxsB (boxL c) ++ (c.tag ++ (numB c.sE ++ (numB c.sS ++ t))))))))))))))
theorem commit_form (c : CS) (t : List UInt8) : commitB c ++ t = 1 :: restF c t := by
  unfold commitB restF bodyB bodyMid bodyHead
  rw [bxB_eq]
  simp only [numsB_cons, numsB_nil, List.append_assoc, List.append_nil, List.nil_append, List.cons_append, boxL]
theorem tkV_length (n : Nat) (R : Rd) : (tkV n R).length ≤ n := by unfold tkV; split; rw [List.length_take]; omega; simp
theorem bxsV_all (m : Int) (hm : 0 ≤ m) : ∀ (k : Nat) (R : Rd), ∀ p ∈ bxsV m k R, (p.length : Int) ≤ m
  | 0, _, p, hp => by simp [bxsV] at hp
  | k + 1, R, p, hp => by
    rcases List.mem_cons.1 hp with rfl | hp
    · have := tkV_length (cntV m R).toNat (cntN m R)
      have h2 := cntV_le (m := m) (R := R) hm
      unfold boxV
      omega
    · exact bxsV_all m hm k _ p hp
attribute [local irreducible] nmV nmN cntV cntN tkV tkN nmsV nmsN bxsV bxsN hashV numB numsB bxsB boxV boxN
theorem wparse (c : CS) (t : List UInt8) (h : MF c) (hc : CSok c) (ht : c.tag.length = 32) (R : Rd) (hR : R = ⟨restF c t, false⟩) :
    (nmV R = c.e ∧ nmV (nmN R) = c.fr ∧ wo R = c.n ∧ nmsV (wo R * 5) (wq3 R) = c.ops ∧ wv R = c.m ∧ nmsV (wv R * 3) (wq5 R) = c.vs) ∧
    (nmV (wq6 R) = c.sl ∧ nmV (nmN (wq6 R)) = c.p0 ∧ nmV (nmN (nmN (wq6 R))) = c.p1 ∧ nmV (nmN (nmN (nmN (wq6 R)))) = c.p2 ∧ wb R = c.k ∧ bxsV 300 (wb R) (wq8 R) = boxL c) ∧
    (hashV (wq9 R) = c.tag ∧ nmV (wq10 R) = c.sE ∧ nmV (nmN (wq10 R)) = c.sS ∧ wq11 R = ⟨t, false⟩) := by
  subst hR
  unfold restF
  obtain ⟨a1, b1⟩ := num_app (t := numB c.fr ++ (numB (c.n : Int) ++ (numsB c.ops ++ (numB (c.m : Int) ++ (numsB c.vs ++ (numB c.sl ++ (numB c.p0 ++ (numB c.p1 ++ (numB c.p2 ++ (numB (c.k : Int) ++ (bxsB (boxL c) ++ (c.tag ++ (numB c.sE ++ (numB c.sS ++ t)))))))))))))) h.e
  generalize (⟨numB c.e ++ _, false⟩ : Rd) = R at *
  obtain ⟨a2, b2⟩ := num_app (t := numB (c.n : Int) ++ (numsB c.ops ++ (numB (c.m : Int) ++ (numsB c.vs ++ (numB c.sl ++ (numB c.p0 ++ (numB c.p1 ++ (numB c.p2 ++ (numB (c.k : Int) ++ (bxsB (boxL c) ++ (c.tag ++ (numB c.sE ++ (numB c.sS ++ t))))))))))))) h.fr
  rw [← b1] at a2 b2
  have n4 := h.n4
  have m8 := h.m8
  have k16 := h.k16
  obtain ⟨a3, b3⟩ := cnt_app (m := 4) (z := (c.n : Int)) (t := numsB c.ops ++ (numB (c.m : Int) ++ (numsB c.vs ++ (numB c.sl ++ (numB c.p0 ++ (numB c.p1 ++ (numB c.p2 ++ (numB (c.k : Int) ++ (bxsB (boxL c) ++ (c.tag ++ (numB c.sE ++ (numB c.sS ++ t)))))))))))) (by omega) (by omega)
  rw [← b2] at a3 b3
  have e1 : wo R = c.n := by unfold wo; rw [a3]; omega
  have e1' : wo R * 5 = c.ops.length := by rw [e1, hc.ops]
  obtain ⟨a4, b4⟩ := nums_app (zs := c.ops) (t := numB (c.m : Int) ++ (numsB c.vs ++ (numB c.sl ++ (numB c.p0 ++ (numB c.p1 ++ (numB c.p2 ++ (numB (c.k : Int) ++ (bxsB (boxL c) ++ (c.tag ++ (numB c.sE ++ (numB c.sS ++ t))))))))))) h.ops
  rw [← b3, ← e1'] at a4 b4
  have q4 : wq4 R = nmsN (wo R * 5) (cntN 4 (nmN (nmN R))) := rfl
  obtain ⟨a5, b5⟩ := cnt_app (m := 8) (z := (c.m : Int)) (t := numsB c.vs ++ (numB c.sl ++ (numB c.p0 ++ (numB c.p1 ++ (numB c.p2 ++ (numB (c.k : Int) ++ (bxsB (boxL c) ++ (c.tag ++ (numB c.sE ++ (numB c.sS ++ t)))))))))) (by omega) (by omega)
  rw [← b4, ← q4] at a5 b5
  have e2 : wv R = c.m := by unfold wv; rw [a5]; omega
  have e2' : wv R * 3 = c.vs.length := by rw [e2, hc.vs]
  obtain ⟨a6, b6⟩ := nums_app (zs := c.vs) (t := numB c.sl ++ (numB c.p0 ++ (numB c.p1 ++ (numB c.p2 ++ (numB (c.k : Int) ++ (bxsB (boxL c) ++ (c.tag ++ (numB c.sE ++ (numB c.sS ++ t))))))))) h.vs
  rw [← b5, ← e2'] at a6 b6
  have q6 : wq6 R = nmsN (wv R * 3) (cntN 8 (wq4 R)) := rfl
  rw [← q6] at b6
  obtain ⟨a7, b7⟩ := num_app (t := numB c.p0 ++ (numB c.p1 ++ (numB c.p2 ++ (numB (c.k : Int) ++ (bxsB (boxL c) ++ (c.tag ++ (numB c.sE ++ (numB c.sS ++ t)))))))) h.sl
  rw [← b6] at a7 b7
  obtain ⟨a8, b8⟩ := num_app (t := numB c.p1 ++ (numB c.p2 ++ (numB (c.k : Int) ++ (bxsB (boxL c) ++ (c.tag ++ (numB c.sE ++ (numB c.sS ++ t))))))) h.p0
  rw [← b7] at a8 b8
  obtain ⟨a9, b9⟩ := num_app (t := numB c.p2 ++ (numB (c.k : Int) ++ (bxsB (boxL c) ++ (c.tag ++ (numB c.sE ++ (numB c.sS ++ t)))))) h.p1
  rw [← b8] at a9 b9
  obtain ⟨a10, b10⟩ := num_app (t := numB (c.k : Int) ++ (bxsB (boxL c) ++ (c.tag ++ (numB c.sE ++ (numB c.sS ++ t))))) h.p2
  rw [← b9] at a10 b10
  have q7 : wq7 R = nmN (nmN (nmN (nmN (wq6 R)))) := rfl
  obtain ⟨a11, b11⟩ := cnt_app (m := 16) (z := (c.k : Int)) (t := bxsB (boxL c) ++ (c.tag ++ (numB c.sE ++ (numB c.sS ++ t)))) (by omega) (by omega)
  rw [← b10, ← q7] at a11 b11
  have e3 : wb R = c.k := by unfold wb; rw [a11]; omega
  have e3' : wb R = (boxL c).length := by rw [e3, boxL_length]
  obtain ⟨a12, b12⟩ := bxs_app (m := 300) (L := boxL c) (t := c.tag ++ (numB c.sE ++ (numB c.sS ++ t))) (fun p hp => by
    unfold boxL at hp
    obtain ⟨j, hj, rfl⟩ := List.mem_map.1 hp
    have := h.bx j (List.mem_range.1 hj)
    omega)
  rw [← b11, ← e3'] at a12 b12
  have q9 : wq9 R = bxsN 300 (wb R) (cntN 16 (wq7 R)) := rfl
  rw [← q9] at b12
  obtain ⟨a13, b13⟩ := hash_app (t := numB c.sE ++ (numB c.sS ++ t)) ht
  rw [← b12] at a13 b13
  have q10 : wq10 R = tkN 32 (wq9 R) := rfl
  rw [← q10] at b13
  obtain ⟨a14, b14⟩ := num_app (t := numB c.sS ++ t) h.sE
  rw [← b13] at a14 b14
  obtain ⟨a15, b15⟩ := num_app (t := t) h.sS
  rw [← b14] at a15 b15
  exact ⟨⟨a1, a2, e1, a4, e2, a6⟩, ⟨a7, a8, a9, a10, e3, a12⟩, a13, a14, a15, b15⟩
/-- a commit that is read -/
def wC (R : Rd) : CS := ⟨nmV R, nmV (nmN R), wo R, nmsV (wo R * 5) (wq3 R), wv R, nmsV (wv R * 3) (wq5 R), nmV (wq6 R), nmV (nmN (wq6 R)), nmV (nmN (nmN (wq6 R))), nmV (nmN (nmN (nmN (wq6 R)))), wb R, fun j => (bxsV 300 (wb R) (wq8 R)).getD j [], hashV (wq9 R), nmV (wq10 R), nmV (nmN (wq10 R))⟩
theorem wC_boxL (R : Rd) : boxL (wC R) = bxsV 300 (wb R) (wq8 R) := by
  unfold boxL
  show (List.range (wb R)).map (fun j => (bxsV 300 (wb R) (wq8 R)).getD j []) = _
  have hl := bxsV_length 300 (wb R) (wq8 R)
  refine List.ext_getElem (by simp [hl]) fun i h1 h2 => ?_
  simp only [List.getElem_map, List.getElem_range, List.getD_eq_getElem?_getD, List.getElem?_eq_getElem h2, Option.getD_some]
theorem wC_ok (R : Rd) : CSok (wC R) ∧ (wC R).tag.length = 32 ∧ wo R ≤ 4 ∧ wv R ≤ 8 ∧ wb R ≤ 16 := by
  have h4 := cntV_le (m := 4) (R := nmN (nmN R)) (by decide)
  have h8 := cntV_le (m := 8) (R := wq4 R) (by decide)
  have h16 := cntV_le (m := 16) (R := wq7 R) (by decide)
  have e4 : wo R ≤ 4 := by unfold wo; omega
  have e8 : wv R ≤ 8 := by unfold wv; omega
  have e16 : wb R ≤ 16 := by unfold wb; omega
  refine ⟨⟨by show wo R ≤ _; omega, by show wv R ≤ _; omega, by show wb R ≤ _; omega, nmsV_length _ _, nmsV_length _ _, fun j hj => ?_⟩, hashV_length _, e4, e8, e16⟩
  have hl := bxsV_length 300 (wb R) (wq8 R)
  have hj' : j < (bxsV 300 (wb R) (wq8 R)).length := by rw [hl]; exact hj
  show ((bxsV 300 (wb R) (wq8 R)).getD j []).length ≤ _
  rw [List.getD_eq_getElem?_getD, List.getElem?_eq_getElem hj', Option.getD_some]
  have := bxsV_all 300 (by decide) (wb R) (wq8 R) _ (List.getElem_mem hj')
  omega
theorem wback (R : Rd) (h : (wq11 R).bad = false) : R.bad = false ∧ R.bs = restF (wC R) (wq11 R).bs := by
  obtain ⟨h15, e15, _⟩ := nmN_back (R := nmN (wq10 R)) h
  obtain ⟨h14, e14, _⟩ := nmN_back h15
  obtain ⟨h13, e13⟩ := hashV_back (R := wq9 R) h14
  obtain ⟨h12, e12, _⟩ := bxsN_back (R := wq8 R) h13
  obtain ⟨h11, e11, z11, _⟩ := cntN_back (R := wq7 R) h12
  obtain ⟨h10, e10, _⟩ := nmN_back (R := nmN (nmN (nmN (wq6 R)))) h11
  obtain ⟨h9, e9, _⟩ := nmN_back h10
  obtain ⟨h8, e8, _⟩ := nmN_back h9
  obtain ⟨h7, e7, _⟩ := nmN_back h8
  obtain ⟨h6, e6, _⟩ := nmsN_back (R := wq5 R) h7
  obtain ⟨h5, e5, z5, _⟩ := cntN_back (R := wq4 R) h6
  obtain ⟨h4, e4, _⟩ := nmsN_back (R := wq3 R) h5
  obtain ⟨h3, e3, z3, _⟩ := cntN_back (R := nmN (nmN R)) h4
  obtain ⟨h2, e2, _⟩ := nmN_back h3
  obtain ⟨h1, e1, _⟩ := nmN_back h2
  refine ⟨h1, ?_⟩
  unfold restF
  rw [wC_boxL]
  show R.bs = numB (nmV R) ++ (numB (nmV (nmN R)) ++ (numB (((cntV 4 (nmN (nmN R))).toNat : Nat) : Int) ++ (numsB (nmsV (wo R * 5) (wq3 R)) ++ (numB (((cntV 8 (wq4 R)).toNat : Nat) : Int) ++ (numsB (nmsV (wv R * 3) (wq5 R)) ++ (numB (nmV (wq6 R)) ++ (numB (nmV (nmN (wq6 R))) ++ (numB (nmV (nmN (nmN (wq6 R)))) ++ (numB (nmV (nmN (nmN (nmN (wq6 R))))) ++ (numB (((cntV 16 (wq7 R)).toNat : Nat) : Int) ++ (bxsB (bxsV 300 (wb R) (wq8 R)) ++ (hashV (wq9 R) ++ (numB (nmV (wq10 R)) ++ (numB (nmV (nmN (wq10 R))) ++ (wq11 R).bs))))))))))))))
  rw [cntV_cast, cntV_cast, cntV_cast]
  have q15 : (wq11 R).bs = (nmN (nmN (wq10 R))).bs := rfl
  rw [q15, ← e15, ← e14]
  have q13 : wq10 R = tkN 32 (wq9 R) := rfl
  rw [q13, ← e13]
  have q12 : wq9 R = bxsN 300 (wb R) (wq8 R) := rfl
  rw [q12, ← e12]
  have q11 : wq8 R = cntN 16 (wq7 R) := rfl
  rw [q11, ← e11]
  have q10 : wq7 R = nmN (nmN (nmN (nmN (wq6 R)))) := rfl
  rw [q10, ← e10, ← e9, ← e8, ← e7]
  have q6 : wq6 R = nmsN (wv R * 3) (wq5 R) := rfl
  rw [q6, ← e6]
  have q5 : wq5 R = cntN 8 (wq4 R) := rfl
  rw [q5, ← e5]
  have q4 : wq4 R = nmsN (wo R * 5) (wq3 R) := rfl
  rw [q4, ← e4]
  have q3 : wq3 R = cntN 4 (nmN (nmN R)) := rfl
  rw [q3, ← e3, ← e2, ← e1]
/-- the first byte -/
def kdN (k : UInt8) (R : Rd) : Rd := if (tkN 1 R).bad = false ∧ (tkV 1 R).getD 0 0 ≠ k then ⟨(tkN 1 R).bs, true⟩ else tkN 1 R
/-- bytes as a commit -/
def cOf (b : List UInt8) : CS := wC (kdN 1 ⟨b, false⟩)
def okC (b : List UInt8) : Bool := !(wq11 (kdN 1 ⟨b, false⟩)).bad && (decide ((wq11 (kdN 1 ⟨b, false⟩)).bs.length = 0) && mayB (cOf b))
theorem kd_back {k : UInt8} {b : List UInt8} (h : (kdN k ⟨b, false⟩).bad = false) : b = k :: (kdN k ⟨b, false⟩).bs := by
  unfold kdN at *
  split at h
  · cases h
  · next h1 =>
    rw [if_neg h1]
    obtain ⟨h2, h3, h4⟩ := tkN_back h
    have h5 : (tkV 1 ⟨b, false⟩).getD 0 0 = k := Decidable.byContradiction fun h6 => h1 ⟨h, h6⟩
    match hv : tkV 1 ⟨b, false⟩, h4 with
    | [x], _ =>
      rw [hv] at h3 h5
      have h6 : x = k := h5
      subst h6
      exact h3
theorem kd_app (k : UInt8) (t : List UInt8) : kdN k ⟨k :: t, false⟩ = ⟨t, false⟩ := by
  obtain ⟨h1, h2⟩ := tk_app (n := 1) (p := [k]) (t := t) rfl
  have e : (⟨k :: t, false⟩ : Rd) = ⟨[k] ++ t, false⟩ := rfl
  unfold kdN
  rw [e, h1, h2]
  rw [if_neg (fun h => h.2 rfl)]
/-- what is read, whole, was written so -/
theorem okC_back {b : List UInt8} (h : okC b = true) : mayB (cOf b) = true ∧ CSok (cOf b) ∧ (cOf b).tag.length = 32 ∧ b = commitB (cOf b) := by
  unfold okC at h
  simp only [Bool.and_eq_true, Bool.not_eq_true', decide_eq_true_eq] at h
  obtain ⟨h1, h2, h3⟩ := h
  obtain ⟨h4, h5⟩ := wback _ h1
  have h6 := kd_back h4
  obtain ⟨h7, h8, _⟩ := wC_ok (kdN 1 ⟨b, false⟩)
  refine ⟨h3, h7, h8, ?_⟩
  have h9 : (wq11 (kdN 1 ⟨b, false⟩)).bs = [] := List.length_eq_zero_iff.1 h2
  rw [h9] at h5
  rw [h5] at h6
  have h10 := commit_form (cOf b) []
  rw [List.append_nil] at h10
  rw [h10]
  exact h6
/-- two commits are one -/
structure SameC (c d : CS) : Prop where
  e : c.e = d.e
  fr : c.fr = d.fr
  n : c.n = d.n
  ops : c.ops = d.ops
  m : c.m = d.m
  vs : c.vs = d.vs
  sl : c.sl = d.sl
  p0 : c.p0 = d.p0
  p1 : c.p1 = d.p1
  p2 : c.p2 = d.p2
  k : c.k = d.k
  bx : ∀ j, j < d.k → c.bx j = d.bx j
  tag : c.tag = d.tag
  sE : c.sE = d.sE
  sS : c.sS = d.sS
theorem wC_same {c : CS} {t : List UInt8} (h : MF c) (hc : CSok c) (ht : c.tag.length = 32) : SameC (wC ⟨restF c t, false⟩) c ∧ wq11 ⟨restF c t, false⟩ = ⟨t, false⟩ := by
  obtain ⟨⟨a1, a2, a3, a4, a5, a6⟩, ⟨a7, a8, a9, a10, a11, a12⟩, a13, a14, a15, a16⟩ := wparse c t h hc ht _ rfl
  refine ⟨⟨a1, a2, a3, a4, a5, a6, a7, a8, a9, a10, a11, fun j hj => ?_, a13, a14, a15⟩, a16⟩
  show (bxsV 300 (wb _) (wq8 _)).getD j [] = _
  rw [a12]
  unfold boxL
  rw [List.getD_eq_getElem?_getD, List.getElem?_eq_getElem (by simp; exact hj)]
  simp
theorem mayB_same {c d : CS} (h : SameC c d) : mayB c = mayB d := by
  obtain ⟨h1, h2, h3, h4, h5, h6, h7, h8, h9, h10, h11, h12, h13, h14, h15⟩ := h
  have e : anyP (fun i => decide (((c.bx i).length : Int) > 300)) c.k = anyP (fun i => decide (((d.bx i).length : Int) > 300)) d.k := by
    rw [h11]
    rw [Bool.eq_iff_iff, anyP_iff, anyP_iff]
    constructor
    · rintro ⟨j, hj, hp⟩; exact ⟨j, hj, by rw [← h12 j hj]; exact hp⟩
    · rintro ⟨j, hj, hp⟩; exact ⟨j, hj, by rw [h12 j hj]; exact hp⟩
  unfold mayB
  rw [h1, h2, h3, h4, h5, h6, h7, h8, h9, h10, h14, h15, e, h11]
/-- what was written is read as it was -/
theorem okC_app {c : CS} (h : mayB c = true) (hc : CSok c) (ht : c.tag.length = 32) : okC (commitB c) = true ∧ SameC (cOf (commitB c)) c := by
  have hm := may_facts h hc
  have h1 := commit_form c []
  rw [List.append_nil] at h1
  obtain ⟨h2, h3⟩ := wC_same (t := []) hm hc ht
  unfold okC cOf
  rw [h1, kd_app, h3]
  refine ⟨?_, h2⟩
  rw [mayB_same h2, h]
  rfl
/-- no commit's bytes begin another one's -/
theorem okC_less {c : CS} {b t : List UInt8} (h : mayB c = true) (hc : CSok c) (ht : c.tag.length = 32) (hb : commitB c = b ++ t) (hk : okC b = true) : t = [] := by
  obtain ⟨h1, h2, h3, h4⟩ := okC_back hk
  have hm := may_facts h hc
  have hm2 := may_facts h1 h2
  have e1 := commit_form c []
  rw [List.append_nil] at e1
  have e2 := commit_form (cOf b) t
  rw [← h4, ← hb, e1] at e2
  have e3 : restF c [] = restF (cOf b) t := by injection e2
  obtain ⟨_, q1⟩ := wC_same (t := []) hm hc ht
  obtain ⟨_, q2⟩ := wC_same (t := t) hm2 h2 h3
  rw [e3, q2] at q1
  injection q1
theorem okC_more {c : CS} {t : List UInt8} (h : mayB c = true) (hc : CSok c) (ht : c.tag.length = 32) (hk : okC (commitB c ++ t) = true) : t = [] := by
  have hm := may_facts h hc
  unfold okC at hk
  rw [commit_form, kd_app, (wC_same (t := t) hm hc ht).2] at hk
  simp only [Bool.and_eq_true, decide_eq_true_eq] at hk
  exact List.length_eq_zero_iff.1 hk.2.1
theorem commitB_same {c d : CS} (h : SameC c d) : commitB c = commitB d := by
  have e1 := commit_form c []
  have e2 := commit_form d []
  rw [List.append_nil] at e1 e2
  rw [e1, e2]
  obtain ⟨h1, h2, h3, h4, h5, h6, h7, h8, h9, h10, h11, h12, h13, h14, h15⟩ := h
  have e : boxL c = boxL d := by
    unfold boxL
    rw [h11]
    exact List.map_congr_left fun j hj => h12 j (List.mem_range.1 hj)
  unfold restF
  rw [h1, h2, h3, h4, h5, h6, h7, h8, h9, h10, h11, h13, h14, h15, e]
theorem SameC.symm {c d : CS} (h : SameC c d) : SameC d c := by
  obtain ⟨h1, h2, h3, h4, h5, h6, h7, h8, h9, h10, h11, h12, h13, h14, h15⟩ := h
  exact ⟨h1.symm, h2.symm, h3.symm, h4.symm, h5.symm, h6.symm, h7.symm, h8.symm, h9.symm, h10.symm, h11.symm, fun j hj => (h12 j (by omega)).symm, h13.symm, h14.symm, h15.symm⟩
theorem SameC.trans {c d e : CS} (h : SameC c d) (k : SameC d e) : SameC c e :=
  ⟨h.e.trans k.e, h.fr.trans k.fr, h.n.trans k.n, h.ops.trans k.ops, h.m.trans k.m, h.vs.trans k.vs, h.sl.trans k.sl, h.p0.trans k.p0, h.p1.trans k.p1, h.p2.trans k.p2, h.k.trans k.k, fun j hj => (h.bx j (by rw [k.k]; exact hj)).trans (k.bx j hj), h.tag.trans k.tag, h.sE.trans k.sE, h.sS.trans k.sS⟩
/-- commits of the same bytes are one -/
theorem commitB_inj {c d : CS} (h : mayB c = true) (hc : CSok c) (ht : c.tag.length = 32) (h' : mayB d = true) (hc' : CSok d) (ht' : d.tag.length = 32) (e : commitB c = commitB d) : SameC c d := by
  have h1 := (okC_app h hc ht).2
  have h2 := (okC_app h' hc' ht').2
  rw [e] at h1
  exact h1.symm.trans h2
end Go.Proofs.Ytbgdlggobbiibaa
