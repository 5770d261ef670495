/-
  Calls; all operations of the machine without memory are the program's. No program is named here.
-/
import Derived.Test.YtmddonmjigkjoaaA9
namespace Go.Proofs.Ytmddonmjigkjoaa
set_option maxRecDepth 100000
open Go.RowKit
set_option linter.unusedVariables false
set_option linter.unusedSimpArgs false

section
variable {E : EnvX} {o : Oper} {s : St} {fr : Nat}

theorem anyKeeps {S : Nat → Prop} {w : World} : Keeps S w (fun _ => True) w := ⟨Nat.le_refl _, fun _ _ _ => ⟨trivial, fun _ => rfl⟩⟩
theorem RAs.flat {S S' : Nat → Prop} {w w' : World} : ∀ {l : List A} {vs : List Value}, l.all flatA = true → RAs S w l vs → RAs S' w' l vs
  | _, _, _, .nil => .nil
  | _, _, h, .cons k r => by
    simp only [List.all_cons, Bool.and_eq_true] at h
    exact .cons (flat_RA h.1 k) (r.flat h.2)

/-- what is handed in -/
theorem argK_spec {s : St} : ∀ {xs : List Operand} {K : List A → Bool → Prop}, argK s (xs.map s.ev) K → ∃ ds lent, K ds lent ∧
    ∀ (S : Nat → Prop) (base : Nat) (w0 : World) (s' : St) (ρ : Nat → Option Value) (a : Act) (w : World), (∀ x ∈ xs, s'.ev x = s.ev x ∧ ∀ b ∈ (s.ev x).refs, s'.bk b = s.bk b) → Good S base w0 s' ρ a w →
      RAs (fun _ => True) w ds (xs.map a.eval) ∧ (lent = false → RAs (Dt S base ρ) w ds (xs.map a.eval))
  | [], K, h => ⟨[], false, h, fun S base w0 s' ρ a w _ _ => ⟨.nil, fun _ => .nil⟩⟩
  | x :: xs, K, h => by
    simp only [List.map_cons, argK] at h
    split at h
    · next d hx =>
      obtain ⟨ds, lent, hK, hr⟩ := argK_spec h
      refine ⟨d :: ds, lent, hK, fun S base w0 s' ρ a w hs g => ?_⟩
      obtain ⟨h1, h2⟩ := hr S base w0 s' ρ a w (fun y hy => hs y (by simp [hy])) g
      have hv := g.ev x
      rw [(hs x (by simp)).1, hx] at hv
      exact ⟨.cons (RA.up anyKeeps hv) h1, fun hl => .cons hv (h2 hl)⟩
    · next b n hx =>
      split at h
      · next e sz m l hk =>
        obtain ⟨rfl, h⟩ := h
        obtain ⟨ds, lent, hK, hr⟩ := argK_spec (K := fun l' _ => K (.row n l :: l') true) h
        refine ⟨.row n l :: ds, true, hK, fun S base w0 s' ρ a w hs g => ?_⟩
        obtain ⟨h1, h2⟩ := hr S base w0 s' ρ a w (fun y hy => hs y (by simp [hy])) g
        have hv := g.ev x
        rw [(hs x (by simp)).1, hx] at hv
        obtain ⟨cs, k1, k2, k3⟩ := own_now g (((hs x (by simp)).2 b (by rw [hx]; simp [T.refs])).trans hk) hv
        refine ⟨.cons ?_ h1, fun e => by cases e⟩
        rcases k2.2 with ⟨e1, e2⟩ | ⟨r, cap, cur, e1, e3, e4, e5, e6, e7, e8⟩
        · rw [e1, e2]
          have hcs : cs = [] := by have := k2.1; rw [e2, Nat.zero_mul] at this; exact List.length_eq_zero_iff.1 this
          exact .row (k3.up anyKeeps) (Nat.le_refl _) (Nat.zero_le _) (fun _ => rfl) (.inl hcs)
        · rw [e1]
          refine .row (k3.up anyKeeps) e5 e6 (fun e => by cases e) (.inr ⟨r, 0, rfl, trivial, (Array.getElem?_eq_some_iff.1 e4).1, fun j hj => ?_⟩)
          rw [Nat.zero_add, cell_of_row w r j cur e (0, 0) e4]
          have : (cur.toList.take (n * sz))[j]? = cs[j]? := by rw [e8]
          rw [List.getElem?_take, if_pos (by have := k2.1; omega), Array.getElem?_toList, List.getElem?_eq_getElem hj] at this
          exact this
      · exact h.elim
    · next b q n hx =>
      split at h
      · next l hk =>
        split at h
        · next m hm =>
          obtain ⟨hle, h⟩ := h
          obtain ⟨ds, lent, hK, hr⟩ := argK_spec (K := fun l' _ => K (.row n m :: l') true) h
          refine ⟨.row n m :: ds, true, hK, fun S base w0 s' ρ a w hs g => ?_⟩
          obtain ⟨h1, h2⟩ := hr S base w0 s' ρ a w (fun y hy => hs y (by simp [hy])) g
          have hv := g.ev x
          rw [(hs x (by simp)).1, hx] at hv
          obtain ⟨r, cs, ty, k1, k2, k3, k4⟩ := g.var (((hs x (by simp)).2 b (by rw [hx]; simp [T.refs])).trans hk)
          obtain ⟨r', c, e1, e2, e3, e4⟩ := hv _ k1
          cases e1
          refine ⟨.cons ?_ h1, fun e => by cases e⟩
          rw [e2]
          refine .row ((k4.cut hm).1.up anyKeeps) e3 e4 (fun e => by cases e) (.inr ⟨r, q, rfl, trivial, (Array.getElem?_eq_some_iff.1 k3).1, fun j hj => ?_⟩)
          have hj' : j < n := by simp at hj; omega
          rw [cells_of k3]
          simp
        · exact h.elim
      · exact h.elim
    · exact h.elim

theorem exec_call {a : Act} {w : World} {c : Call} {f : FuncId} {fn : Func} (ho : o.op = .call c) (hc : c.callee = .value (.func f)) (hf : E.P.funcs[f]? = some fn) (hb : fn.body.isNone = false) (hn : (fn.name == "runtime.NumGoroutine") = false) :
    (execOp a.eval o).run E.P w = .ok (.enter f (c.args.toList.map a.eval).toArray) w := by
  have e : (c.args.toList.map a.eval).toArray = c.args.map a.eval := by
    apply Array.ext'; simp
  rw [e]
  simp only [execOp, ho, resolve, hc, Act.eval, Deferred.ofValue, Sem.run_bind, Sem.run_pure, Result.andThen_ok, invoke, callFunc, run_program, hf, hb, hn]
  simp

theorem ok_call {c : Call} {f : FuncId} {k : KO} (ho : o.op = .call c) (hc : c.callee = .value (.func f))
    (h : argK s (c.args.toList.map s.ev) fun l lent => E.C f l fun r => (lent = true → flatRes r = true) ∧ resK fr k r) : ∃ t blk, k t blk ∧ OpOK E o s fr t blk := by
  obtain ⟨ds, lent, hC, hargs⟩ := argK_spec h
  obtain ⟨fn, hf, hb, hn⟩ := E.hF _ _ _ hC
  obtain ⟨r, hok, hflat, hk⟩ := E.hC _ _ _ hC
  have hmem : ∀ x ∈ c.args.toList, x ∈ o.op.operands := fun x hx => by rw [ho]; simp only [Op.operands, Call.operands, Array.mem_append]; right; simpa using hx
  -- the call as it runs, to a value in a later world
  have run : ∀ (S : Nat → Prop) (base : Nat) (w0 : World) (s' : St) (ρ : Nat → Option Value) (a : Act) (w : World) (K : Act → World → Prop) (Q : Exit → Act → World → Prop),
      Same o s s' → Good S base w0 s' ρ a w → (∀ v w', Below w.heap.size w w' → (∃ S0, RR S0 w.heap.size w' r v ∧ (lent = false → ∀ q, S0 q → Dt S base ρ q)) → K (a.put o.dst v) w') → o.wp E.P a w K Q := by
    intro S base w0 s' ρ a w K Q hs g hK
    obtain ⟨h1, h2⟩ := hargs S base w0 s' ρ a w (fun x hx => ⟨(hs x (hmem x hx)).1, fun b hb => hs.bk (hmem x hx) (by simp [looks, ho]) hb⟩) g
    unfold Oper.wp
    rw [exec_call ho hc hf hb hn, Oper.upon_enter]
    cases hl : lent with
    | true =>
      refine (hok (fun _ => True) w _ h1).mono ?_
      rintro e w' ⟨v, rfl, h3, h4⟩
      exact hK v w' h4 ⟨_, h3, fun e => by rw [hl] at e; cases e⟩
    | false =>
      refine (hok (Dt S base ρ) w _ (h2 hl)).mono ?_
      rintro e w' ⟨v, rfl, h3, h4⟩
      exact hK v w' h4 ⟨_, h3, fun _ q hq => hq⟩
  have grown : ∀ {w w' : World}, Below w.heap.size w w' → w.grownBy w' none := fun h => ⟨h.os, h.tape, h.output, h.size, fun k hk _ => h.block k hk⟩
  -- where the answer may lie
  have lies : ∀ {S : Nat → Prop} {base : Nat} {w0 : World} {s' : St} {ρ : Nat → Option Value} {a : Act} {w w' : World} {S0 : Nat → Prop}, Good S base w0 s' ρ a w → (∀ q, S0 q → Dt S base ρ q) → Keeps (fun q => S0 q ∨ w.heap.size ≤ q) w' (Dt S base ρ) w' :=
    fun {S base w0 s' ρ a w w' S0} g h0 => ⟨Nat.le_refl _, fun q hq hs => ⟨by
      rcases hs with hs | hs
      · exact h0 q hs
      · exact ⟨.inr (Nat.le_trans g.size hs), fun b u hb hu => by have := (g.low b u q hb hu).2; omega⟩, fun _ => rfl⟩⟩
  cases r with
  | d x =>
    refine ⟨.d x, none, hk, fun b hb => by simp [T.refs] at hb, fun b x e => (by cases e), fun S base w0 s' ρ a w K Q hs g _ _ hK => ?_⟩
    refine run S base w0 s' ρ a w K Q hs g fun v w' hbel ⟨S0, hr, h0⟩ => ?_
    obtain ⟨g2, k2⟩ := g.grow (grown hbel)
    refine hK _ _ ρ (g2.put' o.dst (t := .d x) ?_ (by simp [T.refs]))
    cases hl : lent with
    | true => exact flat_RA (hflat hl) hr
    | false => exact RA.up (lies g (h0 hl)) hr
  | t l =>
    refine ⟨.tup l, none, hk, fun b hb => by simp [T.refs] at hb, fun b x e => (by cases e), fun S base w0 s' ρ a w K Q hs g _ _ hK => ?_⟩
    refine run S base w0 s' ρ a w K Q hs g fun v w' hbel ⟨S0, hr, h0⟩ => ?_
    obtain ⟨vs, rfl, hr⟩ := hr
    obtain ⟨g2, k2⟩ := g.grow (grown hbel)
    refine hK _ _ ρ (g2.put' o.dst (t := .tup l) ⟨vs, rfl, ?_⟩ (by simp [T.refs]))
    cases hl : lent with
    | true => exact hr.flat (hflat hl)
    | false => exact hr.up (lies g (h0 hl))
  | o e sz n l =>
    refine ⟨.own fr n, some (fr, .sl e sz n l), hk, fun b hb => .inl ⟨by simpa [T.refs] using hb, _, rfl⟩, fun b x e => by cases e; exact .inl rfl, fun S base w0 s' ρ a w K Q hs g hfr hlt hK => ?_⟩
    refine run S base w0 s' ρ a w K Q hs g fun v w' hbel ⟨S0, ⟨cs, hr, hc2⟩, h0⟩ => ?_
    have hgr := grown hbel
    have hform : ∃ ad c, v = .slice ad n c := by
      rcases hr.2 with ⟨e1, e2⟩ | ⟨q, cap, cur, e1, _⟩
      · exact ⟨_, _, by rw [e1, e2]⟩
      · exact ⟨_, _, e1⟩
    have hreal : ∀ q, realOf v = some q → w.heap.size ≤ q ∧ q < w'.heap.size ∧ v.ownBlock = some q := by
      intro q hq
      rcases hr.2 with ⟨e1, e2⟩ | ⟨q', cap, cur, e1, e3, e4, _⟩
      · rw [e1] at hq; cases hq
      · rw [e1] at hq; cases hq
        exact ⟨e3, (Array.getElem?_eq_some_iff.1 e4).1, by rw [e1]; rfl⟩
    have g2 := g.change fr hlt v (.sl e sz n l) none hgr (by simp) (fun q hq => ⟨.inl (hreal q hq).1, (hreal q hq).2.1⟩) (by
        intro K0
        refine ⟨v, cs, by simp [upd], ?_, ?_⟩
        · refine ⟨hr.1, ?_⟩
          rcases hr.2 with h | ⟨q', cap, cur, e1, e3, e4⟩
          · exact .inl h
          · exact .inr ⟨q', cap, cur, e1, Nat.le_trans g.size e3, e4⟩
        · cases hl : lent with
          | true => exact flat_RL (hflat hl) hc2
          | false =>
            refine RL.up ⟨Nat.le_refl _, fun q hq hs2 => ⟨⟨?_, fun b u hb hu => ?_⟩, fun _ => rfl⟩⟩ hc2
            · rcases hs2.1 with h3 | h3
              · exact (h0 hl q h3).1
              · exact .inr (Nat.le_trans g.size h3)
            · by_cases hbf : b = fr
              · subst hbf
                simp [upd] at hb
                subst hb
                exact hs2.2 (hreal q hu).2.2
              · simp [upd, hbf] at hb
                rcases hs2.1 with h3 | h3
                · exact (h0 hl q h3).2 b u hb hu
                · have := (g.low b u q hb hu).2; omega) (by
        intro i hi hm
        exact absurd hfr (g.dang i fr hm))
    refine hK _ _ _ (g2.put' o.dst (t := .own fr n) ?_ ?_)
    · intro u hu
      simp [upd] at hu
      obtain ⟨ad, c', e1⟩ := hform
      exact ⟨ad, n, c', by rw [← hu, e1], Nat.le_refl _, fun _ => hu⟩
    · intro b hb
      simp [T.refs] at hb
      subst hb
      simp [St.bk, getD_set_list, hlt]

/-- every operation of the machine -/
theorem opA_sound {k : KO} (h : opA E o s fr k) : ∃ t blk, k t blk ∧ OpOK E o s fr t blk := by
  unfold opA at h
  split at h
  case h_1 x ho => exact ⟨_, _, h, ok_move (.inl ho)⟩
  case h_2 x ho => exact ⟨_, _, h, ok_move (.inr ho)⟩
  case h_3 c x y ho =>
    split at h
    · next b hc =>
      cases b
      · exact ⟨_, _, h.out, ok_pick (b := false) ho hc⟩
      · exact ⟨_, _, h.out, ok_pick (b := true) ho hc⟩
    · exact h.elim
  case h_4 op t x y yt ho =>
    split at h
    · next p q hx hy =>
      split at h
      · next a b =>
        obtain ⟨⟨i, hi, hu⟩, h⟩ := h
        split at h
        · exact ⟨_, _, h, ok_binBool ho hx hy hu (.inl ⟨rfl, rfl⟩)⟩
        · exact ⟨_, _, h, ok_binBool ho hx hy hu (.inr ⟨rfl, rfl⟩)⟩
        · exact h.elim
      · obtain ⟨r, hK, hr⟩ := ok_bin ho hx hy h
        exact ⟨_, _, hK, hr⟩
    · next l m hx hy =>
      split at h
      · next i hY =>
        obtain ⟨h1, h2, h3, h⟩ := h
        split at h
        · exact ⟨_, _, h, ok_eqAgg ho hx hy hY h1 h2 h3 (.inl ⟨rfl, rfl⟩)⟩
        · exact ⟨_, _, h, ok_eqAgg ho hx hy hY h1 h2 h3 (.inr ⟨rfl, rfl⟩)⟩
        · exact h.elim
      · exact h.elim
    · exact h.elim
  case h_5 op t x ho =>
    split at h
    · next hx => exact ⟨_, _, h, ok_not ho hx⟩
    · exact h.elim
  case h_6 e ho =>
    split at h
    · next i hY => exact ⟨_, _, h, ok_alloc ho hY⟩
    · exact h.elim
  case h_7 e x ho =>
    split at h
    · next a hx =>
      split at h
      · next l hl => exact ⟨_, _, h, ok_box ho hx hl⟩
      · exact h.elim
    · exact h.elim
  case h_8 t x ho =>
    split at h
    · exact h.elim
    · next i hY =>
      split at h
      · next b base hx =>
        split at h
        · next l hk =>
          obtain ⟨d, hd, hs⟩ := rdK_spec h
          exact ⟨_, _, hd, ok_loadVar ho hY (b := b) (by rw [hx]; simp [T.refs]) hk (fun {D ρ w v r} hv hb => by
            rw [hx] at hv; obtain ⟨r', e1, e2⟩ := hv _ hb; cases e1; exact e2) hs⟩
        · exact h.elim
      · next b base rel hx =>
        split at h
        · next l hk =>
          obtain ⟨d, hd, hs⟩ := rdiK_spec h
          exact ⟨_, _, hd, ok_loadVar ho hY (b := b) (by rw [hx]; simp [T.refs]) hk (fun {D ρ w v r} hv hb => by
            rw [hx] at hv; obtain ⟨r', e1, e2⟩ := hv _ hb; cases e1; exact e2) hs⟩
        · exact h.elim
      · next b n off hx =>
        split at h
        · next e sz m l hk =>
          obtain ⟨rfl, h⟩ := h
          obtain ⟨d, hd, hs⟩ := rdiK_spec h
          exact ⟨_, _, hd, ok_loadOwn ho hY hx hk (by intro S w cs hcs; have := hs hcs; rwa [Nat.zero_add] at this)⟩
        · exact h.elim
      · next l off hx =>
        obtain ⟨hz, h⟩ := h
        obtain ⟨d, hd, hs⟩ := rdiK_spec h
        exact ⟨_, _, hd, ok_loadRef ho hY hx (by intro S w cs hcs; have := hs hcs; rwa [Nat.zero_add] at this) hz⟩
      · exact h.elim
  case h_9 t x y ho =>
    split at h
    · exact h.elim
    · next i hY =>
      split at h
      · next b base d hx hy =>
        split at h
        · next l hk =>
          obtain ⟨l', hl, hs⟩ := wrK_spec h
          exact ⟨_, _, hl, ok_store ho hY (b := b) (by rw [hx]; simp [T.refs]) hk hy (fun {D ρ w v r} hv hb => by
            rw [hx] at hv; obtain ⟨r', e1, e2⟩ := hv _ hb; cases e1; exact e2) hs⟩
        · exact h.elim
      · next b base rel d hx hy =>
        split at h
        · next l hk =>
          obtain ⟨l', hl, hs⟩ := wriK_spec h
          exact ⟨_, _, hl, ok_store ho hY (b := b) (by rw [hx]; simp [T.refs]) hk hy (fun {D ρ w v r} hv hb => by
            rw [hx] at hv; obtain ⟨r', e1, e2⟩ := hv _ hb; cases e1; exact e2) hs⟩
        · exact h.elim
      · exact h.elim
  case h_10 t x f ho =>
    split at h
    · exact h.elim
    · next i hY =>
      split at h
      · exact h.elim
      · next off hf =>
        split at h
        · next b base hx => exact ⟨_, _, h, ok_fieldAddr ho hY hf hx ⟨b, base, .inl ⟨rfl, rfl⟩⟩⟩
        · next b base rel hx => exact ⟨_, _, h, ok_fieldAddr ho hY hf hx ⟨b, base, .inr ⟨rel, .inl ⟨rfl, rfl⟩⟩⟩⟩
        · next b n q hx =>
          split at h
          · next e sz m l hk =>
            obtain ⟨rfl, h⟩ := h
            exact ⟨_, _, h, ok_fieldAddr ho hY hf hx ⟨b, n, .inr ⟨q, .inr ⟨rfl, rfl, e, sz, l, hk⟩⟩⟩⟩
          · exact h.elim
        · next l q hx => exact ⟨_, _, h, ok_fieldRef ho hY hf hx⟩
        · exact h.elim
  case h_11 t x ix ho =>
    split at h
    · exact h.elim
    · next i hY =>
      obtain ⟨he, h⟩ := h
      split at h
      · next k' z hi =>
        split at h
        · next b base hx => exact ⟨_, _, h.2.2.2, ok_indexArr ho hY he h.1 hi h.2.1 h.2.2.1 (.inl ⟨hx, rfl⟩)⟩
        · next b base rel hx => exact ⟨_, _, h.2.2.2, ok_indexArr ho hY he h.1 hi h.2.1 h.2.2.1 (.inr ⟨rel, hx, rfl⟩)⟩
        · next n l hx => exact ⟨_, _, h.2.2.2.2, ok_indexRow ho hY he h.1 hi h.2.1 h.2.2.1 hx h.2.2.2.1⟩
        · next b n hx =>
          split at h
          · next e sz m l hk =>
            obtain ⟨h1, h2, h3, rfl, h5, h⟩ := h
            exact ⟨_, _, h, ok_indexOwn ho hY he h1 hi h2 h3 hx hk⟩
          · exact h.elim
        · exact h.elim
      · exact h.elim
  case h_12 t x ix ho =>
    split at h
    · exact h.elim
    · next i hY =>
      obtain ⟨he, hl, h⟩ := h
      split at h
      · next l k' z j hx hi hj =>
        obtain ⟨h0, h1, h⟩ := h
        obtain ⟨d, hd, hs⟩ := rdiK_spec h
        exact ⟨_, _, hd, ok_index ho hY he hl hx hi hj h0 h1 hs⟩
      · exact h.elim
  case h_13 t x f ho =>
    split at h
    · exact h.elim
    · next i hY =>
      split at h
      · next off ft l hf hft hx =>
        split at h
        · next j hj =>
          obtain ⟨d, hd, hs⟩ := rdK_spec h
          exact ⟨_, _, hd, ok_field ho hY hf hft hx hj hs⟩
        · exact h.elim
      · exact h.elim
  case h_14 t parts ho =>
    split at h
    · exact h.elim
    · next i hY =>
      obtain ⟨ha, hl, h⟩ := h
      obtain ⟨l, hK, hr⟩ := ok_build ho hY ha hl h
      exact ⟨_, _, hK, hr⟩
  case h_15 src dst x ho =>
    split at h
    · next si i k' z hs hY hx =>
      split at h
      · next q hq => exact ⟨_, _, h, ok_conv ho hs hY hx hq⟩
      · exact h.elim
    · exact h.elim
  case h_16 t x lo hi mx ho =>
    split at h
    · next i b base hY hx => exact ⟨_, _, h.2.2.2, ok_win ho hY h.1 h.2.1 h.2.2.1 hx⟩
    · exact h.elim
  case h_17 c ho =>
    split at h
    · next f hc => exact ok_call ho hc h
    · next hc =>
      split at h
      · next x t ha ht =>
        split at h
        · next i hY =>
          obtain ⟨h1, h⟩ := h
          split at h
          · next n l hx => exact ⟨_, _, h, ok_len ho hc ha ht hY h1 (.inl ⟨l, hx⟩)⟩
          · next b n hx =>
            split at h
            · next e sz m l hk =>
              obtain ⟨rfl, h⟩ := h
              exact ⟨_, _, h, ok_len ho hc ha ht hY h1 (.inr (.inl ⟨b, e, sz, l, hx, hk⟩))⟩
            · exact h.elim
          · next b base n hx => exact ⟨_, _, h, ok_len ho hc ha ht hY h1 (.inr (.inr (.inl ⟨b, base, hx⟩)))⟩
          · next hx => exact ⟨_, _, h, ok_len ho hc ha ht hY h1 (.inr (.inr (.inr ⟨rfl, hx⟩)))⟩
          · exact h.elim
        · exact h.elim
      · exact h.elim
    · exact h.elim
  case h_18 => exact h.elim
end
end Go.Proofs.Ytmddonmjigkjoaa
