/-
  Two books, alike: what is told of both.
-/
import Derived.Test.YtanpamcecaoanaaHX2
import Derived.Test.YtanpamcecaoanaaHX1
namespace Go.Proofs.Ytanpamcecaoanaa
set_option maxRecDepth 100000
open Go.RowKit
set_option linter.unusedVariables false
set_option linter.unusedSimpArgs false
attribute [local irreducible] condK LoopA regA hasV getV

abbrev bkR (z : Nat) (x : BS) : OP := rootP z (bkP x) rfl
def lenR : Nat → OP → List A → (Res → OP → Prop) → Prop
  | 0, q, [], K => ∃ z x, q = bkR z x ∧ K (.d (.v (.int .i64 x.L.length))) (bkR z x)
  | _, _, _, _ => False
theorem lenR_ok : ∀ pos p args K, lenR pos p args K → ∃ r p', FnB Try.prog gTab 18 pos p args r p' ∧ K r p' := by
  intro pos p args K h
  unfold lenR at h
  split at h
  · obtain ⟨z, x, rfl, h⟩ := h; exact ⟨_, _, FnB.root rfl rfl z (lenB_ok x), h⟩
  · exact h.elim
def holdsR : Nat → OP → List A → (Res → OP → Prop) → Prop
  | 0, q, [.v (.int .i64 e)], K => ∃ z x, q = bkR z x ∧ ∀ h b, h = getV x.L e → b = hasV x.L e → K (.t [.agg [.bytes 32 h], .v (.bool b)]) (bkR z x)
  | _, _, _, _ => False
theorem holdsR_ok : ∀ pos p args K, holdsR pos p args K → ∃ r p', FnB Try.prog gTab 19 pos p args r p' ∧ K r p' := by
  intro pos p args K h
  unfold holdsR at h
  split at h
  · obtain ⟨z, x, rfl, h⟩ := h; exact ⟨_, _, FnB.root rfl rfl z (holdsB_ok x _), h _ _ rfl rfl⟩
  · exact h.elim
def xholdsS : List A → (Res → Prop) → Prop
  | [.sref [.gen 1 [.recs n 33 F], .ints .i64 1 [s]] 0, .v (.int .i64 e)], K => ∃ L : List Ln, n = L.length ∧ F = lineF L ∧ L.length ≤ 1000000 ∧ ∀ h b, h = getV L e → b = hasV L e → K (.t [.agg [.bytes 32 h], .v (.bool b)])
  | _, _ => False
theorem xholdsS_ok : ∀ args K, xholdsS args K → ∃ r, FnO 20 args r ∧ K r := by
  intro args K h
  unfold xholdsS at h
  split at h
  · obtain ⟨L, rfl, rfl, hL, h⟩ := h; exact ⟨_, xholds_fn L _ _ hL, h _ _ rfl rfl⟩
  · exact h.elim
noncomputable def envE1 : EnvX := env0.addB 18 lenR lenR_ok ⟨_, Try.func18, by kernel_rfl, by kernel_rfl⟩
noncomputable def envE2 : EnvX := envE1.addB 19 holdsR holdsR_ok ⟨_, Try.func19, by kernel_rfl, by kernel_rfl⟩
noncomputable def envE3 : EnvX := envE2.add 20 xholdsS xholdsS_ok ⟨_, Try.func20, by kernel_rfl, by kernel_rfl⟩
set_option maxHeartbeats 2000000 in
theorem alike_B (x : BS) (hx : x.L.length ≤ 1000) (n : Nat) (g : Nat → Ac) (hn : n ≤ 140737488351232) : FnB Try.prog gTab 10 0 (bkP x) [.sref (xSegs x.L x.s) 0, .recs n 34 fun j => acF (g j)] (.d (.v (.bool true))) (bkP x) := by
  refine fnB_of_wpA (E := envE3) (n := 62) (tm := 6) Try.func10 Try.ntmps10 rfl rfl rfl rfl (by exact Nat.le_of_ble_eq_true rfl) (by (conv => lhs; simp only [Seg.n, wn1, wn2, wn3, wn4, wn5, wn6, wn7, wn8, wn9, wn10, wn11, wn12, wn13, wn14, wn15, wn16, Int.reduceAdd, Int.zero_add, Seg.cell, Seg.sub, List.set_nil, isAlloc, trimH, List.take_append_drop, St.app, St.app2, St.ev, List.getD_cons_zero, List.getD_cons_succ, List.getD_nil, St.sl, St.bk, tiInt, tiBool, tiSl, tiArr, tiStruct, weaken, keepT, List.set_cons_zero, List.set_cons_succ, List.length_cons, List.length_nil, List.cons_append, List.nil_append, List.append_nil, List.map_cons, List.map_nil, List.replicate_succ, List.replicate_zero, List.take_succ_cons, List.take_zero, List.drop_succ_cons, List.drop_zero, List.take_nil, List.drop_nil, Nat.reduceAdd, Nat.reduceSub, Nat.reduceMul, Nat.reduceEqDiff, Nat.reduceLT, Nat.reduceLeDiff, Nat.zero_add, Nat.add_zero, Nat.sub_self, Nat.sub_zero, Nat.one_mul, Nat.mul_one, Nat.zero_mul, joinS, manyS, List.flatten_cons, List.flatten_nil, eq_self, ite_true, if_true, if_false, ↓reduceIte, reduceCtorEq, Int.reduceToNat]); all_goals exact rfl) ?_
  intro z
  unfold xSegs
  refine agow ?_; (try with_reducible exact True.intro)
  refine ⟨z, x, rfl, ?_⟩
  refine agow ?_; (try with_reducible exact True.intro)
  refine StopL.mk (loop_forG [0, 1, 2, 6, 7] [0] (min n 120) (fun j => ⟨[.ob 0, .d (.sref [.gen 1 [.recs x.L.length 33 (lineF x.L)], .ints .i64 1 [(x.s : Int)]] 0), .d (.recs n 34 fun j => acF (g j)), .dead, .dead, .dead, .d (.v (.bool false)), .d (.v (.int .i64 (j : Nat))), .dead, .dead, .dead, .dead, .dead, .dead, .dead, .dead, .dead, .dead, .dead, .dead, .dead, .dead, .dead, .dead, .dead, .dead, .dead, .dead, .dead, .dead, .dead, .dead, .dead, .dead, .dead, .dead, .dead, .dead, .dead, .dead, .dead, .dead, .dead, .dead, .dead, .dead, .dead, .dead, .dead, .dead, .dead, .dead, .dead, .dead, .dead, .dead, .dead, .dead, .dead, .dead, .dead, .dead], [some (.abs (bkR z x))]⟩) ?_)
  intro j hj hl
  have hN : min n 120 ≤ n ∧ min n 120 ≤ 120 := by omega
  by_cases h : j < min n 120
  · have h4 : (j : Int) < (n : Int) := by omega
    have h5 : (j : Int) < 120 := by omega
    clear hN
    refine agow ?_; (try with_reducible exact True.intro)
    refine ⟨z, x, rfl, ?_⟩
    intro h1 b1 e1 e2
    refine agow ?_; (try with_reducible exact True.intro)
    intro h2 b2 e3 e4
    obtain rfl : h2 = h1 := e3.trans e1.symm
    obtain rfl : b2 = b1 := e4.trans e2.symm
    clear e1 e2 e3 e4
    have q : eqSegs [.bytes 32 h2] [.bytes 32 h2] = true := by simp [eqSegs]
    cases b2
    · refine agow ?_; (try with_reducible exact True.intro)
      refine hl.go h [0, 1, 2, 6, 7] [0] ?_
      rfl
    · refine agow ?_; (try with_reducible exact True.intro)
      refine hl.go h [0, 1, 2, 6, 7] [0] ?_
      rfl
  · obtain rfl : j = min n 120 := by omega
    have hx : ¬ ((min n 120 : Nat) : Int) < (n : Int) ∨ (((min n 120 : Nat) : Int) < (n : Int) ∧ ¬ ((min n 120 : Nat) : Int) < 120) := by omega
    rcases hx with hx | ⟨hx, hy⟩
    · refine agow ?_; (try with_reducible exact True.intro)
      rfl
    · refine agow ?_; (try with_reducible exact True.intro)
      rfl
end Go.Proofs.Ytanpamcecaoanaa

/-
  A variable of one's own that is told of as an object from here on.
-/
namespace Go.Proofs.Ytanpamcecaoanaa
set_option maxRecDepth 100000
open Go.RowKit
set_option linter.unusedVariables false
set_option linter.unusedSimpArgs false

theorem RB.re {base : Nat} {D D' : Nat → Prop} {ρ ρ' : Nat → Option Value} {w : World} {b : Nat} {o : Option Bk} (k : Keeps D w D' w) (h : ρ' b = ρ b) (h0 : ρ' 0 = ρ 0) (hR : RB base D ρ w b o) : RB base D' ρ' w b o := by
  cases o with
  | none => exact h.trans hR
  | some x =>
    cases x with
    | var l => obtain ⟨r, cs, t, e, _, h2, h3⟩ := hR; exact ⟨r, cs, t, h.trans e, trivial, h2, h3.up k⟩
    | sl e sz n l => obtain ⟨u, cs, e, h2, h3⟩ := hR; exact ⟨u, cs, h.trans e, h2, h3.up k⟩
    | obj p => obtain ⟨r, cs, t, e, _, h2, h3⟩ := hR; exact ⟨r, cs, t, h.trans e, trivial, h2, h3⟩
    | abs p => obtain ⟨r, F, e, h2, h3⟩ := hR; exact ⟨r, F, h.trans e, h2, p.up k (fun _ _ => rfl) h3⟩
    | vh l off p e sz n m => obtain ⟨r, cs, t, su, ms, e1, e2, e3, e4, e5, e6, e7, e8⟩ := hR; exact ⟨r, cs, t, su, ms, h.trans e1, e2, e3, e4, e5.up k, e6.up k, e7, e8⟩
    | gone => obtain ⟨n, e⟩ := hR; exact ⟨n, h.trans e⟩
    | bx => obtain ⟨h1, q, r, t, e1, e2, e3⟩ := hR; exact ⟨h1, q, r, t, h.trans e1, e2, h0.trans e3⟩
def toOb (b : Nat) : T → T
  | .ptr c 0 => if c = b then .ob b else .ptr c 0
  | t => t
def obOK (b : Nat) : T → Bool
  | .ptr _ 0 => true
  | t => !t.refs.contains b
theorem toOb_ref {b : Nat} {t : T} (h : obOK b t = true) : (toOb b t = t ∧ b ∉ t.refs) ∨ (t = .ptr b 0 ∧ toOb b t = .ob b) := by
  unfold obOK at h
  split at h
  · next c =>
    by_cases e : c = b
    · exact .inr ⟨by rw [e], by simp [toOb, e]⟩
    · exact .inl ⟨by simp [toOb, e], by simp [T.refs]; exact fun e2 => e e2.symm⟩
  · next hn =>
    refine .inl ⟨?_, by simpa using h⟩
    unfold toOb
    split
    · next c => exact (hn c rfl).elim
    · rfl
theorem Ent.absV {s : St} {b : Nat} {l : List Seg} (p : OP) (hb0 : b ≠ 0) (hb : s.bk b = some (.var l)) (hp : ∀ (D : Nat → Prop) (w : World) (r : Nat) (cs : List Value) (t : TypeId), w.heap[r]? = some (.cells (List.toArray cs) t (0, 0)) → RL D w l cs → p.p D w [r] r) (hs : s.t.all (obOK b) = true) :
    Ent s ⟨s.t.map (toOb b), s.h.set b (some (.abs p))⟩ := ⟨fun G S base w0 ρ a w g => by
  obtain ⟨r, cs, ty, h1, _, h2, h3⟩ := g.var hb
  refine ⟨upd ρ b (some (fpv [r])), ?_⟩
  have hlt := bk_lt hb
  have hu0 : upd ρ b (some (fpv [r])) b = some (fpv [r]) := by simp [upd]
  have hu : ∀ b', b' ≠ b → upd ρ b (some (fpv [r])) b' = ρ b' := fun b' hb' => by simp [upd, hb']
  have hRl : ∀ b' u z, upd ρ b (some (fpv [r])) b' = some u → Rl u z → ∃ u', ρ b' = some u' ∧ Rl u' z := fun b' u z e1 e2 => by
    by_cases e : b' = b
    · subst e
      rw [hu0] at e1; cases e1
      have : z = r := by simpa using rl_fpv.1 e2
      exact ⟨_, h1, this.symm⟩
    · rw [hu b' e] at e1; exact ⟨u, e1, e2⟩
  have D : Keeps (Dt S base ρ) w (Dt S base (upd ρ b (some (fpv [r])))) w := toKeeps fun z hz => ⟨hz.1, fun b' u e1 e2 => by
    obtain ⟨u', e3, e4⟩ := hRl b' u z e1 e2
    exact hz.2 b' u' e3 e4⟩
  have hsl : ∀ i, St.sl ⟨s.t.map (toOb b), s.h.set b (some (.abs p))⟩ i = toOb b (s.sl i) := fun i => by
    simp only [St.sl, List.getD_eq_getElem?_getD, List.getElem?_map]
    cases s.t[i]? <;> rfl
  have hok : ∀ i, obOK b (s.sl i) = true := fun i => by
    simp only [St.sl, List.getD_eq_getElem?_getD]
    cases e : s.t[i]? with
    | none => rfl
    | some t => exact List.all_eq_true.1 hs t (List.mem_of_getElem? e)
  have hbk : St.bk ⟨s.t.map (toOb b), s.h.set b (some (.abs p))⟩ b = some (.abs p) := by simp [St.bk, hlt]
  have hbk2 : ∀ b', b' ≠ b → St.bk ⟨s.t.map (toOb b), s.h.set b (some (.abs p))⟩ b' = s.bk b' := fun b' hb' => by
    simp only [St.bk, getD_set_list]; rw [if_neg (fun e => hb' e.1.symm)]
  refine ⟨by simpa using g.len, fun i hi => ?_, fun b' => ?_, fun i b' hm => ?_, fun b1 b2 u1 u2 z e1 e2 e3 e4 => ?_, fun b' u z e1 e2 => ?_, g.bel, g.glob.up D, fun q hq => ?_, g.size, g.defs⟩
  · rw [hsl]
    rcases toOb_ref (hok i) with ⟨e1, e2⟩ | ⟨e1, e2⟩
    · rw [e1]
      exact (g.t i hi).up D fun b' hb' => hu b' fun e => e2 (e ▸ hb')
    · rw [e2]
      have h4 := g.t i hi
      rw [e1] at h4
      obtain ⟨r', h5, h6⟩ := h4 _ h1
      obtain rfl := h5.ptr
      intro u hu'
      rw [hu0] at hu'; cases hu'
      exact ⟨r, [], rfl, h6⟩
  · by_cases e : b' = b
    · subst e
      rw [hbk]
      refine ⟨r, [], hu0, fun z hz => ?_, p.up D (fun _ _ => rfl) (hp _ w r cs ty h2 h3)⟩
      obtain rfl : z = r := by simpa using hz
      exact (Array.getElem?_eq_some_iff.1 h2).1
    · rw [hbk2 b' e]
      exact RB.re D (hu b' e) (hu 0 (fun e => hb0 e.symm)) (g.b b')
  · rw [hsl] at hm
    rcases toOb_ref (hok i) with ⟨e1, e2⟩ | ⟨e1, e2⟩
    · rw [e1] at hm
      rw [hbk2 b' fun e => e2 (e ▸ hm)]
      exact g.dang i b' hm
    · rw [e2] at hm
      have : b' = b := by simpa [T.refs] using hm
      subst this
      rw [hbk]; simp
  · obtain ⟨u1', k1, k2⟩ := hRl b1 u1 z e1 e3
    obtain ⟨u2', k3, k4⟩ := hRl b2 u2 z e2 e4
    exact g.inj b1 b2 u1' u2' z k1 k3 k2 k4
  · obtain ⟨u', k1, k2⟩ := hRl b' u z e1 e2
    exact g.low b' u' z k1 k2
  · rw [hu 0 (fun e => hb0 e.symm)]; exact g.pin q hq⟩
theorem GW.entU {E : EnvX} {s s' : St} {k : Exit → St → Prop} {c : Code} (h : Ent s s') (g : GW E c s' k) : GW E c s k := ⟨fun S base w0 ρ a w g0 => by
  obtain ⟨ρ', g1⟩ := h.out _ _ _ _ _ _ _ g0
  exact g.out S base w0 ρ' a w g1⟩
/-- a variable becomes an object; of the rest only this is kept -/
theorem GW.absG {E : EnvX} {s : St} {k : Exit → St → Prop} {c : Code} (live bs : List Nat) (b : Nat) {l : List Seg} (p : OP) (s' : St) (hp : ∀ (D : Nat → Prop) (w : World) (r : Nat) (cs : List Value) (t : TypeId), w.heap[r]? = some (.cells (List.toArray cs) t (0, 0)) → RL D w l cs → p.p D w [r] r)
    (h : GW E c ⟨s'.t.map (toOb b), s'.h.set b (some (.abs p))⟩ k) (hb0 : b ≠ 0) (ok : gatOK live bs s = true := by exact rfl) (h2 : gather live bs s = s' := by exact rfl) (hb : s'.bk b = some (.var l) := by exact rfl) (hs : s'.t.all (obOK b) = true := by exact rfl) : GW E c s k := by
  subst h2
  exact GW.entU (Ent.trans (Ent.gather ok) (Ent.absV p hb0 hb hp hs)) h
end Go.Proofs.Ytanpamcecaoanaa

/-
  Of every script each answer, and what is held.
-/
namespace Go.Proofs.Ytanpamcecaoanaa
set_option maxRecDepth 100000
open Go.RowKit
set_option linter.unusedVariables false
set_option linter.unusedSimpArgs false
attribute [local irreducible] condK LoopA regA hasV getV

def xflushS : Nat → OP → List A → (Res → OP → Prop) → Prop
  | 0, q, [], K => ∃ x : BS, q = xkP x ∧ K (.t []) (xkP (flushB x))
  | _, _, _, _ => False
theorem xflushS_ok : ∀ pos p args K, xflushS pos p args K → ∃ r p', FnB Try.prog gTab 8 pos p args r p' ∧ K r p' := by
  intro pos p args K h
  unfold xflushS at h
  split at h
  · obtain ⟨x, rfl, h⟩ := h; exact ⟨_, _, xflushB_ok x, h⟩
  · exact h.elim
def xwriteS : Nat → OP → List A → (Res → OP → Prop) → Prop
  | 0, q, [.v (.int .i64 e), .agg [.bytes 32 p]], K => ∃ x : BS, q = xkP x ∧ K (.d (.v (.int .i64 (writeE x e p)))) (xkP (writeB x e p))
  | _, _, _, _ => False
theorem xwriteS_ok : ∀ pos p args K, xwriteS pos p args K → ∃ r p', FnB Try.prog gTab 6 pos p args r p' ∧ K r p' := by
  intro pos p args K h
  unfold xwriteS at h
  split at h
  · obtain ⟨x, rfl, h⟩ := h; exact ⟨_, _, xwriteB_ok x _ _, h⟩
  · exact h.elim
def xcrashS : Nat → OP → List A → (Res → OP → Prop) → Prop
  | 0, q, [.v (.int .i64 k)], K => ∃ x : BS, q = xkP x ∧ (-9223372036854775808 ≤ k ∧ k ≤ 9223372036854775807) ∧ K (.ob (xkP (crashB x k))) (xkP x)
  | _, _, _, _ => False
theorem xcrashS_ok : ∀ pos p args K, xcrashS pos p args K → ∃ r p', FnB Try.prog gTab 11 pos p args r p' ∧ K r p' := by
  intro pos p args K h
  unfold xcrashS at h
  split at h
  · obtain ⟨x, rfl, hk, h⟩ := h; exact ⟨_, _, xcrashB_ok x _ hk, h⟩
  · exact h.elim
def alikeS : Nat → OP → List A → (Res → OP → Prop) → Prop
  | 0, q, [.sref l 0, .recs n 34 G], K => ∃ x : BS, q = bkP x ∧ l = xSegs x.L x.s ∧ n ≤ 140737488351232 ∧ x.L.length ≤ 1000 ∧ (∃ g : Nat → Ac, G = fun j => acF (g j)) ∧ K (.d (.v (.bool true))) (bkP x)
  | _, _, _, _ => False
theorem alikeS_ok : ∀ pos p args K, alikeS pos p args K → ∃ r p', FnB Try.prog gTab 10 pos p args r p' ∧ K r p' := by
  intro pos p args K h
  unfold alikeS at h
  split at h
  · obtain ⟨x, rfl, rfl, hn, hx, ⟨g, rfl⟩, h⟩ := h; exact ⟨_, _, alike_B x hx _ g hn, h⟩
  · exact h.elim
noncomputable def envF1 : EnvX := envB8.addB 6 xwriteS xwriteS_ok ⟨_, Try.func6, by kernel_rfl, by kernel_rfl⟩
noncomputable def envF2 : EnvX := envF1.addB 8 xflushS xflushS_ok ⟨_, Try.func8, by kernel_rfl, by kernel_rfl⟩
noncomputable def envF3 : EnvX := envF2.addB 11 xcrashS xcrashS_ok ⟨_, Try.func11, by kernel_rfl, by kernel_rfl⟩
noncomputable def envF4 : EnvX := envF3.addB 10 alikeS alikeS_ok ⟨_, Try.func10, by kernel_rfl, by kernel_rfl⟩
def stepX (a : Ac) (x : BS) : BS := if a.1 = 1 then writeB x a.2.1 a.2.2 else if a.1 = 2 then flushB x else crashB x a.2.1
def locP (g : Nat → Ac) : Nat → BS
  | 0 => ⟨[], 0, 0⟩
  | j + 1 => stepX (g j) (locP g j)
theorem writeB_le {x : BS} (h : x.s ≤ x.L.length ∧ x.L.length ≤ 100) (e : Int) (p : List UInt8) : (writeB x e p).s ≤ (writeB x e p).L.length ∧ (writeB x e p).L.length ≤ 100 ∧ (writeB x e p).f = x.f := by
  unfold writeB
  split
  · exact ⟨h.1, h.2, rfl⟩
  · split
    · exact ⟨h.1, h.2, rfl⟩
    · split
      · exact ⟨h.1, h.2, rfl⟩
      · refine ⟨?_, ?_, rfl⟩
        · simp; omega
        · simp; omega
theorem locP_le (g : Nat → Ac) : ∀ j, ((locP g j).s ≤ (locP g j).L.length ∧ (locP g j).L.length ≤ 100) ∧ (locP g j).f ≤ j
  | 0 => ⟨⟨Nat.le_refl _, Nat.zero_le _⟩, Nat.le_refl _⟩
  | j + 1 => by
    obtain ⟨h, hf⟩ := locP_le g j
    show ((stepX (g j) (locP g j)).s ≤ (stepX (g j) (locP g j)).L.length ∧ (stepX (g j) (locP g j)).L.length ≤ 100) ∧ (stepX (g j) (locP g j)).f ≤ j + 1
    unfold stepX
    split
    · obtain ⟨h1, h2, h3⟩ := writeB_le h (g j).2.1 (g j).2.2
      exact ⟨⟨h1, h2⟩, by rw [h3]; omega⟩
    · split
      · exact ⟨⟨Nat.le_refl _, h.2⟩, by show (locP g j).f + 1 ≤ _; omega⟩
      · have hl := leftN_le h.1 (g j).2.1
        have hcl : ((locP g j).L.take (leftN (locP g j).L.length (locP g j).s (g j).2.1)).length = leftN (locP g j).L.length (locP g j).s (g j).2.1 := by rw [List.length_take]; exact Nat.min_eq_left hl
        exact ⟨⟨Nat.le_of_eq hcl.symm, by show ((locP g j).L.take _).length ≤ 100; omega⟩, Nat.zero_le _⟩
theorem x_zero (D : Nat → Prop) (w : World) (r : Nat) (cs : List Value) (t : TypeId) (h : w.heap[r]? = some (.cells (List.toArray cs) t (0, 0))) (hl : RL D w [.gen 1 [.v (.slice none 0 0)], .ints .i64 1 [0]] cs) : (xkP ⟨[], 0, 0⟩).p D w [r] r := by
  obtain ⟨c, d, rfl, h2, h3, _⟩ := hl.head
  obtain ⟨_, h4⟩ := h2.toGen
  obtain ⟨_, rfl⟩ := h3.toInts
  cases h4 with
  | cons a _ b =>
    cases a; cases b
    exact XW.toQ (x := ⟨[], 0, 0⟩) (t := t) (v := .slice none 0 0) (F := []) ⟨h, ⟨rfl, .inl ⟨rfl, rfl⟩⟩, by simp [Value.ownBlock], by simp⟩ (fun q e => by cases e) (Nat.le_refl _) (Nat.zero_le _) D
theorem GW.more {E : EnvX} {t : List T} {k : Exit → St → Prop} {c : Code} (g : GW E c ⟨t, [none]⟩ k) : GW E c ⟨t, []⟩ k := GW.entU ⟨fun G S base w0 ρ a w g0 => ⟨ρ, g0.sim (Sim.more ⟨t, []⟩ 1)⟩⟩ g
set_option maxHeartbeats 4000000 in
theorem bookPlays_ok (n : Nat) (g : Nat → Ac) (hn : n ≤ 140737488351232) (hg : ∀ j, j < n → -9223372036854775808 ≤ (g j).2.1 ∧ (g j).2.1 ≤ 9223372036854775807) :
    FnO 3 [.recs n 34 fun j => acF (g j)] (.d (.v (.bool true))) := by
  refine fnGW (E := envF4) Try.func3 Try.ntmps3 ?_
  by_cases h2 : (n : Int) > 10000
  · refine GW.of ?_
    refine agow ?_; (try with_reducible exact True.intro)
  refine GW.more ?_
  refine GW.seq (GW.of ?_)
  refine agow ?_; (try with_reducible exact True.intro)
  refine GW.seq (GW.of ?_)
  refine agow ?_; (try with_reducible exact True.intro)
  refine GW.seq (GW.of ?_)
  refine agow ?_; (try with_reducible exact True.intro)
  refine GW.absG [0, 2, 3, 4] [0, 1, 2] 2 (xkP ⟨[], 0, 0⟩) ⟨[.d (.recs n 34 fun j => acF (g j)), .dead, .d (.v (.bool false)), .ob 1, .ptr 2 0, .dead, .dead, .dead, .dead, .dead, .dead, .dead, .dead, .dead, .dead, .dead, .dead, .dead, .dead, .dead, .dead, .dead, .dead, .dead, .dead, .dead, .dead, .dead, .dead, .dead, .dead, .dead, .dead, .dead, .dead, .dead, .dead, .dead, .dead, .dead, .dead, .dead, .dead, .dead, .dead, .dead, .dead, .dead, .dead, .dead, .dead, .dead, .dead, .dead, .dead, .dead, .dead, .dead, .dead, .dead, .dead, .dead, .dead, .dead, .dead, .dead, .dead, .dead, .dead, .dead, .dead, .dead, .dead, .dead, .dead, .dead, .dead, .dead, .dead, .dead, .dead, .dead, .dead, .dead, .dead, .dead, .dead, .dead, .dead, .dead, .dead, .dead, .dead, .dead, .dead], [none, some (.abs (bkP ⟨[], 0, 0⟩)), some (.var [.gen 1 [.v (.slice none 0 0)], .ints .i64 1 [0]])]⟩ x_zero ?_ (by decide)
  change GW envF4 _ ⟨[.d (.recs n 34 fun j => acF (g j)), .dead, .d (.v (.bool false)), .ob 1, .ob 2, .dead, .dead, .dead, .dead, .dead, .dead, .dead, .dead, .dead, .dead, .dead, .dead, .dead, .dead, .dead, .dead, .dead, .dead, .dead, .dead, .dead, .dead, .dead, .dead, .dead, .dead, .dead, .dead, .dead, .dead, .dead, .dead, .dead, .dead, .dead, .dead, .dead, .dead, .dead, .dead, .dead, .dead, .dead, .dead, .dead, .dead, .dead, .dead, .dead, .dead, .dead, .dead, .dead, .dead, .dead, .dead, .dead, .dead, .dead, .dead, .dead, .dead, .dead, .dead, .dead, .dead, .dead, .dead, .dead, .dead, .dead, .dead, .dead, .dead, .dead, .dead, .dead, .dead, .dead, .dead, .dead, .dead, .dead, .dead, .dead, .dead, .dead, .dead, .dead, .dead], [none, some (.abs (bkP ⟨[], 0, 0⟩)), some (.abs (xkP ⟨[], 0, 0⟩))]⟩ _
  refine GW.of ?_
  refine agow ?_; (try with_reducible exact True.intro)
  refine StopL.mk (loop_forG [0, 2, 3, 4, 5] [0, 1, 2] (min n 120) (fun j => ⟨[.d (.recs n 34 fun j => acF (g j)), .dead, .d (.v (.bool false)), .ob 1, .ob 2, .d (.v (.int .i64 (j : Nat))), .dead, .dead, .dead, .dead, .dead, .dead, .dead, .dead, .dead, .dead, .dead, .dead, .dead, .dead, .dead, .dead, .dead, .dead, .dead, .dead, .dead, .dead, .dead, .dead, .dead, .dead, .dead, .dead, .dead, .dead, .dead, .dead, .dead, .dead, .dead, .dead, .dead, .dead, .dead, .dead, .dead, .dead, .dead, .dead, .dead, .dead, .dead, .dead, .dead, .dead, .dead, .dead, .dead, .dead, .dead, .dead, .dead, .dead, .dead, .dead, .dead, .dead, .dead, .dead, .dead, .dead, .dead, .dead, .dead, .dead, .dead, .dead, .dead, .dead, .dead, .dead, .dead, .dead, .dead, .dead, .dead, .dead, .dead, .dead, .dead, .dead, .dead, .dead, .dead], [none, some (.abs (bkP (locP g j))), some (.abs (xkP (locP g j)))]⟩) ?_)
  intro j hj hl
  obtain ⟨⟨hs1, hs2⟩, hf⟩ := locP_le g j
  have hN : min n 120 ≤ n ∧ min n 120 ≤ 120 := by omega
  by_cases h : j < min n 120
  · have h4 : (j : Int) < (n : Int) := by omega
    have h5 : (j : Int) < 120 := by omega
    have hk := hg j (by omega)
    have hff : (locP g j).f ≤ 1000 := by omega
    have hLL : (locP g j).L.length ≤ 1000 := by omega
    by_cases k1 : (g j).1 = 1
    · have e1 : ((g j).1 == 1) = true := by simpa using k1
      have hs : locP g (j + 1) = writeB (locP g j) (g j).2.1 (g j).2.2 := if_pos k1
      have hL2 : (writeB (locP g j) (g j).2.1 (g j).2.2).L.length ≤ 1000 := by have := (writeB_le ⟨hs1, hs2⟩ (g j).2.1 (g j).2.2).2.1; omega
      clear hf hg hN hs1 hs2 k1
      refine agow ?_; (try with_reducible exact True.intro)
      refine ⟨⟨g, rfl⟩, fun _ => ⟨rfl, rfl⟩, ?_⟩
      refine agow ?_; (try with_reducible exact True.intro)
      refine hl.go h [0, 2, 3, 4, 5] [0, 1, 2] ?_
      rw [hs]; rfl
    · have e1 : ((g j).1 == 1) = false := by simpa using k1
      by_cases k2 : (g j).1 = 2
      · have e2 : ((g j).1 == 2) = true := by simpa using k2
        have hs : locP g (j + 1) = flushB (locP g j) := (if_neg k1).trans (if_pos k2)
        have hL2 : (flushB (locP g j)).L.length ≤ 1000 := hLL
        clear hf hg hN hs1 hs2 k1 k2
        refine agow ?_; (try with_reducible exact True.intro)
        refine ⟨⟨g, rfl⟩, fun _ => ⟨rfl, rfl⟩, ?_⟩
        refine agow ?_; (try with_reducible exact True.intro)
        refine hl.go h [0, 2, 3, 4, 5] [0, 1, 2] ?_
        rw [hs]; rfl
      · have e2 : ((g j).1 == 2) = false := by simpa using k2
        have hs : locP g (j + 1) = crashB (locP g j) (g j).2.1 := (if_neg k1).trans (if_neg k2)
        have hL2 : (crashB (locP g j) (g j).2.1).L.length ≤ 1000 := by
          show ((locP g j).L.take _).length ≤ 1000
          rw [List.length_take]; omega
        clear hf hg hN hs1 hs2 k1 k2
        refine agow ?_; (try with_reducible exact True.intro)
        refine ⟨⟨g, rfl⟩, fun _ => ⟨rfl, rfl⟩, ?_⟩
        refine agow ?_; (try with_reducible exact True.intro)
        refine ⟨⟨g, rfl⟩, fun _ => ⟨rfl, rfl⟩, ?_⟩
        refine agow ?_; (try with_reducible exact True.intro)
        refine hl.go h [0, 2, 3, 4, 5] [0, 3, 4] ?_
        rw [hs]; rfl
  · obtain rfl : j = min n 120 := by omega
    have hx : ¬ ((min n 120 : Nat) : Int) < (n : Int) ∨ (((min n 120 : Nat) : Int) < (n : Int) ∧ ¬ ((min n 120 : Nat) : Int) < 120) := by omega
    clear hf hg hs1 hs2
    rcases hx with hx | ⟨hx, hy⟩
    · refine agow ?_; (try with_reducible exact True.intro)
    · refine agow ?_; (try with_reducible exact True.intro)
theorem gok_none11 {w : World} : GOK gTab (fun _ => True) w := fun q l h => by cases h
theorem bookPlays_walk {w : World} (v : Value) (n : Nat) (g : Nat → Ac) (hn : n ≤ 140737488351232) (hg : ∀ j, j < n → -9223372036854775808 ≤ (g j).2.1 ∧ (g j).2.1 ≤ 9223372036854775807) (hv : RA (fun _ => True) w (.recs n 34 fun j => acF (g j)) v) :
    Calls Try.prog 3 #[v] w fun e w' => e = .returned (.bool true) ∧ Below w.heap.size w w' :=
  law_of_fn (bookPlays_ok n g hn hg) gok_none11 (.cons hv .nil)
end Go.Proofs.Ytanpamcecaoanaa
