/-
  The operations of the machine without memory are the program's. No program is named here.
-/
import Derived.Test.YtcfdlffjghlghaaA5
namespace Go.Proofs.Ytcfdlffjghlghaa
set_option maxRecDepth 100000
open Go.RowKit
set_option linter.unusedVariables false
set_option linter.unusedSimpArgs false

def St.app (s : St) (dst : Option Nat) (t : T) (blk : Option (Nat × Bk)) : St :=
  ⟨match dst with | some d => s.t.set d t | none => s.t, match blk with | some (b, x) => s.h.set b (some x) | none => s.h⟩

section
variable {S : Nat → Prop} {base : Nat} {G : Nat → Option (List Seg)} {w0 : W0 G} {s : St} {ρ : Nat → Option Value} {a : Act} {w : World} {P : Program}

theorem Good.ev (g : Good S base w0 s ρ a w) (x : Operand) : RT (Dt S base ρ) ρ w (s.ev x) (a.eval x) := by
  cases x with
  | tmp i =>
    by_cases hi : i < a.tmps.size
    · exact g.t i hi
    · have : s.ev (.tmp i) = .dead := by
        show s.t.getD i .dead = .dead
        rw [List.getD_eq_getElem?_getD, List.getElem?_eq_none (by rw [g.len]; exact Nat.le_of_not_lt hi)]; rfl
      rw [this]; trivial
  | const v => exact .v v
  | func f => exact .v _
  | global g => trivial
theorem Good.evRefs (g : Good S base w0 s ρ a w) (x : Operand) : ∀ b ∈ (s.ev x).refs, s.bk b ≠ none := by
  cases x with
  | tmp i => exact g.dang i
  | const v => intro b hb; simp [St.ev, T.refs] at hb
  | func f => intro b hb; simp [St.ev, T.refs] at hb
  | global g => intro b hb; simp [St.ev, T.refs] at hb

/-- an operation that only gives a value -/
theorem pure_op {o : Oper} {K : Act → World → Prop} {Q : Exit → Act → World → Prop} (g : Good S base w0 s ρ a w) {v : Value} {t : T} (hr : (execOp a.eval o).run P w = .ok (.value v) w)
    (ht : RT (Dt S base ρ) ρ w t v) (hrefs : ∀ b ∈ t.refs, s.bk b ≠ none) (hK : ∀ a' w' ρ', Good S base w0 (s.app o.dst t none) ρ' a' w' → K a' w') : o.wp P a w K Q := by
  unfold Oper.wp
  rw [hr]
  exact hK _ _ ρ (g.put' o.dst ht hrefs)

theorem run_loadVar_agg {t : TypeId} {i : TI} (hY : TyOK P t i) (ha : i.agg = true) {r off : Nat} {cs : List Value} (hl : cs.length = i.sz) (hc : ∀ j (h : j < cs.length), w.cell? ⟨r, off + j, none⟩ = some cs[j]) :
    (loadVar t ⟨r, off, none⟩).run P w = .ok (.agg cs.toArray) w := by
  obtain ⟨f, z, hf, hs, _⟩ := hY.info
  obtain ⟨d, hd⟩ := hY.und
  have hag : (isAgg t).run P w = .ok true w := by
    have h1 := hY.agg
    unfold aggOf at h1
    rw [hd, ha] at h1
    unfold isAgg
    rw [Sem.run_bind, run_underlying hd w]
    cases d <;> simp_all
  have hl2 := run_loadCells_list (P := P) w ⟨r, off, none⟩ cs (fun j v hj => by
    have hadd : (⟨r, off, none⟩ : Addr).add j = ⟨r, off + j, none⟩ := by unfold Addr.add; split <;> simp_all
    have hlt := (List.getElem?_eq_some_iff.1 hj).1
    rw [hadd, hc j hlt, ← hj, List.getElem?_eq_getElem hlt])
  simp only [loadVar, Sem.run_bind, hag, Result.andThen_ok, if_true, run_sizeOf w hf]
  rw [show P.cellsOf t = cs.length by simp [Program.cellsOf, hf, hs, hl], hl2]
  simp
theorem run_loadVar_one {t : TypeId} {i : TI} (hY : TyOK P t i) (ha : i.agg = false) {r off : Nat} {v : Value} (hc : w.cell? ⟨r, off, none⟩ = some v) :
    (loadVar t ⟨r, off, none⟩).run P w = .ok v w := by
  obtain ⟨d, hd⟩ := hY.und
  have hag : (isAgg t).run P w = .ok false w := by
    have h1 := hY.agg
    unfold aggOf at h1
    rw [hd, ha] at h1
    unfold isAgg
    rw [Sem.run_bind, run_underlying hd w]
    cases d <;> simp_all
  simp only [loadVar, Sem.run_bind, hag, Result.andThen_ok, Bool.false_eq_true, if_false]
  simp [load, Sem.run, hc]
theorem cells_of {r : Nat} {cs : List Value} {t : TypeId} {fr : Nat × Nat} (h : w.heap[r]? = some (.cells cs.toArray t fr)) (j : Nat) : w.cell? ⟨r, j, none⟩ = cs[j]? := by
  rw [cell_of_row w r j _ t fr h]; simp
/-- a part of cells that lie in a block is loaded -/
theorem run_load_part {t : TypeId} {i : TI} (hY : TyOK P t i) {D : Nat → Prop} {r o off : Nat} {cs : List Value} {x : A} (hc : ∀ j (h : j < cs.length), w.cell? ⟨r, o + j, none⟩ = some cs[j])
    (hx : (i.agg = true → off + i.sz ≤ cs.length ∧ RA D w x (.agg ((cs.drop off).take i.sz).toArray)) ∧ (i.agg = false → ∃ v, cs[off]? = some v ∧ RA D w x v ∧ v.oneCell' = true)) :
    ∃ v, (loadVar t ⟨r, o + off, none⟩).run P w = .ok v w ∧ RA D w x v := by
  cases ha : i.agg with
  | true =>
    obtain ⟨h1, h2⟩ := hx.1 ha
    refine ⟨_, run_loadVar_agg hY ha (cs := (cs.drop off).take i.sz) (by simp; omega) (fun j hj => ?_), h2⟩
    have hj' : j < i.sz := by simp at hj; omega
    rw [Nat.add_assoc, hc (off + j) (by omega)]
    simp
  | false =>
    obtain ⟨v, h1, h2, h3⟩ := hx.2 ha
    obtain ⟨h4, h5⟩ := List.getElem?_eq_some_iff.1 h1
    exact ⟨v, run_loadVar_one hY ha (by rw [hc off h4, h5]), h2⟩

theorem exec_load {o : Oper} {t : TypeId} {x : Operand} (ho : o.op = .load t x) {r off : Nat} (hx : a.eval x = .pointer (some ⟨r, off, none⟩)) {v : Value} (hr : (loadVar t ⟨r, off, none⟩).run P w = .ok v w) :
    (execOp a.eval o).run P w = .ok (.value v) w := by
  simp [execOp, ho, hx, Instr.loadAt, Instr.sureAddr, Sem.run_bind, hr]

/-- an own variable's cells -/
theorem Good.var (g : Good S base w0 s ρ a w) {b : Nat} {l : List Seg} (h : s.bk b = some (.var l)) :
    ∃ r cs t, ρ b = some (.pointer (some ⟨r, 0, none⟩)) ∧ True ∧ w.heap[r]? = some (.cells (List.toArray cs) t (0, 0)) ∧ RL (Dt S base ρ) w l cs := by
  have := g.b b; rw [h] at this; exact this
theorem Good.slc (g : Good S base w0 s ρ a w) {b : Nat} {e : TypeId} {sz n : Nat} {l : List Seg} (h : s.bk b = some (.sl e sz n l)) :
    ∃ u cs, ρ b = some u ∧ w.ownsRow base e sz u n cs ∧ RL (Dt S base ρ) w l cs := by
  have := g.b b; rw [h] at this; exact this

/-- a new variable -/
theorem Good.alloc (g : Good S base w0 s ρ a w) {fr : Nat} (hfr : s.bk fr = none) (hlt : fr < s.h.length) {l : List Seg} {cs : List Value} {ty : TypeId}
    (hl : ∀ D' w', Keeps (Dt S base ρ) w D' w' → RL D' w' l cs) :
    Good S base w0 ⟨s.t, s.h.set fr (some (.var l))⟩ (upd ρ fr (some (.pointer (some ⟨w.heap.size, 0, none⟩)))) a (w.alloc (.cells cs.toArray ty)) := by
  have hρ : ρ fr = none := by have := g.b fr; rw [hfr] at this; exact this
  refine g.change fr hlt _ _ none ⟨rfl, rfl, rfl, by rw [size_alloc]; omega, fun k hk _ => Below.heap_alloc _ _ _ hk⟩ (by simp) ?_ ?_ ?_ (fun q hq => by rw [hρ] at hq; cases hq)
  · intro r hr
    simp [Rl] at hr; subst hr
    exact ⟨.inl (Nat.le_refl _), by rw [size_alloc]; omega⟩
  · intro K
    exact ⟨w.heap.size, cs, ty, by simp [upd], trivial, heap_alloc_new _ _, hl _ _ K⟩
  · intro _ i hi hm
    exact absurd hfr (g.dang i fr hm)

/-- an own variable is written -/
theorem Good.store (g : Good S base w0 s ρ a w) {b : Nat} {l l' : List Seg} (h : s.bk b = some (.var l)) {r off : Nat} {cs vs : List Value} {t : TypeId} (hρ : ρ b = some (.pointer (some ⟨r, 0, none⟩)))
    (hw : w.heap[r]? = some (.cells cs.toArray t (0, 0))) (hl : RL (Dt S base ρ) w l' (cs.take off ++ (vs ++ cs.drop (off + vs.length)))) :
    Good S base w0 ⟨s.t, s.h.set b (some (.var l'))⟩ ρ a (w.setRow r (cs.take off ++ (vs ++ cs.drop (off + vs.length))).toArray) := by
  have hlt : b < s.h.length := by
    apply Decidable.byContradiction
    intro hn
    unfold St.bk at h
    rw [List.getD_eq_getElem?_getD, List.getElem?_eq_none (by omega)] at h
    cases h
  have hu : upd ρ b (some (.pointer (some ⟨r, 0, none⟩))) = ρ := by
    funext i; unfold upd; split
    · next e => rw [e, hρ]
    · rfl
  have := g.change b hlt (.pointer (some ⟨r, 0, none⟩)) (.var l') (some r) (w' := w.setRow r (cs.take off ++ (vs ++ cs.drop (off + vs.length))).toArray)
    (grown_setRow (grown_refl w _) _ (.inr rfl)) (by intro r' e; cases e; exact ⟨_, hρ, rfl⟩) (by
      intro r' e
      simp [Rl] at e; subst e
      exact ⟨.inr ⟨_, hρ, rfl⟩, by rw [size_setRow]; exact (g.low b _ r hρ rfl).2⟩) (by
      rw [hu]
      intro K
      refine ⟨r, _, t, hρ, trivial, setRow_heap _ _ _ _ _ _ hw, hl.up K⟩) (by
      rw [hu]
      intro _ i hi hm
      refine (g.t i hi).up ⟨by rw [size_setRow]; exact Nat.le_refl _, fun r' hr' hd => ⟨hd, fun o => ?_⟩⟩ (fun _ _ => rfl)
      exact World.cell?_of_block (setRow_other _ _ _ _ (fun e => hd.2 b _ hρ (by simp [Rl]; exact e.symm)))) (fun q hq => by rw [hρ] at hq; cases hq; rfl)
  rwa [hu] at this
theorem bk_lt {s : St} {b : Nat} {x : Bk} (h : s.bk b = some x) : b < s.h.length := by
  apply Decidable.byContradiction
  intro hn
  unfold St.bk at h
  rw [List.getD_eq_getElem?_getD, List.getElem?_eq_none (by omega)] at h
  cases h
theorem run_storeVar_at {t : TypeId} {i : TI} (hY : TyOK P t i) {v : Value} (hs : v.cells.size = i.sz) (h1 : ∀ u ∈ v.cells.toList, u.oneCell' = true) {r off : Nat} {cs : List Value} {ty : TypeId}
    (hw : w.heap[r]? = some (.cells cs.toArray ty (0, 0))) (hl : off + i.sz ≤ cs.length ∨ i.sz = 0) :
    (storeVar t ⟨r, off, none⟩ v).run P w = .ok () (w.setRow r (cs.take off ++ (v.cells.toList ++ cs.drop (off + v.cells.toList.length))).toArray) := by
  obtain ⟨f, z, hf, hs2, _⟩ := hY.info
  have hsz : P.cellsOf t = v.cells.size := by simp [Program.cellsOf, hf, hs2, hs]
  simp only [storeVar, Sem.run_bind, run_sizeOf w hf, Result.andThen_ok, hsz]
  simp only [ne_eq, not_true_eq_false, if_false, Sem.run_pure, Result.andThen_ok]
  rcases hl with hl | hl
  · have := run_storeCells_at (P := P) r off ty v.cells.toList 0 cs.toArray w hw (by simp; omega) h1
    rw [this]
    simp
  · have hn : v.cells.toList = [] := by
      have : v.cells.toList.length = 0 := by rw [Array.length_toList, hs, hl]
      exact List.length_eq_zero_iff.1 this
    rw [hn]
    simp only [storeCells, Sem.run_pure, List.nil_append, List.length_nil, Nat.add_zero, List.take_append_drop]
    rw [setRow_self w r _ ty (0, 0) hw]
end
end Go.Proofs.Ytcfdlffjghlghaa
