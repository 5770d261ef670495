/-
  The operations of the machine without memory are the program's, one by one. No program is named here.
-/
import Derived.Test.YtcfdlffjghlghaaA6
namespace Go.Proofs.Ytcfdlffjghlghaa
set_option maxRecDepth 100000
open Go.RowKit
set_option linter.unusedVariables false
set_option linter.unusedSimpArgs false

/-- the blocks that an operation looks into: who only reckons an address looks into none -/
def seen (o : Oper) (t : T) : List Nat :=
  match o.op, t with
  | .move _, _ => []
  | .assign _, _ => []
  | .fieldAddr _ _ _, .ptr _ _ => []
  | .fieldAddr _ _ _, .pti _ _ _ => []
  | .indexAddr _ _ _, .ptr _ _ => []
  | .indexAddr _ _ _, .pti _ _ _ => []
  | .nilCheck _, .ptr _ _ => []
  | .nilCheck _, .pti _ _ _ => []
  | _, t => t.refs
/-- what an operation sees is there asx it was -/
def Same (o : Oper) (s s' : St) : Prop := ∀ x ∈ o.op.operands, s'.ev x = s.ev x ∧ ∀ b ∈ seen o (s.ev x), s'.bk b = s.bk b
def looks (o : Oper) : Bool := match o.op with | .move _ | .assign _ | .fieldAddr _ _ _ | .indexAddr _ _ _ | .nilCheck _ => false | _ => true
theorem seen_all {o : Oper} (h : looks o = true) (t : T) : seen o t = t.refs := by
  unfold looks at h
  unfold seen
  split at h
  · cases h
  · cases h
  · cases h
  · cases h
  · cases h
  · next h1 h2 h3 h4 h5 =>
    split
    · next e => exact (h1 _ e).elim
    · next e => exact (h2 _ e).elim
    · next e => exact (h3 _ _ _ e).elim
    · next e => exact (h3 _ _ _ e).elim
    · next e => exact (h4 _ _ _ e).elim
    · next e => exact (h4 _ _ _ e).elim
    · next e => exact (h5 _ e).elim
    · next e => exact (h5 _ e).elim
    · rfl
theorem Same.bk {o : Oper} {s s' : St} (hs : Same o s s') {x : Operand} (hx : x ∈ o.op.operands) (hl : looks o = true) {b : Nat} (hb : b ∈ (s.ev x).refs) : s'.bk b = s.bk b := (hs x hx).2 b (by rw [seen_all hl]; exact hb)
/-- the operation comes to t, and to this block: wherever what it sees is there -/
def OpOK (E : EnvX) (o : Oper) (s : St) (fr : Nat) (t : T) (blk : Option (Nat × Bk)) : Prop :=
  (∀ b ∈ t.refs, b = fr ∧ (∃ x, blk = some (fr, x)) ∨ ∃ x ∈ o.op.operands, b ∈ (s.ev x).refs) ∧
  (∀ b x, blk = some (b, x) → b = fr ∨ ∃ x ∈ o.op.operands, b ∈ (s.ev x).refs) ∧
  ∀ (S : Nat → Prop) (base : Nat) (w0 : W0 E.G) (s' : St) (ρ : Nat → Option Value) (a : Act) (w : World) (K : Act → World → Prop) (Q : Exit → Act → World → Prop),
    Same o s s' → Good S base w0 s' ρ a w → s'.bk fr = none → fr < s'.h.length → (∀ a' w' ρ', Good S base w0 (s'.app o.dst t blk) ρ' a' w' → K a' w') → o.wp E.P a w K Q

theorem RA.plain {S : Nat → Prop} {w : World} {x v : Value} (h : RA S w (.v x) v) : v = x := by cases h; rfl

section
variable {E : EnvX} {o : Oper} {s : St} {fr : Nat}

/-- an operation that only gives a value, out of what it sees -/
theorem OpOK.pure {t : T} (hrefs : ∀ b ∈ t.refs, ∃ x ∈ o.op.operands, b ∈ (s.ev x).refs)
    (h : ∀ (S : Nat → Prop) (base : Nat) (w0 : W0 E.G) (s' : St) (ρ : Nat → Option Value) (a : Act) (w : World), Same o s s' → Good S base w0 s' ρ a w → ∃ v, (execOp a.eval o).run E.P w = .ok (.value v) w ∧ RT (Dt S base ρ) ρ w t v) :
    OpOK E o s fr t none := by
  refine ⟨fun b hb => .inr (hrefs b hb), fun b x e => (by cases e), fun S base w0 s' ρ a w K Q hs g _ _ hK => ?_⟩
  obtain ⟨v, h1, h2⟩ := h S base w0 s' ρ a w hs g
  refine pure_op g h1 h2 (fun b hb => ?_) hK
  obtain ⟨x, hx, hb⟩ := hrefs b hb
  rw [← (hs x hx).1] at hb
  exact g.evRefs x b hb

theorem ok_move {x : Operand} (ho : o.op = .move x ∨ o.op = .assign x) : OpOK E o s fr (s.ev x) none := by
  have hm : x ∈ o.op.operands := by rcases ho with h | h <;> rw [h] <;> simp [Op.operands]
  refine .pure (fun b hb => ⟨x, hm, hb⟩) fun S base w0 s' ρ a w hs g => ⟨a.eval x, ?_, ?_⟩
  · rcases ho with h | h <;> simp [execOp, h]
  · have := g.ev x; rwa [(hs x hm).1] at this

theorem ok_pick {c x y : Operand} {b : Bool} (ho : o.op = .pick c x y) (hc : s.ev c = .d (.v (.bool b))) : OpOK E o s fr (s.ev (if b then x else y)) none := by
  have hm : (if b then x else y) ∈ o.op.operands := by rw [ho]; cases b <;> simp [Op.operands]
  refine .pure (fun b' hb => ⟨_, hm, hb⟩) fun S base w0 s' ρ a w hs g => ⟨a.eval (if b then x else y), ?_, ?_⟩
  · have h1 := g.ev c
    rw [(hs c (by rw [ho]; simp [Op.operands])).1, hc] at h1
    have h2 : a.eval c = .bool b := RA.plain h1
    simp only [execOp, ho, h2, asBool, Sem.run_bind, Sem.run_pure, Result.andThen_ok]
    cases b <;> rfl
  · have := g.ev (if b then x else y); rwa [(hs _ hm).1] at this

/-- what a slot that holds plain data holds -/
theorem evPlain {G : Nat → Option (List Seg)} {S : Nat → Prop} {base : Nat} {w0 : W0 G} {s' : St} {ρ : Nat → Option Value} {a : Act} {w : World} (hs : Same o s s') (g : Good S base w0 s' ρ a w) {x : Operand} (hx : x ∈ o.op.operands) {v : Value} (h : s.ev x = .d (.v v)) : a.eval x = v := by
  have h1 := g.ev x
  rw [(hs x hx).1, h] at h1
  exact RA.plain h1
theorem evData {G : Nat → Option (List Seg)} {S : Nat → Prop} {base : Nat} {w0 : W0 G} {s' : St} {ρ : Nat → Option Value} {a : Act} {w : World} (hs : Same o s s') (g : Good S base w0 s' ρ a w) {x : Operand} (hx : x ∈ o.op.operands) {t : T} (h : s.ev x = t) : RT (Dt S base ρ) ρ w t (a.eval x) := by
  have h1 := g.ev x
  rwa [(hs x hx).1, h] at h1

/-- what a package variable holds -/
theorem evGlob {S : Nat → Prop} {base : Nat} {w0 : W0 E.G} {s' : St} {ρ : Nat → Option Value} {a : Act} {w : World} (g : Good S base w0 s' ρ a w) {q : Nat} {l : List Seg} (h : E.G q = some l) : RT (Dt S base ρ) ρ w (.d (.ref l 0)) (a.eval (.global q)) := by
  obtain ⟨cs, h1, h2⟩ := g.glob q l h
  have := RA.ref (off := 0) h1 h2
  exact this
theorem evG_cases {s : St} {x : Operand} {t : T} (h : evG E.G s x = t) : s.ev x = t ∨ ∃ q l, x = .global q ∧ E.G q = some l ∧ t = .d (.ref l 0) := by
  unfold evG at h
  split at h
  · next q =>
    split at h
    · next l hl => exact .inr ⟨q, l, rfl, hl, h.symm⟩
    · exact .inl h
  · exact .inl h
/-- data that lies behind an address -/
theorem evRef {S : Nat → Prop} {base : Nat} {w0 : W0 E.G} {s' : St} {ρ : Nat → Option Value} {a : Act} {w : World} (hs : Same o s s') (g : Good S base w0 s' ρ a w) {x : Operand} (hx : x ∈ o.op.operands) {l : List Seg} {off : Nat} (h : evG E.G s x = .d (.ref l off)) : RT (Dt S base ρ) ρ w (.d (.ref l off)) (a.eval x) := by
  rcases evG_cases h with h | ⟨q, l', rfl, h1, h2⟩
  · exact evData hs g hx h
  · cases h2; exact evGlob g h1

theorem run_binK {op : BinOp} {t : TypeId} {p q : A} {K : A → Prop} (h : binK op p q K) : ∃ x y r, p = .v x ∧ q = .v y ∧ K (.v r) ∧ ∀ (P : Program) (w : World) (c d : Operand), ((do eqGuard op t c d x y; binOp op t x y : Sem Value)).run P w = .ok r w := by
  unfold binK at h
  split at h
  · next k a k' b =>
    cases op <;> simp only at h
    case add => obtain ⟨rfl, h⟩ := h; exact ⟨_, _, _, rfl, rfl, h, fun P w c d => by simp [eqGuard, binOp, Op.intArith, Sem.run_bind]⟩
    case sub => obtain ⟨rfl, h⟩ := h; exact ⟨_, _, _, rfl, rfl, h, fun P w c d => by simp [eqGuard, binOp, Op.intArith, Sem.run_bind]⟩
    case mul => obtain ⟨rfl, h⟩ := h; exact ⟨_, _, _, rfl, rfl, h, fun P w c d => by simp [eqGuard, binOp, Op.intArith, Sem.run_bind]⟩
    case quo => obtain ⟨rfl, h0, h⟩ := h; exact ⟨_, _, _, rfl, rfl, h, fun P w c d => by simp [eqGuard, binOp, Op.intDiv, Sem.run_bind, h0]⟩
    case rem => obtain ⟨rfl, h0, h⟩ := h; exact ⟨_, _, _, rfl, rfl, h, fun P w c d => by simp [eqGuard, binOp, Op.intDiv, Sem.run_bind, h0]⟩
    case and => obtain ⟨rfl, h⟩ := h; exact ⟨_, _, _, rfl, rfl, h, fun P w c d => by simp [eqGuard, binOp, Op.intBits, bits, Sem.run_bind]⟩
    case or => obtain ⟨rfl, h⟩ := h; exact ⟨_, _, _, rfl, rfl, h, fun P w c d => by simp [eqGuard, binOp, Op.intBits, bits, Sem.run_bind]⟩
    case xor => obtain ⟨rfl, h⟩ := h; exact ⟨_, _, _, rfl, rfl, h, fun P w c d => by simp [eqGuard, binOp, Op.intBits, bits, Sem.run_bind]⟩
    case andNot => obtain ⟨rfl, h⟩ := h; exact ⟨_, _, _, rfl, rfl, h, fun P w c d => by simp [eqGuard, binOp, Op.intBits, bits, Sem.run_bind]⟩
    case shl => obtain ⟨h0, h⟩ := h; exact ⟨_, _, _, rfl, rfl, h, fun P w c d => by simp [eqGuard, binOp, Op.shift, Sem.run_bind, h0]⟩
    case shr => obtain ⟨h0, h⟩ := h; exact ⟨_, _, _, rfl, rfl, h, fun P w c d => by simp [eqGuard, binOp, Op.shift, Sem.run_bind, h0]⟩
    case eql => obtain ⟨rfl, h⟩ := h; exact ⟨_, _, _, rfl, rfl, h, fun P w c d => by simp [eqGuard, binOp, Op.intCmp, Sem.run_bind]⟩
    case neq => obtain ⟨rfl, h⟩ := h; exact ⟨_, _, _, rfl, rfl, h, fun P w c d => by simp [eqGuard, binOp, Op.intCmp, Sem.run_bind]⟩
    case lss => obtain ⟨rfl, h⟩ := h; exact ⟨_, _, _, rfl, rfl, h, fun P w c d => by simp [eqGuard, binOp, Op.intCmp, Sem.run_bind]⟩
    case leq => obtain ⟨rfl, h⟩ := h; exact ⟨_, _, _, rfl, rfl, h, fun P w c d => by simp [eqGuard, binOp, Op.intCmp, Sem.run_bind]⟩
    case gtr => obtain ⟨rfl, h⟩ := h; exact ⟨_, _, _, rfl, rfl, h, fun P w c d => by simp [eqGuard, binOp, Op.intCmp, Sem.run_bind]⟩
    case geq => obtain ⟨rfl, h⟩ := h; exact ⟨_, _, _, rfl, rfl, h, fun P w c d => by simp [eqGuard, binOp, Op.intCmp, Sem.run_bind]⟩
  · exact h.elim
theorem ok_bin {op : BinOp} {t yt : TypeId} {x y : Operand} {p q : Value} {K : A → Prop} (ho : o.op = .binOp op t x y yt) (hx : s.ev x = .d (.v p)) (hy : s.ev y = .d (.v q)) (h : binK op (.v p) (.v q) K) :
    ∃ r, K r ∧ OpOK E o s fr (.d r) none := by
  obtain ⟨x', y', r, e1, e2, hK, hr⟩ := run_binK (t := t) h
  cases e1; cases e2
  refine ⟨_, hK, .pure (fun b hb => by simp [T.refs] at hb) fun S base w0 s' ρ a w hs g => ⟨r, ?_, .v r⟩⟩
  have h1 := evPlain hs g (by rw [ho]; simp [Op.operands]) hx
  have h2 := evPlain hs g (by rw [ho]; simp [Op.operands]) hy
  have h3 := hr E.P w x y
  simp only [Sem.run_bind] at h3
  simp only [execOp, ho, h1, h2, Sem.run_bind, h3, Result.andThen_ok, Sem.run_pure]
theorem ok_binBool {op : BinOp} {t yt : TypeId} {x y : Operand} {p q r : Bool} (ho : o.op = .binOp op t x y yt) (hx : s.ev x = .d (.v (.bool p))) (hy : s.ev y = .d (.v (.bool q))) (hu : E.P.underlying t = some .bool)
    (hr : op = .eql ∧ r = (p == q) ∨ op = .neq ∧ r = (!(p == q))) : OpOK E o s fr (.d (.v (.bool r))) none := by
  refine .pure (fun b hb => by simp [T.refs] at hb) fun S base w0 s' ρ a w hs g => ⟨_, ?_, .v _⟩
  have h1 := evPlain hs g (by rw [ho]; simp [Op.operands]) hx
  have h2 := evPlain hs g (by rw [ho]; simp [Op.operands]) hy
  have h3 := run_equalIn_bool (P := E.P) w 9999 t p q hu
  rcases hr with ⟨rfl, rfl⟩ | ⟨rfl, rfl⟩
  · simp [execOp, ho, h1, h2, Sem.run_bind, eqGuard, binOp, Op.equal, Op.maxDepth, h3]
  · simp [execOp, ho, h1, h2, Sem.run_bind, eqGuard, binOp, Op.equal, Op.maxDepth, h3]
theorem ok_not {t : TypeId} {x : Operand} {b : Bool} (ho : o.op = .unOp .not t x) (hx : s.ev x = .d (.v (.bool b))) : OpOK E o s fr (.d (.v (.bool (!b)))) none := by
  refine .pure (fun b hb => by simp [T.refs] at hb) fun S base w0 s' ρ a w hs g => ⟨_, ?_, .v _⟩
  have h1 := evPlain hs g (by rw [ho]; simp [Op.operands]) hx
  simp [execOp, ho, h1, Op.unary, Sem.run_bind]

theorem ok_neg {t : TypeId} {x : Operand} {q : IntKind} {z : Int} (ho : o.op = .unOp .neg t x) (hx : s.ev x = .d (.v (.int q z))) : OpOK E o s fr (.d (.v (.int q (q.wrap (0 - z))))) none := by
  refine .pure (fun b hb => by simp [T.refs] at hb) fun S base w0 s' ρ a w hs g => ⟨_, ?_, .v _⟩
  have h1 := evPlain hs g (by rw [ho]; simp [Op.operands]) hx
  simp [execOp, ho, h1, Op.unary, Op.intArith, Sem.run_bind]

/-- a new variable -/
theorem ok_new {l : List Seg} (hno : ∀ (S : Nat → Prop) (base : Nat) (w0 : W0 E.G) (s' : St) (ρ : Nat → Option Value) (a : Act) (w : World), Same o s s' → Good S base w0 s' ρ a w →
      ∃ cs ty, (∀ D' w', Keeps (Dt S base ρ) w D' w' → RL D' w' l cs) ∧ (execOp a.eval o).run E.P w = .ok (.value (.pointer (some ⟨w.heap.size, 0, none⟩))) (w.alloc (.cells (List.toArray cs) ty))) :
    OpOK E o s fr (.ptr fr 0) (some (fr, .var l)) := by
  refine ⟨fun b hb => .inl ⟨by simpa [T.refs] using hb, _, rfl⟩, fun b x e => by cases e; exact .inl rfl, fun S base w0 s' ρ a w K Q hs g hf hlt hK => ?_⟩
  obtain ⟨cs, ty, h1, h2⟩ := hno S base w0 s' ρ a w hs g
  unfold Oper.wp
  rw [h2]
  have g2 := g.alloc hf hlt (ty := ty) h1
  refine hK _ _ _ (g2.put' o.dst (t := .ptr fr 0) ?_ ?_)
  · intro u hu
    simp [upd] at hu
    exact ⟨w.heap.size, hu.symm, rfl⟩
  · intro b hb
    simp [T.refs] at hb
    subst hb
    simp [St.bk, getD_set_list, hlt]
theorem ok_alloc {e : TypeId} {i : TI} (ho : o.op = .alloc e) (hY : E.Y e = some i) : OpOK E o s fr (.ptr fr 0) (some (fr, .var i.zero)) := by
  obtain ⟨f, z, h1, _, _, h2, h3⟩ := (E.hY e i hY).info
  refine ok_new fun S base w0 s' ρ a w hs g => ⟨z.cells.toList, e, fun D' w' _ => zeroB_spec h3, ?_⟩
  simp [execOp, ho, Instr.alloc, zeroValue, typeInfo, h1, h2, newVar, newRow, Sem.run_bind]
theorem boxSegs_spec {D : Nat → Prop} {w : World} {a : A} {l : List Seg} {v : Value} (h : boxSegs a = some l) (hv : RA D w a v) : RL D w l v.cells.toList := by
  unfold boxSegs at h
  split at h
  · cases h; cases hv with | agg k => simpa [Value.cells] using k
  · cases h; cases hv; exact .ofInts rfl rfl
  · cases h; cases hv; exact .ofBools rfl rfl
  · cases h
theorem ok_box {e : TypeId} {x : Operand} {d : A} {l : List Seg} (ho : o.op = .box e x) (hx : s.ev x = .d d) (hl : boxSegs d = some l) : OpOK E o s fr (.ptr fr 0) (some (fr, .var l)) := by
  refine ok_new fun S base w0 s' ρ a w hs g => ⟨(a.eval x).cells.toList, e, fun D' w' k => (boxSegs_spec hl (evData hs g (by rw [ho]; simp [Op.operands]) hx)).up k, ?_⟩
  simp [execOp, ho, Instr.box, newVar, newRow, Sem.run_bind]

theorem ok_loadVar {t : TypeId} {x : Operand} {i : TI} {b off : Nat} {l : List Seg} {d : A} (ho : o.op = .load t x) (hY : E.Y t = some i) (hb : b ∈ (s.ev x).refs) (hk : s.bk b = some (.var l))
    (hx : ∀ {D : Nat → Prop} {ρ : Nat → Option Value} {w : World} {v : Value} {r : Nat}, RT D ρ w (s.ev x) v → ρ b = some (.pointer (some ⟨r, 0, none⟩)) → v = .pointer (some ⟨r, off, none⟩))
    (hd : ∀ {S : Nat → Prop} {w : World} {cs : List Value}, RL S w l cs → (i.agg = true → off + i.sz ≤ cs.length ∧ RA S w d (.agg ((cs.drop off).take i.sz).toArray)) ∧ (i.agg = false → ∃ v, cs[off]? = some v ∧ RA S w d v ∧ v.oneCell' = true)) :
    OpOK E o s fr (.d d) none := by
  refine .pure (fun b hb => by simp [T.refs] at hb) fun S base w0 s' ρ a w hs g => ?_
  have hm : x ∈ o.op.operands := by rw [ho]; simp [Op.operands]
  obtain ⟨r, cs, ty, h1, h2, h3, h4⟩ := g.var ((hs.bk hm (by simp [looks, ho]) hb).trans hk)
  have h5 := hx (evData hs g hm rfl) h1
  obtain ⟨v, h6, h7⟩ := run_load_part (E.hY t i hY) (o := 0) (fun j hj => by rw [Nat.zero_add, cells_of h3, List.getElem?_eq_getElem hj]) (hd h4)
  rw [Nat.zero_add] at h6
  exact ⟨v, exec_load ho h5 h6, h7⟩
theorem ok_loadRef {t : TypeId} {x : Operand} {i : TI} {off : Nat} {l : List Seg} {d : A} (ho : o.op = .load t x) (hY : E.Y t = some i) (hx : evG E.G s x = .d (.ref l off))
    (hd : ∀ {S : Nat → Prop} {w : World} {cs : List Value}, RL S w l cs → (i.agg = true → off + i.sz ≤ cs.length ∧ RA S w d (.agg ((cs.drop off).take i.sz).toArray)) ∧ (i.agg = false → ∃ v, cs[off]? = some v ∧ RA S w d v ∧ v.oneCell' = true))
    (hne : i.agg = true → i.sz ≠ 0) : OpOK E o s fr (.d d) none := by
  refine .pure (fun b hb => by simp [T.refs] at hb) fun S base w0 s' ρ a w hs g => ?_
  have hm : x ∈ o.op.operands := by rw [ho]; simp [Op.operands]
  have h1 := evRef hs g hm hx
  generalize hv : a.eval x = v at h1
  cases h1 with
  | ref k h4 =>
    rename_i b o' cs
    rcases h4 with h4 | ⟨b', o'', e, h5, h6, h7⟩
    · exfalso
      subst h4
      cases ha : i.agg with
      | true => have := ((hd k).1 ha).1; simp at this; exact hne ha this.2
      | false => obtain ⟨v, h, _⟩ := (hd k).2 ha; simp at h
    · cases e
      obtain ⟨v, h8, h9⟩ := run_load_part (E.hY t i hY) (o := o') h7 (hd k)
      exact ⟨v, exec_load ho hv h8, h9⟩
theorem ok_loadSref {t : TypeId} {x : Operand} {i : TI} {off : Nat} {l : List Seg} {d : A} (ho : o.op = .load t x) (hY : E.Y t = some i) (hx : s.ev x = .d (.sref l off))
    (hd : ∀ {S : Nat → Prop} {w : World} {cs : List Value}, RL S w l cs → (i.agg = true → off + i.sz ≤ cs.length ∧ RA S w d (.agg ((cs.drop off).take i.sz).toArray)) ∧ (i.agg = false → ∃ v, cs[off]? = some v ∧ RA S w d v ∧ v.oneCell' = true))
    (hne : i.agg = true → i.sz ≠ 0) : OpOK E o s fr (.d d) none := by
  refine .pure (fun b hb => by simp [T.refs] at hb) fun S base w0 s' ρ a w hs g => ?_
  have hm : x ∈ o.op.operands := by rw [ho]; simp [Op.operands]
  have h1 := evData hs g hm hx
  generalize hv : a.eval x = v at h1
  cases h1 with
  | sref k h4 =>
    rename_i b o' cs
    rcases h4 with h4 | ⟨b', o'', e, h5, h6, h7⟩
    · exfalso
      subst h4
      cases ha : i.agg with
      | true => have := ((hd k).1 ha).1; simp at this; exact hne ha this.2
      | false => obtain ⟨v, h, _⟩ := (hd k).2 ha; simp at h
    · cases e
      obtain ⟨v, h8, h9⟩ := run_load_part (E.hY t i hY) (o := o') h7 (hd k)
      exact ⟨v, exec_load ho hv h8, h9⟩
theorem ok_loadOwn {t : TypeId} {x : Operand} {i : TI} {b off n sz : Nat} {e : TypeId} {l : List Seg} {d : A} (ho : o.op = .load t x) (hY : E.Y t = some i) (hx : s.ev x = .ept b n off) (hk : s.bk b = some (.sl e sz n l))
    (hd : ∀ {S : Nat → Prop} {w : World} {cs : List Value}, RL S w l cs → (i.agg = true → off + i.sz ≤ cs.length ∧ RA S w d (.agg ((cs.drop off).take i.sz).toArray)) ∧ (i.agg = false → ∃ v, cs[off]? = some v ∧ RA S w d v ∧ v.oneCell' = true)) :
    OpOK E o s fr (.d d) none := by
  refine .pure (fun b hb => by simp [T.refs] at hb) fun S base w0 s' ρ a w hs g => ?_
  have hm : x ∈ o.op.operands := by rw [ho]; simp [Op.operands]
  obtain ⟨u, cs, h1, h2, h3⟩ := g.slc ((hs.bk hm (by simp [looks, ho]) (by rw [hx]; simp [T.refs])).trans hk)
  obtain ⟨ad, n', c, rfl, h4, h5⟩ := evData hs g hm hx u h1
  have hn : n = n' := by
    rcases h2.2 with ⟨e1, e2⟩ | ⟨g', cap, cur, e1, _⟩
    · cases e1; omega
    · cases e1; rfl
  obtain ⟨r, rfl, h6⟩ := h5 hn
  rcases h2.2 with ⟨e1, e2⟩ | ⟨g', cap, cur, e1, h7, h8, h9, h10, h11, h12⟩
  · cases e1
  · cases e1
    obtain ⟨v, h13, h14⟩ := run_load_part (E.hY t i hY) (r := r) (o := 0) (cs := cs) (fun j hj => by
      rw [Nat.zero_add, cell_of_row w r j cur e (0, 0) h8]
      have : (cur.toList.take (n * sz))[j]? = cs[j]? := by rw [h12]
      rw [List.getElem?_take, if_pos (by have := h2.1; omega), Array.getElem?_toList, List.getElem?_eq_getElem hj] at this
      exact this) (hd h3)
    rw [Nat.zero_add] at h13
    exact ⟨v, exec_load ho h6 h13, h14⟩

theorem ok_store {t : TypeId} {x y : Operand} {i : TI} {b off : Nat} {l l' : List Seg} {d : A} (ho : o.op = .store t x y) (hY : E.Y t = some i) (hb : b ∈ (s.ev x).refs) (hk : s.bk b = some (.var l)) (hy : s.ev y = .d d)
    (hx : ∀ {D : Nat → Prop} {ρ : Nat → Option Value} {w : World} {v : Value} {r : Nat}, RT D ρ w (s.ev x) v → ρ b = some (.pointer (some ⟨r, 0, none⟩)) → v = .pointer (some ⟨r, off, none⟩))
    (hd : ∀ {S : Nat → Prop} {w : World} {cs : List Value} {v : Value}, RL S w l cs → RA S w d v →
      v.cells.size = i.sz ∧ (∀ u ∈ v.cells.toList, u.oneCell' = true) ∧ (off + i.sz ≤ cs.length ∨ i.sz = 0) ∧ RL S w l' (cs.take off ++ (v.cells.toList ++ cs.drop (off + i.sz)))) :
    OpOK E o s fr (.d (.v undef)) (some (b, .var l')) := by
  have hm : x ∈ o.op.operands := by rw [ho]; simp [Op.operands]
  have hm2 : y ∈ o.op.operands := by rw [ho]; simp [Op.operands]
  refine ⟨fun b hb => by simp [T.refs] at hb, fun b' x' e => by cases e; exact .inr ⟨x, hm, hb⟩, fun S base w0 s' ρ a w K Q hs g hf hlt hK => ?_⟩
  obtain ⟨r, cs, ty, h1, h2, h3, h4⟩ := g.var ((hs.bk hm (by simp [looks, ho]) hb).trans hk)
  have h5 := hx (evData hs g hm rfl) h1
  obtain ⟨k1, k2, k3, k4⟩ := hd h4 (evData hs g hm2 hy)
  have k1' : (a.eval y).cells.toList.length = i.sz := by rw [Array.length_toList, k1]
  have hrun := run_storeVar_at (E.hY t i hY) k1 k2 h3 k3
  unfold Oper.wp
  have : (execOp a.eval o).run E.P w = .ok .skip (w.setRow r (cs.take off ++ ((a.eval y).cells.toList ++ cs.drop (off + (a.eval y).cells.toList.length))).toArray) := by
    simp only [execOp, ho, h5, Instr.storeAt, Instr.sureAddr, Sem.run_bind, Sem.run_pure, Result.andThen_ok, hrun]
  rw [this]
  have g2 := g.store ((hs.bk hm (by simp [looks, ho]) hb).trans hk) h1 h3 (off := off) (vs := (a.eval y).cells.toList) (l' := l') (by rw [k1']; exact k4)
  exact hK _ _ _ (g2.put' o.dst (t := .d (.v undef)) (.v undef) (by simp [T.refs]))
end
end Go.Proofs.Ytcfdlffjghlghaa
