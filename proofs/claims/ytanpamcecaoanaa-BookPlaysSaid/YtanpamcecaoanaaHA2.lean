/-
  Operations of the machine without memory: structs built, compared; calls; and that all of them are the program's. No program is named here.
-/
import Derived.Test.YtanpamcecaoanaaHA1
import Derived.Laws.Tables
import Derived.Great.BuildSlice
import Derived.Laws.OwnMore
import Derived.Laws.CopyOwn
import Derived.Test.YtanpamcecaoanaaHBase
import Derived.WideKeyRuns
namespace Go.Proofs.Ytanpamcecaoanaa
set_option maxRecDepth 100000
open Go.RowKit
set_option linter.unusedVariables false
set_option linter.unusedSimpArgs false

theorem splice_fold (off : Nat) : ∀ (vs : List Value) (j : Nat) (cs : Array Value), off + j + vs.length ≤ cs.size →
    ((vs.zipIdx j).foldl (fun cs (x : Value × Nat) => cs.setIfInBounds (off + x.2) x.1) cs).toList = cs.toList.take (off + j) ++ (vs ++ cs.toList.drop (off + j + vs.length))
  | [], j, cs, h => by simp
  | v :: vs, j, cs, h => by
    simp only [List.length_cons] at h
    rw [List.zipIdx_cons, List.foldl_cons, splice_fold off vs (j + 1) _ (by simp; omega)]
    simp only [Array.toList_setIfInBounds, List.length_cons]
    have h1 : off + j < cs.toList.length := by simp; omega
    rw [List.set_eq_take_append_cons_drop, if_pos h1]
    have e1 : (cs.toList.take (off + j)).length = off + j := by simp; omega
    rw [List.take_append, List.take_of_length_le (by omega), e1, show off + (j + 1) - (off + j) = 1 by omega, List.take_succ_cons, List.take_zero,
      List.drop_append, List.drop_of_length_le (by omega), e1, List.nil_append, show off + (j + 1) + vs.length - (off + j) = vs.length + 1 by omega, List.drop_succ_cons, List.drop_drop]
    simp only [List.append_assoc, List.cons_append, List.nil_append]
    have e2 : ∀ a b : Nat, a = b → cs.toList.drop a = cs.toList.drop b := fun a b h => by rw [h]
    rw [e2 _ (off + j + (vs.length + 1)) (by omega)]

section
variable {E : EnvX} {o : Oper} {s : St} {fr : Nat}

theorem fillA_spec {off : Nat → Option (Nat × Nat)} {s : St} : ∀ {parts : List (Nat × Operand)} {l : List Seg} {K : List Seg → Prop}, fillA off s parts l K → ∃ l', K l' ∧
    ∀ {D : Nat → Prop} {w : World} {ρ : Nat → Option Value} (ev : Operand → Value) (cs : Array Value), (∀ p ∈ parts, RT D ρ w (s.ev p.2) (ev p.2)) → RL D w l cs.toList →
      ∃ cs', Instr.fill off cs (parts.map fun p => (p.1, ev p.2)) = some cs' ∧ RL D w l' cs'.toList
  | [], l, K, h => ⟨l, h, fun ev cs _ hl => ⟨cs, rfl, hl⟩⟩
  | (i, x) :: r, l, K, h => by
    unfold fillA at h
    split at h
    · next q n d ho hx =>
      obtain ⟨hn0, h⟩ := h
      obtain ⟨l1, h1, h2⟩ := wrK_spec h
      obtain ⟨l2, hK, h3⟩ := fillA_spec h1
      refine ⟨l2, hK, fun {D w ρ} ev cs hp hl => ?_⟩
      have hv : RA D w d (ev x) := by have := hp (i, x) (by simp); rw [hx] at this; exact this
      obtain ⟨k1, k2, k3, k4⟩ := h2 hl hv
      have hq : q + (ev x).cells.size ≤ cs.size := by
        rcases k3 with k3 | k3
        · simp at k3; omega
        · exact absurd k3 hn0
      have hf : ((ev x).cells.zipIdx.foldl (fun cs (c, j) => cs.setIfInBounds (q + j) c) cs).toList = cs.toList.take q ++ ((ev x).cells.toList ++ cs.toList.drop (q + n)) := by
        rw [← Array.foldl_toList, Array.toList_zipIdx]
        have := splice_fold q (ev x).cells.toList 0 cs (by simp; omega)
        rw [this]
        simp [k1]
      rw [← hf] at k4
      obtain ⟨cs', h5, h6⟩ := h3 ev _ (fun p hp' => hp p (by simp [hp'])) k4
      refine ⟨cs', ?_, h6⟩
      simp only [List.map_cons, Instr.fill, ho]
      rw [if_neg (by simp [k1]; omega)]
      exact h5
    · exact h.elim

theorem ok_build {t : TypeId} {parts : Array (Nat × Operand)} {i : TI} {K : List Seg → Prop} (ho : o.op = .build t parts) (hY : E.Y t = some i) (ha : i.agg = true) (hl : i.esz ≠ 0 → i.len ≠ 0)
    (h : fillA (fun f => if i.esz = 0 then i.plc[f]? else some (f * i.esz, i.esz)) s parts.toList i.zero K) : ∃ l, K l ∧ OpOK E o s fr (.d (.agg l)) none := by
  obtain ⟨l, hK, hf⟩ := fillA_spec h
  refine ⟨l, hK, .pure (fun b hb => by simp [T.refs] at hb) fun S base w0 s' ρ a w hs g => ?_⟩
  obtain ⟨f, z, h1, h2, _, h3, h4⟩ := (E.hY t i hY).info
  obtain ⟨cs', h5, h6⟩ := hf (D := Dt S base ρ) (w := w) (ρ := ρ) a.eval z.cells (fun p hp => by
    have hm : p.2 ∈ o.op.operands := by rw [ho]; simp only [Op.operands, List.mem_toArray, List.mem_map]; exact ⟨p, hp, rfl⟩
    have := g.ev p.2; rwa [(hs _ hm).1] at this) (zeroB_spec h4)
  refine ⟨.agg cs', ?_, by have := RA.agg h6; rwa [Array.toArray_toList] at this⟩
  have hb : E.P.built t ((parts.map fun (i, x) => (i, a.eval x)).toList) = some cs' := by
    have e1 : (parts.map fun (i, x) => (i, a.eval x)).toList = parts.toList.map fun p => (p.1, a.eval p.2) := by rw [Array.toList_map]
    rw [e1]
    unfold Program.built
    by_cases he : i.esz = 0
    · obtain ⟨fs, k1, k2⟩ := (E.hY t i hY).plc ha he
      simp only [h1, k1, h3, k2]
      rw [← h5]
      congr 1
      funext q
      rw [if_pos he]; simp
    · have k1 := (E.hY t i hY).alen (hl he)
      obtain ⟨_, j, k2, k3⟩ := (E.hY t i hY).arr he
      simp only [h1, k1, h3, k2]
      rw [← h5]
      congr 1
      funext q
      rw [if_neg he, k3]
  simp only [execOp, ho, Sem.run_bind, run_build w t _ _ hb, Result.andThen_ok, Sem.run_pure]

theorem sameKind_kinds {S S' : Nat → Prop} {w w' : World} : ∀ {l m : List Seg} {cs ds : List Value}, sameKind l m = true → RL S w l cs → RL S' w' m ds → cs.map cellKind = ds.map cellKind
  | [], [], _, _, _, h1, h2 => by rw [h1.nil_inv, h2.nil_inv]
  | [], _ :: _, _, _, h, _, _ => by cases h
  | .ints k n a :: l, [], _, _, h, _, _ => by cases h
  | .bytes n a :: l, [], _, _, h, _, _ => by cases h
  | .bools n a :: l, [], _, _, h, _, _ => by cases h
  | .gen n a :: l, m, _, _, h, _, _ => by cases m <;> cases h
  | .ints k n a :: l, .ints k' n' b :: m, _, _, h, .ints h1 r1, .ints h2 r2 => by
    simp only [sameKind, Bool.and_eq_true, decide_eq_true_eq, beq_iff_eq] at h
    obtain ⟨⟨rfl, rfl⟩, h⟩ := h
    rw [List.map_append, List.map_append, sameKind_kinds h r1 r2]
    congr 1
    rw [List.map_map, List.map_map]
    refine List.ext_getElem (by simp [h1, h2]) fun i _ _ => by simp [cellKind]
  | .bytes n a :: l, .bytes n' b :: m, _, _, h, .bytes h1 r1, .bytes h2 r2 => by
    simp only [sameKind, Bool.and_eq_true, beq_iff_eq] at h
    obtain ⟨rfl, h⟩ := h
    rw [List.map_append, List.map_append, sameKind_kinds h r1 r2]
    congr 1
    refine List.ext_getElem (by simp [HL, h1, h2]) fun i _ _ => by simp [HL, cellKind]
  | .bools n a :: l, .bools n' b :: m, _, _, h, .bools h1 r1, .bools h2 r2 => by
    simp only [sameKind, Bool.and_eq_true, beq_iff_eq] at h
    obtain ⟨rfl, h⟩ := h
    rw [List.map_append, List.map_append, sameKind_kinds h r1 r2]
    congr 1
    rw [List.map_map, List.map_map]
    refine List.ext_getElem (by simp [h1, h2]) fun i _ _ => by simp [cellKind]
  | .ints k n a :: l, .bytes _ _ :: m, _, _, h, _, _ => by cases h
  | .ints k n a :: l, .bools _ _ :: m, _, _, h, _, _ => by cases h
  | .ints k n a :: l, .gen _ _ :: m, _, _, h, _, _ => by cases h
  | .bytes n a :: l, .ints _ _ _ :: m, _, _, h, _, _ => by cases h
  | .bytes n a :: l, .bools _ _ :: m, _, _, h, _, _ => by cases h
  | .bytes n a :: l, .gen _ _ :: m, _, _, h, _, _ => by cases h
  | .bools n a :: l, .ints _ _ _ :: m, _, _, h, _, _ => by cases h
  | .bools n a :: l, .bytes _ _ :: m, _, _, h, _, _ => by cases h
  | .bools n a :: l, .gen _ _ :: m, _, _, h, _, _ => by cases h
theorem HL_inj {a b : List UInt8} (h : HL a = HL b) : a = b := HC_inj (by unfold HC; exact congrArg List.toArray h)
theorem eqSegs_iff {S S' : Nat → Prop} {w w' : World} : ∀ {l m z : List Seg} {cs ds : List Value}, sameKind l z = true → sameKind m z = true → RL S w l cs → RL S' w' m ds → (eqSegs l m = true ↔ cs = ds)
  | [], [], _, _, _, _, _, h1, h2 => by rw [h1.nil_inv, h2.nil_inv]; simp [eqSegs]
  | .ints k n a :: l, .ints k' n' b :: m, .ints k2 n2 c :: z, _, _, h, h', .ints h1 r1, .ints h2 r2 => by
    simp only [sameKind, Bool.and_eq_true, decide_eq_true_eq, beq_iff_eq] at h h'
    obtain ⟨⟨rfl, rfl⟩, h⟩ := h
    obtain ⟨⟨rfl, rfl⟩, h'⟩ := h'
    have ih := eqSegs_iff h h' r1 r2
    simp only [eqSegs, Bool.and_eq_true, decide_eq_true_eq, ih]
    constructor
    · rintro ⟨rfl, rfl⟩; rfl
    · intro e
      obtain ⟨e1, e2⟩ := List.append_inj e (by simp [h1, h2])
      exact ⟨(List.map_inj_right (fun x y e => by cases e; rfl)).1 e1, e2⟩
  | .bytes n a :: l, .bytes n' b :: m, .bytes n2 c :: z, _, _, h, h', .bytes h1 r1, .bytes h2 r2 => by
    simp only [sameKind, Bool.and_eq_true, beq_iff_eq] at h h'
    obtain ⟨rfl, h⟩ := h
    obtain ⟨rfl, h'⟩ := h'
    have ih := eqSegs_iff h h' r1 r2
    simp only [eqSegs, Bool.and_eq_true, decide_eq_true_eq, ih]
    constructor
    · rintro ⟨rfl, rfl⟩; rfl
    · intro e
      obtain ⟨e1, e2⟩ := List.append_inj e (by simp [HL, h1, h2])
      exact ⟨HL_inj e1, e2⟩
  | .bools n a :: l, .bools n' b :: m, .bools n2 c :: z, _, _, h, h', .bools h1 r1, .bools h2 r2 => by
    simp only [sameKind, Bool.and_eq_true, beq_iff_eq] at h h'
    obtain ⟨rfl, h⟩ := h
    obtain ⟨rfl, h'⟩ := h'
    have ih := eqSegs_iff h h' r1 r2
    simp only [eqSegs, Bool.and_eq_true, decide_eq_true_eq, ih]
    constructor
    · rintro ⟨rfl, rfl⟩; rfl
    · intro e
      obtain ⟨e1, e2⟩ := List.append_inj e (by simp [h1, h2])
      exact ⟨(List.map_inj_right (fun x y e => by cases e; rfl)).1 e1, e2⟩
  | [], m, _ :: _, _, _, h, _, _, _ => by cases h
  | [], x :: _, [], _, _, _, h', _, _ => by cases x <;> cases h'
  | .gen _ _ :: _, _, z, _, _, h, _, _, _ => by cases z <;> cases h
  | .ints _ _ _ :: l, [], _ :: _, _, _, _, h', _, _ => by cases h'
  | .bytes _ _ :: l, [], _ :: _, _, _, _, h', _, _ => by cases h'
  | .bools _ _ :: l, [], _ :: _, _, _, _, h', _, _ => by cases h'
  | .ints _ _ _ :: l, _, [], _, _, h, _, _, _ => by cases h
  | .bytes _ _ :: l, _, [], _, _, h, _, _, _ => by cases h
  | .bools _ _ :: l, _, [], _, _, h, _, _, _ => by cases h
  | .ints _ _ _ :: l, _, .bytes _ _ :: _, _, _, h, _, _, _ => by cases h
  | .ints _ _ _ :: l, _, .bools _ _ :: _, _, _, h, _, _, _ => by cases h
  | .ints _ _ _ :: l, _, .gen _ _ :: _, _, _, h, _, _, _ => by cases h
  | .bytes _ _ :: l, _, .ints _ _ _ :: _, _, _, h, _, _, _ => by cases h
  | .bytes _ _ :: l, _, .bools _ _ :: _, _, _, h, _, _, _ => by cases h
  | .bytes _ _ :: l, _, .gen _ _ :: _, _, _, h, _, _, _ => by cases h
  | .bools _ _ :: l, _, .ints _ _ _ :: _, _, _, h, _, _, _ => by cases h
  | .bools _ _ :: l, _, .bytes _ _ :: _, _, _, h, _, _, _ => by cases h
  | .bools _ _ :: l, _, .gen _ _ :: _, _, _, h, _, _, _ => by cases h
  | .ints _ _ _ :: l, .bytes _ _ :: _, .ints _ _ _ :: _, _, _, _, h', _, _ => by cases h'
  | .ints _ _ _ :: l, .bools _ _ :: _, .ints _ _ _ :: _, _, _, _, h', _, _ => by cases h'
  | .ints _ _ _ :: l, .gen _ _ :: _, .ints _ _ _ :: _, _, _, _, h', _, _ => by cases h'
  | .bytes _ _ :: l, .ints _ _ _ :: _, .bytes _ _ :: _, _, _, _, h', _, _ => by cases h'
  | .bytes _ _ :: l, .bools _ _ :: _, .bytes _ _ :: _, _, _, _, h', _, _ => by cases h'
  | .bytes _ _ :: l, .gen _ _ :: _, .bytes _ _ :: _, _, _, _, h', _, _ => by cases h'
  | .bools _ _ :: l, .ints _ _ _ :: _, .bools _ _ :: _, _, _, _, h', _, _ => by cases h'
  | .bools _ _ :: l, .bytes _ _ :: _, .bools _ _ :: _, _, _, _, h', _, _ => by cases h'
  | .bools _ _ :: l, .gen _ _ :: _, .bools _ _ :: _, _, _, _, h', _, _ => by cases h'
theorem ok_eqAgg {op : BinOp} {t yt : TypeId} {x y : Operand} {i : TI} {l m : List Seg} {r : Bool} (ho : o.op = .binOp op t x y yt) (hx : s.ev x = .d (.agg l)) (hy : s.ev y = .d (.agg m)) (hY : E.Y t = some i) (he : i.eq = true) (h1 : sameKind l i.zero = true) (h2 : sameKind m i.zero = true)
    (hr : op = .eql ∧ r = eqSegs l m ∨ op = .neq ∧ r = !eqSegs l m) : OpOK E o s fr (.d (.v (.bool r))) none := by
  refine .pure (fun b hb => by simp [T.refs] at hb) fun S base w0 s' ρ a w hs g => ⟨_, ?_, .v _⟩
  have k1 := evData hs g (x := x) (by rw [ho]; simp [Op.operands]) hx
  have k2 := evData hs g (x := y) (by rw [ho]; simp [Op.operands]) hy
  generalize hv : a.eval x = v at k1
  generalize hu : a.eval y = u at k2
  obtain ⟨f, z, _, _, _, _, hz⟩ := (E.hY t i hY).info
  obtain ⟨e1, e2⟩ := E.hE t i hY he
  cases k1 with
  | agg k1 =>
    cases k2 with
    | agg k2 =>
      rename_i cs ds
      obtain ⟨b, hb, hbi⟩ := e2 w cs ds z.cells.toList hz (sameKind_kinds h1 k1 (zeroB_spec (S := S) (w := w) hz)) (sameKind_kinds h2 k2 (zeroB_spec (S := S) (w := w) hz))
      have hq : b = eqSegs l m := by
        have := eqSegs_iff h1 h2 k1 k2
        rw [Bool.eq_iff_iff, hbi, this]
      have hg := run_eqGuard_agg w op t x y cs.toArray ds.toArray e1
      rcases hr with ⟨rfl, rfl⟩ | ⟨rfl, rfl⟩
      · simp only [execOp, ho, hv, hu, Sem.run_bind, hg, Result.andThen_ok, binOp, Op.equal, Op.maxDepth, hb, Sem.run_pure, hq]
      · simp only [execOp, ho, hv, hu, Sem.run_bind, hg, Result.andThen_ok, binOp, Op.equal, Op.maxDepth, hb, Sem.run_pure, hq]
theorem ras_get {D : Nat → Prop} {w : World} : ∀ {l : List A} {vs : List Value} {i : Nat} {d : A}, RAs D w l vs → l[i]? = some d → ∃ v, vs[i]? = some v ∧ RA D w d v
  | _, _, 0, d, .cons h _, e => by cases e; exact ⟨_, rfl, h⟩
  | _, _, i + 1, d, .cons _ r, e => by
    obtain ⟨v, h1, h2⟩ := ras_get r (i := i) (by simpa using e)
    exact ⟨v, by simpa using h1, h2⟩
theorem ok_extract {x : Operand} {i : Nat} {l : List A} {d : A} (ho : o.op = .extract x i) (hx : s.ev x = .tup l) (hd : l[i]? = some d) : OpOK E o s fr (.d d) none := by
  refine .pure (fun b hb => by simp [T.refs] at hb) fun S base w0 s' ρ a w hs g => ?_
  have k1 := evData hs g (x := x) (by rw [ho]; simp [Op.operands]) hx
  obtain ⟨vs, h1, h2⟩ := k1
  obtain ⟨v, h3, h4⟩ := ras_get h2 hd
  refine ⟨v, ?_, h4⟩
  simp [execOp, ho, h1, Instr.extract, h3]
end
end Go.Proofs.Ytanpamcecaoanaa

/-
  Slices: appending, literals. No program is named here.
-/
namespace Go.Proofs.Ytanpamcecaoanaa
set_option maxRecDepth 100000
open Go.RowKit
set_option linter.unusedVariables false
set_option linter.unusedSimpArgs false

section
variable {S : Nat → Prop} {w : World}
theorem RL.join {l m : List Seg} {cs ds : List Value} (h : RL S w l cs) (k : RL S w m ds) : RL S w (joinS l m) (cs ++ ds) := by
  unfold joinS
  split
  · rw [h.nil_inv]; exact k
  · split
    · next e =>
      subst e
      obtain ⟨h1, rfl⟩ := h.toInts
      obtain ⟨h2, rfl⟩ := k.toInts
      exact .ofInts (by simp [h1, h2]) (by simp)
    · exact h.append k
  · obtain ⟨h1, rfl⟩ := h.toBytes
    obtain ⟨h2, rfl⟩ := k.toBytes
    exact .ofBytes (by simp [h1, h2]) (by simp [HL])
  · obtain ⟨h1, rfl⟩ := h.toBools
    obtain ⟨h2, rfl⟩ := k.toBools
    exact .ofBools (by simp [h1, h2]) (by simp)
  · obtain ⟨h1, g⟩ := h.toGen
    obtain ⟨h2, g2⟩ := k.toGen
    exact .ofGen (by simp [h1, h2]) (g.append g2)
  · exact h.append k
theorem RL.many {l : List Seg} {cs : List Value} (h : RL S w l cs) (m : Nat) : RL S w (manyS m l) (List.replicate m cs).flatten := by
  unfold manyS
  split
  · obtain ⟨h1, rfl⟩ := h.toInts
    refine .ofInts (by simp [h1]) ?_
    simp [List.map_flatten]
  · obtain ⟨h1, rfl⟩ := h.toBytes
    refine .ofBytes (by simp [h1]) ?_
    simp [HL, List.map_flatten]
  · obtain ⟨h1, rfl⟩ := h.toBools
    refine .ofBools (by simp [h1]) ?_
    simp [List.map_flatten]
  · obtain ⟨h1, g⟩ := h.toGen
    refine .ofGen (by simp [h1]) ?_
    induction m with
    | zero => exact .nil
    | succ m ih => simpa [List.replicate_succ] using g.append ih
  · rename_i l' _ _ _ _
    induction m with
    | zero => exact .nil
    | succ m ih => simpa [List.replicate_succ] using h.append ih
end
theorem many_cells (zs : Array Value) (hz : zs.size ≠ 0) (m : Nat) : (((Array.range (m * zs.size)).map (zs[· % zs.size]!)).toList) = (List.replicate m zs.toList).flatten := by
  have key : ∀ m, (List.range (m * zs.size)).map (fun i => zs[i % zs.size]!) = (List.replicate m zs.toList).flatten := by
    intro m
    induction m with
    | zero => simp
    | succ m ih =>
      rw [List.replicate_succ', List.flatten_append, ← ih, Nat.add_mul, Nat.one_mul, List.range_add, List.map_append]
      congr 1
      simp only [List.flatten_cons, List.flatten_nil, List.append_nil, List.map_map]
      refine List.ext_getElem (by simp) fun i h1 h2 => ?_
      simp at h1
      simp [Nat.add_comm (m * zs.size), Nat.add_mul_mod_self_right, Nat.mod_eq_of_lt h1, getElem!_pos zs i h1]
  rw [Array.toList_map, ← key]
  simp

section
variable {E : EnvX} {o : Oper} {s : St} {fr : Nat}

/-- a new slice of one's own -/
theorem Good.newSl {G : Nat → Option (List Seg)} {S : Nat → Prop} {base : Nat} {w0 : W0 G} {s : St} {ρ : Nat → Option Value} {a : Act} {w w' : World} (g : Good S base w0 s ρ a w) {fr : Nat} (hfr : s.bk fr = none) (hlt : fr < s.h.length) (hw : w.grownBy w' none)
    {e : TypeId} {sz n : Nat} {l : List Seg} {cs : List Value} {v : Value} (hown : w'.ownsRow w.heap.size e sz v n cs)
    (hl : RL (Dt S base (upd ρ fr (some v))) w' l cs) (d : Option Nat) : Good S base w0 (s.app d (.own fr n) (some (fr, .sl e sz n l))) (upd ρ fr (some v)) (a.put d v) w' := by
  have hform : ∃ ad c, v = .slice ad n c := by
    rcases hown.2 with ⟨e1, e2⟩ | ⟨q, cap, cur, e1, _⟩
    · exact ⟨_, _, by rw [e1, e2]⟩
    · exact ⟨_, _, e1⟩
  have hreal : ∀ q, Rl v q → w.heap.size ≤ q ∧ q < w'.heap.size := by
    intro q hq
    rcases hown.2 with ⟨e1, e2⟩ | ⟨q', cap, cur, e1, e3, e4, _⟩
    · rw [e1] at hq; cases hq
    · rw [e1] at hq; cases hq
      exact ⟨e3, (Array.getElem?_eq_some_iff.1 e4).1⟩
  have g2 := g.change fr hlt v (.sl e sz n l) none hw (by simp) (fun q hq => ⟨.inl (hreal q hq).1, (hreal q hq).2⟩) (by
      intro K0
      refine ⟨v, cs, by simp [upd], ⟨hown.1, ?_⟩, hl⟩
      rcases hown.2 with h | ⟨q', cap, cur, e1, e3, e4⟩
      · exact .inl h
      · exact .inr ⟨q', cap, cur, e1, Nat.le_trans g.size e3, e4⟩) (by
      intro _ i hi hm
      exact absurd hfr (g.dang i fr hm)) (fun q hq => by have h0 := g.b fr; rw [hfr] at h0; have h0' : ρ fr = none := h0; rw [h0'] at hq; cases hq)
  refine g2.put' d (t := .own fr n) ?_ ?_
  · intro u hu
    simp [upd] at hu
    obtain ⟨ad, c', e1⟩ := hform
    exact ⟨ad, n, c', by rw [← hu, e1], Nat.le_refl _, fun _ => hu⟩
  · intro b hb
    simp [T.refs] at hb
    subst hb
    simp [St.bk, getD_set_list, hlt]
/-- data stay data beside a new block -/
theorem Dt.new {S : Nat → Prop} {base : Nat} {ρ : Nat → Option Value} {w w' : World} {v : Value} {fr : Nat} (hw : w.grownBy w' none) (hv : ∀ q, Rl v q → w.heap.size ≤ q) (hfr : ρ fr = none) : Keeps (Dt S base ρ) w (Dt S base (upd ρ fr (some v))) w' := by
  refine ⟨hw.size, fun r hr hd => ⟨⟨hd.1, fun b u hb hu => ?_⟩, fun o => World.cell?_of_block (hw.block r hr (by simp))⟩⟩
  by_cases e : b = fr
  · subst e
    simp [upd] at hb; subst hb
    have := hv r hu; omega
  · simp [upd, e] at hb
    exact hd.2 b u hb hu

theorem fill_size {off : Nat → Option (Nat × Nat)} : ∀ {l : List (Nat × Value)} {cs cs' : Array Value}, Instr.fill off cs l = some cs' → cs'.size = cs.size
  | [], cs, cs', h => by simp [Instr.fill] at h; rw [h]
  | (i, v) :: r, cs, cs', h => by
    unfold Instr.fill at h
    split at h
    · cases h
    · next q n hq =>
      split at h
      · cases h
      · have := fill_size h
        rw [this]
        have key : ∀ (l : List (Value × Nat)) (cs : Array Value), (l.foldl (fun cs (x : Value × Nat) => cs.setIfInBounds (q + x.2) x.1) cs).size = cs.size := by
          intro l
          induction l with
          | nil => intro cs; rfl
          | cons x l ih => intro cs; rw [List.foldl_cons, ih]; simp
        rw [← Array.foldl_toList]
        exact key _ _
theorem ok_buildSlice {t : TypeId} {len : Nat} {parts : Array (Nat × Operand)} {i j : TI} {K : List Seg → Prop} (ho : o.op = .buildSlice t len parts) (hY : E.Y t = some i) (hs1 : i.sl = true) (he : i.esz ≠ 0) (hl : len ≠ 0) (hm : len * i.esz ≤ 16777216) (hj : E.Y i.elem = some j) (hjs : segN j.zero = i.esz)
    (h : fillA (fun f => some (f * i.esz, i.esz)) s parts.toList (manyS len j.zero) K) : ∃ l, K l ∧ OpOK E o s fr (.own fr len) (some (fr, .sl i.elem i.esz len l)) := by
  obtain ⟨l, hK, hf⟩ := fillA_spec h
  refine ⟨l, hK, fun b hb => .inl ⟨by simpa [T.refs] using hb, _, rfl⟩, fun b x e => by cases e; exact .inl rfl, fun S base w0 s' ρ a w K' Q hs g hfr hlt hK' => ?_⟩
  obtain ⟨f, z, h1, h2, _, h3, h4⟩ := (E.hY _ j hj).info
  obtain ⟨_, f', h5, h6⟩ := (E.hY t i hY).arr he
  rw [h1] at h5; cases h5
  have hu := (E.hY t i hY).sl hs1
  have hz := zeroB_spec (S := Dt S base ρ) (w := w) h4
  have hzl : z.cells.size = f.size := by have := hz.len; rw [hjs, ← h6] at this; simpa using this
  have hpos : f.size ≠ 0 := by rw [h6]; exact he
  have hzn : z.cells.size ≠ 0 := by rw [hzl]; exact hpos
  have hc := many_cells z.cells hzn len
  obtain ⟨cs', h7, h8⟩ := hf (D := Dt S base ρ) (w := w) (ρ := ρ) a.eval ((Array.range (len * f.size)).map (z.cells[· % z.cells.size]!)) (fun p hp => by
    have hm : p.2 ∈ o.op.operands := by rw [ho]; simp only [Op.operands, List.mem_toArray, List.mem_map]; exact ⟨p, hp, rfl⟩
    have := g.ev p.2; rwa [(hs _ hm).1] at this) (by rw [← hzl, hc]; exact hz.many len)
  have hsz : cs'.size = len * f.size := by
    rw [fill_size h7]; simp
  have hr := run_buildSlice (P := E.P) w t i.elem len (parts.map fun (i, x) => (i, a.eval x)) cs' f z hu h1 h3 (by rw [h6]; omega) (by rw [h6]; exact Nat.mul_ne_zero hl he) (by
    rw [Array.toList_map, h6]; rw [h6] at h7; exact h7)
  have hw : w.grownBy (w.alloc (.cells cs' i.elem)) none := ⟨rfl, rfl, rfl, by rw [size_alloc]; omega, fun k hk _ => Below.heap_alloc _ _ _ hk⟩
  have hρ : ρ fr = none := by have := g.b fr; rw [hfr] at this; exact this
  unfold Oper.wp execOp
  simp only [ho, Sem.run_bind, hr, Result.andThen_ok, Sem.run_pure]
  refine hK' _ _ _ (g.newSl hfr hlt hw (cs := cs'.toList) ⟨?_, .inr ⟨w.heap.size, len, cs', rfl, Nat.le_refl _, heap_alloc_new _ _, Nat.le_refl _, ?_, ?_, ?_⟩⟩ (h8.up (Dt.new hw (fun q hq => by simp [Rl] at hq; omega) hρ)) o.dst)
  · rw [Array.length_toList, hsz, h6]
  · have : len ≤ len * i.esz := Nat.le_mul_of_pos_right _ (Nat.pos_of_ne_zero he)
    unfold maxLen; omega
  · rw [hsz, h6]
  · rw [List.take_of_length_le (by rw [Array.length_toList, hsz, h6]; exact Nat.le_refl _)]

/-- a slice of nothing that is not nil -/
theorem ok_build0 {t : TypeId} {parts : Array (Nat × Operand)} {i j : TI} (ho : o.op = .buildSlice t 0 parts) (hY : E.Y t = some i) (hs1 : i.sl = true) (he : i.esz ≠ 0) (hj : E.Y i.elem = some j) (hp : parts.toList = []) :
    OpOK E o s fr (.own fr 0) (some (fr, .sl i.elem i.esz 0 (manyS 0 j.zero))) := by
  refine ⟨fun b hb => .inl ⟨by simpa [T.refs] using hb, _, rfl⟩, fun b x e => by cases e; exact .inl rfl, fun S base w0 s' ρ a w K' Q hs g hfr hlt hK' => ?_⟩
  obtain ⟨f, z, h1, h2, _, h3, h4⟩ := (E.hY _ j hj).info
  obtain ⟨_, f', h5, h6⟩ := (E.hY t i hY).arr he
  rw [h1] at h5; cases h5
  have hu := (E.hY t i hY).sl hs1
  have hz := zeroB_spec (S := Dt S base ρ) (w := w) h4
  have hpa : parts = #[] := by cases parts; simp_all
  subst hpa
  have hr : (Instr.buildSlice t 0 (#[].map fun (p : Nat × Operand) => (p.1, a.eval p.2))).run E.P w = .ok (.slice (some ⟨w.heap.size, 0, none⟩) 0 0) (w.alloc (.cells #[] i.elem)) := by
    simp [Instr.buildSlice, run_underlying hu, sizeOf, typeInfo, h1, Instr.fill, newRow]
    exact congrArg (fun c => w.alloc (.cells c i.elem)) (Array.eq_empty_of_size_eq_zero (by simp))
  have hw : w.grownBy (w.alloc (.cells #[] i.elem)) none := ⟨rfl, rfl, rfl, by rw [size_alloc]; omega, fun k hk _ => Below.heap_alloc _ _ _ hk⟩
  have hρ : ρ fr = none := by have := g.b fr; rw [hfr] at this; exact this
  have hm := hz.many 0
  rw [List.replicate_zero, List.flatten_nil] at hm
  unfold Oper.wp execOp
  simp only [ho, Sem.run_bind, hr, Result.andThen_ok, Sem.run_pure]
  refine hK' _ _ _ (g.newSl hfr hlt hw (cs := []) ⟨by simp, .inr ⟨w.heap.size, 0, #[], rfl, Nat.le_refl _, heap_alloc_new _ _, Nat.le_refl _, Nat.zero_le _, by simp, by simp⟩⟩ (hm.up (Dt.new hw (fun q hq => by simp [Rl] at hq; omega) hρ)) o.dst)
theorem datP_spec {D : Nat → Prop} {ρ : Nat → Option Value} {w : World} : ∀ {ps : List Pt} {l : List A} {vs : List Value}, datP ps = some l → RPs D ρ w ps vs → l.length = ps.length ∧ RG D w l vs
  | [], l, vs, h, hp => by cases h; cases hp; exact ⟨rfl, .nil⟩
  | .dat (.row n m) :: r, l, vs, h, hp => by
    cases hp with
    | cons h1 hr =>
    unfold datP at h
    cases hq : datP r with
    | none => rw [hq] at h; cases h
    | some l' =>
      rw [hq] at h; cases h
      obtain ⟨e, g⟩ := datP_spec hq hr
      have h2 : RA D w (.row n m) _ := h1
      exact ⟨by simp [e], .cons h2 (by cases h2; rfl) g⟩
  | .dat (.v x) :: r, l, vs, h, hp => by
    cases hp with
    | cons h1 hr =>
    unfold datP at h
    split at h
    · next e => cases e
    · next e => cases e
    · next e =>
      cases e
      cases hq : datP r with
      | none => rw [hq] at h; cases h
      | some l' =>
        rw [hq] at h; cases h
        obtain ⟨e, g⟩ := datP_spec hq hr
        have h2 : RA D w (.v (.slice none 0 0)) _ := h1
        exact ⟨by simp [e], .cons h2 (by cases h2; rfl) g⟩
    · cases h
  | .dat (.agg _) :: r, l, vs, h, hp => by simp [datP] at h
  | .dat (.ref _ _) :: r, l, vs, h, hp => by simp [datP] at h
  | .dat (.sref _ _) :: r, l, vs, h, hp => by simp [datP] at h
  | .dat (.recs _ _ _) :: r, l, vs, h, hp => by simp [datP] at h
  | .dat (.clo _ _) :: r, l, vs, h, hp => by simp [datP] at h
  | .own _ _ :: r, l, vs, h, hp => by simp [datP] at h
  | .win _ _ _ :: r, l, vs, h, hp => by simp [datP] at h
theorem srcK_spec {y : Operand} {K : Nat → List Seg → Prop} (h : srcK s (s.ev y) K) : ∃ m news, K m news ∧
    ∀ (S : Nat → Prop) (base : Nat) (w0 : W0 E.G) (s' : St) (ρ : Nat → Option Value) (a : Act) (w : World), s'.ev y = s.ev y → (∀ b ∈ (s.ev y).refs, s'.bk b = s.bk b) → Good S base w0 s' ρ a w →
      ∃ ad c cs, a.eval y = .slice ad m c ∧ RL (Dt S base ρ) w news cs ∧ ((ad = none ∧ c = 0 ∧ m = 0 ∧ cs = []) ∨ ∃ a', ad = some a' ∧ ∀ j u, cs[j]? = some u → w.cell? (a'.add j) = some u) := by
  unfold srcK at h
  split at h
  · next n l hy =>
    refine ⟨n, l, h, fun S base w0 s' ρ a w h1 h2 g => ?_⟩
    have hv := g.ev y
    rw [h1, hy] at hv
    generalize a.eval y = v at hv
    cases hv with
    | row k k1 k2 k3 k4 =>
      rename_i c cs ad
      refine ⟨ad, c, cs, rfl, k, ?_⟩
      rcases k4 with k4 | ⟨b, q, rfl, k5, k6, k7⟩
      · subst k4
        cases ad with
        | none => have := k3 rfl; exact .inl ⟨rfl, this, by omega, rfl⟩
        | some a' => exact .inr ⟨a', rfl, fun j u hj => by simp at hj⟩
      · refine .inr ⟨_, rfl, fun j u hj => ?_⟩
        obtain ⟨hlt, e⟩ := List.getElem?_eq_some_iff.1 hj
        rw [add_at, k7 j hlt, e]
  · next b n hy =>
    split at h
    · next e sz m l hk =>
      obtain ⟨rfl, h⟩ := h
      refine ⟨n, l, h, fun S base w0 s' ρ a w h1 h2 g => ?_⟩
      have hv := g.ev y
      rw [h1, hy] at hv
      obtain ⟨cs, k1, k2, k3⟩ := own_now g ((h2 b (by rw [hy]; simp [T.refs])).trans hk) hv
      rcases k2.2 with ⟨e1, e2⟩ | ⟨r, cap, cur, e1, e3, e4, e5, e6, e7, e8⟩
      · refine ⟨none, 0, cs, by rw [e1, e2], k3, .inl ⟨rfl, rfl, e2, ?_⟩⟩
        have := k2.1; rw [e2, Nat.zero_mul] at this; exact List.length_eq_zero_iff.1 this
      · refine ⟨_, cap, cs, e1, k3, .inr ⟨_, rfl, k2.cells (g := r) (by rw [e1]; rfl)⟩⟩
    · exact h.elim
  · next b q n hy =>
    split at h
    · next l hk =>
      split at h
      · next m hm =>
        obtain ⟨hle, h⟩ := h
        refine ⟨n, m, h, fun S base w0 s' ρ a w h1 h2 g => ?_⟩
        have hv := g.ev y
        rw [h1, hy] at hv
        obtain ⟨r, cs, ty, k1, k2, k3, k4⟩ := g.var ((h2 b (by rw [hy]; simp [T.refs])).trans hk)
        obtain ⟨r', c, e1, e2, e3, e4⟩ := hv _ k1
        obtain rfl := e1.ptr
        refine ⟨_, c, _, e2, (k4.cut hm).1, .inr ⟨_, rfl, fun j u hj => ?_⟩⟩
        rw [add_at, cells_of k3]
        rw [List.getElem?_take] at hj
        split at hj
        · rw [List.getElem?_drop] at hj; exact hj
        · cases hj
      · exact h.elim
    · exact h.elim
  · next hy =>
    refine ⟨0, [], h, fun S base w0 s' ρ a w h1 h2 g => ?_⟩
    have hv := g.ev y
    rw [h1, hy] at hv
    exact ⟨none, 0, [], RA.plain hv, .nil, .inl ⟨rfl, rfl, rfl, rfl⟩⟩
  · next ad c hy =>
    refine ⟨0, [], h, fun S base w0 s' ρ a w h1 h2 g => ?_⟩
    have hv := g.ev y
    rw [h1, hy] at hv
    exact ⟨some ad, c, [], RA.plain hv, .nil, .inr ⟨ad, rfl, fun j u hj => by simp at hj⟩⟩
  · next ps hy =>
    split at h
    · next l hl =>
      refine ⟨_, _, h, fun S base w0 s' ρ a w h1 h2 g => ?_⟩
      have hv := g.ev y
      rw [h1, hy] at hv
      obtain ⟨vs, hp, r, hr, hne, hle, hD, hlt, hc⟩ := hv
      have hlen := hp.len
      obtain ⟨e1, hg⟩ := datP_spec hl hp
      refine ⟨some ⟨r, 0, none⟩, vs.length, vs, by rw [hr, hlen], .ofGen e1 hg, .inr ⟨_, rfl, fun j u hj => ?_⟩⟩
      rw [add_at, Nat.zero_add]
      obtain ⟨h9, h10⟩ := List.getElem?_eq_some_iff.1 hj
      rw [hc j h9, h10]
    · exact h.elim
  · exact h.elim

theorem run_append_own_same {P : Program} {w : World} (base : Nat) (t ty e : TypeId) (i : TypeInfo) (size : Nat) (ht : P.underlying t = some (.slice e)) (hi : P.info? e = some i) (hsize : i.size = size)
    (v : Value) (n : Nat) (xs : List Value) (hown : w.ownsRow base e size v n xs) (a : Addr) (c : Nat) : (Builtin.append_ #[t, t] ty #[v, .slice (some a) 0 c]).run P w = .ok v w := by
  subst hsize
  rcases hown.2 with ⟨rfl, rfl⟩ | ⟨g, cap, cur, rfl, hbg, hg, hnc, hcm, hcs, htake⟩
  · simp [Builtin.append_, run_underlying ht, sizeOf, typeInfo, hi, Builtin.lenOf, Builtin.firstCells, loadCells, loadCellsFrom]
  · have hr := run_append_room (P := P) w t ty e i ht hi g n cap cur hg a 0 c [] (by simp) (by simp) (by simp) (by omega) (by simp [hcs]; exact Nat.mul_le_mul_right _ hnc)
    rw [hr]
    have : (List.take (n * i.size) cur.toList ++ [] ++ List.drop (n * i.size + ([] : List Value).length) cur.toList).toArray = cur := by simp
    rw [this, setRow_self w g cur e (0, 0) hg]
    simp

theorem ok_append {c : Call} {x y : Operand} {t : TypeId} {i j : TI} {b n : Nat} {l : List Seg} (ho : o.op = .call c) (hc : c.callee = .builtin .append) (ha : c.args.toList = [x, y]) (ht : c.argTypes.toList = [t, t]) (hY : E.Y t = some i) (hs1 : i.sl = true) (he : i.esz ≠ 0)
    (hj : E.Y i.elem = some j) (hjb : j.bytes ≠ 0) (hjs : segN j.zero = i.esz) {m : Nat} {news : List Seg}
    (hsrc : ∀ (S : Nat → Prop) (base : Nat) (w0 : W0 E.G) (s' : St) (ρ : Nat → Option Value) (a : Act) (w : World), s'.ev y = s.ev y → (∀ b ∈ (s.ev y).refs, s'.bk b = s.bk b) → Good S base w0 s' ρ a w →
      ∃ ad c cs, a.eval y = .slice ad m c ∧ RL (Dt S base ρ) w news cs ∧ ((ad = none ∧ c = 0 ∧ m = 0 ∧ cs = []) ∨ ∃ a', ad = some a' ∧ ∀ j u, cs[j]? = some u → w.cell? (a'.add j) = some u))
    (hseg : segN news = m * i.esz) (hx : s.ev x = .own b n) (hk : s.bk b = some (.sl i.elem i.esz n l)) (hb : (n + m) * j.bytes ≤ 140737488355328) :
    OpOK E o s fr (.own b (n + m)) (some (b, .sl i.elem i.esz (n + m) (joinS l news))) := by
  have hca : c.args = #[x, y] := by cases hq : c.args; simp_all
  have hct : c.argTypes = #[t, t] := by cases hq : c.argTypes; simp_all
  have hmx : x ∈ o.op.operands := by rw [ho]; simp [Op.operands, Call.operands, hc, hca]
  have hmy : y ∈ o.op.operands := by rw [ho]; simp [Op.operands, Call.operands, hc, hca]
  have hlk : looks o = true := by simp [looks, ho]
  refine ⟨fun q hq => .inr ⟨x, hmx, by rw [hx]; simpa [T.refs] using hq⟩, fun q z e => by cases e; exact .inr ⟨x, hmx, by rw [hx]; simp [T.refs]⟩, fun S base w0 s' ρ a w K' Q hs g hfr hlt hK' => ?_⟩
  obtain ⟨ad, c', ns, h1, h2, h3⟩ := hsrc S base w0 s' ρ a w (hs y hmy).1 (fun q hq => hs.bk hmy hlk hq) g
  have hbk : s'.bk b = some (.sl i.elem i.esz n l) := (hs.bk hmx hlk (by rw [hx]; simp [T.refs])).trans hk
  obtain ⟨cs, k1, k2, k3⟩ := own_now g hbk (evData hs g hmx hx)
  obtain ⟨_, f, h5, h6⟩ := (E.hY t i hY).arr he
  obtain ⟨f', z, h7, h8, h9, h10, h11⟩ := (E.hY _ j hj).info
  rw [h5] at h7; cases h7
  have hu := (E.hY t i hY).sl hs1
  have hns : ns.length = m * i.esz := by rw [h2.len, hseg]
  have hform : ∃ ad c, a.eval x = .slice ad n c := by
    rcases k2.2 with ⟨e1, e2⟩ | ⟨q, cap, cur, e1, _⟩
    · exact ⟨_, _, by rw [e1, e2]⟩
    · exact ⟨_, _, e1⟩
  have hbl := bk_lt hbk
  have hrun : ∀ {v' w'}, (Builtin.append_ #[t, t] o.type #[a.eval x, a.eval y]).run E.P w = .ok v' w' → (∀ ρ' , Good S base w0 (s'.app o.dst (.own b (n + m)) (some (b, .sl i.elem i.esz (n + m) (joinS l news)))) ρ' (a.put o.dst v') w' → o.wp E.P a w K' Q) := by
    intro v' w' hr ρ' hg
    unfold Oper.wp execOp
    simp only [ho, hc, hca, hct, resolve, invoke, builtin, Sem.run_bind, Sem.run_pure, Result.andThen_ok, List.map_toArray, List.map_cons, List.map_nil, hr]
    exact hK' _ _ _ hg
  -- nothing is appended
  have same : m = 0 → ns = [] → (Builtin.append_ #[t, t] o.type #[a.eval x, a.eval y]).run E.P w = .ok (a.eval x) w → o.wp E.P a w K' Q := by
    intro hm hn hr
    subst hm; subst hn
    have hupd : upd ρ b (some (a.eval x)) = ρ := by
      funext q; unfold upd; split
      · next e => rw [e, k1]
      · rfl
    have g2 := g.change b hbl (a.eval x) (.sl i.elem i.esz (n + 0) (joinS l news)) none ⟨rfl, rfl, rfl, Nat.le_refl _, fun _ _ _ => rfl⟩ (by simp) (fun r hr => ⟨.inr ⟨_, k1, hr⟩, (g.low b _ r k1 hr).2⟩) (by
      rw [hupd]
      intro K0
      refine ⟨a.eval x, cs ++ [], k1, ?_, k3.join h2⟩
      rw [List.append_nil]; exact k2) (by
      rw [hupd]
      intro _ q hq _
      exact g.t q hq) (fun q hq => by rw [k1] at hq; exact Option.some.inj hq)
    rw [hupd] at g2
    refine hrun hr ρ (g2.put' o.dst (t := .own b (n + 0)) ?_ ?_)
    · intro u hu
      rw [k1] at hu; cases hu
      obtain ⟨ad, c', e⟩ := hform
      exact ⟨ad, n, c', e, Nat.le_refl _, fun _ => rfl⟩
    · intro q hq
      simp [T.refs] at hq; subst hq
      simp [St.bk, getD_set_list, hbl]
  rcases h3 with ⟨rfl, rfl, hm, hn⟩ | ⟨a', rfl, h12⟩
  · refine same hm hn ?_
    rw [h1, hm]
    exact run_append_owned_none (P := E.P) (w := w) base t o.type i.elem f i.esz hu h5 _ n cs k2
  · by_cases hm : m = 0
    · refine same hm (by rw [hm, Nat.zero_mul] at hns; exact List.length_eq_zero_iff.1 hns) ?_
      rw [h1, hm]
      exact run_append_own_same base t o.type i.elem f i.esz hu h5 h6 _ n cs k2 a' c'
    · have hz := (zeroB_spec (S := S) (w := w) h11).len
      have h63 : n + m ≤ maxLen := by
        have : n + m ≤ (n + m) * j.bytes := Nat.le_mul_of_pos_right _ (Nat.pos_of_ne_zero hjb)
        unfold maxLen; omega
      obtain ⟨v', w', hr, k4, k5, k6, k7⟩ := run_append_own_at (P := E.P) w base t o.type i.elem f z i.esz j.bytes hu h5 h10 h6 h9 (by
          rw [hjs] at hz; simpa using hz) (Nat.pos_of_ne_zero he) _ n cs k2 a' m c' ns hns h12 h2.one h63 hb g.size
      have hform' : ∃ ad c, v' = .slice ad (n + m) c := by
        rcases k4.2 with ⟨e1, e2⟩ | ⟨q, cap, cur, e1, _⟩
        · exact ⟨_, _, by rw [e1, e2]⟩
        · exact ⟨_, _, e1⟩
      obtain ⟨ad1, c1, f1⟩ := hform
      obtain ⟨ad2, c2, f2⟩ := hform'
      have g2 := g.change b hbl v' (.sl i.elem i.esz (n + m) (joinS l news)) (a.eval x).ownBlock k5 (fun r hr => ⟨_, k1, (rl_own ⟨_, _, _, f1⟩).2 hr⟩) (fun r hr => by
          rw [rl_own ⟨_, _, _, f2⟩] at hr
          refine ⟨?_, ?_⟩
          · rcases k7 with k7 | k7
            · exact .inr ⟨_, k1, (rl_own ⟨_, _, _, f1⟩).2 (by rw [← k7]; exact hr)⟩
            · rw [k7] at hr; cases hr; exact .inl (Nat.le_refl _)
          · exact (k4.lt r hr).2) (by
          intro K0
          exact ⟨v', cs ++ ns, by simp [upd], k4, (k3.up K0).join (h2.up K0)⟩) (by
          intro K0 q hq hrf
          have hold := g.t q hq
          have nop : ∀ r : Nat, ∀ o', a.eval x = .pointer (some ⟨r, o', none⟩) → False := fun r o' e => by rw [f1] at e; cases e
          cases hT : s'.sl q with
          | d _ => rw [hT] at hrf; simp [T.refs] at hrf
          | tup _ => rw [hT] at hrf; simp [T.refs] at hrf
          | dead => rw [hT] at hrf; simp [T.refs] at hrf
          | ob b' => rw [hT] at hrf hold; simp [T.refs] at hrf; subst hrf; obtain ⟨r, F, e, _⟩ := hold _ k1; rw [f1] at e; exact (fpv_no.2 _ _ _ e.symm).elim
          | mp b' => rw [hT] at hrf hold; simp [T.refs] at hrf; subst hrf; obtain ⟨r, F, e, _⟩ := hold _ k1; rw [f1] at e; exact (fpv_no.2 _ _ _ e.symm).elim
          | ptr b' o' => rw [hT] at hrf hold; simp [T.refs] at hrf; subst hrf; obtain ⟨r, e, _⟩ := hold _ k1; rw [f1] at e; exact e.slice.elim
          | hsl b' n' => rw [hT] at hrf hold; simp [T.refs] at hrf; subst hrf; rcases hold _ k1 with ⟨r, a2, n2, c2, e, _⟩ | ⟨r, e⟩; (rw [f1] at e; exact (uvh_no.2 _ _ _ e.symm).elim); (exact (nop _ _ e).elim)
          | pti b' o' r' => rw [hT] at hrf hold; simp [T.refs] at hrf; subst hrf; obtain ⟨r, e, _⟩ := hold _ k1; rw [f1] at e; exact e.slice.elim
          | bxp b' c' =>
            rw [hT] at hold
            intro u hu
            by_cases e : b' = b
            · subst e; obtain ⟨r, e, _⟩ := hold _ k1; rw [f1] at e; exact e.slice.elim
            · simp [upd, e] at hu; exact hold u hu
          | win b' o' r' => rw [hT] at hrf hold; simp [T.refs] at hrf; subst hrf; obtain ⟨r, _, e, _⟩ := hold _ k1; rw [f1] at e; exact e.slice.elim
          | own b' n' =>
            rw [hT] at hrf hold; simp [T.refs] at hrf; subst hrf
            obtain ⟨_, n2, _, e, e2, _⟩ := hold _ k1
            rw [f1] at e; cases e
            intro u hu
            simp [upd] at hu; subst hu
            exact ⟨ad2, n + m, c2, f2, by omega, fun e => by omega⟩
          | ept b' n' off =>
            rw [hT] at hrf hold; simp [T.refs] at hrf; subst hrf
            obtain ⟨_, n2, _, e, e2, _⟩ := hold _ k1
            rw [f1] at e; cases e
            intro u hu
            simp [upd] at hu; subst hu
            exact ⟨ad2, n + m, c2, f2, by omega, fun e => by omega⟩
          | pre b' n0 n' =>
            rw [hT] at hrf hold; simp [T.refs] at hrf; subst hrf
            obtain ⟨_, n2, _, e, e2, _⟩ := hold _ k1
            rw [f1] at e; cases e
            intro u hu
            simp [upd] at hu; subst hu
            exact ⟨ad2, n + m, c2, f2, by omega, fun e => by omega⟩
          | rows ps =>
            rw [hT] at hold
            obtain ⟨vs, hp, hr⟩ := hold
            refine ⟨vs, hp.map fun p hp v hv => ?_, hr.up K0⟩
            by_cases hbp : b ∈ p.refs
            · cases p with
              | dat a' => simp [Pt.refs] at hbp
              | win b' o' n' => simp [Pt.refs] at hbp; subst hbp; obtain ⟨r, _, e, _⟩ := hv _ k1; rw [f1] at e; exact e.slice.elim
              | own b' n' =>
                simp [Pt.refs] at hbp; subst hbp
                obtain ⟨_, n2, _, e, e2, _⟩ := hv _ k1
                rw [f1] at e; cases e
                intro u hu
                simp [upd] at hu; subst hu
                exact ⟨ad2, n + m, c2, f2, by omega, fun e => by omega⟩
            · exact hv.up K0 fun q hq => by
                have : q ≠ b := fun e => hbp (e ▸ hq)
                simp [upd, this]) (fun q hq => by rw [k1, f1] at hq; cases hq)
      refine hrun (by rw [h1]; exact hr) _ (g2.put' o.dst (t := .own b (n + m)) ?_ ?_)
      · intro u hu
        simp [upd] at hu; subst hu
        exact ⟨ad2, n + m, c2, f2, Nat.le_refl _, fun _ => rfl⟩
      · intro q hq
        simp [T.refs] at hq; subst hq
        simp [St.bk, getD_set_list, hbl]

theorem ok_appendNew {c : Call} {x y : Operand} {t : TypeId} {i j : TI} (ho : o.op = .call c) (hc : c.callee = .builtin .append) (ha : c.args.toList = [x, y]) (ht : c.argTypes.toList = [t, t]) (hY : E.Y t = some i) (hs1 : i.sl = true) (he : i.esz ≠ 0)
    (hj : E.Y i.elem = some j) (hjb : j.bytes ≠ 0) (hjs : segN j.zero = i.esz) {m : Nat} {news : List Seg}
    (hsrc : ∀ (S : Nat → Prop) (base : Nat) (w0 : W0 E.G) (s' : St) (ρ : Nat → Option Value) (a : Act) (w : World), s'.ev y = s.ev y → (∀ b ∈ (s.ev y).refs, s'.bk b = s.bk b) → Good S base w0 s' ρ a w →
      ∃ ad c cs, a.eval y = .slice ad m c ∧ RL (Dt S base ρ) w news cs ∧ ((ad = none ∧ c = 0 ∧ m = 0 ∧ cs = []) ∨ ∃ a', ad = some a' ∧ ∀ j u, cs[j]? = some u → w.cell? (a'.add j) = some u))
    (hseg : segN news = m * i.esz) (hx : s.ev x = .d (.v (.slice none 0 0))) (hb : m * j.bytes ≤ 140737488355328) :
    OpOK E o s fr (.own fr m) (some (fr, .sl i.elem i.esz m news)) := by
  have hca : c.args = #[x, y] := by cases hq : c.args; simp_all
  have hct : c.argTypes = #[t, t] := by cases hq : c.argTypes; simp_all
  have hmx : x ∈ o.op.operands := by rw [ho]; simp [Op.operands, Call.operands, hc, hca]
  have hmy : y ∈ o.op.operands := by rw [ho]; simp [Op.operands, Call.operands, hc, hca]
  have hlk : looks o = true := by simp [looks, ho]
  refine ⟨fun b hb => .inl ⟨by simpa [T.refs] using hb, _, rfl⟩, fun b x e => by cases e; exact .inl rfl, fun S base w0 s' ρ a w K' Q hs g hfr hlt hK' => ?_⟩
  obtain ⟨ad, c', ns, h1, h2, h3⟩ := hsrc S base w0 s' ρ a w (hs y hmy).1 (fun q hq => hs.bk hmy hlk hq) g
  obtain ⟨_, f, h5, h6⟩ := (E.hY t i hY).arr he
  obtain ⟨f', z, h7, h8, h9, h10, h11⟩ := (E.hY _ j hj).info
  rw [h5] at h7; cases h7
  have hu := (E.hY t i hY).sl hs1
  have hns : ns.length = m * i.esz := by rw [h2.len, hseg]
  have hxv := evPlain hs g hmx hx
  have hρ : ρ fr = none := by have := g.b fr; rw [hfr] at this; exact this
  have hnil : w.ownsRow w.heap.size i.elem i.esz (.slice none 0 0) 0 [] := World.ownsRow_nil _ _ _ _
  have hrun : ∀ {v' w'}, (Builtin.append_ #[t, t] o.type #[a.eval x, a.eval y]).run E.P w = .ok v' w' → (∀ ρ' , Good S base w0 (s'.app o.dst (.own fr m) (some (fr, .sl i.elem i.esz m news))) ρ' (a.put o.dst v') w' → o.wp E.P a w K' Q) := by
    intro v' w' hr ρ' hg
    unfold Oper.wp execOp
    simp only [ho, hc, hca, hct, resolve, invoke, builtin, Sem.run_bind, Sem.run_pure, Result.andThen_ok, List.map_toArray, List.map_cons, List.map_nil, hr]
    exact hK' _ _ _ hg
  have none' : w.grownBy w none := ⟨rfl, rfl, rfl, Nat.le_refl _, fun _ _ _ => rfl⟩
  have same : m = 0 → ns = [] → (Builtin.append_ #[t, t] o.type #[a.eval x, a.eval y]).run E.P w = .ok (.slice none 0 0) w → o.wp E.P a w K' Q := by
    intro hm hn hr
    subst hm; subst hn
    exact hrun hr _ (g.newSl hfr hlt none' hnil (h2.up (Dt.new none' (fun q hq => by simp [Rl] at hq) hρ)) o.dst)
  rcases h3 with ⟨rfl, rfl, hm, hn⟩ | ⟨a', rfl, h12⟩
  · refine same hm hn ?_
    rw [h1, hm, hxv]
    exact run_append_owned_none (P := E.P) (w := w) w.heap.size t o.type i.elem f i.esz hu h5 _ 0 [] hnil
  · by_cases hm : m = 0
    · refine same hm (by rw [hm, Nat.zero_mul] at hns; exact List.length_eq_zero_iff.1 hns) ?_
      rw [h1, hm, hxv]
      exact run_append_own_same w.heap.size t o.type i.elem f i.esz hu h5 h6 _ 0 [] hnil a' c'
    · have hz := (zeroB_spec (S := S) (w := w) h11).len
      have h63 : 0 + m ≤ maxLen := by
        have : m ≤ m * j.bytes := Nat.le_mul_of_pos_right _ (Nat.pos_of_ne_zero hjb)
        unfold maxLen; omega
      obtain ⟨v', w', hr, k4, k5, k6, k7⟩ := run_append_own_at (P := E.P) w w.heap.size t o.type i.elem f z i.esz j.bytes hu h5 h10 h6 h9 (by
          rw [hjs] at hz; simpa using hz) (Nat.pos_of_ne_zero he) _ 0 [] hnil a' m c' ns hns h12 h2.one h63 (by rw [Nat.zero_add]; exact hb) (Nat.le_refl _)
      rw [Nat.zero_add, List.nil_append] at k4
      have hgr : w.grownBy w' none := k5
      refine hrun (by rw [h1, hxv]; exact hr) _ (g.newSl hfr hlt hgr k4 (h2.up (Dt.new hgr (fun q hq => ?_) hρ)) o.dst)
      rw [rl_own (by rcases k4.2 with ⟨e1, e2⟩ | ⟨q, cap, cur, e1, _⟩ <;> exact ⟨_, _, _, e1⟩)] at hq
      exact (k4.lt q hq).1
end
end Go.Proofs.Ytanpamcecaoanaa

/-
  What is handed in; slices in a row; more operations: slices made, written; bytes asx a text; the least and the greatest. No program is named here.
-/
namespace Go.Proofs.Ytanpamcecaoanaa
set_option maxRecDepth 100000
open Go.RowKit
set_option linter.unusedVariables false
set_option linter.unusedSimpArgs false

section
variable {E : EnvX} {o : Oper} {s : St} {fr : Nat}

theorem anyKeeps {S : Nat → Prop} {w : World} : Keeps S w (fun _ => True) w := ⟨Nat.le_refl _, fun _ _ _ => ⟨trivial, fun _ => rfl⟩⟩
theorem toKeeps {S S' : Nat → Prop} {w : World} (h : ∀ q, S q → S' q) : Keeps S w S' w := ⟨Nat.le_refl _, fun q _ hs => ⟨h q hs, fun _ => rfl⟩⟩
theorem RAs.flat {S S' : Nat → Prop} {w w' : World} : ∀ {l : List A} {vs : List Value}, l.all flatA = true → RAs S w l vs → RAs S' w' l vs
  | _, _, _, .nil => .nil
  | _, _, h, .cons k r => by
    simp only [List.all_cons, Bool.and_eq_true] at h
    exact .cons (flat_RA h.1 k) (r.flat h.2)

/-- what is handed in -/
theorem rowsK_spec {s : St} : ∀ {ps : List Pt} {K : List A → Prop}, rowsK s ps K → ∃ rs, K rs ∧ rs.length = ps.length ∧
    ∀ (S : Nat → Prop) (base : Nat) (w0 : W0 E.G) (s' : St) (ρ : Nat → Option Value) (a : Act) (w : World) (vs : List Value), (∀ b ∈ ps.flatMap Pt.refs, s'.bk b = s.bk b) → Good S base w0 s' ρ a w → RPs (Dt S base ρ) ρ w ps vs →
      ∀ D' : Nat → Prop, (∀ q, Dt S base ρ q → D' q) → (∀ b ∈ ps.flatMap Pt.refs, ∀ u q, ρ b = some u → Rl u q → D' q) → RG D' w rs vs
  | [], K, h => ⟨[], h, rfl, fun S base w0 s' ρ a w vs _ _ hv D' _ _ => by cases hv; exact .nil⟩
  | p :: ps, K, h => by
    have go : ∀ {K' K1 : List A → Prop} {x : A}, rowsK s ps K1 → (∀ rs, K1 rs → K' (x :: rs)) → (∀ (S : Nat → Prop) (base : Nat) (w0 : W0 E.G) (s' : St) (ρ : Nat → Option Value) (a : Act) (w : World) (v : Value), (∀ b ∈ p.refs, s'.bk b = s.bk b) → Good S base w0 s' ρ a w → RP (Dt S base ρ) ρ w p v →
        ∀ D' : Nat → Prop, (∀ q, Dt S base ρ q → D' q) → (∀ b ∈ p.refs, ∀ u q, ρ b = some u → Rl u q → D' q) → RA D' w x v ∧ v.oneCell' = true) →
        ∃ rs, K' rs ∧ rs.length = (p :: ps).length ∧ ∀ (S : Nat → Prop) (base : Nat) (w0 : W0 E.G) (s' : St) (ρ : Nat → Option Value) (a : Act) (w : World) (vs : List Value), (∀ b ∈ (p :: ps).flatMap Pt.refs, s'.bk b = s.bk b) → Good S base w0 s' ρ a w → RPs (Dt S base ρ) ρ w (p :: ps) vs →
          ∀ D' : Nat → Prop, (∀ q, Dt S base ρ q → D' q) → (∀ b ∈ (p :: ps).flatMap Pt.refs, ∀ u q, ρ b = some u → Rl u q → D' q) → RG D' w rs vs := by
      intro K' K1 x h1 hx h2
      obtain ⟨rs, k1, k2, k3⟩ := rowsK_spec h1
      refine ⟨x :: rs, hx _ k1, by simp [k2], fun S base w0 s' ρ a w vs hb g hv D' hD hR => ?_⟩
      cases hv with
      | cons hp hr =>
        obtain ⟨e1, e2⟩ := h2 S base w0 s' ρ a w _ (fun b hb' => hb b (by simp [hb'])) g hp D' hD (fun b hb' => hR b (by simp [hb']))
        exact .cons e1 e2 (k3 S base w0 s' ρ a w _ (fun b hb' => hb b (by rw [List.flatMap_cons, List.mem_append]; exact .inr hb')) g hr D' hD (fun b hb' => hR b (by rw [List.flatMap_cons, List.mem_append]; exact .inr hb')))
    unfold rowsK at h
    split at h
    · next e => cases e
    · next n l r e =>
      cases e
      refine go h (fun _ h => h) fun S base w0 s' ρ a w v _ g hp D' hD _ => ⟨RA.up (toKeeps hD) hp, ?_⟩
      cases hp with | row => rfl
    · next r e =>
      cases e
      refine go h (fun _ h => h) fun S base w0 s' ρ a w v _ g hp D' hD _ => ?_
      rw [RA.plain hp]
      exact ⟨.row .nil (Nat.le_refl _) (Nat.zero_le _) (fun _ => rfl) (.inl rfl), rfl⟩
    · exact h.elim
    · next b n r e =>
      cases e
      split at h
      · next e sz m l hk =>
        obtain ⟨rfl, h⟩ := h
        refine go h (fun _ h => h) fun S base w0 s' ρ a w v hb g hp D' hD hR => ?_
        have hk' := (hb b (by simp [Pt.refs])).trans hk
        obtain ⟨cs, k1, k2, k3⟩ := own_now g hk' (v := v) hp
        rcases k2.2 with ⟨e1, e2⟩ | ⟨r, cap, cur, e1, e3, e4, e5, e6, e7, e8⟩
        · rw [e1, e2]
          have hcs : cs = [] := by have := k2.1; rw [e2, Nat.zero_mul] at this; exact List.length_eq_zero_iff.1 this
          exact ⟨.row (k3.up (toKeeps hD)) (Nat.le_refl _) (Nat.zero_le _) (fun _ => rfl) (.inl hcs), rfl⟩
        · rw [e1]
          refine ⟨.row (k3.up (toKeeps hD)) e5 e6 (fun e => by cases e) (.inr ⟨r, 0, rfl, hR b (by simp [Pt.refs]) _ r k1 (by rw [e1]; rfl), (Array.getElem?_eq_some_iff.1 e4).1, fun j hj => ?_⟩), rfl⟩
          rw [Nat.zero_add, cell_of_row w r j cur e (0, 0) e4]
          have : (cur.toList.take (n * sz))[j]? = cs[j]? := by rw [e8]
          rw [List.getElem?_take, if_pos (by have := k2.1; omega), Array.getElem?_toList, List.getElem?_eq_getElem hj] at this
          exact this
      · exact h.elim
    · next b q n r e =>
      cases e
      split at h
      · next l hk =>
        split at h
        · next m hm =>
          obtain ⟨hle, h⟩ := h
          refine go h (fun _ h => h) fun S base w0 s' ρ a w v hb g hp D' hD hR => ?_
          obtain ⟨r, cs, ty, k1, k2, k3, k4⟩ := g.var ((hb b (by simp [Pt.refs])).trans hk)
          obtain ⟨r', c, e1, e2, e3, e4⟩ := hp _ k1
          obtain rfl := e1.ptr
          rw [e2]
          refine ⟨.row ((k4.cut hm).1.up (toKeeps hD)) e3 e4 (fun e => by cases e) (.inr ⟨r, q, rfl, hR b (by simp [Pt.refs]) _ r k1 rfl, (Array.getElem?_eq_some_iff.1 k3).1, fun j hj => ?_⟩), rfl⟩
          have hj' : j < n := by simp at hj; omega
          rw [cells_of k3]
          simp
        · exact h.elim
      · exact h.elim
theorem argK_spec {s : St} : ∀ {xs : List Operand} {K : List A → Bool → Prop}, argK s (xs.map s.ev) K → ∃ ds lent, K ds lent ∧
    ∀ (S : Nat → Prop) (base : Nat) (w0 : W0 E.G) (s' : St) (ρ : Nat → Option Value) (a : Act) (w : World), (∀ x ∈ xs, s'.ev x = s.ev x ∧ ∀ b ∈ (s.ev x).refs, s'.bk b = s.bk b) → Good S base w0 s' ρ a w →
      (∀ D' : Nat → Prop, (∀ q, Dt S base ρ q → D' q) → (∀ x ∈ xs, ∀ b ∈ (s.ev x).refs, ∀ u q, ρ b = some u → Rl u q → D' q) → RAs D' w ds (xs.map a.eval)) ∧ (lent = false → RAs (Dt S base ρ) w ds (xs.map a.eval))
  | [], K, h => ⟨[], false, h, fun S base w0 s' ρ a w _ _ => ⟨fun _ _ _ => .nil, fun _ => .nil⟩⟩
  | x :: xs, K, h => by
    simp only [List.map_cons, argK] at h
    split at h
    · next d hx =>
      obtain ⟨ds, lent, hK, hr⟩ := argK_spec h
      refine ⟨d :: ds, lent, hK, fun S base w0 s' ρ a w hs g => ?_⟩
      obtain ⟨h1, h2⟩ := hr S base w0 s' ρ a w (fun y hy => hs y (by simp [hy])) g
      have hv := g.ev x
      rw [(hs x (by simp)).1, hx] at hv
      exact ⟨fun D' hD hR => .cons (RA.up (toKeeps hD) hv) (h1 D' hD fun y hy => hR y (by simp [hy])), fun hl => .cons hv (h2 hl)⟩
    · next b n hx =>
      split at h
      · next e sz m l hk =>
        obtain ⟨rfl, h⟩ := h
        obtain ⟨ds, lent, hK, hr⟩ := argK_spec (K := fun l' _ => K (.row n l :: l') true) h
        refine ⟨.row n l :: ds, true, hK, fun S base w0 s' ρ a w hs g => ?_⟩
        obtain ⟨h1, h2⟩ := hr S base w0 s' ρ a w (fun y hy => hs y (by simp [hy])) g
        have hv := g.ev x
        rw [(hs x (by simp)).1, hx] at hv
        obtain ⟨cs, k1, k2, k3⟩ := own_now g (((hs x (by simp)).2 b (by rw [hx]; simp [T.refs])).trans hk) hv
        refine ⟨fun D' hD hR => .cons ?_ (h1 D' hD fun y hy => hR y (by simp [hy])), fun e => by cases e⟩
        rcases k2.2 with ⟨e1, e2⟩ | ⟨r, cap, cur, e1, e3, e4, e5, e6, e7, e8⟩
        · rw [e1, e2]
          have hcs : cs = [] := by have := k2.1; rw [e2, Nat.zero_mul] at this; exact List.length_eq_zero_iff.1 this
          exact .row (k3.up (toKeeps hD)) (Nat.le_refl _) (Nat.zero_le _) (fun _ => rfl) (.inl hcs)
        · rw [e1]
          refine .row (k3.up (toKeeps hD)) e5 e6 (fun e => by cases e) (.inr ⟨r, 0, rfl, hR x (by simp) b (by rw [hx]; simp [T.refs]) _ r k1 (by rw [e1]; rfl), (Array.getElem?_eq_some_iff.1 e4).1, fun j hj => ?_⟩)
          rw [Nat.zero_add, cell_of_row w r j cur e (0, 0) e4]
          have : (cur.toList.take (n * sz))[j]? = cs[j]? := by rw [e8]
          rw [List.getElem?_take, if_pos (by have := k2.1; omega), Array.getElem?_toList, List.getElem?_eq_getElem hj] at this
          exact this
      · exact h.elim
    · next b n q hx =>
      split at h
      · next e sz m l hk =>
        obtain ⟨rfl, hnm, hsz, h⟩ := h
        obtain ⟨l1, h, hle, hsub⟩ := subK_spec h
        obtain ⟨ds, lent, hK, hr⟩ := argK_spec (K := fun l' _ => K (.row n l1 :: l') true) h
        refine ⟨.row n l1 :: ds, true, hK, fun S base w0 s' ρ a w hs g => ?_⟩
        obtain ⟨h1, h2⟩ := hr S base w0 s' ρ a w (fun y hy => hs y (by simp [hy])) g
        have hv := g.ev x
        rw [(hs x (by simp)).1, hx] at hv
        obtain ⟨u, cs, k1, k2, k3⟩ := g.slc (((hs x (by simp)).2 b (by rw [hx]; simp [T.refs])).trans hk)
        obtain ⟨ad, n', c, rfl, e9, e10⟩ := hv u k1
        have hn' : q = n' := by
          rcases k2.2 with ⟨e1, e2⟩ | ⟨g', cap, cur, e1, _⟩
          · cases e1; omega
          · cases e1; rfl
        subst hn'
        refine ⟨fun D' hD hR => .cons ?_ (h1 D' hD fun y hy => hR y (by simp [hy])), fun e => by cases e⟩
        rw [e10 rfl]
        have hrow : RA D' w (.row q l) (.slice ad q c) := by
          rcases k2.2 with ⟨e1, e2⟩ | ⟨r, cap, cur, e1, e3, e4, e5, e6, e7, e8⟩
          · have hcs : cs = [] := by have := k2.1; rw [e2, Nat.zero_mul] at this; exact List.length_eq_zero_iff.1 this
            rw [e1, e2]
            exact .row (k3.up (toKeeps hD)) (Nat.le_refl _) (Nat.zero_le _) (fun _ => rfl) (.inl hcs)
          · rw [e1]
            refine .row (k3.up (toKeeps hD)) e5 e6 (fun e => by cases e) (.inr ⟨r, 0, rfl, hR x (by simp) b (by rw [hx]; simp [T.refs]) _ r k1 (by rw [e1]; rfl), (Array.getElem?_eq_some_iff.1 e4).1, fun j hj => ?_⟩)
            rw [Nat.zero_add, cell_of_row w r j cur e (0, 0) e4]
            have : (cur.toList.take (q * sz))[j]? = cs[j]? := by rw [e8]
            rw [List.getElem?_take, if_pos (by have := k2.1; omega), Array.getElem?_toList, List.getElem?_eq_getElem hj] at this
            exact this
        have hfin := ra_sliced (a := 0) (b := n) (e := sz) (m := l1) hrow (Nat.zero_le _) hnm hsz (by rw [Nat.zero_mul, Nat.sub_zero]; exact hle) (fun hl => by rw [Nat.zero_mul, Nat.sub_zero]; exact hsub hl)
        unfold sliced at hfin
        simpa using hfin
      · exact h.elim
    · next b q n hx =>
      split at h
      · next l hk =>
        split at h
        · next m hm =>
          obtain ⟨hle, h⟩ := h
          obtain ⟨ds, lent, hK, hr⟩ := argK_spec (K := fun l' _ => K (.row n m :: l') true) h
          refine ⟨.row n m :: ds, true, hK, fun S base w0 s' ρ a w hs g => ?_⟩
          obtain ⟨h1, h2⟩ := hr S base w0 s' ρ a w (fun y hy => hs y (by simp [hy])) g
          have hv := g.ev x
          rw [(hs x (by simp)).1, hx] at hv
          obtain ⟨r, cs, ty, k1, k2, k3, k4⟩ := g.var (((hs x (by simp)).2 b (by rw [hx]; simp [T.refs])).trans hk)
          obtain ⟨r', c, e1, e2, e3, e4⟩ := hv _ k1
          obtain rfl := e1.ptr
          refine ⟨fun D' hD hR => .cons ?_ (h1 D' hD fun y hy => hR y (by simp [hy])), fun e => by cases e⟩
          rw [e2]
          refine .row ((k4.cut hm).1.up (toKeeps hD)) e3 e4 (fun e => by cases e) (.inr ⟨r, q, rfl, hR x (by simp) b (by rw [hx]; simp [T.refs]) _ r k1 rfl, (Array.getElem?_eq_some_iff.1 k3).1, fun j hj => ?_⟩)
          have hj' : j < n := by simp at hj; omega
          rw [cells_of k3]
          simp
        · exact h.elim
      · exact h.elim
    · next ps hx =>
      obtain ⟨rs, h1, hlen, hrs⟩ := rowsK_spec (E := E) h
      obtain ⟨ds, lent, hK, hr⟩ := argK_spec (K := fun l' _ => K (.row ps.length [.gen ps.length rs] :: l') true) h1
      refine ⟨.row ps.length [.gen ps.length rs] :: ds, true, hK, fun S base w0 s' ρ a w hs g => ?_⟩
      obtain ⟨h1, h2⟩ := hr S base w0 s' ρ a w (fun y hy => hs y (by simp [hy])) g
      have hv := g.ev x
      rw [(hs x (by simp)).1, hx] at hv
      obtain ⟨vs, k1, r, k2, k3, k4, k5, k6, k7⟩ := hv
      have hrefs : (s.ev x).refs = ps.flatMap Pt.refs := by rw [hx]; rfl
      refine ⟨fun D' hD hR => .cons ?_ (h1 D' hD fun y hy => hR y (by simp [hy])), fun e => by cases e⟩
      rw [k2, k1.len]
      have hg := hrs S base w0 s' ρ a w vs (fun b hb => (hs x (by simp)).2 b (by rw [hrefs]; exact hb)) g k1 D' hD (fun b hb => hR x (by simp) b (by rw [hrefs]; exact hb))
      exact .row (.ofGen hlen hg) (Nat.le_refl _) (by rw [← k1.len]; exact k4) (fun e => by cases e) (.inr ⟨r, 0, rfl, hD r k5, k6, fun i hi => by rw [Nat.zero_add]; exact k7 i hi⟩)
    · next b hx =>
      split at h
      · next p hk =>
        split at h
        · next l hd =>
          obtain ⟨ds, lent, hK, hr⟩ := argK_spec (K := fun l' _ => K (.sref l 0 :: l') true) h
          refine ⟨.sref l 0 :: ds, true, hK, fun S base w0 s' ρ a w hs g => ?_⟩
          obtain ⟨h1, h2⟩ := hr S base w0 s' ρ a w (fun y hy => hs y (by simp [hy])) g
          have hv := g.ev x
          rw [(hs x (by simp)).1, hx] at hv
          have hB := g.b b
          rw [((hs x (by simp)).2 b (by rw [hx]; simp [T.refs])).trans hk] at hB
          obtain ⟨r, F, k1, k2, k3⟩ := hB
          obtain ⟨r', F', e1, e2⟩ := hv _ k1
          rw [← fpv_head e1] at e2
          refine ⟨fun D' hD hR => .cons ?_ (h1 D' hD fun y hy => hR y (by simp [hy])), fun e => by cases e⟩
          rw [e2]
          exact RA.up ⟨Nat.le_refl _, fun z _ hz => ⟨hz.elim (hD z) (fun hm => hR x (by simp) b (by rw [hx]; simp [T.refs]) _ z k1 (rl_fpv.2 hm)), fun _ => rfl⟩⟩ (p.hdv l hd k3)
        · exact h.elim
      · exact h.elim
    · exact h.elim


/-! slices in a row -/
theorem pt_now {G : Nat → Option (List Seg)} {S : Nat → Prop} {base : Nat} {w0 : W0 G} {s' : St} {ρ : Nat → Option Value} {a : Act} {w : World} (g : Good S base w0 s' ρ a w) {t : T} {p : Pt} (h : ptOf s t = some p) {v : Value} (hb : ∀ b ∈ t.refs, s'.bk b = s.bk b) (hb2 : ∀ b ∈ t.refs, s'.bk b ≠ none) (hv : RT (Dt S base ρ) ρ w t v) :
    RP (Dt S base ρ) ρ w p v ∧ p.refs = t.refs ∧ v.oneCell' = true := by
  unfold ptOf at h
  split at h
  · cases h; refine ⟨hv, rfl, ?_⟩; cases hv; rfl
  · cases h; refine ⟨hv, rfl, ?_⟩; rw [RA.plain hv]; rfl
  · next b n =>
    split at h
    · next e sz m l hk =>
      split at h
      · next hn =>
        subst hn
        cases h
        refine ⟨hv, rfl, ?_⟩
        obtain ⟨cs, h1, h2, h3⟩ := own_now g ((hb b (by simp [T.refs])).trans hk) hv
        rcases h2.2 with ⟨e1, _⟩ | ⟨_, _, _, e1, _⟩ <;> rw [e1] <;> rfl
      · cases h
    · cases h
  · next b base n =>
    cases h
    refine ⟨hv, rfl, ?_⟩
    obtain ⟨u, hu⟩ := g.ref (hb2 b (by simp [T.refs]))
    obtain ⟨r, c, _, h2, _⟩ := hv u hu
    rw [h2]; rfl
  · cases h
theorem ptsOf_spec : ∀ {parts : List (Nat × Operand)} {k : Nat} {ps : List Pt}, ptsOf s parts k = some ps →
    ps.length = parts.length ∧ parts.map (·.1) = List.range' k parts.length ∧ (∀ b ∈ ps.flatMap Pt.refs, ∃ x ∈ parts.map (·.2), b ∈ (s.ev x).refs) ∧
    ∀ (G : Nat → Option (List Seg)) (S : Nat → Prop) (base : Nat) (w0 : W0 G) (s' : St) (ρ : Nat → Option Value) (a : Act) (w : World), (∀ x ∈ parts.map (·.2), s'.ev x = s.ev x ∧ ∀ b ∈ (s.ev x).refs, s'.bk b = s.bk b) → Good S base w0 s' ρ a w →
      RPs (Dt S base ρ) ρ w ps (parts.map fun p => a.eval p.2) ∧ ∀ v ∈ parts.map fun p => a.eval p.2, v.oneCell' = true
  | [], k, ps, h => by cases h; exact ⟨rfl, rfl, by simp, fun _ _ _ _ _ _ _ _ _ _ => ⟨.nil, by simp⟩⟩
  | (i, x) :: r, k, ps, h => by
    unfold ptsOf at h
    split at h
    case isFalse => cases h
    next hi =>
    subst hi
    split at h
    case h_2 => cases h
    next p l hp hl =>
    cases h
    obtain ⟨h1, h2, h3, h4⟩ := ptsOf_spec hl
    have href : p.refs = (s.ev x).refs := by
      unfold ptOf at hp
      split at hp
      · next e => cases hp; rw [e]; rfl
      · next e => cases hp; rw [e]; rfl
      · next e =>
        split at hp
        · split at hp
          · cases hp; rw [e]; rfl
          · cases hp
        · cases hp
      · next e => cases hp; rw [e]; rfl
      · cases hp
    refine ⟨by simp [h1], by simp [h2, List.range'_succ], ?_, fun G S base w0 s' ρ a w hs g => ?_⟩
    · intro b hb
      rw [List.flatMap_cons, List.mem_append] at hb
      rcases hb with hb | hb
      · exact ⟨x, by simp, by rw [← href]; exact hb⟩
      · obtain ⟨y, hy, hy2⟩ := h3 b hb
        exact ⟨y, by rw [List.map_cons, List.mem_cons]; exact .inr hy, hy2⟩
    · obtain ⟨k1, k2⟩ := h4 G S base w0 s' ρ a w (fun y hy => hs y (by rw [List.map_cons, List.mem_cons]; exact .inr hy)) g
      obtain ⟨e1, e2⟩ := hs x (by simp)
      have hv := g.ev x
      rw [e1] at hv
      obtain ⟨q1, _, q3⟩ := pt_now g hp e2 (fun b hb => g.evRefs x b (by rw [e1]; exact hb)) hv
      refine ⟨.cons q1 k1, fun v hv => ?_⟩
      rw [List.map_cons, List.mem_cons] at hv
      rcases hv with rfl | hv
      · exact q3
      · exact k2 v hv
theorem fill_ones : ∀ (vs : List Value) (k : Nat) (cs : Array Value), (∀ v ∈ vs, v.oneCell' = true) → k + vs.length ≤ cs.size →
    ∃ cs', Instr.fill (fun f => some (f * 1, 1)) cs ((List.range' k vs.length).zip vs) = some cs' ∧ cs'.toList = cs.toList.take k ++ (vs ++ cs.toList.drop (k + vs.length))
  | [], k, cs, _, _ => ⟨cs, by simp [Instr.fill], by simp⟩
  | v :: vs, k, cs, h1, h2 => by
    have hv : v.cells = #[v] := oneCells (h1 v (by simp))
    have h2' : k + (vs.length + 1) ≤ cs.size := by simpa using h2
    obtain ⟨cs', h3, h4⟩ := fill_ones vs (k + 1) (cs.setIfInBounds k v) (fun u hu => h1 u (by simp [hu])) (by simp; omega)
    refine ⟨cs', ?_, ?_⟩
    · rw [List.length_cons, List.range'_succ, List.zip_cons_cons]
      unfold Instr.fill
      simp only [hv]
      have : ¬ ((#[v] : Array Value).size ≠ 1 ∨ k * 1 + (#[v] : Array Value).size > cs.size) := by simp; omega
      simp only [ne_eq, Bool.or_eq_true, decide_eq_true_eq]
      rw [if_neg (by simpa using this)]
      simpa using h3
    · rw [h4, Array.toList_setIfInBounds]
      have e1 : (cs.toList.set k v).take (k + 1) = cs.toList.take k ++ [v] := by
        rw [List.take_set, List.take_succ_eq_append_getElem (by simp; omega)]
        rw [List.set_append_right _ _ (by simp; omega)]
        have : k - (cs.toList.take k).length = 0 := by rw [List.length_take, Array.length_toList]; omega
        rw [this]; rfl
      rw [e1, List.append_assoc, List.drop_set_of_lt (by omega), show k + 1 + vs.length = k + (v :: vs).length by simp; omega]
      rfl
theorem ok_buildRows {t : TypeId} {len : Nat} {parts : Array (Nat × Operand)} {i j : TI} {ps : List Pt} (ho : o.op = .buildSlice t len parts) (hY : E.Y t = some i) (hs1 : i.sl = true) (he : i.esz = 1) (hl : len ≠ 0) (hm : len * i.esz ≤ 16777216) (hj : E.Y i.elem = some j) (hjs : segN j.zero = 1)
    (hp : ptsOf s parts.toList 0 = some ps) (hpl : ps.length = len) : OpOK E o s fr (.rows ps) none := by
  obtain ⟨h1, h2, h3, h4⟩ := ptsOf_spec hp
  have hmem : ∀ x ∈ parts.toList.map (·.2), x ∈ o.op.operands := fun x hx => by
    rw [ho]; simp only [Op.operands, List.mem_toArray]
    simpa using hx
  refine ⟨fun b hb => .inr ?_, fun b x e => (by cases e), fun S base w0 s' ρ a w K' Q hs g hfr hlt hK' => ?_⟩
  · obtain ⟨x, hx, hx2⟩ := h3 b hb
    exact ⟨x, hmem x hx, hx2⟩
  obtain ⟨k1, k2⟩ := h4 _ S base w0 s' ρ a w (fun x hx => ⟨(hs x (hmem x hx)).1, fun b hb => hs.bk (hmem x hx) (by simp [looks, ho]) hb⟩) g
  generalize hvs : parts.toList.map (fun p => a.eval p.2) = vs at k1 k2
  have hvl : vs.length = len := by rw [k1.len, hpl]
  obtain ⟨f, z, q1, q2, _, q3, q4⟩ := (E.hY _ j hj).info
  obtain ⟨_, f', q5, q6⟩ := (E.hY t i hY).arr (by omega)
  rw [q1] at q5; cases q5
  have hfs : f.size = 1 := by rw [q6, he]
  have hu := (E.hY t i hY).sl hs1
  obtain ⟨cs', r1, r2⟩ := fill_ones vs 0 ((Array.range (len * f.size)).map (z.cells[· % z.cells.size]!)) k2 (by simp [hfs, hvl])
  have hparts : (parts.map fun (i, x) => (i, a.eval x)).toList = (List.range' 0 vs.length).zip vs := by
    rw [Array.toList_map, hvl, ← hpl, h1, ← h2, ← hvs]
    generalize parts.toList = l
    induction l with
    | nil => rfl
    | cons x l ih => simp [ih]
  have hr := run_buildSlice (P := E.P) w t i.elem len (parts.map fun (i, x) => (i, a.eval x)) cs' f z hu q1 q3 (by rw [q6]; omega) (by rw [q6]; exact Nat.mul_ne_zero (by omega) (by omega)) (by
    rw [hparts, hfs]; rw [hfs] at r1; exact r1)
  have hcs : cs'.toList = vs := by
    rw [r2]
    rw [List.take_zero, List.nil_append, List.drop_of_length_le (by simp [hfs, hvl]), List.append_nil]
  have hgr : w.grownBy (w.alloc (.cells cs' i.elem)) none := ⟨rfl, rfl, rfl, by rw [size_alloc]; omega, fun k hk _ => Below.heap_alloc _ _ _ hk⟩
  obtain ⟨g2, K0⟩ := g.grow hgr
  unfold Oper.wp execOp
  simp only [ho, Sem.run_bind, hr, Result.andThen_ok, Sem.run_pure]
  refine hK' _ _ ρ (g2.put' o.dst (t := .rows ps) ⟨vs, k1.map fun p _ v hv => hv.up K0 fun _ _ => rfl, w.heap.size, ?_, ?_, ?_, ?_, ?_, ?_⟩ ?_)
  · rw [hvl]
  · intro e; rw [e] at hvl; exact hl (by simpa using hvl.symm)
  · rw [hvl]
    unfold maxLen
    rw [he] at hm; omega
  · exact ⟨.inr g.size, fun b u hb hu => by have := (g.low b u _ hb hu).2; omega⟩
  · rw [size_alloc]; omega
  · intro i' hi'
    have := cells_of (w := w.alloc (.cells cs' i.elem)) (r := w.heap.size) (cs := cs'.toList) (t := i.elem) (fr := (0, 0)) (by exact heap_alloc_new _ _) i'
    rw [this, hcs]
    simp [hi']
  · intro b hb
    obtain ⟨x, hx, hx2⟩ := h3 b hb
    rw [← (hs x (hmem x hx)).1] at hx2
    exact g.evRefs x b hx2
/-! slices made, written -/
theorem ok_make {t : TypeId} {x y : Operand} {i j : TI} {n : Int} {q q' : IntKind} (ho : o.op = .makeSlice t x y) (hY : E.Y t = some i) (hs1 : i.sl = true) (he : i.esz ≠ 0) (hx : s.ev x = .d (.v (.int q n))) (hy : s.ev y = .d (.v (.int q' n))) (h0 : 0 ≤ n) (hm : n.toNat * i.esz ≤ 16777216) (hj : E.Y i.elem = some j) (hjs : segN j.zero = i.esz) (hb : j.bytes * n.toNat ≤ 281474976710656) :
    OpOK E o s fr (.own fr n.toNat) (some (fr, .sl i.elem i.esz n.toNat (zerosK n.toNat j.zero))) := by
  refine ⟨fun b hb => .inl ⟨by simpa [T.refs] using hb, _, rfl⟩, fun b x e => by cases e; exact .inl rfl, fun S base w0 s' ρ a w K' Q hs g hfr hlt hK' => ?_⟩
  have h1 := evPlain hs g (by rw [ho]; simp [Op.operands]) hx
  have h2 := evPlain hs g (by rw [ho]; simp [Op.operands]) hy
  obtain ⟨m, rfl⟩ := Int.eq_ofNat_of_zero_le h0
  rw [Int.toNat_natCast] at *
  obtain ⟨f, z, q1, q2, q5, q3, q4⟩ := (E.hY _ j hj).info
  obtain ⟨_, f', q6, q7⟩ := (E.hY t i hY).arr he
  rw [q1] at q6; cases q6
  have hu := (E.hY t i hY).sl hs1
  have hz := zeroB_spec (S := Dt S base ρ) (w := w) q4
  have hzl : z.cells.size = i.esz := by have := hz.len; rw [hjs] at this; simpa using this
  have h63 : m ≤ maxLen := by
    have : m ≤ m * i.esz := Nat.le_mul_of_pos_right _ (Nat.pos_of_ne_zero he)
    unfold maxLen; omega
  obtain ⟨w', r1, r2, r3⟩ := run_makeSlice_full (P := E.P) w w.heap.size t i.elem f z i.esz hu q1 q3 q7 q q' m hm (by rw [q5]; exact hb) h63 (Nat.le_refl _)
  have hρ : ρ fr = none := by have := g.b fr; rw [hfr] at this; exact this
  have hc : (madeCells z.cells (m * i.esz)).toList = (List.replicate m z.cells.toList).flatten := by
    have := many_cells z.cells (by rw [hzl]; exact he) m
    rw [← this, hzl]
    unfold madeCells
    rw [hzl]
  unfold Oper.wp execOp
  simp only [ho, h1, h2, Sem.run_bind, r1, Result.andThen_ok, Sem.run_pure]
  refine hK' _ _ _ (g.newSl hfr hlt r3 (cs := (madeCells z.cells (m * i.esz)).toList) r2 ?_ o.dst)
  rw [hc]
  exact (hz.many m).up (Dt.new r3 (fun q hq => by simp [Rl] at hq; omega) hρ)
theorem take_spliced (l vs : List Value) (off N : Nat) (h : off + vs.length ≤ N) (h2 : N ≤ l.length) : (l.take off ++ (vs ++ l.drop (off + vs.length))).take N = (l.take N).take off ++ (vs ++ (l.take N).drop (off + vs.length)) := by
  rw [List.take_append, List.take_take, List.take_take, List.length_take, Nat.min_eq_left (by omega : off ≤ l.length), Nat.min_eq_right (by omega : off ≤ N), Nat.min_eq_left (by omega : off ≤ N)]
  congr 1
  rw [List.take_append, List.take_of_length_le (by omega), List.drop_take]
  congr 2
  omega
theorem ok_storeOwn {t : TypeId} {x y : Operand} {i : TI} {b n off sz : Nat} {e : TypeId} {l l' : List Seg} {d : A} (ho : o.op = .store t x y) (hY : E.Y t = some i) (hx : s.ev x = .ept b n off) (hk : s.bk b = some (.sl e sz n l)) (hseg : n * sz = segN l) (hi : i.sz ≠ 0) (hy : s.ev y = .d d)
    (hd : ∀ {S : Nat → Prop} {w : World} {cs : List Value} {v : Value}, RL S w l cs → RA S w d v →
      v.cells.size = i.sz ∧ (∀ u ∈ v.cells.toList, u.oneCell' = true) ∧ (0 + off + i.sz ≤ cs.length ∨ i.sz = 0) ∧ RL S w l' (cs.take (0 + off) ++ (v.cells.toList ++ cs.drop (0 + off + i.sz)))) :
    OpOK E o s fr (.d (.v undef)) (some (b, .sl e sz n l')) := by
  have hm : x ∈ o.op.operands := by rw [ho]; simp [Op.operands]
  have hm2 : y ∈ o.op.operands := by rw [ho]; simp [Op.operands]
  refine ⟨fun b hb => by simp [T.refs] at hb, fun b' x' e => by cases e; exact .inr ⟨x, hm, by rw [hx]; simp [T.refs]⟩, fun S base w0 s' ρ a w K Q hs g hf hlt hK => ?_⟩
  have hk' := (hs.bk hm (by simp [looks, ho]) (b := b) (by rw [hx]; simp [T.refs])).trans hk
  obtain ⟨r, c, h1, h2⟩ := ept_now g hk' (evData hs g hm hx)
  obtain ⟨u, cs, h3, h4, h5⟩ := g.slc hk'
  rw [h1] at h3; cases h3
  rcases h4.2 with ⟨e1, _⟩ | ⟨r', cap, cur, e1, e3, e4, e5, e6, e7, e8⟩
  · cases e1
  cases e1
  obtain ⟨k1, k2, k3, k4⟩ := hd h5 (evData hs g hm2 hy)
  rw [Nat.zero_add] at k3 k4
  have hcl := h4.1
  have hvl : (a.eval y).cells.toList.length = i.sz := by rw [Array.length_toList, k1]
  have k3' : off + i.sz ≤ n * sz := by rcases k3 with k3 | k3; rw [hcl] at k3; exact k3; exact absurd k3 hi
  have hcap : n * sz ≤ c * sz := Nat.mul_le_mul_right _ e5
  have hw : w.heap[r]? = some (.cells cur.toList.toArray e (0, 0)) := by rw [e4]
  have hrun := run_storeVar_at (E.hY t i hY) k1 k2 hw (off := off) (.inl (by rw [Array.length_toList, e7]; omega))
  generalize hvs : (a.eval y).cells.toList = vs at *
  have hupd : upd ρ b (some (.slice (some ⟨r, 0, none⟩) n c)) = ρ := by
    funext z; unfold upd; split
    · next e => rw [e, h1]
    · rfl
  have g2 := g.change b (bk_lt hk') (.slice (some ⟨r, 0, none⟩) n c) (.sl e sz n l') (some r) (w' := w.setRow r (cur.toList.take off ++ (vs ++ cur.toList.drop (off + vs.length))).toArray)
    (grown_setRow (grown_refl w _) _ (.inr rfl)) (by intro r' e; cases e; exact ⟨_, h1, rfl⟩) (by
      intro r' e
      simp [Rl] at e; subst e
      exact ⟨.inr ⟨_, h1, rfl⟩, by rw [size_setRow]; exact (g.low b _ r h1 rfl).2⟩) (by
      rw [hupd]
      intro K0
      refine ⟨_, cs.take off ++ (vs ++ cs.drop (off + i.sz)), h1, ⟨?_, .inr ⟨r, c, _, rfl, e3, setRow_heap _ _ _ _ _ _ hw, e5, e6, ?_, ?_⟩⟩, k4.up K0⟩
      · simp only [List.length_append, List.length_take, List.length_drop, hvl, hcl]; omega
      · simp only [List.size_toArray, List.length_append, List.length_take, List.length_drop, Array.length_toList, hvl, e7]; omega
      · rw [List.toList_toArray, take_spliced _ _ _ _ (by rw [hvl]; exact k3') (by rw [Array.length_toList, e7]; exact hcap), e8, hvl]) (by
      rw [hupd]
      intro _ i hi hm
      refine (g.t i hi).up ⟨by rw [size_setRow]; exact Nat.le_refl _, fun r' hr' hd => ⟨hd, fun o => ?_⟩⟩ (fun _ _ => rfl)
      exact World.cell?_of_block (setRow_other _ _ _ _ (fun e => hd.2 b _ h1 (by simp [Rl]; exact e.symm)))) (fun q hq => by rw [h1] at hq; cases hq)
  rw [hupd] at g2
  unfold Oper.wp
  have : (execOp a.eval o).run E.P w = .ok .skip (w.setRow r (cur.toList.take off ++ (vs ++ cur.toList.drop (off + vs.length))).toArray) := by
    simp only [execOp, ho, h2, Instr.storeAt, Instr.sureAddr, Sem.run_bind, Sem.run_pure, Result.andThen_ok, hrun]
  rw [this]
  exact hK _ _ _ (g2.put' o.dst (t := .d (.v undef)) (.v undef) (by simp [T.refs]))
/-! texts -/
theorem ok_binStr {op : BinOp} {t yt : TypeId} {x y : Operand} {p q : ByteArray} {r : Bool} (ho : o.op = .binOp op t x y yt) (hx : s.ev x = .d (.v (.string p))) (hy : s.ev y = .d (.v (.string q)))
    (hr : op = .eql ∧ r = (p.toList == q.toList) ∨ op = .neq ∧ r = (!(p.toList == q.toList))) : OpOK E o s fr (.d (.v (.bool r))) none := by
  refine .pure (fun b hb => by simp [T.refs] at hb) fun S base w0 s' ρ a w hs g => ⟨_, ?_, .v _⟩
  have h1 := evPlain hs g (by rw [ho]; simp [Op.operands]) hx
  have h2 := evPlain hs g (by rw [ho]; simp [Op.operands]) hy
  rcases hr with ⟨rfl, rfl⟩ | ⟨rfl, rfl⟩
  · simp [execOp, ho, h1, h2, Sem.run_bind, eqGuard, binOp, Op.stringOp, Op.equal, beq_toListBytes]
  · simp [execOp, ho, h1, h2, Sem.run_bind, eqGuard, binOp, Op.stringOp, Op.equal, beq_toListBytes]
theorem ok_binCat {t yt : TypeId} {x y : Operand} {p q : ByteArray} (ho : o.op = .binOp .add t x y yt) (hx : s.ev x = .d (.v (.string p))) (hy : s.ev y = .d (.v (.string q)))
    (hn : p.size + q.size ≤ 281474976710656) : OpOK E o s fr (.d (.v (.string (p ++ q)))) none := by
  refine .pure (fun b hb => by simp [T.refs] at hb) fun S base w0 s' ρ a w hs g => ⟨_, ?_, .v _⟩
  have h1 := evPlain hs g (by rw [ho]; simp [Op.operands]) hx
  have h2 := evPlain hs g (by rw [ho]; simp [Op.operands]) hy
  have h3 : ¬ (((p.size + q.size : Nat) : Int) > IntKind.i64.max) := by
    have : IntKind.i64.max = 9223372036854775807 := by decide
    omega
  simp only [execOp, ho, h1, h2, Sem.run_bind, eqGuard, binOp, Op.stringOp, if_neg h3]
  simp
theorem ok_str {src dst : TypeId} {x : Operand} {i : TI} {k : KO} (ho : o.op = .convert src dst x) (hs' : E.Y src = some i) (hs1 : i.sl = true) (he : E.P.underlying i.elem = some (.int .u8)) (hd : E.P.underlying dst = some .string)
    (h : argK s [s.ev x] fun l _ => (match l with
       | [.row m news] => (match strOf news with | some b => b.size = m ∧ m ≤ 140737488355328 ∧ k (.d (.v (.string b))) none | none => False)
       | [.v (.slice none 0 0)] => k (.d (.v (.string .empty))) none
       | _ => False)) : ∃ t blk, k t blk ∧ OpOK E o s fr t blk := by
  have hm : x ∈ o.op.operands := by rw [ho]; simp [Op.operands]
  have hu := (E.hY src i hs').sl hs1
  obtain ⟨ds, lent, h1, h2⟩ := argK_spec (E := E) (xs := [x]) (K := fun l _ => (match l with
       | [.row m news] => (match strOf news with | some b => b.size = m ∧ m ≤ 140737488355328 ∧ k (.d (.v (.string b))) none | none => False)
       | [.v (.slice none 0 0)] => k (.d (.v (.string .empty))) none
       | _ => False)) h
  have cases1 : ∀ {S : Nat → Prop} {w : World} {d : A} {v : Value}, RAs S w [d] [v] → RA S w d v := by
    intro S w d v h; cases h with | cons h _ => exact h
  have hsame : ∀ {s' : St}, Same o s s' → ∀ x' ∈ [x], s'.ev x' = s.ev x' ∧ ∀ b ∈ (s.ev x').refs, s'.bk b = s.bk b := fun {s'} hs x' hx' => by
    rw [List.mem_singleton] at hx'; subst hx'
    exact ⟨(hs _ hm).1, fun b hb => hs.bk hm (by simp [looks, ho]) hb⟩
  split at h1
  · next m news =>
    split at h1
    · next b hb =>
      obtain ⟨hbm, hmm, hk⟩ := h1
      refine ⟨_, _, hk, .pure (fun b hb => by simp [T.refs] at hb) fun S base w0 s' ρ a w hs g => ⟨_, ?_, .v _⟩⟩
      have hv := cases1 ((h2 S base w0 s' ρ a w (hsame hs) g).1 (fun _ => True) (fun _ _ => trivial) (fun _ _ _ _ _ _ _ _ => trivial))
      generalize hx0 : a.eval x = v at hv
      have key : ∃ ad c bs, v = .slice ad m c ∧ Row8 w ad m bs ∧ strB bs = b := by
        cases hv with
        | row k1 k2 k3 k4 k5 =>
          rename_i c cs ad
          unfold strOf at hb
          split at hb
          · cases hb
            have : m = 0 := by rw [← hbm]; rfl
            subst this
            exact ⟨ad, c, [], rfl, Row8.nil _ _, rfl⟩
          · next n bs =>
            cases hb
            obtain ⟨e1, e2⟩ := k1.toBytes
            have hbl : bs.length = m := by rw [← hbm]; simp [ByteArray.size]
            refine ⟨ad, c, bs, rfl, ⟨hbl.symm, by unfold maxLen; omega, ?_⟩, rfl⟩
            rcases k5 with k5 | ⟨q, o', k6, _, _, k7⟩
            · left
              rw [e2] at k5
              exact List.map_eq_nil_iff.1 k5
            · refine .inr ⟨q, o', k6, fun i hi => ?_⟩
              subst e2
              rw [k7 i (by simpa [HL] using hi)]
              simp [HL]
          · cases hb
      obtain ⟨ad, c, bs, rfl, hr, hbs⟩ := key
      rw [← hbs]
      have := hr.str (P := E.P) src dst i.elem c hu he hd
      simp only [execOp, ho, hx0, this, Sem.run_bind, Sem.run_pure, Result.andThen_ok]
    · exact h1.elim
  · next =>
    refine ⟨_, _, h1, .pure (fun b hb => by simp [T.refs] at hb) fun S base w0 s' ρ a w hs g => ⟨_, ?_, .v _⟩⟩
    have hv := RA.plain (cases1 ((h2 S base w0 s' ρ a w (hsame hs) g).1 (fun _ => True) (fun _ _ => trivial) (fun _ _ _ _ _ _ _ _ => trivial)))
    have := (Row8.nil w none).str (P := E.P) src dst i.elem 0 hu he hd
    simp only [execOp, ho, hv, this, Sem.run_bind, Sem.run_pure, Result.andThen_ok]
    rfl
  · exact h1.elim
/-! the least and the greatest -/
theorem ok_minmax {c : Call} {mx : Bool} {q q' : IntKind} {x y : Int} (ho : o.op = .call c) (hc : c.callee = .builtin (if mx then .max else .min)) (ha : c.args.toList.map s.ev = [.d (.v (.int q x)), .d (.v (.int q' y))]) :
    OpOK E o s fr (.d (.v (.int q (if mx then (if y > x then y else x) else (if y < x then y else x))))) none := by
  obtain ⟨p, r, hca, h1, h2⟩ : ∃ p r, c.args = #[p, r] ∧ s.ev p = .d (.v (.int q x)) ∧ s.ev r = .d (.v (.int q' y)) := by
    generalize hl : c.args.toList = l at ha
    rcases l with _ | ⟨p, _ | ⟨r, _ | ⟨r2, l⟩⟩⟩ <;> simp only [List.map_cons, List.map_nil, List.cons.injEq, and_true, reduceCtorEq, and_false] at ha
    refine ⟨p, r, ?_, ha.1, ha.2⟩
    apply Array.ext'; rw [hl]
  refine .pure (fun b hb => by simp [T.refs] at hb) fun S base w0 s' ρ a w hs g => ⟨_, ?_, .v _⟩
  have e1 := evPlain hs g (by rw [ho]; simp [Op.operands, Call.operands, hc, hca]) h1
  have e2 := evPlain hs g (by rw [ho]; simp [Op.operands, Call.operands, hc, hca]) h2
  cases mx with
  | true => simp [execOp, ho, hc, hca, resolve, invoke, builtin, Sem.run_bind, e1, e2, run_max_int2]
  | false => simp [execOp, ho, hc, hca, resolve, invoke, builtin, Sem.run_bind, e1, e2, run_min_int2]
theorem ok_winI {t : TypeId} {x : Operand} {i : TI} {b base rel : Nat} (ho : o.op = .slice t x none none none) (hY : E.Y t = some i) (hl : i.len ≠ 0) (he : i.esz = 1) (hm : i.len ≤ 1000000) (hx : s.ev x = .pti b base rel) : OpOK E o s fr (.win b (base + rel) i.len) none := by
  have hm1 : x ∈ o.op.operands := by rw [ho]; simp [Op.operands]
  refine .pure (fun b' hb' => ⟨x, hm1, by rw [hx]; simpa [T.refs] using hb'⟩) fun S base0 w0 s' ρ a w hs g => ?_
  obtain ⟨u, hu⟩ := g.ref (g.evRefs x b (by rw [(hs x hm1).1, hx]; simp [T.refs]))
  obtain ⟨r, hR, h2⟩ := evData hs g hm1 hx u hu
  obtain ⟨_, f, h4, h5⟩ := (E.hY t i hY).arr (by omega)
  have hua := (E.hY t i hY).alen hl
  refine ⟨.slice (some ⟨r, base + rel, none⟩) i.len i.len, ?_, fun u' hu' => ?_⟩
  · simp only [execOp, ho, h2, Instr.sliceAt, Instr.sureAddr, Instr.sliceBounds, Option.map_none, Sem.run_bind, Sem.run_pure, Result.andThen_ok, run_underlying hua w, run_sizeOf w h4, Nat.zero_mul, Nat.sub_zero, add_at, Nat.add_zero]
    simp
  · rw [hu] at hu'; cases hu'
    exact ⟨r, i.len, hR, rfl, Nat.le_refl _, by unfold maxLen; omega⟩
/-! copy into a variable's cells -/
theorem ok_copy {c : Call} {x y : Operand} {t t' : TypeId} {i : TI} {b base n : Nat} {l l' : List Seg} (ho : o.op = .call c) (hc : c.callee = .builtin .copy) (ha : c.args.toList = [x, y]) (ht : c.argTypes.toList = [t, t']) (hY : E.Y t = some i) (hs1 : i.sl = true) (he : i.esz = 1) {m : Nat} {news : List Seg}
    (hsrc : ∀ (S : Nat → Prop) (base : Nat) (w0 : W0 E.G) (s' : St) (ρ : Nat → Option Value) (a : Act) (w : World), s'.ev y = s.ev y → (∀ b ∈ (s.ev y).refs, s'.bk b = s.bk b) → Good S base w0 s' ρ a w →
      ∃ ad c cs, a.eval y = .slice ad m c ∧ RL (Dt S base ρ) w news cs ∧ ((ad = none ∧ c = 0 ∧ m = 0 ∧ cs = []) ∨ ∃ a', ad = some a' ∧ ∀ j u, cs[j]? = some u → w.cell? (a'.add j) = some u))
    (hseg : segN news = m) (hx : s.ev x = .win b base n) (hk : s.bk b = some (.var l)) (hmn : m ≤ n)
    (hd : ∀ {S : Nat → Prop} {w : World} {cs : List Value} {v : Value}, RL S w l cs → RA S w (.agg news) v →
      v.cells.size = m ∧ (∀ u ∈ v.cells.toList, u.oneCell' = true) ∧ (base + m ≤ cs.length ∨ m = 0) ∧ RL S w l' (cs.take base ++ (v.cells.toList ++ cs.drop (base + m)))) :
    OpOK E o s fr (.d (.v (.int .i64 m))) (some (b, .var l')) := by
  have hca : c.args = #[x, y] := by cases hq : c.args; simp_all
  have hct : c.argTypes = #[t, t'] := by cases hq : c.argTypes; simp_all
  have hmx : x ∈ o.op.operands := by rw [ho]; simp [Op.operands, Call.operands, hc, hca]
  have hmy : y ∈ o.op.operands := by rw [ho]; simp [Op.operands, Call.operands, hc, hca]
  have hlk : looks o = true := by simp [looks, ho]
  refine ⟨fun q hq => by simp [T.refs] at hq, fun q z e => by cases e; exact .inr ⟨x, hmx, by rw [hx]; simp [T.refs]⟩, fun S base0 w0 s' ρ a w K' Q hs g hfr hlt hK' => ?_⟩
  obtain ⟨ad, c', ns, h1, h2, h3⟩ := hsrc S base0 w0 s' ρ a w (hs y hmy).1 (fun q hq => hs.bk hmy hlk hq) g
  have hbk : s'.bk b = some (.var l) := (hs.bk hmx hlk (by rw [hx]; simp [T.refs])).trans hk
  obtain ⟨r, cs, ty, k1, k2, k3, k4⟩ := g.var hbk
  obtain ⟨r', cap, k5, k6, _⟩ := evData hs g hmx hx _ k1
  obtain rfl := k5.ptr
  obtain ⟨_, f, h5, h6⟩ := (E.hY t i hY).arr (by omega)
  have hu := (E.hY t i hY).sl hs1
  obtain ⟨d1, d2, d3, d4⟩ := hd k4 (.agg h2)
  have hns : ns.length = m := by rw [h2.len, hseg]
  have e0 : (Value.agg ns.toArray).cells.toList = ns := by simp [Value.cells]
  rw [e0] at d2 d4
  have hmin : ns.length = Nat.min m n := by rw [hns]; exact (Nat.min_eq_left hmn).symm
  have hfin : ∀ {w'}, (Builtin.copy_ #[t, t'] o.type #[a.eval x, a.eval y]).run E.P w = .ok (goInt m) w' → (w' = w.setRow r (cs.take base ++ (ns ++ cs.drop (base + ns.length))).toArray) → o.wp E.P a w K' Q := by
    intro w' hr e
    subst e
    unfold Oper.wp execOp
    simp only [ho, hc, hca, hct, resolve, invoke, builtin, Sem.run_bind, Sem.run_pure, Result.andThen_ok, List.map_toArray, List.map_cons, List.map_nil, hr]
    exact hK' _ _ _ ((g.store hbk k1 k3 (off := base) (vs := ns) (l' := l') (by rw [hns]; exact d4)).put' o.dst (t := .d (.v (.int .i64 m))) (.v _) (by simp [T.refs]))
  have hsz : (E.P.info? i.elem).map (·.size) = some 1 := by rw [h5, ← he, ← h6]; rfl
  by_cases hm : m = 0
  · have hn0 : ns = [] := List.length_eq_zero_iff.1 (hns.trans hm)
    refine hfin (w' := w) ?_ ?_
    · rw [k6, h1, hm]
      exact run_copy_none w t t' o.type i.elem _ _ n cap 0 c' hu hsz (Nat.zero_min n)
    · subst hn0
      simp only [List.length_nil, Nat.add_zero, List.nil_append, List.take_append_drop]
      exact (setRow_self w r _ ty (0, 0) k3).symm
  · rcases h3 with ⟨_, _, h, _⟩ | ⟨a', rfl, h12⟩
    · exact absurd h hm
    · have hfit : base + ns.length ≤ cs.toArray.size := by
        rw [List.size_toArray, hns]; exact d3.resolve_right hm
      refine hfin (w' := w.setRow r (cs.take base ++ (ns ++ cs.drop (base + ns.length))).toArray) ?_ rfl
      have hr := run_copy_row (P := E.P) w t t' o.type i.elem r base n cap a' m c' cs.toArray ty ns hu hsz k3 hmin h12 hfit d2
      rw [k6, h1, hr, hns, List.append_assoc]
end
end Go.Proofs.Ytanpamcecaoanaa

/-
  A variable of one's own one cell of which holds a slice of one's own: read, appended to, stored; told as data again. No program is named here.
-/
namespace Go.Proofs.Ytanpamcecaoanaa
set_option maxRecDepth 100000
open Go.RowKit
set_option linter.unusedVariables false
set_option linter.unusedSimpArgs false

/-- the variable's cells, where the slice is told as data -/
theorem unh_spec {l l' : List Seg} {off n : Nat} {m : List Seg} (h : unh l off n m = some l') : ∀ {D : Nat → Prop} {w : World} {cs : List Value} {v : Value}, RL D w l cs → RA D w (.row n m) v → RL D w l' (cs.set off v) := by
  intro D w cs v hl hv
  unfold unh at h
  split at h
  · next p k asx q i hc =>
    cases h
    obtain ⟨s', hK, hs⟩ := setK_uni (s := .gen k asx) (i := i) (a := .row n m) (K := fun s' => s' = .gen k (asx.set i (.row n m))) rfl
    subst hK
    obtain ⟨c, d, e, rfl, h1, h2, h3, h4, h5, h6⟩ := hl.found hc
    obtain ⟨k1, k2⟩ := hs h2 hv
    have k3 := h1.append (k1.append h3)
    have e1 : (c ++ (d ++ e)).set off v = c ++ (d.set i v ++ e) := by
      rw [← h4, List.set_append_right _ _ (by omega), show c.length + i - c.length = i by omega, List.set_append_left _ _ (by omega)]
    rw [e1]
    simpa using k3
  · cases h

section
variable {E : EnvX} {o : Oper} {s : St} {fr : Nat}

/-- the variable's slice is another one, or data: whatever slot speaks of the variable reads as it did -/
theorem RP.reH {D D' : Nat → Prop} {ρ ρ' : Nat → Option Value} {w w' : World} (k : Keeps D w D' w') {b0 r : Nat} {ad : Option Addr} {n0 c0 : Nat} (h0 : ρ b0 = some (uvh r (.slice ad n0 c0))) (h1 : ∀ b, b ≠ b0 → ρ' b = ρ b) (hR : ∀ u, ρ' b0 = some u → Root u r)
    {p : Pt} {v : Value} (h : RP D ρ w p v) : RP D' ρ' w' p v := by
  cases p with
  | dat a => exact RA.up k h
  | own b n =>
    by_cases e : b = b0
    · subst e; obtain ⟨a, n', c, hu, _⟩ := h _ h0; exact (uvh_no.2 _ _ _ hu).elim
    · intro u hu; rw [h1 b e] at hu; exact h u hu
  | win b base n =>
    by_cases e : b = b0
    · subst e
      obtain ⟨r', c, hu, h2⟩ := h _ h0
      obtain rfl := hu.uvh
      intro u hu; exact ⟨_, c, hR u hu, h2⟩
    · intro u hu; rw [h1 b e] at hu; exact h u hu
theorem RT.reH {D D' : Nat → Prop} {ρ ρ' : Nat → Option Value} {w w' : World} (k : Keeps D w D' w') {b0 r : Nat} {ad : Option Addr} {n0 c0 : Nat} (h0 : ρ b0 = some (uvh r (.slice ad n0 c0))) (h1 : ∀ b, b ≠ b0 → ρ' b = ρ b) (hR : ∀ u, ρ' b0 = some u → Root u r)
    (hH : ∀ n v, RT D ρ w (.hsl b0 n) v → RT D' ρ' w' (.hsl b0 n) v) {t : T} {v : Value} (h : RT D ρ w t v) : RT D' ρ' w' t v := by
  cases t with
  | d a => exact RA.up k h
  | tup l => obtain ⟨vs, rfl, h⟩ := h; exact ⟨vs, rfl, h.up k⟩
  | rows l => obtain ⟨vs, k1, k2⟩ := h; exact ⟨vs, k1.map fun p hp v hv => hv.reH k h0 h1 hR, k2.up k⟩
  | dead => trivial
  | ob b =>
    by_cases e : b = b0
    · subst e; obtain ⟨r', F2, e1, e2⟩ := h _ h0; exact (uvh_fpv e1).elim
    · intro u hu; rw [h1 b e] at hu; exact h u hu
  | mp b =>
    by_cases e : b = b0
    · subst e; obtain ⟨r', F2, e1, e2⟩ := h _ h0; exact (uvh_fpv e1).elim
    · intro u hu; rw [h1 b e] at hu; exact h u hu
  | ptr b base =>
    by_cases e : b = b0
    · subst e
      obtain ⟨r', hu, h2⟩ := h _ h0
      obtain rfl := hu.uvh
      intro u hu; exact ⟨_, hR u hu, h2⟩
    · intro u hu; rw [h1 b e] at hu; exact h u hu
  | pti b base rel =>
    by_cases e : b = b0
    · subst e
      obtain ⟨r', hu, h2⟩ := h _ h0
      obtain rfl := hu.uvh
      intro u hu; exact ⟨_, hR u hu, h2⟩
    · intro u hu; rw [h1 b e] at hu; exact h u hu
  | own b n =>
    by_cases e : b = b0
    · subst e; obtain ⟨a, n', c, hu, _⟩ := h _ h0; exact (uvh_no.2 _ _ _ hu).elim
    · intro u hu; rw [h1 b e] at hu; exact h u hu
  | win b base n =>
    by_cases e : b = b0
    · subst e
      obtain ⟨r', c, hu, h2⟩ := h _ h0
      obtain rfl := hu.uvh
      intro u hu; exact ⟨_, c, hR u hu, h2⟩
    · intro u hu; rw [h1 b e] at hu; exact h u hu
  | ept b n off =>
    by_cases e : b = b0
    · subst e; obtain ⟨a, n', c, hu, _⟩ := h _ h0; exact (uvh_no.2 _ _ _ hu).elim
    · intro u hu; rw [h1 b e] at hu; exact h u hu
  | pre b n m =>
    by_cases e : b = b0
    · subst e; obtain ⟨a, n', c, hu, _⟩ := h _ h0; exact (uvh_no.2 _ _ _ hu).elim
    · intro u hu; rw [h1 b e] at hu; exact h u hu
  | bxp b c =>
    by_cases e : b = b0
    · subst e
      obtain ⟨r', hu, h2⟩ := h _ h0
      obtain rfl := hu.uvh
      intro u hu; exact ⟨_, hR u hu, h2⟩
    · intro u hu; rw [h1 b e] at hu; exact h u hu
  | hsl b n =>
    by_cases e : b = b0
    · subst e; exact hH n v h
    · intro u hu; rw [h1 b e] at hu; exact h u hu

theorem agg_of_sl {t : TypeId} {i : TI} (h : TyOK E.P t i) (hs : i.sl = true) : i.agg = false := by
  rw [← h.agg]
  unfold aggOf
  rw [h.sl hs]
/-- the slice is read -/
theorem ok_loadH {t : TypeId} {x : Operand} {i : TI} {b off sz n : Nat} {l m : List Seg} {e : TypeId} (ho : o.op = .load t x) (hY : E.Y t = some i) (hs1 : i.sl = true) (hx : s.ev x = .ptr b off) (hk : s.bk b = some (.vh l off true e sz n m)) : OpOK E o s fr (.hsl b n) none := by
  have hm : x ∈ o.op.operands := by rw [ho]; simp [Op.operands]
  refine .pure (fun b' hb => ⟨x, hm, by rw [hx]; simpa [T.refs] using hb⟩) fun S base w0 s' ρ a w hs g => ?_
  have hB := g.b b
  rw [(hs.bk hm (by simp [looks, ho]) (by rw [hx]; simp [T.refs])).trans hk] at hB
  obtain ⟨r, cs, ty, su, ms, h1, h2, h3, h4, h5, h6, h7, h8⟩ := hB
  obtain ⟨r', e1, e2⟩ := evData hs g hm hx _ h1
  obtain rfl := e1.uvh
  obtain ⟨ad, c, hf⟩ := ownsRow_form h4
  obtain ⟨v, h9, h10⟩ := run_load_part (D := fun _ => True) (w := w) (x := .v su) (E.hY t i hY) (r := r) (o := 0) (off := off) (cs := cs) (fun j hj => by rw [Nat.zero_add, cells_of h2, List.getElem?_eq_getElem hj])
    ⟨fun e => (by rw [agg_of_sl (E.hY t i hY) hs1] at e; cases e), fun _ => ⟨su, h8 rfl, .v su, by rw [hf]; rfl⟩⟩
  rw [Nat.zero_add] at h9
  obtain rfl := RA.plain h10
  refine ⟨v, exec_load ho e2 h9, fun u hu => ?_⟩
  rw [h1] at hu; cases hu
  subst hf
  exact .inl ⟨r, ad, n, c, rfl, Nat.le_refl _, fun _ => rfl⟩
/-- data of a slice of one's own -/
theorem row_of_own {D : Nat → Prop} {w : World} {base : Nat} {e : TypeId} {sz n : Nat} {v : Value} {ms : List Value} {m : List Seg} (h4 : w.ownsRow base e sz v n ms) (h5 : RL D w m ms) (hD : ∀ q, Rl v q → D q) : RA D w (.row n m) v := by
  rcases h4.2 with ⟨e1, e2⟩ | ⟨q, cap, cur, e1, e3, e4, e5, e6, e7, e8⟩
  · rw [e1, e2]
    have hcs : ms = [] := by have := h4.1; rw [e2, Nat.zero_mul] at this; exact List.length_eq_zero_iff.1 this
    exact .row h5 (Nat.le_refl _) (Nat.zero_le _) (fun _ => rfl) (.inl hcs)
  · subst e1
    refine .row h5 e5 e6 (fun e => by cases e) (.inr ⟨q, 0, rfl, hD q rfl, (Array.getElem?_eq_some_iff.1 e4).1, fun j hj => ?_⟩)
    rw [Nat.zero_add, cell_of_row w q j cur _ (0, 0) e4]
    have : (cur.toList.take (n * sz))[j]? = ms[j]? := by rw [e8]
    rw [List.getElem?_take, if_pos (by have := h4.1; omega), Array.getElem?_toList, List.getElem?_eq_getElem hj] at this
    exact this
/-- the slice is told as data -/
theorem Good.unh {G : Nat → Option (List Seg)} {S : Nat → Prop} {base : Nat} {w0 : W0 G} {s : St} {ρ : Nat → Option Value} {a : Act} {w : World} (g : Good S base w0 s ρ a w) {b off sz n : Nat} {l l' m : List Seg} {e : TypeId} (hk : s.bk b = some (.vh l off true e sz n m))
    (hl : unh l off n m = some l') : ∃ ρ', Good S base w0 ⟨s.t, s.h.set b (some (.var l'))⟩ ρ' a w := by
  have hB := g.b b
  rw [hk] at hB
  obtain ⟨r, cs, ty, su, ms, h1, h2, h3, h4, h5, h6, h7, h8⟩ := hB
  obtain ⟨ad, c, rfl⟩ := ownsRow_form h4
  have hset : (cs.set off (.slice none 0 0)).set off (.slice ad n c) = cs := by
    rw [List.set_set]
    obtain ⟨h9, h10⟩ := List.getElem?_eq_some_iff.1 (h8 rfl)
    rw [← h10, List.set_getElem_self]
  have hr : Rl (uvh r (.slice ad n c)) r := (rl_uvh ⟨_, _, _, rfl⟩).2 (.inl rfl)
  refine ⟨_, g.change b (bk_lt hk) (.pointer (some ⟨r, 0, none⟩)) (.var l') none ⟨rfl, rfl, rfl, Nat.le_refl _, fun _ _ _ => rfl⟩ (by simp) (fun q hq => ?_) (fun K => ?_) (fun K i hi hm => ?_) (fun q hq => ?_)⟩
  · have e : r = q := hq
    subst e
    exact ⟨.inr ⟨_, h1, hr⟩, (g.low b _ r h1 hr).2⟩
  · refine ⟨r, cs, ty, by simp [upd], trivial, h2, ?_⟩
    have := unh_spec hl (h6.up K) (row_of_own h4 (h5.up K) fun q hq => ⟨.inr (ownsRow_real h4 hq).1, fun b' u hb hu => ?_⟩)
    · rwa [hset] at this
    · by_cases e : b' = b
      · subst e
        simp [upd] at hb; subst hb
        have e : r = q := hu
        exact h3 (e ▸ hq)
      · simp [upd, e] at hb
        exact e (g.inj b' b u _ q hb h1 hu ((rl_uvh ⟨_, _, _, rfl⟩).2 (.inr hq)))
  · refine RT.reH K h1 (fun b' hb => by simp [upd, hb]) (fun u hu => ?_) (fun n v _ u hu => ?_) (g.t i hi)
    · simp [upd] at hu; exact .inl hu.symm
    · simp [upd] at hu; exact .inr ⟨r, hu.symm⟩
  · rw [h1] at hq; exact (uvh_no.1 _ (Option.some.inj hq)).elim
theorem OpOK.unh {x : Operand} {t : T} {blk blk' : Option (Nat × Bk)} {b off sz n : Nat} {l l' m : List Seg} {e : TypeId} (hm : x ∈ o.op.operands) (hxb : b ∈ (s.ev x).refs) (hlk : looks o = true) (hk : s.bk b = some (.vh l off true e sz n m)) (hl : Go.Proofs.Ytanpamcecaoanaa.unh l off n m = some l')
    (h : OpOK E o ⟨s.t, s.h.set b (some (.var l'))⟩ fr t blk) (hb : blk = none ∧ blk' = some (b, .var l') ∨ ∃ y, blk = some (b, y) ∧ blk' = some (b, y)) : OpOK E o s fr t blk' := by
  obtain ⟨h1, h2, h3⟩ := h
  refine ⟨fun q hq => ?_, fun q y e => ?_, fun S base w0 s' ρ a w K Q hs g hf hlt hK => ?_⟩
  · rcases h1 q hq with ⟨rfl, y, e⟩ | h
    · rcases hb with ⟨e2, _⟩ | ⟨y', e2, e3⟩
      · rw [e2] at e; cases e
      · rw [e2] at e; cases e
        exact .inl ⟨rfl, _, e3⟩
    · exact .inr h
  · rcases hb with ⟨_, e2⟩ | ⟨y', _, e2⟩ <;> rw [e2] at e <;> cases e <;> exact .inr ⟨x, hm, hxb⟩
  · have hbk : s'.bk b = some (.vh l off true e sz n m) := (hs.bk hm hlk hxb).trans hk
    have hlt1 := bk_lt hbk
    have hlt2 := bk_lt hk
    obtain ⟨ρ1, g1⟩ := g.unh hbk hl
    have hne : fr ≠ b := fun e => by rw [e, hbk] at hf; cases hf
    refine h3 S base w0 ⟨s'.t, s'.h.set b (some (.var l'))⟩ ρ1 a w K Q (fun y hy => ⟨(hs y hy).1, fun q hq => ?_⟩) g1 ?_ (by simpa using hlt) (fun a' w' ρ' g' => hK a' w' ρ' ?_)
    · by_cases e : q = b
      · subst e; simp [St.bk, hlt1, hlt2]
      · simp only [St.bk, getD_set_list]
        rw [if_neg (fun h => e h.1.symm), if_neg (fun h => e h.1.symm)]
        exact (hs y hy).2 q hq
    · simp only [St.bk, getD_set_list]; rw [if_neg (fun h => hne h.1.symm)]; exact hf
    · rcases hb with ⟨e1, e2⟩ | ⟨y', e1, e2⟩
      · subst e1; subst e2; exact g'
      · subst e1; subst e2
        have e3 : St.app ⟨s'.t, s'.h.set b (some (.var l'))⟩ o.dst t (some (b, y')) = s'.app o.dst t (some (b, y')) := by
          simp [St.app, List.set_set]
        rwa [e3] at g'
/-- the slice is stored -/
theorem ok_storeH {t : TypeId} {x y : Operand} {i : TI} {b off sz n : Nat} {l m : List Seg} {e : TypeId} {p : Bool} (ho : o.op = .store t x y) (hY : E.Y t = some i) (hsz : i.sz = 1) (hx : s.ev x = .ptr b off) (hy : s.ev y = .hsl b n) (hk : s.bk b = some (.vh l off p e sz n m)) :
    OpOK E o s fr (.d (.v undef)) (some (b, .vh l off true e sz n m)) := by
  have hm : x ∈ o.op.operands := by rw [ho]; simp [Op.operands]
  have hm2 : y ∈ o.op.operands := by rw [ho]; simp [Op.operands]
  refine ⟨fun b hb => by simp [T.refs] at hb, fun b' x' e => by cases e; exact .inr ⟨x, hm, by rw [hx]; simp [T.refs]⟩, fun S base w0 s' ρ a w K Q hs g hf hlt hK => ?_⟩
  have hbk : s'.bk b = some (.vh l off p e sz n m) := (hs.bk hm (by simp [looks, ho]) (by rw [hx]; simp [T.refs])).trans hk
  have hB := g.b b
  rw [hbk] at hB
  obtain ⟨r, cs, ty, su, ms, h1, h2, h3, h4, h5, h6, h7, h8⟩ := hB
  obtain ⟨r', e1, e2⟩ := evData hs g hm hx _ h1
  obtain rfl := e1.uvh
  obtain ⟨ad, c, rfl⟩ := ownsRow_form h4
  have hv : a.eval y = .slice ad n c := by
    rcases evData hs g hm2 hy _ h1 with ⟨r2, a2, n2, c2, e3, e4, e5⟩ | ⟨r2, e3⟩
    · obtain ⟨_, e6⟩ := uvh_inj e3
      cases e6; exact e5 rfl
    · exact (uvh_no.1 _ e3).elim
  have hrun := run_storeVar_at (E.hY t i hY) (w := w) (v := a.eval y) (r := r) (off := off) (cs := cs) (ty := ty) (by rw [hv, hsz]; rfl) (by rw [hv]; intro u hu; simp [Value.cells] at hu; subst hu; rfl) h2 (.inl (by omega))
  have hcell : (a.eval y).cells.toList = [.slice ad n c] := by rw [hv]; rfl
  have hcs : cs.take off ++ ((a.eval y).cells.toList ++ cs.drop (off + (a.eval y).cells.toList.length)) = cs.set off (.slice ad n c) := by
    rw [hcell, List.set_eq_take_append_cons_drop, if_pos h7]; rfl
  have hr : Rl (uvh r (.slice ad n c)) r := (rl_uvh ⟨_, _, _, rfl⟩).2 (.inl rfl)
  have hu : upd ρ b (some (uvh r (.slice ad n c))) = ρ := by
    funext q; unfold upd; split
    · next e => rw [e, h1]
    · rfl
  unfold Oper.wp
  have : (execOp a.eval o).run E.P w = .ok .skip (w.setRow r (cs.set off (.slice ad n c)).toArray) := by
    rw [← hcs]
    simp only [execOp, ho, e2, Instr.storeAt, Instr.sureAddr, Sem.run_bind, Sem.run_pure, Result.andThen_ok, hrun]
  rw [this]
  have g2 := g.change b (bk_lt hbk) (uvh r (.slice ad n c)) (.vh l off true e sz n m) (some r) (w' := w.setRow r (cs.set off (.slice ad n c)).toArray)
    (grown_setRow (grown_refl w _) _ (.inr rfl)) (by intro r' e; cases e; exact ⟨_, h1, hr⟩) (by
      intro r' hr'
      exact ⟨.inr ⟨_, h1, hr'⟩, by rw [size_setRow]; exact (g.low b _ r' h1 hr').2⟩) (by
      rw [hu]
      intro K0
      refine ⟨r, cs.set off (.slice ad n c), ty, .slice ad n c, ms, h1, setRow_heap _ _ _ _ _ _ h2, h3, ownsRow_up h4 (fun q hq => setRow_other _ _ _ _ (fun e => h3 (by first | exact e ▸ hq | exact e.symm ▸ hq))), h5.up K0, ?_, by simpa using h7, fun _ => by rw [List.getElem?_set_self h7]⟩
      rw [List.set_set]; exact h6.up K0) (by
      rw [hu]
      intro K0 i hi _
      exact (g.t i hi).up K0 (fun _ _ => rfl)) (fun q hq => by rw [h1] at hq; exact (uvh_no.1 _ (Option.some.inj hq)).elim)
  rw [hu] at g2
  exact hK _ _ _ (g2.put' o.dst (t := .d (.v undef)) (.v undef) (by simp [T.refs]))
/-- the slice is appended to -/
theorem ok_appendH {c : Call} {x y : Operand} {t : TypeId} {i j : TI} {b n off : Nat} {l m0 : List Seg} {p : Bool} (ho : o.op = .call c) (hc : c.callee = .builtin .append) (ha : c.args.toList = [x, y]) (ht : c.argTypes.toList = [t, t]) (hY : E.Y t = some i) (hs1 : i.sl = true) (he : i.esz ≠ 0)
    (hj : E.Y i.elem = some j) (hjb : j.bytes ≠ 0) (hjs : segN j.zero = i.esz) {m : Nat} {news : List Seg}
    (hsrc : ∀ (S : Nat → Prop) (base : Nat) (w0 : W0 E.G) (s' : St) (ρ : Nat → Option Value) (a : Act) (w : World), s'.ev y = s.ev y → (∀ b ∈ (s.ev y).refs, s'.bk b = s.bk b) → Good S base w0 s' ρ a w →
      ∃ ad c cs, a.eval y = .slice ad m c ∧ RL (Dt S base ρ) w news cs ∧ ((ad = none ∧ c = 0 ∧ m = 0 ∧ cs = []) ∨ ∃ a', ad = some a' ∧ ∀ j u, cs[j]? = some u → w.cell? (a'.add j) = some u))
    (hseg : segN news = m * i.esz) (hx : s.ev x = .hsl b n) (hk : s.bk b = some (.vh l off p i.elem i.esz n m0)) (hb : (n + m) * j.bytes ≤ 140737488355328) :
    OpOK E o s fr (.hsl b (n + m)) (some (b, .vh l off false i.elem i.esz (n + m) (joinS m0 news))) := by
  have hca : c.args = #[x, y] := by cases hq : c.args; simp_all
  have hct : c.argTypes = #[t, t] := by cases hq : c.argTypes; simp_all
  have hmx : x ∈ o.op.operands := by rw [ho]; simp [Op.operands, Call.operands, hc, hca]
  have hmy : y ∈ o.op.operands := by rw [ho]; simp [Op.operands, Call.operands, hc, hca]
  have hlk : looks o = true := by simp [looks, ho]
  refine ⟨fun q hq => .inr ⟨x, hmx, by rw [hx]; simpa [T.refs] using hq⟩, fun q z e => by cases e; exact .inr ⟨x, hmx, by rw [hx]; simp [T.refs]⟩, fun S base w0 s' ρ a w K' Q hs g hfr hlt hK' => ?_⟩
  obtain ⟨ad, c', ns, h1, h2, h3⟩ := hsrc S base w0 s' ρ a w (hs y hmy).1 (fun q hq => hs.bk hmy hlk hq) g
  have hbk : s'.bk b = some (.vh l off p i.elem i.esz n m0) := (hs.bk hmx hlk (by rw [hx]; simp [T.refs])).trans hk
  have hB := g.b b
  rw [hbk] at hB
  obtain ⟨r, cs, ty, su, ms, b1, b2, b3, k2, k3, b6, b7, b8⟩ := hB
  obtain ⟨ad1, c1, rfl⟩ := ownsRow_form k2
  have hxv : a.eval x = .slice ad1 n c1 := by
    rcases evData hs g hmx hx _ b1 with ⟨r2, a2, n2, c2, e3, e4, e5⟩ | ⟨r2, e3⟩
    · obtain ⟨_, e6⟩ := uvh_inj e3
      cases e6; exact e5 rfl
    · exact (uvh_no.1 _ e3).elim
  obtain ⟨_, f, h5, h6⟩ := (E.hY t i hY).arr he
  obtain ⟨f', z, h7, h8, h9, h10, h11⟩ := (E.hY _ j hj).info
  rw [h5] at h7; cases h7
  have hu := (E.hY t i hY).sl hs1
  have hns : ns.length = m * i.esz := by rw [h2.len, hseg]
  have hbl := bk_lt hbk
  have hr0 : ∀ {ad n c}, Rl (uvh r (.slice ad n c)) r := fun {ad n c} => (rl_uvh ⟨_, _, _, rfl⟩).2 (.inl rfl)
  have hrun : ∀ {v' w'}, (Builtin.append_ #[t, t] o.type #[a.eval x, a.eval y]).run E.P w = .ok v' w' → (∀ ρ' , Good S base w0 (s'.app o.dst (.hsl b (n + m)) (some (b, .vh l off false i.elem i.esz (n + m) (joinS m0 news)))) ρ' (a.put o.dst v') w' → o.wp E.P a w K' Q) := by
    intro v' w' hr ρ' hg
    unfold Oper.wp execOp
    simp only [ho, hc, hca, hct, resolve, invoke, builtin, Sem.run_bind, Sem.run_pure, Result.andThen_ok, List.map_toArray, List.map_cons, List.map_nil, hr]
    exact hK' _ _ _ hg
  have same : m = 0 → ns = [] → (Builtin.append_ #[t, t] o.type #[a.eval x, a.eval y]).run E.P w = .ok (a.eval x) w → o.wp E.P a w K' Q := by
    intro hm hn hr
    subst hm; subst hn
    have hupd : upd ρ b (some (uvh r (.slice ad1 n c1))) = ρ := by
      funext q; unfold upd; split
      · next e => rw [e, b1]
      · rfl
    have g2 := g.change b hbl (uvh r (.slice ad1 n c1)) (.vh l off false i.elem i.esz (n + 0) (joinS m0 news)) none ⟨rfl, rfl, rfl, Nat.le_refl _, fun _ _ _ => rfl⟩ (by simp) (fun r hr => ⟨.inr ⟨_, b1, hr⟩, (g.low b _ r b1 hr).2⟩) (by
      rw [hupd]
      intro K0
      refine ⟨r, cs, ty, .slice ad1 n c1, ms ++ [], b1, b2, b3, ?_, k3.join h2, b6, b7, fun e => by cases e⟩
      rw [List.append_nil]; exact k2) (by
      rw [hupd]
      intro _ q hq _
      exact g.t q hq) (fun q hq => by rw [b1] at hq; exact (uvh_no.1 _ (Option.some.inj hq)).elim)
    rw [hupd] at g2
    refine hrun hr ρ (g2.put' o.dst (t := .hsl b (n + 0)) ?_ ?_)
    · intro u hu
      rw [b1] at hu; cases hu
      exact .inl ⟨r, ad1, n, c1, rfl, Nat.le_refl _, fun _ => hxv⟩
    · intro q hq
      simp [T.refs] at hq; subst hq
      simp [St.bk, getD_set_list, hbl]
  rcases h3 with ⟨rfl, rfl, hm, hn⟩ | ⟨a', rfl, h12⟩
  · refine same hm hn ?_
    rw [h1, hm, hxv]
    exact run_append_owned_none (P := E.P) (w := w) base t o.type i.elem f i.esz hu h5 _ n ms k2
  · by_cases hm : m = 0
    · refine same hm (by rw [hm, Nat.zero_mul] at hns; exact List.length_eq_zero_iff.1 hns) ?_
      rw [h1, hm, hxv]
      exact run_append_own_same base t o.type i.elem f i.esz hu h5 h6 _ n ms k2 a' c'
    · have hz := (zeroB_spec (S := S) (w := w) h11).len
      have h63 : n + m ≤ maxLen := by
        have : n + m ≤ (n + m) * j.bytes := Nat.le_mul_of_pos_right _ (Nat.pos_of_ne_zero hjb)
        unfold maxLen; omega
      obtain ⟨v', w', hr, k4, k5, k6, k7⟩ := run_append_own_at (P := E.P) w base t o.type i.elem f z i.esz j.bytes hu h5 h10 h6 h9 (by
          rw [hjs] at hz; simpa using hz) (Nat.pos_of_ne_zero he) _ n ms k2 a' m c' ns hns h12 h2.one h63 hb g.size
      obtain ⟨ad2, c2, rfl⟩ := ownsRow_form k4
      have hnew : ∀ q, Rl (.slice ad2 (n + m) c2) q → Rl (.slice ad1 n c1) q ∨ q = w.heap.size := fun q hq => by
        rw [rl_own ⟨_, _, _, rfl⟩] at hq
        rcases k7 with k7 | k7
        · exact .inl ((rl_own ⟨_, _, _, rfl⟩).2 (by rw [← k7]; exact hq))
        · rw [k7] at hq; cases hq; exact .inr rfl
      have hlow := (g.low b _ r b1 hr0).2
      have hro : (Value.slice ad1 n c1).ownBlock ≠ some r := fun e => b3 ((rl_own ⟨_, _, _, rfl⟩).2 e)
      have g2 := g.change b hbl (uvh r (.slice ad2 (n + m) c2)) (.vh l off false i.elem i.esz (n + m) (joinS m0 news)) (Value.slice ad1 n c1).ownBlock k5 (fun q hq => ⟨_, b1, (rl_uvh ⟨_, _, _, rfl⟩).2 (.inr ((rl_own ⟨_, _, _, rfl⟩).2 hq))⟩) (fun q hq => by
          rcases (rl_uvh ⟨_, _, _, rfl⟩).1 hq with rfl | hq
          · exact ⟨.inr ⟨_, b1, hr0⟩, Nat.lt_of_lt_of_le hlow k5.size⟩
          · refine ⟨?_, (ownsRow_real k4 hq).2⟩
            rcases hnew q hq with h13 | rfl
            · exact .inr ⟨_, b1, (rl_uvh ⟨_, _, _, rfl⟩).2 (.inr h13)⟩
            · exact .inl (Nat.le_refl _)) (by
          intro K0
          refine ⟨r, cs, ty, .slice ad2 (n + m) c2, ms ++ ns, by simp [upd], (k5.block r hlow (fun e => hro (by first | exact e | exact e.symm))).trans b2, fun e => ?_, k4, (k3.up K0).join (h2.up K0), b6.up K0, b7, fun e => by cases e⟩
          rcases hnew r e with h13 | h13
          · exact b3 h13
          · omega) (by
          intro K0 q hq hrf
          refine RT.reH K0 b1 (fun b' hb' => by simp [upd, hb']) (fun u hu => by simp [upd] at hu; exact .inr ⟨_, _, _, hu.symm⟩) (fun n' v hv u hu => ?_) (g.t q hq)
          simp [upd] at hu; subst hu
          rcases hv _ b1 with ⟨r2, a2, n2, c2', e3, e4, e5⟩ | ⟨r2, e3⟩
          · obtain ⟨_, e6⟩ := uvh_inj e3
            cases e6
            exact .inl ⟨r, ad2, n + m, c2, rfl, by omega, fun e => by omega⟩
          · exact (uvh_no.1 _ e3).elim) (fun q hq => by rw [b1] at hq; exact (uvh_no.1 _ (Option.some.inj hq)).elim)
      refine hrun (by rw [h1, hxv]; exact hr) _ (g2.put' o.dst (t := .hsl b (n + m)) ?_ ?_)
      · intro u hu
        simp [upd] at hu; subst hu
        exact .inl ⟨r, ad2, n + m, c2, rfl, Nat.le_refl _, fun _ => rfl⟩
      · intro q hq
        simp [T.refs] at hq; subst hq
        simp [St.bk, getD_set_list, hbl]
/-- a new slice that is told as data at once -/
theorem OpOK.freeze {n sz : Nat} {e : TypeId} {l : List Seg} (h : OpOK E o s fr (.own fr n) (some (fr, .sl e sz n l))) : OpOK E o s fr (.d (.row n l)) none := by
  refine ⟨fun b hb => by simp [T.refs] at hb, fun b x e => (by cases e), fun S base w0 s' ρ a w K Q hs g hf hlt hK => ?_⟩
  refine h.2.2 S base w0 s' ρ a w K Q hs g hf hlt fun a' w' ρ' g' => hK a' w' (upd ρ' fr none) ?_
  have hbk : ∀ b, St.bk (s'.app o.dst (.own fr n) (some (fr, .sl e sz n l))) b = if b = fr then some (.sl e sz n l) else s'.bk b := fun b => by
    simp only [St.app, St.bk, getD_set_list]
    by_cases e : b = fr
    · subst e; simp [hlt]
    · rw [if_neg (fun h => e h.1.symm), if_neg e]
  have hsl : ∀ t i, St.sl (s'.app o.dst t (some (fr, .sl e sz n l))) i = St.sl (s'.app o.dst t none) i := fun t i => rfl
  have hB := g'.b fr
  rw [hbk, if_pos rfl] at hB
  obtain ⟨u, ms, h1, h4, h5⟩ := hB
  have hu : ∀ b, b ≠ fr → upd ρ' fr none b = ρ' b := fun b hb => by simp [upd, hb]
  have hu' : ∀ b v, upd ρ' fr none b = some v → b ≠ fr ∧ ρ' b = some v := fun b v hb => by
    by_cases e : b = fr
    · subst e; simp [upd] at hb
    · exact ⟨e, by rw [← hu b e]; exact hb⟩
  have K : Keeps (Dt S base ρ') w' (Dt S base (upd ρ' fr none)) w' := ⟨Nat.le_refl _, fun r _ hd => ⟨⟨hd.1, fun b v hb => hd.2 b v (hu' b v hb).2⟩, fun _ => rfl⟩⟩
  have hrow : RA (Dt S base (upd ρ' fr none)) w' (.row n l) u := row_of_own h4 (h5.up K) fun q hq => ⟨.inr (ownsRow_real h4 hq).1, fun b v hb hv => by
    obtain ⟨e1, e2⟩ := hu' b v hb
    exact e1 (g'.inj b fr v u q e2 h1 hv hq)⟩
  obtain ⟨ad, c, hf2⟩ := ownsRow_form h4
  have hdst : ∀ i, o.dst ≠ some i ∨ s'.t.length ≤ i → ∀ t, St.sl (s'.app o.dst t none) i = s'.sl i := fun i hi t => by
    unfold St.app St.sl
    cases hd : o.dst with
    | none => rfl
    | some d =>
      simp only [getD_set_list]
      rw [if_neg]
      rintro ⟨rfl, h2⟩
      rcases hi with hi | hi
      · exact hi hd
      · omega
  have hdst2 : ∀ i, o.dst = some i → i < s'.t.length → ∀ t, St.sl (s'.app o.dst t none) i = t := fun i hd hi t => by
    unfold St.app St.sl
    rw [hd]
    simp [getD_set_list, hi]
  have hne : ∀ i, ∀ b ∈ (s'.sl i).refs, b ≠ fr := fun i b hb e => g.dang i b hb (by rw [e]; exact hf)
  have hlen : (s'.app o.dst (.d (.row n l)) none).t.length = (s'.app o.dst (.own fr n) (some (fr, .sl e sz n l))).t.length := by
    unfold St.app; cases o.dst <;> simp
  have hlen2 : (s'.app o.dst (.own fr n) (some (fr, .sl e sz n l))).t.length = s'.t.length := by
    unfold St.app; cases o.dst <;> simp
  refine ⟨hlen.trans g'.len, fun i hi => ?_, fun b => ?_, fun i b hb => ?_, fun b b' v v' r h2 h3 => g'.inj b b' v v' r (hu' b v h2).2 (hu' b' v' h3).2, fun b v r h2 => g'.low b v r (hu' b v h2).2, g'.bel, g'.glob.up K, (fun q hq => ?_), g'.size, g'.defs⟩
  · have h0 := g'.t i hi
    rw [hsl] at h0
    have hi2 : i < s'.t.length := by rw [← hlen2, g'.len]; exact hi
    by_cases hd : o.dst = some i
    · rw [hdst2 i hd hi2] at h0 ⊢
      obtain ⟨a2, n2, c2, e2, _, e3⟩ := h0 u h1
      rw [hf2] at e2; cases e2
      rw [e3 rfl]; exact hrow
    · rw [hdst i (.inl hd)] at h0 ⊢
      exact h0.up K fun b hb => hu b (hne i b hb)
  · show RB _ _ _ _ b (s'.bk b)
    by_cases e2 : b = fr
    · subst e2; rw [hf]; simp [RB, upd]
    · have hB := g'.b b
      rw [hbk, if_neg e2] at hB
      cases hk : s'.bk b with
      | none => rw [hk] at hB; exact (hu b e2).trans hB
      | some x =>
        rw [hk] at hB
        cases x with
        | var l => obtain ⟨r, cs, t, h1, h2, h3, h4⟩ := hB; exact ⟨r, cs, t, (hu b e2).trans h1, h2, h3, h4.up K⟩
        | sl e sz n l => obtain ⟨u, cs, h1, h2, h3⟩ := hB; exact ⟨u, cs, (hu b e2).trans h1, h2, h3.up K⟩
        | obj p => obtain ⟨r, cs, t, h1, h2, h3, h4⟩ := hB; exact ⟨r, cs, t, (hu b e2).trans h1, h2, h3, h4⟩
        | abs p => obtain ⟨r, F, h1, h2, h3⟩ := hB; exact ⟨r, F, (hu b e2).trans h1, h2, p.up K (fun _ _ => rfl) h3⟩
        | gone => obtain ⟨n, h1⟩ := hB; exact ⟨n, (hu b e2).trans h1⟩
        | bx =>
          obtain ⟨h0, q, r, t, k1, k2, k3⟩ := hB
          refine ⟨h0, q, r, t, (hu b e2).trans k1, k2, (hu 0 fun e0 => ?_).trans k3⟩
          rw [e0, h1, hf2] at k3; cases k3
        | vh l off p e sz n m => obtain ⟨r, cs, t, su, ms, h1, h2, h3, h4, h5, h6, h7, h8⟩ := hB; exact ⟨r, cs, t, su, ms, (hu b e2).trans h1, h2, h3, h4, h5.up K, h6.up K, h7, h8⟩
  · show s'.bk b ≠ none
    by_cases hd : o.dst ≠ some i ∨ s'.t.length ≤ i
    · rw [hdst i hd] at hb; exact g.dang i b hb
    · have h2 : o.dst = some i := Decidable.byContradiction fun h => hd (.inl h)
      rw [hdst2 i h2 (Nat.lt_of_not_le fun h => hd (.inr h))] at hb
      simp [T.refs] at hb
  · have h2 := g'.pin q hq
    by_cases e2 : (0 : Nat) = fr
    · rw [e2, h1, hf2] at h2; cases h2
    · rw [hu 0 e2]; exact h2
/-- a row of slices that are data -/
theorem OpOK.rows {ps : List Pt} {l : List A} (h : OpOK E o s fr (.rows ps) none) (hl : datP ps = some l) : OpOK E o s fr (.d (.row ps.length [.gen ps.length l])) none := by
  refine ⟨fun b hb => by simp [T.refs] at hb, fun b x e => (by cases e), fun S base w0 s' ρ a w K Q hs g hf hlt hK => ?_⟩
  refine h.2.2 S base w0 s' ρ a w K Q hs g hf hlt fun a' w' ρ' g' => hK a' w' ρ' ?_
  have hlen : (s'.app o.dst (.d (.row ps.length [.gen ps.length l])) none).t.length = (s'.app o.dst (.rows ps) none).t.length := by
    unfold St.app; cases o.dst <;> simp
  refine ⟨hlen.trans g'.len, fun i hi => ?_, g'.b, fun i b hb => ?_, g'.inj, g'.low, g'.bel, g'.glob, g'.pin, g'.size, g'.defs⟩
  · have h0 := g'.t i hi
    by_cases hd : o.dst = some i
    · have hi2 : i < s'.t.length := by
        have := g'.len
        have h3 : (s'.app o.dst (.rows ps) none).t.length = s'.t.length := by unfold St.app; cases o.dst <;> simp
        omega
      have e1 : ∀ t, St.sl (s'.app o.dst t none) i = t := fun t => by
        unfold St.app St.sl; rw [hd]; simp [getD_set_list, hi2]
      rw [e1] at h0 ⊢
      obtain ⟨vs, hp, r, hr, hne, hle, hD, hlt2, hc⟩ := h0
      obtain ⟨e2, hg⟩ := datP_spec hl hp
      have hpl := hp.len
      rw [hr, ← hpl]
      refine .row (.ofGen (by rw [e2, hpl]) hg) (Nat.le_refl _) hle (fun e => by cases e) (.inr ⟨r, 0, rfl, hD, hlt2, fun j hj => by rw [Nat.zero_add]; exact hc j hj⟩)
    · have e1 : ∀ t, St.sl (s'.app o.dst t none) i = s'.sl i := fun t => by
        unfold St.app St.sl
        cases hd2 : o.dst with
        | none => rfl
        | some d => simp only [getD_set_list]; rw [if_neg (fun h => hd (by rw [hd2, h.1]))]
      rw [e1] at h0 ⊢
      exact h0
  · by_cases hd : o.dst = some i ∧ i < s'.t.length
    · have e1 : St.sl (s'.app o.dst (.d (.row ps.length [.gen ps.length l])) none) i = .d (.row ps.length [.gen ps.length l]) := by
        unfold St.app St.sl; rw [hd.1]; simp [getD_set_list, hd.2]
      rw [e1] at hb; simp [T.refs] at hb
    · have e1 : ∀ t, St.sl (s'.app o.dst t none) i = s'.sl i := fun t => by
        unfold St.app St.sl
        cases hd2 : o.dst with
        | none => rfl
        | some d => simp only [getD_set_list]; rw [if_neg (fun h => hd ⟨by rw [hd2, h.1], by omega⟩)]
      rw [e1] at hb
      have := g.dang i b hb
      exact this
end
end Go.Proofs.Ytanpamcecaoanaa

/-
  Statements of the machine without memory: maps of one's own, whose keys are bytes and whose elements are plain cells. No program is named here.
-/
namespace Go.Proofs.Ytanpamcecaoanaa
set_option maxRecDepth 100000
open Go.RowKit
set_option linter.unusedVariables false
set_option linter.unusedSimpArgs false

theorem mapT_of {P : Program} {t kt e b : TypeId} {N : Nat} {i : TI} {zs : List UInt8} (h1 : P.underlying t = some (.map kt e)) (h2 : P.underlying kt = some (.array N b)) (h3 : P.underlying b = some (.int .u8)) (h4 : (match P.info? b with | some i => i.size == 1 | none => false) = true) (h5 : (match P.info? e with | some i => (match i.zero with | some (.agg _) => true | _ => false) | none => false) = true)
    (hT : TyOK P kt i) (hE : EqT P kt i) (hz : i.zero = [.bytes N zs]) (hn : zs.length = N) : MapT P t N e := by
  refine ⟨kt, b, h1, h2, h3, ?_, ?_, fun w x y hx hy => ?_⟩
  · split at h4
    · next i hi => exact ⟨i, hi, by simpa using h4⟩
    · cases h4
  · split at h5
    · next i hi =>
      split at h5
      · next z hz => exact ⟨i, z, hi, hz⟩
      · cases h5
    · cases h5
  · obtain ⟨f, z, _, _, _, _, k⟩ := hT.info
    have k2 : RL (fun _ => True) w [.bytes N zs] z.cells.toList := by rw [← hz]; exact zeroB_spec k
    obtain ⟨_, k3⟩ := k2.toBytes
    have kinds : ∀ l : List UInt8, l.length = N → (HL l).map cellKind = z.cells.toList.map cellKind := fun l hl => by
      rw [k3]
      refine List.ext_getElem (by simp [HL, hl, hn]) fun i _ _ => by simp [HL, cellKind]
    obtain ⟨r, e1, e2⟩ := hE.2 w (HL x) (HL y) z.cells.toList k (kinds x hx) (kinds y hy)
    refine ⟨r, e1, ?_⟩
    rw [e2]
    exact ⟨HL_inj, fun h => by rw [h]⟩
theorem run_checkKey_arr {P : Program} {kt b : TypeId} {N : Nat} (h1 : P.underlying kt = some (.array N b)) (h2 : P.underlying b = some (.int .u8)) {i : TypeInfo} (h3 : P.info? b = some i) (h4 : i.size = 1) (em : Bool) (w : World) (l : List UInt8) (hl : l.length = N) :
    (Instr.checkKey em 10000 kt (.agg (HL l).toArray)).run P w = .ok () w := by
  have hp : P.plainKey b = true := by simp [Program.plainKey, h2]
  rw [show (10000 : Nat) = 9999 + 1 from rfl, Instr.checkKey]
  simp only [Sem.run_bind, run_underlying h1, Result.andThen_ok]
  simp only [Std.Legacy.Range.forIn_eq_forIn_range', Std.Legacy.Range.size, Nat.sub_zero, Nat.add_one_sub_one, Nat.div_one]
  have each : ∀ j ∈ List.range' 0 N, ∃ v : Value, (HL l)[j]? = some v ∧ ∃ z, v = .int .u8 z := fun j hj => by
    have hj' : j < l.length := by rw [List.mem_range'_1] at hj; omega
    exact ⟨.int .u8 (Bt l[j]), by simp [HL, hj'], _, rfl⟩
  generalize List.range' 0 N = is at each
  induction is with
  | nil => simp
  | cons j is ih =>
    obtain ⟨v, hv, z, rfl⟩ := each j (by simp)
    have p1 : (part b (HL l).toArray j).run P w = .ok (.int .u8 z) w := run_part_plain w hp (by simpa using hv)
    have p2 : (Instr.checkKey em 9999 b (.int .u8 z)).run P w = .ok () w := by
      rw [show (9999 : Nat) = 9998 + 1 from rfl, Instr.checkKey]
      simp [run_underlying h2]
    have hc : P.cellsOf b = 1 := by simp [Program.cellsOf, h3, h4]
    simp only [List.forIn_cons, Sem.run_bind, run_sizeOf w h3, hc, Nat.mul_one, Result.andThen_ok, p1, p2, Sem.run_pure]
    exact ih fun y hy => each y (by simp [hy])
theorem sameBits_bytes (l : List UInt8) (n : Nat) : Instr.sameBits (n + 1) (.agg (HL l).toArray) (.agg (HL l).toArray) = true := by
  have h : ∀ x ∈ HL l, ∃ z, x = Value.int .u8 z := fun x hx => by
    obtain ⟨z, _, rfl⟩ := List.mem_map.1 hx; exact ⟨_, rfl⟩
  generalize HL l = m at h
  simp only [Instr.sameBits, beq_self_eq_true, Bool.true_and, List.all_eq_true]
  rintro ⟨x, y⟩ hxy
  have h2 : x = y ∧ x ∈ m := by
    clear h
    induction m with
    | nil => simp at hxy
    | cons a m ih =>
      simp at hxy
      rcases hxy with ⟨rfl, rfl⟩ | hxy
      · simp
      · obtain ⟨e1, e2⟩ := ih (by simpa using hxy)
        exact ⟨e1, by simp [e2]⟩
  obtain ⟨rfl, h3⟩ := h2
  obtain ⟨z, rfl⟩ := h x h3
  cases n <;> simp [Instr.sameBits]

/-- where a key stands -/
theorem find_spec {P : Program} {kt : TypeId} {w : World} {N : Nat} (heq : ∀ (x y : List UInt8), x.length = N → y.length = N → ∃ r, (Op.equal kt (.agg (HL x).toArray) (.agg (HL y).toArray)).run P w = .ok r w ∧ (r = true ↔ x = y)) {ks : List UInt8} (hk : ks.length = N) (z : List Seg) (zc : List Value) (hz : ∀ (S : Nat → Prop) (w : World), RL S w z zc) :
    ∀ {es : List MapEntry} {L : List (List UInt8 × List Seg)} (i : Nat), entsOK es L → (∀ x ∈ L, x.1.length = N) →
      ((Instr.findAsking kt (.agg (HL ks).toArray) es i).run P w = .ok none w ∧ hasM L ks = false ∧ getM L ks z = z ∧ ∀ v, putM L ks v = L ++ [(ks, v)]) ∨
      ∃ (j : Nat) (e : MapEntry) (cs : List Value), (Instr.findAsking kt (.agg (HL ks).toArray) es i).run P w = .ok (some (i + j, e.val)) w ∧ es[j]? = some e ∧ e.key = .agg (HL ks).toArray ∧ e.val = .agg cs.toArray ∧ (∀ (S : Nat → Prop) (w : World), RL S w (getM L ks z) cs) ∧ hasM L ks = true ∧
        ∀ (v : List Seg) (vs : List Value) (f : MapEntry → MapEntry), (∀ (S : Nat → Prop) (w : World), RL S w v vs) → (f e).key = .agg (HL ks).toArray → (f e).val = .agg vs.toArray → entsOK (es.modify j f) (putM L ks v)
  | [], [], i, _, _ => .inl ⟨by simp [Instr.findAsking], rfl, rfl, fun v => rfl⟩
  | [], _ :: _, i, h, _ => h.elim
  | _ :: _, [], i, h, _ => h.elim
  | e :: es, x :: L, i, h, hN => by
    obtain ⟨⟨h1, cs, h2, h3⟩, h4⟩ := h
    obtain ⟨r, hr, hiff⟩ := heq ks x.1 hk (hN x (by simp))
    rw [← h1] at hr
    cases r
    · have hne : ¬ x.1 = ks := fun h => by have := hiff.2 h.symm; cases this
      rcases find_spec heq hk z zc hz (i + 1) h4 (fun y hy => hN y (by simp [hy])) with ⟨k1, k2, k3, k4⟩ | ⟨j, e', cs', k1, k2, k3, k4, k5, k6, k7⟩
      · refine .inl ⟨by simp [Instr.findAsking, hr, k1], by simp [hasM, hne, k2], by simp [getM, hne, k3], fun v => by simp [putM, hne, k4 v]⟩
      · refine .inr ⟨j + 1, e', cs', by simp [Instr.findAsking, hr, k1, Nat.add_assoc, Nat.add_comm 1 j], by simpa using k2, k3, k4, by simpa [getM, hne] using k5, by simp [hasM, hne, k6], fun v vs f e1 e2 e3 => ?_⟩
        simp only [putM, hne, if_false]
        exact ⟨⟨h1, cs, h2, h3⟩, k7 v vs f e1 e2 e3⟩
    · obtain rfl := hiff.1 rfl
      refine .inr ⟨0, e, cs, by simp [Instr.findAsking, hr], rfl, h1, h2, by simpa [getM] using h3, by simp [hasM], fun v vs f e1 e2 e3 => ?_⟩
      simp only [putM, if_true]
      exact ⟨⟨e2, vs, e3, e1⟩, h4⟩

theorem run_getObjM {P : Program} {w : World} {r : Nat} {es : Array MapEntry} {c : Nat} (h : w.heap[r]? = some (.map es c)) : (getObj r).run P w = .ok (.map es c) w := by simp [getObj, Sem.run, h]
theorem run_setObjM {P : Program} {w : World} {r : Nat} {es : Array MapEntry} {c : Nat} {o : Obj} (h : w.heap[r]? = some (.map es c)) : (setObj r o).run P w = .ok () { w with heap := w.heap.setIfInBounds r o } := by simp [setObj, Sem.run, h]
theorem entsOK_push : ∀ {es : List MapEntry} {L : List (List UInt8 × List Seg)} {e : MapEntry} {x : List UInt8 × List Seg}, entsOK es L → entOK e x → entsOK (es ++ [e]) (L ++ [x])
  | [], [], _, _, _, k => ⟨k, trivial⟩
  | [], _ :: _, _, _, h, _ => h.elim
  | _ :: _, [], _, _, h, _ => h.elim
  | _ :: _, _ :: _, _, _, h, k => ⟨h.1, entsOK_push h.2 k⟩
theorem putM_len {N : Nat} {ks : List UInt8} {v : List Seg} (hk : ks.length = N) : ∀ {L : List (List UInt8 × List Seg)}, (∀ x ∈ L, x.1.length = N) → ∀ x ∈ putM L ks v, x.1.length = N
  | [], h, x, hx => by simp [putM] at hx; rw [hx]; exact hk
  | y :: L, h, x, hx => by
    unfold putM at hx
    split at hx
    · rcases List.mem_cons.1 hx with rfl | hx
      · exact hk
      · exact h x (by simp [hx])
    · rcases List.mem_cons.1 hx with rfl | hx
      · exact h _ (by simp)
      · exact putM_len hk (fun y hy => h y (by simp [hy])) x hx
/-- plain cells read so in every world -/
theorem RL.any {S : Nat → Prop} {w : World} : ∀ {l z : List Seg} {cs : List Value}, sameKind l z = true → RL S w l cs → ∀ (S' : Nat → Prop) (w' : World), RL S' w' l cs
  | [], _, _, _, h, S', w' => by rw [h.nil_inv]; exact .nil
  | .ints _ _ _ :: l, .ints _ _ _ :: z, _, k, .ints h1 r, S', w' => by
    simp only [sameKind, Bool.and_eq_true] at k
    exact .ints h1 (r.any k.2 S' w')
  | .bytes _ _ :: l, .bytes _ _ :: z, _, k, .bytes h1 r, S', w' => by
    simp only [sameKind, Bool.and_eq_true] at k
    exact .bytes h1 (r.any k.2 S' w')
  | .bools _ _ :: l, .bools _ _ :: z, _, k, .bools h1 r, S', w' => by
    simp only [sameKind, Bool.and_eq_true] at k
    exact .bools h1 (r.any k.2 S' w')
  | .ints _ _ _ :: l, [], _, k, _, _, _ => by cases k
  | .bytes _ _ :: l, [], _, k, _, _, _ => by cases k
  | .bools _ _ :: l, [], _, k, _, _, _ => by cases k
  | .gen _ _ :: l, z, _, k, _, _, _ => by cases z <;> cases k
  | .ints _ _ _ :: l, .bytes _ _ :: z, _, k, _, _, _ => by cases k
  | .ints _ _ _ :: l, .bools _ _ :: z, _, k, _, _, _ => by cases k
  | .ints _ _ _ :: l, .gen _ _ :: z, _, k, _, _, _ => by cases k
  | .bytes _ _ :: l, .ints _ _ _ :: z, _, k, _, _, _ => by cases k
  | .bytes _ _ :: l, .bools _ _ :: z, _, k, _, _, _ => by cases k
  | .bytes _ _ :: l, .gen _ _ :: z, _, k, _, _, _ => by cases k
  | .bools _ _ :: l, .ints _ _ _ :: z, _, k, _, _, _ => by cases k
  | .bools _ _ :: l, .bytes _ _ :: z, _, k, _, _, _ => by cases k
  | .bools _ _ :: l, .gen _ _ :: z, _, k, _, _, _ => by cases k

section
variable {E : EnvX} {o : Oper} {s : St} {fr : Nat}

theorem ok_makeMap {t : TypeId} {n : Nat} (ho : o.op = .makeMap t none) : OpOK E o s fr (.mp fr) (some (fr, .abs (mapOP n []))) := by
  refine ⟨fun b hb => .inl ⟨by simpa [T.refs] using hb, _, rfl⟩, fun b y e => by cases e; exact .inl rfl, fun S base w0 s' ρ a w K Q hs g hf hlt hK => ?_⟩
  have hρ : ρ fr = none := by have := g.b fr; rw [hf] at this; exact this
  have hrun : (execOp a.eval o).run E.P w = .ok (.value (.map (some w.heap.size))) (w.alloc (.map #[] 0)) := by
    simp [execOp, ho, Instr.makeMap, Sem.run_bind]
  unfold Oper.wp
  rw [hrun]
  have g2 := g.change fr hlt (fpv [w.heap.size]) (.abs (mapOP n [])) none (w' := w.alloc (.map #[] 0)) ⟨rfl, rfl, rfl, by rw [size_alloc]; omega, fun k hk _ => Below.heap_alloc _ _ _ hk⟩ (by simp) (fun r hr => by
      have := rl_fpv.1 hr
      simp at this; subst this
      exact ⟨.inl (Nat.le_refl _), by rw [size_alloc]; omega⟩) (fun _ => ⟨w.heap.size, [], by simp [upd], fun q hq => by simp at hq; subst hq; rw [size_alloc]; omega, ⟨⟨#[], 0, by simp only [hres, List.mem_singleton, if_true]; exact heap_alloc_new _ _, trivial⟩, by simp⟩⟩) (fun _ i hi hm => absurd hf (g.dang i fr hm)) (fun q hq => by rw [hρ] at hq; cases hq)
  refine hK _ _ _ (g2.put' o.dst (t := .mp fr) ?_ ?_)
  · intro u hu
    simp [upd] at hu
    exact ⟨w.heap.size, [], hu.symm, rfl⟩
  · intro b hb
    simp [T.refs] at hb
    subst hb
    simp [St.bk, getD_set_list, hlt]

/-- what a map's slot speaks of -/
theorem map_at {base : Nat} {G : Nat → Option (List Seg)} {S : Nat → Prop} {w0 : W0 G} {s' : St} {ρ : Nat → Option Value} {a : Act} {w : World} {b n : Nat} {L : List (List UInt8 × List Seg)} {v : Value} (g : Good S base w0 s' ρ a w) (hb : s'.bk b = some (.abs (mapOP n L))) (hv : RT (Dt S base ρ) ρ w (.mp b) v) :
    ∃ r F es c, ρ b = some (fpv (r :: F)) ∧ v = .map (some r) ∧ (∀ q ∈ r :: F, q < w.heap.size) ∧ w.heap[r]? = some (.map es c) ∧ entsOK es.toList L ∧ ∀ x ∈ L, x.1.length = n := by
  have hB := g.b b
  rw [hb] at hB
  obtain ⟨r, F, h1, h2, ⟨es, c, h3, h4⟩, h5⟩ := hB
  obtain ⟨r', F', e1, e2⟩ := hv _ h1
  obtain rfl := fpv_head e1
  refine ⟨r, F, es, c, h1, e2, h2, ?_, h4, h5⟩
  simpa [hres] using h3

theorem ok_lookup {t e : TypeId} {m x : Operand} {b n : Nat} {ks : List UInt8} {L : List (List UInt8 × List Seg)} {j : TI} (ho : o.op = .lookup t m x true) (hm : MapT E.P t n e) (hY : E.Y e = some j) (ha : j.agg = true) (h1 : s.ev m = .mp b) (h2 : s.ev x = .d (.agg [.bytes n ks])) (hb : s.bk b = some (.abs (mapOP n L))) :
    OpOK E o s fr (.tup [.agg (getM L ks j.zero), .v (.bool (hasM L ks))]) none := by
  have hmm : m ∈ o.op.operands := by rw [ho]; simp [Op.operands]
  have hmx : x ∈ o.op.operands := by rw [ho]; simp [Op.operands]
  refine .pure (fun b hb => by simp [T.refs] at hb) fun S base w0 s' ρ a w hs g => ?_
  obtain ⟨kt, bt, k1, k2, k3, ⟨i, k4, k5⟩, k6, heq⟩ := hm
  obtain ⟨r, F, es, c, _, hv, _, hr, hL, hN⟩ := map_at g ((hs.bk hmm (by simp [looks, ho]) (by rw [h1]; simp [T.refs])).trans hb) (evData hs g hmm h1)
  have hx := evData hs g hmx h2
  generalize hu : a.eval x = u at hx
  cases hx with
  | agg hx =>
    rename_i cs
    obtain ⟨hl, rfl⟩ := hx.toBytes
    have hE := E.hY e j hY
    obtain ⟨f, z, i1, _, _, i2, i3⟩ := hE.info
    obtain ⟨f', zs, i4, i5⟩ := k6
    rw [i1] at i4; cases i4
    rw [i2] at i5; cases i5
    have zz : (zeroValue e).run E.P w = .ok (.agg zs) w := by simp [zeroValue, typeInfo, i1, i2, Sem.run_bind]
    have hz : ∀ (S : Nat → Prop) (w : World), RL S w j.zero zs.toList := fun S w => zeroB_spec i3
    have hg : ∀ (u : Value) (q : Nat × Value), True := fun _ _ => trivial
    have hck := run_checkKey_arr k2 k3 k4 k5 es.isEmpty w ks hl
    have hfk : (Instr.findKey kt (.agg (HL ks).toArray) es.toList).run E.P w = (Instr.findAsking kt (.agg (HL ks).toArray) es.toList).run E.P w := run_findKey_eq w (by rw [k2]) _ _
    rcases find_spec (P := E.P) (kt := kt) (w := w) (fun x y hx hy => heq w x y hx hy) hl j.zero zs.toList hz 0 hL hN with ⟨q1, q2, q3, _⟩ | ⟨p, e', cs', q1, _, _, q4, q5, q6, _⟩
    · refine ⟨.tuple #[.agg zs, .bool false], ?_, _, rfl, .cons (by rw [q3]; exact .agg (hz _ _)) (.cons (by rw [q2]; exact .v _) .nil)⟩
      simp only [execOp, ho, hv, hu, Instr.lookup, Sem.run_bind, run_underlying k1, Result.andThen_ok, run_getObjM hr, hck, hfk, q1, zz, Sem.run_pure]
      rfl
    · refine ⟨.tuple #[.agg cs'.toArray, .bool true], ?_, _, rfl, .cons (.agg (q5 _ _)) (.cons (by rw [q6]; exact .v _) .nil)⟩
      simp only [execOp, ho, hv, hu, Instr.lookup, Sem.run_bind, run_underlying k1, Result.andThen_ok, run_getObjM hr, hck, hfk, q1, q4, Sem.run_pure]
      rfl

theorem ok_mapUpdate {t e : TypeId} {m x y : Operand} {b n : Nat} {ks : List UInt8} {l z : List Seg} {L : List (List UInt8 × List Seg)} (ho : o.op = .mapUpdate t m x y) (hm : MapT E.P t n e) (h1 : s.ev m = .mp b) (h2 : s.ev x = .d (.agg [.bytes n ks])) (h3 : s.ev y = .d (.agg l)) (hk : sameKind l z = true) (hb : s.bk b = some (.abs (mapOP n L))) :
    OpOK E o s fr (.d (.v undef)) (some (b, .abs (mapOP n (putM L ks l)))) := by
  have hmm : m ∈ o.op.operands := by rw [ho]; simp [Op.operands]
  have hmx : x ∈ o.op.operands := by rw [ho]; simp [Op.operands]
  have hmy : y ∈ o.op.operands := by rw [ho]; simp [Op.operands]
  refine ⟨fun b' hb' => by simp [T.refs] at hb', fun b' x e => by cases e; exact .inr ⟨m, hmm, by rw [h1]; simp [T.refs]⟩, fun S base w0 s' ρ a w K Q hs g hf hlt hK => ?_⟩
  obtain ⟨kt, bt, k1, k2, k3, ⟨i, k4, k5⟩, k6, heq⟩ := hm
  have hbk := (hs.bk hmm (by simp [looks, ho]) (by rw [h1]; simp [T.refs])).trans hb
  obtain ⟨r, F, es, c, hρ, hv, hlt2, hr, hL, hN⟩ := map_at g hbk (evData hs g hmm h1)
  have hx := evData hs g hmx h2
  generalize hu : a.eval x = u at hx
  have hy := evData hs g hmy h3
  generalize hu2 : a.eval y = u2 at hy
  cases hx with
  | agg hx =>
    cases hy with
    | agg hy =>
      rename_i cs vs
      obtain ⟨hl, rfl⟩ := hx.toBytes
      have hv2 := hy.any hk
      have hck := run_checkKey_arr k2 k3 k4 k5 false w ks hl
      have hfk : (Instr.findKey kt (.agg (HL ks).toArray) es.toList).run E.P w = (Instr.findAsking kt (.agg (HL ks).toArray) es.toList).run E.P w := run_findKey_eq w (by rw [k2]) _ _
      obtain ⟨es', c', hrun, hes⟩ : ∃ es' c', (Instr.mapUpdate t (.map (some r)) (.agg (HL ks).toArray) (.agg vs.toArray)).run E.P w = .ok () { w with heap := w.heap.setIfInBounds r (.map es' c') } ∧ entsOK es'.toList (putM L ks l) := by
        rcases find_spec (P := E.P) (kt := kt) (w := w) (fun x y hx hy => heq w x y hx hy) hl l vs hv2 0 hL hN with ⟨q1, _, _, q4⟩ | ⟨p, e', cs', q1, q2, q3, q4, _, _, q7⟩
        · refine ⟨es.push { key := .agg (HL ks).toArray, val := .agg vs.toArray, born := c }, c + 1, ?_, ?_⟩
          · simp only [Instr.mapUpdate, Sem.run_bind, run_underlying k1, Result.andThen_ok, run_getObjM hr, hck, hfk, q1]
            exact run_setObjM hr
          · rw [Array.toList_push, q4]
            exact entsOK_push hL ⟨rfl, vs, rfl, hv2⟩
        · refine ⟨es.modify (0 + p) fun e => { e with key := .agg (HL ks).toArray, val := .agg vs.toArray }, c, ?_, ?_⟩
          · have hst : (Instr.keyThatStays (.agg (HL ks).toArray) (.agg (HL ks).toArray)).run E.P w = .ok (.agg (HL ks).toArray) w := by
              simp [Instr.keyThatStays, sameBits_bytes ks 9999]
            have hget : ((es[0 + p]?).map (·.key)).getD (.agg (HL ks).toArray) = .agg (HL ks).toArray := by
              have : es[0 + p]? = some e' := by rw [Nat.zero_add, ← Array.getElem?_toList]; exact q2
              rw [this]; simp [q3]
            simp only [Instr.mapUpdate, Sem.run_bind, run_underlying k1, Result.andThen_ok, run_getObjM hr, hck, hfk, q1, hget, hst]
            exact run_setObjM hr
          · rw [Array.toList_modify, Nat.zero_add]
            exact q7 l vs _ hv2 rfl rfl
      have hrl : r < w.heap.size := hlt2 r (by simp)
      have hX : GrownX (fun q => q = r) w { w with heap := w.heap.setIfInBounds r (.map es' c') } := ⟨rfl, rfl, rfl, by simp, fun k hk hn => by
        show (w.heap.setIfInBounds r _)[k]? = _
        rw [Array.getElem?_setIfInBounds_ne (Ne.symm hn)]⟩
      have hbl := bk_lt hbk
      have hb0 : St.bk ⟨s'.t, s'.h.set b (some (.abs (mapOP n (putM L ks l))))⟩ b = some (.abs (mapOP n (putM L ks l))) := by simp [St.bk, hbl]
      have g2 : Good S base w0 ⟨s'.t, s'.h.set b (some (.abs (mapOP n (putM L ks l))))⟩ ρ a { w with heap := w.heap.setIfInBounds r (.map es' c') } := by
        refine g.step ρ _ (fun q => q = r) (fun b' => b' = b) hX (fun b' hb' => ⟨rfl, ?_⟩) (fun z hz => ⟨b, _, rfl, hρ, rl_fpv.2 (by rw [hz]; simp)⟩) (fun b' u z hb' h1 h2 => ?_) (fun b' b'' _ _ _ h1 h2 _ _ _ _ => h1.trans h2.symm) (fun K b' hb' => ?_) (fun K i hi hm => (g.t i hi).up K fun _ _ => rfl) (fun b' hb' => ?_) (fun _ hz => hz)
        · simp only [St.bk, getD_set_list]; rw [if_neg (fun e => hb' e.1.symm)]
        · exact ⟨.inr ⟨u, h1, h2⟩, by have := (g.low b' u z h1 h2).2; simpa using this⟩
        · subst hb'; rw [hb0]
          refine ⟨r, F, hρ, fun q hq => by have := hlt2 q hq; simpa using this, ⟨es', c', ?_, hes⟩, putM_len hl hN⟩
          simp [hres, hrl]
        · subst hb'; rw [hb0]; simp
      unfold Oper.wp
      have : (execOp a.eval o).run E.P w = .ok .skip { w with heap := w.heap.setIfInBounds r (.map es' c') } := by
        simp only [execOp, ho, hv, hu, hu2, Sem.run_bind, hrun, Result.andThen_ok, Sem.run_pure]
      rw [this]
      exact hK _ _ _ (g2.put' o.dst (t := .d (.v undef)) (.v undef) (by simp [T.refs]))
end
end Go.Proofs.Ytanpamcecaoanaa

/-
  Calls; all operations of the machine without memory are the program's. No program is named here.
-/
namespace Go.Proofs.Ytanpamcecaoanaa
set_option maxRecDepth 100000
open Go.RowKit
set_option linter.unusedVariables false
set_option linter.unusedSimpArgs false

section
variable {E : EnvX} {o : Oper} {s : St} {fr : Nat}

theorem exec_call {a : Act} {w : World} {c : Call} {y : Operand} {f : FuncId} {fn : Func} (ho : o.op = .call c) (hc : c.callee = .value y) (hy : a.eval y = .func (.func f) #[] #[]) (hf : E.P.funcs[f]? = some fn) (hb : fn.body.isNone = false) (hn : (fn.name == "runtime.NumGoroutine") = false) :
    (execOp a.eval o).run E.P w = .ok (.enter f (c.args.toList.map a.eval).toArray) w := by
  have e : (c.args.toList.map a.eval).toArray = c.args.map a.eval := by
    apply Array.ext'; simp
  rw [e]
  simp only [execOp, ho, resolve, hc, hy, Deferred.ofValue, Sem.run_bind, Sem.run_pure, Result.andThen_ok, invoke, callFunc, run_program, hf, hb, hn]
  simp

theorem ok_lenStr {t : TypeId} {x : Operand} {c : Call} {b : ByteArray} (ho : o.op = .call c) (hc : c.callee = .builtin .len) (ha : c.args.toList = [x]) (ht : c.argTypes.toList = [t])
    (hu : E.P.underlying t = some .string) (hx : s.ev x = .d (.v (.string b))) : OpOK E o s fr (.d (.v (.int .i64 b.size))) none := by
  have hca : c.args = #[x] := by cases hq : c.args; simp_all
  have hct : c.argTypes = #[t] := by cases hq : c.argTypes; simp_all
  have hm : x ∈ o.op.operands := by rw [ho]; simp [Op.operands, Call.operands, hc, hca]
  refine .pure (fun b hb => by simp [T.refs] at hb) fun S base w0 s' ρ a w hs g => ⟨_, ?_, .v _⟩
  have hv : a.eval x = .string b := evPlain hs g hm hx
  simp [execOp, ho, resolve, hc, hca, hct, invoke, builtin, Builtin.len_, hv, Sem.run_bind, run_underlying hu w, goInt]
theorem oneOwn_spec {l : List T} {b : Nat} (h : oneOwn l = some b) : (∀ t ∈ l, ∀ c ∈ t.refs, c = b) ∧ ∃ t ∈ l, b ∈ t.refs := by
  unfold oneOwn at h
  split at h
  · next c r e =>
    split at h
    · next hr =>
      cases h
      rw [List.all_eq_true] at hr
      refine ⟨fun t ht d hd => ?_, ?_⟩
      · have hm : d ∈ l.flatMap T.refs := List.mem_flatMap.2 ⟨t, ht, hd⟩
        rw [e] at hm
        rcases List.mem_cons.1 hm with hm | hm
        · exact hm
        · simpa using hr d hm
      · have hm : b ∈ l.flatMap T.refs := by rw [e]; exact List.mem_cons_self
        obtain ⟨t, ht, hd⟩ := List.mem_flatMap.1 hm
        exact ⟨t, ht, hd⟩
    · cases h
  · cases h
/-- a slot that speaks of a slice that is one's own no more -/
theorem RT.gone {D D' : Nat → Prop} {ρ ρ' : Nat → Option Value} {w w' : World} (K : Keeps D w D' w') {b : Nat} {ad : Option Addr} {N c : Nat} (hu : ρ b = some (.slice ad N c)) (hρ : ∀ b', b' ≠ b → ρ' b' = ρ b') (h0 : ρ' b = some (.slice none (N + 1) 0)) {t : T} {v : Value} (h : RT D ρ w t v) : RT D' ρ' w' t v := by
  have other : ∀ {t : T}, (∀ b' ∈ t.refs, b' ≠ b) → RT D ρ w t v → RT D' ρ' w' t v := fun hn h => h.up K fun b' hb' => hρ b' (hn b' hb')
  cases t with
  | d a => exact other (by simp [T.refs]) h
  | tup l => exact other (by simp [T.refs]) h
  | dead => trivial
  | ptr b' base =>
    by_cases e : b' = b
    · subst e; obtain ⟨r, h1, _⟩ := h _ hu; exact h1.slice.elim
    · exact other (by simp [T.refs, e]) h
  | pti b' base rel =>
    by_cases e : b' = b
    · subst e; obtain ⟨r, h1, _⟩ := h _ hu; exact h1.slice.elim
    · exact other (by simp [T.refs, e]) h
  | win b' base n =>
    by_cases e : b' = b
    · subst e; obtain ⟨r, c', h1, _⟩ := h _ hu; exact h1.slice.elim
    · exact other (by simp [T.refs, e]) h
  | ob b' =>
    by_cases e : b' = b
    · subst e; obtain ⟨r, F, h1, _⟩ := h _ hu; exact (fpv_no.2 _ _ _ h1.symm).elim
    · exact other (by simp [T.refs, e]) h
  | mp b' =>
    by_cases e : b' = b
    · subst e; obtain ⟨r, F, h1, _⟩ := h _ hu; exact (fpv_no.2 _ _ _ h1.symm).elim
    · exact other (by simp [T.refs, e]) h
  | bxp b' c' =>
    by_cases e : b' = b
    · subst e; obtain ⟨r, h1, _⟩ := h _ hu; exact h1.slice.elim
    · intro u hu'; rw [hρ b' e] at hu'; exact h u hu'
  | hsl b' n =>
    by_cases e : b' = b
    · subst e
      rcases h _ hu with ⟨r, a, n', c', h1, _⟩ | ⟨r, h1⟩
      · exact (uvh_no.2 _ _ _ h1.symm).elim
      · cases h1
    · exact other (by simp [T.refs, e]) h
  | own b' n =>
    by_cases e : b' = b
    · subst e
      intro u hu'
      obtain ⟨a, n', c', h1, h2, _⟩ := h _ hu
      cases h1
      rw [h0] at hu'; cases hu'
      exact ⟨none, N + 1, 0, rfl, by omega, fun e => by omega⟩
    · exact other (by simp [T.refs, e]) h
  | ept b' n off =>
    by_cases e : b' = b
    · subst e
      intro u hu'
      obtain ⟨a, n', c', h1, h2, _⟩ := h _ hu
      cases h1
      rw [h0] at hu'; cases hu'
      exact ⟨none, N + 1, 0, rfl, by omega, fun e => by omega⟩
    · exact other (by simp [T.refs, e]) h
  | pre b' n m =>
    by_cases e : b' = b
    · subst e
      intro u hu'
      obtain ⟨a, n', c', h1, h2, _⟩ := h _ hu
      cases h1
      rw [h0] at hu'; cases hu'
      exact ⟨none, N + 1, 0, rfl, by omega, fun e => by omega⟩
    · exact other (by simp [T.refs, e]) h
  | rows l =>
    obtain ⟨vs, h1, h2⟩ := h
    refine ⟨vs, h1.map fun p hp x hx => ?_, h2.up K⟩
    cases p with
    | dat a => exact RA.up K hx
    | own b' n =>
      by_cases e : b' = b
      · subst e
        intro u hu'
        obtain ⟨a, n', c', h1, h2, _⟩ := hx _ hu
        cases h1
        rw [h0] at hu'; cases hu'
        exact ⟨none, N + 1, 0, rfl, by omega, fun e => by omega⟩
      · exact RP.up K (by simp [Pt.refs]; exact hρ b' e) hx
    | win b' base n =>
      by_cases e : b' = b
      · subst e; obtain ⟨r, c', h1, _⟩ := hx _ hu; exact h1.slice.elim
      · exact RP.up K (by simp [Pt.refs]; exact hρ b' e) hx
/-- a call to which a slice of one's own goes over -/
theorem ok_callGone {c : Call} {y : Operand} {f : FuncId} (ho : o.op = .call c) (hc : c.callee = .value y) (hy : s.ev y = .d (.v (.func (.func f) #[] #[]))) {ds : List A} {lent : Bool} (hC : ∃ fn, E.P.funcs[f]? = some fn ∧ fn.body.isNone = false ∧ (fn.name == "runtime.NumGoroutine") = false)
    (hargs : ∀ (S : Nat → Prop) (base : Nat) (w0 : W0 E.G) (s' : St) (ρ : Nat → Option Value) (a : Act) (w : World), (∀ x ∈ c.args.toList, s'.ev x = s.ev x ∧ ∀ b ∈ (s.ev x).refs, s'.bk b = s.bk b) → Good S base w0 s' ρ a w →
      (∀ D' : Nat → Prop, (∀ q, Dt S base ρ q → D' q) → (∀ x ∈ c.args.toList, ∀ b ∈ (s.ev x).refs, ∀ u q, ρ b = some u → Rl u q → D' q) → RAs D' w ds (c.args.toList.map a.eval)) ∧ (lent = false → RAs (Dt S base ρ) w ds (c.args.toList.map a.eval)))
    {r : Res} (hok : FnOK E.P E.G f ds r) {b n sz : Nat} {e : TypeId} {l : List Seg} (hown : oneOwn (c.args.toList.map s.ev) = some b) (hb : s.bk b = some (.sl e sz n l)) {t : T} (ht : t.refs = [])
    (hres : ∀ {D : Nat → Prop} {ρ : Nat → Option Value} {B : Nat} {w : World} {v : Value}, RR D B w r v → (∀ q, B ≤ q → q < w.heap.size → D q) → RT D ρ w t v) (hRup : ∀ {D D' : Nat → Prop} {ρ : Nat → Option Value} {w w' : World} {v : Value}, Keeps D w D' w' → RT D ρ w t v → RT D' ρ w' t v) : OpOK E o s fr t (some (b, .gone)) := by
  obtain ⟨fn, hf, hbd, hn⟩ := hC
  obtain ⟨hall, t0, ht0, hbt⟩ := oneOwn_spec hown
  obtain ⟨x0, hx0, rfl⟩ := List.mem_map.1 ht0
  have hmem : ∀ x ∈ c.args.toList, x ∈ o.op.operands := fun x hx => by rw [ho]; simp only [Op.operands, Call.operands, Array.mem_append]; right; simpa using hx
  have hmy : y ∈ o.op.operands := by rw [ho]; simp [Op.operands, Call.operands, hc]
  have hlk : looks o = true := by simp [looks, ho]
  refine ⟨fun b' hb' => by rw [ht] at hb'; simp at hb', fun b' x e => by cases e; exact .inr ⟨x0, hmem _ hx0, hbt⟩, fun S base w0 s' ρ a w K Q hs g hfr hlt hK => ?_⟩
  have hbk : s'.bk b = some (.sl e sz n l) := (hs.bk (hmem _ hx0) hlk hbt).trans hb
  have hB := g.b b
  rw [hbk] at hB
  obtain ⟨u, ms, h1, h4, h5⟩ := hB
  obtain ⟨ad, cc, hform⟩ := ownsRow_form h4
  have hu1 : ρ b = some (.slice ad n cc) := by rw [h1, hform]
  have hnil : ∀ q, ¬ Rl (.slice none (n + 1) 0) q := fun q h => h
  obtain ⟨ρ', hρ'⟩ : ∃ ρ', ρ' = upd ρ b (some (.slice none (n + 1) 0)) := ⟨_, rfl⟩
  have hu : ∀ b', b' ≠ b → ρ' b' = ρ b' := fun b' hb' => by simp [hρ', upd, hb']
  have hu0 : ρ' b = some (.slice none (n + 1) 0) := by simp [hρ', upd]
  have hD : ∀ z, Dt S base ρ z → Dt S base ρ' z := fun z hz => ⟨hz.1, fun b' v hb' hv => by
    by_cases e : b' = b
    · subst e; rw [hu0] at hb'; cases hb'; exact hnil _ hv
    · rw [hu b' e] at hb'; exact hz.2 b' v hb' hv⟩
  have hO : ∀ z, Rl u z → Dt S base ρ' z := fun z hz => ⟨.inr (ownsRow_real h4 hz).1, fun b' v hb' hv => by
    by_cases e : b' = b
    · subst e; rw [hu0] at hb'; cases hb'; exact hnil _ hv
    · rw [hu b' e] at hb'; exact e (g.inj b' b v u z hb' h1 hv hz)⟩
  obtain ⟨a1, _⟩ := hargs S base w0 s' ρ a w (fun x hx => ⟨(hs x (hmem x hx)).1, fun b hb => hs.bk (hmem x hx) hlk hb⟩) g
  unfold Oper.wp
  rw [exec_call ho hc (evPlain hs g hmy hy) hf hbd hn, Oper.upon_enter]
  refine (hok (Dt S base ρ') w _ (g.glob.up (toKeeps hD)) (a1 _ hD (fun x hx b' hb' u' z hu' hz => ?_))).mono ?_
  · obtain rfl := hall _ (List.mem_map.2 ⟨x, hx, rfl⟩) b' hb'
    rw [h1] at hu'; cases hu'
    exact hO z hz
  rintro e' w' ⟨v, rfl, hr, hbel⟩
  have hgr : w.grownBy w' none := ⟨hbel.os, hbel.tape, hbel.output, hbel.size, fun k hk _ => hbel.block k hk⟩
  have g2 := g.change b (bk_lt hbk) (.slice none (n + 1) 0) .gone none hgr (by simp) (fun r hr => (hnil r hr).elim) (fun _ => ⟨n + 1, by simp [upd]⟩) (fun K0 i hi hm => RT.gone K0 hu1 (fun b' hb' => by simp [upd, hb']) (by simp [upd]) (g.t i hi)) (fun q hq => by rw [hu1] at hq; cases hq)
  rw [← hρ'] at g2
  have hnew : ∀ q, w.heap.size ≤ q → Dt S base ρ' q := fun q hq => ⟨.inr (Nat.le_trans g.size hq), fun b' v hb' hv => by
    by_cases e : b' = b
    · subst e; rw [hu0] at hb'; cases hb'; exact hnil _ hv
    · rw [hu b' e] at hb'; have := (g.low b' v q hb' hv).2; omega⟩
  exact hK _ _ _ (g2.put' o.dst (t := t) (hres (ρ := ρ') hr fun q hq _ => hnew q hq) (by rw [ht]; simp))
theorem ok_call {c : Call} {y : Operand} {f : FuncId} {k : KO} (ho : o.op = .call c) (hc : c.callee = .value y) (hy : s.ev y = .d (.v (.func (.func f) #[] #[])))
    (h : argK s (c.args.toList.map s.ev) fun l lent => E.C f l fun r => callK (lent && !(flatRes r || E.fr f)) (oneOwn (c.args.toList.map s.ev)) s fr k r) : ∃ t blk, k t blk ∧ OpOK E o s fr t blk := by
  obtain ⟨ds, lent, hC, hargs⟩ := argK_spec h
  have hthere := E.hF _ _ _ hC
  obtain ⟨fn, hf, hb, hn⟩ := hthere
  obtain ⟨r, hok, hnew, hcall⟩ : ∃ r, FnOK E.P E.G f ds r ∧ (E.fr f = true → FnF E.P E.G f ds r) ∧ callK (lent && !(flatRes r || E.fr f)) (oneOwn (c.args.toList.map s.ev)) s fr k r := by
    by_cases hf0 : E.fr f = true
    · obtain ⟨r, h1, h2, h3⟩ := E.hfr _ _ _ hf0 hC
      exact ⟨r, h1, fun _ => h2, h3⟩
    · obtain ⟨r, h1, h3⟩ := E.hC _ _ _ hC
      exact ⟨r, h1, fun h => absurd h hf0, h3⟩
  cases hbad0 : (lent && !(flatRes r || E.fr f)) with
  | true =>
    rw [hbad0] at hcall
    simp only [callK] at hcall
    split at hcall
    · next b hown =>
      split at hcall
      · next e sz n l hbk =>
        split at hcall
        · next x =>
          exact ⟨_, _, hcall, ok_callGone ho hc hy ⟨fn, hf, hb, hn⟩ hargs hok hown hbk rfl (fun {D ρ B w v} hr hq => RA.up (w' := w) ⟨Nat.le_refl _, fun q hl hs => ⟨hs.elim id fun h => hq q h hl, fun _ => rfl⟩⟩ hr) (fun K h => RA.up K h)⟩
        · next l =>
          exact ⟨_, _, hcall, ok_callGone ho hc hy ⟨fn, hf, hb, hn⟩ hargs hok hown hbk rfl (fun {D ρ B w v} hr hq => by
            obtain ⟨vs, h1, h2⟩ := hr
            exact ⟨vs, h1, RAs.up (w' := w) ⟨Nat.le_refl _, fun q hl hs => ⟨hs.elim id fun h => hq q h hl, fun _ => rfl⟩⟩ h2⟩) (fun K h => by obtain ⟨vs, h1, h2⟩ := h; exact ⟨vs, h1, h2.up K⟩)⟩
        · exact hcall.elim
      · exact hcall.elim
    · exact hcall.elim
  | false =>
  rw [hbad0] at hcall
  have hk : resK fr k r := hcall
  have hflat0 : lent = true → (flatRes r || E.fr f) = true := fun h => by
    rw [h, Bool.true_and] at hbad0
    cases hx : (flatRes r || E.fr f) with
    | true => rfl
    | false => rw [hx] at hbad0; cases hbad0
  obtain ⟨bad, hbad⟩ : ∃ bad, bad = (lent && !E.fr f) := ⟨_, rfl⟩
  have hflat : bad = true → flatRes r = true := fun h => by
    rw [hbad, Bool.and_eq_true] at h
    have h2 := hflat0 h.1
    have h3 : E.fr f = false := by simpa using h.2
    rw [h3, Bool.or_false] at h2
    exact h2
  have hmem : ∀ x ∈ c.args.toList, x ∈ o.op.operands := fun x hx => by rw [ho]; simp only [Op.operands, Call.operands, Array.mem_append]; right; simpa using hx
  have hmy : y ∈ o.op.operands := by rw [ho]; simp [Op.operands, Call.operands, hc]
  -- the call asx it runs, to a value in a later world
  have run : ∀ (S : Nat → Prop) (base : Nat) (w0 : W0 E.G) (s' : St) (ρ : Nat → Option Value) (a : Act) (w : World) (K : Act → World → Prop) (Q : Exit → Act → World → Prop),
      Same o s s' → Good S base w0 s' ρ a w → (∀ v w', Below w.heap.size w w' → (∃ S0, RR S0 w.heap.size w' r v ∧ (bad = false → ∀ q, S0 q → Dt S base ρ q)) → K (a.put o.dst v) w') → o.wp E.P a w K Q := by
    intro S base w0 s' ρ a w K Q hs g hK
    obtain ⟨h1, h2⟩ := hargs S base w0 s' ρ a w (fun x hx => ⟨(hs x (hmem x hx)).1, fun b hb => hs.bk (hmem x hx) (by simp [looks, ho]) hb⟩) g
    unfold Oper.wp
    rw [exec_call ho hc (evPlain hs g hmy hy) hf hb hn, Oper.upon_enter]
    cases hf0 : E.fr f with
    | true =>
      refine (hnew hf0 (fun _ => True) w _ (g.glob.up anyKeeps) (h1 _ (fun _ _ => trivial) (fun _ _ _ _ _ _ _ _ => trivial))).mono ?_
      rintro e w' ⟨v, rfl, h3, h4⟩
      exact hK v w' h4 ⟨_, h3, fun _ q hq => hq.elim⟩
    | false =>
      cases hl : lent with
      | true =>
        refine (hok (fun _ => True) w _ (g.glob.up anyKeeps) (h1 _ (fun _ _ => trivial) (fun _ _ _ _ _ _ _ _ => trivial))).mono ?_
        rintro e w' ⟨v, rfl, h3, h4⟩
        exact hK v w' h4 ⟨_, h3, fun e => by rw [hbad, hl, hf0] at e; cases e⟩
      | false =>
        refine (hok (Dt S base ρ) w _ g.glob (h2 hl)).mono ?_
        rintro e w' ⟨v, rfl, h3, h4⟩
        exact hK v w' h4 ⟨_, h3, fun _ q hq => hq⟩
  have grown : ∀ {w w' : World}, Below w.heap.size w w' → w.grownBy w' none := fun h => ⟨h.os, h.tape, h.output, h.size, fun k hk _ => h.block k hk⟩
  -- where the answer may lie
  have lies : ∀ {S : Nat → Prop} {base : Nat} {w0 : W0 E.G} {s' : St} {ρ : Nat → Option Value} {a : Act} {w w' : World} {S0 : Nat → Prop}, Good S base w0 s' ρ a w → (∀ q, S0 q → Dt S base ρ q) → Keeps (fun q => S0 q ∨ w.heap.size ≤ q) w' (Dt S base ρ) w' :=
    fun {S base w0 s' ρ a w w' S0} g h0 => ⟨Nat.le_refl _, fun q hq hs => ⟨by
      rcases hs with hs | hs
      · exact h0 q hs
      · exact ⟨.inr (Nat.le_trans g.size hs), fun b u hb hu => by have := (g.low b u q hb hu).2; omega⟩, fun _ => rfl⟩⟩
  cases r with
  | d x =>
    refine ⟨.d x, none, hk, fun b hb => by simp [T.refs] at hb, fun b x e => (by cases e), fun S base w0 s' ρ a w K Q hs g _ _ hK => ?_⟩
    refine run S base w0 s' ρ a w K Q hs g fun v w' hbel ⟨S0, hr, h0⟩ => ?_
    obtain ⟨g2, k2⟩ := g.grow (grown hbel)
    refine hK _ _ ρ (g2.put' o.dst (t := .d x) ?_ (by simp [T.refs]))
    cases hl : bad with
    | true => exact flat_RA (hflat hl) hr
    | false => exact RA.up (lies g (h0 hl)) hr
  | t l =>
    refine ⟨.tup l, none, hk, fun b hb => by simp [T.refs] at hb, fun b x e => (by cases e), fun S base w0 s' ρ a w K Q hs g _ _ hK => ?_⟩
    refine run S base w0 s' ρ a w K Q hs g fun v w' hbel ⟨S0, hr, h0⟩ => ?_
    obtain ⟨vs, rfl, hr⟩ := hr
    obtain ⟨g2, k2⟩ := g.grow (grown hbel)
    refine hK _ _ ρ (g2.put' o.dst (t := .tup l) ⟨vs, rfl, ?_⟩ (by simp [T.refs]))
    cases hl : bad with
    | true => exact hr.flat (hflat hl)
    | false => exact hr.up (lies g (h0 hl))
  | o e sz n l =>
    refine ⟨.own fr n, some (fr, .sl e sz n l), hk, fun b hb => .inl ⟨by simpa [T.refs] using hb, _, rfl⟩, fun b x e => by cases e; exact .inl rfl, fun S base w0 s' ρ a w K Q hs g hfr hlt hK => ?_⟩
    refine run S base w0 s' ρ a w K Q hs g fun v w' hbel ⟨S0, ⟨cs, hr, hc2⟩, h0⟩ => ?_
    have hgr := grown hbel
    have hform : ∃ ad c, v = .slice ad n c := by
      rcases hr.2 with ⟨e1, e2⟩ | ⟨q, cap, cur, e1, _⟩
      · exact ⟨_, _, by rw [e1, e2]⟩
      · exact ⟨_, _, e1⟩
    have hreal : ∀ q, Rl v q → w.heap.size ≤ q ∧ q < w'.heap.size ∧ v.ownBlock = some q := by
      intro q hq
      rcases hr.2 with ⟨e1, e2⟩ | ⟨q', cap, cur, e1, e3, e4, _⟩
      · rw [e1] at hq; cases hq
      · rw [e1] at hq; cases hq
        exact ⟨e3, (Array.getElem?_eq_some_iff.1 e4).1, by rw [e1]; rfl⟩
    have g2 := g.change fr hlt v (.sl e sz n l) none hgr (by simp) (fun q hq => ⟨.inl (hreal q hq).1, (hreal q hq).2.1⟩) (by
        intro K0
        refine ⟨v, cs, by simp [upd], ?_, ?_⟩
        · refine ⟨hr.1, ?_⟩
          rcases hr.2 with h | ⟨q', cap, cur, e1, e3, e4⟩
          · exact .inl h
          · exact .inr ⟨q', cap, cur, e1, Nat.le_trans g.size e3, e4⟩
        · cases hl : bad with
          | true => exact flat_RL (hflat hl) hc2
          | false =>
            refine RL.up ⟨Nat.le_refl _, fun q hq hs2 => ⟨⟨?_, fun b u hb hu => ?_⟩, fun _ => rfl⟩⟩ hc2
            · rcases hs2.1 with h3 | h3
              · exact (h0 hl q h3).1
              · exact .inr (Nat.le_trans g.size h3)
            · by_cases hbf : b = fr
              · subst hbf
                simp [upd] at hb
                subst hb
                exact hs2.2 (hreal q hu).2.2
              · simp [upd, hbf] at hb
                rcases hs2.1 with h3 | h3
                · exact (h0 hl q h3).2 b u hb hu
                · have := (g.low b u q hb hu).2; omega) (by
        intro _ i hi hm
        exact absurd hfr (g.dang i fr hm)) (fun q hq => by have h0 := g.b fr; rw [hfr] at h0; have h0' : ρ fr = none := h0; rw [h0'] at hq; cases hq)
    refine hK _ _ _ (g2.put' o.dst (t := .own fr n) ?_ ?_)
    · intro u hu
      simp [upd] at hu
      obtain ⟨ad, c', e1⟩ := hform
      exact ⟨ad, n, c', by rw [← hu, e1], Nat.le_refl _, fun _ => hu⟩
    · intro b hb
      simp [T.refs] at hb
      subst hb
      simp [St.bk, getD_set_list, hlt]
  | p x =>
    refine ⟨.ptr fr 0, some (fr, x), hk, fun b hb => .inl ⟨by simpa [T.refs] using hb, _, rfl⟩, fun b x e => by cases e; exact .inl rfl, fun S base w0 s' ρ a w K Q hs g hfr hlt hK => ?_⟩
    refine run S base w0 s' ρ a w K Q hs g fun v w' hbel ⟨S0, ⟨q, hv, hq, hB⟩, h0⟩ => ?_
    have hgr := grown hbel
    have hqlt : q < w'.heap.size := by
      cases x with
      | var l => obtain ⟨cs, t, e, _⟩ := hB; exact (Array.getElem?_eq_some_iff.1 e).1
      | obj p => obtain ⟨cs, t, e, _⟩ := hB; exact (Array.getElem?_eq_some_iff.1 e).1
      | sl => exact hB.elim
      | abs => exact hB.elim
      | vh => exact hB.elim
      | gone => exact hB.elim
      | bx => exact hB.elim
    have hreal : ∀ z, Rl v z → z = q := by intro z hz; rw [hv] at hz; exact hz.symm
    have g2 := g.change fr hlt v x none hgr (by simp) (fun z hz => by rw [hreal z hz]; exact ⟨.inl hq, hqlt⟩) (by
        intro K0
        cases x with
        | sl => exact hB.elim
        | abs => exact hB.elim
        | vh => exact hB.elim
        | gone => exact hB.elim
        | bx => exact hB.elim
        | obj p => obtain ⟨cs, t, e, e2⟩ := hB; exact ⟨q, cs, t, by simp [upd, hv], trivial, e, e2⟩
        | var l =>
          obtain ⟨cs, t, e, e2⟩ := hB
          refine ⟨q, cs, t, by simp [upd, hv], trivial, e, ?_⟩
          cases hl : bad with
          | true => exact flat_RL (hflat hl) e2
          | false =>
            refine RL.up ⟨Nat.le_refl _, fun z hz hs2 => ⟨⟨?_, fun b u hb hu => ?_⟩, fun _ => rfl⟩⟩ e2
            · rcases hs2.1 with h3 | h3
              · exact (h0 hl z h3).1
              · exact .inr (Nat.le_trans g.size h3)
            · by_cases hbf : b = fr
              · subst hbf
                simp [upd] at hb
                subst hb
                exact hs2.2 (hreal z hu)
              · simp [upd, hbf] at hb
                rcases hs2.1 with h3 | h3
                · exact (h0 hl z h3).2 b u hb hu
                · have := (g.low b u z hb hu).2; omega) (by
        intro _ i hi hm
        exact absurd hfr (g.dang i fr hm)) (fun q hq => by have h0 := g.b fr; rw [hfr] at h0; have h0' : ρ fr = none := h0; rw [h0'] at hq; cases hq)
    refine hK _ _ _ (g2.put' o.dst (t := .ptr fr 0) ?_ ?_)
    · intro u hu
      simp [upd] at hu
      exact ⟨q, .inl (by rw [← hu, hv]), hv⟩
    · intro b hb
      simp [T.refs] at hb
      subst hb
      simp [St.bk, getD_set_list, hlt]

  | ob p =>
    refine ⟨.ob fr, some (fr, .abs p), hk, fun b hb => .inl ⟨by simpa [T.refs] using hb, _, rfl⟩, fun b x e => by cases e; exact .inl rfl, fun S base w0 s' ρ a w K Q hs g hfr hlt hK => ?_⟩
    refine run S base w0 s' ρ a w K Q hs g fun v w' hbel ⟨S0, ⟨q, F, hv, hq, hB⟩, h0⟩ => ?_
    have hgr := grown hbel
    have g2 := g.change fr hlt (fpv (q :: F)) (.abs p) none hgr (by simp) (fun z hz => by have := hq z (rl_fpv.1 hz); exact ⟨.inl this.1, this.2⟩) (by
        intro K0
        refine ⟨q, F, by simp [upd], fun z hz => (hq z hz).2, ?_⟩
        cases hl : bad with
        | true => exact absurd (hflat hl) (by simp [flatRes])
        | false =>
          refine p.up ⟨Nat.le_refl _, fun z hz hs2 => ⟨⟨?_, fun b u hb hu => ?_⟩, fun _ => rfl⟩⟩ (fun _ _ => rfl) hB
          · rcases hs2.1 with h3 | h3
            · exact (h0 hl z h3).1
            · exact .inr (Nat.le_trans g.size h3)
          · by_cases hbf : b = fr
            · subst hbf
              simp [upd] at hb
              subst hb
              exact hs2.2 (rl_fpv.1 hu)
            · simp [upd, hbf] at hb
              rcases hs2.1 with h3 | h3
              · exact (h0 hl z h3).2 b u hb hu
              · have := (g.low b u z hb hu).2; omega) (by
        intro _ i hi hm
        exact absurd hfr (g.dang i fr hm)) (fun q hq => by have h0 := g.b fr; rw [hfr] at h0; have h0' : ρ fr = none := h0; rw [h0'] at hq; cases hq)
    refine hK _ _ _ (g2.put' o.dst (t := .ob fr) ?_ ?_)
    · intro u hu
      simp [upd] at hu
      exact ⟨q, F, hu.symm, hv⟩
    · intro b hb
      simp [T.refs] at hb
      subst hb
      simp [St.bk, getD_set_list, hlt]

theorem lentAt_spec : ∀ {xs : List Operand} {pos b : Nat} {rest : List T}, lentAt (xs.map s.ev) = some (pos, b, rest) →
    ∃ (ys : List Operand) (x : Operand), rest = ys.map s.ev ∧ s.ev x = .ptr b 0 ∧ x ∈ xs ∧ (∀ y ∈ ys, y ∈ xs) ∧ ∀ (f : Operand → Value), xs.map f = (ys.map f).insertIdx pos (f x)
  | [], pos, b, rest, h => by cases h
  | x :: xs, pos, b, rest, h => by
    simp only [List.map_cons, lentAt] at h
    split at h
    · next b' hx => cases h; exact ⟨xs, x, rfl, hx, by simp, fun y hy => by simp [hy], fun f => by simp⟩
    · split at h
      · next i b' l hl =>
        cases h
        obtain ⟨ys, z, h1, h2, h3, h4, h5⟩ := lentAt_spec hl
        exact ⟨x :: ys, z, by rw [h1]; rfl, h2, by simp [h3], fun y hy => by rcases List.mem_cons.1 hy with rfl | hy; simp; simp [h4 y hy], fun f => by rw [List.map_cons, h5 f]; rfl⟩
      · cases h
theorem nolap_spec {b : Nat} {ys : List Operand} (h : nolap b (ys.map s.ev) = true) : ∀ y ∈ ys, b ∉ (s.ev y).refs := by
  intro y hy hb
  unfold nolap at h
  rw [List.all_eq_true] at h
  have := h _ (List.mem_map.2 ⟨y, hy, rfl⟩)
  simp only [Bool.not_eq_true', ← Bool.not_eq_true, List.contains_iff_mem] at this
  exact this hb

/-- a call to which a block is lent, asx it runs -/
theorem run_lent {c : Call} {y : Operand} {f : FuncId} {pos b : Nat} {rest : List T} {x : Bk} {K : Bool → Res → Bk → Prop} (ho : o.op = .call c) (hc : c.callee = .value y) (hy : s.ev y = .d (.v (.func (.func f) #[] #[])))
    (hl : lentAt (c.args.toList.map s.ev) = some (pos, b, rest)) (hb : s.bk b = some x) (hnl : nolap b rest = true) (h : argK s rest fun l lent => E.M f pos x l (K lent)) (hvh : ∀ l off p e sz n m, x ≠ .vh l off p e sz n m) (hbx : x ≠ .bx := by intro e; cases e) :
    ∃ r x' lent, K lent r x' ∧ ∀ (S : Nat → Prop) (base : Nat) (w0 : W0 E.G) (s' : St) (ρ : Nat → Option Value) (a : Act) (w : World) (K' : Act → World → Prop) (Q : Exit → Act → World → Prop),
      Same o s s' → Good S base w0 s' ρ a w → (∀ v w' q, ρ b = some (.pointer (some ⟨q, 0, none⟩)) → w.grownBy w' (some q) → (∃ S0 : Nat → Prop, RR (fun z => S0 z ∧ z ≠ q) w.heap.size w' r v ∧ HB (fun z => (S0 z ∨ w.heap.size ≤ z) ∧ z ≠ q) w' q x' ∧ (lent = false → ∀ z, S0 z → Dt S base ρ z)) → K' (a.put o.dst v) w') → o.wp E.P a w K' Q := by
  obtain ⟨ys, xx, rfl, hxx, hxm, hym, hmap⟩ := lentAt_spec hl
  obtain ⟨ds, lent, hM, hargs⟩ := argK_spec h
  obtain ⟨⟨r, x', hok, hK⟩, fn, hfn, hbd, hn⟩ := E.hMu _ _ _ _ _ hM
  refine ⟨r, x', lent, hK, fun S base w0 s' ρ a w K' Q hs g hK' => ?_⟩
  have hmem : ∀ x ∈ c.args.toList, x ∈ o.op.operands := fun x hx => by rw [ho]; simp only [Op.operands, Call.operands, Array.mem_append]; right; simpa using hx
  have hmy : y ∈ o.op.operands := by rw [ho]; simp [Op.operands, Call.operands, hc]
  have hlk : looks o = true := by simp [looks, ho]
  have hbk : s'.bk b = some x := (hs.bk (hmem _ hxm) hlk (by rw [hxx]; simp [T.refs])).trans hb
  have hB := g.b b
  rw [hbk] at hB
  obtain ⟨q, hρ, hhb⟩ : ∃ q, ρ b = some (.pointer (some ⟨q, 0, none⟩)) ∧ HB (Dt S base ρ) w q x := by
    cases x with
    | var l => obtain ⟨q, cs, t, h1, _, h2, h3⟩ := hB; exact ⟨q, h1, cs, t, h2, h3⟩
    | obj p => obtain ⟨q, cs, t, h1, _, h2, h3⟩ := hB; exact ⟨q, h1, cs, t, h2, h3⟩
    | abs p =>
      exfalso
      obtain ⟨q, F, h1, _⟩ := hB
      have h3 := evData hs g (hmem _ hxm) hxx _ h1
      obtain ⟨r', h4, _⟩ := h3
      exact h4.fpv
    | vh => exact (hvh _ _ _ _ _ _ _ rfl).elim
    | bx => exact (hbx rfl).elim
    | gone =>
      exfalso
      obtain ⟨n, h1⟩ := hB
      have h3 := evData hs g (hmem _ hxm) hxx _ h1
      obtain ⟨r', h4, _⟩ := h3
      exact h4.slice
    | sl e sz n l =>
      exfalso
      obtain ⟨u, cs, h1, h2, _⟩ := hB
      have h3 := evData hs g (hmem _ hxm) hxx u h1
      obtain ⟨r', h4, _⟩ := h3
      rcases h2.2 with ⟨e1, _⟩ | ⟨_, _, _, e1, _⟩ <;> rw [e1] at h4 <;> exact h4.slice
  have hval : a.eval xx = .pointer (some ⟨q, 0, none⟩) := by
    obtain ⟨r', h4, h5⟩ := evData hs g (hmem _ hxm) hxx _ hρ
    obtain rfl := h4.ptr; exact h5
  obtain ⟨h1, h2⟩ := hargs S base w0 s' ρ a w (fun x hx => ⟨(hs x (hmem x (hym x hx))).1, fun b hb => hs.bk (hmem x (hym x hx)) hlk hb⟩) g
  have hq := g.low b _ q hρ rfl
  have hnq : ∀ z, Dt S base ρ z → z ≠ q := fun z hz e => hz.2 b _ hρ (by rw [e]; rfl)
  unfold Oper.wp
  rw [exec_call ho hc (evPlain hs g hmy hy) hfn hbd hn, Oper.upon_enter, hmap a.eval, hval]
  cases hl' : lent with
  | true =>
    have hD : ∀ z, Dt S base ρ z → True ∧ z ≠ q := fun z hz => ⟨trivial, hnq z hz⟩
    refine (hok (fun _ => True) w q _ hq.2 (g.glob.up (toKeeps hD)) (hhb.up (toKeeps hD) rfl) (h1 _ hD (fun y' hy' b' hb' u z hu hz => ⟨trivial, fun e => ?_⟩))).mono ?_
    · subst e
      exact nolap_spec hnl y' hy' (by rw [← g.inj b' b u _ z hu hρ hz rfl]; exact hb')
    · rintro e w' ⟨v, rfl, h3, h4, h5⟩
      exact hK' v w' q hρ h5 ⟨_, h3, h4, fun e => by rw [hl'] at e; cases e⟩
  | false =>
    have hD : ∀ z, Dt S base ρ z → Dt S base ρ z ∧ z ≠ q := fun z hz => ⟨hz, hnq z hz⟩
    refine (hok (Dt S base ρ) w q _ hq.2 (g.glob.up (toKeeps hD)) (hhb.up (toKeeps hD) rfl) (RAs.up (toKeeps hD) (h2 hl'))).mono ?_
    rintro e w' ⟨v, rfl, h3, h4, h5⟩
    exact hK' v w' q hρ h5 ⟨_, h3, h4, fun _ z hz => hz⟩

/-- the world behind such a call -/
theorem Good.lent {S : Nat → Prop} {base : Nat} {w0 : W0 E.G} {s' : St} {ρ : Nat → Option Value} {a : Act} {w w' : World} (g : Good S base w0 s' ρ a w) {b q : Nat} (hρ : ρ b = some (.pointer (some ⟨q, 0, none⟩))) {x x' : Bk} (hb : s'.bk b = some x)
    (hw : w.grownBy w' (some q)) {S0 : Nat → Prop} {lent : Bool} (hB : HB (fun z => (S0 z ∨ w.heap.size ≤ z) ∧ z ≠ q) w' q x') (hf : lent = true → flatBk x' = true) (h0 : lent = false → ∀ z, S0 z → Dt S base ρ z) :
    Good S base w0 ⟨s'.t, s'.h.set b (some x')⟩ ρ a w' ∧ (lent = false → Keeps (fun z => (S0 z ∧ z ≠ q) ∨ w.heap.size ≤ z) w' (Dt S base ρ) w') := by
  have hupd : upd ρ b (some (.pointer (some ⟨q, 0, none⟩))) = ρ := by
    funext z; unfold upd; split
    · next e => rw [e, hρ]
    · rfl
  have lies : lent = false → ∀ z, (S0 z ∨ w.heap.size ≤ z) → Dt S base ρ z := fun hl z hz => by
    rcases hz with hz | hz
    · exact h0 hl z hz
    · exact ⟨.inr (Nat.le_trans g.size hz), fun b' u hb' hu => by have := (g.low b' u z hb' hu).2; omega⟩
  refine ⟨?_, fun hl => ⟨Nat.le_refl _, fun z _ hz => ⟨lies hl z (by rcases hz with hz | hz; exact .inl hz.1; exact .inr hz), fun _ => rfl⟩⟩⟩
  have g2 := g.change b (bk_lt hb) (.pointer (some ⟨q, 0, none⟩)) x' (some q) hw (by intro r e; cases e; exact ⟨_, hρ, rfl⟩) (by
      intro r e
      simp [Rl] at e; subst e
      exact ⟨.inr ⟨_, hρ, rfl⟩, Nat.lt_of_lt_of_le (g.low b _ q hρ rfl).2 hw.size⟩) (by
      rw [hupd]
      intro K0
      cases x' with
      | sl => exact hB.elim
      | abs => exact hB.elim
      | vh => exact hB.elim
      | gone => exact hB.elim
      | bx => exact hB.elim
      | obj p => obtain ⟨cs, t, e, e2⟩ := hB; exact ⟨q, cs, t, hρ, trivial, e, e2⟩
      | var l =>
        obtain ⟨cs, t, e, e2⟩ := hB
        refine ⟨q, cs, t, hρ, trivial, e, ?_⟩
        cases hl : lent with
        | true => exact flat_RL (hf hl) e2
        | false => exact e2.up (toKeeps fun z hz => lies hl z hz.1)) (by
      rw [hupd]
      intro _ i hi hm
      refine (g.t i hi).up ⟨hw.size, fun r' hr' hd => ⟨hd, fun o => ?_⟩⟩ (fun _ _ => rfl)
      exact World.cell?_of_block (hw.block r' hr' (fun e => by cases e; exact hd.2 b _ hρ rfl))) (fun z hz => by rw [hρ] at hz; cases hz; rfl)
  rwa [hupd] at g2
/-- an answer of data behind such a call -/
theorem res_lent {r : Res} {lent : Bool} {S0 D : Nat → Prop} {w w' : World} {q : Nat} {v : Value} (hf : lent = true → flatRes r = true) (hk : lent = false → Keeps (fun z => (S0 z ∧ z ≠ q) ∨ w.heap.size ≤ z) w' D w') (h : RR (fun z => S0 z ∧ z ≠ q) w.heap.size w' r v) :
    (∀ d, r = .d d → RA D w' d v) ∧ (∀ l, r = .t l → ∃ vs, v = .tuple vs.toArray ∧ RAs D w' l vs) := by
  constructor
  · rintro d rfl
    cases hl : lent with
    | true => exact flat_RA (hf hl) h
    | false => exact RA.up (hk hl) h
  · rintro l rfl
    obtain ⟨vs, rfl, h⟩ := h
    refine ⟨vs, rfl, ?_⟩
    cases hl : lent with
    | true => exact h.flat (hf hl)
    | false => exact h.up (hk hl)

theorem ok_callObj {c : Call} {y : Operand} {f : FuncId} {pos b : Nat} {rest : List T} {p : List Value → TypeId → Prop} {k : KO} (ho : o.op = .call c) (hc : c.callee = .value y) (hy : s.ev y = .d (.v (.func (.func f) #[] #[])))
    (hl : lentAt (c.args.toList.map s.ev) = some (pos, b, rest)) (hb : s.bk b = some (.obj p)) (hnl : nolap b rest = true) (h : argK s rest fun l lent => E.M f pos (.obj p) l fun r x' => x' = .obj p ∧ (lent = true → flatRes r = true) ∧ resD r k) :
    ∃ t blk, k t blk ∧ OpOK E o s fr t blk := by
  obtain ⟨r, x', lent, ⟨rfl, hf1, hr⟩, hrun⟩ := run_lent (K := fun lent r x' => x' = .obj p ∧ (lent = true → flatRes r = true) ∧ resD r k) ho hc hy hl hb hnl h (by intro _ _ _ _ _ _ _ e; cases e)
  have hf2 : lent = true → flatBk (.obj p) = true := fun _ => rfl
  have hbk : ∀ {s' : St}, Same o s s' → s'.bk b = some (.obj p) := fun {s'} hs => by
    obtain ⟨ys, xx, _, hxx, hxm, _⟩ := lentAt_spec hl
    have hmem : xx ∈ o.op.operands := by rw [ho]; simp only [Op.operands, Call.operands, Array.mem_append]; right; simpa using hxm
    exact (hs.bk hmem (by simp [looks, ho]) (by rw [hxx]; simp [T.refs])).trans hb
  have stay : ∀ {s' : St}, s'.bk b = some (.obj p) → s'.h.set b (some (.obj p)) = s'.h := fun {s'} h => by
    refine List.ext_getElem (by simp) fun i h1 h2 => ?_
    rw [List.getElem_set]
    split
    · next e =>
      subst e
      unfold St.bk at h
      rw [List.getD_eq_getElem?_getD, List.getElem?_eq_getElem h2] at h
      exact h.symm
    · rfl
  unfold resD at hr
  split at hr
  · next d =>
    refine ⟨_, _, hr, fun b' hb' => by simp [T.refs] at hb', fun b' x e => (by cases e), fun S base w0 s' ρ a w K Q hs g _ _ hK => ?_⟩
    refine hrun S base w0 s' ρ a w K Q hs g fun v w' q hρ hw ⟨S0, h3, h4, h5⟩ => ?_
    obtain ⟨g2, k2⟩ := g.lent hρ (hbk hs) hw h4 hf2 h5
    rw [stay (hbk hs)] at g2
    exact hK _ _ ρ (g2.put' o.dst (t := .d d) ((res_lent hf1 k2 h3).1 d rfl) (by simp [T.refs]))
  · next l =>
    refine ⟨_, _, hr, fun b' hb' => by simp [T.refs] at hb', fun b' x e => (by cases e), fun S base w0 s' ρ a w K Q hs g _ _ hK => ?_⟩
    refine hrun S base w0 s' ρ a w K Q hs g fun v w' q hρ hw ⟨S0, h3, h4, h5⟩ => ?_
    obtain ⟨g2, k2⟩ := g.lent hρ (hbk hs) hw h4 hf2 h5
    rw [stay (hbk hs)] at g2
    exact hK _ _ ρ (g2.put' o.dst (t := .tup l) ((res_lent hf1 k2 h3).2 l rfl) (by simp [T.refs]))
  · exact hr.elim

theorem ok_callVar {c : Call} {y : Operand} {f : FuncId} {pos b : Nat} {rest : List T} {l0 : List Seg} {k : KO} (ho : o.op = .call c) (hc : c.callee = .value y) (hy : s.ev y = .d (.v (.func (.func f) #[] #[])))
    (hl : lentAt (c.args.toList.map s.ev) = some (pos, b, rest)) (hb : s.bk b = some (.var l0)) (hnl : nolap b rest = true) (h : argK s rest fun l lent => E.M f pos (.var l0) l fun r x' => (lent = true → flatRes r = true) ∧ (lent = true → flatBk x' = true) ∧ resD r fun t _ => k t (some (b, x'))) :
    ∃ t blk, k t blk ∧ OpOK E o s fr t blk := by
  obtain ⟨r, x', lent, ⟨hf1, hf2, hr⟩, hrun⟩ := run_lent (K := fun lent r x' => (lent = true → flatRes r = true) ∧ (lent = true → flatBk x' = true) ∧ resD r fun t _ => k t (some (b, x'))) ho hc hy hl hb hnl h (by intro _ _ _ _ _ _ _ e; cases e)
  obtain ⟨ys, xx, _, hxx, hxm, _⟩ := lentAt_spec hl
  have hmem : xx ∈ o.op.operands := by rw [ho]; simp only [Op.operands, Call.operands, Array.mem_append]; right; simpa using hxm
  have hbk : ∀ {s' : St}, Same o s s' → s'.bk b = some (.var l0) := fun {s'} hs => (hs.bk hmem (by simp [looks, ho]) (by rw [hxx]; simp [T.refs])).trans hb
  have hin : ∀ b' x, some (b, x') = some (b', x) → b' = fr ∨ ∃ z, z ∈ o.op.operands ∧ b' ∈ (s.ev z).refs := fun b' x e => by
    cases e; exact .inr ⟨xx, hmem, by rw [hxx]; simp [T.refs]⟩
  unfold resD at hr
  split at hr
  · next d =>
    refine ⟨_, _, hr, fun b' hb' => by simp [T.refs] at hb', hin, fun S base w0 s' ρ a w K Q hs g _ _ hK => ?_⟩
    refine hrun S base w0 s' ρ a w K Q hs g fun v w' q hρ hw ⟨S0, h3, h4, h5⟩ => ?_
    obtain ⟨g2, k2⟩ := g.lent hρ (hbk hs) hw h4 hf2 h5
    exact hK _ _ ρ (g2.put' o.dst (t := .d d) ((res_lent hf1 k2 h3).1 d rfl) (by simp [T.refs]))
  · next l =>
    refine ⟨_, _, hr, fun b' hb' => by simp [T.refs] at hb', hin, fun S base w0 s' ρ a w K Q hs g _ _ hK => ?_⟩
    refine hrun S base w0 s' ρ a w K Q hs g fun v w' q hρ hw ⟨S0, h3, h4, h5⟩ => ?_
    obtain ⟨g2, k2⟩ := g.lent hρ (hbk hs) hw h4 hf2 h5
    exact hK _ _ ρ (g2.put' o.dst (t := .tup l) ((res_lent hf1 k2 h3).2 l rfl) (by simp [T.refs]))
  · exact hr.elim

theorem RP.re {D D' : Nat → Prop} {ρ ρ' : Nat → Option Value} {w w' : World} (k : Keeps D w D' w') {b0 : Nat} {F : List Nat} (h0 : ρ b0 = some (fpv F)) (h1 : ∀ b, b ≠ b0 → ρ b ≠ none → ρ' b = ρ b) {p : Pt} {v : Value} (hr : ∀ b ∈ p.refs, ρ b ≠ none) (h : RP D ρ w p v) : RP D' ρ' w' p v := by
  cases p with
  | dat a => exact RA.up k h
  | own b n =>
    by_cases e : b = b0
    · subst e; obtain ⟨a, n', c, hu, _⟩ := h _ h0; exact (fpv_no.2 _ _ _ hu).elim
    · intro u hu; rw [h1 b e (hr b (by simp [Pt.refs]))] at hu; exact h u hu
  | win b base n =>
    by_cases e : b = b0
    · subst e; obtain ⟨r, c, hu, _⟩ := h _ h0; exact hu.fpv.elim
    · intro u hu; rw [h1 b e (hr b (by simp [Pt.refs]))] at hu; exact h u hu
/-- an object's blocks are others now: whatever slot speaks of it reads asx it did -/
theorem RT.re {D D' : Nat → Prop} {ρ ρ' : Nat → Option Value} {w w' : World} (k : Keeps D w D' w') {b0 r : Nat} {F F' : List Nat} (h0 : ρ b0 = some (fpv (r :: F))) (h2 : ρ' b0 = some (fpv (r :: F'))) (h1 : ∀ b, b ≠ b0 → ρ b ≠ none → ρ' b = ρ b) {t : T} {v : Value} (hr : ∀ b ∈ t.refs, ρ b ≠ none) (h : RT D ρ w t v) : RT D' ρ' w' t v := by
  cases t with
  | d a => exact RA.up k h
  | tup l => obtain ⟨vs, rfl, h⟩ := h; exact ⟨vs, rfl, h.up k⟩
  | rows l => obtain ⟨vs, k1, k2⟩ := h; exact ⟨vs, k1.map fun p hp v hv => hv.re k h0 h1 (fun b hb => hr b (by simp only [T.refs, List.mem_flatMap]; exact ⟨p, hp, hb⟩)), k2.up k⟩
  | dead => trivial
  | ob b =>
    by_cases e : b = b0
    · subst e
      obtain ⟨r', F2, e1, e2⟩ := h _ h0
      intro u hu; rw [h2] at hu; cases hu
      exact ⟨r, F', rfl, by rw [e2, fpv_head e1]⟩
    · intro u hu; rw [h1 b e (hr b (by simp [T.refs]))] at hu; exact h u hu
  | mp b =>
    by_cases e : b = b0
    · subst e
      obtain ⟨r', F2, e1, e2⟩ := h _ h0
      intro u hu; rw [h2] at hu; cases hu
      exact ⟨r, F', rfl, by rw [e2, fpv_head e1]⟩
    · intro u hu; rw [h1 b e (hr b (by simp [T.refs]))] at hu; exact h u hu
  | ptr b base =>
    by_cases e : b = b0
    · subst e; obtain ⟨r, hu, _⟩ := h _ h0; exact hu.fpv.elim
    · intro u hu; rw [h1 b e (hr b (by simp [T.refs]))] at hu; exact h u hu
  | pti b base rel =>
    by_cases e : b = b0
    · subst e; obtain ⟨r, hu, _⟩ := h _ h0; exact hu.fpv.elim
    · intro u hu; rw [h1 b e (hr b (by simp [T.refs]))] at hu; exact h u hu
  | own b n =>
    by_cases e : b = b0
    · subst e; obtain ⟨a, n', c, hu, _⟩ := h _ h0; exact (fpv_no.2 _ _ _ hu).elim
    · intro u hu; rw [h1 b e (hr b (by simp [T.refs]))] at hu; exact h u hu
  | win b base n =>
    by_cases e : b = b0
    · subst e; obtain ⟨r, c, hu, _⟩ := h _ h0; exact hu.fpv.elim
    · intro u hu; rw [h1 b e (hr b (by simp [T.refs]))] at hu; exact h u hu
  | ept b n off =>
    by_cases e : b = b0
    · subst e; obtain ⟨a, n', c, hu, _⟩ := h _ h0; exact (fpv_no.2 _ _ _ hu).elim
    · intro u hu; rw [h1 b e (hr b (by simp [T.refs]))] at hu; exact h u hu
  | bxp b c =>
    by_cases e : b = b0
    · subst e; obtain ⟨r, hu, _⟩ := h _ h0; exact hu.fpv.elim
    · intro u hu; rw [h1 b e (hr b (by simp [T.refs]))] at hu; exact h u hu
  | hsl b n =>
    by_cases e : b = b0
    · subst e
      rcases h _ h0 with ⟨r, a, n', c, hu, _⟩ | ⟨r, hu⟩
      · exact (uvh_fpv hu.symm).elim
      · exact (fpv_no.1 _ hu).elim
    · intro u hu; rw [h1 b e (hr b (by simp [T.refs]))] at hu; exact h u hu
  | pre b n m =>
    by_cases e : b = b0
    · subst e; obtain ⟨a, n', c, hu, _⟩ := h _ h0; exact (fpv_no.2 _ _ _ hu).elim
    · intro u hu; rw [h1 b e (hr b (by simp [T.refs]))] at hu; exact h u hu

theorem obAt_spec : ∀ {xs : List Operand} {pos b : Nat} {rest : List T}, obAt (xs.map s.ev) = some (pos, b, rest) →
    ∃ (ys : List Operand) (x : Operand), rest = ys.map s.ev ∧ s.ev x = .ob b ∧ x ∈ xs ∧ (∀ y ∈ ys, y ∈ xs) ∧ ∀ (f : Operand → Value), xs.map f = (ys.map f).insertIdx pos (f x)
  | [], pos, b, rest, h => by cases h
  | x :: xs, pos, b, rest, h => by
    simp only [List.map_cons, obAt] at h
    split at h
    · next b' hx => cases h; exact ⟨xs, x, rfl, hx, by simp, fun y hy => by simp [hy], fun f => by simp⟩
    · split at h
      · next i b' l hl =>
        cases h
        obtain ⟨ys, z, h1, h2, h3, h4, h5⟩ := obAt_spec hl
        exact ⟨x :: ys, z, by rw [h1]; rfl, h2, by simp [h3], fun y hy => by rcases List.mem_cons.1 hy with rfl | hy; simp; simp [h4 y hy], fun f => by rw [List.map_cons, h5 f]; rfl⟩
      · cases h

theorem rrb_flat {r : Res} {S S2 : Nat → Prop} {w w' : World} {F' N : List Nat} {v : Value} (hf : flatRes r = true) (h : RRb S w w' F' N r v) : RRb S2 w w' F' N r v := by
  cases r with
  | d a => exact flat_RA hf h
  | t l => obtain ⟨vs, rfl, h⟩ := h; exact ⟨vs, rfl, h.flat hf⟩
  | ob p => cases hf
  | o => exact h
  | p => exact h
theorem ok_callB {c : Call} {y : Operand} {f : FuncId} {pos b : Nat} {rest : List T} {p : OP} {k : KO} (ho : o.op = .call c) (hc : c.callee = .value y) (hy : s.ev y = .d (.v (.func (.func f) #[] #[])))
    (hl : obAt (c.args.toList.map s.ev) = some (pos, b, rest)) (hb : s.bk b = some (.abs p)) (hnl : nolap b rest = true) (h : argK s rest fun l lent => E.B f pos p l fun r p' => lentOK lent p' r ∧ resB fr b p p' r k) :
    ∃ t blk, k t blk ∧ OpOK E o s fr t blk := by
  obtain ⟨ys, xx, rfl, hxx, hxm, hym, hmap⟩ := obAt_spec hl
  obtain ⟨ds, lent, hM, hargs⟩ := argK_spec h
  obtain ⟨⟨r, p', hok, hlf, hK⟩, fn, hfn, hbd, hn⟩ := E.hB _ _ _ _ _ hM
  have hmem : ∀ x ∈ c.args.toList, x ∈ o.op.operands := fun x hx => by rw [ho]; simp only [Op.operands, Call.operands, Array.mem_append]; right; simpa using hx
  have hmy : y ∈ o.op.operands := by rw [ho]; simp [Op.operands, Call.operands, hc]
  have hlk : looks o = true := by simp [looks, ho]
  have hin : ∃ x ∈ o.op.operands, b ∈ (s.ev x).refs := ⟨xx, hmem _ hxm, by rw [hxx]; simp [T.refs]⟩
  -- the call asx it runs
  have run : ∀ (S : Nat → Prop) (base : Nat) (w0 : W0 E.G) (s' : St) (ρ : Nat → Option Value) (a : Act) (w : World) (K' : Act → World → Prop) (Q : Exit → Act → World → Prop),
      Same o s s' → Good S base w0 s' ρ a w → (∀ v w' q F F' N, s'.bk b = some (.abs p) → ρ b = some (fpv (q :: F)) → (∀ z ∈ F', z ∈ q :: F ∨ w.heap.size ≤ z) → (∀ z ∈ q :: F', z < w'.heap.size) → p'.p (fun z => ((Dt S base ρ z ∨ w.heap.size ≤ z) ∧ z ∉ q :: F') ∧ z ∉ N) w' (q :: F') q → RRb (Dt S base ρ) w w' (q :: F') N r v → GrownX (fun z => z ∈ q :: F) w w' → K' (a.put o.dst v) w') → o.wp E.P a w K' Q := by
    intro S base w0 s' ρ a w K' Q hs g hK'
    have hbk : s'.bk b = some (.abs p) := (hs.bk (hmem _ hxm) hlk (by rw [hxx]; simp [T.refs])).trans hb
    have hB := g.b b
    rw [hbk] at hB
    obtain ⟨q, F, hρ, hlt, hpp⟩ := hB
    have hval : a.eval xx = .pointer (some ⟨q, 0, none⟩) := by
      obtain ⟨r', F2, h4, h5⟩ := evData hs g (hmem _ hxm) hxx _ hρ
      rw [h5, fpv_head h4]
    obtain ⟨h1, h2⟩ := hargs S base w0 s' ρ a w (fun x hx => ⟨(hs x (hmem x (hym x hx))).1, fun b hb => hs.bk (hmem x (hym x hx)) hlk hb⟩) g
    have hD : ∀ z, Dt S base ρ z → z ∉ q :: F := fun z hz e => hz.2 b _ hρ (rl_fpv.2 e)
    unfold Oper.wp
    rw [exec_call ho hc (evPlain hs g hmy hy) hfn hbd hn, Oper.upon_enter, hmap a.eval, hval]
    cases hl' : lent with
    | false =>
      refine (hok (Dt S base ρ) w q F _ g.glob hlt hpp (h2 hl') hD).mono ?_
      rintro e w' ⟨v, F', N, rfl, h3, h4, h5, h6, h7⟩
      exact hK' v w' q F F' N hbk hρ h3 h4 h5 h6 h7
    | true =>
      refine (hok (fun z => z ∉ q :: F) w q F _ (g.glob.up (toKeeps hD)) hlt (p.up (toKeeps hD) (fun _ _ => rfl) hpp) (h1 _ hD (fun y' hy' b' hb' u z hu hz hm => ?_)) (fun z hz => hz)).mono ?_
      · have e9 := g.inj b' b u _ z hu hρ hz (rl_fpv.2 hm)
        subst e9
        exact nolap_spec hnl y' hy' hb'
      · rintro e w' ⟨v, F', N, rfl, h3, h4, h5, h6, h7⟩
        exact hK' v w' q F F' N hbk hρ h3 h4 (p'.hfl (hlf hl').2 h5) (rrb_flat (hlf hl').1 h6) h7
  -- data behind the call
  have kp : ∀ {S : Nat → Prop} {base : Nat} {w0 : W0 E.G} {s' : St} {ρ : Nat → Option Value} {a : Act} {w w' : World} {q : Nat} {F' : List Nat}, Good S base w0 s' ρ a w →
      Keeps (fun z => (Dt S base ρ z ∨ w.heap.size ≤ z) ∧ z ∉ q :: F') w' (Dt S base (upd ρ b (some (fpv (q :: F'))))) w' := by
    intro S base w0 s' ρ a w w' q F' g
    refine ⟨Nat.le_refl _, fun z hz hs2 => ⟨⟨?_, fun b' u hb' hu => ?_⟩, fun _ => rfl⟩⟩
    · rcases hs2.1 with h3 | h3
      · exact h3.1
      · exact .inr (Nat.le_trans g.size h3)
    · by_cases hbf : b' = b
      · subst hbf
        simp [upd] at hb'
        subst hb'
        exact hs2.2 (rl_fpv.1 hu)
      · simp [upd, hbf] at hb'
        rcases hs2.1 with h3 | h3
        · exact h3.2 b' u hb' hu
        · have := (g.low b' u z hb' hu).2; omega
  have stay : ∀ {s' : St}, s'.bk b = some (.abs p) → s'.h.set b (some (.abs p)) = s'.h := fun {s'} h => by
    refine List.ext_getElem (by simp) fun i h1 h2 => ?_
    rw [List.getElem_set]
    split
    · next e =>
      subst e
      unfold St.bk at h
      rw [List.getD_eq_getElem?_getD, List.getElem?_eq_getElem h2] at h
      exact h.symm
    · rfl
  -- the object changes
  have chg : ∀ {S : Nat → Prop} {base : Nat} {w0 : W0 E.G} {s' : St} {ρ : Nat → Option Value} {a : Act} {w w' : World} {q : Nat} {F F' N : List Nat}, Good S base w0 s' ρ a w → s'.bk b = some (.abs p) → ρ b = some (fpv (q :: F)) → (∀ z ∈ F', z ∈ q :: F ∨ w.heap.size ≤ z) → (∀ z ∈ q :: F', z < w'.heap.size) → p'.p (fun z => ((Dt S base ρ z ∨ w.heap.size ≤ z) ∧ z ∉ q :: F') ∧ z ∉ N) w' (q :: F') q → GrownX (fun z => z ∈ q :: F) w w' →
      Good S base w0 ⟨s'.t, s'.h.set b (some (.abs p'))⟩ (upd ρ b (some (fpv (q :: F')))) a w' := by
    intro S base w0 s' ρ a w w' q F F' N g hbk hρ h3 h4 h5 h7
    have hlt := bk_lt hbk
    have hbk0 : St.bk ⟨s'.t, s'.h.set b (some (.abs p'))⟩ b = some (.abs p') := by simp [St.bk, hlt]
    have hu0 : upd ρ b (some (fpv (q :: F'))) b = some (fpv (q :: F')) := by simp [upd]
    have hu : ∀ b', b' ≠ b → upd ρ b (some (fpv (q :: F'))) b' = ρ b' := fun b' hb => by simp [upd, hb]
    refine g.step _ _ (fun z => z ∈ q :: F) (fun b' => b' = b) h7 (fun b' hb' => ⟨hu b' hb', ?_⟩) (fun z hz => ⟨b, _, rfl, hρ, rl_fpv.2 hz⟩) (fun b' u z hb' h1 h2 => ?_) (fun b' b'' _ _ _ h1 h2 _ _ _ _ => h1.trans h2.symm) (fun K b' hb' => ?_) (fun K i hi hm => ?_) (fun b' hb' => ?_) (fun z hz => ?_)
    · simp only [St.bk, getD_set_list]; rw [if_neg (fun e => hb' e.1.symm)]
    · subst hb'; rw [hu0] at h1; cases h1
      have h8 := rl_fpv.1 h2
      refine ⟨?_, h4 z h8⟩
      rcases List.mem_cons.1 h8 with rfl | h9
      · exact .inr ⟨_, hρ, rl_fpv.2 (by simp)⟩
      · rcases h3 z h9 with h10 | h10
        · exact .inr ⟨_, hρ, rl_fpv.2 h10⟩
        · exact .inl h10
    · subst hb'; rw [hbk0]; exact ⟨q, F', hu0, h4, p'.up (kp g) (fun _ _ => rfl) (p'.up (toKeeps fun z hz => hz.1) (fun _ _ => rfl) h5)⟩
    · refine (g.t i hi).re K hρ hu0 (fun b' hb' _ => hu b' hb') (fun b' hb' e => ?_)
      obtain ⟨u, hu'⟩ := g.ref (g.dang i b' hb')
      rw [e] at hu'; cases hu'
    · subst hb'; rw [hbk0]; simp
    · by_cases e : (0 : Nat) = b
      · rw [e, hρ] at hz; exact (fpv_no.1 _ (Option.some.inj hz)).elim
      · rw [hu 0 e]; exact hz
  unfold resB at hK
  split at hK
  · next d =>
    refine ⟨_, _, hK, fun b' hb' => by simp [T.refs] at hb', fun b' x e => (by cases e; exact .inr hin), fun S base w0 s' ρ a w K' Q hs g _ _ hK' => ?_⟩
    refine run S base w0 s' ρ a w K' Q hs g fun v w' q F F' N hbk hρ h3 h4 h5 h6 h7 => ?_
    exact hK' _ _ _ ((chg g hbk hρ h3 h4 h5 h7).put' o.dst (t := .d d) (RA.up (kp g) h6) (by simp [T.refs]))
  · next l =>
    refine ⟨_, _, hK, fun b' hb' => by simp [T.refs] at hb', fun b' x e => (by cases e; exact .inr hin), fun S base w0 s' ρ a w K' Q hs g _ _ hK' => ?_⟩
    refine run S base w0 s' ρ a w K' Q hs g fun v w' q F F' N hbk hρ h3 h4 h5 h6 h7 => ?_
    obtain ⟨vs, rfl, h9⟩ := h6
    exact hK' _ _ _ ((chg g hbk hρ h3 h4 h5 h7).put' o.dst (t := .tup l) ⟨vs, rfl, h9.up (kp g)⟩ (by simp [T.refs]))
  · next p2 =>
    obtain ⟨rfl, hK⟩ := hK
    refine ⟨_, _, hK, fun b' hb' => .inl ⟨by simpa [T.refs] using hb', _, rfl⟩, fun b' x e => by cases e; exact .inl rfl, fun S base w0 s' ρ a w K' Q hs g hfr hlt hK' => ?_⟩
    refine run S base w0 s' ρ a w K' Q hs g fun v w' q F F' N hbk hρ h3 h4 h5 h6 h7 => ?_
    obtain ⟨r2, F2, rfl, rfl, h8, h9⟩ := h6
    have hne : fr ≠ b := fun e => by rw [e, hbk] at hfr; cases hfr
    have hu0 : upd (upd ρ b (some (fpv (q :: F')))) fr (some (fpv (r2 :: F2))) fr = some (fpv (r2 :: F2)) := by simp [upd]
    have hub : upd (upd ρ b (some (fpv (q :: F')))) fr (some (fpv (r2 :: F2))) b = some (fpv (q :: F')) := by simp [upd, Ne.symm hne]
    have hu : ∀ b', b' ≠ fr → b' ≠ b → upd (upd ρ b (some (fpv (q :: F')))) fr (some (fpv (r2 :: F2))) b' = ρ b' := fun b' h1 h2 => by simp [upd, h1, h2]
    have hbf : St.bk ⟨s'.t, s'.h.set fr (some (.abs p2))⟩ fr = some (.abs p2) := by simp [St.bk, hlt]
    have hbb : St.bk ⟨s'.t, s'.h.set fr (some (.abs p2))⟩ b = some (.abs p') := by simp only [St.bk, getD_set_list]; rw [if_neg (fun e => hne e.1)]; exact hbk
    have hρf : ρ fr = none := by have := g.b fr; rw [hfr] at this; exact this
    have g2 : Good S base w0 ⟨s'.t, s'.h.set fr (some (.abs p2))⟩ (upd (upd ρ b (some (fpv (q :: F')))) fr (some (fpv (r2 :: F2)))) a w' := by
      refine g.step (upd (upd ρ b (some (fpv (q :: F')))) fr (some (fpv (r2 :: F2)))) _ (fun z => z ∈ q :: F) (fun b' => b' = b ∨ b' = fr) h7 (fun b' hb' => ⟨hu b' (fun e => hb' (.inr e)) (fun e => hb' (.inl e)), ?_⟩) (fun z hz => ⟨b, _, .inl rfl, hρ, rl_fpv.2 hz⟩) (fun b' u z hb' h1 h2 => ?_) (fun b' b'' u u' z hb' hb'' h1 h2 e1 e2 => ?_) (fun K b' hb' => ?_) (fun K i hi hm => ?_) (fun b' hb' => ?_) (fun z hz => ?_)
      · simp only [St.bk, getD_set_list]; rw [if_neg (fun e => hb' (.inr e.1.symm))]
      · rcases hb' with rfl | rfl
        · rw [hub] at h1; cases h1
          have h10 := rl_fpv.1 h2
          refine ⟨?_, h4 z h10⟩
          rcases List.mem_cons.1 h10 with rfl | h11
          · exact .inr ⟨_, hρ, rl_fpv.2 (by simp)⟩
          · rcases h3 z h11 with h12 | h12
            · exact .inr ⟨_, hρ, rl_fpv.2 h12⟩
            · exact .inl h12
        · rw [hu0] at h1; cases h1
          have h10 := h8 z (rl_fpv.1 h2)
          exact ⟨.inl h10.1, h10.2.1⟩
      · rcases hb' with rfl | rfl <;> rcases hb'' with rfl | rfl
        · rfl
        · rw [hub] at h1; rw [hu0] at h2; cases h1; cases h2
          exact ((h8 z (rl_fpv.1 e2)).2.2 (rl_fpv.1 e1)).elim
        · rw [hu0] at h1; rw [hub] at h2; cases h1; cases h2
          exact ((h8 z (rl_fpv.1 e1)).2.2 (rl_fpv.1 e2)).elim
        · rfl
      · have up2 : Keeps (fun z => ((Dt S base ρ z ∨ w.heap.size ≤ z) ∧ z ∉ q :: F') ∧ z ∉ r2 :: F2) w' (Dt S base (upd (upd ρ b (some (fpv (q :: F')))) fr (some (fpv (r2 :: F2))))) w' := by
          refine ⟨Nat.le_refl _, fun z hz hs2 => ⟨⟨?_, fun b3 u hb3 hu3 => ?_⟩, fun _ => rfl⟩⟩
          · rcases hs2.1.1 with h3 | h3
            · exact h3.1
            · exact .inr (Nat.le_trans g.size h3)
          · by_cases e1 : b3 = fr
            · subst e1; rw [hu0] at hb3; cases hb3; exact hs2.2 (rl_fpv.1 hu3)
            · by_cases e2 : b3 = b
              · subst e2; rw [hub] at hb3; cases hb3; exact hs2.1.2 (rl_fpv.1 hu3)
              · rw [hu b3 e1 e2] at hb3
                rcases hs2.1.1 with h3 | h3
                · exact h3.2 b3 u hb3 hu3
                · have := (g.low b3 u z hb3 hu3).2; omega
        rcases hb' with rfl | rfl
        · rw [hbb]; exact ⟨q, F', hub, h4, p'.up up2 (fun _ _ => rfl) h5⟩
        · rw [hbf]; exact ⟨r2, F2, hu0, fun z hz => (h8 z hz).2.1, p2.up up2 (fun _ _ => rfl) h9⟩
      · refine (g.t i hi).re K hρ hub (fun b' hb' hn' => hu b' (fun e => hn' (by rw [e]; exact hρf)) hb') (fun b' hb' e => ?_)
        obtain ⟨u, hu'⟩ := g.ref (g.dang i b' hb')
        rw [e] at hu'; cases hu'
      · rcases hb' with rfl | rfl
        · rw [hbb]; simp
        · rw [hbf]; simp
      · by_cases e : (0 : Nat) = b
        · rw [e, hρ] at hz; exact (fpv_no.1 _ (Option.some.inj hz)).elim
        · by_cases e2 : (0 : Nat) = fr
          · rw [e2, hρf] at hz; cases hz
          · rw [hu 0 e2 e]; exact hz
    refine hK' _ _ _ (g2.put' o.dst (t := .ob fr) ?_ ?_)
    · intro u hu'
      rw [hu0] at hu'; cases hu'
      exact ⟨r2, F2, rfl, rfl⟩
    · intro b' hb'
      simp [T.refs] at hb'
      subst hb'
      rw [hbf]; simp
  · exact hK.elim

/-- the address of the lent variable is laid into a variable of its own -/
theorem ok_boxPtr {e : TypeId} {x : Operand} {l : List Seg} (ho : o.op = .box e x) (hx : s.ev x = .ptr 0 0) (hk : s.bk 0 = some (.var l)) : OpOK E o s fr (.bxp fr 0) (some (fr, .bx)) := by
  have hm : x ∈ o.op.operands := by rw [ho]; simp [Op.operands]
  refine ⟨fun b hb => ?_, fun b y e => by cases e; exact .inl rfl, fun S base w0 s' ρ a w K Q hs g hf hlt hK => ?_⟩
  · simp [T.refs] at hb
    rcases hb with rfl | rfl
    · exact .inl ⟨rfl, _, rfl⟩
    · exact .inr ⟨x, hm, by rw [hx]; simp [T.refs]⟩
  have hB := g.b 0
  rw [(hs.bk hm (by simp [looks, ho]) (by rw [hx]; simp [T.refs])).trans hk] at hB
  obtain ⟨q, cs, ty, h1, _, h2, h3⟩ := hB
  have hv : a.eval x = .pointer (some ⟨q, 0, none⟩) := by
    obtain ⟨r', h4, h5⟩ := evData hs g hm hx _ h1
    obtain rfl := h4.ptr; exact h5
  have hne : fr ≠ 0 := fun h => by subst h; have := g.b 0; rw [hf] at this; have : ρ 0 = none := this; rw [h1] at this; cases this
  have hρ : ρ fr = none := by have := g.b fr; rw [hf] at this; exact this
  have hrun : (execOp a.eval o).run E.P w = .ok (.value (.pointer (some ⟨w.heap.size, 0, none⟩))) (w.alloc (.cells #[.pointer (some ⟨q, 0, none⟩)] e)) := by
    simp [execOp, ho, Instr.box, newVar, newRow, Sem.run_bind, hv, Value.cells]
  unfold Oper.wp
  rw [hrun]
  have g2 := g.change fr hlt (.pointer (some ⟨w.heap.size, 0, none⟩)) .bx none (w' := w.alloc (.cells #[.pointer (some ⟨q, 0, none⟩)] e)) ⟨rfl, rfl, rfl, by rw [size_alloc]; omega, fun k hk _ => Below.heap_alloc _ _ _ hk⟩ (by simp) (fun r hr => by
      simp [Rl] at hr; subst hr
      exact ⟨.inl (Nat.le_refl _), by rw [size_alloc]; omega⟩) (fun _ => ⟨hne, q, w.heap.size, e, by simp [upd], heap_alloc_new _ _, by simp [upd, Ne.symm hne, h1]⟩) (fun _ i hi hm => absurd hf (g.dang i fr hm)) (fun q hq => by rw [hρ] at hq; cases hq)
  refine hK _ _ _ (g2.put' o.dst (t := .bxp fr 0) ?_ ?_)
  · intro u hu
    simp [upd] at hu
    exact ⟨w.heap.size, .inl hu.symm, rfl⟩
  · intro b hb
    simp [T.refs] at hb
    rcases hb with rfl | rfl
    · simp [St.bk, getD_set_list, hlt]
    · have h0 : s'.bk 0 ≠ none := by rw [(hs.bk hm (by simp [looks, ho]) (by rw [hx]; simp [T.refs])).trans hk]; simp
      simp only [St.bk, getD_set_list]
      rw [if_neg (fun h => hne h.1)]
      exact h0
theorem ok_loadBx {t : TypeId} {x : Operand} {i : TI} {b : Nat} (ho : o.op = .load t x) (hY : E.Y t = some i) (h1 : i.sz = 1) (h2 : i.agg = false) (hx : s.ev x = .bxp b 0) (hk : s.bk b = some .bx) : OpOK E o s fr (.ptr 0 0) none := by
  have hm : x ∈ o.op.operands := by rw [ho]; simp [Op.operands]
  refine .pure (fun b' hb' => ⟨x, hm, by rw [hx]; simp [T.refs] at hb' ⊢; exact .inr hb'⟩) fun S base w0 s' ρ a w hs g => ?_
  have hB := g.b b
  rw [(hs.bk hm (by simp [looks, ho]) (by rw [hx]; simp [T.refs])).trans hk] at hB
  obtain ⟨_, q, r, ty, h3, h4, h5⟩ := hB
  have hv : a.eval x = .pointer (some ⟨r, 0, none⟩) := by
    obtain ⟨r', e1, e2⟩ := evData hs g hm hx _ h3
    obtain rfl := e1.ptr; exact e2
  obtain ⟨v, h6, h7⟩ := run_load_part (D := fun _ => True) (w := w) (x := .v (.pointer (some ⟨q, 0, none⟩))) (E.hY t i hY) (r := r) (o := 0) (off := 0) (cs := [.pointer (some ⟨q, 0, none⟩)]) (fun j hj => by
    have hj0 : j = 0 := by simpa using hj
    subst hj0
    have := cells_of (w := w) (r := r) (cs := [.pointer (some ⟨q, 0, none⟩)]) (t := ty) h4 0
    simpa using this) ⟨fun h => (by rw [h2] at h; cases h), fun _ => ⟨_, rfl, .v _, rfl⟩⟩
  cases h7
  refine ⟨_, exec_load ho hv h6, fun u hu => ?_⟩
  rw [h5] at hu; cases hu
  exact ⟨q, .inl rfl, rfl⟩
theorem exec_callClo {a : Act} {w : World} {c : Call} {y : Operand} {f : FuncId} {fn : Func} {vs : List Value} (ho : o.op = .call c) (hc : c.callee = .value y) (hy : a.eval y = .func (.func f) #[] vs.toArray) (hf : E.P.funcs[f]? = some fn) (hb : fn.body.isNone = false) (hn : (fn.name == "runtime.NumGoroutine") = false) :
    (execOp a.eval o).run E.P w = .ok (.enter f (c.args.toList.map a.eval ++ vs).toArray) w := by
  have e : (c.args.toList.map a.eval ++ vs).toArray = c.args.map a.eval ++ vs.toArray := by
    apply Array.ext'; simp
  rw [e]
  simp only [execOp, ho, resolve, hc, hy, Deferred.ofValue, Sem.run_bind, Sem.run_pure, Result.andThen_ok, invoke, callFunc, run_program, hf, hb, hn]
  simp
theorem RAs.append {S : Nat → Prop} {w : World} : ∀ {l m : List A} {vs us : List Value}, RAs S w l vs → RAs S w m us → RAs S w (l ++ m) (vs ++ us)
  | _, _, _, _, .nil, k => k
  | _, _, _, _, .cons h r, k => .cons h (r.append k)
theorem RG.toRAs {S : Nat → Prop} {w : World} : ∀ {l : List A} {vs : List Value}, RG S w l vs → RAs S w l vs
  | _, _, .nil => .nil
  | _, _, .cons h _ r => .cons h r.toRAs
/-- a function that holds data is called; its answer is plain -/
theorem ok_callClo {c : Call} {y : Operand} {f : FuncId} {cs : List A} {x : A} {ds : List A} {lent : Bool} (ho : o.op = .call c) (hc : c.callee = .value y) (hy : s.ev y = .d (.clo f cs)) (hthere : ∃ fn, E.P.funcs[f]? = some fn ∧ fn.body.isNone = false ∧ (fn.name == "runtime.NumGoroutine") = false)
    (hargs : ∀ (S : Nat → Prop) (base : Nat) (w0 : W0 E.G) (s' : St) (ρ : Nat → Option Value) (a : Act) (w : World), (∀ x ∈ c.args.toList, s'.ev x = s.ev x ∧ ∀ b ∈ (s.ev x).refs, s'.bk b = s.bk b) → Good S base w0 s' ρ a w →
      (∀ D' : Nat → Prop, (∀ q, Dt S base ρ q → D' q) → (∀ x ∈ c.args.toList, ∀ b ∈ (s.ev x).refs, ∀ u q, ρ b = some u → Rl u q → D' q) → RAs D' w ds (c.args.toList.map a.eval)) ∧ (lent = false → RAs (Dt S base ρ) w ds (c.args.toList.map a.eval)))
    (hok : FnOK E.P E.G f (ds ++ cs) (.d x)) (hflat : flatA x = true) : OpOK E o s fr (.d x) none := by
  obtain ⟨fn, hf, hb, hn⟩ := hthere
  have hmem : ∀ x ∈ c.args.toList, x ∈ o.op.operands := fun x hx => by rw [ho]; simp only [Op.operands, Call.operands, Array.mem_append]; right; simpa using hx
  have hmy : y ∈ o.op.operands := by rw [ho]; simp [Op.operands, Call.operands, hc]
  refine ⟨fun b hb => by simp [T.refs] at hb, fun b x e => (by cases e), fun S base w0 s' ρ a w K Q hs g _ _ hK => ?_⟩
  obtain ⟨h1, _⟩ := hargs S base w0 s' ρ a w (fun x hx => ⟨(hs x (hmem x hx)).1, fun b hb => hs.bk (hmem x hx) (by simp [looks, ho]) hb⟩) g
  have h2 := evData hs g hmy hy
  generalize hv : a.eval y = v at h2
  cases h2 with
  | clo hg =>
    unfold Oper.wp
    rw [exec_callClo ho hc hv hf hb hn, Oper.upon_enter]
    refine (hok (fun _ => True) w _ (g.glob.up anyKeeps) ((h1 _ (fun _ _ => trivial) (fun _ _ _ _ _ _ _ _ => trivial)).append (hg.toRAs.up anyKeeps))).mono ?_
    rintro e w' ⟨u, rfl, h3, h4⟩
    obtain ⟨g2, k2⟩ := g.grow (w' := w') ⟨h4.os, h4.tape, h4.output, h4.size, fun k hk _ => h4.block k hk⟩
    exact hK _ _ ρ (g2.put' o.dst (t := .d x) (flat_RA hflat h3) (by simp [T.refs]))

/-- every operation of the machine -/
theorem opA_sound {k : KO} (h : opA E o s fr k) : ∃ t blk, k t blk ∧ OpOK E o s fr t blk := by
  unfold opA at h
  split at h
  case h_1 x ho => exact ⟨_, _, h, ok_move (.inl ho)⟩
  case h_2 x ho => exact ⟨_, _, h, ok_move (.inr ho)⟩
  case h_3 c x y ho =>
    split at h
    · next b hc =>
      cases b
      · exact ⟨_, _, h.out, ok_pick (b := false) ho hc⟩
      · exact ⟨_, _, h.out, ok_pick (b := true) ho hc⟩
    · exact h.elim
  case h_4 op t x y yt ho =>
    split at h
    · next p q hx hy =>
      split at h
      · next a b =>
        obtain ⟨⟨i, hi, hu⟩, h⟩ := h
        split at h
        · exact ⟨_, _, h, ok_binBool ho hx hy hu (.inl ⟨rfl, rfl⟩)⟩
        · exact ⟨_, _, h, ok_binBool ho hx hy hu (.inr ⟨rfl, rfl⟩)⟩
        · exact h.elim
      · obtain ⟨hu, h⟩ := h
        split at h
        · exact ⟨_, _, h, ok_binStr ho hx hy (.inl ⟨rfl, rfl⟩)⟩
        · exact ⟨_, _, h, ok_binStr ho hx hy (.inr ⟨rfl, rfl⟩)⟩
        · exact ⟨_, _, h.2, ok_binCat ho hx hy h.1⟩
        · exact h.elim
      · obtain ⟨hu, h⟩ := h
        split at h
        · exact ⟨_, _, h, ok_nilNil ho hx hy hu (.inl ⟨rfl, rfl⟩)⟩
        · exact ⟨_, _, h, ok_nilNil ho hx hy hu (.inr ⟨rfl, rfl⟩)⟩
        · exact h.elim
      · obtain ⟨hu, h⟩ := h
        split at h
        · exact ⟨_, _, h, ok_slNil ho hx hy hu (.inl ⟨rfl, rfl⟩)⟩
        · exact ⟨_, _, h, ok_slNil ho hx hy hu (.inr ⟨rfl, rfl⟩)⟩
        · exact h.elim
      · obtain ⟨r, hK, hr⟩ := ok_bin ho hx hy h
        exact ⟨_, _, hK, hr⟩
    · next b base hx hy =>
      obtain ⟨hu, h⟩ := h
      split at h
      · exact ⟨_, _, h, ok_ptrNil ho hx hy hu (.inl ⟨rfl, rfl⟩)⟩
      · exact ⟨_, _, h, ok_ptrNil ho hx hy hu (.inr ⟨rfl, rfl⟩)⟩
      · exact h.elim
    · next b hx hy =>
      obtain ⟨hu, h⟩ := h
      split at h
      · exact ⟨_, _, h, ok_obNil ho hx hy hu (.inl ⟨rfl, rfl⟩)⟩
      · exact ⟨_, _, h, ok_obNil ho hx hy hu (.inr ⟨rfl, rfl⟩)⟩
      · exact h.elim
    · next n l n' c' hx hy =>
      obtain ⟨hn, hu, h⟩ := h
      split at h
      · exact ⟨_, _, h, ok_rowNil ho hx hy hn hu (.inl ⟨rfl, rfl⟩)⟩
      · exact ⟨_, _, h, ok_rowNil ho hx hy hn hu (.inr ⟨rfl, rfl⟩)⟩
      · exact h.elim
    · next l q hx hy =>
      obtain ⟨hu, h⟩ := h
      split at h
      · exact ⟨_, _, h, ok_srefNil ho hx hy hu (.inl ⟨rfl, rfl⟩)⟩
      · exact ⟨_, _, h, ok_srefNil ho hx hy hu (.inr ⟨rfl, rfl⟩)⟩
      · exact h.elim
    · next l m hx hy =>
      split at h
      · next i hY =>
        obtain ⟨h1, h2, h3, h⟩ := h
        split at h
        · exact ⟨_, _, h, ok_eqAgg ho hx hy hY h1 h2 h3 (.inl ⟨rfl, rfl⟩)⟩
        · exact ⟨_, _, h, ok_eqAgg ho hx hy hY h1 h2 h3 (.inr ⟨rfl, rfl⟩)⟩
        · exact h.elim
      · exact h.elim
    · exact h.elim
  case h_5 op t x ho =>
    split at h
    · next hx => exact ⟨_, _, h, ok_not ho hx⟩
    · next hx => exact ⟨_, _, h, ok_neg ho hx⟩
    · exact h.elim
  case h_6 e ho =>
    split at h
    · next i hY => exact ⟨_, _, h, ok_alloc ho hY⟩
    · exact h.elim
  case h_7 e x ho =>
    split at h
    · next a hx =>
      split at h
      · next l hl => exact ⟨_, _, h, ok_box ho hx hl⟩
      · exact h.elim
    · next hx =>
      split at h
      · next l hk => exact ⟨_, _, h, ok_boxPtr ho hx hk⟩
      · exact h.elim
    · exact h.elim
  case h_8 t x ho =>
    split at h
    · exact h.elim
    · next i hY =>
      split at h
      · next b base hx0 =>
        have hx := (evG_cases hx0).resolve_right (by rintro ⟨_, _, _, _, e⟩; cases e)
        split at h
        · next l hk =>
          obtain ⟨d, hd, hs⟩ := rdK_spec h
          exact ⟨_, _, hd, ok_loadVar ho hY (b := b) (by rw [hx]; simp [T.refs]) hk (fun {D ρ w v r} hv hb => by
            rw [hx] at hv; obtain ⟨r', e1, e2⟩ := hv _ hb; obtain rfl := e1.ptr; exact e2) hs⟩
        · next l off e sz n m hk =>
          split at h
          · obtain ⟨rfl, h1, h⟩ := h
            exact ⟨_, _, h, ok_loadH ho hY h1 hx hk⟩
          · split at h
            · next l' hl =>
              obtain ⟨d, hd, hs⟩ := rdK_spec h
              refine ⟨_, _, hd, OpOK.unh (x := x) (by rw [ho]; simp [Op.operands]) (by rw [hx]; simp [T.refs]) (by simp [looks, ho]) hk hl (ok_loadVar (s := ⟨s.t, s.h.set b (some (.var l'))⟩) ho hY (b := b) (by show b ∈ (s.ev x).refs; rw [hx]; simp [T.refs]) (by simp [St.bk, bk_lt hk]) (fun {D ρ w v r} hv hb => by
                have hv : RT D ρ w (s.ev x) v := hv
                rw [hx] at hv; obtain ⟨r', e1, e2⟩ := hv _ hb; obtain rfl := e1.ptr; exact e2) hs) (.inl ⟨rfl, rfl⟩)⟩
            · exact h.elim
        · exact h.elim
      · next b base rel hx0 =>
        have hx := (evG_cases hx0).resolve_right (by rintro ⟨_, _, _, _, e⟩; cases e)
        split at h
        · next l hk =>
          obtain ⟨d, hd, hs⟩ := rdiK_spec h
          exact ⟨_, _, hd, ok_loadVar ho hY (b := b) (by rw [hx]; simp [T.refs]) hk (fun {D ρ w v r} hv hb => by
            rw [hx] at hv; obtain ⟨r', e1, e2⟩ := hv _ hb; obtain rfl := e1.ptr; exact e2) hs⟩
        · exact h.elim
      · next b n off hx0 =>
        have hx := (evG_cases hx0).resolve_right (by rintro ⟨_, _, _, _, e⟩; cases e)
        split at h
        · next e sz m l hk =>
          obtain ⟨rfl, h⟩ := h
          obtain ⟨d, hd, hs⟩ := rdiK_spec h
          exact ⟨_, _, hd, ok_loadOwn ho hY hx hk (by intro S w cs hcs; have := hs hcs; rwa [Nat.zero_add] at this)⟩
        · exact h.elim
      · next l off hx =>
        obtain ⟨hz, h⟩ := h
        obtain ⟨d, hd, hs⟩ := rdiK_spec h
        exact ⟨_, _, hd, ok_loadRef ho hY hx (by intro S w cs hcs; have := hs hcs; rwa [Nat.zero_add] at this) hz⟩
      · next l off hx0 =>
        have hx := (evG_cases hx0).resolve_right (by rintro ⟨_, _, _, _, e⟩; cases e)
        obtain ⟨hz, h⟩ := h
        obtain ⟨d, hd, hs⟩ := rdK_spec h
        exact ⟨_, _, hd, ok_loadSref ho hY hx (by intro S w cs hcs; exact hs hcs) hz⟩
      · next b hx0 =>
        have hx := (evG_cases hx0).resolve_right (by rintro ⟨_, _, _, _, e⟩; cases e)
        split at h
        · next hk => exact ⟨_, _, h.2.2, ok_loadBx ho hY h.1 h.2.1 hx hk⟩
        · exact h.elim
      · exact h.elim
  case h_9 t x y ho =>
    split at h
    · exact h.elim
    · next i hY =>
      split at h
      · next b base d hx hy =>
        split at h
        · next l hk =>
          obtain ⟨l', hl, hs⟩ := wrK_spec h
          exact ⟨_, _, hl, ok_store ho hY (b := b) (by rw [hx]; simp [T.refs]) hk hy (fun {D ρ w v r} hv hb => by
            rw [hx] at hv; obtain ⟨r', e1, e2⟩ := hv _ hb; obtain rfl := e1.ptr; exact e2) hs⟩
        · next l off e sz n m hk =>
          split at h
          · next l1 hl1 =>
            obtain ⟨l', hl, hs⟩ := wrK_spec h
            refine ⟨_, _, hl, OpOK.unh (x := x) (by rw [ho]; simp [Op.operands]) (by rw [hx]; simp [T.refs]) (by simp [looks, ho]) hk hl1 (ok_store (s := ⟨s.t, s.h.set b (some (.var l1))⟩) ho hY (b := b) (by show b ∈ (s.ev x).refs; rw [hx]; simp [T.refs]) (by simp [St.bk, bk_lt hk]) hy (fun {D ρ w v r} hv hb => by
              have hv : RT D ρ w (s.ev x) v := hv
              rw [hx] at hv; obtain ⟨r', e1, e2⟩ := hv _ hb; obtain rfl := e1.ptr; exact e2) hs) (.inr ⟨_, rfl, rfl⟩)⟩
          · exact h.elim
        · exact h.elim
      · next b base b' n' hx hy =>
        split at h
        · next l off p e sz n m hk =>
          obtain ⟨rfl, rfl, rfl, h1, h⟩ := h
          exact ⟨_, _, h, ok_storeH ho hY h1 hx hy hk⟩
        · exact h.elim
      · next b base rel d hx hy =>
        split at h
        · next l hk =>
          obtain ⟨l', hl, hs⟩ := wriK_spec h
          exact ⟨_, _, hl, ok_store ho hY (b := b) (by rw [hx]; simp [T.refs]) hk hy (fun {D ρ w v r} hv hb => by
            rw [hx] at hv; obtain ⟨r', e1, e2⟩ := hv _ hb; obtain rfl := e1.ptr; exact e2) hs⟩
        · exact h.elim
      · next b n off d hx hy =>
        split at h
        · next e sz m l hk =>
          obtain ⟨rfl, h1, h2, h⟩ := h
          obtain ⟨l', hl, hs⟩ := wriK_spec h
          exact ⟨_, _, hl, ok_storeOwn ho hY hx hk h1 h2 hy hs⟩
        · exact h.elim
      · exact h.elim
  case h_10 t x f ho =>
    split at h
    · exact h.elim
    · next i hY =>
      split at h
      · exact h.elim
      · next off hf =>
        split at h
        · next b base hx => exact ⟨_, _, h, ok_fieldAddr ho hY hf hx ⟨b, base, .inl ⟨rfl, rfl⟩⟩⟩
        · next b base rel hx => exact ⟨_, _, h, ok_fieldAddr ho hY hf hx ⟨b, base, .inr ⟨rel, .inl ⟨rfl, rfl⟩⟩⟩⟩
        · next b n q hx =>
          split at h
          · next e sz m l hk =>
            obtain ⟨rfl, h⟩ := h
            exact ⟨_, _, h, ok_fieldAddr ho hY hf hx ⟨b, n, .inr ⟨q, .inr ⟨rfl, rfl, e, sz, l, hk⟩⟩⟩⟩
          · exact h.elim
        · next l q hx => exact ⟨_, _, h, ok_fieldRef ho hY hf hx⟩
        · next l q hx => exact ⟨_, _, h, ok_fieldSref ho hY hf hx⟩
        · exact h.elim
  case h_11 t x ix ho =>
    split at h
    · exact h.elim
    · next i hY =>
      obtain ⟨he, h⟩ := h
      split at h
      · next k' z hi =>
        split at h
        · next b base hx0 => exact ⟨_, _, h.2.2.2, ok_indexArr ho hY he h.1 hi h.2.1 h.2.2.1 (.inl ⟨(evG_cases hx0).resolve_right (by rintro ⟨_, _, _, _, e⟩; cases e), rfl⟩)⟩
        · next b base rel hx0 => exact ⟨_, _, h.2.2.2, ok_indexArr ho hY he h.1 hi h.2.1 h.2.2.1 (.inr ⟨rel, (evG_cases hx0).resolve_right (by rintro ⟨_, _, _, _, e⟩; cases e), rfl⟩)⟩
        · next l off hx => exact ⟨_, _, h.2.2.2, ok_indexRef ho hY he h.1 hi h.2.1 h.2.2.1 hx⟩
        · next l off hx0 =>
          obtain ⟨h1, h2, h3, h⟩ := h
          split at h
          · next hc => exact ⟨_, _, h, ok_indexSref ho hY he h1 hi h2 h3 ((evG_cases hx0).resolve_right (by rintro ⟨_, _, _, _, e⟩; cases e)) hc⟩
          · exact h.elim
        · next n l hx0 => exact ⟨_, _, h.2.2.2.2, ok_indexRow ho hY he h.1 hi h.2.1 h.2.2.1 ((evG_cases hx0).resolve_right (by rintro ⟨_, _, _, _, e⟩; cases e)) h.2.2.2.1⟩
        · next n sz f hx0 => obtain ⟨h1, h2, h3, rfl, h4⟩ := h; exact ⟨_, _, h4, ok_indexRecs ho hY he h1 hi h2 h3 ((evG_cases hx0).resolve_right (by rintro ⟨_, _, _, _, e⟩; cases e))⟩
        · next b n off hx0 =>
          have hx := (evG_cases hx0).resolve_right (by rintro ⟨_, _, _, _, e⟩; cases e)
          split at h
          · next e sz m l hk =>
            obtain ⟨rfl, h1, h2, h3, h⟩ := h
            exact ⟨_, _, h, ok_indexEpt ho hY he h1 hi h2 h3 hx hk⟩
          · exact h.elim
        · next b n hx0 =>
          have hx := (evG_cases hx0).resolve_right (by rintro ⟨_, _, _, _, e⟩; cases e)
          split at h
          · next e sz m l hk =>
            obtain ⟨h1, h2, h3, rfl, h5, h⟩ := h
            exact ⟨_, _, h, ok_indexOwn ho hY he h1 hi h2 h3 hx hk⟩
          · exact h.elim
        · next b base n hx0 => exact ⟨_, _, h.2.2.2, ok_indexWin ho hY he h.1 hi h.2.1 h.2.2.1 ((evG_cases hx0).resolve_right (by rintro ⟨_, _, _, _, e⟩; cases e))⟩
        · exact h.elim
      · exact h.elim
  case h_12 t x ix ho =>
    split at h
    · exact h.elim
    · next i hY =>
      obtain ⟨he, hl, h⟩ := h
      split at h
      · next l k' z j hx hi hj =>
        obtain ⟨h0, h1, h⟩ := h
        obtain ⟨d, hd, hs⟩ := rdiK_spec h
        exact ⟨_, _, hd, ok_index ho hY he hl hx hi hj h0 h1 hs⟩
      · exact h.elim
  case h_13 t x f ho =>
    split at h
    · exact h.elim
    · next i hY =>
      split at h
      · next off ft l hf hft hx =>
        split at h
        · next j hj =>
          obtain ⟨d, hd, hs⟩ := rdK_spec h
          exact ⟨_, _, hd, ok_field ho hY hf hft hx hj hs⟩
        · exact h.elim
      · exact h.elim
  case h_14 t parts ho =>
    split at h
    · exact h.elim
    · next i hY =>
      obtain ⟨ha, hl, h⟩ := h
      obtain ⟨l, hK, hr⟩ := ok_build ho hY ha hl h
      exact ⟨_, _, hK, hr⟩
  case h_15 src dst x ho =>
    split at h
    · next si i k' z hs hY hx =>
      split at h
      · next q hq => exact ⟨_, _, h, ok_conv ho hs hY hx hq⟩
      · exact h.elim
    · next si i b hs hY hx => exact ⟨_, _, h.2.2.2.2, ok_strB ho hY h.1 h.2.1 h.2.2.1 h.2.2.2.1 hx⟩
    · next si i hs hY _ _ => exact ok_str ho hs h.1 h.2.1 h.2.2.1 h.2.2.2
    · exact h.elim
  case h_16 t x lo hi mx ho =>
    split at h
    · next i b base hY hx => exact ⟨_, _, h.2.2.2, ok_win ho hY h.1 h.2.1 h.2.2.1 hx⟩
    · next i b base y hY hx =>
      obtain ⟨h1, h2, h3, h⟩ := h
      split at h
      · next z hz => exact ⟨_, _, h.2.2, ok_winH ho hY h1 h2 h3 hx hz h.1 h.2.1⟩
      · exact h.elim
    · next i b base rel hY hx => exact ⟨_, _, h.2.2.2, ok_winI ho hY h.1 h.2.1 h.2.2.1 hx⟩
    · next i n l lo hi hY hx =>
      obtain ⟨h1, h2, h⟩ := h
      obtain ⟨a, h, ha⟩ := bndK_spec h
      obtain ⟨b, ⟨h3, h4, h⟩, hb⟩ := bndK_spec h
      obtain ⟨m, hm, h5, h6⟩ := subK_spec h
      exact ⟨_, _, hm, ok_sub ho hY h1 h2 hx ha hb h3 h4 h5 h6⟩
    · next i b n hi hY hx =>
      obtain ⟨h1, h2, h⟩ := h
      split at h
      · next e sz q l hk =>
        obtain ⟨rfl, h⟩ := h
        obtain ⟨c, ⟨h3, h⟩, hb⟩ := bndK_spec h
        exact ⟨_, _, h, ok_pre ho hY h1 h2 hx hk hb h3⟩
      · exact h.elim
    · exact h.elim
  case h_17 c ho =>
    split at h
    · next y hc =>
      split at h
      · next f hy0 =>
        have hy := fnOf_spec hy0
        split at h
        · split at h
          · exact ok_call ho hc hy h
          · next pos b rest hl =>
            split at h
            · next p hb => exact ok_callB ho hc hy hl hb h.1 h.2
            · exact h.elim
        · next pos b rest hl =>
          split at h
          · next p hb => exact ok_callObj ho hc hy hl hb h.1 h.2
          · next l0 hb => exact ok_callVar ho hc hy hl hb h.1 h.2
          · exact h.elim
      · split at h
        · next f cs hy =>
          obtain ⟨ds, lent, hC, hargs⟩ := argK_spec h
          obtain ⟨r, hok, hr⟩ := E.hC _ _ _ hC
          cases r with
          | d x => exact ⟨_, _, hr.2, ok_callClo ho hc hy (E.hF _ _ _ hC) hargs hok hr.1⟩
          | _ => exact hr.elim
        · exact h.elim
    · next hc =>
      split at h
      · next x y t t' ha ht =>
        obtain ⟨rfl, h⟩ := h
        split at h
        · next i hY =>
          obtain ⟨hs1, he, h⟩ := h
          split at h
          · next j hj =>
            obtain ⟨hjb, hjs, h⟩ := h
            obtain ⟨m, news, ⟨hseg, h⟩, hsrc⟩ := srcK_spec (E := E) h
            split at h
            · next b n hx =>
              split at h
              · next e sz q l hk =>
                obtain ⟨rfl, rfl, rfl, hb, h⟩ := h
                exact ⟨_, _, h, ok_append ho hc ha ht hY hs1 he hj hjb hjs hsrc hseg hx hk hb⟩
              · exact h.elim
            · next b n hx =>
              split at h
              · next l off p e sz q m0 hk =>
                obtain ⟨rfl, rfl, rfl, hb, h⟩ := h
                exact ⟨_, _, h, ok_appendH ho hc ha ht hY hs1 he hj hjb hjs hsrc hseg hx hk hb⟩
              · exact h.elim
            · next hx => exact ⟨_, _, h.2, ok_appendNew ho hc ha ht hY hs1 he hj hjb hjs hsrc hseg hx h.1⟩
            · exact h.elim
          · exact h.elim
        · exact h.elim
      · exact h.elim
    · next hc =>
      split at h
      · next x y t t' ha ht =>
        split at h
        · next i hY =>
          obtain ⟨hs1, he, h⟩ := h
          obtain ⟨m, news, ⟨hseg, h⟩, hsrc⟩ := srcK_spec (E := E) h
          split at h
          · next b base n hx =>
            split at h
            · next l hk =>
              obtain ⟨hmn, h⟩ := h
              obtain ⟨l', h, hd⟩ := wrK_spec h
              exact ⟨_, _, h, ok_copy ho hc ha ht hY hs1 he hsrc hseg hx hk hmn hd⟩
            · exact h.elim
          · exact h.elim
        · exact h.elim
      · exact h.elim
    · next hc =>
      split at h
      · next q x q' y ha => exact ⟨_, _, h, ok_minmax (mx := false) ho hc ha⟩
      · exact h.elim
    · next hc =>
      split at h
      · next q x q' y ha => exact ⟨_, _, h, ok_minmax (mx := true) ho hc ha⟩
      · exact h.elim
    · next hc =>
      split at h
      · next x t ha ht =>
        split at h
        · next b hx => exact ⟨_, _, h.2, ok_lenStr ho hc ha ht h.1 hx⟩
        · next hx0 =>
          split at h
          · next i hY =>
            obtain ⟨h1, h⟩ := h
            split at h
            · next n l hx => exact ⟨_, _, h, ok_len ho hc ha ht hY h1 (.inl (.inl ⟨l, hx⟩))⟩
            · next n sz f hx => exact ⟨_, _, h, ok_len ho hc ha ht hY h1 (.inl (.inr ⟨sz, f, hx⟩))⟩
            · next b n hx =>
              split at h
              · next e sz m l hk =>
                obtain ⟨rfl, h⟩ := h
                exact ⟨_, _, h, ok_len ho hc ha ht hY h1 (.inr (.inl ⟨b, e, sz, l, hx, hk⟩))⟩
              · exact h.elim
            · next b base n hx => exact ⟨_, _, h, ok_len ho hc ha ht hY h1 (.inr (.inr (.inl ⟨b, base, hx⟩)))⟩
            · next hx => exact ⟨_, _, h, ok_len ho hc ha ht hY h1 (.inr (.inr (.inr ⟨_, _, hx⟩)))⟩
            · next hx => exact ⟨_, _, h, ok_len ho hc ha ht hY h1 (.inr (.inr (.inr ⟨_, _, hx⟩)))⟩
            · exact h.elim
          · exact h.elim
      · exact h.elim
    · exact h.elim
  case h_18 x i ho =>
    split at h
    · next l hx =>
      split at h
      · next d hd => exact ⟨_, _, h, ok_extract ho hx hd⟩
      · exact h.elim
    · exact h.elim
  case h_19 x ho =>
    split at h
    · next b base hx => exact ⟨_, _, h, ok_nilCheck ho (.inl ⟨b, base, hx, rfl⟩)⟩
    · next b base rel hx => exact ⟨_, _, h, ok_nilCheck ho (.inr ⟨b, base, rel, hx, rfl⟩)⟩
    · next l q hx => exact ⟨_, _, h, ok_nilRef ho hx (.inl ⟨_, _, rfl⟩)⟩
    · next l q hx => exact ⟨_, _, h, ok_nilRef ho hx (.inr ⟨_, _, rfl⟩)⟩
    · exact h.elim
  case h_20 t x y ho =>
    split at h
    · next i q n q' c hY hx hy =>
      obtain ⟨h1, h2, rfl, h3, h4, h⟩ := h
      split at h
      · next j hj =>
        obtain ⟨h5, h6, h⟩ := h
        split at h
        · exact ⟨_, _, h, (ok_make ho hY h1 h2 hx hy h3 h4 hj h5 h6).freeze⟩
        · exact ⟨_, _, h, ok_make ho hY h1 h2 hx hy h3 h4 hj h5 h6⟩
      · exact h.elim
    · exact h.elim
  case h_21 t len parts ho =>
    split at h
    · exact h.elim
    · next i hY =>
      obtain ⟨h1, h2, h⟩ := h
      split at h
      · obtain ⟨hp, h⟩ := h
        split at h
        · next j hj => exact ⟨_, _, h, ok_build0 ho hY h1 h2 hj hp⟩
        · exact h.elim
      · obtain ⟨h3, h4, h⟩ := h
        split at h
        · next j hj =>
          split at h
          · next hsl =>
            obtain ⟨h5, h⟩ := h
            split at h
            · next ps hps =>
              obtain ⟨h6, h7, h⟩ := h
              split at h
              · split at h
                · next l hl =>
                  have h9 := (ok_buildRows (fr := fr) ho hY h1 h5 h3 h4 hj h7 hps h6).rows hl
                  rw [h6] at h9
                  exact ⟨_, _, h, h9⟩
                · exact h.elim
              · exact ⟨_, _, h, ok_buildRows ho hY h1 h5 h3 h4 hj h7 hps h6⟩
            · exact h.elim
          · obtain ⟨hjs, h⟩ := h
            obtain ⟨l, hK, hr⟩ := ok_buildSlice ho hY h1 h2 h3 h4 hj hjs h
            split at hK
            · exact ⟨_, _, hK, hr.freeze⟩
            · exact ⟨_, _, hK, hr⟩
        · exact h.elim
  case h_22 t x ho =>
    split at h
    · next i n l hY hx => exact ⟨_, _, h.2.2.2, ok_toArr ho hY h.1 h.2.1 h.2.2.1 hx⟩
    · exact h.elim
  case h_23 => exact h.elim
end
end Go.Proofs.Ytanpamcecaoanaa
