/-
  Operations of the machine without memory: structs built, compared; calls; and that all of them are the program's. No program is named here.
-/
import Derived.Test.YtcfdlffjghlghaaA8
import Derived.Laws.Tables
namespace Go.Proofs.Ytcfdlffjghlghaa
set_option maxRecDepth 100000
open Go.RowKit
set_option linter.unusedVariables false
set_option linter.unusedSimpArgs false

theorem splice_fold (off : Nat) : ∀ (vs : List Value) (j : Nat) (cs : Array Value), off + j + vs.length ≤ cs.size →
    ((vs.zipIdx j).foldl (fun cs (x : Value × Nat) => cs.setIfInBounds (off + x.2) x.1) cs).toList = cs.toList.take (off + j) ++ (vs ++ cs.toList.drop (off + j + vs.length))
  | [], j, cs, h => by simp
  | v :: vs, j, cs, h => by
    simp only [List.length_cons] at h
    rw [List.zipIdx_cons, List.foldl_cons, splice_fold off vs (j + 1) _ (by simp; omega)]
    simp only [Array.toList_setIfInBounds, List.length_cons]
    have h1 : off + j < cs.toList.length := by simp; omega
    rw [List.set_eq_take_append_cons_drop, if_pos h1]
    have e1 : (cs.toList.take (off + j)).length = off + j := by simp; omega
    rw [List.take_append, List.take_of_length_le (by omega), e1, show off + (j + 1) - (off + j) = 1 by omega, List.take_succ_cons, List.take_zero,
      List.drop_append, List.drop_of_length_le (by omega), e1, List.nil_append, show off + (j + 1) + vs.length - (off + j) = vs.length + 1 by omega, List.drop_succ_cons, List.drop_drop]
    simp only [List.append_assoc, List.cons_append, List.nil_append]
    have e2 : ∀ a b : Nat, a = b → cs.toList.drop a = cs.toList.drop b := fun a b h => by rw [h]
    rw [e2 _ (off + j + (vs.length + 1)) (by omega)]

section
variable {E : EnvX} {o : Oper} {s : St} {fr : Nat}

theorem fillA_spec {off : Nat → Option (Nat × Nat)} {s : St} : ∀ {parts : List (Nat × Operand)} {l : List Seg} {K : List Seg → Prop}, fillA off s parts l K → ∃ l', K l' ∧
    ∀ {D : Nat → Prop} {w : World} {ρ : Nat → Option Value} (ev : Operand → Value) (cs : Array Value), (∀ p ∈ parts, RT D ρ w (s.ev p.2) (ev p.2)) → RL D w l cs.toList →
      ∃ cs', Instr.fill off cs (parts.map fun p => (p.1, ev p.2)) = some cs' ∧ RL D w l' cs'.toList
  | [], l, K, h => ⟨l, h, fun ev cs _ hl => ⟨cs, rfl, hl⟩⟩
  | (i, x) :: r, l, K, h => by
    unfold fillA at h
    split at h
    · next q n d ho hx =>
      obtain ⟨hn0, h⟩ := h
      obtain ⟨l1, h1, h2⟩ := wrK_spec h
      obtain ⟨l2, hK, h3⟩ := fillA_spec h1
      refine ⟨l2, hK, fun {D w ρ} ev cs hp hl => ?_⟩
      have hv : RA D w d (ev x) := by have := hp (i, x) (by simp); rw [hx] at this; exact this
      obtain ⟨k1, k2, k3, k4⟩ := h2 hl hv
      have hq : q + (ev x).cells.size ≤ cs.size := by
        rcases k3 with k3 | k3
        · simp at k3; omega
        · exact absurd k3 hn0
      have hf : ((ev x).cells.zipIdx.foldl (fun cs (c, j) => cs.setIfInBounds (q + j) c) cs).toList = cs.toList.take q ++ ((ev x).cells.toList ++ cs.toList.drop (q + n)) := by
        rw [← Array.foldl_toList, Array.toList_zipIdx]
        have := splice_fold q (ev x).cells.toList 0 cs (by simp; omega)
        rw [this]
        simp [k1]
      rw [← hf] at k4
      obtain ⟨cs', h5, h6⟩ := h3 ev _ (fun p hp' => hp p (by simp [hp'])) k4
      refine ⟨cs', ?_, h6⟩
      simp only [List.map_cons, Instr.fill, ho]
      rw [if_neg (by simp [k1]; omega)]
      exact h5
    · exact h.elim

theorem ok_build {t : TypeId} {parts : Array (Nat × Operand)} {i : TI} {K : List Seg → Prop} (ho : o.op = .build t parts) (hY : E.Y t = some i) (ha : i.agg = true) (hl : i.esz ≠ 0 → i.len ≠ 0)
    (h : fillA (fun f => if i.esz = 0 then i.plc[f]? else some (f * i.esz, i.esz)) s parts.toList i.zero K) : ∃ l, K l ∧ OpOK E o s fr (.d (.agg l)) none := by
  obtain ⟨l, hK, hf⟩ := fillA_spec h
  refine ⟨l, hK, .pure (fun b hb => by simp [T.refs] at hb) fun S base w0 s' ρ a w hs g => ?_⟩
  obtain ⟨f, z, h1, h2, _, h3, h4⟩ := (E.hY t i hY).info
  obtain ⟨cs', h5, h6⟩ := hf (D := Dt S base ρ) (w := w) (ρ := ρ) a.eval z.cells (fun p hp => by
    have hm : p.2 ∈ o.op.operands := by rw [ho]; simp only [Op.operands, List.mem_toArray, List.mem_map]; exact ⟨p, hp, rfl⟩
    have := g.ev p.2; rwa [(hs _ hm).1] at this) (zeroB_spec h4)
  refine ⟨.agg cs', ?_, by have := RA.agg h6; rwa [Array.toArray_toList] at this⟩
  have hb : E.P.built t ((parts.map fun (i, x) => (i, a.eval x)).toList) = some cs' := by
    have e1 : (parts.map fun (i, x) => (i, a.eval x)).toList = parts.toList.map fun p => (p.1, a.eval p.2) := by rw [Array.toList_map]
    rw [e1]
    unfold Program.built
    by_cases he : i.esz = 0
    · obtain ⟨fs, k1, k2⟩ := (E.hY t i hY).plc ha he
      simp only [h1, k1, h3, k2]
      rw [← h5]
      congr 1
      funext q
      rw [if_pos he]; simp
    · have k1 := (E.hY t i hY).alen (hl he)
      obtain ⟨_, j, k2, k3⟩ := (E.hY t i hY).arr he
      simp only [h1, k1, h3, k2]
      rw [← h5]
      congr 1
      funext q
      rw [if_neg he, k3]
  simp only [execOp, ho, Sem.run_bind, run_build w t _ _ hb, Result.andThen_ok, Sem.run_pure]

theorem sameKind_kinds {S S' : Nat → Prop} {w w' : World} : ∀ {l m : List Seg} {cs ds : List Value}, sameKind l m = true → RL S w l cs → RL S' w' m ds → cs.map cellKind = ds.map cellKind
  | [], [], _, _, _, h1, h2 => by rw [h1.nil_inv, h2.nil_inv]
  | [], _ :: _, _, _, h, _, _ => by cases h
  | .ints k n a :: l, [], _, _, h, _, _ => by cases h
  | .bytes n a :: l, [], _, _, h, _, _ => by cases h
  | .bools n a :: l, [], _, _, h, _, _ => by cases h
  | .gen n a :: l, m, _, _, h, _, _ => by cases m <;> cases h
  | .ints k n a :: l, .ints k' n' b :: m, _, _, h, .ints h1 r1, .ints h2 r2 => by
    simp only [sameKind, Bool.and_eq_true, decide_eq_true_eq, beq_iff_eq] at h
    obtain ⟨⟨rfl, rfl⟩, h⟩ := h
    rw [List.map_append, List.map_append, sameKind_kinds h r1 r2]
    congr 1
    rw [List.map_map, List.map_map]
    refine List.ext_getElem (by simp [h1, h2]) fun i _ _ => by simp [cellKind]
  | .bytes n a :: l, .bytes n' b :: m, _, _, h, .bytes h1 r1, .bytes h2 r2 => by
    simp only [sameKind, Bool.and_eq_true, beq_iff_eq] at h
    obtain ⟨rfl, h⟩ := h
    rw [List.map_append, List.map_append, sameKind_kinds h r1 r2]
    congr 1
    refine List.ext_getElem (by simp [HL, h1, h2]) fun i _ _ => by simp [HL, cellKind]
  | .bools n a :: l, .bools n' b :: m, _, _, h, .bools h1 r1, .bools h2 r2 => by
    simp only [sameKind, Bool.and_eq_true, beq_iff_eq] at h
    obtain ⟨rfl, h⟩ := h
    rw [List.map_append, List.map_append, sameKind_kinds h r1 r2]
    congr 1
    rw [List.map_map, List.map_map]
    refine List.ext_getElem (by simp [h1, h2]) fun i _ _ => by simp [cellKind]
  | .ints k n a :: l, .bytes _ _ :: m, _, _, h, _, _ => by cases h
  | .ints k n a :: l, .bools _ _ :: m, _, _, h, _, _ => by cases h
  | .ints k n a :: l, .gen _ _ :: m, _, _, h, _, _ => by cases h
  | .bytes n a :: l, .ints _ _ _ :: m, _, _, h, _, _ => by cases h
  | .bytes n a :: l, .bools _ _ :: m, _, _, h, _, _ => by cases h
  | .bytes n a :: l, .gen _ _ :: m, _, _, h, _, _ => by cases h
  | .bools n a :: l, .ints _ _ _ :: m, _, _, h, _, _ => by cases h
  | .bools n a :: l, .bytes _ _ :: m, _, _, h, _, _ => by cases h
  | .bools n a :: l, .gen _ _ :: m, _, _, h, _, _ => by cases h
theorem HL_inj {a b : List UInt8} (h : HL a = HL b) : a = b := HC_inj (by unfold HC; exact congrArg List.toArray h)
theorem eqSegs_iff {S S' : Nat → Prop} {w w' : World} : ∀ {l m z : List Seg} {cs ds : List Value}, sameKind l z = true → sameKind m z = true → RL S w l cs → RL S' w' m ds → (eqSegs l m = true ↔ cs = ds)
  | [], [], _, _, _, _, _, h1, h2 => by rw [h1.nil_inv, h2.nil_inv]; simp [eqSegs]
  | .ints k n a :: l, .ints k' n' b :: m, .ints k2 n2 c :: z, _, _, h, h', .ints h1 r1, .ints h2 r2 => by
    simp only [sameKind, Bool.and_eq_true, decide_eq_true_eq, beq_iff_eq] at h h'
    obtain ⟨⟨rfl, rfl⟩, h⟩ := h
    obtain ⟨⟨rfl, rfl⟩, h'⟩ := h'
    have ih := eqSegs_iff h h' r1 r2
    simp only [eqSegs, Bool.and_eq_true, decide_eq_true_eq, ih]
    constructor
    · rintro ⟨rfl, rfl⟩; rfl
    · intro e
      obtain ⟨e1, e2⟩ := List.append_inj e (by simp [h1, h2])
      exact ⟨(List.map_inj_right (fun x y e => by cases e; rfl)).1 e1, e2⟩
  | .bytes n a :: l, .bytes n' b :: m, .bytes n2 c :: z, _, _, h, h', .bytes h1 r1, .bytes h2 r2 => by
    simp only [sameKind, Bool.and_eq_true, beq_iff_eq] at h h'
    obtain ⟨rfl, h⟩ := h
    obtain ⟨rfl, h'⟩ := h'
    have ih := eqSegs_iff h h' r1 r2
    simp only [eqSegs, Bool.and_eq_true, decide_eq_true_eq, ih]
    constructor
    · rintro ⟨rfl, rfl⟩; rfl
    · intro e
      obtain ⟨e1, e2⟩ := List.append_inj e (by simp [HL, h1, h2])
      exact ⟨HL_inj e1, e2⟩
  | .bools n a :: l, .bools n' b :: m, .bools n2 c :: z, _, _, h, h', .bools h1 r1, .bools h2 r2 => by
    simp only [sameKind, Bool.and_eq_true, beq_iff_eq] at h h'
    obtain ⟨rfl, h⟩ := h
    obtain ⟨rfl, h'⟩ := h'
    have ih := eqSegs_iff h h' r1 r2
    simp only [eqSegs, Bool.and_eq_true, decide_eq_true_eq, ih]
    constructor
    · rintro ⟨rfl, rfl⟩; rfl
    · intro e
      obtain ⟨e1, e2⟩ := List.append_inj e (by simp [h1, h2])
      exact ⟨(List.map_inj_right (fun x y e => by cases e; rfl)).1 e1, e2⟩
  | [], m, _ :: _, _, _, h, _, _, _ => by cases h
  | [], x :: _, [], _, _, _, h', _, _ => by cases x <;> cases h'
  | .gen _ _ :: _, _, z, _, _, h, _, _, _ => by cases z <;> cases h
  | .ints _ _ _ :: l, [], _ :: _, _, _, _, h', _, _ => by cases h'
  | .bytes _ _ :: l, [], _ :: _, _, _, _, h', _, _ => by cases h'
  | .bools _ _ :: l, [], _ :: _, _, _, _, h', _, _ => by cases h'
  | .ints _ _ _ :: l, _, [], _, _, h, _, _, _ => by cases h
  | .bytes _ _ :: l, _, [], _, _, h, _, _, _ => by cases h
  | .bools _ _ :: l, _, [], _, _, h, _, _, _ => by cases h
  | .ints _ _ _ :: l, _, .bytes _ _ :: _, _, _, h, _, _, _ => by cases h
  | .ints _ _ _ :: l, _, .bools _ _ :: _, _, _, h, _, _, _ => by cases h
  | .ints _ _ _ :: l, _, .gen _ _ :: _, _, _, h, _, _, _ => by cases h
  | .bytes _ _ :: l, _, .ints _ _ _ :: _, _, _, h, _, _, _ => by cases h
  | .bytes _ _ :: l, _, .bools _ _ :: _, _, _, h, _, _, _ => by cases h
  | .bytes _ _ :: l, _, .gen _ _ :: _, _, _, h, _, _, _ => by cases h
  | .bools _ _ :: l, _, .ints _ _ _ :: _, _, _, h, _, _, _ => by cases h
  | .bools _ _ :: l, _, .bytes _ _ :: _, _, _, h, _, _, _ => by cases h
  | .bools _ _ :: l, _, .gen _ _ :: _, _, _, h, _, _, _ => by cases h
  | .ints _ _ _ :: l, .bytes _ _ :: _, .ints _ _ _ :: _, _, _, _, h', _, _ => by cases h'
  | .ints _ _ _ :: l, .bools _ _ :: _, .ints _ _ _ :: _, _, _, _, h', _, _ => by cases h'
  | .ints _ _ _ :: l, .gen _ _ :: _, .ints _ _ _ :: _, _, _, _, h', _, _ => by cases h'
  | .bytes _ _ :: l, .ints _ _ _ :: _, .bytes _ _ :: _, _, _, _, h', _, _ => by cases h'
  | .bytes _ _ :: l, .bools _ _ :: _, .bytes _ _ :: _, _, _, _, h', _, _ => by cases h'
  | .bytes _ _ :: l, .gen _ _ :: _, .bytes _ _ :: _, _, _, _, h', _, _ => by cases h'
  | .bools _ _ :: l, .ints _ _ _ :: _, .bools _ _ :: _, _, _, _, h', _, _ => by cases h'
  | .bools _ _ :: l, .bytes _ _ :: _, .bools _ _ :: _, _, _, _, h', _, _ => by cases h'
  | .bools _ _ :: l, .gen _ _ :: _, .bools _ _ :: _, _, _, _, h', _, _ => by cases h'
theorem ok_eqAgg {op : BinOp} {t yt : TypeId} {x y : Operand} {i : TI} {l m : List Seg} {r : Bool} (ho : o.op = .binOp op t x y yt) (hx : s.ev x = .d (.agg l)) (hy : s.ev y = .d (.agg m)) (hY : E.Y t = some i) (he : i.eq = true) (h1 : sameKind l i.zero = true) (h2 : sameKind m i.zero = true)
    (hr : op = .eql ∧ r = eqSegs l m ∨ op = .neq ∧ r = !eqSegs l m) : OpOK E o s fr (.d (.v (.bool r))) none := by
  refine .pure (fun b hb => by simp [T.refs] at hb) fun S base w0 s' ρ a w hs g => ⟨_, ?_, .v _⟩
  have k1 := evData hs g (x := x) (by rw [ho]; simp [Op.operands]) hx
  have k2 := evData hs g (x := y) (by rw [ho]; simp [Op.operands]) hy
  generalize hv : a.eval x = v at k1
  generalize hu : a.eval y = u at k2
  obtain ⟨f, z, _, _, _, _, hz⟩ := (E.hY t i hY).info
  obtain ⟨e1, e2⟩ := E.hE t i hY he
  cases k1 with
  | agg k1 =>
    cases k2 with
    | agg k2 =>
      rename_i cs ds
      obtain ⟨b, hb, hbi⟩ := e2 w cs ds z.cells.toList hz (sameKind_kinds h1 k1 (zeroB_spec (S := S) (w := w) hz)) (sameKind_kinds h2 k2 (zeroB_spec (S := S) (w := w) hz))
      have hq : b = eqSegs l m := by
        have := eqSegs_iff h1 h2 k1 k2
        rw [Bool.eq_iff_iff, hbi, this]
      have hg := run_eqGuard_agg w op t x y cs.toArray ds.toArray e1
      rcases hr with ⟨rfl, rfl⟩ | ⟨rfl, rfl⟩
      · simp only [execOp, ho, hv, hu, Sem.run_bind, hg, Result.andThen_ok, binOp, Op.equal, Op.maxDepth, hb, Sem.run_pure, hq]
      · simp only [execOp, ho, hv, hu, Sem.run_bind, hg, Result.andThen_ok, binOp, Op.equal, Op.maxDepth, hb, Sem.run_pure, hq]
theorem ras_get {D : Nat → Prop} {w : World} : ∀ {l : List A} {vs : List Value} {i : Nat} {d : A}, RAs D w l vs → l[i]? = some d → ∃ v, vs[i]? = some v ∧ RA D w d v
  | _, _, 0, d, .cons h _, e => by cases e; exact ⟨_, rfl, h⟩
  | _, _, i + 1, d, .cons _ r, e => by
    obtain ⟨v, h1, h2⟩ := ras_get r (i := i) (by simpa using e)
    exact ⟨v, by simpa using h1, h2⟩
theorem ok_extract {x : Operand} {i : Nat} {l : List A} {d : A} (ho : o.op = .extract x i) (hx : s.ev x = .tup l) (hd : l[i]? = some d) : OpOK E o s fr (.d d) none := by
  refine .pure (fun b hb => by simp [T.refs] at hb) fun S base w0 s' ρ a w hs g => ?_
  have k1 := evData hs g (x := x) (by rw [ho]; simp [Op.operands]) hx
  obtain ⟨vs, h1, h2⟩ := k1
  obtain ⟨v, h3, h4⟩ := ras_get h2 hd
  refine ⟨v, ?_, h4⟩
  simp [execOp, ho, h1, Instr.extract, h3]
end
end Go.Proofs.Ytcfdlffjghlghaa
