/-
  Operations of the machine without memory: structs built, compared; calls; and that all of them are the program's. No program is named here.
-/
import Derived.Test.YtpemaphgmfaioaaGreatHA1
import Derived.Laws.Tables
import Derived.Great.BuildSlice
import Derived.Laws.OwnMore
import Derived.Test.YtpemaphgmfaioaaGreatHBase
namespace Go.Proofs.YtpemaphgmfaioaaGreat
set_option maxRecDepth 100000
open Go.RowKit
set_option linter.unusedVariables false
set_option linter.unusedSimpArgs false

theorem splice_fold (off : Nat) : ∀ (vs : List Value) (j : Nat) (cs : Array Value), off + j + vs.length ≤ cs.size →
    ((vs.zipIdx j).foldl (fun cs (x : Value × Nat) => cs.setIfInBounds (off + x.2) x.1) cs).toList = cs.toList.take (off + j) ++ (vs ++ cs.toList.drop (off + j + vs.length))
  | [], j, cs, h => by simp
  | v :: vs, j, cs, h => by
    simp only [List.length_cons] at h
    rw [List.zipIdx_cons, List.foldl_cons, splice_fold off vs (j + 1) _ (by simp; omega)]
    simp only [Array.toList_setIfInBounds, List.length_cons]
    have h1 : off + j < cs.toList.length := by simp; omega
    rw [List.set_eq_take_append_cons_drop, if_pos h1]
    have e1 : (cs.toList.take (off + j)).length = off + j := by simp; omega
    rw [List.take_append, List.take_of_length_le (by omega), e1, show off + (j + 1) - (off + j) = 1 by omega, List.take_succ_cons, List.take_zero,
      List.drop_append, List.drop_of_length_le (by omega), e1, List.nil_append, show off + (j + 1) + vs.length - (off + j) = vs.length + 1 by omega, List.drop_succ_cons, List.drop_drop]
    simp only [List.append_assoc, List.cons_append, List.nil_append]
    have e2 : ∀ a b : Nat, a = b → cs.toList.drop a = cs.toList.drop b := fun a b h => by rw [h]
    rw [e2 _ (off + j + (vs.length + 1)) (by omega)]

section
variable {E : EnvX} {o : Oper} {s : St} {fr : Nat}

theorem fillA_spec {off : Nat → Option (Nat × Nat)} {s : St} : ∀ {parts : List (Nat × Operand)} {l : List Seg} {K : List Seg → Prop}, fillA off s parts l K → ∃ l', K l' ∧
    ∀ {D : Nat → Prop} {w : World} {ρ : Nat → Option Value} (ev : Operand → Value) (cs : Array Value), (∀ p ∈ parts, RT D ρ w (s.ev p.2) (ev p.2)) → RL D w l cs.toList →
      ∃ cs', Instr.fill off cs (parts.map fun p => (p.1, ev p.2)) = some cs' ∧ RL D w l' cs'.toList
  | [], l, K, h => ⟨l, h, fun ev cs _ hl => ⟨cs, rfl, hl⟩⟩
  | (i, x) :: r, l, K, h => by
    unfold fillA at h
    split at h
    · next q n d ho hx =>
      obtain ⟨hn0, h⟩ := h
      obtain ⟨l1, h1, h2⟩ := wrK_spec h
      obtain ⟨l2, hK, h3⟩ := fillA_spec h1
      refine ⟨l2, hK, fun {D w ρ} ev cs hp hl => ?_⟩
      have hv : RA D w d (ev x) := by have := hp (i, x) (by simp); rw [hx] at this; exact this
      obtain ⟨k1, k2, k3, k4⟩ := h2 hl hv
      have hq : q + (ev x).cells.size ≤ cs.size := by
        rcases k3 with k3 | k3
        · simp at k3; omega
        · exact absurd k3 hn0
      have hf : ((ev x).cells.zipIdx.foldl (fun cs (c, j) => cs.setIfInBounds (q + j) c) cs).toList = cs.toList.take q ++ ((ev x).cells.toList ++ cs.toList.drop (q + n)) := by
        rw [← Array.foldl_toList, Array.toList_zipIdx]
        have := splice_fold q (ev x).cells.toList 0 cs (by simp; omega)
        rw [this]
        simp [k1]
      rw [← hf] at k4
      obtain ⟨cs', h5, h6⟩ := h3 ev _ (fun p hp' => hp p (by simp [hp'])) k4
      refine ⟨cs', ?_, h6⟩
      simp only [List.map_cons, Instr.fill, ho]
      rw [if_neg (by simp [k1]; omega)]
      exact h5
    · exact h.elim

theorem ok_build {t : TypeId} {parts : Array (Nat × Operand)} {i : TI} {K : List Seg → Prop} (ho : o.op = .build t parts) (hY : E.Y t = some i) (ha : i.agg = true) (hl : i.esz ≠ 0 → i.len ≠ 0)
    (h : fillA (fun f => if i.esz = 0 then i.plc[f]? else some (f * i.esz, i.esz)) s parts.toList i.zero K) : ∃ l, K l ∧ OpOK E o s fr (.d (.agg l)) none := by
  obtain ⟨l, hK, hf⟩ := fillA_spec h
  refine ⟨l, hK, .pure (fun b hb => by simp [T.refs] at hb) fun S base w0 s' ρ a w hs g => ?_⟩
  obtain ⟨f, z, h1, h2, _, h3, h4⟩ := (E.hY t i hY).info
  obtain ⟨cs', h5, h6⟩ := hf (D := Dt S base ρ) (w := w) (ρ := ρ) a.eval z.cells (fun p hp => by
    have hm : p.2 ∈ o.op.operands := by rw [ho]; simp only [Op.operands, List.mem_toArray, List.mem_map]; exact ⟨p, hp, rfl⟩
    have := g.ev p.2; rwa [(hs _ hm).1] at this) (zeroB_spec h4)
  refine ⟨.agg cs', ?_, by have := RA.agg h6; rwa [Array.toArray_toList] at this⟩
  have hb : E.P.built t ((parts.map fun (i, x) => (i, a.eval x)).toList) = some cs' := by
    have e1 : (parts.map fun (i, x) => (i, a.eval x)).toList = parts.toList.map fun p => (p.1, a.eval p.2) := by rw [Array.toList_map]
    rw [e1]
    unfold Program.built
    by_cases he : i.esz = 0
    · obtain ⟨fs, k1, k2⟩ := (E.hY t i hY).plc ha he
      simp only [h1, k1, h3, k2]
      rw [← h5]
      congr 1
      funext q
      rw [if_pos he]; simp
    · have k1 := (E.hY t i hY).alen (hl he)
      obtain ⟨_, j, k2, k3⟩ := (E.hY t i hY).arr he
      simp only [h1, k1, h3, k2]
      rw [← h5]
      congr 1
      funext q
      rw [if_neg he, k3]
  simp only [execOp, ho, Sem.run_bind, run_build w t _ _ hb, Result.andThen_ok, Sem.run_pure]

theorem sameKind_kinds {S S' : Nat → Prop} {w w' : World} : ∀ {l m : List Seg} {cs ds : List Value}, sameKind l m = true → RL S w l cs → RL S' w' m ds → cs.map cellKind = ds.map cellKind
  | [], [], _, _, _, h1, h2 => by rw [h1.nil_inv, h2.nil_inv]
  | [], _ :: _, _, _, h, _, _ => by cases h
  | .ints k n a :: l, [], _, _, h, _, _ => by cases h
  | .bytes n a :: l, [], _, _, h, _, _ => by cases h
  | .bools n a :: l, [], _, _, h, _, _ => by cases h
  | .gen n a :: l, m, _, _, h, _, _ => by cases m <;> cases h
  | .ints k n a :: l, .ints k' n' b :: m, _, _, h, .ints h1 r1, .ints h2 r2 => by
    simp only [sameKind, Bool.and_eq_true, decide_eq_true_eq, beq_iff_eq] at h
    obtain ⟨⟨rfl, rfl⟩, h⟩ := h
    rw [List.map_append, List.map_append, sameKind_kinds h r1 r2]
    congr 1
    rw [List.map_map, List.map_map]
    refine List.ext_getElem (by simp [h1, h2]) fun i _ _ => by simp [cellKind]
  | .bytes n a :: l, .bytes n' b :: m, _, _, h, .bytes h1 r1, .bytes h2 r2 => by
    simp only [sameKind, Bool.and_eq_true, beq_iff_eq] at h
    obtain ⟨rfl, h⟩ := h
    rw [List.map_append, List.map_append, sameKind_kinds h r1 r2]
    congr 1
    refine List.ext_getElem (by simp [HL, h1, h2]) fun i _ _ => by simp [HL, cellKind]
  | .bools n a :: l, .bools n' b :: m, _, _, h, .bools h1 r1, .bools h2 r2 => by
    simp only [sameKind, Bool.and_eq_true, beq_iff_eq] at h
    obtain ⟨rfl, h⟩ := h
    rw [List.map_append, List.map_append, sameKind_kinds h r1 r2]
    congr 1
    rw [List.map_map, List.map_map]
    refine List.ext_getElem (by simp [h1, h2]) fun i _ _ => by simp [cellKind]
  | .ints k n a :: l, .bytes _ _ :: m, _, _, h, _, _ => by cases h
  | .ints k n a :: l, .bools _ _ :: m, _, _, h, _, _ => by cases h
  | .ints k n a :: l, .gen _ _ :: m, _, _, h, _, _ => by cases h
  | .bytes n a :: l, .ints _ _ _ :: m, _, _, h, _, _ => by cases h
  | .bytes n a :: l, .bools _ _ :: m, _, _, h, _, _ => by cases h
  | .bytes n a :: l, .gen _ _ :: m, _, _, h, _, _ => by cases h
  | .bools n a :: l, .ints _ _ _ :: m, _, _, h, _, _ => by cases h
  | .bools n a :: l, .bytes _ _ :: m, _, _, h, _, _ => by cases h
  | .bools n a :: l, .gen _ _ :: m, _, _, h, _, _ => by cases h
theorem HL_inj {a b : List UInt8} (h : HL a = HL b) : a = b := HC_inj (by unfold HC; exact congrArg List.toArray h)
theorem eqSegs_iff {S S' : Nat → Prop} {w w' : World} : ∀ {l m z : List Seg} {cs ds : List Value}, sameKind l z = true → sameKind m z = true → RL S w l cs → RL S' w' m ds → (eqSegs l m = true ↔ cs = ds)
  | [], [], _, _, _, _, _, h1, h2 => by rw [h1.nil_inv, h2.nil_inv]; simp [eqSegs]
  | .ints k n a :: l, .ints k' n' b :: m, .ints k2 n2 c :: z, _, _, h, h', .ints h1 r1, .ints h2 r2 => by
    simp only [sameKind, Bool.and_eq_true, decide_eq_true_eq, beq_iff_eq] at h h'
    obtain ⟨⟨rfl, rfl⟩, h⟩ := h
    obtain ⟨⟨rfl, rfl⟩, h'⟩ := h'
    have ih := eqSegs_iff h h' r1 r2
    simp only [eqSegs, Bool.and_eq_true, decide_eq_true_eq, ih]
    constructor
    · rintro ⟨rfl, rfl⟩; rfl
    · intro e
      obtain ⟨e1, e2⟩ := List.append_inj e (by simp [h1, h2])
      exact ⟨(List.map_inj_right (fun x y e => by cases e; rfl)).1 e1, e2⟩
  | .bytes n a :: l, .bytes n' b :: m, .bytes n2 c :: z, _, _, h, h', .bytes h1 r1, .bytes h2 r2 => by
    simp only [sameKind, Bool.and_eq_true, beq_iff_eq] at h h'
    obtain ⟨rfl, h⟩ := h
    obtain ⟨rfl, h'⟩ := h'
    have ih := eqSegs_iff h h' r1 r2
    simp only [eqSegs, Bool.and_eq_true, decide_eq_true_eq, ih]
    constructor
    · rintro ⟨rfl, rfl⟩; rfl
    · intro e
      obtain ⟨e1, e2⟩ := List.append_inj e (by simp [HL, h1, h2])
      exact ⟨HL_inj e1, e2⟩
  | .bools n a :: l, .bools n' b :: m, .bools n2 c :: z, _, _, h, h', .bools h1 r1, .bools h2 r2 => by
    simp only [sameKind, Bool.and_eq_true, beq_iff_eq] at h h'
    obtain ⟨rfl, h⟩ := h
    obtain ⟨rfl, h'⟩ := h'
    have ih := eqSegs_iff h h' r1 r2
    simp only [eqSegs, Bool.and_eq_true, decide_eq_true_eq, ih]
    constructor
    · rintro ⟨rfl, rfl⟩; rfl
    · intro e
      obtain ⟨e1, e2⟩ := List.append_inj e (by simp [h1, h2])
      exact ⟨(List.map_inj_right (fun x y e => by cases e; rfl)).1 e1, e2⟩
  | [], m, _ :: _, _, _, h, _, _, _ => by cases h
  | [], x :: _, [], _, _, _, h', _, _ => by cases x <;> cases h'
  | .gen _ _ :: _, _, z, _, _, h, _, _, _ => by cases z <;> cases h
  | .ints _ _ _ :: l, [], _ :: _, _, _, _, h', _, _ => by cases h'
  | .bytes _ _ :: l, [], _ :: _, _, _, _, h', _, _ => by cases h'
  | .bools _ _ :: l, [], _ :: _, _, _, _, h', _, _ => by cases h'
  | .ints _ _ _ :: l, _, [], _, _, h, _, _, _ => by cases h
  | .bytes _ _ :: l, _, [], _, _, h, _, _, _ => by cases h
  | .bools _ _ :: l, _, [], _, _, h, _, _, _ => by cases h
  | .ints _ _ _ :: l, _, .bytes _ _ :: _, _, _, h, _, _, _ => by cases h
  | .ints _ _ _ :: l, _, .bools _ _ :: _, _, _, h, _, _, _ => by cases h
  | .ints _ _ _ :: l, _, .gen _ _ :: _, _, _, h, _, _, _ => by cases h
  | .bytes _ _ :: l, _, .ints _ _ _ :: _, _, _, h, _, _, _ => by cases h
  | .bytes _ _ :: l, _, .bools _ _ :: _, _, _, h, _, _, _ => by cases h
  | .bytes _ _ :: l, _, .gen _ _ :: _, _, _, h, _, _, _ => by cases h
  | .bools _ _ :: l, _, .ints _ _ _ :: _, _, _, h, _, _, _ => by cases h
  | .bools _ _ :: l, _, .bytes _ _ :: _, _, _, h, _, _, _ => by cases h
  | .bools _ _ :: l, _, .gen _ _ :: _, _, _, h, _, _, _ => by cases h
  | .ints _ _ _ :: l, .bytes _ _ :: _, .ints _ _ _ :: _, _, _, _, h', _, _ => by cases h'
  | .ints _ _ _ :: l, .bools _ _ :: _, .ints _ _ _ :: _, _, _, _, h', _, _ => by cases h'
  | .ints _ _ _ :: l, .gen _ _ :: _, .ints _ _ _ :: _, _, _, _, h', _, _ => by cases h'
  | .bytes _ _ :: l, .ints _ _ _ :: _, .bytes _ _ :: _, _, _, _, h', _, _ => by cases h'
  | .bytes _ _ :: l, .bools _ _ :: _, .bytes _ _ :: _, _, _, _, h', _, _ => by cases h'
  | .bytes _ _ :: l, .gen _ _ :: _, .bytes _ _ :: _, _, _, _, h', _, _ => by cases h'
  | .bools _ _ :: l, .ints _ _ _ :: _, .bools _ _ :: _, _, _, _, h', _, _ => by cases h'
  | .bools _ _ :: l, .bytes _ _ :: _, .bools _ _ :: _, _, _, _, h', _, _ => by cases h'
  | .bools _ _ :: l, .gen _ _ :: _, .bools _ _ :: _, _, _, _, h', _, _ => by cases h'
theorem ok_eqAgg {op : BinOp} {t yt : TypeId} {x y : Operand} {i : TI} {l m : List Seg} {r : Bool} (ho : o.op = .binOp op t x y yt) (hx : s.ev x = .d (.agg l)) (hy : s.ev y = .d (.agg m)) (hY : E.Y t = some i) (he : i.eq = true) (h1 : sameKind l i.zero = true) (h2 : sameKind m i.zero = true)
    (hr : op = .eql ∧ r = eqSegs l m ∨ op = .neq ∧ r = !eqSegs l m) : OpOK E o s fr (.d (.v (.bool r))) none := by
  refine .pure (fun b hb => by simp [T.refs] at hb) fun S base w0 s' ρ a w hs g => ⟨_, ?_, .v _⟩
  have k1 := evData hs g (x := x) (by rw [ho]; simp [Op.operands]) hx
  have k2 := evData hs g (x := y) (by rw [ho]; simp [Op.operands]) hy
  generalize hv : a.eval x = v at k1
  generalize hu : a.eval y = u at k2
  obtain ⟨f, z, _, _, _, _, hz⟩ := (E.hY t i hY).info
  obtain ⟨e1, e2⟩ := E.hE t i hY he
  cases k1 with
  | agg k1 =>
    cases k2 with
    | agg k2 =>
      rename_i cs ds
      obtain ⟨b, hb, hbi⟩ := e2 w cs ds z.cells.toList hz (sameKind_kinds h1 k1 (zeroB_spec (S := S) (w := w) hz)) (sameKind_kinds h2 k2 (zeroB_spec (S := S) (w := w) hz))
      have hq : b = eqSegs l m := by
        have := eqSegs_iff h1 h2 k1 k2
        rw [Bool.eq_iff_iff, hbi, this]
      have hg := run_eqGuard_agg w op t x y cs.toArray ds.toArray e1
      rcases hr with ⟨rfl, rfl⟩ | ⟨rfl, rfl⟩
      · simp only [execOp, ho, hv, hu, Sem.run_bind, hg, Result.andThen_ok, binOp, Op.equal, Op.maxDepth, hb, Sem.run_pure, hq]
      · simp only [execOp, ho, hv, hu, Sem.run_bind, hg, Result.andThen_ok, binOp, Op.equal, Op.maxDepth, hb, Sem.run_pure, hq]
theorem ras_get {D : Nat → Prop} {w : World} : ∀ {l : List A} {vs : List Value} {i : Nat} {d : A}, RAs D w l vs → l[i]? = some d → ∃ v, vs[i]? = some v ∧ RA D w d v
  | _, _, 0, d, .cons h _, e => by cases e; exact ⟨_, rfl, h⟩
  | _, _, i + 1, d, .cons _ r, e => by
    obtain ⟨v, h1, h2⟩ := ras_get r (i := i) (by simpa using e)
    exact ⟨v, by simpa using h1, h2⟩
theorem ok_extract {x : Operand} {i : Nat} {l : List A} {d : A} (ho : o.op = .extract x i) (hx : s.ev x = .tup l) (hd : l[i]? = some d) : OpOK E o s fr (.d d) none := by
  refine .pure (fun b hb => by simp [T.refs] at hb) fun S base w0 s' ρ a w hs g => ?_
  have k1 := evData hs g (x := x) (by rw [ho]; simp [Op.operands]) hx
  obtain ⟨vs, h1, h2⟩ := k1
  obtain ⟨v, h3, h4⟩ := ras_get h2 hd
  refine ⟨v, ?_, h4⟩
  simp [execOp, ho, h1, Instr.extract, h3]
end
end Go.Proofs.YtpemaphgmfaioaaGreat

/-
  Slices: appending, literals. No program is named here.
-/
namespace Go.Proofs.YtpemaphgmfaioaaGreat
set_option maxRecDepth 100000
open Go.RowKit
set_option linter.unusedVariables false
set_option linter.unusedSimpArgs false

section
variable {S : Nat → Prop} {w : World}
theorem RL.join {l m : List Seg} {cs ds : List Value} (h : RL S w l cs) (k : RL S w m ds) : RL S w (joinS l m) (cs ++ ds) := by
  unfold joinS
  split
  · rw [h.nil_inv]; exact k
  · split
    · next e =>
      subst e
      obtain ⟨h1, rfl⟩ := h.toInts
      obtain ⟨h2, rfl⟩ := k.toInts
      exact .ofInts (by simp [h1, h2]) (by simp)
    · exact h.append k
  · obtain ⟨h1, rfl⟩ := h.toBytes
    obtain ⟨h2, rfl⟩ := k.toBytes
    exact .ofBytes (by simp [h1, h2]) (by simp [HL])
  · obtain ⟨h1, rfl⟩ := h.toBools
    obtain ⟨h2, rfl⟩ := k.toBools
    exact .ofBools (by simp [h1, h2]) (by simp)
  · obtain ⟨h1, g⟩ := h.toGen
    obtain ⟨h2, g2⟩ := k.toGen
    exact .ofGen (by simp [h1, h2]) (g.append g2)
  · exact h.append k
theorem RL.many {l : List Seg} {cs : List Value} (h : RL S w l cs) (m : Nat) : RL S w (manyS m l) (List.replicate m cs).flatten := by
  unfold manyS
  split
  · obtain ⟨h1, rfl⟩ := h.toInts
    refine .ofInts (by simp [h1]) ?_
    simp [List.map_flatten]
  · obtain ⟨h1, rfl⟩ := h.toBytes
    refine .ofBytes (by simp [h1]) ?_
    simp [HL, List.map_flatten]
  · obtain ⟨h1, rfl⟩ := h.toBools
    refine .ofBools (by simp [h1]) ?_
    simp [List.map_flatten]
  · obtain ⟨h1, g⟩ := h.toGen
    refine .ofGen (by simp [h1]) ?_
    induction m with
    | zero => exact .nil
    | succ m ih => simpa [List.replicate_succ] using g.append ih
  · rename_i l' _ _ _ _
    induction m with
    | zero => exact .nil
    | succ m ih => simpa [List.replicate_succ] using h.append ih
end
theorem many_cells (zs : Array Value) (hz : zs.size ≠ 0) (m : Nat) : (((Array.range (m * zs.size)).map (zs[· % zs.size]!)).toList) = (List.replicate m zs.toList).flatten := by
  have key : ∀ m, (List.range (m * zs.size)).map (fun i => zs[i % zs.size]!) = (List.replicate m zs.toList).flatten := by
    intro m
    induction m with
    | zero => simp
    | succ m ih =>
      rw [List.replicate_succ', List.flatten_append, ← ih, Nat.add_mul, Nat.one_mul, List.range_add, List.map_append]
      congr 1
      simp only [List.flatten_cons, List.flatten_nil, List.append_nil, List.map_map]
      refine List.ext_getElem (by simp) fun i h1 h2 => ?_
      simp at h1
      simp [Nat.add_comm (m * zs.size), Nat.add_mul_mod_self_right, Nat.mod_eq_of_lt h1, getElem!_pos zs i h1]
  rw [Array.toList_map, ← key]
  simp

section
variable {E : EnvX} {o : Oper} {s : St} {fr : Nat}

/-- a new slice of one's own -/
theorem Good.newSl {G : Nat → Option (List Seg)} {S : Nat → Prop} {base : Nat} {w0 : W0 G} {s : St} {ρ : Nat → Option Value} {a : Act} {w w' : World} (g : Good S base w0 s ρ a w) {fr : Nat} (hfr : s.bk fr = none) (hlt : fr < s.h.length) (hw : w.grownBy w' none)
    {e : TypeId} {sz n : Nat} {l : List Seg} {cs : List Value} {v : Value} (hown : w'.ownsRow w.heap.size e sz v n cs)
    (hl : RL (Dt S base (upd ρ fr (some v))) w' l cs) (d : Option Nat) : Good S base w0 (s.app d (.own fr n) (some (fr, .sl e sz n l))) (upd ρ fr (some v)) (a.put d v) w' := by
  have hform : ∃ ad c, v = .slice ad n c := by
    rcases hown.2 with ⟨e1, e2⟩ | ⟨q, cap, cur, e1, _⟩
    · exact ⟨_, _, by rw [e1, e2]⟩
    · exact ⟨_, _, e1⟩
  have hreal : ∀ q, realOf v = some q → w.heap.size ≤ q ∧ q < w'.heap.size := by
    intro q hq
    rcases hown.2 with ⟨e1, e2⟩ | ⟨q', cap, cur, e1, e3, e4, _⟩
    · rw [e1] at hq; cases hq
    · rw [e1] at hq; cases hq
      exact ⟨e3, (Array.getElem?_eq_some_iff.1 e4).1⟩
  have g2 := g.change fr hlt v (.sl e sz n l) none hw (by simp) (fun q hq => ⟨.inl (hreal q hq).1, (hreal q hq).2⟩) (by
      intro K0
      refine ⟨v, cs, by simp [upd], ⟨hown.1, ?_⟩, hl⟩
      rcases hown.2 with h | ⟨q', cap, cur, e1, e3, e4⟩
      · exact .inl h
      · exact .inr ⟨q', cap, cur, e1, Nat.le_trans g.size e3, e4⟩) (by
      intro _ i hi hm
      exact absurd hfr (g.dang i fr hm)) (fun q hq => by have h0 := g.b fr; rw [hfr] at h0; have h0' : ρ fr = none := h0; rw [h0'] at hq; cases hq)
  refine g2.put' d (t := .own fr n) ?_ ?_
  · intro u hu
    simp [upd] at hu
    obtain ⟨ad, c', e1⟩ := hform
    exact ⟨ad, n, c', by rw [← hu, e1], Nat.le_refl _, fun _ => hu⟩
  · intro b hb
    simp [T.refs] at hb
    subst hb
    simp [St.bk, getD_set_list, hlt]
/-- data stay data beside a new block -/
theorem Dt.new {S : Nat → Prop} {base : Nat} {ρ : Nat → Option Value} {w w' : World} {v : Value} {fr : Nat} (hw : w.grownBy w' none) (hv : ∀ q, realOf v = some q → w.heap.size ≤ q) (hfr : ρ fr = none) : Keeps (Dt S base ρ) w (Dt S base (upd ρ fr (some v))) w' := by
  refine ⟨hw.size, fun r hr hd => ⟨⟨hd.1, fun b u hb hu => ?_⟩, fun o => World.cell?_of_block (hw.block r hr (by simp))⟩⟩
  by_cases e : b = fr
  · subst e
    simp [upd] at hb; subst hb
    have := hv r hu; omega
  · simp [upd, e] at hb
    exact hd.2 b u hb hu

theorem fill_size {off : Nat → Option (Nat × Nat)} : ∀ {l : List (Nat × Value)} {cs cs' : Array Value}, Instr.fill off cs l = some cs' → cs'.size = cs.size
  | [], cs, cs', h => by simp [Instr.fill] at h; rw [h]
  | (i, v) :: r, cs, cs', h => by
    unfold Instr.fill at h
    split at h
    · cases h
    · next q n hq =>
      split at h
      · cases h
      · have := fill_size h
        rw [this]
        have key : ∀ (l : List (Value × Nat)) (cs : Array Value), (l.foldl (fun cs (x : Value × Nat) => cs.setIfInBounds (q + x.2) x.1) cs).size = cs.size := by
          intro l
          induction l with
          | nil => intro cs; rfl
          | cons x l ih => intro cs; rw [List.foldl_cons, ih]; simp
        rw [← Array.foldl_toList]
        exact key _ _
theorem ok_buildSlice {t : TypeId} {len : Nat} {parts : Array (Nat × Operand)} {i j : TI} {K : List Seg → Prop} (ho : o.op = .buildSlice t len parts) (hY : E.Y t = some i) (hs1 : i.sl = true) (he : i.esz ≠ 0) (hl : len ≠ 0) (hm : len * i.esz ≤ 16777216) (hj : E.Y i.elem = some j) (hjs : segN j.zero = i.esz)
    (h : fillA (fun f => some (f * i.esz, i.esz)) s parts.toList (manyS len j.zero) K) : ∃ l, K l ∧ OpOK E o s fr (.own fr len) (some (fr, .sl i.elem i.esz len l)) := by
  obtain ⟨l, hK, hf⟩ := fillA_spec h
  refine ⟨l, hK, fun b hb => .inl ⟨by simpa [T.refs] using hb, _, rfl⟩, fun b x e => by cases e; exact .inl rfl, fun S base w0 s' ρ a w K' Q hs g hfr hlt hK' => ?_⟩
  obtain ⟨f, z, h1, h2, _, h3, h4⟩ := (E.hY _ j hj).info
  obtain ⟨_, f', h5, h6⟩ := (E.hY t i hY).arr he
  rw [h1] at h5; cases h5
  have hu := (E.hY t i hY).sl hs1
  have hz := zeroB_spec (S := Dt S base ρ) (w := w) h4
  have hzl : z.cells.size = f.size := by have := hz.len; rw [hjs, ← h6] at this; simpa using this
  have hpos : f.size ≠ 0 := by rw [h6]; exact he
  have hzn : z.cells.size ≠ 0 := by rw [hzl]; exact hpos
  have hc := many_cells z.cells hzn len
  obtain ⟨cs', h7, h8⟩ := hf (D := Dt S base ρ) (w := w) (ρ := ρ) a.eval ((Array.range (len * f.size)).map (z.cells[· % z.cells.size]!)) (fun p hp => by
    have hm : p.2 ∈ o.op.operands := by rw [ho]; simp only [Op.operands, List.mem_toArray, List.mem_map]; exact ⟨p, hp, rfl⟩
    have := g.ev p.2; rwa [(hs _ hm).1] at this) (by rw [← hzl, hc]; exact hz.many len)
  have hsz : cs'.size = len * f.size := by
    rw [fill_size h7]; simp
  have hr := run_buildSlice (P := E.P) w t i.elem len (parts.map fun (i, x) => (i, a.eval x)) cs' f z hu h1 h3 (by rw [h6]; omega) (by rw [h6]; exact Nat.mul_ne_zero hl he) (by
    rw [Array.toList_map, h6]; rw [h6] at h7; exact h7)
  have hw : w.grownBy (w.alloc (.cells cs' i.elem)) none := ⟨rfl, rfl, rfl, by rw [size_alloc]; omega, fun k hk _ => Below.heap_alloc _ _ _ hk⟩
  have hρ : ρ fr = none := by have := g.b fr; rw [hfr] at this; exact this
  unfold Oper.wp execOp
  simp only [ho, Sem.run_bind, hr, Result.andThen_ok, Sem.run_pure]
  refine hK' _ _ _ (g.newSl hfr hlt hw (cs := cs'.toList) ⟨?_, .inr ⟨w.heap.size, len, cs', rfl, Nat.le_refl _, heap_alloc_new _ _, Nat.le_refl _, ?_, ?_, ?_⟩⟩ (h8.up (Dt.new hw (fun q hq => by simp [realOf] at hq; omega) hρ)) o.dst)
  · rw [Array.length_toList, hsz, h6]
  · have : len ≤ len * i.esz := Nat.le_mul_of_pos_right _ (Nat.pos_of_ne_zero he)
    unfold maxLen; omega
  · rw [hsz, h6]
  · rw [List.take_of_length_le (by rw [Array.length_toList, hsz, h6]; exact Nat.le_refl _)]

/-- a slice of nothing that is not nil -/
theorem ok_build0 {t : TypeId} {parts : Array (Nat × Operand)} {i j : TI} (ho : o.op = .buildSlice t 0 parts) (hY : E.Y t = some i) (hs1 : i.sl = true) (he : i.esz ≠ 0) (hj : E.Y i.elem = some j) (hp : parts.toList = []) :
    OpOK E o s fr (.own fr 0) (some (fr, .sl i.elem i.esz 0 (manyS 0 j.zero))) := by
  refine ⟨fun b hb => .inl ⟨by simpa [T.refs] using hb, _, rfl⟩, fun b x e => by cases e; exact .inl rfl, fun S base w0 s' ρ a w K' Q hs g hfr hlt hK' => ?_⟩
  obtain ⟨f, z, h1, h2, _, h3, h4⟩ := (E.hY _ j hj).info
  obtain ⟨_, f', h5, h6⟩ := (E.hY t i hY).arr he
  rw [h1] at h5; cases h5
  have hu := (E.hY t i hY).sl hs1
  have hz := zeroB_spec (S := Dt S base ρ) (w := w) h4
  have hpa : parts = #[] := by cases parts; simp_all
  subst hpa
  have hr : (Instr.buildSlice t 0 (#[].map fun (p : Nat × Operand) => (p.1, a.eval p.2))).run E.P w = .ok (.slice (some ⟨w.heap.size, 0, none⟩) 0 0) (w.alloc (.cells #[] i.elem)) := by
    simp [Instr.buildSlice, run_underlying hu, sizeOf, typeInfo, h1, Instr.fill, newRow]
    exact congrArg (fun c => w.alloc (.cells c i.elem)) (Array.eq_empty_of_size_eq_zero (by simp))
  have hw : w.grownBy (w.alloc (.cells #[] i.elem)) none := ⟨rfl, rfl, rfl, by rw [size_alloc]; omega, fun k hk _ => Below.heap_alloc _ _ _ hk⟩
  have hρ : ρ fr = none := by have := g.b fr; rw [hfr] at this; exact this
  have hm := hz.many 0
  rw [List.replicate_zero, List.flatten_nil] at hm
  unfold Oper.wp execOp
  simp only [ho, Sem.run_bind, hr, Result.andThen_ok, Sem.run_pure]
  refine hK' _ _ _ (g.newSl hfr hlt hw (cs := []) ⟨by simp, .inr ⟨w.heap.size, 0, #[], rfl, Nat.le_refl _, heap_alloc_new _ _, Nat.le_refl _, Nat.zero_le _, by simp, by simp⟩⟩ (hm.up (Dt.new hw (fun q hq => by simp [realOf] at hq; omega) hρ)) o.dst)
theorem srcK_spec {y : Operand} {K : Nat → List Seg → Prop} (h : srcK s (s.ev y) K) : ∃ m news, K m news ∧
    ∀ (S : Nat → Prop) (base : Nat) (w0 : W0 E.G) (s' : St) (ρ : Nat → Option Value) (a : Act) (w : World), s'.ev y = s.ev y → (∀ b ∈ (s.ev y).refs, s'.bk b = s.bk b) → Good S base w0 s' ρ a w →
      ∃ ad c cs, a.eval y = .slice ad m c ∧ RL (Dt S base ρ) w news cs ∧ ((ad = none ∧ c = 0 ∧ m = 0 ∧ cs = []) ∨ ∃ a', ad = some a' ∧ ∀ j u, cs[j]? = some u → w.cell? (a'.add j) = some u) := by
  unfold srcK at h
  split at h
  · next n l hy =>
    refine ⟨n, l, h, fun S base w0 s' ρ a w h1 h2 g => ?_⟩
    have hv := g.ev y
    rw [h1, hy] at hv
    generalize a.eval y = v at hv
    cases hv with
    | row k k1 k2 k3 k4 =>
      rename_i c cs ad
      refine ⟨ad, c, cs, rfl, k, ?_⟩
      rcases k4 with k4 | ⟨b, q, rfl, k5, k6, k7⟩
      · subst k4
        cases ad with
        | none => have := k3 rfl; exact .inl ⟨rfl, this, by omega, rfl⟩
        | some a' => exact .inr ⟨a', rfl, fun j u hj => by simp at hj⟩
      · refine .inr ⟨_, rfl, fun j u hj => ?_⟩
        obtain ⟨hlt, e⟩ := List.getElem?_eq_some_iff.1 hj
        rw [add_at, k7 j hlt, e]
  · next b n hy =>
    split at h
    · next e sz m l hk =>
      obtain ⟨rfl, h⟩ := h
      refine ⟨n, l, h, fun S base w0 s' ρ a w h1 h2 g => ?_⟩
      have hv := g.ev y
      rw [h1, hy] at hv
      obtain ⟨cs, k1, k2, k3⟩ := own_now g ((h2 b (by rw [hy]; simp [T.refs])).trans hk) hv
      rcases k2.2 with ⟨e1, e2⟩ | ⟨r, cap, cur, e1, e3, e4, e5, e6, e7, e8⟩
      · refine ⟨none, 0, cs, by rw [e1, e2], k3, .inl ⟨rfl, rfl, e2, ?_⟩⟩
        have := k2.1; rw [e2, Nat.zero_mul] at this; exact List.length_eq_zero_iff.1 this
      · refine ⟨_, cap, cs, e1, k3, .inr ⟨_, rfl, k2.cells (g := r) (by rw [e1]; rfl)⟩⟩
    · exact h.elim
  · next b q n hy =>
    split at h
    · next l hk =>
      split at h
      · next m hm =>
        obtain ⟨hle, h⟩ := h
        refine ⟨n, m, h, fun S base w0 s' ρ a w h1 h2 g => ?_⟩
        have hv := g.ev y
        rw [h1, hy] at hv
        obtain ⟨r, cs, ty, k1, k2, k3, k4⟩ := g.var ((h2 b (by rw [hy]; simp [T.refs])).trans hk)
        obtain ⟨r', c, e1, e2, e3, e4⟩ := hv _ k1
        cases e1
        refine ⟨_, c, _, e2, (k4.cut hm).1, .inr ⟨_, rfl, fun j u hj => ?_⟩⟩
        rw [add_at, cells_of k3]
        rw [List.getElem?_take] at hj
        split at hj
        · rw [List.getElem?_drop] at hj; exact hj
        · cases hj
      · exact h.elim
    · exact h.elim
  · next hy =>
    refine ⟨0, [], h, fun S base w0 s' ρ a w h1 h2 g => ?_⟩
    have hv := g.ev y
    rw [h1, hy] at hv
    exact ⟨none, 0, [], RA.plain hv, .nil, .inl ⟨rfl, rfl, rfl, rfl⟩⟩
  · exact h.elim

theorem run_append_own_same {P : Program} {w : World} (base : Nat) (t ty e : TypeId) (i : TypeInfo) (size : Nat) (ht : P.underlying t = some (.slice e)) (hi : P.info? e = some i) (hsize : i.size = size)
    (v : Value) (n : Nat) (xs : List Value) (hown : w.ownsRow base e size v n xs) (a : Addr) (c : Nat) : (Builtin.append_ #[t, t] ty #[v, .slice (some a) 0 c]).run P w = .ok v w := by
  subst hsize
  rcases hown.2 with ⟨rfl, rfl⟩ | ⟨g, cap, cur, rfl, hbg, hg, hnc, hcm, hcs, htake⟩
  · simp [Builtin.append_, run_underlying ht, sizeOf, typeInfo, hi, Builtin.lenOf, Builtin.firstCells, loadCells, loadCellsFrom]
  · have hr := run_append_room (P := P) w t ty e i ht hi g n cap cur hg a 0 c [] (by simp) (by simp) (by simp) (by omega) (by simp [hcs]; exact Nat.mul_le_mul_right _ hnc)
    rw [hr]
    have : (List.take (n * i.size) cur.toList ++ [] ++ List.drop (n * i.size + ([] : List Value).length) cur.toList).toArray = cur := by simp
    rw [this, setRow_self w g cur e (0, 0) hg]
    simp

theorem ok_append {c : Call} {x y : Operand} {t : TypeId} {i j : TI} {b n : Nat} {l : List Seg} (ho : o.op = .call c) (hc : c.callee = .builtin .append) (ha : c.args.toList = [x, y]) (ht : c.argTypes.toList = [t, t]) (hY : E.Y t = some i) (hs1 : i.sl = true) (he : i.esz ≠ 0)
    (hj : E.Y i.elem = some j) (hjb : j.bytes ≠ 0) (hjs : segN j.zero = i.esz) {m : Nat} {news : List Seg}
    (hsrc : ∀ (S : Nat → Prop) (base : Nat) (w0 : W0 E.G) (s' : St) (ρ : Nat → Option Value) (a : Act) (w : World), s'.ev y = s.ev y → (∀ b ∈ (s.ev y).refs, s'.bk b = s.bk b) → Good S base w0 s' ρ a w →
      ∃ ad c cs, a.eval y = .slice ad m c ∧ RL (Dt S base ρ) w news cs ∧ ((ad = none ∧ c = 0 ∧ m = 0 ∧ cs = []) ∨ ∃ a', ad = some a' ∧ ∀ j u, cs[j]? = some u → w.cell? (a'.add j) = some u))
    (hseg : segN news = m * i.esz) (hx : s.ev x = .own b n) (hk : s.bk b = some (.sl i.elem i.esz n l)) (hb : (n + m) * j.bytes ≤ 140737488355328) :
    OpOK E o s fr (.own b (n + m)) (some (b, .sl i.elem i.esz (n + m) (joinS l news))) := by
  have hca : c.args = #[x, y] := by cases hq : c.args; simp_all
  have hct : c.argTypes = #[t, t] := by cases hq : c.argTypes; simp_all
  have hmx : x ∈ o.op.operands := by rw [ho]; simp [Op.operands, Call.operands, hc, hca]
  have hmy : y ∈ o.op.operands := by rw [ho]; simp [Op.operands, Call.operands, hc, hca]
  have hlk : looks o = true := by simp [looks, ho]
  refine ⟨fun q hq => .inr ⟨x, hmx, by rw [hx]; simpa [T.refs] using hq⟩, fun q z e => by cases e; exact .inr ⟨x, hmx, by rw [hx]; simp [T.refs]⟩, fun S base w0 s' ρ a w K' Q hs g hfr hlt hK' => ?_⟩
  obtain ⟨ad, c', ns, h1, h2, h3⟩ := hsrc S base w0 s' ρ a w (hs y hmy).1 (fun q hq => hs.bk hmy hlk hq) g
  have hbk : s'.bk b = some (.sl i.elem i.esz n l) := (hs.bk hmx hlk (by rw [hx]; simp [T.refs])).trans hk
  obtain ⟨cs, k1, k2, k3⟩ := own_now g hbk (evData hs g hmx hx)
  obtain ⟨_, f, h5, h6⟩ := (E.hY t i hY).arr he
  obtain ⟨f', z, h7, h8, h9, h10, h11⟩ := (E.hY _ j hj).info
  rw [h5] at h7; cases h7
  have hu := (E.hY t i hY).sl hs1
  have hns : ns.length = m * i.esz := by rw [h2.len, hseg]
  have hform : ∃ ad c, a.eval x = .slice ad n c := by
    rcases k2.2 with ⟨e1, e2⟩ | ⟨q, cap, cur, e1, _⟩
    · exact ⟨_, _, by rw [e1, e2]⟩
    · exact ⟨_, _, e1⟩
  have hbl := bk_lt hbk
  have hrun : ∀ {v' w'}, (Builtin.append_ #[t, t] o.type #[a.eval x, a.eval y]).run E.P w = .ok v' w' → (∀ ρ' , Good S base w0 (s'.app o.dst (.own b (n + m)) (some (b, .sl i.elem i.esz (n + m) (joinS l news)))) ρ' (a.put o.dst v') w' → o.wp E.P a w K' Q) := by
    intro v' w' hr ρ' hg
    unfold Oper.wp execOp
    simp only [ho, hc, hca, hct, resolve, invoke, builtin, Sem.run_bind, Sem.run_pure, Result.andThen_ok, List.map_toArray, List.map_cons, List.map_nil, hr]
    exact hK' _ _ _ hg
  -- nothing is appended
  have same : m = 0 → ns = [] → (Builtin.append_ #[t, t] o.type #[a.eval x, a.eval y]).run E.P w = .ok (a.eval x) w → o.wp E.P a w K' Q := by
    intro hm hn hr
    subst hm; subst hn
    have hupd : upd ρ b (some (a.eval x)) = ρ := by
      funext q; unfold upd; split
      · next e => rw [e, k1]
      · rfl
    have g2 := g.change b hbl (a.eval x) (.sl i.elem i.esz (n + 0) (joinS l news)) none ⟨rfl, rfl, rfl, Nat.le_refl _, fun _ _ _ => rfl⟩ (by simp) (fun r hr => ⟨.inr ⟨_, k1, hr⟩, (g.low b _ r k1 hr).2⟩) (by
      rw [hupd]
      intro K0
      refine ⟨a.eval x, cs ++ [], k1, ?_, k3.join h2⟩
      rw [List.append_nil]; exact k2) (by
      rw [hupd]
      intro _ q hq _
      exact g.t q hq) (fun q hq => by rw [k1] at hq; exact Option.some.inj hq)
    rw [hupd] at g2
    refine hrun hr ρ (g2.put' o.dst (t := .own b (n + 0)) ?_ ?_)
    · intro u hu
      rw [k1] at hu; cases hu
      obtain ⟨ad, c', e⟩ := hform
      exact ⟨ad, n, c', e, Nat.le_refl _, fun _ => rfl⟩
    · intro q hq
      simp [T.refs] at hq; subst hq
      simp [St.bk, getD_set_list, hbl]
  rcases h3 with ⟨rfl, rfl, hm, hn⟩ | ⟨a', rfl, h12⟩
  · refine same hm hn ?_
    rw [h1, hm]
    exact run_append_owned_none (P := E.P) (w := w) base t o.type i.elem f i.esz hu h5 _ n cs k2
  · by_cases hm : m = 0
    · refine same hm (by rw [hm, Nat.zero_mul] at hns; exact List.length_eq_zero_iff.1 hns) ?_
      rw [h1, hm]
      exact run_append_own_same base t o.type i.elem f i.esz hu h5 h6 _ n cs k2 a' c'
    · have hz := (zeroB_spec (S := S) (w := w) h11).len
      have h63 : n + m ≤ maxLen := by
        have : n + m ≤ (n + m) * j.bytes := Nat.le_mul_of_pos_right _ (Nat.pos_of_ne_zero hjb)
        unfold maxLen; omega
      obtain ⟨v', w', hr, k4, k5, k6, k7⟩ := run_append_own_at (P := E.P) w base t o.type i.elem f z i.esz j.bytes hu h5 h10 h6 h9 (by
          rw [hjs] at hz; simpa using hz) (Nat.pos_of_ne_zero he) _ n cs k2 a' m c' ns hns h12 h2.one h63 hb g.size
      have hob : ∀ v, (∃ ad n c, v = Value.slice ad n c) → realOf v = v.ownBlock := by
        rintro v ⟨ad, n, c, rfl⟩; cases ad <;> rfl
      have hform' : ∃ ad c, v' = .slice ad (n + m) c := by
        rcases k4.2 with ⟨e1, e2⟩ | ⟨q, cap, cur, e1, _⟩
        · exact ⟨_, _, by rw [e1, e2]⟩
        · exact ⟨_, _, e1⟩
      obtain ⟨ad1, c1, f1⟩ := hform
      obtain ⟨ad2, c2, f2⟩ := hform'
      have g2 := g.change b hbl v' (.sl i.elem i.esz (n + m) (joinS l news)) (a.eval x).ownBlock k5 (fun r hr => ⟨_, k1, by rw [hob _ ⟨_, _, _, f1⟩]; exact hr⟩) (fun r hr => by
          rw [hob _ ⟨_, _, _, f2⟩] at hr
          refine ⟨?_, ?_⟩
          · rcases k7 with k7 | k7
            · exact .inr ⟨_, k1, by rw [hob _ ⟨_, _, _, f1⟩, ← k7]; exact hr⟩
            · rw [k7] at hr; cases hr; exact .inl (Nat.le_refl _)
          · exact (k4.lt r hr).2) (by
          intro K0
          exact ⟨v', cs ++ ns, by simp [upd], k4, (k3.up K0).join (h2.up K0)⟩) (by
          intro K0 q hq hrf
          have hold := g.t q hq
          have nop : ∀ r : Nat, ∀ o', a.eval x = .pointer (some ⟨r, o', none⟩) → False := fun r o' e => by rw [f1] at e; cases e
          cases hT : s'.sl q with
          | d _ => rw [hT] at hrf; simp [T.refs] at hrf
          | tup _ => rw [hT] at hrf; simp [T.refs] at hrf
          | dead => rw [hT] at hrf; simp [T.refs] at hrf
          | ptr b' o' => rw [hT] at hrf hold; simp [T.refs] at hrf; subst hrf; obtain ⟨r, e, _⟩ := hold _ k1; exact (nop _ _ e).elim
          | pti b' o' r' => rw [hT] at hrf hold; simp [T.refs] at hrf; subst hrf; obtain ⟨r, e, _⟩ := hold _ k1; exact (nop _ _ e).elim
          | win b' o' r' => rw [hT] at hrf hold; simp [T.refs] at hrf; subst hrf; obtain ⟨r, _, e, _⟩ := hold _ k1; exact (nop _ _ e).elim
          | own b' n' =>
            rw [hT] at hrf hold; simp [T.refs] at hrf; subst hrf
            obtain ⟨_, n2, _, e, e2, _⟩ := hold _ k1
            rw [f1] at e; cases e
            intro u hu
            simp [upd] at hu; subst hu
            exact ⟨ad2, n + m, c2, f2, by omega, fun e => by omega⟩
          | ept b' n' off =>
            rw [hT] at hrf hold; simp [T.refs] at hrf; subst hrf
            obtain ⟨_, n2, _, e, e2, _⟩ := hold _ k1
            rw [f1] at e; cases e
            intro u hu
            simp [upd] at hu; subst hu
            exact ⟨ad2, n + m, c2, f2, by omega, fun e => by omega⟩
          | pre b' n0 n' =>
            rw [hT] at hrf hold; simp [T.refs] at hrf; subst hrf
            obtain ⟨_, n2, _, e, e2, _⟩ := hold _ k1
            rw [f1] at e; cases e
            intro u hu
            simp [upd] at hu; subst hu
            exact ⟨ad2, n + m, c2, f2, by omega, fun e => by omega⟩
          | rows ps =>
            rw [hT] at hold
            obtain ⟨vs, hp, hr⟩ := hold
            refine ⟨vs, hp.map fun p hp v hv => ?_, hr.up K0⟩
            by_cases hbp : b ∈ p.refs
            · cases p with
              | dat a' => simp [Pt.refs] at hbp
              | win b' o' n' => simp [Pt.refs] at hbp; subst hbp; obtain ⟨r, _, e, _⟩ := hv _ k1; exact (nop _ _ e).elim
              | own b' n' =>
                simp [Pt.refs] at hbp; subst hbp
                obtain ⟨_, n2, _, e, e2, _⟩ := hv _ k1
                rw [f1] at e; cases e
                intro u hu
                simp [upd] at hu; subst hu
                exact ⟨ad2, n + m, c2, f2, by omega, fun e => by omega⟩
            · exact hv.up K0 fun q hq => by
                have : q ≠ b := fun e => hbp (e ▸ hq)
                simp [upd, this]) (fun q hq => by rw [k1, f1] at hq; cases hq)
      refine hrun (by rw [h1]; exact hr) _ (g2.put' o.dst (t := .own b (n + m)) ?_ ?_)
      · intro u hu
        simp [upd] at hu; subst hu
        exact ⟨ad2, n + m, c2, f2, Nat.le_refl _, fun _ => rfl⟩
      · intro q hq
        simp [T.refs] at hq; subst hq
        simp [St.bk, getD_set_list, hbl]

theorem ok_appendNew {c : Call} {x y : Operand} {t : TypeId} {i j : TI} (ho : o.op = .call c) (hc : c.callee = .builtin .append) (ha : c.args.toList = [x, y]) (ht : c.argTypes.toList = [t, t]) (hY : E.Y t = some i) (hs1 : i.sl = true) (he : i.esz ≠ 0)
    (hj : E.Y i.elem = some j) (hjb : j.bytes ≠ 0) (hjs : segN j.zero = i.esz) {m : Nat} {news : List Seg}
    (hsrc : ∀ (S : Nat → Prop) (base : Nat) (w0 : W0 E.G) (s' : St) (ρ : Nat → Option Value) (a : Act) (w : World), s'.ev y = s.ev y → (∀ b ∈ (s.ev y).refs, s'.bk b = s.bk b) → Good S base w0 s' ρ a w →
      ∃ ad c cs, a.eval y = .slice ad m c ∧ RL (Dt S base ρ) w news cs ∧ ((ad = none ∧ c = 0 ∧ m = 0 ∧ cs = []) ∨ ∃ a', ad = some a' ∧ ∀ j u, cs[j]? = some u → w.cell? (a'.add j) = some u))
    (hseg : segN news = m * i.esz) (hx : s.ev x = .d (.v (.slice none 0 0))) (hb : m * j.bytes ≤ 140737488355328) :
    OpOK E o s fr (.own fr m) (some (fr, .sl i.elem i.esz m news)) := by
  have hca : c.args = #[x, y] := by cases hq : c.args; simp_all
  have hct : c.argTypes = #[t, t] := by cases hq : c.argTypes; simp_all
  have hmx : x ∈ o.op.operands := by rw [ho]; simp [Op.operands, Call.operands, hc, hca]
  have hmy : y ∈ o.op.operands := by rw [ho]; simp [Op.operands, Call.operands, hc, hca]
  have hlk : looks o = true := by simp [looks, ho]
  refine ⟨fun b hb => .inl ⟨by simpa [T.refs] using hb, _, rfl⟩, fun b x e => by cases e; exact .inl rfl, fun S base w0 s' ρ a w K' Q hs g hfr hlt hK' => ?_⟩
  obtain ⟨ad, c', ns, h1, h2, h3⟩ := hsrc S base w0 s' ρ a w (hs y hmy).1 (fun q hq => hs.bk hmy hlk hq) g
  obtain ⟨_, f, h5, h6⟩ := (E.hY t i hY).arr he
  obtain ⟨f', z, h7, h8, h9, h10, h11⟩ := (E.hY _ j hj).info
  rw [h5] at h7; cases h7
  have hu := (E.hY t i hY).sl hs1
  have hns : ns.length = m * i.esz := by rw [h2.len, hseg]
  have hxv := evPlain hs g hmx hx
  have hρ : ρ fr = none := by have := g.b fr; rw [hfr] at this; exact this
  have hnil : w.ownsRow w.heap.size i.elem i.esz (.slice none 0 0) 0 [] := World.ownsRow_nil _ _ _ _
  have hrun : ∀ {v' w'}, (Builtin.append_ #[t, t] o.type #[a.eval x, a.eval y]).run E.P w = .ok v' w' → (∀ ρ' , Good S base w0 (s'.app o.dst (.own fr m) (some (fr, .sl i.elem i.esz m news))) ρ' (a.put o.dst v') w' → o.wp E.P a w K' Q) := by
    intro v' w' hr ρ' hg
    unfold Oper.wp execOp
    simp only [ho, hc, hca, hct, resolve, invoke, builtin, Sem.run_bind, Sem.run_pure, Result.andThen_ok, List.map_toArray, List.map_cons, List.map_nil, hr]
    exact hK' _ _ _ hg
  have none' : w.grownBy w none := ⟨rfl, rfl, rfl, Nat.le_refl _, fun _ _ _ => rfl⟩
  have same : m = 0 → ns = [] → (Builtin.append_ #[t, t] o.type #[a.eval x, a.eval y]).run E.P w = .ok (.slice none 0 0) w → o.wp E.P a w K' Q := by
    intro hm hn hr
    subst hm; subst hn
    exact hrun hr _ (g.newSl hfr hlt none' hnil (h2.up (Dt.new none' (fun q hq => by simp [realOf] at hq) hρ)) o.dst)
  rcases h3 with ⟨rfl, rfl, hm, hn⟩ | ⟨a', rfl, h12⟩
  · refine same hm hn ?_
    rw [h1, hm, hxv]
    exact run_append_owned_none (P := E.P) (w := w) w.heap.size t o.type i.elem f i.esz hu h5 _ 0 [] hnil
  · by_cases hm : m = 0
    · refine same hm (by rw [hm, Nat.zero_mul] at hns; exact List.length_eq_zero_iff.1 hns) ?_
      rw [h1, hm, hxv]
      exact run_append_own_same w.heap.size t o.type i.elem f i.esz hu h5 h6 _ 0 [] hnil a' c'
    · have hz := (zeroB_spec (S := S) (w := w) h11).len
      have h63 : 0 + m ≤ maxLen := by
        have : m ≤ m * j.bytes := Nat.le_mul_of_pos_right _ (Nat.pos_of_ne_zero hjb)
        unfold maxLen; omega
      obtain ⟨v', w', hr, k4, k5, k6, k7⟩ := run_append_own_at (P := E.P) w w.heap.size t o.type i.elem f z i.esz j.bytes hu h5 h10 h6 h9 (by
          rw [hjs] at hz; simpa using hz) (Nat.pos_of_ne_zero he) _ 0 [] hnil a' m c' ns hns h12 h2.one h63 (by rw [Nat.zero_add]; exact hb) (Nat.le_refl _)
      rw [Nat.zero_add, List.nil_append] at k4
      have hgr : w.grownBy w' none := k5
      refine hrun (by rw [h1, hxv]; exact hr) _ (g.newSl hfr hlt hgr k4 (h2.up (Dt.new hgr (fun q hq => ?_) hρ)) o.dst)
      have hob : realOf v' = v'.ownBlock := by
        rcases k4.2 with ⟨e1, e2⟩ | ⟨q, cap, cur, e1, _⟩ <;> rw [e1] <;> rfl
      rw [hob] at hq
      exact (k4.lt q hq).1
end
end Go.Proofs.YtpemaphgmfaioaaGreat

/-
  What is handed in; slices in a row; more operations: slices made, written; bytes asx a text; the least and the greatest. No program is named here.
-/
namespace Go.Proofs.YtpemaphgmfaioaaGreat
set_option maxRecDepth 100000
open Go.RowKit
set_option linter.unusedVariables false
set_option linter.unusedSimpArgs false

section
variable {E : EnvX} {o : Oper} {s : St} {fr : Nat}

theorem anyKeeps {S : Nat → Prop} {w : World} : Keeps S w (fun _ => True) w := ⟨Nat.le_refl _, fun _ _ _ => ⟨trivial, fun _ => rfl⟩⟩
theorem toKeeps {S S' : Nat → Prop} {w : World} (h : ∀ q, S q → S' q) : Keeps S w S' w := ⟨Nat.le_refl _, fun q _ hs => ⟨h q hs, fun _ => rfl⟩⟩
theorem RAs.flat {S S' : Nat → Prop} {w w' : World} : ∀ {l : List A} {vs : List Value}, l.all flatA = true → RAs S w l vs → RAs S' w' l vs
  | _, _, _, .nil => .nil
  | _, _, h, .cons k r => by
    simp only [List.all_cons, Bool.and_eq_true] at h
    exact .cons (flat_RA h.1 k) (r.flat h.2)

/-- what is handed in -/
theorem rowsK_spec {s : St} : ∀ {ps : List Pt} {K : List A → Prop}, rowsK s ps K → ∃ rs, K rs ∧ rs.length = ps.length ∧
    ∀ (S : Nat → Prop) (base : Nat) (w0 : W0 E.G) (s' : St) (ρ : Nat → Option Value) (a : Act) (w : World) (vs : List Value), (∀ b ∈ ps.flatMap Pt.refs, s'.bk b = s.bk b) → Good S base w0 s' ρ a w → RPs (Dt S base ρ) ρ w ps vs →
      ∀ D' : Nat → Prop, (∀ q, Dt S base ρ q → D' q) → (∀ b ∈ ps.flatMap Pt.refs, ∀ u q, ρ b = some u → realOf u = some q → D' q) → RG D' w rs vs
  | [], K, h => ⟨[], h, rfl, fun S base w0 s' ρ a w vs _ _ hv D' _ _ => by cases hv; exact .nil⟩
  | p :: ps, K, h => by
    have go : ∀ {K' K1 : List A → Prop} {x : A}, rowsK s ps K1 → (∀ rs, K1 rs → K' (x :: rs)) → (∀ (S : Nat → Prop) (base : Nat) (w0 : W0 E.G) (s' : St) (ρ : Nat → Option Value) (a : Act) (w : World) (v : Value), (∀ b ∈ p.refs, s'.bk b = s.bk b) → Good S base w0 s' ρ a w → RP (Dt S base ρ) ρ w p v →
        ∀ D' : Nat → Prop, (∀ q, Dt S base ρ q → D' q) → (∀ b ∈ p.refs, ∀ u q, ρ b = some u → realOf u = some q → D' q) → RA D' w x v ∧ v.oneCell' = true) →
        ∃ rs, K' rs ∧ rs.length = (p :: ps).length ∧ ∀ (S : Nat → Prop) (base : Nat) (w0 : W0 E.G) (s' : St) (ρ : Nat → Option Value) (a : Act) (w : World) (vs : List Value), (∀ b ∈ (p :: ps).flatMap Pt.refs, s'.bk b = s.bk b) → Good S base w0 s' ρ a w → RPs (Dt S base ρ) ρ w (p :: ps) vs →
          ∀ D' : Nat → Prop, (∀ q, Dt S base ρ q → D' q) → (∀ b ∈ (p :: ps).flatMap Pt.refs, ∀ u q, ρ b = some u → realOf u = some q → D' q) → RG D' w rs vs := by
      intro K' K1 x h1 hx h2
      obtain ⟨rs, k1, k2, k3⟩ := rowsK_spec h1
      refine ⟨x :: rs, hx _ k1, by simp [k2], fun S base w0 s' ρ a w vs hb g hv D' hD hR => ?_⟩
      cases hv with
      | cons hp hr =>
        obtain ⟨e1, e2⟩ := h2 S base w0 s' ρ a w _ (fun b hb' => hb b (by simp [hb'])) g hp D' hD (fun b hb' => hR b (by simp [hb']))
        exact .cons e1 e2 (k3 S base w0 s' ρ a w _ (fun b hb' => hb b (by rw [List.flatMap_cons, List.mem_append]; exact .inr hb')) g hr D' hD (fun b hb' => hR b (by rw [List.flatMap_cons, List.mem_append]; exact .inr hb')))
    unfold rowsK at h
    split at h
    · next e => cases e
    · next n l r e =>
      cases e
      refine go h (fun _ h => h) fun S base w0 s' ρ a w v _ g hp D' hD _ => ⟨RA.up (toKeeps hD) hp, ?_⟩
      cases hp with | row => rfl
    · next r e =>
      cases e
      refine go h (fun _ h => h) fun S base w0 s' ρ a w v _ g hp D' hD _ => ?_
      rw [RA.plain hp]
      exact ⟨.row .nil (Nat.le_refl _) (Nat.zero_le _) (fun _ => rfl) (.inl rfl), rfl⟩
    · exact h.elim
    · next b n r e =>
      cases e
      split at h
      · next e sz m l hk =>
        obtain ⟨rfl, h⟩ := h
        refine go h (fun _ h => h) fun S base w0 s' ρ a w v hb g hp D' hD hR => ?_
        have hk' := (hb b (by simp [Pt.refs])).trans hk
        obtain ⟨cs, k1, k2, k3⟩ := own_now g hk' (v := v) hp
        rcases k2.2 with ⟨e1, e2⟩ | ⟨r, cap, cur, e1, e3, e4, e5, e6, e7, e8⟩
        · rw [e1, e2]
          have hcs : cs = [] := by have := k2.1; rw [e2, Nat.zero_mul] at this; exact List.length_eq_zero_iff.1 this
          exact ⟨.row (k3.up (toKeeps hD)) (Nat.le_refl _) (Nat.zero_le _) (fun _ => rfl) (.inl hcs), rfl⟩
        · rw [e1]
          refine ⟨.row (k3.up (toKeeps hD)) e5 e6 (fun e => by cases e) (.inr ⟨r, 0, rfl, hR b (by simp [Pt.refs]) _ r k1 (by rw [e1]; rfl), (Array.getElem?_eq_some_iff.1 e4).1, fun j hj => ?_⟩), rfl⟩
          rw [Nat.zero_add, cell_of_row w r j cur e (0, 0) e4]
          have : (cur.toList.take (n * sz))[j]? = cs[j]? := by rw [e8]
          rw [List.getElem?_take, if_pos (by have := k2.1; omega), Array.getElem?_toList, List.getElem?_eq_getElem hj] at this
          exact this
      · exact h.elim
    · next b q n r e =>
      cases e
      split at h
      · next l hk =>
        split at h
        · next m hm =>
          obtain ⟨hle, h⟩ := h
          refine go h (fun _ h => h) fun S base w0 s' ρ a w v hb g hp D' hD hR => ?_
          obtain ⟨r, cs, ty, k1, k2, k3, k4⟩ := g.var ((hb b (by simp [Pt.refs])).trans hk)
          obtain ⟨r', c, e1, e2, e3, e4⟩ := hp _ k1
          cases e1
          rw [e2]
          refine ⟨.row ((k4.cut hm).1.up (toKeeps hD)) e3 e4 (fun e => by cases e) (.inr ⟨r, q, rfl, hR b (by simp [Pt.refs]) _ r k1 rfl, (Array.getElem?_eq_some_iff.1 k3).1, fun j hj => ?_⟩), rfl⟩
          have hj' : j < n := by simp at hj; omega
          rw [cells_of k3]
          simp
        · exact h.elim
      · exact h.elim
theorem argK_spec {s : St} : ∀ {xs : List Operand} {K : List A → Bool → Prop}, argK s (xs.map s.ev) K → ∃ ds lent, K ds lent ∧
    ∀ (S : Nat → Prop) (base : Nat) (w0 : W0 E.G) (s' : St) (ρ : Nat → Option Value) (a : Act) (w : World), (∀ x ∈ xs, s'.ev x = s.ev x ∧ ∀ b ∈ (s.ev x).refs, s'.bk b = s.bk b) → Good S base w0 s' ρ a w →
      (∀ D' : Nat → Prop, (∀ q, Dt S base ρ q → D' q) → (∀ x ∈ xs, ∀ b ∈ (s.ev x).refs, ∀ u q, ρ b = some u → realOf u = some q → D' q) → RAs D' w ds (xs.map a.eval)) ∧ (lent = false → RAs (Dt S base ρ) w ds (xs.map a.eval))
  | [], K, h => ⟨[], false, h, fun S base w0 s' ρ a w _ _ => ⟨fun _ _ _ => .nil, fun _ => .nil⟩⟩
  | x :: xs, K, h => by
    simp only [List.map_cons, argK] at h
    split at h
    · next d hx =>
      obtain ⟨ds, lent, hK, hr⟩ := argK_spec h
      refine ⟨d :: ds, lent, hK, fun S base w0 s' ρ a w hs g => ?_⟩
      obtain ⟨h1, h2⟩ := hr S base w0 s' ρ a w (fun y hy => hs y (by simp [hy])) g
      have hv := g.ev x
      rw [(hs x (by simp)).1, hx] at hv
      exact ⟨fun D' hD hR => .cons (RA.up (toKeeps hD) hv) (h1 D' hD fun y hy => hR y (by simp [hy])), fun hl => .cons hv (h2 hl)⟩
    · next b n hx =>
      split at h
      · next e sz m l hk =>
        obtain ⟨rfl, h⟩ := h
        obtain ⟨ds, lent, hK, hr⟩ := argK_spec (K := fun l' _ => K (.row n l :: l') true) h
        refine ⟨.row n l :: ds, true, hK, fun S base w0 s' ρ a w hs g => ?_⟩
        obtain ⟨h1, h2⟩ := hr S base w0 s' ρ a w (fun y hy => hs y (by simp [hy])) g
        have hv := g.ev x
        rw [(hs x (by simp)).1, hx] at hv
        obtain ⟨cs, k1, k2, k3⟩ := own_now g (((hs x (by simp)).2 b (by rw [hx]; simp [T.refs])).trans hk) hv
        refine ⟨fun D' hD hR => .cons ?_ (h1 D' hD fun y hy => hR y (by simp [hy])), fun e => by cases e⟩
        rcases k2.2 with ⟨e1, e2⟩ | ⟨r, cap, cur, e1, e3, e4, e5, e6, e7, e8⟩
        · rw [e1, e2]
          have hcs : cs = [] := by have := k2.1; rw [e2, Nat.zero_mul] at this; exact List.length_eq_zero_iff.1 this
          exact .row (k3.up (toKeeps hD)) (Nat.le_refl _) (Nat.zero_le _) (fun _ => rfl) (.inl hcs)
        · rw [e1]
          refine .row (k3.up (toKeeps hD)) e5 e6 (fun e => by cases e) (.inr ⟨r, 0, rfl, hR x (by simp) b (by rw [hx]; simp [T.refs]) _ r k1 (by rw [e1]; rfl), (Array.getElem?_eq_some_iff.1 e4).1, fun j hj => ?_⟩)
          rw [Nat.zero_add, cell_of_row w r j cur e (0, 0) e4]
          have : (cur.toList.take (n * sz))[j]? = cs[j]? := by rw [e8]
          rw [List.getElem?_take, if_pos (by have := k2.1; omega), Array.getElem?_toList, List.getElem?_eq_getElem hj] at this
          exact this
      · exact h.elim
    · next b n q hx =>
      split at h
      · next e sz m l hk =>
        obtain ⟨rfl, hnm, hsz, h⟩ := h
        obtain ⟨l1, h, hle, hsub⟩ := subK_spec h
        obtain ⟨ds, lent, hK, hr⟩ := argK_spec (K := fun l' _ => K (.row n l1 :: l') true) h
        refine ⟨.row n l1 :: ds, true, hK, fun S base w0 s' ρ a w hs g => ?_⟩
        obtain ⟨h1, h2⟩ := hr S base w0 s' ρ a w (fun y hy => hs y (by simp [hy])) g
        have hv := g.ev x
        rw [(hs x (by simp)).1, hx] at hv
        obtain ⟨u, cs, k1, k2, k3⟩ := g.slc (((hs x (by simp)).2 b (by rw [hx]; simp [T.refs])).trans hk)
        obtain ⟨ad, n', c, rfl, e9, e10⟩ := hv u k1
        have hn' : q = n' := by
          rcases k2.2 with ⟨e1, e2⟩ | ⟨g', cap, cur, e1, _⟩
          · cases e1; omega
          · cases e1; rfl
        subst hn'
        refine ⟨fun D' hD hR => .cons ?_ (h1 D' hD fun y hy => hR y (by simp [hy])), fun e => by cases e⟩
        rw [e10 rfl]
        have hrow : RA D' w (.row q l) (.slice ad q c) := by
          rcases k2.2 with ⟨e1, e2⟩ | ⟨r, cap, cur, e1, e3, e4, e5, e6, e7, e8⟩
          · have hcs : cs = [] := by have := k2.1; rw [e2, Nat.zero_mul] at this; exact List.length_eq_zero_iff.1 this
            rw [e1, e2]
            exact .row (k3.up (toKeeps hD)) (Nat.le_refl _) (Nat.zero_le _) (fun _ => rfl) (.inl hcs)
          · rw [e1]
            refine .row (k3.up (toKeeps hD)) e5 e6 (fun e => by cases e) (.inr ⟨r, 0, rfl, hR x (by simp) b (by rw [hx]; simp [T.refs]) _ r k1 (by rw [e1]; rfl), (Array.getElem?_eq_some_iff.1 e4).1, fun j hj => ?_⟩)
            rw [Nat.zero_add, cell_of_row w r j cur e (0, 0) e4]
            have : (cur.toList.take (q * sz))[j]? = cs[j]? := by rw [e8]
            rw [List.getElem?_take, if_pos (by have := k2.1; omega), Array.getElem?_toList, List.getElem?_eq_getElem hj] at this
            exact this
        have hfin := ra_sliced (a := 0) (b := n) (e := sz) (m := l1) hrow (Nat.zero_le _) hnm hsz (by rw [Nat.zero_mul, Nat.sub_zero]; exact hle) (fun hl => by rw [Nat.zero_mul, Nat.sub_zero]; exact hsub hl)
        unfold sliced at hfin
        simpa using hfin
      · exact h.elim
    · next b q n hx =>
      split at h
      · next l hk =>
        split at h
        · next m hm =>
          obtain ⟨hle, h⟩ := h
          obtain ⟨ds, lent, hK, hr⟩ := argK_spec (K := fun l' _ => K (.row n m :: l') true) h
          refine ⟨.row n m :: ds, true, hK, fun S base w0 s' ρ a w hs g => ?_⟩
          obtain ⟨h1, h2⟩ := hr S base w0 s' ρ a w (fun y hy => hs y (by simp [hy])) g
          have hv := g.ev x
          rw [(hs x (by simp)).1, hx] at hv
          obtain ⟨r, cs, ty, k1, k2, k3, k4⟩ := g.var (((hs x (by simp)).2 b (by rw [hx]; simp [T.refs])).trans hk)
          obtain ⟨r', c, e1, e2, e3, e4⟩ := hv _ k1
          cases e1
          refine ⟨fun D' hD hR => .cons ?_ (h1 D' hD fun y hy => hR y (by simp [hy])), fun e => by cases e⟩
          rw [e2]
          refine .row ((k4.cut hm).1.up (toKeeps hD)) e3 e4 (fun e => by cases e) (.inr ⟨r, q, rfl, hR x (by simp) b (by rw [hx]; simp [T.refs]) _ r k1 rfl, (Array.getElem?_eq_some_iff.1 k3).1, fun j hj => ?_⟩)
          have hj' : j < n := by simp at hj; omega
          rw [cells_of k3]
          simp
        · exact h.elim
      · exact h.elim
    · next ps hx =>
      obtain ⟨rs, h1, hlen, hrs⟩ := rowsK_spec (E := E) h
      obtain ⟨ds, lent, hK, hr⟩ := argK_spec (K := fun l' _ => K (.row ps.length [.gen ps.length rs] :: l') true) h1
      refine ⟨.row ps.length [.gen ps.length rs] :: ds, true, hK, fun S base w0 s' ρ a w hs g => ?_⟩
      obtain ⟨h1, h2⟩ := hr S base w0 s' ρ a w (fun y hy => hs y (by simp [hy])) g
      have hv := g.ev x
      rw [(hs x (by simp)).1, hx] at hv
      obtain ⟨vs, k1, r, k2, k3, k4, k5, k6, k7⟩ := hv
      have hrefs : (s.ev x).refs = ps.flatMap Pt.refs := by rw [hx]; rfl
      refine ⟨fun D' hD hR => .cons ?_ (h1 D' hD fun y hy => hR y (by simp [hy])), fun e => by cases e⟩
      rw [k2, k1.len]
      have hg := hrs S base w0 s' ρ a w vs (fun b hb => (hs x (by simp)).2 b (by rw [hrefs]; exact hb)) g k1 D' hD (fun b hb => hR x (by simp) b (by rw [hrefs]; exact hb))
      exact .row (.ofGen hlen hg) (Nat.le_refl _) (by rw [← k1.len]; exact k4) (fun e => by cases e) (.inr ⟨r, 0, rfl, hD r k5, k6, fun i hi => by rw [Nat.zero_add]; exact k7 i hi⟩)
    · exact h.elim


/-! slices in a row -/
theorem pt_now {G : Nat → Option (List Seg)} {S : Nat → Prop} {base : Nat} {w0 : W0 G} {s' : St} {ρ : Nat → Option Value} {a : Act} {w : World} (g : Good S base w0 s' ρ a w) {t : T} {p : Pt} (h : ptOf s t = some p) {v : Value} (hb : ∀ b ∈ t.refs, s'.bk b = s.bk b) (hb2 : ∀ b ∈ t.refs, s'.bk b ≠ none) (hv : RT (Dt S base ρ) ρ w t v) :
    RP (Dt S base ρ) ρ w p v ∧ p.refs = t.refs ∧ v.oneCell' = true := by
  unfold ptOf at h
  split at h
  · cases h; refine ⟨hv, rfl, ?_⟩; cases hv; rfl
  · cases h; refine ⟨hv, rfl, ?_⟩; rw [RA.plain hv]; rfl
  · next b n =>
    split at h
    · next e sz m l hk =>
      split at h
      · next hn =>
        subst hn
        cases h
        refine ⟨hv, rfl, ?_⟩
        obtain ⟨cs, h1, h2, h3⟩ := own_now g ((hb b (by simp [T.refs])).trans hk) hv
        rcases h2.2 with ⟨e1, _⟩ | ⟨_, _, _, e1, _⟩ <;> rw [e1] <;> rfl
      · cases h
    · cases h
  · next b base n =>
    cases h
    refine ⟨hv, rfl, ?_⟩
    obtain ⟨u, hu⟩ := g.ref (hb2 b (by simp [T.refs]))
    obtain ⟨r, c, rfl, h2, _⟩ := hv u hu
    rw [h2]; rfl
  · cases h
theorem ptsOf_spec : ∀ {parts : List (Nat × Operand)} {k : Nat} {ps : List Pt}, ptsOf s parts k = some ps →
    ps.length = parts.length ∧ parts.map (·.1) = List.range' k parts.length ∧ (∀ b ∈ ps.flatMap Pt.refs, ∃ x ∈ parts.map (·.2), b ∈ (s.ev x).refs) ∧
    ∀ (G : Nat → Option (List Seg)) (S : Nat → Prop) (base : Nat) (w0 : W0 G) (s' : St) (ρ : Nat → Option Value) (a : Act) (w : World), (∀ x ∈ parts.map (·.2), s'.ev x = s.ev x ∧ ∀ b ∈ (s.ev x).refs, s'.bk b = s.bk b) → Good S base w0 s' ρ a w →
      RPs (Dt S base ρ) ρ w ps (parts.map fun p => a.eval p.2) ∧ ∀ v ∈ parts.map fun p => a.eval p.2, v.oneCell' = true
  | [], k, ps, h => by cases h; exact ⟨rfl, rfl, by simp, fun _ _ _ _ _ _ _ _ _ _ => ⟨.nil, by simp⟩⟩
  | (i, x) :: r, k, ps, h => by
    unfold ptsOf at h
    split at h
    case isFalse => cases h
    next hi =>
    subst hi
    split at h
    case h_2 => cases h
    next p l hp hl =>
    cases h
    obtain ⟨h1, h2, h3, h4⟩ := ptsOf_spec hl
    have href : p.refs = (s.ev x).refs := by
      unfold ptOf at hp
      split at hp
      · next e => cases hp; rw [e]; rfl
      · next e => cases hp; rw [e]; rfl
      · next e =>
        split at hp
        · split at hp
          · cases hp; rw [e]; rfl
          · cases hp
        · cases hp
      · next e => cases hp; rw [e]; rfl
      · cases hp
    refine ⟨by simp [h1], by simp [h2, List.range'_succ], ?_, fun G S base w0 s' ρ a w hs g => ?_⟩
    · intro b hb
      rw [List.flatMap_cons, List.mem_append] at hb
      rcases hb with hb | hb
      · exact ⟨x, by simp, by rw [← href]; exact hb⟩
      · obtain ⟨y, hy, hy2⟩ := h3 b hb
        exact ⟨y, by rw [List.map_cons, List.mem_cons]; exact .inr hy, hy2⟩
    · obtain ⟨k1, k2⟩ := h4 G S base w0 s' ρ a w (fun y hy => hs y (by rw [List.map_cons, List.mem_cons]; exact .inr hy)) g
      obtain ⟨e1, e2⟩ := hs x (by simp)
      have hv := g.ev x
      rw [e1] at hv
      obtain ⟨q1, _, q3⟩ := pt_now g hp e2 (fun b hb => g.evRefs x b (by rw [e1]; exact hb)) hv
      refine ⟨.cons q1 k1, fun v hv => ?_⟩
      rw [List.map_cons, List.mem_cons] at hv
      rcases hv with rfl | hv
      · exact q3
      · exact k2 v hv
theorem fill_ones : ∀ (vs : List Value) (k : Nat) (cs : Array Value), (∀ v ∈ vs, v.oneCell' = true) → k + vs.length ≤ cs.size →
    ∃ cs', Instr.fill (fun f => some (f * 1, 1)) cs ((List.range' k vs.length).zip vs) = some cs' ∧ cs'.toList = cs.toList.take k ++ (vs ++ cs.toList.drop (k + vs.length))
  | [], k, cs, _, _ => ⟨cs, by simp [Instr.fill], by simp⟩
  | v :: vs, k, cs, h1, h2 => by
    have hv : v.cells = #[v] := oneCells (h1 v (by simp))
    have h2' : k + (vs.length + 1) ≤ cs.size := by simpa using h2
    obtain ⟨cs', h3, h4⟩ := fill_ones vs (k + 1) (cs.setIfInBounds k v) (fun u hu => h1 u (by simp [hu])) (by simp; omega)
    refine ⟨cs', ?_, ?_⟩
    · rw [List.length_cons, List.range'_succ, List.zip_cons_cons]
      unfold Instr.fill
      simp only [hv]
      have : ¬ ((#[v] : Array Value).size ≠ 1 ∨ k * 1 + (#[v] : Array Value).size > cs.size) := by simp; omega
      simp only [ne_eq, Bool.or_eq_true, decide_eq_true_eq]
      rw [if_neg (by simpa using this)]
      simpa using h3
    · rw [h4, Array.toList_setIfInBounds]
      have e1 : (cs.toList.set k v).take (k + 1) = cs.toList.take k ++ [v] := by
        rw [List.take_set, List.take_succ_eq_append_getElem (by simp; omega)]
        rw [List.set_append_right _ _ (by simp; omega)]
        have : k - (cs.toList.take k).length = 0 := by rw [List.length_take, Array.length_toList]; omega
        rw [this]; rfl
      rw [e1, List.append_assoc, List.drop_set_of_lt (by omega), show k + 1 + vs.length = k + (v :: vs).length by simp; omega]
      rfl
theorem ok_buildRows {t : TypeId} {len : Nat} {parts : Array (Nat × Operand)} {i j : TI} {ps : List Pt} (ho : o.op = .buildSlice t len parts) (hY : E.Y t = some i) (hs1 : i.sl = true) (he : i.esz = 1) (hl : len ≠ 0) (hm : len * i.esz ≤ 16777216) (hj : E.Y i.elem = some j) (hjs : segN j.zero = 1)
    (hp : ptsOf s parts.toList 0 = some ps) (hpl : ps.length = len) : OpOK E o s fr (.rows ps) none := by
  obtain ⟨h1, h2, h3, h4⟩ := ptsOf_spec hp
  have hmem : ∀ x ∈ parts.toList.map (·.2), x ∈ o.op.operands := fun x hx => by
    rw [ho]; simp only [Op.operands, List.mem_toArray]
    simpa using hx
  refine ⟨fun b hb => .inr ?_, fun b x e => (by cases e), fun S base w0 s' ρ a w K' Q hs g hfr hlt hK' => ?_⟩
  · obtain ⟨x, hx, hx2⟩ := h3 b hb
    exact ⟨x, hmem x hx, hx2⟩
  obtain ⟨k1, k2⟩ := h4 _ S base w0 s' ρ a w (fun x hx => ⟨(hs x (hmem x hx)).1, fun b hb => hs.bk (hmem x hx) (by simp [looks, ho]) hb⟩) g
  generalize hvs : parts.toList.map (fun p => a.eval p.2) = vs at k1 k2
  have hvl : vs.length = len := by rw [k1.len, hpl]
  obtain ⟨f, z, q1, q2, _, q3, q4⟩ := (E.hY _ j hj).info
  obtain ⟨_, f', q5, q6⟩ := (E.hY t i hY).arr (by omega)
  rw [q1] at q5; cases q5
  have hfs : f.size = 1 := by rw [q6, he]
  have hu := (E.hY t i hY).sl hs1
  obtain ⟨cs', r1, r2⟩ := fill_ones vs 0 ((Array.range (len * f.size)).map (z.cells[· % z.cells.size]!)) k2 (by simp [hfs, hvl])
  have hparts : (parts.map fun (i, x) => (i, a.eval x)).toList = (List.range' 0 vs.length).zip vs := by
    rw [Array.toList_map, hvl, ← hpl, h1, ← h2, ← hvs]
    generalize parts.toList = l
    induction l with
    | nil => rfl
    | cons x l ih => simp [ih]
  have hr := run_buildSlice (P := E.P) w t i.elem len (parts.map fun (i, x) => (i, a.eval x)) cs' f z hu q1 q3 (by rw [q6]; omega) (by rw [q6]; exact Nat.mul_ne_zero (by omega) (by omega)) (by
    rw [hparts, hfs]; rw [hfs] at r1; exact r1)
  have hcs : cs'.toList = vs := by
    rw [r2]
    rw [List.take_zero, List.nil_append, List.drop_of_length_le (by simp [hfs, hvl]), List.append_nil]
  have hgr : w.grownBy (w.alloc (.cells cs' i.elem)) none := ⟨rfl, rfl, rfl, by rw [size_alloc]; omega, fun k hk _ => Below.heap_alloc _ _ _ hk⟩
  obtain ⟨g2, K0⟩ := g.grow hgr
  unfold Oper.wp execOp
  simp only [ho, Sem.run_bind, hr, Result.andThen_ok, Sem.run_pure]
  refine hK' _ _ ρ (g2.put' o.dst (t := .rows ps) ⟨vs, k1.map fun p _ v hv => hv.up K0 fun _ _ => rfl, w.heap.size, ?_, ?_, ?_, ?_, ?_, ?_⟩ ?_)
  · rw [hvl]
  · intro e; rw [e] at hvl; exact hl (by simpa using hvl.symm)
  · rw [hvl]
    unfold maxLen
    rw [he] at hm; omega
  · exact ⟨.inr g.size, fun b u hb hu => by have := (g.low b u _ hb hu).2; omega⟩
  · rw [size_alloc]; omega
  · intro i' hi'
    have := cells_of (w := w.alloc (.cells cs' i.elem)) (r := w.heap.size) (cs := cs'.toList) (t := i.elem) (fr := (0, 0)) (by exact heap_alloc_new _ _) i'
    rw [this, hcs]
    simp [hi']
  · intro b hb
    obtain ⟨x, hx, hx2⟩ := h3 b hb
    rw [← (hs x (hmem x hx)).1] at hx2
    exact g.evRefs x b hx2
/-! slices made, written -/
theorem ok_make {t : TypeId} {x y : Operand} {i j : TI} {n : Int} {q q' : IntKind} (ho : o.op = .makeSlice t x y) (hY : E.Y t = some i) (hs1 : i.sl = true) (he : i.esz ≠ 0) (hx : s.ev x = .d (.v (.int q n))) (hy : s.ev y = .d (.v (.int q' n))) (h0 : 0 ≤ n) (hm : n.toNat * i.esz ≤ 16777216) (hj : E.Y i.elem = some j) (hjs : segN j.zero = i.esz) (hb : j.bytes * n.toNat ≤ 281474976710656) :
    OpOK E o s fr (.own fr n.toNat) (some (fr, .sl i.elem i.esz n.toNat (zerosK n.toNat j.zero))) := by
  refine ⟨fun b hb => .inl ⟨by simpa [T.refs] using hb, _, rfl⟩, fun b x e => by cases e; exact .inl rfl, fun S base w0 s' ρ a w K' Q hs g hfr hlt hK' => ?_⟩
  have h1 := evPlain hs g (by rw [ho]; simp [Op.operands]) hx
  have h2 := evPlain hs g (by rw [ho]; simp [Op.operands]) hy
  obtain ⟨m, rfl⟩ := Int.eq_ofNat_of_zero_le h0
  rw [Int.toNat_natCast] at *
  obtain ⟨f, z, q1, q2, q5, q3, q4⟩ := (E.hY _ j hj).info
  obtain ⟨_, f', q6, q7⟩ := (E.hY t i hY).arr he
  rw [q1] at q6; cases q6
  have hu := (E.hY t i hY).sl hs1
  have hz := zeroB_spec (S := Dt S base ρ) (w := w) q4
  have hzl : z.cells.size = i.esz := by have := hz.len; rw [hjs] at this; simpa using this
  have h63 : m ≤ maxLen := by
    have : m ≤ m * i.esz := Nat.le_mul_of_pos_right _ (Nat.pos_of_ne_zero he)
    unfold maxLen; omega
  obtain ⟨w', r1, r2, r3⟩ := run_makeSlice_full (P := E.P) w w.heap.size t i.elem f z i.esz hu q1 q3 q7 q q' m hm (by rw [q5]; exact hb) h63 (Nat.le_refl _)
  have hρ : ρ fr = none := by have := g.b fr; rw [hfr] at this; exact this
  have hc : (madeCells z.cells (m * i.esz)).toList = (List.replicate m z.cells.toList).flatten := by
    have := many_cells z.cells (by rw [hzl]; exact he) m
    rw [← this, hzl]
    unfold madeCells
    rw [hzl]
  unfold Oper.wp execOp
  simp only [ho, h1, h2, Sem.run_bind, r1, Result.andThen_ok, Sem.run_pure]
  refine hK' _ _ _ (g.newSl hfr hlt r3 (cs := (madeCells z.cells (m * i.esz)).toList) r2 ?_ o.dst)
  rw [hc]
  exact (hz.many m).up (Dt.new r3 (fun q hq => by simp [realOf] at hq; omega) hρ)
theorem take_spliced (l vs : List Value) (off N : Nat) (h : off + vs.length ≤ N) (h2 : N ≤ l.length) : (l.take off ++ (vs ++ l.drop (off + vs.length))).take N = (l.take N).take off ++ (vs ++ (l.take N).drop (off + vs.length)) := by
  rw [List.take_append, List.take_take, List.take_take, List.length_take, Nat.min_eq_left (by omega : off ≤ l.length), Nat.min_eq_right (by omega : off ≤ N), Nat.min_eq_left (by omega : off ≤ N)]
  congr 1
  rw [List.take_append, List.take_of_length_le (by omega), List.drop_take]
  congr 2
  omega
theorem ok_storeOwn {t : TypeId} {x y : Operand} {i : TI} {b n off sz : Nat} {e : TypeId} {l l' : List Seg} {d : A} (ho : o.op = .store t x y) (hY : E.Y t = some i) (hx : s.ev x = .ept b n off) (hk : s.bk b = some (.sl e sz n l)) (hseg : n * sz = segN l) (hi : i.sz ≠ 0) (hy : s.ev y = .d d)
    (hd : ∀ {S : Nat → Prop} {w : World} {cs : List Value} {v : Value}, RL S w l cs → RA S w d v →
      v.cells.size = i.sz ∧ (∀ u ∈ v.cells.toList, u.oneCell' = true) ∧ (0 + off + i.sz ≤ cs.length ∨ i.sz = 0) ∧ RL S w l' (cs.take (0 + off) ++ (v.cells.toList ++ cs.drop (0 + off + i.sz)))) :
    OpOK E o s fr (.d (.v undef)) (some (b, .sl e sz n l')) := by
  have hm : x ∈ o.op.operands := by rw [ho]; simp [Op.operands]
  have hm2 : y ∈ o.op.operands := by rw [ho]; simp [Op.operands]
  refine ⟨fun b hb => by simp [T.refs] at hb, fun b' x' e => by cases e; exact .inr ⟨x, hm, by rw [hx]; simp [T.refs]⟩, fun S base w0 s' ρ a w K Q hs g hf hlt hK => ?_⟩
  have hk' := (hs.bk hm (by simp [looks, ho]) (b := b) (by rw [hx]; simp [T.refs])).trans hk
  obtain ⟨r, c, h1, h2⟩ := ept_now g hk' (evData hs g hm hx)
  obtain ⟨u, cs, h3, h4, h5⟩ := g.slc hk'
  rw [h1] at h3; cases h3
  rcases h4.2 with ⟨e1, _⟩ | ⟨r', cap, cur, e1, e3, e4, e5, e6, e7, e8⟩
  · cases e1
  cases e1
  obtain ⟨k1, k2, k3, k4⟩ := hd h5 (evData hs g hm2 hy)
  rw [Nat.zero_add] at k3 k4
  have hcl := h4.1
  have hvl : (a.eval y).cells.toList.length = i.sz := by rw [Array.length_toList, k1]
  have k3' : off + i.sz ≤ n * sz := by rcases k3 with k3 | k3; rw [hcl] at k3; exact k3; exact absurd k3 hi
  have hcap : n * sz ≤ c * sz := Nat.mul_le_mul_right _ e5
  have hw : w.heap[r]? = some (.cells cur.toList.toArray e (0, 0)) := by rw [e4]
  have hrun := run_storeVar_at (E.hY t i hY) k1 k2 hw (off := off) (.inl (by rw [Array.length_toList, e7]; omega))
  generalize hvs : (a.eval y).cells.toList = vs at *
  have hupd : upd ρ b (some (.slice (some ⟨r, 0, none⟩) n c)) = ρ := by
    funext z; unfold upd; split
    · next e => rw [e, h1]
    · rfl
  have g2 := g.change b (bk_lt hk') (.slice (some ⟨r, 0, none⟩) n c) (.sl e sz n l') (some r) (w' := w.setRow r (cur.toList.take off ++ (vs ++ cur.toList.drop (off + vs.length))).toArray)
    (grown_setRow (grown_refl w _) _ (.inr rfl)) (by intro r' e; cases e; exact ⟨_, h1, rfl⟩) (by
      intro r' e
      simp [realOf] at e; subst e
      exact ⟨.inr ⟨_, h1, rfl⟩, by rw [size_setRow]; exact (g.low b _ r h1 rfl).2⟩) (by
      rw [hupd]
      intro K0
      refine ⟨_, cs.take off ++ (vs ++ cs.drop (off + i.sz)), h1, ⟨?_, .inr ⟨r, c, _, rfl, e3, setRow_heap _ _ _ _ _ _ hw, e5, e6, ?_, ?_⟩⟩, k4.up K0⟩
      · simp only [List.length_append, List.length_take, List.length_drop, hvl, hcl]; omega
      · simp only [List.size_toArray, List.length_append, List.length_take, List.length_drop, Array.length_toList, hvl, e7]; omega
      · rw [List.toList_toArray, take_spliced _ _ _ _ (by rw [hvl]; exact k3') (by rw [Array.length_toList, e7]; exact hcap), e8, hvl]) (by
      rw [hupd]
      intro _ i hi hm
      refine (g.t i hi).up ⟨by rw [size_setRow]; exact Nat.le_refl _, fun r' hr' hd => ⟨hd, fun o => ?_⟩⟩ (fun _ _ => rfl)
      exact World.cell?_of_block (setRow_other _ _ _ _ (fun e => hd.2 b _ h1 (by simp [realOf]; exact e.symm)))) (fun q hq => by rw [h1] at hq; cases hq)
  rw [hupd] at g2
  unfold Oper.wp
  have : (execOp a.eval o).run E.P w = .ok .skip (w.setRow r (cur.toList.take off ++ (vs ++ cur.toList.drop (off + vs.length))).toArray) := by
    simp only [execOp, ho, h2, Instr.storeAt, Instr.sureAddr, Sem.run_bind, Sem.run_pure, Result.andThen_ok, hrun]
  rw [this]
  exact hK _ _ _ (g2.put' o.dst (t := .d (.v undef)) (.v undef) (by simp [T.refs]))
/-! texts -/
theorem ok_binStr {op : BinOp} {t yt : TypeId} {x y : Operand} {p q : ByteArray} {r : Bool} (ho : o.op = .binOp op t x y yt) (hx : s.ev x = .d (.v (.string p))) (hy : s.ev y = .d (.v (.string q)))
    (hr : op = .eql ∧ r = (p.toList == q.toList) ∨ op = .neq ∧ r = (!(p.toList == q.toList))) : OpOK E o s fr (.d (.v (.bool r))) none := by
  refine .pure (fun b hb => by simp [T.refs] at hb) fun S base w0 s' ρ a w hs g => ⟨_, ?_, .v _⟩
  have h1 := evPlain hs g (by rw [ho]; simp [Op.operands]) hx
  have h2 := evPlain hs g (by rw [ho]; simp [Op.operands]) hy
  rcases hr with ⟨rfl, rfl⟩ | ⟨rfl, rfl⟩
  · simp [execOp, ho, h1, h2, Sem.run_bind, eqGuard, binOp, Op.stringOp, Op.equal, beq_toListBytes]
  · simp [execOp, ho, h1, h2, Sem.run_bind, eqGuard, binOp, Op.stringOp, Op.equal, beq_toListBytes]
theorem ok_binCat {t yt : TypeId} {x y : Operand} {p q : ByteArray} (ho : o.op = .binOp .add t x y yt) (hx : s.ev x = .d (.v (.string p))) (hy : s.ev y = .d (.v (.string q)))
    (hn : p.size + q.size ≤ 281474976710656) : OpOK E o s fr (.d (.v (.string (p ++ q)))) none := by
  refine .pure (fun b hb => by simp [T.refs] at hb) fun S base w0 s' ρ a w hs g => ⟨_, ?_, .v _⟩
  have h1 := evPlain hs g (by rw [ho]; simp [Op.operands]) hx
  have h2 := evPlain hs g (by rw [ho]; simp [Op.operands]) hy
  have h3 : ¬ (((p.size + q.size : Nat) : Int) > IntKind.i64.max) := by
    have : IntKind.i64.max = 9223372036854775807 := by decide
    omega
  simp only [execOp, ho, h1, h2, Sem.run_bind, eqGuard, binOp, Op.stringOp, if_neg h3]
  simp
theorem ok_str {src dst : TypeId} {x : Operand} {i : TI} {k : KO} (ho : o.op = .convert src dst x) (hs' : E.Y src = some i) (hs1 : i.sl = true) (he : E.P.underlying i.elem = some (.int .u8)) (hd : E.P.underlying dst = some .string)
    (h : argK s [s.ev x] fun l _ => (match l with
       | [.row m news] => (match strOf news with | some b => b.size = m ∧ m ≤ 140737488355328 ∧ k (.d (.v (.string b))) none | none => False)
       | [.v (.slice none 0 0)] => k (.d (.v (.string .empty))) none
       | _ => False)) : ∃ t blk, k t blk ∧ OpOK E o s fr t blk := by
  have hm : x ∈ o.op.operands := by rw [ho]; simp [Op.operands]
  have hu := (E.hY src i hs').sl hs1
  obtain ⟨ds, lent, h1, h2⟩ := argK_spec (E := E) (xs := [x]) (K := fun l _ => (match l with
       | [.row m news] => (match strOf news with | some b => b.size = m ∧ m ≤ 140737488355328 ∧ k (.d (.v (.string b))) none | none => False)
       | [.v (.slice none 0 0)] => k (.d (.v (.string .empty))) none
       | _ => False)) h
  have cases1 : ∀ {S : Nat → Prop} {w : World} {d : A} {v : Value}, RAs S w [d] [v] → RA S w d v := by
    intro S w d v h; cases h with | cons h _ => exact h
  have hsame : ∀ {s' : St}, Same o s s' → ∀ x' ∈ [x], s'.ev x' = s.ev x' ∧ ∀ b ∈ (s.ev x').refs, s'.bk b = s.bk b := fun {s'} hs x' hx' => by
    rw [List.mem_singleton] at hx'; subst hx'
    exact ⟨(hs _ hm).1, fun b hb => hs.bk hm (by simp [looks, ho]) hb⟩
  split at h1
  · next m news =>
    split at h1
    · next b hb =>
      obtain ⟨hbm, hmm, hk⟩ := h1
      refine ⟨_, _, hk, .pure (fun b hb => by simp [T.refs] at hb) fun S base w0 s' ρ a w hs g => ⟨_, ?_, .v _⟩⟩
      have hv := cases1 ((h2 S base w0 s' ρ a w (hsame hs) g).1 (fun _ => True) (fun _ _ => trivial) (fun _ _ _ _ _ _ _ _ => trivial))
      generalize hx0 : a.eval x = v at hv
      have key : ∃ ad c bs, v = .slice ad m c ∧ Row8 w ad m bs ∧ strB bs = b := by
        cases hv with
        | row k1 k2 k3 k4 k5 =>
          rename_i c cs ad
          unfold strOf at hb
          split at hb
          · cases hb
            have : m = 0 := by rw [← hbm]; rfl
            subst this
            exact ⟨ad, c, [], rfl, Row8.nil _ _, rfl⟩
          · next n bs =>
            cases hb
            obtain ⟨e1, e2⟩ := k1.toBytes
            have hbl : bs.length = m := by rw [← hbm]; simp [ByteArray.size]
            refine ⟨ad, c, bs, rfl, ⟨hbl.symm, by unfold maxLen; omega, ?_⟩, rfl⟩
            rcases k5 with k5 | ⟨q, o', k6, _, _, k7⟩
            · left
              rw [e2] at k5
              exact List.map_eq_nil_iff.1 k5
            · refine .inr ⟨q, o', k6, fun i hi => ?_⟩
              subst e2
              rw [k7 i (by simpa [HL] using hi)]
              simp [HL]
          · cases hb
      obtain ⟨ad, c, bs, rfl, hr, hbs⟩ := key
      rw [← hbs]
      have := hr.str (P := E.P) src dst i.elem c hu he hd
      simp only [execOp, ho, hx0, this, Sem.run_bind, Sem.run_pure, Result.andThen_ok]
    · exact h1.elim
  · next =>
    refine ⟨_, _, h1, .pure (fun b hb => by simp [T.refs] at hb) fun S base w0 s' ρ a w hs g => ⟨_, ?_, .v _⟩⟩
    have hv := RA.plain (cases1 ((h2 S base w0 s' ρ a w (hsame hs) g).1 (fun _ => True) (fun _ _ => trivial) (fun _ _ _ _ _ _ _ _ => trivial)))
    have := (Row8.nil w none).str (P := E.P) src dst i.elem 0 hu he hd
    simp only [execOp, ho, hv, this, Sem.run_bind, Sem.run_pure, Result.andThen_ok]
    rfl
  · exact h1.elim
/-! the least and the greatest -/
theorem ok_minmax {c : Call} {mx : Bool} {q q' : IntKind} {x y : Int} (ho : o.op = .call c) (hc : c.callee = .builtin (if mx then .max else .min)) (ha : c.args.toList.map s.ev = [.d (.v (.int q x)), .d (.v (.int q' y))]) :
    OpOK E o s fr (.d (.v (.int q (if mx then (if y > x then y else x) else (if y < x then y else x))))) none := by
  obtain ⟨p, r, hca, h1, h2⟩ : ∃ p r, c.args = #[p, r] ∧ s.ev p = .d (.v (.int q x)) ∧ s.ev r = .d (.v (.int q' y)) := by
    generalize hl : c.args.toList = l at ha
    rcases l with _ | ⟨p, _ | ⟨r, _ | ⟨r2, l⟩⟩⟩ <;> simp only [List.map_cons, List.map_nil, List.cons.injEq, and_true, reduceCtorEq, and_false] at ha
    refine ⟨p, r, ?_, ha.1, ha.2⟩
    apply Array.ext'; rw [hl]
  refine .pure (fun b hb => by simp [T.refs] at hb) fun S base w0 s' ρ a w hs g => ⟨_, ?_, .v _⟩
  have e1 := evPlain hs g (by rw [ho]; simp [Op.operands, Call.operands, hc, hca]) h1
  have e2 := evPlain hs g (by rw [ho]; simp [Op.operands, Call.operands, hc, hca]) h2
  cases mx with
  | true => simp [execOp, ho, hc, hca, resolve, invoke, builtin, Sem.run_bind, e1, e2, run_max_int2]
  | false => simp [execOp, ho, hc, hca, resolve, invoke, builtin, Sem.run_bind, e1, e2, run_min_int2]
theorem ok_winI {t : TypeId} {x : Operand} {i : TI} {b base rel : Nat} (ho : o.op = .slice t x none none none) (hY : E.Y t = some i) (hl : i.len ≠ 0) (he : i.esz = 1) (hm : i.len ≤ 1000000) (hx : s.ev x = .pti b base rel) : OpOK E o s fr (.win b (base + rel) i.len) none := by
  have hm1 : x ∈ o.op.operands := by rw [ho]; simp [Op.operands]
  refine .pure (fun b' hb' => ⟨x, hm1, by rw [hx]; simpa [T.refs] using hb'⟩) fun S base0 w0 s' ρ a w hs g => ?_
  obtain ⟨u, hu⟩ := g.ref (g.evRefs x b (by rw [(hs x hm1).1, hx]; simp [T.refs]))
  obtain ⟨r, rfl, h2⟩ := evData hs g hm1 hx u hu
  obtain ⟨_, f, h4, h5⟩ := (E.hY t i hY).arr (by omega)
  have hua := (E.hY t i hY).alen hl
  refine ⟨.slice (some ⟨r, base + rel, none⟩) i.len i.len, ?_, fun u' hu' => ?_⟩
  · simp only [execOp, ho, h2, Instr.sliceAt, Instr.sureAddr, Instr.sliceBounds, Option.map_none, Sem.run_bind, Sem.run_pure, Result.andThen_ok, run_underlying hua w, run_sizeOf w h4, Nat.zero_mul, Nat.sub_zero, add_at, Nat.add_zero]
    simp
  · rw [hu] at hu'; cases hu'
    exact ⟨r, i.len, rfl, rfl, Nat.le_refl _, by unfold maxLen; omega⟩
end
end Go.Proofs.YtpemaphgmfaioaaGreat

/-
  Calls; all operations of the machine without memory are the program's. No program is named here.
-/
namespace Go.Proofs.YtpemaphgmfaioaaGreat
set_option maxRecDepth 100000
open Go.RowKit
set_option linter.unusedVariables false
set_option linter.unusedSimpArgs false

section
variable {E : EnvX} {o : Oper} {s : St} {fr : Nat}

theorem exec_call {a : Act} {w : World} {c : Call} {y : Operand} {f : FuncId} {fn : Func} (ho : o.op = .call c) (hc : c.callee = .value y) (hy : a.eval y = .func (.func f) #[] #[]) (hf : E.P.funcs[f]? = some fn) (hb : fn.body.isNone = false) (hn : (fn.name == "runtime.NumGoroutine") = false) :
    (execOp a.eval o).run E.P w = .ok (.enter f (c.args.toList.map a.eval).toArray) w := by
  have e : (c.args.toList.map a.eval).toArray = c.args.map a.eval := by
    apply Array.ext'; simp
  rw [e]
  simp only [execOp, ho, resolve, hc, hy, Deferred.ofValue, Sem.run_bind, Sem.run_pure, Result.andThen_ok, invoke, callFunc, run_program, hf, hb, hn]
  simp

theorem ok_call {c : Call} {y : Operand} {f : FuncId} {k : KO} (ho : o.op = .call c) (hc : c.callee = .value y) (hy : s.ev y = .d (.v (.func (.func f) #[] #[])))
    (h : argK s (c.args.toList.map s.ev) fun l lent => E.C f l fun r => (lent = true → flatRes r = true) ∧ resK fr k r) : ∃ t blk, k t blk ∧ OpOK E o s fr t blk := by
  obtain ⟨ds, lent, hC, hargs⟩ := argK_spec h
  obtain ⟨fn, hf, hb, hn⟩ := E.hF _ _ _ hC
  obtain ⟨r, hok, hflat, hk⟩ := E.hC _ _ _ hC
  have hmem : ∀ x ∈ c.args.toList, x ∈ o.op.operands := fun x hx => by rw [ho]; simp only [Op.operands, Call.operands, Array.mem_append]; right; simpa using hx
  have hmy : y ∈ o.op.operands := by rw [ho]; simp [Op.operands, Call.operands, hc]
  -- the call asx it runs, to a value in a later world
  have run : ∀ (S : Nat → Prop) (base : Nat) (w0 : W0 E.G) (s' : St) (ρ : Nat → Option Value) (a : Act) (w : World) (K : Act → World → Prop) (Q : Exit → Act → World → Prop),
      Same o s s' → Good S base w0 s' ρ a w → (∀ v w', Below w.heap.size w w' → (∃ S0, RR S0 w.heap.size w' r v ∧ (lent = false → ∀ q, S0 q → Dt S base ρ q)) → K (a.put o.dst v) w') → o.wp E.P a w K Q := by
    intro S base w0 s' ρ a w K Q hs g hK
    obtain ⟨h1, h2⟩ := hargs S base w0 s' ρ a w (fun x hx => ⟨(hs x (hmem x hx)).1, fun b hb => hs.bk (hmem x hx) (by simp [looks, ho]) hb⟩) g
    unfold Oper.wp
    rw [exec_call ho hc (evPlain hs g hmy hy) hf hb hn, Oper.upon_enter]
    cases hl : lent with
    | true =>
      refine (hok (fun _ => True) w _ (g.glob.up anyKeeps) (h1 _ (fun _ _ => trivial) (fun _ _ _ _ _ _ _ _ => trivial))).mono ?_
      rintro e w' ⟨v, rfl, h3, h4⟩
      exact hK v w' h4 ⟨_, h3, fun e => by rw [hl] at e; cases e⟩
    | false =>
      refine (hok (Dt S base ρ) w _ g.glob (h2 hl)).mono ?_
      rintro e w' ⟨v, rfl, h3, h4⟩
      exact hK v w' h4 ⟨_, h3, fun _ q hq => hq⟩
  have grown : ∀ {w w' : World}, Below w.heap.size w w' → w.grownBy w' none := fun h => ⟨h.os, h.tape, h.output, h.size, fun k hk _ => h.block k hk⟩
  -- where the answer may lie
  have lies : ∀ {S : Nat → Prop} {base : Nat} {w0 : W0 E.G} {s' : St} {ρ : Nat → Option Value} {a : Act} {w w' : World} {S0 : Nat → Prop}, Good S base w0 s' ρ a w → (∀ q, S0 q → Dt S base ρ q) → Keeps (fun q => S0 q ∨ w.heap.size ≤ q) w' (Dt S base ρ) w' :=
    fun {S base w0 s' ρ a w w' S0} g h0 => ⟨Nat.le_refl _, fun q hq hs => ⟨by
      rcases hs with hs | hs
      · exact h0 q hs
      · exact ⟨.inr (Nat.le_trans g.size hs), fun b u hb hu => by have := (g.low b u q hb hu).2; omega⟩, fun _ => rfl⟩⟩
  cases r with
  | d x =>
    refine ⟨.d x, none, hk, fun b hb => by simp [T.refs] at hb, fun b x e => (by cases e), fun S base w0 s' ρ a w K Q hs g _ _ hK => ?_⟩
    refine run S base w0 s' ρ a w K Q hs g fun v w' hbel ⟨S0, hr, h0⟩ => ?_
    obtain ⟨g2, k2⟩ := g.grow (grown hbel)
    refine hK _ _ ρ (g2.put' o.dst (t := .d x) ?_ (by simp [T.refs]))
    cases hl : lent with
    | true => exact flat_RA (hflat hl) hr
    | false => exact RA.up (lies g (h0 hl)) hr
  | t l =>
    refine ⟨.tup l, none, hk, fun b hb => by simp [T.refs] at hb, fun b x e => (by cases e), fun S base w0 s' ρ a w K Q hs g _ _ hK => ?_⟩
    refine run S base w0 s' ρ a w K Q hs g fun v w' hbel ⟨S0, hr, h0⟩ => ?_
    obtain ⟨vs, rfl, hr⟩ := hr
    obtain ⟨g2, k2⟩ := g.grow (grown hbel)
    refine hK _ _ ρ (g2.put' o.dst (t := .tup l) ⟨vs, rfl, ?_⟩ (by simp [T.refs]))
    cases hl : lent with
    | true => exact hr.flat (hflat hl)
    | false => exact hr.up (lies g (h0 hl))
  | o e sz n l =>
    refine ⟨.own fr n, some (fr, .sl e sz n l), hk, fun b hb => .inl ⟨by simpa [T.refs] using hb, _, rfl⟩, fun b x e => by cases e; exact .inl rfl, fun S base w0 s' ρ a w K Q hs g hfr hlt hK => ?_⟩
    refine run S base w0 s' ρ a w K Q hs g fun v w' hbel ⟨S0, ⟨cs, hr, hc2⟩, h0⟩ => ?_
    have hgr := grown hbel
    have hform : ∃ ad c, v = .slice ad n c := by
      rcases hr.2 with ⟨e1, e2⟩ | ⟨q, cap, cur, e1, _⟩
      · exact ⟨_, _, by rw [e1, e2]⟩
      · exact ⟨_, _, e1⟩
    have hreal : ∀ q, realOf v = some q → w.heap.size ≤ q ∧ q < w'.heap.size ∧ v.ownBlock = some q := by
      intro q hq
      rcases hr.2 with ⟨e1, e2⟩ | ⟨q', cap, cur, e1, e3, e4, _⟩
      · rw [e1] at hq; cases hq
      · rw [e1] at hq; cases hq
        exact ⟨e3, (Array.getElem?_eq_some_iff.1 e4).1, by rw [e1]; rfl⟩
    have g2 := g.change fr hlt v (.sl e sz n l) none hgr (by simp) (fun q hq => ⟨.inl (hreal q hq).1, (hreal q hq).2.1⟩) (by
        intro K0
        refine ⟨v, cs, by simp [upd], ?_, ?_⟩
        · refine ⟨hr.1, ?_⟩
          rcases hr.2 with h | ⟨q', cap, cur, e1, e3, e4⟩
          · exact .inl h
          · exact .inr ⟨q', cap, cur, e1, Nat.le_trans g.size e3, e4⟩
        · cases hl : lent with
          | true => exact flat_RL (hflat hl) hc2
          | false =>
            refine RL.up ⟨Nat.le_refl _, fun q hq hs2 => ⟨⟨?_, fun b u hb hu => ?_⟩, fun _ => rfl⟩⟩ hc2
            · rcases hs2.1 with h3 | h3
              · exact (h0 hl q h3).1
              · exact .inr (Nat.le_trans g.size h3)
            · by_cases hbf : b = fr
              · subst hbf
                simp [upd] at hb
                subst hb
                exact hs2.2 (hreal q hu).2.2
              · simp [upd, hbf] at hb
                rcases hs2.1 with h3 | h3
                · exact (h0 hl q h3).2 b u hb hu
                · have := (g.low b u q hb hu).2; omega) (by
        intro _ i hi hm
        exact absurd hfr (g.dang i fr hm)) (fun q hq => by have h0 := g.b fr; rw [hfr] at h0; have h0' : ρ fr = none := h0; rw [h0'] at hq; cases hq)
    refine hK _ _ _ (g2.put' o.dst (t := .own fr n) ?_ ?_)
    · intro u hu
      simp [upd] at hu
      obtain ⟨ad, c', e1⟩ := hform
      exact ⟨ad, n, c', by rw [← hu, e1], Nat.le_refl _, fun _ => hu⟩
    · intro b hb
      simp [T.refs] at hb
      subst hb
      simp [St.bk, getD_set_list, hlt]
  | p x =>
    refine ⟨.ptr fr 0, some (fr, x), hk, fun b hb => .inl ⟨by simpa [T.refs] using hb, _, rfl⟩, fun b x e => by cases e; exact .inl rfl, fun S base w0 s' ρ a w K Q hs g hfr hlt hK => ?_⟩
    refine run S base w0 s' ρ a w K Q hs g fun v w' hbel ⟨S0, ⟨q, hv, hq, hB⟩, h0⟩ => ?_
    have hgr := grown hbel
    have hqlt : q < w'.heap.size := by
      cases x with
      | var l => obtain ⟨cs, t, e, _⟩ := hB; exact (Array.getElem?_eq_some_iff.1 e).1
      | obj p => obtain ⟨cs, t, e, _⟩ := hB; exact (Array.getElem?_eq_some_iff.1 e).1
      | sl => exact hB.elim
    have hreal : ∀ z, realOf v = some z → z = q := by intro z hz; rw [hv] at hz; simp [realOf] at hz; exact hz.symm
    have g2 := g.change fr hlt v x none hgr (by simp) (fun z hz => by rw [hreal z hz]; exact ⟨.inl hq, hqlt⟩) (by
        intro K0
        cases x with
        | sl => exact hB.elim
        | obj p => obtain ⟨cs, t, e, e2⟩ := hB; exact ⟨q, cs, t, by simp [upd, hv], trivial, e, e2⟩
        | var l =>
          obtain ⟨cs, t, e, e2⟩ := hB
          refine ⟨q, cs, t, by simp [upd, hv], trivial, e, ?_⟩
          cases hl : lent with
          | true => exact flat_RL (hflat hl) e2
          | false =>
            refine RL.up ⟨Nat.le_refl _, fun z hz hs2 => ⟨⟨?_, fun b u hb hu => ?_⟩, fun _ => rfl⟩⟩ e2
            · rcases hs2.1 with h3 | h3
              · exact (h0 hl z h3).1
              · exact .inr (Nat.le_trans g.size h3)
            · by_cases hbf : b = fr
              · subst hbf
                simp [upd] at hb
                subst hb
                exact hs2.2 (hreal z hu)
              · simp [upd, hbf] at hb
                rcases hs2.1 with h3 | h3
                · exact (h0 hl z h3).2 b u hb hu
                · have := (g.low b u z hb hu).2; omega) (by
        intro _ i hi hm
        exact absurd hfr (g.dang i fr hm)) (fun q hq => by have h0 := g.b fr; rw [hfr] at h0; have h0' : ρ fr = none := h0; rw [h0'] at hq; cases hq)
    refine hK _ _ _ (g2.put' o.dst (t := .ptr fr 0) ?_ ?_)
    · intro u hu
      simp [upd] at hu
      exact ⟨q, by rw [← hu, hv], hv⟩
    · intro b hb
      simp [T.refs] at hb
      subst hb
      simp [St.bk, getD_set_list, hlt]

theorem lentAt_spec : ∀ {xs : List Operand} {pos b : Nat} {rest : List T}, lentAt (xs.map s.ev) = some (pos, b, rest) →
    ∃ (ys : List Operand) (x : Operand), rest = ys.map s.ev ∧ s.ev x = .ptr b 0 ∧ x ∈ xs ∧ (∀ y ∈ ys, y ∈ xs) ∧ ∀ (f : Operand → Value), xs.map f = (ys.map f).insertIdx pos (f x)
  | [], pos, b, rest, h => by cases h
  | x :: xs, pos, b, rest, h => by
    simp only [List.map_cons, lentAt] at h
    split at h
    · next b' hx => cases h; exact ⟨xs, x, rfl, hx, by simp, fun y hy => by simp [hy], fun f => by simp⟩
    · split at h
      · next i b' l hl =>
        cases h
        obtain ⟨ys, z, h1, h2, h3, h4, h5⟩ := lentAt_spec hl
        exact ⟨x :: ys, z, by rw [h1]; rfl, h2, by simp [h3], fun y hy => by rcases List.mem_cons.1 hy with rfl | hy; simp; simp [h4 y hy], fun f => by rw [List.map_cons, h5 f]; rfl⟩
      · cases h
theorem nolap_spec {b : Nat} {ys : List Operand} (h : nolap b (ys.map s.ev) = true) : ∀ y ∈ ys, b ∉ (s.ev y).refs := by
  intro y hy hb
  unfold nolap at h
  rw [List.all_eq_true] at h
  have := h _ (List.mem_map.2 ⟨y, hy, rfl⟩)
  simp only [Bool.not_eq_true', ← Bool.not_eq_true, List.contains_iff_mem] at this
  exact this hb

/-- a call to which a block is lent, asx it runs -/
theorem run_lent {c : Call} {y : Operand} {f : FuncId} {pos b : Nat} {rest : List T} {x : Bk} {K : Bool → Res → Bk → Prop} (ho : o.op = .call c) (hc : c.callee = .value y) (hy : s.ev y = .d (.v (.func (.func f) #[] #[])))
    (hl : lentAt (c.args.toList.map s.ev) = some (pos, b, rest)) (hb : s.bk b = some x) (hnl : nolap b rest = true) (h : argK s rest fun l lent => E.M f pos x l (K lent)) :
    ∃ r x' lent, K lent r x' ∧ ∀ (S : Nat → Prop) (base : Nat) (w0 : W0 E.G) (s' : St) (ρ : Nat → Option Value) (a : Act) (w : World) (K' : Act → World → Prop) (Q : Exit → Act → World → Prop),
      Same o s s' → Good S base w0 s' ρ a w → (∀ v w' q, ρ b = some (.pointer (some ⟨q, 0, none⟩)) → w.grownBy w' (some q) → (∃ S0 : Nat → Prop, RR (fun z => S0 z ∧ z ≠ q) w.heap.size w' r v ∧ HB (fun z => (S0 z ∨ w.heap.size ≤ z) ∧ z ≠ q) w' q x' ∧ (lent = false → ∀ z, S0 z → Dt S base ρ z)) → K' (a.put o.dst v) w') → o.wp E.P a w K' Q := by
  obtain ⟨ys, xx, rfl, hxx, hxm, hym, hmap⟩ := lentAt_spec hl
  obtain ⟨ds, lent, hM, hargs⟩ := argK_spec h
  obtain ⟨⟨r, x', hok, hK⟩, fn, hfn, hbd, hn⟩ := E.hMu _ _ _ _ _ hM
  refine ⟨r, x', lent, hK, fun S base w0 s' ρ a w K' Q hs g hK' => ?_⟩
  have hmem : ∀ x ∈ c.args.toList, x ∈ o.op.operands := fun x hx => by rw [ho]; simp only [Op.operands, Call.operands, Array.mem_append]; right; simpa using hx
  have hmy : y ∈ o.op.operands := by rw [ho]; simp [Op.operands, Call.operands, hc]
  have hlk : looks o = true := by simp [looks, ho]
  have hbk : s'.bk b = some x := (hs.bk (hmem _ hxm) hlk (by rw [hxx]; simp [T.refs])).trans hb
  have hB := g.b b
  rw [hbk] at hB
  obtain ⟨q, hρ, hhb⟩ : ∃ q, ρ b = some (.pointer (some ⟨q, 0, none⟩)) ∧ HB (Dt S base ρ) w q x := by
    cases x with
    | var l => obtain ⟨q, cs, t, h1, _, h2, h3⟩ := hB; exact ⟨q, h1, cs, t, h2, h3⟩
    | obj p => obtain ⟨q, cs, t, h1, _, h2, h3⟩ := hB; exact ⟨q, h1, cs, t, h2, h3⟩
    | sl e sz n l =>
      exfalso
      obtain ⟨u, cs, h1, h2, _⟩ := hB
      have h3 := evData hs g (hmem _ hxm) hxx u h1
      obtain ⟨r', h4, _⟩ := h3
      rcases h2.2 with ⟨e1, _⟩ | ⟨_, _, _, e1, _⟩ <;> rw [h4] at e1 <;> cases e1
  have hval : a.eval xx = .pointer (some ⟨q, 0, none⟩) := by
    obtain ⟨r', h4, h5⟩ := evData hs g (hmem _ hxm) hxx _ hρ
    cases h4; exact h5
  obtain ⟨h1, h2⟩ := hargs S base w0 s' ρ a w (fun x hx => ⟨(hs x (hmem x (hym x hx))).1, fun b hb => hs.bk (hmem x (hym x hx)) hlk hb⟩) g
  have hq := g.low b _ q hρ rfl
  have hnq : ∀ z, Dt S base ρ z → z ≠ q := fun z hz e => hz.2 b _ hρ (by rw [e]; rfl)
  unfold Oper.wp
  rw [exec_call ho hc (evPlain hs g hmy hy) hfn hbd hn, Oper.upon_enter, hmap a.eval, hval]
  cases hl' : lent with
  | true =>
    have hD : ∀ z, Dt S base ρ z → True ∧ z ≠ q := fun z hz => ⟨trivial, hnq z hz⟩
    refine (hok (fun _ => True) w q _ hq.2 (g.glob.up (toKeeps hD)) (hhb.up (toKeeps hD) rfl) (h1 _ hD (fun y' hy' b' hb' u z hu hz => ⟨trivial, fun e => ?_⟩))).mono ?_
    · subst e
      exact nolap_spec hnl y' hy' (by rw [← g.inj b' b u _ z hu hρ hz rfl]; exact hb')
    · rintro e w' ⟨v, rfl, h3, h4, h5⟩
      exact hK' v w' q hρ h5 ⟨_, h3, h4, fun e => by rw [hl'] at e; cases e⟩
  | false =>
    have hD : ∀ z, Dt S base ρ z → Dt S base ρ z ∧ z ≠ q := fun z hz => ⟨hz, hnq z hz⟩
    refine (hok (Dt S base ρ) w q _ hq.2 (g.glob.up (toKeeps hD)) (hhb.up (toKeeps hD) rfl) (RAs.up (toKeeps hD) (h2 hl'))).mono ?_
    rintro e w' ⟨v, rfl, h3, h4, h5⟩
    exact hK' v w' q hρ h5 ⟨_, h3, h4, fun _ z hz => hz⟩

/-- the world behind such a call -/
theorem Good.lent {S : Nat → Prop} {base : Nat} {w0 : W0 E.G} {s' : St} {ρ : Nat → Option Value} {a : Act} {w w' : World} (g : Good S base w0 s' ρ a w) {b q : Nat} (hρ : ρ b = some (.pointer (some ⟨q, 0, none⟩))) {x x' : Bk} (hb : s'.bk b = some x)
    (hw : w.grownBy w' (some q)) {S0 : Nat → Prop} {lent : Bool} (hB : HB (fun z => (S0 z ∨ w.heap.size ≤ z) ∧ z ≠ q) w' q x') (hf : lent = true → flatBk x' = true) (h0 : lent = false → ∀ z, S0 z → Dt S base ρ z) :
    Good S base w0 ⟨s'.t, s'.h.set b (some x')⟩ ρ a w' ∧ (lent = false → Keeps (fun z => (S0 z ∧ z ≠ q) ∨ w.heap.size ≤ z) w' (Dt S base ρ) w') := by
  have hupd : upd ρ b (some (.pointer (some ⟨q, 0, none⟩))) = ρ := by
    funext z; unfold upd; split
    · next e => rw [e, hρ]
    · rfl
  have lies : lent = false → ∀ z, (S0 z ∨ w.heap.size ≤ z) → Dt S base ρ z := fun hl z hz => by
    rcases hz with hz | hz
    · exact h0 hl z hz
    · exact ⟨.inr (Nat.le_trans g.size hz), fun b' u hb' hu => by have := (g.low b' u z hb' hu).2; omega⟩
  refine ⟨?_, fun hl => ⟨Nat.le_refl _, fun z _ hz => ⟨lies hl z (by rcases hz with hz | hz; exact .inl hz.1; exact .inr hz), fun _ => rfl⟩⟩⟩
  have g2 := g.change b (bk_lt hb) (.pointer (some ⟨q, 0, none⟩)) x' (some q) hw (by intro r e; cases e; exact ⟨_, hρ, rfl⟩) (by
      intro r e
      simp [realOf] at e; subst e
      exact ⟨.inr ⟨_, hρ, rfl⟩, Nat.lt_of_lt_of_le (g.low b _ q hρ rfl).2 hw.size⟩) (by
      rw [hupd]
      intro K0
      cases x' with
      | sl => exact hB.elim
      | obj p => obtain ⟨cs, t, e, e2⟩ := hB; exact ⟨q, cs, t, hρ, trivial, e, e2⟩
      | var l =>
        obtain ⟨cs, t, e, e2⟩ := hB
        refine ⟨q, cs, t, hρ, trivial, e, ?_⟩
        cases hl : lent with
        | true => exact flat_RL (hf hl) e2
        | false => exact e2.up (toKeeps fun z hz => lies hl z hz.1)) (by
      rw [hupd]
      intro _ i hi hm
      refine (g.t i hi).up ⟨hw.size, fun r' hr' hd => ⟨hd, fun o => ?_⟩⟩ (fun _ _ => rfl)
      exact World.cell?_of_block (hw.block r' hr' (fun e => by cases e; exact hd.2 b _ hρ rfl))) (fun z hz => by rw [hρ] at hz; cases hz; rfl)
  rwa [hupd] at g2
/-- an answer of data behind such a call -/
theorem res_lent {r : Res} {lent : Bool} {S0 D : Nat → Prop} {w w' : World} {q : Nat} {v : Value} (hf : lent = true → flatRes r = true) (hk : lent = false → Keeps (fun z => (S0 z ∧ z ≠ q) ∨ w.heap.size ≤ z) w' D w') (h : RR (fun z => S0 z ∧ z ≠ q) w.heap.size w' r v) :
    (∀ d, r = .d d → RA D w' d v) ∧ (∀ l, r = .t l → ∃ vs, v = .tuple vs.toArray ∧ RAs D w' l vs) := by
  constructor
  · rintro d rfl
    cases hl : lent with
    | true => exact flat_RA (hf hl) h
    | false => exact RA.up (hk hl) h
  · rintro l rfl
    obtain ⟨vs, rfl, h⟩ := h
    refine ⟨vs, rfl, ?_⟩
    cases hl : lent with
    | true => exact h.flat (hf hl)
    | false => exact h.up (hk hl)

theorem ok_callObj {c : Call} {y : Operand} {f : FuncId} {pos b : Nat} {rest : List T} {p : List Value → TypeId → Prop} {k : KO} (ho : o.op = .call c) (hc : c.callee = .value y) (hy : s.ev y = .d (.v (.func (.func f) #[] #[])))
    (hl : lentAt (c.args.toList.map s.ev) = some (pos, b, rest)) (hb : s.bk b = some (.obj p)) (hnl : nolap b rest = true) (h : argK s rest fun l lent => E.M f pos (.obj p) l fun r x' => x' = .obj p ∧ (lent = true → flatRes r = true) ∧ resD r k) :
    ∃ t blk, k t blk ∧ OpOK E o s fr t blk := by
  obtain ⟨r, x', lent, ⟨rfl, hf1, hr⟩, hrun⟩ := run_lent (K := fun lent r x' => x' = .obj p ∧ (lent = true → flatRes r = true) ∧ resD r k) ho hc hy hl hb hnl h
  have hf2 : lent = true → flatBk (.obj p) = true := fun _ => rfl
  have hbk : ∀ {s' : St}, Same o s s' → s'.bk b = some (.obj p) := fun {s'} hs => by
    obtain ⟨ys, xx, _, hxx, hxm, _⟩ := lentAt_spec hl
    have hmem : xx ∈ o.op.operands := by rw [ho]; simp only [Op.operands, Call.operands, Array.mem_append]; right; simpa using hxm
    exact (hs.bk hmem (by simp [looks, ho]) (by rw [hxx]; simp [T.refs])).trans hb
  have stay : ∀ {s' : St}, s'.bk b = some (.obj p) → s'.h.set b (some (.obj p)) = s'.h := fun {s'} h => by
    refine List.ext_getElem (by simp) fun i h1 h2 => ?_
    rw [List.getElem_set]
    split
    · next e =>
      subst e
      unfold St.bk at h
      rw [List.getD_eq_getElem?_getD, List.getElem?_eq_getElem h2] at h
      exact h.symm
    · rfl
  unfold resD at hr
  split at hr
  · next d =>
    refine ⟨_, _, hr, fun b' hb' => by simp [T.refs] at hb', fun b' x e => (by cases e), fun S base w0 s' ρ a w K Q hs g _ _ hK => ?_⟩
    refine hrun S base w0 s' ρ a w K Q hs g fun v w' q hρ hw ⟨S0, h3, h4, h5⟩ => ?_
    obtain ⟨g2, k2⟩ := g.lent hρ (hbk hs) hw h4 hf2 h5
    rw [stay (hbk hs)] at g2
    exact hK _ _ ρ (g2.put' o.dst (t := .d d) ((res_lent hf1 k2 h3).1 d rfl) (by simp [T.refs]))
  · next l =>
    refine ⟨_, _, hr, fun b' hb' => by simp [T.refs] at hb', fun b' x e => (by cases e), fun S base w0 s' ρ a w K Q hs g _ _ hK => ?_⟩
    refine hrun S base w0 s' ρ a w K Q hs g fun v w' q hρ hw ⟨S0, h3, h4, h5⟩ => ?_
    obtain ⟨g2, k2⟩ := g.lent hρ (hbk hs) hw h4 hf2 h5
    rw [stay (hbk hs)] at g2
    exact hK _ _ ρ (g2.put' o.dst (t := .tup l) ((res_lent hf1 k2 h3).2 l rfl) (by simp [T.refs]))
  · exact hr.elim

/-- every operation of the machine -/
theorem opA_sound {k : KO} (h : opA E o s fr k) : ∃ t blk, k t blk ∧ OpOK E o s fr t blk := by
  unfold opA at h
  split at h
  case h_1 x ho => exact ⟨_, _, h, ok_move (.inl ho)⟩
  case h_2 x ho => exact ⟨_, _, h, ok_move (.inr ho)⟩
  case h_3 c x y ho =>
    split at h
    · next b hc =>
      cases b
      · exact ⟨_, _, h.out, ok_pick (b := false) ho hc⟩
      · exact ⟨_, _, h.out, ok_pick (b := true) ho hc⟩
    · exact h.elim
  case h_4 op t x y yt ho =>
    split at h
    · next p q hx hy =>
      split at h
      · next a b =>
        obtain ⟨⟨i, hi, hu⟩, h⟩ := h
        split at h
        · exact ⟨_, _, h, ok_binBool ho hx hy hu (.inl ⟨rfl, rfl⟩)⟩
        · exact ⟨_, _, h, ok_binBool ho hx hy hu (.inr ⟨rfl, rfl⟩)⟩
        · exact h.elim
      · obtain ⟨hu, h⟩ := h
        split at h
        · exact ⟨_, _, h, ok_binStr ho hx hy (.inl ⟨rfl, rfl⟩)⟩
        · exact ⟨_, _, h, ok_binStr ho hx hy (.inr ⟨rfl, rfl⟩)⟩
        · exact ⟨_, _, h.2, ok_binCat ho hx hy h.1⟩
        · exact h.elim
      · obtain ⟨hu, h⟩ := h
        split at h
        · exact ⟨_, _, h, ok_nilNil ho hx hy hu (.inl ⟨rfl, rfl⟩)⟩
        · exact ⟨_, _, h, ok_nilNil ho hx hy hu (.inr ⟨rfl, rfl⟩)⟩
        · exact h.elim
      · obtain ⟨r, hK, hr⟩ := ok_bin ho hx hy h
        exact ⟨_, _, hK, hr⟩
    · next b base hx hy =>
      obtain ⟨hu, h⟩ := h
      split at h
      · exact ⟨_, _, h, ok_ptrNil ho hx hy hu (.inl ⟨rfl, rfl⟩)⟩
      · exact ⟨_, _, h, ok_ptrNil ho hx hy hu (.inr ⟨rfl, rfl⟩)⟩
      · exact h.elim
    · next l m hx hy =>
      split at h
      · next i hY =>
        obtain ⟨h1, h2, h3, h⟩ := h
        split at h
        · exact ⟨_, _, h, ok_eqAgg ho hx hy hY h1 h2 h3 (.inl ⟨rfl, rfl⟩)⟩
        · exact ⟨_, _, h, ok_eqAgg ho hx hy hY h1 h2 h3 (.inr ⟨rfl, rfl⟩)⟩
        · exact h.elim
      · exact h.elim
    · exact h.elim
  case h_5 op t x ho =>
    split at h
    · next hx => exact ⟨_, _, h, ok_not ho hx⟩
    · next hx => exact ⟨_, _, h, ok_neg ho hx⟩
    · exact h.elim
  case h_6 e ho =>
    split at h
    · next i hY => exact ⟨_, _, h, ok_alloc ho hY⟩
    · exact h.elim
  case h_7 e x ho =>
    split at h
    · next a hx =>
      split at h
      · next l hl => exact ⟨_, _, h, ok_box ho hx hl⟩
      · exact h.elim
    · exact h.elim
  case h_8 t x ho =>
    split at h
    · exact h.elim
    · next i hY =>
      split at h
      · next b base hx0 =>
        have hx := (evG_cases hx0).resolve_right (by rintro ⟨_, _, _, _, e⟩; cases e)
        split at h
        · next l hk =>
          obtain ⟨d, hd, hs⟩ := rdK_spec h
          exact ⟨_, _, hd, ok_loadVar ho hY (b := b) (by rw [hx]; simp [T.refs]) hk (fun {D ρ w v r} hv hb => by
            rw [hx] at hv; obtain ⟨r', e1, e2⟩ := hv _ hb; cases e1; exact e2) hs⟩
        · exact h.elim
      · next b base rel hx0 =>
        have hx := (evG_cases hx0).resolve_right (by rintro ⟨_, _, _, _, e⟩; cases e)
        split at h
        · next l hk =>
          obtain ⟨d, hd, hs⟩ := rdiK_spec h
          exact ⟨_, _, hd, ok_loadVar ho hY (b := b) (by rw [hx]; simp [T.refs]) hk (fun {D ρ w v r} hv hb => by
            rw [hx] at hv; obtain ⟨r', e1, e2⟩ := hv _ hb; cases e1; exact e2) hs⟩
        · exact h.elim
      · next b n off hx0 =>
        have hx := (evG_cases hx0).resolve_right (by rintro ⟨_, _, _, _, e⟩; cases e)
        split at h
        · next e sz m l hk =>
          obtain ⟨rfl, h⟩ := h
          obtain ⟨d, hd, hs⟩ := rdiK_spec h
          exact ⟨_, _, hd, ok_loadOwn ho hY hx hk (by intro S w cs hcs; have := hs hcs; rwa [Nat.zero_add] at this)⟩
        · exact h.elim
      · next l off hx =>
        obtain ⟨hz, h⟩ := h
        obtain ⟨d, hd, hs⟩ := rdiK_spec h
        exact ⟨_, _, hd, ok_loadRef ho hY hx (by intro S w cs hcs; have := hs hcs; rwa [Nat.zero_add] at this) hz⟩
      · exact h.elim
  case h_9 t x y ho =>
    split at h
    · exact h.elim
    · next i hY =>
      split at h
      · next b base d hx hy =>
        split at h
        · next l hk =>
          obtain ⟨l', hl, hs⟩ := wrK_spec h
          exact ⟨_, _, hl, ok_store ho hY (b := b) (by rw [hx]; simp [T.refs]) hk hy (fun {D ρ w v r} hv hb => by
            rw [hx] at hv; obtain ⟨r', e1, e2⟩ := hv _ hb; cases e1; exact e2) hs⟩
        · exact h.elim
      · next b base rel d hx hy =>
        split at h
        · next l hk =>
          obtain ⟨l', hl, hs⟩ := wriK_spec h
          exact ⟨_, _, hl, ok_store ho hY (b := b) (by rw [hx]; simp [T.refs]) hk hy (fun {D ρ w v r} hv hb => by
            rw [hx] at hv; obtain ⟨r', e1, e2⟩ := hv _ hb; cases e1; exact e2) hs⟩
        · exact h.elim
      · next b n off d hx hy =>
        split at h
        · next e sz m l hk =>
          obtain ⟨rfl, h1, h2, h⟩ := h
          obtain ⟨l', hl, hs⟩ := wriK_spec h
          exact ⟨_, _, hl, ok_storeOwn ho hY hx hk h1 h2 hy hs⟩
        · exact h.elim
      · exact h.elim
  case h_10 t x f ho =>
    split at h
    · exact h.elim
    · next i hY =>
      split at h
      · exact h.elim
      · next off hf =>
        split at h
        · next b base hx => exact ⟨_, _, h, ok_fieldAddr ho hY hf hx ⟨b, base, .inl ⟨rfl, rfl⟩⟩⟩
        · next b base rel hx => exact ⟨_, _, h, ok_fieldAddr ho hY hf hx ⟨b, base, .inr ⟨rel, .inl ⟨rfl, rfl⟩⟩⟩⟩
        · next b n q hx =>
          split at h
          · next e sz m l hk =>
            obtain ⟨rfl, h⟩ := h
            exact ⟨_, _, h, ok_fieldAddr ho hY hf hx ⟨b, n, .inr ⟨q, .inr ⟨rfl, rfl, e, sz, l, hk⟩⟩⟩⟩
          · exact h.elim
        · next l q hx => exact ⟨_, _, h, ok_fieldRef ho hY hf hx⟩
        · exact h.elim
  case h_11 t x ix ho =>
    split at h
    · exact h.elim
    · next i hY =>
      obtain ⟨he, h⟩ := h
      split at h
      · next k' z hi =>
        split at h
        · next b base hx0 => exact ⟨_, _, h.2.2.2, ok_indexArr ho hY he h.1 hi h.2.1 h.2.2.1 (.inl ⟨(evG_cases hx0).resolve_right (by rintro ⟨_, _, _, _, e⟩; cases e), rfl⟩)⟩
        · next b base rel hx0 => exact ⟨_, _, h.2.2.2, ok_indexArr ho hY he h.1 hi h.2.1 h.2.2.1 (.inr ⟨rel, (evG_cases hx0).resolve_right (by rintro ⟨_, _, _, _, e⟩; cases e), rfl⟩)⟩
        · next l off hx => exact ⟨_, _, h.2.2.2, ok_indexRef ho hY he h.1 hi h.2.1 h.2.2.1 hx⟩
        · next n l hx0 => exact ⟨_, _, h.2.2.2.2, ok_indexRow ho hY he h.1 hi h.2.1 h.2.2.1 ((evG_cases hx0).resolve_right (by rintro ⟨_, _, _, _, e⟩; cases e)) h.2.2.2.1⟩
        · next b n off hx0 =>
          have hx := (evG_cases hx0).resolve_right (by rintro ⟨_, _, _, _, e⟩; cases e)
          split at h
          · next e sz m l hk =>
            obtain ⟨rfl, h1, h2, h3, h⟩ := h
            exact ⟨_, _, h, ok_indexEpt ho hY he h1 hi h2 h3 hx hk⟩
          · exact h.elim
        · next b n hx0 =>
          have hx := (evG_cases hx0).resolve_right (by rintro ⟨_, _, _, _, e⟩; cases e)
          split at h
          · next e sz m l hk =>
            obtain ⟨h1, h2, h3, rfl, h5, h⟩ := h
            exact ⟨_, _, h, ok_indexOwn ho hY he h1 hi h2 h3 hx hk⟩
          · exact h.elim
        · exact h.elim
      · exact h.elim
  case h_12 t x ix ho =>
    split at h
    · exact h.elim
    · next i hY =>
      obtain ⟨he, hl, h⟩ := h
      split at h
      · next l k' z j hx hi hj =>
        obtain ⟨h0, h1, h⟩ := h
        obtain ⟨d, hd, hs⟩ := rdiK_spec h
        exact ⟨_, _, hd, ok_index ho hY he hl hx hi hj h0 h1 hs⟩
      · exact h.elim
  case h_13 t x f ho =>
    split at h
    · exact h.elim
    · next i hY =>
      split at h
      · next off ft l hf hft hx =>
        split at h
        · next j hj =>
          obtain ⟨d, hd, hs⟩ := rdK_spec h
          exact ⟨_, _, hd, ok_field ho hY hf hft hx hj hs⟩
        · exact h.elim
      · exact h.elim
  case h_14 t parts ho =>
    split at h
    · exact h.elim
    · next i hY =>
      obtain ⟨ha, hl, h⟩ := h
      obtain ⟨l, hK, hr⟩ := ok_build ho hY ha hl h
      exact ⟨_, _, hK, hr⟩
  case h_15 src dst x ho =>
    split at h
    · next si i k' z hs hY hx =>
      split at h
      · next q hq => exact ⟨_, _, h, ok_conv ho hs hY hx hq⟩
      · exact h.elim
    · next si i hs hY _ => exact ok_str ho hs h.1 h.2.1 h.2.2.1 h.2.2.2
    · exact h.elim
  case h_16 t x lo hi mx ho =>
    split at h
    · next i b base hY hx => exact ⟨_, _, h.2.2.2, ok_win ho hY h.1 h.2.1 h.2.2.1 hx⟩
    · next i b base rel hY hx => exact ⟨_, _, h.2.2.2, ok_winI ho hY h.1 h.2.1 h.2.2.1 hx⟩
    · next i n l lo hi hY hx =>
      obtain ⟨h1, h2, h⟩ := h
      obtain ⟨a, h, ha⟩ := bndK_spec h
      obtain ⟨b, ⟨h3, h4, h⟩, hb⟩ := bndK_spec h
      obtain ⟨m, hm, h5, h6⟩ := subK_spec h
      exact ⟨_, _, hm, ok_sub ho hY h1 h2 hx ha hb h3 h4 h5 h6⟩
    · next i b n hi hY hx =>
      obtain ⟨h1, h2, h⟩ := h
      split at h
      · next e sz q l hk =>
        obtain ⟨rfl, h⟩ := h
        obtain ⟨c, ⟨h3, h⟩, hb⟩ := bndK_spec h
        exact ⟨_, _, h, ok_pre ho hY h1 h2 hx hk hb h3⟩
      · exact h.elim
    · exact h.elim
  case h_17 c ho =>
    split at h
    · next y hc =>
      split at h
      · next f hy0 =>
        have hy := fnOf_spec hy0
        split at h
        · exact ok_call ho hc hy h
        · next pos b rest hl =>
          split at h
          · next p hb => exact ok_callObj ho hc hy hl hb h.1 h.2
          · exact h.elim
      · exact h.elim
    · next hc =>
      split at h
      · next x y t t' ha ht =>
        obtain ⟨rfl, h⟩ := h
        split at h
        · next i hY =>
          obtain ⟨hs1, he, h⟩ := h
          split at h
          · next j hj =>
            obtain ⟨hjb, hjs, h⟩ := h
            obtain ⟨m, news, ⟨hseg, h⟩, hsrc⟩ := srcK_spec (E := E) h
            split at h
            · next b n hx =>
              split at h
              · next e sz q l hk =>
                obtain ⟨rfl, rfl, rfl, hb, h⟩ := h
                exact ⟨_, _, h, ok_append ho hc ha ht hY hs1 he hj hjb hjs hsrc hseg hx hk hb⟩
              · exact h.elim
            · next hx => exact ⟨_, _, h.2, ok_appendNew ho hc ha ht hY hs1 he hj hjb hjs hsrc hseg hx h.1⟩
            · exact h.elim
          · exact h.elim
        · exact h.elim
      · exact h.elim
    · next hc =>
      split at h
      · next q x q' y ha => exact ⟨_, _, h, ok_minmax (mx := false) ho hc ha⟩
      · exact h.elim
    · next hc =>
      split at h
      · next q x q' y ha => exact ⟨_, _, h, ok_minmax (mx := true) ho hc ha⟩
      · exact h.elim
    · next hc =>
      split at h
      · next x t ha ht =>
        split at h
        · next i hY =>
          obtain ⟨h1, h⟩ := h
          split at h
          · next n l hx => exact ⟨_, _, h, ok_len ho hc ha ht hY h1 (.inl ⟨l, hx⟩)⟩
          · next b n hx =>
            split at h
            · next e sz m l hk =>
              obtain ⟨rfl, h⟩ := h
              exact ⟨_, _, h, ok_len ho hc ha ht hY h1 (.inr (.inl ⟨b, e, sz, l, hx, hk⟩))⟩
            · exact h.elim
          · next b base n hx => exact ⟨_, _, h, ok_len ho hc ha ht hY h1 (.inr (.inr (.inl ⟨b, base, hx⟩)))⟩
          · next hx => exact ⟨_, _, h, ok_len ho hc ha ht hY h1 (.inr (.inr (.inr ⟨rfl, hx⟩)))⟩
          · exact h.elim
        · exact h.elim
      · exact h.elim
    · exact h.elim
  case h_18 x i ho =>
    split at h
    · next l hx =>
      split at h
      · next d hd => exact ⟨_, _, h, ok_extract ho hx hd⟩
      · exact h.elim
    · exact h.elim
  case h_19 x ho =>
    split at h
    · next b base hx => exact ⟨_, _, h, ok_nilCheck ho (.inl ⟨b, base, hx, rfl⟩)⟩
    · next b base rel hx => exact ⟨_, _, h, ok_nilCheck ho (.inr ⟨b, base, rel, hx, rfl⟩)⟩
    · exact h.elim
  case h_20 t x y ho =>
    split at h
    · next i q n q' c hY hx hy =>
      obtain ⟨h1, h2, rfl, h3, h4, h⟩ := h
      split at h
      · next j hj => exact ⟨_, _, h.2.2, ok_make ho hY h1 h2 hx hy h3 h4 hj h.1 h.2.1⟩
      · exact h.elim
    · exact h.elim
  case h_21 t len parts ho =>
    split at h
    · exact h.elim
    · next i hY =>
      obtain ⟨h1, h2, h⟩ := h
      split at h
      · obtain ⟨hp, h⟩ := h
        split at h
        · next j hj => exact ⟨_, _, h, ok_build0 ho hY h1 h2 hj hp⟩
        · exact h.elim
      · obtain ⟨h3, h4, h⟩ := h
        split at h
        · next j hj =>
          split at h
          · next hsl =>
            obtain ⟨h5, h⟩ := h
            split at h
            · next ps hps => exact ⟨_, _, h.2.2, ok_buildRows ho hY h1 h5 h3 h4 hj h.2.1 hps h.1⟩
            · exact h.elim
          · obtain ⟨hjs, h⟩ := h
            obtain ⟨l, hK, hr⟩ := ok_buildSlice ho hY h1 h2 h3 h4 hj hjs h
            exact ⟨_, _, hK, hr⟩
        · exact h.elim
  case h_22 => exact h.elim
end
end Go.Proofs.YtpemaphgmfaioaaGreat

/-
  Statements of the machine without memory: operations in a row; operations whose order is open. No program is named here.
-/
namespace Go.Proofs.YtpemaphgmfaioaaGreat
set_option maxRecDepth 100000
open Go.RowKit
set_option linter.unusedVariables false
set_option linter.unusedSimpArgs false

def guardK (ops : List Oper) (o : Oper) (s : St) (run skip : Prop) : Prop :=
  match o.guard with
  | none => run
  | some (j, want) =>
    match (ops[j]?).bind (·.dst) with
    | none => False
    | some d =>
      match s.sl d with
      | .d (.v (.bool b)) => (match want with | true => StopC (condK b run skip) | false => StopC (condK b skip run))
      | .d (.v (.tuple _)) => skip
      | _ => False
def stepK (E : EnvX) (ops : List Oper) (o : Oper) (s : St) (fr : Nat) (k : KO) : Prop := guardK ops o s (opA E o s fr k) (k (.d (.v undef)) none)

def boolOf : Value → Option Bool | .bool c => some c | _ => none
/-- is the operation carried out? -/
def Wants (ops : List Oper) (o : Oper) (s : St) (b : Bool) : Prop :=
  match o.guard with
  | none => b = true
  | some (j, want) => ∃ d x, (ops[j]?).bind (·.dst) = some d ∧ s.sl d = .d (.v x) ∧ b = (boolOf x == some want)
def StepOK (E : EnvX) (ops : List Oper) (o : Oper) (s : St) (fr : Nat) (t : T) (blk : Option (Nat × Bk)) : Prop :=
  (Wants ops o s true ∧ OpOK E o s fr t blk) ∨ (Wants ops o s false ∧ t = .d (.v undef) ∧ blk = none)
theorem stepK_sound {E : EnvX} {ops : List Oper} {o : Oper} {s : St} {fr : Nat} {k : KO} (h : stepK E ops o s fr k) : ∃ t blk, k t blk ∧ StepOK E ops o s fr t blk := by
  unfold stepK guardK at h
  split at h
  · next hg =>
    obtain ⟨t, blk, h1, h2⟩ := opA_sound h
    exact ⟨t, blk, h1, .inl ⟨by unfold Wants; rw [hg], h2⟩⟩
  · next j want hg =>
    split at h
    · exact h.elim
    · next d hd =>
      have W : ∀ x b, s.sl d = .d (.v x) → b = (boolOf x == some want) → Wants ops o s b := fun x b h1 h2 => by
        unfold Wants; rw [hg]; exact ⟨d, x, hd, h1, h2⟩
      split at h
      · next b hs =>
        cases b <;> cases want
        · obtain ⟨t, blk, h1, h2⟩ := opA_sound h.out
          exact ⟨t, blk, h1, .inl ⟨W _ _ hs rfl, h2⟩⟩
        · exact ⟨_, _, h.out, .inr ⟨W _ _ hs rfl, rfl, rfl⟩⟩
        · exact ⟨_, _, h.out, .inr ⟨W _ _ hs rfl, rfl, rfl⟩⟩
        · obtain ⟨t, blk, h1, h2⟩ := opA_sound h.out
          exact ⟨t, blk, h1, .inl ⟨W _ _ hs rfl, h2⟩⟩
      · next hs => exact ⟨_, _, h, .inr ⟨W _ _ hs (by cases want <;> rfl), rfl, rfl⟩⟩
      · exact h.elim

section
variable {E : EnvX} {S : Nat → Prop} {base : Nat} {w0 : W0 E.G}

theorem Wants.real {ops : List Oper} {o : Oper} {s s' : St} {b : Bool} {ρ : Nat → Option Value} {a : Act} {w : World} (h : Wants ops o s b) (g : Good S base w0 s' ρ a w)
    (hs : ∀ j want d, o.guard = some (j, want) → (ops[j]?).bind (·.dst) = some d → s'.sl d = s.sl d) : Region.wanted o (yielded ops.toArray a.tmps) = b := by
  unfold Wants at h
  unfold Region.wanted
  split at h
  · next hg => rw [hg, h]
  · next j want hg =>
    obtain ⟨d, x, hd, hx, rfl⟩ := h
    rw [hg]
    have h1 := g.ev (.tmp d)
    have h2 : s'.ev (.tmp d) = .d (.v x) := by show s'.sl d = _; rw [hs j want d hg hd, hx]
    rw [h2] at h1
    have h3 : a.tmps.getD d undef = x := RA.plain h1
    have hlt : d < a.tmps.size := by
      apply Decidable.byContradiction
      intro hn
      have : s'.sl d = .dead := by
        unfold St.sl
        rw [List.getD_eq_getElem?_getD, List.getElem?_eq_none (by rw [g.len]; exact Nat.le_of_not_lt hn)]; rfl
      rw [show s'.sl d = .d (.v x) from h2] at this; cases this
    have h4 : a.tmps[d]? = some x := by
      rw [Array.getD_eq_getD_getElem?, Array.getElem?_eq_getElem hlt] at h3
      rw [Array.getElem?_eq_getElem hlt]; exact congrArg some h3
    have h5 : yielded ops.toArray a.tmps j = boolOf x := by
      unfold yielded
      rw [List.getElem?_toArray, hd, Option.bind_some, h4]
      cases x <;> rfl
    show (yielded ops.toArray a.tmps j == some want) = _
    rw [h5]

/-- states of which the same can be read -/
structure Sim (s s' : St) : Prop where
  t : s'.t.length = s.t.length
  h : s.h.length ≤ s'.h.length
  sl : ∀ i, s'.sl i = s.sl i
  bk : ∀ b, s'.bk b = s.bk b
theorem Good.sim {G : Nat → Option (List Seg)} {S : Nat → Prop} {base : Nat} {w0 : W0 G} {s s' : St} {ρ : Nat → Option Value} {a : Act} {w : World} (g : Good S base w0 s ρ a w) (e : Sim s s') : Good S base w0 s' ρ a w :=
  ⟨e.t.trans g.len, fun i hi => by rw [e.sl]; exact g.t i hi, fun b => by rw [e.bk]; exact g.b b, fun i b hb => by rw [e.bk]; rw [e.sl] at hb; exact g.dang i b hb, g.inj, g.low, g.bel, g.glob, g.pin, g.size, g.defs⟩
theorem bk_more (s : St) (n b : Nat) : St.bk ⟨s.t, s.h ++ List.replicate n none⟩ b = s.bk b := by
  simp only [St.bk, List.getD_eq_getElem?_getD]
  by_cases h : b < s.h.length
  · rw [List.getElem?_append_left h]
  · rw [List.getElem?_append_right (by omega), List.getElem?_eq_none (l := s.h) (by omega), List.getElem?_replicate]
    split <;> rfl
theorem Sim.more (s : St) (n : Nat) : Sim s ⟨s.t, s.h ++ List.replicate n none⟩ := ⟨rfl, by simp, fun _ => rfl, bk_more s n⟩

/-! operations in a row -/
def St.app2 (s : St) (dst : Option Nat) (t : T) (blk : Option (Nat × Bk)) : St :=
  ⟨match dst with | some d => s.t.set d t | none => s.t, match blk with | some (b, x) => if b = s.h.length then s.h ++ [some x] else s.h.set b (some x) | none => s.h⟩
/-- a call to which a variable of one's own is lent, by its address -/
def mutK (E : EnvX) (o : Oper) (s : St) (K : St → Prop) (other : Prop) : Prop :=
  match o.op with
  | .call c =>
    (match c.callee with
     | .value x =>
       (match fnOf (s.ev x) with
        | some f =>
          (match lentAt (c.args.toList.map s.ev) with
           | some (pos, b, rest) =>
             (match s.bk b with
              | some (.var l) => nolap b rest = true ∧ o.guard = none ∧ argK s rest fun args lent => E.M f pos (.var l) args fun r x' => (lent = true → flatRes r = true) ∧ (lent = true → flatBk x' = true) ∧
                  (match r with
                   | .d a => K ⟨match o.dst with | some d => s.t.set d (.d a) | none => s.t, s.h.set b (some x')⟩
                   | .t m => K ⟨match o.dst with | some d => s.t.set d (.tup m) | none => s.t, s.h.set b (some x')⟩
                   | _ => False)
              | _ => other)
           | none => other)
        | none => other)
     | _ => other)
  | _ => other
def regA (E : EnvX) (ops : List Oper) : List Oper → St → (St → Prop) → Prop
  | [], s, k => k s
  | o :: r, s, k => mutK E o s (fun s' => Stop (regA E ops r s' k)) <| stepK E ops o s s.h.length fun t blk => Stop (regA E ops r (s.app2 o.dst t blk) k)

theorem app_bk (s : St) (d : Option Nat) (t : T) (blk : Option (Nat × Bk)) (b : Nat) : (s.app d t blk).bk b = (match blk with | some (b0, x) => if b0 = b ∧ b0 < s.h.length then some x else s.bk b | none => s.bk b) := by
  unfold St.app St.bk
  cases blk with
  | none => rfl
  | some p => obtain ⟨b0, x⟩ := p; simp only [getD_set_list]
theorem app_sl (s : St) (d : Option Nat) (t : T) (blk : Option (Nat × Bk)) (i : Nat) : (s.app d t blk).sl i = if d = some i ∧ i < s.t.length then t else s.sl i := by
  unfold St.app St.sl
  cases d with
  | none => simp
  | some d =>
    simp only [getD_set_list, Option.some.injEq]
    by_cases h : d = i
    · subst h; rfl
    · rw [if_neg (fun e => h e.1), if_neg (fun e => h e.1)]
theorem app_lens (s : St) (d : Option Nat) (t : T) (blk : Option (Nat × Bk)) : (s.app d t blk).t.length = s.t.length ∧ (s.app d t blk).h.length = s.h.length := by
  unfold St.app
  constructor
  · cases d <;> simp
  · cases blk with
    | none => rfl
    | some p => simp
theorem app2_sim {s : St} {d : Option Nat} {t : T} {blk : Option (Nat × Bk)} : Sim (s.app2 d t blk) (St.app ⟨s.t, s.h ++ List.replicate 1 none⟩ d t blk) := by
  have hb : ∀ b, (St.app ⟨s.t, s.h ++ List.replicate 1 none⟩ d t blk).bk b = (s.app2 d t blk).bk b := by
    intro b
    rw [app_bk]
    unfold St.app2
    cases blk with
    | none => exact bk_more s 1 b
    | some p =>
      obtain ⟨b0, x⟩ := p
      simp only [bk_more, List.length_append, List.length_replicate]
      by_cases h : b0 = s.h.length
      · subst h
        simp only [if_true, St.bk, List.getD_eq_getElem?_getD, List.getElem?_append]
        by_cases hb : b < s.h.length
        · rw [if_neg (by omega), if_pos hb]
        · rw [if_neg hb]
          by_cases h2 : s.h.length = b
          · rw [if_pos (by omega)]; subst h2; simp
          · rw [if_neg (by omega), List.getElem?_eq_none (by omega)]
            rw [List.getElem?_eq_none (by simp; omega)]
      · rw [if_neg h]
        simp only [St.bk, getD_set_list]
        by_cases h2 : b0 = b
        · subst h2
          by_cases h3 : b0 < s.h.length
          · rw [if_pos (by omega), if_pos (by omega)]
          · rw [if_neg (by omega), if_neg (by omega)]
        · rw [if_neg (fun e => h2 e.1), if_neg (fun e => h2 e.1)]
  refine ⟨(app_lens _ _ _ _).1.trans ?_, ?_, fun i => ?_, hb⟩
  · unfold St.app2; cases d <;> simp
  · rw [(app_lens _ _ _ _).2]
    unfold St.app2
    cases blk with
    | none => simp
    | some p => obtain ⟨b0, x⟩ := p; simp only; split <;> simp
  · rw [app_sl]
    unfold St.app2 St.sl
    cases d with
    | none => simp
    | some d =>
      simp only [getD_set_list, Option.some.injEq]
      by_cases h : d = i
      · subst h; rfl
      · rw [if_neg (fun e => h e.1), if_neg (fun e => h e.1)]
theorem Good.simBack {s s' : St} {ρ : Nat → Option Value} {a : Act} {w : World} (g : Good S base w0 s' ρ a w) (e : Sim s s') : Good S base w0 s ρ a w :=
  ⟨e.t.symm.trans g.len, fun i hi => by rw [← e.sl]; exact g.t i hi, fun b => by rw [← e.bk]; exact g.b b, fun i b hb => by rw [← e.bk]; rw [← e.sl] at hb; exact g.dang i b hb, g.inj, g.low, g.bel, g.glob, g.pin, g.size, g.defs⟩

/-- one operation, in whatever world the state is -/
theorem StepOK.run {ops : List Oper} {o : Oper} {s s' : St} {fr : Nat} {t : T} {blk : Option (Nat × Bk)} {ρ : Nat → Option Value} {a : Act} {w : World} {K : Act → World → Prop} {Q : Exit → Act → World → Prop}
    (h : StepOK E ops o s fr t blk) (hs : Same o s s') (hg : ∀ j want d, o.guard = some (j, want) → (ops[j]?).bind (·.dst) = some d → s'.sl d = s.sl d) (g : Good S base w0 s' ρ a w) (h1 : s'.bk fr = none) (h2 : fr < s'.h.length)
    (hK : ∀ a' w' ρ', Good S base w0 (s'.app o.dst t blk) ρ' a' w' → K a' w') :
    if Region.wanted o (yielded ops.toArray a.tmps) then o.wp E.P a w K Q ∨ (o.asks E.P a w ∧ LetsOut Q) else K (a.put o.dst undef) w := by
  rcases h with ⟨hw, h⟩ | ⟨hw, rfl, rfl⟩
  · rw [hw.real g hg, if_pos rfl]
    exact .inl (h.2.2 S base w0 s' ρ a w K Q hs g h1 h2 hK)
  · rw [hw.real g hg, if_neg (by simp)]
    exact hK _ _ ρ (g.put' o.dst (t := .d (.v undef)) (.v undef) (by simp [T.refs]))

theorem mutK_sound {o : Oper} {s : St} {K : St → Prop} {other : Prop} (h : mutK E o s K other) : (o.guard = none ∧ ∀ (S : Nat → Prop) (base : Nat) (w0 : W0 E.G) (ρ : Nat → Option Value) (a : Act) (w : World) (K' : Act → World → Prop) (Q : Exit → Act → World → Prop),
    Good S base w0 s ρ a w → (∀ s' a' w' ρ', K s' → Good S base w0 s' ρ' a' w' → K' a' w') → o.wp E.P a w K' Q) ∨ other := by
  unfold mutK at h
  split at h
  case h_2 => exact .inr h
  next c ho =>
  split at h
  case h_2 => exact .inr h
  next y hc =>
  split at h
  case h_2 => exact .inr h
  next f hy =>
  split at h
  case h_2 => exact .inr h
  next pos b rest hl =>
  split at h
  case h_2 => exact .inr h
  next l hb =>
  obtain ⟨hnl, hg, h⟩ := h
  refine .inl ⟨hg, ?_⟩
  obtain ⟨r, x', lent, ⟨hf1, hf2, hr⟩, hrun⟩ := run_lent (K := fun lent r x' => (lent = true → flatRes r = true) ∧ (lent = true → flatBk x' = true) ∧
                  (match r with
                   | .d a => K ⟨match o.dst with | some d => s.t.set d (.d a) | none => s.t, s.h.set b (some x')⟩
                   | .t m => K ⟨match o.dst with | some d => s.t.set d (.tup m) | none => s.t, s.h.set b (some x')⟩
                   | _ => False)) ho hc (fnOf_spec hy) hl hb hnl h
  intro S base w0 ρ a w K' Q g hK'
  refine hrun S base w0 s ρ a w K' Q (fun x hx => ⟨rfl, fun _ _ => rfl⟩) g fun v w' q hρ hw ⟨S0, h3, h4, h5⟩ => ?_
  obtain ⟨g2, k2⟩ := g.lent hρ hb hw h4 hf2 h5
  cases r with
  | d d => exact hK' _ _ _ ρ hr (g2.put' o.dst (t := .d d) ((res_lent hf1 k2 h3).1 d rfl) (by simp [T.refs]))
  | t m => exact hK' _ _ _ ρ hr (g2.put' o.dst (t := .tup m) ((res_lent hf1 k2 h3).2 m rfl) (by simp [T.refs]))
  | _ => exact hr.elim
theorem regA_sound {ops : List Oper} : ∀ {l : List Oper} {s : St} {k : St → Prop} {ρ : Nat → Option Value} {a : Act} {w : World}, regA E ops l s k → Good S base w0 s ρ a w →
    wpList E.P ops.toArray (fun e a' w' => e = .normal ∧ ∃ s' ρ', k s' ∧ Good S base w0 s' ρ' a' w') l a w
  | [], s, k, ρ, a, w, h, g => ⟨rfl, s, ρ, h, g⟩
  | o :: r, s, k, ρ, a, w, h0, g => by
    rcases mutK_sound h0 with ⟨hg0, hm⟩ | h
    · unfold wpList
      rw [show Region.wanted o (yielded ops.toArray a.tmps) = true by unfold Region.wanted; rw [hg0], if_pos rfl]
      exact .inl (hm S base w0 ρ a w _ _ g fun s' a' w' ρ' hk g' => regA_sound hk.out g')
    obtain ⟨t, blk, hk, hs⟩ := stepK_sound h
    unfold wpList
    refine hs.run (s' := ⟨s.t, s.h ++ List.replicate 1 none⟩) (ρ := ρ) (a := a) (w := w) (fun x hx => ⟨by cases x <;> rfl, fun b _ => bk_more s 1 b⟩) (fun _ _ _ _ _ => rfl) (g.sim (Sim.more s 1)) ?_ (by simp) fun a' w' ρ' g' => ?_
    · rw [bk_more]
      unfold St.bk
      rw [List.getD_eq_getElem?_getD, List.getElem?_eq_none (Nat.le_refl _)]; rfl
    · exact regA_sound hk.out (g'.simBack app2_sim)
end
end Go.Proofs.YtpemaphgmfaioaaGreat

/-
  Statements of the machine without memory whose order is open: whatever the order, they come to the same. No program is named here.
-/
namespace Go.Proofs.YtpemaphgmfaioaaGreat
set_option maxRecDepth 100000
open Go.RowKit
set_option linter.unusedVariables false
set_option linter.unusedSimpArgs false

structure RecD where
  s : St
  fr : Nat
  t : T
  blk : Option (Nat × Bk)

def opRefs (s : St) (o : Oper) : List Nat := o.op.operands.toList.flatMap fun x => seen o (s.ev x)
def isAlloc (o : Oper) : Bool :=
  match o.op with
  | .alloc _ | .box _ _ | .buildSlice _ _ _ | .makeSlice _ _ _ | .convert _ _ _ | .call _ => true
  | _ => false
abbrev Foot := List Nat × Option Nat × Nat
def regD (E : EnvX) (ops : List Oper) (n0 tot : Nat) : List Oper → Nat → St → List Foot → (List Foot → St → Prop) → Prop
  | [], c, s, acc, k => k acc s
  | o :: r, c, s, acc, k =>
    stepK E ops o s (if isAlloc o = true then n0 + c else n0 + tot) fun t blk =>
      StopD (regD E ops n0 tot r (if isAlloc o = true then c + 1 else c) (s.app o.dst t blk) (acc ++ [(opRefs s o, blk.map (·.1), if isAlloc o = true then n0 + c else n0 + tot)]) k)

section
variable {E : EnvX} {S : Nat → Prop} {base : Nat} {w0 : W0 E.G}

def ChainOK (E : EnvX) (ops : List Oper) : List Oper → List RecD → St → Prop
  | [], [], s => True
  | o :: r, x :: xs, s => x.s = s ∧ StepOK E ops o s x.fr x.t x.blk ∧ ChainOK E ops r xs (s.app o.dst x.t x.blk)
  | _, _, _ => False
def foot : List Oper → List RecD → List Foot
  | o :: r, x :: xs => (opRefs x.s o, x.blk.map (·.1), x.fr) :: foot r xs
  | _, _ => []
def runS : St → List Oper → List RecD → St
  | s, o :: r, x :: xs => runS (s.app o.dst x.t x.blk) r xs
  | s, _, _ => s
theorem regD_chain {ops : List Oper} {n0 tot : Nat} : ∀ {r : List Oper} {c : Nat} {s : St} {acc : List Foot} {k : List Foot → St → Prop}, regD E ops n0 tot r c s acc k →
    ∃ recs, recs.length = r.length ∧ k (acc ++ foot r recs) (runS s r recs) ∧ ChainOK E ops r recs s
  | [], c, s, acc, k, h => ⟨[], rfl, by unfold regD at h; simpa [foot, runS] using h, trivial⟩
  | o :: r, c, s, acc, k, h => by
    obtain ⟨t, blk, hk, hs⟩ := stepK_sound h
    obtain ⟨recs, h1, h2, h3⟩ := regD_chain hk.out
    exact ⟨⟨s, _, t, blk⟩ :: recs, by simp [h1], by rw [List.append_assoc, List.singleton_append] at h2; exact h2, rfl, hs, h3⟩

/-- the state of those operations that are done -/
def runP (s0 : St) (l : List Oper) (recs : List RecD) (p : Nat → Bool) : Nat → St
  | 0 => s0
  | i + 1 => match l[i]?, recs[i]? with
    | some o, some x => if p i = true then (runP s0 l recs p i).app o.dst x.t x.blk else runP s0 l recs p i
    | _, _ => runP s0 l recs p i
theorem runP_shift (s0 : St) (o : Oper) (l : List Oper) (x : RecD) (recs : List RecD) : ∀ i, runP s0 (o :: l) (x :: recs) (fun _ => true) (i + 1) = runP (s0.app o.dst x.t x.blk) l recs (fun _ => true) i
  | 0 => by simp [runP]
  | i + 1 => by
    have ih := runP_shift s0 o l x recs i
    rw [runP, ih, runP]
    simp only [List.getElem?_cons_succ]
theorem chain_at {ops : List Oper} : ∀ {l : List Oper} {recs : List RecD} {s0 : St}, ChainOK E ops l recs s0 → ∀ {i : Nat} {o : Oper} {x : RecD}, l[i]? = some o → recs[i]? = some x →
    x.s = runP s0 l recs (fun _ => true) i ∧ StepOK E ops o x.s x.fr x.t x.blk
  | [], [], s0, h, i, o, x, ho, hx => by simp at ho
  | o' :: l, x' :: recs, s0, h, 0, o, x, ho, hx => by
    simp at ho hx; subst ho; subst hx
    obtain ⟨h1, h2, h3⟩ := h
    exact ⟨h1, by rw [h1]; exact h2⟩
  | o' :: l, x' :: recs, s0, h, i + 1, o, x, ho, hx => by
    obtain ⟨h1, h2, h3⟩ := h
    rw [runP_shift]
    exact chain_at h3 (by simpa using ho) (by simpa using hx)
  | [], _ :: _, s0, h, _, _, _, _, _ => h.elim
  | _ :: _, [], s0, h, _, _, _, _, _ => h.elim
theorem runS_runP : ∀ {l : List Oper} {recs : List RecD} {s0 : St}, recs.length = l.length → runS s0 l recs = runP s0 l recs (fun _ => true) l.length
  | [], recs, s0, h => by cases recs <;> rfl
  | o :: l, [], s0, h => by simp at h
  | o :: l, x :: recs, s0, h => by
    rw [runS, runS_runP (by simpa using h), List.length_cons, runP_shift]
theorem foot_at : ∀ {l : List Oper} {recs : List RecD} {i : Nat} {o : Oper} {x : RecD}, l[i]? = some o → recs[i]? = some x → (foot l recs)[i]? = some (opRefs x.s o, x.blk.map (·.1), x.fr)
  | o' :: l, x' :: recs, 0, o, x, ho, hx => by simp at ho hx; subst ho; subst hx; rfl
  | o' :: l, x' :: recs, i + 1, o, x, ho, hx => by simpa [foot] using foot_at (l := l) (recs := recs) (i := i) (by simpa using ho) (by simpa using hx)
  | [], _, _, _, _, ho, _ => by simp at ho
  | _ :: _, [], _, _, _, _, hx => by simp at hx
theorem foot_len : ∀ {l : List Oper} {recs : List RecD}, recs.length = l.length → (foot l recs).length = l.length
  | [], recs, h => by cases recs <;> rfl
  | o :: l, [], h => by simp at h
  | o :: l, x :: recs, h => by simp [foot, foot_len (l := l) (recs := recs) (by simpa using h)]

section
variable {s0 : St} {l : List Oper} {recs : List RecD} {p q : Nat → Bool}

theorem runP_lens : ∀ i, (runP s0 l recs p i).t.length = s0.t.length ∧ (runP s0 l recs p i).h.length = s0.h.length
  | 0 => ⟨rfl, rfl⟩
  | i + 1 => by
    have ih := runP_lens i
    rw [runP]
    split
    · split
      · exact ⟨(app_lens _ _ _ _).1.trans ih.1, (app_lens _ _ _ _).2.trans ih.2⟩
      · exact ih
    · exact ih
theorem runP_slNone (t : Nat) (m : Nat) : ∀ n, m ≤ n → (∀ j o, m ≤ j → j < n → l[j]? = some o → p j = true → o.dst ≠ some t) → (runP s0 l recs p n).sl t = (runP s0 l recs p m).sl t
  | 0, h, _ => by rw [Nat.le_zero.1 h]
  | n + 1, h, hj => by
    by_cases hm : m = n + 1
    · rw [hm]
    have ih := runP_slNone t m n (by omega) (fun j o h1 h2 => hj j o h1 (by omega))
    rw [runP]
    split
    · next o x ho hx =>
      split
      · next hp => rw [app_sl, if_neg (fun e => hj n o (by omega) (by omega) ho hp e.1)]; exact ih
      · exact ih
    · exact ih
theorem runP_slSame (t : Nat) : ∀ n, (∀ j o, j < n → l[j]? = some o → o.dst = some t → p j = q j) → (runP s0 l recs p n).sl t = (runP s0 l recs q n).sl t
  | 0, _ => rfl
  | n + 1, hj => by
    have ih := runP_slSame t n (fun j o h1 => hj j o (by omega))
    rw [runP, runP]
    split
    · next o x ho hx =>
      by_cases hd : o.dst = some t
      · rw [hj n o (by omega) ho hd]
        split
        · rw [app_sl, app_sl, (runP_lens n).1, (runP_lens n).1, ih]
        · exact ih
      · have e : ∀ s : St, (s.app o.dst x.t x.blk).sl t = s.sl t := fun s => by rw [app_sl, if_neg (fun e => hd e.1)]
        split <;> split <;> simp only [e, ih]
    · exact ih
theorem runP_bkNone (b : Nat) (m : Nat) : ∀ n, m ≤ n → (∀ j x, m ≤ j → j < n → recs[j]? = some x → p j = true → x.blk.map (·.1) ≠ some b) → (runP s0 l recs p n).bk b = (runP s0 l recs p m).bk b
  | 0, h, _ => by rw [Nat.le_zero.1 h]
  | n + 1, h, hj => by
    by_cases hm : m = n + 1
    · rw [hm]
    have ih := runP_bkNone b m n (by omega) (fun j o h1 h2 => hj j o h1 (by omega))
    rw [runP]
    split
    · next o x ho hx =>
      split
      · next hp =>
        have h1 := hj n x (by omega) (by omega) hx hp
        rw [app_bk]
        cases hb : x.blk with
        | none => exact ih
        | some y =>
          obtain ⟨b0, z⟩ := y
          rw [hb] at h1
          simp only [Option.map_some, ne_eq, Option.some.injEq] at h1
          simp only
          rw [if_neg (fun e => h1 e.1)]; exact ih
      · exact ih
    · exact ih
theorem runP_bkSame (b : Nat) : ∀ n, (∀ j x, j < n → recs[j]? = some x → x.blk.map (·.1) = some b → p j = q j) → (runP s0 l recs p n).bk b = (runP s0 l recs q n).bk b
  | 0, _ => rfl
  | n + 1, hj => by
    have ih := runP_bkSame b n (fun j o h1 => hj j o (by omega))
    rw [runP, runP]
    split
    · next o x ho hx =>
      by_cases hd : x.blk.map (·.1) = some b
      · rw [hj n x (by omega) hx hd]
        split
        · rw [app_bk, app_bk, (runP_lens n).2, (runP_lens n).2, ih]
        · exact ih
      · have e : ∀ s : St, (s.app o.dst x.t x.blk).bk b = s.bk b := fun s => by
          rw [app_bk]
          cases hb : x.blk with
          | none => rfl
          | some y =>
            obtain ⟨b0, z⟩ := y
            rw [hb] at hd
            simp only [Option.map_some, Option.some.injEq] at hd
            simp only
            rw [if_neg (fun e => hd e.1)]
        split <;> split <;> simp only [e, ih]
    · exact ih
theorem runP_all (h : ∀ j, j < l.length → p j = true) : ∀ n, n ≤ l.length → runP s0 l recs p n = runP s0 l recs (fun _ => true) n
  | 0, _ => rfl
  | n + 1, hn => by
    have ih := runP_all h n (by omega)
    rw [runP, runP, ih, h n (by omega)]

/-- one operation more is done -/
theorem runP_more {i : Nat} {o : Oper} {x : RecD} (ho : l[i]? = some o) (hx : recs[i]? = some x) (hq : ∀ j, q j = (if j = i then true else p j)) (hi : p i = false)
    (hd : ∀ j o', j ≠ i → l[j]? = some o' → ∀ t, o'.dst = some t → o.dst ≠ some t) (hb : ∀ j y, i < j → recs[j]? = some y → p j = true → ∀ b, y.blk.map (·.1) = some b → x.blk.map (·.1) ≠ some b) (n : Nat) (hn : i < n) :
    Sim ((runP s0 l recs p n).app o.dst x.t x.blk) (runP s0 l recs q n) := by
  refine ⟨by rw [(app_lens _ _ _ _).1, (runP_lens n).1, (runP_lens n).1], by rw [(app_lens _ _ _ _).2, (runP_lens n).2, (runP_lens n).2]; exact Nat.le_refl _, fun t => ?_, fun b => ?_⟩
  · rw [app_sl, (runP_lens n).1]
    have below : (runP s0 l recs q i).sl t = (runP s0 l recs p i).sl t := runP_slSame t i (fun j o' hj _ _ => by rw [hq, if_neg (by omega)])
    have succ : (runP s0 l recs q (i + 1)).sl t = if o.dst = some t ∧ t < s0.t.length then x.t else (runP s0 l recs p i).sl t := by
      rw [runP, ho, hx]
      simp only
      rw [hq, if_pos rfl, if_pos rfl, app_sl, (runP_lens i).1, below]
    by_cases hdt : o.dst = some t
    · have no : ∀ j o', i + 1 ≤ j → j < n → l[j]? = some o' → o'.dst ≠ some t := fun j o' h1 h2 h3 h4 => hd j o' (by omega) h3 t h4 hdt
      rw [runP_slNone t (i + 1) n (by omega) (fun j o' h1 h2 h3 _ => no j o' h1 h2 h3), succ]
      have : (runP s0 l recs p n).sl t = (runP s0 l recs p i).sl t := runP_slNone t i n (by omega) (fun j o' h1 h2 h3 h4 => by
        by_cases hji : j = i
        · subst hji; rw [hi] at h4; cases h4
        · exact no j o' (by omega) h2 h3)
      rw [this]
    · rw [if_neg (fun e => hdt e.1)]
      exact runP_slSame t n (fun j o' h1 h2 h3 => by
        rw [hq]
        by_cases hji : j = i
        · subst hji; rw [ho] at h2; cases h2; exact absurd h3 hdt
        · rw [if_neg hji])
  · rw [app_bk, (runP_lens n).2]
    have below : (runP s0 l recs q i).bk b = (runP s0 l recs p i).bk b := runP_bkSame b i (fun j o' hj _ _ => by rw [hq, if_neg (by omega)])
    by_cases hbt : x.blk.map (·.1) = some b
    · have no : ∀ j y, i + 1 ≤ j → j < n → recs[j]? = some y → p j = true → y.blk.map (·.1) ≠ some b := fun j y h1 h2 h3 h4 h5 => hb j y (by omega) h3 h4 b h5 hbt
      rw [runP_bkNone b (i + 1) n (by omega) (fun j y h1 h2 h3 h4 => no j y h1 h2 h3 (by rw [hq, if_neg (by omega)] at h4; exact h4))]
      rw [runP, ho, hx]
      simp only
      rw [hq, if_pos rfl, if_pos rfl, app_bk, (runP_lens i).2, below]
      have : (runP s0 l recs p n).bk b = (runP s0 l recs p i).bk b := runP_bkNone b i n (by omega) (fun j y h1 h2 h3 h4 => by
        by_cases hji : j = i
        · subst hji; rw [hi] at h4; cases h4
        · exact no j y (by omega) h2 h3 h4)
      rw [this]
    · have e1 : (runP s0 l recs q n).bk b = (runP s0 l recs p n).bk b := runP_bkSame b n (fun j y h1 h2 h3 => by
        rw [hq]
        by_cases hji : j = i
        · subst hji; rw [hx] at h2; cases h2; exact absurd h3 hbt
        · rw [if_neg hji])
      rw [e1]
      cases hb2 : x.blk with
      | none => rfl
      | some y =>
        obtain ⟨b0, z⟩ := y
        rw [hb2] at hbt
        simp only [Option.map_some, Option.some.injEq] at hbt
        simp only
        rw [if_neg (fun e => hbt e.1)]
end

/-- what an operation writes among blocks -/
def wrF (dummy : Nat) (f : Foot) : List Nat := f.2.1.toList ++ (if f.2.2 = dummy then [] else [f.2.2])
/-- whichever operations touch the same blocks have their order -/
def chkB (D : List (List Nat)) (n0 dummy : Nat) (acc : List Foot) : Bool :=
  (acc.all fun (f : Foot) => f.2.1 != some dummy && decide (n0 ≤ f.2.2) && decide (f.2.2 ≤ dummy)) &&
  (List.range acc.length).all fun i => (List.range acc.length).all fun j => i == j ||
    (match acc[i]?, acc[j]? with
     | some f, some g => (((wrF dummy f).all fun b => !(g.1 ++ wrF dummy g).contains b) || (D.getD j []).contains i || (D.getD i []).contains j) && (decide (i < j) || f.2.2 == dummy || g.2.1 != some f.2.2)
     | _, _ => false)
structure ChkB (D : List (List Nat)) (n0 dummy : Nat) (acc : List Foot) : Prop where
  one : ∀ (i : Nat) (f : Foot), acc[i]? = some f → f.2.1 ≠ some dummy ∧ n0 ≤ f.2.2 ∧ f.2.2 ≤ dummy
  two : ∀ (i j : Nat) (f g : Foot), i ≠ j → acc[i]? = some f → acc[j]? = some g → ((∀ b ∈ wrF dummy f, b ∉ g.1 ++ wrF dummy g) ∨ i ∈ D.getD j [] ∨ j ∈ D.getD i []) ∧ (i < j ∨ f.2.2 = dummy ∨ g.2.1 ≠ some f.2.2)
theorem chkB_spec {D : List (List Nat)} {n0 dummy : Nat} {acc : List Foot} (h : chkB D n0 dummy acc = true) : ChkB D n0 dummy acc := by
  unfold chkB at h
  simp only [Bool.and_eq_true, List.all_eq_true, List.mem_range, Bool.or_eq_true, beq_iff_eq, bne_iff_ne, decide_eq_true_eq] at h
  obtain ⟨h1, h2⟩ := h
  refine ⟨fun i f hf => ?_, fun i j f g hij hf hg => ?_⟩
  · have := h1 f (List.mem_of_getElem? hf)
    exact ⟨this.1.1, this.1.2, this.2⟩
  · have h3 := h2 i (List.getElem?_eq_some_iff.1 hf).1 j (List.getElem?_eq_some_iff.1 hg).1
    rcases h3 with h3 | h3
    · exact absurd h3 hij
    · rw [hf, hg] at h3
      simp only [Bool.and_eq_true, List.all_eq_true, Bool.or_eq_true, beq_iff_eq, bne_iff_ne, decide_eq_true_eq, Bool.not_eq_true', List.contains_iff_mem] at h3
      obtain ⟨h4, h5⟩ := h3
      refine ⟨?_, ?_⟩
      · rcases h4 with (h4 | h4) | h4
        · exact .inl fun b hb hm => by
            have := h4 b hb
            rw [← Bool.not_eq_true, List.contains_iff_mem] at this
            exact this hm
        · exact .inr (.inl h4)
        · exact .inr (.inr h4)
      · rcases h5 with (h5 | h5) | h5
        · exact .inl h5
        · exact .inr (.inl h5)
        · exact .inr (.inr h5)

theorem drawn {l : List Oper} {D : List (List Nat)} {recs : List RecD} {s0 : St} {n0 dummy : Nat} {Q : Exit → Act → World → Prop} (hrl : recs.length = l.length) (hch : ChainOK E l l recs s0) (hall : ∀ (i : Nat) (o : Oper), l[i]? = some o → Fits l D i o)
    (hck : ChkB D n0 dummy (foot l recs)) (hdl : dummy < s0.h.length) (hno : ∀ b, n0 ≤ b → s0.bk b = none)
    (hQ : ∀ ρ a w, Good S base w0 (runP s0 l recs (fun _ => true) l.length) ρ a w → Q .normal a w) :
    ∀ (fuel : Nat) (listed : Array Bool) (ρ : Nat → Option Value) (a : Act) (w : World), listed.size = l.length → (∀ i, listed.getD i false = true → ∀ j ∈ D.getD i [], listed.getD j false = true) →
      Good S base w0 (runP s0 l recs (fun i => listed.getD i false) l.length) ρ a w → ((List.range l.length).filter fun i => !listed.getD i false).length ≤ fuel → wpAny E.P .any l.toArray Q fuel listed a w := by
  have full : ∀ (listed : Array Bool) (ρ : Nat → Option Value) (a : Act) (w : World), Good S base w0 (runP s0 l recs (fun i => listed.getD i false) l.length) ρ a w → (∀ i, i < l.length → listed.getD i false = true) → Q .normal a w := by
    intro listed ρ a w g hl
    refine hQ ρ a w ?_
    rw [runP_all hl l.length (Nat.le_refl _)] at g; exact g
  have least : ∀ (listed : Array Bool), Region.ready .any l.toArray listed = [] → listed.size = l.length → ∀ i, i < l.length → listed.getD i false = true := by
    intro listed hr hsz i
    induction i using Nat.strongRecOn with
    | ind i ih =>
      intro hi
      rcases hb : listed.getD i false with _ | _
      · exfalso
        have hrd : i ∈ Region.ready .any l.toArray listed := by
          rw [mem_ready]
          refine ⟨?_, l[i], by simp [hi], fun e he hbe => ?_⟩
          · have : i < listed.size := by omega
            simp [this] at hb ⊢; exact hb
          · have h1 := (hall i l[i] (List.getElem?_eq_getElem hi)).aft e he hbe
            exact ih e.on h1 (by omega)
        rw [hr] at hrd; cases hrd
      · rfl
  intro fuel
  induction fuel with
  | zero =>
    intro listed ρ a w hsz hcl g hf
    have hl : ∀ i, i < l.length → listed.getD i false = true := by
      intro i hi
      rcases hb : listed.getD i false with _ | _
      · have : i ∈ (List.range l.length).filter fun i => !listed.getD i false := List.mem_filter.2 ⟨List.mem_range.2 hi, by rw [hb]; rfl⟩
        rw [List.length_eq_zero_iff.1 (Nat.le_zero.1 hf)] at this; cases this
      · rfl
    refine ⟨?_, full listed ρ a w g hl⟩
    apply List.eq_nil_iff_forall_not_mem.2
    intro i hi
    obtain ⟨h0, o, ho, _⟩ := mem_ready.1 hi
    have hil : i < l.length := by have := (Array.getElem?_eq_some_iff.1 ho).1; simpa using this
    have h1 := hl i hil
    have : i < listed.size := by omega
    simp [this] at h0 h1
    rw [h0] at h1; cases h1
  | succ fuel ih =>
    intro listed ρ a w hsz hcl g hf
    refine ⟨fun hr => full listed ρ a w g (least listed hr hsz), fun i hi => ?_⟩
    obtain ⟨h0, o, ho, haft⟩ := mem_ready.1 hi
    have hol : l[i]? = some o := by simpa using ho
    have hil : i < l.length := (List.getElem?_eq_some_iff.1 hol).1
    have hif : listed.getD i false = false := by
      have : i < listed.size := by omega
      simp [this] at h0 ⊢; exact h0
    have F := hall i o hol
    have hD : ∀ j ∈ D.getD i [], listed.getD j false = true := by
      intro j hj
      rcases F.dep j hj with ⟨e, he, hb, rfl⟩ | ⟨e, he, hb, h⟩
      · exact haft e he hb
      · exact hcl e.on (haft e he hb) j h
    obtain ⟨x, hx⟩ : ∃ x, recs[i]? = some x := ⟨_, List.getElem?_eq_getElem (by omega)⟩
    obtain ⟨hxs, hst⟩ := chain_at hch hol hx
    have hfi := foot_at hol hx
    -- who is done is no one that waits for i
    have nodone : ∀ j, listed.getD j false = true → i ∉ D.getD j [] := fun j hj hm => by
      have := hcl j hj i hm; rw [hif] at this; cases this
    have lt : ∀ j, j ∈ D.getD i [] → j < i := F.lt
    have recAt : ∀ j, j < l.length → ∃ o' y, l[j]? = some o' ∧ recs[j]? = some y := fun j hj => ⟨_, _, List.getElem?_eq_getElem hj, List.getElem?_eq_getElem (by omega)⟩
    have recOf : ∀ j (y : RecD), recs[j]? = some y → ∃ o', l[j]? = some o' := fun j y hy => ⟨_, List.getElem?_eq_getElem (by have := (List.getElem?_eq_some_iff.1 hy).1; omega)⟩
    have gtD : ∀ j o', l[j]? = some o' → i ∈ D.getD j [] → i < j := fun j o' hj => (hall j o' hj).lt i
    have slots : ∀ t, t ∈ o.looksAt l.toArray → (runP s0 l recs (fun k => listed.getD k false) l.length).sl t = x.s.sl t := by
      intro t ht
      rw [hxs]
      refine (runP_slNone t i l.length (by omega) (fun j o' h1 h2 h3 h4 h5 => ?_)).trans (runP_slSame t i (fun j o' h1 h2 h3 => ?_))
      · by_cases hji : j = i
        · subst hji; simp only [hif] at h4; cases h4
        · rcases F.clean j t hji (by unfold dstOf; rw [h3]; exact h5) ht with h | h
          · have := lt j h; omega
          · exact nodone j h4 h
      · rcases F.clean j t (by omega) (by unfold dstOf; rw [h2]; exact h3) ht with h | h
        · exact hD j h
        · have := gtD j o' h2 h; omega
    have blocks : ∀ b, b ∈ opRefs x.s o → (runP s0 l recs (fun k => listed.getD k false) l.length).bk b = x.s.bk b := by
      intro b hb
      rw [hxs]
      have key : ∀ j y, j ≠ i → recs[j]? = some y → y.blk.map (·.1) = some b → j ∈ D.getD i [] ∨ i ∈ D.getD j [] := by
        intro j y hji hy hyb
        obtain ⟨o', ho'⟩ := recOf j y hy
        have := (hck.two j i _ _ hji (foot_at ho' hy) hfi).1
        rcases this with h | h | h
        · exact absurd (List.mem_append_left _ hb) (h b (List.mem_append_left _ (by simp [hyb])))
        · exact .inl h
        · exact .inr h
      refine (runP_bkNone b i l.length (by omega) (fun j y h1 h2 h3 h4 h5 => ?_)).trans (runP_bkSame b i (fun j y h1 h2 h3 => ?_))
      · by_cases hji : j = i
        · subst hji; simp only [hif] at h4; cases h4
        · rcases key j y hji h3 h5 with h | h
          · have := lt j h; omega
          · exact nodone j h4 h
      · obtain ⟨o', ho'⟩ := recOf j y h2
        rcases key j y (by omega) h2 h3 with h | h
        · exact hD j h
        · have := gtD j o' ho' h; omega
    have hfr : (runP s0 l recs (fun k => listed.getD k false) l.length).bk x.fr = none := by
      have h1 := hck.one i _ hfi
      have : (runP s0 l recs (fun k => listed.getD k false) l.length).bk x.fr = (runP s0 l recs (fun k => listed.getD k false) 0).bk x.fr := by
        refine runP_bkNone x.fr 0 l.length (Nat.zero_le _) (fun j y _ h2 h3 h4 h5 => ?_)
        obtain ⟨o', ho'⟩ := recOf j y h3
        by_cases hji : j = i
        · subst hji; simp only [hif] at h4; cases h4
        by_cases hdm : x.fr = dummy
        · have := (hck.one j _ (foot_at ho' h3)).1
          rw [hdm] at h5; exact this h5
        · have h6 := hck.two i j _ _ (Ne.symm hji) hfi (foot_at ho' h3)
          rcases h6.1 with h | h | h
          · refine h x.fr (List.mem_append_right _ (by simp [hdm])) (List.mem_append_right _ (List.mem_append_left _ ?_))
            simp [h5]
          · exact nodone j h4 h
          · have := lt j h
            rcases h6.2 with h7 | h7 | h7
            · omega
            · exact hdm h7
            · exact h7 h5
      rw [this]
      exact hno _ h1.2.1
    have hcount : ((List.range l.length).filter fun j => !(listed.setIfInBounds i true).getD j false).length ≤ fuel := by
      have := filter_fewer (p := fun j => !listed.getD j false) (q := fun j => !(listed.setIfInBounds i true).getD j false) (fun j hj => by
        rcases hb : listed.getD j false with _ | _
        · rfl
        · rw [getD_set_true hb] at hj; cases hj) (i := i) (by rw [hif]; rfl) (by
        have : i < listed.size := by omega
        simp [this]) (List.range l.length) (List.mem_range.2 hil)
      omega
    unfold wpOp
    rw [ho]
    simp only
    refine hst.run (s' := runP s0 l recs (fun k => listed.getD k false) l.length) (fun y hy => ⟨?_, fun b hb => ?_⟩) (fun j want d hg hd => ?_) g hfr ?_ (fun a' w' ρ' g' => ?_)
    · cases y with
      | tmp t => exact slots t (List.mem_append_left _ (List.mem_filterMap.2 ⟨.tmp t, by simpa using hy, rfl⟩))
      | _ => rfl
    · exact blocks b (List.mem_flatMap.2 ⟨y, by simpa using hy, hb⟩)
    · refine slots d (List.mem_append_right _ ?_)
      rw [hg]
      simp only [List.getElem?_toArray, hd]
      simp
    · rw [(runP_lens _).2]
      exact Nat.lt_of_le_of_lt (hck.one i _ hfi).2.2 hdl
    · refine ih _ ρ' a' w' (by simp [hsz]) ?_ ?_ hcount
      · intro j hj k hk
        by_cases hji : j = i
        · subst hji; exact getD_set_true (hD k hk)
        · rw [getD_set_ne false (Ne.symm hji)] at hj
          exact getD_set_true (hcl j hj k hk)
      · refine g'.sim (runP_more hol hx (fun j => ?_) hif (fun j o' hji hj t ht => ?_) (fun j y hij hy hp b hb hxb => ?_) l.length hil)
        · by_cases hji : j = i
          · subst hji
            have : j < listed.size := by omega
            simp [this]
          · rw [getD_set_ne false (Ne.symm hji), if_neg hji]
        · have := F.one j t hji (by unfold dstOf; rw [hj]; exact ht)
          unfold dstOf at this
          rw [hol] at this; exact this
        · obtain ⟨o', ho'⟩ := recOf j y hy
          have h6 := (hck.two i j _ _ (by omega) hfi (foot_at ho' hy)).1
          rcases h6 with h | h | h
          · exact h b (List.mem_append_left _ (by simp [hxb])) (List.mem_append_right _ (List.mem_append_left _ (by simp [hb])))
          · exact nodone j hp h
          · have := lt j h; omega
end
end Go.Proofs.YtpemaphgmfaioaaGreat

/-
  The machine without memory: code, loops, functions. No program is named here.
-/
namespace Go.Proofs.YtpemaphgmfaioaaGreat
set_option maxRecDepth 100000
open Go.RowKit
set_option linter.unusedVariables false
set_option linter.unusedSimpArgs false

/-- what each operation waits for -/
def depsL (l : List Oper) : List (List Nat) :=
  l.foldl (fun D o => D ++ [((o.after.toList.filter (Region.binds .any)).flatMap fun e => e.on :: D.getD e.on []).eraseDups]) []
def trimH : List (Option Bk) → List (Option Bk)
  | [] => []
  | x :: l => match x, trimH l with
    | none, [] => []
    | x, l' => x :: l'
theorem trimH_bk : ∀ (h : List (Option Bk)) (b : Nat), (trimH h).getD b none = h.getD b none
  | [], b => rfl
  | x :: l, b => by
    have ih := trimH_bk l
    unfold trimH
    split
    · next h2 =>
      cases b with
      | zero => rfl
      | succ b => have := ih b; rw [h2] at this; simpa using this
    · cases b with
      | zero => rfl
      | succ b => simpa using ih b
theorem trimH_len : ∀ (h : List (Option Bk)), (trimH h).length ≤ h.length
  | [] => Nat.le_refl _
  | x :: l => by
    have ih := trimH_len l
    unfold trimH
    split
    · simp
    · simp; exact ih
def cntAlloc : List Oper → Nat
  | [] => 0
  | o :: l => (if isAlloc o = true then 1 else 0) + cntAlloc l
def tabOK (l : List Oper) : Bool := okTab l (depsL l) && Region.noSelect l.toArray
def regDr (E : EnvX) (l : List Oper) (s : St) (k : St → Prop) : Prop :=
  tabOK l = true ∧ regD E l s.h.length (cntAlloc l) l 0 ⟨s.t, s.h ++ List.replicate (cntAlloc l + 1) none⟩ [] fun acc s' =>
    chkB (depsL l) s.h.length (s.h.length + cntAlloc l) acc = true ∧ k ⟨s'.t, trimH s'.h⟩

def intAt (s : St) (i : Nat) : Nat := match s.sl i with | .d (.v (.int _ z)) => z.toNat | _ => 0
/-- a state of which only some slots and the first blocks are kept -/
def keepT (live : List Nat) : Nat → List T → List T
  | _, [] => []
  | i, t :: l => (if live.contains i = true then t else .dead) :: keepT live (i + 1) l
def weaken (live : List Nat) (m : Nat) (s : St) : St := ⟨keepT live 0 s.t, s.h.take m⟩
def liveOK (live : List Nat) (m : Nat) (s : St) : Prop := live.all (fun i => (s.sl i).refs.all fun b => decide (b < m)) = true
/-- so many rounds at most -/
def LoopU (body : St → (Exit → St → Prop) → Prop) (k : Exit → St → Prop) : Nat → St → Prop
  | 0, _ => False
  | n + 1, s => body s fun e s' => match e with | .normal => LoopU body k n s' | e => k e s'
/-- a state may be taken for another one -/
structure Ent (s s' : St) : Prop where
  out : ∀ (G : Nat → Option (List Seg)) (S : Nat → Prop) (base : Nat) (w0 : W0 G) (ρ : Nat → Option Value) (a : Act) (w : World), Good S base w0 s ρ a w → ∃ ρ', Good S base w0 s' ρ' a w
theorem Ent.refl (s : St) : Ent s s := ⟨fun G S base w0 ρ a w g => ⟨ρ, g⟩⟩
theorem Ent.trans {s s' s'' : St} (h : Ent s s') (k : Ent s' s'') : Ent s s'' := ⟨fun G S base w0 ρ a w g => by
  obtain ⟨ρ1, g1⟩ := h.out G S base w0 ρ a w g
  exact k.out G S base w0 ρ1 a w g1⟩
def LoopA (body : St → (Exit → St → Prop) → Prop) (s0 : St) (k : Exit → St → Prop) : Prop :=
  (∃ n, LoopU body k n s0) ∨ ∃ (s : St) (live : List Nat) (m : Nat) (I : St → Prop) (μ : St → Nat), Ent s0 s ∧ 0 < m ∧ liveOK live m s ∧ I (weaken live m s) ∧
    ∀ s, I s → body s fun e s' => match e with | .normal => liveOK live m s' ∧ I (weaken live m s') ∧ μ (weaken live m s') < μ s | e => k e s'
/-- a round is done: its state may be taken for one that the loop knows -/
structure RoundI (I : St → Prop) (μ : St → Nat) (n : Nat) (s' : St) : Prop where
  out : ∃ s'', Ent s' s'' ∧ I s'' ∧ μ s'' < n
/-- a loop told by states for which others may be taken -/
def LoopI (body : St → (Exit → St → Prop) → Prop) (s0 : St) (k : Exit → St → Prop) : Prop :=
  ∃ (s : St) (I : St → Prop) (μ : St → Nat), Ent s0 s ∧ I s ∧ ∀ s, I s → body s fun e s' => match e with | .normal => RoundI I μ (μ s) s' | e => k e s'

def wpA (E : EnvX) : Code → St → (Exit → St → Prop) → Prop
  | .skip, s, k => k .normal s
  | .label _, s, k => k .normal s
  | .region _ ops draw, s, k => (match draw with | false => Stop (regA E ops.toList ops.toList s (k .normal)) | true => StopE (regDr E ops.toList s (k .normal)))
  | .seq a b, s, k => wpA E a s fun e s' => match e with | .normal => wpA E b s' k | e => k e s'
  | .cond c a b, s, k => (match s.ev c with | .d (.v (.bool t)) => StopC (condK t (wpA E a s k) (wpA E b s k)) | _ => False)
  | .block id c, s, k => wpA E c s fun e s' => match e with | .exit j => (if j = id then k .normal s' else k (.exit j) s') | e => k e s'
  | .loop c, s, k => StopL (LoopA (fun s k => wpA E c s k) s k ∨ LoopI (fun s k => wpA E c s k) s k)
  | .exit id, s, k => k (.exit id) s
  | .ret, s, k => k .ret s
  | _, _, _ => False

section
variable {E : EnvX} {S : Nat → Prop} {base : Nat} {w0 : W0 E.G}

theorem regDr_sound {l : List Oper} {s : St} {k : St → Prop} {ρ : Nat → Option Value} {a : Act} {w : World} {id : Nat} (h : regDr E l s k) (g : Good S base w0 s ρ a w) :
    (Code.region id l.toArray true).wp E.P (fun e a' w' => e = .normal ∧ ∃ s' ρ', k s' ∧ Good S base w0 s' ρ' a' w') a w := by
  obtain ⟨htab, h⟩ := h
  simp only [tabOK, Bool.and_eq_true] at htab
  obtain ⟨recs, hrl, ⟨hck, hk⟩, hch⟩ := regD_chain h
  rw [List.nil_append] at hck
  have hall : ∀ (i : Nat) (o : Oper), l[i]? = some o → Fits l (depsL l) i o := fun i o ho => okTab_fits htab.1 ho
  have hlen : (⟨s.t, s.h ++ List.replicate (cntAlloc l + 1) none⟩ : St).h.length = s.h.length + cntAlloc l + 1 := by simp; omega
  have gd : Good S base w0 s ρ a { w with drawn := w.drawn + 1 } := (g.grow (w' := { w with drawn := w.drawn + 1 }) ⟨rfl, rfl, rfl, Nat.le_refl _, fun _ _ _ => rfl⟩).1
  refine wp_region_any E.hM ?_
  refine drawn (S := S) (base := base) (w0 := w0) (s0 := ⟨s.t, s.h ++ List.replicate (cntAlloc l + 1) none⟩) hrl hch hall (chkB_spec hck) (by rw [hlen]; omega) (fun b hb => ?_) (fun ρ' a' w' g' => ?_) _ _ ρ _ _ (by simp) ?_ ?_ ?_
  · rw [bk_more]
    unfold St.bk
    rw [List.getD_eq_getElem?_getD, List.getElem?_eq_none hb]; rfl
  · refine ⟨rfl, _, ρ', hk, ?_⟩
    rw [runS_runP hrl]
    exact g'.simBack ⟨rfl, trimH_len _, fun _ => rfl, fun b => (trimH_bk _ b).symm⟩
  · intro i hi; rw [none_listed] at hi; cases hi
  · have : runP ⟨s.t, s.h ++ List.replicate (cntAlloc l + 1) none⟩ l recs (fun i => (Array.replicate l.toArray.size false).getD i false) l.length = ⟨s.t, s.h ++ List.replicate (cntAlloc l + 1) none⟩ := by
      have : ∀ n, runP ⟨s.t, s.h ++ List.replicate (cntAlloc l + 1) none⟩ l recs (fun i => (Array.replicate l.toArray.size false).getD i false) n = ⟨s.t, s.h ++ List.replicate (cntAlloc l + 1) none⟩ := by
        intro n
        induction n with
        | zero => rfl
        | succ n ih =>
          rw [runP]
          split
          · exact (if_neg (by simp only [none_listed]; decide)).trans ih
          · exact ih
      exact this _
    rw [this]
    exact gd.sim (Sim.more s _)
  · refine Nat.le_trans (List.length_filter_le _ _) ?_
    simp

theorem keepT_len (live : List Nat) : ∀ (l : List T) (i : Nat), (keepT live i l).length = l.length
  | [], _ => rfl
  | _ :: l, i => by simp [keepT, keepT_len live l]
theorem keepT_get (live : List Nat) : ∀ (l : List T) (i j : Nat), (keepT live i l).getD j .dead = if live.contains (i + j) = true then l.getD j .dead else .dead
  | [], i, j => by simp [keepT]
  | t :: l, i, 0 => by simp [keepT]
  | t :: l, i, j + 1 => by
    have := keepT_get live l (i + 1) j
    rw [show i + 1 + j = i + (j + 1) by omega] at this
    simpa [keepT] using this
theorem Good.weaken {G : Nat → Option (List Seg)} {S : Nat → Prop} {base : Nat} {w0 : W0 G} {s : St} {ρ : Nat → Option Value} {a : Act} {w : World} (g : Good S base w0 s ρ a w) {live : List Nat} {m : Nat} (hm0 : 0 < m) (h : liveOK live m s) : ∃ ρ', Good S base w0 (weaken live m s) ρ' a w := by
  unfold liveOK at h
  rw [List.all_eq_true] at h
  have hbk : ∀ b, (Go.Proofs.YtpemaphgmfaioaaGreat.weaken live m s).bk b = if b < m then s.bk b else none := by
    intro b
    unfold Go.Proofs.YtpemaphgmfaioaaGreat.weaken St.bk
    simp only [List.getD_eq_getElem?_getD, List.getElem?_take]
    split <;> rfl
  have hsl : ∀ i, (Go.Proofs.YtpemaphgmfaioaaGreat.weaken live m s).sl i = if live.contains i = true then s.sl i else .dead := by
    intro i
    have := keepT_get live s.t 0 i
    rw [Nat.zero_add] at this
    exact this
  let ρ' : Nat → Option Value := fun b => if b < m then ρ b else none
  have hρ : ∀ b u, ρ' b = some u → b < m ∧ ρ b = some u := by
    intro b u hb
    simp only [ρ'] at hb
    split at hb
    · next h1 => exact ⟨h1, hb⟩
    · cases hb
  have hρm : ∀ b, b < m → ρ' b = ρ b := fun b hb => if_pos hb
  have K : Keeps (Dt S base ρ) w (Dt S base ρ') w := ⟨Nat.le_refl _, fun r _ hd => ⟨⟨hd.1, fun b u hb => hd.2 b u (hρ b u hb).2⟩, fun _ => rfl⟩⟩
  refine ⟨ρ', (keepT_len _ _ _).trans g.len, fun i hi => ?_, fun b => ?_, fun i b hb => ?_, fun b b' u u' r h1 h2 => g.inj b b' u u' r (hρ b u h1).2 (hρ b' u' h2).2, fun b u r h1 => g.low b u r (hρ b u h1).2, g.bel, g.glob.up K, (fun q hq => (hρm 0 hm0).trans (g.pin q hq)), g.size, g.defs⟩
  · rw [hsl]
    by_cases hl : live.contains i = true
    · rw [if_pos hl]
      refine RT.up K (fun b hb => hρm b ?_) (g.t i hi)
      have := h i (by simpa using hl)
      rw [List.all_eq_true] at this
      exact of_decide_eq_true (this b hb)
    · rw [if_neg hl]; trivial
  · rw [hbk]
    have hB := g.b b
    by_cases hb : b < m
    · rw [if_pos hb]
      cases hk : s.bk b with
      | none => rw [hk] at hB; exact (hρm b hb).trans hB
      | some x =>
        rw [hk] at hB
        cases x with
        | var l => obtain ⟨r, cs, t, h1, h2, h3, h4⟩ := hB; exact ⟨r, cs, t, (hρm b hb).trans h1, h2, h3, h4.up K⟩
        | sl e sz n l => obtain ⟨u, cs, h1, h2, h3⟩ := hB; exact ⟨u, cs, (hρm b hb).trans h1, h2, h3.up K⟩
        | obj p => obtain ⟨r, cs, t, h1, h2, h3, h4⟩ := hB; exact ⟨r, cs, t, (hρm b hb).trans h1, h2, h3, h4⟩
    · rw [if_neg hb]
      exact if_neg hb
  · rw [hsl] at hb
    split at hb
    · next hl =>
      have := h i (by simpa using hl)
      rw [List.all_eq_true] at this
      rw [hbk, if_pos (of_decide_eq_true (this b hb))]
      exact g.dang i b hb
    · simp [T.refs] at hb

theorem Ent.weaken {s : St} {live : List Nat} {m : Nat} (hm0 : 0 < m) (h : liveOK live m s) : Ent s (weaken live m s) := ⟨fun G S base w0 ρ a w g => g.weaken hm0 h⟩
/-- cells that are none -/
def segNil : Seg → Bool
  | .ints _ n l => n == 0 && l.isEmpty
  | .bytes n l => n == 0 && l.isEmpty
  | .bools n l => n == 0 && l.isEmpty
  | .gen n l => n == 0 && l.isEmpty
theorem rl_nil {S : Nat → Prop} {w : World} : ∀ {l : List Seg}, l.all segNil = true → RL S w l []
  | [], _ => .nil
  | s :: l, h => by
    simp only [List.all_cons, Bool.and_eq_true] at h
    have r := rl_nil (S := S) (w := w) h.2
    cases s with
    | ints k n zs => simp [segNil] at h; obtain ⟨⟨rfl, rfl⟩, _⟩ := h; exact .ints rfl r
    | bytes n zs => simp [segNil] at h; obtain ⟨⟨rfl, rfl⟩, _⟩ := h; exact .bytes rfl r
    | bools n zs => simp [segNil] at h; obtain ⟨⟨rfl, rfl⟩, _⟩ := h; exact .bools rfl r
    | gen n zs => simp [segNil] at h; obtain ⟨⟨rfl, rfl⟩, _⟩ := h; exact .gen .nil rfl r
/-- nil is a slice of one's own with nothing in it -/
def ownNil (s : St) (i : Nat) (e : TypeId) (sz : Nat) (l : List Seg) : St := ⟨s.t.set i (.own s.h.length 0), s.h ++ [some (.sl e sz 0 l)]⟩
theorem Ent.nil {s : St} {i : Nat} {e : TypeId} {sz : Nat} {l : List Seg} (h : s.sl i = .d (.v (.slice none 0 0))) (hl : l.all segNil = true) : Ent s (ownNil s i e sz l) := .mk fun G S base w0 ρ a w g => by
  have g1 := g.sim (Sim.more s 1)
  have hfr : St.bk ⟨s.t, s.h ++ List.replicate 1 none⟩ s.h.length = none := by
    rw [bk_more]; simp [St.bk]
  have hi : i < a.tmps.size := by
    apply Decidable.byContradiction
    intro hn
    have : s.sl i = .dead := by
      show s.t.getD i .dead = .dead
      rw [List.getD_eq_getElem?_getD, List.getElem?_eq_none (by rw [g.len]; omega)]; rfl
    rw [this] at h; cases h
  have hv := g.t i hi
  rw [h] at hv
  have hv' : a.tmps.getD i undef = .slice none 0 0 := RA.plain hv
  have none' : w.grownBy w none := ⟨rfl, rfl, rfl, Nat.le_refl _, fun _ _ _ => rfl⟩
  have g2 := g1.newSl (fr := s.h.length) hfr (by simp) none' (e := e) (sz := sz) (n := 0) (l := l) (cs := []) (v := .slice none 0 0) (World.ownsRow_nil _ _ _ _) (rl_nil hl) (some i)
  have ha : a.put (some i) (.slice none 0 0) = a := by
    unfold Act.put
    have : a.tmps.setIfInBounds i (.slice none 0 0) = a.tmps := by
      apply Array.ext (by simp)
      intro j h1 h2
      by_cases e : i = j
      · subst e
        rw [Array.getElem_setIfInBounds_self]
        have := hv'
        rw [Array.getD_eq_getD_getElem?, Array.getElem?_eq_getElem hi] at this
        exact this.symm
      · rw [Array.getElem_setIfInBounds_ne h2 e]
    simp only [this]
  rw [ha] at g2
  have e2 : ∀ x, St.app ⟨s.t, s.h ++ List.replicate 1 none⟩ (some i) (.own s.h.length 0) (some (s.h.length, x)) = ⟨s.t.set i (.own s.h.length 0), s.h ++ [some x]⟩ := by
    intro x
    unfold St.app
    simp
  rw [e2] at g2
  exact ⟨_, g2⟩
theorem wpA_sound : ∀ (c : Code) {s : St} {k : Exit → St → Prop} {ρ : Nat → Option Value} {a : Act} {w : World}, wpA E c s k → Good S base w0 s ρ a w →
    c.wp E.P (fun e a' w' => ∃ s' ρ', k e s' ∧ Good S base w0 s' ρ' a' w') a w
  | .skip, s, k, ρ, a, w, h, g => wp_skip ⟨s, ρ, h, g⟩
  | .label l, s, k, ρ, a, w, h, g => wp_label ⟨s, ρ, h, g⟩
  | .region id ops false, s, k, ρ, a, w, h, g => by
    have := regA_sound (w0 := w0) (S := S) (base := base) h.out g
    rw [Array.toArray_toList] at this
    refine wp_mono (wp_region_list this) ?_
    rintro e a' w' ⟨rfl, s', ρ', h1, h2⟩
    exact ⟨s', ρ', h1, h2⟩
  | .region id ops true, s, k, ρ, a, w, h, g => by
    have := regDr_sound (id := id) (w0 := w0) (S := S) (base := base) h.out g
    rw [Array.toArray_toList] at this
    refine wp_mono this ?_
    rintro e a' w' ⟨rfl, s', ρ', h1, h2⟩
    exact ⟨s', ρ', h1, h2⟩
  | .seq x y, s, k, ρ, a, w, h, g => by
    refine wp_seq (wp_mono (wpA_sound x h g) ?_)
    rintro e a' w' ⟨s', ρ', h1, h2⟩
    cases e with
    | normal => exact wpA_sound y h1 h2
    | _ => exact ⟨s', ρ', h1, h2⟩
  | .cond c x y, s, k, ρ, a, w, h, g => by
    unfold wpA at h
    split at h
    · next t hc =>
      have h1 := g.ev c
      rw [hc] at h1
      cases t with
      | true => exact wp_cond (RA.plain h1) (wpA_sound x h.out g)
      | false => exact wp_cond (RA.plain h1) (wpA_sound y h.out g)
    · exact h.elim
  | .block id c, s, k, ρ, a, w, h, g => by
    refine wp_block (wp_mono (wpA_sound c h g) ?_)
    rintro e a' w' ⟨s', ρ', h1, h2⟩
    cases e with
    | exit j =>
      simp only [Exit.inBlock]
      simp only at h1
      split
      · next hj => rw [if_pos hj] at h1; exact ⟨s', ρ', h1, h2⟩
      · next hj => rw [if_neg hj] at h1; exact ⟨s', ρ', h1, h2⟩
    | _ => exact ⟨s', ρ', h1, h2⟩
  | .loop c, s, k, ρ, a, w, h, g => by
    have ih : ∀ {s : St} {k : Exit → St → Prop} {ρ : Nat → Option Value} {a : Act} {w : World}, wpA E c s k → Good S base w0 s ρ a w → c.wp E.P (fun e a' w' => ∃ s' ρ', k e s' ∧ Good S base w0 s' ρ' a' w') a w := fun h g => wpA_sound c h g
    rcases h.out with (⟨n, h⟩ | ⟨s00, live, m, I, μ, hent, h0, h1, h2, h3⟩) | ⟨s00, I, μ, hent, h2, h3⟩
    · have key : ∀ n s ρ a w, LoopU (fun s k => wpA E c s k) k n s → Good S base w0 s ρ a w → ∀ (b : Frame) (kk : List Item) (cs : List Frame), ∃ e a' w', (∃ s' ρ', k e s' ∧ Good S base w0 s' ρ' a' w') ∧ Arrives E.P (lone (b.at a (.code c :: .inLoop c :: kk)) cs w) b kk cs e a' w' := by
        intro n
        induction n with
        | zero => intro s ρ a w h; exact h.elim
        | succ n ihn =>
          intro s ρ a w h hg b kk cs
          obtain ⟨e, a1, w1, ⟨s1, ρ1, hq, hg1⟩, harr⟩ := ih h hg b (.inLoop c :: kk) cs
          cases e with
          | normal =>
            obtain ⟨e2, a2, w2, hq2, harr2⟩ := ihn s1 ρ1 a1 w1 hq hg1 b kk cs
            exact ⟨e2, a2, w2, hq2, .of_steps (Steps.trans harr (.one step_inLoop)) harr2⟩
          | exit id => exact ⟨_, a1, w1, ⟨s1, ρ1, hq, hg1⟩, .pass (x := .inLoop c) rfl (fun _ _ => .inl (by simp)) harr⟩
          | goto l => exact ⟨_, a1, w1, ⟨s1, ρ1, hq, hg1⟩, .pass (x := .inLoop c) rfl (fun _ _ => .inl (by simp)) harr⟩
          | ret => exact ⟨_, a1, w1, ⟨s1, ρ1, hq, hg1⟩, .pass (x := .inLoop c) rfl (fun _ _ => .inl (by simp)) harr⟩
          | panic ch => exact ⟨_, a1, w1, ⟨s1, ρ1, hq, hg1⟩, .pass (x := .inLoop c) rfl (fun _ _ => .inl (by simp)) harr⟩
          | outgrown => exact ⟨_, a1, w1, ⟨s1, ρ1, hq, hg1⟩, .pass (x := .inLoop c) rfl (fun _ _ => .inl (by simp)) harr⟩
      intro b kk cs
      obtain ⟨e, a', w', hq, harr⟩ := key n s ρ a w h g b kk cs
      exact ⟨e, a', w', hq, .of_steps (.one step_loop) harr⟩
    · let G : Nat → Act → World → Prop := fun n a w => ∃ s ρ, I s ∧ Good S base w0 s ρ a w ∧ μ s = n
      have key : ∀ n a w, G n a w → ∀ (b : Frame) (kk : List Item) (cs : List Frame), ∃ e a' w', (∃ s' ρ', k e s' ∧ Good S base w0 s' ρ' a' w') ∧ Arrives E.P (lone (b.at a (.code c :: .inLoop c :: kk)) cs w) b kk cs e a' w' := by
        intro n
        induction n using Nat.strongRecOn with
        | _ n ihn =>
          rintro a w ⟨s, ρ, hI, hg, rfl⟩ b kk cs
          obtain ⟨e, a1, w1, ⟨s1, ρ1, hq, hg1⟩, harr⟩ := ih (h3 s hI) hg b (.inLoop c :: kk) cs
          cases e with
          | normal =>
            obtain ⟨hl, hI1, hlt⟩ := hq
            obtain ⟨ρ2, hg2⟩ := hg1.weaken h0 hl
            obtain ⟨e2, a2, w2, hq2, harr2⟩ := ihn _ hlt a1 w1 ⟨_, ρ2, hI1, hg2, rfl⟩ b kk cs
            exact ⟨e2, a2, w2, hq2, .of_steps (Steps.trans harr (.one step_inLoop)) harr2⟩
          | exit id => exact ⟨_, a1, w1, ⟨s1, ρ1, hq, hg1⟩, .pass (x := .inLoop c) rfl (fun _ _ => .inl (by simp)) harr⟩
          | goto l => exact ⟨_, a1, w1, ⟨s1, ρ1, hq, hg1⟩, .pass (x := .inLoop c) rfl (fun _ _ => .inl (by simp)) harr⟩
          | ret => exact ⟨_, a1, w1, ⟨s1, ρ1, hq, hg1⟩, .pass (x := .inLoop c) rfl (fun _ _ => .inl (by simp)) harr⟩
          | panic ch => exact ⟨_, a1, w1, ⟨s1, ρ1, hq, hg1⟩, .pass (x := .inLoop c) rfl (fun _ _ => .inl (by simp)) harr⟩
          | outgrown => exact ⟨_, a1, w1, ⟨s1, ρ1, hq, hg1⟩, .pass (x := .inLoop c) rfl (fun _ _ => .inl (by simp)) harr⟩
      obtain ⟨ρ00, g00⟩ := hent.out _ _ _ _ _ _ _ g
      obtain ⟨ρ2, hg2⟩ := g00.weaken h0 h1
      intro b kk cs
      obtain ⟨e, a', w', hq, harr⟩ := key _ a w ⟨_, ρ2, h2, hg2, rfl⟩ b kk cs
      exact ⟨e, a', w', hq, .of_steps (.one step_loop) harr⟩
    · let G : Nat → Act → World → Prop := fun n a w => ∃ s ρ, I s ∧ Good S base w0 s ρ a w ∧ μ s = n
      have key : ∀ n a w, G n a w → ∀ (b : Frame) (kk : List Item) (cs : List Frame), ∃ e a' w', (∃ s' ρ', k e s' ∧ Good S base w0 s' ρ' a' w') ∧ Arrives E.P (lone (b.at a (.code c :: .inLoop c :: kk)) cs w) b kk cs e a' w' := by
        intro n
        induction n using Nat.strongRecOn with
        | _ n ihn =>
          rintro a w ⟨s, ρ, hI, hg, rfl⟩ b kk cs
          obtain ⟨e, a1, w1, ⟨s1, ρ1, hq, hg1⟩, harr⟩ := ih (h3 s hI) hg b (.inLoop c :: kk) cs
          cases e with
          | normal =>
            obtain ⟨s2, he2, hI1, hlt⟩ := hq.out
            obtain ⟨ρ2, hg2⟩ := he2.out _ _ _ _ _ _ _ hg1
            obtain ⟨e2, a2, w2, hq2, harr2⟩ := ihn _ hlt a1 w1 ⟨_, ρ2, hI1, hg2, rfl⟩ b kk cs
            exact ⟨e2, a2, w2, hq2, .of_steps (Steps.trans harr (.one step_inLoop)) harr2⟩
          | exit id => exact ⟨_, a1, w1, ⟨s1, ρ1, hq, hg1⟩, .pass (x := .inLoop c) rfl (fun _ _ => .inl (by simp)) harr⟩
          | goto l => exact ⟨_, a1, w1, ⟨s1, ρ1, hq, hg1⟩, .pass (x := .inLoop c) rfl (fun _ _ => .inl (by simp)) harr⟩
          | ret => exact ⟨_, a1, w1, ⟨s1, ρ1, hq, hg1⟩, .pass (x := .inLoop c) rfl (fun _ _ => .inl (by simp)) harr⟩
          | panic ch => exact ⟨_, a1, w1, ⟨s1, ρ1, hq, hg1⟩, .pass (x := .inLoop c) rfl (fun _ _ => .inl (by simp)) harr⟩
          | outgrown => exact ⟨_, a1, w1, ⟨s1, ρ1, hq, hg1⟩, .pass (x := .inLoop c) rfl (fun _ _ => .inl (by simp)) harr⟩
      obtain ⟨ρ00, g00⟩ := hent.out _ _ _ _ _ _ _ g
      intro b kk cs
      obtain ⟨e, a', w', hq, harr⟩ := key _ a w ⟨_, ρ00, h2, g00, rfl⟩ b kk cs
      exact ⟨e, a', w', hq, .of_steps (.one step_loop) harr⟩
  | .exit id, s, k, ρ, a, w, h, g => wp_exit ⟨s, ρ, h, g⟩
  | .ret, s, k, ρ, a, w, h, g => wp_ret ⟨s, ρ, h, g⟩
  | .rangeFunc _ _ _ _, s, k, ρ, a, w, h, g => h.elim
  | .scope _, s, k, ρ, a, w, h, g => h.elim
  | .goto _, s, k, ρ, a, w, h, g => h.elim
  | .refuse _, s, k, ρ, a, w, h, g => h.elim

/-! functions -/
/-- several results: slices of one's own are data from now on -/
def resL (E : EnvX) (s : St) : List ResultVar → (List A → Prop) → Prop
  | [], K => K []
  | .tmp t :: r, K =>
    (match s.sl t with
     | .d a => resL E s r fun l => K (a :: l)
     | .own b n => (match s.bk b with | some (.sl _ _ m l) => n = m ∧ resL E s r fun l' => K (.row n l :: l') | _ => False)
     | _ => False)
  | .cell p ty :: r, K =>
    (match E.Y ty, s.sl p with
     | some i, .ptr b base => (match s.bk b with | some (.var l) => rdK l i.agg i.sz base fun a => resL E s r fun l => K (a :: l) | _ => False)
     | _, _ => False)
/-- what the results are -/
def resK' (E : EnvX) (s : St) (rs : List ResultVar) (K : Res → Prop) : Prop :=
  match rs with
  | [.tmp t] => (match s.sl t with
    | .d a => K (.d a)
    | .own b n => (match s.bk b with | some (.sl e sz m l) => n = m ∧ K (.o e sz n l) | _ => False)
    | .ptr b 0 => (match s.bk b with | some x => K (.p x) | none => False)
    | _ => False)
  | [.cell p ty] => (match E.Y ty, s.sl p with
    | some i, .ptr b base => (match s.bk b with | some (.var l) => rdK l i.agg i.sz base fun a => K (.d a) | _ => False)
    | _, _ => False)
  | [] => K (.t [])
  | l => resL E s l fun asx => K (.t asx)
theorem run_results1 {P : Program} {fn : Func} {tmps : Array Value} {w : World} {r : ResultVar} (h : fn.results = #[r]) {v : Value} (hr : (match r with | .tmp t => (pure (tmps.getD t undef) : Sem Value) | .cell a t => do loadVar t (← asAddr (tmps.getD a undef))).run P w = .ok v w) :
    (results fn tmps).run P w = .ok v w := by
  unfold results
  rw [h]
  simp only [List.mapM_toArray, List.mapM_cons, List.mapM_nil]
  cases r with
  | tmp t => simp at hr ⊢; exact hr
  | cell a t =>
    simp only [Sem.run_bind] at hr
    cases hq : (asAddr (tmps.getD a undef)).run P w with
    | halt x w1 => rw [hq] at hr; simp [Result.andThen] at hr
    | ok ad w1 =>
      rw [hq] at hr
      simp only [Result.andThen_ok] at hr
      simp only [Array.getD_eq_getD_getElem?] at hq
      simp [Sem.run_bind, hq, hr]
def resOf (tmps : Array Value) : ResultVar → Sem Value
  | .tmp t => pure (tmps.getD t undef)
  | .cell a t => do loadVar t (← asAddr (tmps.getD a undef))
theorem results_eq (fn : Func) (tmps : Array Value) : results fn tmps = (do let vs ← fn.results.mapM (resOf tmps); pure (if h : vs.size = 1 then vs[0] else .tuple vs)) := by
  unfold results
  congr 1
theorem resL_spec {s : St} {ρ : Nat → Option Value} {a : Act} {w : World} {S' : Nat → Prop} (hS : ∀ z, Dt S base ρ z → S' z ∨ base ≤ z) (g : Good S base w0 s ρ a w) : ∀ {l : List ResultVar} {K : List A → Prop}, resL E s l K →
    ∃ asx vs, K asx ∧ vs.length = l.length ∧ (l.mapM (resOf a.tmps)).run E.P w = .ok vs w ∧ RAs (fun r => S' r ∨ base ≤ r) w asx vs
  | [], K, h => ⟨[], [], h, rfl, by simp, .nil⟩
  | .cell p ty :: r, K, h => by
    have out : Keeps (Dt S base ρ) w (fun r => S' r ∨ base ≤ r) w := toKeeps hS
    unfold resL at h
    split at h
    · next i b q hY hd =>
      split at h
      · next l hk =>
        obtain ⟨d, hK, hs⟩ := rdK_spec h
        obtain ⟨asx, vs, h1, hlen, h2, h3⟩ := resL_spec hS g hK
        obtain ⟨r, cs, t, k1, k2, k3, k4⟩ := g.var hk
        have k5 := g.ev (.tmp p)
        rw [show s.ev (.tmp p) = .ptr b q from hd] at k5
        obtain ⟨r', e1, e2⟩ := k5 _ k1
        cases e1
        obtain ⟨v, k6, k7⟩ := run_load_part (E.hY ty i hY) (r := r) (o := 0) (fun j hj => by rw [Nat.zero_add, cells_of k3, List.getElem?_eq_getElem hj]) (hs k4)
        rw [Nat.zero_add] at k6
        have e3 : a.tmps.getD p undef = .pointer (some ⟨r, q, none⟩) := e2
        refine ⟨d :: asx, v :: vs, h1, by simp [hlen], ?_, .cons (RA.up out k7) h3⟩
        have e4 : (resOf a.tmps (.cell p ty)).run E.P w = .ok v w := by
          simp only [resOf, Sem.run_bind, e3, asAddr, Sem.run_pure, Result.andThen_ok, k6]
        simp [Sem.run_bind, e4, h2]
      · exact h.elim
    · exact h.elim
  | .tmp t :: r, K, h => by
    have out : Keeps (Dt S base ρ) w (fun r => S' r ∨ base ≤ r) w := toKeeps hS
    unfold resL at h
    split at h
    · next d hd =>
      obtain ⟨asx, vs, h1, hlen, h2, h3⟩ := resL_spec hS g h
      refine ⟨d :: asx, a.tmps.getD t undef :: vs, h1, by simp [hlen], ?_, .cons ?_ h3⟩
      · simp [Sem.run_bind, h2, resOf]
      · have := g.ev (.tmp t)
        rw [show s.ev (.tmp t) = .d d from hd] at this
        exact RA.up out this
    · next b n hd =>
      split at h
      · next ty sz m l hk =>
        obtain ⟨rfl, h⟩ := h
        obtain ⟨asx, vs, h1, hlen, h2, h3⟩ := resL_spec hS g h
        have k := g.ev (.tmp t)
        rw [show s.ev (.tmp t) = .own b n from hd] at k
        obtain ⟨cs, k1, k2, k3⟩ := own_now g hk k
        refine ⟨.row n l :: asx, a.tmps.getD t undef :: vs, h1, by simp [hlen], ?_, .cons ?_ h3⟩
        · simp [Sem.run_bind, h2, resOf]
        · have hv : a.tmps.getD t undef = a.eval (.tmp t) := rfl
          rw [hv]
          rcases k2.2 with ⟨e1, e2⟩ | ⟨r, cap, cur, e1, e3, e4, e5, e6, e7, e8⟩
          · rw [e1, e2]
            have hcs : cs = [] := by have := k2.1; rw [e2, Nat.zero_mul] at this; exact List.length_eq_zero_iff.1 this
            exact .row (k3.up out) (Nat.le_refl _) (Nat.zero_le _) (fun _ => rfl) (.inl hcs)
          · rw [e1]
            refine .row (k3.up out) e5 e6 (fun e => by cases e) (.inr ⟨r, 0, rfl, .inr e3, (Array.getElem?_eq_some_iff.1 e4).1, fun j hj => ?_⟩)
            rw [Nat.zero_add, cell_of_row w r j cur _ (0, 0) e4]
            have : (cur.toList.take (n * sz))[j]? = cs[j]? := by rw [e8]
            rw [List.getElem?_take, if_pos (by have := k2.1; omega), Array.getElem?_toList, List.getElem?_eq_getElem hj] at this
            exact this
      · exact h.elim
    · exact h.elim
theorem resK_sound {fn : Func} {s : St} {ρ : Nat → Option Value} {a : Act} {w : World} {K : Res → Prop} {S' : Nat → Prop} (hS : ∀ z, Dt S base ρ z → S' z ∨ base ≤ z) (hX : ∀ y, K (.p y) → ∀ q, ¬ w0.X q) (h : resK' E s fn.results.toList K) (g : Good S base w0 s ρ a w) :
    ∃ r v, K r ∧ (results fn a.tmps).run E.P w = .ok v w ∧ RR S' base w r v := by
  have out : Keeps (Dt S base ρ) w (fun r => S' r ∨ base ≤ r) w := toKeeps hS
  have hres : ∀ {l : List ResultVar}, fn.results.toList = l → fn.results = l.toArray := fun {l} e => by rw [← e]
  have slot : ∀ {t : Nat} {d : A}, s.sl t = .d d → RA (fun r => S' r ∨ base ≤ r) w d (a.tmps.getD t undef) := fun {t d} e => by
    have := g.ev (.tmp t)
    rw [show s.ev (.tmp t) = .d d from e] at this
    exact RA.up out this
  unfold resK' at h
  split at h
  · next t e =>
    split at h
    · next d hd => exact ⟨_, _, h, run_results1 (hres e) rfl, slot hd⟩
    · next b n hd =>
      split at h
      · next ty sz m l hk =>
        obtain ⟨rfl, h⟩ := h
        have h1 := g.ev (.tmp t)
        rw [show s.ev (.tmp t) = .own b n from hd] at h1
        obtain ⟨cs, h2, h3, h4⟩ := own_now g hk h1
        refine ⟨_, _, h, run_results1 (hres e) rfl, cs, h3, RL.up ⟨Nat.le_refl _, fun r _ hd => ⟨⟨hS r hd, fun e => ?_⟩, fun _ => rfl⟩⟩ h4⟩
        refine hd.2 b _ h2 ?_
        generalize hv : a.eval (.tmp t) = v at e
        have : v.ownBlock = some r := by rw [← hv]; exact e
        cases v <;> try (simp [Value.ownBlock] at this; done)
        next ad n' c => cases ad <;> simp_all [Value.ownBlock, realOf]
      · exact h.elim
    · next b hd =>
      split at h
      · next x hk =>
        have h1 := g.ev (.tmp t)
        rw [show s.ev (.tmp t) = .ptr b 0 from hd] at h1
        have hB := g.b b
        rw [hk] at hB
        have fin : ∀ q, ρ b = some (.pointer (some ⟨q, 0, none⟩)) → HB (Dt S base ρ) w q x → ∃ r v, K r ∧ (results fn a.tmps).run E.P w = .ok v w ∧ RR S' base w r v := fun q hρ hh => by
          obtain ⟨r', e1, e2⟩ := h1 _ hρ
          cases e1
          refine ⟨_, _, h, run_results1 (hres e) rfl, q, e2, ?_, hh.up (toKeeps fun z hz => ⟨hS z hz, fun e => hz.2 b _ hρ (by rw [e]; rfl)⟩) rfl⟩
          rcases (g.low b _ q hρ rfl).1 with h5 | h5
          · exact h5
          · exact (hX _ h q h5).elim
        cases x with
        | var l => obtain ⟨q, cs, ty, k1, _, k2, k3⟩ := hB; exact fin q k1 ⟨cs, ty, k2, k3⟩
        | obj p => obtain ⟨q, cs, ty, k1, _, k2, k3⟩ := hB; exact fin q k1 ⟨cs, ty, k2, k3⟩
        | sl ty sz n l =>
          exfalso
          obtain ⟨u, cs, k1, k2, _⟩ := hB
          obtain ⟨r', e1, _⟩ := h1 u k1
          rcases k2.2 with ⟨e2, _⟩ | ⟨_, _, _, e2, _⟩ <;> rw [e1] at e2 <;> cases e2
      · exact h.elim
    · exact h.elim
  · next p ty e =>
    split at h
    · next i b q hY hd =>
      split at h
      · next l hk =>
        obtain ⟨d, hK, hs⟩ := rdK_spec h
        obtain ⟨r, cs, t, h1, h2, h3, h4⟩ := g.var hk
        have h5 := g.ev (.tmp p)
        rw [show s.ev (.tmp p) = .ptr b q from hd] at h5
        obtain ⟨r', e1, e2⟩ := h5 _ h1
        cases e1
        obtain ⟨v, h6, h7⟩ := run_load_part (E.hY ty i hY) (r := r) (o := 0) (fun j hj => by rw [Nat.zero_add, cells_of h3, List.getElem?_eq_getElem hj]) (hs h4)
        rw [Nat.zero_add] at h6
        refine ⟨_, v, hK, run_results1 (hres e) ?_, RA.up out h7⟩
        have e3 : a.tmps.getD p undef = .pointer (some ⟨r, q, none⟩) := e2
        simp only [Sem.run_bind, e3, asAddr, Sem.run_pure, Result.andThen_ok, h6]
      · exact h.elim
    · exact h.elim
  · next e => exact ⟨_, .tuple #[], h, results_none (hres e) _ _ _, [], rfl, .nil⟩
  · rename_i l n1 n2 n3
    obtain ⟨asx, vs, hK, hlen, hm, hr⟩ := resL_spec hS g h
    refine ⟨_, .tuple vs.toArray, hK, ?_, vs, rfl, hr⟩
    have hne : vs.length ≠ 1 := by
      intro e1
      rw [hlen] at e1
      obtain ⟨x, e2⟩ := List.length_eq_one_iff.1 e1
      cases x with
      | tmp t => first | exact n1 t e2 | exact n2 t e2 | exact n3 t e2
      | cell p ty => first | exact n1 p ty e2 | exact n2 p ty e2 | exact n3 p ty e2
    rw [results_eq]
    have h2 : fn.results = fn.results.toList.toArray := by simp
    rw [h2, List.mapM_toArray]
    simp [Sem.run_bind, hm, hne]

/-- a function answers what its code comes to -/
theorem fn_of_wpA {f : FuncId} {fn : Func} {c : Code} {args : List A} {res : Res} (hf : E.P.funcs[f]? = some fn) (hb : fn.body = some c) (hn : args.length ≤ fn.ntmps)
    (h : wpA E c ⟨args.map T.d ++ List.replicate (fn.ntmps - args.length) (.d (.v undef)), []⟩ fun e s => (e = .normal ∨ e = .ret) ∧ resK' E s fn.results.toList fun r => r = res) : FnOK E.P E.G f args res := by
  intro S w vs hG hv
  have hlen : ∀ {l : List A} {vs : List Value}, RAs S w l vs → vs.length = l.length := by
    intro l vs h
    induction h with
    | nil => rfl
    | cons _ _ ih => simp [ih]
  have hl := hlen hv
  refine calls_of_wp hf hb ?_
  have g : Good S w.heap.size (⟨w, fun _ => False, none⟩ : W0 E.G) ⟨args.map T.d ++ List.replicate (fn.ntmps - args.length) (.d (.v undef)), []⟩ (fun _ => none) { tmps := vs.toArray ++ Array.replicate (fn.ntmps - vs.toArray.size) undef, defers := [] } w := by
    have D : Keeps S w (Dt S w.heap.size fun _ => none) w := ⟨Nat.le_refl _, fun r _ hs => ⟨⟨.inl hs, fun b u hb => by cases hb⟩, fun _ => rfl⟩⟩
    have get : ∀ {l : List A} {vs : List Value}, RAs S w l vs → ∀ i, i < l.length → RA S w (l.getD i (.v undef)) (vs.getD i undef) := by
      intro l vs h
      induction h with
      | nil => intro i hi; simp at hi
      | cons h r ih =>
        intro i hi
        cases i with
        | zero => simpa using h
        | succ i => simpa using ih i (by simpa using hi)
    refine ⟨by simp [hl], fun i hi => ?_, fun b => ?_, fun i b hb => ?_, fun b b' u u' r hb => (by cases hb), fun b u r hb => (by cases hb), BelX.refl _ _ _, hG.up D, fun q hq => (by cases hq), Nat.le_refl _, rfl⟩
    · by_cases h1 : i < args.length
      · have e1 : St.sl ⟨args.map T.d ++ List.replicate (fn.ntmps - args.length) (.d (.v undef)), []⟩ i = .d (args.getD i (.v undef)) := by
          simp [St.sl, List.getD_eq_getElem?_getD, List.getElem?_append_left, h1]
        have e2 : (vs.toArray ++ Array.replicate (fn.ntmps - vs.toArray.size) undef).getD i undef = vs.getD i undef := by
          rw [Array.getD_eq_getD_getElem?, Array.getElem?_append_left (by simp [hl, h1]), List.getD_eq_getElem?_getD]; simp
        rw [e1, e2]
        exact RA.up D (get hv i h1)
      · have hi2 : i < fn.ntmps := by simp [hl] at hi; omega
        have e1 : St.sl ⟨args.map T.d ++ List.replicate (fn.ntmps - args.length) (.d (.v undef)), []⟩ i = .d (.v undef) := by
          simp only [St.sl, List.getD_eq_getElem?_getD]
          rw [List.getElem?_append_right (by simp; omega), List.getElem?_replicate]
          rw [if_pos (by simp; omega)]; rfl
        have e2 : (vs.toArray ++ Array.replicate (fn.ntmps - vs.toArray.size) undef).getD i undef = undef := by
          rw [Array.getD_eq_getD_getElem?, Array.getElem?_append_right (by simp [hl]; omega), Array.getElem?_replicate]
          split <;> rfl
        rw [e1, e2]
        exact .v undef
    · show RB _ _ _ _ _ (([] : List (Option Bk)).getD b none)
      rw [List.getD_eq_getElem?_getD]
      rfl
    · exfalso
      by_cases h1 : i < args.length
      · have e1 : St.sl ⟨args.map T.d ++ List.replicate (fn.ntmps - args.length) (.d (.v undef)), []⟩ i = .d (args.getD i (.v undef)) := by
          simp [St.sl, List.getD_eq_getElem?_getD, List.getElem?_append_left, h1]
        rw [e1] at hb; simp [T.refs] at hb
      · have e1 : St.sl ⟨args.map T.d ++ List.replicate (fn.ntmps - args.length) (.d (.v undef)), []⟩ i = .d (.v undef) ∨ St.sl ⟨args.map T.d ++ List.replicate (fn.ntmps - args.length) (.d (.v undef)), []⟩ i = .dead := by
          simp only [St.sl, List.getD_eq_getElem?_getD]
          rw [List.getElem?_append_right (by simp; omega), List.getElem?_replicate]
          split
          · exact .inl rfl
          · exact .inr rfl
        rcases e1 with e1 | e1 <;> (rw [e1] at hb; simp [T.refs] at hb)
  refine wp_mono (wpA_sound c h g) ?_
  rintro e a' w' ⟨s', ρ', ⟨he, hr⟩, hg⟩
  obtain ⟨r, v, rfl, h2, h3⟩ := resK_sound (fun z hz => hz.1) (fun _ _ _ h => h) hr hg
  rcases he with rfl | rfl
  · exact ⟨hg.defs, v, h2, v, rfl, h3, hg.bel.below fun _ h => h⟩
  · exact ⟨hg.defs, v, h2, v, rfl, h3, hg.bel.below fun _ h => h⟩

/-- the same, where a block is lent to it -/
theorem fnM_of_wpA {f : FuncId} {fn : Func} {c : Code} {pos : Nat} {x x' : Bk} {args : List A} {res : Res} (hf : E.P.funcs[f]? = some fn) (hb : fn.body = some c) (hn : args.length + 1 ≤ fn.ntmps) (hp : pos ≤ args.length) (hx : ∀ e sz n l, x ≠ .sl e sz n l)
    (h : wpA E c ⟨(args.map T.d).insertIdx pos (.ptr 0 0) ++ List.replicate (fn.ntmps - (args.length + 1)) (.d (.v undef)), [some x]⟩ fun e s => (e = .normal ∨ e = .ret) ∧ s.bk 0 = some x' ∧ resK' E s fn.results.toList fun r => r = res) (hres : ∀ y, res ≠ .p y) : FnM E.P E.G f pos x args res x' := by
  intro S w q vs hq hG hB hv
  have hlen : ∀ {D : Nat → Prop} {l : List A} {vs : List Value}, RAs D w l vs → vs.length = l.length := by
    intro D l vs h
    induction h with
    | nil => rfl
    | cons _ _ ih => simp [ih]
  have hl := hlen hv
  let ρ0 : Nat → Option Value := fun b => if b = 0 then some (.pointer (some ⟨q, 0, none⟩)) else none
  have hρ0 : ∀ b u, ρ0 b = some u → b = 0 ∧ u = .pointer (some ⟨q, 0, none⟩) := by
    intro b u hb
    simp only [ρ0] at hb
    split at hb
    · next e => cases hb; exact ⟨e, rfl⟩
    · cases hb
  have D : Keeps (fun z => S z ∧ z ≠ q) w (Dt S w.heap.size ρ0) w := ⟨Nat.le_refl _, fun r _ hs => ⟨⟨.inl hs.1, fun b u hb hu => by
    obtain ⟨_, rfl⟩ := hρ0 b u hb
    simp [realOf] at hu
    exact hs.2 hu.symm⟩, fun _ => rfl⟩⟩
  refine calls_of_wp hf hb ?_
  have g : Good S w.heap.size (⟨w, fun r => r = q, some q⟩ : W0 E.G) ⟨(args.map T.d).insertIdx pos (.ptr 0 0) ++ List.replicate (fn.ntmps - (args.length + 1)) (.d (.v undef)), [some x]⟩ ρ0
      { tmps := (vs.insertIdx pos (.pointer (some ⟨q, 0, none⟩))).toArray ++ Array.replicate (fn.ntmps - (vs.insertIdx pos (.pointer (some ⟨q, 0, none⟩))).toArray.size) undef, defers := [] } w := by
    have hil : (vs.insertIdx pos (.pointer (some ⟨q, 0, none⟩))).length = args.length + 1 := by rw [List.length_insertIdx_of_le_length (by omega), hl]
    have hil2 : ((args.map T.d).insertIdx pos (.ptr 0 0)).length = args.length + 1 := by rw [List.length_insertIdx_of_le_length (by simpa using hp)]; simp
    have get : ∀ {l : List A} {vs : List Value}, RAs (fun z => S z ∧ z ≠ q) w l vs → ∀ i, i < l.length → RA (fun z => S z ∧ z ≠ q) w (l.getD i (.v undef)) (vs.getD i undef) := by
      intro l vs h
      induction h with
      | nil => intro i hi; simp at hi
      | cons h r ih =>
        intro i hi
        cases i with
        | zero => simpa using h
        | succ i => simpa using ih i (by simpa using hi)
    have slot : ∀ i, St.sl ⟨(args.map T.d).insertIdx pos (.ptr 0 0) ++ List.replicate (fn.ntmps - (args.length + 1)) (.d (.v undef)), [some x]⟩ i =
        if i < pos then .d (args.getD i (.v undef)) else if i = pos then .ptr 0 0 else if i < args.length + 1 then .d (args.getD (i - 1) (.v undef)) else if i < fn.ntmps then .d (.v undef) else .dead := by
      intro i
      simp only [St.sl, List.getD_eq_getElem?_getD]
      by_cases h0 : i < args.length + 1
      · rw [List.getElem?_append_left (by omega), List.getElem?_insertIdx]
        by_cases h1 : i < pos
        · rw [if_pos h1, if_pos h1]
          have : i < args.length := by omega
          simp [this]
        · rw [if_neg h1, if_neg h1]
          by_cases h2 : i = pos
          · rw [if_pos h2, if_pos h2]; simp [show i ≤ args.length by omega]
          · rw [if_neg h2, if_neg h2, if_pos h0]
            have : i - 1 < args.length := by omega
            simp [this]
      · rw [if_neg (by omega), if_neg (by omega), if_neg h0, List.getElem?_append_right (by omega), List.getElem?_replicate]
        by_cases h3 : i < fn.ntmps
        · rw [if_pos h3, if_pos (by omega)]; rfl
        · rw [if_neg h3, if_neg (by omega)]; rfl
    refine ⟨by simp [hil, hil2], fun i hi => ?_, fun b => ?_, fun i b hb => ?_, fun b b' u u' r h1 h2 h3 h4 => ?_, fun b u r h1 h2 => ?_, BelX.refl _ _ _, hG.up D, fun z hz => (by cases hz; rfl), Nat.le_refl _, rfl⟩
    · rw [slot]
      have hi2 : i < fn.ntmps := by simp [hil] at hi; omega
      have e2 : (((vs.insertIdx pos (.pointer (some ⟨q, 0, none⟩))).toArray ++ Array.replicate (fn.ntmps - (vs.insertIdx pos (.pointer (some ⟨q, 0, none⟩))).toArray.size) undef).getD i undef) =
          if i < pos then vs.getD i undef else if i = pos then .pointer (some ⟨q, 0, none⟩) else if i < args.length + 1 then vs.getD (i - 1) undef else undef := by
        rw [Array.getD_eq_getD_getElem?]
        by_cases h0 : i < args.length + 1
        · rw [Array.getElem?_append_left (by simp [hil]; omega), List.getElem?_toArray, List.getElem?_insertIdx]
          by_cases h1 : i < pos
          · rw [if_pos h1, if_pos h1]; simp [List.getD_eq_getElem?_getD]
          · rw [if_neg h1, if_neg h1]
            by_cases h2 : i = pos
            · rw [if_pos h2, if_pos h2]; simp [hl, show i ≤ args.length by omega]
            · rw [if_neg h2, if_neg h2, if_pos h0]; simp [List.getD_eq_getElem?_getD]
        · rw [if_neg (by omega), if_neg (by omega), if_neg h0, Array.getElem?_append_right (by simp [hil]; omega), Array.getElem?_replicate]
          split <;> rfl
      rw [e2]
      by_cases h1 : i < pos
      · rw [if_pos h1, if_pos h1]; exact RA.up D (get hv i (by omega))
      · rw [if_neg h1, if_neg h1]
        by_cases h2 : i = pos
        · rw [if_pos h2, if_pos h2]
          intro u hu
          obtain ⟨_, rfl⟩ := hρ0 0 u hu
          exact ⟨q, rfl, rfl⟩
        · rw [if_neg h2, if_neg h2]
          by_cases h0 : i < args.length + 1
          · rw [if_pos h0, if_pos h0]; exact RA.up D (get hv (i - 1) (by omega))
          · rw [if_neg h0, if_neg h0, if_pos hi2]; exact .v undef
    · by_cases hb : b = 0
      · subst hb
        have hB' := hB.up D rfl
        show RB _ _ _ _ 0 (some x)
        cases x with
        | var l => obtain ⟨cs, t, e, e2⟩ := hB'; exact ⟨q, cs, t, rfl, trivial, e, e2⟩
        | obj p => obtain ⟨cs, t, e, e2⟩ := hB'; exact ⟨q, cs, t, rfl, trivial, e, e2⟩
        | sl e sz n l => exact (hx e sz n l rfl).elim
      · have : St.bk ⟨(args.map T.d).insertIdx pos (.ptr 0 0) ++ List.replicate (fn.ntmps - (args.length + 1)) (.d (.v undef)), [some x]⟩ b = none := by
          cases b with
          | zero => exact absurd rfl hb
          | succ b => simp [St.bk]
        rw [this]
        show ρ0 b = none
        exact if_neg hb
    · rw [slot] at hb
      by_cases h1 : i < pos
      · rw [if_pos h1] at hb; simp [T.refs] at hb
      · rw [if_neg h1] at hb
        by_cases h2 : i = pos
        · rw [if_pos h2] at hb
          simp [T.refs] at hb
          subst hb
          simp [St.bk]
        · rw [if_neg h2] at hb
          by_cases h0 : i < args.length + 1
          · rw [if_pos h0] at hb; simp [T.refs] at hb
          · rw [if_neg h0] at hb
            split at hb <;> simp [T.refs] at hb
    · obtain ⟨rfl, _⟩ := hρ0 b u h1
      obtain ⟨rfl, _⟩ := hρ0 b' u' h2
      rfl
    · obtain ⟨_, rfl⟩ := hρ0 b u h1
      simp [realOf] at h2
      subst h2
      exact ⟨.inr rfl, hq⟩
  refine wp_mono (wpA_sound c h g) ?_
  rintro e a' w' ⟨s', ρ', ⟨he, hk, hr⟩, hg⟩
  have hpin := hg.pin q rfl
  have hnq : ∀ z, Dt S w.heap.size ρ' z → z ≠ q := fun z hz e => hz.2 0 _ hpin (by rw [e]; rfl)
  obtain ⟨r, v, rfl, h2, h3⟩ := resK_sound (S' := fun z => S z ∧ z ≠ q) (fun z hz => by
    rcases hz.1 with h1 | h1
    · exact .inl ⟨h1, hnq z hz⟩
    · exact .inr h1) (fun y hy => (hres y hy.symm).elim) hr hg
  have h4 : HB (fun z => (S z ∨ w.heap.size ≤ z) ∧ z ≠ q) w' q x' := by
    have hB' := hg.b 0
    rw [hk] at hB'
    have K : Keeps (Dt S w.heap.size ρ') w' (fun z => (S z ∨ w.heap.size ≤ z) ∧ z ≠ q) w' := toKeeps fun z hz => ⟨hz.1, hnq z hz⟩
    cases x' with
    | var l => obtain ⟨q', cs, t, e1, _, e2, e3⟩ := hB'; rw [hpin] at e1; cases e1; exact ⟨cs, t, e2, e3.up K⟩
    | obj p => obtain ⟨q', cs, t, e1, _, e2, e3⟩ := hB'; rw [hpin] at e1; cases e1; exact ⟨cs, t, e2, e3⟩
    | sl e sz n l =>
      exfalso
      obtain ⟨u, cs, e1, e2, _⟩ := hB'
      rw [hpin] at e1; cases e1
      rcases e2.2 with ⟨e3, _⟩ | ⟨_, _, _, e3, _⟩ <;> cases e3
  have h5 : w.grownBy w' (some q) := ⟨hg.bel.os, hg.bel.tape, hg.bel.output, hg.bel.size, fun k hk hne => hg.bel.block k hk (fun e => hne (by rw [e]))⟩
  rcases he with rfl | rfl
  · exact ⟨hg.defs, v, h2, v, rfl, h3, h4, h5⟩
  · exact ⟨hg.defs, v, h2, v, rfl, h3, h4, h5⟩
end
end Go.Proofs.YtpemaphgmfaioaaGreat

/-
  '==' on structs and arrays of numbers and truths: cell by cell. No program is named here.
-/
namespace Go.Proofs.YtpemaphgmfaioaaGreat
set_option maxRecDepth 100000
open Go.RowKit
set_option linter.unusedVariables false
set_option linter.unusedSimpArgs false

/-- the kinds of a type's cells, where it is made of numbers and truths -/
def sigF (r : TypeId → Option (List (Option IntKind))) : Nat → List Field → Option (List (Option IntKind))
  | off, [] => some []
  | off, f :: fs => if f.name ≠ "_" ∧ f.offset = off then (match r f.type with | some s => (sigF r (off + s.length) fs).map (s ++ ·) | none => none) else none
def sigT (P : Program) : Nat → TypeId → Option (List (Option IntKind))
  | 0, _ => none
  | d + 1, t =>
    let s := match P.underlying t with
      | some .bool => some [none]
      | some (.int k) => some [some k]
      | some (.array n e) => (sigT P d e).map fun s => (List.replicate n s).flatten
      | some (.struct fs) => if P.stoodInHeld t = true then none else sigF (sigT P d) 0 fs.toList
      | _ => none
    match s with
    | some s => (match P.info? t with | some i => if i.size = s.length then some s else none | none => none)
    | none => none
def mkV (P : Program) (t : TypeId) (xs : List Value) : Value := if aggOf P t = true then .agg xs.toArray else xs.headD undef

section
variable {P : Program}

theorem sigT_info {d : Nat} {t : TypeId} {s : List (Option IntKind)} (h : sigT P d t = some s) : ∃ i, P.info? t = some i ∧ i.size = s.length ∧ P.cellsOf t = s.length ∧ ∃ u, P.underlying t = some u := by
  cases d with
  | zero => cases h
  | succ d =>
    unfold sigT at h
    simp only at h
    split at h
    · next s' hs =>
      split at h
      · next i hi =>
        split at h
        · next hsz =>
          cases h
          refine ⟨i, hi, hsz, by simp [Program.cellsOf, hi, hsz], ?_⟩
          cases hu : P.underlying t with
          | none => rw [hu] at hs; cases hs
          | some u => exact ⟨u, rfl⟩
        · cases h
      · cases h
    · cases h
theorem run_part_mk {d : Nat} {t : TypeId} {s : List (Option IntKind)} (h : sigT P d t = some s) (w : World) (xs : List Value) (off : Nat) (hl : off + s.length ≤ xs.length) (h1 : aggOf P t = false → s.length = 1) :
    (part t xs.toArray off).run P w = .ok (mkV P t ((xs.drop off).take s.length)) w := by
  obtain ⟨i, hi, hsz, hc, u, hu⟩ := sigT_info h
  have hag : (isAgg t).run P w = .ok (aggOf P t) w := by
    unfold isAgg aggOf
    rw [Sem.run_bind, run_underlying hu w, hu]
    cases u <;> simp
  cases ha : aggOf P t with
  | true =>
    simp only [part, Sem.run_bind, hag, ha, Result.andThen_ok, if_true, run_sizeOf w hi, hc, mkV, Sem.run_pure]
    congr 2
    apply Array.ext_getElem?
    intro m
    simp only [Array.getElem?_extract, List.getElem?_toArray, List.getElem?_take, List.getElem?_drop, List.size_toArray]
    by_cases hm : m < s.length
    · rw [if_pos (by omega), if_pos hm]
    · rw [if_neg (by omega), if_neg hm]
  | false =>
    have h2 := h1 ha
    have h3 : off < xs.length := by omega
    simp only [part, Sem.run_bind, hag, ha, Result.andThen_ok, Bool.false_eq_true, if_false, mkV]
    rw [h2, List.drop_eq_getElem_cons h3, List.take_succ_cons]
    simp [h3]

theorem kinds_sub {xs : List Value} {a b : List (Option IntKind)} {off : Nat} (h : (xs.drop off).map cellKind = (a ++ b).map some) : ((xs.drop off).take a.length).map cellKind = a.map some ∧ (xs.drop (off + a.length)).map cellKind = b.map some := by
  rw [List.map_append] at h
  constructor
  · rw [List.map_take, h, List.take_append_of_le_length (by simp), List.take_of_length_le (by simp)]
  · rw [← List.drop_drop, List.map_drop, h, List.drop_append_of_le_length (by simp), List.drop_of_length_le (by simp)]; simp
theorem len_of_kinds {xs : List Value} {a : List (Option IntKind)} (h : xs.map cellKind = a.map some) : xs.length = a.length := by
  have := congrArg List.length h; simpa using this

/-- what holds of a type's '==' -/
def EqAtT (P : Program) (d : Nat) (t : TypeId) (s : List (Option IntKind)) : Prop :=
  (aggOf P t = false → s.length = 1) ∧ ∀ (m : Nat) (w : World) (xs ys : List Value), xs.map cellKind = s.map some → ys.map cellKind = s.map some →
    ∃ b : Bool, (Op.equalIn (d + m) t (mkV P t xs) (mkV P t ys)).run P w = .ok b w ∧ (b = true ↔ xs = ys)

theorem eqFields_sig {d : Nat} (ih : ∀ t s, sigT P d t = some s → EqAtT P d t s) (m : Nat) (w : World) (xs ys : List Value) : ∀ (fs : List Field) (off : Nat) (s : List (Option IntKind)), sigF (sigT P d) off fs = some s →
    (xs.drop off).map cellKind = s.map some → (ys.drop off).map cellKind = s.map some → off ≤ xs.length → off ≤ ys.length → ∃ b : Bool, (Op.eqFields (d + m) xs.toArray ys.toArray fs).run P w = .ok b w ∧ (b = true ↔ xs.drop off = ys.drop off)
  | [], off, s, h, hx, hy, _, _ => by
    cases h
    refine ⟨true, by simp [Op.eqFields], ?_⟩
    have h1 : xs.drop off = [] := by simpa using hx
    have h2 : ys.drop off = [] := by simpa using hy
    rw [h1, h2]; simp
  | f :: fs, off, s, h, hx, hy, lx, ly => by
    unfold sigF at h
    split at h
    · next hf =>
      obtain ⟨hn, ho⟩ := hf
      cases hs : sigT P d f.type with
      | none => rw [hs] at h; cases h
      | some a =>
        rw [hs] at h
        cases hr : sigF (sigT P d) (off + a.length) fs with
        | none => simp [hr] at h
        | some b =>
          simp only [hr, Option.map_some, Option.some.injEq] at h
          subst h
          obtain ⟨k1, k2⟩ := kinds_sub hx
          obtain ⟨k3, k4⟩ := kinds_sub hy
          have l1 := len_of_kinds hx
          have l2 := len_of_kinds hy
          simp at l1 l2
          obtain ⟨e1, e2⟩ := ih f.type a hs
          obtain ⟨r, hrun, hiff⟩ := e2 m w _ _ k1 k3
          obtain ⟨r', hrun', hiff'⟩ := eqFields_sig ih m w xs ys fs (off + a.length) b hr k2 k4 (by omega) (by omega)
          have p1 := run_part_mk hs w xs off (by omega) e1
          have p2 := run_part_mk hs w ys off (by omega) e1
          simp only [Op.eqFields, hn, ne_eq, not_false_eq_true, if_true, Sem.run_bind, ho, p1, p2, hrun, Result.andThen_ok]
          have split : ∀ zs : List Value, zs.drop off = (zs.drop off).take a.length ++ zs.drop (off + a.length) := fun zs => by rw [← List.drop_drop, List.take_append_drop]
          cases r with
          | false =>
            refine ⟨false, by simp, ?_⟩
            constructor
            · intro h; cases h
            · intro h; exact absurd (hiff.2 (by rw [h])) (by simp)
          | true =>
            refine ⟨r', by simpa using hrun', ?_⟩
            rw [hiff', split xs, split ys, hiff.1 rfl]
            constructor
            · intro h; rw [h]
            · intro h; exact List.append_cancel_left h
    · cases h
theorem eqItems_sig {d : Nat} {e : TypeId} {a : List (Option IntKind)} (he : sigT P d e = some a) (ih : EqAtT P d e a) (m : Nat) (w : World) (xs ys : List Value) : ∀ (n k : Nat),
    (xs.drop (k * a.length)).map cellKind = ((List.replicate n a).flatten).map some → (ys.drop (k * a.length)).map cellKind = ((List.replicate n a).flatten).map some → k * a.length ≤ xs.length → k * a.length ≤ ys.length →
    ∃ b : Bool, (Op.eqItems (d + m) e a.length xs.toArray ys.toArray (List.range' k n)).run P w = .ok b w ∧ (b = true ↔ xs.drop (k * a.length) = ys.drop (k * a.length))
  | 0, k, hx, hy, _, _ => by
    refine ⟨true, by simp [Op.eqItems], ?_⟩
    have h1 : xs.drop (k * a.length) = [] := by simpa using hx
    have h2 : ys.drop (k * a.length) = [] := by simpa using hy
    rw [h1, h2]; simp
  | n + 1, k, hx, hy, lx, ly => by
    rw [List.replicate_succ, List.flatten_cons] at hx hy
    obtain ⟨k1, k2⟩ := kinds_sub hx
    obtain ⟨k3, k4⟩ := kinds_sub hy
    have l1 := len_of_kinds hx
    have l2 := len_of_kinds hy
    simp at l1 l2
    obtain ⟨e1, e2⟩ := ih
    obtain ⟨r, hrun, hiff⟩ := e2 m w _ _ k1 k3
    have hk : k * a.length + a.length = (k + 1) * a.length := by rw [Nat.add_mul, Nat.one_mul]
    rw [hk] at k2 k4
    obtain ⟨r', hrun', hiff'⟩ := eqItems_sig he ⟨e1, e2⟩ m w xs ys n (k + 1) k2 k4 (by omega) (by omega)
    have p1 := run_part_mk he w xs (k * a.length) (by omega) e1
    have p2 := run_part_mk he w ys (k * a.length) (by omega) e1
    rw [List.range'_succ]
    simp only [Op.eqItems, Sem.run_bind, p1, p2, hrun, Result.andThen_ok]
    have split : ∀ zs : List Value, zs.drop (k * a.length) = (zs.drop (k * a.length)).take a.length ++ zs.drop ((k + 1) * a.length) := fun zs => by rw [← hk, ← List.drop_drop, List.take_append_drop]
    cases r with
    | false =>
      refine ⟨false, by simp, ?_⟩
      constructor
      · intro h; cases h
      · intro h; exact absurd (hiff.2 (by rw [h])) (by simp)
    | true =>
      refine ⟨r', by simpa using hrun', ?_⟩
      rw [hiff', split xs, split ys, hiff.1 rfl]
      constructor
      · intro h; rw [h]
      · intro h; exact List.append_cancel_left h

theorem eq_sig : ∀ (d : Nat) (t : TypeId) (s : List (Option IntKind)), sigT P d t = some s → EqAtT P d t s
  | 0, t, s, h => by cases h
  | d + 1, t, s, h => by
    have ih := eq_sig d
    have h' := h
    unfold sigT at h
    simp only at h
    split at h
    case h_2 => cases h
    next s' hs =>
    split at h
    case h_2 => cases h
    next i hi =>
    split at h
    case isFalse => cases h
    next hsz =>
    cases h
    split at hs
    · next hu =>
      cases hs
      have ha : aggOf P t = false := by unfold aggOf; rw [hu]
      refine ⟨fun _ => rfl, fun m w xs ys hx hy => ?_⟩
      match xs, ys, hx, hy with
      | [.bool x], [.bool y], _, _ =>
        refine ⟨x == y, ?_, by simp⟩
        rw [show d + 1 + m = (d + m) + 1 by omega]
        simp only [mkV, ha, Bool.false_eq_true, if_false, List.headD_cons]
        exact run_equalIn_bool w (d + m) t x y hu
      | [], _, hx, _ => simp at hx
      | _ :: _ :: _, _, hx, _ => simp at hx
      | [_], [], _, hy => simp at hy
      | [_], _ :: _ :: _, _, hy => simp at hy
      | [.int _ _], [_], hx, _ => simp [cellKind] at hx
      | [.float _ _], [_], hx, _ => simp [cellKind] at hx
      | [.complex _ _ _], [_], hx, _ => simp [cellKind] at hx
      | [.string _], [_], hx, _ => simp [cellKind] at hx
      | [.pointer _], [_], hx, _ => simp [cellKind] at hx
      | [.slice _ _ _], [_], hx, _ => simp [cellKind] at hx
      | [.map _], [_], hx, _ => simp [cellKind] at hx
      | [.chan _], [_], hx, _ => simp [cellKind] at hx
      | [.func _ _ _], [_], hx, _ => simp [cellKind] at hx
      | [.nilFunc], [_], hx, _ => simp [cellKind] at hx
      | [.iface _ _], [_], hx, _ => simp [cellKind] at hx
      | [.nilIface], [_], hx, _ => simp [cellKind] at hx
      | [.agg _], [_], hx, _ => simp [cellKind] at hx
      | [.tuple _], [_], hx, _ => simp [cellKind] at hx
      | [.bool _], [.int _ _], _, hy => simp [cellKind] at hy
      | [.bool _], [.float _ _], _, hy => simp [cellKind] at hy
      | [.bool _], [.complex _ _ _], _, hy => simp [cellKind] at hy
      | [.bool _], [.string _], _, hy => simp [cellKind] at hy
      | [.bool _], [.pointer _], _, hy => simp [cellKind] at hy
      | [.bool _], [.slice _ _ _], _, hy => simp [cellKind] at hy
      | [.bool _], [.map _], _, hy => simp [cellKind] at hy
      | [.bool _], [.chan _], _, hy => simp [cellKind] at hy
      | [.bool _], [.func _ _ _], _, hy => simp [cellKind] at hy
      | [.bool _], [.nilFunc], _, hy => simp [cellKind] at hy
      | [.bool _], [.iface _ _], _, hy => simp [cellKind] at hy
      | [.bool _], [.nilIface], _, hy => simp [cellKind] at hy
      | [.bool _], [.agg _], _, hy => simp [cellKind] at hy
      | [.bool _], [.tuple _], _, hy => simp [cellKind] at hy
    · next k hu =>
      cases hs
      have ha : aggOf P t = false := by unfold aggOf; rw [hu]
      refine ⟨fun _ => rfl, fun m w xs ys hx hy => ?_⟩
      have one : ∀ zs : List Value, zs.map cellKind = [some k].map some → ∃ z, zs = [.int k z] := by
        intro zs hz
        match zs, hz with
        | [v], hz =>
          cases v <;> simp [cellKind] at hz
          subst hz; exact ⟨_, rfl⟩
        | [], hz => simp at hz
        | _ :: _ :: _, hz => simp at hz
      obtain ⟨x, rfl⟩ := one xs hx
      obtain ⟨y, rfl⟩ := one ys hy
      refine ⟨x == y, ?_, by simp⟩
      rw [show d + 1 + m = (d + m) + 1 by omega]
      simp only [mkV, ha, Bool.false_eq_true, if_false, List.headD_cons]
      exact run_equalIn_int w (d + m) t k k x y hu
    · next n e hu =>
      have ha : aggOf P t = true := by unfold aggOf; rw [hu]
      cases he : sigT P d e with
      | none => rw [he] at hs; cases hs
      | some a =>
        rw [he] at hs
        cases hs
        refine ⟨fun h => (by rw [ha] at h; cases h), fun m w xs ys hx hy => ?_⟩
        obtain ⟨ie, hie, _, hce, _⟩ := sigT_info he
        obtain ⟨b, hb, hbi⟩ := eqItems_sig he (ih e a he) m w xs ys n 0 (by simpa using hx) (by simpa using hy) (by simp) (by simp)
        refine ⟨b, ?_, by simpa using hbi⟩
        rw [show d + 1 + m = (d + m) + 1 by omega]
        simp only [mkV, ha, if_true]
        rw [run_equalIn_array w (d + m) _ _ hu hie, hce, List.range_eq_range']
        exact hb
    · next fs hu =>
      have ha : aggOf P t = true := by unfold aggOf; rw [hu]
      split at hs
      · cases hs
      · next hst =>
        refine ⟨fun h => (by rw [ha] at h; cases h), fun m w xs ys hx hy => ?_⟩
        obtain ⟨b, hb, hbi⟩ := eqFields_sig ih m w xs ys fs.toList 0 _ hs (by simpa using hx) (by simpa using hy) (by simp) (by simp)
        refine ⟨b, ?_, by simpa using hbi⟩
        have hfo : P.fieldsOf t = fs := by unfold Program.fieldsOf; rw [hu]
        rw [show d + 1 + m = (d + m) + 1 by omega]
        simp only [mkV, ha, if_true]
        rw [run_equalIn_struct w (d + m) t _ _ (by rw [hfo]; exact hu) (by simpa using hst), hfo]
        exact hb
    · cases hs

def kindsS : List Seg → List (Option (Option IntKind))
  | [] => []
  | .ints k n _ :: l => List.replicate n (some (some k)) ++ kindsS l
  | .bytes n _ :: l => List.replicate n (some (some .u8)) ++ kindsS l
  | .bools n _ :: l => List.replicate n (some none) ++ kindsS l
  | .gen n asx :: l => [none] ++ kindsS l
def eqB (P : Program) (t : TypeId) (i : TI) : Bool :=
  !P.eqGuardType P.depth t && aggOf P t && (match sigT P 20 t with | some s => decide (kindsS i.zero = s.map some) | none => false)
theorem kindsS_of {S : Nat → Prop} {w : World} : ∀ {l : List Seg} {cs : List Value} {s : List (Option IntKind)}, kindsS l = s.map some → RL S w l cs → cs.map cellKind = kindsS l
  | _, _, _, _, .nil => rfl
  | .ints k n zs :: l, _, s, h, .ints h1 r => by
    obtain ⟨s1, s2, rfl, h2, h3⟩ := List.map_eq_append_iff.1 h.symm
    rw [List.map_append, kindsS, kindsS_of h3.symm r]
    congr 1
    refine List.ext_getElem (by simp [h1]) fun i _ _ => by simp [cellKind]
  | .bytes n bs :: l, _, s, h, .bytes h1 r => by
    obtain ⟨s1, s2, rfl, h2, h3⟩ := List.map_eq_append_iff.1 h.symm
    rw [List.map_append, kindsS, kindsS_of h3.symm r]
    congr 1
    refine List.ext_getElem (by simp [HL, h1]) fun i _ _ => by simp [HL, cellKind]
  | .bools n bs :: l, _, s, h, .bools h1 r => by
    obtain ⟨s1, s2, rfl, h2, h3⟩ := List.map_eq_append_iff.1 h.symm
    rw [List.map_append, kindsS, kindsS_of h3.symm r]
    congr 1
    refine List.ext_getElem (by simp [h1]) fun i _ _ => by simp [cellKind]
  | .gen n asx :: l, _, s, h, .gen g h1 r => by
    exfalso
    rw [kindsS] at h
    cases s with
    | nil => simp at h
    | cons a s => simp at h
theorem eqB_spec {t : TypeId} {i : TI} (h : eqB P t i = true) : EqT P t i := by
  unfold eqB at h
  simp only [Bool.and_eq_true, Bool.not_eq_true'] at h
  obtain ⟨⟨h1, h2⟩, h3⟩ := h
  cases hs : sigT P 20 t with
  | none => rw [hs] at h3; cases h3
  | some s =>
    rw [hs] at h3
    have h4 : kindsS i.zero = s.map some := by simpa using h3
    refine ⟨h1, fun w xs ys z hz hx hy => ?_⟩
    have hzk := kindsS_of (S := fun _ => True) (w := w) h4 (zeroB_spec hz)
    obtain ⟨b, hb, hbi⟩ := (eq_sig 20 t s hs).2 9980 w xs ys (by rw [hx, hzk, h4]) (by rw [hy, hzk, h4])
    refine ⟨b, ?_, hbi⟩
    simpa [mkV, h2] using hb
end
end Go.Proofs.YtpemaphgmfaioaaGreat

/-
  The machine without memory: its table of functions grows; rules by which it is reckoned. No program is named here.
-/
namespace Go.Proofs.YtpemaphgmfaioaaGreat
set_option maxRecDepth 100000
open Go.RowKit
set_option linter.unusedVariables false
set_option linter.unusedSimpArgs false

def tiInt (k : IntKind) (bytes : Nat) : TI := ⟨1, false, [.ints k 1 [0]], [], [], 0, 0, false, 0, some k, bytes, false, []⟩
def tiByte : TI := ⟨1, false, [.bytes 1 [0]], [], [], 0, 0, false, 0, some .u8, 1, false, []⟩
def tiBool : TI := ⟨1, false, [.bools 1 [false]], [], [], 0, 0, false, 0, none, 1, false, []⟩
def tiStr' : TI := ⟨1, false, [.gen 1 [.v (.string .empty)]], [], [], 0, 0, false, 0, none, 16, false, []⟩
def tiPtr : TI := ⟨1, false, [.gen 1 [.v (.pointer none)]], [], [], 0, 0, false, 0, none, 8, false, []⟩
def tiSl (elem : TypeId) (esz : Nat) : TI := ⟨1, false, [.gen 1 [.v (.slice none 0 0)]], [], [], esz, 0, true, elem, none, 24, false, []⟩
def tiArr (n : Nat) (elem : TypeId) (esz : Nat) (zero : List Seg) (bytes : Nat) : TI := ⟨n * esz, true, zero, [], [], esz, n, false, elem, none, bytes, true, []⟩
def tiStruct (sz : Nat) (zero : List Seg) (fld : List Nat) (fty : List TypeId) (bytes : Nat) (eq : Bool) (plc : List (Nat × Nat)) : TI := ⟨sz, true, zero, fld, fty, 0, 0, false, 0, none, bytes, eq, plc⟩

structure FnThere (P : Program) (f : FuncId) : Prop where
  out : ∃ fn, P.funcs[f]? = some fn ∧ fn.body.isNone = false ∧ (fn.name == "runtime.NumGoroutine") = false

/-- one function more is known -/
noncomputable def EnvX.add (E : EnvX) (f0 : FuncId) (spec : List A → (Res → Prop) → Prop) (h : ∀ args K, spec args K → ∃ r, FnOK E.P E.G f0 args r ∧ K r) (hf : FnThere E.P f0) : EnvX :=
  { P := E.P, Y := E.Y, G := E.G, C := fun f args K => if f = f0 then spec args K else E.C f args K, M := E.M, hY := E.hY, hMu := E.hMu,
    hC := fun f args K hc => by
      by_cases e : f = f0
      · subst e; rw [if_pos rfl] at hc; exact h args K hc
      · rw [if_neg e] at hc; exact E.hC f args K hc
    hF := fun f args K hc => by
      by_cases e : f = f0
      · subst e; exact hf.out
      · rw [if_neg e] at hc; exact E.hF f args K hc
    hE := E.hE, hM := E.hM }
/-- one function more to which a block is lent -/
noncomputable def EnvX.addM (E : EnvX) (f0 : FuncId) (spec : Nat → Bk → List A → (Res → Bk → Prop) → Prop) (h : ∀ pos x args K, spec pos x args K → ∃ r x', FnM E.P E.G f0 pos x args r x' ∧ K r x') (hf : FnThere E.P f0) : EnvX :=
  { P := E.P, Y := E.Y, G := E.G, C := E.C, M := fun f pos x args K => if f = f0 then spec pos x args K else E.M f pos x args K, hY := E.hY,
    hMu := fun f pos x args K hc => by
      by_cases e : f = f0
      · subst e; rw [if_pos rfl] at hc; exact ⟨h pos x args K hc, hf.out⟩
      · rw [if_neg e] at hc; exact E.hMu f pos x args K hc
    hC := E.hC, hF := E.hF, hE := E.hE, hM := E.hM }

theorem leLe {a b : Nat} (h : a ≤ b) : Nat.le a b := h
theorem wn1 : IntKind.i64.wrap 1 = 1 := by decide
theorem wn2 : IntKind.i64.wrap 2 = 2 := by decide
theorem wn3 : IntKind.i64.wrap 3 = 3 := by decide
theorem wn4 : IntKind.i64.wrap 4 = 4 := by decide
theorem wn5 : IntKind.i64.wrap 5 = 5 := by decide
theorem wn6 : IntKind.i64.wrap 6 = 6 := by decide
theorem wn7 : IntKind.i64.wrap 7 = 7 := by decide
theorem wn8 : IntKind.i64.wrap 8 = 8 := by decide
theorem wn9 : IntKind.i64.wrap 9 = 9 := by decide
theorem wn10 : IntKind.i64.wrap 10 = 10 := by decide
theorem wn11 : IntKind.i64.wrap 11 = 11 := by decide
theorem wn12 : IntKind.i64.wrap 12 = 12 := by decide
theorem wn13 : IntKind.i64.wrap 13 = 13 := by decide
theorem wn14 : IntKind.i64.wrap 14 = 14 := by decide
theorem wn15 : IntKind.i64.wrap 15 = 15 := by decide
theorem wn16 : IntKind.i64.wrap 16 = 16 := by decide
theorem condK_split {b : Bool} {x y : Prop} (h1 : b = true → x) (h2 : b = false → y) : condK b x y := by cases b; exact h2 rfl; exact h1 rfl
theorem condK_is {b : Bool} {x y : Prop} (h : b = true) (hx : x) : condK b x y := by rw [h]; exact hx
theorem condK_isnt {b : Bool} {x y : Prop} (h : b = false) (hy : y) : condK b x y := by rw [h]; exact hy
theorem regA_nil {E : EnvX} {ops : List Oper} {s : St} {k : St → Prop} (h : k s) : regA E ops [] s k := h
theorem regA_cons {E : EnvX} {ops : List Oper} {o : Oper} {r : List Oper} {s : St} {k : St → Prop} (h : mutK E o s (fun s' => Stop (regA E ops r s' k)) (stepK E ops o s s.h.length fun t blk => Stop (regA E ops r (s.app2 o.dst t blk) k))) : regA E ops (o :: r) s k := h
theorem regDr_intro {E : EnvX} {l : List Oper} {s : St} {k : St → Prop} (n : Nat) (hn : cntAlloc l = n) (h1 : tabOK l = true)
    (h2 : StopD (regD E l s.h.length n l 0 ⟨s.t, s.h ++ List.replicate (n + 1) none⟩ [] fun acc s' => chkB (depsL l) s.h.length (s.h.length + n) acc = true ∧ k ⟨s'.t, trimH s'.h⟩)) : regDr E l s k := by
  subst hn
  exact ⟨h1, h2.out⟩
/-- what is normalised next -/
def Nrm {α : Type} (f : α → Prop) (x : α) : Prop := f x
theorem toA {E : EnvX} {ops r : List Oper} {s : St} {k : St → Prop} (h : Nrm (fun s => regA E ops r s k) s) : Stop (regA E ops r s k) := ⟨h⟩
theorem ofA {E : EnvX} {ops r : List Oper} {s : St} {k : St → Prop} (h : regA E ops r s k) : Nrm (fun s => regA E ops r s k) s := h
theorem toE {E : EnvX} {l : List Oper} {s : St} {k : St → Prop} (h : Nrm (fun s => regDr E l s k) s) : StopE (regDr E l s k) := ⟨h⟩
theorem ofE {E : EnvX} {l : List Oper} {s : St} {k : St → Prop} (h : regDr E l s k) : Nrm (fun s => regDr E l s k) s := h
theorem toD {E : EnvX} {ops r : List Oper} {n0 tot c : Nat} {s : St} {acc : List Foot} {k : List Foot → St → Prop} (h : Nrm (fun p : Nat × Nat × Nat × St × List Foot => regD E ops p.1 p.2.1 r p.2.2.1 p.2.2.2.1 p.2.2.2.2 k) (n0, tot, c, s, acc)) : StopD (regD E ops n0 tot r c s acc k) := ⟨h⟩
theorem ofD {E : EnvX} {ops r : List Oper} {n0 tot c : Nat} {s : St} {acc : List Foot} {k : List Foot → St → Prop} (h : regD E ops n0 tot r c s acc k) : Nrm (fun p : Nat × Nat × Nat × St × List Foot => regD E ops p.1 p.2.1 r p.2.2.1 p.2.2.2.1 p.2.2.2.2 k) (n0, tot, c, s, acc) := h
theorem regD_cons {E : EnvX} {ops : List Oper} {n0 tot : Nat} {o : Oper} {r : List Oper} {c : Nat} {s : St} {acc : List Foot} {k : List Foot → St → Prop}
    (h : stepK E ops o s (if isAlloc o = true then n0 + c else n0 + tot) fun t blk =>
      StopD (regD E ops n0 tot r (if isAlloc o = true then c + 1 else c) (s.app o.dst t blk) (acc ++ [(opRefs s o, blk.map (·.1), if isAlloc o = true then n0 + c else n0 + tot)]) k)) : regD E ops n0 tot (o :: r) c s acc k := h
theorem regD_nil {E : EnvX} {ops : List Oper} {n0 tot : Nat} {c : Nat} {s : St} {acc : List Foot} {k : List Foot → St → Prop} (h : k acc s) : regD E ops n0 tot [] c s acc k := h
theorem loop_unroll {body : St → (Exit → St → Prop) → Prop} {s : St} {k : Exit → St → Prop} (n : Nat) (h : LoopU body k n s) : LoopA body s k ∨ LoopI body s k := .inl (.inl ⟨n, h⟩)
theorem loop_inv {body : St → (Exit → St → Prop) → Prop} {s : St} {k : Exit → St → Prop} (live : List Nat) (m : Nat) (I : St → Prop) (μ : St → Nat) (h1 : liveOK live m s) (h2 : I (weaken live m s))
    (h3 : ∀ s, I s → body s fun e s' => match e with | .normal => liveOK live m s' ∧ I (weaken live m s') ∧ μ (weaken live m s') < μ s | e => k e s') (h0 : 0 < m := by decide) : LoopA body s k ∨ LoopI body s k := .inl (.inr ⟨s, live, m, I, μ, .refl s, h0, h1, h2, h3⟩)
/-- the same, where a slice that is nil may grow -/
theorem loop_nil {body : St → (Exit → St → Prop) → Prop} {s : St} {k : Exit → St → Prop} (live : List Nat) (m : Nat) (i : Nat) (e : TypeId) (sz : Nat) (l : List Seg) (I : St → Prop) (μ : St → Nat) (h1 : liveOK live m s) (hn : (weaken live m s).sl i = .d (.v (.slice none 0 0))) (hl : l.all segNil = true)
    (h1' : liveOK live (m + 1) (ownNil (weaken live m s) i e sz l)) (h2 : I (weaken live (m + 1) (ownNil (weaken live m s) i e sz l)))
    (h3 : ∀ s, I s → body s fun e s' => match e with | .normal => liveOK live (m + 1) s' ∧ I (weaken live (m + 1) s') ∧ μ (weaken live (m + 1) s') < μ s | e => k e s') (h0 : 0 < m := by decide) : LoopA body s k ∨ LoopI body s k :=
  .inl (.inr ⟨ownNil (weaken live m s) i e sz l, live, m + 1, I, μ, (Ent.weaken h0 h1).trans (.nil hn hl), by omega, h1', h2, h3⟩)
/-- what is left to be shown -/
structure Left (q : Prop) : Prop where
  out : q
structure Isq (q : Prop) : Prop where
  out : True
theorem isqT : Isq True := ⟨trivial⟩
theorem isqA {q : Prop} : Isq q := ⟨trivial⟩
/-- reckoned as far as it goes: what is left is q -/
theorem ago {p q : Prop} (left : q) (h : (Left q → p) ∧ Isq q := by
    refine And.intro ?_ ?_
    · intro left_is
      (conv => whnf); repeat ((first | (refine And.intro ?_ ?_; focus (first | exact rfl | exact Nat.le_of_ble_eq_true rfl | exact Or.inr rfl | exact Or.inl rfl | (intro hx; cases hx <;> fail) | (intro _; rfl) | exact ⟨_, rfl, rfl⟩ | omega | (simp only [Seg.n, segN, tiInt, tiBool, tiSl, tiArr, tiStruct]; omega) | (refine leLe ?_; (try simp only [Seg.n, segN, tiInt, tiBool, tiSl, tiArr, tiStruct]); omega) | assumption | decide | (simp [Seg.n, segN, tiInt, tiBool, tiSl, tiArr, tiStruct, *] <;> omega))) | (refine ⟨_, And.intro rfl ?_⟩) | (refine StopC.mk ?_; first | (refine condK_is ?_ ?_; focus (first | rfl | assumption | (simp only [bne, beq_iff_eq, beq_eq_false_iff_ne, ne_eq, Bool.not_eq_true', Bool.not_eq_false', decide_eq_true_eq, decide_eq_false_iff_not, ge_iff_le, gt_iff_lt, *] <;> omega) | (simp [eqSegs, *] <;> omega))) | (refine condK_isnt ?_ ?_; focus (first | rfl | assumption | (simp only [bne, beq_iff_eq, beq_eq_false_iff_ne, ne_eq, Bool.not_eq_true', Bool.not_eq_false', decide_eq_true_eq, decide_eq_false_iff_not, ge_iff_le, gt_iff_lt, *] <;> omega) | (simp [eqSegs, *] <;> omega)))) | ((first | refine toA ?_ | refine toE ?_ | refine toD ?_); (try (conv => arg 2; simp only [Seg.n, wn1, wn2, wn3, wn4, wn5, wn6, wn7, wn8, wn9, wn10, wn11, wn12, wn13, wn14, wn15, wn16, Int.reduceAdd, Int.zero_add, Seg.cell, Seg.sub, List.set_nil, isAlloc, trimH, List.take_append_drop, St.app, St.app2, St.ev, List.getD_cons_zero, List.getD_cons_succ, List.getD_nil, St.sl, St.bk, tiInt, tiBool, tiSl, tiArr, tiStruct, weaken, keepT, List.set_cons_zero, List.set_cons_succ, List.length_cons, List.length_nil, List.cons_append, List.nil_append, List.append_nil, List.map_cons, List.map_nil, List.replicate_succ, List.replicate_zero, List.take_succ_cons, List.take_zero, List.drop_succ_cons, List.drop_zero, List.take_nil, List.drop_nil, Nat.reduceAdd, Nat.reduceSub, Nat.reduceMul, Nat.reduceEqDiff, Nat.reduceLT, Nat.reduceLeDiff, Nat.zero_add, Nat.add_zero, Nat.sub_self, Nat.sub_zero, Nat.one_mul, Nat.mul_one, Nat.zero_mul, joinS, manyS, List.flatten_cons, List.flatten_nil, eq_self, ite_true, if_true, if_false, ↓reduceIte, reduceCtorEq, Int.reduceToNat, cntAlloc, opRefs])); first | (refine ofA ?_; (conv => arg 3; whnf); first | refine regA_cons ?_ | refine regA_nil ?_) | (refine ofD ?_; (conv => arg 5; whnf); first | refine regD_cons ?_ | refine regD_nil ?_) | (refine ofE ?_; (conv => arg 2; whnf); (refine regDr_intro _ rfl ?_ ?_); focus (kernel_rfl)))); (conv => whnf))
      all_goals exact left_is.out
    · first | with_reducible exact isqT | exact isqA) : p := h.1 ⟨left⟩
theorem agom {p q : Prop} (left : q) (h : (Left q → p) ∧ Isq q := by
    refine And.intro ?_ ?_
    · intro left_is
      (conv => whnf); repeat ((first | (refine And.intro ?_ ?_; focus (first | exact rfl | exact Nat.le_of_ble_eq_true rfl | exact Or.inr rfl | exact Or.inl rfl | (intro hx; cases hx <;> fail) | (intro _; rfl) | exact ⟨_, rfl, rfl⟩ | omega | (simp only [Seg.n, segN, tiInt, tiBool, tiSl, tiArr, tiStruct]; omega) | (refine leLe ?_; (try simp only [Seg.n, segN, tiInt, tiBool, tiSl, tiArr, tiStruct]); omega) | assumption | decide | (simp [Seg.n, segN, tiInt, tiBool, tiSl, tiArr, tiStruct, *] <;> omega))) | (refine ⟨_, And.intro rfl ?_⟩) | (refine StopC.mk ?_; first | (refine condK_is ?_ ?_; focus (first | rfl | assumption | (simp only [bne, beq_iff_eq, beq_eq_false_iff_ne, ne_eq, Bool.not_eq_true', Bool.not_eq_false', decide_eq_true_eq, decide_eq_false_iff_not, ge_iff_le, gt_iff_lt, *] <;> omega) | (simp [eqSegs, *] <;> omega))) | (refine condK_isnt ?_ ?_; focus (first | rfl | assumption | (simp only [bne, beq_iff_eq, beq_eq_false_iff_ne, ne_eq, Bool.not_eq_true', Bool.not_eq_false', decide_eq_true_eq, decide_eq_false_iff_not, ge_iff_le, gt_iff_lt, *] <;> omega) | (simp [eqSegs, *] <;> omega)))) | ((first | refine toA ?_ | refine toE ?_ | refine toD ?_); (try (conv => arg 2; simp only [Int.toNat_natCast, Seg.n, wn1, wn2, wn3, wn4, wn5, wn6, wn7, wn8, wn9, wn10, wn11, wn12, wn13, wn14, wn15, wn16, Int.reduceAdd, Int.zero_add, Seg.cell, Seg.sub, List.set_nil, isAlloc, trimH, List.take_append_drop, St.app, St.app2, St.ev, List.getD_cons_zero, List.getD_cons_succ, List.getD_nil, St.sl, St.bk, tiInt, tiBool, tiSl, tiArr, tiStruct, weaken, keepT, List.set_cons_zero, List.set_cons_succ, List.length_cons, List.length_nil, List.cons_append, List.nil_append, List.append_nil, List.map_cons, List.map_nil, List.replicate_succ, List.replicate_zero, List.take_succ_cons, List.take_zero, List.drop_succ_cons, List.drop_zero, List.take_nil, List.drop_nil, Nat.reduceAdd, Nat.reduceSub, Nat.reduceMul, Nat.reduceEqDiff, Nat.reduceLT, Nat.reduceLeDiff, Nat.zero_add, Nat.add_zero, Nat.sub_self, Nat.sub_zero, Nat.one_mul, Nat.mul_one, Nat.zero_mul, joinS, manyS, List.flatten_cons, List.flatten_nil, eq_self, ite_true, if_true, if_false, ↓reduceIte, reduceCtorEq, Int.reduceToNat, cntAlloc, opRefs])); first | (refine ofA ?_; (conv => arg 3; whnf); first | refine regA_cons ?_ | refine regA_nil ?_) | (refine ofD ?_; (conv => arg 5; whnf); first | refine regD_cons ?_ | refine regD_nil ?_) | (refine ofE ?_; (conv => arg 2; whnf); (refine regDr_intro _ rfl ?_ ?_); focus (kernel_rfl)))); (conv => whnf))
      all_goals exact left_is.out
    · first | with_reducible exact isqT | exact isqA) : p := h.1 ⟨left⟩
/-- a function's contract is begun -/
theorem fnA {E : EnvX} {f : FuncId} {fn : Func} {c : Code} {args : List A} {res : Res} {n : Nat} {t : List T} (hf : E.P.funcs[f]? = some fn) (hnt : fn.ntmps = n)
    (left : wpA E c ⟨t, []⟩ fun e s => (e = .normal ∨ e = .ret) ∧ resK' E s fn.results.toList fun r => r = res) (hb : fn.body = some c := by exact rfl) (hn : args.length ≤ n := by exact Nat.le_of_ble_eq_true rfl)
    (ht : args.map T.d ++ List.replicate (n - args.length) (.d (.v undef)) = t := by (conv => lhs; simp only [Seg.n, wn1, wn2, wn3, wn4, wn5, wn6, wn7, wn8, wn9, wn10, wn11, wn12, wn13, wn14, wn15, wn16, Int.reduceAdd, Int.zero_add, Seg.cell, Seg.sub, List.set_nil, isAlloc, trimH, List.take_append_drop, St.app, St.app2, St.ev, List.getD_cons_zero, List.getD_cons_succ, List.getD_nil, St.sl, St.bk, tiInt, tiBool, tiSl, tiArr, tiStruct, weaken, keepT, List.set_cons_zero, List.set_cons_succ, List.length_cons, List.length_nil, List.cons_append, List.nil_append, List.append_nil, List.map_cons, List.map_nil, List.replicate_succ, List.replicate_zero, List.take_succ_cons, List.take_zero, List.drop_succ_cons, List.drop_zero, List.take_nil, List.drop_nil, Nat.reduceAdd, Nat.reduceSub, Nat.reduceMul, Nat.reduceEqDiff, Nat.reduceLT, Nat.reduceLeDiff, Nat.zero_add, Nat.add_zero, Nat.sub_self, Nat.sub_zero, Nat.one_mul, Nat.mul_one, Nat.zero_mul, joinS, manyS, List.flatten_cons, List.flatten_nil, eq_self, ite_true, if_true, if_false, ↓reduceIte, reduceCtorEq, Int.reduceToNat]); all_goals exact rfl) : FnOK E.P E.G f args res := by
  subst hnt; subst ht; exact fn_of_wpA hf hb hn left
theorem fnMA {E : EnvX} {f : FuncId} {fn : Func} {c : Code} {pos : Nat} {x x' : Bk} {args : List A} {res : Res} {n : Nat} {t : List T} (hf : E.P.funcs[f]? = some fn) (hnt : fn.ntmps = n)
    (left : wpA E c ⟨t, [some x]⟩ fun e s => (e = .normal ∨ e = .ret) ∧ s.bk 0 = some x' ∧ resK' E s fn.results.toList fun r => r = res) (hb : fn.body = some c := by exact rfl) (hn : args.length + 1 ≤ n := by exact Nat.le_of_ble_eq_true rfl) (hp : pos ≤ args.length := by exact Nat.zero_le _)
    (hx : ∀ e sz n l, x ≠ .sl e sz n l := by intro _ _ _ _ h; cases h) (hres : ∀ y, res ≠ .p y := by intro y h; cases h)
    (ht : (args.map T.d).insertIdx pos (.ptr 0 0) ++ List.replicate (n - (args.length + 1)) (.d (.v undef)) = t := by (conv => lhs; simp only [List.insertIdx_zero, Seg.n, wn1, wn2, wn3, wn4, wn5, wn6, wn7, wn8, wn9, wn10, wn11, wn12, wn13, wn14, wn15, wn16, Int.reduceAdd, Int.zero_add, Seg.cell, Seg.sub, List.set_nil, isAlloc, trimH, List.take_append_drop, St.app, St.app2, St.ev, List.getD_cons_zero, List.getD_cons_succ, List.getD_nil, St.sl, St.bk, tiInt, tiBool, tiSl, tiArr, tiStruct, weaken, keepT, List.set_cons_zero, List.set_cons_succ, List.length_cons, List.length_nil, List.cons_append, List.nil_append, List.append_nil, List.map_cons, List.map_nil, List.replicate_succ, List.replicate_zero, List.take_succ_cons, List.take_zero, List.drop_succ_cons, List.drop_zero, List.take_nil, List.drop_nil, Nat.reduceAdd, Nat.reduceSub, Nat.reduceMul, Nat.reduceEqDiff, Nat.reduceLT, Nat.reduceLeDiff, Nat.zero_add, Nat.add_zero, Nat.sub_self, Nat.sub_zero, Nat.one_mul, Nat.mul_one, Nat.zero_mul, joinS, manyS, List.flatten_cons, List.flatten_nil, eq_self, ite_true, if_true, if_false, ↓reduceIte, reduceCtorEq, Int.reduceToNat]); all_goals exact rfl) : FnM E.P E.G f pos x args res x' := by
  subst hnt; subst ht; exact fnM_of_wpA hf hb hn hp hx left hres
end Go.Proofs.YtpemaphgmfaioaaGreat

/-
  Arguments made of numbers and truths, opened; laws out of contracts. No program is named here.
-/
namespace Go.Proofs.YtpemaphgmfaioaaGreat
set_option maxRecDepth 100000
open Go.RowKit Go.ChangeShapes Go.WideShapes
set_option linter.unusedVariables false
set_option linter.unusedSimpArgs false

/-- a number is in its kind's range -/
def wfV : Value → Prop | .int k z => (Lit.int k z).wf = true | _ => True

section
variable {H : Type} {enc : TypeId × Value → H} {P : Program} {w : World} {base b0 : Nat} {spare : Nat → Bool} {held : Bool}

theorem kinds_of_trod : ∀ (d : Nat) (t : TypeId) (s : List (Option IntKind)), sigT P d t = some s → ∀ {fuel : Nat} {cs : List Value} {x : DataW H × List MemPlace}, DataW.trod enc P w base spare held fuel t cs = some x → cs.length = s.length →
    cs.map cellKind = s.map some ∧ ∀ v ∈ cs, wfV v
  | 0, t, s, h => by cases h
  | d + 1, t, s, h => by
    intro hx hl
    rename_i fuel cs x
    have ih := kinds_of_trod d
    unfold sigT at h
    simp only at h
    split at h
    case h_2 => cases h
    next s' hs =>
    split at h
    case h_2 => cases h
    next i hi =>
    split at h
    case isFalse => cases h
    next hsz =>
    cases h
    split at hs
    · next hu =>
      cases hs
      obtain ⟨b, rfl, _⟩ := DataW.trod_bool hu hx
      exact ⟨rfl, by simp [wfV]⟩
    · next k hu =>
      cases hs
      obtain ⟨z, rfl, _, hw⟩ := DataW.trod_int hu hx
      exact ⟨rfl, by simp [wfV, hw]⟩
    · next n e hu =>
      cases he : sigT P d e with
      | none => rw [he] at hs; cases hs
      | some a =>
        rw [he] at hs
        cases hs
        obtain ⟨xs, m, _, _, hcl, hxl, hel⟩ := DataW.trod_array hu hx
        obtain ⟨_, _, _, hce, _⟩ := sigT_info he
        rw [hce] at hel
        have go : ∀ (k j : Nat), j + k = n → (cs.drop (j * a.length)).map cellKind = ((List.replicate k a).flatten).map some ∧ ∀ v ∈ cs.drop (j * a.length), wfV v := by
          intro k
          induction k with
          | zero =>
            intro j hj
            have : cs.drop (j * a.length) = [] := by
              apply List.drop_of_length_le
              rw [hl]; simp; rw [show j = n by omega]; exact Nat.le_refl _
            rw [this]; simp
          | succ k ihk =>
            intro j hj
            obtain ⟨h1, h2⟩ := ihk (j + 1) (by omega)
            have hlt : j < xs.length := by omega
            have h3 := hel j (by omega)
            rw [List.getElem?_eq_getElem hlt] at h3
            have hja : (j + 1) * a.length ≤ cs.length := by
              rw [hl]; simp
              exact Nat.mul_le_mul_right _ (by omega)
            have hjj : (j + 1) * a.length = j * a.length + a.length := by rw [Nat.add_mul, Nat.one_mul]
            obtain ⟨h4, h5⟩ := ih e a he h3 (by simp; omega)
            have split : cs.drop (j * a.length) = (cs.drop (j * a.length)).take a.length ++ cs.drop ((j + 1) * a.length) := by rw [hjj, ← List.drop_drop, List.take_append_drop]
            rw [split, List.map_append, h4, h1, List.replicate_succ, List.flatten_cons, List.map_append]
            refine ⟨rfl, fun v hv => ?_⟩
            rcases List.mem_append.1 hv with hv | hv
            · exact h5 v hv
            · exact h2 v hv
        have := go n 0 (by omega)
        simpa using this
    · next fs hu =>
      split at hs
      · cases hs
      · obtain ⟨xs, m, _, _, hcl, hxl, hel⟩ := DataW.trod_struct hu hx
        have go : ∀ (fl : List Field) (j off : Nat) (s : List (Option IntKind)), fs.toList.drop j = fl → sigF (sigT P d) off fl = some s → off + s.length = cs.length → (cs.drop off).map cellKind = s.map some ∧ ∀ v ∈ cs.drop off, wfV v := by
          intro fl
          induction fl with
          | nil =>
            intro j off s _ hs hlen
            cases hs
            have : cs.drop off = [] := List.drop_of_length_le (by simp at hlen; omega)
            rw [this]; simp
          | cons f fl ihf =>
            intro j off s hd hs hlen
            unfold sigF at hs
            split at hs
            · next hf =>
              cases ha : sigT P d f.type with
              | none => rw [ha] at hs; cases hs
              | some a =>
                rw [ha] at hs
                cases hr : sigF (sigT P d) (off + a.length) fl with
                | none => simp [hr] at hs
                | some b =>
                  simp only [hr, Option.map_some, Option.some.injEq] at hs
                  subst hs
                  rw [List.length_append] at hlen
                  have hj : fs[j]? = some f := by
                    have := congrArg (·[0]?) hd
                    simpa using this
                  have hjl : j < xs.length := by
                    have := (Array.getElem?_eq_some_iff.1 hj).1
                    omega
                  obtain ⟨h1, h2⟩ := ihf (j + 1) (off + a.length) b (by
                    have := congrArg (List.drop 1) hd
                    rw [List.drop_drop] at this; simpa using this) hr (by omega)
                  have h3 := hel j f hj
                  obtain ⟨_, _, _, hca, _⟩ := sigT_info ha
                  rw [List.getElem?_eq_getElem hjl, hca, hf.2] at h3
                  obtain ⟨h4, h5⟩ := ih f.type a ha h3 (by simp; omega)
                  have split : cs.drop off = (cs.drop off).take a.length ++ cs.drop (off + a.length) := by rw [← List.drop_drop, List.take_append_drop]
                  rw [split, List.map_append, h4, h1, List.map_append]
                  refine ⟨rfl, fun v hv => ?_⟩
                  rcases List.mem_append.1 hv with hv | hv
                  · exact h5 v hv
                  · exact h2 v hv
            · cases hs
        have := go fs.toList 0 0 _ (by simp) hs (by rw [hl]; simp)
        simpa using this
    · cases hs

theorem ints_of_kinds {k : IntKind} : ∀ (cs : List Value), (∀ v ∈ cs, cellKind v = some (some k)) → (∀ v ∈ cs, wfV v) → ∃ zs : List Int, cs = zs.map (Value.int k) ∧ ∀ z ∈ zs, (Lit.int k z).wf = true
  | [], _, _ => ⟨[], rfl, by simp⟩
  | v :: cs, h, hw => by
    obtain ⟨zs, rfl, h2⟩ := ints_of_kinds cs (fun u hu => h u (by simp [hu])) (fun u hu => hw u (by simp [hu]))
    have h3 := h v (by simp)
    have h4 := hw v (by simp)
    cases v <;> simp [cellKind] at h3
    subst h3
    rename_i z
    exact ⟨z :: zs, rfl, fun y hy => by rcases List.mem_cons.1 hy with rfl | hy; exact h4; exact h2 y hy⟩
/-- a struct or an array of whole numbers -/
theorem open_flat {r : Reach} {t : TypeId} {v : Value} {dd : DataW H} {ps : List MemPlace} {n : Nat} (hs : sigT P 20 t = some (List.replicate n (some .i64))) (ha : aggOf P t = true)
    (hval : Value.okWide P w r b0 t v) (h : DataW.Trod enc P w base spare held t v dd ps) : ∃ zs : List Int, v = .agg (zs.map (Value.int .i64)).toArray ∧ zs.length = n ∧ ∀ z ∈ zs, (Lit.int .i64 z).wf = true := by
  obtain ⟨cs, rfl, hsz⟩ : ∃ cs, v = .agg cs ∧ cs.size = P.cellsOf t := by
    unfold Value.okWide at hval
    unfold aggOf at ha
    split at hval
    · obtain ⟨cs, h1, h2, _⟩ := hval; exact ⟨cs, h1, h2⟩
    · obtain ⟨cs, h1, h2, _⟩ := hval; exact ⟨cs, h1, h2⟩
    · next h1 h2 =>
      split at ha
      · next fs hu => exact absurd hu (h1 fs)
      · next n e hu => exact absurd hu (h2 n e)
      · cases ha
  obtain ⟨fuel, hf⟩ := h
  obtain ⟨_, _, _, hc, _⟩ := sigT_info hs
  have hl : cs.toList.length = n := by rw [Array.length_toList, hsz, hc]; simp
  obtain ⟨h1, h2⟩ := kinds_of_trod 20 t _ hs hf (by simp [Value.cells]; simpa using hl)
  obtain ⟨zs, h3, h4⟩ := ints_of_kinds cs.toList (k := .i64) (fun v hv => by
    have : cellKind v ∈ ((Value.agg cs).cells.toList).map cellKind := List.mem_map.2 ⟨v, hv, rfl⟩
    rw [h1] at this
    simp at this
    first | exact this.2.symm | exact this.2) h2
  refine ⟨zs, ?_, ?_, h4⟩
  · rw [← h3]
  · rw [← hl, h3, List.length_map]
end

/-- nil is a slice of one's own with nothing in it -/
theorem fnNil {P : Program} {G : Nat → Option (List Seg)} {f : FuncId} {args : List A} {e : TypeId} {sz : Nat} {l : List Seg} (h : FnOK P G f args (.d (.v (.slice none 0 0)))) (hl : l.all segNil = true) : FnOK P G f args (.o e sz 0 l) := by
  intro S w vs hG ha
  refine (h S w vs hG ha).mono ?_
  rintro e' w' ⟨v, rfl, h1, h2⟩
  refine ⟨v, rfl, ⟨[], ?_, rl_nil hl⟩, h2⟩
  rw [RA.plain h1]
  exact World.ownsRow_nil _ _ _ _
/-- a struct or an array of numbers and truths: its cells by their kinds -/
theorem open_agg {H : Type} {enc : TypeId × Value → H} {P : Program} {w : World} {base b0 : Nat} {spare : Nat → Bool} {held : Bool} {r : Reach} {t : TypeId} {v : Value} {dd : DataW H} {ps : List MemPlace} {sg : List (Option IntKind)} (hs : sigT P 20 t = some sg) (ha : aggOf P t = true)
    (hval : Value.okWide P w r b0 t v) (h : DataW.Trod enc P w base spare held t v dd ps) : ∃ cs : List Value, v = .agg cs.toArray ∧ cs.map cellKind = sg.map some ∧ ∀ u ∈ cs, wfV u := by
  obtain ⟨cs, rfl, hsz⟩ : ∃ cs, v = .agg cs ∧ cs.size = P.cellsOf t := by
    unfold Value.okWide at hval
    unfold aggOf at ha
    split at hval
    · obtain ⟨cs, h1, h2, _⟩ := hval; exact ⟨cs, h1, h2⟩
    · obtain ⟨cs, h1, h2, _⟩ := hval; exact ⟨cs, h1, h2⟩
    · next h1 h2 =>
      split at ha
      · next fs hu => exact absurd hu (h1 fs)
      · next n e hu => exact absurd hu (h2 n e)
      · cases ha
  obtain ⟨fuel, hf⟩ := h
  obtain ⟨_, _, _, hc, _⟩ := sigT_info hs
  have hl : cs.toList.length = sg.length := by rw [Array.length_toList, hsz, hc]
  obtain ⟨h1, h2⟩ := kinds_of_trod 20 t _ hs hf (by simp [Value.cells]; simpa using hl)
  exact ⟨cs.toList, by simp, h1, h2⟩
theorem kinds_split {cs : List Value} {a b : List (Option IntKind)} (h : cs.map cellKind = (a ++ b).map some) (hw : ∀ u ∈ cs, wfV u) :
    ∃ c d, cs = c ++ d ∧ c.map cellKind = a.map some ∧ d.map cellKind = b.map some ∧ (∀ u ∈ c, wfV u) ∧ ∀ u ∈ d, wfV u := by
  refine ⟨cs.take a.length, cs.drop a.length, (List.take_append_drop _ _).symm, ?_, ?_, fun u hu => hw u (List.mem_of_mem_take hu), fun u hu => hw u (List.mem_of_mem_drop hu)⟩
  · rw [List.map_take, h, List.map_append, List.take_append_of_le_length (by simp), List.take_of_length_le (by simp)]
  · rw [List.map_drop, h, List.map_append, List.drop_append_of_le_length (by simp), List.drop_of_length_le (by simp), List.nil_append]
theorem kinds_ints {k : IntKind} {n : Nat} {cs : List Value} (h : cs.map cellKind = (List.replicate n (some k)).map some) (hw : ∀ u ∈ cs, wfV u) : ∃ zs : List Int, cs = zs.map (Value.int k) ∧ zs.length = n ∧ ∀ z ∈ zs, (Lit.int k z).wf = true := by
  obtain ⟨zs, h3, h4⟩ := ints_of_kinds cs (k := k) (fun v hv => by
    have : cellKind v ∈ cs.map cellKind := List.mem_map.2 ⟨v, hv, rfl⟩
    rw [h] at this
    simp at this
    first | exact this.2.symm | exact this.2) hw
  refine ⟨zs, h3, ?_, h4⟩
  have := congrArg List.length h
  rw [h3] at this
  simpa using this
theorem kinds_bytes {n : Nat} {cs : List Value} (h : cs.map cellKind = (List.replicate n (some .u8)).map some) (hw : ∀ u ∈ cs, wfV u) : ∃ bs : List UInt8, cs = HL bs ∧ bs.length = n := by
  obtain ⟨zs, rfl, h2, h3⟩ := kinds_ints h hw
  refine ⟨zs.map fun z => UInt8.ofNat z.toNat, ?_, by simpa using h2⟩
  unfold HL
  rw [List.map_map]
  refine List.map_congr_left fun z hz => ?_
  have hb := h3 z hz
  simp [Lit.wf, IntKind.signed, IntKind.bits, IntKind.min, IntKind.max] at hb
  simp only [Function.comp, Bt]
  congr 1
  simp
  omega
theorem kinds_bools {n : Nat} {cs : List Value} (h : cs.map cellKind = (List.replicate n none).map some) : ∃ bs : List Bool, cs = bs.map Value.bool ∧ bs.length = n := by
  have hl : cs.length = n := by have := congrArg List.length h; simpa using this
  refine ⟨cs.map fun | .bool b => b | _ => false, ?_, by simpa using hl⟩
  rw [List.map_map]
  conv => lhs; rw [← List.map_id cs]
  refine List.map_congr_left fun v hv => ?_
  have : cellKind v ∈ cs.map cellKind := List.mem_map.2 ⟨v, hv, rfl⟩
  rw [h] at this
  simp at this
  have hk : cellKind v = some none := by first | exact this.2.symm | exact this.2
  cases v <;> simp [cellKind] at hk
  rfl
theorem open_bools {H : Type} {enc : TypeId × Value → H} {P : Program} {w : World} {base b0 : Nat} {spare : Nat → Bool} {held : Bool} {r : Reach} {t : TypeId} {v : Value} {dd : DataW H} {ps : List MemPlace} {n : Nat} (hs : sigT P 20 t = some (List.replicate n none)) (ha : aggOf P t = true)
    (hval : Value.okWide P w r b0 t v) (h : DataW.Trod enc P w base spare held t v dd ps) : ∃ bs : List Bool, v = .agg (bs.map Value.bool).toArray ∧ bs.length = n := by
  obtain ⟨cs, rfl, h1, _⟩ := open_agg hs ha hval h
  obtain ⟨bs, rfl, h2⟩ := kinds_bools h1
  exact ⟨bs, rfl, h2⟩
/-- a law's call out of its contract -/
theorem law_of_fn {P : Program} {G : Nat → Option (List Seg)} {f : FuncId} {args : List A} {vs : List Value} {w : World} (h : FnOK P G f args (.d (.v (.bool true)))) (hG : GOK G (fun _ => True) w) (ha : RAs (fun _ => True) w args vs) :
    Calls P f vs.toArray w fun e w' => e = .returned (.bool true) ∧ Below w.heap.size w w' := by
  refine (h _ w vs hG ha).mono ?_
  rintro e w' ⟨v, rfl, h1, h2⟩
  rw [RA.plain h1]
  exact ⟨rfl, h2⟩
theorem ra_ints {S : Nat → Prop} {w : World} {k : IntKind} {n : Nat} {zs : List Int} (h : zs.length = n) : RA S w (.agg [.ints k n zs]) (.agg (zs.map (Value.int k)).toArray) := .agg (.ofInts h rfl)
/-- contracts of functions that take and give plain values, and leave memory asx it is -/
theorem fn_plain1 {P : Program} {G : Nat → Option (List Seg)} {f : FuncId} {x v : Value} (h : ∀ w, Calls P f #[x] w fun e w' => e = .returned v ∧ w = w') : FnOK P G f [.v x] (.d (.v v)) := by
  intro S w vs _ ha
  cases ha with
  | cons h1 r =>
    cases r
    rw [RA.plain h1]
    refine (h w).mono ?_
    rintro e w' ⟨rfl, rfl⟩
    exact ⟨v, rfl, .v v, Below.refl _ _⟩
theorem fn_plain2 {P : Program} {G : Nat → Option (List Seg)} {f : FuncId} {x y v : Value} (h : ∀ w, Calls P f #[x, y] w fun e w' => e = .returned v ∧ w = w') : FnOK P G f [.v x, .v y] (.d (.v v)) := by
  intro S w vs _ ha
  cases ha with
  | cons h1 r =>
    cases r with
    | cons h2 r =>
      cases r
      rw [RA.plain h1, RA.plain h2]
      refine (h w).mono ?_
      rintro e w' ⟨rfl, rfl⟩
      exact ⟨v, rfl, .v v, Below.refl _ _⟩
theorem wrapS {z : Int} (h0 : -9223372036854775808 ≤ z) (h1 : z ≤ 9223372036854775807) : IntKind.i64.wrap z = z := by
  have e1 : (2 : Int) ^ 64 = 18446744073709551616 := by decide
  have e2 : (2 : Int) ^ (64 - 1) = 9223372036854775808 := by decide
  simp only [IntKind.wrap, IntKind.signed, IntKind.bits, Bool.true_and, decide_eq_true_eq, e1, e2]
  split <;> omega
end Go.Proofs.YtpemaphgmfaioaaGreat

/-
  What is handed in is asx long asx it says. No program is named here.
-/
namespace Go.Proofs.YtpemaphgmfaioaaGreat
set_option maxRecDepth 100000
open Go.RowKit
set_option linter.unusedVariables false
set_option linter.unusedSimpArgs false

def segLens : List Seg → Prop
  | [] => True
  | .ints _ n zs :: l => zs.length = n ∧ segLens l
  | .bytes n bs :: l => bs.length = n ∧ segLens l
  | .bools n bs :: l => bs.length = n ∧ segLens l
  | .gen n asx :: l => asx.length = n ∧ segLens l
def argLens : List A → Prop
  | [] => True
  | .agg l :: r => segLens l ∧ argLens r
  | .row _ l :: r => segLens l ∧ argLens r
  | _ :: r => argLens r
theorem rl_lens {S : Nat → Prop} {w : World} : ∀ {l : List Seg} {cs : List Value}, RL S w l cs → segLens l
  | _, _, .nil => trivial
  | _, _, .ints h r => ⟨h, rl_lens r⟩
  | _, _, .bytes h r => ⟨h, rl_lens r⟩
  | _, _, .bools h r => ⟨h, rl_lens r⟩
  | _, _, .gen _ h r => ⟨h, rl_lens r⟩
theorem ras_lens {S : Nat → Prop} {w : World} : ∀ {l : List A} {vs : List Value}, RAs S w l vs → argLens l
  | _, _, .nil => trivial
  | _, _, .cons h r => by
    have ih := ras_lens r
    cases h with
    | v => exact ih
    | agg h => exact ⟨rl_lens h, ih⟩
    | row h => exact ⟨rl_lens h, ih⟩
    | ref => exact ih
theorem fn_lens {P : Program} {G : Nat → Option (List Seg)} {f : FuncId} {args : List A} {res : Res} (h : argLens args → FnOK P G f args res) : FnOK P G f args res :=
  fun S w vs hG ha => h (ras_lens ha) S w vs hG ha
theorem hb_lens {D : Nat → Prop} {w : World} {r : Nat} {l : List Seg} (h : HB D w r (.var l)) : segLens l := by
  obtain ⟨cs, t, _, h⟩ := h
  exact rl_lens h
theorem fnM_lens {P : Program} {G : Nat → Option (List Seg)} {f : FuncId} {pos : Nat} {l : List Seg} {x' : Bk} {args : List A} {res : Res} (h : segLens l → argLens args → FnM P G f pos (.var l) args res x') : FnM P G f pos (.var l) args res x' :=
  fun S w r vs hr hG hb ha => h (hb_lens hb) (ras_lens ha) S w r vs hr hG hb ha
end Go.Proofs.YtpemaphgmfaioaaGreat

/-
  The machine without memory: a loop that counts. No program is named here.
-/
namespace Go.Proofs.YtpemaphgmfaioaaGreat
set_option maxRecDepth 100000
open Go.RowKit
set_option linter.unusedVariables false
set_option linter.unusedSimpArgs false

theorem max_of {p : Nat → Prop} : ∀ (N : Nat), (∃ j, j ≤ N ∧ p j) → ∃ j, j ≤ N ∧ p j ∧ ∀ i, i ≤ N → p i → i ≤ j
  | 0, ⟨j, h1, h2⟩ => by
    obtain rfl : j = 0 := by omega
    exact ⟨0, Nat.le_refl _, h2, fun i hi _ => hi⟩
  | N + 1, ⟨j, h1, h2⟩ => by
    by_cases h : p (N + 1)
    · exact ⟨N + 1, Nat.le_refl _, h, fun i hi _ => hi⟩
    · have hj : j ≤ N := by
        rcases Nat.lt_or_ge N j with h3 | h3
        · exact (h ((show j = N + 1 by omega) ▸ h2)).elim
        · exact h3
      obtain ⟨k, k1, k2, k3⟩ := max_of N ⟨j, hj, h2⟩
      refine ⟨k, by omega, k2, fun i hi hp => ?_⟩
      rcases Nat.lt_or_ge N i with h3 | h3
      · exact (h ((show i = N + 1 by omega) ▸ hp)).elim
      · exact k3 i h3 hp
/-- the last of so many states that a state is -/
noncomputable def lastOf (N : Nat) (f : Nat → St) (s : St) : Nat := by
  classical exact if h : ∃ j, j ≤ N ∧ s = f j then Classical.choose (max_of (p := fun j => s = f j) N h) else 0
theorem lastOf_spec {N : Nat} {f : Nat → St} {s : St} (h : ∃ j, j ≤ N ∧ s = f j) : lastOf N f s ≤ N ∧ s = f (lastOf N f s) ∧ ∀ i, i ≤ N → s = f i → i ≤ lastOf N f s := by
  have := Classical.choose_spec (max_of (p := fun j => s = f j) N h)
  unfold lastOf
  rw [dif_pos h]
  exact this
/-- a round is done: the state is the next one's -/
structure Round (N : Nat) (f : Nat → St) (j : Nat) (s' : St) : Prop where
  there : ∃ i, i ≤ N ∧ s' = f i
  less : N - lastOf N f s' < N - lastOf N f (f j)
/-- of the rounds with this state j is the last one -/
structure LastR (N : Nat) (f : Nat → St) (j : Nat) : Prop where
  le : j ≤ N
  last : ∀ i, i ≤ N → f j = f i → i ≤ j
theorem LastR.next {N : Nat} {f : Nat → St} {j : Nat} {s' : St} (h : LastR N f j) (hj : j < N) (e : s' = f (j + 1)) : Round N f j s' := by
  subst e
  refine ⟨⟨_, hj, rfl⟩, ?_⟩
  obtain ⟨c1, c2, c3⟩ := lastOf_spec (N := N) (f := f) (s := f (j + 1)) ⟨_, hj, rfl⟩
  obtain ⟨d1, d2, d3⟩ := lastOf_spec (N := N) (f := f) (s := f j) ⟨_, h.le, rfl⟩
  have h1 := c3 _ hj rfl
  have h2 := h.last _ d1 d2
  omega
/-- a loop of N rounds at most: its state ahead of each -/
theorem loop_for {body : St → (Exit → St → Prop) → Prop} {s : St} {k : Exit → St → Prop} (live : List Nat) (m : Nat) (N : Nat) (f : Nat → St)
    (h3 : ∀ j, j ≤ N → LastR N f j → body (f j) fun e s' => match e with | .normal => liveOK live m s' ∧ Round N f j (weaken live m s') | e => k e s')
    (h1 : liveOK live m s := by exact rfl) (h2 : weaken live m s = f 0 := by exact rfl) (h0 : 0 < m := by decide) : LoopA body s k ∨ LoopI body s k := by
  refine loop_inv live m (fun s => ∃ j, j ≤ N ∧ s = f j) (fun s => N - lastOf N f s) h1 ⟨0, Nat.zero_le _, h2⟩ ?_ h0
  intro s hs
  obtain ⟨a1, a2, a3⟩ := lastOf_spec hs
  generalize hj : lastOf N f s = j at *
  subst a2
  have h4 := h3 j a1 ⟨a1, a3⟩
  refine Eq.mp (congrArg (body (f j)) (funext fun e => funext fun s' => ?_)) h4
  cases e <;> simp only []
  exact propext ⟨fun h => ⟨h.1, h.2.there, by have := h.2.less; rw [hj] at this; exact this⟩, fun h => ⟨h.1, h.2.1, by rw [hj]; exact h.2.2⟩⟩

/-! a state told shorter: only some slots, only some blocks, counted anew -/
def renP (f : Nat → Nat) : Pt → Pt
  | .dat a => .dat a
  | .own b n => .own (f b) n
  | .win b base n => .win (f b) base n
def renT (f : Nat → Nat) : T → T
  | .ptr b base => .ptr (f b) base
  | .pti b base rel => .pti (f b) base rel
  | .own b n => .own (f b) n
  | .win b base n => .win (f b) base n
  | .ept b n off => .ept (f b) n off
  | .pre b n m => .pre (f b) n m
  | .rows l => .rows (l.map (renP f))
  | .d a => .d a
  | .tup l => .tup l
  | .dead => .dead
def gatT (f : Nat → Nat) (live : List Nat) : Nat → List T → List T
  | _, [] => []
  | i, t :: l => (if live.contains i = true then renT f t else .dead) :: gatT f live (i + 1) l
def gather (live bs : List Nat) (s : St) : St := ⟨gatT (fun b => bs.idxOf b) live 0 s.t, bs.map s.bk⟩
def gatOK (live bs : List Nat) (s : St) : Bool := bs.head? == some 0 && bs.eraseDups == bs && live.all (fun i => (s.sl i).refs.all fun b => bs.contains b)

theorem gatT_len (f : Nat → Nat) (live : List Nat) : ∀ (l : List T) (i : Nat), (gatT f live i l).length = l.length
  | [], _ => rfl
  | _ :: l, i => by simp [gatT, gatT_len f live l (i + 1)]
theorem gatT_get (f : Nat → Nat) (live : List Nat) : ∀ (l : List T) (i j : Nat), (gatT f live i l).getD j .dead = if live.contains (i + j) = true then renT f (l.getD j .dead) else .dead
  | [], i, j => by simp [gatT, renT]
  | t :: l, i, 0 => by simp [gatT]
  | t :: l, i, j + 1 => by
    have := gatT_get f live l (i + 1) j
    rw [show i + 1 + j = i + (j + 1) by omega] at this
    simpa [gatT] using this
theorem renT_refs (f : Nat → Nat) (t : T) : (renT f t).refs = t.refs.map f := by
  cases t with
  | rows l =>
    simp only [renT, T.refs, List.flatMap_map, List.map_flatMap]
    congr 1
    funext p
    cases p <;> rfl
  | _ => rfl
theorem RP.ren {D D' : Nat → Prop} {ρ ρ' : Nat → Option Value} {w w' : World} (k : Keeps D w D' w') {f : Nat → Nat} {p : Pt} {v : Value} (hr : ∀ b ∈ p.refs, ρ' (f b) = ρ b) (h : RP D ρ w p v) : RP D' ρ' w' (renP f p) v := by
  cases p with
  | dat a => exact RA.up k h
  | own b n => intro u hu; rw [hr b (by simp [Pt.refs])] at hu; exact h u hu
  | win b base n => intro u hu; rw [hr b (by simp [Pt.refs])] at hu; exact h u hu
theorem RPs.ren {D D' : Nat → Prop} {ρ ρ' : Nat → Option Value} {w w' : World} {f : Nat → Nat} : ∀ {l : List Pt} {vs : List Value}, (∀ p ∈ l, ∀ v, RP D ρ w p v → RP D' ρ' w' (renP f p) v) → RPs D ρ w l vs → RPs D' ρ' w' (l.map (renP f)) vs
  | _, _, _, .nil => .nil
  | _, _, g, .cons h r => .cons (g _ (by simp) _ h) (r.ren fun p hp => g p (by simp [hp]))
theorem RT.ren {D D' : Nat → Prop} {ρ ρ' : Nat → Option Value} {w w' : World} (k : Keeps D w D' w') {f : Nat → Nat} {t : T} {v : Value} (hr : ∀ b ∈ t.refs, ρ' (f b) = ρ b) (h : RT D ρ w t v) : RT D' ρ' w' (renT f t) v := by
  cases t with
  | d a => exact RA.up k h
  | tup l => obtain ⟨vs, rfl, h⟩ := h; exact ⟨vs, rfl, h.up k⟩
  | rows l => obtain ⟨vs, h1, h2⟩ := h; exact ⟨vs, h1.ren fun p hp v hv => hv.ren k fun b hb => hr b (by simp only [T.refs, List.mem_flatMap]; exact ⟨p, hp, hb⟩), h2.up k⟩
  | dead => trivial
  | ptr b base => intro u hu; rw [hr b (by simp [T.refs])] at hu; exact h u hu
  | pti b base rel => intro u hu; rw [hr b (by simp [T.refs])] at hu; exact h u hu
  | own b n => intro u hu; rw [hr b (by simp [T.refs])] at hu; exact h u hu
  | win b base n => intro u hu; rw [hr b (by simp [T.refs])] at hu; exact h u hu
  | ept b n off => intro u hu; rw [hr b (by simp [T.refs])] at hu; exact h u hu
  | pre b n m => intro u hu; rw [hr b (by simp [T.refs])] at hu; exact h u hu
theorem dups_nodup : ∀ (n : Nat) (l : List Nat), l.length ≤ n → l.eraseDups.Nodup ∧ ∀ x, x ∈ l.eraseDups ↔ x ∈ l
  | _, [], _ => by simp
  | n + 1, a :: l, h => by
    rw [List.eraseDups_cons]
    have hl : (l.filter fun b => !b == a).length ≤ n := Nat.le_trans (List.length_filter_le _ _) (by simpa using h)
    obtain ⟨h1, h2⟩ := dups_nodup n _ hl
    refine ⟨List.nodup_cons.2 ⟨?_, h1⟩, fun x => ?_⟩
    · rw [h2]; simp
    · rw [List.mem_cons, h2]
      simp
      by_cases e : x = a <;> simp [e]
theorem nodup_of_dups {l : List Nat} (h : l.eraseDups = l) : l.Nodup := h ▸ (dups_nodup _ l (Nat.le_refl _)).1
theorem nodup_inj {l : List Nat} (h : l.Nodup) {i j : Nat} {hi : i < l.length} {hj : j < l.length} (e : l[i] = l[j]) : i = j := by
  have hp := List.pairwise_iff_getElem.1 h
  rcases Nat.lt_trichotomy i j with h1 | h1 | h1
  · exact absurd e (hp i j hi hj h1)
  · exact h1
  · exact absurd e.symm (hp j i hj hi h1)
theorem Ent.gather {s : St} {live bs : List Nat} (h : gatOK live bs s = true) : Ent s (gather live bs s) := ⟨fun G S base w0 ρ a w g => by
  unfold gatOK at h
  simp only [Bool.and_eq_true, beq_iff_eq] at h
  obtain ⟨⟨h0, h1⟩, h2⟩ := h
  have hnd := nodup_of_dups h1
  rw [List.all_eq_true] at h2
  let ρ' : Nat → Option Value := fun i => (bs[i]?).bind ρ
  have hbk : ∀ i, (Go.Proofs.YtpemaphgmfaioaaGreat.gather live bs s).bk i = match bs[i]? with | some b => s.bk b | none => none := by
    intro i
    show (bs.map s.bk).getD i none = _
    rw [List.getD_eq_getElem?_getD, List.getElem?_map]
    cases bs[i]? <;> rfl
  have hsl : ∀ i, (Go.Proofs.YtpemaphgmfaioaaGreat.gather live bs s).sl i = if live.contains i = true then renT (fun b => bs.idxOf b) (s.sl i) else .dead := by
    intro i
    have := gatT_get (fun b => bs.idxOf b) live s.t 0 i
    rw [Nat.zero_add] at this
    exact this
  have hρ : ∀ i u, ρ' i = some u → ∃ b, bs[i]? = some b ∧ ρ b = some u := by
    intro i u hb
    simp only [ρ'] at hb
    cases hx : bs[i]? with
    | none => rw [hx] at hb; cases hb
    | some b => rw [hx] at hb; exact ⟨b, rfl, hb⟩
  have hρm : ∀ b, b ∈ bs → ρ' (bs.idxOf b) = ρ b := fun b hb => by
    simp only [ρ']
    rw [List.getElem?_eq_getElem (List.idxOf_lt_length_of_mem hb), List.getElem_idxOf]; rfl
  have hρi : ∀ i b, bs[i]? = some b → ρ' i = ρ b := fun i b hb => by simp only [ρ']; rw [hb]; rfl
  have K : Keeps (Dt S base ρ) w (Dt S base ρ') w := ⟨Nat.le_refl _, fun r _ hd => ⟨⟨hd.1, fun b u hb => by obtain ⟨c, _, hc⟩ := hρ b u hb; exact hd.2 c u hc⟩, fun _ => rfl⟩⟩
  have h00 : bs[0]? = some 0 := by rw [← List.head?_eq_getElem?]; exact h0
  refine ⟨ρ', (gatT_len _ _ _ _).trans g.len, fun i hi => ?_, fun i => ?_, fun i b hb => ?_, fun i j u u' r hi hj e1 e2 => ?_, fun i u r hi => ?_, g.bel, g.glob.up K, (fun q hq => (hρi 0 0 h00).trans (g.pin q hq)), g.size, g.defs⟩
  · rw [hsl]
    by_cases hl : live.contains i = true
    · rw [if_pos hl]
      refine RT.ren K (fun b hb => hρm b ?_) (g.t i hi)
      have := h2 i (by simpa using hl)
      rw [List.all_eq_true] at this
      simpa using this b hb
    · rw [if_neg hl]; trivial
  · rw [hbk]
    cases hx : bs[i]? with
    | none => show ρ' i = none; simp only [ρ']; rw [hx]; rfl
    | some b =>
      have hB := g.b b
      have e := hρi i b hx
      show RB base (Dt S base ρ') ρ' w i (s.bk b)
      cases hk : s.bk b with
      | none => rw [hk] at hB; exact e.trans hB
      | some x =>
        rw [hk] at hB
        cases x with
        | var l => obtain ⟨r, cs, t, k1, k2, k3, k4⟩ := hB; exact ⟨r, cs, t, e.trans k1, k2, k3, k4.up K⟩
        | sl et sz n l => obtain ⟨u, cs, k1, k2, k3⟩ := hB; exact ⟨u, cs, e.trans k1, k2, k3.up K⟩
        | obj p => obtain ⟨r, cs, t, k1, k2, k3, k4⟩ := hB; exact ⟨r, cs, t, e.trans k1, k2, k3, k4⟩
  · rw [hsl] at hb
    by_cases hl : live.contains i = true
    · rw [if_pos hl, renT_refs] at hb
      obtain ⟨c, hc, rfl⟩ := List.mem_map.1 hb
      have := h2 i (by simpa using hl)
      rw [List.all_eq_true] at this
      have hm : c ∈ bs := by simpa using this c hc
      rw [hbk, List.getElem?_eq_getElem (List.idxOf_lt_length_of_mem hm), List.getElem_idxOf]
      exact g.dang i c hc
    · rw [if_neg hl] at hb; simp [T.refs] at hb
  · obtain ⟨b, hb1, hb2⟩ := hρ i u hi
    obtain ⟨c, hc1, hc2⟩ := hρ j u' hj
    have := g.inj b c u u' r hb2 hc2 e1 e2
    subst this
    obtain ⟨l1, e3⟩ := List.getElem?_eq_some_iff.1 hb1
    obtain ⟨l2, e4⟩ := List.getElem?_eq_some_iff.1 hc1
    exact nodup_inj hnd (e3.trans e4.symm)
  · obtain ⟨b, hb1, hb2⟩ := hρ i u hi
    exact g.low b u r hb2⟩
/-- a loop of N rounds at most, by states for which others may be taken -/
structure RoundE (N : Nat) (f : Nat → St) (j : Nat) (s' : St) : Prop where
  out : ∃ s'', Ent s' s'' ∧ (∃ i, i ≤ N ∧ s'' = f i) ∧ N - lastOf N f s'' < N - lastOf N f (f j)
theorem LastR.ent {N : Nat} {f : Nat → St} {j : Nat} {s' s'' : St} (h : LastR N f j) (hj : j < N) (he : Ent s' s'') (e : s'' = f (j + 1)) : RoundE N f j s' := by
  obtain ⟨h1, h2⟩ := h.next hj e
  exact ⟨s'', he, h1, h2⟩
theorem LastR.go {N : Nat} {f : Nat → St} {j : Nat} {s' : St} (h : LastR N f j) (hj : j < N) (live bs : List Nat) (e : gather live bs s' = f (j + 1)) (ok : gatOK live bs s' = true := by exact rfl) : RoundE N f j s' := h.ent hj (.gather ok) e
theorem loop_forE {body : St → (Exit → St → Prop) → Prop} {s s1 : St} {k : Exit → St → Prop} (N : Nat) (f : Nat → St) (he : Ent s s1) (h2 : s1 = f 0)
    (h3 : ∀ j, j ≤ N → LastR N f j → body (f j) fun e s' => match e with | .normal => RoundE N f j s' | e => k e s') : LoopA body s k ∨ LoopI body s k := by
  refine .inr ⟨s1, fun s => ∃ j, j ≤ N ∧ s = f j, fun s => N - lastOf N f s, he, ⟨0, Nat.zero_le _, h2⟩, ?_⟩
  intro s hs
  obtain ⟨a1, a2, a3⟩ := lastOf_spec hs
  generalize hj : lastOf N f s = j at *
  subst a2
  have h4 := h3 j a1 ⟨a1, a3⟩
  refine Eq.mp (congrArg (body (f j)) (funext fun e => funext fun s' => ?_)) h4
  cases e <;> simp only []
  exact propext ⟨fun h => ⟨h.out⟩, fun h => ⟨h.out⟩⟩
/-- the same, its first state told shorter -/
theorem loop_forG {body : St → (Exit → St → Prop) → Prop} {s : St} {k : Exit → St → Prop} (live bs : List Nat) (N : Nat) (f : Nat → St)
    (h3 : ∀ j, j ≤ N → LastR N f j → body (f j) fun e s' => match e with | .normal => RoundE N f j s' | e => k e s')
    (ok : gatOK live bs s = true := by exact rfl) (h2 : gather live bs s = f 0 := by exact rfl) : LoopA body s k ∨ LoopI body s k := loop_forE N f (.gather ok) h2 h3
/-- the same, where a slice that is nil may grow -/
theorem loop_forN {body : St → (Exit → St → Prop) → Prop} {s : St} {k : Exit → St → Prop} (live bs : List Nat) (i : Nat) (e : TypeId) (sz : Nat) (l : List Seg) (N : Nat) (f : Nat → St)
    (h3 : ∀ j, j ≤ N → LastR N f j → body (f j) fun e s' => match e with | .normal => RoundE N f j s' | e => k e s')
    (hn : s.sl i = .d (.v (.slice none 0 0)) := by exact rfl) (hl : l.all segNil = true := by exact rfl)
    (ok : gatOK live bs (ownNil s i e sz l) = true := by exact rfl) (h2 : gather live bs (ownNil s i e sz l) = f 0 := by exact rfl) : LoopA body s k ∨ LoopI body s k := loop_forE N f ((Ent.nil hn hl).trans (.gather ok)) h2 h3
end Go.Proofs.YtpemaphgmfaioaaGreat

/-
  The machine without memory: reckoned as far as it goes, numbers that are in range told without their wrapping. No program is named here.
-/
namespace Go.Proofs.YtpemaphgmfaioaaGreat
set_option maxRecDepth 100000
open Go.RowKit
set_option linter.unusedVariables false
set_option linter.unusedSimpArgs false
theorem agow {p q : Prop} (left : q) (h : (Left q → p) ∧ Isq q := by
    refine And.intro ?_ ?_
    · intro left_is
      (conv => whnf); repeat ((first | (refine And.intro ?_ ?_; focus (first | exact rfl | exact Nat.le_of_ble_eq_true rfl | exact Or.inr rfl | exact Or.inl rfl | (intro hx; cases hx <;> fail) | (intro _; rfl) | exact ⟨_, rfl, rfl⟩ | omega | (simp only [Seg.n, segN, tiByte, tiPtr, tiInt, tiBool, tiSl, tiArr, tiStruct]; omega) | (refine leLe ?_; (try simp only [Seg.n, segN, tiByte, tiPtr, tiInt, tiBool, tiSl, tiArr, tiStruct]); omega) | assumption | decide | (simp [Seg.n, segN, tiByte, tiPtr, tiInt, tiBool, tiSl, tiArr, tiStruct, *] <;> omega))) | (refine ⟨_, And.intro rfl ?_⟩) | (refine StopC.mk ?_; first | (refine condK_is ?_ ?_; focus (first | rfl | assumption | (simp only [bne, Bool.true_beq, Bool.false_beq, beq_true, beq_false, Bool.not_true, Bool.not_false, Bool.true_and, Bool.and_true, Bool.false_and, Bool.and_false, Bool.true_or, Bool.or_true, Bool.false_or, Bool.or_false, beq_iff_eq, beq_eq_false_iff_ne, ne_eq, Bool.not_eq_true', Bool.not_eq_false', decide_eq_true_eq, decide_eq_false_iff_not, ge_iff_le, gt_iff_lt, *] <;> omega) | (simp [eqSegs, *] <;> omega))) | (refine condK_isnt ?_ ?_; focus (first | rfl | assumption | (simp only [bne, Bool.true_beq, Bool.false_beq, beq_true, beq_false, Bool.not_true, Bool.not_false, Bool.true_and, Bool.and_true, Bool.false_and, Bool.and_false, Bool.true_or, Bool.or_true, Bool.false_or, Bool.or_false, beq_iff_eq, beq_eq_false_iff_ne, ne_eq, Bool.not_eq_true', Bool.not_eq_false', decide_eq_true_eq, decide_eq_false_iff_not, ge_iff_le, gt_iff_lt, *] <;> omega) | (simp [eqSegs, *] <;> omega)))) | ((first | refine toA ?_ | refine toE ?_ | refine toD ?_); (try (conv => arg 2; simp (disch := omega) only [wrapS, Int.toNat_natCast, Seg.n, wn1, wn2, wn3, wn4, wn5, wn6, wn7, wn8, wn9, wn10, wn11, wn12, wn13, wn14, wn15, wn16, Int.reduceAdd, Int.zero_add, Seg.cell, Seg.sub, List.set_nil, isAlloc, trimH, List.take_append_drop, St.app, St.app2, St.ev, List.getD_cons_zero, List.getD_cons_succ, List.getD_nil, St.sl, St.bk, tiInt, tiBool, tiSl, tiArr, tiStruct, weaken, keepT, List.set_cons_zero, List.set_cons_succ, List.length_cons, List.length_nil, List.cons_append, List.nil_append, List.append_nil, List.map_cons, List.map_nil, List.replicate_succ, List.replicate_zero, List.take_succ_cons, List.take_zero, List.drop_succ_cons, List.drop_zero, List.take_nil, List.drop_nil, Nat.reduceAdd, Nat.reduceSub, Nat.reduceMul, Nat.reduceEqDiff, Nat.reduceLT, Nat.reduceLeDiff, Nat.zero_add, Nat.add_zero, Nat.sub_self, Nat.sub_zero, Nat.one_mul, Nat.mul_one, Nat.zero_mul, joinS, manyS, List.flatten_cons, List.flatten_nil, eq_self, ite_true, if_true, if_false, ↓reduceIte, reduceCtorEq, Int.reduceToNat, cntAlloc, opRefs])); first | (refine ofA ?_; (conv => arg 3; whnf); first | refine regA_cons ?_ | refine regA_nil ?_) | (refine ofD ?_; (conv => arg 5; whnf); first | refine regD_cons ?_ | refine regD_nil ?_) | (refine ofE ?_; (conv => arg 2; whnf); (refine regDr_intro _ rfl ?_ ?_); focus (kernel_rfl)))); (conv => whnf))
      all_goals exact left_is.out
    · first | with_reducible exact isqT | exact isqA) : p := h.1 ⟨left⟩
/-- a function's contract is begun, where a block is lent to it further back -/
theorem fnMB {E : EnvX} {f : FuncId} {fn : Func} {c : Code} {pos : Nat} {x x' : Bk} {args : List A} {res : Res} {n : Nat} {t : List T} (hf : E.P.funcs[f]? = some fn) (hnt : fn.ntmps = n)
    (left : wpA E c ⟨t, [some x]⟩ fun e s => (e = .normal ∨ e = .ret) ∧ s.bk 0 = some x' ∧ resK' E s fn.results.toList fun r => r = res) (hb : fn.body = some c := by exact rfl) (hn : args.length + 1 ≤ n := by exact Nat.le_of_ble_eq_true rfl) (hp : pos ≤ args.length := by exact Nat.le_of_ble_eq_true rfl)
    (hx : ∀ e sz n l, x ≠ .sl e sz n l := by intro _ _ _ _ h; cases h) (hres : ∀ y, res ≠ .p y := by intro y h; cases h)
    (ht : (args.map T.d).insertIdx pos (.ptr 0 0) ++ List.replicate (n - (args.length + 1)) (.d (.v undef)) = t := by (conv => lhs; simp only [List.insertIdx_succ_cons, List.insertIdx_zero, Seg.n, wn1, wn2, wn3, wn4, wn5, wn6, wn7, wn8, wn9, wn10, wn11, wn12, wn13, wn14, wn15, wn16, Int.reduceAdd, Int.zero_add, Seg.cell, Seg.sub, List.set_nil, isAlloc, trimH, List.take_append_drop, St.app, St.app2, St.ev, List.getD_cons_zero, List.getD_cons_succ, List.getD_nil, St.sl, St.bk, tiInt, tiBool, tiSl, tiArr, tiStruct, weaken, keepT, List.set_cons_zero, List.set_cons_succ, List.length_cons, List.length_nil, List.cons_append, List.nil_append, List.append_nil, List.map_cons, List.map_nil, List.replicate_succ, List.replicate_zero, List.take_succ_cons, List.take_zero, List.drop_succ_cons, List.drop_zero, List.take_nil, List.drop_nil, Nat.reduceAdd, Nat.reduceSub, Nat.reduceMul, Nat.reduceEqDiff, Nat.reduceLT, Nat.reduceLeDiff, Nat.zero_add, Nat.add_zero, Nat.sub_self, Nat.sub_zero, Nat.one_mul, Nat.mul_one, Nat.zero_mul, joinS, manyS, List.flatten_cons, List.flatten_nil, eq_self, ite_true, if_true, if_false, ↓reduceIte, reduceCtorEq, Int.reduceToNat]); all_goals exact rfl) : FnM E.P E.G f pos x args res x' := by
  subst hnt; subst ht; exact fnM_of_wpA hf hb hn hp hx left hres
end Go.Proofs.YtpemaphgmfaioaaGreat
