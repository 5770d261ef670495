/-
  Books: lines copied; a crash.
-/
import Derived.Test.YtcfdlffjghlghaaB7
import Derived.WalkSpells
namespace Go.Proofs.Ytcfdlffjghlghaa
set_option maxRecDepth 100000
open Go.RowKit
set_option linter.unusedVariables false
set_option linter.unusedSimpArgs false

theorem cloneNil_walk (w : World) (m c : Nat) : Calls Try.prog 28 #[.slice none m c] w fun x w' => x = .returned (.slice none 0 0) ∧ w' = w := by
  have qT : ∀ (w : World) (a : Option Addr) (n c : Nat), (binOp .eql 57 (.slice a n c) (.slice none 0 0)).run Try.prog w = .ok (.bool a.isNone) w := fun w a n c => Lib.run_eql_slice_nil w _ _ a n c 0 0 Try.underlying57
  go_enter Try.func28, Try.ntmps28
  go_wp2
  go_ret
  exact ⟨rfl, rfl⟩
theorem wpList_run {P : Program} {ops : Array Oper} {rest : List Oper} {o : Oper} {a : Act} {w w2 : World} {v : Value} {Q : Exit → Act → World → Prop} (hg : o.guard = none) (hr : (execOp a.eval o).run P w = .ok (.value v) w2) (h : wpList P ops Q rest (a.put o.dst v) w2) : wpList P ops Q (o :: rest) a w :=
  wpList_plain hg fun _ hK => by unfold Oper.wp; rw [hr]; exact hK _ _ h
theorem lnC_take (L : List Ln) (h : ∀ x ∈ L, x.2.length = 32) (m : Nat) : (lnC L).take (m * 33) = lnC (L.take m) := by
  induction L generalizing m with
  | nil => simp [lnC]
  | cons x L ih =>
    cases m with
    | zero => simp [lnC]
    | succ m =>
      have hl : (Value.int .i64 x.1 :: HL x.2).length = 33 := by simp [HL_length, h x (by simp)]
      have e : lnC (x :: L) = (Value.int .i64 x.1 :: HL x.2) ++ lnC L := rfl
      have e2 : lnC ((x :: L).take (m + 1)) = (Value.int .i64 x.1 :: HL x.2) ++ lnC (L.take m) := rfl
      rw [e, e2, List.take_append, hl, show (m + 1) * 33 - 33 = m * 33 by omega, ih (fun y hy => h y (by simp [hy])), List.take_of_length_le (by rw [hl]; omega)]
theorem lnC_one (L : List Ln) : ∀ u ∈ lnC L, u.oneCell' = true := by
  intro u hu
  obtain ⟨x, _, hx⟩ := List.mem_flatMap.1 hu
  rcases List.mem_cons.1 hx with rfl | hx
  · rfl
  · exact HL_one _ u hx
/-- lines laid behind nothing, in a new row -/
theorem append_copy (w : World) {q c n : Nat} {cur : Array Value} {L : List Ln} (hq : w.heap[q]? = some (.cells cur 65 (0, 0))) (m : Nat) (hm : m ≤ L.length) (hL : L.length ≤ 1000) (hl : ∀ x ∈ L, x.2.length = 32) (hcur : cur.toList.take (L.length * 33) = lnC L) {g : Nat} (hg : w.heap[g]? = some (.cells #[] 65 (0, 0))) (ty : TypeId) :
    ∃ v' w', (Builtin.append_ #[57, 57] ty #[.slice (some ⟨g, 0, none⟩) 0 0, .slice (some ⟨q, 0, none⟩) m c]).run Try.prog w = .ok v' w' ∧ w'.ownsRow 0 65 33 v' m (lnC (L.take m)) ∧ w.grownBy w' (some g) ∧ (v'.ownBlock = some g ∨ v'.ownBlock = some w.heap.size) := by
  obtain ⟨i, hY, ha, he, hpl, hz, hsz, hby⟩ := line_ty
  obtain ⟨f, z, h1, h2, h2b, h3, h4⟩ := (env0.hY _ i hY).info
  have hfs : f.size = 33 := h2.trans hsz
  rw [hz] at h4
  have hzr := zeroB_spec (S := fun _ => True) (w := w) h4
  have hzl : z.cells.size = 33 := by have := hzr.len; simpa [segN, Seg.n] using this
  have hnl := lnC_length (L.take m) fun x hx => hl x (List.mem_of_mem_take hx)
  rw [List.length_take, Nat.min_eq_left hm] at hnl
  obtain ⟨v', w', k1, k2, k3, _, k5⟩ := run_append_own_at (P := Try.prog) w 0 57 ty 65 f z 33 40 Try.underlying57 h1 h3 hfs (h2b.trans hby) hzl (by decide) (.slice (some ⟨g, 0, none⟩) 0 0) 0 [] ⟨by simp, .inr ⟨g, 0, #[], rfl, Nat.zero_le _, hg, Nat.le_refl _, Nat.zero_le _, by simp, by simp⟩⟩ ⟨q, 0, none⟩ m c (lnC (L.take m)) hnl (fun j u hu => by
      have hj : j < m * 33 := by rw [← hnl]; exact (List.getElem?_eq_some_iff.1 hu).1
      rw [add_at, Nat.zero_add, cell_of_row w q j cur _ (0, 0) hq, ← Array.getElem?_toList]
      rw [← lnC_take L hl m, ← hcur, List.getElem?_take, if_pos hj, List.getElem?_take, if_pos (by have := Nat.mul_le_mul_right 33 hm; omega)] at hu
      exact hu) (lnC_one _) (by unfold maxLen; omega) (by omega) (Nat.zero_le _)
  rw [Nat.zero_add, List.nil_append] at k2
  exact ⟨v', w', k1, k2, k3, k5⟩
set_option maxRecDepth 100000 in
theorem clone_walk (w : World) (q m c : Nat) {cur : Array Value} {L : List Ln} (hq : w.heap[q]? = some (.cells cur 65 (0, 0))) (hm : m ≤ L.length) (hL : L.length ≤ 1000) (hl : ∀ x ∈ L, x.2.length = 32) (hcur : cur.toList.take (L.length * 33) = lnC L) :
    Calls Try.prog 28 #[.slice (some ⟨q, 0, none⟩) m c] w fun x w' => ∃ v', x = .returned v' ∧ w'.ownsRow 0 65 33 v' m (lnC (L.take m)) ∧ Below w.heap.size w w' ∧ ∀ z, v'.ownBlock = some z → w.heap.size ≤ z := by
  have qT : ∀ (w : World) (a : Option Addr) (n c : Nat), (binOp .eql 57 (.slice a n c) (.slice none 0 0)).run Try.prog w = .ok (.bool a.isNone) w := fun w a n c => Lib.run_eql_slice_nil w _ _ a n c 0 0 Try.underlying57
  have hq2 : (w.alloc (.cells #[] 65)).heap[q]? = some (.cells cur 65 (0, 0)) := (Below.heap_alloc _ _ _ (Array.getElem?_eq_some_iff.1 hq).1).trans hq
  obtain ⟨v', wn, k1, k2, k3, k4⟩ := append_copy (w.alloc (.cells #[] 65)) (c := c) (n := m) hq2 m hm hL hl hcur (heap_alloc_new w _) 57
  have hb : Below w.heap.size w wn := ((Below.refl _ _).alloc (Nat.le_refl _) _).grown k3 (by rw [size_alloc]; omega) (by intro k e; cases e; exact Nat.le_refl _)
  have hz : ∀ z, v'.ownBlock = some z → w.heap.size ≤ z := fun z e => by
    rcases k4 with k4 | k4 <;> rw [k4] at e <;> cases e
    · exact Nat.le_refl _
    · rw [size_alloc]; omega
  have K1 := Lib.hid k1; have K2 := Lib.hid k2; have HB := Lib.hid hb; have HZ := Lib.hid hz
  clear k1 k2 k3 k4 hb hz hq hq2 hm hL hl hcur
  go_enter Try.func28, Try.ntmps28
  go_wp2_with (at_builtin
               refine wpList_run (v := v') (w2 := wn) rfl (by simp [execOp, Act.eval, resolve, invoke, builtin, K1.out, Sem.run_bind]) ?_)
  go_ret
  exact ⟨_, rfl, K2.out, HB.out, HZ.out⟩
end Go.Proofs.Ytcfdlffjghlghaa
