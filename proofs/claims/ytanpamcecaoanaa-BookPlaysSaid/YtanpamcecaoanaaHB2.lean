/-
  Books: lines copied; a crash.
-/
import Derived.Test.YtanpamcecaoanaaHB1
import Derived.WalkSpells
namespace Go.Proofs.Ytanpamcecaoanaa
set_option maxRecDepth 100000
open Go.RowKit
set_option linter.unusedVariables false
set_option linter.unusedSimpArgs false

theorem cloneNil_walk (w : World) (m c : Nat) : Calls Try.prog 17 #[.slice none m c] w fun x w' => x = .returned (.slice none 0 0) ∧ w' = w := by
  have qT : ∀ (w : World) (a : Option Addr) (n c : Nat), (binOp .eql 48 (.slice a n c) (.slice none 0 0)).run Try.prog w = .ok (.bool a.isNone) w := fun w a n c => Lib.run_eql_slice_nil w _ _ a n c 0 0 Try.underlying48
  go_enter Try.func17, Try.ntmps17
  go_wp2
  go_ret
  exact ⟨rfl, rfl⟩
theorem wpList_run {P : Program} {ops : Array Oper} {rest : List Oper} {o : Oper} {a : Act} {w w2 : World} {v : Value} {Q : Exit → Act → World → Prop} (hg : o.guard = none) (hr : (execOp a.eval o).run P w = .ok (.value v) w2) (h : wpList P ops Q rest (a.put o.dst v) w2) : wpList P ops Q (o :: rest) a w :=
  wpList_plain hg fun _ hK => by unfold Oper.wp; rw [hr]; exact hK _ _ h
theorem lnC_take (L : List Ln) (h : ∀ x ∈ L, x.2.length = 32) (m : Nat) : (lnC L).take (m * 33) = lnC (L.take m) := by
  induction L generalizing m with
  | nil => simp [lnC]
  | cons x L ih =>
    cases m with
    | zero => simp [lnC]
    | succ m =>
      have hl : (Value.int .i64 x.1 :: HL x.2).length = 33 := by simp [HL_length, h x (by simp)]
      have e : lnC (x :: L) = (Value.int .i64 x.1 :: HL x.2) ++ lnC L := rfl
      have e2 : lnC ((x :: L).take (m + 1)) = (Value.int .i64 x.1 :: HL x.2) ++ lnC (L.take m) := rfl
      rw [e, e2, List.take_append, hl, show (m + 1) * 33 - 33 = m * 33 by omega, ih (fun y hy => h y (by simp [hy])), List.take_of_length_le (by rw [hl]; omega)]
theorem lnC_one (L : List Ln) : ∀ u ∈ lnC L, u.oneCell' = true := by
  intro u hu
  obtain ⟨x, _, hx⟩ := List.mem_flatMap.1 hu
  rcases List.mem_cons.1 hx with rfl | hx
  · rfl
  · exact HL_one _ u hx
/-- lines laid behind nothing, in a new row -/
theorem append_copy (w : World) {q c n : Nat} {cur : Array Value} {L : List Ln} (hq : w.heap[q]? = some (.cells cur 58 (0, 0))) (m : Nat) (hm : m ≤ L.length) (hL : L.length ≤ 1000) (hl : ∀ x ∈ L, x.2.length = 32) (hcur : cur.toList.take (L.length * 33) = lnC L) {g : Nat} (hg : w.heap[g]? = some (.cells #[] 58 (0, 0))) (ty : TypeId) :
    ∃ v' w', (Builtin.append_ #[48, 48] ty #[.slice (some ⟨g, 0, none⟩) 0 0, .slice (some ⟨q, 0, none⟩) m c]).run Try.prog w = .ok v' w' ∧ w'.ownsRow 0 58 33 v' m (lnC (L.take m)) ∧ w.grownBy w' (some g) ∧ (v'.ownBlock = some g ∨ v'.ownBlock = some w.heap.size) := by
  obtain ⟨i, hY, ha, he, hpl, hz, hsz, hby⟩ := line_ty
  obtain ⟨f, z, h1, h2, h2b, h3, h4⟩ := (env0.hY _ i hY).info
  have hfs : f.size = 33 := h2.trans hsz
  rw [hz] at h4
  have hzr := zeroB_spec (S := fun _ => True) (w := w) h4
  have hzl : z.cells.size = 33 := by have := hzr.len; simpa [segN, Seg.n] using this
  have hnl := lnC_length (L.take m) fun x hx => hl x (List.mem_of_mem_take hx)
  rw [List.length_take, Nat.min_eq_left hm] at hnl
  obtain ⟨v', w', k1, k2, k3, _, k5⟩ := run_append_own_at (P := Try.prog) w 0 48 ty 58 f z 33 40 Try.underlying48 h1 h3 hfs (h2b.trans hby) hzl (by decide) (.slice (some ⟨g, 0, none⟩) 0 0) 0 [] ⟨by simp, .inr ⟨g, 0, #[], rfl, Nat.zero_le _, hg, Nat.le_refl _, Nat.zero_le _, by simp, by simp⟩⟩ ⟨q, 0, none⟩ m c (lnC (L.take m)) hnl (fun j u hu => by
      have hj : j < m * 33 := by rw [← hnl]; exact (List.getElem?_eq_some_iff.1 hu).1
      rw [add_at, Nat.zero_add, cell_of_row w q j cur _ (0, 0) hq, ← Array.getElem?_toList]
      rw [← lnC_take L hl m, ← hcur, List.getElem?_take, if_pos hj, List.getElem?_take, if_pos (by have := Nat.mul_le_mul_right 33 hm; omega)] at hu
      exact hu) (lnC_one _) (by unfold maxLen; omega) (by omega) (Nat.zero_le _)
  rw [Nat.zero_add, List.nil_append] at k2
  exact ⟨v', w', k1, k2, k3, k5⟩
set_option maxRecDepth 100000 in
theorem clone_walk (w : World) (q m c : Nat) {cur : Array Value} {L : List Ln} (hq : w.heap[q]? = some (.cells cur 58 (0, 0))) (hm : m ≤ L.length) (hL : L.length ≤ 1000) (hl : ∀ x ∈ L, x.2.length = 32) (hcur : cur.toList.take (L.length * 33) = lnC L) :
    Calls Try.prog 17 #[.slice (some ⟨q, 0, none⟩) m c] w fun x w' => ∃ v', x = .returned v' ∧ w'.ownsRow 0 58 33 v' m (lnC (L.take m)) ∧ Below w.heap.size w w' ∧ ∀ z, v'.ownBlock = some z → w.heap.size ≤ z := by
  have qT : ∀ (w : World) (a : Option Addr) (n c : Nat), (binOp .eql 48 (.slice a n c) (.slice none 0 0)).run Try.prog w = .ok (.bool a.isNone) w := fun w a n c => Lib.run_eql_slice_nil w _ _ a n c 0 0 Try.underlying48
  have hq2 : (w.alloc (.cells #[] 58)).heap[q]? = some (.cells cur 58 (0, 0)) := (Below.heap_alloc _ _ _ (Array.getElem?_eq_some_iff.1 hq).1).trans hq
  obtain ⟨v', wn, k1, k2, k3, k4⟩ := append_copy (w.alloc (.cells #[] 58)) (c := c) (n := m) hq2 m hm hL hl hcur (heap_alloc_new w _) 48
  have hb : Below w.heap.size w wn := ((Below.refl _ _).alloc (Nat.le_refl _) _).grown k3 (by rw [size_alloc]; omega) (by intro k e; cases e; exact Nat.le_refl _)
  have hz : ∀ z, v'.ownBlock = some z → w.heap.size ≤ z := fun z e => by
    rcases k4 with k4 | k4 <;> rw [k4] at e <;> cases e
    · exact Nat.le_refl _
    · rw [size_alloc]; omega
  have K1 := Lib.hid k1; have K2 := Lib.hid k2; have HB := Lib.hid hb; have HZ := Lib.hid hz
  clear k1 k2 k3 k4 hb hz hq hq2 hm hL hl hcur
  go_enter Try.func17, Try.ntmps17
  go_wp2_with (at_builtin
               refine wpList_run (v := v') (w2 := wn) rfl (by simp [execOp, Act.eval, resolve, invoke, builtin, K1.out, Sem.run_bind]) ?_)
  go_ret
  exact ⟨_, rfl, K2.out, HB.out, HZ.out⟩
end Go.Proofs.Ytanpamcecaoanaa

/-
  Books: what is left behind a crash.
-/
namespace Go.Proofs.Ytanpamcecaoanaa
set_option maxRecDepth 100000
open Go.RowKit
set_option linter.unusedVariables false
set_option linter.unusedSimpArgs false

/-- how many lines are left -/
def leftN (n s : Nat) (keep : Int) : Nat := s + min keep.toNat (n - s)
theorem leftN_le {n s : Nat} (h : s ≤ n) (keep : Int) : leftN n s keep ≤ n := by unfold leftN; omega
/-- what the region comes to that reckons it -/
def cstC (r : Nat) (V : Value) (n s : Nat) (keep : Int) : Nat → Option Value
  | 0 => some (.pointer (some ⟨r, 0, none⟩))
  | 1 => some (.pointer (some ⟨r, 0, none⟩))
  | 2 => some (.pointer (some ⟨r, 3, none⟩))
  | 3 => some (.int .i64 s)
  | 4 => some (.int .i64 keep)
  | 5 => some (.int .i64 (max keep 0))
  | 6 => some (.pointer (some ⟨r, 0, none⟩))
  | 7 => some (.pointer (some ⟨r, 0, none⟩))
  | 8 => some (.pointer (some ⟨r, 2, none⟩))
  | 9 => some V
  | 10 => some (.int .i64 n)
  | 11 => some (.pointer (some ⟨r, 0, none⟩))
  | 12 => some (.pointer (some ⟨r, 0, none⟩))
  | 13 => some (.pointer (some ⟨r, 3, none⟩))
  | 14 => some (.int .i64 s)
  | 15 => some (.int .i64 ((n : Int) - s))
  | 16 => some (.int .i64 (min (max keep 0) ((n : Int) - s)))
  | 17 => some (.int .i64 (leftN n s keep))
  | 18 => some (.int .i64 (leftN n s keep))
  | _ => none
structure JC (w0 : World) (r : Nat) (V : Value) (n s : Nat) (keep : Int) (S : Nat → Bool) (vals : Nat → Value) (w : World) : Prop where
  w : w = w0
  val : ∀ k x, S k = true → cstC r V n s keep k = some x → vals k = x
theorem JC.pure {w0 : World} {r : Nat} {V : Value} {n s : Nat} {keep : Int} {S : Nat → Bool} {vals : Nat → Value} {w : World} (h : JC w0 r V n s keep S vals w) {i : Nat} {x : Value} (hc : cstC r V n s keep i = some x) : JC w0 r V n s keep (add1 S i) (fun j => if j = i then x else vals j) w := by
  refine ⟨h.w, fun k y hk hy => ?_⟩
  by_cases e1 : k = i
  · subst e1; rw [hc] at hy; cases hy; exact if_pos rfl
  · rw [add1_other S e1] at hk; show (if k = i then x else vals k) = y; rw [if_neg e1]; exact h.val k y hk hy
theorem left_int {n s : Nat} (h : s ≤ n) (keep : Int) : (s : Int) + min (max keep 0) ((n : Int) - s) = (leftN n s keep : Nat) := by unfold leftN; omega
/-- a book put together -/
theorem built_book {v : Value} (hv : v.oneCell' = true) (z : Int) : Try.prog.built 54 [(1, v), (2, .int .i64 z)] = some (BC 0 v z 0) := by
  obtain ⟨i, hY, ha, he, hpl, hz⟩ : ∃ i, env0.Y 54 = some i ∧ i.agg = true ∧ i.esz = 0 ∧ i.plc = [(0, 2), (2, 1), (3, 1), (4, 1)] ∧ i.zero = [.ints .i32 1 [0], .ints .u32 1 [0], .gen 1 [.v (.slice none 0 0)], .ints .i64 2 [0, 0]] := ⟨_, rfl, rfl, rfl, rfl, rfl⟩
  obtain ⟨f, z0, h1, h2, _, h3, h4⟩ := (env0.hY _ i hY).info
  obtain ⟨fs, k1, k2⟩ := (env0.hY _ i hY).plc ha he
  rw [hz] at h4
  obtain ⟨l', rfl, hf⟩ := fillA_spec (off := fun q => i.plc[q]?) (s := ⟨[.d (.v v), .d (.v (.int .i64 z))], []⟩) (parts := [(1, .tmp 0), (2, .tmp 1)]) (l := [.ints .i32 1 [0], .ints .u32 1 [0], .gen 1 [.v (.slice none 0 0)], .ints .i64 2 [0, 0]]) (K := fun l => l = [.ints .i32 1 [0], .ints .u32 1 [0], .gen 1 [.v v], .ints .i64 2 [z, 0]]) (by rw [hpl]; exact ⟨by decide, rfl, hv, by decide, rfl, rfl, rfl⟩)
  obtain ⟨cs', h5, h6⟩ := hf (D := fun _ => True) (w := default) (ρ := fun _ => none) (fun x => match x with | .tmp 0 => v | _ => .int .i64 z) z0.cells (fun q hq => by
    rcases List.mem_cons.1 hq with rfl | hq
    · exact .v _
    · rcases List.mem_cons.1 hq with rfl | hq
      · exact .v _
      · cases hq) (zeroB_spec h4)
  have h9 : cs' = BC 0 v z 0 := by
    obtain ⟨c1, d1, e1, g1, r1, _⟩ := h6.head
    obtain ⟨c2, d2, e2, g2, r2, _⟩ := r1.head
    obtain ⟨c3, d3, e3, g3, r3, _⟩ := r2.head
    obtain ⟨_, rfl⟩ := g1.toInts
    obtain ⟨_, rfl⟩ := g2.toInts
    obtain ⟨_, g3⟩ := g3.toGen
    obtain ⟨_, rfl⟩ := r3.toInts
    cases g3 with
    | cons g4 _ g5 =>
      cases g5; cases g4
      apply Array.toList_inj.1
      rw [e1, e2, e3]; rfl
  subst h9
  have h1' : Try.prog.info? 54 = some f := h1
  have k1' : Try.prog.underlying 54 = some (.struct fs) := k1
  have k2' : fs.toList.mapM (fun f => (Try.prog.info? f.type).map fun j => (f.offset, j.size)) = some i.plc := k2
  unfold Program.built
  simp only [h1', k1', h3, k2']
  have e9 : (fun x : Nat => i.plc.toArray[x]?) = fun q : Nat => i.plc[q]? := by funext q; simp
  rw [e9]
  exact h5
set_option maxRecDepth 100000 in
set_option maxHeartbeats 1000000 in
theorem crash_walk (w : World) (r : Nat) (t : TypeId) (v : Value) (L : List Ln) (s : Nat) (f keep : Int) (hs : s ≤ L.length) (hL : L.length ≤ 1000) (hk : -9223372036854775808 ≤ keep ∧ keep ≤ 9223372036854775807) (h : BookW w r t v L s f) :
    Calls Try.prog 9 #[.pointer (some ⟨r, 0, none⟩), .int .i64 keep] w fun x w' => ∃ g v', x = .returned (.pointer (some ⟨g, 0, none⟩)) ∧ Blk w' r (BC 0 v s f) t ∧ BookW w' g 54 v' (L.take (leftN L.length s keep)) (leftN L.length s keep : Nat) 0 ∧ w.heap.size ≤ g ∧ (∀ z, v'.ownBlock = some z → w.heap.size ≤ z) ∧ w.grownBy w' (some r) := by
  have hb := h.blk
  obtain ⟨ad, c, rfl⟩ := run_len_any h.own
  have hb1 : Blk (w.setCell ⟨r, 0, none⟩ (.int .i32 1)) r (BC 1 (.slice ad L.length c) s f) t := (hb.set 0 _).copy rfl
  have hg1 : w.grownBy (w.setCell ⟨r, 0, none⟩ (.int .i32 1)) (some r) := grown_setCell (grown_refl w _) 0 _
  have c2 : (w.setCell ⟨r, 0, none⟩ (.int .i32 1)).cell? ⟨r, 2, none⟩ = some (.slice ad L.length c) := hb1.cell 2
  have c3 : (w.setCell ⟨r, 0, none⟩ (.int .i32 1)).cell? ⟨r, 3, none⟩ = some (.int .i64 s) := hb1.cell 3
  have HB := Lib.hid hb; have HB1 := Lib.hid hb1; have HG1 := Lib.hid hg1; have HH := Lib.hid h; have HS := Lib.hid hs; have HL := Lib.hid hL; have HK := Lib.hid hk
  clear hb hb1 hg1 h hs hL hk
  go_enter_defers Try.func9, Try.ntmps9
  go_wp2_with (go_at_call 13; refine (lock_free ⟨r, 0, none⟩ _ (HB.out.cell 0) (HB.out.frozen 0)).mono ?_; rintro e w' ⟨rfl, rfl⟩)
  have hle := leftN_le HS.out keep
  have hw1 : IntKind.i64.wrap ((L.length : Int) - s) = (L.length : Int) - s := wrapS (by have := HS.out; have := HL.out; omega) (by have := HS.out; have := HL.out; omega)
  have hw2 : IntKind.i64.wrap ((s : Int) + min (max keep 0) ((L.length : Int) - s)) = (leftN L.length s keep : Nat) := by rw [left_int HS.out]; exact wrapS (by omega) (by have := HL.out; omega)
  have W1 := Lib.hid hw1; have W2 := Lib.hid hw2; have C2 := Lib.hid c2; have C3 := Lib.hid c3
  clear hw1 hw2 hle c2 c3
  refine region_inv (JC (w.setCell ⟨r, 0, none⟩ (.int .i32 1)).drew r (.slice ad L.length c) L.length s keep) [[], [0], [1], [2], [], [4], [], [6], [7], [8], [9], [], [11], [12], [13], [10, 14], [5, 15], [3, 16], [17]] (by kernel_rfl) (by kernel_rfl) (by kernel_rfl) ⟨rfl, fun k x hk => Bool.noConfusion hk⟩ ?_ ?_
  · refine ⟨?_, ?_, ?_, ?_, ?_, ?_, ?_, ?_, ?_, ?_, ?_, ?_, ?_, ?_, ?_, ?_, ?_, ?_, ?_, trivial⟩
    · intro S vals wj hJ hSi hD hcl
      obtain ⟨rfl, _⟩ := id hJ
      refine opv rfl ?_ (hJ.pure (i := 0) rfl)
      simp [execOp, putAll, Act.put, Act.eval, Instr.fieldAt, go_sem]
    · intro S vals wj hJ hSi hD hcl
      obtain ⟨rfl, _⟩ := id hJ
      have d0 := hJ.val 0 _ (hD 0 (by simp)) rfl
      refine opv rfl ?_ (hJ.pure (i := 1) rfl)
      simp [execOp, putAll, Act.put, Act.eval, Instr.fieldAt, go_sem, d0]
    · intro S vals wj hJ hSi hD hcl
      obtain ⟨rfl, _⟩ := id hJ
      have d1 := hJ.val 1 _ (hD 1 (by simp)) rfl
      refine opv rfl ?_ (hJ.pure (i := 2) rfl)
      simp [execOp, putAll, Act.put, Act.eval, Instr.fieldAt, go_sem, d1]
    · intro S vals wj hJ hSi hD hcl
      obtain ⟨rfl, _⟩ := id hJ
      have d2 := hJ.val 2 _ (hD 2 (by simp)) rfl
      refine opv rfl ?_ (hJ.pure (i := 3) rfl)
      simp [execOp, putAll, Act.put, Act.eval, Instr.fieldAt, go_sem, d2, C3.out]
    · intro S vals wj hJ hSi hD hcl
      obtain ⟨rfl, _⟩ := id hJ
      refine opv rfl ?_ (hJ.pure (i := 4) rfl)
      simp [execOp, putAll, Act.put, Act.eval, Instr.fieldAt, go_sem]
    · intro S vals wj hJ hSi hD hcl
      obtain ⟨rfl, _⟩ := id hJ
      have d4 := hJ.val 4 _ (hD 4 (by simp)) rfl
      refine opv rfl ?_ (hJ.pure (i := 5) rfl)
      simp [execOp, putAll, Act.put, Act.eval, Instr.fieldAt, go_sem, d4, resolve, invoke, builtin]
      omega
    · intro S vals wj hJ hSi hD hcl
      obtain ⟨rfl, _⟩ := id hJ
      refine opv rfl ?_ (hJ.pure (i := 6) rfl)
      simp [execOp, putAll, Act.put, Act.eval, Instr.fieldAt, go_sem]
    · intro S vals wj hJ hSi hD hcl
      obtain ⟨rfl, _⟩ := id hJ
      have d6 := hJ.val 6 _ (hD 6 (by simp)) rfl
      refine opv rfl ?_ (hJ.pure (i := 7) rfl)
      simp [execOp, putAll, Act.put, Act.eval, Instr.fieldAt, go_sem, d6]
    · intro S vals wj hJ hSi hD hcl
      obtain ⟨rfl, _⟩ := id hJ
      have d7 := hJ.val 7 _ (hD 7 (by simp)) rfl
      refine opv rfl ?_ (hJ.pure (i := 8) rfl)
      simp [execOp, putAll, Act.put, Act.eval, Instr.fieldAt, go_sem, d7]
    · intro S vals wj hJ hSi hD hcl
      obtain ⟨rfl, _⟩ := id hJ
      have d8 := hJ.val 8 _ (hD 8 (by simp)) rfl
      refine opv rfl ?_ (hJ.pure (i := 9) rfl)
      simp [execOp, putAll, Act.put, Act.eval, Instr.fieldAt, go_sem, d8, C2.out]
    · intro S vals wj hJ hSi hD hcl
      obtain ⟨rfl, _⟩ := id hJ
      have d9 := hJ.val 9 _ (hD 9 (by simp)) rfl
      refine opv rfl ?_ (hJ.pure (i := 10) rfl)
      simp [execOp, putAll, Act.put, Act.eval, Instr.fieldAt, go_sem, d9, resolve, invoke, builtin]
    · intro S vals wj hJ hSi hD hcl
      obtain ⟨rfl, _⟩ := id hJ
      refine opv rfl ?_ (hJ.pure (i := 11) rfl)
      simp [execOp, putAll, Act.put, Act.eval, Instr.fieldAt, go_sem]
    · intro S vals wj hJ hSi hD hcl
      obtain ⟨rfl, _⟩ := id hJ
      have d11 := hJ.val 11 _ (hD 11 (by simp)) rfl
      refine opv rfl ?_ (hJ.pure (i := 12) rfl)
      simp [execOp, putAll, Act.put, Act.eval, Instr.fieldAt, go_sem, d11]
    · intro S vals wj hJ hSi hD hcl
      obtain ⟨rfl, _⟩ := id hJ
      have d12 := hJ.val 12 _ (hD 12 (by simp)) rfl
      refine opv rfl ?_ (hJ.pure (i := 13) rfl)
      simp [execOp, putAll, Act.put, Act.eval, Instr.fieldAt, go_sem, d12]
    · intro S vals wj hJ hSi hD hcl
      obtain ⟨rfl, _⟩ := id hJ
      have d13 := hJ.val 13 _ (hD 13 (by simp)) rfl
      refine opv rfl ?_ (hJ.pure (i := 14) rfl)
      simp [execOp, putAll, Act.put, Act.eval, Instr.fieldAt, go_sem, d13, C3.out]
    · intro S vals wj hJ hSi hD hcl
      obtain ⟨rfl, _⟩ := id hJ
      have d10 := hJ.val 10 _ (hD 10 (by simp)) rfl
      have d14 := hJ.val 14 _ (hD 14 (by simp)) rfl
      refine opv rfl ?_ (hJ.pure (i := 15) rfl)
      simp [execOp, putAll, Act.put, Act.eval, Instr.fieldAt, go_sem, d10, d14, W1.out]
    · intro S vals wj hJ hSi hD hcl
      obtain ⟨rfl, _⟩ := id hJ
      have d5 := hJ.val 5 _ (hD 5 (by simp)) rfl
      have d15 := hJ.val 15 _ (hD 15 (by simp)) rfl
      refine opv rfl ?_ (hJ.pure (i := 16) rfl)
      simp [execOp, putAll, Act.put, Act.eval, Instr.fieldAt, go_sem, d5, d15, resolve, invoke, builtin]
      omega
    · intro S vals wj hJ hSi hD hcl
      obtain ⟨rfl, _⟩ := id hJ
      have d3 := hJ.val 3 _ (hD 3 (by simp)) rfl
      have d16 := hJ.val 16 _ (hD 16 (by simp)) rfl
      refine opv rfl ?_ (hJ.pure (i := 17) rfl)
      simp [execOp, putAll, Act.put, Act.eval, Instr.fieldAt, go_sem, d3, d16, W2.out]
    · intro S vals wj hJ hSi hD hcl
      obtain ⟨rfl, _⟩ := id hJ
      have d17 := hJ.val 17 _ (hD 17 (by simp)) rfl
      refine opv rfl ?_ (hJ.pure (i := 18) rfl)
      simp [execOp, putAll, Act.put, Act.eval, Instr.fieldAt, go_sem, d17]
  · intro vals wz hJ
    obtain ⟨rfl, _⟩ := id hJ
    have e0 := hJ.val 0 _ rfl rfl
    have e1 := hJ.val 1 _ rfl rfl
    have e2 := hJ.val 2 _ rfl rfl
    have e3 := hJ.val 3 _ rfl rfl
    have e4 := hJ.val 4 _ rfl rfl
    have e5 := hJ.val 5 _ rfl rfl
    have e6 := hJ.val 6 _ rfl rfl
    have e7 := hJ.val 7 _ rfl rfl
    have e8 := hJ.val 8 _ rfl rfl
    have e9 := hJ.val 9 _ rfl rfl
    have e10 := hJ.val 10 _ rfl rfl
    have e11 := hJ.val 11 _ rfl rfl
    have e12 := hJ.val 12 _ rfl rfl
    have e13 := hJ.val 13 _ rfl rfl
    have e14 := hJ.val 14 _ rfl rfl
    have e15 := hJ.val 15 _ rfl rfl
    have e16 := hJ.val 16 _ rfl rfl
    have e17 := hJ.val 17 _ rfl rfl
    have e18 := hJ.val 18 _ rfl rfl
    simp [putAll, List.range, List.range.loop, Act.put, e0, e1, e2, e3, e4, e5, e6, e7, e8, e9, e10, e11, e12, e13, e14, e15, e16, e17, e18]
    clear e0 e1 e2 e3 e4 e5 e6 e7 e8 e9 e10 e11 e12 e13 e14 e15 e16 e17 e18 hJ
    have hlc : ((leftN L.length s keep : Nat) : Int) ≤ (c : Int) := by
      have := leftN_le HS.out keep
      rcases HH.out.own.2 with ⟨e1, e2⟩ | ⟨q, cap, cur, e1, _, _, e2, _⟩ <;> simp only [Value.slice.injEq] at e1 <;> omega
    rcases HH.out.own.2 with ⟨e1, e2⟩ | ⟨q, cap, cur, e1, e3, e4, e5, e6, e7, e8⟩
    · simp only [Value.slice.injEq] at e1
      obtain ⟨rfl, _, rfl⟩ := e1
      obtain rfl : L = [] := List.length_eq_zero_iff.1 e2
      obtain ⟨m, hm⟩ : ∃ m, leftN ([] : List Ln).length s keep = m := ⟨_, rfl⟩
      have hm0 : m = 0 := by rw [← hm]; exact Nat.le_zero.1 (leftN_le HS.out keep)
      have hlm : ((m : Nat) : Int) ≤ 0 := by omega
      have HM := Lib.hid hm; have HM0 := Lib.hid hm0
      clear hlc W1 W2 hm0
      rw [hm]
      clear hm
      have c2 : (w.setCell ⟨r, 0, none⟩ (.int .i32 1)).drew.cell? ⟨r, 2, none⟩ = some (.slice none 0 0) := C2.out
      go_wp2_with fail
      refine (cloneNil_walk _ m 0).mono ?_
      rintro x2 w2 ⟨hx2, hw2⟩
      obtain ⟨v', rfl, k1, k2, k3⟩ : ∃ v', x2 = .returned v' ∧ w2.ownsRow 0 58 33 v' (m) (lnC (([] : List Ln).take (m))) ∧ Below (w.setCell ⟨r, 0, none⟩ (.int .i32 1)).drew.heap.size (w.setCell ⟨r, 0, none⟩ (.int .i32 1)).drew w2 ∧ ∀ z, v'.ownBlock = some z → (w.setCell ⟨r, 0, none⟩ (.int .i32 1)).drew.heap.size ≤ z := by
        have e9 : m = 0 := HM0.out
        refine ⟨_, hx2, ?_, by rw [hw2]; exact Below.refl _ _, fun z e1 => by cases e1⟩
        rw [e9]; exact ⟨rfl, .inl ⟨rfl, rfl⟩⟩
      clear hx2 hw2
      have hv1 : v'.oneCell' = true := by obtain ⟨a9, c9, rfl⟩ := run_len_any k1; rfl
      have kb := run_build (P := Try.prog) w2 54 _ _ (built_book hv1 (m : Nat))
      have KO := Lib.hid k1; have KW := Lib.hid k2; have KZ := Lib.hid k3; have KB := Lib.hid kb
      clear k1 k2 k3 kb hv1 c2
      go_wp2_with (refine wpList_run (v := .agg (BC 0 v' (m : Nat) 0)) (w2 := w2) rfl ?_ ?_; (focus (simp [execOp, Act.eval, KB.out, Sem.run_bind]; done)))
      have hB3 : BookW (w2.alloc (.cells (BC 0 v' (m : Nat) 0) 54)) w2.heap.size 54 v' (([] : List Ln).take (m)) (m : Nat) 0 := by
        refine ⟨Blk.newAt _ _ rfl, ?_, fun e1 => ?_, fun x hx => HH.out.len x (List.mem_of_mem_take hx)⟩
        · have e1 : (([] : List Ln).take (m)).length = m := by rw [List.length_take]; exact Nat.min_eq_left (by have := HM0.out; omega)
          rw [e1]
          exact ownsRow_keep KO.out fun q _ hq => Below.heap_alloc _ _ _ hq
        · rcases KO.out.2 with ⟨e2, _⟩ | ⟨q, cap, cur, e2, _, h5, _⟩ <;> rw [e2] at e1 <;> cases e1
          exact absurd (Array.getElem?_eq_some_iff.1 h5).1 (Nat.lt_irrefl _)
      have hs1 : (w.setCell ⟨r, 0, none⟩ (.int .i32 1)).drew.heap.size = w.heap.size := by simp [World.setCell, World.drew]
      have hk3 : Blk (w2.alloc (.cells (BC 0 v' (m : Nat) 0) 54)) r (BC 1 (.slice none ([] : List Ln).length 0) s f) t := ((HB1.out.drew.keep KW.out)).keep ((Below.refl _ _).alloc (Nat.le_refl _) _)
      have hg3 : w.grownBy (w2.alloc (.cells (BC 0 v' (m : Nat) 0) 54)) (some r) := grown_trans (grown_trans (grown_drew HG1.out) (grownB KW.out)) (grown_alloc w2 _ _)
      have hrn : r < w.heap.size := HB.out.lt
      have hle2 : w.heap.size ≤ w2.heap.size := by have := KW.out.size; rw [hs1] at this; exact this
      have hz3 : ∀ z, v'.ownBlock = some z → w.heap.size ≤ z := fun z e1 => by have := KZ.out z e1; rw [hs1] at this; exact this
      refine leaves_cons (f := 14) (args := #[.pointer (some ⟨r, 0, none⟩)]) (by simp) (by simp [go_sem]) ?_
      refine (unlock_deferred ⟨r, 0, none⟩ _ _ (hk3.cell 0) (hk3.frozen 0)).mono ?_
      rintro x4 u' w4 ⟨rfl, rfl, hw4⟩
      have hk4 : Blk w4 r (BC 0 (.slice none ([] : List Ln).length 0) s f) t := by rw [hw4]; exact (hk3.set 0 _).copy rfl
      have hg4 : w.grownBy w4 (some r) := by rw [hw4]; exact grown_setCell hg3 0 _
      have hg5 : (w2.alloc (.cells (BC 0 v' (m : Nat) 0) 54)).grownBy w4 (some r) := by rw [hw4]; exact grown_setCell (grown_refl _ _) 0 _
      have hB4 : BookW w4 w2.heap.size 54 v' (([] : List Ln).take (m)) (m : Nat) 0 := by
        refine ⟨(hg5.block _ hB3.blk.lt (fun e1 => by cases e1; omega)).trans hB3.blk, ownsRow_keep hB3.own fun q hq hlt => hg5.block q hlt (fun e1 => by cases e1; have := hz3 _ hq; omega), hB3.sep, hB3.len⟩
      clear hw4
      exact ⟨_, results_tmp rfl _ _ _, w2.heap.size, v', rfl, hk4, by rw [HM.out]; exact hB4, hle2, hz3, hg4⟩
    · cases e1
      have c2 : (w.setCell ⟨r, 0, none⟩ (.int .i32 1)).drew.cell? ⟨r, 2, none⟩ = some (.slice (some ⟨q, 0, none⟩) L.length c) := C2.out
      have had : (⟨q, 0, none⟩ : Addr).add 0 = ⟨q, 0, none⟩ := add_at q 0 0
      have hqr : q ≠ r := fun e1 => HH.out.sep (by rw [e1]; rfl)
      have hq3 : (w.setCell ⟨r, 0, none⟩ (.int .i32 1)).drew.heap[q]? = some (.cells cur 58 (0, 0)) := (heap_setCell_other w ⟨r, 0, none⟩ q _ hqr).trans e4
      have HQ := Lib.hid hq3; have HC8 := Lib.hid e8
      clear e3 e4 e5 e6 e7 e8 hq3 hqr
      go_wp2_with fail
      refine (clone_walk _ q (leftN L.length s keep) c HQ.out (leftN_le HS.out keep) HL.out HH.out.len HC8.out).mono ?_
      rintro x2 w2 ⟨v', rfl, k1, k2, k3⟩
      have hv1 : v'.oneCell' = true := by obtain ⟨a9, c9, rfl⟩ := run_len_any k1; rfl
      have kb := run_build (P := Try.prog) w2 54 _ _ (built_book hv1 (leftN L.length s keep : Nat))
      have KO := Lib.hid k1; have KW := Lib.hid k2; have KZ := Lib.hid k3; have KB := Lib.hid kb
      clear k1 k2 k3 kb hv1 c2
      go_wp2_with (refine wpList_run (v := .agg (BC 0 v' (leftN L.length s keep : Nat) 0)) (w2 := w2) rfl ?_ ?_; (focus (simp [execOp, Act.eval, KB.out, Sem.run_bind]; done)))
      have hB3 : BookW (w2.alloc (.cells (BC 0 v' (leftN L.length s keep : Nat) 0) 54)) w2.heap.size 54 v' (L.take (leftN L.length s keep)) (leftN L.length s keep : Nat) 0 := by
        refine ⟨Blk.newAt _ _ rfl, ?_, fun e1 => ?_, fun x hx => HH.out.len x (List.mem_of_mem_take hx)⟩
        · have e1 : (L.take (leftN L.length s keep)).length = leftN L.length s keep := by rw [List.length_take]; exact Nat.min_eq_left (leftN_le HS.out keep)
          rw [e1]
          exact ownsRow_keep KO.out fun q _ hq => Below.heap_alloc _ _ _ hq
        · rcases KO.out.2 with ⟨e2, _⟩ | ⟨q, cap, cur, e2, _, h5, _⟩ <;> rw [e2] at e1 <;> cases e1
          exact absurd (Array.getElem?_eq_some_iff.1 h5).1 (Nat.lt_irrefl _)
      have hs1 : (w.setCell ⟨r, 0, none⟩ (.int .i32 1)).drew.heap.size = w.heap.size := by simp [World.setCell, World.drew]
      have hk3 : Blk (w2.alloc (.cells (BC 0 v' (leftN L.length s keep : Nat) 0) 54)) r (BC 1 (.slice (some ⟨q, 0, none⟩) L.length c) s f) t := ((HB1.out.drew.keep KW.out)).keep ((Below.refl _ _).alloc (Nat.le_refl _) _)
      have hg3 : w.grownBy (w2.alloc (.cells (BC 0 v' (leftN L.length s keep : Nat) 0) 54)) (some r) := grown_trans (grown_trans (grown_drew HG1.out) (grownB KW.out)) (grown_alloc w2 _ _)
      have hrn : r < w.heap.size := HB.out.lt
      have hle2 : w.heap.size ≤ w2.heap.size := by have := KW.out.size; rw [hs1] at this; exact this
      have hz3 : ∀ z, v'.ownBlock = some z → w.heap.size ≤ z := fun z e1 => by have := KZ.out z e1; rw [hs1] at this; exact this
      refine leaves_cons (f := 14) (args := #[.pointer (some ⟨r, 0, none⟩)]) (by simp) (by simp [go_sem]) ?_
      refine (unlock_deferred ⟨r, 0, none⟩ _ _ (hk3.cell 0) (hk3.frozen 0)).mono ?_
      rintro x4 u' w4 ⟨rfl, rfl, hw4⟩
      have hk4 : Blk w4 r (BC 0 (.slice (some ⟨q, 0, none⟩) L.length c) s f) t := by rw [hw4]; exact (hk3.set 0 _).copy rfl
      have hg4 : w.grownBy w4 (some r) := by rw [hw4]; exact grown_setCell hg3 0 _
      have hg5 : (w2.alloc (.cells (BC 0 v' (leftN L.length s keep : Nat) 0) 54)).grownBy w4 (some r) := by rw [hw4]; exact grown_setCell (grown_refl _ _) 0 _
      have hB4 : BookW w4 w2.heap.size 54 v' (L.take (leftN L.length s keep)) (leftN L.length s keep : Nat) 0 := by
        refine ⟨(hg5.block _ hB3.blk.lt (fun e1 => by cases e1; omega)).trans hB3.blk, ownsRow_keep hB3.own fun q hq hlt => hg5.block q hlt (fun e1 => by cases e1; have := hz3 _ hq; omega), hB3.sep, hB3.len⟩
      clear hw4
      exact ⟨_, results_tmp rfl _ _ _, w2.heap.size, v', rfl, hk4, hB4, hle2, hz3, hg4⟩
end Go.Proofs.Ytanpamcecaoanaa

/-
  Books: contracts.
-/
namespace Go.Proofs.Ytanpamcecaoanaa
set_option maxRecDepth 100000
open Go.RowKit
set_option linter.unusedVariables false
set_option linter.unusedSimpArgs false

/-- a book: its lines, how many stay, how often it was flushed -/
structure BS where
  L : List Ln
  s : Nat
  f : Nat
def bkQ (x : BS) (h : Nat → Option Obj) (r : Nat) : Prop := bookP x.L x.s x.f h r ∧ x.s ≤ x.L.length ∧ x.L.length ≤ 100
def bkP (x : BS) : OP := .of (bkQ x)
def writeE (x : BS) (e : Int) (p : List UInt8) : Int :=
  if e < 0 ∨ e > 1099511627776 then 1 else if hasV x.L e = true then (if (getV x.L e == p) = true then 0 else 9) else if 100 ≤ x.L.length then 12 else 0
def writeB (x : BS) (e : Int) (p : List UInt8) : BS :=
  if e < 0 ∨ e > 1099511627776 then x else if hasV x.L e = true then x else if 100 ≤ x.L.length then x else ⟨x.L ++ [(e, p)], x.s, x.f⟩
def flushB (x : BS) : BS := ⟨x.L, x.L.length, x.f + 1⟩
def crashB (x : BS) (keep : Int) : BS := ⟨x.L.take (leftN x.L.length x.s keep), leftN x.L.length x.s keep, 0⟩

theorem FnB.of {f : FuncId} {pos : Nat} {p p' : OP} {args : List A} {res : Res} (q : Prop) (hq : ∀ D w F r, p.p D w F r → q) (h : q → FnB Try.prog gTab f pos p args res p') : FnB Try.prog gTab f pos p args res p' := fun S w r F vs hG hlt hp ha hS => h (hq _ _ _ _ hp) S w r F vs hG hlt hp ha hS
/-- what a book's contract is, where its lines stay -/
theorem fnB_bk {f : FuncId} {x y : BS} {args : List A} {vs0 : List Value} {a : A} {v0 : Value} (hargs : ∀ {S : Nat → Prop} {w : World} {vs : List Value}, RAs S w args vs → vs = vs0) (ha : flatA a = true) (hv : ∀ w, RA (fun _ => False) w a v0) (hL : y.L = x.L) (hs : x.s ≤ x.L.length → y.s ≤ y.L.length)
    (h : x.s ≤ x.L.length → x.L.length ≤ 100 → ∀ (w : World) (r : Nat) (t : TypeId) (v : Value), BookW w r t v x.L x.s x.f → Calls Try.prog f (.pointer (some ⟨r, 0, none⟩) :: vs0).toArray w fun e w' => e = .returned v0 ∧ Blk w' r (BC 0 v y.s y.f) t ∧ w.grownBy w' (some r)) :
    FnB Try.prog gTab f 0 (bkP x) args (.d a) (bkP y) := by
  intro S w r F vs hG hlt hp hA hS
  obtain ⟨hp, h1, h2⟩ := hp
  refine (fnB_of (x := a) (y := v0) hargs ha hv (fun w r t v hb => h h1 h2 w r t v hb) S w r F vs hG hlt hp hA hS).mono ?_
  rintro e w' ⟨v, F', N, rfl, k1, k2, k3, k4, k5⟩
  exact ⟨v, F', N, rfl, k1, k2, ⟨by rw [hL]; exact k3, hs h1, by rw [hL]; exact h2⟩, k4, k5⟩
theorem args0 {S : Nat → Prop} {w : World} {vs : List Value} (h : RAs S w [] vs) : vs = [] := by cases h; rfl
theorem args1 {x : Value} {S : Nat → Prop} {w : World} {vs : List Value} (h : RAs S w [.v x] vs) : vs = [x] := by
  cases h with | cons h r => cases r; cases h; rfl
theorem args2 {x : Value} {p : List UInt8} {S : Nat → Prop} {w : World} {vs : List Value} (h : RAs S w [.v x, .agg [.bytes 32 p]] vs) : vs = [x, .agg (HC p)] ∧ p.length = 32 := by
  cases h with | cons h r => cases r with | cons h2 r => cases r; cases h; obtain ⟨rfl, h3⟩ := ra_agg32 h2; exact ⟨rfl, h3⟩
theorem lenB_ok (x : BS) : FnB Try.prog gTab 18 0 (bkP x) [] (.d (.v (.int .i64 x.L.length))) (bkP x) :=
  fnB_bk (vs0 := []) args0 rfl (fun w => .v _) rfl id fun h1 h2 w r t v hb => len_walk w r t v x.L x.s x.f hb
theorem holdsB_ok (x : BS) (e : Int) : FnB Try.prog gTab 19 0 (bkP x) [.v (.int .i64 e)] (.t [.agg [.bytes 32 (getV x.L e)], .v (.bool (hasV x.L e))]) (bkP x) := by
  intro S w r F vs hG hlt hp hA hS
  obtain ⟨hp, h1, h2⟩ := hp
  obtain rfl := args1 hA
  obtain ⟨t, v, hb, hF⟩ := BookW.of hp
  refine (holds_walk w r t v x.L x.s x.f e (by omega) hb).mono ?_
  rintro y w' ⟨rfl, k1, k2⟩
  have hl := getV_len x.L hb.len e
  exact ⟨_, F, [], rfl, fun q hq => .inl (by simp [hq]), fun q hq => Nat.lt_of_lt_of_le (hlt q hq) k2.size, ⟨(hb.next k1 k2).to hF, h1, h2⟩, ⟨_, rfl, .cons (.agg (.ofBytes hl rfl)) (.cons (.v _) .nil)⟩, ⟨k2.os, k2.tape, k2.output, k2.size, fun k hk hn => k2.block k hk (fun e => hn (by cases e; simp))⟩⟩
theorem flushB_ok (x : BS) (hf : x.f ≤ 1000) : FnB Try.prog gTab 7 0 (bkP x) [] (.t []) (bkP (flushB x)) := by
  intro S w r F vs hG hlt hp hA hS
  obtain ⟨hp, h1, h2⟩ := hp
  obtain rfl := args0 hA
  obtain ⟨t, v, hb, hF⟩ := BookW.of hp
  refine (flush_walk w r t v x.L x.s x.f hb (by omega)).mono ?_
  rintro y w' ⟨rfl, k1, k2⟩
  exact ⟨_, F, [], rfl, fun q hq => .inl (by simp [hq]), fun q hq => Nat.lt_of_lt_of_le (hlt q hq) k2.size, ⟨(hb.next k1 k2).to hF, Nat.le_refl _, h2⟩, ⟨[], rfl, .nil⟩, ⟨k2.os, k2.tape, k2.output, k2.size, fun k hk hn => k2.block k hk (fun e => hn (by cases e; simp))⟩⟩
theorem writeB_ok (x : BS) (e : Int) (p : List UInt8) : FnB Try.prog gTab 5 0 (bkP x) [.v (.int .i64 e), .agg [.bytes 32 p]] (.d (.v (.int .i64 (writeE x e p)))) (bkP (writeB x e p)) := by
  intro S w r F vs hG hlt hp hA hS
  have hp0 := hp
  obtain ⟨hp, h1, h2⟩ := hp
  obtain ⟨rfl, hl⟩ := args2 hA
  obtain ⟨t, v, hb, hF⟩ := BookW.of hp
  have stay : ∀ (y : Int), (∀ (w' : World), Blk w' r (BC 0 v x.s x.f) t ∧ w.grownBy w' (some r) → ∃ v' F' N, Ending.returned (.int .i64 y) = .returned v' ∧ (∀ q ∈ F', q ∈ r :: F ∨ w.heap.size ≤ q) ∧ (∀ q ∈ r :: F', q < w'.heap.size) ∧ bkQ x (hres w' (r :: F')) r ∧ RRb S w w' (r :: F') N (.d (.v (.int .i64 y))) v' ∧ GrownX (fun q => q ∈ r :: F) w w') := fun y w' ⟨k1, k2⟩ =>
    ⟨_, F, [], rfl, fun q hq => .inl (by simp [hq]), fun q hq => Nat.lt_of_lt_of_le (hlt q hq) k2.size, ⟨(hb.next k1 k2).to hF, h1, h2⟩, .v _, ⟨k2.os, k2.tape, k2.output, k2.size, fun k hk hn => k2.block k hk (fun e => hn (by cases e; simp))⟩⟩
  unfold writeE writeB
  by_cases c1 : e < 0 ∨ e > 1099511627776
  · rw [if_pos c1, if_pos c1]
    refine (write_arg w r t v x.L x.s x.f e p hl c1 hb).mono ?_
    rintro y w' ⟨rfl, k⟩
    exact stay _ w' k
  · rw [if_neg c1, if_neg c1]
    by_cases c2 : hasV x.L e = true
    · rw [if_pos c2, if_pos c2]
      refine (write_walk w r t v x.L x.s x.f e p hl (by omega) (by omega) (by omega) c2 _ rfl hb).mono ?_
      rintro y w' ⟨rfl, k⟩
      exact stay _ w' k
    · rw [if_neg c2, if_neg c2]
      have c2' : hasV x.L e = false := by simpa using c2
      by_cases c3 : 100 ≤ x.L.length
      · rw [if_pos c3, if_pos c3]
        refine (write_full w r t v x.L x.s x.f e p hl (by omega) (by omega) (by omega) c2' c3 hb).mono ?_
        rintro y w' ⟨rfl, k⟩
        exact stay _ w' k
      · rw [if_neg c3, if_neg c3]
        refine (write_new w r t v x.L x.s x.f e p hl (by omega) (by omega) (by omega) c2' (by omega) hb).mono ?_
        rintro y w' ⟨rfl, v', k1, k2, k3⟩
        have hin : ∀ q, v.ownBlock = some q → q ∈ r :: F := fun q hq => by simp [hF q hq]
        refine ⟨_, match v'.ownBlock with | some q => [q] | none => [], [], rfl, fun q hq => ?_, fun q hq => ?_, ⟨k1.to fun q hq => by rw [hq]; simp, by simp; omega, by simp; omega⟩, .v _, ⟨k3.os, k3.tape, k3.output, k3.size, fun k hk hn => k3.block k hk (fun e => hn (by rcases e with e | e; simp [e]; exact hin k e))⟩⟩
        · cases hv : v'.ownBlock with
          | none => rw [hv] at hq; cases hq
          | some q' =>
            rw [hv] at hq
            simp at hq; subst hq
            rcases k2 with k2 | ⟨q2, k2, k4⟩
            · exact .inl (hin q (by rw [← k2]; exact hv))
            · rw [hv] at k2; cases k2; exact .inr k4
        · rcases List.mem_cons.1 hq with rfl | hq
          · exact Nat.lt_of_lt_of_le (hlt _ (by simp)) k3.size
          · cases hv : v'.ownBlock with
            | none => rw [hv] at hq; cases hq
            | some q' =>
              rw [hv] at hq
              simp at hq; subst hq
              rcases k1.own.2 with ⟨e1, _⟩ | ⟨q2, cap, cur, e1, _, h5, _⟩ <;> rw [e1] at hv <;> cases hv
              exact (Array.getElem?_eq_some_iff.1 h5).1
theorem crashB_ok (x : BS) (keep : Int) (hk : -9223372036854775808 ≤ keep ∧ keep ≤ 9223372036854775807) : FnB Try.prog gTab 9 0 (bkP x) [.v (.int .i64 keep)] (.ob (bkP (crashB x keep))) (bkP x) := by
  intro S w r F vs hG hlt hp hA hS
  obtain ⟨hp, h1, h2⟩ := hp
  obtain rfl := args1 hA
  obtain ⟨t, v, hb, hF⟩ := BookW.of hp
  refine (crash_walk w r t v x.L x.s x.f keep h1 (by omega) hk hb).mono ?_
  rintro y w' ⟨g, v', rfl, k1, k2, k3, k4, k5⟩
  have hle := leftN_le h1 keep
  have hcl : (x.L.take (leftN x.L.length x.s keep)).length = leftN x.L.length x.s keep := by rw [List.length_take]; exact Nat.min_eq_left hle
  refine ⟨_, F, g :: (match v'.ownBlock with | some q => [q] | none => []), rfl, fun q hq => .inl (by simp [hq]), fun q hq => Nat.lt_of_lt_of_le (hlt q hq) k5.size, ⟨(hb.next k1 k5).to hF, h1, h2⟩, ⟨g, match v'.ownBlock with | some q => [q] | none => [], rfl, rfl, fun q hq => ?_, ⟨k2.to fun q hq => by rw [hq]; simp, Nat.le_of_eq hcl.symm, by show (x.L.take (leftN x.L.length x.s keep)).length ≤ 100; omega⟩⟩, ⟨k5.os, k5.tape, k5.output, k5.size, fun k hk hn => k5.block k hk (fun e => hn (by cases e; simp))⟩⟩
  have hq2 : w.heap.size ≤ q ∧ q < w'.heap.size := by
    rcases List.mem_cons.1 hq with rfl | hq
    · exact ⟨k3, k2.blk.lt⟩
    · cases hv : v'.ownBlock with
      | none => rw [hv] at hq; cases hq
      | some q' =>
        rw [hv] at hq
        simp at hq; subst hq
        refine ⟨k4 _ hv, ?_⟩
        rcases k2.own.2 with ⟨e1, _⟩ | ⟨q2, cap, cur, e1, _, h5, _⟩ <;> rw [e1] at hv <;> cases hv
        exact (Array.getElem?_eq_some_iff.1 h5).1
  exact ⟨hq2.1, hq2.2, fun hm => by have := hlt q hm; omega⟩
set_option maxRecDepth 100000 in
theorem new_walk (w : World) : Calls Try.prog 4 #[] w fun x w' => x = .returned (.pointer (some ⟨w.heap.size, 0, none⟩)) ∧ w' = w.alloc (.cells (BC 0 (.slice none 0 0) 0 0) 54) := by
  go_enter Try.func4, Try.ntmps4
  go_wp2
  go_ret
  exact ⟨rfl, rfl⟩
theorem newB_ok : FnO 4 [] (.ob (bkP ⟨[], 0, 0⟩)) := by
  intro S w vs hG ha
  obtain rfl := args0 ha
  refine (new_walk w).mono ?_
  rintro x w' ⟨rfl, rfl⟩
  refine ⟨_, rfl, ⟨w.heap.size, [], rfl, fun q hq => ?_, ⟨BookW.to (t := 54) (v := .slice none 0 0) ⟨Blk.newAt _ _ rfl, ⟨rfl, .inl ⟨rfl, rfl⟩⟩, by simp [Value.ownBlock], by simp⟩ (by simp [Value.ownBlock]), by simp, by simp⟩⟩, (Below.refl _ _).alloc (Nat.le_refl _) _⟩
  obtain rfl : q = w.heap.size := by simpa using hq
  exact ⟨Nat.le_refl _, by rw [size_alloc]; omega⟩
end Go.Proofs.Ytanpamcecaoanaa

/-
  Books: an environment that knows them; what another one tells.
-/
namespace Go.Proofs.Ytanpamcecaoanaa
set_option maxRecDepth 100000
open Go.RowKit
set_option linter.unusedVariables false
set_option linter.unusedSimpArgs false
attribute [local irreducible] condK LoopA regA

def newS : List A → (Res → Prop) → Prop
  | [], K => K (.ob (bkP ⟨[], 0, 0⟩))
  | _, _ => False
theorem newS_ok : ∀ args K, newS args K → ∃ r, FnO 4 args r ∧ K r := by
  intro args K h
  unfold newS at h
  split at h
  · exact ⟨_, newB_ok, h⟩
  · exact h.elim
def lenS : Nat → OP → List A → (Res → OP → Prop) → Prop
  | 0, q, [], K => ∃ x : BS, q = bkP x ∧ K (.d (.v (.int .i64 x.L.length))) (bkP x)
  | _, _, _, _ => False
theorem lenS_ok : ∀ pos p args K, lenS pos p args K → ∃ r p', FnB Try.prog gTab 18 pos p args r p' ∧ K r p' := by
  intro pos p args K h
  unfold lenS at h
  split at h
  · obtain ⟨x, rfl, h⟩ := h; exact ⟨_, _, lenB_ok x, h⟩
  · exact h.elim
def flushesS : Nat → OP → List A → (Res → OP → Prop) → Prop
  | 0, q, [], K => ∃ x : BS, q = bkP x ∧ x.f ≤ 1000 ∧ K (.d (.v (.int .i64 x.f))) (bkP x)
  | _, _, _, _ => False
def flushS : Nat → OP → List A → (Res → OP → Prop) → Prop
  | 0, q, [], K => ∃ x : BS, q = bkP x ∧ x.f ≤ 1000 ∧ K (.t []) (bkP (flushB x))
  | _, _, _, _ => False
theorem flushS_ok : ∀ pos p args K, flushS pos p args K → ∃ r p', FnB Try.prog gTab 7 pos p args r p' ∧ K r p' := by
  intro pos p args K h
  unfold flushS at h
  split at h
  · obtain ⟨x, rfl, hf, h⟩ := h; exact ⟨_, _, flushB_ok x hf, h⟩
  · exact h.elim
def holdsS : Nat → OP → List A → (Res → OP → Prop) → Prop
  | 0, q, [.v (.int .i64 e)], K => ∃ x : BS, q = bkP x ∧ K (.t [.agg [.bytes 32 (getV x.L e)], .v (.bool (hasV x.L e))]) (bkP x)
  | _, _, _, _ => False
theorem holdsS_ok : ∀ pos p args K, holdsS pos p args K → ∃ r p', FnB Try.prog gTab 19 pos p args r p' ∧ K r p' := by
  intro pos p args K h
  unfold holdsS at h
  split at h
  · obtain ⟨x, rfl, h⟩ := h; exact ⟨_, _, holdsB_ok x _, h⟩
  · exact h.elim
def writeS : Nat → OP → List A → (Res → OP → Prop) → Prop
  | 0, q, [.v (.int .i64 e), .agg [.bytes 32 p]], K => ∃ x : BS, q = bkP x ∧ K (.d (.v (.int .i64 (writeE x e p)))) (bkP (writeB x e p))
  | _, _, _, _ => False
theorem writeS_ok : ∀ pos p args K, writeS pos p args K → ∃ r p', FnB Try.prog gTab 5 pos p args r p' ∧ K r p' := by
  intro pos p args K h
  unfold writeS at h
  split at h
  · obtain ⟨x, rfl, h⟩ := h; exact ⟨_, _, writeB_ok x _ _, h⟩
  · exact h.elim
def crashS : Nat → OP → List A → (Res → OP → Prop) → Prop
  | 0, q, [.v (.int .i64 k)], K => ∃ x : BS, q = bkP x ∧ (-9223372036854775808 ≤ k ∧ k ≤ 9223372036854775807) ∧ K (.ob (bkP (crashB x k))) (bkP x)
  | _, _, _, _ => False
theorem crashS_ok : ∀ pos p args K, crashS pos p args K → ∃ r p', FnB Try.prog gTab 9 pos p args r p' ∧ K r p' := by
  intro pos p args K h
  unfold crashS at h
  split at h
  · obtain ⟨x, rfl, hk, h⟩ := h; exact ⟨_, _, crashB_ok x _ hk, h⟩
  · exact h.elim
noncomputable def envB1 : EnvX := env0.add 4 newS newS_ok ⟨_, Try.func4, by kernel_rfl, by kernel_rfl⟩
noncomputable def envB2 : EnvX := envB1.addB 18 lenS lenS_ok ⟨_, Try.func18, by kernel_rfl, by kernel_rfl⟩
noncomputable def envB3 : EnvX := envB2
noncomputable def envB4 : EnvX := envB3.addB 7 flushS flushS_ok ⟨_, Try.func7, by kernel_rfl, by kernel_rfl⟩
noncomputable def envB5 : EnvX := envB4.addB 19 holdsS holdsS_ok ⟨_, Try.func19, by kernel_rfl, by kernel_rfl⟩
noncomputable def envB6 : EnvX := envB5.addB 5 writeS writeS_ok ⟨_, Try.func5, by kernel_rfl, by kernel_rfl⟩
noncomputable def envB7 : EnvX := envB6.addB 9 crashS crashS_ok ⟨_, Try.func9, by kernel_rfl, by kernel_rfl⟩
set_option maxHeartbeats 1000000 in
theorem knownB_ok : FnO 12 [] (.d (.v (.bool true))) := by
  refine fnA (E := envB7) Try.func12 Try.ntmps12 ?_
  refine agow ?_; (try with_reducible exact True.intro)
  rfl
def knownS : List A → (Res → Prop) → Prop
  | [], K => K (.d (.v (.bool true)))
  | _, _ => False
theorem knownS_ok : ∀ args K, knownS args K → ∃ r, FnO 12 args r ∧ K r := by
  intro args K h
  unfold knownS at h
  split at h
  · exact ⟨_, knownB_ok, h⟩
  · exact h.elim
noncomputable def envB8 : EnvX := envB7.add 12 knownS knownS_ok ⟨_, Try.func12, by kernel_rfl, by kernel_rfl⟩
end Go.Proofs.Ytanpamcecaoanaa
