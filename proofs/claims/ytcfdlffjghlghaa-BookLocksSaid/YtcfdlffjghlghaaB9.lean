/-
  Books: what is left behind a crash.
-/
import Derived.Test.YtcfdlffjghlghaaB8
namespace Go.Proofs.Ytcfdlffjghlghaa
set_option maxRecDepth 100000
open Go.RowKit
set_option linter.unusedVariables false
set_option linter.unusedSimpArgs false

/-- how many lines are left -/
def leftN (n s : Nat) (keep : Int) : Nat := s + min keep.toNat (n - s)
theorem leftN_le {n s : Nat} (h : s ≤ n) (keep : Int) : leftN n s keep ≤ n := by unfold leftN; omega
/-- what the region comes to that reckons it -/
def cstC (r : Nat) (V : Value) (n s : Nat) (keep : Int) : Nat → Option Value
  | 0 => some (.pointer (some ⟨r, 0, none⟩))
  | 1 => some (.pointer (some ⟨r, 0, none⟩))
  | 2 => some (.pointer (some ⟨r, 3, none⟩))
  | 3 => some (.int .i64 s)
  | 4 => some (.int .i64 keep)
  | 5 => some (.int .i64 (max keep 0))
  | 6 => some (.pointer (some ⟨r, 0, none⟩))
  | 7 => some (.pointer (some ⟨r, 0, none⟩))
  | 8 => some (.pointer (some ⟨r, 2, none⟩))
  | 9 => some V
  | 10 => some (.int .i64 n)
  | 11 => some (.pointer (some ⟨r, 0, none⟩))
  | 12 => some (.pointer (some ⟨r, 0, none⟩))
  | 13 => some (.pointer (some ⟨r, 3, none⟩))
  | 14 => some (.int .i64 s)
  | 15 => some (.int .i64 ((n : Int) - s))
  | 16 => some (.int .i64 (min (max keep 0) ((n : Int) - s)))
  | 17 => some (.int .i64 (leftN n s keep))
  | 18 => some (.int .i64 (leftN n s keep))
  | _ => none
structure JC (w0 : World) (r : Nat) (V : Value) (n s : Nat) (keep : Int) (S : Nat → Bool) (vals : Nat → Value) (w : World) : Prop where
  w : w = w0
  val : ∀ k x, S k = true → cstC r V n s keep k = some x → vals k = x
theorem JC.pure {w0 : World} {r : Nat} {V : Value} {n s : Nat} {keep : Int} {S : Nat → Bool} {vals : Nat → Value} {w : World} (h : JC w0 r V n s keep S vals w) {i : Nat} {x : Value} (hc : cstC r V n s keep i = some x) : JC w0 r V n s keep (add1 S i) (fun j => if j = i then x else vals j) w := by
  refine ⟨h.w, fun k y hk hy => ?_⟩
  by_cases e1 : k = i
  · subst e1; rw [hc] at hy; cases hy; exact if_pos rfl
  · rw [add1_other S e1] at hk; show (if k = i then x else vals k) = y; rw [if_neg e1]; exact h.val k y hk hy
theorem left_int {n s : Nat} (h : s ≤ n) (keep : Int) : (s : Int) + min (max keep 0) ((n : Int) - s) = (leftN n s keep : Nat) := by unfold leftN; omega
/-- a book put together -/
theorem built_book {v : Value} (hv : v.oneCell' = true) (z : Int) : Try.prog.built 63 [(1, v), (2, .int .i64 z)] = some (BC 0 v z 0) := by
  obtain ⟨i, hY, ha, he, hpl, hz⟩ : ∃ i, env0.Y 63 = some i ∧ i.agg = true ∧ i.esz = 0 ∧ i.plc = [(0, 2), (2, 1), (3, 1), (4, 1)] ∧ i.zero = [.ints .i32 1 [0], .ints .u32 1 [0], .gen 1 [.v (.slice none 0 0)], .ints .i64 2 [0, 0]] := ⟨_, rfl, rfl, rfl, rfl, rfl⟩
  obtain ⟨f, z0, h1, h2, _, h3, h4⟩ := (env0.hY _ i hY).info
  obtain ⟨fs, k1, k2⟩ := (env0.hY _ i hY).plc ha he
  rw [hz] at h4
  obtain ⟨l', rfl, hf⟩ := fillA_spec (off := fun q => i.plc[q]?) (s := ⟨[.d (.v v), .d (.v (.int .i64 z))], []⟩) (parts := [(1, .tmp 0), (2, .tmp 1)]) (l := [.ints .i32 1 [0], .ints .u32 1 [0], .gen 1 [.v (.slice none 0 0)], .ints .i64 2 [0, 0]]) (K := fun l => l = [.ints .i32 1 [0], .ints .u32 1 [0], .gen 1 [.v v], .ints .i64 2 [z, 0]]) (by rw [hpl]; exact ⟨by decide, rfl, hv, by decide, rfl, rfl, rfl⟩)
  obtain ⟨cs', h5, h6⟩ := hf (D := fun _ => True) (w := default) (ρ := fun _ => none) (fun x => match x with | .tmp 0 => v | _ => .int .i64 z) z0.cells (fun q hq => by
    rcases List.mem_cons.1 hq with rfl | hq
    · exact .v _
    · rcases List.mem_cons.1 hq with rfl | hq
      · exact .v _
      · cases hq) (zeroB_spec h4)
  have h9 : cs' = BC 0 v z 0 := by
    obtain ⟨c1, d1, e1, g1, r1, _⟩ := h6.head
    obtain ⟨c2, d2, e2, g2, r2, _⟩ := r1.head
    obtain ⟨c3, d3, e3, g3, r3, _⟩ := r2.head
    obtain ⟨_, rfl⟩ := g1.toInts
    obtain ⟨_, rfl⟩ := g2.toInts
    obtain ⟨_, g3⟩ := g3.toGen
    obtain ⟨_, rfl⟩ := r3.toInts
    cases g3 with
    | cons g4 _ g5 =>
      cases g5; cases g4
      apply Array.toList_inj.1
      rw [e1, e2, e3]; rfl
  subst h9
  have h1' : Try.prog.info? 63 = some f := h1
  have k1' : Try.prog.underlying 63 = some (.struct fs) := k1
  have k2' : fs.toList.mapM (fun f => (Try.prog.info? f.type).map fun j => (f.offset, j.size)) = some i.plc := k2
  unfold Program.built
  simp only [h1', k1', h3, k2']
  have e9 : (fun x : Nat => i.plc.toArray[x]?) = fun q : Nat => i.plc[q]? := by funext q; simp
  rw [e9]
  exact h5
set_option maxRecDepth 100000 in
set_option maxHeartbeats 1000000 in
theorem crash_walk (w : World) (r : Nat) (t : TypeId) (v : Value) (L : List Ln) (s : Nat) (f keep : Int) (hs : s ≤ L.length) (hL : L.length ≤ 1000) (hk : -9223372036854775808 ≤ keep ∧ keep ≤ 9223372036854775807) (h : BookW w r t v L s f) :
    Calls Try.prog 17 #[.pointer (some ⟨r, 0, none⟩), .int .i64 keep] w fun x w' => ∃ g v', x = .returned (.pointer (some ⟨g, 0, none⟩)) ∧ Blk w' r (BC 0 v s f) t ∧ BookW w' g 63 v' (L.take (leftN L.length s keep)) (leftN L.length s keep : Nat) 0 ∧ w.heap.size ≤ g ∧ (∀ z, v'.ownBlock = some z → w.heap.size ≤ z) ∧ w.grownBy w' (some r) := by
  have hb := h.blk
  obtain ⟨ad, c, rfl⟩ := run_len_any h.own
  have hb1 : Blk (w.setCell ⟨r, 0, none⟩ (.int .i32 1)) r (BC 1 (.slice ad L.length c) s f) t := (hb.set 0 _).copy rfl
  have hg1 : w.grownBy (w.setCell ⟨r, 0, none⟩ (.int .i32 1)) (some r) := grown_setCell (grown_refl w _) 0 _
  have c2 : (w.setCell ⟨r, 0, none⟩ (.int .i32 1)).cell? ⟨r, 2, none⟩ = some (.slice ad L.length c) := hb1.cell 2
  have c3 : (w.setCell ⟨r, 0, none⟩ (.int .i32 1)).cell? ⟨r, 3, none⟩ = some (.int .i64 s) := hb1.cell 3
  have HB := Lib.hid hb; have HB1 := Lib.hid hb1; have HG1 := Lib.hid hg1; have HH := Lib.hid h; have HS := Lib.hid hs; have HL := Lib.hid hL; have HK := Lib.hid hk
  clear hb hb1 hg1 h hs hL hk
  go_enter_defers Try.func17, Try.ntmps17
  go_wp2_with (go_at_call 24; refine (lock_free ⟨r, 0, none⟩ _ (HB.out.cell 0) (HB.out.frozen 0)).mono ?_; rintro e w' ⟨rfl, rfl⟩)
  have hle := leftN_le HS.out keep
  have hw1 : IntKind.i64.wrap ((L.length : Int) - s) = (L.length : Int) - s := wrapS (by have := HS.out; have := HL.out; omega) (by have := HS.out; have := HL.out; omega)
  have hw2 : IntKind.i64.wrap ((s : Int) + min (max keep 0) ((L.length : Int) - s)) = (leftN L.length s keep : Nat) := by rw [left_int HS.out]; exact wrapS (by omega) (by have := HL.out; omega)
  have W1 := Lib.hid hw1; have W2 := Lib.hid hw2; have C2 := Lib.hid c2; have C3 := Lib.hid c3
  clear hw1 hw2 hle c2 c3
  refine region_inv (JC (w.setCell ⟨r, 0, none⟩ (.int .i32 1)).drew r (.slice ad L.length c) L.length s keep) [[], [0], [1], [2], [], [4], [], [6], [7], [8], [9], [], [11], [12], [13], [10, 14], [5, 15], [3, 16], [17]] (by kernel_rfl) (by kernel_rfl) (by kernel_rfl) ⟨rfl, fun k x hk => Bool.noConfusion hk⟩ ?_ ?_
  · refine ⟨?_, ?_, ?_, ?_, ?_, ?_, ?_, ?_, ?_, ?_, ?_, ?_, ?_, ?_, ?_, ?_, ?_, ?_, ?_, trivial⟩
    · intro S vals wj hJ hSi hD hcl
      obtain ⟨rfl, _⟩ := id hJ
      refine opv rfl ?_ (hJ.pure (i := 0) rfl)
      simp [execOp, putAll, Act.put, Act.eval, Instr.fieldAt, go_sem]
    · intro S vals wj hJ hSi hD hcl
      obtain ⟨rfl, _⟩ := id hJ
      have d0 := hJ.val 0 _ (hD 0 (by simp)) rfl
      refine opv rfl ?_ (hJ.pure (i := 1) rfl)
      simp [execOp, putAll, Act.put, Act.eval, Instr.fieldAt, go_sem, d0]
    · intro S vals wj hJ hSi hD hcl
      obtain ⟨rfl, _⟩ := id hJ
      have d1 := hJ.val 1 _ (hD 1 (by simp)) rfl
      refine opv rfl ?_ (hJ.pure (i := 2) rfl)
      simp [execOp, putAll, Act.put, Act.eval, Instr.fieldAt, go_sem, d1]
    · intro S vals wj hJ hSi hD hcl
      obtain ⟨rfl, _⟩ := id hJ
      have d2 := hJ.val 2 _ (hD 2 (by simp)) rfl
      refine opv rfl ?_ (hJ.pure (i := 3) rfl)
      simp [execOp, putAll, Act.put, Act.eval, Instr.fieldAt, go_sem, d2, C3.out]
    · intro S vals wj hJ hSi hD hcl
      obtain ⟨rfl, _⟩ := id hJ
      refine opv rfl ?_ (hJ.pure (i := 4) rfl)
      simp [execOp, putAll, Act.put, Act.eval, Instr.fieldAt, go_sem]
    · intro S vals wj hJ hSi hD hcl
      obtain ⟨rfl, _⟩ := id hJ
      have d4 := hJ.val 4 _ (hD 4 (by simp)) rfl
      refine opv rfl ?_ (hJ.pure (i := 5) rfl)
      simp [execOp, putAll, Act.put, Act.eval, Instr.fieldAt, go_sem, d4, resolve, invoke, builtin]
      omega
    · intro S vals wj hJ hSi hD hcl
      obtain ⟨rfl, _⟩ := id hJ
      refine opv rfl ?_ (hJ.pure (i := 6) rfl)
      simp [execOp, putAll, Act.put, Act.eval, Instr.fieldAt, go_sem]
    · intro S vals wj hJ hSi hD hcl
      obtain ⟨rfl, _⟩ := id hJ
      have d6 := hJ.val 6 _ (hD 6 (by simp)) rfl
      refine opv rfl ?_ (hJ.pure (i := 7) rfl)
      simp [execOp, putAll, Act.put, Act.eval, Instr.fieldAt, go_sem, d6]
    · intro S vals wj hJ hSi hD hcl
      obtain ⟨rfl, _⟩ := id hJ
      have d7 := hJ.val 7 _ (hD 7 (by simp)) rfl
      refine opv rfl ?_ (hJ.pure (i := 8) rfl)
      simp [execOp, putAll, Act.put, Act.eval, Instr.fieldAt, go_sem, d7]
    · intro S vals wj hJ hSi hD hcl
      obtain ⟨rfl, _⟩ := id hJ
      have d8 := hJ.val 8 _ (hD 8 (by simp)) rfl
      refine opv rfl ?_ (hJ.pure (i := 9) rfl)
      simp [execOp, putAll, Act.put, Act.eval, Instr.fieldAt, go_sem, d8, C2.out]
    · intro S vals wj hJ hSi hD hcl
      obtain ⟨rfl, _⟩ := id hJ
      have d9 := hJ.val 9 _ (hD 9 (by simp)) rfl
      refine opv rfl ?_ (hJ.pure (i := 10) rfl)
      simp [execOp, putAll, Act.put, Act.eval, Instr.fieldAt, go_sem, d9, resolve, invoke, builtin]
    · intro S vals wj hJ hSi hD hcl
      obtain ⟨rfl, _⟩ := id hJ
      refine opv rfl ?_ (hJ.pure (i := 11) rfl)
      simp [execOp, putAll, Act.put, Act.eval, Instr.fieldAt, go_sem]
    · intro S vals wj hJ hSi hD hcl
      obtain ⟨rfl, _⟩ := id hJ
      have d11 := hJ.val 11 _ (hD 11 (by simp)) rfl
      refine opv rfl ?_ (hJ.pure (i := 12) rfl)
      simp [execOp, putAll, Act.put, Act.eval, Instr.fieldAt, go_sem, d11]
    · intro S vals wj hJ hSi hD hcl
      obtain ⟨rfl, _⟩ := id hJ
      have d12 := hJ.val 12 _ (hD 12 (by simp)) rfl
      refine opv rfl ?_ (hJ.pure (i := 13) rfl)
      simp [execOp, putAll, Act.put, Act.eval, Instr.fieldAt, go_sem, d12]
    · intro S vals wj hJ hSi hD hcl
      obtain ⟨rfl, _⟩ := id hJ
      have d13 := hJ.val 13 _ (hD 13 (by simp)) rfl
      refine opv rfl ?_ (hJ.pure (i := 14) rfl)
      simp [execOp, putAll, Act.put, Act.eval, Instr.fieldAt, go_sem, d13, C3.out]
    · intro S vals wj hJ hSi hD hcl
      obtain ⟨rfl, _⟩ := id hJ
      have d10 := hJ.val 10 _ (hD 10 (by simp)) rfl
      have d14 := hJ.val 14 _ (hD 14 (by simp)) rfl
      refine opv rfl ?_ (hJ.pure (i := 15) rfl)
      simp [execOp, putAll, Act.put, Act.eval, Instr.fieldAt, go_sem, d10, d14, W1.out]
    · intro S vals wj hJ hSi hD hcl
      obtain ⟨rfl, _⟩ := id hJ
      have d5 := hJ.val 5 _ (hD 5 (by simp)) rfl
      have d15 := hJ.val 15 _ (hD 15 (by simp)) rfl
      refine opv rfl ?_ (hJ.pure (i := 16) rfl)
      simp [execOp, putAll, Act.put, Act.eval, Instr.fieldAt, go_sem, d5, d15, resolve, invoke, builtin]
      omega
    · intro S vals wj hJ hSi hD hcl
      obtain ⟨rfl, _⟩ := id hJ
      have d3 := hJ.val 3 _ (hD 3 (by simp)) rfl
      have d16 := hJ.val 16 _ (hD 16 (by simp)) rfl
      refine opv rfl ?_ (hJ.pure (i := 17) rfl)
      simp [execOp, putAll, Act.put, Act.eval, Instr.fieldAt, go_sem, d3, d16, W2.out]
    · intro S vals wj hJ hSi hD hcl
      obtain ⟨rfl, _⟩ := id hJ
      have d17 := hJ.val 17 _ (hD 17 (by simp)) rfl
      refine opv rfl ?_ (hJ.pure (i := 18) rfl)
      simp [execOp, putAll, Act.put, Act.eval, Instr.fieldAt, go_sem, d17]
  · intro vals wz hJ
    obtain ⟨rfl, _⟩ := id hJ
    have e0 := hJ.val 0 _ rfl rfl
    have e1 := hJ.val 1 _ rfl rfl
    have e2 := hJ.val 2 _ rfl rfl
    have e3 := hJ.val 3 _ rfl rfl
    have e4 := hJ.val 4 _ rfl rfl
    have e5 := hJ.val 5 _ rfl rfl
    have e6 := hJ.val 6 _ rfl rfl
    have e7 := hJ.val 7 _ rfl rfl
    have e8 := hJ.val 8 _ rfl rfl
    have e9 := hJ.val 9 _ rfl rfl
    have e10 := hJ.val 10 _ rfl rfl
    have e11 := hJ.val 11 _ rfl rfl
    have e12 := hJ.val 12 _ rfl rfl
    have e13 := hJ.val 13 _ rfl rfl
    have e14 := hJ.val 14 _ rfl rfl
    have e15 := hJ.val 15 _ rfl rfl
    have e16 := hJ.val 16 _ rfl rfl
    have e17 := hJ.val 17 _ rfl rfl
    have e18 := hJ.val 18 _ rfl rfl
    simp [putAll, List.range, List.range.loop, Act.put, e0, e1, e2, e3, e4, e5, e6, e7, e8, e9, e10, e11, e12, e13, e14, e15, e16, e17, e18]
    clear e0 e1 e2 e3 e4 e5 e6 e7 e8 e9 e10 e11 e12 e13 e14 e15 e16 e17 e18 hJ
    have hlc : ((leftN L.length s keep : Nat) : Int) ≤ (c : Int) := by
      have := leftN_le HS.out keep
      rcases HH.out.own.2 with ⟨e1, e2⟩ | ⟨q, cap, cur, e1, _, _, e2, _⟩ <;> simp only [Value.slice.injEq] at e1 <;> omega
    rcases HH.out.own.2 with ⟨e1, e2⟩ | ⟨q, cap, cur, e1, e3, e4, e5, e6, e7, e8⟩
    · simp only [Value.slice.injEq] at e1
      obtain ⟨rfl, _, rfl⟩ := e1
      obtain rfl : L = [] := List.length_eq_zero_iff.1 e2
      obtain ⟨m, hm⟩ : ∃ m, leftN ([] : List Ln).length s keep = m := ⟨_, rfl⟩
      have hm0 : m = 0 := by rw [← hm]; exact Nat.le_zero.1 (leftN_le HS.out keep)
      have hlm : ((m : Nat) : Int) ≤ 0 := by omega
      have HM := Lib.hid hm; have HM0 := Lib.hid hm0
      clear hlc W1 W2 hm0
      rw [hm]
      clear hm
      have c2 : (w.setCell ⟨r, 0, none⟩ (.int .i32 1)).drew.cell? ⟨r, 2, none⟩ = some (.slice none 0 0) := C2.out
      go_wp2_with fail
      refine (cloneNil_walk _ m 0).mono ?_
      rintro x2 w2 ⟨hx2, hw2⟩
      obtain ⟨v', rfl, k1, k2, k3⟩ : ∃ v', x2 = .returned v' ∧ w2.ownsRow 0 65 33 v' (m) (lnC (([] : List Ln).take (m))) ∧ Below (w.setCell ⟨r, 0, none⟩ (.int .i32 1)).drew.heap.size (w.setCell ⟨r, 0, none⟩ (.int .i32 1)).drew w2 ∧ ∀ z, v'.ownBlock = some z → (w.setCell ⟨r, 0, none⟩ (.int .i32 1)).drew.heap.size ≤ z := by
        have e9 : m = 0 := HM0.out
        refine ⟨_, hx2, ?_, by rw [hw2]; exact Below.refl _ _, fun z e1 => by cases e1⟩
        rw [e9]; exact ⟨rfl, .inl ⟨rfl, rfl⟩⟩
      clear hx2 hw2
      have hv1 : v'.oneCell' = true := by obtain ⟨a9, c9, rfl⟩ := run_len_any k1; rfl
      have kb := run_build (P := Try.prog) w2 63 _ _ (built_book hv1 (m : Nat))
      have KO := Lib.hid k1; have KW := Lib.hid k2; have KZ := Lib.hid k3; have KB := Lib.hid kb
      clear k1 k2 k3 kb hv1 c2
      go_wp2_with (refine wpList_run (v := .agg (BC 0 v' (m : Nat) 0)) (w2 := w2) rfl ?_ ?_; (focus (simp [execOp, Act.eval, KB.out, Sem.run_bind]; done)))
      have hB3 : BookW (w2.alloc (.cells (BC 0 v' (m : Nat) 0) 63)) w2.heap.size 63 v' (([] : List Ln).take (m)) (m : Nat) 0 := by
        refine ⟨Blk.newAt _ _ rfl, ?_, fun e1 => ?_, fun x hx => HH.out.len x (List.mem_of_mem_take hx)⟩
        · have e1 : (([] : List Ln).take (m)).length = m := by rw [List.length_take]; exact Nat.min_eq_left (by have := HM0.out; omega)
          rw [e1]
          exact ownsRow_keep KO.out fun q _ hq => Below.heap_alloc _ _ _ hq
        · rcases KO.out.2 with ⟨e2, _⟩ | ⟨q, cap, cur, e2, _, h5, _⟩ <;> rw [e2] at e1 <;> cases e1
          exact absurd (Array.getElem?_eq_some_iff.1 h5).1 (Nat.lt_irrefl _)
      have hs1 : (w.setCell ⟨r, 0, none⟩ (.int .i32 1)).drew.heap.size = w.heap.size := by simp [World.setCell, World.drew]
      have hk3 : Blk (w2.alloc (.cells (BC 0 v' (m : Nat) 0) 63)) r (BC 1 (.slice none ([] : List Ln).length 0) s f) t := ((HB1.out.drew.keep KW.out)).keep ((Below.refl _ _).alloc (Nat.le_refl _) _)
      have hg3 : w.grownBy (w2.alloc (.cells (BC 0 v' (m : Nat) 0) 63)) (some r) := grown_trans (grown_trans (grown_drew HG1.out) (grownB KW.out)) (grown_alloc w2 _ _)
      have hrn : r < w.heap.size := HB.out.lt
      have hle2 : w.heap.size ≤ w2.heap.size := by have := KW.out.size; rw [hs1] at this; exact this
      have hz3 : ∀ z, v'.ownBlock = some z → w.heap.size ≤ z := fun z e1 => by have := KZ.out z e1; rw [hs1] at this; exact this
      refine leaves_cons (f := 25) (args := #[.pointer (some ⟨r, 0, none⟩)]) (by simp) (by simp [go_sem]) ?_
      refine (unlock_deferred ⟨r, 0, none⟩ _ _ (hk3.cell 0) (hk3.frozen 0)).mono ?_
      rintro x4 u' w4 ⟨rfl, rfl, hw4⟩
      have hk4 : Blk w4 r (BC 0 (.slice none ([] : List Ln).length 0) s f) t := by rw [hw4]; exact (hk3.set 0 _).copy rfl
      have hg4 : w.grownBy w4 (some r) := by rw [hw4]; exact grown_setCell hg3 0 _
      have hg5 : (w2.alloc (.cells (BC 0 v' (m : Nat) 0) 63)).grownBy w4 (some r) := by rw [hw4]; exact grown_setCell (grown_refl _ _) 0 _
      have hB4 : BookW w4 w2.heap.size 63 v' (([] : List Ln).take (m)) (m : Nat) 0 := by
        refine ⟨(hg5.block _ hB3.blk.lt (fun e1 => by cases e1; omega)).trans hB3.blk, ownsRow_keep hB3.own fun q hq hlt => hg5.block q hlt (fun e1 => by cases e1; have := hz3 _ hq; omega), hB3.sep, hB3.len⟩
      clear hw4
      exact ⟨_, results_tmp rfl _ _ _, w2.heap.size, v', rfl, hk4, by rw [HM.out]; exact hB4, hle2, hz3, hg4⟩
    · cases e1
      have c2 : (w.setCell ⟨r, 0, none⟩ (.int .i32 1)).drew.cell? ⟨r, 2, none⟩ = some (.slice (some ⟨q, 0, none⟩) L.length c) := C2.out
      have had : (⟨q, 0, none⟩ : Addr).add 0 = ⟨q, 0, none⟩ := add_at q 0 0
      have hqr : q ≠ r := fun e1 => HH.out.sep (by rw [e1]; rfl)
      have hq3 : (w.setCell ⟨r, 0, none⟩ (.int .i32 1)).drew.heap[q]? = some (.cells cur 65 (0, 0)) := (heap_setCell_other w ⟨r, 0, none⟩ q _ hqr).trans e4
      have HQ := Lib.hid hq3; have HC8 := Lib.hid e8
      clear e3 e4 e5 e6 e7 e8 hq3 hqr
      go_wp2_with fail
      refine (clone_walk _ q (leftN L.length s keep) c HQ.out (leftN_le HS.out keep) HL.out HH.out.len HC8.out).mono ?_
      rintro x2 w2 ⟨v', rfl, k1, k2, k3⟩
      have hv1 : v'.oneCell' = true := by obtain ⟨a9, c9, rfl⟩ := run_len_any k1; rfl
      have kb := run_build (P := Try.prog) w2 63 _ _ (built_book hv1 (leftN L.length s keep : Nat))
      have KO := Lib.hid k1; have KW := Lib.hid k2; have KZ := Lib.hid k3; have KB := Lib.hid kb
      clear k1 k2 k3 kb hv1 c2
      go_wp2_with (refine wpList_run (v := .agg (BC 0 v' (leftN L.length s keep : Nat) 0)) (w2 := w2) rfl ?_ ?_; (focus (simp [execOp, Act.eval, KB.out, Sem.run_bind]; done)))
      have hB3 : BookW (w2.alloc (.cells (BC 0 v' (leftN L.length s keep : Nat) 0) 63)) w2.heap.size 63 v' (L.take (leftN L.length s keep)) (leftN L.length s keep : Nat) 0 := by
        refine ⟨Blk.newAt _ _ rfl, ?_, fun e1 => ?_, fun x hx => HH.out.len x (List.mem_of_mem_take hx)⟩
        · have e1 : (L.take (leftN L.length s keep)).length = leftN L.length s keep := by rw [List.length_take]; exact Nat.min_eq_left (leftN_le HS.out keep)
          rw [e1]
          exact ownsRow_keep KO.out fun q _ hq => Below.heap_alloc _ _ _ hq
        · rcases KO.out.2 with ⟨e2, _⟩ | ⟨q, cap, cur, e2, _, h5, _⟩ <;> rw [e2] at e1 <;> cases e1
          exact absurd (Array.getElem?_eq_some_iff.1 h5).1 (Nat.lt_irrefl _)
      have hs1 : (w.setCell ⟨r, 0, none⟩ (.int .i32 1)).drew.heap.size = w.heap.size := by simp [World.setCell, World.drew]
      have hk3 : Blk (w2.alloc (.cells (BC 0 v' (leftN L.length s keep : Nat) 0) 63)) r (BC 1 (.slice (some ⟨q, 0, none⟩) L.length c) s f) t := ((HB1.out.drew.keep KW.out)).keep ((Below.refl _ _).alloc (Nat.le_refl _) _)
      have hg3 : w.grownBy (w2.alloc (.cells (BC 0 v' (leftN L.length s keep : Nat) 0) 63)) (some r) := grown_trans (grown_trans (grown_drew HG1.out) (grownB KW.out)) (grown_alloc w2 _ _)
      have hrn : r < w.heap.size := HB.out.lt
      have hle2 : w.heap.size ≤ w2.heap.size := by have := KW.out.size; rw [hs1] at this; exact this
      have hz3 : ∀ z, v'.ownBlock = some z → w.heap.size ≤ z := fun z e1 => by have := KZ.out z e1; rw [hs1] at this; exact this
      refine leaves_cons (f := 25) (args := #[.pointer (some ⟨r, 0, none⟩)]) (by simp) (by simp [go_sem]) ?_
      refine (unlock_deferred ⟨r, 0, none⟩ _ _ (hk3.cell 0) (hk3.frozen 0)).mono ?_
      rintro x4 u' w4 ⟨rfl, rfl, hw4⟩
      have hk4 : Blk w4 r (BC 0 (.slice (some ⟨q, 0, none⟩) L.length c) s f) t := by rw [hw4]; exact (hk3.set 0 _).copy rfl
      have hg4 : w.grownBy w4 (some r) := by rw [hw4]; exact grown_setCell hg3 0 _
      have hg5 : (w2.alloc (.cells (BC 0 v' (leftN L.length s keep : Nat) 0) 63)).grownBy w4 (some r) := by rw [hw4]; exact grown_setCell (grown_refl _ _) 0 _
      have hB4 : BookW w4 w2.heap.size 63 v' (L.take (leftN L.length s keep)) (leftN L.length s keep : Nat) 0 := by
        refine ⟨(hg5.block _ hB3.blk.lt (fun e1 => by cases e1; omega)).trans hB3.blk, ownsRow_keep hB3.own fun q hq hlt => hg5.block q hlt (fun e1 => by cases e1; have := hz3 _ hq; omega), hB3.sep, hB3.len⟩
      clear hw4
      exact ⟨_, results_tmp rfl _ _ _, w2.heap.size, v', rfl, hk4, hB4, hle2, hz3, hg4⟩
end Go.Proofs.Ytcfdlffjghlghaa
