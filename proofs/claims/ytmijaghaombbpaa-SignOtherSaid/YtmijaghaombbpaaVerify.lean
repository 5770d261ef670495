/-
  Signatures: the walks of Verify, the program's and the document's, and of the document's Sign.
-/
import Derived.Test.YtmijaghaombbpaaSign2
namespace Go.Proofs.Ytmijaghaombbpaa
set_option maxRecDepth 100000
open Go.RowKit Pm
set_option linter.unusedVariables false
set_option linter.unusedSimpArgs false

theorem below_drew1 {B : Nat} {a b : World} (h : Below B a b) : Below B a b.drew := ⟨h.os, h.tape, h.output, h.size, h.block⟩
theorem verW_y {y e s : Int} {p : List UInt8} (h : isI y = false) : verW y p e s = false := by unfold verW; rw [h]; simp
theorem verW_e {y e s : Int} {p : List UInt8} (h : ¬ (0 ≤ e ∧ e < 1073741789)) : verW y p e s = false := by unfold verW; rw [decide_eq_false h]; simp
theorem verW_s {y e s : Int} {p : List UInt8} (h : ¬ (0 ≤ s ∧ s < 1073741789)) : verW y p e s = false := by unfold verW; rw [decide_eq_false h]; simp
theorem verW_all {y e s : Int} {p : List UInt8} (hy : isI y = true) (he : 0 ≤ e ∧ e < 1073741789) (hs : 0 ≤ s ∧ s < 1073741789) : verW y p e s = (e == askW (mulI (powI 4 s) (powI y (1073741789 - e))) y p) := by
  unfold verW; rw [hy, decide_eq_true he, decide_eq_true hs]; simp

set_option maxHeartbeats 1600000 in
theorem verify_any (y e s : Int) (a : Option Addr) (l c : Nat) (p : List UInt8) (w : World) (hp : Arg8 w a l c p) :
    Calls Try.prog 15 #[.int .i64 y, .slice a l c, .agg #[.int .i64 e, .int .i64 s]] w fun r w' => r = .returned (.bool (verW y p e s)) ∧ Below w.heap.size w w' := by
  have hX0 : Blk (w.alloc (.cells #[.int .i64 e, .int .i64 s] 31)) w.heap.size #[.int .i64 e, .int .i64 s] 31 := Blk.new w _ _
  have c0 : (w.alloc (.cells #[.int .i64 e, .int .i64 s] 31)).cell? ⟨w.heap.size, 0, none⟩ = some (.int .i64 e) := hX0.cell 0
  have c1 : (w.alloc (.cells #[.int .i64 e, .int .i64 s] 31)).cell? ⟨w.heap.size, 1, none⟩ = some (.int .i64 s) := hX0.cell 1
  clear hX0
  have HP := Lib.hid hp
  clear hp
  rcases hy : isI y with _ | _
  · rw [verW_y hy]
    have HI := Lib.hid hy
    clear hy
    go_enter Try.func15, Try.ntmps15
    go_wp2_with (go_at_call 32; with_reducible refine (is_any y _).mono ?_; rintro e' w' ⟨rfl, rfl⟩; rw [HI.out])
    go_ret
    exact ⟨rfl, (Below.refl _ _).next (Nat.le_refl _) _⟩
  by_cases he0 : e < 0
  · rw [verW_e (by omega)]
    have HI := Lib.hid hy
    have HE := Lib.hid (decide_eq_false (show ¬ (0 ≤ e ∧ e < 1073741789) by omega))
    clear hy
    go_enter Try.func15, Try.ntmps15
    go_wp2_with (first | (go_at_call 32; with_reducible refine (is_any y _).mono ?_; rintro e' w' ⟨rfl, rfl⟩; rw [HI.out]) | (go_at_call 33; with_reducible refine (below_any e _).mono ?_; rintro e' w' ⟨rfl, rfl⟩; rw [HE.out]))
    go_ret
    exact ⟨rfl, (Below.refl _ _).next (Nat.le_refl _) _⟩
  by_cases he1 : e ≥ 1073741789
  · rw [verW_e (by omega)]
    have HI := Lib.hid hy
    have HE := Lib.hid (decide_eq_false (show ¬ (0 ≤ e ∧ e < 1073741789) by omega))
    clear hy
    go_enter Try.func15, Try.ntmps15
    go_wp2_with (first | (go_at_call 32; with_reducible refine (is_any y _).mono ?_; rintro e' w' ⟨rfl, rfl⟩; rw [HI.out]) | (go_at_call 33; with_reducible refine (below_any e _).mono ?_; rintro e' w' ⟨rfl, rfl⟩; rw [HE.out]))
    go_ret
    exact ⟨rfl, (Below.refl _ _).next (Nat.le_refl _) _⟩
  by_cases hs0 : s < 0
  · rw [verW_s (by omega)]
    have HI := Lib.hid hy
    have HS := Lib.hid (decide_eq_false (show ¬ (0 ≤ s ∧ s < 1073741789) by omega))
    have HE := Lib.hid (decide_eq_true (show 0 ≤ e ∧ e < 1073741789 by omega))
    clear hy
    go_enter Try.func15, Try.ntmps15
    go_wp2_with (first | (go_at_call 32; with_reducible refine (is_any y _).mono ?_; rintro e' w' ⟨rfl, rfl⟩; rw [HI.out]) | (go_at_call 33; with_reducible refine (below_any e _).mono ?_; rintro e' w' ⟨rfl, rfl⟩; rw [HE.out]) | (go_at_call 33; with_reducible refine (below_any s _).mono ?_; rintro e' w' ⟨rfl, rfl⟩; rw [HS.out]))
    go_ret
    exact ⟨rfl, (Below.refl _ _).next (Nat.le_refl _) _⟩
  by_cases hs1 : s ≥ 1073741789
  · rw [verW_s (by omega)]
    have HI := Lib.hid hy
    have HS := Lib.hid (decide_eq_false (show ¬ (0 ≤ s ∧ s < 1073741789) by omega))
    have HE := Lib.hid (decide_eq_true (show 0 ≤ e ∧ e < 1073741789 by omega))
    clear hy
    go_enter Try.func15, Try.ntmps15
    go_wp2_with (first | (go_at_call 32; with_reducible refine (is_any y _).mono ?_; rintro e' w' ⟨rfl, rfl⟩; rw [HI.out]) | (go_at_call 33; with_reducible refine (below_any e _).mono ?_; rintro e' w' ⟨rfl, rfl⟩; rw [HE.out]) | (go_at_call 33; with_reducible refine (below_any s _).mono ?_; rintro e' w' ⟨rfl, rfl⟩; rw [HS.out]))
    go_ret
    exact ⟨rfl, (Below.refl _ _).next (Nat.le_refl _) _⟩
  rw [verW_all hy (by omega) (by omega)]
  obtain ⟨m, hm⟩ : ∃ m, mulI (powI 4 s) (powI y (1073741789 - e)) = m := ⟨_, rfl⟩
  obtain ⟨A, hA⟩ : ∃ A, askW m y p = A := ⟨_, rfl⟩
  rw [hm, hA]
  have HM := Lib.hid hm; have HA := Lib.hid hA; have HI := Lib.hid hy
  have HE := Lib.hid (decide_eq_true (show 0 ≤ e ∧ e < 1073741789 by omega)); have HS := Lib.hid (decide_eq_true (show 0 ≤ s ∧ s < 1073741789 by omega))
  have hw1 : IntKind.i64.wrap (1073741789 - e) = 1073741789 - e := IntWalk.i64_in _ (by omega)
  clear hm hA hy
  go_enter Try.func15, Try.ntmps15
  go_wp2_with (first | (go_at_call 32; with_reducible refine (is_any y _).mono ?_; rintro e' w' ⟨rfl, rfl⟩; rw [HI.out]) | (go_at_call 33; with_reducible refine (below_any e _).mono ?_; rintro e' w' ⟨rfl, rfl⟩; rw [HE.out]) | (go_at_call 33; with_reducible refine (below_any s _).mono ?_; rintro e' w' ⟨rfl, rfl⟩; rw [HS.out]))
  refine region_tail 9 (by kernel_rfl) (by kernel_rfl) ?_
  simp only [List.take_succ_cons, List.take_zero, List.drop_succ_cons, List.drop_zero]
  still_step
  still_step
  still_call ((pow_any 4 s _).mono fun _ _ h => ⟨h.1, h.2.symm⟩)
  still_step
  still_step
  still_step
  still_step
  still_call ((pow_any y (1073741789 - e) _).mono fun _ _ h => ⟨h.1, h.2.symm⟩)
  still_call ((mul_any (powI 4 s) (powI y (1073741789 - e)) _).mono fun _ _ h => ⟨h.1, h.2.symm⟩)
  refine wpStill_nil ?_
  rw [HM.out]
  go_wp2
  refine wp_gen (fun wr hwr => ?_)
  have HC0 : Hid (wr.cell? ⟨w.heap.size, 0, none⟩ = some (.int .i64 e)) := Lib.hid (by rw [hwr]; exact c0)
  have hB0 : Below w.heap.size w wr := by rw [hwr]; exact below_drew1 ((Below.refl _ _).next (Nat.le_refl _) _)
  have HP1 : Hid (Arg8 wr a l c p) := Lib.hid (by rw [hwr]; exact HP.out.below (below_drew1 ((Below.refl _ _).next (Nat.le_refl _) _)))
  clear hwr c0 c1
  refine region_grows _ (Nat.le_refl _) [isV 0 (.pointer (some ⟨w.heap.size, 0, none⟩)), isV 1 (.int .i64 e), isV 2 (.int .i64 m), isV 3 (.int .i64 y), isV 4 (.slice a l c), isV 5 (.int .i64 A), isV 6 (.bool (e == A)), isV 7 (.bool (e == A))]
    [[], [0], [], [], [], [2, 3, 4], [1, 5], [6]] [some 32, some 33, some 34, some 35, some 36, some 37, some 38, some 6] _ (by kernel_rfl) (by kernel_rfl) (by kernel_rfl) (by kernel_rfl) (by kernel_rfl) rfl ?_ ?_ ?_
  · repeat (first | exact st_nil | refine st_cons (by first | exact st_is _ _ | exact st_as _ _ | exact st_row _ _ _ | exact st_rows _ _ _ | exact st_lit _ _ _ _ _ | exact st_args _ _ _ | exact st_bytes _ _) ?_)
  · intro hgz
    refine ⟨?_, ?_, ?_, ?_, ?_, ?_, ?_, ?_, trivial⟩ <;> intro vals w1 hb hf <;> obtain ⟨hb, hz⟩ := hgz w1 hb <;> simp [leans, factsOf, phi, sel_lit, sel_row, sel_rows, sel_args, sel_bytes, isV, asV, sel] at hf <;> simp [putD, phi, Act.put]
    · -- 0 fieldAddr 
      go_wp2
      exact ⟨rfl, rfl, .refl _ _, mk_is rfl⟩
    · -- 1 load 
      simp only [hf]; clear hf
      have cE := (hb.below.cell (block_lt_of_cell HC0.out)).trans HC0.out
      go_wp2
      exact ⟨rfl, rfl, .refl _ _, mk_is rfl⟩
    · -- 2 move 
      go_wp2
      exact ⟨rfl, rfl, .refl _ _, mk_is rfl⟩
    · -- 3 move 
      go_wp2
      exact ⟨rfl, rfl, .refl _ _, mk_is rfl⟩
    · -- 4 move 
      go_wp2
      exact ⟨rfl, rfl, .refl _ _, mk_is rfl⟩
    · -- 5 call curia/sign.asked 
      simp only [hf]; clear hf
      go_wp2_with (first | (go_at_call 25; refine (asked_any m y a l c p _ (HP1.out.below (hb.below.mono (Nat.le_refl _)))).mono ?_; rintro e w' ⟨rfl, hb'⟩; rw [HA.out]))
      exact ⟨rfl, rfl, Grows.of hb' hz, mk_is rfl⟩
    · -- 6 binOp 
      simp only [hf]; clear hf
      go_wp2
      exact ⟨rfl, rfl, .refl _ _, mk_is rfl⟩
    · -- 7 assign 
      simp only [hf]; clear hf
      go_wp2
      exact ⟨rfl, rfl, .refl _ _, mk_is rfl⟩
  · intro vals w1 hb hf; simp [leans, List.range, List.range.loop, factsOf, phi, sel_lit, sel_row, sel_rows, sel_args, sel_bytes, isV, asV, sel] at hf; simp [putD, List.range, List.range.loop, Act.put, hf]
    go_wp2
    go_ret
    exact ⟨rfl, hB0.lift hb.below hB0.size⟩




set_option maxHeartbeats 1600000 in
theorem rverify_any (y e s : Int) (a : Option Addr) (l c : Nat) (p : List UInt8) (w : World) (hp : Arg8 w a l c p) :
    Calls Try.prog 17 #[.int .i64 y, .slice a l c, .agg #[.int .i64 e, .int .i64 s]] w fun r w' => r = .returned (.bool (verW y p e s)) ∧ Below w.heap.size w w' := by
  have hX0 : Blk (w.alloc (.cells #[.int .i64 e, .int .i64 s] 31)) w.heap.size #[.int .i64 e, .int .i64 s] 31 := Blk.new w _ _
  have c0 : (w.alloc (.cells #[.int .i64 e, .int .i64 s] 31)).cell? ⟨w.heap.size, 0, none⟩ = some (.int .i64 e) := hX0.cell 0
  have c1 : (w.alloc (.cells #[.int .i64 e, .int .i64 s] 31)).cell? ⟨w.heap.size, 1, none⟩ = some (.int .i64 s) := hX0.cell 1
  clear hX0
  have HP := Lib.hid hp
  clear hp
  rcases hy : isI y with _ | _
  · rw [verW_y hy]
    have HI := Lib.hid hy
    clear hy
    go_enter Try.func17, Try.ntmps17
    go_wp2_with (go_at_call 35; with_reducible refine (ris_any y _).mono ?_; rintro e' w' ⟨rfl, rfl⟩; rw [HI.out])
    go_ret
    exact ⟨rfl, (Below.refl _ _).next (Nat.le_refl _) _⟩
  by_cases he0 : e < 0
  · rw [verW_e (by omega)]
    have HI := Lib.hid hy
    clear hy
    go_enter Try.func17, Try.ntmps17
    go_wp2_with (go_at_call 35; with_reducible refine (ris_any y _).mono ?_; rintro e' w' ⟨rfl, rfl⟩; rw [HI.out])
    go_ret
    exact ⟨rfl, (Below.refl _ _).next (Nat.le_refl _) _⟩
  by_cases he1 : e ≥ 1073741789
  · rw [verW_e (by omega)]
    have HI := Lib.hid hy
    clear hy
    go_enter Try.func17, Try.ntmps17
    go_wp2_with (go_at_call 35; with_reducible refine (ris_any y _).mono ?_; rintro e' w' ⟨rfl, rfl⟩; rw [HI.out])
    go_ret
    exact ⟨rfl, (Below.refl _ _).next (Nat.le_refl _) _⟩
  by_cases hs0 : s < 0
  · rw [verW_s (by omega)]
    have HI := Lib.hid hy
    clear hy
    go_enter Try.func17, Try.ntmps17
    go_wp2_with (go_at_call 35; with_reducible refine (ris_any y _).mono ?_; rintro e' w' ⟨rfl, rfl⟩; rw [HI.out])
    go_ret
    exact ⟨rfl, (Below.refl _ _).next (Nat.le_refl _) _⟩
  by_cases hs1 : s ≥ 1073741789
  · rw [verW_s (by omega)]
    have HI := Lib.hid hy
    clear hy
    go_enter Try.func17, Try.ntmps17
    go_wp2_with (go_at_call 35; with_reducible refine (ris_any y _).mono ?_; rintro e' w' ⟨rfl, rfl⟩; rw [HI.out])
    go_ret
    exact ⟨rfl, (Below.refl _ _).next (Nat.le_refl _) _⟩
  rw [verW_all hy (by omega) (by omega)]
  obtain ⟨m, hm⟩ : ∃ m, mulI (powI 4 s) (powI y (1073741789 - e)) = m := ⟨_, rfl⟩
  obtain ⟨A, hA⟩ : ∃ A, askW m y p = A := ⟨_, rfl⟩
  rw [hm, hA]
  have HM := Lib.hid hm; have HA := Lib.hid hA; have HI := Lib.hid hy
  have hw1 : IntKind.i64.wrap (1073741789 - e) = 1073741789 - e := IntWalk.i64_in _ (by omega)
  clear hm hA hy
  go_enter Try.func17, Try.ntmps17
  go_wp2_with (go_at_call 35; with_reducible refine (ris_any y _).mono ?_; rintro e' w' ⟨rfl, rfl⟩; rw [HI.out])
  refine region_tail 9 (by kernel_rfl) (by kernel_rfl) ?_
  simp only [List.take_succ_cons, List.take_zero, List.drop_succ_cons, List.drop_zero]
  still_step
  still_step
  still_call ((rpow_any 4 s _).mono fun _ _ h => ⟨h.1, h.2.symm⟩)
  still_step
  still_step
  still_step
  still_step
  still_call ((rpow_any y (1073741789 - e) _).mono fun _ _ h => ⟨h.1, h.2.symm⟩)
  still_call ((rmul_any (powI 4 s) (powI y (1073741789 - e)) _).mono fun _ _ h => ⟨h.1, h.2.symm⟩)
  refine wpStill_nil ?_
  rw [HM.out]
  go_wp2
  refine wp_gen (fun wr hwr => ?_)
  have HC0 : Hid (wr.cell? ⟨w.heap.size, 0, none⟩ = some (.int .i64 e)) := Lib.hid (by rw [hwr]; exact c0)
  have hB0 : Below w.heap.size w wr := by rw [hwr]; exact below_drew1 ((Below.refl _ _).next (Nat.le_refl _) _)
  have HP1 : Hid (Arg8 wr a l c p) := Lib.hid (by rw [hwr]; exact HP.out.below (below_drew1 ((Below.refl _ _).next (Nat.le_refl _) _)))
  clear hwr c0 c1
  refine region_grows _ (Nat.le_refl _) [isV 0 (.int .i64 m), isV 1 (.int .i64 y), isV 2 (.slice a l c), isV 3 (.int .i64 A), isV 4 (.pointer (some ⟨w.heap.size, 0, none⟩)), isV 5 (.int .i64 e), isV 6 (.bool (e == A)), isV 7 (.bool (e == A))]
    [[], [], [], [0, 1, 2], [], [4], [3, 5], [6]] [some 40, some 41, some 42, some 43, some 44, some 45, some 46, some 6] _ (by kernel_rfl) (by kernel_rfl) (by kernel_rfl) (by kernel_rfl) (by kernel_rfl) rfl ?_ ?_ ?_
  · repeat (first | exact st_nil | refine st_cons (by first | exact st_is _ _ | exact st_as _ _ | exact st_row _ _ _ | exact st_rows _ _ _ | exact st_lit _ _ _ _ _ | exact st_args _ _ _ | exact st_bytes _ _) ?_)
  · intro hgz
    refine ⟨?_, ?_, ?_, ?_, ?_, ?_, ?_, ?_, trivial⟩ <;> intro vals w1 hb hf <;> obtain ⟨hb, hz⟩ := hgz w1 hb <;> simp [leans, factsOf, phi, sel_lit, sel_row, sel_rows, sel_args, sel_bytes, isV, asV, sel] at hf <;> simp [putD, phi, Act.put]
    · -- 0 move 
      go_wp2
      exact ⟨rfl, rfl, .refl _ _, mk_is rfl⟩
    · -- 1 move 
      go_wp2
      exact ⟨rfl, rfl, .refl _ _, mk_is rfl⟩
    · -- 2 move 
      go_wp2
      exact ⟨rfl, rfl, .refl _ _, mk_is rfl⟩
    · -- 3 call curia/curiaref4.number 
      simp only [hf]; clear hf
      go_wp2_with (first | (go_at_call 31; refine (rasked_any m y a l c p _ (HP1.out.below (hb.below.mono (Nat.le_refl _)))).mono ?_; rintro e w' ⟨rfl, hb'⟩; rw [HA.out]))
      exact ⟨rfl, rfl, Grows.of hb' hz, mk_is rfl⟩
    · -- 4 fieldAddr 
      go_wp2
      exact ⟨rfl, rfl, .refl _ _, mk_is rfl⟩
    · -- 5 load 
      simp only [hf]; clear hf
      have cE := (hb.below.cell (block_lt_of_cell HC0.out)).trans HC0.out
      go_wp2
      exact ⟨rfl, rfl, .refl _ _, mk_is rfl⟩
    · -- 6 binOp 
      simp only [hf]; clear hf
      have hcomm : (A == e) = (e == A) := by rw [Bool.eq_iff_iff]; simp; exact eq_comm
      go_wp2
      try rw [hcomm]
      exact ⟨rfl, rfl, .refl _ _, mk_is rfl⟩
    · -- 7 assign 
      simp only [hf]; clear hf
      go_wp2
      exact ⟨rfl, rfl, .refl _ _, mk_is rfl⟩
  · intro vals w1 hb hf; simp [leans, List.range, List.range.loop, factsOf, phi, sel_lit, sel_row, sel_rows, sel_args, sel_bytes, isV, asV, sel] at hf; simp [putD, List.range, List.range.loop, Act.put, hf]
    go_wp2
    go_ret
    exact ⟨rfl, hB0.lift hb.below hB0.size⟩
end Go.Proofs.Ytmijaghaombbpaa
