/-
  The law RowsOrder, walked.
-/
import Derived.Test.YtgghkeinkcpboaaRowsNums
namespace Go.Proofs.Ytgghkeinkcpboaa
set_option maxRecDepth 100000
open Go.RowKit
set_option linter.unusedVariables false
set_option linter.unusedSimpArgs false

/-- bytes as a number, from the front -/
def valR : List UInt8 → Nat
  | [] => 0
  | c :: l => c.toNat * 256 ^ l.length + valR l
theorem valR_cons (c : UInt8) (l : List UInt8) : valR (c :: l) = c.toNat * 256 ^ l.length + valR l := rfl
theorem valR_bd : ∀ (l : List UInt8), valR l < 256 ^ l.length
  | [] => by simp [valR]
  | c :: l => by
    have ih := valR_bd l
    have hc := UInt8.toNat_lt c
    have h1 : c.toNat * 256 ^ l.length ≤ 255 * 256 ^ l.length := Nat.mul_le_mul_right _ (by omega)
    have e : 256 ^ (c :: l).length = 255 * 256 ^ l.length + 256 ^ l.length := by rw [List.length_cons, Nat.pow_succ]; omega
    rw [e, valR_cons]
    omega
theorem less_val : ∀ (x y : List UInt8), x.length = y.length → Op.bytesLess x y = decide (valR x < valR y)
  | [], [], _ => by simp [Op.bytesLess, valR]
  | _ :: _, [], h => by simp at h
  | [], _ :: _, h => by simp at h
  | a :: x, b :: y, h => by
    have hl : x.length = y.length := by simpa using h
    rw [Op.bytesLess, less_val x y hl]
    have hx := valR_bd x
    have hy := valR_bd y
    rw [valR_cons, valR_cons]
    rw [hl] at hx ⊢
    generalize 256 ^ y.length = P at *
    by_cases h1 : a < b
    · have h2 : a.toNat + 1 ≤ b.toNat := UInt8.lt_iff_toNat_lt.1 h1
      have h3 : (a.toNat + 1) * P ≤ b.toNat * P := Nat.mul_le_mul_right _ h2
      rw [Nat.add_mul] at h3
      simp [h1]; omega
    · by_cases h2 : a = b
      · subst h2
        simp
      · have h3 : b.toNat + 1 ≤ a.toNat := by
          have h4 : ¬ a.toNat < b.toNat := fun h => h1 (UInt8.lt_iff_toNat_lt.2 h)
          have h5 : a.toNat ≠ b.toNat := fun h => h2 (UInt8.toNat_inj.1 h)
          omega
        have h4 : (b.toNat + 1) * P ≤ a.toNat * P := Nat.mul_le_mul_right _ h3
        rw [Nat.add_mul] at h4
        have h5 : ¬ (a.toNat * P + valR x < b.toNat * P + valR y) := by omega
        rw [decide_eq_false h5]
        simp [h1, h2]
theorem valR_numB (n : Int) : valR (numB n) = numK (numB n) := by
  simp [valR, numK, numB]
  omega
theorem less_numB (a b : Int) (ha : 0 ≤ a ∧ a ≤ 9223372036854775807) (hb : 0 ≤ b ∧ b ≤ 9223372036854775807) : Op.bytesLess (strB (numB a)).toList (strB (numB b)).toList = decide (a < b) := by
  have e : ∀ l, (strB l).toList = l := fun l => ByteArray.toList_mk l
  rw [e, e, less_val _ _ (by rw [numB_length, numB_length]), valR_numB, valR_numB]
  have h1 := numK_numB a ha
  have h2 := numK_numB b hb
  by_cases h : a < b
  · rw [decide_eq_true h, decide_eq_true (by omega)]
  · rw [decide_eq_false h, decide_eq_false (by omega)]

set_option maxRecDepth 100000 in
set_option maxHeartbeats 4000000 in
theorem rowsOrder_walk {w : World} (a : Int) (wa : (Lit.int .i64 a).wf = true) (b : Int) (wb : (Lit.int .i64 b).wf = true) :
    Calls Try.prog 10 #[.int .i64 a, .int .i64 b] w fun e w' => e = .returned (.bool true) ∧ Below w.heap.size w w' := by
  have ha2 : a ≤ 9223372036854775807 := by
    simp [Lit.wf, IntKind.min, IntKind.max, IntKind.signed, IntKind.bits] at wa
    omega
  have hb2 : b ≤ 9223372036854775807 := by
    simp [Lit.wf, IntKind.min, IntKind.max, IntKind.signed, IntKind.bits] at wb
    omega
  clear wa wb
  by_cases h1 : a < 0
  · go_enter Try.func10, Try.ntmps10
    go_wp2
    go_ret
    exact ⟨rfl, Below.refl _ _⟩
  by_cases h2 : b < 0
  · go_enter Try.func10, Try.ntmps10
    go_wp2
    go_ret
    exact ⟨rfl, Below.refl _ _⟩
  have hls := less_numB a b ⟨by omega, ha2⟩ ⟨by omega, hb2⟩
  by_cases hab : a < b
  · skip
    rw [decide_eq_true hab] at hls
    have HLS := Lib.hid hls
    clear hls
    go_enter Try.func10, Try.ntmps10
    go_wp2_with fail
    refine wp_gen (fun wr hwr => ?_)
    have hB0 : Below w.heap.size w wr := by rw [hwr]; exact Below.refl _ _
    clear hwr
    refine region_grows _ (Nat.le_refl _) [isV 0 (.int .i64 a), litV wr.heap.size 1 8 (numB a) 5, isV 2 (.string (strB (numB a))), isV 3 (.int .i64 b), litV wr.heap.size 4 8 (numB b) 5, isV 5 (.string (strB (numB b))), isV 6 (.bool true), isV 7 (.int .i64 a), isV 8 (.int .i64 b), isV 9 (.bool true), isV 10 (.bool true), isV 11 (.bool true), isV 12 (.int .i64 a), litV wr.heap.size 13 8 (numB a) 5, isV 14 (.int .i64 8), isV 15 (.bool true), isV 16 (.bool true), isV 17 (.bool true), isV 18 (.bool true), isV 19 (.bool true), isV 20 (.bool true)]
      [[], [0], [1], [], [3], [4], [2, 5], [], [], [7, 8], [6, 9], [10], [11], [11, 12], [11, 13], [11, 14], [11, 15], [16], [17], [17, 18], [19]] [some 11, some 12, some 13, some 14, some 15, some 16, some 17, some 18, some 19, some 20, some 21, some 22, some 23, some 24, some 25, some 26, some 27, some 28, some 29, some 30, some 4] _ (by kernel_rfl) (by kernel_rfl) (by kernel_rfl) (by kernel_rfl) (by kernel_rfl) rfl ?_ ?_ ?_
    · repeat (first | exact st_nil | refine st_cons (by first | exact st_is _ _ | exact st_as _ _ | exact st_row _ _ _ | exact st_rows _ _ _ | exact st_lit _ _ _ _ _ | exact st_args _ _ _ | exact st_bytes _ _) ?_)
    · intro hgz
      refine ⟨?_, ?_, ?_, ?_, ?_, ?_, ?_, ?_, ?_, ?_, ?_, ?_, ?_, ?_, ?_, ?_, ?_, ?_, ?_, ?_, ?_, trivial⟩ <;> intro vals w1 hb hf <;> obtain ⟨hb, hz⟩ := hgz w1 hb <;> simp [leans, factsOf, phi, sel_lit, sel_row, sel_rows, sel_args, sel_bytes, isV, asV, sel] at hf <;> simp [putD, phi, Act.put]
      · -- 0 move 
        go_wp2
        exact ⟨rfl, rfl, .refl _ _, mk_is rfl⟩
      · -- 1 call curia/rows.Num 
        simp only [hf]; clear hf
        go_wp2_with (first | (go_at_call 20; refine (num_any a _).mono ?_; rintro e w' ⟨Q, rfl, hQ0, hQ, hb'⟩; have hl' := Lib.hid (show w'.heap[Q]? = some (.cells (HC (numB a)) 5 (0, 0)) from hQ); clear hQ))
        exact ⟨rfl, rfl, Grows.of hb' hz, mk_lit Q (0, 0) (Nat.le_trans hz hQ0) rfl hl'.out⟩
      · -- 2 convert 
        obtain ⟨g1, fr1, hg1, e1, hblk1⟩ := hf
        simp only [e1]
        have kS := (show Row8 w1 (some ⟨g1, 0, none⟩) 8 (numB a) from Row8.ofCells hblk1 rfl (by simp [maxLen, numB])).str (P := Try.prog) 24 9 5 8 Try.underlying24 Try.underlying5 Try.underlying9
        go_wp2
        exact ⟨rfl, rfl, .refl _ _, mk_is rfl⟩
      · -- 3 move 
        go_wp2
        exact ⟨rfl, rfl, .refl _ _, mk_is rfl⟩
      · -- 4 call curia/rows.Num 
        simp only [hf]; clear hf
        go_wp2_with (first | (go_at_call 20; refine (num_any b _).mono ?_; rintro e w' ⟨Q, rfl, hQ0, hQ, hb'⟩; have hl' := Lib.hid (show w'.heap[Q]? = some (.cells (HC (numB b)) 5 (0, 0)) from hQ); clear hQ))
        exact ⟨rfl, rfl, Grows.of hb' hz, mk_lit Q (0, 0) (Nat.le_trans hz hQ0) rfl hl'.out⟩
      · -- 5 convert 
        obtain ⟨g4, fr4, hg4, e4, hblk4⟩ := hf
        simp only [e4]
        have kS := (show Row8 w1 (some ⟨g4, 0, none⟩) 8 (numB b) from Row8.ofCells hblk4 rfl (by simp [maxLen, numB])).str (P := Try.prog) 24 9 5 8 Try.underlying24 Try.underlying5 Try.underlying9
        go_wp2
        exact ⟨rfl, rfl, .refl _ _, mk_is rfl⟩
      · -- 6 binOp 
        simp only [hf]; clear hf
        have hls := HLS.out
        go_wp2
        exact ⟨rfl, rfl, .refl _ _, mk_is rfl⟩
      · -- 7 move 
        go_wp2
        exact ⟨rfl, rfl, .refl _ _, mk_is rfl⟩
      · -- 8 move 
        go_wp2
        exact ⟨rfl, rfl, .refl _ _, mk_is rfl⟩
      · -- 9 binOp 
        simp only [hf]; clear hf
        go_wp2
        exact ⟨rfl, rfl, .refl _ _, mk_is rfl⟩
      · -- 10 binOp 
        simp only [hf]; clear hf
        go_wp2
        exact ⟨rfl, rfl, .refl _ _, mk_is rfl⟩
      · -- 11 move 
        simp only [hf]; clear hf
        go_wp2
        exact ⟨rfl, rfl, .refl _ _, mk_is rfl⟩
      · -- 12 move if some (11, true)
        simp only [hf]; clear hf
        go_wp2
        exact ⟨rfl, rfl, .refl _ _, mk_is rfl⟩
      · -- 13 call curia/rows.Num if some (11, true)
        simp only [hf]; clear hf
        go_wp2_with (first | (go_at_call 20; refine (num_any a _).mono ?_; rintro e w' ⟨Q, rfl, hQ0, hQ, hb'⟩; have hl' := Lib.hid (show w'.heap[Q]? = some (.cells (HC (numB a)) 5 (0, 0)) from hQ); clear hQ))
        exact ⟨rfl, rfl, Grows.of hb' hz, mk_lit Q (0, 0) (Nat.le_trans hz hQ0) rfl hl'.out⟩
      · -- 14 call if some (11, true)
        obtain ⟨e11, g13, fr13, hg13, e13, hblk13⟩ := hf
        simp only [e11, e13]
        go_wp2
        exact ⟨rfl, rfl, .refl _ _, mk_is rfl⟩
      · -- 15 binOp if some (11, true)
        simp only [hf]; clear hf
        go_wp2
        exact ⟨rfl, rfl, .refl _ _, mk_is rfl⟩
      · -- 16 pick 
        simp only [hf]; clear hf
        go_wp2
        exact ⟨rfl, rfl, .refl _ _, mk_is rfl⟩
      · -- 17 move 
        simp only [hf]; clear hf
        go_wp2
        exact ⟨rfl, rfl, .refl _ _, mk_is rfl⟩
      · -- 18 call curia/curialaw6.known if some (17, true)
        simp only [hf]; clear hf
        go_wp2_with (first | (go_at_call 14; refine (known_rows _).mono ?_; rintro e w' ⟨rfl, hb'⟩))
        exact ⟨rfl, rfl, Grows.of hb' hz, mk_is rfl⟩
      · -- 19 pick 
        simp only [hf]; clear hf
        go_wp2
        exact ⟨rfl, rfl, .refl _ _, mk_is rfl⟩
      · -- 20 assign 
        simp only [hf]; clear hf
        go_wp2
        exact ⟨rfl, rfl, .refl _ _, mk_is rfl⟩
    · intro vals w1 hb hf; simp [leans, List.range, List.range.loop, factsOf, phi, sel_lit, sel_row, sel_rows, sel_args, sel_bytes, isV, asV, sel] at hf; simp [putD, List.range, List.range.loop, Act.put, hf]
      go_wp2
      go_ret
      exact ⟨rfl, hB0.lift hb.below hB0.size⟩
  · skip
    rw [decide_eq_false hab] at hls
    have HLS := Lib.hid hls
    clear hls
    go_enter Try.func10, Try.ntmps10
    go_wp2_with fail
    refine wp_gen (fun wr hwr => ?_)
    have hB0 : Below w.heap.size w wr := by rw [hwr]; exact Below.refl _ _
    clear hwr
    refine region_grows _ (Nat.le_refl _) [isV 0 (.int .i64 a), litV wr.heap.size 1 8 (numB a) 5, isV 2 (.string (strB (numB a))), isV 3 (.int .i64 b), litV wr.heap.size 4 8 (numB b) 5, isV 5 (.string (strB (numB b))), isV 6 (.bool false), isV 7 (.int .i64 a), isV 8 (.int .i64 b), isV 9 (.bool false), isV 10 (.bool true), isV 11 (.bool true), isV 12 (.int .i64 a), litV wr.heap.size 13 8 (numB a) 5, isV 14 (.int .i64 8), isV 15 (.bool true), isV 16 (.bool true), isV 17 (.bool true), isV 18 (.bool true), isV 19 (.bool true), isV 20 (.bool true)]
      [[], [0], [1], [], [3], [4], [2, 5], [], [], [7, 8], [6, 9], [10], [11], [11, 12], [11, 13], [11, 14], [11, 15], [16], [17], [17, 18], [19]] [some 11, some 12, some 13, some 14, some 15, some 16, some 17, some 18, some 19, some 20, some 21, some 22, some 23, some 24, some 25, some 26, some 27, some 28, some 29, some 30, some 4] _ (by kernel_rfl) (by kernel_rfl) (by kernel_rfl) (by kernel_rfl) (by kernel_rfl) rfl ?_ ?_ ?_
    · repeat (first | exact st_nil | refine st_cons (by first | exact st_is _ _ | exact st_as _ _ | exact st_row _ _ _ | exact st_rows _ _ _ | exact st_lit _ _ _ _ _ | exact st_args _ _ _ | exact st_bytes _ _) ?_)
    · intro hgz
      refine ⟨?_, ?_, ?_, ?_, ?_, ?_, ?_, ?_, ?_, ?_, ?_, ?_, ?_, ?_, ?_, ?_, ?_, ?_, ?_, ?_, ?_, trivial⟩ <;> intro vals w1 hb hf <;> obtain ⟨hb, hz⟩ := hgz w1 hb <;> simp [leans, factsOf, phi, sel_lit, sel_row, sel_rows, sel_args, sel_bytes, isV, asV, sel] at hf <;> simp [putD, phi, Act.put]
      · -- 0 move 
        go_wp2
        exact ⟨rfl, rfl, .refl _ _, mk_is rfl⟩
      · -- 1 call curia/rows.Num 
        simp only [hf]; clear hf
        go_wp2_with (first | (go_at_call 20; refine (num_any a _).mono ?_; rintro e w' ⟨Q, rfl, hQ0, hQ, hb'⟩; have hl' := Lib.hid (show w'.heap[Q]? = some (.cells (HC (numB a)) 5 (0, 0)) from hQ); clear hQ))
        exact ⟨rfl, rfl, Grows.of hb' hz, mk_lit Q (0, 0) (Nat.le_trans hz hQ0) rfl hl'.out⟩
      · -- 2 convert 
        obtain ⟨g1, fr1, hg1, e1, hblk1⟩ := hf
        simp only [e1]
        have kS := (show Row8 w1 (some ⟨g1, 0, none⟩) 8 (numB a) from Row8.ofCells hblk1 rfl (by simp [maxLen, numB])).str (P := Try.prog) 24 9 5 8 Try.underlying24 Try.underlying5 Try.underlying9
        go_wp2
        exact ⟨rfl, rfl, .refl _ _, mk_is rfl⟩
      · -- 3 move 
        go_wp2
        exact ⟨rfl, rfl, .refl _ _, mk_is rfl⟩
      · -- 4 call curia/rows.Num 
        simp only [hf]; clear hf
        go_wp2_with (first | (go_at_call 20; refine (num_any b _).mono ?_; rintro e w' ⟨Q, rfl, hQ0, hQ, hb'⟩; have hl' := Lib.hid (show w'.heap[Q]? = some (.cells (HC (numB b)) 5 (0, 0)) from hQ); clear hQ))
        exact ⟨rfl, rfl, Grows.of hb' hz, mk_lit Q (0, 0) (Nat.le_trans hz hQ0) rfl hl'.out⟩
      · -- 5 convert 
        obtain ⟨g4, fr4, hg4, e4, hblk4⟩ := hf
        simp only [e4]
        have kS := (show Row8 w1 (some ⟨g4, 0, none⟩) 8 (numB b) from Row8.ofCells hblk4 rfl (by simp [maxLen, numB])).str (P := Try.prog) 24 9 5 8 Try.underlying24 Try.underlying5 Try.underlying9
        go_wp2
        exact ⟨rfl, rfl, .refl _ _, mk_is rfl⟩
      · -- 6 binOp 
        simp only [hf]; clear hf
        have hls := HLS.out
        go_wp2
        exact ⟨rfl, rfl, .refl _ _, mk_is rfl⟩
      · -- 7 move 
        go_wp2
        exact ⟨rfl, rfl, .refl _ _, mk_is rfl⟩
      · -- 8 move 
        go_wp2
        exact ⟨rfl, rfl, .refl _ _, mk_is rfl⟩
      · -- 9 binOp 
        simp only [hf]; clear hf
        go_wp2
        exact ⟨rfl, rfl, .refl _ _, mk_is (by first | rfl | exact congrArg Value.bool (decide_eq_false hab) | (simp [backD]; omega))⟩
      · -- 10 binOp 
        simp only [hf]; clear hf
        go_wp2
        exact ⟨rfl, rfl, .refl _ _, mk_is rfl⟩
      · -- 11 move 
        simp only [hf]; clear hf
        go_wp2
        exact ⟨rfl, rfl, .refl _ _, mk_is rfl⟩
      · -- 12 move if some (11, true)
        simp only [hf]; clear hf
        go_wp2
        exact ⟨rfl, rfl, .refl _ _, mk_is rfl⟩
      · -- 13 call curia/rows.Num if some (11, true)
        simp only [hf]; clear hf
        go_wp2_with (first | (go_at_call 20; refine (num_any a _).mono ?_; rintro e w' ⟨Q, rfl, hQ0, hQ, hb'⟩; have hl' := Lib.hid (show w'.heap[Q]? = some (.cells (HC (numB a)) 5 (0, 0)) from hQ); clear hQ))
        exact ⟨rfl, rfl, Grows.of hb' hz, mk_lit Q (0, 0) (Nat.le_trans hz hQ0) rfl hl'.out⟩
      · -- 14 call if some (11, true)
        obtain ⟨e11, g13, fr13, hg13, e13, hblk13⟩ := hf
        simp only [e11, e13]
        go_wp2
        exact ⟨rfl, rfl, .refl _ _, mk_is rfl⟩
      · -- 15 binOp if some (11, true)
        simp only [hf]; clear hf
        go_wp2
        exact ⟨rfl, rfl, .refl _ _, mk_is rfl⟩
      · -- 16 pick 
        simp only [hf]; clear hf
        go_wp2
        exact ⟨rfl, rfl, .refl _ _, mk_is rfl⟩
      · -- 17 move 
        simp only [hf]; clear hf
        go_wp2
        exact ⟨rfl, rfl, .refl _ _, mk_is rfl⟩
      · -- 18 call curia/curialaw6.known if some (17, true)
        simp only [hf]; clear hf
        go_wp2_with (first | (go_at_call 14; refine (known_rows _).mono ?_; rintro e w' ⟨rfl, hb'⟩))
        exact ⟨rfl, rfl, Grows.of hb' hz, mk_is rfl⟩
      · -- 19 pick 
        simp only [hf]; clear hf
        go_wp2
        exact ⟨rfl, rfl, .refl _ _, mk_is rfl⟩
      · -- 20 assign 
        simp only [hf]; clear hf
        go_wp2
        exact ⟨rfl, rfl, .refl _ _, mk_is rfl⟩
    · intro vals w1 hb hf; simp [leans, List.range, List.range.loop, factsOf, phi, sel_lit, sel_row, sel_rows, sel_args, sel_bytes, isV, asV, sel] at hf; simp [putD, List.range, List.range.loop, Act.put, hf]
      go_wp2
      go_ret
      exact ⟨rfl, hB0.lift hb.below hB0.size⟩
end Go.Proofs.Ytgghkeinkcpboaa
