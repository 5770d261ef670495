/-
  The law RowsNums, walked.
-/
import Derived.Test.YtgghkeinkcpboaaToNum
namespace Go.Proofs.Ytgghkeinkcpboaa
set_option maxRecDepth 100000
open Go.RowKit
set_option linter.unusedVariables false
set_option linter.unusedSimpArgs false

theorem lowB_nat (n : Int) (s : Nat) : ((lowB n s).toNat : Int) = (n / 2 ^ s) % 256 := lowB_eq n s
theorem isNum_numB (n : Int) (h : -9223372036854775808 ≤ n ∧ n ≤ 9223372036854775807) : isNum (numB n) = decide (0 ≤ n) := by
  have h1 := lowB_nat n 56
  have e : (2 : Int) ^ 56 = 72057594037927936 := by decide
  rw [e] at h1
  have hg : (numB n).getD 0 0 = lowB n 56 := rfl
  unfold isNum
  rw [hg, numB_length]
  by_cases h0 : 0 ≤ n
  · rw [decide_eq_true h0, decide_eq_true (by omega)]; rfl
  · rw [decide_eq_false h0, decide_eq_false (by omega)]; rfl
theorem numK_numB (n : Int) (h : 0 ≤ n ∧ n ≤ 9223372036854775807) : (numK (numB n) : Int) = n := by
  have a7 := lowB_nat n 56; have a6 := lowB_nat n 48; have a5 := lowB_nat n 40; have a4 := lowB_nat n 32; have a3 := lowB_nat n 24; have a2 := lowB_nat n 16; have a1 := lowB_nat n 8; have a0 := lowB_nat n 0
  have p7 : (2 : Int) ^ 56 = 72057594037927936 := by decide
  have p6 : (2 : Int) ^ 48 = 281474976710656 := by decide
  have p5 : (2 : Int) ^ 40 = 1099511627776 := by decide
  have p4 : (2 : Int) ^ 32 = 4294967296 := by decide
  have p3 : (2 : Int) ^ 24 = 16777216 := by decide
  have p2 : (2 : Int) ^ 16 = 65536 := by decide
  have p1 : (2 : Int) ^ 8 = 256 := by decide
  have p0 : (2 : Int) ^ 0 = 1 := by decide
  rw [p7] at a7; rw [p6] at a6; rw [p5] at a5; rw [p4] at a4; rw [p3] at a3; rw [p2] at a2; rw [p1] at a1; rw [p0] at a0
  have q7 : ((lowB n 56).toNat : Int) = n / 72057594037927936 := by omega
  have q6 : ((lowB n 56).toNat : Int) * 256 + (lowB n 48).toNat = n / 281474976710656 := by omega
  have q5 : (n / 281474976710656) * 256 + ((lowB n 40).toNat : Int) = n / 1099511627776 := by omega
  have q4 : (n / 1099511627776) * 256 + ((lowB n 32).toNat : Int) = n / 4294967296 := by omega
  have q3 : (n / 4294967296) * 256 + ((lowB n 24).toNat : Int) = n / 16777216 := by omega
  have q2 : (n / 16777216) * 256 + ((lowB n 16).toNat : Int) = n / 65536 := by omega
  have q1 : (n / 65536) * 256 + ((lowB n 8).toNat : Int) = n / 256 := by omega
  have q0 : (n / 256) * 256 + ((lowB n 0).toNat : Int) = n := by omega
  have e : (numK (numB n) : Int) = (((((((lowB n 56).toNat * 256 + (lowB n 48).toNat) * 256 + (lowB n 40).toNat) * 256 + (lowB n 32).toNat) * 256 + (lowB n 24).toNat) * 256 + (lowB n 16).toNat) * 256 + (lowB n 8).toNat : Int) * 256 + (lowB n 0).toNat := by
    simp [numK, numB]
  rw [e, q6, q5, q4, q3, q2, q1, q0]
theorem numT_numB (n : Int) (h : 0 ≤ n ∧ n ≤ 9223372036854775807) : numT (numB n) = n := by
  unfold numT
  rw [isNum_numB n (by omega), decide_eq_true h.1]
  exact numK_numB n h
theorem numT_neg (n : Int) (h : -9223372036854775808 ≤ n ∧ n < 0) : numT (numB n) = 0 := by
  unfold numT
  rw [isNum_numB n (by omega), decide_eq_false (by omega)]
  rfl

set_option maxRecDepth 100000 in
set_option maxHeartbeats 4000000 in
theorem rowsNums_walk {w : World} (n : Int) (wn : (Lit.int .i64 n).wf = true) (a : Option Addr) (l c : Nat) (b : List UInt8) (hp : Arg8 w a l c b) :
    Calls Try.prog 6 #[.int .i64 n, .slice a l c] w fun e w' => e = .returned (.bool true) ∧ Below w.heap.size w w' := by
  have hnb : -9223372036854775808 ≤ n ∧ n ≤ 9223372036854775807 := by
    have h := wn
    simp [Lit.wf, IntKind.min, IntKind.max, IntKind.signed, IntKind.bits] at h
    omega
  have hle := hp.le
  have hsm := hp.small
  have HP := Lib.hid hp.row
  clear hp wn
  by_cases h1 : ((l : Int) > 20)
  · go_enter Try.func6, Try.ntmps6
    go_wp2
    go_ret
    exact ⟨rfl, Below.refl _ _⟩
  by_cases hn : 0 ≤ n
  · have hn2 : n ≥ 0 := hn
    have hz : isNum (numB n) = true := by rw [isNum_numB n hnb]; exact decide_eq_true hn
    have hv : numT (numB n) = n := numT_numB n (by omega)
    have hT := And.intro hv hz
    have HT := Lib.hid hT
    clear hz hv hT
    go_enter Try.func6, Try.ntmps6
    go_wp2_with (first
      | (go_at_call 18; with_reducible refine (tonum_any a l c b _ HP.out).mono ?_; rintro e w' ⟨rfl, rfl⟩)
      | (go_at_call 19; with_reducible refine (rtonum_any a l c b _ HP.out).mono ?_; rintro e w' ⟨rfl, rfl⟩)
      | (go_at_call 20; refine (num_any n _).mono ?_; rintro e w1 ⟨Q, rfl, hQ0, hQ, hb1⟩
         have HR := Lib.hid (Row8.ofBlk hQ (by simp [numB, maxLen]) 8 rfl); have HB1 := Lib.hid hb1
         clear hQ hb1)
      | (go_at_call 18; with_reducible refine (tonum_any (some ⟨Q, 0, none⟩) 8 8 (numB n) _ HR.out).mono ?_; rintro e w' ⟨rfl, rfl⟩; rw [HT.out.1, HT.out.2]))
    refine wp_gen (fun wr hwr => ?_)
    have hB0 : Below w.heap.size w wr := by rw [hwr]; exact HB1.out
    clear hwr
    refine region_grows _ (Nat.le_refl _) [isV 0 (.int .i64 n), litV wr.heap.size 1 8 (numB n) 5, isV 2 (.string (strB (numB n))), isV 3 (.int .i64 n), bytesV 4 (numB n), isV 5 (.string (strB (numB n))), isV 6 (.bool true), isV 7 (.bool true), isV 8 (.int .i64 (numT b)), isV 9 (.int .i64 (numT b)), isV 10 (.bool true), isV 11 (.bool true), isV 12 (.bool true), isV 13 (.bool (isNum b)), isV 14 (.bool (isNum b)), isV 15 (.bool true), isV 16 (.bool true), isV 17 (.bool true), isV 18 (.bool true), isV 19 (.int .i64 n), isV 20 (.bool true), isV 21 (.bool true), isV 22 (.bool true), isV 23 (.bool true), isV 24 (.bool true), isV 25 (.bool false), isV 26 (.bool false), isV 27 (.int .i64 n), isV 28 (.int .i64 n), isV 29 (.bool true), isV 30 (.bool true), isV 31 (.bool true), isV 32 (.bool true), isV 33 (.bool true), isV 34 (.bool true), isV 35 (.bool true)]
      [[], [0], [1], [], [3], [4], [2, 5], [6], [7], [7], [7, 8, 9], [7, 10], [11], [12], [12], [12, 13, 14], [12, 15], [16], [17], [17], [17, 19], [17, 18, 20], [17, 21], [22], [23], [23, 24], [23, 25], [26], [26], [26, 27, 28], [23, 26, 29], [23, 30], [31], [32], [32, 33], [34]] [some 30, some 31, some 32, some 33, some 34, some 35, some 36, some 37, some 38, some 39, some 40, some 41, some 42, some 43, some 44, some 45, some 46, some 47, some 48, some 49, some 50, some 51, some 52, some 53, some 54, some 55, some 56, some 57, some 58, some 59, some 60, some 61, some 62, some 63, some 64, some 4] _ (by kernel_rfl) (by kernel_rfl) (by kernel_rfl) (by kernel_rfl) (by kernel_rfl) rfl ?_ ?_ ?_
    · repeat (first | exact st_nil | refine st_cons (by first | exact st_is _ _ | exact st_as _ _ | exact st_row _ _ _ | exact st_rows _ _ _ | exact st_lit _ _ _ _ _ | exact st_args _ _ _ | exact st_bytes _ _) ?_)
    · intro hgz
      refine ⟨?_, ?_, ?_, ?_, ?_, ?_, ?_, ?_, ?_, ?_, ?_, ?_, ?_, ?_, ?_, ?_, ?_, ?_, ?_, ?_, ?_, ?_, ?_, ?_, ?_, ?_, ?_, ?_, ?_, ?_, ?_, ?_, ?_, ?_, ?_, ?_, trivial⟩ <;> intro vals w1 hb hf <;> obtain ⟨hb, hz⟩ := hgz w1 hb <;> simp [leans, factsOf, phi, sel_lit, sel_row, sel_rows, sel_args, sel_bytes, isV, asV, sel] at hf <;> simp [putD, phi, Act.put]
      · -- 0 move 
        go_wp2
        exact ⟨rfl, rfl, .refl _ _, mk_is rfl⟩
      · -- 1 call curia/rows.Num 
        simp only [hf]; clear hf
        go_wp2_with (first | (go_at_call 20; refine (num_any n _).mono ?_; rintro e w' ⟨Q, rfl, hQ0, hQ, hb'⟩; have hl' := Lib.hid (show w'.heap[Q]? = some (.cells (HC (numB n)) 5 (0, 0)) from hQ); clear hQ))
        exact ⟨rfl, rfl, Grows.of hb' hz, mk_lit Q (0, 0) (Nat.le_trans hz hQ0) rfl hl'.out⟩
      · -- 2 convert 
        obtain ⟨g1, fr1, hg1, e1, hblk1⟩ := hf
        simp only [e1]
        have kS := (show Row8 w1 (some ⟨g1, 0, none⟩) 8 (numB n) from Row8.ofCells hblk1 rfl (by simp [maxLen, numB])).str (P := Try.prog) 24 9 5 8 Try.underlying24 Try.underlying5 Try.underlying9
        go_wp2
        exact ⟨rfl, rfl, .refl _ _, mk_is rfl⟩
      · -- 3 move 
        go_wp2
        exact ⟨rfl, rfl, .refl _ _, mk_is rfl⟩
      · -- 4 call curia/curiaref6.Num 
        simp only [hf]; clear hf
        go_wp2_with (first | (go_at_call 21; refine (rnum_any n _).mono ?_; rintro e w' ⟨a', c', rfl, hr', hn', hb'⟩))
        exact ⟨rfl, rfl, Grows.of hb' hz, mk_bytes a' c' rfl hr' hn'⟩
      · -- 5 convert 
        obtain ⟨a4, c4, e4, hr4, hn4⟩ := hf
        simp only [e4]
        have kS := hr4.str (P := Try.prog) 24 9 5 c4 Try.underlying24 Try.underlying5 Try.underlying9
        go_wp2
        exact ⟨rfl, rfl, .refl _ _, mk_is rfl⟩
      · -- 6 binOp 
        simp only [hf]; clear hf
        go_wp2
        exact ⟨rfl, rfl, .refl _ _, mk_is rfl⟩
      · -- 7 move 
        simp only [hf]; clear hf
        go_wp2
        exact ⟨rfl, rfl, .refl _ _, mk_is rfl⟩
      · -- 8 move if some (7, true)
        simp only [hf]; clear hf
        go_wp2
        exact ⟨rfl, rfl, .refl _ _, mk_is rfl⟩
      · -- 9 move if some (7, true)
        simp only [hf]; clear hf
        go_wp2
        exact ⟨rfl, rfl, .refl _ _, mk_is rfl⟩
      · -- 10 binOp if some (7, true)
        simp only [hf]; clear hf
        go_wp2
        exact ⟨rfl, rfl, .refl _ _, mk_is rfl⟩
      · -- 11 pick 
        simp only [hf]; clear hf
        go_wp2
        exact ⟨rfl, rfl, .refl _ _, mk_is rfl⟩
      · -- 12 move 
        simp only [hf]; clear hf
        go_wp2
        exact ⟨rfl, rfl, .refl _ _, mk_is rfl⟩
      · -- 13 move if some (12, true)
        simp only [hf]; clear hf
        go_wp2
        exact ⟨rfl, rfl, .refl _ _, mk_is rfl⟩
      · -- 14 move if some (12, true)
        simp only [hf]; clear hf
        go_wp2
        exact ⟨rfl, rfl, .refl _ _, mk_is rfl⟩
      · -- 15 binOp if some (12, true)
        simp only [hf]; clear hf
        go_wp2
        exact ⟨rfl, rfl, .refl _ _, mk_is rfl⟩
      · -- 16 pick 
        simp only [hf]; clear hf
        go_wp2
        exact ⟨rfl, rfl, .refl _ _, mk_is rfl⟩
      · -- 17 move 
        simp only [hf]; clear hf
        go_wp2
        exact ⟨rfl, rfl, .refl _ _, mk_is rfl⟩
      · -- 18 move if some (17, true)
        simp only [hf]; clear hf
        go_wp2
        exact ⟨rfl, rfl, .refl _ _, mk_is rfl⟩
      · -- 19 move if some (17, true)
        simp only [hf]; clear hf
        go_wp2
        exact ⟨rfl, rfl, .refl _ _, mk_is rfl⟩
      · -- 20 binOp if some (17, true)
        simp only [hf]; clear hf
        go_wp2
        exact ⟨rfl, rfl, .refl _ _, mk_is rfl⟩
      · -- 21 binOp if some (17, true)
        simp only [hf]; clear hf
        go_wp2
        exact ⟨rfl, rfl, .refl _ _, mk_is rfl⟩
      · -- 22 pick 
        simp only [hf]; clear hf
        go_wp2
        exact ⟨rfl, rfl, .refl _ _, mk_is rfl⟩
      · -- 23 move 
        simp only [hf]; clear hf
        go_wp2
        exact ⟨rfl, rfl, .refl _ _, mk_is rfl⟩
      · -- 24 move if some (23, true)
        simp only [hf]; clear hf
        go_wp2
        exact ⟨rfl, rfl, .refl _ _, mk_is rfl⟩
      · -- 25 unOp if some (23, true)
        simp only [hf]; clear hf
        go_wp2
        exact ⟨rfl, rfl, .refl _ _, mk_is rfl⟩
      · -- 26 move if some (23, true)
        simp only [hf]; clear hf
        go_wp2
        exact ⟨rfl, rfl, .refl _ _, mk_is rfl⟩
      · -- 27 move if some (26, false)
        simp only [hf]; clear hf
        go_wp2
        exact ⟨rfl, rfl, .refl _ _, mk_is rfl⟩
      · -- 28 move if some (26, false)
        simp only [hf]; clear hf
        go_wp2
        exact ⟨rfl, rfl, .refl _ _, mk_is rfl⟩
      · -- 29 binOp if some (26, false)
        simp only [hf]; clear hf
        go_wp2
        exact ⟨rfl, rfl, .refl _ _, mk_is rfl⟩
      · -- 30 pick if some (23, true)
        simp only [hf]; clear hf
        go_wp2
        exact ⟨rfl, rfl, .refl _ _, mk_is rfl⟩
      · -- 31 pick 
        simp only [hf]; clear hf
        go_wp2
        exact ⟨rfl, rfl, .refl _ _, mk_is rfl⟩
      · -- 32 move 
        simp only [hf]; clear hf
        go_wp2
        exact ⟨rfl, rfl, .refl _ _, mk_is rfl⟩
      · -- 33 call curia/curialaw6.known if some (32, true)
        simp only [hf]; clear hf
        go_wp2_with (first | (go_at_call 14; refine (known_rows _).mono ?_; rintro e w' ⟨rfl, hb'⟩))
        exact ⟨rfl, rfl, Grows.of hb' hz, mk_is rfl⟩
      · -- 34 pick 
        simp only [hf]; clear hf
        go_wp2
        exact ⟨rfl, rfl, .refl _ _, mk_is rfl⟩
      · -- 35 assign 
        simp only [hf]; clear hf
        go_wp2
        exact ⟨rfl, rfl, .refl _ _, mk_is rfl⟩
    · intro vals w1 hb hf; simp [leans, List.range, List.range.loop, factsOf, phi, sel_lit, sel_row, sel_rows, sel_args, sel_bytes, isV, asV, sel] at hf; simp [putD, List.range, List.range.loop, Act.put, hf]
      go_wp2
      go_ret
      exact ⟨rfl, hB0.lift hb.below hB0.size⟩
  · have hn2 : ¬ n ≥ 0 := hn
    have hz : isNum (numB n) = false := by rw [isNum_numB n hnb]; exact decide_eq_false hn
    have hv : numT (numB n) = 0 := numT_neg n (by omega)
    have hT := And.intro hv hz
    have HT := Lib.hid hT
    clear hz hv hT
    go_enter Try.func6, Try.ntmps6
    go_wp2_with (first
      | (go_at_call 18; with_reducible refine (tonum_any a l c b _ HP.out).mono ?_; rintro e w' ⟨rfl, rfl⟩)
      | (go_at_call 19; with_reducible refine (rtonum_any a l c b _ HP.out).mono ?_; rintro e w' ⟨rfl, rfl⟩)
      | (go_at_call 20; refine (num_any n _).mono ?_; rintro e w1 ⟨Q, rfl, hQ0, hQ, hb1⟩
         have HR := Lib.hid (Row8.ofBlk hQ (by simp [numB, maxLen]) 8 rfl); have HB1 := Lib.hid hb1
         clear hQ hb1)
      | (go_at_call 18; with_reducible refine (tonum_any (some ⟨Q, 0, none⟩) 8 8 (numB n) _ HR.out).mono ?_; rintro e w' ⟨rfl, rfl⟩; rw [HT.out.1, HT.out.2]))
    refine wp_gen (fun wr hwr => ?_)
    have hB0 : Below w.heap.size w wr := by rw [hwr]; exact HB1.out
    clear hwr
    refine region_grows _ (Nat.le_refl _) [isV 0 (.int .i64 n), litV wr.heap.size 1 8 (numB n) 5, isV 2 (.string (strB (numB n))), isV 3 (.int .i64 n), bytesV 4 (numB n), isV 5 (.string (strB (numB n))), isV 6 (.bool true), isV 7 (.bool true), isV 8 (.int .i64 (numT b)), isV 9 (.int .i64 (numT b)), isV 10 (.bool true), isV 11 (.bool true), isV 12 (.bool true), isV 13 (.bool (isNum b)), isV 14 (.bool (isNum b)), isV 15 (.bool true), isV 16 (.bool true), isV 17 (.bool true), isV 18 (.bool false), isV 19 (.int .i64 n), isV 20 (.bool false), isV 21 (.bool true), isV 22 (.bool true), isV 23 (.bool true), isV 24 (.bool false), isV 25 (.bool true), isV 26 (.bool true), isV 27 undef, isV 28 undef, isV 29 undef, isV 30 (.bool true), isV 31 (.bool true), isV 32 (.bool true), isV 33 (.bool true), isV 34 (.bool true), isV 35 (.bool true)]
      [[], [0], [1], [], [3], [4], [2, 5], [6], [7], [7], [7, 8, 9], [7, 10], [11], [12], [12], [12, 13, 14], [12, 15], [16], [17], [17], [17, 19], [17, 18, 20], [17, 21], [22], [23], [23, 24], [23, 25], [26], [26], [26, 27, 28], [23, 26, 29], [23, 30], [31], [32], [32, 33], [34]] [some 30, some 31, some 32, some 33, some 34, some 35, some 36, some 37, some 38, some 39, some 40, some 41, some 42, some 43, some 44, some 45, some 46, some 47, some 48, some 49, some 50, some 51, some 52, some 53, some 54, some 55, some 56, some 57, some 58, some 59, some 60, some 61, some 62, some 63, some 64, some 4] _ (by kernel_rfl) (by kernel_rfl) (by kernel_rfl) (by kernel_rfl) (by kernel_rfl) rfl ?_ ?_ ?_
    · repeat (first | exact st_nil | refine st_cons (by first | exact st_is _ _ | exact st_as _ _ | exact st_row _ _ _ | exact st_rows _ _ _ | exact st_lit _ _ _ _ _ | exact st_args _ _ _ | exact st_bytes _ _) ?_)
    · intro hgz
      refine ⟨?_, ?_, ?_, ?_, ?_, ?_, ?_, ?_, ?_, ?_, ?_, ?_, ?_, ?_, ?_, ?_, ?_, ?_, ?_, ?_, ?_, ?_, ?_, ?_, ?_, ?_, ?_, ?_, ?_, ?_, ?_, ?_, ?_, ?_, ?_, ?_, trivial⟩ <;> intro vals w1 hb hf <;> obtain ⟨hb, hz⟩ := hgz w1 hb <;> simp [leans, factsOf, phi, sel_lit, sel_row, sel_rows, sel_args, sel_bytes, isV, asV, sel] at hf <;> simp [putD, phi, Act.put]
      · -- 0 move 
        go_wp2
        exact ⟨rfl, rfl, .refl _ _, mk_is rfl⟩
      · -- 1 call curia/rows.Num 
        simp only [hf]; clear hf
        go_wp2_with (first | (go_at_call 20; refine (num_any n _).mono ?_; rintro e w' ⟨Q, rfl, hQ0, hQ, hb'⟩; have hl' := Lib.hid (show w'.heap[Q]? = some (.cells (HC (numB n)) 5 (0, 0)) from hQ); clear hQ))
        exact ⟨rfl, rfl, Grows.of hb' hz, mk_lit Q (0, 0) (Nat.le_trans hz hQ0) rfl hl'.out⟩
      · -- 2 convert 
        obtain ⟨g1, fr1, hg1, e1, hblk1⟩ := hf
        simp only [e1]
        have kS := (show Row8 w1 (some ⟨g1, 0, none⟩) 8 (numB n) from Row8.ofCells hblk1 rfl (by simp [maxLen, numB])).str (P := Try.prog) 24 9 5 8 Try.underlying24 Try.underlying5 Try.underlying9
        go_wp2
        exact ⟨rfl, rfl, .refl _ _, mk_is rfl⟩
      · -- 3 move 
        go_wp2
        exact ⟨rfl, rfl, .refl _ _, mk_is rfl⟩
      · -- 4 call curia/curiaref6.Num 
        simp only [hf]; clear hf
        go_wp2_with (first | (go_at_call 21; refine (rnum_any n _).mono ?_; rintro e w' ⟨a', c', rfl, hr', hn', hb'⟩))
        exact ⟨rfl, rfl, Grows.of hb' hz, mk_bytes a' c' rfl hr' hn'⟩
      · -- 5 convert 
        obtain ⟨a4, c4, e4, hr4, hn4⟩ := hf
        simp only [e4]
        have kS := hr4.str (P := Try.prog) 24 9 5 c4 Try.underlying24 Try.underlying5 Try.underlying9
        go_wp2
        exact ⟨rfl, rfl, .refl _ _, mk_is rfl⟩
      · -- 6 binOp 
        simp only [hf]; clear hf
        go_wp2
        exact ⟨rfl, rfl, .refl _ _, mk_is rfl⟩
      · -- 7 move 
        simp only [hf]; clear hf
        go_wp2
        exact ⟨rfl, rfl, .refl _ _, mk_is rfl⟩
      · -- 8 move if some (7, true)
        simp only [hf]; clear hf
        go_wp2
        exact ⟨rfl, rfl, .refl _ _, mk_is rfl⟩
      · -- 9 move if some (7, true)
        simp only [hf]; clear hf
        go_wp2
        exact ⟨rfl, rfl, .refl _ _, mk_is rfl⟩
      · -- 10 binOp if some (7, true)
        simp only [hf]; clear hf
        go_wp2
        exact ⟨rfl, rfl, .refl _ _, mk_is rfl⟩
      · -- 11 pick 
        simp only [hf]; clear hf
        go_wp2
        exact ⟨rfl, rfl, .refl _ _, mk_is rfl⟩
      · -- 12 move 
        simp only [hf]; clear hf
        go_wp2
        exact ⟨rfl, rfl, .refl _ _, mk_is rfl⟩
      · -- 13 move if some (12, true)
        simp only [hf]; clear hf
        go_wp2
        exact ⟨rfl, rfl, .refl _ _, mk_is rfl⟩
      · -- 14 move if some (12, true)
        simp only [hf]; clear hf
        go_wp2
        exact ⟨rfl, rfl, .refl _ _, mk_is rfl⟩
      · -- 15 binOp if some (12, true)
        simp only [hf]; clear hf
        go_wp2
        exact ⟨rfl, rfl, .refl _ _, mk_is rfl⟩
      · -- 16 pick 
        simp only [hf]; clear hf
        go_wp2
        exact ⟨rfl, rfl, .refl _ _, mk_is rfl⟩
      · -- 17 move 
        simp only [hf]; clear hf
        go_wp2
        exact ⟨rfl, rfl, .refl _ _, mk_is rfl⟩
      · -- 18 move if some (17, true)
        simp only [hf]; clear hf
        go_wp2
        exact ⟨rfl, rfl, .refl _ _, mk_is rfl⟩
      · -- 19 move if some (17, true)
        simp only [hf]; clear hf
        go_wp2
        exact ⟨rfl, rfl, .refl _ _, mk_is rfl⟩
      · -- 20 binOp if some (17, true)
        simp only [hf]; clear hf
        go_wp2
        exact ⟨rfl, rfl, .refl _ _, mk_is (by first | rfl | exact congrArg Value.bool (decide_eq_false hn2) | (simp [backD]; omega))⟩
      · -- 21 binOp if some (17, true)
        simp only [hf]; clear hf
        go_wp2
        exact ⟨rfl, rfl, .refl _ _, mk_is rfl⟩
      · -- 22 pick 
        simp only [hf]; clear hf
        go_wp2
        exact ⟨rfl, rfl, .refl _ _, mk_is rfl⟩
      · -- 23 move 
        simp only [hf]; clear hf
        go_wp2
        exact ⟨rfl, rfl, .refl _ _, mk_is rfl⟩
      · -- 24 move if some (23, true)
        simp only [hf]; clear hf
        go_wp2
        exact ⟨rfl, rfl, .refl _ _, mk_is rfl⟩
      · -- 25 unOp if some (23, true)
        simp only [hf]; clear hf
        go_wp2
        exact ⟨rfl, rfl, .refl _ _, mk_is rfl⟩
      · -- 26 move if some (23, true)
        simp only [hf]; clear hf
        go_wp2
        exact ⟨rfl, rfl, .refl _ _, mk_is rfl⟩
      · -- 27 move if some (26, false)
        simp only [hf]; clear hf
        go_wp2
        exact ⟨rfl, rfl, .refl _ _, mk_is rfl⟩
      · -- 28 move if some (26, false)
        simp only [hf]; clear hf
        go_wp2
        exact ⟨rfl, rfl, .refl _ _, mk_is rfl⟩
      · -- 29 binOp if some (26, false)
        simp only [hf]; clear hf
        go_wp2
        exact ⟨rfl, rfl, .refl _ _, mk_is rfl⟩
      · -- 30 pick if some (23, true)
        simp only [hf]; clear hf
        go_wp2
        exact ⟨rfl, rfl, .refl _ _, mk_is rfl⟩
      · -- 31 pick 
        simp only [hf]; clear hf
        go_wp2
        exact ⟨rfl, rfl, .refl _ _, mk_is rfl⟩
      · -- 32 move 
        simp only [hf]; clear hf
        go_wp2
        exact ⟨rfl, rfl, .refl _ _, mk_is rfl⟩
      · -- 33 call curia/curialaw6.known if some (32, true)
        simp only [hf]; clear hf
        go_wp2_with (first | (go_at_call 14; refine (known_rows _).mono ?_; rintro e w' ⟨rfl, hb'⟩))
        exact ⟨rfl, rfl, Grows.of hb' hz, mk_is rfl⟩
      · -- 34 pick 
        simp only [hf]; clear hf
        go_wp2
        exact ⟨rfl, rfl, .refl _ _, mk_is rfl⟩
      · -- 35 assign 
        simp only [hf]; clear hf
        go_wp2
        exact ⟨rfl, rfl, .refl _ _, mk_is rfl⟩
    · intro vals w1 hb hf; simp [leans, List.range, List.range.loop, factsOf, phi, sel_lit, sel_row, sel_rows, sel_args, sel_bytes, isV, asV, sel] at hf; simp [putD, List.range, List.range.loop, Act.put, hf]
      go_wp2
      go_ret
      exact ⟨rfl, hB0.lift hb.below hB0.size⟩
end Go.Proofs.Ytgghkeinkcpboaa
