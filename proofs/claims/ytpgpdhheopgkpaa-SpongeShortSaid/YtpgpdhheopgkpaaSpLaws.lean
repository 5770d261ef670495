/-
  The walks of the laws over package sponge.
-/
import Derived.Test.YtpgpdhheopgkpaaSumR
import Derived.Test.YtpgpdhheopgkpaaEqArr
import Derived.Test.YtpgpdhheopgkpaaOpen
import Derived.Test.YtpgpdhheopgkpaaExt2
import Derived.Test.YtpgpdhheopgkpaaExt3
import Derived.Lib.SmallJoins
namespace Go.Proofs.Ytpgpdhheopgkpaa
open Go.RowKit
set_option linter.unusedVariables false
set_option linter.unusedSimpArgs false

theorem infoe8 : ∃ i, Try.prog.info? 5 = some i := by
  obtain ⟨i, hi, _⟩ := info_parts info8
  exact ⟨i, hi⟩

theorem infou64 : ∃ i, Try.prog.info? 22 = some i := by
  cases h : Try.prog.info? 22 with
  | none => exact absurd (congrArg Option.isSome h) (by decide +kernel)
  | some i => exact ⟨i, rfl⟩
theorem eqw (w : World) (x y : W5) : (Op.equalIn 10000 23 (.agg #[.int .u64 (U x.a), .int .u64 (U x.b), .int .u64 (U x.c), .int .u64 (U x.d), .int .u64 (U x.e)]) (.agg #[.int .u64 (U y.a), .int .u64 (U y.b), .int .u64 (U y.c), .int .u64 (U y.d), .int .u64 (U y.e)])).run Try.prog w = .ok (decide (x = y)) w := by
  obtain ⟨i, hi⟩ := infou64
  exact equal_words w Try.underlying23 Try.underlying22 hi (by kernel_rfl) x y
attribute [local go_sem] eqw
theorem eqh_guard (w : World) (o : BinOp) (p q : Operand) (x y : List UInt8) : (eqGuard o 29 p q (HV x) (HV y)).run Try.prog w = .ok () w :=
  run_eqGuard_agg w o 29 p q _ _ (by kernel_rfl)
theorem eqh (w : World) (x y : List UInt8) (hx : x.length = 32) (hy : y.length = 32) : (binOp .eql 29 (HV x) (HV y)).run Try.prog w = .ok (.bool (x == y)) w := by
  obtain ⟨i, hi⟩ := infoe8
  exact run_eql_hash w Try.underlying29 Try.underlying5 hi (by kernel_rfl) x y hx hy
theorem neh (w : World) (x y : List UInt8) (hx : x.length = 32) (hy : y.length = 32) : (binOp .neq 29 (HV x) (HV y)).run Try.prog w = .ok (.bool (!(x == y))) w := by
  obtain ⟨i, hi⟩ := infoe8
  exact run_neq_hash w Try.underlying29 Try.underlying5 hi (by kernel_rfl) x y hx hy
attribute [local go_sem] eqh_guard

theorem u64_word {a : Int} (h : (Lit.int .u64 a).wf = true) : ∃ x : BitVec 64, a = U x := by
  simp [Lit.wf, IntKind.min, IntKind.max, IntKind.signed, IntKind.bits] at h
  refine ⟨BitVec.ofNat 64 a.toNat, ?_⟩
  rw [U_def, BitVec.toNat_ofNat]
  omega

theorem known_ne : (sumW [97, 98] == List.replicate 32 0) = false := by decide +kernel

set_option maxRecDepth 100000 in
theorem known_any (w : World) : Calls Try.prog 14 #[] w fun e w' => e = .returned (.bool true) ∧ Below w.heap.size w w' := by
  have hne := known_ne
  obtain ⟨h, hh⟩ : ∃ h, h = sumW [97, 98] := ⟨_, rfl⟩
  have hl : h.length = 32 := by rw [hh]; exact sumW_length _
  rw [← hh] at hne
  have HH := Lib.hid hh
  clear hh
  go_enter Try.func14, Try.ntmps14
  have kc1 := Lib.run_convert_bytes_const (P := Try.prog) w 27 5 #[.int .u8 97] 1 1 Try.underlying27 Try.underlying5
  have kc2 := Joins.run_convert_bytes_const_at (P := Try.prog) (w.alloc (.cells #[.int .u8 97] 5 (1, 2))) 27 5 #[.int .u8 98] 1 1 (w.heap.size + 1) (by simp) Try.underlying27 Try.underlying5
  have hsz2 : zeros32.size = (HC h).size := by rw [HC_size, hl]; rfl
  have hsz : (Try.prog.info? 29).map (·.size) = some (HC h).size := by rw [← hsz2]; exact zsize
  have S1 := Lib.hid hsz; have S2 := Lib.hid hsz2
  clear hsz hsz2
  have hrows : RowR (((w.alloc (.cells #[.int .u8 97] 5 (1, 2))).alloc (.cells #[.int .u8 98] 5 (1, 2))).alloc (.cells #[.slice (some ⟨w.heap.size, 0, none⟩) 1 1, .slice (some ⟨w.heap.size + 1, 0, none⟩) 1 1] 27)) (some ⟨w.heap.size + 1 + 1, 0, none⟩) 2 [[97], [98]] := by
    refine RowR.twoAt (by simp) ?_ ?_
    · refine Row8.ofCells (t := 5) (fr := (1, 2)) ?_ rfl (by simp [maxLen])
      exact (Below.heap_alloc _ _ _ (by simp)).trans (heap_alloc_new w _)
    · refine Row8.ofCells (t := 5) (fr := (1, 2)) ?_ rfl (by simp [maxLen])
      have := heap_alloc_new (w.alloc (.cells #[.int .u8 97] 5 (1, 2))) (.cells #[.int .u8 98] 5 (1, 2))
      rw [size_alloc] at this
      exact this
  have HRW := Lib.hid hrows
  clear hrows
  have hfl : [[(97 : UInt8)], [98]].flatten = [97, 98] := rfl
  go_wp2_with (first
    | (go_at_call 15; refine (sum_any _ 2 2 [[97], [98]] _ HRW.out).mono ?_; rintro e w1 ⟨rfl, hb1⟩; rw [hfl, ← HH.out])
    | (refine wpList_store_row rfl 29 _ _ rfl w1.heap.size (HC h) rfl rfl 29 zeros32 (Blk.newAt _ _ rfl) S1.out S2.out (HC_one _) ?_))
  have hw1 : Below w.heap.size w w1 := ((((Below.refl _ _).next (Nat.le_refl _) _).next (Nat.le_refl _) _).next (Nat.le_refl _) _).later hb1 (Nat.le_refl _)
  clear hb1 kc1 kc2 HRW
  refine wp_gen (fun wr hwr => ?_)
  have hX0 : Blk wr w1.heap.size (HC h) 29 := by rw [hwr]; exact (Blk.newAt _ _ rfl).setRow _
  have hB0 : Below w.heap.size w wr := by rw [hwr]; exact below_setRow (hw1.alloc (hw1.size) _) _ (hw1.size)
  clear hwr hw1
  obtain ⟨g0, hg0⟩ : ∃ g, g = w1.heap.size := ⟨_, rfl⟩
  rw [← hg0] at hX0 ⊢
  obtain ⟨z, hz0⟩ : ∃ z, z = List.replicate 32 (0 : UInt8) := ⟨_, rfl⟩
  have hzl : z.length = 32 := by rw [hz0]; rfl
  have hne' : (!(h == z)) = true := by rw [hz0, hne]; rfl
  have HZ0 := Lib.hid hz0
  clear hz0
  have HN := Lib.hid hne'
  clear hne hne'
  have hfl2 : [[(97 : UInt8), 98]].flatten = [97, 98] := rfl
  simp only [Act.put]
  refine region_grows _ (Nat.le_refl _) [isV 0 (HV h), litV wr.heap.size 1 2 [97, 98] 5, litV wr.heap.size 2 2 [97, 98] 5, rowsV 3 1 [[97, 98]], isV 4 (HV h), isV 5 (.bool true), isV 6 (.bool true), isV 7 (HV h), isV 8 (HV z), isV 9 (.bool true), isV 10 (.bool true), isV 11 (.bool true), isV 12 (HV h), litV wr.heap.size 13 2 [97, 98] 5, litV wr.heap.size 14 2 [97, 98] 5, isV 15 (HV h), isV 16 (.bool true), isV 17 (.bool true), isV 18 (.bool true)]
    [[], [], [1], [2], [3], [0, 4], [5], [6], [6], [6, 7, 8], [6, 9], [10], [11], [11], [11, 13], [11, 14], [11, 12, 15], [11, 16], [17]] [some 8, some 9, some 10, some 11, some 12, some 13, some 14, some 15, some 16, some 17, some 18, some 19, some 20, some 21, some 22, some 23, some 24, some 25, some 0] _ (by kernel_rfl) (by kernel_rfl) (by kernel_rfl) (by kernel_rfl) (by kernel_rfl) rfl ?_ ?_ ?_
  · repeat (first | exact st_nil | refine st_cons (by first | exact st_is _ _ | exact st_as _ _ | exact st_row _ _ _ | exact st_rows _ _ _ | exact st_lit _ _ _ _ _ | exact st_args _ _ _ | exact st_bytes _ _) ?_)
  · intro hgz
    refine ⟨?_, ?_, ?_, ?_, ?_, ?_, ?_, ?_, ?_, ?_, ?_, ?_, ?_, ?_, ?_, ?_, ?_, ?_, ?_, trivial⟩ <;> intro vals w1 hb hf <;> obtain ⟨hb, hz⟩ := hgz w1 hb <;> simp [leans, factsOf, phi, sel_lit, sel_row, sel_rows, sel_args, sel_bytes, isV, asV, sel] at hf <;> simp [putD, phi, Act.put]
    · -- 0 load 
      refine wpList_load_row rfl 29 _ rfl g0 rfl 29 (HC h) (0, 0) _ (hX0.keep hb.below) Try.underlying29 rfl S1.out ?_
      exact ⟨rfl, rfl, .refl _ _, mk_is rfl⟩
    · -- 1 buildSlice
      go_wp2
      exact ⟨rfl, rfl, Grows.alloc _ _ hz, mk_lit w1.heap.size (0, 0) hz rfl (heap_alloc_new w1 _)⟩
    · -- 2 convert
      obtain ⟨g, fr, hg, e1, hblk⟩ := hf
      simp only [e1]
      have kc := run_convert_mark (P := Try.prog) w1 27 5 g 2 2 _ _ fr Try.underlying27 Try.underlying5 hblk
      obtain ⟨fr', h'⟩ := (Grows.freeze w1 g (HC [97, 98]).size 1 hg).marks _ _ _ _ hblk
      go_wp2
      exact ⟨rfl, rfl, Grows.freeze _ _ _ _ hg, mk_lit g fr' hg rfl h'⟩
    · -- 3 buildSlice
      obtain ⟨g, fr, hg, e1, hblk⟩ := hf
      simp only [e1]
      go_wp2
      exact ⟨rfl, rfl, Grows.alloc _ _ hz, mk_rows w1.heap.size 1 rfl (RowR.one (Row8.ofCells hblk rfl (by simp [maxLen])))⟩
    · -- 4 call Sum
      obtain ⟨g, c, e1, hr⟩ := hf
      simp only [e1]
      have HR := Lib.hid hr
      clear hr
      go_wp2_with (first | (go_at_call 15; refine (sum_any _ 1 c [[97, 98]] _ HR.out).mono ?_; rintro e w' ⟨rfl, hb'⟩; rw [hfl2, ← HH.out]))
      exact ⟨rfl, rfl, Grows.of hb' hz, mk_is rfl⟩
    · -- 5 eql
      simp only [hf]; clear hf
      have kE := eqh w1 h h hl hl
      rw [beq_self_eq_true] at kE
      go_wp2
      exact ⟨rfl, rfl, .refl _ _, mk_is rfl⟩
    · -- 6 move
      simp only [hf]; clear hf
      go_wp2
      exact ⟨rfl, rfl, .refl _ _, mk_is rfl⟩
    · -- 7 load
      simp only [hf]; clear hf
      refine one_wanted rfl ?_
      refine wpList_load_row rfl 29 _ rfl g0 rfl 29 (HC h) (0, 0) _ (hX0.keep hb.below) Try.underlying29 rfl S1.out ?_
      exact ⟨rfl, rfl, .refl _ _, mk_is rfl⟩
    · -- 8 build
      simp only [hf]; clear hf
      go_wp2
      exact ⟨rfl, rfl, .refl _ _, mk_is (by rw [HZ0.out]; rfl)⟩
    · -- 9 neq
      simp only [hf]; clear hf
      have kN := neh w1 h z hl hzl
      rw [HN.out] at kN
      go_wp2
      exact ⟨rfl, rfl, .refl _ _, mk_is rfl⟩
    · -- 10 pick
      simp only [hf]; clear hf
      go_wp2
      exact ⟨rfl, rfl, .refl _ _, mk_is rfl⟩
    · -- 11 move
      simp only [hf]; clear hf
      go_wp2
      exact ⟨rfl, rfl, .refl _ _, mk_is rfl⟩
    · -- 12 load
      simp only [hf]; clear hf
      refine one_wanted rfl ?_
      refine wpList_load_row rfl 29 _ rfl g0 rfl 29 (HC h) (0, 0) _ (hX0.keep hb.below) Try.underlying29 rfl S1.out ?_
      exact ⟨rfl, rfl, .refl _ _, mk_is rfl⟩
    · -- 13 buildSlice
      simp only [hf]; clear hf
      go_wp2
      exact ⟨rfl, rfl, Grows.alloc _ _ hz, mk_lit w1.heap.size (0, 0) hz rfl (heap_alloc_new w1 _)⟩
    · -- 14 convert
      obtain ⟨e0, g, fr, hg, e1, hblk⟩ := hf
      simp only [e0, e1]
      have kc := run_convert_mark (P := Try.prog) w1 27 5 g 2 2 _ _ fr Try.underlying27 Try.underlying5 hblk
      obtain ⟨fr', h'⟩ := (Grows.freeze w1 g (HC [97, 98]).size 1 hg).marks _ _ _ _ hblk
      go_wp2
      exact ⟨rfl, rfl, Grows.freeze _ _ _ _ hg, mk_lit g fr' hg rfl h'⟩
    · -- 15 call curiaref1.Sum
      obtain ⟨e0, g, fr, hg, e1, hblk⟩ := hf
      simp only [e0, e1]
      have HR := Lib.hid (Row8.ofCells (n := 2) hblk rfl (by simp [maxLen]))
      clear hblk
      go_wp2_with (first | (go_at_call 16; refine (rsum_any _ 2 2 [97, 98] _ HR.out (by simp) (by decide)).mono ?_; rintro e w' ⟨rfl, hb'⟩; rw [← HH.out]))
      exact ⟨rfl, rfl, Grows.of hb' hz, mk_is rfl⟩
    · -- 16 eql
      simp only [hf]; clear hf
      have kE := eqh w1 h h hl hl
      rw [beq_self_eq_true] at kE
      go_wp2
      exact ⟨rfl, rfl, .refl _ _, mk_is rfl⟩
    · -- 17 pick
      simp only [hf]; clear hf
      go_wp2
      exact ⟨rfl, rfl, .refl _ _, mk_is rfl⟩
    · -- 18 assign
      simp only [hf]; clear hf
      go_wp2
      exact ⟨rfl, rfl, .refl _ _, mk_is rfl⟩
  · intro vals w1 hb hf; simp [leans, List.range, List.range.loop, factsOf, phi, sel_lit, sel_row, sel_rows, sel_args, sel_bytes, isV, asV, sel] at hf; simp [putD, List.range, List.range.loop, Act.put, hf]
    go_wp2
    go_ret
    exact ⟨rfl, hB0.lift hb.below hB0.size⟩

set_option maxRecDepth 100000 in
theorem spongeTurns_walk (a : Int) (wa : (Lit.int .u64 a).wf = true) (b : Int) (wb : (Lit.int .u64 b).wf = true) (c : Int) (wc : (Lit.int .u64 c).wf = true) (d : Int) (wd : (Lit.int .u64 d).wf = true) (e : Int) (we : (Lit.int .u64 e).wf = true) (w : World) :
    Calls Try.prog 3 #[.int .u64 a, .int .u64 b, .int .u64 c, .int .u64 d, .int .u64 e] w fun e w' => e = .returned (.bool true) ∧ Below w.heap.size w w' := by
  obtain ⟨xa, rfl⟩ := u64_word wa
  obtain ⟨xb, rfl⟩ := u64_word wb
  obtain ⟨xc, rfl⟩ := u64_word wc
  obtain ⟨xd, rfl⟩ := u64_word wd
  obtain ⟨xe, rfl⟩ := u64_word we
  clear wa wb wc wd we
  go_enter Try.func3, Try.ntmps3
  go_wp2_with fail
  refine wp_gen (fun wr hwr => ?_)
  have hX0 : Blk wr w.heap.size (C5 ⟨xa, xb, xc, xd, xe⟩) 23 := by rw [hwr]; exact Blk.new w _ _
  have hB0 : Below w.heap.size w wr := by rw [hwr]; exact (Below.refl _ _).alloc (Nat.le_refl _) _
  clear hwr
  generalize hx : (⟨xa, xb, xc, xd, xe⟩ : W5) = x at hX0
  generalize ht : turnW x = y
  refine region_grows _ (Nat.le_refl _) [isV 0 (V5 x), isV 1 (V5 y), isV 2 (V5 x), isV 3 (V5 y), isV 4 (.bool true), isV 5 (.bool true), isV 6 (.bool true), isV 7 (.bool true), isV 8 (.bool true)]
    [[], [0], [], [2], [1, 3], [4], [5], [5, 6], [7]] [some 18, some 19, some 20, some 21, some 22, some 23, some 24, some 25, some 10] 26 (by kernel_rfl) (by kernel_rfl) (by kernel_rfl) (by kernel_rfl) (by kernel_rfl) rfl ?_ ?_ ?_
  · repeat (first | exact st_nil | refine st_cons (by first | exact st_is _ _ | exact st_as _ _ | exact st_row _ _ _ | exact st_rows _ _ _ | exact st_lit _ _ _ _ _ | exact st_args _ _ _ | exact st_bytes _ _) ?_)
  · intro hgz
    refine ⟨?_, ?_, ?_, ?_, ?_, ?_, ?_, ?_, ?_, trivial⟩ <;> intro vals w1 hb hf <;> obtain ⟨hb, hz⟩ := hgz w1 hb <;> simp [leans, factsOf, phi, sel_lit, sel_row, sel_rows, sel_args, sel_bytes, isV, asV, sel] at hf <;> simp [putD, phi, Act.put]
    · subst hx
      obtain ⟨c0, c1, c2, c3, c4⟩ := (hX0.keep hb.below).five
      go_wp2
      exact ⟨rfl, rfl, (Grows.refl _ _), by simp [sel, isV, backD, V5, C5, HV, ht]⟩
    · rw [hf]; clear hf
      go_wp2_with (first | (go_at_call 12; refine (turn_any x _).mono ?_; rintro e w' ⟨rfl, hb'⟩; rw [ht]))
      exact ⟨rfl, rfl, (Grows.of hb' hz), by simp [sel, isV, backD, V5, C5, HV, ht]⟩
    · subst hx
      obtain ⟨c0, c1, c2, c3, c4⟩ := (hX0.keep hb.below).five
      go_wp2
      exact ⟨rfl, rfl, (Grows.refl _ _), by simp [sel, isV, backD, V5, C5, HV, ht]⟩
    · rw [hf]; clear hf
      go_wp2_with (first | (go_at_call 13; refine (rturn_any x _).mono ?_; rintro e w' ⟨rfl, hb'⟩; rw [ht]))
      exact ⟨rfl, rfl, (Grows.of hb' hz), by simp [sel, isV, backD, V5, C5, HV, ht]⟩
    · rw [hf.1, hf.2]; clear hf
      go_wp2
      exact ⟨rfl, rfl, (Grows.refl _ _), by simp [sel, isV, backD, V5, C5, HV, ht]⟩
    · rw [hf]; clear hf
      go_wp2
      exact ⟨rfl, rfl, (Grows.refl _ _), by simp [sel, isV, backD, V5, C5, HV, ht]⟩
    · rw [hf]; clear hf
      go_wp2_with (first | (go_at_call 14; refine (known_any _).mono ?_; rintro e w' ⟨rfl, hb'⟩))
      exact ⟨rfl, rfl, (Grows.of hb' hz), by simp [sel, isV, backD, V5, C5, HV, ht]⟩
    · rw [hf.1, hf.2]; clear hf
      go_wp2
      exact ⟨rfl, rfl, (Grows.refl _ _), by simp [sel, isV, backD, V5, C5, HV, ht]⟩
    · rw [hf]; clear hf
      go_wp2
      exact ⟨rfl, rfl, (Grows.refl _ _), by simp [sel, isV, backD, V5, C5, HV, ht]⟩
  · intro vals w1 hb hf; simp [leans, List.range, List.range.loop, factsOf, phi, sel_lit, sel_row, sel_rows, sel_args, sel_bytes, isV, asV, sel] at hf; simp [putD, List.range, List.range.loop, Act.put, hf]
    go_wp2
    go_ret
    exact ⟨rfl, hB0.lift hb.below hB0.size⟩
end Go.Proofs.Ytpgpdhheopgkpaa
