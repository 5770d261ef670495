/-
  More walks of the laws over package sponge.
-/
import Derived.Test.YtpgpdhheopgkpaaSpLaws
import Derived.Test.YtpgpdhheopgkpaaSpBack
import Derived.Test.YtpgpdhheopgkpaaDerive
import Derived.Test.YtpgpdhheopgkpaaDeriveR
import Derived.Lib.ConvBytes
namespace Go.Proofs.Ytpgpdhheopgkpaa
open Go.RowKit
set_option linter.unusedVariables false
set_option linter.unusedSimpArgs false
attribute [local go_sem] eqh_guard eqw

set_option maxRecDepth 100000 in
theorem spongeSums_walk {w : World} (a : Option Addr) (l c : Nat) (bs : List UInt8) (hp : Arg8 w a l c bs) :
    Calls Try.prog 4 #[.slice a l c] w fun e w' => e = .returned (.bool true) ∧ Below w.heap.size w w' := by
  obtain ⟨h, hh⟩ : ∃ h, h = sumW bs := ⟨_, rfl⟩
  have hl : h.length = 32 := by rw [hh]; exact sumW_length _
  have hfl : [bs].flatten = bs := by simp
  by_cases hb : 2000 < l
  · go_enter Try.func4, Try.ntmps4
    have HP := Lib.hid hp; have HH := Lib.hid hh; clear hp hh
    have hlt : ((l : Int) > 2000) := by omega
    go_wp2
    go_ret
    exact ⟨rfl, Below.refl _ _⟩
  · have hlt : ¬ ((l : Int) > 2000) := by omega
    have hbl : bs.length ≤ 140737488355000 := by have := hp.row.len_eq; omega
    have kE := fun w1 => eqh w1 h h hl hl
    simp only [beq_self_eq_true] at kE
    have HP := Lib.hid hp; have HH := Lib.hid hh; have HN := Lib.hid hp.nil; have HL := Lib.hid hbl; have HF := Lib.hid hfl
    clear hp hh hb hbl hfl
    go_enter Try.func4, Try.ntmps4
    go_wp2_with (first
      | (go_at_call 15; refine (sum_any _ 1 1 [bs] _ (RowR.one HP.out.row)).mono ?_; rintro e w1 ⟨rfl, hb1⟩; rw [HF.out, ← HH.out])
      | (go_at_call 16; refine (rsum_any _ l c bs _ ((HP.out.row.below ((Below.refl _ _).next (Nat.le_refl _) _)).below hb1) HN.out HL.out).mono ?_; rintro e w2 ⟨rfl, hb2⟩; rw [← HH.out])
      | (go_at_call 14; refine (known_any _).mono ?_; rintro e w3 ⟨rfl, hb3⟩))
    go_ret
    exact ⟨rfl, ((((Below.refl _ _).next (Nat.le_refl _) _).later hb1 (Nat.le_refl _)).later hb2 (Nat.le_refl _)).later hb3 (Nat.le_refl _)⟩

set_option maxRecDepth 100000 in
theorem spongeBack_walk {w : World} (x y : W5) :
    Calls Try.prog 7 #[V5 x, V5 y] w fun e w' => e = .returned (.bool true) ∧ Below w.heap.size w w' := by
  obtain ⟨x', hx⟩ : ∃ x', turnW x = x' := ⟨_, rfl⟩
  obtain ⟨y', hy⟩ : ∃ y', turnW y = y' := ⟨_, rfl⟩
  obtain ⟨b, hb2⟩ : ∃ b, decide (x = y) = b := ⟨_, rfl⟩
  have hb1 : decide (x' = y') = b := by
    rw [← hb2, ← hx, ← hy]
    by_cases h : x = y
    · rw [h]; simp
    · rw [decide_eq_false h, decide_eq_false fun e => h (turn_inj e)]
  have HX := Lib.hid hx; have HY := Lib.hid hy; have HB1 := Lib.hid hb1; have HB2 := Lib.hid hb2
  clear hx hy hb1 hb2
  go_enter Try.func7, Try.ntmps7
  go_wp2_with fail
  refine wp_gen (fun wr hwr => ?_)
  have hX0 : Blk wr w.heap.size (C5 x) 23 := by rw [hwr]; exact (Blk.new w _ _).alloc _
  have hY0 : Blk wr (w.heap.size + 1) (C5 y) 23 := by rw [hwr]; exact Blk.newAt _ _ (by simp)
  have hB0 : Below w.heap.size w wr := by rw [hwr]; exact ((Below.refl _ _).next (Nat.le_refl _) _).next (Nat.le_refl _) _
  clear hwr
  refine region_grows _ (Nat.le_refl _) [isV 0 (V5 x), isV 1 (V5 x'), isV 2 (V5 y), isV 3 (V5 y'), isV 4 (.bool b), isV 5 (V5 x), isV 6 (V5 y), isV 7 (.bool b), isV 8 (.bool true), isV 9 (.bool true), isV 10 (.bool true), isV 11 (.bool true), isV 12 (.bool true)]
    [[], [0], [], [2], [1, 3], [], [], [5, 6], [4, 7], [8], [9], [9, 10], [11]] [some 5, some 6, some 7, some 8, some 9, some 10, some 11, some 12, some 13, some 14, some 15, some 16, some 4] _ (by kernel_rfl) (by kernel_rfl) (by kernel_rfl) (by kernel_rfl) (by kernel_rfl) rfl ?_ ?_ ?_
  · repeat (first | exact st_nil | refine st_cons (by first | exact st_is _ _ | exact st_as _ _ | exact st_row _ _ _ | exact st_rows _ _ _ | exact st_lit _ _ _ _ _ | exact st_args _ _ _ | exact st_bytes _ _) ?_)
  · intro hgz
    refine ⟨?_, ?_, ?_, ?_, ?_, ?_, ?_, ?_, ?_, ?_, ?_, ?_, ?_, trivial⟩ <;> intro vals w1 hb hf <;> obtain ⟨hb, hz⟩ := hgz w1 hb <;> simp [leans, factsOf, phi, sel_lit, sel_row, sel_rows, sel_args, sel_bytes, isV, asV, sel] at hf <;> simp [putD, phi, Act.put]
    · -- 0 load 
      obtain ⟨c0, c1, c2, c3, c4⟩ := (hX0.keep hb.below).five
      go_wp2
      exact ⟨rfl, rfl, .refl _ _, mk_is rfl⟩
    · -- 1 call curia/sponge.Turn 
      simp only [hf]; clear hf
      go_wp2_with (first | (go_at_call 12; refine (turn_any x _).mono ?_; rintro e w' ⟨rfl, hb'⟩; rw [HX.out]))
      exact ⟨rfl, rfl, Grows.of hb' hz, mk_is rfl⟩
    · -- 2 load 
      obtain ⟨c0, c1, c2, c3, c4⟩ := (hY0.keep hb.below).five
      go_wp2
      exact ⟨rfl, rfl, .refl _ _, mk_is rfl⟩
    · -- 3 call curia/sponge.Turn 
      simp only [hf]; clear hf
      go_wp2_with (first | (go_at_call 12; refine (turn_any y _).mono ?_; rintro e w' ⟨rfl, hb'⟩; rw [HY.out]))
      exact ⟨rfl, rfl, Grows.of hb' hz, mk_is rfl⟩
    · -- 4 binOp 
      simp only [hf]; clear hf
      go_wp2
      exact ⟨rfl, rfl, .refl _ _, mk_is (by simp [backD, HB1.out])⟩
    · -- 5 load 
      obtain ⟨c0, c1, c2, c3, c4⟩ := (hX0.keep hb.below).five
      go_wp2
      exact ⟨rfl, rfl, .refl _ _, mk_is rfl⟩
    · -- 6 load 
      obtain ⟨c0, c1, c2, c3, c4⟩ := (hY0.keep hb.below).five
      go_wp2
      exact ⟨rfl, rfl, .refl _ _, mk_is rfl⟩
    · -- 7 binOp 
      simp only [hf]; clear hf
      go_wp2
      exact ⟨rfl, rfl, .refl _ _, mk_is (by simp [backD, HB2.out])⟩
    · -- 8 binOp 
      simp only [hf]; clear hf
      go_wp2
      exact ⟨rfl, rfl, .refl _ _, mk_is (by simp [backD])⟩
    · -- 9 move 
      simp only [hf]; clear hf
      go_wp2
      exact ⟨rfl, rfl, .refl _ _, mk_is rfl⟩
    · -- 10 call curia/curialaw1.known if some (9, true)
      simp only [hf]; clear hf
      go_wp2_with (first | (go_at_call 14; refine (known_any _).mono ?_; rintro e w' ⟨rfl, hb'⟩))
      exact ⟨rfl, rfl, Grows.of hb' hz, mk_is rfl⟩
    · -- 11 pick 
      simp only [hf]; clear hf
      go_wp2
      exact ⟨rfl, rfl, .refl _ _, mk_is rfl⟩
    · -- 12 assign 
      simp only [hf]; clear hf
      go_wp2
      exact ⟨rfl, rfl, .refl _ _, mk_is rfl⟩
  · intro vals w1 hb hf; simp [leans, List.range, List.range.loop, factsOf, phi, sel_lit, sel_row, sel_rows, sel_args, sel_bytes, isV, asV, sel] at hf; simp [putD, List.range, List.range.loop, Act.put, hf]
    go_wp2
    go_ret
    exact ⟨rfl, hB0.lift hb.below hB0.size⟩

set_option maxRecDepth 100000 in
theorem spongeLabels_walk {w : World} (h : List UInt8) (hh : h.length = 32) (s : ByteArray) (hs : s.size ≤ maxLen) (a : Option Addr) (l c : Nat) (p : List UInt8) (hp : Arg8 w a l c p) :
    Calls Try.prog 9 #[HV h, .string s, .slice a l c] w fun e w' => e = .returned (.bool true) ∧ Below w.heap.size w w' := by
  obtain ⟨d, hd⟩ : ∃ d, deriveW h (sb s) [p].flatten = d := ⟨_, rfl⟩
  have hdl : d.length = 32 := by rw [← hd]; exact sumW_length _
  have hd2 : sumW [h, [UInt8.ofNat s.size], sb s, p].flatten = d := by rw [← hd]; unfold deriveW; rw [sb_length]; simp
  have hsz : (Try.prog.info? 29).map (·.size) = some (HC h).size := by rw [HC_size, hh]; kernel_rfl
  have HL := Lib.hid hh; have HS := Lib.hid hs; have HD1 := Lib.hid hd; have HD2 := Lib.hid hd2; have HDL := Lib.hid hdl; have HP := Lib.hid hp; have S1 := Lib.hid hsz
  clear hh hs hd hd2 hdl hp hsz
  unfold HV
  by_cases h1 : ((s.size : Int) > 20)
  · go_enter Try.func9, Try.ntmps9
    go_wp2
    go_ret
    exact ⟨rfl, (Below.refl _ _).next (Nat.le_refl _) _⟩
  by_cases h2 : ((l : Int) > 500)
  · go_enter Try.func9, Try.ntmps9
    go_wp2
    go_ret
    exact ⟨rfl, (Below.refl _ _).next (Nat.le_refl _) _⟩
  go_enter Try.func9, Try.ntmps9
  go_wp2_with fail
  refine wp_gen (fun wr hwr => ?_)
  have hX0 : Blk wr w.heap.size (HC h) 29 := by rw [hwr]; exact Blk.new w _ _
  have hB0 : Below w.heap.size w wr := by rw [hwr]; exact (Below.refl _ _).next (Nat.le_refl _) _
  have HP : Hid (Arg8 wr a l c p) := Lib.hid (by rw [hwr]; exact HP.out.below ((Below.refl _ _).next (Nat.le_refl _) _))
  clear hwr
  refine region_grows _ (Nat.le_refl _) [isV 0 (HV h), isV 1 (.string s), isV 2 (.slice a l c), rowsV 3 1 [p], isV 4 (HV d), rowV 5 32 h, isV 6 (.string s), isV 7 (.int .i64 s.size), isV 8 (.int .u8 (Bt (UInt8.ofNat s.size))), litV wr.heap.size 9 1 [UInt8.ofNat s.size] 5, isV 10 (.string s), rowV 11 s.size (sb s), isV 12 (.slice a l c), rowsV 13 4 [h, [UInt8.ofNat s.size], sb s, p], isV 14 (HV d), isV 15 (.bool true), isV 16 (.bool true), isV 17 (.bool true), isV 18 (.bool true), isV 19 (.bool true)]
    [[], [], [], [2], [0, 1, 3], [], [], [6], [7], [8], [], [10], [], [5, 9, 11, 12], [13], [4, 14], [15], [16], [16, 17], [18]] [some 15, some 16, some 17, some 18, some 19, some 20, some 21, some 22, some 23, some 24, some 25, some 26, some 27, some 28, some 29, some 30, some 31, some 32, some 33, some 6] _ (by kernel_rfl) (by kernel_rfl) (by kernel_rfl) (by kernel_rfl) (by kernel_rfl) rfl ?_ ?_ ?_
  · repeat (first | exact st_nil | refine st_cons (by first | exact st_is _ _ | exact st_as _ _ | exact st_row _ _ _ | exact st_rows _ _ _ | exact st_lit _ _ _ _ _ | exact st_args _ _ _ | exact st_bytes _ _) ?_)
  · intro hgz
    refine ⟨?_, ?_, ?_, ?_, ?_, ?_, ?_, ?_, ?_, ?_, ?_, ?_, ?_, ?_, ?_, ?_, ?_, ?_, ?_, ?_, trivial⟩ <;> intro vals w1 hb hf <;> obtain ⟨hb, hz⟩ := hgz w1 hb <;> simp [leans, factsOf, phi, sel_lit, sel_row, sel_rows, sel_args, sel_bytes, isV, asV, sel] at hf <;> simp [putD, phi, Act.put]
    · -- 0 load 
      refine wpList_load_row rfl 29 _ rfl _ rfl 29 (HC h) (0, 0) _ (hX0.keep hb.below) Try.underlying29 rfl S1.out ?_
      exact ⟨rfl, rfl, .refl _ _, mk_is rfl⟩
    · -- 1 move 
      go_wp2
      exact ⟨rfl, rfl, .refl _ _, mk_is rfl⟩
    · -- 2 move 
      go_wp2
      exact ⟨rfl, rfl, .refl _ _, mk_is rfl⟩
    · -- 3 buildSlice 
      simp only [hf]; clear hf
      go_wp2
      exact ⟨rfl, rfl, Grows.alloc _ _ hz, mk_rows w1.heap.size _ rfl (RowR.one (HP.out.below hb.below).row)⟩
    · -- 4 call curia/sponge.Derive 
      obtain ⟨e0, e1, g3, c3, e3, hr3⟩ := hf
      simp only [e0, e1, e3]
      go_wp2_with (first | (go_at_call 17; refine (derive_any h HL.out s HS.out _ 1 c3 [p] _ hr3).mono ?_; rintro e w' ⟨rfl, hb'⟩; rw [HD1.out]))
      exact ⟨rfl, rfl, Grows.of hb' hz, mk_is rfl⟩
    · -- 5 slice 
      go_wp2
      exact ⟨rfl, rfl, .refl _ _, mk_row w.heap.size 32 rfl (Row8.ofBlk (hX0.keep hb.below) (by rw [HL.out]; decide) 32 HL.out.symm)⟩
    · -- 6 move 
      go_wp2
      exact ⟨rfl, rfl, .refl _ _, mk_is rfl⟩
    · -- 7 call 
      simp only [hf]; clear hf
      go_wp2
      exact ⟨rfl, rfl, .refl _ _, mk_is rfl⟩
    · -- 8 convert 
      simp only [hf]; clear hf
      have hwl := wrap_len s.size
      go_wp2
      exact ⟨rfl, rfl, .refl _ _, mk_is rfl⟩
    · -- 9 buildSlice 
      simp only [hf]; clear hf
      go_wp2
      exact ⟨rfl, rfl, Grows.alloc _ _ hz, mk_lit w1.heap.size (0, 0) hz rfl (heap_alloc_new w1 _)⟩
    · -- 10 move 
      go_wp2
      exact ⟨rfl, rfl, .refl _ _, mk_is rfl⟩
    · -- 11 convert 
      simp only [hf]; clear hf
      have kc := Lib.run_convert_string_bytes (P := Try.prog) w1 9 27 5 s Try.underlying9 Try.underlying27 Try.underlying5
      have hbb := below_bytes w1 5 s
      have hrb := Row8.ofBytes w1 5 s HS.out
      generalize Lib.bytesWorld w1 5 s = w2 at kc hbb hrb
      go_wp2
      exact ⟨rfl, rfl, Grows.of hbb hz, mk_row _ _ rfl hrb⟩
    · -- 12 move 
      go_wp2
      exact ⟨rfl, rfl, .refl _ _, mk_is rfl⟩
    · -- 13 buildSlice 
      obtain ⟨⟨g5, c5, e5, hr5⟩, ⟨g9, fr9, hg9, e9, hblk9⟩, ⟨g11, c11, e11, hr11⟩, e12⟩ := hf
      simp only [e5, e9, e11, e12]
      go_wp2
      exact ⟨rfl, rfl, Grows.alloc _ _ hz, mk_rows w1.heap.size _ rfl (RowR.four hr5 (Row8.ofCells hblk9 rfl (by simp [maxLen])) hr11 (HP.out.below hb.below).row)⟩
    · -- 14 call curia/sponge.Sum 
      obtain ⟨g13, c13, e13, hr13⟩ := hf
      simp only [e13]
      go_wp2_with (first | (go_at_call 15; refine (sum_any _ 4 c13 _ _ hr13).mono ?_; rintro e w' ⟨rfl, hb'⟩; rw [HD2.out]))
      exact ⟨rfl, rfl, Grows.of hb' hz, mk_is rfl⟩
    · -- 15 binOp 
      simp only [hf]; clear hf
      have kE := eqh w1 d d HDL.out HDL.out
      rw [beq_self_eq_true] at kE
      go_wp2
      exact ⟨rfl, rfl, .refl _ _, mk_is rfl⟩
    · -- 16 move 
      simp only [hf]; clear hf
      go_wp2
      exact ⟨rfl, rfl, .refl _ _, mk_is rfl⟩
    · -- 17 call curia/curialaw1.known if some (16, true)
      simp only [hf]; clear hf
      go_wp2_with (first | (go_at_call 14; refine (known_any _).mono ?_; rintro e w' ⟨rfl, hb'⟩))
      exact ⟨rfl, rfl, Grows.of hb' hz, mk_is rfl⟩
    · -- 18 pick 
      simp only [hf]; clear hf
      go_wp2
      exact ⟨rfl, rfl, .refl _ _, mk_is rfl⟩
    · -- 19 assign 
      simp only [hf]; clear hf
      go_wp2
      exact ⟨rfl, rfl, .refl _ _, mk_is rfl⟩
  · intro vals w1 hb hf; simp [leans, List.range, List.range.loop, factsOf, phi, sel_lit, sel_row, sel_rows, sel_args, sel_bytes, isV, asV, sel] at hf; simp [putD, List.range, List.range.loop, Act.put, hf]
    go_wp2
    go_ret
    exact ⟨rfl, hB0.lift hb.below hB0.size⟩

set_option maxRecDepth 100000 in
theorem spongeDerives_walk {w : World} (h : List UInt8) (hh : h.length = 32) (s : ByteArray) (hs : s.size ≤ maxLen) (a : Option Addr) (l c : Nat) (p : List UInt8) (hp : Arg8 w a l c p) (a2 : Option Addr) (l2 c2 : Nat) (q : List UInt8) (hq : Arg8 w a2 l2 c2 q) :
    Calls Try.prog 5 #[HV h, .string s, .slice a l c, .slice a2 l2 c2] w fun e w' => e = .returned (.bool true) ∧ Below w.heap.size w w' := by
  obtain ⟨pq, hpq⟩ : ∃ pq, [p, q].flatten = pq := ⟨_, rfl⟩
  have hpl : pq.length = p.length + q.length := by rw [← hpq]; simp
  obtain ⟨d, hd⟩ : ∃ d, deriveW h (sb s) pq = d := ⟨_, rfl⟩
  have hdl : d.length = 32 := by rw [← hd]; exact sumW_length _
  have hsz : (Try.prog.info? 29).map (·.size) = some (HC h).size := by rw [HC_size, hh]; kernel_rfl
  have hm1 : l ≤ 140737488351232 := by have h1 := hp.le; have h2 := hp.small; omega
  have hm2 : l2 ≤ 140737488351232 := by have h1 := hq.le; have h2 := hq.small; omega
  have hlp := hp.row.len_eq
  have hlq := hq.row.len_eq
  have HL := Lib.hid hh; have HS := Lib.hid hs; have HD1 := Lib.hid hd; have HDL := Lib.hid hdl; have HP := Lib.hid hp; have HQ := Lib.hid hq; have S1 := Lib.hid hsz; have HLP := Lib.hid hlp; have HLQ := Lib.hid hlq; have HFL := Lib.hid hpq; have HPL := Lib.hid hpl
  clear hh hs hd hdl hp hq hsz hlp hlq hpq hpl
  unfold HV
  by_cases h1 : ((s.size : Int) > 20)
  · go_enter Try.func5, Try.ntmps5
    go_wp2
    go_ret
    exact ⟨rfl, (Below.refl _ _).next (Nat.le_refl _) _⟩
  by_cases h2 : ((l : Int) + l2 > 1000)
  · go_enter Try.func5, Try.ntmps5
    go_wp2
    go_ret
    exact ⟨rfl, (Below.refl _ _).next (Nat.le_refl _) _⟩
  have hF : [p, q].flatten.length ≤ 140737488354000 ∧ s.size + pq.length ≤ 140737488354000 := by
    have h3 := HLP.out; have h4 := HLQ.out
    have h5 := HPL.out
    rw [HFL.out]; omega
  have HF := Lib.hid hF.1; have HB := Lib.hid hF.2
  clear hF
  go_enter Try.func5, Try.ntmps5
  go_wp2_with fail
  refine wp_gen (fun wr hwr => ?_)
  have hX0 : Blk wr w.heap.size (HC h) 29 := by rw [hwr]; exact Blk.new w _ _
  have hB0 : Below w.heap.size w wr := by rw [hwr]; exact (Below.refl _ _).next (Nat.le_refl _) _
  have HP : Hid (Arg8 wr a l c p) := Lib.hid (by rw [hwr]; exact HP.out.below ((Below.refl _ _).next (Nat.le_refl _) _))
  have HQ : Hid (Arg8 wr a2 l2 c2 q) := Lib.hid (by rw [hwr]; exact HQ.out.below ((Below.refl _ _).next (Nat.le_refl _) _))
  clear hwr
  refine region_grows _ (Nat.le_refl _) [isV 0 (HV h), isV 1 (.string s), isV 2 (.slice a l c), isV 3 (.slice a2 l2 c2), rowsV 4 2 [p, q], isV 5 (HV d), isV 6 (HV h), isV 7 (.string s), isV 8 (.slice a l c), isV 9 (.slice a2 l2 c2), argsV 10 2 [p, q], bytesV 11 pq, isV 12 (HV d), isV 13 (.bool true), isV 14 (.bool true), isV 15 (.bool true), isV 16 (.bool true), isV 17 (.bool true)]
    [[], [], [], [], [2, 3], [0, 1, 4], [], [], [], [], [8, 9], [10], [6, 7, 11], [5, 12], [13], [14], [14, 15], [16]] [some 20, some 21, some 22, some 23, some 24, some 25, some 26, some 27, some 28, some 29, some 30, some 31, some 32, some 33, some 34, some 35, some 36, some 8] _ (by kernel_rfl) (by kernel_rfl) (by kernel_rfl) (by kernel_rfl) (by kernel_rfl) rfl ?_ ?_ ?_
  · repeat (first | exact st_nil | refine st_cons (by first | exact st_is _ _ | exact st_as _ _ | exact st_row _ _ _ | exact st_rows _ _ _ | exact st_lit _ _ _ _ _ | exact st_args _ _ _ | exact st_bytes _ _) ?_)
  · intro hgz
    refine ⟨?_, ?_, ?_, ?_, ?_, ?_, ?_, ?_, ?_, ?_, ?_, ?_, ?_, ?_, ?_, ?_, ?_, ?_, trivial⟩ <;> intro vals w1 hb hf <;> obtain ⟨hb, hz⟩ := hgz w1 hb <;> simp [leans, factsOf, phi, sel_lit, sel_row, sel_rows, sel_args, sel_bytes, isV, asV, sel] at hf <;> simp [putD, phi, Act.put]
    · -- 0 load 
      refine wpList_load_row rfl 29 _ rfl _ rfl 29 (HC h) (0, 0) _ (hX0.keep hb.below) Try.underlying29 rfl S1.out ?_
      exact ⟨rfl, rfl, .refl _ _, mk_is rfl⟩
    · -- 1 move 
      go_wp2
      exact ⟨rfl, rfl, .refl _ _, mk_is rfl⟩
    · -- 2 move 
      go_wp2
      exact ⟨rfl, rfl, .refl _ _, mk_is rfl⟩
    · -- 3 move 
      go_wp2
      exact ⟨rfl, rfl, .refl _ _, mk_is rfl⟩
    · -- 4 buildSlice 
      simp only [hf]; clear hf
      go_wp2
      exact ⟨rfl, rfl, Grows.alloc _ _ hz, mk_rows w1.heap.size _ rfl (RowR.two (HP.out.below hb.below).row (HQ.out.below hb.below).row)⟩
    · -- 5 call curia/sponge.Derive 
      obtain ⟨e0, e1, g4, c4, e4, hr4⟩ := hf
      simp only [e0, e1, e4]
      go_wp2_with (first | (go_at_call 17; refine (derive_any h HL.out s HS.out _ 2 c4 [p, q] _ hr4).mono ?_; rintro e w' ⟨rfl, hb'⟩; rw [HFL.out, HD1.out]))
      exact ⟨rfl, rfl, Grows.of hb' hz, mk_is rfl⟩
    · -- 6 load 
      refine wpList_load_row rfl 29 _ rfl _ rfl 29 (HC h) (0, 0) _ (hX0.keep hb.below) Try.underlying29 rfl S1.out ?_
      exact ⟨rfl, rfl, .refl _ _, mk_is rfl⟩
    · -- 7 move 
      go_wp2
      exact ⟨rfl, rfl, .refl _ _, mk_is rfl⟩
    · -- 8 move 
      go_wp2
      exact ⟨rfl, rfl, .refl _ _, mk_is rfl⟩
    · -- 9 move 
      go_wp2
      exact ⟨rfl, rfl, .refl _ _, mk_is rfl⟩
    · -- 10 buildSlice 
      simp only [hf]; clear hf
      go_wp2
      exact ⟨rfl, rfl, Grows.alloc _ _ hz, mk_args w1.heap.size rfl (ArgR.two (HP.out.below hb.below) (HQ.out.below hb.below))⟩
    · -- 11 call curia/curiaref1.Join 
      obtain ⟨g10, e10, hr10⟩ := hf
      simp only [e10]
      have hj := rjoin_any (some ⟨g10, 0, none⟩) 2 2 [p, q] w1 hr10 HF.out
      rw [HFL.out] at hj
      have HJ := Lib.hid hj
      clear hj
      go_wp2_with (first | (go_at_call 19; refine (HJ.out).mono ?_; rintro e w' ⟨⟨a', c', rfl, hr', hn'⟩, hb'⟩))
      exact ⟨rfl, rfl, Grows.of hb' hz, mk_bytes a' c' rfl hr' hn'⟩
    · -- 12 call curia/curiaref1.Derive 
      obtain ⟨e6, e7, a11, c11, e11, hr11, hn11⟩ := hf
      simp only [e6, e7, e11]
      go_wp2_with (first | (go_at_call 18; refine (rderive_any h HL.out s a11 _ c11 _ _ hr11 hn11 HB.out).mono ?_; rintro e w' ⟨rfl, hb'⟩; rw [HD1.out]))
      exact ⟨rfl, rfl, Grows.of hb' hz, mk_is rfl⟩
    · -- 13 binOp 
      simp only [hf]; clear hf
      have kE := eqh w1 d d HDL.out HDL.out
      rw [beq_self_eq_true] at kE
      go_wp2
      exact ⟨rfl, rfl, .refl _ _, mk_is rfl⟩
    · -- 14 move 
      simp only [hf]; clear hf
      go_wp2
      exact ⟨rfl, rfl, .refl _ _, mk_is rfl⟩
    · -- 15 call curia/curialaw1.known if some (14, true)
      simp only [hf]; clear hf
      go_wp2_with (first | (go_at_call 14; refine (known_any _).mono ?_; rintro e w' ⟨rfl, hb'⟩))
      exact ⟨rfl, rfl, Grows.of hb' hz, mk_is rfl⟩
    · -- 16 pick 
      simp only [hf]; clear hf
      go_wp2
      exact ⟨rfl, rfl, .refl _ _, mk_is rfl⟩
    · -- 17 assign 
      simp only [hf]; clear hf
      go_wp2
      exact ⟨rfl, rfl, .refl _ _, mk_is rfl⟩
  · intro vals w1 hb hf; simp [leans, List.range, List.range.loop, factsOf, phi, sel_lit, sel_row, sel_rows, sel_args, sel_bytes, isV, asV, sel] at hf; simp [putD, List.range, List.range.loop, Act.put, hf]
    go_wp2
    go_ret
    exact ⟨rfl, hB0.lift hb.below hB0.size⟩
end Go.Proofs.Ytpgpdhheopgkpaa
