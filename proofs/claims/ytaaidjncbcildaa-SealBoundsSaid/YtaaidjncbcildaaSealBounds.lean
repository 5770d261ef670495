/-
  The walk of a law.
-/
import Derived.Test.YtaaidjncbcildaaGSeal
import Derived.Test.YtaaidjncbcildaaGBase
namespace Go.Proofs.Ytaaidjncbcildaa
set_option maxRecDepth 100000
open Go.RowKit Pm
set_option linter.unusedVariables false
set_option linter.unusedSimpArgs false

theorem open_nil12 (a : Option Addr) (b : List UInt8) (h12 : b.length = 12) (w : World) (hp : Row8 w a 12 b) :
    Calls Try.prog 15 #[.pointer none, .slice a 12 12] w fun e w' => e = .returned (.tuple #[.slice none 0 0, .int .i64 3]) ∧ Below w.heap.size w w' := by
  obtain ⟨b0, off, rfl⟩ : ∃ b0 off, a = some ⟨b0, off, none⟩ := by
    rcases hp.cells with h1 | ⟨b0, off, h1, _⟩
    · subst h1; cases h12
    · exact ⟨b0, off, h1⟩
  have r1 : Row8 w (some ⟨b0, off, none⟩) 4 (b.take 4) := by
    have h := hp.sub 0 4 (by omega)
    rw [List.drop_zero] at h; exact h
  have R1 := Lib.hid r1; have HL := Lib.hid (show (b.take 4).length = 4 by rw [List.length_take]; omega)
  clear r1 hp h12
  go_enter Try.func15, Try.ntmps15
  go_wp2
  refine region_tail 8 (by kernel_rfl) (by kernel_rfl) ?_
  simp only [List.take_succ_cons, List.take_zero, List.drop_succ_cons, List.drop_zero]
  still_step
  still_step
  still_step
  still_step
  still_step
  still_step
  still_step
  still_step
  refine wpStill_nil ?_
  go_wp2_with fail
  refine calls_gen (fun w1 hw1 => ?_)
  have hb1 : Below w.heap.size w w1 := by rw [hw1]; exact below_drew1 (Below.refl _ _)
  have HB1 := Lib.hid hb1; have R2 := Lib.hid (R1.out.below hb1)
  clear hw1 hb1 R1
  refine (number_any _ 4 _ _ HL.out _ R2.out).mono ?_
  rintro e w_ ⟨rfl, rfl⟩
  go_wp2_with fail
  refine (shared_nil _ _).mono ?_
  rintro e w2 ⟨rfl, hb2⟩
  have HB2 := Lib.hid (HB1.out.later hb2 (Nat.le_refl _))
  clear hb2
  go_wp2_with (refine wpList_store_row rfl 23 _ _ rfl w2.heap.size (HC (List.replicate 32 0)) rfl rfl 23 zeros32 (Blk.newAt _ _ rfl) (by kernel_rfl) rfl (HC_one _) ?_)
  refine bodyPost_ret (results_tmp2 rfl _ _ _) rfl ?_
  exact ⟨rfl, below_setRow (HB2.out.next (Nat.le_refl _) _) _ HB2.out.size⟩
theorem open_nil11 (a : Option Addr) (w : World) :
    Calls Try.prog 15 #[.pointer none, .slice a 11 11] w fun e w' => e = .returned (.tuple #[.slice none 0 0, .int .i64 2]) ∧ Below w.heap.size w w' := by
  go_enter Try.func15, Try.ntmps15
  go_wp2
  refine bodyPost_ret (results_tmp2 rfl _ _ _) rfl ?_
  exact ⟨rfl, Below.refl _ _⟩
theorem seal_len (y d : Int) (p : List UInt8) (n : Nat) (hn : p.length = n) : (sealB y d p).length = if isI y && decide (n ≤ 200) then 12 + n else 0 := by
  unfold sealB sealOk
  rw [hn]
  split <;> simp_all [boxW_length]
theorem seal_err (y : Int) (p : List UInt8) (n : Nat) (hn : p.length = n) : sealE y p = if isI y && decide (n ≤ 200) then 0 else 1 := by
  unfold sealE sealOk
  rw [hn]
set_option maxRecDepth 100000 in
set_option maxHeartbeats 4000000 in
theorem sealBounds_walk {w : World} (n : Int) (wn : (Lit.int .i64 n).wf = true) (y : Int) (wy : (Lit.int .i64 y).wf = true) :
    Calls Try.prog 7 #[.int .i64 n, .int .i64 y] w fun e w' => e = .returned (.bool true) ∧ Below w.heap.size w w' := by
  clear wn wy
  by_cases h1 : n < 0
  · go_enter Try.func7, Try.ntmps7
    go_wp2
    go_ret
    exact ⟨rfl, Below.refl _ _⟩
  by_cases h2 : n > 300
  · go_enter Try.func7, Try.ntmps7
    go_wp2
    go_ret
    exact ⟨rfl, Below.refl _ _⟩
  obtain ⟨k, rfl⟩ : ∃ k : Nat, n = k := ⟨n.toNat, by omega⟩
  have hk : k ≤ 300 := by omega
  clear h1 h2
  have h1 : ¬ (k : Int) < 0 := by omega
  have h2 : ¬ (k : Int) > 300 := by omega
  have hNi : IntKind.i64.wrap (12 + (k : Int)) = ((12 + k : Nat) : Int) := by rw [IntWalk.i64_in _ (by omega)]; omega
  have hNj : RowKit.wrap64 (12 + (k : Int)) = ((12 + k : Nat) : Int) := by rw [IntWalk.wrap64_in _ (by omega)]; omega
  obtain ⟨N, hN⟩ : ∃ N, 12 + k = N := ⟨_, rfl⟩
  rw [hN] at hNi hNj
  have hN0 : ¬ (N : Int) = 0 := by omega
  have hN1 : ¬ (0 : Int) = (N : Int) := by omega
  obtain ⟨i8, hi8, hz8, hs8, hb8⟩ := info_parts info8
  obtain ⟨p, hp⟩ : ∃ p : List UInt8, List.replicate k 0 = p := ⟨_, rfl⟩
  have hpl : p.length = k := by rw [← hp, List.length_replicate]
  have HPE := Lib.hid hp; have HPL := Lib.hid hpl; have HK := Lib.hid hk; have HN := Lib.hid hN
  clear hp hpl hk hN
  by_cases hA : k ≤ 200
  · have HA := Lib.hid (decide_eq_true hA)
    have hA2 : (k : Int) ≤ 200 := by omega
    clear hA
    rcases hy : isI y with _ | _
    · have HY := Lib.hid hy
      clear hy
      go_enter Try.func7, Try.ntmps7
      go_wp2_with (first
        | (at_make
           refine wpList_make_full _ rfl _ _ 24 rfl (w.heap.size) 5 i8 (.int .u8 0) 1 Try.underlying24 hi8 hz8 hs8 _ _ _ _ (k) rfl rfl rfl rfl ?m1 ?m2 ?m3 ?_
           case m1 => have := HK.out; rw [hb8]; omega
           case m2 => have := HK.out; simp only [maxLen]; omega
           case m3 => simp
           intro w1 hown1 hg1
           rw [made8] at hown1
           have hq1 := blk_of_own hown1
           rw [HPE.out] at hq1
           have hb1 : Below w.heap.size w w1 := (Below.refl _ _).grown hg1 (Nat.le_refl _) (fun k hk => by cases hk)
           have HB1 : Hid (Below w.heap.size w w1) := Lib.hid (hb1)
           have FP1 : Hid (Blk w1 w.heap.size (HC (p)) 5) := Lib.hid (hq1)
           clear hown1 hg1 hb1 hq1))
      refine calls_gen (fun w2 hw2 => ?_)
      have hb2 : Below w1.heap.size w1 w2 := by rw [hw2]; (first | exact Below.refl _ _ | exact (Below.refl _ _).next (Nat.le_refl _) _ | exact ((Below.refl _ _).next (Nat.le_refl _) _).next (Nat.le_refl _) _ | exact (((Below.refl _ _).next (Nat.le_refl _) _).next (Nat.le_refl _) _).next (Nat.le_refl _) _ | exact ((((Below.refl _ _).next (Nat.le_refl _) _).next (Nat.le_refl _) _).next (Nat.le_refl _) _).next (Nat.le_refl _) _ | exact below_drew1 (Below.refl _ _) | exact below_drew1 ((Below.refl _ _).next (Nat.le_refl _) _) | exact below_drew1 (((Below.refl _ _).next (Nat.le_refl _) _).next (Nat.le_refl _) _))
      have FP2 : Hid (Blk w2 w.heap.size (HC (p)) 5) := Lib.hid (FP1.out.keep hb2)
      have HB2 : Hid (Below w.heap.size w w2) := Lib.hid (HB1.out.later hb2 (Nat.le_refl _))
      clear FP1 HB1
      clear hb2 hw2
      have hse := seal_err 4 p k HPL.out
      have hsl := seal_len 4 (keyS unos) p k HPL.out
      rw [is_4, HA.out] at hse hsl
      simp only [Bool.true_and, Bool.false_and, Bool.and_true, Bool.and_false, if_true, if_false, Bool.false_eq_true] at hse hsl
      rw [HN.out] at hsl
      have HSE := Lib.hid hse; have HSL := Lib.hid hsl
      clear hse hsl
      refine (seal_uno 4 _ k k p _ ⟨Row8.ofBlk FP2.out (by rw [HPL.out]; have := HK.out; simp only [maxLen]; omega) k HPL.out.symm, fun e => by cases e⟩ (by rw [HPL.out]; have := HK.out; omega)).mono ?_
      rintro e w3 ⟨v3, rfl, hO3, hb3⟩
      rw [HSE.out]
      obtain ⟨a3, c3, rfl, _, _⟩ := hO3.toL (by rw [HSL.out]; have := HK.out; have := HN.out; omega)
      rw [HSL.out]
      clear hO3 HSE HSL
      have FP3 : Hid (Blk w3 w.heap.size (HC (p)) 5) := Lib.hid (FP2.out.keep hb3)
      have HB3 : Hid (Below w.heap.size w w3) := Lib.hid (HB2.out.later hb3 (Nat.le_refl _))
      clear FP2 HB2
      clear hb3
      go_wp2_with fail
      have hse := seal_err y [] 0 rfl
      have hsl := seal_len y (keyS unos) [] 0 rfl
      rw [HY.out] at hse hsl
      simp only [Bool.true_and, Bool.false_and, Nat.zero_le, decide_true, if_true, if_false, Bool.false_eq_true, Nat.add_zero] at hse hsl
      have HSE := Lib.hid hse; have HSL := Lib.hid hsl
      clear hse hsl
      refine (seal_uno y none 0 0 [] _ ⟨Row8.nil _ _, fun _ => rfl⟩ (by simp)).mono ?_
      rintro e w4 ⟨v4, rfl, hO4, hb4⟩
      rw [HSE.out]
      obtain ⟨a4, c4, rfl, _, _⟩ := hO4.toL (by rw [HSL.out]; decide)
      rw [HSL.out]
      clear hO4 HSE HSL
      have FP4 : Hid (Blk w4 w.heap.size (HC (p)) 5) := Lib.hid (FP3.out.keep hb4)
      have HB4 : Hid (Below w.heap.size w w4) := Lib.hid (HB3.out.later hb4 (Nat.le_refl _))
      clear FP3 HB3
      clear hb4
      go_wp2_with (first
        | (at_make
           refine wpList_make_full _ rfl _ _ 24 rfl (w4.heap.size) 5 i8 (.int .u8 0) 1 Try.underlying24 hi8 hz8 hs8 _ _ _ _ (12) rfl rfl rfl rfl ?m1 ?m2 ?m3 ?_
           case m1 => skip; rw [hb8]; omega
           case m2 => skip; simp only [maxLen]; omega
           case m3 => simp
           intro w5 hown5 hg5
           rw [made8] at hown5
           have hq5 := blk_of_own hown5
           have hb5 : Below w4.heap.size w4 w5 := (Below.refl _ _).grown hg5 (Nat.le_refl _) (fun k hk => by cases hk)
           have FP5 : Hid (Blk w5 w.heap.size (HC (p)) 5) := Lib.hid (FP4.out.keep hb5)
           have HB5 : Hid (Below w.heap.size w w5) := Lib.hid (HB4.out.later hb5 (Nat.le_refl _))
           clear FP4 HB4
           have FP125 : Hid (Blk w5 w4.heap.size (HC (List.replicate (12) 0)) 5) := Lib.hid (hq5)
           clear hown5 hg5 hb5 hq5))
      refine (open_nil12 _ (List.replicate 12 0) (by rfl) _ (Row8.ofBlk FP125.out (by simp [maxLen]) 12 (by rfl))).mono ?_
      rintro e w6 ⟨rfl, hb6⟩
      have FP6 : Hid (Blk w6 w.heap.size (HC (p)) 5) := Lib.hid (FP5.out.keep hb6)
      have FP126 : Hid (Blk w6 w4.heap.size (HC (List.replicate (12) 0)) 5) := Lib.hid (FP125.out.keep hb6)
      have HB6 : Hid (Below w.heap.size w w6) := Lib.hid (HB5.out.later hb6 (Nat.le_refl _))
      clear FP5 FP125 HB5
      clear hb6
      clear FP126
      go_wp2_with (first
        | (at_make
           refine wpList_make_full _ rfl _ _ 24 rfl (w6.heap.size) 5 i8 (.int .u8 0) 1 Try.underlying24 hi8 hz8 hs8 _ _ _ _ (11) rfl rfl rfl rfl ?m1 ?m2 ?m3 ?_
           case m1 => skip; rw [hb8]; omega
           case m2 => skip; simp only [maxLen]; omega
           case m3 => simp
           intro w7 hown7 hg7
           rw [made8] at hown7
           have hq7 := blk_of_own hown7
           have hb7 : Below w6.heap.size w6 w7 := (Below.refl _ _).grown hg7 (Nat.le_refl _) (fun k hk => by cases hk)
           have FP7 : Hid (Blk w7 w.heap.size (HC (p)) 5) := Lib.hid (FP6.out.keep hb7)
           have HB7 : Hid (Below w.heap.size w w7) := Lib.hid (HB6.out.later hb7 (Nat.le_refl _))
           clear FP6 HB6
           have FP117 : Hid (Blk w7 w6.heap.size (HC (List.replicate (11) 0)) 5) := Lib.hid (hq7)
           clear hown7 hg7 hb7 hq7))
      refine (open_nil11 _ _).mono ?_
      rintro e w8 ⟨rfl, hb8⟩
      have FP8 : Hid (Blk w8 w.heap.size (HC (p)) 5) := Lib.hid (FP7.out.keep hb8)
      have FP118 : Hid (Blk w8 w6.heap.size (HC (List.replicate (11) 0)) 5) := Lib.hid (FP117.out.keep hb8)
      have HB8 : Hid (Below w.heap.size w w8) := Lib.hid (HB7.out.later hb8 (Nat.le_refl _))
      clear FP7 FP117 HB7
      clear hb8
      go_wp2_with (first
        | (go_at_call 20; with_reducible refine (ris_any y _).mono ?_; rintro e' w' ⟨rfl, rfl⟩; rw [HY.out])
        | (go_at_call 14; with_reducible refine (known_seal _).mono ?_; rintro e w9 ⟨rfl, hb9⟩))
      go_ret
      exact ⟨rfl, HB8.out.later hb9 (Nat.le_refl _)⟩
    · have HY := Lib.hid hy
      clear hy
      go_enter Try.func7, Try.ntmps7
      go_wp2_with (first
        | (at_make
           refine wpList_make_full _ rfl _ _ 24 rfl (w.heap.size) 5 i8 (.int .u8 0) 1 Try.underlying24 hi8 hz8 hs8 _ _ _ _ (k) rfl rfl rfl rfl ?m1 ?m2 ?m3 ?_
           case m1 => have := HK.out; rw [hb8]; omega
           case m2 => have := HK.out; simp only [maxLen]; omega
           case m3 => simp
           intro w1 hown1 hg1
           rw [made8] at hown1
           have hq1 := blk_of_own hown1
           rw [HPE.out] at hq1
           have hb1 : Below w.heap.size w w1 := (Below.refl _ _).grown hg1 (Nat.le_refl _) (fun k hk => by cases hk)
           have HB1 : Hid (Below w.heap.size w w1) := Lib.hid (hb1)
           have FP1 : Hid (Blk w1 w.heap.size (HC (p)) 5) := Lib.hid (hq1)
           clear hown1 hg1 hb1 hq1))
      refine calls_gen (fun w2 hw2 => ?_)
      have hb2 : Below w1.heap.size w1 w2 := by rw [hw2]; (first | exact Below.refl _ _ | exact (Below.refl _ _).next (Nat.le_refl _) _ | exact ((Below.refl _ _).next (Nat.le_refl _) _).next (Nat.le_refl _) _ | exact (((Below.refl _ _).next (Nat.le_refl _) _).next (Nat.le_refl _) _).next (Nat.le_refl _) _ | exact ((((Below.refl _ _).next (Nat.le_refl _) _).next (Nat.le_refl _) _).next (Nat.le_refl _) _).next (Nat.le_refl _) _ | exact below_drew1 (Below.refl _ _) | exact below_drew1 ((Below.refl _ _).next (Nat.le_refl _) _) | exact below_drew1 (((Below.refl _ _).next (Nat.le_refl _) _).next (Nat.le_refl _) _))
      have FP2 : Hid (Blk w2 w.heap.size (HC (p)) 5) := Lib.hid (FP1.out.keep hb2)
      have HB2 : Hid (Below w.heap.size w w2) := Lib.hid (HB1.out.later hb2 (Nat.le_refl _))
      clear FP1 HB1
      clear hb2 hw2
      have hse := seal_err 4 p k HPL.out
      have hsl := seal_len 4 (keyS unos) p k HPL.out
      rw [is_4, HA.out] at hse hsl
      simp only [Bool.true_and, Bool.false_and, Bool.and_true, Bool.and_false, if_true, if_false, Bool.false_eq_true] at hse hsl
      rw [HN.out] at hsl
      have HSE := Lib.hid hse; have HSL := Lib.hid hsl
      clear hse hsl
      refine (seal_uno 4 _ k k p _ ⟨Row8.ofBlk FP2.out (by rw [HPL.out]; have := HK.out; simp only [maxLen]; omega) k HPL.out.symm, fun e => by cases e⟩ (by rw [HPL.out]; have := HK.out; omega)).mono ?_
      rintro e w3 ⟨v3, rfl, hO3, hb3⟩
      rw [HSE.out]
      obtain ⟨a3, c3, rfl, _, _⟩ := hO3.toL (by rw [HSL.out]; have := HK.out; have := HN.out; omega)
      rw [HSL.out]
      clear hO3 HSE HSL
      have FP3 : Hid (Blk w3 w.heap.size (HC (p)) 5) := Lib.hid (FP2.out.keep hb3)
      have HB3 : Hid (Below w.heap.size w w3) := Lib.hid (HB2.out.later hb3 (Nat.le_refl _))
      clear FP2 HB2
      clear hb3
      go_wp2_with fail
      have hse := seal_err y [] 0 rfl
      have hsl := seal_len y (keyS unos) [] 0 rfl
      rw [HY.out] at hse hsl
      simp only [Bool.true_and, Bool.false_and, Nat.zero_le, decide_true, if_true, if_false, Bool.false_eq_true, Nat.add_zero] at hse hsl
      have HSE := Lib.hid hse; have HSL := Lib.hid hsl
      clear hse hsl
      refine (seal_uno y none 0 0 [] _ ⟨Row8.nil _ _, fun _ => rfl⟩ (by simp)).mono ?_
      rintro e w4 ⟨v4, rfl, hO4, hb4⟩
      rw [HSE.out]
      obtain ⟨a4, c4, rfl, _, _⟩ := hO4.toL (by rw [HSL.out]; decide)
      rw [HSL.out]
      clear hO4 HSE HSL
      have FP4 : Hid (Blk w4 w.heap.size (HC (p)) 5) := Lib.hid (FP3.out.keep hb4)
      have HB4 : Hid (Below w.heap.size w w4) := Lib.hid (HB3.out.later hb4 (Nat.le_refl _))
      clear FP3 HB3
      clear hb4
      go_wp2_with (first
        | (at_make
           refine wpList_make_full _ rfl _ _ 24 rfl (w4.heap.size) 5 i8 (.int .u8 0) 1 Try.underlying24 hi8 hz8 hs8 _ _ _ _ (12) rfl rfl rfl rfl ?m1 ?m2 ?m3 ?_
           case m1 => skip; rw [hb8]; omega
           case m2 => skip; simp only [maxLen]; omega
           case m3 => simp
           intro w5 hown5 hg5
           rw [made8] at hown5
           have hq5 := blk_of_own hown5
           have hb5 : Below w4.heap.size w4 w5 := (Below.refl _ _).grown hg5 (Nat.le_refl _) (fun k hk => by cases hk)
           have FP5 : Hid (Blk w5 w.heap.size (HC (p)) 5) := Lib.hid (FP4.out.keep hb5)
           have HB5 : Hid (Below w.heap.size w w5) := Lib.hid (HB4.out.later hb5 (Nat.le_refl _))
           clear FP4 HB4
           have FP125 : Hid (Blk w5 w4.heap.size (HC (List.replicate (12) 0)) 5) := Lib.hid (hq5)
           clear hown5 hg5 hb5 hq5))
      refine (open_nil12 _ (List.replicate 12 0) (by rfl) _ (Row8.ofBlk FP125.out (by simp [maxLen]) 12 (by rfl))).mono ?_
      rintro e w6 ⟨rfl, hb6⟩
      have FP6 : Hid (Blk w6 w.heap.size (HC (p)) 5) := Lib.hid (FP5.out.keep hb6)
      have FP126 : Hid (Blk w6 w4.heap.size (HC (List.replicate (12) 0)) 5) := Lib.hid (FP125.out.keep hb6)
      have HB6 : Hid (Below w.heap.size w w6) := Lib.hid (HB5.out.later hb6 (Nat.le_refl _))
      clear FP5 FP125 HB5
      clear hb6
      clear FP126
      go_wp2_with (first
        | (at_make
           refine wpList_make_full _ rfl _ _ 24 rfl (w6.heap.size) 5 i8 (.int .u8 0) 1 Try.underlying24 hi8 hz8 hs8 _ _ _ _ (11) rfl rfl rfl rfl ?m1 ?m2 ?m3 ?_
           case m1 => skip; rw [hb8]; omega
           case m2 => skip; simp only [maxLen]; omega
           case m3 => simp
           intro w7 hown7 hg7
           rw [made8] at hown7
           have hq7 := blk_of_own hown7
           have hb7 : Below w6.heap.size w6 w7 := (Below.refl _ _).grown hg7 (Nat.le_refl _) (fun k hk => by cases hk)
           have FP7 : Hid (Blk w7 w.heap.size (HC (p)) 5) := Lib.hid (FP6.out.keep hb7)
           have HB7 : Hid (Below w.heap.size w w7) := Lib.hid (HB6.out.later hb7 (Nat.le_refl _))
           clear FP6 HB6
           have FP117 : Hid (Blk w7 w6.heap.size (HC (List.replicate (11) 0)) 5) := Lib.hid (hq7)
           clear hown7 hg7 hb7 hq7))
      refine (open_nil11 _ _).mono ?_
      rintro e w8 ⟨rfl, hb8⟩
      have FP8 : Hid (Blk w8 w.heap.size (HC (p)) 5) := Lib.hid (FP7.out.keep hb8)
      have FP118 : Hid (Blk w8 w6.heap.size (HC (List.replicate (11) 0)) 5) := Lib.hid (FP117.out.keep hb8)
      have HB8 : Hid (Below w.heap.size w w8) := Lib.hid (HB7.out.later hb8 (Nat.le_refl _))
      clear FP7 FP117 HB7
      clear hb8
      go_wp2_with (first
        | (go_at_call 20; with_reducible refine (ris_any y _).mono ?_; rintro e' w' ⟨rfl, rfl⟩; rw [HY.out])
        | (go_at_call 14; with_reducible refine (known_seal _).mono ?_; rintro e w9 ⟨rfl, hb9⟩))
      go_ret
      exact ⟨rfl, HB8.out.later hb9 (Nat.le_refl _)⟩
  · have HA := Lib.hid (decide_eq_false hA)
    have hA2 : ¬ (k : Int) ≤ 200 := by omega
    have HA3 := Lib.hid (decide_eq_false hA2); have HA4 := Lib.hid hA2
    clear hA
    rcases hy : isI y with _ | _
    · have HY := Lib.hid hy
      clear hy
      go_enter Try.func7, Try.ntmps7
      go_wp2_with (first
        | (at_make
           refine wpList_make_full _ rfl _ _ 24 rfl (w.heap.size) 5 i8 (.int .u8 0) 1 Try.underlying24 hi8 hz8 hs8 _ _ _ _ (k) rfl rfl rfl rfl ?m1 ?m2 ?m3 ?_
           case m1 => have := HK.out; rw [hb8]; omega
           case m2 => have := HK.out; simp only [maxLen]; omega
           case m3 => simp
           intro w1 hown1 hg1
           rw [made8] at hown1
           have hq1 := blk_of_own hown1
           rw [HPE.out] at hq1
           have hb1 : Below w.heap.size w w1 := (Below.refl _ _).grown hg1 (Nat.le_refl _) (fun k hk => by cases hk)
           have HB1 : Hid (Below w.heap.size w w1) := Lib.hid (hb1)
           have FP1 : Hid (Blk w1 w.heap.size (HC (p)) 5) := Lib.hid (hq1)
           clear hown1 hg1 hb1 hq1))
      refine calls_gen (fun w2 hw2 => ?_)
      have hb2 : Below w1.heap.size w1 w2 := by rw [hw2]; (first | exact Below.refl _ _ | exact (Below.refl _ _).next (Nat.le_refl _) _ | exact ((Below.refl _ _).next (Nat.le_refl _) _).next (Nat.le_refl _) _ | exact (((Below.refl _ _).next (Nat.le_refl _) _).next (Nat.le_refl _) _).next (Nat.le_refl _) _ | exact ((((Below.refl _ _).next (Nat.le_refl _) _).next (Nat.le_refl _) _).next (Nat.le_refl _) _).next (Nat.le_refl _) _ | exact below_drew1 (Below.refl _ _) | exact below_drew1 ((Below.refl _ _).next (Nat.le_refl _) _) | exact below_drew1 (((Below.refl _ _).next (Nat.le_refl _) _).next (Nat.le_refl _) _))
      have FP2 : Hid (Blk w2 w.heap.size (HC (p)) 5) := Lib.hid (FP1.out.keep hb2)
      have HB2 : Hid (Below w.heap.size w w2) := Lib.hid (HB1.out.later hb2 (Nat.le_refl _))
      clear FP1 HB1
      clear hb2 hw2
      have hse := seal_err 4 p k HPL.out
      have hsl := seal_len 4 (keyS unos) p k HPL.out
      rw [is_4, HA.out] at hse hsl
      simp only [Bool.true_and, Bool.false_and, Bool.and_true, Bool.and_false, if_true, if_false, Bool.false_eq_true] at hse hsl
      have HSE := Lib.hid hse; have HSL := Lib.hid hsl
      clear hse hsl
      refine (seal_uno 4 _ k k p _ ⟨Row8.ofBlk FP2.out (by rw [HPL.out]; have := HK.out; simp only [maxLen]; omega) k HPL.out.symm, fun e => by cases e⟩ (by rw [HPL.out]; have := HK.out; omega)).mono ?_
      rintro e w3 ⟨v3, rfl, hO3, hb3⟩
      rw [HSE.out]
      obtain ⟨a3, c3, rfl, _, _⟩ := hO3.toL (by rw [HSL.out]; have := HK.out; have := HN.out; omega)
      rw [HSL.out]
      clear hO3 HSE HSL
      have FP3 : Hid (Blk w3 w.heap.size (HC (p)) 5) := Lib.hid (FP2.out.keep hb3)
      have HB3 : Hid (Below w.heap.size w w3) := Lib.hid (HB2.out.later hb3 (Nat.le_refl _))
      clear FP2 HB2
      clear hb3
      go_wp2_with fail
      have hse := seal_err y [] 0 rfl
      have hsl := seal_len y (keyS unos) [] 0 rfl
      rw [HY.out] at hse hsl
      simp only [Bool.true_and, Bool.false_and, Nat.zero_le, decide_true, if_true, if_false, Bool.false_eq_true, Nat.add_zero] at hse hsl
      have HSE := Lib.hid hse; have HSL := Lib.hid hsl
      clear hse hsl
      refine (seal_uno y none 0 0 [] _ ⟨Row8.nil _ _, fun _ => rfl⟩ (by simp)).mono ?_
      rintro e w4 ⟨v4, rfl, hO4, hb4⟩
      rw [HSE.out]
      obtain ⟨a4, c4, rfl, _, _⟩ := hO4.toL (by rw [HSL.out]; decide)
      rw [HSL.out]
      clear hO4 HSE HSL
      have FP4 : Hid (Blk w4 w.heap.size (HC (p)) 5) := Lib.hid (FP3.out.keep hb4)
      have HB4 : Hid (Below w.heap.size w w4) := Lib.hid (HB3.out.later hb4 (Nat.le_refl _))
      clear FP3 HB3
      clear hb4
      go_wp2_with (first
        | (at_make
           refine wpList_make_full _ rfl _ _ 24 rfl (w4.heap.size) 5 i8 (.int .u8 0) 1 Try.underlying24 hi8 hz8 hs8 _ _ _ _ (12) rfl rfl rfl rfl ?m1 ?m2 ?m3 ?_
           case m1 => skip; rw [hb8]; omega
           case m2 => skip; simp only [maxLen]; omega
           case m3 => simp
           intro w5 hown5 hg5
           rw [made8] at hown5
           have hq5 := blk_of_own hown5
           have hb5 : Below w4.heap.size w4 w5 := (Below.refl _ _).grown hg5 (Nat.le_refl _) (fun k hk => by cases hk)
           have FP5 : Hid (Blk w5 w.heap.size (HC (p)) 5) := Lib.hid (FP4.out.keep hb5)
           have HB5 : Hid (Below w.heap.size w w5) := Lib.hid (HB4.out.later hb5 (Nat.le_refl _))
           clear FP4 HB4
           have FP125 : Hid (Blk w5 w4.heap.size (HC (List.replicate (12) 0)) 5) := Lib.hid (hq5)
           clear hown5 hg5 hb5 hq5))
      refine (open_nil12 _ (List.replicate 12 0) (by rfl) _ (Row8.ofBlk FP125.out (by simp [maxLen]) 12 (by rfl))).mono ?_
      rintro e w6 ⟨rfl, hb6⟩
      have FP6 : Hid (Blk w6 w.heap.size (HC (p)) 5) := Lib.hid (FP5.out.keep hb6)
      have FP126 : Hid (Blk w6 w4.heap.size (HC (List.replicate (12) 0)) 5) := Lib.hid (FP125.out.keep hb6)
      have HB6 : Hid (Below w.heap.size w w6) := Lib.hid (HB5.out.later hb6 (Nat.le_refl _))
      clear FP5 FP125 HB5
      clear hb6
      clear FP126
      go_wp2_with (first
        | (at_make
           refine wpList_make_full _ rfl _ _ 24 rfl (w6.heap.size) 5 i8 (.int .u8 0) 1 Try.underlying24 hi8 hz8 hs8 _ _ _ _ (11) rfl rfl rfl rfl ?m1 ?m2 ?m3 ?_
           case m1 => skip; rw [hb8]; omega
           case m2 => skip; simp only [maxLen]; omega
           case m3 => simp
           intro w7 hown7 hg7
           rw [made8] at hown7
           have hq7 := blk_of_own hown7
           have hb7 : Below w6.heap.size w6 w7 := (Below.refl _ _).grown hg7 (Nat.le_refl _) (fun k hk => by cases hk)
           have FP7 : Hid (Blk w7 w.heap.size (HC (p)) 5) := Lib.hid (FP6.out.keep hb7)
           have HB7 : Hid (Below w.heap.size w w7) := Lib.hid (HB6.out.later hb7 (Nat.le_refl _))
           clear FP6 HB6
           have FP117 : Hid (Blk w7 w6.heap.size (HC (List.replicate (11) 0)) 5) := Lib.hid (hq7)
           clear hown7 hg7 hb7 hq7))
      refine (open_nil11 _ _).mono ?_
      rintro e w8 ⟨rfl, hb8⟩
      have FP8 : Hid (Blk w8 w.heap.size (HC (p)) 5) := Lib.hid (FP7.out.keep hb8)
      have FP118 : Hid (Blk w8 w6.heap.size (HC (List.replicate (11) 0)) 5) := Lib.hid (FP117.out.keep hb8)
      have HB8 : Hid (Below w.heap.size w w8) := Lib.hid (HB7.out.later hb8 (Nat.le_refl _))
      clear FP7 FP117 HB7
      clear hb8
      go_wp2_with (first
        | (go_at_call 20; with_reducible refine (ris_any y _).mono ?_; rintro e' w' ⟨rfl, rfl⟩; rw [HY.out])
        | (go_at_call 14; with_reducible refine (known_seal _).mono ?_; rintro e w9 ⟨rfl, hb9⟩))
      all_goals first | (exfalso; refine absurd ?_ (by assumption : ¬ ((0 : Int) == (N : Int)) = decide ((k : Int) ≤ 200)); rw [HA3.out]; exact beq_f hN1) | (go_ret; exact ⟨by first | rfl | (rw [HA3.out]; rfl), HB8.out.later hb9 (Nat.le_refl _)⟩)
    · have HY := Lib.hid hy
      clear hy
      go_enter Try.func7, Try.ntmps7
      go_wp2_with (first
        | (at_make
           refine wpList_make_full _ rfl _ _ 24 rfl (w.heap.size) 5 i8 (.int .u8 0) 1 Try.underlying24 hi8 hz8 hs8 _ _ _ _ (k) rfl rfl rfl rfl ?m1 ?m2 ?m3 ?_
           case m1 => have := HK.out; rw [hb8]; omega
           case m2 => have := HK.out; simp only [maxLen]; omega
           case m3 => simp
           intro w1 hown1 hg1
           rw [made8] at hown1
           have hq1 := blk_of_own hown1
           rw [HPE.out] at hq1
           have hb1 : Below w.heap.size w w1 := (Below.refl _ _).grown hg1 (Nat.le_refl _) (fun k hk => by cases hk)
           have HB1 : Hid (Below w.heap.size w w1) := Lib.hid (hb1)
           have FP1 : Hid (Blk w1 w.heap.size (HC (p)) 5) := Lib.hid (hq1)
           clear hown1 hg1 hb1 hq1))
      refine calls_gen (fun w2 hw2 => ?_)
      have hb2 : Below w1.heap.size w1 w2 := by rw [hw2]; (first | exact Below.refl _ _ | exact (Below.refl _ _).next (Nat.le_refl _) _ | exact ((Below.refl _ _).next (Nat.le_refl _) _).next (Nat.le_refl _) _ | exact (((Below.refl _ _).next (Nat.le_refl _) _).next (Nat.le_refl _) _).next (Nat.le_refl _) _ | exact ((((Below.refl _ _).next (Nat.le_refl _) _).next (Nat.le_refl _) _).next (Nat.le_refl _) _).next (Nat.le_refl _) _ | exact below_drew1 (Below.refl _ _) | exact below_drew1 ((Below.refl _ _).next (Nat.le_refl _) _) | exact below_drew1 (((Below.refl _ _).next (Nat.le_refl _) _).next (Nat.le_refl _) _))
      have FP2 : Hid (Blk w2 w.heap.size (HC (p)) 5) := Lib.hid (FP1.out.keep hb2)
      have HB2 : Hid (Below w.heap.size w w2) := Lib.hid (HB1.out.later hb2 (Nat.le_refl _))
      clear FP1 HB1
      clear hb2 hw2
      have hse := seal_err 4 p k HPL.out
      have hsl := seal_len 4 (keyS unos) p k HPL.out
      rw [is_4, HA.out] at hse hsl
      simp only [Bool.true_and, Bool.false_and, Bool.and_true, Bool.and_false, if_true, if_false, Bool.false_eq_true] at hse hsl
      have HSE := Lib.hid hse; have HSL := Lib.hid hsl
      clear hse hsl
      refine (seal_uno 4 _ k k p _ ⟨Row8.ofBlk FP2.out (by rw [HPL.out]; have := HK.out; simp only [maxLen]; omega) k HPL.out.symm, fun e => by cases e⟩ (by rw [HPL.out]; have := HK.out; omega)).mono ?_
      rintro e w3 ⟨v3, rfl, hO3, hb3⟩
      rw [HSE.out]
      obtain ⟨a3, c3, rfl, _, _⟩ := hO3.toL (by rw [HSL.out]; have := HK.out; have := HN.out; omega)
      rw [HSL.out]
      clear hO3 HSE HSL
      have FP3 : Hid (Blk w3 w.heap.size (HC (p)) 5) := Lib.hid (FP2.out.keep hb3)
      have HB3 : Hid (Below w.heap.size w w3) := Lib.hid (HB2.out.later hb3 (Nat.le_refl _))
      clear FP2 HB2
      clear hb3
      go_wp2_with fail
      have hse := seal_err y [] 0 rfl
      have hsl := seal_len y (keyS unos) [] 0 rfl
      rw [HY.out] at hse hsl
      simp only [Bool.true_and, Bool.false_and, Nat.zero_le, decide_true, if_true, if_false, Bool.false_eq_true, Nat.add_zero] at hse hsl
      have HSE := Lib.hid hse; have HSL := Lib.hid hsl
      clear hse hsl
      refine (seal_uno y none 0 0 [] _ ⟨Row8.nil _ _, fun _ => rfl⟩ (by simp)).mono ?_
      rintro e w4 ⟨v4, rfl, hO4, hb4⟩
      rw [HSE.out]
      obtain ⟨a4, c4, rfl, _, _⟩ := hO4.toL (by rw [HSL.out]; decide)
      rw [HSL.out]
      clear hO4 HSE HSL
      have FP4 : Hid (Blk w4 w.heap.size (HC (p)) 5) := Lib.hid (FP3.out.keep hb4)
      have HB4 : Hid (Below w.heap.size w w4) := Lib.hid (HB3.out.later hb4 (Nat.le_refl _))
      clear FP3 HB3
      clear hb4
      go_wp2_with (first
        | (at_make
           refine wpList_make_full _ rfl _ _ 24 rfl (w4.heap.size) 5 i8 (.int .u8 0) 1 Try.underlying24 hi8 hz8 hs8 _ _ _ _ (12) rfl rfl rfl rfl ?m1 ?m2 ?m3 ?_
           case m1 => skip; rw [hb8]; omega
           case m2 => skip; simp only [maxLen]; omega
           case m3 => simp
           intro w5 hown5 hg5
           rw [made8] at hown5
           have hq5 := blk_of_own hown5
           have hb5 : Below w4.heap.size w4 w5 := (Below.refl _ _).grown hg5 (Nat.le_refl _) (fun k hk => by cases hk)
           have FP5 : Hid (Blk w5 w.heap.size (HC (p)) 5) := Lib.hid (FP4.out.keep hb5)
           have HB5 : Hid (Below w.heap.size w w5) := Lib.hid (HB4.out.later hb5 (Nat.le_refl _))
           clear FP4 HB4
           have FP125 : Hid (Blk w5 w4.heap.size (HC (List.replicate (12) 0)) 5) := Lib.hid (hq5)
           clear hown5 hg5 hb5 hq5))
      refine (open_nil12 _ (List.replicate 12 0) (by rfl) _ (Row8.ofBlk FP125.out (by simp [maxLen]) 12 (by rfl))).mono ?_
      rintro e w6 ⟨rfl, hb6⟩
      have FP6 : Hid (Blk w6 w.heap.size (HC (p)) 5) := Lib.hid (FP5.out.keep hb6)
      have FP126 : Hid (Blk w6 w4.heap.size (HC (List.replicate (12) 0)) 5) := Lib.hid (FP125.out.keep hb6)
      have HB6 : Hid (Below w.heap.size w w6) := Lib.hid (HB5.out.later hb6 (Nat.le_refl _))
      clear FP5 FP125 HB5
      clear hb6
      clear FP126
      go_wp2_with (first
        | (at_make
           refine wpList_make_full _ rfl _ _ 24 rfl (w6.heap.size) 5 i8 (.int .u8 0) 1 Try.underlying24 hi8 hz8 hs8 _ _ _ _ (11) rfl rfl rfl rfl ?m1 ?m2 ?m3 ?_
           case m1 => skip; rw [hb8]; omega
           case m2 => skip; simp only [maxLen]; omega
           case m3 => simp
           intro w7 hown7 hg7
           rw [made8] at hown7
           have hq7 := blk_of_own hown7
           have hb7 : Below w6.heap.size w6 w7 := (Below.refl _ _).grown hg7 (Nat.le_refl _) (fun k hk => by cases hk)
           have FP7 : Hid (Blk w7 w.heap.size (HC (p)) 5) := Lib.hid (FP6.out.keep hb7)
           have HB7 : Hid (Below w.heap.size w w7) := Lib.hid (HB6.out.later hb7 (Nat.le_refl _))
           clear FP6 HB6
           have FP117 : Hid (Blk w7 w6.heap.size (HC (List.replicate (11) 0)) 5) := Lib.hid (hq7)
           clear hown7 hg7 hb7 hq7))
      refine (open_nil11 _ _).mono ?_
      rintro e w8 ⟨rfl, hb8⟩
      have FP8 : Hid (Blk w8 w.heap.size (HC (p)) 5) := Lib.hid (FP7.out.keep hb8)
      have FP118 : Hid (Blk w8 w6.heap.size (HC (List.replicate (11) 0)) 5) := Lib.hid (FP117.out.keep hb8)
      have HB8 : Hid (Below w.heap.size w w8) := Lib.hid (HB7.out.later hb8 (Nat.le_refl _))
      clear FP7 FP117 HB7
      clear hb8
      go_wp2_with (first
        | (go_at_call 20; with_reducible refine (ris_any y _).mono ?_; rintro e' w' ⟨rfl, rfl⟩; rw [HY.out])
        | (go_at_call 14; with_reducible refine (known_seal _).mono ?_; rintro e w9 ⟨rfl, hb9⟩))
      all_goals first | (exfalso; refine absurd ?_ (by assumption : ¬ ((0 : Int) == (N : Int)) = decide ((k : Int) ≤ 200)); rw [HA3.out]; exact beq_f hN1) | (go_ret; exact ⟨by first | rfl | (rw [HA3.out]; rfl), HB8.out.later hb9 (Nat.le_refl _)⟩)
end Go.Proofs.Ytaaidjncbcildaa
