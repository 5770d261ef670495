/-
  The law PairNothing, walked.
-/
import Derived.Test.YtbhhgmaibdkgbaaPairMath
import Derived.Test.YtbhhgmaibdkgbaaPairNil
namespace Go.Proofs.Ytbhhgmaibdkgbaa
set_option maxRecDepth 100000
open Go.RowKit Pm
set_option linter.unusedVariables false
set_option linter.unusedSimpArgs false
attribute [local go_sem] eqh_guard key_y key_x

set_option maxRecDepth 100000 in
set_option maxHeartbeats 2000000 in
theorem pairOfNothing_walk {w : World} (pn : Int) (wpn : (Lit.int .i64 pn).wf = true) :
    Calls Try.prog 7 #[.int .i64 pn] w fun e w' => e = .returned (.bool true) ∧ Below w.heap.size w w' := by
  clear wpn
  obtain ⟨z, hz⟩ : ∃ z : List UInt8, List.replicate 32 0 = z := ⟨_, rfl⟩
  have hzl : z.length = 32 := by rw [← hz]; rfl
  have hsz : (Try.prog.info? 23).map (·.size) = some (HC z).size := by rw [HC_size, hzl]; kernel_rfl
  have hsz2 : zeros32.size = (HC z).size := by rw [HC_size, hzl]; rfl
  have HZ := Lib.hid hz; have HZL := Lib.hid hzl; have SZ := Lib.hid hsz; have SZ2 := Lib.hid hsz2
  clear hz hzl hsz hsz2
  obtain ⟨y, hy⟩ : ∃ y : List UInt8, sumW [] = y := ⟨_, rfl⟩
  have hyl : y.length = 32 := by rw [← hy]; exact sumW_length _
  have hne : (y == z) = false := by rw [← hy, ← HZ.out]; exact sum_nothing
  have HY := Lib.hid hy; have HYL := Lib.hid hyl; have HNE := Lib.hid hne
  clear hy hyl hne
  go_enter Try.func7, Try.ntmps7
  go_wp2_with (first
    | (go_at_call 19; refine (shared_nil pn _).mono ?_; rintro e w2 ⟨rfl, hb2⟩; rw [HZ.out]; have HB2 := Lib.hid hb2; clear hb2)
    | (refine wpList_store_row rfl 23 _ _ rfl w2.heap.size (HC z) rfl rfl 23 zeros32 (Blk.newAt _ _ rfl) SZ.out SZ2.out (HC_one _) ?_))
  refine wp_gen (fun wr hwr => ?_)
  have hZ0 : Blk wr w2.heap.size (HC z) 23 := by rw [hwr]; exact (Blk.newAt _ _ rfl).setRow _
  have hB0 : Below w.heap.size w wr := by rw [hwr]; exact below_setRow (HB2.out.next (Nat.le_refl _) _) _ HB2.out.size
  clear hwr
  refine region_grows _ (Nat.le_refl _) [isV 0 (.pointer none), isV 1 (.int .i64 0), isV 2 (.pointer none), isV 3 (.int .i64 0), isV 4 (.int .i64 0), isV 5 (.pointer none), isV 6 (.int .i64 0), isV 7 (.int .i64 0), isV 8 (.bool true), isV 9 (.bool true), isV 10 (.pointer none), isV 11 (.bool false), isV 12 (.bool true), isV 13 (.bool true), isV 14 (.bool true), isV 15 (.bool false), isV 16 (.bool true), isV 17 (.bool true), isV 18 (.bool true), isV 19 (HV z), isV 20 (.agg zeros32), isV 21 (.bool true), isV 22 (.bool true), isV 23 (.bool true), isV 24 (HV y), isV 25 (HV z), isV 26 (.bool true), isV 27 (.bool true), isV 28 (.bool true), isV 29 (.bool true), isV 30 (.bool true), isV 31 (.bool true)]
    [[], [0], [], [2], [1, 3], [], [5], [4, 6], [7], [8], [9], [9, 10], [9, 11], [9, 12], [13], [14], [14, 15], [14, 16], [17], [18], [18], [18, 19, 20], [18, 21], [22], [23], [23], [23, 24, 25], [23, 26], [27], [28], [28, 29], [30]] [some 12, some 13, some 14, some 15, some 16, some 17, some 18, some 19, some 20, some 21, some 22, some 23, some 24, some 25, some 26, some 27, some 28, some 29, some 30, some 31, some 32, some 33, some 34, some 35, some 36, some 37, some 38, some 39, some 40, some 41, some 42, some 2] _ (by kernel_rfl) (by kernel_rfl) (by kernel_rfl) (by kernel_rfl) (by kernel_rfl) rfl ?_ ?_ ?_
  · repeat (first | exact st_nil | refine st_cons (by first | exact st_is _ _ | exact st_as _ _ | exact st_row _ _ _ | exact st_rows _ _ _ | exact st_lit _ _ _ _ _ | exact st_args _ _ _ | exact st_bytes _ _) ?_)
  · intro hgz
    refine ⟨?_, ?_, ?_, ?_, ?_, ?_, ?_, ?_, ?_, ?_, ?_, ?_, ?_, ?_, ?_, ?_, ?_, ?_, ?_, ?_, ?_, ?_, ?_, ?_, ?_, ?_, ?_, ?_, ?_, ?_, ?_, ?_, trivial⟩ <;> intro vals w1 hb hf <;> obtain ⟨hb, hz⟩ := hgz w1 hb <;> simp [leans, factsOf, phi, sel_lit, sel_row, sel_rows, sel_args, sel_bytes, isV, asV, sel] at hf <;> simp [putD, phi, Act.put]
    · -- 0 move 
      go_wp2
      exact ⟨rfl, rfl, .refl _ _, mk_is rfl⟩
    · -- 1 call (*curia/pair.Key).Secret 
      simp only [hf]; clear hf
      go_wp2_with (first | (go_at_call 14; refine (secret_nil _).mono ?_; rintro e w' ⟨rfl, rfl⟩))
      exact ⟨rfl, rfl, .refl _ _, mk_is rfl⟩
    · -- 2 move 
      go_wp2
      exact ⟨rfl, rfl, .refl _ _, mk_is rfl⟩
    · -- 3 call (*curia/pair.Key).Public 
      simp only [hf]; clear hf
      go_wp2_with (first | (go_at_call 15; refine (public_nil _).mono ?_; rintro e w' ⟨rfl, hb'⟩))
      exact ⟨rfl, rfl, Grows.of hb' hz, mk_is rfl⟩
    · -- 4 binOp 
      simp only [hf]; clear hf
      go_wp2
      exact ⟨rfl, rfl, .refl _ _, mk_is rfl⟩
    · -- 5 move 
      go_wp2
      exact ⟨rfl, rfl, .refl _ _, mk_is rfl⟩
    · -- 6 call (*curia/pair.Key).Uses 
      simp only [hf]; clear hf
      go_wp2_with (first | (go_at_call 21; refine (uses_nil _).mono ?_; rintro e w' ⟨rfl, rfl⟩))
      exact ⟨rfl, rfl, .refl _ _, mk_is rfl⟩
    · -- 7 binOp 
      simp only [hf]; clear hf
      go_wp2
      exact ⟨rfl, rfl, .refl _ _, mk_is rfl⟩
    · -- 8 binOp 
      simp only [hf]; clear hf
      go_wp2
      exact ⟨rfl, rfl, .refl _ _, mk_is rfl⟩
    · -- 9 move 
      simp only [hf]; clear hf
      go_wp2
      exact ⟨rfl, rfl, .refl _ _, mk_is rfl⟩
    · -- 10 move if some (9, true)
      simp only [hf]; clear hf
      go_wp2
      exact ⟨rfl, rfl, .refl _ _, mk_is rfl⟩
    · -- 11 call (*curia/pair.Key).Made if some (9, true)
      simp only [hf]; clear hf
      go_wp2_with (first | (go_at_call 13; refine (made_nil _).mono ?_; rintro e w' ⟨rfl, rfl⟩))
      exact ⟨rfl, rfl, .refl _ _, mk_is rfl⟩
    · -- 12 unOp if some (9, true)
      simp only [hf]; clear hf
      go_wp2
      exact ⟨rfl, rfl, .refl _ _, mk_is rfl⟩
    · -- 13 pick 
      simp only [hf]; clear hf
      go_wp2
      exact ⟨rfl, rfl, .refl _ _, mk_is rfl⟩
    · -- 14 move 
      simp only [hf]; clear hf
      go_wp2
      exact ⟨rfl, rfl, .refl _ _, mk_is rfl⟩
    · -- 15 move if some (14, true)
      simp only [hf]; clear hf
      go_wp2
      exact ⟨rfl, rfl, .refl _ _, mk_is rfl⟩
    · -- 16 unOp if some (14, true)
      simp only [hf]; clear hf
      go_wp2
      exact ⟨rfl, rfl, .refl _ _, mk_is rfl⟩
    · -- 17 pick 
      simp only [hf]; clear hf
      go_wp2
      exact ⟨rfl, rfl, .refl _ _, mk_is rfl⟩
    · -- 18 move 
      simp only [hf]; clear hf
      go_wp2
      exact ⟨rfl, rfl, .refl _ _, mk_is rfl⟩
    · -- 19 load if some (18, true)
      simp only [hf]; clear hf
      refine one_wanted rfl ?_
      refine wpList_load_row rfl 23 _ rfl _ rfl 23 (HC z) (0, 0) _ (hZ0.keep hb.below) Try.underlying23 rfl SZ.out ?_
      exact ⟨rfl, rfl, .refl _ _, mk_is rfl⟩
    · -- 20 build if some (18, true)
      simp only [hf]; clear hf
      go_wp2
      exact ⟨rfl, rfl, .refl _ _, mk_is rfl⟩
    · -- 21 binOp if some (18, true)
      simp only [hf]; clear hf
      have kZ : (binOp .eql 23 (HV z) (.agg zeros32)).run Try.prog w1 = .ok (.bool true) w1 := by
        have h := eqh w1 z z HZL.out HZL.out
        rw [beq_self_eq_true] at h
        have e : zeros32 = HC z := by rw [← HZ.out]; rfl
        rw [e]; exact h
      have kG : ∀ p q, (eqGuard .eql 23 p q (HV z) (.agg zeros32)).run Try.prog w1 = .ok () w1 := fun p q => run_eqGuard_agg w1 .eql 23 p q _ _ (by kernel_rfl)
      go_wp2
      exact ⟨rfl, rfl, .refl _ _, mk_is rfl⟩
    · -- 22 pick 
      simp only [hf]; clear hf
      go_wp2
      exact ⟨rfl, rfl, .refl _ _, mk_is rfl⟩
    · -- 23 move 
      simp only [hf]; clear hf
      go_wp2
      exact ⟨rfl, rfl, .refl _ _, mk_is rfl⟩
    · -- 24 call curia/curiaref1.Sum if some (23, true)
      simp only [hf]; clear hf
      go_wp2_with (first | (go_at_call 23; refine (rsum_nil _).mono ?_; rintro e w' ⟨rfl, hb'⟩; rw [HY.out]))
      exact ⟨rfl, rfl, Grows.of hb' hz, mk_is rfl⟩
    · -- 25 load if some (23, true)
      simp only [hf]; clear hf
      refine one_wanted rfl ?_
      refine wpList_load_row rfl 23 _ rfl _ rfl 23 (HC z) (0, 0) _ (hZ0.keep hb.below) Try.underlying23 rfl SZ.out ?_
      exact ⟨rfl, rfl, .refl _ _, mk_is rfl⟩
    · -- 26 binOp if some (23, true)
      simp only [hf]; clear hf
      have kY := neh w1 y z HYL.out HZL.out
      rw [HNE.out] at kY
      go_wp2
      exact ⟨rfl, rfl, .refl _ _, mk_is rfl⟩
    · -- 27 pick 
      simp only [hf]; clear hf
      go_wp2
      exact ⟨rfl, rfl, .refl _ _, mk_is rfl⟩
    · -- 28 move 
      simp only [hf]; clear hf
      go_wp2
      exact ⟨rfl, rfl, .refl _ _, mk_is rfl⟩
    · -- 29 call curia/curialaw3.known if some (28, true)
      simp only [hf]; clear hf
      go_wp2_with (first | (go_at_call 18; refine (known_pair _).mono ?_; rintro e w' ⟨rfl, hb'⟩))
      exact ⟨rfl, rfl, Grows.of hb' hz, mk_is rfl⟩
    · -- 30 pick 
      simp only [hf]; clear hf
      go_wp2
      exact ⟨rfl, rfl, .refl _ _, mk_is rfl⟩
    · -- 31 assign 
      simp only [hf]; clear hf
      go_wp2
      exact ⟨rfl, rfl, .refl _ _, mk_is rfl⟩
  · intro vals w1 hb hf; simp [leans, List.range, List.range.loop, factsOf, phi, sel_lit, sel_row, sel_rows, sel_args, sel_bytes, isV, asV, sel] at hf; simp [putD, List.range, List.range.loop, Act.put, hf]
    go_wp2
    go_ret
    exact ⟨rfl, hB0.lift hb.below hB0.size⟩
end Go.Proofs.Ytbhhgmaibdkgbaa
