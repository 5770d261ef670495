/-
  The law PairRefuses, walked.
-/
import Derived.Test.YtbhhgmaibdkgbaaPairMath
namespace Go.Proofs.Ytbhhgmaibdkgbaa
set_option maxRecDepth 100000
open Go.RowKit Pm
set_option linter.unusedVariables false
set_option linter.unusedSimpArgs false
attribute [local go_sem] eqh_guard key_y key_x

set_option maxRecDepth 100000 in
set_option maxHeartbeats 2000000 in
theorem pairRefuses_walk {w : World} (a : List UInt8) (ha : a.length = 32) (odd : Int) (wodd : (Lit.int .i64 odd).wf = true) :
    Calls Try.prog 9 #[HV a, .int .i64 odd] w fun e w' => e = .returned (.bool true) ∧ Below w.heap.size w w' := by
  have hsz : (Try.prog.info? 23).map (·.size) = some (HC a).size := by rw [HC_size, ha]; kernel_rfl
  obtain ⟨s, hs⟩ : ∃ s, keyS a = s := ⟨_, rfl⟩
  have hbs := keyS_bd a
  rw [hs] at hbs
  have HA := Lib.hid ha; have S1 := Lib.hid hsz; have HS := Lib.hid hs; have BS := Lib.hid hbs
  clear ha hsz hs hbs
  unfold HV
  by_cases ho : isI odd = true
  · skip
    obtain ⟨z, hz⟩ : ∃ z : List UInt8, shareW odd s = z := ⟨_, rfl⟩
    have hzl : z.length = 32 := by rw [← hz]; exact shareW_length _ _
    have hsz : (Try.prog.info? 23).map (·.size) = some (HC z).size := by rw [HC_size, hzl]; kernel_rfl
    have hsz2 : zeros32.size = (HC z).size := by rw [HC_size, hzl]; rfl
    have HZ := Lib.hid hz; have HZL := Lib.hid hzl; have SZ := Lib.hid hsz; have SZ2 := Lib.hid hsz2
    clear hz hzl hsz hsz2
    have hX0 : Blk (w.alloc (.cells (HC a) 23)) w.heap.size (HC a) 23 := Blk.new w _ _
    have hB0 : Below w.heap.size w (w.alloc (.cells (HC a) 23)) := (Below.refl _ w).next (Nat.le_refl _) _
    have HX0 := Lib.hid hX0; have HB0 := Lib.hid hB0
    clear hX0 hB0
    go_enter Try.func9, Try.ntmps9
    go_wp2_with (first
        | (refine wpList_load_row rfl 23 _ rfl (w.heap.size) rfl 23 (HC a) (0, 0) _ HX0.out Try.underlying23 rfl S1.out ?_))
    refine (from_k a HA.out _).mono ?_
    rintro e w11 ⟨g, rfl, hg1, hk1, hb11⟩
    rw [HS.out] at hk1
    have HG1 := Lib.hid (Nat.le_trans HB0.out.size hg1)
    have hxg : w.heap.size ≠ g := by have := HX0.out.lt; omega
    have HK11 := Lib.hid hk1
    clear hk1 hg1
    have hX11 := HX0.out.keep hb11
    have hB11 := HB0.out.later hb11 (Nat.le_refl _)
    have HX11 := Lib.hid hX11; have HB11 := Lib.hid hB11
    clear hX11 hB11 HX0 HB0 hb11
    go_wp2_with fail
    refine (shared_yes g s 0 0 0 0 odd ho (by decide) _ HK11.out).mono ?_
    rintro e w12 ⟨rfl, hk12, hg12⟩
    rw [HZ.out]
    have hX12 := HX11.out.grown hg12 (hxg)
    have hK12 : Blk w12 (g) (CK s 0 0 0 1) 61 := hk12
    have hB12 := below_grown HB11.out hg12 HG1.out HB11.out.size
    have HX12 := Lib.hid hX12; have HK12 := Lib.hid hK12; have HB12 := Lib.hid hB12
    clear hX12 hK12 hB12 HX11 HK11 HB11 hk12 hg12
    go_wp2_with (first
        | (refine wpList_store_row rfl 23 _ _ rfl w12.heap.size (HC z) rfl rfl 23 zeros32 (Blk.newAt _ _ rfl) SZ.out SZ2.out (HC_one _) ?_
           refine wpl_gen (fun w13 hw13 => ?_)
           have hX13 : Blk w13 (w.heap.size) (HC a) 23 := by rw [hw13]; exact (HX12.out.alloc _).otherRow _ (by have := HX12.out.lt; omega)
           have hK13 : Blk w13 (g) (CK s 0 0 0 1) 61 := by rw [hw13]; exact (HK12.out.alloc _).otherRow _ (by have := HK12.out.lt; omega)
           have hZ13 : Blk w13 (w12.heap.size) (HC z) 23 := by rw [hw13]; exact (Blk.newAt _ _ rfl).setRow _
           have hB13 : Below w.heap.size w w13 := by rw [hw13]; exact below_setRow (HB12.out.next (Nat.le_refl _) _) _ HB12.out.size
           have hneZX : w12.heap.size ≠ w.heap.size := by have := HX12.out.lt; omega
           have hneZK : w12.heap.size ≠ g := by have := HK12.out.lt; omega
           have HX13 := Lib.hid hX13; have HK13 := Lib.hid hK13; have HZ13 := Lib.hid hZ13; have HB13 := Lib.hid hB13
           clear hX13 hK13 hZ13 hB13 HX12 HK12 HB12 hw13))
    refine (ris_any odd _).mono ?_
    rintro e w14 ⟨rfl, rfl⟩
    rw [ho]
    go_wp2_with (first
        | (refine list_wanted rfl ?_; refine wpList_load_row rfl 23 _ rfl (w12.heap.size) rfl 23 (HC z) (0, 0) _ HZ13.out Try.underlying23 rfl SZ.out ?_)
        | (go_at_call 21; refine (uses_any g s 0 0 0 1 (by decide) _ HK13.out).mono ?_; rintro e w9 ⟨rfl, rfl⟩)
        | (go_at_call 13; refine (made_any g s 0 0 0 1 _ HK13.out).mono ?_; rintro e w9 ⟨rfl, rfl⟩)
        | (go_at_call 18; refine (known_pair _).mono ?_; rintro e w9 ⟨rfl, hb9⟩))
    go_ret
    exact ⟨rfl, HB13.out.later hb9 (Nat.le_refl _)⟩
  · have ho := Bool.eq_false_iff.2 ho
    obtain ⟨z, hz⟩ : ∃ z : List UInt8, List.replicate 32 0 = z := ⟨_, rfl⟩
    have hzl : z.length = 32 := by rw [← hz]; rfl
    have hsz : (Try.prog.info? 23).map (·.size) = some (HC z).size := by rw [HC_size, hzl]; kernel_rfl
    have hsz2 : zeros32.size = (HC z).size := by rw [HC_size, hzl]; rfl
    have HZ := Lib.hid hz; have HZL := Lib.hid hzl; have SZ := Lib.hid hsz; have SZ2 := Lib.hid hsz2
    clear hz hzl hsz hsz2
    have hX0 : Blk (w.alloc (.cells (HC a) 23)) w.heap.size (HC a) 23 := Blk.new w _ _
    have hB0 : Below w.heap.size w (w.alloc (.cells (HC a) 23)) := (Below.refl _ w).next (Nat.le_refl _) _
    have HX0 := Lib.hid hX0; have HB0 := Lib.hid hB0
    clear hX0 hB0
    have kG := fun w0 p q x y => run_eqGuard_agg (P := Try.prog) w0 .eql 23 p q x y (by kernel_rfl)
    have kZ : ∀ w0, (binOp .eql 23 (.agg (HC z)) (.agg zeros32)).run Try.prog w0 = .ok (.bool true) w0 := fun w0 => by
      have h := eqh w0 z z HZL.out HZL.out
      rw [beq_self_eq_true] at h
      have e : zeros32 = HC z := by rw [← HZ.out]; rfl
      rw [e]; exact h
    unfold zeros32 at kZ
    go_enter Try.func9, Try.ntmps9
    go_wp2_with (first
        | (refine wpList_load_row rfl 23 _ rfl (w.heap.size) rfl 23 (HC a) (0, 0) _ HX0.out Try.underlying23 rfl S1.out ?_))
    refine (from_k a HA.out _).mono ?_
    rintro e w11 ⟨g, rfl, hg1, hk1, hb11⟩
    rw [HS.out] at hk1
    have HG1 := Lib.hid (Nat.le_trans HB0.out.size hg1)
    have hxg : w.heap.size ≠ g := by have := HX0.out.lt; omega
    have HK11 := Lib.hid hk1
    clear hk1 hg1
    have hX11 := HX0.out.keep hb11
    have hB11 := HB0.out.later hb11 (Nat.le_refl _)
    have HX11 := Lib.hid hX11; have HB11 := Lib.hid hB11
    clear hX11 hB11 HX0 HB0 hb11
    go_wp2_with fail
    refine (shared_no g s 0 0 0 0 odd ho _ HK11.out).mono ?_
    rintro e w12 ⟨rfl, hb12⟩
    rw [HZ.out]
    have hX12 := HX11.out.keep hb12
    have hK12 := HK11.out.keep hb12
    have hB12 := HB11.out.later hb12 (Nat.le_refl _)
    have HX12 := Lib.hid hX12; have HK12 := Lib.hid hK12; have HB12 := Lib.hid hB12
    clear hX12 hK12 hB12 HX11 HK11 HB11 hb12
    go_wp2_with (first
        | (refine wpList_store_row rfl 23 _ _ rfl w12.heap.size (HC z) rfl rfl 23 zeros32 (Blk.newAt _ _ rfl) SZ.out SZ2.out (HC_one _) ?_
           refine wpl_gen (fun w13 hw13 => ?_)
           have hX13 : Blk w13 (w.heap.size) (HC a) 23 := by rw [hw13]; exact (HX12.out.alloc _).otherRow _ (by have := HX12.out.lt; omega)
           have hK13 : Blk w13 (g) (CK s 0 0 0 0) 61 := by rw [hw13]; exact (HK12.out.alloc _).otherRow _ (by have := HK12.out.lt; omega)
           have hZ13 : Blk w13 (w12.heap.size) (HC z) 23 := by rw [hw13]; exact (Blk.newAt _ _ rfl).setRow _
           have hB13 : Below w.heap.size w w13 := by rw [hw13]; exact below_setRow (HB12.out.next (Nat.le_refl _) _) _ HB12.out.size
           have hneZX : w12.heap.size ≠ w.heap.size := by have := HX12.out.lt; omega
           have hneZK : w12.heap.size ≠ g := by have := HK12.out.lt; omega
           have HX13 := Lib.hid hX13; have HK13 := Lib.hid hK13; have HZ13 := Lib.hid hZ13; have HB13 := Lib.hid hB13
           clear hX13 hK13 hZ13 hB13 HX12 HK12 HB12 hw13))
    refine (ris_any odd _).mono ?_
    rintro e w14 ⟨rfl, rfl⟩
    rw [ho]
    go_wp2_with (first
        | (refine list_wanted rfl ?_; refine wpList_load_row rfl 23 _ rfl (w12.heap.size) rfl 23 (HC z) (0, 0) _ HZ13.out Try.underlying23 rfl SZ.out ?_)
        | (go_at_call 21; refine (uses_any g s 0 0 0 0 (by decide) _ HK13.out).mono ?_; rintro e w9 ⟨rfl, rfl⟩)
        | (go_at_call 13; refine (made_any g s 0 0 0 0 _ HK13.out).mono ?_; rintro e w9 ⟨rfl, rfl⟩)
        | (go_at_call 18; refine (known_pair _).mono ?_; rintro e w9 ⟨rfl, hb9⟩))
    go_ret
    exact ⟨rfl, HB13.out.later hb9 (Nat.le_refl _)⟩
end Go.Proofs.Ytbhhgmaibdkgbaa
