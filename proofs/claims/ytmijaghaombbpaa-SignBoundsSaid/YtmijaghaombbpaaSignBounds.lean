/-
  The law SignBounds, walked.
-/
import Derived.Test.YtmijaghaombbpaaSignLaws
import Derived.Test.YtmijaghaombbpaaMuts2
import Derived.Test.YtmijaghaombbpaaOpenI
namespace Go.Proofs.Ytmijaghaombbpaa
set_option maxRecDepth 100000
open Go.RowKit Pm
set_option linter.unusedVariables false
set_option linter.unusedSimpArgs false
attribute [local go_sem] eqh_guard key_y key_x

set_option maxRecDepth 100000 in
set_option maxHeartbeats 2000000 in
theorem signBounds_walk {w : World} (a : List UInt8) (ha : a.length = 32) (la : Option Addr) (ll lc : Nat) (p : List UInt8) (hp : Arg8 w la ll lc p) (way : Int) (wway : (Lit.int .i64 way).wf = true) :
    Calls Try.prog 6 #[HV a, .slice la ll lc, .int .i64 way] w fun e w' => e = .returned (.bool true) ∧ Below w.heap.size w w' := by
  have hsz : (Try.prog.info? 23).map (·.size) = some (HC a).size := by rw [HC_size, ha]; kernel_rfl
  obtain ⟨s, hs⟩ : ∃ s, keyS a = s := ⟨_, rfl⟩
  have hbs := keyS_bd a
  rw [hs] at hbs
  have HA := Lib.hid ha; have S1 := Lib.hid hsz; have HS := Lib.hid hs; have BS := Lib.hid hbs
  clear ha hsz hs hbs
  unfold HV
  have hle := hp.le
  have hsm := hp.small
  have HP := Lib.hid hp
  clear hp
  obtain ⟨E, hE⟩ : ∃ E, sigE s p = E := ⟨_, rfl⟩
  obtain ⟨F, hF⟩ : ∃ F, sigS s p = F := ⟨_, rfl⟩
  have hver := verW_own s p BS.out
  have hEb := sigE_bd s p
  have hFb := sigS_bd s p
  rw [hE, hF] at hver
  rw [hE] at hEb
  rw [hF] at hFb
  have HVER := Lib.hid hver; have HE := Lib.hid hE; have HF := Lib.hid hF; have HEB := Lib.hid hEb; have HFB := Lib.hid hFb
  clear hver hE hF hEb hFb
  by_cases h1 : ((ll : Int) > 500)
  · go_enter Try.func6, Try.ntmps6
    go_wp2
    go_ret
    exact ⟨rfl, (Below.refl _ _).next (Nat.le_refl _) _⟩
  by_cases h2 : (way < 0)
  · go_enter Try.func6, Try.ntmps6
    go_wp2
    go_ret
    exact ⟨rfl, (Below.refl _ _).next (Nat.le_refl _) _⟩
  by_cases h3 : (way > 4)
  · go_enter Try.func6, Try.ntmps6
    go_wp2
    go_ret
    exact ⟨rfl, (Below.refl _ _).next (Nat.le_refl _) _⟩
  have hw : way = 0 ∨ way = 1 ∨ way = 2 ∨ way = 3 ∨ way = 4 := by omega
  clear wway h2 h3
  rcases hw with rfl | rfl | rfl | rfl | rfl
  · have hF0 := HFB.out.1
    have hF1 := HFB.out.2
    have hE0 := HEB.out.1
    have hE1 := HEB.out.2
    have hbs := BS.out
    have hp0 := powI_bd 4 s
    have hp1 := hp0.1
    have hp2 := hp0.2
    clear hp0
    have hver : verW (powI 4 s) p E (F + 1073741789) = false := verW_s (by omega)
    have HVN := Lib.hid hver
    clear hver
    have hwx : IntKind.i64.wrap (F + 1073741789) = F + 1073741789 := IntWalk.i64_in _ (by omega)
    clear hF0 hF1 hE0 hE1 hbs hp1 hp2
    have hX0 : Blk (w.alloc (.cells (HC a) 23)) w.heap.size (HC a) 23 := Blk.new w _ _
    have HX0 := Lib.hid hX0
    clear hX0
    go_enter Try.func6, Try.ntmps6
    go_wp2_with (first
      | (refine wpList_load_row rfl 23 _ rfl w.heap.size rfl 23 (HC a) (0, 0) _ HX0.out Try.underlying23 rfl S1.out ?_)
      | (go_at_call 12; refine (rfrom_k a HA.out _).mono ?_; rintro e1 wa ⟨rfl, hb1⟩; rw [HS.out]
         have hb1 := ((Below.refl _ w).next (Nat.le_refl _) (.cells (HC a) 23)).later hb1 (Nat.le_refl _)
         have HB1 := Lib.hid hb1; have HP1 := Lib.hid (HP.out.below hb1)
         clear hb1))
    refine calls_gen (fun w2 hw2 => ?_)
    have hq2 : Blk w2 wa.heap.size #[.int .i64 s, .int .i64 (powI 4 s)] 28 := by rw [hw2]; exact Blk.new _ _ _
    have hp2 : Arg8 w2 la ll lc p := by rw [hw2]; exact HP1.out.below ((Below.refl _ _).next (Nat.le_refl _) _)
    have hb2 : Below w.heap.size w w2 := by rw [hw2]; exact HB1.out.next (Nat.le_refl _) _
    have HQ2 := Lib.hid hq2; have HP2 := Lib.hid hp2; have HB2 := Lib.hid hb2
    clear hw2 hq2 hp2 hb2
    refine (rsign_any s BS.out la ll lc p _ HP2.out).mono ?_
    rintro e1 w3 ⟨rfl, hb3⟩
    rw [HE.out, HF.out]
    have HQ2 := Lib.hid (HQ2.out.keep hb3); have HP2 := Lib.hid (HP2.out.below hb3); have HB2 := Lib.hid (HB2.out.later hb3 (Nat.le_refl _))
    clear hb3
    have cq : (w3.alloc (.cells #[.int .i64 E, .int .i64 F] 31)).cell? ⟨wa.heap.size, 1, none⟩ = some (.int .i64 (powI 4 s)) := (HQ2.out.alloc _).cell 1
    go_wp2_with fail
    refine calls_gen (fun w4 hw4 => ?_)
    have hbd : Below w3.heap.size w3 w4 := by rw [hw4]; exact (Below.refl _ _).next (Nat.le_refl _) _
    have HP4 := Lib.hid (HP2.out.below hbd); have HB4 := Lib.hid (HB2.out.later hbd (Nat.le_refl _))
    clear hw4 hbd cq
    refine (verify_any ((powI 4 s)) (E) ((F + 1073741789)) la ll lc p _ HP4.out).mono ?_
    rintro e1 w5 ⟨rfl, hb5⟩
    rw [HVN.out]
    have HB5 := Lib.hid (HB4.out.later hb5 (Nat.le_refl _))
    clear hb5
    go_wp2_with (go_at_call 16; with_reducible refine (known_sign _).mono ?_; rintro e w9 ⟨rfl, hb9⟩)
    go_ret
    exact ⟨rfl, HB5.out.later hb9 (Nat.le_refl _)⟩
  · have hF0 := HFB.out.1
    have hF1 := HFB.out.2
    have hE0 := HEB.out.1
    have hE1 := HEB.out.2
    have hbs := BS.out
    have hp0 := powI_bd 4 s
    have hp1 := hp0.1
    have hp2 := hp0.2
    clear hp0
    have hver : verW (powI 4 s) p (E + 1073741789) F = false := verW_e (by omega)
    have HVN := Lib.hid hver
    clear hver
    have hwx : IntKind.i64.wrap (E + 1073741789) = E + 1073741789 := IntWalk.i64_in _ (by omega)
    clear hF0 hF1 hE0 hE1 hbs hp1 hp2
    have hX0 : Blk (w.alloc (.cells (HC a) 23)) w.heap.size (HC a) 23 := Blk.new w _ _
    have HX0 := Lib.hid hX0
    clear hX0
    go_enter Try.func6, Try.ntmps6
    go_wp2_with (first
      | (refine wpList_load_row rfl 23 _ rfl w.heap.size rfl 23 (HC a) (0, 0) _ HX0.out Try.underlying23 rfl S1.out ?_)
      | (go_at_call 12; refine (rfrom_k a HA.out _).mono ?_; rintro e1 wa ⟨rfl, hb1⟩; rw [HS.out]
         have hb1 := ((Below.refl _ w).next (Nat.le_refl _) (.cells (HC a) 23)).later hb1 (Nat.le_refl _)
         have HB1 := Lib.hid hb1; have HP1 := Lib.hid (HP.out.below hb1)
         clear hb1))
    refine calls_gen (fun w2 hw2 => ?_)
    have hq2 : Blk w2 wa.heap.size #[.int .i64 s, .int .i64 (powI 4 s)] 28 := by rw [hw2]; exact Blk.new _ _ _
    have hp2 : Arg8 w2 la ll lc p := by rw [hw2]; exact HP1.out.below ((Below.refl _ _).next (Nat.le_refl _) _)
    have hb2 : Below w.heap.size w w2 := by rw [hw2]; exact HB1.out.next (Nat.le_refl _) _
    have HQ2 := Lib.hid hq2; have HP2 := Lib.hid hp2; have HB2 := Lib.hid hb2
    clear hw2 hq2 hp2 hb2
    refine (rsign_any s BS.out la ll lc p _ HP2.out).mono ?_
    rintro e1 w3 ⟨rfl, hb3⟩
    rw [HE.out, HF.out]
    have HQ2 := Lib.hid (HQ2.out.keep hb3); have HP2 := Lib.hid (HP2.out.below hb3); have HB2 := Lib.hid (HB2.out.later hb3 (Nat.le_refl _))
    clear hb3
    have cq : (w3.alloc (.cells #[.int .i64 E, .int .i64 F] 31)).cell? ⟨wa.heap.size, 1, none⟩ = some (.int .i64 (powI 4 s)) := (HQ2.out.alloc _).cell 1
    go_wp2_with fail
    refine calls_gen (fun w4 hw4 => ?_)
    have hbd : Below w3.heap.size w3 w4 := by rw [hw4]; exact (Below.refl _ _).next (Nat.le_refl _) _
    have HP4 := Lib.hid (HP2.out.below hbd); have HB4 := Lib.hid (HB2.out.later hbd (Nat.le_refl _))
    clear hw4 hbd cq
    refine (verify_any ((powI 4 s)) ((E + 1073741789)) (F) la ll lc p _ HP4.out).mono ?_
    rintro e1 w5 ⟨rfl, hb5⟩
    rw [HVN.out]
    have HB5 := Lib.hid (HB4.out.later hb5 (Nat.le_refl _))
    clear hb5
    go_wp2_with (go_at_call 16; with_reducible refine (known_sign _).mono ?_; rintro e w9 ⟨rfl, hb9⟩)
    go_ret
    exact ⟨rfl, HB5.out.later hb9 (Nat.le_refl _)⟩
  · have hF0 := HFB.out.1
    have hF1 := HFB.out.2
    have hE0 := HEB.out.1
    have hE1 := HEB.out.2
    have hbs := BS.out
    have hp0 := powI_bd 4 s
    have hp1 := hp0.1
    have hp2 := hp0.2
    clear hp0
    have hver : verW (powI 4 s) p E (F - 1073741789) = false := verW_s (by omega)
    have HVN := Lib.hid hver
    clear hver
    have hwx : IntKind.i64.wrap (F - 1073741789) = F - 1073741789 := IntWalk.i64_in _ (by omega)
    clear hF0 hF1 hE0 hE1 hbs hp1 hp2
    have hX0 : Blk (w.alloc (.cells (HC a) 23)) w.heap.size (HC a) 23 := Blk.new w _ _
    have HX0 := Lib.hid hX0
    clear hX0
    go_enter Try.func6, Try.ntmps6
    go_wp2_with (first
      | (refine wpList_load_row rfl 23 _ rfl w.heap.size rfl 23 (HC a) (0, 0) _ HX0.out Try.underlying23 rfl S1.out ?_)
      | (go_at_call 12; refine (rfrom_k a HA.out _).mono ?_; rintro e1 wa ⟨rfl, hb1⟩; rw [HS.out]
         have hb1 := ((Below.refl _ w).next (Nat.le_refl _) (.cells (HC a) 23)).later hb1 (Nat.le_refl _)
         have HB1 := Lib.hid hb1; have HP1 := Lib.hid (HP.out.below hb1)
         clear hb1))
    refine calls_gen (fun w2 hw2 => ?_)
    have hq2 : Blk w2 wa.heap.size #[.int .i64 s, .int .i64 (powI 4 s)] 28 := by rw [hw2]; exact Blk.new _ _ _
    have hp2 : Arg8 w2 la ll lc p := by rw [hw2]; exact HP1.out.below ((Below.refl _ _).next (Nat.le_refl _) _)
    have hb2 : Below w.heap.size w w2 := by rw [hw2]; exact HB1.out.next (Nat.le_refl _) _
    have HQ2 := Lib.hid hq2; have HP2 := Lib.hid hp2; have HB2 := Lib.hid hb2
    clear hw2 hq2 hp2 hb2
    refine (rsign_any s BS.out la ll lc p _ HP2.out).mono ?_
    rintro e1 w3 ⟨rfl, hb3⟩
    rw [HE.out, HF.out]
    have HQ2 := Lib.hid (HQ2.out.keep hb3); have HP2 := Lib.hid (HP2.out.below hb3); have HB2 := Lib.hid (HB2.out.later hb3 (Nat.le_refl _))
    clear hb3
    have cq : (w3.alloc (.cells #[.int .i64 E, .int .i64 F] 31)).cell? ⟨wa.heap.size, 1, none⟩ = some (.int .i64 (powI 4 s)) := (HQ2.out.alloc _).cell 1
    go_wp2_with fail
    refine calls_gen (fun w4 hw4 => ?_)
    have hbd : Below w3.heap.size w3 w4 := by rw [hw4]; exact (Below.refl _ _).next (Nat.le_refl _) _
    have HP4 := Lib.hid (HP2.out.below hbd); have HB4 := Lib.hid (HB2.out.later hbd (Nat.le_refl _))
    clear hw4 hbd cq
    refine (verify_any ((powI 4 s)) (E) ((F - 1073741789)) la ll lc p _ HP4.out).mono ?_
    rintro e1 w5 ⟨rfl, hb5⟩
    rw [HVN.out]
    have HB5 := Lib.hid (HB4.out.later hb5 (Nat.le_refl _))
    clear hb5
    go_wp2_with (go_at_call 16; with_reducible refine (known_sign _).mono ?_; rintro e w9 ⟨rfl, hb9⟩)
    go_ret
    exact ⟨rfl, HB5.out.later hb9 (Nat.le_refl _)⟩
  · have hF0 := HFB.out.1
    have hF1 := HFB.out.2
    have hE0 := HEB.out.1
    have hE1 := HEB.out.2
    have hbs := BS.out
    have hp0 := powI_bd 4 s
    have hp1 := hp0.1
    have hp2 := hp0.2
    clear hp0
    have hver : verW (powI 4 s + 2147483579) p E F = false := verW_y (isI_out _ (by omega))
    have HVN := Lib.hid hver
    clear hver
    have hwx : IntKind.i64.wrap (powI 4 s + 2147483579) = powI 4 s + 2147483579 := IntWalk.i64_in _ (by omega)
    clear hF0 hF1 hE0 hE1 hbs hp1 hp2
    have hX0 : Blk (w.alloc (.cells (HC a) 23)) w.heap.size (HC a) 23 := Blk.new w _ _
    have HX0 := Lib.hid hX0
    clear hX0
    go_enter Try.func6, Try.ntmps6
    go_wp2_with (first
      | (refine wpList_load_row rfl 23 _ rfl w.heap.size rfl 23 (HC a) (0, 0) _ HX0.out Try.underlying23 rfl S1.out ?_)
      | (go_at_call 12; refine (rfrom_k a HA.out _).mono ?_; rintro e1 wa ⟨rfl, hb1⟩; rw [HS.out]
         have hb1 := ((Below.refl _ w).next (Nat.le_refl _) (.cells (HC a) 23)).later hb1 (Nat.le_refl _)
         have HB1 := Lib.hid hb1; have HP1 := Lib.hid (HP.out.below hb1)
         clear hb1))
    refine calls_gen (fun w2 hw2 => ?_)
    have hq2 : Blk w2 wa.heap.size #[.int .i64 s, .int .i64 (powI 4 s)] 28 := by rw [hw2]; exact Blk.new _ _ _
    have hp2 : Arg8 w2 la ll lc p := by rw [hw2]; exact HP1.out.below ((Below.refl _ _).next (Nat.le_refl _) _)
    have hb2 : Below w.heap.size w w2 := by rw [hw2]; exact HB1.out.next (Nat.le_refl _) _
    have HQ2 := Lib.hid hq2; have HP2 := Lib.hid hp2; have HB2 := Lib.hid hb2
    clear hw2 hq2 hp2 hb2
    refine (rsign_any s BS.out la ll lc p _ HP2.out).mono ?_
    rintro e1 w3 ⟨rfl, hb3⟩
    rw [HE.out, HF.out]
    have HQ2 := Lib.hid (HQ2.out.keep hb3); have HP2 := Lib.hid (HP2.out.below hb3); have HB2 := Lib.hid (HB2.out.later hb3 (Nat.le_refl _))
    clear hb3
    have cq : (w3.alloc (.cells #[.int .i64 E, .int .i64 F] 31)).cell? ⟨wa.heap.size, 1, none⟩ = some (.int .i64 (powI 4 s)) := (HQ2.out.alloc _).cell 1
    go_wp2_with fail
    refine calls_gen (fun w4 hw4 => ?_)
    have hbd : Below w3.heap.size w3 w4 := by rw [hw4]; exact (Below.refl _ _).next (Nat.le_refl _) _
    have HP4 := Lib.hid (HP2.out.below hbd); have HB4 := Lib.hid (HB2.out.later hbd (Nat.le_refl _))
    clear hw4 hbd cq
    refine (verify_any ((powI 4 s + 2147483579)) (E) (F) la ll lc p _ HP4.out).mono ?_
    rintro e1 w5 ⟨rfl, hb5⟩
    rw [HVN.out]
    have HB5 := Lib.hid (HB4.out.later hb5 (Nat.le_refl _))
    clear hb5
    go_wp2_with (go_at_call 16; with_reducible refine (known_sign _).mono ?_; rintro e w9 ⟨rfl, hb9⟩)
    go_ret
    exact ⟨rfl, HB5.out.later hb9 (Nat.le_refl _)⟩
  · have hF0 := HFB.out.1
    have hF1 := HFB.out.2
    have hE0 := HEB.out.1
    have hE1 := HEB.out.2
    have hbs := BS.out
    have hp0 := powI_bd 4 s
    have hp1 := hp0.1
    have hp2 := hp0.2
    clear hp0
    have hver : verW 1 p E F = false := verW_y is_1
    have HVN := Lib.hid hver
    clear hver
    clear hF0 hF1 hE0 hE1 hbs hp1 hp2
    have hX0 : Blk (w.alloc (.cells (HC a) 23)) w.heap.size (HC a) 23 := Blk.new w _ _
    have HX0 := Lib.hid hX0
    clear hX0
    go_enter Try.func6, Try.ntmps6
    go_wp2_with (first
      | (refine wpList_load_row rfl 23 _ rfl w.heap.size rfl 23 (HC a) (0, 0) _ HX0.out Try.underlying23 rfl S1.out ?_)
      | (go_at_call 12; refine (rfrom_k a HA.out _).mono ?_; rintro e1 wa ⟨rfl, hb1⟩; rw [HS.out]
         have hb1 := ((Below.refl _ w).next (Nat.le_refl _) (.cells (HC a) 23)).later hb1 (Nat.le_refl _)
         have HB1 := Lib.hid hb1; have HP1 := Lib.hid (HP.out.below hb1)
         clear hb1))
    refine calls_gen (fun w2 hw2 => ?_)
    have hq2 : Blk w2 wa.heap.size #[.int .i64 s, .int .i64 (powI 4 s)] 28 := by rw [hw2]; exact Blk.new _ _ _
    have hp2 : Arg8 w2 la ll lc p := by rw [hw2]; exact HP1.out.below ((Below.refl _ _).next (Nat.le_refl _) _)
    have hb2 : Below w.heap.size w w2 := by rw [hw2]; exact HB1.out.next (Nat.le_refl _) _
    have HQ2 := Lib.hid hq2; have HP2 := Lib.hid hp2; have HB2 := Lib.hid hb2
    clear hw2 hq2 hp2 hb2
    refine (rsign_any s BS.out la ll lc p _ HP2.out).mono ?_
    rintro e1 w3 ⟨rfl, hb3⟩
    rw [HE.out, HF.out]
    have HQ2 := Lib.hid (HQ2.out.keep hb3); have HP2 := Lib.hid (HP2.out.below hb3); have HB2 := Lib.hid (HB2.out.later hb3 (Nat.le_refl _))
    clear hb3
    have cq : (w3.alloc (.cells #[.int .i64 E, .int .i64 F] 31)).cell? ⟨wa.heap.size, 1, none⟩ = some (.int .i64 (powI 4 s)) := (HQ2.out.alloc _).cell 1
    go_wp2_with fail
    refine calls_gen (fun w4 hw4 => ?_)
    have hbd : Below w3.heap.size w3 w4 := by rw [hw4]; exact (Below.refl _ _).next (Nat.le_refl _) _
    have HP4 := Lib.hid (HP2.out.below hbd); have HB4 := Lib.hid (HB2.out.later hbd (Nat.le_refl _))
    clear hw4 hbd cq
    refine (verify_any (1) (E) (F) la ll lc p _ HP4.out).mono ?_
    rintro e1 w5 ⟨rfl, hb5⟩
    rw [HVN.out]
    have HB5 := Lib.hid (HB4.out.later hb5 (Nat.le_refl _))
    clear hb5
    go_wp2_with (go_at_call 16; with_reducible refine (known_sign _).mono ?_; rintro e w9 ⟨rfl, hb9⟩)
    go_ret
    exact ⟨rfl, HB5.out.later hb9 (Nat.le_refl _)⟩
end Go.Proofs.Ytmijaghaombbpaa
