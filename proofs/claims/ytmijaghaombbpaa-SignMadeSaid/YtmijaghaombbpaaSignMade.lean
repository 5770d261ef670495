/-
  The law SignMade, walked.
-/
import Derived.Test.YtmijaghaombbpaaSignLaws
import Derived.Test.YtmijaghaombbpaaMuts2
import Derived.Test.YtmijaghaombbpaaOpenI
namespace Go.Proofs.Ytmijaghaombbpaa
set_option maxRecDepth 100000
open Go.RowKit Pm
set_option linter.unusedVariables false
set_option linter.unusedSimpArgs false
attribute [local go_sem] eqh_guard key_y key_x

set_option maxRecDepth 100000 in
set_option maxHeartbeats 2000000 in
theorem signMade_walk {w : World} (a : List UInt8) (ha : a.length = 32) (la : Option Addr) (ll lc : Nat) (p : List UInt8) (hp : Arg8 w la ll lc p) (r : Int) (wr_ : (Lit.int .i64 r).wf = true) (e : Int) (we : (Lit.int .i64 e).wf = true) :
    Calls Try.prog 10 #[HV a, .slice la ll lc, .int .i64 r, .int .i64 e] w fun e w' => e = .returned (.bool true) ∧ Below w.heap.size w w' := by
  have hsz : (Try.prog.info? 23).map (·.size) = some (HC a).size := by rw [HC_size, ha]; kernel_rfl
  obtain ⟨s, hs⟩ : ∃ s, keyS a = s := ⟨_, rfl⟩
  have hbs := keyS_bd a
  rw [hs] at hbs
  have HA := Lib.hid ha; have S1 := Lib.hid hsz; have HS := Lib.hid hs; have BS := Lib.hid hbs
  clear ha hsz hs hbs
  unfold HV
  have hle := hp.le
  have hsm := hp.small
  have HP := Lib.hid hp
  clear hp
  by_cases h1 : ((ll : Int) > 300)
  · go_enter Try.func10, Try.ntmps10
    go_wp2
    go_ret
    exact ⟨rfl, (Below.refl _ _).next (Nat.le_refl _) _⟩
  by_cases h2 : (r < 1)
  · go_enter Try.func10, Try.ntmps10
    go_wp2
    go_ret
    exact ⟨rfl, (Below.refl _ _).next (Nat.le_refl _) _⟩
  by_cases h3 : (r ≥ 1073741789)
  · go_enter Try.func10, Try.ntmps10
    go_wp2
    go_ret
    exact ⟨rfl, (Below.refl _ _).next (Nat.le_refl _) _⟩
  by_cases h4 : (e < 0)
  · go_enter Try.func10, Try.ntmps10
    go_wp2
    go_ret
    exact ⟨rfl, (Below.refl _ _).next (Nat.le_refl _) _⟩
  by_cases h5 : (e ≥ 1073741789)
  · go_enter Try.func10, Try.ntmps10
    go_wp2
    go_ret
    exact ⟨rfl, (Below.refl _ _).next (Nat.le_refl _) _⟩
  have hbs := BS.out
  have hm : 0 ≤ e * s ∧ e * s ≤ 1152921504606846976 := by
    refine ⟨Int.mul_nonneg (by omega) (by omega), ?_⟩
    have h1 : e * s ≤ 1073741824 * 1073741824 := Int.mul_le_mul (by omega) (by omega) (by omega) (by omega)
    omega
  have hbeg := begun s r e ⟨by omega, hbs.2⟩ ⟨by omega, by omega⟩ ⟨by omega, by omega⟩
  obtain ⟨G, hG⟩ : ∃ G, (r + e * s) % 1073741789 = G := ⟨_, rfl⟩
  obtain ⟨b, hvb⟩ : ∃ b, verW (powI 4 s) p e G = b := ⟨_, rfl⟩
  have hw0 : IntKind.i64.wrap (e * s) = e * s := IntWalk.i64_in _ (by omega)
  have hw1 : IntKind.i64.wrap (r + e * s) = r + e * s := IntWalk.i64_in _ (by omega)
  have hw3 : Int.tmod (r + e * s) 1073741789 = (r + e * s) % 1073741789 := Int.tmod_eq_emod_of_nonneg (by omega)
  rw [hG] at hw3 hbeg
  have hw4 : IntKind.i64.wrap G = G := IntWalk.i64_in _ (by omega)
  have hw5 : IntKind.i64.wrap (1073741789 - e) = 1073741789 - e := IntWalk.i64_in _ (by omega)
  have HVB := Lib.hid hvb; have HBEG := Lib.hid hbeg
  clear hG hvb hm hbs hbeg
  have hX0 : Blk (w.alloc (.cells (HC a) 23)) w.heap.size (HC a) 23 := Blk.new w _ _
  have HX0 := Lib.hid hX0
  clear hX0
  go_enter Try.func10, Try.ntmps10
  go_wp2_with (first
    | (refine wpList_load_row rfl 23 _ rfl w.heap.size rfl 23 (HC a) (0, 0) _ HX0.out Try.underlying23 rfl S1.out ?_)
    | (go_at_call 12; refine (rfrom_k a HA.out _).mono ?_; rintro e1 wa ⟨rfl, hb1⟩; rw [HS.out]
       have hb1 := ((Below.refl _ w).next (Nat.le_refl _) (.cells (HC a) 23)).later hb1 (Nat.le_refl _)
       have HB1 := Lib.hid hb1; have HP1 := Lib.hid (HP.out.below hb1)
       clear hb1))
  have cq0 : ((wa.alloc (.cells #[.int .i64 s, .int .i64 (powI 4 s)] 28)).alloc (.cells #[.int .i64 e, .int .i64 G] 31)).cell? ⟨wa.heap.size, 1, none⟩ = some (.int .i64 (powI 4 s)) := ((Blk.new wa _ _).alloc _).cell 1
  have cq1 : ((wa.alloc (.cells #[.int .i64 s, .int .i64 (powI 4 s)] 28)).alloc (.cells #[.int .i64 e, .int .i64 G] 31)).cell? ⟨wa.heap.size + 1, 1, none⟩ = some (.int .i64 G) := (Blk.newAt (g := wa.heap.size + 1) (w := wa.alloc (.cells #[.int .i64 s, .int .i64 (powI 4 s)] 28)) #[.int .i64 e, .int .i64 G] 31 (by simp)).cell 1
  refine region_tail 9 (by kernel_rfl) (by kernel_rfl) ?_
  simp only [List.take_succ_cons, List.take_zero, List.drop_succ_cons, List.drop_zero]
  still_step
  still_step
  still_call ((rpow_any 4 G _).mono fun _ _ h => ⟨h.1, h.2.symm⟩)
  still_step
  still_step
  still_step
  still_step
  still_call ((rpow_any (powI 4 s) (1073741789 - e) _).mono fun _ _ h => ⟨h.1, h.2.symm⟩)
  still_call ((rmul_any (powI 4 G) (powI (powI 4 s) (1073741789 - e)) _).mono fun _ _ h => ⟨h.1, h.2.symm⟩)
  refine wpStill_nil ?_
  rw [HBEG.out]
  go_wp2_with fail
  refine wp_gen (fun wr hwr => ?_)
  have hq3 : Blk wr wa.heap.size #[.int .i64 s, .int .i64 (powI 4 s)] 28 := by rw [hwr]; exact (Blk.new _ _ _).alloc _
  have hu3 : Blk wr (wa.heap.size + 1) #[.int .i64 e, .int .i64 G] 31 := by rw [hwr]; exact Blk.newAt (w := wa.alloc (.cells #[.int .i64 s, .int .i64 (powI 4 s)] 28)) _ _ (by simp)
  have hbd : Below wa.heap.size wa wr := by rw [hwr]; exact below_drew1 (((Below.refl _ _).next (Nat.le_refl _) _).next (Nat.le_refl _) _)
  have hp3 : Arg8 wr la ll lc p := HP1.out.below hbd
  have hB0 : Below w.heap.size w wr := HB1.out.later hbd (Nat.le_refl _)
  have HQ3 := Lib.hid hq3; have HU3 := Lib.hid hu3; have HP3 := Lib.hid hp3
  clear hwr hq3 hu3 hp3 hbd cq0 cq1
  refine region_grows _ (Nat.le_refl _) [isV 0 (.int .i64 (powI 4 r)), isV 1 (.int .i64 r), isV 2 (.int .i64 (powI 4 r)), isV 3 (.bool true), isV 4 (.bool true), isV 5 (.pointer (some ⟨wa.heap.size, 1, none⟩)), isV 6 (.int .i64 (powI 4 s)), isV 7 (.slice la ll lc), isV 8 (.agg #[.int .i64 e, .int .i64 G]), isV 9 (.bool b), isV 10 (.pointer (some ⟨wa.heap.size, 1, none⟩)), isV 11 (.int .i64 (powI 4 s)), isV 12 (.slice la ll lc), isV 13 (.agg #[.int .i64 e, .int .i64 G]), isV 14 (.bool b), isV 15 (.bool true), isV 16 (.bool true), isV 17 (.bool true), isV 18 (.bool true), isV 19 (.bool true), isV 20 (.bool true)]
    [[], [], [1], [0, 2], [3], [4], [4, 5], [4], [4], [4, 6, 7, 8], [4], [4, 10], [4], [4], [4, 11, 12, 13], [4, 9, 14], [4, 15], [16], [17], [17, 18], [19]] [some 51, some 52, some 53, some 54, some 55, some 56, some 57, some 58, some 59, some 60, some 61, some 62, some 63, some 64, some 65, some 66, some 67, some 68, some 69, some 70, some 8] _ (by kernel_rfl) (by kernel_rfl) (by kernel_rfl) (by kernel_rfl) (by kernel_rfl) rfl ?_ ?_ ?_
  · repeat (first | exact st_nil | refine st_cons (by first | exact st_is _ _ | exact st_as _ _ | exact st_row _ _ _ | exact st_rows _ _ _ | exact st_lit _ _ _ _ _ | exact st_args _ _ _ | exact st_bytes _ _) ?_)
  · intro hgz
    refine ⟨?_, ?_, ?_, ?_, ?_, ?_, ?_, ?_, ?_, ?_, ?_, ?_, ?_, ?_, ?_, ?_, ?_, ?_, ?_, ?_, ?_, trivial⟩ <;> intro vals w1 hb hf <;> obtain ⟨hb, hz⟩ := hgz w1 hb <;> simp [leans, factsOf, phi, sel_lit, sel_row, sel_rows, sel_args, sel_bytes, isV, asV, sel] at hf <;> simp [putD, phi, Act.put]
    · -- 0 move 
      go_wp2
      exact ⟨rfl, rfl, .refl _ _, mk_is rfl⟩
    · -- 1 move 
      go_wp2
      exact ⟨rfl, rfl, .refl _ _, mk_is rfl⟩
    · -- 2 call curia/curiaref2.Pow 
      simp only [hf]; clear hf
      go_wp2_with (first | (go_at_call 19; refine (rpow_any 4 r _).mono ?_; rintro e w' ⟨rfl, rfl⟩))
      exact ⟨rfl, rfl, .refl _ _, mk_is rfl⟩
    · -- 3 binOp 
      simp only [hf]; clear hf
      go_wp2
      exact ⟨rfl, rfl, .refl _ _, mk_is rfl⟩
    · -- 4 move 
      simp only [hf]; clear hf
      go_wp2
      exact ⟨rfl, rfl, .refl _ _, mk_is rfl⟩
    · -- 5 fieldAddr if some (4, true)
      simp only [hf]; clear hf
      go_wp2
      exact ⟨rfl, rfl, .refl _ _, mk_is rfl⟩
    · -- 6 load if some (4, true)
      simp only [hf]; clear hf
      have cL1 : w1.cell? ⟨wa.heap.size, 1, none⟩ = some (.int .i64 (powI 4 s)) := (HQ3.out.keep hb.below).cell 1
      go_wp2
      exact ⟨rfl, rfl, .refl _ _, mk_is rfl⟩
    · -- 7 move if some (4, true)
      simp only [hf]; clear hf
      go_wp2
      exact ⟨rfl, rfl, .refl _ _, mk_is rfl⟩
    · -- 8 load if some (4, true)
      simp only [hf]; clear hf
      have cL0 : w1.cell? ⟨wa.heap.size + 1, 0, none⟩ = some (.int .i64 e) := (HU3.out.keep hb.below).cell 0
      have cL1 : w1.cell? ⟨wa.heap.size + 1, 1, none⟩ = some (.int .i64 G) := (HU3.out.keep hb.below).cell 1
      go_wp2
      exact ⟨rfl, rfl, .refl _ _, mk_is rfl⟩
    · -- 9 call curia/sign.Verify if some (4, true)
      simp only [hf]; clear hf
      go_wp2_with (first | (go_at_call 15; refine (verify_any (powI 4 s) e G la ll lc p _ (HP3.out.below hb.below)).mono ?_; rintro e w' ⟨rfl, hb'⟩; rw [HVB.out]))
      exact ⟨rfl, rfl, Grows.of hb' hz, mk_is rfl⟩
    · -- 10 fieldAddr if some (4, true)
      simp only [hf]; clear hf
      go_wp2
      exact ⟨rfl, rfl, .refl _ _, mk_is rfl⟩
    · -- 11 load if some (4, true)
      simp only [hf]; clear hf
      have cL1 : w1.cell? ⟨wa.heap.size, 1, none⟩ = some (.int .i64 (powI 4 s)) := (HQ3.out.keep hb.below).cell 1
      go_wp2
      exact ⟨rfl, rfl, .refl _ _, mk_is rfl⟩
    · -- 12 move if some (4, true)
      simp only [hf]; clear hf
      go_wp2
      exact ⟨rfl, rfl, .refl _ _, mk_is rfl⟩
    · -- 13 load if some (4, true)
      simp only [hf]; clear hf
      have cL0 : w1.cell? ⟨wa.heap.size + 1, 0, none⟩ = some (.int .i64 e) := (HU3.out.keep hb.below).cell 0
      have cL1 : w1.cell? ⟨wa.heap.size + 1, 1, none⟩ = some (.int .i64 G) := (HU3.out.keep hb.below).cell 1
      go_wp2
      exact ⟨rfl, rfl, .refl _ _, mk_is rfl⟩
    · -- 14 call curia/curiaref4.Verify if some (4, true)
      simp only [hf]; clear hf
      go_wp2_with (first | (go_at_call 17; refine (rverify_any (powI 4 s) e G la ll lc p _ (HP3.out.below hb.below)).mono ?_; rintro e w' ⟨rfl, hb'⟩; rw [HVB.out]))
      exact ⟨rfl, rfl, Grows.of hb' hz, mk_is rfl⟩
    · -- 15 binOp if some (4, true)
      simp only [hf]; clear hf
      go_wp2
      exact ⟨rfl, rfl, .refl _ _, mk_is rfl⟩
    · -- 16 pick 
      simp only [hf]; clear hf
      go_wp2
      exact ⟨rfl, rfl, .refl _ _, mk_is rfl⟩
    · -- 17 move 
      simp only [hf]; clear hf
      go_wp2
      exact ⟨rfl, rfl, .refl _ _, mk_is rfl⟩
    · -- 18 call curia/curialaw4.known if some (17, true)
      simp only [hf]; clear hf
      go_wp2_with (first | (go_at_call 16; refine (known_sign _).mono ?_; rintro e w' ⟨rfl, hb'⟩))
      exact ⟨rfl, rfl, Grows.of hb' hz, mk_is rfl⟩
    · -- 19 pick 
      simp only [hf]; clear hf
      go_wp2
      exact ⟨rfl, rfl, .refl _ _, mk_is rfl⟩
    · -- 20 assign 
      simp only [hf]; clear hf
      go_wp2
      exact ⟨rfl, rfl, .refl _ _, mk_is rfl⟩
  · intro vals w1 hb hf; simp [leans, List.range, List.range.loop, factsOf, phi, sel_lit, sel_row, sel_rows, sel_args, sel_bytes, isV, asV, sel] at hf; simp [putD, List.range, List.range.loop, Act.put, hf]
    go_wp2
    go_ret
    exact ⟨rfl, hB0.lift hb.below hB0.size⟩
end Go.Proofs.Ytmijaghaombbpaa
