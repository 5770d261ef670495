/-
  The law SignTurned, walked.
-/
import Derived.Test.YtmijaghaombbpaaSignLaws
import Derived.Test.YtmijaghaombbpaaMuts2
import Derived.Test.YtmijaghaombbpaaOpenI
namespace Go.Proofs.Ytmijaghaombbpaa
set_option maxRecDepth 100000
open Go.RowKit Pm
set_option linter.unusedVariables false
set_option linter.unusedSimpArgs false
attribute [local go_sem] eqh_guard key_y key_x

set_option maxRecDepth 100000 in
set_option maxHeartbeats 2000000 in
theorem signTurned_walk {w : World} (a : List UInt8) (ha : a.length = 32) (la : Option Addr) (ll lc : Nat) (p : List UInt8) (hp : Arg8 w la ll lc p) (by_ : Int) (wby : (Lit.int .i64 by_).wf = true) :
    Calls Try.prog 5 #[HV a, .slice la ll lc, .int .i64 by_] w fun e w' => e = .returned (.bool true) ∧ Below w.heap.size w w' := by
  have hsz : (Try.prog.info? 23).map (·.size) = some (HC a).size := by rw [HC_size, ha]; kernel_rfl
  obtain ⟨s, hs⟩ : ∃ s, keyS a = s := ⟨_, rfl⟩
  have hbs := keyS_bd a
  rw [hs] at hbs
  have HA := Lib.hid ha; have S1 := Lib.hid hsz; have HS := Lib.hid hs; have BS := Lib.hid hbs
  clear ha hsz hs hbs
  unfold HV
  have hle := hp.le
  have hsm := hp.small
  have HP := Lib.hid hp
  clear hp
  obtain ⟨E, hE⟩ : ∃ E, sigE s p = E := ⟨_, rfl⟩
  obtain ⟨F, hF⟩ : ∃ F, sigS s p = F := ⟨_, rfl⟩
  have hver := verW_own s p BS.out
  have hEb := sigE_bd s p
  have hFb := sigS_bd s p
  rw [hE, hF] at hver
  rw [hE] at hEb
  rw [hF] at hFb
  have HVER := Lib.hid hver; have HE := Lib.hid hE; have HF := Lib.hid hF; have HEB := Lib.hid hEb; have HFB := Lib.hid hFb
  clear hver hE hF hEb hFb
  by_cases h1 : ((ll : Int) > 500)
  · go_enter Try.func5, Try.ntmps5
    go_wp2
    go_ret
    exact ⟨rfl, (Below.refl _ _).next (Nat.le_refl _) _⟩
  by_cases h2 : (by_ < 1)
  · go_enter Try.func5, Try.ntmps5
    go_wp2
    go_ret
    exact ⟨rfl, (Below.refl _ _).next (Nat.le_refl _) _⟩
  by_cases h3 : (by_ ≥ 1073741789)
  · go_enter Try.func5, Try.ntmps5
    go_wp2
    go_ret
    exact ⟨rfl, (Below.refl _ _).next (Nat.le_refl _) _⟩
  obtain ⟨G, hG⟩ : ∃ G, (F + by_) % 1073741789 = G := ⟨_, rfl⟩
  obtain ⟨b, hvb⟩ : ∃ b, verW (powI 4 s) p E G = b := ⟨_, rfl⟩
  have hF0 := HFB.out.1
  have hF1 := HFB.out.2
  have hw1 : IntKind.i64.wrap (F + by_) = F + by_ := IntWalk.i64_in _ (by omega)
  have hw3 : Int.tmod (F + by_) 1073741789 = (F + by_) % 1073741789 := Int.tmod_eq_emod_of_nonneg (by omega)
  rw [hG] at hw3
  have hw4 : IntKind.i64.wrap G = G := IntWalk.i64_in _ (by omega)
  have HVB := Lib.hid hvb
  clear hG hvb hF0 hF1
  have hX0 : Blk (w.alloc (.cells (HC a) 23)) w.heap.size (HC a) 23 := Blk.new w _ _
  have HX0 := Lib.hid hX0
  clear hX0
  go_enter Try.func5, Try.ntmps5
  go_wp2_with (first
    | (refine wpList_load_row rfl 23 _ rfl w.heap.size rfl 23 (HC a) (0, 0) _ HX0.out Try.underlying23 rfl S1.out ?_)
    | (go_at_call 12; refine (rfrom_k a HA.out _).mono ?_; rintro e1 wa ⟨rfl, hb1⟩; rw [HS.out]
       have hb1 := ((Below.refl _ w).next (Nat.le_refl _) (.cells (HC a) 23)).later hb1 (Nat.le_refl _)
       have HB1 := Lib.hid hb1; have HP1 := Lib.hid (HP.out.below hb1)
       clear hb1))
  refine calls_gen (fun w2 hw2 => ?_)
  have hq2 : Blk w2 wa.heap.size #[.int .i64 s, .int .i64 (powI 4 s)] 28 := by rw [hw2]; exact Blk.new _ _ _
  have hp2 : Arg8 w2 la ll lc p := by rw [hw2]; exact HP1.out.below ((Below.refl _ _).next (Nat.le_refl _) _)
  have hb2 : Below w.heap.size w w2 := by rw [hw2]; exact HB1.out.next (Nat.le_refl _) _
  have HQ2 := Lib.hid hq2; have HP2 := Lib.hid hp2; have HB2 := Lib.hid hb2
  clear hw2 hq2 hp2 hb2
  refine (rsign_any s BS.out la ll lc p _ HP2.out).mono ?_
  rintro e1 w3 ⟨rfl, hb3⟩
  rw [HE.out, HF.out]
  have HQ2 := Lib.hid (HQ2.out.keep hb3); have HP2 := Lib.hid (HP2.out.below hb3); have HB2 := Lib.hid (HB2.out.later hb3 (Nat.le_refl _))
  clear hb3
  go_wp2_with fail
  refine wp_gen (fun wr hwr => ?_)
  have hq3 : Blk wr wa.heap.size #[.int .i64 s, .int .i64 (powI 4 s)] 28 := by rw [hwr]; exact (HQ2.out.alloc _).alloc _
  have ht3 : Blk wr w3.heap.size #[.int .i64 E, .int .i64 F] 31 := by rw [hwr]; exact (Blk.new _ _ _).alloc _
  have hu3 : Blk wr (w3.heap.size + 1) #[.int .i64 E, .int .i64 G] 31 := by rw [hwr]; exact Blk.newAt _ _ (by simp)
  have hp3 : Arg8 wr la ll lc p := by rw [hwr]; exact (HP2.out.below ((Below.refl _ _).next (Nat.le_refl _) _)).below ((Below.refl _ _).next (Nat.le_refl _) _)
  have hB0 : Below w.heap.size w wr := by rw [hwr]; exact (HB2.out.next (Nat.le_refl _) _).next (Nat.le_refl _) _
  have HQ3 := Lib.hid hq3; have HT3 := Lib.hid ht3; have HU3 := Lib.hid hu3; have HP3 := Lib.hid hp3
  clear hwr hq3 ht3 hu3 hp3
  refine region_grows _ (Nat.le_refl _) [isV 0 (.pointer (some ⟨wa.heap.size, 1, none⟩)), isV 1 (.int .i64 (powI 4 s)), isV 2 (.slice la ll lc), isV 3 (.agg #[.int .i64 E, .int .i64 G]), isV 4 (.bool b), isV 5 (.pointer (some ⟨wa.heap.size, 1, none⟩)), isV 6 (.int .i64 (powI 4 s)), isV 7 (.slice la ll lc), isV 8 (.agg #[.int .i64 E, .int .i64 G]), isV 9 (.bool b), isV 10 (.bool true), isV 11 (.bool true), isV 12 (.pointer (some ⟨wa.heap.size, 1, none⟩)), isV 13 (.int .i64 (powI 4 s)), isV 14 (.slice la ll lc), isV 15 (.agg #[.int .i64 E, .int .i64 F]), isV 16 (.bool true), isV 17 (.bool true), isV 18 (.bool true), isV 19 (.bool true), isV 20 (.bool true), isV 21 (.bool true)]
    [[], [0], [], [], [1, 2, 3], [], [5], [], [], [6, 7, 8], [4, 9], [10], [11], [11, 12], [11], [11], [11, 13, 14, 15], [11, 16], [17], [18], [18, 19], [20]] [some 34, some 35, some 36, some 37, some 38, some 39, some 40, some 41, some 42, some 43, some 44, some 45, some 46, some 47, some 48, some 49, some 50, some 51, some 52, some 53, some 54, some 6] _ (by kernel_rfl) (by kernel_rfl) (by kernel_rfl) (by kernel_rfl) (by kernel_rfl) rfl ?_ ?_ ?_
  · repeat (first | exact st_nil | refine st_cons (by first | exact st_is _ _ | exact st_as _ _ | exact st_row _ _ _ | exact st_rows _ _ _ | exact st_lit _ _ _ _ _ | exact st_args _ _ _ | exact st_bytes _ _) ?_)
  · intro hgz
    refine ⟨?_, ?_, ?_, ?_, ?_, ?_, ?_, ?_, ?_, ?_, ?_, ?_, ?_, ?_, ?_, ?_, ?_, ?_, ?_, ?_, ?_, ?_, trivial⟩ <;> intro vals w1 hb hf <;> obtain ⟨hb, hz⟩ := hgz w1 hb <;> simp [leans, factsOf, phi, sel_lit, sel_row, sel_rows, sel_args, sel_bytes, isV, asV, sel] at hf <;> simp [putD, phi, Act.put]
    · -- 0 fieldAddr 
      go_wp2
      exact ⟨rfl, rfl, .refl _ _, mk_is rfl⟩
    · -- 1 load 
      simp only [hf]; clear hf
      have cL1 : w1.cell? ⟨wa.heap.size, 1, none⟩ = some (.int .i64 (powI 4 s)) := (HQ3.out.keep hb.below).cell 1
      go_wp2
      exact ⟨rfl, rfl, .refl _ _, mk_is rfl⟩
    · -- 2 move 
      go_wp2
      exact ⟨rfl, rfl, .refl _ _, mk_is rfl⟩
    · -- 3 load 
      have cL0 : w1.cell? ⟨w3.heap.size + 1, 0, none⟩ = some (.int .i64 E) := (HU3.out.keep hb.below).cell 0
      have cL1 : w1.cell? ⟨w3.heap.size + 1, 1, none⟩ = some (.int .i64 G) := (HU3.out.keep hb.below).cell 1
      go_wp2
      exact ⟨rfl, rfl, .refl _ _, mk_is rfl⟩
    · -- 4 call curia/sign.Verify 
      simp only [hf]; clear hf
      go_wp2_with (first | (go_at_call 15; refine (verify_any (powI 4 s) E G la ll lc p _ (HP3.out.below hb.below)).mono ?_; rintro e w' ⟨rfl, hb'⟩; rw [HVB.out]))
      exact ⟨rfl, rfl, Grows.of hb' hz, mk_is rfl⟩
    · -- 5 fieldAddr 
      go_wp2
      exact ⟨rfl, rfl, .refl _ _, mk_is rfl⟩
    · -- 6 load 
      simp only [hf]; clear hf
      have cL1 : w1.cell? ⟨wa.heap.size, 1, none⟩ = some (.int .i64 (powI 4 s)) := (HQ3.out.keep hb.below).cell 1
      go_wp2
      exact ⟨rfl, rfl, .refl _ _, mk_is rfl⟩
    · -- 7 move 
      go_wp2
      exact ⟨rfl, rfl, .refl _ _, mk_is rfl⟩
    · -- 8 load 
      have cL0 : w1.cell? ⟨w3.heap.size + 1, 0, none⟩ = some (.int .i64 E) := (HU3.out.keep hb.below).cell 0
      have cL1 : w1.cell? ⟨w3.heap.size + 1, 1, none⟩ = some (.int .i64 G) := (HU3.out.keep hb.below).cell 1
      go_wp2
      exact ⟨rfl, rfl, .refl _ _, mk_is rfl⟩
    · -- 9 call curia/curiaref4.Verify 
      simp only [hf]; clear hf
      go_wp2_with (first | (go_at_call 17; refine (rverify_any (powI 4 s) E G la ll lc p _ (HP3.out.below hb.below)).mono ?_; rintro e w' ⟨rfl, hb'⟩; rw [HVB.out]))
      exact ⟨rfl, rfl, Grows.of hb' hz, mk_is rfl⟩
    · -- 10 binOp 
      simp only [hf]; clear hf
      go_wp2
      exact ⟨rfl, rfl, .refl _ _, mk_is rfl⟩
    · -- 11 move 
      simp only [hf]; clear hf
      go_wp2
      exact ⟨rfl, rfl, .refl _ _, mk_is rfl⟩
    · -- 12 fieldAddr if some (11, true)
      simp only [hf]; clear hf
      go_wp2
      exact ⟨rfl, rfl, .refl _ _, mk_is rfl⟩
    · -- 13 load if some (11, true)
      simp only [hf]; clear hf
      have cL1 : w1.cell? ⟨wa.heap.size, 1, none⟩ = some (.int .i64 (powI 4 s)) := (HQ3.out.keep hb.below).cell 1
      go_wp2
      exact ⟨rfl, rfl, .refl _ _, mk_is rfl⟩
    · -- 14 move if some (11, true)
      simp only [hf]; clear hf
      go_wp2
      exact ⟨rfl, rfl, .refl _ _, mk_is rfl⟩
    · -- 15 load if some (11, true)
      simp only [hf]; clear hf
      have cL0 : w1.cell? ⟨w3.heap.size, 0, none⟩ = some (.int .i64 E) := (HT3.out.keep hb.below).cell 0
      have cL1 : w1.cell? ⟨w3.heap.size, 1, none⟩ = some (.int .i64 F) := (HT3.out.keep hb.below).cell 1
      go_wp2
      exact ⟨rfl, rfl, .refl _ _, mk_is rfl⟩
    · -- 16 call curia/sign.Verify if some (11, true)
      simp only [hf]; clear hf
      go_wp2_with (first | (go_at_call 15; refine (verify_any (powI 4 s) E F la ll lc p _ (HP3.out.below hb.below)).mono ?_; rintro e w' ⟨rfl, hb'⟩; rw [HVER.out]))
      exact ⟨rfl, rfl, Grows.of hb' hz, mk_is rfl⟩
    · -- 17 pick 
      simp only [hf]; clear hf
      go_wp2
      exact ⟨rfl, rfl, .refl _ _, mk_is rfl⟩
    · -- 18 move 
      simp only [hf]; clear hf
      go_wp2
      exact ⟨rfl, rfl, .refl _ _, mk_is rfl⟩
    · -- 19 call curia/curialaw4.known if some (18, true)
      simp only [hf]; clear hf
      go_wp2_with (first | (go_at_call 16; refine (known_sign _).mono ?_; rintro e w' ⟨rfl, hb'⟩))
      exact ⟨rfl, rfl, Grows.of hb' hz, mk_is rfl⟩
    · -- 20 pick 
      simp only [hf]; clear hf
      go_wp2
      exact ⟨rfl, rfl, .refl _ _, mk_is rfl⟩
    · -- 21 assign 
      simp only [hf]; clear hf
      go_wp2
      exact ⟨rfl, rfl, .refl _ _, mk_is rfl⟩
  · intro vals w1 hb hf; simp [leans, List.range, List.range.loop, factsOf, phi, sel_lit, sel_row, sel_rows, sel_args, sel_bytes, isV, asV, sel] at hf; simp [putD, List.range, List.range.loop, Act.put, hf]
    go_wp2
    go_ret
    exact ⟨rfl, hB0.lift hb.below hB0.size⟩
end Go.Proofs.Ytmijaghaombbpaa
