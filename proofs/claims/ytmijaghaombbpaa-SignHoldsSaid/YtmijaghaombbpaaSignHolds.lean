/-
  The law SignHolds, walked.
-/
import Derived.Test.YtmijaghaombbpaaSignLaws
import Derived.Test.YtmijaghaombbpaaMuts2
import Derived.Test.YtmijaghaombbpaaOpenI
namespace Go.Proofs.Ytmijaghaombbpaa
set_option maxRecDepth 100000
open Go.RowKit Pm
set_option linter.unusedVariables false
set_option linter.unusedSimpArgs false
attribute [local go_sem] eqh_guard key_y key_x

set_option maxRecDepth 100000 in
set_option maxHeartbeats 2000000 in
theorem signHolds_walk {w : World} (y : Int) (wy : (Lit.int .i64 y).wf = true) (la : Option Addr) (ll lc : Nat) (p : List UInt8) (hp : Arg8 w la ll lc p) (e f : Int) (we : (Lit.int .i64 e).wf = true) (wf' : (Lit.int .i64 f).wf = true) :
    Calls Try.prog 4 #[.int .i64 y, .slice la ll lc, .agg #[.int .i64 e, .int .i64 f]] w fun r w' => r = .returned (.bool true) ∧ Below w.heap.size w w' := by
  clear wy we wf'
  have hle := hp.le
  have hsm := hp.small
  have HP := Lib.hid hp
  clear hp
  obtain ⟨b, hvb⟩ : ∃ b, verW y p e f = b := ⟨_, rfl⟩
  have HVB := Lib.hid hvb
  clear hvb
  by_cases h1 : ((ll : Int) > 1000)
  · go_enter Try.func4, Try.ntmps4
    go_wp2
    go_ret
    exact ⟨rfl, (Below.refl _ _).next (Nat.le_refl _) _⟩
  go_enter Try.func4, Try.ntmps4
  go_wp2_with fail
  refine wp_gen (fun wr hwr => ?_)
  have hT : Blk wr w.heap.size #[.int .i64 e, .int .i64 f] 31 := by rw [hwr]; exact Blk.new _ _ _
  have hB0 : Below w.heap.size w wr := by rw [hwr]; exact (Below.refl _ _).next (Nat.le_refl _) _
  have HP1 : Hid (Arg8 wr la ll lc p) := Lib.hid (HP.out.below hB0)
  have HT0 := Lib.hid hT
  clear hwr hT
  refine region_grows _ (Nat.le_refl _) [isV 0 (.int .i64 y), isV 1 (.slice la ll lc), isV 2 (.agg #[.int .i64 e, .int .i64 f]), isV 3 (.bool b), isV 4 (.int .i64 y), isV 5 (.slice la ll lc), isV 6 (.agg #[.int .i64 e, .int .i64 f]), isV 7 (.bool b), isV 8 (.bool true), isV 9 (.bool true), isV 10 (.bool true), isV 11 (.bool true), isV 12 (.bool true)]
    [[], [], [], [0, 1, 2], [], [], [], [4, 5, 6], [3, 7], [8], [9], [9, 10], [11]] [some 10, some 11, some 12, some 13, some 14, some 15, some 16, some 17, some 18, some 19, some 20, some 21, some 6] _ (by kernel_rfl) (by kernel_rfl) (by kernel_rfl) (by kernel_rfl) (by kernel_rfl) rfl ?_ ?_ ?_
  · repeat (first | exact st_nil | refine st_cons (by first | exact st_is _ _ | exact st_as _ _ | exact st_row _ _ _ | exact st_rows _ _ _ | exact st_lit _ _ _ _ _ | exact st_args _ _ _ | exact st_bytes _ _) ?_)
  · intro hgz
    refine ⟨?_, ?_, ?_, ?_, ?_, ?_, ?_, ?_, ?_, ?_, ?_, ?_, ?_, trivial⟩ <;> intro vals w1 hb hf <;> obtain ⟨hb, hz⟩ := hgz w1 hb <;> simp [leans, factsOf, phi, sel_lit, sel_row, sel_rows, sel_args, sel_bytes, isV, asV, sel] at hf <;> simp [putD, phi, Act.put]
    · -- 0 move 
      go_wp2
      exact ⟨rfl, rfl, .refl _ _, mk_is rfl⟩
    · -- 1 move 
      go_wp2
      exact ⟨rfl, rfl, .refl _ _, mk_is rfl⟩
    · -- 2 load 
      have cL0 : w1.cell? ⟨w.heap.size, 0, none⟩ = some (.int .i64 e) := (HT0.out.keep hb.below).cell 0
      have cL1 : w1.cell? ⟨w.heap.size, 1, none⟩ = some (.int .i64 f) := (HT0.out.keep hb.below).cell 1
      go_wp2
      exact ⟨rfl, rfl, .refl _ _, mk_is rfl⟩
    · -- 3 call curia/sign.Verify 
      simp only [hf]; clear hf
      go_wp2_with (first | (go_at_call 15; refine (verify_any y e f la ll lc p _ (HP1.out.below hb.below)).mono ?_; rintro e w' ⟨rfl, hb'⟩; rw [HVB.out]))
      exact ⟨rfl, rfl, Grows.of hb' hz, mk_is rfl⟩
    · -- 4 move 
      go_wp2
      exact ⟨rfl, rfl, .refl _ _, mk_is rfl⟩
    · -- 5 move 
      go_wp2
      exact ⟨rfl, rfl, .refl _ _, mk_is rfl⟩
    · -- 6 load 
      have cL0 : w1.cell? ⟨w.heap.size, 0, none⟩ = some (.int .i64 e) := (HT0.out.keep hb.below).cell 0
      have cL1 : w1.cell? ⟨w.heap.size, 1, none⟩ = some (.int .i64 f) := (HT0.out.keep hb.below).cell 1
      go_wp2
      exact ⟨rfl, rfl, .refl _ _, mk_is rfl⟩
    · -- 7 call curia/curiaref4.Verify 
      simp only [hf]; clear hf
      go_wp2_with (first | (go_at_call 17; refine (rverify_any y e f la ll lc p _ (HP1.out.below hb.below)).mono ?_; rintro e w' ⟨rfl, hb'⟩; rw [HVB.out]))
      exact ⟨rfl, rfl, Grows.of hb' hz, mk_is rfl⟩
    · -- 8 binOp 
      simp only [hf]; clear hf
      go_wp2
      exact ⟨rfl, rfl, .refl _ _, mk_is rfl⟩
    · -- 9 move 
      simp only [hf]; clear hf
      go_wp2
      exact ⟨rfl, rfl, .refl _ _, mk_is rfl⟩
    · -- 10 call curia/curialaw4.known if some (9, true)
      simp only [hf]; clear hf
      go_wp2_with (first | (go_at_call 16; refine (known_sign _).mono ?_; rintro e w' ⟨rfl, hb'⟩))
      exact ⟨rfl, rfl, Grows.of hb' hz, mk_is rfl⟩
    · -- 11 pick 
      simp only [hf]; clear hf
      go_wp2
      exact ⟨rfl, rfl, .refl _ _, mk_is rfl⟩
    · -- 12 assign 
      simp only [hf]; clear hf
      go_wp2
      exact ⟨rfl, rfl, .refl _ _, mk_is rfl⟩
  · intro vals w1 hb hf; simp [leans, List.range, List.range.loop, factsOf, phi, sel_lit, sel_row, sel_rows, sel_args, sel_bytes, isV, asV, sel] at hf; simp [putD, List.range, List.range.loop, Act.put, hf]
    go_wp2
    go_ret
    exact ⟨rfl, hB0.lift hb.below hB0.size⟩
end Go.Proofs.Ytmijaghaombbpaa
