/-
  The law PairFours, walked.
-/
import Derived.Test.YtbhhgmaibdkgbaaPairMath
namespace Go.Proofs.Ytbhhgmaibdkgbaa
set_option maxRecDepth 100000
open Go.RowKit Pm
set_option linter.unusedVariables false
set_option linter.unusedSimpArgs false
attribute [local go_sem] eqh_guard key_y key_x

/-- 'or' of numbers whose digits do not meet is their sum -/
theorem or_add (a b p k : Nat) (hp : p = 2 ^ k) (hb : b < p) (hs : a * p + b < 9223372036854775808) : bits .or .i64 ((a * p : Nat) : Int) (b : Int) = ((a * p + b : Nat) : Int) := by
  subst hp
  show IntKind.i64.wrap ((BitVec.ofInt 64 ((a * 2 ^ k : Nat) : Int) ||| BitVec.ofInt 64 (b : Int)).toNat : Int) = _
  rw [BitVec.ofInt_natCast, BitVec.ofInt_natCast, BitVec.toNat_or, BitVec.toNat_ofNat, BitVec.toNat_ofNat, Nat.mod_eq_of_lt (by omega), Nat.mod_eq_of_lt (by omega)]
  have h := Nat.shiftLeft_add_eq_or_of_lt hb a
  rw [Nat.shiftLeft_eq] at h
  rw [← h, IntWalk.i64_in _ (by omega)]
theorem join4 (a b c d : Nat) (ha : a < 256) (hb : b < 256) (hc : c < 256) (hd : d < 256) :
    bits .or .i64 (bits .or .i64 (bits .or .i64 (IntKind.i64.wrap (IntKind.i64.wrap (a : Int) * 16777216)) (IntKind.i64.wrap (IntKind.i64.wrap (b : Int) * 65536))) (IntKind.i64.wrap (IntKind.i64.wrap (c : Int) * 256))) (IntKind.i64.wrap (d : Int))
      = (a : Int) * 16777216 + b * 65536 + c * 256 + d := by
  rw [IntWalk.i64_in (a : Int) (by omega), IntWalk.i64_in (b : Int) (by omega), IntWalk.i64_in (c : Int) (by omega), IntWalk.i64_in (d : Int) (by omega),
    IntWalk.i64_in ((a : Int) * 16777216) (by omega), IntWalk.i64_in ((b : Int) * 65536) (by omega), IntWalk.i64_in ((c : Int) * 256) (by omega)]
  have h1 := or_add a (b * 65536) 16777216 24 rfl (by omega) (by omega)
  have h2 := or_add (a * 256 + b) (c * 256) 65536 16 rfl (by omega) (by omega)
  have h3 := or_add (a * 65536 + b * 256 + c) d 256 8 rfl (by omega) (by omega)
  have e1 : (a : Int) * 16777216 = ((a * 16777216 : Nat) : Int) := by omega
  have e2 : (b : Int) * 65536 = ((b * 65536 : Nat) : Int) := by omega
  have e3 : (c : Int) * 256 = ((c * 256 : Nat) : Int) := by omega
  have e4 : ((a * 16777216 + b * 65536 : Nat) : Int) = (((a * 256 + b) * 65536 : Nat) : Int) := congrArg (fun x : Nat => (x : Int)) (by simp [Nat.add_mul, Nat.mul_assoc])
  have e5 : (((a * 256 + b) * 65536 + c * 256 : Nat) : Int) = (((a * 65536 + b * 256 + c) * 256 : Nat) : Int) := congrArg (fun x : Nat => (x : Int)) (by simp [Nat.add_mul, Nat.mul_assoc])
  rw [e1, e2, e3, h1, e4, h2, e5, h3]
  omega
theorem join_four (n : Int) : bits .or .i64 (bits .or .i64 (bits .or .i64 (IntKind.i64.wrap (IntKind.i64.wrap (Bt (lowB n 24)) * 16777216)) (IntKind.i64.wrap (IntKind.i64.wrap (Bt (lowB n 16)) * 65536))) (IntKind.i64.wrap (IntKind.i64.wrap (Bt (lowB n 8)) * 256))) (IntKind.i64.wrap (Bt (lowB n 0)))
    = n % 4294967296 := by
  refine (join4 (lowB n 24).toNat (lowB n 16).toNat (lowB n 8).toNat (lowB n 0).toNat (UInt8.toNat_lt _) (UInt8.toNat_lt _) (UInt8.toNat_lt _) (UInt8.toNat_lt _)).trans ?_
  have h0 := lowB_eq n 24; have h1 := lowB_eq n 16; have h2 := lowB_eq n 8; have h3 := lowB_eq n 0
  unfold Bt at h0 h1 h2 h3
  rw [h0, h1, h2, h3]
  omega
theorem low32 (n : Int) (h : (Lit.int .i64 n).wf = true) : bits .and .i64 n 4294967295 = n % 4294967296 := by
  show IntKind.i64.wrap ((BitVec.ofInt 64 n &&& BitVec.ofInt 64 (4294967295 : Int)).toNat : Int) = _
  have e : (BitVec.ofInt 64 (4294967295 : Int)).toNat = 2 ^ 32 - 1 := by decide
  rw [BitVec.toNat_and, e, Nat.and_two_pow_sub_one_eq_mod, BitVec.toNat_ofInt, IntWalk.i64_in _ (by omega)]
  omega

set_option maxRecDepth 100000 in
set_option maxHeartbeats 2000000 in
theorem pairFours_walk {w : World} (n : Int) (wn : (Lit.int .i64 n).wf = true) :
    Calls Try.prog 10 #[.int .i64 n] w fun e w' => e = .returned (.bool true) ∧ Below w.heap.size w w' := by
  have hlow := low32 n wn
  have hjoin := join_four n
  obtain ⟨m, hm⟩ : ∃ m, n % 4294967296 = m := ⟨_, rfl⟩
  rw [hm] at hlow hjoin
  have HN := Lib.hid hlow; have HJ := Lib.hid hjoin
  clear hlow hjoin hm
  clear wn
  go_enter Try.func10, Try.ntmps10
  go_wp2_with (go_at_call 16; refine (four_any n _).mono ?_; rintro e w1 ⟨rfl, hw1⟩
               have hF : Blk w1 w.heap.size (HC (fourB n)) 5 := by rw [hw1]; exact Blk.new _ _ _
               have hb1 : Below w.heap.size w w1 := by rw [hw1]; exact (Below.refl _ _).next (Nat.le_refl _) _
               have c0 : w1.cell? ⟨w.heap.size, 0, none⟩ = some (.int .u8 (Bt (lowB n 24))) := hF.cell 0
               have c1 : w1.cell? ⟨w.heap.size, 1, none⟩ = some (.int .u8 (Bt (lowB n 16))) := hF.cell 1
               have c2 : w1.cell? ⟨w.heap.size, 2, none⟩ = some (.int .u8 (Bt (lowB n 8))) := hF.cell 2
               have c3 : w1.cell? ⟨w.heap.size, 3, none⟩ = some (.int .u8 (Bt (lowB n 0))) := hF.cell 3
               have HF := Lib.hid hF; have HB1 := Lib.hid hb1
               clear hw1 hF hb1)
  refine region_tail 22 (by kernel_rfl) (by kernel_rfl) ?_
  simp only [List.take_succ_cons, List.take_zero, List.drop_succ_cons, List.drop_zero]
  repeat still_step
  refine wpStill_nil ?_
  go_wp2
  rw [HJ.out]
  refine wp_gen (fun wr hwr => ?_)
  have HF2 : Hid (Blk wr w.heap.size (HC (fourB n)) 5) := Lib.hid (by rw [hwr]; exact HF.out)
  have hB0 : Below w.heap.size w wr := by rw [hwr]; exact ⟨HB1.out.os, HB1.out.tape, HB1.out.output, HB1.out.size, HB1.out.block⟩
  clear hwr c0 c1 c2 c3
  -- REGION
  refine region_grows _ (Nat.le_refl _) [isV 0 (.int .i64 m), isV 1 (.int .i64 n), isV 2 (.int .i64 m), isV 3 (.bool true), isV 4 (.bool true), isV 5 (.slice (some ⟨w.heap.size, 0, none⟩) 4 4), isV 6 (.string (strB (fourB n))), isV 7 (.int .i64 n), litV wr.heap.size 8 4 (fourB n) 5, isV 9 (.string (strB (fourB n))), isV 10 (.bool true), isV 11 (.bool true), isV 12 (.bool true), isV 13 (.bool true), isV 14 (.bool true), isV 15 (.bool true)]
    [[], [], [1], [0, 2], [3], [4], [4, 5], [4], [4, 7], [4, 8], [4, 6, 9], [4, 10], [11], [12], [12, 13], [14]] [some 32, some 33, some 34, some 35, some 36, some 37, some 38, some 39, some 40, some 41, some 42, some 43, some 44, some 45, some 46, some 2] _ (by kernel_rfl) (by kernel_rfl) (by kernel_rfl) (by kernel_rfl) (by kernel_rfl) rfl ?_ ?_ ?_
  · repeat (first | exact st_nil | refine st_cons (by first | exact st_is _ _ | exact st_as _ _ | exact st_row _ _ _ | exact st_rows _ _ _ | exact st_lit _ _ _ _ _ | exact st_args _ _ _ | exact st_bytes _ _) ?_)
  · intro hgz
    refine ⟨?_, ?_, ?_, ?_, ?_, ?_, ?_, ?_, ?_, ?_, ?_, ?_, ?_, ?_, ?_, ?_, trivial⟩ <;> intro vals w1 hb hf <;> obtain ⟨hb, hz⟩ := hgz w1 hb <;> simp [leans, factsOf, phi, sel_lit, sel_row, sel_rows, sel_args, sel_bytes, isV, asV, sel] at hf <;> simp [putD, phi, Act.put]
    · -- 0 move 
      go_wp2
      exact ⟨rfl, rfl, .refl _ _, mk_is rfl⟩
    · -- 1 move 
      go_wp2
      exact ⟨rfl, rfl, .refl _ _, mk_is rfl⟩
    · -- 2 binOp 
      simp only [hf]; clear hf
      have kn := HN.out
      go_wp2
      exact ⟨rfl, rfl, .refl _ _, mk_is rfl⟩
    · -- 3 binOp 
      simp only [hf]; clear hf
      go_wp2
      exact ⟨rfl, rfl, .refl _ _, mk_is rfl⟩
    · -- 4 move 
      simp only [hf]; clear hf
      go_wp2
      exact ⟨rfl, rfl, .refl _ _, mk_is rfl⟩
    · -- 5 move if some (4, true)
      simp only [hf]; clear hf
      go_wp2
      exact ⟨rfl, rfl, .refl _ _, mk_is rfl⟩
    · -- 6 convert if some (4, true)
      simp only [hf]; clear hf
      have kS := (show Row8 w1 (some ⟨w.heap.size, 0, none⟩) 4 (fourB n) from Row8.ofBlk (HF2.out.keep hb.below) (by simp [maxLen, fourB]) 4 rfl).str (P := Try.prog) 31 9 5 4 Try.underlying31 Try.underlying5 Try.underlying9
      go_wp2
      exact ⟨rfl, rfl, .refl _ _, mk_is rfl⟩
    · -- 7 move if some (4, true)
      simp only [hf]; clear hf
      go_wp2
      exact ⟨rfl, rfl, .refl _ _, mk_is rfl⟩
    · -- 8 call curia/curiaref3.Four if some (4, true)
      simp only [hf]; clear hf
      go_wp2_with (first | (go_at_call 17; refine (rfour_any n _).mono ?_; rintro e w' ⟨rfl, hw'⟩; have hb' : Below w1.heap.size w1 w' := (by rw [hw']; exact (Below.refl _ _).next (Nat.le_refl _) _); have hl' := Lib.hid (show w'.heap[w1.heap.size]? = some (.cells (HC (fourB n)) 5 (0, 0)) from (by rw [hw']; exact heap_alloc_new _ _)); clear hw'))
      exact ⟨rfl, rfl, Grows.of hb' hz, mk_lit w1.heap.size (0, 0) hz rfl hl'.out⟩
    · -- 9 convert if some (4, true)
      obtain ⟨e4, g8, fr8, hg8, e8, hblk8⟩ := hf
      simp only [e4, e8]
      have kS := (show Row8 w1 (some ⟨g8, 0, none⟩) 4 (fourB n) from Row8.ofCells hblk8 rfl (by simp [maxLen, fourB])).str (P := Try.prog) 31 9 5 4 Try.underlying31 Try.underlying5 Try.underlying9
      go_wp2
      exact ⟨rfl, rfl, .refl _ _, mk_is rfl⟩
    · -- 10 binOp if some (4, true)
      simp only [hf]; clear hf
      go_wp2
      exact ⟨rfl, rfl, .refl _ _, mk_is rfl⟩
    · -- 11 pick 
      simp only [hf]; clear hf
      go_wp2
      exact ⟨rfl, rfl, .refl _ _, mk_is rfl⟩
    · -- 12 move 
      simp only [hf]; clear hf
      go_wp2
      exact ⟨rfl, rfl, .refl _ _, mk_is rfl⟩
    · -- 13 call curia/curialaw3.known if some (12, true)
      simp only [hf]; clear hf
      go_wp2_with (first | (go_at_call 18; refine (known_pair _).mono ?_; rintro e w' ⟨rfl, hb'⟩))
      exact ⟨rfl, rfl, Grows.of hb' hz, mk_is rfl⟩
    · -- 14 pick 
      simp only [hf]; clear hf
      go_wp2
      exact ⟨rfl, rfl, .refl _ _, mk_is rfl⟩
    · -- 15 assign 
      simp only [hf]; clear hf
      go_wp2
      exact ⟨rfl, rfl, .refl _ _, mk_is rfl⟩
  · intro vals w1 hb hf; simp [leans, List.range, List.range.loop, factsOf, phi, sel_lit, sel_row, sel_rows, sel_args, sel_bytes, isV, asV, sel] at hf; simp [putD, List.range, List.range.loop, Act.put, hf]
    go_wp2
    go_ret
    exact ⟨rfl, hB0.lift hb.below hB0.size⟩
end Go.Proofs.Ytbhhgmaibdkgbaa
