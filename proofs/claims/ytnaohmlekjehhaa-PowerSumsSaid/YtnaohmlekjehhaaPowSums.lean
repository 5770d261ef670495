/-
  The walks of Scalar and Number, and of PowerSums.
-/
import Derived.Test.YtnaohmlekjehhaaOpen
import Derived.Test.YtnaohmlekjehhaaExt3
import Derived.Test.YtnaohmlekjehhaaPowLaws
import Derived.Test.YtnaohmlekjehhaaRegion
namespace Go.Proofs.Ytnaohmlekjehhaa
open Go.RowKit
set_option linter.unusedVariables false
set_option linter.unusedSimpArgs false

theorem U_or8 (x : BitVec 64) (c : UInt8) : bits .or .u64 (U x) (Bt c) = U (x ||| w8 c) := by rw [← U_w8, U_or]
theorem U_shl8 (x : BitVec 64) : IntKind.u64.wrap (U x * 256) = U (x <<< 8) := U_shl x 8
/-- the first bytes as a number -/
def numN (h : List UInt8) : Nat → BitVec 64
  | 0 => 0
  | j + 1 => (numN h j <<< 8) ||| w8 (h[j]?.getD 0)
attribute [local go_sem] U_or8 U_shl8

set_option maxRecDepth 100000 in
theorem first_any (h : List UInt8) (hh : h.length = 32) (w : World) :
    Calls Try.prog 26 #[HV h] w fun e w' => e = .returned (.int .u64 (U (numN h 8))) ∧ Below w.heap.size w w' := by
  have hB := Blk.new w (HC h) 27
  have hcell : ∀ j, j < 8 → ∃ c : UInt8, h[j]? = some c ∧ (w.alloc (.cells (HC h) 27)).cell? ⟨w.heap.size, j, none⟩ = some (.int .u8 (Bt c)) := fun j hj =>
    ⟨h[j]'(by omega), List.getElem?_eq_getElem (by omega), (hB.cell j).trans (HC_get_lt h j (by omega))⟩
  have HC0 := Lib.hid hcell
  have hsz : (HC h).size = 32 := by rw [HC_size, hh]
  clear hB hcell
  unfold HV
  go_enter Try.func26, Try.ntmps26
  go_wp2
  go_loop [3, 5, 8] (fun x _ i => ∃ k : Nat, k ≤ 8 ∧ i = .int .i64 k ∧ x = .int .u64 (U (numN h k))) (fun _ _ i => 8 - (intOf i).toNat)
  case atStart => exact ⟨0, by omega, rfl, rfl⟩
  case round =>
    obtain ⟨k, hk, rfl, rfl⟩ := hrel
    by_cases hlt : k < 8
    · obtain ⟨c, hPc, hcell⟩ := HC0.out k hlt
      have hw8 : IntKind.u64.wrap (Bt c) = Bt c := IntWalk.u64_in _ (by have := Bt_bd c; omega)
      have HPC := Lib.hid hPc; clear hPc
      go_wp2
      go_round
      case rel => exact ⟨k + 1, by omega, by go_num, by show _ = Value.int .u64 (U ((numN h k <<< 8) ||| w8 (h[k]?.getD 0))); rw [HPC.out]; rfl⟩
      case measure => simp [intOf]; omega
    · obtain rfl : k = 8 := by omega
      go_wp2
      go_ret
      exact ⟨rfl, (Below.refl _ _).next (Nat.le_refl _) _⟩

set_option maxRecDepth 100000 in
theorem rfirst_any (h : List UInt8) (hh : h.length = 32) (m : Int) (hm : 0 < m ∧ m ≤ 1073741789) (w : World) :
    Calls Try.prog 27 #[HV h, .int .u64 m] w fun e w' => e = .returned (.int .i64 (U (numN h 8) % m)) ∧ Below w.heap.size w w' := by
  obtain ⟨hm0, hm1⟩ := hm
  have hB := Blk.new w (HC h) 27
  have hcell : ∀ j, j < 8 → ∃ c : UInt8, h[j]? = some c ∧ (w.alloc (.cells (HC h) 27)).cell? ⟨w.heap.size, j, none⟩ = some (.int .u8 (Bt c)) := fun j hj =>
    ⟨h[j]'(by omega), List.getElem?_eq_getElem (by omega), (hB.cell j).trans (HC_get_lt h j (by omega))⟩
  have HC0 := Lib.hid hcell
  have hsz : (HC h).size = 32 := by rw [HC_size, hh]
  clear hB hcell
  unfold HV
  go_enter Try.func27, Try.ntmps27
  go_wp2
  go_loop [5, 6] (fun x i => ∃ k : Nat, k ≤ 8 ∧ i = .int .i64 k ∧ x = .int .u64 (U (numN h k))) (fun _ i => 8 - (intOf i).toNat)
  case atStart => exact ⟨0, by omega, rfl, rfl⟩
  case round =>
    obtain ⟨k, hk, rfl, rfl⟩ := hrel
    by_cases hlt : k < 8
    · obtain ⟨c, hPc, hcell⟩ := HC0.out k hlt
      have hw8 : IntKind.u64.wrap (Bt c) = Bt c := IntWalk.u64_in _ (by have := Bt_bd c; omega)
      have HPC := Lib.hid hPc; clear hPc
      go_wp2
      go_round
      case rel => exact ⟨k + 1, by omega, by go_num, by show _ = Value.int .u64 (U ((numN h k <<< 8) ||| w8 (h[k]?.getD 0))); rw [HPC.out]; rfl⟩
      case measure => simp [intOf]; omega
    · obtain rfl : k = 8 := by omega
      have hbd := U_bd (numN h 8)
      generalize hx : U (numN h 8) = x at hbd ⊢
      have HX := Lib.hid hx; clear hx
      have hx0 := hbd.1
      have hr0 : 0 ≤ x % m := Int.emod_nonneg _ (by omega)
      have hr1 : x % m < m := Int.emod_lt_of_pos _ hm0
      go_wp2
      go_ret
      exact ⟨by rw [HX.out]; rfl, (Below.refl _ _).next (Nat.le_refl _) _⟩

set_option maxRecDepth 100000 in
theorem pscalar_any (h : List UInt8) (hh : h.length = 32) (w : World) :
    Calls Try.prog 20 #[HV h] w fun e w' => e = .returned (.int .i64 (U (numN h 8) % 1073741788 + 1)) ∧ Below w.heap.size w w' := by
  have hB := Blk.new w (HC h) 27
  have hsz : (Try.prog.info? 27).map (·.size) = some (HC h).size := by rw [HC_size, hh]; kernel_rfl
  have HB := Lib.hid hB; have S1 := Lib.hid hsz; have HH := Lib.hid hh
  clear hB hsz hh
  unfold HV
  go_enter Try.func20, Try.ntmps20
  go_wp2_with (first
    | (refine wpList_load_row rfl 27 _ rfl w.heap.size rfl 27 (HC h) (0, 0) _ HB.out Try.underlying27 rfl S1.out ?_)
    | (go_at_call 26; refine (first_any h HH.out _).mono ?_; rintro e w1 ⟨rfl, hb1⟩; have hbd := U_bd (numN h 8); generalize hx : U (numN h 8) = x at hbd ⊢; have HX := Lib.hid hx; clear hx; have hx0 := hbd.1; have hr0 : 0 ≤ x % 1073741788 := Int.emod_nonneg _ (by omega); have hr1 : x % 1073741788 < 1073741788 := Int.emod_lt_of_pos _ (by omega)))
  go_ret
  exact ⟨by rw [HX.out]; rfl, ((Below.refl _ _).next (Nat.le_refl _) _).later hb1 (Nat.le_refl _)⟩

set_option maxRecDepth 100000 in
theorem rscalar_any (h : List UInt8) (hh : h.length = 32) (w : World) :
    Calls Try.prog 22 #[HV h] w fun e w' => e = .returned (.int .i64 (U (numN h 8) % 1073741788 + 1)) ∧ Below w.heap.size w w' := by
  have hB := Blk.new w (HC h) 27
  have hsz : (Try.prog.info? 27).map (·.size) = some (HC h).size := by rw [HC_size, hh]; kernel_rfl
  have HB := Lib.hid hB; have S1 := Lib.hid hsz; have HH := Lib.hid hh
  clear hB hsz hh
  unfold HV
  go_enter Try.func22, Try.ntmps22
  go_wp2_with (first
    | (refine wpList_load_row rfl 27 _ rfl w.heap.size rfl 27 (HC h) (0, 0) _ HB.out Try.underlying27 rfl S1.out ?_)
    | (go_at_call 27; refine (rfirst_any h HH.out 1073741788 (by omega) _).mono ?_; rintro e w1 ⟨rfl, hb1⟩; have hr0 : 0 ≤ U (numN h 8) % 1073741788 := Int.emod_nonneg _ (by omega); have hr1 : U (numN h 8) % 1073741788 < 1073741788 := Int.emod_lt_of_pos _ (by omega); generalize hx : U (numN h 8) % 1073741788 = x at hr0 hr1 ⊢; have HX := Lib.hid hx; clear hx))
  go_ret
  exact ⟨by rw [HX.out]; rfl, ((Below.refl _ _).next (Nat.le_refl _) _).later hb1 (Nat.le_refl _)⟩

set_option maxRecDepth 100000 in
theorem pnumber_any (h : List UInt8) (hh : h.length = 32) (w : World) :
    Calls Try.prog 21 #[HV h] w fun e w' => e = .returned (.int .i64 (U (numN h 8) % 1073741789)) ∧ Below w.heap.size w w' := by
  have hB := Blk.new w (HC h) 27
  have hsz : (Try.prog.info? 27).map (·.size) = some (HC h).size := by rw [HC_size, hh]; kernel_rfl
  have HB := Lib.hid hB; have S1 := Lib.hid hsz; have HH := Lib.hid hh
  clear hB hsz hh
  unfold HV
  go_enter Try.func21, Try.ntmps21
  go_wp2_with (first
    | (refine wpList_load_row rfl 27 _ rfl w.heap.size rfl 27 (HC h) (0, 0) _ HB.out Try.underlying27 rfl S1.out ?_)
    | (go_at_call 26; refine (first_any h HH.out _).mono ?_; rintro e w1 ⟨rfl, hb1⟩; have hbd := U_bd (numN h 8); generalize hx : U (numN h 8) = x at hbd ⊢; have HX := Lib.hid hx; clear hx; have hx0 := hbd.1; have hr0 : 0 ≤ x % 1073741789 := Int.emod_nonneg _ (by omega); have hr1 : x % 1073741789 < 1073741789 := Int.emod_lt_of_pos _ (by omega)))
  go_ret
  exact ⟨by rw [HX.out]; rfl, ((Below.refl _ _).next (Nat.le_refl _) _).later hb1 (Nat.le_refl _)⟩

set_option maxRecDepth 100000 in
theorem rnumber_any (h : List UInt8) (hh : h.length = 32) (w : World) :
    Calls Try.prog 23 #[HV h] w fun e w' => e = .returned (.int .i64 (U (numN h 8) % 1073741789)) ∧ Below w.heap.size w w' := by
  have hB := Blk.new w (HC h) 27
  have hsz : (Try.prog.info? 27).map (·.size) = some (HC h).size := by rw [HC_size, hh]; kernel_rfl
  have HB := Lib.hid hB; have S1 := Lib.hid hsz; have HH := Lib.hid hh
  clear hB hsz hh
  unfold HV
  go_enter Try.func23, Try.ntmps23
  go_wp2_with (first
    | (refine wpList_load_row rfl 27 _ rfl w.heap.size rfl 27 (HC h) (0, 0) _ HB.out Try.underlying27 rfl S1.out ?_)
    | (go_at_call 27; refine (rfirst_any h HH.out 1073741789 (by omega) _).mono ?_; rintro e w1 ⟨rfl, hb1⟩; have hr0 : 0 ≤ U (numN h 8) % 1073741789 := Int.emod_nonneg _ (by omega); have hr1 : U (numN h 8) % 1073741789 < 1073741789 := Int.emod_lt_of_pos _ (by omega); generalize hx : U (numN h 8) % 1073741789 = x at hr0 hr1 ⊢; have HX := Lib.hid hx; clear hx))
  go_ret
  exact ⟨by rw [HX.out]; rfl, ((Below.refl _ _).next (Nat.le_refl _) _).later hb1 (Nat.le_refl _)⟩

set_option maxRecDepth 100000 in
theorem powerSums_walk {w : World} (h : List UInt8) (hh : h.length = 32) :
    Calls Try.prog 4 #[HV h] w fun e w' => e = .returned (.bool true) ∧ Below w.heap.size w w' := by
  have hbd := U_bd (numN h 8)
  obtain ⟨s, hs⟩ : ∃ s, U (numN h 8) % 1073741788 + 1 = s := ⟨_, rfl⟩
  obtain ⟨n, hn⟩ : ∃ n, U (numN h 8) % 1073741789 = n := ⟨_, rfl⟩
  have hs1 : s ≥ 1 := by omega
  have hs2 : s < 1073741789 := by omega
  have hn1 : n ≥ 0 := by omega
  have hn2 : n < 1073741789 := by omega
  have hsz : (Try.prog.info? 27).map (·.size) = some (HC h).size := by rw [HC_size, hh]; kernel_rfl
  have HS := Lib.hid hs; have HN := Lib.hid hn; have HH := Lib.hid hh; have S1 := Lib.hid hsz
  clear hs hn hbd hh hsz
  unfold HV
  go_enter Try.func4, Try.ntmps4
  go_wp2_with fail
  refine wp_gen (fun wr hwr => ?_)
  have hX0 : Blk wr w.heap.size (HC h) 27 := by rw [hwr]; exact Blk.new w _ _
  have hB0 : Below w.heap.size w wr := by rw [hwr]; exact (Below.refl _ _).next (Nat.le_refl _) _
  have HX0 := Lib.hid hX0
  clear hwr hX0
  refine region_grows _ (Nat.le_refl _) [isV 0 (HV h), isV 1 (.int .i64 s), isV 2 (HV h), isV 3 (.int .i64 n), isV 4 (.int .i64 s), isV 5 (.int .i64 n)]
    [[], [0], [], [2], [1], [3]] [some 5, some 6, some 7, some 8, some 3, some 4] _ (by kernel_rfl) (by kernel_rfl) (by kernel_rfl) (by kernel_rfl) (by kernel_rfl) rfl ?_ ?_ ?_
  · repeat (first | exact st_nil | refine st_cons (by first | exact st_is _ _ | exact st_as _ _ | exact st_row _ _ _ | exact st_rows _ _ _ | exact st_lit _ _ _ _ _ | exact st_args _ _ _ | exact st_bytes _ _) ?_)
  · intro hgz
    refine ⟨?_, ?_, ?_, ?_, ?_, ?_, trivial⟩ <;> intro vals w1 hb hf <;> obtain ⟨hb, hz⟩ := hgz w1 hb <;> simp [leans, factsOf, phi, sel_lit, sel_row, sel_rows, sel_args, sel_bytes, isV, asV, sel] at hf <;> simp [putD, phi, Act.put]
    · -- 0 load 
      refine wpList_load_row rfl 27 _ rfl _ rfl 27 (HC h) (0, 0) _ (HX0.out.keep hb.below) Try.underlying27 rfl S1.out ?_
      exact ⟨rfl, rfl, .refl _ _, mk_is rfl⟩
    · -- 1 call curia/power.Scalar 
      simp only [hf]; clear hf
      go_wp2_with (first | (go_at_call 20; refine (pscalar_any h HH.out _).mono ?_; rintro e w' ⟨rfl, hb'⟩; rw [HS.out]))
      exact ⟨rfl, rfl, Grows.of hb' hz, mk_is rfl⟩
    · -- 2 load 
      refine wpList_load_row rfl 27 _ rfl _ rfl 27 (HC h) (0, 0) _ (HX0.out.keep hb.below) Try.underlying27 rfl S1.out ?_
      exact ⟨rfl, rfl, .refl _ _, mk_is rfl⟩
    · -- 3 call curia/power.Number 
      simp only [hf]; clear hf
      go_wp2_with (first | (go_at_call 21; refine (pnumber_any h HH.out _).mono ?_; rintro e w' ⟨rfl, hb'⟩; rw [HN.out]))
      exact ⟨rfl, rfl, Grows.of hb' hz, mk_is rfl⟩
    · -- 4 assign 
      simp only [hf]; clear hf
      go_wp2
      exact ⟨rfl, rfl, .refl _ _, mk_is rfl⟩
    · -- 5 assign 
      simp only [hf]; clear hf
      go_wp2
      exact ⟨rfl, rfl, .refl _ _, mk_is rfl⟩
  · intro vals w1 hb hf; simp [leans, List.range, List.range.loop, factsOf, phi, sel_lit, sel_row, sel_rows, sel_args, sel_bytes, isV, asV, sel] at hf; simp [putD, List.range, List.range.loop, Act.put, hf]
    have HX1 := Lib.hid (HX0.out.keep hb.below); have HB1 := Lib.hid (hB0.later hb.below (Nat.le_refl _))
    clear hb hf
    go_wp2_with (first
      | (refine wpList_load_row rfl 27 _ rfl w.heap.size rfl 27 (HC h) (0, 0) _ HX1.out Try.underlying27 rfl S1.out ?_)
      | (refine list_wanted rfl ?_; refine wpList_load_row rfl 27 _ rfl w.heap.size rfl 27 (HC h) (0, 0) _ HX2.out Try.underlying27 rfl S1.out ?_)
      | (go_at_call 22; refine (rscalar_any h HH.out _).mono ?_; rintro e w2 ⟨rfl, hb2⟩; rw [HS.out]; have HX2 := Lib.hid (HX1.out.keep hb2); have HB2 := Lib.hid (HB1.out.later hb2 (Nat.le_refl _)); clear hb2)
      | (go_at_call 23; refine (rnumber_any h HH.out _).mono ?_; rintro e w3 ⟨rfl, hb3⟩; rw [HN.out]; have HB3 := Lib.hid (HB2.out.later hb3 (Nat.le_refl _)); clear hb3)
      | (go_at_call 19; refine (known_pow _).mono ?_; rintro e w' ⟨rfl, rfl⟩))
    go_ret
    exact ⟨rfl, HB3.out⟩
end Go.Proofs.Ytnaohmlekjehhaa
