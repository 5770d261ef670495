/-
  The walks of Scalar and Number.
-/
import Derived.Test.YtmijaghaombbpaaZero
import Derived.Test.YtmijaghaombbpaaOpen
import Derived.Test.YtmijaghaombbpaaExt3
import Derived.Test.YtmijaghaombbpaaRegion
namespace Go.Proofs.Ytmijaghaombbpaa
set_option maxRecDepth 100000
open Go.RowKit
set_option linter.unusedVariables false
set_option linter.unusedSimpArgs false

/-- the first bytes as a number -/
def numN (h : List UInt8) : Nat → BitVec 64
  | 0 => 0
  | j + 1 => (numN h j <<< 8) ||| w8 (h[j]?.getD 0)
attribute [local go_sem] U_or8 U_shl8

set_option maxRecDepth 100000 in
theorem first_any (h : List UInt8) (hh : h.length = 32) (w : World) :
    Calls Try.prog 37 #[HV h] w fun e w' => e = .returned (.int .u64 (U (numN h 8))) ∧ Below w.heap.size w w' := by
  have hB := Blk.new w (HC h) 23
  have hcell : ∀ j, j < 8 → ∃ c : UInt8, h[j]? = some c ∧ (w.alloc (.cells (HC h) 23)).cell? ⟨w.heap.size, j, none⟩ = some (.int .u8 (Bt c)) := fun j hj =>
    ⟨h[j]'(by omega), List.getElem?_eq_getElem (by omega), (hB.cell j).trans (HC_get_lt h j (by omega))⟩
  have HC0 := Lib.hid hcell
  have hsz : (HC h).size = 32 := by rw [HC_size, hh]
  clear hB hcell
  unfold HV
  go_enter Try.func37, Try.ntmps37
  go_wp2
  go_loop [3, 5, 8] (fun x _ i => ∃ k : Nat, k ≤ 8 ∧ i = .int .i64 k ∧ x = .int .u64 (U (numN h k))) (fun _ _ i => 8 - (intOf i).toNat)
  case atStart => exact ⟨0, by omega, rfl, rfl⟩
  case round =>
    obtain ⟨k, hk, rfl, rfl⟩ := hrel
    by_cases hlt : k < 8
    · obtain ⟨c, hPc, hcell⟩ := HC0.out k hlt
      have hw8 : IntKind.u64.wrap (Bt c) = Bt c := IntWalk.u64_in _ (by have := Bt_bd c; omega)
      have HPC := Lib.hid hPc; clear hPc
      go_wp2
      go_round
      case rel => exact ⟨k + 1, by omega, by go_num, by show _ = Value.int .u64 (U ((numN h k <<< 8) ||| w8 (h[k]?.getD 0))); rw [HPC.out]; rfl⟩
      case measure => simp [intOf]; omega
    · obtain rfl : k = 8 := by omega
      go_wp2
      go_ret
      exact ⟨rfl, (Below.refl _ _).next (Nat.le_refl _) _⟩

set_option maxRecDepth 100000 in
theorem rfirst_any (h : List UInt8) (hh : h.length = 32) (m : Int) (hm : 0 < m ∧ m ≤ 1073741789) (w : World) :
    Calls Try.prog 38 #[HV h, .int .u64 m] w fun e w' => e = .returned (.int .i64 (U (numN h 8) % m)) ∧ Below w.heap.size w w' := by
  obtain ⟨hm0, hm1⟩ := hm
  have hB := Blk.new w (HC h) 23
  have hcell : ∀ j, j < 8 → ∃ c : UInt8, h[j]? = some c ∧ (w.alloc (.cells (HC h) 23)).cell? ⟨w.heap.size, j, none⟩ = some (.int .u8 (Bt c)) := fun j hj =>
    ⟨h[j]'(by omega), List.getElem?_eq_getElem (by omega), (hB.cell j).trans (HC_get_lt h j (by omega))⟩
  have HC0 := Lib.hid hcell
  have hsz : (HC h).size = 32 := by rw [HC_size, hh]
  clear hB hcell
  unfold HV
  go_enter Try.func38, Try.ntmps38
  go_wp2
  go_loop [5, 6] (fun x i => ∃ k : Nat, k ≤ 8 ∧ i = .int .i64 k ∧ x = .int .u64 (U (numN h k))) (fun _ i => 8 - (intOf i).toNat)
  case atStart => exact ⟨0, by omega, rfl, rfl⟩
  case round =>
    obtain ⟨k, hk, rfl, rfl⟩ := hrel
    by_cases hlt : k < 8
    · obtain ⟨c, hPc, hcell⟩ := HC0.out k hlt
      have hw8 : IntKind.u64.wrap (Bt c) = Bt c := IntWalk.u64_in _ (by have := Bt_bd c; omega)
      have HPC := Lib.hid hPc; clear hPc
      go_wp2
      go_round
      case rel => exact ⟨k + 1, by omega, by go_num, by show _ = Value.int .u64 (U ((numN h k <<< 8) ||| w8 (h[k]?.getD 0))); rw [HPC.out]; rfl⟩
      case measure => simp [intOf]; omega
    · obtain rfl : k = 8 := by omega
      have hbd := U_bd (numN h 8)
      generalize hx : U (numN h 8) = x at hbd ⊢
      have HX := Lib.hid hx; clear hx
      have hx0 := hbd.1
      have hr0 : 0 ≤ x % m := Int.emod_nonneg _ (by omega)
      have hr1 : x % m < m := Int.emod_lt_of_pos _ hm0
      go_wp2
      go_ret
      exact ⟨by rw [HX.out]; rfl, (Below.refl _ _).next (Nat.le_refl _) _⟩

set_option maxRecDepth 100000 in
theorem pscalar_any (h : List UInt8) (hh : h.length = 32) (w : World) :
    Calls Try.prog 20 #[HV h] w fun e w' => e = .returned (.int .i64 (U (numN h 8) % 1073741788 + 1)) ∧ Below w.heap.size w w' := by
  have hB := Blk.new w (HC h) 23
  have hsz : (Try.prog.info? 23).map (·.size) = some (HC h).size := by rw [HC_size, hh]; kernel_rfl
  have HB := Lib.hid hB; have S1 := Lib.hid hsz; have HH := Lib.hid hh
  clear hB hsz hh
  unfold HV
  go_enter Try.func20, Try.ntmps20
  go_wp2_with (first
    | (refine wpList_load_row rfl 23 _ rfl w.heap.size rfl 23 (HC h) (0, 0) _ HB.out Try.underlying23 rfl S1.out ?_)
    | (go_at_call 37; refine (first_any h HH.out _).mono ?_; rintro e w1 ⟨rfl, hb1⟩; have hbd := U_bd (numN h 8); generalize hx : U (numN h 8) = x at hbd ⊢; have HX := Lib.hid hx; clear hx; have hx0 := hbd.1; have hr0 : 0 ≤ x % 1073741788 := Int.emod_nonneg _ (by omega); have hr1 : x % 1073741788 < 1073741788 := Int.emod_lt_of_pos _ (by omega)))
  go_ret
  exact ⟨by rw [HX.out]; rfl, ((Below.refl _ _).next (Nat.le_refl _) _).later hb1 (Nat.le_refl _)⟩

set_option maxRecDepth 100000 in
theorem rscalar_any (h : List UInt8) (hh : h.length = 32) (w : World) :
    Calls Try.prog 21 #[HV h] w fun e w' => e = .returned (.int .i64 (U (numN h 8) % 1073741788 + 1)) ∧ Below w.heap.size w w' := by
  have hB := Blk.new w (HC h) 23
  have hsz : (Try.prog.info? 23).map (·.size) = some (HC h).size := by rw [HC_size, hh]; kernel_rfl
  have HB := Lib.hid hB; have S1 := Lib.hid hsz; have HH := Lib.hid hh
  clear hB hsz hh
  unfold HV
  go_enter Try.func21, Try.ntmps21
  go_wp2_with (first
    | (refine wpList_load_row rfl 23 _ rfl w.heap.size rfl 23 (HC h) (0, 0) _ HB.out Try.underlying23 rfl S1.out ?_)
    | (go_at_call 38; refine (rfirst_any h HH.out 1073741788 (by omega) _).mono ?_; rintro e w1 ⟨rfl, hb1⟩; have hr0 : 0 ≤ U (numN h 8) % 1073741788 := Int.emod_nonneg _ (by omega); have hr1 : U (numN h 8) % 1073741788 < 1073741788 := Int.emod_lt_of_pos _ (by omega); generalize hx : U (numN h 8) % 1073741788 = x at hr0 hr1 ⊢; have HX := Lib.hid hx; clear hx))
  go_ret
  exact ⟨by rw [HX.out]; rfl, ((Below.refl _ _).next (Nat.le_refl _) _).later hb1 (Nat.le_refl _)⟩

set_option maxRecDepth 100000 in
theorem pnumber_any (h : List UInt8) (hh : h.length = 32) (w : World) :
    Calls Try.prog 42 #[HV h] w fun e w' => e = .returned (.int .i64 (U (numN h 8) % 1073741789)) ∧ Below w.heap.size w w' := by
  have hB := Blk.new w (HC h) 23
  have hsz : (Try.prog.info? 23).map (·.size) = some (HC h).size := by rw [HC_size, hh]; kernel_rfl
  have HB := Lib.hid hB; have S1 := Lib.hid hsz; have HH := Lib.hid hh
  clear hB hsz hh
  unfold HV
  go_enter Try.func42, Try.ntmps42
  go_wp2_with (first
    | (refine wpList_load_row rfl 23 _ rfl w.heap.size rfl 23 (HC h) (0, 0) _ HB.out Try.underlying23 rfl S1.out ?_)
    | (go_at_call 37; refine (first_any h HH.out _).mono ?_; rintro e w1 ⟨rfl, hb1⟩; have hbd := U_bd (numN h 8); generalize hx : U (numN h 8) = x at hbd ⊢; have HX := Lib.hid hx; clear hx; have hx0 := hbd.1; have hr0 : 0 ≤ x % 1073741789 := Int.emod_nonneg _ (by omega); have hr1 : x % 1073741789 < 1073741789 := Int.emod_lt_of_pos _ (by omega)))
  go_ret
  exact ⟨by rw [HX.out]; rfl, ((Below.refl _ _).next (Nat.le_refl _) _).later hb1 (Nat.le_refl _)⟩

set_option maxRecDepth 100000 in
theorem rnumber_any (h : List UInt8) (hh : h.length = 32) (w : World) :
    Calls Try.prog 48 #[HV h] w fun e w' => e = .returned (.int .i64 (U (numN h 8) % 1073741789)) ∧ Below w.heap.size w w' := by
  have hB := Blk.new w (HC h) 23
  have hsz : (Try.prog.info? 23).map (·.size) = some (HC h).size := by rw [HC_size, hh]; kernel_rfl
  have HB := Lib.hid hB; have S1 := Lib.hid hsz; have HH := Lib.hid hh
  clear hB hsz hh
  unfold HV
  go_enter Try.func48, Try.ntmps48
  go_wp2_with (first
    | (refine wpList_load_row rfl 23 _ rfl w.heap.size rfl 23 (HC h) (0, 0) _ HB.out Try.underlying23 rfl S1.out ?_)
    | (go_at_call 38; refine (rfirst_any h HH.out 1073741789 (by omega) _).mono ?_; rintro e w1 ⟨rfl, hb1⟩; have hr0 : 0 ≤ U (numN h 8) % 1073741789 := Int.emod_nonneg _ (by omega); have hr1 : U (numN h 8) % 1073741789 < 1073741789 := Int.emod_lt_of_pos _ (by omega); generalize hx : U (numN h 8) % 1073741789 = x at hr0 hr1 ⊢; have HX := Lib.hid hx; clear hx))
  go_ret
  exact ⟨by rw [HX.out]; rfl, ((Below.refl _ _).next (Nat.le_refl _) _).later hb1 (Nat.le_refl _)⟩

end Go.Proofs.Ytmijaghaombbpaa
