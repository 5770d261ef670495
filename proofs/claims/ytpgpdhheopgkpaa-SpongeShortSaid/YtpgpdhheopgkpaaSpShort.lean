/-
  The walk of SpongeShort.
-/
import Derived.Test.YtpgpdhheopgkpaaSpLaws4
namespace Go.Proofs.Ytpgpdhheopgkpaa
open Go.RowKit
set_option linter.unusedVariables false
set_option linter.unusedSimpArgs false
attribute [local go_sem] U_xor U_or8 U_shl8

theorem pad_lo (p : List UInt8) (n k : Nat) (h : k < p.length) : (padded p n)[0 + k]?.getD 0 = p[k] := by
  rw [Nat.zero_add, padded, List.append_assoc, List.getElem?_append_left h, List.getElem?_eq_getElem h, Option.getD_some]
theorem pad_at (p : List UInt8) (n : Nat) : (padded p n)[0 + p.length]?.getD 0 = 128 := by
  simp [padded]
theorem pad_hi (p : List UInt8) (n k : Nat) (h : p.length < k) : (padded p n)[0 + k]?.getD 0 = 0 := by
  rw [Nat.zero_add, padded, List.append_assoc, List.getElem?_append_right (by omega)]
  obtain ⟨j, hj⟩ : ∃ j, k - p.length = j + 1 := ⟨k - p.length - 1, by omega⟩
  rw [hj]
  simp [List.getElem?_replicate]
  split <;> rfl
theorem short_sum (p : List UInt8) (h : p.length ≤ 7) (i : Nat) (hi : i < 8) :
    (sumW p)[i]? = some (byteAt (turnW { turnW ⟨32, 0, 0, 0, 0⟩ with a := (turnW ⟨32, 0, 0, 0, 0⟩).a ^^^ wordN (padded p (7 - p.length)) 0 8 }).a i) := by
  have h1 := rabs_sum p (7 - p.length) 1 (by omega) (by omega)
  have h2 := outs_at (lastW (takes beginW p)) i (by omega)
  rw [show i / 8 + 1 = 1 by omega, show i % 8 = i by omega, ← h1] at h2
  exact h2

set_option maxRecDepth 100000 in
set_option maxHeartbeats 2000000 in
theorem spongeShort_walk {w : World} (a : Option Addr) (l c : Nat) (p : List UInt8) (hp : Arg8 w a l c p) :
    Calls Try.prog 8 #[.slice a l c] w fun e w' => e = .returned (.bool true) ∧ Below w.heap.size w w' := by
  have hl := hp.row.len_eq
  have hsm : l ≤ 140737488351232 := by have h1 := hp.le; have h2 := hp.small; omega
  by_cases h1 : ((l : Int) > 7)
  · have HP := Lib.hid hp; have HL := Lib.hid hl; clear hp hl
    go_enter Try.func8, Try.ntmps8
    go_wp2
    go_ret
    exact ⟨rfl, Below.refl _ _⟩
  have hp7 : p.length ≤ 7 := by omega
  have hshort := short_sum p hp7
  have hP1 := pad_lo p (7 - p.length)
  have hP2 := pad_at p (7 - p.length)
  have hP3 := pad_hi p (7 - p.length)
  generalize padded p (7 - p.length) = P at *
  obtain ⟨T, hT⟩ : ∃ T, turnW ⟨32, 0, 0, 0, 0⟩ = T := ⟨_, rfl⟩
  rw [hT] at hshort
  obtain ⟨d, hd⟩ : ∃ d, sumW p = d := ⟨_, rfl⟩
  have hdl : d.length = 32 := by rw [← hd]; exact sumW_length _
  rw [hd] at hshort
  have hsz : (Try.prog.info? 29).map (·.size) = some (HC d).size := by rw [HC_size, hdl]; kernel_rfl
  have hsz2 : zeros32.size = (HC d).size := by rw [HC_size, hdl]; rfl
  have hf1 : [p].flatten = p := by simp
  have HP := Lib.hid hp; have HL := Lib.hid hl; have HSH := Lib.hid hshort; have HP1 := Lib.hid hP1; have HP2 := Lib.hid hP2; have HP3 := Lib.hid hP3; have HT := Lib.hid hT; have HD := Lib.hid hd; have HDL := Lib.hid hdl; have S1 := Lib.hid hsz; have S2 := Lib.hid hsz2; have HF1 := Lib.hid hf1
  clear hp hl hshort hP1 hP2 hP3 hT hd hdl hsz hsz2 hf1 hp7
  go_enter Try.func8, Try.ntmps8
  go_wp2
  go_loop [3, 4, 5] (fun x i _ => ∃ k : Nat, k ≤ 8 ∧ i = .int .i64 k ∧ x = .int .u64 (U (wordN P 0 k))) (fun _ i _ => 8 - (intOf i).toNat)
  case atStart => exact ⟨0, by omega, rfl, rfl⟩
  case round =>
    obtain ⟨k, hk, rfl, rfl⟩ := hrel
    by_cases hlt : k < 8
    · by_cases hk1 : k < l
      · obtain ⟨b, off, rfl, hcell⟩ : ∃ b off, a = some ⟨b, off, none⟩ ∧ w.cell? ⟨b, off + k, none⟩ = some (.int .u8 (Bt (p[k]'(by have := HL.out; omega)))) := by
          rcases HP.out.row.cells with h2 | ⟨b, off, h2, hc⟩
          · exfalso; have := HL.out; rw [h2] at this; simp at this; omega
          · exact ⟨b, off, h2, hc k (by have := HL.out; omega)⟩
        have hpk := HP1.out k (by have := HL.out; omega)
        generalize p[k]'(by have := HL.out; omega) = x at *
        have hw8 : IntKind.u64.wrap (Bt x) = Bt x := IntWalk.u64_in _ (by have := Bt_bd x; omega)
        have hne : ((k : Int) == (l : Int)) = false := by rw [beq_eq_false_iff_ne]; omega
        have HPK := Lib.hid hpk
        clear hpk
        go_wp2
        go_round
        case rel => exact ⟨k + 1, by omega, by go_num, by show _ = Value.int .u64 (U ((wordN P 0 k <<< 8) ||| w8 (P[0 + k]?.getD 0))); rw [HPK.out]⟩
        case measure => simp [intOf]; omega
      · by_cases hk2 : k = l
        · have hpk : P[0 + k]?.getD 0 = 128 := by rw [hk2, HL.out]; exact HP2.out
          have e128 : bits .or .u64 (U (wordN P 0 k <<< 8)) 128 = U ((wordN P 0 k <<< 8) ||| w8 128) := U_or8 _ 128
          have heq : ((k : Int) == (l : Int)) = true := by rw [hk2]; simp
          have HPK := Lib.hid hpk; have HK2 := Lib.hid hk2
          clear hpk hk2
          go_wp2
          go_round
          case rel => exact ⟨k + 1, by omega, by go_num, by show _ = Value.int .u64 (U ((wordN P 0 k <<< 8) ||| w8 (P[0 + k]?.getD 0))); rw [HPK.out]⟩
          case measure => simp [intOf]; omega
        · have hpk : P[0 + k]?.getD 0 = 0 := HP3.out k (by have := HL.out; omega)
          have e0 : bits .or .u64 (U (wordN P 0 k <<< 8)) 0 = U ((wordN P 0 k <<< 8) ||| w8 0) := U_or8 _ 0
          have hne : ((k : Int) == (l : Int)) = false := by rw [beq_eq_false_iff_ne]; omega
          have hlt' : ¬ ((k : Int) < (l : Int)) := by omega
          have HPK := Lib.hid hpk
          clear hpk
          go_wp2
          go_round
          case rel => exact ⟨k + 1, by omega, by go_num, by show _ = Value.int .u64 (U ((wordN P 0 k <<< 8) ||| w8 (P[0 + k]?.getD 0))); rw [HPK.out]⟩
          case measure => simp [intOf]; omega
    · obtain rfl : k = 8 := by omega
      have HSH' := HSH
      generalize wordN P 0 8 = W at *
      clear HP1 HP2 HP3
      go_wp2_with fail
      refine (turn_32 _).mono ?_
      rintro e w1 ⟨rfl, hb1⟩
      rw [HT.out]
      have HB1 := Lib.hid hb1
      clear hb1
      go_wp2_with fail
      refine (turn_any { T with a := T.a ^^^ W } _).mono ?_
      rintro e w2 ⟨rfl, hb2⟩
      have hX2 : Blk w2 w1.heap.size (C5 { T with a := T.a ^^^ W }) 23 := (Blk.new w1 _ _).keep hb2
      have hB2 := (HB1.out.next (Nat.le_refl _) _).later hb2 (Nat.le_refl _)
      have hwX := HB1.out.size
      generalize turnW { T with a := T.a ^^^ W } = z at *
      generalize w1.heap.size = X at *
      obtain ⟨c0, c1, c2, c3, c4⟩ := hX2.five
      have f := hX2.frozen
      have HX2 := Lib.hid hX2; have HB2 := Lib.hid hB2
      clear hX2 hB2 hb2 HB1
      go_wp2_with fail
      have hX3 := HX2.out.set5 (.int .u64 (U z.a)) (.int .u64 (U z.b)) (.int .u64 (U z.c)) (.int .u64 (U z.d)) (.int .u64 (U z.e))
      have hB3 := below_set5 HB2.out hwX (.int .u64 (U z.a)) (.int .u64 (U z.b)) (.int .u64 (U z.c)) (.int .u64 (U z.d)) (.int .u64 (U z.e))
      have hz3 : (((((w2.setCell ⟨X, 0, none⟩ (.int .u64 (U z.a))).setCell ⟨X, 1, none⟩ (.int .u64 (U z.b))).setCell ⟨X, 2, none⟩ (.int .u64 (U z.c))).setCell ⟨X, 3, none⟩ (.int .u64 (U z.d))).setCell ⟨X, 4, none⟩ (.int .u64 (U z.e))).heap.size = w2.heap.size := by simp
      generalize ((((w2.setCell ⟨X, 0, none⟩ (.int .u64 (U z.a))).setCell ⟨X, 1, none⟩ (.int .u64 (U z.b))).setCell ⟨X, 2, none⟩ (.int .u64 (U z.c))).setCell ⟨X, 3, none⟩ (.int .u64 (U z.d))).setCell ⟨X, 4, none⟩ (.int .u64 (U z.e)) = w3 at *
      clear c0 c1 c2 c3 c4 f HX2 HB2
      refine (sum_any _ 1 1 [p] _ (RowR.oneAt hz3.symm (HP.out.row.below hB3))).mono ?_
      rintro e w4 ⟨rfl, hb4⟩
      rw [HF1.out, HD.out]
      have hX4 := (hX3.alloc _).keep hb4
      have hB4 := (hB3.next (Nat.le_refl _) _).later hb4 (Nat.le_refl _)
      have HX4 := Lib.hid hX4; have HB4 := Lib.hid hB4
      clear hX3 hB3 hz3 hb4 hX4 hB4
      go_wp2_with (refine wpList_store_row rfl 29 _ _ rfl w4.heap.size (HC d) rfl rfl 29 zeros32 (Blk.newAt _ _ rfl) S1.out S2.out (HC_one _) ?_)
      refine wp_gen (fun w5 hw5 => ?_)
      have hXH : X < w4.heap.size := HX4.out.lt
      have hH5 : Blk w5 w4.heap.size (HC d) 29 := by rw [hw5]; exact (Blk.newAt _ _ rfl).setRow _
      have hX5 : Blk w5 X (C5 z) 23 := by rw [hw5]; exact (HX4.out.alloc _).otherRow _ (by omega)
      have hB5 : Below w.heap.size w w5 := by rw [hw5]; exact below_setRow (HB4.out.next (Nat.le_refl _) _) _ HB4.out.size
      clear hw5 HX4 HB4
      generalize w4.heap.size = H at *
      have HX5 := Lib.hid hX5; have HH5 := Lib.hid hH5; have HB5 := Lib.hid hB5
      clear hX5 hH5 hB5
      go_wp2
      go_loopw [8] (fun i wr => ∃ k : Nat, k ≤ 8 ∧ i = .int .i64 k ∧ Blk wr X (C5 z) 23 ∧ Blk wr H (HC d) 29 ∧ Below w.heap.size w wr) (fun i _ => 8 - (intOf i).toNat)
      case atStart => exact ⟨0, by omega, rfl, HX5.out, HH5.out, HB5.out⟩
      case round =>
        obtain ⟨k, hk, rfl, hX, hH, hB⟩ := hrel
        clear HX5 HH5 HB5
        by_cases hlt : k < 8
        · have hget := HSH.out k hlt
          have hc : wr.cell? ⟨H, k, none⟩ = some (.int .u8 (Bt (byteAt z.a k))) := by rw [hH.cell k, HC_get, hget]; rfl
          obtain ⟨c0, c1, c2, c3, c4⟩ := hX.five
          obtain ⟨s1, s2, s3, s4, s5⟩ := shift_facts k (by omega)
          have hwb := wrap_byteAt z.a k
          have h32 : (k : Int) < 32 := by omega
          have h32' : k < 32 := by omega
          have hw64 : IntKind.u64.wrap (56 - 8 * (k : Int)) = 56 - 8 * (k : Int) := IntWalk.u64_in _ (by omega)
          have HX := Lib.hid hX; have HH := Lib.hid hH; have HB := Lib.hid hB
          clear hX hH hB hget
          go_wp2_with fail
          refine region_tail 11 (by kernel_rfl) (by kernel_rfl) ?_
          simp only [List.take_succ_cons, List.take_zero, List.drop_succ_cons, List.drop_zero]
          repeat still_step
          refine wpStill_nil ?_
          have hbb : (Bt (byteAt z.a k) != Bt (byteAt z.a k)) = false := by simp
          go_wp2
          go_roundw
          case rel => exact ⟨k + 1, by omega, by go_num, HX.out.drew, HH.out.drew, HB.out.drew⟩
          case measure => simp [intOf]; omega
        · have HB := Lib.hid hB
          clear hB hX hH
          go_wp2_with (go_at_call 14; refine (known_any _).mono ?_; rintro e w5 ⟨rfl, hb5⟩)
          go_ret
          exact ⟨rfl, HB.out.later hb5 (Nat.le_refl _)⟩
end Go.Proofs.Ytpgpdhheopgkpaa
