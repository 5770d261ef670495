/-
  The walk of the sponge's end.
-/
import Derived.Test.YtmijaghaombbpaaEnd
import Derived.Test.YtmijaghaombbpaaMem2
namespace Go.Proofs.Ytmijaghaombbpaa
set_option maxRecDepth 100000
open Go.RowKit

attribute [local go_sem] U_xor
theorem shl_80 (n : Nat) : IntKind.u64.wrap (128 * 2 ^ n) = U (0x80#64 <<< n) := by
  rw [← U_shl]; rfl

set_option maxRecDepth 100000 in
set_option maxHeartbeats 2000000 in
theorem end_any (g : Nat) (s : Sp) (w : World) (hs : Blk w g (C6 s) 74) (hat : s.at_ ≤ 7) :
    Calls Try.prog 41 #[.pointer (some ⟨g, 0, none⟩)] w fun e w' => e = .returned (HV (endW s)) ∧ w.grownBy w' (some g) := by
  obtain ⟨c0, c1, c2, c3, c4, c5⟩ := hs.six
  have f := hs.frozen
  have hlt := hs.lt
  obtain ⟨s1, s2, s3, s4, s5⟩ := shift_facts s.at_ hat
  have hsh := shl_80 (56 - 8 * s.at_)
  have HS := Lib.hid hs
  clear hs
  go_enter Try.func41, Try.ntmps41
  go_wp2_with fail
  refine region_tail 16 (by kernel_rfl) (by kernel_rfl) ?_
  simp only [List.take_succ_cons, List.take_zero, List.drop_succ_cons, List.drop_zero]
  repeat still_step
  refine wpStill_nil ?_
  go_wp2_with fail
  refine wp_gen (fun w1 hw1 => ?_)
  have hX1 : Blk w1 g (C6 ⟨tIter 0 (lastW s), s.at_⟩) 74 := by
    rw [hw1]; exact ((((HS.out.set 0 _).alloc _).alloc _).drew).copy (by simp [lastW, tIter])
  have hH1 : Blk w1 (w.heap.size + 1) (HC (front (endW s) (8 * 0))) 23 := by
    rw [hw1]; exact (Blk.newAt _ _ (by simp)).drew.copy (by rw [front_zero]; rfl)
  have hR1 : Blk w1 w.heap.size (HC (List.replicate 32 0)) 23 := by
    rw [hw1]; exact (((Blk.newAt _ _ (by simp)).alloc _).drew).copy (by rfl)
  have hG1 : w.grownBy w1 (some g) := by
    rw [hw1]; exact grown_drew (grown_trans (grown_trans (grown_setCell (grown_refl w (some g)) 0 _) (World.grownBy_alloc _ _ _)) (World.grownBy_alloc _ _ _))
  clear hw1 c0 c1 c2 c3 c4 c5 f s1 s2 s3 s4 s5 hsh HS
  generalize hR : w.heap.size = R at *
  have hgR : g ≠ R := by omega
  have hgH : g ≠ R + 1 := by omega
  have HX1 := Lib.hid hX1; have HH1 := Lib.hid hH1; have HR1 := Lib.hid hR1; have HG1 := Lib.hid hG1; have HRW := Lib.hid hR
  clear hX1 hH1 hR1 hG1 hR
  go_loopw [4, 5, 22] (fun _ _ i wr => ∃ k : Nat, k ≤ 4 ∧ i = .int .i64 k ∧ Blk wr g (C6 ⟨tIter k (lastW s), s.at_⟩) 74 ∧ Blk wr (R + 1) (HC (front (endW s) (8 * k))) 23 ∧ Blk wr R (HC (List.replicate 32 0)) 23 ∧ w.grownBy wr (some g)) (fun _ _ i _ => 4 - (intOf i).toNat)
  case atStart => exact ⟨0, by omega, rfl, HX1.out, HH1.out, HR1.out, HG1.out⟩
  case round =>
    obtain ⟨k, hk, rfl, hX, hH, hRR, hG⟩ := hrel
    clear HX1 HH1 HR1 HG1
    by_cases hlt4 : k < 4
    · obtain ⟨c0, c1, c2, c3, c4, c5⟩ := hX.six
      have f := hX.frozen
      have HX := Lib.hid hX; have HH := Lib.hid hH; have HR := Lib.hid hRR; have HG := Lib.hid hG
      clear hX hH hRR hG
      go_wp2_with fail
      refine (turn_any (tIter k (lastW s)) _).mono ?_
      rintro e w2 ⟨rfl, b2⟩
      have hX2 := HX.out.keep b2
      have hH2 := HH.out.keep b2
      have hR2 := HR.out.keep b2
      have hG2 := grown_below HG.out b2
      clear c0 c1 c2 c3 c4 c5 f HX HH HR HG b2
      obtain ⟨c0, c1, c2, c3, c4, c5⟩ := hX2.six
      have f := hX2.frozen
      have HX := Lib.hid hX2; have HH := Lib.hid hH2; have HR := Lib.hid hR2; have HG := Lib.hid hG2
      clear hX2 hH2 hR2 hG2
      go_wp2_with fail
      refine wp_gen (fun w3 hw3 => ?_)
      have hX3 : Blk w3 g (C6 ⟨tIter (k + 1) (lastW s), s.at_⟩) 74 := by
        rw [hw3]; exact (((((HX.out.set 0 _).set 1 _).set 2 _).set 3 _).set 4 _).copy (by simp [tIter])
      have hH3 : Blk w3 (R + 1) (HC (front (endW s) (8 * k + 0))) 23 := by
        rw [hw3]; exact HH.out.far5 (Ne.symm hgH) _ _ _ _ _
      have hR3 : Blk w3 R (HC (List.replicate 32 0)) 23 := by
        rw [hw3]; exact HR.out.far5 (Ne.symm hgR) _ _ _ _ _
      have hG3 : w.grownBy w3 (some g) := by
        rw [hw3]; exact grown_setCell (grown_setCell (grown_setCell (grown_setCell (grown_setCell HG.out _ _) _ _) _ _) _ _) _ _
      clear hw3 c0 c1 c2 c3 c4 c5 f HX HH HR HG
      have HX1 := Lib.hid hX3; have HH1 := Lib.hid hH3; have HR1 := Lib.hid hR3; have HG1 := Lib.hid hG3
      clear hX3 hH3 hR3 hG3
      go_loopw [5, 33] (fun _ j wr => ∃ m : Nat, m ≤ 8 ∧ j = .int .i64 m ∧ Blk wr g (C6 ⟨tIter (k + 1) (lastW s), s.at_⟩) 74 ∧ Blk wr (R + 1) (HC (front (endW s) (8 * k + m))) 23 ∧ Blk wr R (HC (List.replicate 32 0)) 23 ∧ w.grownBy wr (some g)) (fun _ j _ => 8 - (intOf j).toNat)
      case atStart => exact ⟨0, by omega, rfl, HX1.out, HH1.out, HR1.out, HG1.out⟩
      case round =>
        obtain ⟨m, hm, rfl, hX, hH, hRR, hG⟩ := hrel
        clear HX1 HH1 HR1 HG1
        by_cases hlt8 : m < 8
        · obtain ⟨c0, c1, c2, c3, c4, c5⟩ := hX.six
          have hget := outs_get (lastW s) k m hlt4 hlt8
          have hfs := front_set (endW s) (8 * k + m) (outs_length _) (by omega) _ hget
          obtain ⟨ov, hov⟩ := cell_front hH (outs_length _) (show 8 * k + m < 32 by omega)
          have fH := hH.frozen
          generalize (tIter (k + 1) (lastW s)).a = za at *
          have hwb := wrap_byteAt za m
          obtain ⟨s1, s2, s3, s4, s5⟩ := shift_facts m (by omega)
          have HX := Lib.hid hX; have HH := Lib.hid hH; have HR := Lib.hid hRR; have HG := Lib.hid hG
          have HF := Lib.hid hfs
          clear hX hH hRR hG hget hfs
          go_wp2
          go_roundw
          case rel =>
            exact ⟨m + 1, by omega, by go_num, HX.out.other _ _ hgH, (HH.out.set _ _).copy (by rw [HC_set, HF.out]; rfl), HR.out.other _ _ (by simp), grown_setNew HG.out _ _ (by have := HRW.out; omega)⟩
          case measure => simp [intOf]; omega
        · obtain rfl : m = 8 := by omega
          have HX := Lib.hid hX; have HH := Lib.hid hH; have HR := Lib.hid hRR; have HG := Lib.hid hG
          clear hX hH hRR hG
          go_wp2
          go_roundw
          case rel => exact ⟨k + 1, by omega, by go_num, HX.out, HH.out.copy (by rw [Nat.mul_succ]), HR.out, HG.out⟩
          case measure => simp [intOf]; omega
    · obtain rfl : k = 4 := by omega
      have hH' : Blk wr (R + 1) (HC (endW s)) 23 := hH.copy (by rw [show 8 * 4 = 32 from rfl, show front (endW s) 32 = endW s from front_all _ (outs_length _)])
      have hsz : (Try.prog.info? 23).map (·.size) = some (HC (endW s)).size := by
        rw [HC_size, show (endW s).length = 32 from outs_length _]; kernel_rfl
      have hsz2 : (HC (List.replicate 32 0)).size = (HC (endW s)).size := by rw [HC_size, HC_size, show (endW s).length = 32 from outs_length _]; rfl
      have HX := Lib.hid hX; have HH := Lib.hid hH'; have HR := Lib.hid hRR; have HG := Lib.hid hG
      have S1 := Lib.hid hsz; have S2 := Lib.hid hsz2
      clear hX hH hH' hRR hG hsz hsz2
      go_wp2_with (first
        | (refine wpList_load_row rfl 23 _ rfl (R + 1) rfl 23 (HC (endW s)) (0, 0) _ HH.out Try.underlying23 rfl S1.out ?_)
        | (refine wpList_store_row rfl 23 _ _ rfl R (HC (endW s)) rfl rfl 23 (HC (List.replicate 32 0)) HR.out S1.out S2.out (HC_one _) ?_))
      exact bodyPost_ret (v := HV (endW s)) (results_cell_row rfl _ _ R _ _ (0, 0) _ rfl (HR.out.setRow _) Try.underlying23 rfl S1.out) rfl
        ⟨rfl, grown_setRow HG.out _ (.inl (by have := HRW.out; omega))⟩
end Go.Proofs.Ytmijaghaombbpaa
