/-
  The walk of the sponge's state: take.
-/
import Derived.Test.YtpemaphgmfaioaaGreatTurnT
import Derived.Test.YtpemaphgmfaioaaGreatHBase
import Derived.Lib.ConvBytes
namespace Go.Proofs.YtpemaphgmfaioaaGreat
set_option maxRecDepth 100000
open Go.RowKit

theorem shift_facts (k : Nat) (h : k ≤ 7) : IntKind.i64.wrap (8 * (k : Int)) = 8 * (k : Int) ∧ IntKind.i64.wrap (56 - 8 * (k : Int)) = 56 - 8 * (k : Int) ∧ 0 ≤ 56 - 8 * (k : Int) ∧ (56 - 8 * (k : Int)).toNat = 56 - 8 * k ∧ 56 - 8 * k ≤ 64 :=
  ⟨IntWalk.i64_in _ (by omega), IntWalk.i64_in _ (by omega), by omega, by omega, by omega⟩

attribute [local go_sem] shl_w8 U_xor

set_option maxHeartbeats 2000000 in
theorem take_any (g : Nat) (s : Sp) (a : Option Addr) (len cap : Nat) (bs : List UInt8) (w : World) (hs : Blk w g (C6 s) 120) (hat : s.at_ ≤ 7) (hp : Row8 w a len bs)
    (hne : ∀ x : Addr, a = some x → bs ≠ [] → x.block ≠ g) :
    Calls Tryz.prog 63 #[.pointer (some ⟨g, 0, none⟩), .slice a len cap] w fun e w' => e = .returned (.tuple #[]) ∧ Blk w' g (C6 (takes s bs)) 120 ∧ w.grownBy w' (some g) := by
  have hlen := hp.len_eq
  have hsm := hp.small
  unfold maxLen at hsm
  subst hlen
  have HP := Lib.hid hp
  have HS := Lib.hid hs
  have HN := Lib.hid hne
  clear hp hs hne
  go_enter Tryz.func63, Tryz.ntmps63
  go_wp2
  go_loopw [5, 8] (fun _ i wr => ∃ k : Nat, k ≤ bs.length ∧ i = .int .i64 k ∧ Blk wr g (C6 (takes s (bs.take k))) 120 ∧ w.grownBy wr (some g)) (fun _ i _ => bs.length - (intOf i).toNat)
  case atStart => exact ⟨0, Nat.zero_le _, rfl, HS.out, grown_refl _ _⟩
  case round =>
    obtain ⟨k, hk, rfl, hX, hG⟩ := hrel
    have hat2 := takes_at (bs.take k) s hat
    generalize hy : takes s (bs.take k) = y at hX hat2
    have HY := Lib.hid hy; clear hy
    by_cases hlt : k < bs.length
    · obtain ⟨b, off, rfl, hcell⟩ : ∃ b off, a = some ⟨b, off, none⟩ ∧ wr.cell? ⟨b, off + k, none⟩ = some (.int .u8 (Bt bs[k])) := by
        rcases HP.out.cells with h1 | ⟨b, off, rfl, hc⟩
        · simp [h1] at hlt
        · exact ⟨b, off, rfl, hG.cell (hc k hlt) (fun e => HN.out _ rfl (by intro h1; simp [h1] at hlt) (by injection e))⟩
      generalize hc : bs[k] = c at hcell
      have HC0 := Lib.hid hc; clear hc
      obtain ⟨c0, c1, c2, c3, c4, c5⟩ := hX.six
      have f := hX.frozen
      obtain ⟨s1, s2, s3, s4, s5⟩ := shift_facts y.at_ hat2
      have HX := Lib.hid hX; have HG := Lib.hid hG
      clear hX hG
      have hw8 : IntKind.u64.wrap (Bt c) = Bt c := IntWalk.u64_in _ (by have := Bt_bd c; omega)
      go_wp2_with fail
      refine region_tail 18 (by kernel_rfl) (by kernel_rfl) ?_
      simp only [List.take_succ_cons, List.take_zero, List.drop_succ_cons, List.drop_zero]
      repeat still_step
      refine wpStill_nil ?_
      by_cases h7 : y.at_ = 7
      · have h7' : ((y.at_ : Int) + 1 == 8) = true := by rw [h7]; rfl
        clear h7
        go_wp2_with fail
        refine (turn_any { y.x with a := y.x.a ^^^ (w8 c <<< (56 - 8 * y.at_)) } _).mono ?_
        rintro e w1 ⟨rfl, b1⟩
        have g0 := ((HX.out.set 0 (.int .u64 (U (y.x.a ^^^ w8 c <<< (56 - 8 * y.at_))))).set 5 (.int .i64 ((y.at_ : Int) + 1))).drew
        have gg := grown_drew (grown_setCell (grown_setCell HG.out 0 (.int .u64 (U (y.x.a ^^^ w8 c <<< (56 - 8 * y.at_))))) 5 (.int .i64 ((y.at_ : Int) + 1)))
        have g1 := g0.keep b1
        have gg1 := grown_below gg b1
        have hyt : takeB y c = ⟨turnW { y.x with a := y.x.a ^^^ (w8 c <<< (56 - 8 * y.at_)) }, 0⟩ := by unfold takeB; rw [if_pos (by simp at h7'; omega)]
        generalize turnW { y.x with a := y.x.a ^^^ (w8 c <<< (56 - 8 * y.at_)) } = z at hyt
        have HYT := Lib.hid hyt
        have f1 := g1.frozen
        have d0 := g1.cell 0
        have d1 := g1.cell 1
        have d2 := g1.cell 2
        have d3 := g1.cell 3
        have d4 := g1.cell 4
        have d5 := g1.cell 5
        simp at d0 d1 d2 d3 d4 d5
        have G1 := Lib.hid g1; have GG1 := Lib.hid gg1
        clear g0 gg g1 gg1 b1 hyt c0 c1 c2 c3 c4 c5 f HX HG s1 s2 s3 s4 s5 hw8 hcell h7'
        go_wp2
        go_roundw
        case rel =>
          refine ⟨k + 1, by omega, by go_num, ?_, ?_⟩
          · rw [List.take_succ_eq_append_getElem hlt, takes_snoc, HY.out, HC0.out, HYT.out]
            exact ((((((G1.out.set 0 _).set 1 _).set 2 _).set 3 _).set 4 _).set 5 _).copy (by simp)
          · exact grown_setCell (grown_setCell (grown_setCell (grown_setCell (grown_setCell (grown_setCell GG1.out _ _) _ _) _ _) _ _) _ _) _ _
        case measure => simp [intOf]; omega
      · have h7' : ((y.at_ : Int) + 1 == 8) = false := by rw [beq_eq_false_iff_ne]; omega
        have hyt : takeB y c = ⟨{ y.x with a := y.x.a ^^^ (w8 c <<< (56 - 8 * y.at_)) }, y.at_ + 1⟩ := by unfold takeB; rw [if_neg h7]
        have HYT := Lib.hid hyt
        clear h7 hyt
        go_wp2
        go_roundw
        case rel =>
          refine ⟨k + 1, by omega, by go_num, ?_, ?_⟩
          · rw [List.take_succ_eq_append_getElem hlt, takes_snoc, HY.out, HC0.out, HYT.out]
            exact ((HX.out.set 0 _).set 5 _).drew.copy (by simp)
          · exact grown_drew (grown_setCell (grown_setCell HG.out _ _) _ _)
        case measure => simp [intOf]; omega
    · have HX := Lib.hid hX; have HG := Lib.hid hG
      clear hX hG
      go_wp2
      go_end0
      refine ⟨rfl, ?_, HG.out⟩
      rw [← List.take_of_length_le (i := k) (l := bs) (by omega), HY.out]
      exact HX.out
end Go.Proofs.YtpemaphgmfaioaaGreat

/-
  The walks of the sponge's beginning and end.
-/
namespace Go.Proofs.YtpemaphgmfaioaaGreat
set_option maxRecDepth 100000
open Go.RowKit

theorem turn_32 (w : World) : Calls Tryz.prog 89 #[.agg #[.int .u64 32, .int .u64 0, .int .u64 0, .int .u64 0, .int .u64 0]] w fun e w' => e = .returned (V5 (turnW ⟨32, 0, 0, 0, 0⟩)) ∧ Below w.heap.size w w' :=
  turn_any ⟨32, 0, 0, 0, 0⟩ w

theorem begin_any (w : World) : Calls Tryz.prog 62 #[] w fun e w' => e = .returned (.agg (C6 beginW)) ∧ Below w.heap.size w w' := by
  go_enter Tryz.func62, Tryz.ntmps62
  go_wp2_with fail
  refine (turn_32 _).mono ?_
  rintro e w1 ⟨rfl, b1⟩
  generalize hz : turnW ⟨32, 0, 0, 0, 0⟩ = z
  have HZ := Lib.hid hz
  have hb : beginW = ⟨z, 0⟩ := by unfold beginW; rw [hz]
  have HB := Lib.hid hb
  clear hz hb
  have g := (Blk.new w #[.int .u64 0, .int .u64 0, .int .u64 0, .int .u64 0, .int .u64 0, .int .i64 0] 120).keep b1
  have f := g.frozen
  obtain ⟨c0, c1, c2, c3, c4, c5⟩ := g.six
  have B := ((Below.refl w.heap.size w).alloc (Nat.le_refl _) (.cells #[.int .u64 0, .int .u64 0, .int .u64 0, .int .u64 0, .int .u64 0, .int .i64 0] 120)).lift b1 (by simp)
  have G := Lib.hid g; have HBB := Lib.hid B
  clear g B b1
  go_wp2
  have g2 := ((((((G.out.set 0 (.int .u64 (U z.a))).set 1 (.int .u64 (U z.b))).set 2 (.int .u64 (U z.c))).set 3 (.int .u64 (U z.d))).set 4 (.int .u64 (U z.e))).set 5 (.int .i64 0)).copy (cs' := C6 beginW) (by rw [HB.out]; simp)
  exact bodyPost_ret (v := .agg (C6 beginW)) (results_cell_row rfl _ _ _ _ _ (0, 0) _ rfl g2 Tryz.underlying120 rfl (by kernel_rfl)) rfl
    ⟨rfl, (((((HBB.out.setCell (by simp) _).setCell (by simp) _).setCell (by simp) _).setCell (by simp) _).setCell (by simp) _).setCell (by simp) _⟩
end Go.Proofs.YtpemaphgmfaioaaGreat

/-
  The walk of the sponge's end.
-/
namespace Go.Proofs.YtpemaphgmfaioaaGreat
set_option maxRecDepth 100000
open Go.RowKit

attribute [local go_sem] U_xor
theorem shl_80 (n : Nat) : IntKind.u64.wrap (128 * 2 ^ n) = U (0x80#64 <<< n) := by
  rw [← U_shl]; rfl

set_option maxRecDepth 100000 in
set_option maxHeartbeats 2000000 in
theorem end_any (g : Nat) (s : Sp) (w : World) (hs : Blk w g (C6 s) 120) (hat : s.at_ ≤ 7) :
    Calls Tryz.prog 64 #[.pointer (some ⟨g, 0, none⟩)] w fun e w' => e = .returned (HV (endW s)) ∧ w.grownBy w' (some g) := by
  obtain ⟨c0, c1, c2, c3, c4, c5⟩ := hs.six
  have f := hs.frozen
  have hlt := hs.lt
  obtain ⟨s1, s2, s3, s4, s5⟩ := shift_facts s.at_ hat
  have hsh := shl_80 (56 - 8 * s.at_)
  have HS := Lib.hid hs
  clear hs
  go_enter Tryz.func64, Tryz.ntmps64
  go_wp2_with fail
  refine region_tail 16 (by kernel_rfl) (by kernel_rfl) ?_
  simp only [List.take_succ_cons, List.take_zero, List.drop_succ_cons, List.drop_zero]
  repeat still_step
  refine wpStill_nil ?_
  go_wp2_with fail
  refine wp_gen (fun w1 hw1 => ?_)
  have hX1 : Blk w1 g (C6 ⟨tIter 0 (lastW s), s.at_⟩) 120 := by
    rw [hw1]; exact ((((HS.out.set 0 _).alloc _).alloc _).drew).copy (by simp [lastW, tIter])
  have hH1 : Blk w1 (w.heap.size + 1) (HC (front (endW s) (8 * 0))) 30 := by
    rw [hw1]; exact (Blk.newAt _ _ (by simp)).drew.copy (by rw [front_zero]; rfl)
  have hR1 : Blk w1 w.heap.size (HC (List.replicate 32 0)) 30 := by
    rw [hw1]; exact (((Blk.newAt _ _ (by simp)).alloc _).drew).copy (by rfl)
  have hG1 : w.grownBy w1 (some g) := by
    rw [hw1]; exact grown_drew (grown_trans (grown_trans (grown_setCell (grown_refl w (some g)) 0 _) (World.grownBy_alloc _ _ _)) (World.grownBy_alloc _ _ _))
  clear hw1 c0 c1 c2 c3 c4 c5 f s1 s2 s3 s4 s5 hsh HS
  generalize hR : w.heap.size = R at *
  have hgR : g ≠ R := by omega
  have hgH : g ≠ R + 1 := by omega
  have HX1 := Lib.hid hX1; have HH1 := Lib.hid hH1; have HR1 := Lib.hid hR1; have HG1 := Lib.hid hG1; have HRW := Lib.hid hR
  clear hX1 hH1 hR1 hG1 hR
  go_loopw [4, 5, 22] (fun _ _ i wr => ∃ k : Nat, k ≤ 4 ∧ i = .int .i64 k ∧ Blk wr g (C6 ⟨tIter k (lastW s), s.at_⟩) 120 ∧ Blk wr (R + 1) (HC (front (endW s) (8 * k))) 30 ∧ Blk wr R (HC (List.replicate 32 0)) 30 ∧ w.grownBy wr (some g)) (fun _ _ i _ => 4 - (intOf i).toNat)
  case atStart => exact ⟨0, by omega, rfl, HX1.out, HH1.out, HR1.out, HG1.out⟩
  case round =>
    obtain ⟨k, hk, rfl, hX, hH, hRR, hG⟩ := hrel
    clear HX1 HH1 HR1 HG1
    by_cases hlt4 : k < 4
    · obtain ⟨c0, c1, c2, c3, c4, c5⟩ := hX.six
      have f := hX.frozen
      have HX := Lib.hid hX; have HH := Lib.hid hH; have HR := Lib.hid hRR; have HG := Lib.hid hG
      clear hX hH hRR hG
      go_wp2_with fail
      refine (turn_any (tIter k (lastW s)) _).mono ?_
      rintro e w2 ⟨rfl, b2⟩
      have hX2 := HX.out.keep b2
      have hH2 := HH.out.keep b2
      have hR2 := HR.out.keep b2
      have hG2 := grown_below HG.out b2
      clear c0 c1 c2 c3 c4 c5 f HX HH HR HG b2
      obtain ⟨c0, c1, c2, c3, c4, c5⟩ := hX2.six
      have f := hX2.frozen
      have HX := Lib.hid hX2; have HH := Lib.hid hH2; have HR := Lib.hid hR2; have HG := Lib.hid hG2
      clear hX2 hH2 hR2 hG2
      go_wp2_with fail
      refine wp_gen (fun w3 hw3 => ?_)
      have hX3 : Blk w3 g (C6 ⟨tIter (k + 1) (lastW s), s.at_⟩) 120 := by
        rw [hw3]; exact (((((HX.out.set 0 _).set 1 _).set 2 _).set 3 _).set 4 _).copy (by simp [tIter])
      have hH3 : Blk w3 (R + 1) (HC (front (endW s) (8 * k + 0))) 30 := by
        rw [hw3]; exact HH.out.far5 (Ne.symm hgH) _ _ _ _ _
      have hR3 : Blk w3 R (HC (List.replicate 32 0)) 30 := by
        rw [hw3]; exact HR.out.far5 (Ne.symm hgR) _ _ _ _ _
      have hG3 : w.grownBy w3 (some g) := by
        rw [hw3]; exact grown_setCell (grown_setCell (grown_setCell (grown_setCell (grown_setCell HG.out _ _) _ _) _ _) _ _) _ _
      clear hw3 c0 c1 c2 c3 c4 c5 f HX HH HR HG
      have HX1 := Lib.hid hX3; have HH1 := Lib.hid hH3; have HR1 := Lib.hid hR3; have HG1 := Lib.hid hG3
      clear hX3 hH3 hR3 hG3
      go_loopw [5, 33] (fun _ j wr => ∃ m : Nat, m ≤ 8 ∧ j = .int .i64 m ∧ Blk wr g (C6 ⟨tIter (k + 1) (lastW s), s.at_⟩) 120 ∧ Blk wr (R + 1) (HC (front (endW s) (8 * k + m))) 30 ∧ Blk wr R (HC (List.replicate 32 0)) 30 ∧ w.grownBy wr (some g)) (fun _ j _ => 8 - (intOf j).toNat)
      case atStart => exact ⟨0, by omega, rfl, HX1.out, HH1.out, HR1.out, HG1.out⟩
      case round =>
        obtain ⟨m, hm, rfl, hX, hH, hRR, hG⟩ := hrel
        clear HX1 HH1 HR1 HG1
        by_cases hlt8 : m < 8
        · obtain ⟨c0, c1, c2, c3, c4, c5⟩ := hX.six
          have hget := outs_get (lastW s) k m hlt4 hlt8
          have hfs := front_set (endW s) (8 * k + m) (outs_length _) (by omega) _ hget
          obtain ⟨ov, hov⟩ := cell_front hH (outs_length _) (show 8 * k + m < 32 by omega)
          have fH := hH.frozen
          generalize (tIter (k + 1) (lastW s)).a = za at *
          have hwb := wrap_byteAt za m
          obtain ⟨s1, s2, s3, s4, s5⟩ := shift_facts m (by omega)
          have HX := Lib.hid hX; have HH := Lib.hid hH; have HR := Lib.hid hRR; have HG := Lib.hid hG
          have HF := Lib.hid hfs
          clear hX hH hRR hG hget hfs
          go_wp2
          go_roundw
          case rel =>
            exact ⟨m + 1, by omega, by go_num, HX.out.other _ _ hgH, (HH.out.set _ _).copy (by rw [HC_set, HF.out]; rfl), HR.out.other _ _ (by simp), grown_setNew HG.out _ _ (by have := HRW.out; omega)⟩
          case measure => simp [intOf]; omega
        · obtain rfl : m = 8 := by omega
          have HX := Lib.hid hX; have HH := Lib.hid hH; have HR := Lib.hid hRR; have HG := Lib.hid hG
          clear hX hH hRR hG
          go_wp2
          go_roundw
          case rel => exact ⟨k + 1, by omega, by go_num, HX.out, HH.out.copy (by rw [Nat.mul_succ]), HR.out, HG.out⟩
          case measure => simp [intOf]; omega
    · obtain rfl : k = 4 := by omega
      have hH' : Blk wr (R + 1) (HC (endW s)) 30 := hH.copy (by rw [show 8 * 4 = 32 from rfl, show front (endW s) 32 = endW s from front_all _ (outs_length _)])
      have hsz : (Tryz.prog.info? 30).map (·.size) = some (HC (endW s)).size := by
        rw [HC_size, show (endW s).length = 32 from outs_length _]; kernel_rfl
      have hsz2 : (HC (List.replicate 32 0)).size = (HC (endW s)).size := by rw [HC_size, HC_size, show (endW s).length = 32 from outs_length _]; rfl
      have HX := Lib.hid hX; have HH := Lib.hid hH'; have HR := Lib.hid hRR; have HG := Lib.hid hG
      have S1 := Lib.hid hsz; have S2 := Lib.hid hsz2
      clear hX hH hH' hRR hG hsz hsz2
      go_wp2_with (first
        | (refine wpList_load_row rfl 30 _ rfl (R + 1) rfl 30 (HC (endW s)) (0, 0) _ HH.out Tryz.underlying30 rfl S1.out ?_)
        | (refine wpList_store_row rfl 30 _ _ rfl R (HC (endW s)) rfl rfl 30 (HC (List.replicate 32 0)) HR.out S1.out S2.out (HC_one _) ?_))
      exact bodyPost_ret (v := HV (endW s)) (results_cell_row rfl _ _ R _ _ (0, 0) _ rfl (HR.out.setRow _) Tryz.underlying30 rfl S1.out) rfl
        ⟨rfl, grown_setRow HG.out _ (.inl (by have := HRW.out; omega))⟩
end Go.Proofs.YtpemaphgmfaioaaGreat

/-
  The walks of sponge.Sum and sponge.Derive.
-/
namespace Go.Proofs.YtpemaphgmfaioaaGreat
set_option maxRecDepth 100000
open Go.RowKit

end Go.Proofs.YtpemaphgmfaioaaGreat

/-
  The walk of sponge.Derive.
-/
namespace Go.Proofs.YtpemaphgmfaioaaGreat
set_option maxRecDepth 100000
open Go.RowKit

/-- a string as bytes -/
def sb (s : ByteArray) : List UInt8 := s.data.toList

theorem sb_length (s : ByteArray) : (sb s).length = s.size := by simp [sb]
theorem wrap_len (n : Nat) : IntKind.u8.wrap (n : Int) = Bt (UInt8.ofNat n) := by
  rw [IntKind.wrap_u8]; unfold Bt; rw [UInt8.toNat_ofNat']; rfl

theorem below_bytes (w : World) (e : TypeId) (s : ByteArray) : Below w.heap.size w (Lib.bytesWorld w e s) :=
  ⟨rfl, rfl, rfl, by rw [Lib.bytesWorld_size]; omega, fun k hk => Lib.bytesWorld_at_old w e s k hk⟩
theorem Row8.ofBytes (w : World) (e : TypeId) (s : ByteArray) (hs : s.size ≤ maxLen) : Row8 (Lib.bytesWorld w e s) (some ⟨w.heap.size, 0, none⟩) s.size (sb s) := by
  refine ⟨(sb_length s).symm, by rw [sb_length]; exact hs, .inr ⟨w.heap.size, 0, rfl, fun i hi => ?_⟩⟩
  have h1 : i < s.size := by rw [sb_length] at hi; exact hi
  rw [Nat.zero_add, Lib.bytesWorld_cell w e s i h1]
  congr 2
  unfold Bt sb
  rw [List.getD_eq_getElem?_getD, List.getElem?_eq_getElem (by simpa [sb] using hi)]
  rfl

set_option maxRecDepth 100000 in
set_option maxHeartbeats 2000000 in
theorem derive_any (h : List UInt8) (hh : h.length = 32) (label : ByteArray) (hl : label.size ≤ maxLen) (a : Option Addr) (len cap : Nat) (L : List (List UInt8)) (w : World) (hp : RowR w a len L) :
    Calls Tryz.prog 30 #[HV h, .string label, .slice a len cap] w fun e w' => e = .returned (HV (deriveW h (sb label) L.flatten)) ∧ Below w.heap.size w w' := by
  have hlen := hp.len_eq
  have hsm := hp.small
  unfold maxLen at hsm hl
  subst hlen
  have HP := Lib.hid hp
  clear hp
  unfold HV
  go_enter Tryz.func30, Tryz.ntmps30
  go_wp2_with fail
  refine (begin_any _).mono ?_
  rintro e w1 ⟨rfl, b1⟩
  have hI1 := ((Blk.newAt (w := w) (g := w.heap.size) (HC h) 30 rfl).alloc (.cells (HC (List.replicate 32 0)) 30)).keep b1
  have hR1 := ((Blk.newAt (w := w.alloc (.cells (HC h) 30)) (g := w.heap.size + 1) (HC (List.replicate 32 0)) 30 (by simp))).keep b1
  have hB1 := (((Below.refl w.heap.size w).alloc (Nat.le_refl _) (.cells (HC h) 30)).alloc (by simp) (.cells (HC (List.replicate 32 0)) 30)).lift b1 (by simp; omega)
  have hs1 : w.heap.size + 2 ≤ w1.heap.size := by have := b1.size; rw [size_alloc, size_alloc] at this; exact this
  have HI1 := Lib.hid hI1; have HR1 := Lib.hid hR1; have HB1 := Lib.hid hB1
  clear hI1 hR1 hB1 b1
  go_wp2_with fail
  have hX2 := Blk.new w1 (C6 beginW) 120
  have hI2 := HI1.out.alloc (.cells (C6 beginW) 120)
  have hR2 := HR1.out.alloc (.cells (C6 beginW) 120)
  have hB2 := HB1.out.alloc (by omega) (.cells (C6 beginW) 120)
  have hz2 := size_alloc w1 (.cells (C6 beginW) 120)
  clear HI1 HR1 HB1
  generalize w1.alloc (.cells (C6 beginW) 120) = w2 at *
  generalize w1.heap.size = g at *
  refine (take_any g beginW (some ⟨w.heap.size, 0, none⟩) 32 32 h w2 hX2 (by decide) (Row8.ofBlk hI2 (by rw [hh]; decide) 32 hh.symm) (fun x hx _ => by injection hx with hx; subst hx; simp; omega)).mono ?_
  rintro e w3 ⟨rfl, hX3, hG3⟩
  have hR3 := hR2.grown hG3 (by omega)
  have hB3 := below_grown hB2 hG3 (by omega) (by omega)
  have hz3 := hG3.size
  have hwl := wrap_len label.size
  have HX3 := Lib.hid hX3; have HR3 := Lib.hid hR3; have HB3 := Lib.hid hB3; have HZ := Lib.hid hz2
  clear hX2 hI2 hR2 hB2 hX3 hR3 hB3 hG3 hz2
  go_wp2_with fail
  have hat3 := takes_at h beginW (by decide)
  have hX4 := HX3.out.alloc (.cells (HC [UInt8.ofNat label.size]) 5)
  have hI4 := Blk.new w3 (HC [UInt8.ofNat label.size]) 5
  have hR4 := HR3.out.alloc (.cells (HC [UInt8.ofNat label.size]) 5)
  have hB4 := HB3.out.alloc (by have := HZ.out; omega) (.cells (HC [UInt8.ofNat label.size]) 5)
  have hz4 := size_alloc w3 (.cells (HC [UInt8.ofNat label.size]) 5)
  have hg3 := HX3.out.lt
  clear HX3 HR3 HB3 HZ hwl
  change Calls _ _ _ (w3.alloc (.cells (HC [UInt8.ofNat label.size]) 5)) _
  generalize w3.alloc (.cells (HC [UInt8.ofNat label.size]) 5) = w4 at *
  generalize w3.heap.size = i4 at *
  refine (take_any g _ (some ⟨i4, 0, none⟩) 1 1 [UInt8.ofNat label.size] w4 hX4 hat3 (Row8.ofBlk hI4 (by simp [maxLen]) 1 rfl) (fun x hx _ => by injection hx with hx; subst hx; simp; omega)).mono ?_
  rintro e w5 ⟨rfl, hX5, hG5⟩
  have hat5 := takes_at [UInt8.ofNat label.size] _ hat3
  have hR5 := hR4.grown hG5 (by omega)
  have hB5 := below_grown hB4 hG5 (by omega) (by omega)
  have hz5 := hG5.size
  have HX5 := Lib.hid hX5; have HR5 := Lib.hid hR5; have HB5 := Lib.hid hB5; have HZ := Lib.hid hz4; have HA5 := Lib.hid hat5
  clear hX4 hI4 hR4 hB4 hX5 hR5 hB5 hG5 hz4 hat3 hat5
  have hcv := Lib.run_convert_string_bytes (P := Tryz.prog) w5 9 70 5 label Tryz.underlying9 Tryz.underlying70 Tryz.underlying5
  go_wp2_with fail
  have hb6 := below_bytes w5 5 label
  have hI6 := Row8.ofBytes w5 5 label (by unfold maxLen; exact hl)
  clear hcv
  generalize Lib.bytesWorld w5 5 label = w6 at *
  have hX6 := HX5.out.keep hb6
  have hR6 := HR5.out.keep hb6
  have hB6 := HB5.out.lift hb6 (by have := HZ.out; omega)
  have hg6 := HX5.out.lt
  have hz6 := hb6.size
  generalize grownCap w5 label.size 0 5 = cap6
  refine (take_any g _ (some ⟨w5.heap.size, 0, none⟩) label.size cap6 (sb label) w6 hX6 HA5.out hI6 (fun x hx _ => by injection hx with hx; subst hx; simp; omega)).mono ?_
  rintro e w7 ⟨rfl, hX7, hG7⟩
  have hat7 := takes_at (sb label) _ HA5.out
  have hR7 := hR6.grown hG7 (by omega)
  have hB7 := below_grown hB6 hG7 (by omega) (by have := HZ.out; omega)
  have hz7 := hG7.size
  have hfin : ∀ l, endW (takes (takes (takes (takes beginW h) [UInt8.ofNat label.size]) (sb label)) l) = deriveW h (sb label) l := by
    intro l
    unfold deriveW sumW
    rw [sb_length, ← takes_append, ← takes_append, ← takes_append]
    congr 2
    simp
  generalize takes (takes (takes beginW h) [UInt8.ofNat label.size]) (sb label) = s0 at *
  have hw7 : w.heap.size + 2 ≤ w7.heap.size := by have := HZ.out; omega
  have HX7 := Lib.hid hX7; have HR7 := Lib.hid hR7; have HB7 := Lib.hid hB7; have HA7 := Lib.hid hat7; have HF := Lib.hid hfin
  clear hX6 hR6 hB6 hI6 hb6 hX7 hR7 hB7 hG7 hat7 hfin HX5 HR5 HB5 HA5 hz3 hg3 hz5 hg6 hz6 hz7 HZ
  go_wp2_with fail
  go_loopw [9, 23] (fun _ i wr => ∃ k : Nat, k ≤ L.length ∧ i = .int .i64 k ∧ Blk wr g (C6 (takes s0 (L.take k).flatten)) 120 ∧ Blk wr (w.heap.size + 1) (HC (List.replicate 32 0)) 30 ∧ Below w.heap.size w wr) (fun _ i _ => L.length - (intOf i).toNat)
  case atStart => exact ⟨0, Nat.zero_le _, rfl, HX7.out, HR7.out, HB7.out⟩
  case round =>
    obtain ⟨k, hk, rfl, hX, hR, hB⟩ := hrel
    clear HX7 HR7 HB7
    have hat := takes_at (L.take k).flatten s0 HA7.out
    by_cases hlt : k < L.length
    · obtain ⟨b, off, rfl, a', l', c', hcell, hrow⟩ : ∃ b off, a = some ⟨b, off, none⟩ ∧ ∃ a' l' c', wr.cell? ⟨b, off + k, none⟩ = some (.slice a' l' c') ∧ Row8 w a' l' L[k] := by
        rcases HP.out.cells with h1 | ⟨b, off, rfl, hc⟩
        · simp [h1] at hlt
        · obtain ⟨a', l', c', h2, h3⟩ := hc k hlt
          exact ⟨b, off, rfl, a', l', c', (hB.cell (block_lt_of_cell h2)).trans h2, h3⟩
      have hlr := hrow.lt
      have hrow2 := hrow.below hB
      have HX := Lib.hid hX; have HR := Lib.hid hR; have HB := Lib.hid hB
      have HL := Lib.hid hlr; have HW := Lib.hid hrow2; have HA := Lib.hid hat
      clear hX hR hB hrow hlr hrow2 hat
      go_wp2_with fail
      refine (take_any g _ a' l' c' L[k] _ HX.out HA.out HW.out (fun x hx hn => by have := HL.out x hx hn; omega)).mono ?_
      rintro e w8 ⟨rfl, hX8, hG8⟩
      have hs8 : w.heap.size + 1 < wr.heap.size := HR.out.lt
      have hR8 := HR.out.grown hG8 (by omega)
      have hB8 := below_grown HB.out hG8 (by omega) (by omega)
      have HX8 := Lib.hid hX8; have HR8 := Lib.hid hR8; have HB8 := Lib.hid hB8
      clear hX8 hR8 hB8 hG8 HX HR HB HL HW HA
      go_wp2
      go_roundw
      case rel =>
        refine ⟨k + 1, by omega, by go_num, ?_, HR8.out, HB8.out⟩
        rw [List.take_succ_eq_append_getElem hlt, List.flatten_append, takes_append]
        simpa using HX8.out
      case measure => simp [intOf]; omega
    · have HX := Lib.hid hX; have HR := Lib.hid hR; have HB := Lib.hid hB; have HA := Lib.hid hat
      have hs8 : w.heap.size + 1 < wr.heap.size := hR.lt
      clear hX hR hB hat
      go_wp2_with fail
      refine (end_any g _ _ HX.out HA.out).mono ?_
      rintro e w8 ⟨rfl, hG8⟩
      have hR8 := HR.out.grown hG8 (by omega)
      have hB8 := below_grown HB.out hG8 (by omega) (by omega)
      rw [List.take_of_length_le (by omega), HF.out]
      have hlen : (deriveW h (sb label) L.flatten).length = 32 := sumW_length _
      have hsz : (Tryz.prog.info? 30).map (·.size) = some (HC (deriveW h (sb label) L.flatten)).size := by
        rw [HC_size, hlen]; kernel_rfl
      have hsz2 : (HC (List.replicate 32 0)).size = (HC (deriveW h (sb label) L.flatten)).size := by rw [HC_size, HC_size, hlen]; rfl
      generalize hout : deriveW h (sb label) L.flatten = out at *
      have HO := Lib.hid hout; clear hout
      have HR8 := Lib.hid hR8; have HB8 := Lib.hid hB8; have S1 := Lib.hid hsz; have S2 := Lib.hid hsz2
      clear hR8 hB8 hG8 hsz hsz2 hlen HX HR HB HA
      go_wp2_with (refine wpList_store_row rfl 30 _ _ rfl (w.heap.size + 1) (HC out) rfl rfl 30 (HC (List.replicate 32 0)) HR8.out S1.out S2.out (HC_one _) ?_)
      exact bodyPost_ret (v := HV out) (results_cell_row rfl _ _ (w.heap.size + 1) _ _ (0, 0) _ rfl (HR8.out.setRow _) Tryz.underlying30 rfl S1.out) rfl
        ⟨by rw [HO.out]; rfl, below_setRow HB8.out _ (by omega)⟩

theorem derive_zero (s : ByteArray) (hs : s.size ≤ maxLen) (a : Option Addr) (len cap : Nat) (L : List (List UInt8)) (w : World) (hp : RowR w a len L) :
    Calls Tryz.prog 30 #[.agg zeros32, .string s, .slice a len cap] w fun e w' => e = .returned (HV (deriveW (List.replicate 32 0) (sb s) L.flatten)) ∧ Below w.heap.size w w' := by
  rw [zeros32_HC]
  exact derive_any (List.replicate 32 0) rfl s hs a len cap L w hp
end Go.Proofs.YtpemaphgmfaioaaGreat
