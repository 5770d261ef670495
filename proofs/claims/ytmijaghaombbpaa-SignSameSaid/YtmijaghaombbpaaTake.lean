/-
  The walk of the sponge's state: take.
-/
import Derived.Test.YtmijaghaombbpaaTurnT
import Derived.Test.YtmijaghaombbpaaSpWords
namespace Go.Proofs.Ytmijaghaombbpaa
set_option maxRecDepth 100000
open Go.RowKit

theorem shift_facts (k : Nat) (h : k ≤ 7) : IntKind.i64.wrap (8 * (k : Int)) = 8 * (k : Int) ∧ IntKind.i64.wrap (56 - 8 * (k : Int)) = 56 - 8 * (k : Int) ∧ 0 ≤ 56 - 8 * (k : Int) ∧ (56 - 8 * (k : Int)).toNat = 56 - 8 * k ∧ 56 - 8 * k ≤ 64 :=
  ⟨IntWalk.i64_in _ (by omega), IntWalk.i64_in _ (by omega), by omega, by omega, by omega⟩

attribute [local go_sem] shl_w8 U_xor

set_option maxHeartbeats 2000000 in
theorem take_any (g : Nat) (s : Sp) (a : Option Addr) (len cap : Nat) (bs : List UInt8) (w : World) (hs : Blk w g (C6 s) 74) (hat : s.at_ ≤ 7) (hp : Row8 w a len bs)
    (hne : ∀ x : Addr, a = some x → bs ≠ [] → x.block ≠ g) :
    Calls Try.prog 40 #[.pointer (some ⟨g, 0, none⟩), .slice a len cap] w fun e w' => e = .returned (.tuple #[]) ∧ Blk w' g (C6 (takes s bs)) 74 ∧ w.grownBy w' (some g) := by
  have hlen := hp.len_eq
  have hsm := hp.small
  unfold maxLen at hsm
  subst hlen
  have HP := Lib.hid hp
  have HS := Lib.hid hs
  have HN := Lib.hid hne
  clear hp hs hne
  go_enter Try.func40, Try.ntmps40
  go_wp2
  go_loopw [5, 8] (fun _ i wr => ∃ k : Nat, k ≤ bs.length ∧ i = .int .i64 k ∧ Blk wr g (C6 (takes s (bs.take k))) 74 ∧ w.grownBy wr (some g)) (fun _ i _ => bs.length - (intOf i).toNat)
  case atStart => exact ⟨0, Nat.zero_le _, rfl, HS.out, grown_refl _ _⟩
  case round =>
    obtain ⟨k, hk, rfl, hX, hG⟩ := hrel
    have hat2 := takes_at (bs.take k) s hat
    generalize hy : takes s (bs.take k) = y at hX hat2
    have HY := Lib.hid hy; clear hy
    by_cases hlt : k < bs.length
    · obtain ⟨b, off, rfl, hcell⟩ : ∃ b off, a = some ⟨b, off, none⟩ ∧ wr.cell? ⟨b, off + k, none⟩ = some (.int .u8 (Bt bs[k])) := by
        rcases HP.out.cells with h1 | ⟨b, off, rfl, hc⟩
        · simp [h1] at hlt
        · exact ⟨b, off, rfl, hG.cell (hc k hlt) (fun e => HN.out _ rfl (by intro h1; simp [h1] at hlt) (by injection e))⟩
      generalize hc : bs[k] = c at hcell
      have HC0 := Lib.hid hc; clear hc
      obtain ⟨c0, c1, c2, c3, c4, c5⟩ := hX.six
      have f := hX.frozen
      obtain ⟨s1, s2, s3, s4, s5⟩ := shift_facts y.at_ hat2
      have HX := Lib.hid hX; have HG := Lib.hid hG
      clear hX hG
      have hw8 : IntKind.u64.wrap (Bt c) = Bt c := IntWalk.u64_in _ (by have := Bt_bd c; omega)
      go_wp2_with fail
      refine region_tail 18 (by kernel_rfl) (by kernel_rfl) ?_
      simp only [List.take_succ_cons, List.take_zero, List.drop_succ_cons, List.drop_zero]
      repeat still_step
      refine wpStill_nil ?_
      by_cases h7 : y.at_ = 7
      · have h7' : ((y.at_ : Int) + 1 == 8) = true := by rw [h7]; rfl
        clear h7
        go_wp2_with fail
        refine (turn_any { y.x with a := y.x.a ^^^ (w8 c <<< (56 - 8 * y.at_)) } _).mono ?_
        rintro e w1 ⟨rfl, b1⟩
        have g0 := ((HX.out.set 0 (.int .u64 (U (y.x.a ^^^ w8 c <<< (56 - 8 * y.at_))))).set 5 (.int .i64 ((y.at_ : Int) + 1))).drew
        have gg := grown_drew (grown_setCell (grown_setCell HG.out 0 (.int .u64 (U (y.x.a ^^^ w8 c <<< (56 - 8 * y.at_))))) 5 (.int .i64 ((y.at_ : Int) + 1)))
        have g1 := g0.keep b1
        have gg1 := grown_below gg b1
        have hyt : takeB y c = ⟨turnW { y.x with a := y.x.a ^^^ (w8 c <<< (56 - 8 * y.at_)) }, 0⟩ := by unfold takeB; rw [if_pos (by simp at h7'; omega)]
        generalize turnW { y.x with a := y.x.a ^^^ (w8 c <<< (56 - 8 * y.at_)) } = z at hyt
        have HYT := Lib.hid hyt
        have f1 := g1.frozen
        have d0 := g1.cell 0
        have d1 := g1.cell 1
        have d2 := g1.cell 2
        have d3 := g1.cell 3
        have d4 := g1.cell 4
        have d5 := g1.cell 5
        simp at d0 d1 d2 d3 d4 d5
        have G1 := Lib.hid g1; have GG1 := Lib.hid gg1
        clear g0 gg g1 gg1 b1 hyt c0 c1 c2 c3 c4 c5 f HX HG s1 s2 s3 s4 s5 hw8 hcell h7'
        go_wp2
        go_roundw
        case rel =>
          refine ⟨k + 1, by omega, by go_num, ?_, ?_⟩
          · rw [List.take_succ_eq_append_getElem hlt, takes_snoc, HY.out, HC0.out, HYT.out]
            exact ((((((G1.out.set 0 _).set 1 _).set 2 _).set 3 _).set 4 _).set 5 _).copy (by simp)
          · exact grown_setCell (grown_setCell (grown_setCell (grown_setCell (grown_setCell (grown_setCell GG1.out _ _) _ _) _ _) _ _) _ _) _ _
        case measure => simp [intOf]; omega
      · have h7' : ((y.at_ : Int) + 1 == 8) = false := by rw [beq_eq_false_iff_ne]; omega
        have hyt : takeB y c = ⟨{ y.x with a := y.x.a ^^^ (w8 c <<< (56 - 8 * y.at_)) }, y.at_ + 1⟩ := by unfold takeB; rw [if_neg h7]
        have HYT := Lib.hid hyt
        clear h7 hyt
        go_wp2
        go_roundw
        case rel =>
          refine ⟨k + 1, by omega, by go_num, ?_, ?_⟩
          · rw [List.take_succ_eq_append_getElem hlt, takes_snoc, HY.out, HC0.out, HYT.out]
            exact ((HX.out.set 0 _).set 5 _).drew.copy (by simp)
          · exact grown_drew (grown_setCell (grown_setCell HG.out _ _) _ _)
        case measure => simp [intOf]; omega
    · have HX := Lib.hid hX; have HG := Lib.hid hG
      clear hX hG
      go_wp2
      go_end0
      refine ⟨rfl, ?_, HG.out⟩
      rw [← List.take_of_length_le (i := k) (l := bs) (by omega), HY.out]
      exact HX.out
end Go.Proofs.Ytmijaghaombbpaa
