/-
  The law RowsOwn, walked.
-/
import Derived.Test.YtgghkeinkcpboaaRowsBack
import Derived.Test.YtgghkeinkcpboaaOwnSet
namespace Go.Proofs.Ytgghkeinkcpboaa
set_option maxRecDepth 100000
open Go.RowKit
set_option linter.unusedVariables false
set_option linter.unusedSimpArgs false

theorem Bt_xor255 (a : UInt8) : bits .xor .u8 (Bt a) 255 = Bt (a ^^^ 255) := by
  show IntKind.u8.wrap ((BitVec.ofInt 8 (a.toNat : Int) ^^^ BitVec.ofInt 8 (255 : Int)).toNat : Int) = _
  have e : (BitVec.ofInt 8 (255 : Int)).toNat = 255 := by decide
  rw [BitVec.ofInt_natCast, BitVec.toNat_xor, BitVec.toNat_ofNat, e]
  unfold Bt
  rw [UInt8.toNat_xor, IntKind.wrap_u8]
  have ha := UInt8.toNat_lt a
  have hx : a.toNat ^^^ (255 : UInt8).toNat < 2 ^ 8 := Nat.xor_lt_two_pow (by omega) (by decide)
  rw [Nat.mod_eq_of_lt (by omega), show (255 : UInt8).toNat = 255 from rfl] at *
  omega
set_option maxRecDepth 100000 in
set_option maxHeartbeats 4000000 in
theorem rowsOwn_walk {w : World} (a : Option Addr) (l c : Nat) (L : List (List UInt8)) (hp : ArgR w a l c L) :
    Calls Try.prog 9 #[.slice a l c] w fun e w' => e = .returned (.bool true) ∧ Below w.heap.size w w' := by
  have hl := hp.len_eq
  subst hl
  have HP := Lib.hid hp
  clear hp
  by_cases h60 : (L.length : Int) > 60
  · go_enter Try.func9, Try.ntmps9
    go_wp2_with fail
    refine (long_any a L.length c L _ HP.out).mono ?_
    rintro e w' ⟨z, rfl, rfl⟩
    cases z with
    | true =>
      go_wp2
      go_ret
      exact ⟨rfl, Below.refl _ _⟩
    | false =>
      go_wp2
      go_ret
      exact ⟨rfl, Below.refl _ _⟩
  have hL60 : L.length ≤ 60 := by omega
  have HLS := Lib.hid hL60
  clear hL60
  go_enter Try.func9, Try.ntmps9
  go_wp2_with fail
  refine (long_any a L.length c L _ HP.out).mono ?_
  rintro e w' ⟨z, rfl, rfl⟩
  cases z with
  | true =>
    go_wp2
    go_ret
    exact ⟨rfl, Below.refl _ _⟩
  | false =>
    go_wp2_with fail
    refine (pack_any a L.length c L _ HP.out).mono ?_
    rintro e w1 ⟨hok, hno, hb1⟩
    have HB1 : Hid (Below w.heap.size w w1) := Lib.hid hb1
    rcases hk : okRows L with _ | _
    · obtain rfl := hno hk
      clear hok hno hb1 hk
      go_wp2_with (go_at_call 14; refine (known_rows _).mono ?_; rintro e w9 ⟨rfl, hb9⟩)
      go_ret
      exact ⟨rfl, HB1.out.later hb9 (Nat.le_refl _)⟩
    · obtain ⟨v, rfl, hown⟩ := hok hk
      obtain ⟨M, hM⟩ : ∃ M, packW L = M := ⟨_, rfl⟩
      have hun := unpack_whole hk
      have hlen := packW_len hk
      have hpos := packW_pos L
      rw [hM] at hun hlen hpos hown
      obtain ⟨N, hN⟩ : ∃ N, M.length = N := ⟨_, rfl⟩
      obtain ⟨gb, cb, rfl, hgb, hgl, hLb, hcm⟩ := hown.hasN N hN.symm (by omega)
      have hrc : RowC w1 (some ⟨gb, 0, none⟩) N cb M := ⟨hown.row (by simp only [maxLen]; omega) hN.symm, fun e => by cases e⟩
      rw [hN] at hlen hpos
      have HU1 := Lib.hid (unpack_some hun); have HN := Lib.hid hN; have HLEN := Lib.hid (show N ≤ 200000 by omega); have HLB := Lib.hid hLb; have HM1 := Lib.hid hrc; have HGB := Lib.hid hgb; have HGL := Lib.hid hgl; have HOW := Lib.hid hown
      clear hok hno hb1 hk hM hun hlen hpos hown hN hgb hgl hLb hcm hrc
      go_wp2_with fail
      refine (unpack_any (some ⟨gb, 0, none⟩) N cb M _ HM1.out HLB.out (by rw [HN.out]; exact HLEN.out)).mono ?_
      rintro e w2 ⟨vR, rfl, hO, hb2⟩
      rw [HU1.out.1]
      rw [HU1.out.2] at hO
      have HR := Lib.hid hO; have HB2 := Lib.hid (HB1.out.later hb2 (Nat.le_refl _)); have HOW2 := Lib.hid (HOW.out.below hb2)
      clear hO hb2 HB1 HM1 HOW
      go_wp2
      go_loopw [7] (fun i wr => ∃ (k : Nat) (bs : List UInt8), k ≤ N ∧ i = .int .i64 k ∧ bs.length = N ∧ Own8 wr w.heap.size 5 (.slice (some ⟨gb, 0, none⟩) N cb) bs ∧ OwnR wr w1.heap.size 24 vR L ∧ Below w.heap.size w wr) (fun i _ => N - (intOf i).toNat)
      case atStart => exact ⟨0, M, Nat.zero_le _, rfl, HN.out, HOW2.out, HR.out, HB2.out⟩
      case round =>
        obtain ⟨k, bs, hk, rfl, hbl, hO, hR, hB⟩ := hrel
        by_cases hlt : k < N
        · obtain ⟨m, hm⟩ : ∃ m, bs[k]'(by omega) = m := ⟨_, rfl⟩
          have cQ : wr.cell? ⟨gb, k, none⟩ = some (.int .u8 (Bt m)) := by
            have h := World.ownsRow.cells hO (g := gb) rfl k (.int .u8 (Bt m)) (by rw [HL_get, List.getElem?_eq_getElem (by omega), hm]; rfl)
            have hadd : (⟨gb, 0, none⟩ : Addr).add k = ⟨gb, k, none⟩ := by unfold Addr.add; split <;> simp_all
            rwa [hadd] at h
          have fQ : wr.frozen? ⟨gb, k, none⟩ = false := by obtain ⟨cur, hc⟩ := hO.ofBlkAny; exact hc.frozen k
          have hx : bits .xor .u8 (Bt m) 255 = Bt (m ^^^ 255) := Bt_xor255 m
          have ki : (k : Int) < (N : Int) := by omega
          have hNb : N ≤ 200000 := HLEN.out
          have k0 : ¬ (k : Int) < 0 := by omega
          have HO := Lib.hid hO; have HRR := Lib.hid hR; have HB := Lib.hid hB; have HBL := Lib.hid hbl; have HKN : Hid (k + 1 ≤ N) := Lib.hid hlt
          clear hO hR hB hm
          go_wp2
          go_roundw
          case rel =>
            refine ⟨k + 1, bs.set k (m ^^^ 255), HKN.out, by have := HLEN.out; go_num, by rw [List.length_set]; exact HBL.out, HO.out.set HBL.out.symm _, HRR.out.grown (grown_setCell (grown_refl _ _) k _) HGL.out, HB.out.setCell HGB.out _⟩
          case measure => have := HKN.out; simp [intOf]; omega
        · have hkN : k = N := by omega
          subst hkN
          obtain ⟨aR, cR, hve, hnR, _, _⟩ := hR.toN (by have := HLS.out; omega)
          have HNR := Lib.hid hnR; have HB := Lib.hid hB; have HPN := Lib.hid (HP.out.below hB).toN
          subst hve
          clear hO hR hB hnR
          go_wp2_with (first
            | (go_at_call 17; refine (same_any _ _ _ _ _ _ L L _ HNR.out HPN.out).mono ?_; rintro e w8 ⟨rfl, hb8⟩; rw [decide_eq_true rfl])
            | (go_at_call 14; refine (known_rows _).mono ?_; rintro e w9 ⟨rfl, hb9⟩))
          go_ret
          exact ⟨rfl, (HB.out.later hb8 (Nat.le_refl _)).later hb9 (Nat.le_refl _)⟩
end Go.Proofs.Ytgghkeinkcpboaa
