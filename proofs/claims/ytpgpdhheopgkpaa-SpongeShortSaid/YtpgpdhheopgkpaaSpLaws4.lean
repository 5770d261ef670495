/-
  More walks of the laws over package sponge.
-/
import Derived.Test.YtpgpdhheopgkpaaSpLaws3
namespace Go.Proofs.Ytpgpdhheopgkpaa
open Go.RowKit
set_option linter.unusedVariables false
set_option linter.unusedSimpArgs false
attribute [local go_sem] eqh_guard eqw

theorem made8 (n : Nat) : (madeCells (Value.int .u8 0).cells (n * 1)).toList = HL (List.replicate n 0) := by
  refine List.ext_getElem? fun i => ?_
  simp [madeCells, HL, Value.cells, List.getElem?_replicate]
  by_cases h : i < n
  · simp [h, Bt, Nat.mod_one]
  · simp [h]
theorem blk_of_own {w : World} {base g n : Nat} {e : TypeId} {bs : List UInt8} (h : w.ownsRow base e 1 (.slice (some ⟨g, 0, none⟩) n n) n (HL bs)) : Blk w g (HC bs) e := by
  rcases h.2 with ⟨h1, _⟩ | ⟨g', cap, cur, h1, _, h2, h3, _, h4, h5⟩
  · cases h1
  · injection h1 with h1 _ h6
    injection h1 with h1
    injection h1 with h1
    subst h1; subst h6
    have : cur = HC bs := by
      apply Array.toList_inj.1
      rw [HC_toList, ← h5, List.take_of_length_le (by simp [h4])]
    rw [← this]; exact h2
theorem mod8B (x : Int) : x % 256 = Bt (UInt8.ofNat (x % 256).toNat) := by
  unfold Bt
  rw [UInt8.toNat_ofNat']
  omega

set_option maxRecDepth 100000 in
set_option maxHeartbeats 2000000 in
theorem spongeEnds_walk {w : World} (n : Int) (wn : (Lit.int .i64 n).wf = true) (b : Int) (wb : (Lit.int .u8 b).wf = true) :
    Calls Try.prog 10 #[.int .i64 n, .int .u8 b] w fun e w' => e = .returned (.bool true) ∧ Below w.heap.size w w' := by
  clear wn wb
  obtain ⟨i8, hi8, hz8, hs8, hb8⟩ := info_parts info8
  by_cases h1 : n < 0
  · go_enter Try.func10, Try.ntmps10
    go_wp2
    go_ret
    exact ⟨rfl, Below.refl _ _⟩
  by_cases h2 : n > 100
  · go_enter Try.func10, Try.ntmps10
    go_wp2
    go_ret
    exact ⟨rfl, Below.refl _ _⟩
  obtain ⟨N, rfl⟩ := Int.eq_ofNat_of_zero_le (Int.not_lt.1 h1)
  go_enter Try.func10, Try.ntmps10
  go_wp2
  go_loopw [5, 6, 7] (fun k _ _ wr => ∃ K : Nat, K ≤ 8 * N + 8 ∧ k = .int .i64 K ∧ Below w.heap.size w wr) (fun k _ _ _ => 8 * N + 8 - (intOf k).toNat)
  case atStart => exact ⟨8 * N, by omega, by go_num, Below.refl _ _⟩
  case round =>
    obtain ⟨K, hK, rfl, hB⟩ := hrel
    by_cases hlt : K < 8 * N + 8
    · have HB := Lib.hid hB
      clear hB
      go_wp2_with (at_make
                   refine wpList_make_full _ rfl _ _ 27 rfl wr.heap.size 5 i8 (.int .u8 0) 1 Try.underlying27 hi8 hz8 hs8 _ _ _ _ K rfl rfl rfl rfl ?m1 ?m2 (Nat.le_refl _) ?_
                   case m1 => rw [hb8]; omega
                   case m2 => simp only [maxLen]; omega
                   intro w1 hown hg1
                   rw [made8] at hown
                   have hX1 : Blk w1 wr.heap.size (HC (List.replicate K 0)) 5 := blk_of_own hown
                   have hB1 : Below w.heap.size w w1 := HB.out.grown hg1 HB.out.size (fun k hk => by cases hk)
                   have HX1 := Lib.hid hX1; have HB1 := Lib.hid hB1
                   clear hown hg1 hX1 hB1)
      have hP : w.heap.size ≤ wr.heap.size := HB.out.size
      generalize wr.heap.size = P at *
      go_loopw [7] (fun i wq => ∃ (I : Nat) (l : List UInt8), I ≤ K ∧ i = .int .i64 I ∧ l.length = K ∧ Blk wq P (HC l) 5 ∧ Below w.heap.size w wq) (fun i _ => K - (intOf i).toNat)
      case atStart => exact ⟨0, List.replicate K 0, by omega, rfl, by simp, HX1.out, HB1.out⟩
      case round =>
        obtain ⟨I, bs, hI, rfl, hl, hX, hBq⟩ := hrel
        by_cases hi : I < K
        · obtain ⟨cv, hc⟩ : ∃ v, wr.cell? ⟨P, I, none⟩ = some (Value.int .u8 v) := ⟨_, (hX.cell I).trans (HC_get_lt bs I (by omega))⟩
          have hf := hX.frozen I
          have HX := Lib.hid hX; have HBq := Lib.hid hBq; have HLn := Lib.hid hl
          clear hX hBq hl HX1 HB1
          go_wp2
          go_roundw
          case rel =>
            refine ⟨I + 1, _, by omega, by go_num, ?_, (HX.out.set I _).copy (by rw [mod8B]; exact HC_set _ _ _), HBq.out.setCell (by simp; omega) _⟩
            rw [List.length_set]; exact HLn.out
          case measure => simp [intOf]; omega
        · obtain rfl : I = K := by omega
          obtain ⟨d, hd⟩ : ∃ d, sumW bs = d := ⟨_, rfl⟩
          have hdl : d.length = 32 := by rw [← hd]; exact sumW_length _
          have hfl : [bs].flatten = bs := by simp
          have kE := fun w1 => neh w1 d d hdl hdl
          simp only [beq_self_eq_true] at kE
          have hr : Row8 wr (some ⟨P, 0, none⟩) I bs := Row8.ofBlk hX (by simp only [maxLen]; omega) I hl.symm
          have hbl : bs.length ≤ 140737488355000 := by omega
          have HR := Lib.hid hr; have HD := Lib.hid hd; have HF := Lib.hid hfl; have HBq := Lib.hid hBq; have HBL := Lib.hid hbl
          clear hX hBq hr hd hdl hfl hbl HX1 HB1 hl
          go_wp2_with (first
            | (go_at_call 15; refine (sum_any _ 1 1 [bs] _ (RowR.one HR.out)).mono ?_; rintro e w2 ⟨rfl, hb2⟩; rw [HF.out, HD.out])
            | (go_at_call 16; refine (rsum_any _ I I bs _ ((HR.out.below ((Below.refl _ _).next (Nat.le_refl _) _)).below hb2) (fun e => by cases e) HBL.out).mono ?_; rintro e w3 ⟨rfl, hb3⟩; rw [HD.out]))
          go_roundw
          case rel => exact ⟨I + 1, by omega, by go_num, ((HBq.out.next (Nat.le_refl _) _).later hb2 (Nat.le_refl _)).later hb3 (Nat.le_refl _)⟩
          case measure => simp [intOf]; omega
    · have HB := Lib.hid hB
      clear hB
      go_wp2_with (go_at_call 14; refine (known_any _).mono ?_; rintro e w5 ⟨rfl, hb5⟩)
      go_ret
      exact ⟨rfl, HB.out.later hb5 (Nat.le_refl _)⟩
end Go.Proofs.Ytpgpdhheopgkpaa
