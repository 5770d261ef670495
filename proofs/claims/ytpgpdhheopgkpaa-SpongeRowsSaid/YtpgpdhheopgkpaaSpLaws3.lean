/-
  More walks of the laws over package sponge.
-/
import Derived.Test.YtpgpdhheopgkpaaSpLaws2
namespace Go.Proofs.Ytpgpdhheopgkpaa
open Go.RowKit
set_option linter.unusedVariables false
set_option linter.unusedSimpArgs false
attribute [local go_sem] eqh_guard eqw

theorem derive_zero (s : ByteArray) (hs : s.size ≤ maxLen) (a : Option Addr) (len cap : Nat) (L : List (List UInt8)) (w : World) (hp : RowR w a len L) :
    Calls Try.prog 17 #[.agg zeros32, .string s, .slice a len cap] w fun e w' => e = .returned (HV (deriveW (List.replicate 32 0) (sb s) L.flatten)) ∧ Below w.heap.size w w' := by
  rw [zeros32_HC]
  exact derive_any (List.replicate 32 0) rfl s hs a len cap L w hp

set_option maxRecDepth 100000 in
set_option maxHeartbeats 2000000 in
theorem spongeRows_walk {w : World} (a : Option Addr) (len cap : Nat) (L : List (List UInt8)) (hp : ArgR w a len cap L) :
    Calls Try.prog 6 #[.slice a len cap] w fun e w' => e = .returned (.bool true) ∧ Below w.heap.size w w' := by
  have hlen := hp.len_eq
  have hsm : L.length ≤ 140737488351232 := by have h1 := hp.le; have h2 := hp.small; omega
  subst hlen
  have HP := Lib.hid hp
  clear hp
  go_enter Try.func6, Try.ntmps6
  go_wp2
  go_loopw [3, 4] (fun b i wr => ∃ k : Nat, k ≤ L.length ∧ i = .int .i64 k ∧ (L.take k).flatten.length ≤ 1500 ∧ Own8 wr w.heap.size 5 b (L.take k).flatten ∧ Below w.heap.size w wr) (fun _ i _ => L.length - (intOf i).toNat)
  case atStart => exact ⟨0, Nat.zero_le _, rfl, by simp, World.ownsRow_nil _ _ _ _, Below.refl _ _⟩
  case round =>
    obtain ⟨k, hk, rfl, hle, hO, hB⟩ := hrel
    by_cases hlt : k < L.length
    · obtain ⟨b, off, rfl, a', l', c', hcell, hrow⟩ : ∃ b off, a = some ⟨b, off, none⟩ ∧ ∃ a' l' c', wr.cell? ⟨b, off + k, none⟩ = some (.slice a' l' c') ∧ Arg8 w a' l' c' L[k] := by
        rcases HP.out.cells with h1 | ⟨b, off, rfl, hc⟩
        · simp [h1] at hlt
        · obtain ⟨a', l', c', h2, h3⟩ := hc k hlt
          exact ⟨b, off, rfl, a', l', c', (hB.cell (block_lt_of_cell h2)).trans h2, h3⟩
      have hrow2 := hrow.row.below hB
      have hl' : l' = L[k].length := hrow.row.len_eq
      have hsm' : l' ≤ 140737488351232 := by have h1 := hrow.le; have h2 := hrow.small; omega
      obtain ⟨a3, c3, rfl, hr3, hn3⟩ := hO.forms (by simp only [maxLen]; omega)
      generalize hm : (L.take k).flatten.length = m at *
      have HM := Lib.hid hm; have HLL := Lib.hid hl'; have HR3 := Lib.hid hr3; have HN3 := Lib.hid hn3
      have HO := Lib.hid hO; have HB := Lib.hid hB; have HW := Lib.hid hrow2; have HN := Lib.hid hrow.nil
      clear hm hl' hO hB hrow hrow2 hr3 hn3
      by_cases h1 : ((k : Int) > 200)
      · go_wp2
        go_ret
        exact ⟨rfl, HB.out⟩
      by_cases h2 : ((m : Int) + l' > 1500)
      · go_wp2
        go_ret
        exact ⟨rfl, HB.out⟩
      have hadd : (L.take k).flatten.length + L[k].length ≤ 140737488355328 := by rw [HM.out, ← HLL.out]; omega
      have hnext : (L.take (k + 1)).flatten.length ≤ 1500 := by rw [take_flat L k hlt, List.length_append, HM.out, ← HLL.out]; omega
      have HADD := Lib.hid hadd; have HNX := Lib.hid hnext
      clear hadd hnext
      go_wp2_with (at_builtin
                   refine wpList_append8 rfl (.tmp 24) (.tmp 28) 27 rfl w.heap.size 5 Try.underlying27 info8 _ (L.take k).flatten rfl HO.out _ _ _ L[k] rfl HW.out HN.out HADD.out HB.out.size ?_
                   intro v3 w3 hown3 hg3 hb3
                   have HO3 := Lib.hid hown3; have HB3 := Lib.hid hb3
                   clear hown3 hg3 hb3)
      go_roundw
      case rel =>
        refine ⟨k + 1, by omega, by go_num, HNX.out, ?_, HB.out.trans HB3.out⟩
        rw [take_flat L k hlt]; exact HO3.out
      case measure => simp [intOf]; omega
    · rw [List.take_of_length_le (by omega)] at hO hle
      obtain ⟨a3, c3, rfl, hr3, hn3⟩ := hO.forms (by simp only [maxLen]; omega)
      obtain ⟨d, hd⟩ : ∃ d, sumW L.flatten = d := ⟨_, rfl⟩
      obtain ⟨u, hu⟩ : ∃ u, deriveW (List.replicate 32 0) (sb ⟨#[120]⟩) L.flatten = u := ⟨_, rfl⟩
      have hfl : [L.flatten].flatten = L.flatten := by simp
      have kE1 := fun w1 => eqh w1 d d (by rw [← hd]; exact sumW_length _) (by rw [← hd]; exact sumW_length _)
      have kE2 := fun w1 => eqh w1 u u (by rw [← hu]; exact sumW_length _) (by rw [← hu]; exact sumW_length _)
      simp only [beq_self_eq_true] at kE1 kE2
      generalize hm : L.flatten.length = m at *
      have HD := Lib.hid hd; have HU := Lib.hid hu; have HF := Lib.hid hfl; have HR3 := Lib.hid hr3
      have HO := Lib.hid hO; have HB := Lib.hid hB; have HM := Lib.hid hm
      clear hd hu hfl hr3 hO hB hm hn3
      go_wp2_with fail
      refine (sum_any _ L.length cap L _ (HP.out.row.below HB.out)).mono ?_
      rintro e w1 ⟨rfl, hb1⟩
      rw [HD.out]
      have hB1 := HB.out.later hb1 (Nat.le_refl _)
      have hR1 := HR3.out.below hb1
      have HB1 := Lib.hid hB1; have HR1 := Lib.hid hR1
      clear hb1 hB1 hR1 HB HR3 HO
      go_wp2_with fail
      refine (sum_any _ 1 1 [L.flatten] _ (RowR.one HR1.out)).mono ?_
      rintro e w2 ⟨rfl, hb2⟩
      rw [HF.out, HD.out]
      have hB2 := (HB1.out.next (Nat.le_refl _) _).later hb2 (Nat.le_refl _)
      have hR2 := (HR1.out.below ((Below.refl _ _).next (Nat.le_refl _) _)).below hb2
      have HB2 := Lib.hid hB2; have HR2 := Lib.hid hR2
      clear hb2 hB2 hR2 HB1 HR1
      go_wp2_with fail
      refine (derive_zero ⟨#[120]⟩ (by decide) _ L.length cap L _ (HP.out.row.below HB2.out)).mono ?_
      rintro e w3 ⟨rfl, hb3⟩
      rw [HU.out]
      have hB3 := HB2.out.later hb3 (Nat.le_refl _)
      have hR3 := HR2.out.below hb3
      have HB3 := Lib.hid hB3; have HR3 := Lib.hid hR3
      clear hb3 hB3 hR3 HB2 HR2
      go_wp2_with fail
      refine (derive_zero ⟨#[120]⟩ (by decide) _ 1 1 [L.flatten] _ (RowR.one HR3.out)).mono ?_
      rintro e w4 ⟨rfl, hb4⟩
      rw [HF.out, HU.out]
      have hB4 := (HB3.out.next (Nat.le_refl _) _).later hb4 (Nat.le_refl _)
      have HB4 := Lib.hid hB4
      clear hb4 hB4 HB3 HR3
      go_wp2_with (go_at_call 14; refine (known_any _).mono ?_; rintro e w5 ⟨rfl, hb5⟩)
      go_ret
      exact ⟨rfl, HB4.out.later hb5 (Nat.le_refl _)⟩
end Go.Proofs.Ytpgpdhheopgkpaa
