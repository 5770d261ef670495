/-
  Eight bytes as a number: the walks of ToNum, the program's and the document's.
-/
import Derived.Test.YtgghkeinkcpboaaRowLaws
namespace Go.Proofs.Ytgghkeinkcpboaa
set_option maxRecDepth 100000
open Go.RowKit
set_option linter.unusedVariables false
set_option linter.unusedSimpArgs false

set_option maxHeartbeats 2000000 in
theorem tonum_any (a : Option Addr) (l c : Nat) (b : List UInt8) (w : World) (hp : Row8 w a l b) :
    Calls Try.prog 18 #[.slice a l c] w fun e w' => e = .returned (.tuple #[.int .i64 (numT b), .bool (isNum b)]) ∧ w = w' := by
  have hlen := hp.len_eq
  subst hlen
  by_cases h8 : ¬ b.length = 8
  · have hn : isNum b = false := by unfold isNum; simp [h8]
    have ht : numT b = 0 := by unfold numT; rw [hn]; rfl
    rw [hn, ht]
    have hne : ((b.length : Int) != 8) = true := by simp; omega
    clear hp
    go_enter Try.func18, Try.ntmps18
    go_wp2
    refine bodyPost_ret (results_tmp2 rfl _ _ _) rfl ?_
    exact ⟨rfl, rfl⟩
  have h8 : b.length = 8 := Decidable.not_not.1 h8
  obtain ⟨g, off, rfl, hc⟩ : ∃ g off, a = some ⟨g, off, none⟩ ∧ ∀ (i : Nat) (h : i < b.length), w.cell? ⟨g, off + i, none⟩ = some (.int .u8 (Bt b[i])) := by
    rcases hp.cells with h1 | h1
    · rw [h1] at h8; cases h8
    · exact h1
  clear hp
  obtain ⟨x0, hx0⟩ : ∃ x0, b[0]'(by omega) = x0 := ⟨_, rfl⟩
  have hg0 : b.getD 0 0 = x0 := by rw [List.getD_eq_getElem?_getD, List.getElem?_eq_getElem (by omega), hx0]; rfl
  have c0 : w.cell? ⟨g, off, none⟩ = some (.int .u8 (Bt x0)) := by have h := hc 0 (by omega); rw [Nat.add_zero, hx0] at h; exact h
  have hx0b := Bt_bd x0
  have HC0 := Lib.hid hc; have H8 := Lib.hid h8
  by_cases h127 : ¬ x0.toNat ≤ 127
  · have hn : isNum b = false := by unfold isNum; rw [hg0, decide_eq_false h127, Bool.and_false]
    have ht : numT b = 0 := by unfold numT; rw [hn]; rfl
    rw [hn, ht, h8]
    have hgt : Bt x0 > 127 := by unfold Bt; omega
    clear hc hx0 hg0 HC0
    go_enter Try.func18, Try.ntmps18
    go_wp2
    refine bodyPost_ret (results_tmp2 rfl _ _ _) rfl ?_
    exact ⟨rfl, rfl⟩
  have h127 : x0.toNat ≤ 127 := Decidable.not_not.1 h127
  have hn : isNum b = true := by unfold isNum; rw [hg0, decide_eq_true h127, h8]; rfl
  have ht : numT b = (numK (b.take 8) : Int) := by unfold numT; rw [hn, List.take_of_length_le (by omega)]; rfl
  rw [hn, ht, h8]
  have hgt : ¬ (Bt x0 > 127) := by unfold Bt; omega
  have HG0 := Lib.hid (show (b.getD 0 0).toNat ≤ 127 by rw [hg0]; exact h127)
  clear hc hx0 hg0 hn ht
  go_enter Try.func18, Try.ntmps18
  go_wp2
  go_loopw [4, 6, 18] (fun n _ i wr => ∃ k : Nat, k ≤ 8 ∧ i = .int .i64 k ∧ n = .int .i64 (numK (b.take k) : Int) ∧ wr = w) (fun _ _ i _ => 8 - (intOf i).toNat)
  case atStart => exact ⟨0, Nat.zero_le _, rfl, by rw [numK_zero]; rfl, rfl⟩
  case round =>
    obtain ⟨k, hk, rfl, rfl, rfl⟩ := hrel
    by_cases hlt : k < 8
    · obtain ⟨x, hx⟩ : ∃ x, b[k]'(by have := H8.out; omega) = x := ⟨_, rfl⟩
      have cK := HC0.out k (by have := H8.out; omega)
      rw [hx] at cK
      obtain ⟨N, hN⟩ : ∃ N, numK (b.take k) = N := ⟨_, rfl⟩
      have hlim := numK_lim b HG0.out H8.out k hlt
      rw [hN] at hlim ⊢
      have hxb := UInt8.toNat_lt x
      have hor : bits .or .i64 ((N : Int) * 256) (Bt x) = ((N * 256 + x.toNat : Nat) : Int) := or_join N x.toNat hxb (by omega)
      have hsucc : numK (b.take (k + 1)) = N * 256 + x.toNat := by rw [numK_succ b k (by have := H8.out; omega), hN, hx]
      have hw1 : IntKind.i64.wrap ((N : Int) * 256) = (N : Int) * 256 := IntWalk.i64_in _ (by omega)
      have hxb2 := Bt_bd x
      have hw2 : IntKind.i64.wrap (Bt x) = Bt x := IntWalk.i64_in _ (by omega)
      have HSC := Lib.hid hsucc
      clear hx hN hsucc
      go_wp2
      go_roundw
      case rel => exact ⟨k + 1, by omega, by go_num, by rw [HSC.out]; go_num, by first | trivial | rfl⟩
      case measure => simp [intOf]; omega
    · have hkl : k = 8 := by omega
      subst hkl
      go_wp2
      refine bodyPost_ret (results_tmp2 rfl _ _ _) rfl ?_
      exact ⟨rfl, rfl⟩

set_option maxHeartbeats 2000000 in
theorem rtonum_any (a : Option Addr) (l c : Nat) (b : List UInt8) (w : World) (hp : Row8 w a l b) :
    Calls Try.prog 19 #[.slice a l c] w fun e w' => e = .returned (.tuple #[.int .i64 (numT b), .bool (isNum b)]) ∧ w = w' := by
  have hlen := hp.len_eq
  subst hlen
  by_cases h8 : ¬ b.length = 8
  · have hn : isNum b = false := by unfold isNum; simp [h8]
    have ht : numT b = 0 := by unfold numT; rw [hn]; rfl
    rw [hn, ht]
    have hne : ((b.length : Int) != 8) = true := by simp; omega
    clear hp
    go_enter Try.func19, Try.ntmps19
    go_wp2
    refine bodyPost_ret (results_tmp2 rfl _ _ _) rfl ?_
    exact ⟨rfl, rfl⟩
  have h8 : b.length = 8 := Decidable.not_not.1 h8
  obtain ⟨g, off, rfl, hc⟩ : ∃ g off, a = some ⟨g, off, none⟩ ∧ ∀ (i : Nat) (h : i < b.length), w.cell? ⟨g, off + i, none⟩ = some (.int .u8 (Bt b[i])) := by
    rcases hp.cells with h1 | h1
    · rw [h1] at h8; cases h8
    · exact h1
  clear hp
  obtain ⟨x0, hx0⟩ : ∃ x0, b[0]'(by omega) = x0 := ⟨_, rfl⟩
  have hg0 : b.getD 0 0 = x0 := by rw [List.getD_eq_getElem?_getD, List.getElem?_eq_getElem (by omega), hx0]; rfl
  have c0 : w.cell? ⟨g, off, none⟩ = some (.int .u8 (Bt x0)) := by have h := hc 0 (by omega); rw [Nat.add_zero, hx0] at h; exact h
  have hx0b := Bt_bd x0
  have HC0 := Lib.hid hc; have H8 := Lib.hid h8
  by_cases h127 : ¬ x0.toNat ≤ 127
  · have hn : isNum b = false := by unfold isNum; rw [hg0, decide_eq_false h127, Bool.and_false]
    have ht : numT b = 0 := by unfold numT; rw [hn]; rfl
    rw [hn, ht, h8]
    have hgt : Bt x0 ≥ 128 := by unfold Bt; omega
    clear hc hx0 hg0 HC0
    go_enter Try.func19, Try.ntmps19
    go_wp2
    refine bodyPost_ret (results_tmp2 rfl _ _ _) rfl ?_
    exact ⟨rfl, rfl⟩
  have h127 : x0.toNat ≤ 127 := Decidable.not_not.1 h127
  have hn : isNum b = true := by unfold isNum; rw [hg0, decide_eq_true h127, h8]; rfl
  have ht : numT b = (numK (b.take 8) : Int) := by unfold numT; rw [hn, List.take_of_length_le (by omega)]; rfl
  rw [hn, ht, h8]
  have hgt : ¬ (Bt x0 ≥ 128) := by unfold Bt; omega
  have HG0 := Lib.hid (show (b.getD 0 0).toNat ≤ 127 by rw [hg0]; exact h127)
  clear hc hx0 hg0 hn ht
  go_enter Try.func19, Try.ntmps19
  go_wp2
  go_loopw [4, 5] (fun n i wr => ∃ k : Nat, k ≤ 8 ∧ i = .int .i64 k ∧ n = .int .i64 (numK (b.take k) : Int) ∧ wr = w) (fun _ i _ => 8 - (intOf i).toNat)
  case atStart => exact ⟨0, Nat.zero_le _, rfl, by rw [numK_zero]; rfl, rfl⟩
  case round =>
    obtain ⟨k, hk, rfl, rfl, rfl⟩ := hrel
    by_cases hlt : k < 8
    · obtain ⟨x, hx⟩ : ∃ x, b[k]'(by have := H8.out; omega) = x := ⟨_, rfl⟩
      have cK := HC0.out k (by have := H8.out; omega)
      rw [hx] at cK
      obtain ⟨N, hN⟩ : ∃ N, numK (b.take k) = N := ⟨_, rfl⟩
      have hlim := numK_lim b HG0.out H8.out k hlt
      rw [hN] at hlim ⊢
      have hxb := UInt8.toNat_lt x
      have hor : bits .or .i64 ((N : Int) * 256) (Bt x) = ((N * 256 + x.toNat : Nat) : Int) := or_join N x.toNat hxb (by omega)
      have hsucc : numK (b.take (k + 1)) = N * 256 + x.toNat := by rw [numK_succ b k (by have := H8.out; omega), hN, hx]
      have hw1 : IntKind.i64.wrap ((N : Int) * 256) = (N : Int) * 256 := IntWalk.i64_in _ (by omega)
      have hxb2 := Bt_bd x
      have hw2 : IntKind.i64.wrap (Bt x) = Bt x := IntWalk.i64_in _ (by omega)
      have HSC := Lib.hid hsucc
      clear hx hN hsucc
      go_wp2
      go_roundw
      case rel => exact ⟨k + 1, by omega, by go_num, by rw [HSC.out]; go_num, by first | trivial | rfl⟩
      case measure => simp [intOf]; omega
    · have hkl : k = 8 := by omega
      subst hkl
      go_wp2
      refine bodyPost_ret (results_tmp2 rfl _ _ _) rfl ?_
      exact ⟨rfl, rfl⟩
end Go.Proofs.Ytgghkeinkcpboaa
