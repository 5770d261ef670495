/-
  More walks of the laws over package sponge.
-/
import Derived.Test.YtpgpdhheopgkpaaSpLaws
namespace Go.Proofs.Ytpgpdhheopgkpaa
open Go.RowKit
set_option linter.unusedVariables false
set_option linter.unusedSimpArgs false
attribute [local go_sem] eqh_guard eqw

set_option maxRecDepth 100000 in
theorem spongeSums_walk {w : World} (a : Option Addr) (l c : Nat) (bs : List UInt8) (hp : Arg8 w a l c bs) :
    Calls Try.prog 4 #[.slice a l c] w fun e w' => e = .returned (.bool true) ∧ Below w.heap.size w w' := by
  obtain ⟨h, hh⟩ : ∃ h, h = sumW bs := ⟨_, rfl⟩
  have hl : h.length = 32 := by rw [hh]; exact sumW_length _
  have hfl : [bs].flatten = bs := by simp
  by_cases hb : 2000 < l
  · go_enter Try.func4, Try.ntmps4
    have HP := Lib.hid hp; have HH := Lib.hid hh; clear hp hh
    have hlt : ((l : Int) > 2000) := by omega
    go_wp2
    go_ret
    exact ⟨rfl, Below.refl _ _⟩
  · have hlt : ¬ ((l : Int) > 2000) := by omega
    have hbl : bs.length ≤ 140737488355000 := by have := hp.row.len_eq; omega
    have kE := fun w1 => eqh w1 h h hl hl
    simp only [beq_self_eq_true] at kE
    have HP := Lib.hid hp; have HH := Lib.hid hh; have HN := Lib.hid hp.nil; have HL := Lib.hid hbl; have HF := Lib.hid hfl
    clear hp hh hb hbl hfl
    go_enter Try.func4, Try.ntmps4
    go_wp2_with (first
      | (go_at_call 15; refine (sum_any _ 1 1 [bs] _ (RowR.one HP.out.row)).mono ?_; rintro e w1 ⟨rfl, hb1⟩; rw [HF.out, ← HH.out])
      | (go_at_call 16; refine (rsum_any _ l c bs _ ((HP.out.row.below ((Below.refl _ _).next (Nat.le_refl _) _)).below hb1) HN.out HL.out).mono ?_; rintro e w2 ⟨rfl, hb2⟩; rw [← HH.out])
      | (go_at_call 14; refine (known_any _).mono ?_; rintro e w3 ⟨rfl, hb3⟩))
    go_ret
    exact ⟨rfl, ((((Below.refl _ _).next (Nat.le_refl _) _).later hb1 (Nat.le_refl _)).later hb2 (Nat.le_refl _)).later hb3 (Nat.le_refl _)⟩
end Go.Proofs.Ytpgpdhheopgkpaa
