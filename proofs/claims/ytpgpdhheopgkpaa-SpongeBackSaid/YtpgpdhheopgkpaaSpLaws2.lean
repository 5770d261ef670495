/-
  More walks of the laws over package sponge.
-/
import Derived.Test.YtpgpdhheopgkpaaSpLaws
import Derived.Test.YtpgpdhheopgkpaaSpBack
namespace Go.Proofs.Ytpgpdhheopgkpaa
open Go.RowKit
set_option linter.unusedVariables false
set_option linter.unusedSimpArgs false
attribute [local go_sem] eqh_guard eqw

set_option maxRecDepth 100000 in
theorem spongeSums_walk {w : World} (a : Option Addr) (l c : Nat) (bs : List UInt8) (hp : Arg8 w a l c bs) :
    Calls Try.prog 4 #[.slice a l c] w fun e w' => e = .returned (.bool true) ∧ Below w.heap.size w w' := by
  obtain ⟨h, hh⟩ : ∃ h, h = sumW bs := ⟨_, rfl⟩
  have hl : h.length = 32 := by rw [hh]; exact sumW_length _
  have hfl : [bs].flatten = bs := by simp
  by_cases hb : 2000 < l
  · go_enter Try.func4, Try.ntmps4
    have HP := Lib.hid hp; have HH := Lib.hid hh; clear hp hh
    have hlt : ((l : Int) > 2000) := by omega
    go_wp2
    go_ret
    exact ⟨rfl, Below.refl _ _⟩
  · have hlt : ¬ ((l : Int) > 2000) := by omega
    have hbl : bs.length ≤ 140737488355000 := by have := hp.row.len_eq; omega
    have kE := fun w1 => eqh w1 h h hl hl
    simp only [beq_self_eq_true] at kE
    have HP := Lib.hid hp; have HH := Lib.hid hh; have HN := Lib.hid hp.nil; have HL := Lib.hid hbl; have HF := Lib.hid hfl
    clear hp hh hb hbl hfl
    go_enter Try.func4, Try.ntmps4
    go_wp2_with (first
      | (go_at_call 15; refine (sum_any _ 1 1 [bs] _ (RowR.one HP.out.row)).mono ?_; rintro e w1 ⟨rfl, hb1⟩; rw [HF.out, ← HH.out])
      | (go_at_call 16; refine (rsum_any _ l c bs _ ((HP.out.row.below ((Below.refl _ _).next (Nat.le_refl _) _)).below hb1) HN.out HL.out).mono ?_; rintro e w2 ⟨rfl, hb2⟩; rw [← HH.out])
      | (go_at_call 14; refine (known_any _).mono ?_; rintro e w3 ⟨rfl, hb3⟩))
    go_ret
    exact ⟨rfl, ((((Below.refl _ _).next (Nat.le_refl _) _).later hb1 (Nat.le_refl _)).later hb2 (Nat.le_refl _)).later hb3 (Nat.le_refl _)⟩

set_option maxRecDepth 100000 in
theorem spongeBack_walk {w : World} (x y : W5) :
    Calls Try.prog 7 #[V5 x, V5 y] w fun e w' => e = .returned (.bool true) ∧ Below w.heap.size w w' := by
  obtain ⟨x', hx⟩ : ∃ x', turnW x = x' := ⟨_, rfl⟩
  obtain ⟨y', hy⟩ : ∃ y', turnW y = y' := ⟨_, rfl⟩
  obtain ⟨b, hb2⟩ : ∃ b, decide (x = y) = b := ⟨_, rfl⟩
  have hb1 : decide (x' = y') = b := by
    rw [← hb2, ← hx, ← hy]
    by_cases h : x = y
    · rw [h]; simp
    · rw [decide_eq_false h, decide_eq_false fun e => h (turn_inj e)]
  have HX := Lib.hid hx; have HY := Lib.hid hy; have HB1 := Lib.hid hb1; have HB2 := Lib.hid hb2
  clear hx hy hb1 hb2
  go_enter Try.func7, Try.ntmps7
  go_wp2_with fail
  refine wp_gen (fun wr hwr => ?_)
  have hX0 : Blk wr w.heap.size (C5 x) 23 := by rw [hwr]; exact (Blk.new w _ _).alloc _
  have hY0 : Blk wr (w.heap.size + 1) (C5 y) 23 := by rw [hwr]; exact Blk.newAt _ _ (by simp)
  have hB0 : Below w.heap.size w wr := by rw [hwr]; exact ((Below.refl _ _).next (Nat.le_refl _) _).next (Nat.le_refl _) _
  clear hwr
  refine region_grows _ (Nat.le_refl _) [isV 0 (V5 x), isV 1 (V5 x'), isV 2 (V5 y), isV 3 (V5 y'), isV 4 (.bool b), isV 5 (V5 x), isV 6 (V5 y), isV 7 (.bool b), isV 8 (.bool true), isV 9 (.bool true), isV 10 (.bool true), isV 11 (.bool true), isV 12 (.bool true)]
    [[], [0], [], [2], [1, 3], [], [], [5, 6], [4, 7], [8], [9], [9, 10], [11]] [some 5, some 6, some 7, some 8, some 9, some 10, some 11, some 12, some 13, some 14, some 15, some 16, some 4] _ (by kernel_rfl) (by kernel_rfl) (by kernel_rfl) (by kernel_rfl) (by kernel_rfl) rfl ?_ ?_ ?_
  · repeat (first | exact st_nil | refine st_cons (by first | exact st_is _ _ | exact st_as _ _ | exact st_row _ _ _ | exact st_rows _ _ _ | exact st_lit _ _ _ _ _) ?_)
  · intro hgz
    refine ⟨?_, ?_, ?_, ?_, ?_, ?_, ?_, ?_, ?_, ?_, ?_, ?_, ?_, trivial⟩ <;> intro vals w1 hb hf <;> obtain ⟨hb, hz⟩ := hgz w1 hb <;> simp [leans, factsOf, phi, sel_lit, sel_row, sel_rows, isV, asV, sel] at hf <;> simp [putD, phi, Act.put]
    · -- 0 load 
      obtain ⟨c0, c1, c2, c3, c4⟩ := (hX0.keep hb.below).five
      go_wp2
      exact ⟨rfl, rfl, .refl _ _, mk_is rfl⟩
    · -- 1 call curia/sponge.Turn 
      simp only [hf]; clear hf
      go_wp2_with (first | (go_at_call 12; refine (turn_any x _).mono ?_; rintro e w' ⟨rfl, hb'⟩; rw [HX.out]))
      exact ⟨rfl, rfl, Grows.of hb' hz, mk_is rfl⟩
    · -- 2 load 
      obtain ⟨c0, c1, c2, c3, c4⟩ := (hY0.keep hb.below).five
      go_wp2
      exact ⟨rfl, rfl, .refl _ _, mk_is rfl⟩
    · -- 3 call curia/sponge.Turn 
      simp only [hf]; clear hf
      go_wp2_with (first | (go_at_call 12; refine (turn_any y _).mono ?_; rintro e w' ⟨rfl, hb'⟩; rw [HY.out]))
      exact ⟨rfl, rfl, Grows.of hb' hz, mk_is rfl⟩
    · -- 4 binOp 
      simp only [hf]; clear hf
      go_wp2
      exact ⟨rfl, rfl, .refl _ _, mk_is (by simp [backD, HB1.out])⟩
    · -- 5 load 
      obtain ⟨c0, c1, c2, c3, c4⟩ := (hX0.keep hb.below).five
      go_wp2
      exact ⟨rfl, rfl, .refl _ _, mk_is rfl⟩
    · -- 6 load 
      obtain ⟨c0, c1, c2, c3, c4⟩ := (hY0.keep hb.below).five
      go_wp2
      exact ⟨rfl, rfl, .refl _ _, mk_is rfl⟩
    · -- 7 binOp 
      simp only [hf]; clear hf
      go_wp2
      exact ⟨rfl, rfl, .refl _ _, mk_is (by simp [backD, HB2.out])⟩
    · -- 8 binOp 
      simp only [hf]; clear hf
      go_wp2
      exact ⟨rfl, rfl, .refl _ _, mk_is (by simp [backD])⟩
    · -- 9 move 
      simp only [hf]; clear hf
      go_wp2
      exact ⟨rfl, rfl, .refl _ _, mk_is rfl⟩
    · -- 10 call curia/curialaw1.known if some (9, true)
      simp only [hf]; clear hf
      go_wp2_with (first | (go_at_call 14; refine (known_any _).mono ?_; rintro e w' ⟨rfl, hb'⟩))
      exact ⟨rfl, rfl, Grows.of hb' hz, mk_is rfl⟩
    · -- 11 pick 
      simp only [hf]; clear hf
      go_wp2
      exact ⟨rfl, rfl, .refl _ _, mk_is rfl⟩
    · -- 12 assign 
      simp only [hf]; clear hf
      go_wp2
      exact ⟨rfl, rfl, .refl _ _, mk_is rfl⟩
  · intro vals w1 hb hf; simp [leans, List.range, List.range.loop, factsOf, phi, sel_lit, sel_row, sel_rows, isV, asV, sel] at hf; simp [putD, List.range, List.range.loop, Act.put, hf]
    go_wp2
    go_ret
    exact ⟨rfl, hB0.lift hb.below hB0.size⟩
end Go.Proofs.Ytpgpdhheopgkpaa
