/-
  The walk of a law.
-/
import Derived.Test.YtaaidjncbcildaaGSeal
namespace Go.Proofs.Ytaaidjncbcildaa
set_option maxRecDepth 100000
open Go.RowKit Pm
set_option linter.unusedVariables false
set_option linter.unusedSimpArgs false

set_option maxRecDepth 100000 in
set_option maxHeartbeats 4000000 in
theorem sealTells_walk {w : World} (y : Int) (wy : (Lit.int .i64 y).wf = true) (a : List UInt8) (ha : a.length = 32) (lp : Option Addr) (lpl lpc : Nat) (p : List UInt8) (hp : Arg8 w lp lpl lpc p) :
    Calls Try.prog 3 #[.int .i64 y, HV a, .slice lp lpl lpc] w fun e w' => e = .returned (.bool true) ∧ Below w.heap.size w w' := by
  have hle := hp.le
  have hsm := hp.small
  have hlen := hp.row.len_eq
  clear wy
  by_cases h1 : (lpl : Int) > 500
  · go_enter Try.func3, Try.ntmps3
    go_wp2
    go_ret
    exact ⟨rfl, (Below.refl _ _).next (Nat.le_refl _) _⟩
  have hpl : p.length ≤ 500 := by omega
  obtain ⟨M, hM⟩ : ∃ M, sealB y (keyS a) p = M := ⟨_, rfl⟩
  obtain ⟨E, hE⟩ : ∃ E, sealE y p = E := ⟨_, rfl⟩
  have hMl : M.length ≤ 1000 := by
    rw [← hM]
    unfold sealB
    split
    · rw [boxW_length]; omega
    · decide
  obtain ⟨N, hN⟩ : ∃ N, M.length = N := ⟨_, rfl⟩
  rw [hN] at hMl
  have HM := Lib.hid hM; have HE := Lib.hid hE; have HML := Lib.hid hMl; have HN := Lib.hid hN
  clear hM hE hMl hN
  have HP0 := Lib.hid hp.toC; have HPL := Lib.hid hpl
  clear hp hle hsm hlen hpl
  have hsza : (Try.prog.info? 23).map (·.size) = some (HC a).size := by rw [HC_size, ha]; kernel_rfl
  have Sa := Lib.hid hsza; have Ha := Lib.hid ha
  clear hsza ha
  have hXa : Blk (w.alloc (.cells (HC a) 23)) (w.heap.size) (HC a) 23 := Blk.new _ _ _
  have HXa := Lib.hid hXa
  clear hXa
  unfold HV
  go_enter Try.func3, Try.ntmps3
  go_wp2_with (first
    | (refine wpList_load_row rfl 23 _ rfl w.heap.size rfl 23 (HC a) (0, 0) _ HXa.out Try.underlying23 rfl Sa.out ?_))
  refine calls_gen (fun w1 hw1 => ?_)
  have hb1 : Below w.heap.size w w1 := by rw [hw1]; (first | exact Below.refl _ _ | exact (Below.refl _ _).next (Nat.le_refl _) _ | exact ((Below.refl _ _).next (Nat.le_refl _) _).next (Nat.le_refl _) _ | exact (((Below.refl _ _).next (Nat.le_refl _) _).next (Nat.le_refl _) _).next (Nat.le_refl _) _ | exact ((((Below.refl _ _).next (Nat.le_refl _) _).next (Nat.le_refl _) _).next (Nat.le_refl _) _).next (Nat.le_refl _) _ | exact below_drew1 (Below.refl _ _) | exact below_drew1 ((Below.refl _ _).next (Nat.le_refl _) _) | exact below_drew1 (((Below.refl _ _).next (Nat.le_refl _) _).next (Nat.le_refl _) _))
  have FXa1 : Hid (Blk w1 w.heap.size (HC a) 23) := Lib.hid (by rw [hw1]; exact HXa.out)
  have FP1 : Hid (RowC w1 lp lpl lpc p) := Lib.hid (HP0.out.below hb1)
  have HB1 : Hid (Below w.heap.size w w1) := Lib.hid (hb1)
  clear HP0
  clear hb1 hw1
  refine (seal_any y a Ha.out lp lpl lpc p _ FP1.out (by have := HPL.out; omega)).mono ?_
  rintro e w2 ⟨v2, rfl, hO2, hb2⟩
  rw [HE.out]
  rw [HM.out] at hO2
  obtain ⟨a2, c2, rfl, hC2, hL2⟩ := hO2.toL (by rw [HN.out]; have := HML.out; omega)
  rw [HN.out] at hC2 hL2 ⊢
  have HL1 := Lib.hid hL2
  clear hL2
  have FP2 : Hid (RowC w2 lp lpl lpc p) := Lib.hid (FP1.out.below hb2)
  have FXa2 : Hid (Blk w2 w.heap.size (HC a) 23) := Lib.hid (FXa1.out.keep hb2)
  have HB2 : Hid (Below w.heap.size w w2) := Lib.hid (HB1.out.later hb2 (Nat.le_refl _))
  clear FP1 FXa1 HB1
  clear hb2
  have FM12 : Hid (RowC w2 a2 N c2 M) := Lib.hid (hC2)
  go_wp2_with (first
    | (refine wpList_load_row rfl 23 _ rfl w.heap.size rfl 23 (HC a) (0, 0) _ FXa2.out Try.underlying23 rfl Sa.out ?_))
  refine calls_gen (fun w3 hw3 => ?_)
  have hb3 : Below w2.heap.size w2 w3 := by rw [hw3]; (first | exact Below.refl _ _ | exact (Below.refl _ _).next (Nat.le_refl _) _ | exact ((Below.refl _ _).next (Nat.le_refl _) _).next (Nat.le_refl _) _ | exact (((Below.refl _ _).next (Nat.le_refl _) _).next (Nat.le_refl _) _).next (Nat.le_refl _) _ | exact ((((Below.refl _ _).next (Nat.le_refl _) _).next (Nat.le_refl _) _).next (Nat.le_refl _) _).next (Nat.le_refl _) _ | exact below_drew1 (Below.refl _ _) | exact below_drew1 ((Below.refl _ _).next (Nat.le_refl _) _) | exact below_drew1 (((Below.refl _ _).next (Nat.le_refl _) _).next (Nat.le_refl _) _))
  have FP3 : Hid (RowC w3 lp lpl lpc p) := Lib.hid (FP2.out.below hb3)
  have FXa3 : Hid (Blk w3 w.heap.size (HC a) 23) := Lib.hid (FXa2.out.keep hb3)
  have FM13 : Hid (RowC w3 a2 N c2 M) := Lib.hid (FM12.out.below hb3)
  have HB3 : Hid (Below w.heap.size w w3) := Lib.hid (HB2.out.later hb3 (Nat.le_refl _))
  clear FP2 FXa2 FM12 HB2
  clear hb3 hw3
  refine (rseal_any y a Ha.out lp lpl lpc p _ FP3.out (by have := HPL.out; omega)).mono ?_
  rintro e w4 ⟨v4, rfl, hO4, hb4⟩
  rw [HE.out]
  rw [HM.out] at hO4
  obtain ⟨a4, c4, rfl, hC4, hL4⟩ := hO4.toL (by rw [HN.out]; have := HML.out; omega)
  rw [HN.out] at hC4 hL4 ⊢
  have HL2 := Lib.hid hL4
  clear hL4
  have FP4 : Hid (RowC w4 lp lpl lpc p) := Lib.hid (FP3.out.below hb4)
  have FXa4 : Hid (Blk w4 w.heap.size (HC a) 23) := Lib.hid (FXa3.out.keep hb4)
  have FM14 : Hid (RowC w4 a2 N c2 M) := Lib.hid (FM13.out.below hb4)
  have HB4 : Hid (Below w.heap.size w w4) := Lib.hid (HB3.out.later hb4 (Nat.le_refl _))
  clear FP3 FXa3 FM13 HB3
  clear hb4
  have FM24 : Hid (RowC w4 a4 N c4 M) := Lib.hid (hC4)
  have kS1 := FM14.out.row.str (P := Try.prog) 24 9 5 c2 Try.underlying24 Try.underlying5 Try.underlying9
  have kS2 := FM24.out.row.str (P := Try.prog) 24 9 5 c4 Try.underlying24 Try.underlying5 Try.underlying9
  go_wp2_with (first
    | (go_at_call 14; with_reducible refine (known_seal _).mono ?_; rintro e w9 ⟨rfl, hb9⟩))
  go_ret
  exact ⟨rfl, HB4.out.later hb9 (Nat.le_refl _)⟩
end Go.Proofs.Ytaaidjncbcildaa
