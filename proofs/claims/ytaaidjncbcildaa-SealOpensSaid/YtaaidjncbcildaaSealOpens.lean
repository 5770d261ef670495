/-
  The walk of a law.
-/
import Derived.Test.YtaaidjncbcildaaGSeal
namespace Go.Proofs.Ytaaidjncbcildaa
set_option maxRecDepth 100000
open Go.RowKit Pm
set_option linter.unusedVariables false
set_option linter.unusedSimpArgs false

set_option maxRecDepth 100000 in
set_option maxHeartbeats 4000000 in
theorem sealOpens_walk {w : World} (a : List UInt8) (ha : a.length = 32) (lp : Option Addr) (lpl lpc : Nat) (p : List UInt8) (hp : Arg8 w lp lpl lpc p) :
    Calls Try.prog 4 #[HV a, .slice lp lpl lpc] w fun e w' => e = .returned (.bool true) ∧ Below w.heap.size w w' := by
  have hle := hp.le
  have hsm := hp.small
  have hlen := hp.row.len_eq
  by_cases h1 : (lpl : Int) > 500
  · go_enter Try.func4, Try.ntmps4
    go_wp2
    go_ret
    exact ⟨rfl, (Below.refl _ _).next (Nat.le_refl _) _⟩
  have hpl : p.length ≤ 500 := by omega
  obtain ⟨x, hx⟩ : ∃ x, keyS a = x := ⟨_, rfl⟩
  obtain ⟨M, hM⟩ : ∃ M, openB x p = M := ⟨_, rfl⟩
  obtain ⟨E, hE⟩ : ∃ E, openE x p = E := ⟨_, rfl⟩
  have hMl : M.length ≤ 1000 := by
    rw [← hM]
    unfold openB
    split
    · rw [xorW_length, List.length_drop]; omega
    · decide
  obtain ⟨N, hN⟩ : ∃ N, M.length = N := ⟨_, rfl⟩
  rw [hN] at hMl
  have HM := Lib.hid hM; have HE := Lib.hid hE; have HML := Lib.hid hMl; have HN := Lib.hid hN; have HX := Lib.hid hx
  clear hM hE hMl hN hx
  have HP0 := Lib.hid hp.toC; have HPL := Lib.hid hpl; have HLE := Lib.hid hle; have HLN := Lib.hid hlen
  clear hp hle hsm hlen hpl
  have hsza : (Try.prog.info? 23).map (·.size) = some (HC a).size := by rw [HC_size, ha]; kernel_rfl
  have Sa := Lib.hid hsza; have Ha := Lib.hid ha
  clear hsza ha
  have hXa : Blk (w.alloc (.cells (HC a) 23)) (w.heap.size) (HC a) 23 := Blk.new _ _ _
  have HXa := Lib.hid hXa
  clear hXa
  unfold HV
  go_enter Try.func4, Try.ntmps4
  go_wp2_with (first
    | (refine wpList_load_row rfl 23 _ rfl w.heap.size rfl 23 (HC a) (0, 0) _ HXa.out Try.underlying23 rfl Sa.out ?_))
  refine calls_gen (fun w1 hw1 => ?_)
  have hb1 : Below w.heap.size w w1 := by rw [hw1]; (first | exact Below.refl _ _ | exact (Below.refl _ _).next (Nat.le_refl _) _ | exact ((Below.refl _ _).next (Nat.le_refl _) _).next (Nat.le_refl _) _ | exact (((Below.refl _ _).next (Nat.le_refl _) _).next (Nat.le_refl _) _).next (Nat.le_refl _) _ | exact ((((Below.refl _ _).next (Nat.le_refl _) _).next (Nat.le_refl _) _).next (Nat.le_refl _) _).next (Nat.le_refl _) _ | exact below_drew1 (Below.refl _ _) | exact below_drew1 ((Below.refl _ _).next (Nat.le_refl _) _) | exact below_drew1 (((Below.refl _ _).next (Nat.le_refl _) _).next (Nat.le_refl _) _))
  have FXa1 : Hid (Blk w1 w.heap.size (HC a) 23) := Lib.hid (by rw [hw1]; exact HXa.out)
  have FP1 : Hid (RowC w1 lp lpl lpc p) := Lib.hid (HP0.out.below hb1)
  have HB1 : Hid (Below w.heap.size w w1) := Lib.hid (hb1)
  clear HP0
  clear hb1 hw1
  refine (from_k a Ha.out _).mono ?_
  rintro e w2 ⟨g2, rfl, hgl2, hk2, hb2⟩
  rw [HX.out] at hk2
  have hgl0 : w.heap.size ≤ g2 := Nat.le_trans HB1.out.size hgl2
  have HGL := Lib.hid hgl0
  have HGX : Hid (w.heap.size ≠ g2) := Lib.hid (by have := FXa1.out.lt; omega)
  clear hgl2 hgl0
  have FP2 : Hid (RowC w2 lp lpl lpc p) := Lib.hid (FP1.out.below hb2)
  have FXa2 : Hid (Blk w2 w.heap.size (HC a) 23) := Lib.hid (FXa1.out.keep hb2)
  have HB2 : Hid (Below w.heap.size w w2) := Lib.hid (HB1.out.later hb2 (Nat.le_refl _))
  clear FP1 FXa1 HB1
  clear hb2
  have FK2 : Hid (Blk w2 g2 (CD x false 0) 72) := Lib.hid (hk2)
  go_wp2_with (first
    | (at_builtin
       refine wpList_append8 rfl (.tmp 15) (.tmp 16) 24 rfl (w2.heap.size) 5 Try.underlying24 info8 (.slice (some ⟨w2.heap.size, 0, none⟩) 0 0) [] rfl ?c1 _ _ _ (p) rfl ?c2 ?c3 ?c4 ?c5 ?_
       case c1 => exact Own8.litAt [] _ rfl rfl rfl (Nat.le_refl _) (small8 _ (by simp))
       case c2 => exact (FP2.out.row).below ((Below.refl _ _).next (Nat.le_refl _) _)
       case c3 => exact FP2.out.nil
       case c4 => have := HPL.out; simp only [List.length_nil]; omega
       case c5 => simp
       intro v3 w3 hown3 hg3 hb3
       rw [List.nil_append] at hown3
       have hb3 : Below w2.heap.size w2 w3 := ((Below.refl _ _).next (Nat.le_refl _) _).trans hb3
       have FP3 : Hid (RowC w3 lp lpl lpc p) := Lib.hid (FP2.out.below hb3)
       have FXa3 : Hid (Blk w3 w.heap.size (HC a) 23) := Lib.hid (FXa2.out.keep hb3)
       have FK3 : Hid (Blk w3 g2 (CD x false 0) 72) := Lib.hid (FK2.out.keep hb3)
       have HB3 : Hid (Below w.heap.size w w3) := Lib.hid (HB2.out.later hb3 (Nat.le_refl _))
       clear FP2 FXa2 FK2 HB2
       have FC3 : Hid (Own8 w3 (w2.heap.size) 5 v3 (p)) := Lib.hid (hown3)
       clear hown3 hg3 hb3))
  obtain ⟨ac, cc, hve, hcc, hlc⟩ := FC3.out.toL (by have := HPL.out; omega)
  subst hve
  have HCC := Lib.hid hcc; have HLC := Lib.hid hlc
  clear hcc hlc
  clear FC3
  refine (open_any g2 x 0 false (by decide) ac p.length cc p _ FK3.out HCC.out HLC.out (by have := HPL.out; omega)).mono ?_
  rintro e w4 ⟨v4, rfl, hO4, hg4, us, hk4, hu1, hu2⟩
  rw [HE.out]
  rw [HM.out] at hO4
  obtain ⟨a4, c4, rfl, hC4, hL4⟩ := hO4.toL (by rw [HN.out]; have := HML.out; omega)
  rw [HN.out] at hC4 hL4 ⊢
  have HL1 := Lib.hid hL4
  clear hL4
  clear hu1 hu2
  have FP4 : Hid (RowC w4 lp lpl lpc p) := Lib.hid (FP3.out.key FK3.out hg4)
  have FXa4 : Hid (Blk w4 w.heap.size (HC a) 23) := Lib.hid (FXa3.out.grown hg4 HGX.out)
  have FK4 : Hid (Blk w4 g2 (CD x false us) 72) := Lib.hid hk4
  have FC4 : Hid (RowC w4 ac p.length cc p) := Lib.hid (HCC.out.key FK3.out hg4)
  have HB4 : Hid (Below w.heap.size w w4) := Lib.hid (below_grown HB3.out hg4 HGL.out HB3.out.size)
  clear FP3 FXa3 HCC FK3 HB3 hk4 hg4
  have FM14 : Hid (RowC w4 a4 N c4 M) := Lib.hid (hC4)
  clear FK4
  go_wp2_with (first
    | (refine wpList_load_row rfl 23 _ rfl w.heap.size rfl 23 (HC a) (0, 0) _ FXa4.out Try.underlying23 rfl Sa.out ?_))
  refine calls_gen (fun w5 hw5 => ?_)
  have hb5 : Below w4.heap.size w4 w5 := by rw [hw5]; (first | exact Below.refl _ _ | exact (Below.refl _ _).next (Nat.le_refl _) _ | exact ((Below.refl _ _).next (Nat.le_refl _) _).next (Nat.le_refl _) _ | exact (((Below.refl _ _).next (Nat.le_refl _) _).next (Nat.le_refl _) _).next (Nat.le_refl _) _ | exact ((((Below.refl _ _).next (Nat.le_refl _) _).next (Nat.le_refl _) _).next (Nat.le_refl _) _).next (Nat.le_refl _) _ | exact below_drew1 (Below.refl _ _) | exact below_drew1 ((Below.refl _ _).next (Nat.le_refl _) _) | exact below_drew1 (((Below.refl _ _).next (Nat.le_refl _) _).next (Nat.le_refl _) _))
  have FP5 : Hid (RowC w5 lp lpl lpc p) := Lib.hid (FP4.out.below hb5)
  have FXa5 : Hid (Blk w5 w.heap.size (HC a) 23) := Lib.hid (FXa4.out.keep hb5)
  have FC5 : Hid (RowC w5 ac p.length cc p) := Lib.hid (FC4.out.below hb5)
  have FM15 : Hid (RowC w5 a4 N c4 M) := Lib.hid (FM14.out.below hb5)
  have HB5 : Hid (Below w.heap.size w w5) := Lib.hid (HB4.out.later hb5 (Nat.le_refl _))
  clear FP4 FXa4 FC4 FM14 HB4
  clear hb5 hw5
  refine (rfrom_k a Ha.out _).mono ?_
  rintro e w6 ⟨rfl, hb6⟩
  rw [HX.out]
  have FP6 : Hid (RowC w6 lp lpl lpc p) := Lib.hid (FP5.out.below hb6)
  have FXa6 : Hid (Blk w6 w.heap.size (HC a) 23) := Lib.hid (FXa5.out.keep hb6)
  have FC6 : Hid (RowC w6 ac p.length cc p) := Lib.hid (FC5.out.below hb6)
  have FM16 : Hid (RowC w6 a4 N c4 M) := Lib.hid (FM15.out.below hb6)
  have HB6 : Hid (Below w.heap.size w w6) := Lib.hid (HB5.out.later hb6 (Nat.le_refl _))
  clear FP5 FXa5 FC5 FM15 HB5
  clear hb6
  go_wp2_with fail
  refine calls_gen (fun w7 hw7 => ?_)
  have hb7 : Below w6.heap.size w6 w7 := by rw [hw7]; (first | exact Below.refl _ _ | exact (Below.refl _ _).next (Nat.le_refl _) _ | exact ((Below.refl _ _).next (Nat.le_refl _) _).next (Nat.le_refl _) _ | exact (((Below.refl _ _).next (Nat.le_refl _) _).next (Nat.le_refl _) _).next (Nat.le_refl _) _ | exact ((((Below.refl _ _).next (Nat.le_refl _) _).next (Nat.le_refl _) _).next (Nat.le_refl _) _).next (Nat.le_refl _) _ | exact below_drew1 (Below.refl _ _) | exact below_drew1 ((Below.refl _ _).next (Nat.le_refl _) _) | exact below_drew1 (((Below.refl _ _).next (Nat.le_refl _) _).next (Nat.le_refl _) _))
  have FP7 : Hid (RowC w7 lp lpl lpc p) := Lib.hid (FP6.out.below hb7)
  have FXa7 : Hid (Blk w7 w.heap.size (HC a) 23) := Lib.hid (FXa6.out.keep hb7)
  have FC7 : Hid (RowC w7 ac p.length cc p) := Lib.hid (FC6.out.below hb7)
  have FM17 : Hid (RowC w7 a4 N c4 M) := Lib.hid (FM16.out.below hb7)
  have HB7 : Hid (Below w.heap.size w w7) := Lib.hid (HB6.out.later hb7 (Nat.le_refl _))
  clear FP6 FXa6 FC6 FM16 HB6
  clear hb7 hw7
  refine (ropen_any x (powI 4 x) lp lpl lpc p _ FP7.out HLE.out (by have := HPL.out; omega)).mono ?_
  rintro e w8 ⟨v8, rfl, hO8, hb8⟩
  rw [HE.out]
  rw [HM.out] at hO8
  obtain ⟨a8, c8, rfl, hC8, hL8⟩ := hO8.toL (by rw [HN.out]; have := HML.out; omega)
  rw [HN.out] at hC8 hL8 ⊢
  have HL2 := Lib.hid hL8
  clear hL8
  have FP8 : Hid (RowC w8 lp lpl lpc p) := Lib.hid (FP7.out.below hb8)
  have FXa8 : Hid (Blk w8 w.heap.size (HC a) 23) := Lib.hid (FXa7.out.keep hb8)
  have FC8 : Hid (RowC w8 ac p.length cc p) := Lib.hid (FC7.out.below hb8)
  have FM18 : Hid (RowC w8 a4 N c4 M) := Lib.hid (FM17.out.below hb8)
  have HB8 : Hid (Below w.heap.size w w8) := Lib.hid (HB7.out.later hb8 (Nat.le_refl _))
  clear FP7 FXa7 FC7 FM17 HB7
  clear hb8
  have FM28 : Hid (RowC w8 a8 N c8 M) := Lib.hid (hC8)
  have kS1 := FM18.out.row.str (P := Try.prog) 24 9 5 c4 Try.underlying24 Try.underlying5 Try.underlying9
  have kS2 := FM28.out.row.str (P := Try.prog) 24 9 5 c8 Try.underlying24 Try.underlying5 Try.underlying9
  go_wp2_with (first
    | (go_at_call 14; with_reducible refine (known_seal _).mono ?_; rintro e w9 ⟨rfl, hb9⟩))
  go_ret
  exact ⟨rfl, HB8.out.later hb9 (Nat.le_refl _)⟩
end Go.Proofs.Ytaaidjncbcildaa
