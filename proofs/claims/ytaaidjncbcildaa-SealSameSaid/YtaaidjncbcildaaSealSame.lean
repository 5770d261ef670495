/-
  The walk of a law.
-/
import Derived.Test.YtaaidjncbcildaaGSeal
import Derived.Test.YtaaidjncbcildaaGBase
namespace Go.Proofs.Ytaaidjncbcildaa
set_option maxRecDepth 100000
open Go.RowKit Pm
set_option linter.unusedVariables false
set_option linter.unusedSimpArgs false
attribute [local go_sem] key_y key_x

set_option maxRecDepth 100000 in
set_option maxHeartbeats 4000000 in
theorem sealSame_walk {w : World} (a : List UInt8) (ha : a.length = 32) (d : List UInt8) (hd : d.length = 32) (lp : Option Addr) (lpl lpc : Nat) (p : List UInt8) (hp : Arg8 w lp lpl lpc p) :
    Calls Try.prog 9 #[HV a, HV d, .slice lp lpl lpc] w fun e w' => e = .returned (.bool true) ∧ Below w.heap.size w w' := by
  have hle := hp.le
  have hsm := hp.small
  have hlen := hp.row.len_eq
  by_cases h1 : (lpl : Int) > 200
  · go_enter Try.func9, Try.ntmps9
    go_wp2
    go_ret
    exact ⟨rfl, ((Below.refl _ _).next (Nat.le_refl _) _).next (Nat.le_refl _) _⟩
  have hpl : p.length ≤ 200 := by omega
  obtain ⟨x, hx⟩ : ∃ x, keyS a = x := ⟨_, rfl⟩
  obtain ⟨dk, hdk⟩ : ∃ dk, keyS d = dk := ⟨_, rfl⟩
  have hxb := keyS_bd a
  have hdb := keyS_bd d
  rw [hx] at hxb
  rw [hdk] at hdb
  have hse := sealE_pub x hxb p (by omega) dk
  have hop := seal_back x dk hxb hdb p (by omega)
  obtain ⟨M, hM⟩ : ∃ M, boxW (powI 4 x) dk p = M := ⟨_, rfl⟩
  obtain ⟨N, hN⟩ : ∃ N, M.length = N := ⟨_, rfl⟩
  have hNl : N = 12 + p.length := by rw [← hN, ← hM]; exact boxW_length _ _ _
  rw [hM] at hop hse
  have HX := Lib.hid hx; have HDK := Lib.hid hdk; have BX := Lib.hid hxb; have SE := Lib.hid hse; have OE := Lib.hid hop; have HN := Lib.hid hN; have HNL := Lib.hid hNl
  obtain ⟨F, hF⟩ : ∃ F, fourB (powI 4 dk) = F := ⟨_, rfl⟩
  have hFl : F.length = 4 := by rw [← hF]; rfl
  have hM4 : (M.drop 0).take 4 = F := by rw [List.drop_zero, ← hM, ← hF]; exact (box_parts _ _ _).1
  have hN4 : (N : Int) ≥ 4 := by omega
  have HF := Lib.hid hF; have HFL := Lib.hid hFl; have HM4 := Lib.hid hM4
  clear hx hdk hxb hdb hse hop hM hN hNl hF hFl hM4
  have HP0 := Lib.hid hp.toC; have HPL := Lib.hid hpl; have HLN := Lib.hid hlen
  clear hp hle hsm hlen hpl
  have hsza : (Try.prog.info? 23).map (·.size) = some (HC a).size := by rw [HC_size, ha]; kernel_rfl
  have Sa := Lib.hid hsza; have Ha := Lib.hid ha
  clear hsza ha
  have hszd : (Try.prog.info? 23).map (·.size) = some (HC d).size := by rw [HC_size, hd]; kernel_rfl
  have Sd := Lib.hid hszd; have Hd := Lib.hid hd
  clear hszd hd
  have hXa : Blk ((w.alloc (.cells (HC a) 23)).alloc (.cells (HC d) 23)) (w.heap.size) (HC a) 23 := (Blk.new _ _ _).alloc _
  have hXd : Blk ((w.alloc (.cells (HC a) 23)).alloc (.cells (HC d) 23)) (w.heap.size + 1) (HC d) 23 := Blk.newAt _ _ (by simp)
  have HXa := Lib.hid hXa; have HXd := Lib.hid hXd
  clear hXa hXd
  unfold HV
  go_enter Try.func9, Try.ntmps9
  go_wp2_with (first
    | (refine wpList_load_row rfl 23 _ rfl w.heap.size rfl 23 (HC a) (0, 0) _ HXa.out Try.underlying23 rfl Sa.out ?_))
  refine calls_gen (fun w1 hw1 => ?_)
  have hb1 : Below w.heap.size w w1 := by rw [hw1]; (first | exact Below.refl _ _ | exact (Below.refl _ _).next (Nat.le_refl _) _ | exact ((Below.refl _ _).next (Nat.le_refl _) _).next (Nat.le_refl _) _ | exact (((Below.refl _ _).next (Nat.le_refl _) _).next (Nat.le_refl _) _).next (Nat.le_refl _) _ | exact ((((Below.refl _ _).next (Nat.le_refl _) _).next (Nat.le_refl _) _).next (Nat.le_refl _) _).next (Nat.le_refl _) _ | exact below_drew1 (Below.refl _ _) | exact below_drew1 ((Below.refl _ _).next (Nat.le_refl _) _) | exact below_drew1 (((Below.refl _ _).next (Nat.le_refl _) _).next (Nat.le_refl _) _))
  have FXa1 : Hid (Blk w1 w.heap.size (HC a) 23) := Lib.hid (by rw [hw1]; exact HXa.out)
  have FXd1 : Hid (Blk w1 (w.heap.size + 1) (HC d) 23) := Lib.hid (by rw [hw1]; exact HXd.out)
  have FP1 : Hid (RowC w1 lp lpl lpc p) := Lib.hid (HP0.out.below hb1)
  have HB1 : Hid (Below w.heap.size w w1) := Lib.hid (hb1)
  clear HP0
  clear hb1 hw1
  refine (rfrom_k a Ha.out _).mono ?_
  rintro e w2 ⟨rfl, hb2⟩
  rw [HX.out]
  have FP2 : Hid (RowC w2 lp lpl lpc p) := Lib.hid (FP1.out.below hb2)
  have FXa2 : Hid (Blk w2 w.heap.size (HC a) 23) := Lib.hid (FXa1.out.keep hb2)
  have FXd2 : Hid (Blk w2 (w.heap.size + 1) (HC d) 23) := Lib.hid (FXd1.out.keep hb2)
  have HB2 : Hid (Below w.heap.size w w2) := Lib.hid (HB1.out.later hb2 (Nat.le_refl _))
  clear FP1 FXa1 FXd1 HB1
  clear hb2
  go_wp2_with (first
    | (refine wpList_load_row rfl 23 _ rfl (w.heap.size + 1) rfl 23 (HC d) (0, 0) _ FXd2.out Try.underlying23 rfl Sd.out ?_))
  refine calls_gen (fun w3 hw3 => ?_)
  have hb3 : Below w2.heap.size w2 w3 := by rw [hw3]; (first | exact Below.refl _ _ | exact (Below.refl _ _).next (Nat.le_refl _) _ | exact ((Below.refl _ _).next (Nat.le_refl _) _).next (Nat.le_refl _) _ | exact (((Below.refl _ _).next (Nat.le_refl _) _).next (Nat.le_refl _) _).next (Nat.le_refl _) _ | exact ((((Below.refl _ _).next (Nat.le_refl _) _).next (Nat.le_refl _) _).next (Nat.le_refl _) _).next (Nat.le_refl _) _ | exact below_drew1 (Below.refl _ _) | exact below_drew1 ((Below.refl _ _).next (Nat.le_refl _) _) | exact below_drew1 (((Below.refl _ _).next (Nat.le_refl _) _).next (Nat.le_refl _) _))
  have FP3 : Hid (RowC w3 lp lpl lpc p) := Lib.hid (FP2.out.below hb3)
  have FXa3 : Hid (Blk w3 w.heap.size (HC a) 23) := Lib.hid (FXa2.out.keep hb3)
  have FXd3 : Hid (Blk w3 (w.heap.size + 1) (HC d) 23) := Lib.hid (FXd2.out.keep hb3)
  have HB3 : Hid (Below w.heap.size w w3) := Lib.hid (HB2.out.later hb3 (Nat.le_refl _))
  clear FP2 FXa2 FXd2 HB2
  clear hb3 hw3
  refine (seal_any (powI 4 x) d Hd.out lp lpl lpc p _ FP3.out (by have := HPL.out; omega)).mono ?_
  rintro e w4 ⟨v4, rfl, hO4, hb4⟩
  rw [SE.out.1]
  rw [HDK.out, SE.out.2] at hO4
  obtain ⟨g4, c4, rfl, hq4, hlt4, hL4, _⟩ := hO4.hasN N HN.out.symm (by rw [HNL.out]; omega)
  have hC4 := hO4.row (by rw [HN.out, HNL.out]; have := HPL.out; simp only [maxLen]; omega) HN.out.symm
  have HL1 := Lib.hid hL4
  clear hL4 hO4 hq4 hlt4
  have FP4 : Hid (RowC w4 lp lpl lpc p) := Lib.hid (FP3.out.below hb4)
  have FXa4 : Hid (Blk w4 w.heap.size (HC a) 23) := Lib.hid (FXa3.out.keep hb4)
  have FXd4 : Hid (Blk w4 (w.heap.size + 1) (HC d) 23) := Lib.hid (FXd3.out.keep hb4)
  have HB4 : Hid (Below w.heap.size w w4) := Lib.hid (HB3.out.later hb4 (Nat.le_refl _))
  clear FP3 FXa3 FXd3 HB3
  clear hb4
  have FM14 : Hid (Row8 w4 (some ⟨g4, 0, none⟩) N M) := Lib.hid (hC4)
  go_wp2_with (first
    | (refine wpList_load_row rfl 23 _ rfl (w.heap.size + 1) rfl 23 (HC d) (0, 0) _ FXd4.out Try.underlying23 rfl Sd.out ?_))
  refine calls_gen (fun w5 hw5 => ?_)
  have hb5 : Below w4.heap.size w4 w5 := by rw [hw5]; (first | exact Below.refl _ _ | exact (Below.refl _ _).next (Nat.le_refl _) _ | exact ((Below.refl _ _).next (Nat.le_refl _) _).next (Nat.le_refl _) _ | exact (((Below.refl _ _).next (Nat.le_refl _) _).next (Nat.le_refl _) _).next (Nat.le_refl _) _ | exact ((((Below.refl _ _).next (Nat.le_refl _) _).next (Nat.le_refl _) _).next (Nat.le_refl _) _).next (Nat.le_refl _) _ | exact below_drew1 (Below.refl _ _) | exact below_drew1 ((Below.refl _ _).next (Nat.le_refl _) _) | exact below_drew1 (((Below.refl _ _).next (Nat.le_refl _) _).next (Nat.le_refl _) _))
  have FP5 : Hid (RowC w5 lp lpl lpc p) := Lib.hid (FP4.out.below hb5)
  have FXa5 : Hid (Blk w5 w.heap.size (HC a) 23) := Lib.hid (FXa4.out.keep hb5)
  have FXd5 : Hid (Blk w5 (w.heap.size + 1) (HC d) 23) := Lib.hid (FXd4.out.keep hb5)
  have FM15 : Hid (Row8 w5 (some ⟨g4, 0, none⟩) N M) := Lib.hid (FM14.out.below hb5)
  have HB5 : Hid (Below w.heap.size w w5) := Lib.hid (HB4.out.later hb5 (Nat.le_refl _))
  clear FP4 FXa4 FXd4 FM14 HB4
  clear hb5 hw5
  refine (seal_any (powI 4 x) d Hd.out lp lpl lpc p _ FP5.out (by have := HPL.out; omega)).mono ?_
  rintro e w6 ⟨v6, rfl, hO6, hb6⟩
  rw [SE.out.1]
  rw [HDK.out, SE.out.2] at hO6
  obtain ⟨g6, c6, rfl, hq6, hlt6, hL6, _⟩ := hO6.hasN N HN.out.symm (by rw [HNL.out]; omega)
  have hC6 := hO6.row (by rw [HN.out, HNL.out]; have := HPL.out; simp only [maxLen]; omega) HN.out.symm
  have HL2 := Lib.hid hL6
  clear hL6 hO6 hq6 hlt6
  have FP6 : Hid (RowC w6 lp lpl lpc p) := Lib.hid (FP5.out.below hb6)
  have FXa6 : Hid (Blk w6 w.heap.size (HC a) 23) := Lib.hid (FXa5.out.keep hb6)
  have FXd6 : Hid (Blk w6 (w.heap.size + 1) (HC d) 23) := Lib.hid (FXd5.out.keep hb6)
  have FM16 : Hid (Row8 w6 (some ⟨g4, 0, none⟩) N M) := Lib.hid (FM15.out.below hb6)
  have HB6 : Hid (Below w.heap.size w w6) := Lib.hid (HB5.out.later hb6 (Nat.le_refl _))
  clear FP5 FXa5 FXd5 FM15 HB5
  clear hb6
  have FM26 : Hid (Row8 w6 (some ⟨g6, 0, none⟩) N M) := Lib.hid (hC6)
  have i1 : (4 : Int) ≤ (c4 : Int) := by have := HL1.out; omega
  go_wp2_with fail
  refine wp_gen (fun wr hwr => ?_)
  have FM1r : Hid (Row8 wr (some ⟨g4, 0, none⟩) N M) := Lib.hid (by rw [hwr]; exact FM16.out)
  have FM2r : Hid (Row8 wr (some ⟨g6, 0, none⟩) N M) := Lib.hid (by rw [hwr]; exact FM26.out)
  have FXdr : Hid (Blk wr (w.heap.size + 1) (HC d) 23) := Lib.hid (by rw [hwr]; exact FXd6.out)
  have FM4 : Hid (Row8 wr (some ⟨g4, 0, none⟩) 4 F) := Lib.hid (by have h := FM1r.out.sub 0 4 (by rw [HN.out, HNL.out]; omega); rw [HM4.out] at h; exact h)
  have hB0 : Below w.heap.size w wr := by rw [hwr]; exact HB6.out
  clear hwr FP6 FXa6 FXd6 FM16 FM26 HB6
  refine region_muts [] _ (Nat.le_refl _) (fun S vals wG => hasF 25 (isBlk wr.heap.size 5 4 (F)) S vals wG) [isV 0 (.int .i64 0), isV 1 (.bool true), isV 2 (.bool true), isV 3 (.int .i64 0), isV 4 (.bool true), isV 5 (.bool true), isV 6 (.bool true), isV 7 (.slice (some ⟨g4, 0, none⟩) N c4), isV 8 (.string (strB M)), isV 9 (.slice (some ⟨g6, 0, none⟩) N c6), isV 10 (.string (strB M)), isV 11 (.bool true), isV 12 (.bool true), isV 13 (.bool true), isV 14 (.slice (some ⟨g4, 0, none⟩) N c4), isV 15 (.int .i64 (N : Int)), isV 16 (.bool true), isV 17 (.bool true), isV 18 (.bool true), isV 19 (.slice (some ⟨g4, 0, none⟩) N c4), isV 20 (.slice (some ⟨g4, 0, none⟩) 4 c4), isV 21 (.string (strB F)), isV 22 (HV d), isV 23 (.agg #[.int .i64 dk, .int .i64 (powI 4 dk)]), isV 24 (.int .i64 (powI 4 dk)), anyV, isV 26 (.string (strB F)), isV 27 (.bool true), isV 28 (.bool true), isV 29 (.bool true), isV 30 (.bool true), isV 31 (.bool true), isV 32 (.bool true)]
    [[], [0], [1], [2], [2, 3], [2, 4], [5], [6], [6, 7], [6], [6, 9], [6, 8, 10], [6, 11], [12], [13], [13, 14], [13, 15], [13, 16], [17], [18], [18, 19], [18, 20], [18], [18, 22], [18, 23], [18, 24], [18, 25], [18, 21, 26], [18, 27], [28], [29], [29, 30], [31]] [some 32, some 33, some 34, some 35, some 36, some 37, some 38, some 39, some 40, some 41, some 42, some 43, some 44, some 45, some 46, some 47, some 48, some 49, some 50, some 51, some 52, some 53, some 54, some 55, some 56, some 57, some 58, some 59, some 60, some 61, some 62, some 63, some 6] _ (by kernel_rfl) (by kernel_rfl) (by kernel_rfl) (by kernel_rfl) (by kernel_rfl) rfl ?_ ?_ ?_ ?_
  · repeat (first | exact stT_nil | refine stT_cons (by first | exact stT_is _ _ | exact stT_as _ _ | exact stT_any | exact stT_lit _ _ _ _ _ (by decide) | exact stT_rowOf _ _ _ _ (by decide) (by decide)) ?_)
  · exact hasF.start _ _ _ _
  · intro hgz
    refine ⟨?_, ?_, ?_, ?_, ?_, ?_, ?_, ?_, ?_, ?_, ?_, ?_, ?_, ?_, ?_, ?_, ?_, ?_, ?_, ?_, ?_, ?_, ?_, ?_, ?_, ?_, ?_, ?_, ?_, ?_, ?_, ?_, ?_, trivial⟩ <;> intro S_ vals w1 hb hSi hdn hcl hG hf <;> obtain ⟨hb, hz⟩ := hgz w1 hb <;> simp [leans, factsOf, phi, sel_lit, sel_rowOf, isV, asV, anyV, sel] at hf <;> simp [putD, phi, Act.put]
    · -- 0 move 
      go_wp2
      exact ⟨rfl, rfl, .refl _ _ _, mk_is rfl, hG.keep (bm_blk _ _ _ _) _ 0 (by decide) (Below.refl _ _)⟩
    · -- 1 binOp 
      simp only [hf]; clear hf
      go_wp2
      exact ⟨rfl, rfl, .refl _ _ _, mk_is rfl, hG.keep (bm_blk _ _ _ _) _ 1 (by decide) (Below.refl _ _)⟩
    · -- 2 move 
      simp only [hf]; clear hf
      go_wp2
      exact ⟨rfl, rfl, .refl _ _ _, mk_is rfl, hG.keep (bm_blk _ _ _ _) _ 2 (by decide) (Below.refl _ _)⟩
    · -- 3 move if some (2, true)
      simp only [hf]; clear hf
      go_wp2
      exact ⟨rfl, rfl, .refl _ _ _, mk_is rfl, hG.keep (bm_blk _ _ _ _) _ 3 (by decide) (Below.refl _ _)⟩
    · -- 4 binOp if some (2, true)
      simp only [hf]; clear hf
      go_wp2
      exact ⟨rfl, rfl, .refl _ _ _, mk_is rfl, hG.keep (bm_blk _ _ _ _) _ 4 (by decide) (Below.refl _ _)⟩
    · -- 5 pick 
      simp only [hf]; clear hf
      go_wp2
      exact ⟨rfl, rfl, .refl _ _ _, mk_is rfl, hG.keep (bm_blk _ _ _ _) _ 5 (by decide) (Below.refl _ _)⟩
    · -- 6 move 
      simp only [hf]; clear hf
      go_wp2
      exact ⟨rfl, rfl, .refl _ _ _, mk_is rfl, hG.keep (bm_blk _ _ _ _) _ 6 (by decide) (Below.refl _ _)⟩
    · -- 7 move if some (6, true)
      simp only [hf]; clear hf
      go_wp2
      exact ⟨rfl, rfl, .refl _ _ _, mk_is rfl, hG.keep (bm_blk _ _ _ _) _ 7 (by decide) (Below.refl _ _)⟩
    · -- 8 convert if some (6, true)
      simp only [hf]; clear hf
      have kS := (FM1r.out.below hb.below).str (P := Try.prog) 24 9 5 c4 Try.underlying24 Try.underlying5 Try.underlying9
      go_wp2
      exact ⟨rfl, rfl, .refl _ _ _, mk_is rfl, hG.keep (bm_blk _ _ _ _) _ 8 (by decide) (Below.refl _ _)⟩
    · -- 9 move if some (6, true)
      simp only [hf]; clear hf
      go_wp2
      exact ⟨rfl, rfl, .refl _ _ _, mk_is rfl, hG.keep (bm_blk _ _ _ _) _ 9 (by decide) (Below.refl _ _)⟩
    · -- 10 convert if some (6, true)
      simp only [hf]; clear hf
      have kS := (FM2r.out.below hb.below).str (P := Try.prog) 24 9 5 c6 Try.underlying24 Try.underlying5 Try.underlying9
      go_wp2
      exact ⟨rfl, rfl, .refl _ _ _, mk_is rfl, hG.keep (bm_blk _ _ _ _) _ 10 (by decide) (Below.refl _ _)⟩
    · -- 11 binOp if some (6, true)
      simp only [hf]; clear hf
      go_wp2
      exact ⟨rfl, rfl, .refl _ _ _, mk_is rfl, hG.keep (bm_blk _ _ _ _) _ 11 (by decide) (Below.refl _ _)⟩
    · -- 12 pick 
      simp only [hf]; clear hf
      go_wp2
      exact ⟨rfl, rfl, .refl _ _ _, mk_is rfl, hG.keep (bm_blk _ _ _ _) _ 12 (by decide) (Below.refl _ _)⟩
    · -- 13 move 
      simp only [hf]; clear hf
      go_wp2
      exact ⟨rfl, rfl, .refl _ _ _, mk_is rfl, hG.keep (bm_blk _ _ _ _) _ 13 (by decide) (Below.refl _ _)⟩
    · -- 14 move if some (13, true)
      simp only [hf]; clear hf
      go_wp2
      exact ⟨rfl, rfl, .refl _ _ _, mk_is rfl, hG.keep (bm_blk _ _ _ _) _ 14 (by decide) (Below.refl _ _)⟩
    · -- 15 call if some (13, true)
      simp only [hf]; clear hf
      go_wp2
      exact ⟨rfl, rfl, .refl _ _ _, mk_is rfl, hG.keep (bm_blk _ _ _ _) _ 15 (by decide) (Below.refl _ _)⟩
    · -- 16 binOp if some (13, true)
      simp only [hf]; clear hf
      go_wp2
      exact ⟨rfl, rfl, .refl _ _ _, mk_is rfl, hG.keep (bm_blk _ _ _ _) _ 16 (by decide) (Below.refl _ _)⟩
    · -- 17 pick 
      simp only [hf]; clear hf
      go_wp2
      exact ⟨rfl, rfl, .refl _ _ _, mk_is rfl, hG.keep (bm_blk _ _ _ _) _ 17 (by decide) (Below.refl _ _)⟩
    · -- 18 move 
      simp only [hf]; clear hf
      go_wp2
      exact ⟨rfl, rfl, .refl _ _ _, mk_is rfl, hG.keep (bm_blk _ _ _ _) _ 18 (by decide) (Below.refl _ _)⟩
    · -- 19 move if some (18, true)
      simp only [hf]; clear hf
      go_wp2
      exact ⟨rfl, rfl, .refl _ _ _, mk_is rfl, hG.keep (bm_blk _ _ _ _) _ 19 (by decide) (Below.refl _ _)⟩
    · -- 20 slice if some (18, true)
      simp only [hf]; clear hf
      go_wp2
      exact ⟨rfl, rfl, .refl _ _ _, mk_is rfl, hG.keep (bm_blk _ _ _ _) _ 20 (by decide) (Below.refl _ _)⟩
    · -- 21 convert if some (18, true)
      simp only [hf]; clear hf
      have kS := (FM4.out.below hb.below).str (P := Try.prog) 24 9 5 c4 Try.underlying24 Try.underlying5 Try.underlying9
      go_wp2
      exact ⟨rfl, rfl, .refl _ _ _, mk_is rfl, hG.keep (bm_blk _ _ _ _) _ 21 (by decide) (Below.refl _ _)⟩
    · -- 22 load if some (18, true)
      simp only [hf]; clear hf
      refine one_wanted rfl ?_
      refine wpList_load_row rfl 23 _ rfl _ rfl 23 (HC d) (0, 0) _ (FXdr.out.keep hb.below) Try.underlying23 rfl Sd.out ?_
      exact ⟨rfl, rfl, .refl _ _ _, mk_is rfl, hG.keep (bm_blk _ _ _ _) _ 22 (by decide) (Below.refl _ _)⟩
    · -- 23 call curia/curiaref3.From if some (18, true)
      simp only [hf]; clear hf
      go_wp2_with (first | (go_at_call 18; refine (rfrom_k d Hd.out _).mono ?_; rintro e w' ⟨rfl, hb'⟩; rw [HDK.out]))
      exact ⟨rfl, rfl, GrowsT.of hb' hz, mk_is rfl, hG.keep (bm_blk _ _ _ _) _ 23 (by decide) hb'⟩
    · -- 24 field if some (18, true)
      simp only [hf]; clear hf
      go_wp2
      exact ⟨rfl, rfl, .refl _ _ _, mk_is rfl, hG.keep (bm_blk _ _ _ _) _ 24 (by decide) (Below.refl _ _)⟩
    · -- 25 call curia/curiaref3.Four if some (18, true)
      simp only [hf]; clear hf
      go_wp2_with (first | (go_at_call 21; refine (rfour_b (powI 4 dk) _).mono ?_; rintro e w' ⟨rfl, hk', hb'⟩; rw [HF.out] at hk'))
      exact ⟨rfl, rfl, GrowsT.of hb' hz, mk_any, hasF.new (⟨_, rfl, hz, hk'⟩)⟩
    · -- 26 convert if some (18, true)
      obtain ⟨g25, hv25, hg25, hk25⟩ := hG.get (hdn 25 (by decide))
      simp only [hf, hv25]
      have kS := (Row8.ofBlk hk25 (by rw [HFL.out]; decide) 4 HFL.out.symm).str (P := Try.prog) 24 9 5 4 Try.underlying24 Try.underlying5 Try.underlying9
      go_wp2
      exact ⟨rfl, rfl, .refl _ _ _, mk_is rfl, hG.keep (bm_blk _ _ _ _) _ 26 (by decide) (Below.refl _ _)⟩
    · -- 27 binOp if some (18, true)
      simp only [hf]; clear hf
      go_wp2
      exact ⟨rfl, rfl, .refl _ _ _, mk_is rfl, hG.keep (bm_blk _ _ _ _) _ 27 (by decide) (Below.refl _ _)⟩
    · -- 28 pick 
      simp only [hf]; clear hf
      go_wp2
      exact ⟨rfl, rfl, .refl _ _ _, mk_is rfl, hG.keep (bm_blk _ _ _ _) _ 28 (by decide) (Below.refl _ _)⟩
    · -- 29 move 
      simp only [hf]; clear hf
      go_wp2
      exact ⟨rfl, rfl, .refl _ _ _, mk_is rfl, hG.keep (bm_blk _ _ _ _) _ 29 (by decide) (Below.refl _ _)⟩
    · -- 30 call curia/curialaw5.known if some (29, true)
      simp only [hf]; clear hf
      go_wp2_with (first | (go_at_call 14; refine (known_seal _).mono ?_; rintro e w' ⟨rfl, hb'⟩))
      exact ⟨rfl, rfl, GrowsT.of hb' hz, mk_is rfl, hG.keep (bm_blk _ _ _ _) _ 30 (by decide) hb'⟩
    · -- 31 pick 
      simp only [hf]; clear hf
      go_wp2
      exact ⟨rfl, rfl, .refl _ _ _, mk_is rfl, hG.keep (bm_blk _ _ _ _) _ 31 (by decide) (Below.refl _ _)⟩
    · -- 32 assign 
      simp only [hf]; clear hf
      go_wp2
      exact ⟨rfl, rfl, .refl _ _ _, mk_is rfl, hG.keep (bm_blk _ _ _ _) _ 32 (by decide) (Below.refl _ _)⟩
  · intro vals w1 hb hG hf; simp [leans, List.range, List.range.loop, factsOf, phi, sel_lit, sel_rowOf, isV, asV, anyV, sel] at hf; simp [putD, List.range, List.range.loop, Act.put, hf]
    have HB6 := Lib.hid (hB0.later (hb.below.mono (Nat.le_refl _)) (Nat.le_refl _))
    clear hG hb hf hB0
    go_wp2
    go_ret
    exact ⟨rfl, HB6.out⟩
end Go.Proofs.Ytaaidjncbcildaa
