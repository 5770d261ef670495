/-
  The laws over package sign: what they take for known.
-/
import Derived.Test.YtmijaghaombbpaaSignR
import Derived.Test.YtmijaghaombbpaaPairMath
import Derived.Test.YtmijaghaombbpaaStr
namespace Go.Proofs.Ytmijaghaombbpaa
set_option maxRecDepth 100000
open Go.RowKit Pm
set_option linter.unusedVariables false
set_option linter.unusedSimpArgs false
attribute [local go_sem] eqh_guard key_y key_x

theorem lit_mark (w : World) (bs : List UInt8) (cs : Array Value) (hcs : cs = HC bs) (t : TypeId) (n : Nat) :
    Below w.heap.size w ((w.alloc (.cells cs t)).freeze ⟨w.heap.size, n, none⟩ 1) ∧ ∃ fr, ((w.alloc (.cells cs t)).freeze ⟨w.heap.size, n, none⟩ 1).heap[w.heap.size]? = some (.cells (HC bs) t fr) := by
  subst hcs
  have h := Grows.freeze (B := w.heap.size) (w.alloc (.cells (HC bs) t)) w.heap.size n 1 (Nat.le_refl _)
  exact ⟨((Below.refl _ w).next (Nat.le_refl _) _).trans h.below, h.marks _ _ _ _ (Blk.new w (HC bs) t)⟩
theorem Arg8.ofCells {w : World} {g n : Nat} {bs : List UInt8} {t : TypeId} {fr : Nat × Nat} (h : w.heap[g]? = some (.cells (HC bs) t fr)) (hn : n = bs.length) (hs : bs.length ≤ 1000) : Arg8 w (some ⟨g, 0, none⟩) n n bs :=
  ⟨Row8.ofCells h hn (by simp only [maxLen]; omega), (fun e => by cases e), Nat.le_refl _, by omega⟩
/-- seven, and thirty-one noughts -/
def sev32 : Array Value := #[.int .u8 7, .int .u8 0, .int .u8 0, .int .u8 0, .int .u8 0, .int .u8 0, .int .u8 0, .int .u8 0, .int .u8 0, .int .u8 0, .int .u8 0, .int .u8 0, .int .u8 0, .int .u8 0, .int .u8 0, .int .u8 0, .int .u8 0,
  .int .u8 0, .int .u8 0, .int .u8 0, .int .u8 0, .int .u8 0, .int .u8 0, .int .u8 0, .int .u8 0, .int .u8 0, .int .u8 0, .int .u8 0, .int .u8 0, .int .u8 0, .int .u8 0, .int .u8 0]
def sevs : List UInt8 := 7 :: List.replicate 31 0
theorem sev32_HC : sev32 = HC sevs := by rfl
theorem from_sev (w : World) :
    Calls Try.prog 11 #[.agg sev32] w fun e w' => ∃ g, e = .returned (.pointer (some ⟨g, 0, none⟩)) ∧ w.heap.size ≤ g ∧ Blk w' g (CD (keyS sevs) false 0) 59 ∧ Below w.heap.size w w' := by
  rw [sev32_HC]; exact from_k sevs rfl w
theorem rfrom_sev (w : World) :
    Calls Try.prog 12 #[.agg sev32] w fun e w' => e = .returned (.agg #[.int .i64 (keyS sevs), .int .i64 (powI 4 (keyS sevs))]) ∧ Below w.heap.size w w' := by
  rw [sev32_HC]; exact rfrom_k sevs rfl w

set_option maxHeartbeats 2000000 in
theorem known_sign (w : World) : Calls Try.prog 16 #[] w fun e w' => e = .returned (.bool true) ∧ Below w.heap.size w w' := by
  obtain ⟨s, hs⟩ : ∃ s, keyS sevs = s := ⟨_, rfl⟩
  have hbd := keyS_bd sevs
  rw [hs] at hbd
  have hver := verW_own s [120] hbd
  obtain ⟨E, hE⟩ : ∃ E, sigE s [120] = E := ⟨_, rfl⟩
  obtain ⟨F, hF⟩ : ∃ F, sigS s [120] = F := ⟨_, rfl⟩
  rw [hE, hF] at hver
  have HS := Lib.hid hs; have BS := Lib.hid hbd; have HV := Lib.hid hver; have HE := Lib.hid hE; have HF := Lib.hid hF
  clear hs hbd hver hE hF
  go_enter Try.func16, Try.ntmps16
  go_wp2_with fail
  refine (from_sev _).mono ?_
  rintro e w1 ⟨g, rfl, hg1, hk1, hb1⟩
  rw [HS.out] at hk1
  have HG1 := Lib.hid hg1; have HK1 := Lib.hid hk1; have HB1 := Lib.hid hb1
  clear hg1 hk1 hb1
  have kc := run_convert_mark (P := Try.prog) (w1.alloc (.cells #[.int .u8 120] 5)) 24 5 w1.heap.size 1 1 #[.int .u8 120] 5 (0, 0) Try.underlying24 Try.underlying5 (Blk.new _ _ _)
  go_wp2_with fail
  refine calls_gen (fun w2 hw2 => ?_)
  obtain ⟨hbl, frp, hpl⟩ := lit_mark w1 [120] #[.int .u8 120] rfl 5 1
  have hbl2 : Below w1.heap.size w1 w2 := by rw [hw2]; exact hbl
  have hpl2 : w2.heap[w1.heap.size]? = some (.cells (HC [120]) 5 frp) := by rw [hw2]; exact hpl
  have HK2 := Lib.hid (HK1.out.keep hbl2); have HB2 := Lib.hid (HB1.out.later hbl2 (Nat.le_refl _)); have HP2 := Lib.hid (Arg8.ofCells hpl2 rfl (by decide))
  clear hw2 hbl hpl hbl2 hpl2 kc HK1 HB1
  refine (sign_st g s 0 false BS.out _ 1 1 [120] _ HK2.out HP2.out).mono ?_
  rintro e w3 ⟨rfl, hk3, hg3⟩
  rw [HE.out, HF.out]
  have hb3 := below_grown HB2.out hg3 HG1.out HB2.out.size
  have HK3 := Lib.hid hk3; have HB3 := Lib.hid hb3
  clear hk3 hg3 hb3 HK2 HB2 HP2
  go_wp2_with fail
  refine wp_gen (fun wr hwr => ?_)
  have hT : Blk wr w3.heap.size #[.int .i64 E, .int .i64 F] 31 := by rw [hwr]; exact Blk.new _ _ _
  have hB0 : Below w.heap.size w wr := by rw [hwr]; exact HB3.out.next (Nat.le_refl _) _
  have hK : Blk wr g (CD s true 0) 59 := by rw [hwr]; exact HK3.out.alloc _
  have HT := Lib.hid hT; have HK := Lib.hid hK
  clear hwr hT hK HK3 HB3
  -- REGION
  refine region_grows _ (Nat.le_refl _) [isV 0 (.pointer (some ⟨g, 0, none⟩)), isV 1 (.bool true), isV 2 (.bool true), isV 3 (.agg #[.int .i64 E, .int .i64 F]), isV 4 (.agg sev32), isV 5 (.agg #[.int .i64 s, .int .i64 (powI 4 s)]), litV wr.heap.size 6 1 [120] 5, litV wr.heap.size 7 1 [120] 5, isV 8 (.agg #[.int .i64 E, .int .i64 F]), isV 9 (.bool true), isV 10 (.bool true), isV 11 (.bool true), isV 12 (.pointer (some ⟨g, 0, none⟩)), isV 13 (.int .i64 (powI 4 s)), litV wr.heap.size 14 1 [120] 5, litV wr.heap.size 15 1 [120] 5, isV 16 (.agg #[.int .i64 E, .int .i64 F]), isV 17 (.bool true), isV 18 (.bool true), isV 19 (.bool true)]
    [[], [0], [1], [2], [2], [2, 4], [2], [2, 6], [2, 5, 7], [2, 3, 8], [2, 9], [10], [11], [11, 12], [11], [11, 14], [11], [11, 13, 15, 16], [11, 17], [18]] [some 9, some 10, some 11, some 12, some 13, some 14, some 15, some 16, some 17, some 18, some 19, some 20, some 21, some 22, some 23, some 24, some 25, some 26, some 27, some 0] _ (by kernel_rfl) (by kernel_rfl) (by kernel_rfl) (by kernel_rfl) (by kernel_rfl) rfl ?_ ?_ ?_
  · repeat (first | exact st_nil | refine st_cons (by first | exact st_is _ _ | exact st_as _ _ | exact st_row _ _ _ | exact st_rows _ _ _ | exact st_lit _ _ _ _ _ | exact st_args _ _ _ | exact st_bytes _ _) ?_)
  · intro hgz
    refine ⟨?_, ?_, ?_, ?_, ?_, ?_, ?_, ?_, ?_, ?_, ?_, ?_, ?_, ?_, ?_, ?_, ?_, ?_, ?_, ?_, trivial⟩ <;> intro vals w1 hb hf <;> obtain ⟨hb, hz⟩ := hgz w1 hb <;> simp [leans, factsOf, phi, sel_lit, sel_row, sel_rows, sel_args, sel_bytes, isV, asV, sel] at hf <;> simp [putD, phi, Act.put]
    · -- 0 move 
      go_wp2
      exact ⟨rfl, rfl, .refl _ _, mk_is rfl⟩
    · -- 1 binOp 
      simp only [hf]; clear hf
      go_wp2
      exact ⟨rfl, rfl, .refl _ _, mk_is rfl⟩
    · -- 2 move 
      simp only [hf]; clear hf
      go_wp2
      exact ⟨rfl, rfl, .refl _ _, mk_is rfl⟩
    · -- 3 load if some (2, true)
      simp only [hf]; clear hf
      have cL0 : w1.cell? ⟨w3.heap.size, 0, none⟩ = some (.int .i64 E) := (HT.out.keep hb.below).cell 0
      have cL1 : w1.cell? ⟨w3.heap.size, 1, none⟩ = some (.int .i64 F) := (HT.out.keep hb.below).cell 1
      go_wp2
      exact ⟨rfl, rfl, .refl _ _, mk_is rfl⟩
    · -- 4 build if some (2, true)
      simp only [hf]; clear hf
      go_wp2
      exact ⟨rfl, rfl, .refl _ _, mk_is rfl⟩
    · -- 5 call curia/curiaref3.From if some (2, true)
      simp only [hf]; clear hf
      go_wp2_with (first | (go_at_call 12; refine (rfrom_sev _).mono ?_; rintro e w' ⟨rfl, hb'⟩; rw [HS.out]))
      exact ⟨rfl, rfl, Grows.of hb' hz, mk_is rfl⟩
    · -- 6 buildSlice if some (2, true)
      simp only [hf]; clear hf
      go_wp2
      exact ⟨rfl, rfl, Grows.alloc _ _ hz, mk_lit w1.heap.size (0, 0) hz rfl (heap_alloc_new w1 _)⟩
    · -- 7 convert if some (2, true)
      obtain ⟨e2, g6, fr6, hg6, e6, hblk6⟩ := hf
      simp only [e2, e6]
      have kc := run_convert_mark (P := Try.prog) w1 24 5 g6 1 1 _ _ fr6 Try.underlying24 Try.underlying5 hblk6
      obtain ⟨fr', h'⟩ := (Grows.freeze w1 g6 (HC [120]).size 1 hg6).marks _ _ _ _ hblk6
      go_wp2
      exact ⟨rfl, rfl, Grows.freeze _ _ _ _ hg6, mk_lit g6 fr' hg6 rfl h'⟩
    · -- 8 call curia/curiaref4.Sign if some (2, true)
      obtain ⟨e2, e5, g7, fr7, hg7, e7, hblk7⟩ := hf
      simp only [e2, e5, e7]
      go_wp2_with (first | (go_at_call 14; refine (rsign_any s BS.out _ 1 1 [120] _ (Arg8.ofCells hblk7 rfl (by decide))).mono ?_; rintro e w' ⟨rfl, hb'⟩; rw [HE.out, HF.out]))
      exact ⟨rfl, rfl, Grows.of hb' hz, mk_is rfl⟩
    · -- 9 binOp if some (2, true)
      simp only [hf]; clear hf
      go_wp2
      exact ⟨rfl, rfl, .refl _ _, mk_is rfl⟩
    · -- 10 pick 
      simp only [hf]; clear hf
      go_wp2
      exact ⟨rfl, rfl, .refl _ _, mk_is rfl⟩
    · -- 11 move 
      simp only [hf]; clear hf
      go_wp2
      exact ⟨rfl, rfl, .refl _ _, mk_is rfl⟩
    · -- 12 move if some (11, true)
      simp only [hf]; clear hf
      go_wp2
      exact ⟨rfl, rfl, .refl _ _, mk_is rfl⟩
    · -- 13 call (*curia/pair.Key).Public if some (11, true)
      simp only [hf]; clear hf
      go_wp2_with (first | (go_at_call 27; refine (public_done g s 0 _ (HK.out.keep hb.below)).mono ?_; rintro e w' ⟨rfl, hb'⟩))
      exact ⟨rfl, rfl, Grows.of hb' hz, mk_is rfl⟩
    · -- 14 buildSlice if some (11, true)
      simp only [hf]; clear hf
      go_wp2
      exact ⟨rfl, rfl, Grows.alloc _ _ hz, mk_lit w1.heap.size (0, 0) hz rfl (heap_alloc_new w1 _)⟩
    · -- 15 convert if some (11, true)
      obtain ⟨e11, g14, fr14, hg14, e14, hblk14⟩ := hf
      simp only [e11, e14]
      have kc := run_convert_mark (P := Try.prog) w1 24 5 g14 1 1 _ _ fr14 Try.underlying24 Try.underlying5 hblk14
      obtain ⟨fr', h'⟩ := (Grows.freeze w1 g14 (HC [120]).size 1 hg14).marks _ _ _ _ hblk14
      go_wp2
      exact ⟨rfl, rfl, Grows.freeze _ _ _ _ hg14, mk_lit g14 fr' hg14 rfl h'⟩
    · -- 16 load if some (11, true)
      simp only [hf]; clear hf
      have cL0 : w1.cell? ⟨w3.heap.size, 0, none⟩ = some (.int .i64 E) := (HT.out.keep hb.below).cell 0
      have cL1 : w1.cell? ⟨w3.heap.size, 1, none⟩ = some (.int .i64 F) := (HT.out.keep hb.below).cell 1
      go_wp2
      exact ⟨rfl, rfl, .refl _ _, mk_is rfl⟩
    · -- 17 call curia/sign.Verify if some (11, true)
      obtain ⟨e11, e13, ⟨g15, fr15, hg15, e15, hblk15⟩, e16⟩ := hf
      simp only [e11, e13, e15, e16]
      go_wp2_with (first | (go_at_call 15; refine (verify_any (powI 4 s) E F _ 1 1 [120] _ (Arg8.ofCells hblk15 rfl (by decide))).mono ?_; rintro e w' ⟨rfl, hb'⟩; rw [HV.out]))
      exact ⟨rfl, rfl, Grows.of hb' hz, mk_is rfl⟩
    · -- 18 pick 
      simp only [hf]; clear hf
      go_wp2
      exact ⟨rfl, rfl, .refl _ _, mk_is rfl⟩
    · -- 19 assign 
      simp only [hf]; clear hf
      go_wp2
      exact ⟨rfl, rfl, .refl _ _, mk_is rfl⟩
  · intro vals w1 hb hf; simp [leans, List.range, List.range.loop, factsOf, phi, sel_lit, sel_row, sel_rows, sel_args, sel_bytes, isV, asV, sel] at hf; simp [putD, List.range, List.range.loop, Act.put, hf]
    go_wp2
    go_ret
    exact ⟨rfl, hB0.lift hb.below hB0.size⟩
end Go.Proofs.Ytmijaghaombbpaa
