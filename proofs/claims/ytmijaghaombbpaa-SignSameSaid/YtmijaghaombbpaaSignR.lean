/-
  Signatures: the walk of the document's Sign.
-/
import Derived.Test.YtmijaghaombbpaaVerify
namespace Go.Proofs.Ytmijaghaombbpaa
set_option maxRecDepth 100000
open Go.RowKit Pm
set_option linter.unusedVariables false
set_option linter.unusedSimpArgs false

set_option maxHeartbeats 1600000 in
theorem rsign_any (s : Int) (hs : 1 ≤ s ∧ s < 1073741789) (a : Option Addr) (l c : Nat) (p : List UInt8) (w : World) (hp : Arg8 w a l c p) :
    Calls Try.prog 14 #[.agg #[.int .i64 s, .int .i64 (powI 4 s)], .slice a l c] w fun e w' => e = .returned (.agg #[.int .i64 (sigE s p), .int .i64 (sigS s p)]) ∧ Below w.heap.size w w' := by
  obtain ⟨q, hq⟩ : ∃ q, [fourB s, p].flatten = q := ⟨_, rfl⟩
  obtain ⟨d, hd⟩ : ∃ d, deriveW (List.replicate 32 0) (sb ⟨#[110, 111, 110, 99, 101]⟩) q = d := ⟨_, rfl⟩
  have hdl : d.length = 32 := by rw [← hd]; exact sumW_length _
  obtain ⟨r, hr⟩ : ∃ r, U (numN d 8) % 1073741788 + 1 = r := ⟨_, rfl⟩
  have hrn : nonceW s p = r := by rw [← hr, ← hd, ← hq]; rfl
  have hrb := nonceW_bd s p
  rw [hrn] at hrb
  obtain ⟨E, hE⟩ : ∃ E, askW (powI 4 r) (powI 4 s) p = E := ⟨_, rfl⟩
  have hEn : sigE s p = E := by rw [← hE, ← hrn]; rfl
  have hEb := sigE_bd s p
  rw [hEn] at hEb
  have hSn : sigS s p = (r + E * s) % 1073741789 := by rw [← hEn, ← hrn]; rfl
  rw [hEn, hSn]
  have hm : 0 ≤ E * s ∧ E * s ≤ 1152921504606846976 := by
    refine ⟨Int.mul_nonneg hEb.1 (by omega), ?_⟩
    have h1 : E * s ≤ 1073741824 * 1073741824 := Int.mul_le_mul (by omega) (by omega) (by omega) (by omega)
    omega
  have hql : q.length ≤ 140737488353000 := by
    have h1 := hp.le; have h2 := hp.small; have h3 := hp.row.len_eq
    rw [← hq]; simp [fourB]; omega
  have HD := Lib.hid hd; have HDL := Lib.hid hdl; have HR := Lib.hid hr; have HE := Lib.hid hE; have HM := Lib.hid hm; have HRB := Lib.hid hrb; have HQ := Lib.hid hq; have HQL := Lib.hid hql
  have HP := Lib.hid hp; have HS := Lib.hid hs
  have hX0 : Blk (w.alloc (.cells #[.int .i64 s, .int .i64 (powI 4 s)] 28)) w.heap.size #[.int .i64 s, .int .i64 (powI 4 s)] 28 := Blk.new w _ _
  have hX1 := hX0.alloc (.cells #[.int .i64 0, .int .i64 0] 31)
  have cX : ((w.alloc (.cells #[.int .i64 s, .int .i64 (powI 4 s)] 28)).alloc (.cells #[.int .i64 0, .int .i64 0] 31)).cell? ⟨w.heap.size, 0, none⟩ = some (.int .i64 s) := hX1.cell 0
  have HX1 := Lib.hid hX1
  clear hd hdl hr hrn hE hEn hEb hSn hm hrb hp hs hq hql hX0 hX1
  go_enter Try.func14, Try.ntmps14
  go_wp2_with fail
  refine calls_gen (fun w0 hw0 => ?_)
  have hT0 : Blk w0 (w.heap.size + 1) #[.int .i64 0, .int .i64 0] 31 := by rw [hw0]; exact Blk.newAt _ _ (by simp)
  have hX0 : Blk w0 w.heap.size #[.int .i64 s, .int .i64 (powI 4 s)] 28 := by rw [hw0]; exact HX1.out
  have hb0 : Below w.heap.size w w0 := by rw [hw0]; exact ((Below.refl _ _).next (Nat.le_refl _) _).next (Nat.le_refl _) _
  have HT0 := Lib.hid hT0; have HX0 := Lib.hid hX0; have HB0 := Lib.hid hb0; have HP0 := Lib.hid (HP.out.below hb0)
  clear hw0 hT0 hX0 hb0 cX HX1
  refine (rfour_b s _).mono ?_
  rintro e w1 ⟨rfl, hF1, hb1⟩
  have HF1 := Lib.hid hF1; have HB1 := Lib.hid (HB0.out.later hb1 (Nat.le_refl _)); have HP1 := Lib.hid (HP0.out.below hb1); have HT1 := Lib.hid (HT0.out.keep hb1); have HX1 := Lib.hid (HX0.out.keep hb1)
  clear hF1 hb1 HB0 HP0 HT0 HX0
  go_wp2_with fail
  refine (rjoin_any _ 2 2 [fourB s, p] _ (ArgR.two (Arg8.ofBlk HF1.out rfl (by simp [fourB])) HP1.out) (by have h1 := HQL.out; rw [HQ.out]; omega)).mono ?_
  rintro e w2 ⟨⟨a2, c2, rfl, hr2, hn2⟩, hb2⟩
  rw [HQ.out] at hr2 ⊢
  have hbq := ((Below.refl _ w1).next (Nat.le_refl _) (.cells #[.slice (some ⟨w0.heap.size, 0, none⟩) 4 4, .slice a l c] 24)).later hb2 (Nat.le_refl _)
  have HB2 := Lib.hid (HB1.out.later hbq (Nat.le_refl _)); have HP2 := Lib.hid (HP1.out.below hbq); have HT2 := Lib.hid (HT1.out.keep hbq); have HX2 := Lib.hid (HX1.out.keep hbq); have HR2 := Lib.hid hr2; have HN2 := Lib.hid hn2
  clear hb2 hbq hr2 hn2 HB1 HP1 HT1 HX1 HF1
  go_wp2_with fail
  refine (rderive_zero ⟨#[110, 111, 110, 99, 101]⟩ a2 _ c2 q _ HR2.out HN2.out (by have h1 := HQL.out; simp [ByteArray.size]; omega)).mono ?_
  rintro e w3 ⟨rfl, hb3⟩
  rw [HD.out]
  have HB3 := Lib.hid (HB2.out.later hb3 (Nat.le_refl _)); have HP3 := Lib.hid (HP2.out.below hb3); have HT3 := Lib.hid (HT2.out.keep hb3); have HX3 := Lib.hid (HX2.out.keep hb3)
  clear hb3 HB2 HP2 HT2 HX2 HR2 HN2
  go_wp2_with fail
  refine (rscalar_any d HDL.out _).mono ?_
  rintro e w4 ⟨rfl, hb4⟩
  rw [HR.out]
  have HB4 := Lib.hid (HB3.out.later hb4 (Nat.le_refl _)); have HP4 := Lib.hid (HP3.out.below hb4); have HT4 := Lib.hid (HT3.out.keep hb4); have HX4 := Lib.hid (HX3.out.keep hb4)
  clear hb4 HB3 HP3 HT3 HX3
  go_wp2_with fail
  refine wp_gen (fun wr hwr => ?_)
  have HB5 : Hid (Below w.heap.size w wr) := Lib.hid (by rw [hwr]; exact HB4.out)
  have HP3 : Hid (Arg8 wr a l c p) := Lib.hid (by rw [hwr]; exact HP4.out)
  have HT5 : Hid (Blk wr (w.heap.size + 1) #[.int .i64 0, .int .i64 0] 31) := Lib.hid (by rw [hwr]; exact HT4.out)
  have HX5 : Hid (Blk wr w.heap.size #[.int .i64 s, .int .i64 (powI 4 s)] 28) := Lib.hid (by rw [hwr]; exact HX4.out)
  have HCY : Hid (wr.cell? ⟨w.heap.size, 1, none⟩ = some (.int .i64 (powI 4 s))) := Lib.hid (HX5.out.cell 1)
  clear hwr HB4 HP4 HT4 HX4
  refine region_grows _ (Nat.le_refl _) [isV 0 (.int .i64 r), isV 1 (.int .i64 (powI 4 r)), isV 2 (.pointer (some ⟨w.heap.size, 1, none⟩)), isV 3 (.int .i64 (powI 4 s)), isV 4 (.slice a l c), isV 5 (.int .i64 E), isV 6 (.int .i64 E)]
    [[], [0], [], [2], [], [1, 3, 4], [5]] [some 16, some 17, some 18, some 19, some 20, some 21, some 6] _ (by kernel_rfl) (by kernel_rfl) (by kernel_rfl) (by kernel_rfl) (by kernel_rfl) rfl ?_ ?_ ?_
  · repeat (first | exact st_nil | refine st_cons (by first | exact st_is _ _ | exact st_as _ _ | exact st_row _ _ _ | exact st_rows _ _ _ | exact st_lit _ _ _ _ _ | exact st_args _ _ _ | exact st_bytes _ _) ?_)
  · intro hgz
    refine ⟨?_, ?_, ?_, ?_, ?_, ?_, ?_, trivial⟩ <;> intro vals w1 hb hf <;> obtain ⟨hb, hz⟩ := hgz w1 hb <;> simp [leans, factsOf, phi, sel_lit, sel_row, sel_rows, sel_args, sel_bytes, isV, asV, sel] at hf <;> simp [putD, phi, Act.put]
    · -- 0 move 
      go_wp2
      exact ⟨rfl, rfl, .refl _ _, mk_is rfl⟩
    · -- 1 call curia/curiaref2.Pow 
      simp only [hf]; clear hf
      go_wp2_with (first | (go_at_call 19; refine (rpow_any 4 r _).mono ?_; rintro e w' ⟨rfl, rfl⟩))
      exact ⟨rfl, rfl, .refl _ _, mk_is rfl⟩
    · -- 2 fieldAddr 
      go_wp2
      exact ⟨rfl, rfl, .refl _ _, mk_is rfl⟩
    · -- 3 load 
      simp only [hf]; clear hf
      have cY := (hb.below.cell (block_lt_of_cell HCY.out)).trans HCY.out
      go_wp2
      exact ⟨rfl, rfl, .refl _ _, mk_is rfl⟩
    · -- 4 move 
      go_wp2
      exact ⟨rfl, rfl, .refl _ _, mk_is rfl⟩
    · -- 5 call curia/curiaref4.number 
      simp only [hf]; clear hf
      go_wp2_with (first | (go_at_call 31; refine (rasked_any (powI 4 r) (powI 4 s) a l c p _ (HP3.out.below hb.below)).mono ?_; rintro e w' ⟨rfl, hb'⟩; rw [HE.out]))
      exact ⟨rfl, rfl, Grows.of hb' hz, mk_is rfl⟩
    · -- 6 assign 
      simp only [hf]; clear hf
      go_wp2
      exact ⟨rfl, rfl, .refl _ _, mk_is rfl⟩
  · intro vals w1 hb hf; simp [leans, List.range, List.range.loop, factsOf, phi, sel_lit, sel_row, sel_rows, sel_args, sel_bytes, isV, asV, sel] at hf; simp [putD, List.range, List.range.loop, Act.put, hf]
    have hT5 := HT5.out.keep hb.below
    have hX5 := HX5.out.keep hb.below
    have cX : w1.cell? ⟨w.heap.size, 0, none⟩ = some (.int .i64 s) := hX5.cell 0
    have c0 : w1.cell? ⟨w.heap.size + 1, 0, none⟩ = some (.int .i64 0) := hT5.cell 0
    have c1 : w1.cell? ⟨w.heap.size + 1, 1, none⟩ = some (.int .i64 0) := hT5.cell 1
    have f0 := hT5.frozen 0
    have f1 := hT5.frozen 1
    have HB6 := Lib.hid (HB5.out.later hb.below (Nat.le_refl _)); have HT6 := Lib.hid hT5
    have hm0 := HM.out.1
    have hm1 := HM.out.2
    have hr0 := HRB.out.1
    have hr1 := HRB.out.2
    have hw1 : IntKind.i64.wrap (E * s) = E * s := IntWalk.i64_in _ (by omega)
    have hw2 : IntKind.i64.wrap (r + E * s) = r + E * s := IntWalk.i64_in _ (by omega)
    have hw3 : Int.tmod (r + E * s) 1073741789 = (r + E * s) % 1073741789 := Int.tmod_eq_emod_of_nonneg (by omega)
    have hw4 : IntKind.i64.wrap ((r + E * s) % 1073741789) = (r + E * s) % 1073741789 := IntWalk.i64_in _ (by omega)
    clear hb hf hT5 hX5 hm0 hm1 hr0 hr1 HB5 HP3 HX5
    go_wp2
    have hT7 : Blk ((w1.setCell ⟨w.heap.size + 1, 0, none⟩ (.int .i64 E)).setCell ⟨w.heap.size + 1, 1, none⟩ (.int .i64 ((r + E * s) % 1073741789))) (w.heap.size + 1) #[.int .i64 E, .int .i64 ((r + E * s) % 1073741789)] 31 := ((HT6.out.set 0 _).set 1 _).copy rfl
    have hg7 : w1.grownBy ((w1.setCell ⟨w.heap.size + 1, 0, none⟩ (.int .i64 E)).setCell ⟨w.heap.size + 1, 1, none⟩ (.int .i64 ((r + E * s) % 1073741789))) (some (w.heap.size + 1)) := grown_setCell (grown_setCell (grown_refl _ _) 0 _) 1 _
    exact bodyPost_ret (v := .agg #[.int .i64 E, .int .i64 ((r + E * s) % 1073741789)]) (results_cell_row rfl _ _ (w.heap.size + 1) _ #[.int .i64 E, .int .i64 ((r + E * s) % 1073741789)] (0, 0) _ rfl hT7 Try.underlying31 rfl (by kernel_rfl)) rfl
      ⟨rfl, below_grown HB6.out hg7 (by omega) HB6.out.size⟩
end Go.Proofs.Ytmijaghaombbpaa
