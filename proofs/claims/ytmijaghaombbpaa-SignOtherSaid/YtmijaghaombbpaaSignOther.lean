/-
  The law SignOther, walked.
-/
import Derived.Test.YtmijaghaombbpaaSignLaws
import Derived.Test.YtmijaghaombbpaaMuts2
import Derived.Test.YtmijaghaombbpaaOpenI
namespace Go.Proofs.Ytmijaghaombbpaa
set_option maxRecDepth 100000
open Go.RowKit Pm
set_option linter.unusedVariables false
set_option linter.unusedSimpArgs false
attribute [local go_sem] eqh_guard key_y key_x

set_option maxRecDepth 100000 in
set_option maxHeartbeats 4000000 in
theorem signOther_walk {w : World} (a : List UInt8) (ha : a.length = 32) (b : List UInt8) (hb : b.length = 32) (la : Option Addr) (ll lc : Nat) (p : List UInt8) (hp : Arg8 w la ll lc p) (lb : Option Addr) (lbl lbc : Nat) (pq : List UInt8) (hpq : Arg8 w lb lbl lbc pq) :
    Calls Try.prog 9 #[HV a, HV b, .slice la ll lc, .slice lb lbl lbc] w fun e w' => e = .returned (.bool true) ∧ Below w.heap.size w w' := by
  have hsz : (Try.prog.info? 23).map (·.size) = some (HC a).size := by rw [HC_size, ha]; kernel_rfl
  have hszb : (Try.prog.info? 23).map (·.size) = some (HC b).size := by rw [HC_size, hb]; kernel_rfl
  obtain ⟨s, hs⟩ : ∃ s, keyS a = s := ⟨_, rfl⟩
  obtain ⟨r, hr⟩ : ∃ r, keyS b = r := ⟨_, rfl⟩
  have hbs := keyS_bd a
  rw [hs] at hbs
  obtain ⟨b1, hv1⟩ : ∃ b1, verW (powI 4 r) p (sigE s p) (sigS s p) = b1 := ⟨_, rfl⟩
  obtain ⟨b2, hv2⟩ : ∃ b2, verW (powI 4 s) pq (sigE s p) (sigS s p) = b2 := ⟨_, rfl⟩
  have hle := hp.le
  have hsm := hp.small
  have hle2 := hpq.le
  have hsm2 := hpq.small
  have HA := Lib.hid ha; have HBB := Lib.hid hb; have S1 := Lib.hid hsz; have S2 := Lib.hid hszb; have HS := Lib.hid hs; have HRR := Lib.hid hr; have BS := Lib.hid hbs
  have HP := Lib.hid hp; have HPQ := Lib.hid hpq
  clear ha hb hsz hszb hs hr hbs hp hpq
  unfold HV
  obtain ⟨E, hE⟩ : ∃ E, sigE s p = E := ⟨_, rfl⟩
  obtain ⟨F, hF⟩ : ∃ F, sigS s p = F := ⟨_, rfl⟩
  have hver := verW_own s p BS.out
  have hEb := sigE_bd s p
  have hFb := sigS_bd s p
  rw [hE, hF] at hver
  rw [hE] at hEb
  rw [hF] at hFb
  rw [hE, hF] at hv1 hv2
  have HV1 := Lib.hid hv1; have HV2 := Lib.hid hv2
  clear hv1 hv2
  have HVER := Lib.hid hver; have HE := Lib.hid hE; have HF := Lib.hid hF; have HEB := Lib.hid hEb; have HFB := Lib.hid hFb
  clear hver hE hF hEb hFb
  by_cases h1 : ((ll : Int) > 300)
  · go_enter Try.func9, Try.ntmps9
    go_wp2
    go_ret
    exact ⟨rfl, ((Below.refl _ _).next (Nat.le_refl _) _).next (Nat.le_refl _) _⟩
  by_cases h2 : ((lbl : Int) > 300)
  · go_enter Try.func9, Try.ntmps9
    go_wp2
    go_ret
    exact ⟨rfl, ((Below.refl _ _).next (Nat.le_refl _) _).next (Nat.le_refl _) _⟩
  have hX0 : Blk ((w.alloc (.cells (HC a) 23)).alloc (.cells (HC b) 23)) w.heap.size (HC a) 23 := (Blk.new w _ _).alloc _
  have hY0 : Blk ((w.alloc (.cells (HC a) 23)).alloc (.cells (HC b) 23)) (w.heap.size + 1) (HC b) 23 := Blk.newAt _ _ (by simp)
  have hB0 : Below w.heap.size w ((w.alloc (.cells (HC a) 23)).alloc (.cells (HC b) 23)) := ((Below.refl _ _).next (Nat.le_refl _) _).next (Nat.le_refl _) _
  have HX0 := Lib.hid hX0; have HY0 := Lib.hid hY0; have HB0 := Lib.hid hB0
  clear hX0 hY0 hB0
  go_enter Try.func9, Try.ntmps9
  go_wp2_with (first
    | (refine wpList_load_row rfl 23 _ rfl w.heap.size rfl 23 (HC a) (0, 0) _ HX0.out Try.underlying23 rfl S1.out ?_)
    | (go_at_call 11; refine (from_k a HA.out _).mono ?_; rintro e1 wa ⟨g, rfl, hg1, hk1, hb1⟩; rw [HS.out] at hk1
       have HK1 : Hid (Blk wa g (CD s false 0) 59) := Lib.hid hk1
       have hxg : w.heap.size ≠ g := by rw [size_alloc, size_alloc] at hg1; omega
       have hyg : w.heap.size + 1 ≠ g := by rw [size_alloc, size_alloc] at hg1; omega
       have HG1 := Lib.hid (Nat.le_trans HB0.out.size hg1); have HB1 := Lib.hid (HB0.out.later hb1 (Nat.le_refl _)); have HX1 := Lib.hid (HX0.out.keep hb1); have HY1 := Lib.hid (HY0.out.keep hb1); have HP1 := Lib.hid ((HP.out.below HB0.out).below hb1); have HPQ1 := Lib.hid ((HPQ.out.below HB0.out).below hb1)
       clear hk1 hg1 hb1))
  refine (sign_st g s 0 false BS.out la ll lc p _ HK1.out HP1.out).mono ?_
  rintro e1 wb ⟨rfl, hk2, hg2⟩
  rw [HE.out, HF.out]
  have HB2 := Lib.hid (below_grown HB1.out hg2 HG1.out HB1.out.size); have HX2 := Lib.hid (HX1.out.grown hg2 hxg); have HY2 := Lib.hid (HY1.out.grown hg2 hyg); have HP2 := Lib.hid (HP1.out.key HK1.out hg2); have HPQ2 := Lib.hid (HPQ1.out.key HK1.out hg2)
  clear hk2 hg2
  go_wp2_with fail
  refine wp_gen (fun wr hwr => ?_)
  have hba : Below wb.heap.size wb wr := by rw [hwr]; exact (Below.refl _ _).next (Nat.le_refl _) _
  have ht3 : Blk wr wb.heap.size #[.int .i64 E, .int .i64 F] 31 := by rw [hwr]; exact Blk.new _ _ _
  have hB0 : Below w.heap.size w wr := HB2.out.later hba (Nat.le_refl _)
  have HT3 := Lib.hid ht3; have HX3 := Lib.hid (HX2.out.keep hba); have HY3 := Lib.hid (HY2.out.keep hba); have HP3 := Lib.hid (HP2.out.below hba); have HPQ3 := Lib.hid (HPQ2.out.below hba)
  clear hwr hba ht3
  refine region_muts [28] _ (Nat.le_refl _) (fun S vals w => newAt wr.heap.size 28 4 6 #[.int .i64 0, .int .i64 0] #[.int .i64 s, .int .i64 (powI 4 s)] S vals w ∧ newAt wr.heap.size 28 5 7 #[.int .i64 0, .int .i64 0] #[.int .i64 r, .int .i64 (powI 4 r)] S vals w ∧ apart 4 5 S vals) [isV 0 (HV a), isV 1 (.agg #[.int .i64 s, .int .i64 (powI 4 s)]), isV 2 (HV b), isV 3 (.agg #[.int .i64 r, .int .i64 (powI 4 r)]), anyV, anyV, isV 6 undef, isV 7 undef]
    [[], [0], [], [2], [], [], [1, 4], [3, 5]] [some 24, some 25, some 26, some 27, some 10, some 11, none, none] _ (by kernel_rfl) (by kernel_rfl) (by kernel_rfl) (by kernel_rfl) (by kernel_rfl) rfl ?_ ?_ ?_ ?_
  · repeat (first | exact stT_nil | refine stT_cons (by first | exact stT_is _ _ | exact stT_as _ _ | exact stT_any | exact stT_lit _ _ _ _ _ (by decide)) ?_)
  · exact ⟨newAt.start _ _ _ _ _ _ _ _, newAt.start _ _ _ _ _ _ _ _, apart.start _ _ _⟩
  · intro hgz
    refine ⟨?_, ?_, ?_, ?_, ?_, ?_, ?_, ?_, trivial⟩ <;> intro S vals w1 hb hSi hdn hcl hG hf <;> obtain ⟨hb, hz⟩ := hgz w1 hb <;> simp [leans, factsOf, phi, sel_lit, isV, asV, anyV, sel] at hf <;> simp [putD, phi, Act.put]
    · -- 0 load 
      refine wpList_load_row rfl 23 _ rfl _ rfl 23 (HC a) (0, 0) _ (HX3.out.keep hb.below) Try.underlying23 rfl S1.out ?_
      exact ⟨rfl, rfl, .refl _ _ _, mk_is rfl, ⟨hG.1.keep _ 0 (by decide) (by decide) (Below.refl _ _), hG.2.1.keep _ 0 (by decide) (by decide) (Below.refl _ _), hG.2.2.keep _ 0 (by decide) (by decide)⟩⟩
    · -- 1 call curia/curiaref3.From 
      simp only [hf]; clear hf
      go_wp2_with (first | (go_at_call 12; refine (rfrom_k a HA.out _).mono ?_; rintro e w' ⟨rfl, hb'⟩; rw [HS.out]))
      exact ⟨rfl, rfl, GrowsT.of hb' hz, mk_is rfl, ⟨hG.1.keep _ 1 (by decide) (by decide) hb', hG.2.1.keep _ 1 (by decide) (by decide) hb', hG.2.2.keep _ 1 (by decide) (by decide)⟩⟩
    · -- 2 load 
      refine wpList_load_row rfl 23 _ rfl _ rfl 23 (HC b) (0, 0) _ (HY3.out.keep hb.below) Try.underlying23 rfl S2.out ?_
      exact ⟨rfl, rfl, .refl _ _ _, mk_is rfl, ⟨hG.1.keep _ 2 (by decide) (by decide) (Below.refl _ _), hG.2.1.keep _ 2 (by decide) (by decide) (Below.refl _ _), hG.2.2.keep _ 2 (by decide) (by decide)⟩⟩
    · -- 3 call curia/curiaref3.From 
      simp only [hf]; clear hf
      go_wp2_with (first | (go_at_call 12; refine (rfrom_k b HBB.out _).mono ?_; rintro e w' ⟨rfl, hb'⟩; rw [HRR.out]))
      exact ⟨rfl, rfl, GrowsT.of hb' hz, mk_is rfl, ⟨hG.1.keep _ 3 (by decide) (by decide) hb', hG.2.1.keep _ 3 (by decide) (by decide) hb', hG.2.2.keep _ 3 (by decide) (by decide)⟩⟩
    · -- 4 alloc 
      go_wp2
      have hgr : Below w1.heap.size w1 (w1.alloc (.cells #[.int .i64 0, .int .i64 0] 28)) := (Below.refl _ _).next (Nat.le_refl _) _
      exact ⟨rfl, rfl, GrowsT.of hgr hz, mk_any, ⟨newAt.new w1.heap.size (by decide) (way_not hcl [] 6 4 (by decide) hSi) hz (Blk.new _ _ _), hG.2.1.keep _ 4 (by decide) (by decide) hgr, apart.leftN hG.2.1 w1.heap.size (Nat.le_refl _) (by decide)⟩⟩
    · -- 5 alloc 
      go_wp2
      have hgr : Below w1.heap.size w1 (w1.alloc (.cells #[.int .i64 0, .int .i64 0] 28)) := (Below.refl _ _).next (Nat.le_refl _) _
      exact ⟨rfl, rfl, GrowsT.of hgr hz, mk_any, ⟨hG.1.keep _ 5 (by decide) (by decide) hgr, newAt.new w1.heap.size (by decide) (way_not hcl [] 7 5 (by decide) hSi) hz (Blk.new _ _ _), apart.rightN hG.1 w1.heap.size (Nat.le_refl _) (by decide)⟩⟩
    · -- 6 store
      obtain ⟨q', hv4, hq', hb4⟩ := hG.1.ahead (hdn 4 (by decide)) hSi
      have c0 : w1.cell? ⟨q', 0, none⟩ = some (.int .i64 0) := hb4.cell 0
      have c1 : w1.cell? ⟨q', 1, none⟩ = some (.int .i64 0) := hb4.cell 1
      have f0 := hb4.frozen 0
      have f1 := hb4.frozen 1
      have hk2 : Blk ((w1.setCell ⟨q', 0, none⟩ (.int .i64 s)).setCell ⟨q', 1, none⟩ (.int .i64 (powI 4 s))) q' #[.int .i64 s, .int .i64 (powI 4 s)] 28 := ((hb4.set 0 _).set 1 _).copy rfl
      have hg2 : w1.grownBy ((w1.setCell ⟨q', 0, none⟩ (.int .i64 s)).setCell ⟨q', 1, none⟩ (.int .i64 (powI 4 s))) (some q') := grown_setCell (grown_setCell (grown_refl _ _) 0 _) 1 _
      have hgr := GrowsT.grown hb4 (Ts := [28]) (by decide) hg2 hq' hz
      have hk1 : newAt wr.heap.size 28 5 7 #[.int .i64 0, .int .i64 0] #[.int .i64 r, .int .i64 (powI 4 r)] (add1 S 6) (fun j => if j = 6 then undef else vals j) ((w1.setCell ⟨q', 0, none⟩ (.int .i64 s)).setCell ⟨q', 1, none⟩ (.int .i64 (powI 4 s))) := by
        intro hS
        rw [add1_other S (by decide)] at hS
        obtain ⟨g', h1, h2, h3⟩ := hG.2.1.get hS
        have hne : q' ≠ g' := fun e => hG.2.2 (hdn 4 (by decide)) hS (by rw [hv4, h1, e])
        exact ⟨g', (if_neg (by decide)).trans h1, h2, by rw [add1_other S (by decide)]; exact h3.grown hg2 (Ne.symm hne)⟩
      have HK2 := Lib.hid hk2; have HGR := Lib.hid hgr; have HK1 := Lib.hid hk1
      clear hk2 hg2 hgr hk1 hb4
      simp only [hf, hv4]
      go_wp2
      exact ⟨rfl, rfl, HGR.out, rfl, ⟨newAt.store _ q' (by decide) hv4 hq' HK2.out, HK1.out, hG.2.2.keep _ 6 (by decide) (by decide)⟩⟩
    · -- 7 store
      obtain ⟨q', hv4, hq', hb4⟩ := hG.2.1.ahead (hdn 5 (by decide)) hSi
      have c0 : w1.cell? ⟨q', 0, none⟩ = some (.int .i64 0) := hb4.cell 0
      have c1 : w1.cell? ⟨q', 1, none⟩ = some (.int .i64 0) := hb4.cell 1
      have f0 := hb4.frozen 0
      have f1 := hb4.frozen 1
      have hk2 : Blk ((w1.setCell ⟨q', 0, none⟩ (.int .i64 r)).setCell ⟨q', 1, none⟩ (.int .i64 (powI 4 r))) q' #[.int .i64 r, .int .i64 (powI 4 r)] 28 := ((hb4.set 0 _).set 1 _).copy rfl
      have hg2 : w1.grownBy ((w1.setCell ⟨q', 0, none⟩ (.int .i64 r)).setCell ⟨q', 1, none⟩ (.int .i64 (powI 4 r))) (some q') := grown_setCell (grown_setCell (grown_refl _ _) 0 _) 1 _
      have hgr := GrowsT.grown hb4 (Ts := [28]) (by decide) hg2 hq' hz
      have hk1 : newAt wr.heap.size 28 4 6 #[.int .i64 0, .int .i64 0] #[.int .i64 s, .int .i64 (powI 4 s)] (add1 S 7) (fun j => if j = 7 then undef else vals j) ((w1.setCell ⟨q', 0, none⟩ (.int .i64 r)).setCell ⟨q', 1, none⟩ (.int .i64 (powI 4 r))) := by
        intro hS
        rw [add1_other S (by decide)] at hS
        obtain ⟨g', h1, h2, h3⟩ := hG.1.get hS
        have hne : q' ≠ g' := fun e => hG.2.2 hS (hdn 5 (by decide)) (by rw [hv4, h1, e])
        exact ⟨g', (if_neg (by decide)).trans h1, h2, by rw [add1_other S (by decide)]; exact h3.grown hg2 (Ne.symm hne)⟩
      have HK2 := Lib.hid hk2; have HGR := Lib.hid hgr; have HK1 := Lib.hid hk1
      clear hk2 hg2 hgr hk1 hb4
      simp only [hf, hv4]
      go_wp2
      exact ⟨rfl, rfl, HGR.out, rfl, ⟨HK1.out, newAt.store _ q' (by decide) hv4 hq' HK2.out, hG.2.2.keep _ 7 (by decide) (by decide)⟩⟩
  · intro vals w1 hb hG hf; simp [leans, List.range, List.range.loop, factsOf, phi, sel_lit, isV, asV, anyV, sel] at hf; simp [putD, List.range, List.range.loop, Act.put, hf]
    obtain ⟨qa, hv4, hqa0, hqa⟩ := hG.1.behind (by simp) (by simp)
    obtain ⟨qb, hv5, hqb0, hqb⟩ := hG.2.1.behind (by simp) (by simp)
    simp only [hv4, hv5]
    go_wp2_with fail
    refine wp_gen (fun wr2 hwr2 => ?_)
    have hB1 := hB0.lift hb.below hB0.size
    have HQA5 : Hid (Blk wr2 qa #[.int .i64 s, .int .i64 (powI 4 s)] 28) := Lib.hid (by rw [hwr2]; exact hqa)
    have HQB5 : Hid (Blk wr2 qb #[.int .i64 r, .int .i64 (powI 4 r)] 28) := Lib.hid (by rw [hwr2]; exact hqb)
    have HT5 : Hid (Blk wr2 wb.heap.size #[.int .i64 E, .int .i64 F] 31) := Lib.hid (by rw [hwr2]; exact HT3.out.keep hb.below)
    have HP5 : Hid (Arg8 wr2 la ll lc p) := Lib.hid (by rw [hwr2]; exact HP3.out.below hb.below)
    have HPQ5 : Hid (Arg8 wr2 lb lbl lbc pq) := Lib.hid (by rw [hwr2]; exact HPQ3.out.below hb.below)
    have hB0 : Below w.heap.size w wr2 := by rw [hwr2]; exact hB1
    clear hwr2 hqa hqb hv4 hv5 hG hb hf hB1
    refine region_grows _ (Nat.le_refl _) [isV 0 (.pointer (some ⟨qb, 1, none⟩)), isV 1 (.int .i64 (powI 4 r)), isV 2 (.slice la ll lc), isV 3 (.agg #[.int .i64 E, .int .i64 F]), isV 4 (.bool b1), isV 5 (.pointer (some ⟨qb, 1, none⟩)), isV 6 (.int .i64 (powI 4 r)), isV 7 (.slice la ll lc), isV 8 (.agg #[.int .i64 E, .int .i64 F]), isV 9 (.bool b1), isV 10 (.bool true), isV 11 (.bool true), isV 12 (.pointer (some ⟨qa, 1, none⟩)), isV 13 (.int .i64 (powI 4 s)), isV 14 (.slice lb lbl lbc), isV 15 (.agg #[.int .i64 E, .int .i64 F]), isV 16 (.bool b2), isV 17 (.pointer (some ⟨qa, 1, none⟩)), isV 18 (.int .i64 (powI 4 s)), isV 19 (.slice lb lbl lbc), isV 20 (.agg #[.int .i64 E, .int .i64 F]), isV 21 (.bool b2), isV 22 (.bool true), isV 23 (.bool true), isV 24 (.bool true), isV 25 (.pointer (some ⟨qa, 1, none⟩)), isV 26 (.int .i64 (powI 4 s)), isV 27 (.slice la ll lc), isV 28 (.agg #[.int .i64 E, .int .i64 F]), isV 29 (.bool true), isV 30 (.bool true), isV 31 (.bool true), isV 32 (.bool true), isV 33 (.bool true), isV 34 (.bool true)]
      [[], [0], [], [], [1, 2, 3], [], [5], [], [], [6, 7, 8], [4, 9], [10], [11], [11, 12], [11], [11], [11, 13, 14, 15], [11], [11, 17], [11], [11], [11, 18, 19, 20], [11, 16, 21], [11, 22], [23], [24], [24, 25], [24], [24], [24, 26, 27, 28], [24, 29], [30], [31], [31, 32], [33]] [some 28, some 29, some 30, some 31, some 32, some 33, some 34, some 35, some 36, some 37, some 38, some 39, some 40, some 41, some 42, some 43, some 44, some 45, some 46, some 47, some 48, some 49, some 50, some 51, some 52, some 53, some 54, some 55, some 56, some 57, some 58, some 59, some 60, some 61, some 8] _ (by kernel_rfl) (by kernel_rfl) (by kernel_rfl) (by kernel_rfl) (by kernel_rfl) rfl ?_ ?_ ?_
    · repeat (first | exact st_nil | refine st_cons (by first | exact st_is _ _ | exact st_as _ _ | exact st_row _ _ _ | exact st_rows _ _ _ | exact st_lit _ _ _ _ _ | exact st_args _ _ _ | exact st_bytes _ _) ?_)
    · intro hgz
      refine ⟨?_, ?_, ?_, ?_, ?_, ?_, ?_, ?_, ?_, ?_, ?_, ?_, ?_, ?_, ?_, ?_, ?_, ?_, ?_, ?_, ?_, ?_, ?_, ?_, ?_, ?_, ?_, ?_, ?_, ?_, ?_, ?_, ?_, ?_, ?_, trivial⟩ <;> intro vals w1 hb hf <;> obtain ⟨hb, hz⟩ := hgz w1 hb <;> simp [leans, factsOf, phi, sel_lit, sel_row, sel_rows, sel_args, sel_bytes, isV, asV, sel] at hf <;> simp [putD, phi, Act.put]
      · -- 0 fieldAddr 
        go_wp2
        exact ⟨rfl, rfl, .refl _ _, mk_is rfl⟩
      · -- 1 load 
        simp only [hf]; clear hf
        have cL1 : w1.cell? ⟨qb, 1, none⟩ = some (.int .i64 (powI 4 r)) := (HQB5.out.keep hb.below).cell 1
        go_wp2
        exact ⟨rfl, rfl, .refl _ _, mk_is rfl⟩
      · -- 2 move 
        go_wp2
        exact ⟨rfl, rfl, .refl _ _, mk_is rfl⟩
      · -- 3 load 
        have cL0 : w1.cell? ⟨wb.heap.size, 0, none⟩ = some (.int .i64 E) := (HT5.out.keep hb.below).cell 0
        have cL1 : w1.cell? ⟨wb.heap.size, 1, none⟩ = some (.int .i64 F) := (HT5.out.keep hb.below).cell 1
        go_wp2
        exact ⟨rfl, rfl, .refl _ _, mk_is rfl⟩
      · -- 4 call curia/sign.Verify 
        simp only [hf]; clear hf
        go_wp2_with (first | (go_at_call 15; refine (verify_any (powI 4 r) E F la ll lc p _ (HP5.out.below hb.below)).mono ?_; rintro e w' ⟨rfl, hb'⟩; rw [HV1.out]))
        exact ⟨rfl, rfl, Grows.of hb' hz, mk_is rfl⟩
      · -- 5 fieldAddr 
        go_wp2
        exact ⟨rfl, rfl, .refl _ _, mk_is rfl⟩
      · -- 6 load 
        simp only [hf]; clear hf
        have cL1 : w1.cell? ⟨qb, 1, none⟩ = some (.int .i64 (powI 4 r)) := (HQB5.out.keep hb.below).cell 1
        go_wp2
        exact ⟨rfl, rfl, .refl _ _, mk_is rfl⟩
      · -- 7 move 
        go_wp2
        exact ⟨rfl, rfl, .refl _ _, mk_is rfl⟩
      · -- 8 load 
        have cL0 : w1.cell? ⟨wb.heap.size, 0, none⟩ = some (.int .i64 E) := (HT5.out.keep hb.below).cell 0
        have cL1 : w1.cell? ⟨wb.heap.size, 1, none⟩ = some (.int .i64 F) := (HT5.out.keep hb.below).cell 1
        go_wp2
        exact ⟨rfl, rfl, .refl _ _, mk_is rfl⟩
      · -- 9 call curia/curiaref4.Verify 
        simp only [hf]; clear hf
        go_wp2_with (first | (go_at_call 17; refine (rverify_any (powI 4 r) E F la ll lc p _ (HP5.out.below hb.below)).mono ?_; rintro e w' ⟨rfl, hb'⟩; rw [HV1.out]))
        exact ⟨rfl, rfl, Grows.of hb' hz, mk_is rfl⟩
      · -- 10 binOp 
        simp only [hf]; clear hf
        go_wp2
        exact ⟨rfl, rfl, .refl _ _, mk_is rfl⟩
      · -- 11 move 
        simp only [hf]; clear hf
        go_wp2
        exact ⟨rfl, rfl, .refl _ _, mk_is rfl⟩
      · -- 12 fieldAddr if some (11, true)
        simp only [hf]; clear hf
        go_wp2
        exact ⟨rfl, rfl, .refl _ _, mk_is rfl⟩
      · -- 13 load if some (11, true)
        simp only [hf]; clear hf
        have cL1 : w1.cell? ⟨qa, 1, none⟩ = some (.int .i64 (powI 4 s)) := (HQA5.out.keep hb.below).cell 1
        go_wp2
        exact ⟨rfl, rfl, .refl _ _, mk_is rfl⟩
      · -- 14 move if some (11, true)
        simp only [hf]; clear hf
        go_wp2
        exact ⟨rfl, rfl, .refl _ _, mk_is rfl⟩
      · -- 15 load if some (11, true)
        simp only [hf]; clear hf
        have cL0 : w1.cell? ⟨wb.heap.size, 0, none⟩ = some (.int .i64 E) := (HT5.out.keep hb.below).cell 0
        have cL1 : w1.cell? ⟨wb.heap.size, 1, none⟩ = some (.int .i64 F) := (HT5.out.keep hb.below).cell 1
        go_wp2
        exact ⟨rfl, rfl, .refl _ _, mk_is rfl⟩
      · -- 16 call curia/sign.Verify if some (11, true)
        simp only [hf]; clear hf
        go_wp2_with (first | (go_at_call 15; refine (verify_any (powI 4 s) E F lb lbl lbc pq _ (HPQ5.out.below hb.below)).mono ?_; rintro e w' ⟨rfl, hb'⟩; rw [HV2.out]))
        exact ⟨rfl, rfl, Grows.of hb' hz, mk_is rfl⟩
      · -- 17 fieldAddr if some (11, true)
        simp only [hf]; clear hf
        go_wp2
        exact ⟨rfl, rfl, .refl _ _, mk_is rfl⟩
      · -- 18 load if some (11, true)
        simp only [hf]; clear hf
        have cL1 : w1.cell? ⟨qa, 1, none⟩ = some (.int .i64 (powI 4 s)) := (HQA5.out.keep hb.below).cell 1
        go_wp2
        exact ⟨rfl, rfl, .refl _ _, mk_is rfl⟩
      · -- 19 move if some (11, true)
        simp only [hf]; clear hf
        go_wp2
        exact ⟨rfl, rfl, .refl _ _, mk_is rfl⟩
      · -- 20 load if some (11, true)
        simp only [hf]; clear hf
        have cL0 : w1.cell? ⟨wb.heap.size, 0, none⟩ = some (.int .i64 E) := (HT5.out.keep hb.below).cell 0
        have cL1 : w1.cell? ⟨wb.heap.size, 1, none⟩ = some (.int .i64 F) := (HT5.out.keep hb.below).cell 1
        go_wp2
        exact ⟨rfl, rfl, .refl _ _, mk_is rfl⟩
      · -- 21 call curia/curiaref4.Verify if some (11, true)
        simp only [hf]; clear hf
        go_wp2_with (first | (go_at_call 17; refine (rverify_any (powI 4 s) E F lb lbl lbc pq _ (HPQ5.out.below hb.below)).mono ?_; rintro e w' ⟨rfl, hb'⟩; rw [HV2.out]))
        exact ⟨rfl, rfl, Grows.of hb' hz, mk_is rfl⟩
      · -- 22 binOp if some (11, true)
        simp only [hf]; clear hf
        go_wp2
        exact ⟨rfl, rfl, .refl _ _, mk_is rfl⟩
      · -- 23 pick 
        simp only [hf]; clear hf
        go_wp2
        exact ⟨rfl, rfl, .refl _ _, mk_is rfl⟩
      · -- 24 move 
        simp only [hf]; clear hf
        go_wp2
        exact ⟨rfl, rfl, .refl _ _, mk_is rfl⟩
      · -- 25 fieldAddr if some (24, true)
        simp only [hf]; clear hf
        go_wp2
        exact ⟨rfl, rfl, .refl _ _, mk_is rfl⟩
      · -- 26 load if some (24, true)
        simp only [hf]; clear hf
        have cL1 : w1.cell? ⟨qa, 1, none⟩ = some (.int .i64 (powI 4 s)) := (HQA5.out.keep hb.below).cell 1
        go_wp2
        exact ⟨rfl, rfl, .refl _ _, mk_is rfl⟩
      · -- 27 move if some (24, true)
        simp only [hf]; clear hf
        go_wp2
        exact ⟨rfl, rfl, .refl _ _, mk_is rfl⟩
      · -- 28 load if some (24, true)
        simp only [hf]; clear hf
        have cL0 : w1.cell? ⟨wb.heap.size, 0, none⟩ = some (.int .i64 E) := (HT5.out.keep hb.below).cell 0
        have cL1 : w1.cell? ⟨wb.heap.size, 1, none⟩ = some (.int .i64 F) := (HT5.out.keep hb.below).cell 1
        go_wp2
        exact ⟨rfl, rfl, .refl _ _, mk_is rfl⟩
      · -- 29 call curia/sign.Verify if some (24, true)
        simp only [hf]; clear hf
        go_wp2_with (first | (go_at_call 15; refine (verify_any (powI 4 s) E F la ll lc p _ (HP5.out.below hb.below)).mono ?_; rintro e w' ⟨rfl, hb'⟩; rw [HVER.out]))
        exact ⟨rfl, rfl, Grows.of hb' hz, mk_is rfl⟩
      · -- 30 pick 
        simp only [hf]; clear hf
        go_wp2
        exact ⟨rfl, rfl, .refl _ _, mk_is rfl⟩
      · -- 31 move 
        simp only [hf]; clear hf
        go_wp2
        exact ⟨rfl, rfl, .refl _ _, mk_is rfl⟩
      · -- 32 call curia/curialaw4.known if some (31, true)
        simp only [hf]; clear hf
        go_wp2_with (first | (go_at_call 16; refine (known_sign _).mono ?_; rintro e w' ⟨rfl, hb'⟩))
        exact ⟨rfl, rfl, Grows.of hb' hz, mk_is rfl⟩
      · -- 33 pick 
        simp only [hf]; clear hf
        go_wp2
        exact ⟨rfl, rfl, .refl _ _, mk_is rfl⟩
      · -- 34 assign 
        simp only [hf]; clear hf
        go_wp2
        exact ⟨rfl, rfl, .refl _ _, mk_is rfl⟩
    · intro vals w1 hb hf; simp [leans, List.range, List.range.loop, factsOf, phi, sel_lit, sel_row, sel_rows, sel_args, sel_bytes, isV, asV, sel] at hf; simp [putD, List.range, List.range.loop, Act.put, hf]
      go_wp2
      go_ret
      exact ⟨rfl, hB0.lift hb.below hB0.size⟩
end Go.Proofs.Ytmijaghaombbpaa
