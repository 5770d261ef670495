/-
  The law SignSigns, walked.
-/
import Derived.Test.YtmijaghaombbpaaSignLaws
import Derived.Test.YtmijaghaombbpaaMuts2
import Derived.Test.YtmijaghaombbpaaOpenI
namespace Go.Proofs.Ytmijaghaombbpaa
set_option maxRecDepth 100000
open Go.RowKit Pm
set_option linter.unusedVariables false
set_option linter.unusedSimpArgs false
attribute [local go_sem] eqh_guard key_y key_x

set_option maxRecDepth 100000 in
set_option maxHeartbeats 2000000 in
theorem signSigns_walk {w : World} (a : List UInt8) (ha : a.length = 32) (la : Option Addr) (ll lc : Nat) (p : List UInt8) (hp : Arg8 w la ll lc p) :
    Calls Try.prog 3 #[HV a, .slice la ll lc] w fun e w' => e = .returned (.bool true) ∧ Below w.heap.size w w' := by
  have hsz : (Try.prog.info? 23).map (·.size) = some (HC a).size := by rw [HC_size, ha]; kernel_rfl
  obtain ⟨s, hs⟩ : ∃ s, keyS a = s := ⟨_, rfl⟩
  have hbs := keyS_bd a
  rw [hs] at hbs
  have HA := Lib.hid ha; have S1 := Lib.hid hsz; have HS := Lib.hid hs; have BS := Lib.hid hbs
  clear ha hsz hs hbs
  unfold HV
  have hle := hp.le
  have hsm := hp.small
  have HP := Lib.hid hp
  clear hp
  obtain ⟨E, hE⟩ : ∃ E, sigE s p = E := ⟨_, rfl⟩
  obtain ⟨F, hF⟩ : ∃ F, sigS s p = F := ⟨_, rfl⟩
  have hver := verW_own s p BS.out
  have hEb := sigE_bd s p
  have hFb := sigS_bd s p
  rw [hE, hF] at hver
  rw [hE] at hEb
  rw [hF] at hFb
  have HVER := Lib.hid hver; have HE := Lib.hid hE; have HF := Lib.hid hF; have HEB := Lib.hid hEb; have HFB := Lib.hid hFb
  clear hver hE hF hEb hFb
  by_cases h1 : ((ll : Int) > 1000)
  · go_enter Try.func3, Try.ntmps3
    go_wp2
    go_ret
    exact ⟨rfl, (Below.refl _ _).next (Nat.le_refl _) _⟩
  go_enter Try.func3, Try.ntmps3
  go_wp2_with fail
  refine wp_gen (fun wr hwr => ?_)
  have hX0 : Blk wr w.heap.size (HC a) 23 := by rw [hwr]; exact Blk.new w _ _
  have hB0 : Below w.heap.size w wr := by rw [hwr]; exact (Below.refl _ _).next (Nat.le_refl _) _
  clear hwr
  refine region_muts [59, 28] _ (Nat.le_refl _) (fun S vals w => keyAt wr.heap.size 59 1 (CK s 0 0 0 0) S vals w ∧ newAt wr.heap.size 28 4 6 #[.int .i64 0, .int .i64 0] #[.int .i64 s, .int .i64 (powI 4 s)] S vals w) [isV 0 (HV a), anyV, isV 2 (HV a), isV 3 (.agg #[.int .i64 s, .int .i64 (powI 4 s)]), anyV, asV 5 1, isV 6 undef]
    [[], [0], [], [2], [], [1], [3, 4]] [some 11, some 12, some 13, some 14, some 6, some 5, none] _ (by kernel_rfl) (by kernel_rfl) (by kernel_rfl) (by kernel_rfl) (by kernel_rfl) rfl ?_ ?_ ?_ ?_
  · repeat (first | exact stT_nil | refine stT_cons (by first | exact stT_is _ _ | exact stT_as _ _ | exact stT_any | exact stT_lit _ _ _ _ _ (by decide)) ?_)
  · exact ⟨keyAt.start _ _ _ _ _ _, newAt.start _ _ _ _ _ _ _ _⟩
  · intro hgz
    refine ⟨?_, ?_, ?_, ?_, ?_, ?_, ?_, trivial⟩ <;> intro S vals w1 hb hSi hdn hcl hG hf <;> obtain ⟨hb, hz⟩ := hgz w1 hb <;> simp [leans, factsOf, phi, sel_lit, isV, asV, anyV, sel] at hf <;> simp [putD, phi, Act.put]
    · -- 0 load 
      refine wpList_load_row rfl 23 _ rfl _ rfl 23 (HC a) (0, 0) _ (hX0.keep hb.below) Try.underlying23 rfl S1.out ?_
      exact ⟨rfl, rfl, .refl _ _ _, mk_is rfl, ⟨hG.1.keep _ 0 (by decide) (Below.refl _ _), hG.2.keep _ 0 (by decide) (by decide) (Below.refl _ _)⟩⟩
    · -- 1 call curia/pair.From 
      simp only [hf]; clear hf
      go_wp2_with (first | (go_at_call 11; refine (from_k a HA.out _).mono ?_; rintro e w' ⟨g', rfl, hg', hk', hb'⟩; rw [HS.out] at hk'))
      exact ⟨rfl, rfl, GrowsT.of hb' hz, mk_any, ⟨keyAt.new g' (Nat.le_trans hz hg') hk', hG.2.keep _ 1 (by decide) (by decide) hb'⟩⟩
    · -- 2 load 
      refine wpList_load_row rfl 23 _ rfl _ rfl 23 (HC a) (0, 0) _ (hX0.keep hb.below) Try.underlying23 rfl S1.out ?_
      exact ⟨rfl, rfl, .refl _ _ _, mk_is rfl, ⟨hG.1.keep _ 2 (by decide) (Below.refl _ _), hG.2.keep _ 2 (by decide) (by decide) (Below.refl _ _)⟩⟩
    · -- 3 call curia/curiaref3.From 
      simp only [hf]; clear hf
      go_wp2_with (first | (go_at_call 12; refine (rfrom_k a HA.out _).mono ?_; rintro e w' ⟨rfl, hb'⟩; rw [HS.out]))
      exact ⟨rfl, rfl, GrowsT.of hb' hz, mk_is rfl, ⟨hG.1.keep _ 3 (by decide) hb', hG.2.keep _ 3 (by decide) (by decide) hb'⟩⟩
    · -- 4 alloc 
      go_wp2
      have hgr : Below w1.heap.size w1 (w1.alloc (.cells #[.int .i64 0, .int .i64 0] 28)) := (Below.refl _ _).next (Nat.le_refl _) _
      exact ⟨rfl, rfl, GrowsT.of hgr hz, mk_any, ⟨hG.1.keep _ 4 (by decide) hgr, newAt.new w1.heap.size (by decide) (way_not hcl [] 6 4 (by decide) hSi) hz (Blk.new _ _ _)⟩⟩
    · -- 5 assign 
      go_wp2
      exact ⟨rfl, rfl, .refl _ _ _, mk_as rfl (by decide) (by decide), ⟨hG.1.keep _ 5 (by decide) (Below.refl _ _), hG.2.keep _ 5 (by decide) (by decide) (Below.refl _ _)⟩⟩
    · -- 6 store
      obtain ⟨q', hv4, hq', hb4⟩ := hG.2.ahead (hdn 4 (by decide)) hSi
      have c0 : w1.cell? ⟨q', 0, none⟩ = some (.int .i64 0) := hb4.cell 0
      have c1 : w1.cell? ⟨q', 1, none⟩ = some (.int .i64 0) := hb4.cell 1
      have f0 := hb4.frozen 0
      have f1 := hb4.frozen 1
      have hk2 : Blk ((w1.setCell ⟨q', 0, none⟩ (.int .i64 s)).setCell ⟨q', 1, none⟩ (.int .i64 (powI 4 s))) q' #[.int .i64 s, .int .i64 (powI 4 s)] 28 := ((hb4.set 0 _).set 1 _).copy rfl
      have hg2 : w1.grownBy ((w1.setCell ⟨q', 0, none⟩ (.int .i64 s)).setCell ⟨q', 1, none⟩ (.int .i64 (powI 4 s))) (some q') := grown_setCell (grown_setCell (grown_refl _ _) 0 _) 1 _
      have hgr := GrowsT.grown hb4 (Ts := [59, 28]) (by decide) hg2 hq' hz
      have hne : ∀ g', Blk w1 g' (CK s 0 0 0 0) 59 → g' ≠ q' := by
        rintro g' h1 rfl
        unfold Blk at h1 hb4
        rw [hb4] at h1
        have h2 := Option.some.inj h1
        injection h2 with h3 h4
        exact absurd h4 (by decide)
      have hk1 : keyAt wr.heap.size 59 1 (CK s 0 0 0 0) (add1 S 6) (fun j => if j = 6 then undef else vals j) ((w1.setCell ⟨q', 0, none⟩ (.int .i64 s)).setCell ⟨q', 1, none⟩ (.int .i64 (powI 4 s))) := by
        intro hS
        rw [add1_other S (by decide)] at hS
        obtain ⟨g', h1, h2, h3⟩ := hG.1.get hS
        exact ⟨g', (if_neg (by decide)).trans h1, h2, h3.grown hg2 (hne g' h3)⟩
      have HK2 := Lib.hid hk2; have HGR := Lib.hid hgr; have HK1 := Lib.hid hk1
      clear hk2 hg2 hgr hk1 hne hb4
      simp only [hf, hv4]
      go_wp2
      exact ⟨rfl, rfl, HGR.out, rfl, ⟨HK1.out, newAt.store _ q' (by decide) hv4 hq' HK2.out⟩⟩
  · intro vals w1 hb hG hf; simp [leans, List.range, List.range.loop, factsOf, phi, sel_lit, isV, asV, anyV, sel] at hf; simp [putD, List.range, List.range.loop, Act.put, hf]
    obtain ⟨g, hv1, hg0, hk0⟩ := hG.1.get (by simp)
    obtain ⟨q, hv4, hq0, hq1⟩ := hG.2.behind (by simp) (by simp)
    simp only [hv1, hv4]
    have hgq : q ≠ g := by
      rintro rfl
      unfold Blk at hq1 hk0
      rw [hk0] at hq1
      have h2 := Option.some.inj hq1
      injection h2 with h3 h4
      exact absurd h4 (by decide)
    have HX0 := Lib.hid (hX0.keep hb.below)
    have hltx := hX0.lt
    have hxg : w.heap.size ≠ g := by omega
    have hB1 := hB0.lift hb.below hB0.size
    have HK := Lib.hid hk0; have HQ := Lib.hid hq1; have HB1 := Lib.hid hB1; have HG0 := Lib.hid (Nat.le_trans hB0.size hg0); have HQ0 := Lib.hid (Nat.le_trans hB0.size hq0)
    have hb_ := hb.below
    clear hk0 hq1 hB1 hG hb hf hv1 hv4 hltx
    have HP1 := Lib.hid ((HP.out.below hB0).below hb_)
    have HKD : Hid (Blk w1 g (CD s false 0) 59) := Lib.hid HK.out
    go_wp2_with (go_at_call 13; with_reducible refine (sign_st g s 0 false BS.out la ll lc p _ HKD.out HP1.out).mono ?_; rintro e w2 ⟨rfl, hk2, hg2⟩; rw [HE.out, HF.out]
                 have HB2 := Lib.hid (below_grown HB1.out hg2 HG0.out HB1.out.size); have HQ2 := Lib.hid (HQ.out.grown hg2 hgq); have HP2 := Lib.hid (HP1.out.key HKD.out hg2)
                 clear hk2 hg2)
    refine wp_gen (fun wr hwr => ?_)
    have hB0 : Below w.heap.size w wr := by rw [hwr]; exact HB2.out.next (Nat.le_refl _) _
    have hq3 : Blk wr q #[.int .i64 s, .int .i64 (powI 4 s)] 28 := by rw [hwr]; exact HQ2.out.alloc _
    have ht3 : Blk wr w2.heap.size #[.int .i64 E, .int .i64 F] 31 := by rw [hwr]; exact Blk.new _ _ _
    have hp3 : Arg8 wr la ll lc p := by rw [hwr]; exact HP2.out.below ((Below.refl _ _).next (Nat.le_refl _) _)
    have HQ3 := Lib.hid hq3; have HT3 := Lib.hid ht3; have HP3 := Lib.hid hp3
    clear hwr hq3 ht3 hp3 HX0
    refine region_grows _ (Nat.le_refl _) [isV 0 (.agg #[.int .i64 E, .int .i64 F]), isV 1 (.agg #[.int .i64 s, .int .i64 (powI 4 s)]), isV 2 (.slice la ll lc), isV 3 (.agg #[.int .i64 E, .int .i64 F]), isV 4 (.bool true), isV 5 (.bool true), isV 6 (.pointer (some ⟨w2.heap.size, 0, none⟩)), isV 7 (.int .i64 E), isV 8 (.bool true), isV 9 (.bool true), isV 10 (.bool true), isV 11 (.pointer (some ⟨w2.heap.size, 0, none⟩)), isV 12 (.int .i64 E), isV 13 (.bool true), isV 14 (.bool true), isV 15 (.bool true), isV 16 (.pointer (some ⟨w2.heap.size, 1, none⟩)), isV 17 (.int .i64 F), isV 18 (.bool true), isV 19 (.bool true), isV 20 (.bool true), isV 21 (.pointer (some ⟨w2.heap.size, 1, none⟩)), isV 22 (.int .i64 F), isV 23 (.bool true), isV 24 (.bool true), isV 25 (.bool true), isV 26 (.pointer (some ⟨q, 1, none⟩)), isV 27 (.int .i64 (powI 4 s)), isV 28 (.slice la ll lc), isV 29 (.agg #[.int .i64 E, .int .i64 F]), isV 30 (.bool true), isV 31 (.bool true), isV 32 (.bool true), isV 33 (.bool true), isV 34 (.bool true), isV 35 (.bool true)]
      [[], [], [], [1, 2], [0, 3], [4], [5], [5, 6], [5, 7], [5, 8], [9], [10], [10, 11], [10, 12], [10, 13], [14], [15], [15, 16], [15, 17], [15, 18], [19], [20], [20, 21], [20, 22], [20, 23], [24], [25], [25, 26], [25], [25], [25, 27, 28, 29], [25, 30], [31], [32], [32, 33], [34]] [some 20, some 21, some 22, some 23, some 24, some 25, some 26, some 27, some 28, some 29, some 30, some 31, some 32, some 33, some 34, some 35, some 36, some 37, some 38, some 39, some 40, some 41, some 42, some 43, some 44, some 45, some 46, some 47, some 48, some 49, some 50, some 51, some 52, some 53, some 54, some 4] _ (by kernel_rfl) (by kernel_rfl) (by kernel_rfl) (by kernel_rfl) (by kernel_rfl) rfl ?_ ?_ ?_
    · repeat (first | exact st_nil | refine st_cons (by first | exact st_is _ _ | exact st_as _ _ | exact st_row _ _ _ | exact st_rows _ _ _ | exact st_lit _ _ _ _ _ | exact st_args _ _ _ | exact st_bytes _ _) ?_)
    · intro hgz
      refine ⟨?_, ?_, ?_, ?_, ?_, ?_, ?_, ?_, ?_, ?_, ?_, ?_, ?_, ?_, ?_, ?_, ?_, ?_, ?_, ?_, ?_, ?_, ?_, ?_, ?_, ?_, ?_, ?_, ?_, ?_, ?_, ?_, ?_, ?_, ?_, ?_, trivial⟩ <;> intro vals w1 hb hf <;> obtain ⟨hb, hz⟩ := hgz w1 hb <;> simp [leans, factsOf, phi, sel_lit, sel_row, sel_rows, sel_args, sel_bytes, isV, asV, sel] at hf <;> simp [putD, phi, Act.put]
      · -- 0 load 
        have cL0 : w1.cell? ⟨w2.heap.size, 0, none⟩ = some (.int .i64 E) := (HT3.out.keep hb.below).cell 0
        have cL1 : w1.cell? ⟨w2.heap.size, 1, none⟩ = some (.int .i64 F) := (HT3.out.keep hb.below).cell 1
        go_wp2
        exact ⟨rfl, rfl, .refl _ _, mk_is rfl⟩
      · -- 1 load 
        have cL0 : w1.cell? ⟨q, 0, none⟩ = some (.int .i64 s) := (HQ3.out.keep hb.below).cell 0
        have cL1 : w1.cell? ⟨q, 1, none⟩ = some (.int .i64 (powI 4 s)) := (HQ3.out.keep hb.below).cell 1
        go_wp2
        exact ⟨rfl, rfl, .refl _ _, mk_is rfl⟩
      · -- 2 move 
        go_wp2
        exact ⟨rfl, rfl, .refl _ _, mk_is rfl⟩
      · -- 3 call curia/curiaref4.Sign 
        simp only [hf]; clear hf
        go_wp2_with (first | (go_at_call 14; refine (rsign_any s BS.out la ll lc p _ (HP3.out.below hb.below)).mono ?_; rintro e w' ⟨rfl, hb'⟩; rw [HE.out, HF.out]))
        exact ⟨rfl, rfl, Grows.of hb' hz, mk_is rfl⟩
      · -- 4 binOp 
        simp only [hf]; clear hf
        go_wp2
        exact ⟨rfl, rfl, .refl _ _, mk_is rfl⟩
      · -- 5 move 
        simp only [hf]; clear hf
        go_wp2
        exact ⟨rfl, rfl, .refl _ _, mk_is rfl⟩
      · -- 6 fieldAddr if some (5, true)
        simp only [hf]; clear hf
        go_wp2
        exact ⟨rfl, rfl, .refl _ _, mk_is rfl⟩
      · -- 7 load if some (5, true)
        simp only [hf]; clear hf
        have cL0 : w1.cell? ⟨w2.heap.size, 0, none⟩ = some (.int .i64 E) := (HT3.out.keep hb.below).cell 0
        go_wp2
        exact ⟨rfl, rfl, .refl _ _, mk_is rfl⟩
      · -- 8 binOp if some (5, true)
        simp only [hf]; clear hf
        have hbd := HEB.out.1
        go_wp2
        exact ⟨rfl, rfl, .refl _ _, mk_is rfl⟩
      · -- 9 pick 
        simp only [hf]; clear hf
        go_wp2
        exact ⟨rfl, rfl, .refl _ _, mk_is rfl⟩
      · -- 10 move 
        simp only [hf]; clear hf
        go_wp2
        exact ⟨rfl, rfl, .refl _ _, mk_is rfl⟩
      · -- 11 fieldAddr if some (10, true)
        simp only [hf]; clear hf
        go_wp2
        exact ⟨rfl, rfl, .refl _ _, mk_is rfl⟩
      · -- 12 load if some (10, true)
        simp only [hf]; clear hf
        have cL0 : w1.cell? ⟨w2.heap.size, 0, none⟩ = some (.int .i64 E) := (HT3.out.keep hb.below).cell 0
        go_wp2
        exact ⟨rfl, rfl, .refl _ _, mk_is rfl⟩
      · -- 13 binOp if some (10, true)
        simp only [hf]; clear hf
        have hbd := HEB.out.2
        go_wp2
        exact ⟨rfl, rfl, .refl _ _, mk_is rfl⟩
      · -- 14 pick 
        simp only [hf]; clear hf
        go_wp2
        exact ⟨rfl, rfl, .refl _ _, mk_is rfl⟩
      · -- 15 move 
        simp only [hf]; clear hf
        go_wp2
        exact ⟨rfl, rfl, .refl _ _, mk_is rfl⟩
      · -- 16 fieldAddr if some (15, true)
        simp only [hf]; clear hf
        go_wp2
        exact ⟨rfl, rfl, .refl _ _, mk_is rfl⟩
      · -- 17 load if some (15, true)
        simp only [hf]; clear hf
        have cL1 : w1.cell? ⟨w2.heap.size, 1, none⟩ = some (.int .i64 F) := (HT3.out.keep hb.below).cell 1
        go_wp2
        exact ⟨rfl, rfl, .refl _ _, mk_is rfl⟩
      · -- 18 binOp if some (15, true)
        simp only [hf]; clear hf
        have hbd := HFB.out.1
        go_wp2
        exact ⟨rfl, rfl, .refl _ _, mk_is rfl⟩
      · -- 19 pick 
        simp only [hf]; clear hf
        go_wp2
        exact ⟨rfl, rfl, .refl _ _, mk_is rfl⟩
      · -- 20 move 
        simp only [hf]; clear hf
        go_wp2
        exact ⟨rfl, rfl, .refl _ _, mk_is rfl⟩
      · -- 21 fieldAddr if some (20, true)
        simp only [hf]; clear hf
        go_wp2
        exact ⟨rfl, rfl, .refl _ _, mk_is rfl⟩
      · -- 22 load if some (20, true)
        simp only [hf]; clear hf
        have cL1 : w1.cell? ⟨w2.heap.size, 1, none⟩ = some (.int .i64 F) := (HT3.out.keep hb.below).cell 1
        go_wp2
        exact ⟨rfl, rfl, .refl _ _, mk_is rfl⟩
      · -- 23 binOp if some (20, true)
        simp only [hf]; clear hf
        have hbd := HFB.out.2
        go_wp2
        exact ⟨rfl, rfl, .refl _ _, mk_is rfl⟩
      · -- 24 pick 
        simp only [hf]; clear hf
        go_wp2
        exact ⟨rfl, rfl, .refl _ _, mk_is rfl⟩
      · -- 25 move 
        simp only [hf]; clear hf
        go_wp2
        exact ⟨rfl, rfl, .refl _ _, mk_is rfl⟩
      · -- 26 fieldAddr if some (25, true)
        simp only [hf]; clear hf
        go_wp2
        exact ⟨rfl, rfl, .refl _ _, mk_is rfl⟩
      · -- 27 load if some (25, true)
        simp only [hf]; clear hf
        have cL1 : w1.cell? ⟨q, 1, none⟩ = some (.int .i64 (powI 4 s)) := (HQ3.out.keep hb.below).cell 1
        go_wp2
        exact ⟨rfl, rfl, .refl _ _, mk_is rfl⟩
      · -- 28 move if some (25, true)
        simp only [hf]; clear hf
        go_wp2
        exact ⟨rfl, rfl, .refl _ _, mk_is rfl⟩
      · -- 29 load if some (25, true)
        simp only [hf]; clear hf
        have cL0 : w1.cell? ⟨w2.heap.size, 0, none⟩ = some (.int .i64 E) := (HT3.out.keep hb.below).cell 0
        have cL1 : w1.cell? ⟨w2.heap.size, 1, none⟩ = some (.int .i64 F) := (HT3.out.keep hb.below).cell 1
        go_wp2
        exact ⟨rfl, rfl, .refl _ _, mk_is rfl⟩
      · -- 30 call curia/sign.Verify if some (25, true)
        simp only [hf]; clear hf
        go_wp2_with (first | (go_at_call 15; refine (verify_any (powI 4 s) E F la ll lc p _ (HP3.out.below hb.below)).mono ?_; rintro e w' ⟨rfl, hb'⟩; rw [HVER.out]))
        exact ⟨rfl, rfl, Grows.of hb' hz, mk_is rfl⟩
      · -- 31 pick 
        simp only [hf]; clear hf
        go_wp2
        exact ⟨rfl, rfl, .refl _ _, mk_is rfl⟩
      · -- 32 move 
        simp only [hf]; clear hf
        go_wp2
        exact ⟨rfl, rfl, .refl _ _, mk_is rfl⟩
      · -- 33 call curia/curialaw4.known if some (32, true)
        simp only [hf]; clear hf
        go_wp2_with (first | (go_at_call 16; refine (known_sign _).mono ?_; rintro e w' ⟨rfl, hb'⟩))
        exact ⟨rfl, rfl, Grows.of hb' hz, mk_is rfl⟩
      · -- 34 pick 
        simp only [hf]; clear hf
        go_wp2
        exact ⟨rfl, rfl, .refl _ _, mk_is rfl⟩
      · -- 35 assign 
        simp only [hf]; clear hf
        go_wp2
        exact ⟨rfl, rfl, .refl _ _, mk_is rfl⟩
    · intro vals w1 hb hf; simp [leans, List.range, List.range.loop, factsOf, phi, sel_lit, sel_row, sel_rows, sel_args, sel_bytes, isV, asV, sel] at hf; simp [putD, List.range, List.range.loop, Act.put, hf]
      go_wp2
      go_ret
      exact ⟨rfl, hB0.lift hb.below hB0.size⟩
end Go.Proofs.Ytmijaghaombbpaa
