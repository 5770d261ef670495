/-
  The law PairTells, walked.
-/
import Derived.Test.YtbhhgmaibdkgbaaPairMath
namespace Go.Proofs.Ytbhhgmaibdkgbaa
set_option maxRecDepth 100000
open Go.RowKit Pm
set_option linter.unusedVariables false
set_option linter.unusedSimpArgs false
attribute [local go_sem] eqh_guard key_y key_x

set_option maxRecDepth 100000 in
set_option maxHeartbeats 2000000 in
theorem pairTells_walk {w : World} (a : List UInt8) (ha : a.length = 32) (n : Int) (wn : (Lit.int .i64 n).wf = true) :
    Calls Try.prog 3 #[HV a, .int .i64 n] w fun e w' => e = .returned (.bool true) ∧ Below w.heap.size w w' := by
  have hsz : (Try.prog.info? 23).map (·.size) = some (HC a).size := by rw [HC_size, ha]; kernel_rfl
  obtain ⟨s, hs⟩ : ∃ s, keyS a = s := ⟨_, rfl⟩
  have hbs := keyS_bd a
  rw [hs] at hbs
  have HA := Lib.hid ha; have S1 := Lib.hid hsz; have HS := Lib.hid hs; have BS := Lib.hid hbs
  clear ha hsz hs hbs
  unfold HV
  go_enter Try.func3, Try.ntmps3
  go_wp2_with fail
  refine wp_gen (fun wr hwr => ?_)
  have hX0 : Blk wr w.heap.size (HC a) 23 := by rw [hwr]; exact Blk.new w _ _
  have hB0 : Below w.heap.size w wr := by rw [hwr]; exact (Below.refl _ _).next (Nat.le_refl _) _
  clear hwr
  refine region_muts [61, 27] _ (Nat.le_refl _) (fun S vals w => keyAt wr.heap.size 61 1 (CK s 0 0 0 0) S vals w ∧ newAt wr.heap.size 27 4 6 #[.int .i64 0, .int .i64 0] #[.int .i64 s, .int .i64 (powI 4 s)] S vals w) [isV 0 (HV a), anyV, isV 2 (HV a), isV 3 (.agg #[.int .i64 s, .int .i64 (powI 4 s)]), anyV, asV 5 1, isV 6 undef]
    [[], [0], [], [2], [], [1], [3, 4]] [some 7, some 8, some 9, some 10, some 6, some 5, none] _ (by kernel_rfl) (by kernel_rfl) (by kernel_rfl) (by kernel_rfl) (by kernel_rfl) rfl ?_ ?_ ?_ ?_
  · repeat (first | exact stT_nil | refine stT_cons (by first | exact stT_is _ _ | exact stT_as _ _ | exact stT_any | exact stT_lit _ _ _ _ _ (by decide)) ?_)
  · exact ⟨keyAt.start _ _ _ _ _ _, newAt.start _ _ _ _ _ _ _ _⟩
  · intro hgz
    refine ⟨?_, ?_, ?_, ?_, ?_, ?_, ?_, trivial⟩ <;> intro S vals w1 hb hSi hdn hcl hG hf <;> obtain ⟨hb, hz⟩ := hgz w1 hb <;> simp [leans, factsOf, phi, sel_lit, isV, asV, anyV, sel] at hf <;> simp [putD, phi, Act.put]
    · -- 0 load 
      refine wpList_load_row rfl 23 _ rfl _ rfl 23 (HC a) (0, 0) _ (hX0.keep hb.below) Try.underlying23 rfl S1.out ?_
      exact ⟨rfl, rfl, .refl _ _ _, mk_is rfl, ⟨hG.1.keep _ 0 (by decide) (Below.refl _ _), hG.2.keep _ 0 (by decide) (by decide) (Below.refl _ _)⟩⟩
    · -- 1 call curia/pair.From 
      simp only [hf]; clear hf
      go_wp2_with (first | (go_at_call 11; refine (from_k a HA.out _).mono ?_; rintro e w' ⟨g', rfl, hg', hk', hb'⟩; rw [HS.out] at hk'))
      exact ⟨rfl, rfl, GrowsT.of hb' hz, mk_any, ⟨keyAt.new g' (Nat.le_trans hz hg') hk', hG.2.keep _ 1 (by decide) (by decide) hb'⟩⟩
    · -- 2 load 
      refine wpList_load_row rfl 23 _ rfl _ rfl 23 (HC a) (0, 0) _ (hX0.keep hb.below) Try.underlying23 rfl S1.out ?_
      exact ⟨rfl, rfl, .refl _ _ _, mk_is rfl, ⟨hG.1.keep _ 2 (by decide) (Below.refl _ _), hG.2.keep _ 2 (by decide) (by decide) (Below.refl _ _)⟩⟩
    · -- 3 call curia/curiaref3.From 
      simp only [hf]; clear hf
      go_wp2_with (first | (go_at_call 12; refine (rfrom_k a HA.out _).mono ?_; rintro e w' ⟨rfl, hb'⟩; rw [HS.out]))
      exact ⟨rfl, rfl, GrowsT.of hb' hz, mk_is rfl, ⟨hG.1.keep _ 3 (by decide) hb', hG.2.keep _ 3 (by decide) (by decide) hb'⟩⟩
    · -- 4 alloc 
      go_wp2
      have hgr : Below w1.heap.size w1 (w1.alloc (.cells #[.int .i64 0, .int .i64 0] 27)) := (Below.refl _ _).next (Nat.le_refl _) _
      exact ⟨rfl, rfl, GrowsT.of hgr hz, mk_any, ⟨hG.1.keep _ 4 (by decide) hgr, newAt.new w1.heap.size (by decide) (way_not hcl [] 6 4 (by decide) hSi) hz (Blk.new _ _ _)⟩⟩
    · -- 5 assign 
      go_wp2
      exact ⟨rfl, rfl, .refl _ _ _, mk_as rfl (by decide) (by decide), ⟨hG.1.keep _ 5 (by decide) (Below.refl _ _), hG.2.keep _ 5 (by decide) (by decide) (Below.refl _ _)⟩⟩
    · -- 6 store
      obtain ⟨q', hv4, hq', hb4⟩ := hG.2.ahead (hdn 4 (by decide)) hSi
      have c0 : w1.cell? ⟨q', 0, none⟩ = some (.int .i64 0) := hb4.cell 0
      have c1 : w1.cell? ⟨q', 1, none⟩ = some (.int .i64 0) := hb4.cell 1
      have f0 := hb4.frozen 0
      have f1 := hb4.frozen 1
      have hk2 : Blk ((w1.setCell ⟨q', 0, none⟩ (.int .i64 s)).setCell ⟨q', 1, none⟩ (.int .i64 (powI 4 s))) q' #[.int .i64 s, .int .i64 (powI 4 s)] 27 := ((hb4.set 0 _).set 1 _).copy rfl
      have hg2 : w1.grownBy ((w1.setCell ⟨q', 0, none⟩ (.int .i64 s)).setCell ⟨q', 1, none⟩ (.int .i64 (powI 4 s))) (some q') := grown_setCell (grown_setCell (grown_refl _ _) 0 _) 1 _
      have hgr := GrowsT.grown hb4 (Ts := [61, 27]) (by decide) hg2 hq' hz
      have hne : ∀ g', Blk w1 g' (CK s 0 0 0 0) 61 → g' ≠ q' := by
        rintro g' h1 rfl
        unfold Blk at h1 hb4
        rw [hb4] at h1
        have h2 := Option.some.inj h1
        injection h2 with h3 h4
        exact absurd h4 (by decide)
      have hk1 : keyAt wr.heap.size 61 1 (CK s 0 0 0 0) (add1 S 6) (fun j => if j = 6 then undef else vals j) ((w1.setCell ⟨q', 0, none⟩ (.int .i64 s)).setCell ⟨q', 1, none⟩ (.int .i64 (powI 4 s))) := by
        intro hS
        rw [add1_other S (by decide)] at hS
        obtain ⟨g', h1, h2, h3⟩ := hG.1.get hS
        exact ⟨g', (if_neg (by decide)).trans h1, h2, h3.grown hg2 (hne g' h3)⟩
      have HK2 := Lib.hid hk2; have HGR := Lib.hid hgr; have HK1 := Lib.hid hk1
      clear hk2 hg2 hgr hk1 hne hb4
      simp only [hf, hv4]
      go_wp2
      exact ⟨rfl, rfl, HGR.out, rfl, ⟨HK1.out, newAt.store _ q' (by decide) hv4 hq' HK2.out⟩⟩
  · intro vals w1 hb hG hf; simp [leans, List.range, List.range.loop, factsOf, phi, sel_lit, isV, asV, anyV, sel] at hf; simp [putD, List.range, List.range.loop, Act.put, hf]
    obtain ⟨g, hv1, hg0, hk0⟩ := hG.1.get (by simp)
    obtain ⟨q, hv4, hq0, hq1⟩ := hG.2.behind (by simp) (by simp)
    simp only [hv1, hv4]
    have hgq : q ≠ g := by
      rintro rfl
      unfold Blk at hq1 hk0
      rw [hk0] at hq1
      have h2 := Option.some.inj hq1
      injection h2 with h3 h4
      exact absurd h4 (by decide)
    have HX0 := Lib.hid (hX0.keep hb.below)
    have hltx := hX0.lt
    have hxg : w.heap.size ≠ g := by omega
    have hB1 := hB0.lift hb.below hB0.size
    have HK := Lib.hid hk0; have HQ := Lib.hid hq1; have HB1 := Lib.hid hB1; have HG0 := Lib.hid (Nat.le_trans hB0.size hg0); have HQ0 := Lib.hid (Nat.le_trans hB0.size hq0)
    clear hk0 hq1 hB1 hG hb hf hv1 hv4 hltx
    go_wp2_with (first
      | (go_at_call 13; refine (made_any g s 0 0 0 0 _ HK.out).mono ?_; rintro e w9 ⟨rfl, rfl⟩))
    refine wp_gen (fun wr hwr => ?_)
    have HKR : Hid (Blk wr g (CK s 0 0 0 0) 61) := Lib.hid (by rw [hwr]; exact HK.out)
    have HQR : Hid (Blk wr q #[.int .i64 s, .int .i64 (powI 4 s)] 27) := Lib.hid (by rw [hwr]; exact HQ.out)
    have hB2 : Below w.heap.size w wr := by rw [hwr]; exact HB1.out
    clear hwr HK HQ HB1 HX0
    refine region_muts [61] w.heap.size hB2.size (fun S vals w => keyMut g 61 12 (CK s 0 0 0 0) (CK s 1 (powI 4 s) 1 0) S w) [isV 0 (.pointer (some ⟨g, 0, none⟩)), isV 1 (.int .i64 s), isV 2 (.pointer (some ⟨q, 0, none⟩)), isV 3 (.int .i64 s), isV 4 (.bool true), isV 5 (.bool true), isV 6 (.pointer (some ⟨g, 0, none⟩)), isV 7 (.bool false), isV 8 (.bool true), isV 9 (.bool true), isV 10 (.bool true), isV 11 (.pointer (some ⟨g, 0, none⟩)), isV 12 (.int .i64 (powI 4 s)), isV 13 (.pointer (some ⟨q, 1, none⟩)), isV 14 (.int .i64 (powI 4 s)), isV 15 (.bool true), isV 16 (.bool true), isV 17 (.bool true), isV 18 (.pointer (some ⟨g, 0, none⟩)), isV 19 (.int .i64 (powI 4 s)), isV 20 (.pointer (some ⟨q, 1, none⟩)), isV 21 (.int .i64 (powI 4 s)), isV 22 (.bool true), isV 23 (.bool true), isV 24 (.bool true), isV 25 (.pointer (some ⟨g, 0, none⟩)), isV 26 (.bool true), isV 27 (.bool true), isV 28 (.bool true), isV 29 (.int .i64 n), litV w.heap.size 30 4 (fourB n) 5, isV 31 (.string (strB (fourB n))), isV 32 (.int .i64 n), litV w.heap.size 33 4 (fourB n) 5, isV 34 (.string (strB (fourB n))), isV 35 (.bool true), isV 36 (.bool true), isV 37 (.bool true), isV 38 (.bool true), isV 39 (.bool true), isV 40 (.bool true)]
      [[], [0], [], [2], [1, 3], [4], [5], [5, 6], [5, 7], [5, 8], [9], [10], [10, 11], [10], [10, 13], [10, 12, 14], [10, 15], [16], [17], [17, 18], [17], [17, 20], [17, 19, 21], [17, 22], [23], [24], [24, 25], [24, 26], [27], [28], [28, 29], [28, 30], [28], [28, 32], [28, 33], [28, 31, 34], [28, 35], [36], [37], [37, 38], [39]] [some 17, some 18, some 19, some 20, some 21, some 22, some 23, some 24, some 25, some 26, some 27, some 28, some 29, some 30, some 31, some 32, some 33, some 34, some 35, some 36, some 37, some 38, some 39, some 40, some 41, some 42, some 43, some 44, some 45, some 46, some 47, some 48, some 49, some 50, some 51, some 52, some 53, some 54, some 55, some 56, some 4] _ (by kernel_rfl) (by kernel_rfl) (by kernel_rfl) (by kernel_rfl) (by kernel_rfl) rfl ?_ ?_ ?_ ?_
    · repeat (first | exact stT_nil | refine stT_cons (by first | exact stT_is _ _ | exact stT_as _ _ | exact stT_any | exact stT_lit _ _ _ _ _ (by decide)) ?_)
    · exact keyMut.start HKR.out
    · intro hgz
      refine ⟨?_, ?_, ?_, ?_, ?_, ?_, ?_, ?_, ?_, ?_, ?_, ?_, ?_, ?_, ?_, ?_, ?_, ?_, ?_, ?_, ?_, ?_, ?_, ?_, ?_, ?_, ?_, ?_, ?_, ?_, ?_, ?_, ?_, ?_, ?_, ?_, ?_, ?_, ?_, ?_, ?_, trivial⟩ <;> intro S vals w1 hb hSi hdn hcl hG hf <;> obtain ⟨hb, hz⟩ := hgz w1 hb <;> simp [leans, factsOf, phi, sel_lit, isV, asV, anyV, sel] at hf <;> simp [putD, phi, Act.put]
      · -- 0 move 
        go_wp2
        exact ⟨rfl, rfl, .refl _ _ _, mk_is rfl, hG.keep 0 (by decide) (Below.refl _ _)⟩
      · -- 1 call (*curia/pair.Key).Secret 
        simp only [hf]; clear hf
        have HKN := Lib.hid (hG.ahead (way_not hcl [10, 9, 5, 4] 12 1 (by decide) hSi))
        go_wp2_with (first | (go_at_call 14; refine (secret_any g s 0 0 0 0 _ HKN.out).mono ?_; rintro e w' ⟨rfl, rfl⟩))
        exact ⟨rfl, rfl, .refl _ _ _, mk_is rfl, hG.keep 1 (by decide) (Below.refl _ _)⟩
      · -- 2 fieldAddr 
        go_wp2
        exact ⟨rfl, rfl, .refl _ _ _, mk_is rfl, hG.keep 2 (by decide) (Below.refl _ _)⟩
      · -- 3 load 
        simp only [hf]; clear hf
        obtain ⟨fr6, h6⟩ := hb.marks q _ _ _ (by decide) HQR.out
        have c6 : w1.cell? ⟨q, 0, none⟩ = some (.int .i64 s) := cell_of_row w1 q 0 _ _ fr6 h6
        clear h6
        go_wp2
        exact ⟨rfl, rfl, .refl _ _ _, mk_is rfl, hG.keep 3 (by decide) (Below.refl _ _)⟩
      · -- 4 binOp 
        simp only [hf]; clear hf
        go_wp2
        exact ⟨rfl, rfl, .refl _ _ _, mk_is rfl, hG.keep 4 (by decide) (Below.refl _ _)⟩
      · -- 5 move 
        simp only [hf]; clear hf
        go_wp2
        exact ⟨rfl, rfl, .refl _ _ _, mk_is rfl, hG.keep 5 (by decide) (Below.refl _ _)⟩
      · -- 6 move if some (5, true)
        simp only [hf]; clear hf
        go_wp2
        exact ⟨rfl, rfl, .refl _ _ _, mk_is rfl, hG.keep 6 (by decide) (Below.refl _ _)⟩
      · -- 7 call (*curia/pair.Key).Made if some (5, true)
        simp only [hf]; clear hf
        have HKN := Lib.hid (hG.ahead (way_not hcl [10, 9, 8] 12 7 (by decide) hSi))
        go_wp2_with (first | (go_at_call 13; refine (made_any g s 0 0 0 0 _ HKN.out).mono ?_; rintro e w' ⟨rfl, rfl⟩))
        exact ⟨rfl, rfl, .refl _ _ _, mk_is rfl, hG.keep 7 (by decide) (Below.refl _ _)⟩
      · -- 8 unOp if some (5, true)
        simp only [hf]; clear hf
        go_wp2
        exact ⟨rfl, rfl, .refl _ _ _, mk_is rfl, hG.keep 8 (by decide) (Below.refl _ _)⟩
      · -- 9 pick 
        simp only [hf]; clear hf
        go_wp2
        exact ⟨rfl, rfl, .refl _ _ _, mk_is rfl, hG.keep 9 (by decide) (Below.refl _ _)⟩
      · -- 10 move 
        simp only [hf]; clear hf
        go_wp2
        exact ⟨rfl, rfl, .refl _ _ _, mk_is rfl, hG.keep 10 (by decide) (Below.refl _ _)⟩
      · -- 11 move if some (10, true)
        simp only [hf]; clear hf
        go_wp2
        exact ⟨rfl, rfl, .refl _ _ _, mk_is rfl, hG.keep 11 (by decide) (Below.refl _ _)⟩
      · -- 12 call (*curia/pair.Key).Public if some (10, true)
        simp only [hf]; clear hf
        have HKN := Lib.hid (hG.ahead hSi)
        go_wp2_with (first | (go_at_call 15; refine (public_first g s 0 ⟨by have := BS.out; omega, BS.out.2⟩ _ HKN.out).mono ?_; rintro e w' ⟨rfl, hk', hg'⟩))
        exact ⟨rfl, rfl, GrowsT.grown HKN.out (by decide) hg' HG0.out hz, mk_is rfl, keyMut.mark hk'⟩
      · -- 13 fieldAddr if some (10, true)
        simp only [hf]; clear hf
        go_wp2
        exact ⟨rfl, rfl, .refl _ _ _, mk_is rfl, hG.keep 13 (by decide) (Below.refl _ _)⟩
      · -- 14 load if some (10, true)
        simp only [hf]; clear hf
        obtain ⟨fr6, h6⟩ := hb.marks q _ _ _ (by decide) HQR.out
        have c6 : w1.cell? ⟨q, 1, none⟩ = some (.int .i64 (powI 4 s)) := cell_of_row w1 q 1 _ _ fr6 h6
        clear h6
        go_wp2
        exact ⟨rfl, rfl, .refl _ _ _, mk_is rfl, hG.keep 14 (by decide) (Below.refl _ _)⟩
      · -- 15 binOp if some (10, true)
        simp only [hf]; clear hf
        go_wp2
        exact ⟨rfl, rfl, .refl _ _ _, mk_is rfl, hG.keep 15 (by decide) (Below.refl _ _)⟩
      · -- 16 pick 
        simp only [hf]; clear hf
        go_wp2
        exact ⟨rfl, rfl, .refl _ _ _, mk_is rfl, hG.keep 16 (by decide) (Below.refl _ _)⟩
      · -- 17 move 
        simp only [hf]; clear hf
        go_wp2
        exact ⟨rfl, rfl, .refl _ _ _, mk_is rfl, hG.keep 17 (by decide) (Below.refl _ _)⟩
      · -- 18 move if some (17, true)
        simp only [hf]; clear hf
        go_wp2
        exact ⟨rfl, rfl, .refl _ _ _, mk_is rfl, hG.keep 18 (by decide) (Below.refl _ _)⟩
      · -- 19 call (*curia/pair.Key).Public if some (17, true)
        simp only [hf]; clear hf
        have HKN := Lib.hid (hG.behind (way_done hcl [16, 15] 17 12 (by decide) (hdn 17 (by decide))))
        go_wp2_with (first | (go_at_call 15; refine (public_again g s (powI 4 s) 1 0 _ HKN.out).mono ?_; rintro e w' ⟨rfl, hb'⟩))
        exact ⟨rfl, rfl, GrowsT.of hb' hz, mk_is rfl, hG.keep 19 (by decide) hb'⟩
      · -- 20 fieldAddr if some (17, true)
        simp only [hf]; clear hf
        go_wp2
        exact ⟨rfl, rfl, .refl _ _ _, mk_is rfl, hG.keep 20 (by decide) (Below.refl _ _)⟩
      · -- 21 load if some (17, true)
        simp only [hf]; clear hf
        obtain ⟨fr6, h6⟩ := hb.marks q _ _ _ (by decide) HQR.out
        have c6 : w1.cell? ⟨q, 1, none⟩ = some (.int .i64 (powI 4 s)) := cell_of_row w1 q 1 _ _ fr6 h6
        clear h6
        go_wp2
        exact ⟨rfl, rfl, .refl _ _ _, mk_is rfl, hG.keep 21 (by decide) (Below.refl _ _)⟩
      · -- 22 binOp if some (17, true)
        simp only [hf]; clear hf
        go_wp2
        exact ⟨rfl, rfl, .refl _ _ _, mk_is rfl, hG.keep 22 (by decide) (Below.refl _ _)⟩
      · -- 23 pick 
        simp only [hf]; clear hf
        go_wp2
        exact ⟨rfl, rfl, .refl _ _ _, mk_is rfl, hG.keep 23 (by decide) (Below.refl _ _)⟩
      · -- 24 move 
        simp only [hf]; clear hf
        go_wp2
        exact ⟨rfl, rfl, .refl _ _ _, mk_is rfl, hG.keep 24 (by decide) (Below.refl _ _)⟩
      · -- 25 move if some (24, true)
        simp only [hf]; clear hf
        go_wp2
        exact ⟨rfl, rfl, .refl _ _ _, mk_is rfl, hG.keep 25 (by decide) (Below.refl _ _)⟩
      · -- 26 call (*curia/pair.Key).Made if some (24, true)
        simp only [hf]; clear hf
        have HKN := Lib.hid (hG.behind (way_done hcl [23, 22, 19, 17, 16, 15] 24 12 (by decide) (hdn 24 (by decide))))
        go_wp2_with (first | (go_at_call 13; refine (made_any g s 1 (powI 4 s) 1 0 _ HKN.out).mono ?_; rintro e w' ⟨rfl, rfl⟩))
        exact ⟨rfl, rfl, .refl _ _ _, mk_is rfl, hG.keep 26 (by decide) (Below.refl _ _)⟩
      · -- 27 pick 
        simp only [hf]; clear hf
        go_wp2
        exact ⟨rfl, rfl, .refl _ _ _, mk_is rfl, hG.keep 27 (by decide) (Below.refl _ _)⟩
      · -- 28 move 
        simp only [hf]; clear hf
        go_wp2
        exact ⟨rfl, rfl, .refl _ _ _, mk_is rfl, hG.keep 28 (by decide) (Below.refl _ _)⟩
      · -- 29 move if some (28, true)
        simp only [hf]; clear hf
        go_wp2
        exact ⟨rfl, rfl, .refl _ _ _, mk_is rfl, hG.keep 29 (by decide) (Below.refl _ _)⟩
      · -- 30 call curia/pair.Four if some (28, true)
        simp only [hf]; clear hf
        go_wp2_with (first | (go_at_call 16; refine (four_any n _).mono ?_; rintro e w' ⟨rfl, hw'⟩; have hb' : Below w1.heap.size w1 w' := (by rw [hw']; exact (Below.refl _ _).next (Nat.le_refl _) _); have hl' := Lib.hid (show w'.heap[w1.heap.size]? = some (.cells (HC (fourB n)) 5 (0, 0)) from (by rw [hw']; exact heap_alloc_new _ _)); clear hw'))
        exact ⟨rfl, rfl, GrowsT.of hb' hz, mk_lit w1.heap.size (0, 0) hz rfl hl'.out, hG.keep 30 (by decide) hb'⟩
      · -- 31 convert if some (28, true)
        obtain ⟨e28, g30, fr30, hg30, e30, hblk30⟩ := hf
        simp only [e28, e30]
        have kS := (show Row8 w1 (some ⟨g30, 0, none⟩) 4 (fourB n) from Row8.ofCells hblk30 rfl (by simp [maxLen, fourB])).str (P := Try.prog) 31 9 5 4 Try.underlying31 Try.underlying5 Try.underlying9
        go_wp2
        exact ⟨rfl, rfl, .refl _ _ _, mk_is rfl, hG.keep 31 (by decide) (Below.refl _ _)⟩
      · -- 32 move if some (28, true)
        simp only [hf]; clear hf
        go_wp2
        exact ⟨rfl, rfl, .refl _ _ _, mk_is rfl, hG.keep 32 (by decide) (Below.refl _ _)⟩
      · -- 33 call curia/curiaref3.Four if some (28, true)
        simp only [hf]; clear hf
        go_wp2_with (first | (go_at_call 17; refine (rfour_any n _).mono ?_; rintro e w' ⟨rfl, hw'⟩; have hb' : Below w1.heap.size w1 w' := (by rw [hw']; exact (Below.refl _ _).next (Nat.le_refl _) _); have hl' := Lib.hid (show w'.heap[w1.heap.size]? = some (.cells (HC (fourB n)) 5 (0, 0)) from (by rw [hw']; exact heap_alloc_new _ _)); clear hw'))
        exact ⟨rfl, rfl, GrowsT.of hb' hz, mk_lit w1.heap.size (0, 0) hz rfl hl'.out, hG.keep 33 (by decide) hb'⟩
      · -- 34 convert if some (28, true)
        obtain ⟨e28, g33, fr33, hg33, e33, hblk33⟩ := hf
        simp only [e28, e33]
        have kS := (show Row8 w1 (some ⟨g33, 0, none⟩) 4 (fourB n) from Row8.ofCells hblk33 rfl (by simp [maxLen, fourB])).str (P := Try.prog) 31 9 5 4 Try.underlying31 Try.underlying5 Try.underlying9
        go_wp2
        exact ⟨rfl, rfl, .refl _ _ _, mk_is rfl, hG.keep 34 (by decide) (Below.refl _ _)⟩
      · -- 35 binOp if some (28, true)
        simp only [hf]; clear hf
        go_wp2
        exact ⟨rfl, rfl, .refl _ _ _, mk_is rfl, hG.keep 35 (by decide) (Below.refl _ _)⟩
      · -- 36 pick 
        simp only [hf]; clear hf
        go_wp2
        exact ⟨rfl, rfl, .refl _ _ _, mk_is rfl, hG.keep 36 (by decide) (Below.refl _ _)⟩
      · -- 37 move 
        simp only [hf]; clear hf
        go_wp2
        exact ⟨rfl, rfl, .refl _ _ _, mk_is rfl, hG.keep 37 (by decide) (Below.refl _ _)⟩
      · -- 38 call curia/curialaw3.known if some (37, true)
        simp only [hf]; clear hf
        go_wp2_with (first | (go_at_call 18; refine (known_pair _).mono ?_; rintro e w' ⟨rfl, hb'⟩))
        exact ⟨rfl, rfl, GrowsT.of hb' hz, mk_is rfl, hG.keep 38 (by decide) hb'⟩
      · -- 39 pick 
        simp only [hf]; clear hf
        go_wp2
        exact ⟨rfl, rfl, .refl _ _ _, mk_is rfl, hG.keep 39 (by decide) (Below.refl _ _)⟩
      · -- 40 assign 
        simp only [hf]; clear hf
        go_wp2
        exact ⟨rfl, rfl, .refl _ _ _, mk_is rfl, hG.keep 40 (by decide) (Below.refl _ _)⟩
    · intro vals w1 hb hG hf; simp [leans, List.range, List.range.loop, factsOf, phi, sel_lit, isV, asV, anyV, sel] at hf; simp [putD, List.range, List.range.loop, Act.put, hf]
      go_wp2
      go_ret
      exact ⟨rfl, hB2.trans hb.below⟩
end Go.Proofs.Ytbhhgmaibdkgbaa
