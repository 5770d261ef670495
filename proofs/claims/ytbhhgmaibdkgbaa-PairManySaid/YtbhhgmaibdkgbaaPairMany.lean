/-
  The law PairMany, walked.
-/
import Derived.Test.YtbhhgmaibdkgbaaPairMath
import Derived.Test.YtbhhgmaibdkgbaaKeys
import Derived.Test.YtbhhgmaibdkgbaaOpenI
namespace Go.Proofs.Ytbhhgmaibdkgbaa
set_option maxRecDepth 100000
open Go.RowKit Pm
set_option linter.unusedVariables false
set_option linter.unusedSimpArgs false
attribute [local go_sem] eqh_guard key_y key_x

set_option maxRecDepth 100000 in
set_option maxHeartbeats 2000000 in
theorem pairMany_walk {w : World} (a : List UInt8) (ha : a.length = 32) (la : Option Addr) (ll lc : Nat) (zs : List Int) (hzs : ArgI w la ll lc zs) :
    Calls Try.prog 5 #[HV a, .slice la ll lc] w fun e w' => e = .returned (.bool true) ∧ Below w.heap.size w w' := by
  have hsz : (Try.prog.info? 23).map (·.size) = some (HC a).size := by rw [HC_size, ha]; kernel_rfl
  obtain ⟨s, hs⟩ : ∃ s, keyS a = s := ⟨_, rfl⟩
  have hbs := keyS_bd a
  rw [hs] at hbs
  have HA := Lib.hid ha; have S1 := Lib.hid hsz; have HS := Lib.hid hs; have BS := Lib.hid hbs
  clear ha hsz hs hbs
  unfold HV
  have hll := hzs.len_eq
  have hsmall := hzs.small
  have hle := hzs.le
  subst hll
  have HZS := Lib.hid hzs
  clear hzs
  by_cases h1 : ((zs.length : Int) > 20)
  · go_enter Try.func5, Try.ntmps5
    go_wp2
    go_ret
    exact ⟨rfl, (Below.refl _ _).next (Nat.le_refl _) _⟩
  go_enter Try.func5, Try.ntmps5
  go_wp2_with fail
  refine wp_gen (fun wr hwr => ?_)
  have hX0 : Blk wr w.heap.size (HC a) 23 := by rw [hwr]; exact Blk.new w _ _
  have hB0 : Below w.heap.size w wr := by rw [hwr]; exact (Below.refl _ _).next (Nat.le_refl _) _
  clear hwr
  refine region_muts [61, 27] _ (Nat.le_refl _) (fun S vals w => keyAt wr.heap.size 61 1 (CK s 0 0 0 0) S vals w ∧ newAt wr.heap.size 27 4 6 #[.int .i64 0, .int .i64 0] #[.int .i64 s, .int .i64 (powI 4 s)] S vals w) [isV 0 (HV a), anyV, isV 2 (HV a), isV 3 (.agg #[.int .i64 s, .int .i64 (powI 4 s)]), anyV, asV 5 1, isV 6 undef]
    [[], [0], [], [2], [], [1], [3, 4]] [some 16, some 17, some 18, some 19, some 6, some 5, none] _ (by kernel_rfl) (by kernel_rfl) (by kernel_rfl) (by kernel_rfl) (by kernel_rfl) rfl ?_ ?_ ?_ ?_
  · repeat (first | exact stT_nil | refine stT_cons (by first | exact stT_is _ _ | exact stT_as _ _ | exact stT_any | exact stT_lit _ _ _ _ _ (by decide)) ?_)
  · exact ⟨keyAt.start _ _ _ _ _ _, newAt.start _ _ _ _ _ _ _ _⟩
  · intro hgz
    refine ⟨?_, ?_, ?_, ?_, ?_, ?_, ?_, trivial⟩ <;> intro S vals w1 hb hSi hdn hcl hG hf <;> obtain ⟨hb, hz⟩ := hgz w1 hb <;> simp [leans, factsOf, phi, sel_lit, isV, asV, anyV, sel] at hf <;> simp [putD, phi, Act.put]
    · -- 0 load 
      refine wpList_load_row rfl 23 _ rfl _ rfl 23 (HC a) (0, 0) _ (hX0.keep hb.below) Try.underlying23 rfl S1.out ?_
      exact ⟨rfl, rfl, .refl _ _ _, mk_is rfl, ⟨hG.1.keep _ 0 (by decide) (Below.refl _ _), hG.2.keep _ 0 (by decide) (by decide) (Below.refl _ _)⟩⟩
    · -- 1 call curia/pair.From 
      simp only [hf]; clear hf
      go_wp2_with (first | (go_at_call 11; refine (from_k a HA.out _).mono ?_; rintro e w' ⟨g', rfl, hg', hk', hb'⟩; rw [HS.out] at hk'))
      exact ⟨rfl, rfl, GrowsT.of hb' hz, mk_any, ⟨keyAt.new g' (Nat.le_trans hz hg') hk', hG.2.keep _ 1 (by decide) (by decide) hb'⟩⟩
    · -- 2 load 
      refine wpList_load_row rfl 23 _ rfl _ rfl 23 (HC a) (0, 0) _ (hX0.keep hb.below) Try.underlying23 rfl S1.out ?_
      exact ⟨rfl, rfl, .refl _ _ _, mk_is rfl, ⟨hG.1.keep _ 2 (by decide) (Below.refl _ _), hG.2.keep _ 2 (by decide) (by decide) (Below.refl _ _)⟩⟩
    · -- 3 call curia/curiaref3.From 
      simp only [hf]; clear hf
      go_wp2_with (first | (go_at_call 12; refine (rfrom_k a HA.out _).mono ?_; rintro e w' ⟨rfl, hb'⟩; rw [HS.out]))
      exact ⟨rfl, rfl, GrowsT.of hb' hz, mk_is rfl, ⟨hG.1.keep _ 3 (by decide) hb', hG.2.keep _ 3 (by decide) (by decide) hb'⟩⟩
    · -- 4 alloc 
      go_wp2
      have hgr : Below w1.heap.size w1 (w1.alloc (.cells #[.int .i64 0, .int .i64 0] 27)) := (Below.refl _ _).next (Nat.le_refl _) _
      exact ⟨rfl, rfl, GrowsT.of hgr hz, mk_any, ⟨hG.1.keep _ 4 (by decide) hgr, newAt.new w1.heap.size (by decide) (way_not hcl [] 6 4 (by decide) hSi) hz (Blk.new _ _ _)⟩⟩
    · -- 5 assign 
      go_wp2
      exact ⟨rfl, rfl, .refl _ _ _, mk_as rfl (by decide) (by decide), ⟨hG.1.keep _ 5 (by decide) (Below.refl _ _), hG.2.keep _ 5 (by decide) (by decide) (Below.refl _ _)⟩⟩
    · -- 6 store
      obtain ⟨q', hv4, hq', hb4⟩ := hG.2.ahead (hdn 4 (by decide)) hSi
      have c0 : w1.cell? ⟨q', 0, none⟩ = some (.int .i64 0) := hb4.cell 0
      have c1 : w1.cell? ⟨q', 1, none⟩ = some (.int .i64 0) := hb4.cell 1
      have f0 := hb4.frozen 0
      have f1 := hb4.frozen 1
      have hk2 : Blk ((w1.setCell ⟨q', 0, none⟩ (.int .i64 s)).setCell ⟨q', 1, none⟩ (.int .i64 (powI 4 s))) q' #[.int .i64 s, .int .i64 (powI 4 s)] 27 := ((hb4.set 0 _).set 1 _).copy rfl
      have hg2 : w1.grownBy ((w1.setCell ⟨q', 0, none⟩ (.int .i64 s)).setCell ⟨q', 1, none⟩ (.int .i64 (powI 4 s))) (some q') := grown_setCell (grown_setCell (grown_refl _ _) 0 _) 1 _
      have hgr := GrowsT.grown hb4 (Ts := [61, 27]) (by decide) hg2 hq' hz
      have hne : ∀ g', Blk w1 g' (CK s 0 0 0 0) 61 → g' ≠ q' := by
        rintro g' h1 rfl
        unfold Blk at h1 hb4
        rw [hb4] at h1
        have h2 := Option.some.inj h1
        injection h2 with h3 h4
        exact absurd h4 (by decide)
      have hk1 : keyAt wr.heap.size 61 1 (CK s 0 0 0 0) (add1 S 6) (fun j => if j = 6 then undef else vals j) ((w1.setCell ⟨q', 0, none⟩ (.int .i64 s)).setCell ⟨q', 1, none⟩ (.int .i64 (powI 4 s))) := by
        intro hS
        rw [add1_other S (by decide)] at hS
        obtain ⟨g', h1, h2, h3⟩ := hG.1.get hS
        exact ⟨g', (if_neg (by decide)).trans h1, h2, h3.grown hg2 (hne g' h3)⟩
      have HK2 := Lib.hid hk2; have HGR := Lib.hid hgr; have HK1 := Lib.hid hk1
      clear hk2 hg2 hgr hk1 hne hb4
      simp only [hf, hv4]
      go_wp2
      exact ⟨rfl, rfl, HGR.out, rfl, ⟨HK1.out, newAt.store _ q' (by decide) hv4 hq' HK2.out⟩⟩
  · intro vals w1 hb hG hf; simp [leans, List.range, List.range.loop, factsOf, phi, sel_lit, isV, asV, anyV, sel] at hf; simp [putD, List.range, List.range.loop, Act.put, hf]
    obtain ⟨g, hv1, hg0, hk0⟩ := hG.1.get (by simp)
    obtain ⟨q, hv4, hq0, hq1⟩ := hG.2.behind (by simp) (by simp)
    simp only [hv1, hv4]
    have hgq : q ≠ g := by
      rintro rfl
      unfold Blk at hq1 hk0
      rw [hk0] at hq1
      have h2 := Option.some.inj hq1
      injection h2 with h3 h4
      exact absurd h4 (by decide)
    have HX0 := Lib.hid (hX0.keep hb.below)
    have hltx := hX0.lt
    have hxg : w.heap.size ≠ g := by omega
    have hB1 := hB0.lift hb.below hB0.size
    have HK := Lib.hid hk0; have HQ := Lib.hid hq1; have HB1 := Lib.hid hB1; have HG0 := Lib.hid (Nat.le_trans hB0.size hg0); have HQ0 := Lib.hid (Nat.le_trans hB0.size hq0)
    clear hk0 hq1 hB1 hG hb hf hv1 hv4 hltx
    clear HX0 hxg
    go_wp2
    go_loopw [7, 8] (fun nn i wr => ∃ (k : Nat) (u : Int), k ≤ zs.length ∧ i = .int .i64 k ∧ nn = .int .i64 u ∧ 0 ≤ u ∧ u ≤ k ∧ Blk wr g (CD s (decide (0 < k)) u) 61 ∧ Blk wr q #[.int .i64 s, .int .i64 (powI 4 s)] 27 ∧ Below w.heap.size w wr) (fun _ i _ => zs.length - (intOf i).toNat)
    case atStart => exact ⟨0, 0, Nat.zero_le _, rfl, rfl, Int.le_refl _, Int.le_refl _, HK.out, HQ.out, HB1.out⟩
    case round =>
      obtain ⟨k, u, hk, rfl, rfl, hu0, hu1, hK, hQ, hB⟩ := hrel
      by_cases hlt : k < zs.length
      · obtain ⟨b0, off, rfl, hcell, hwf⟩ := HZS.out.at_ k hlt
        have hcell1 := (hB.cell (block_lt_of_cell hcell)).trans hcell
        have hcw := hcell
        obtain ⟨y, hy⟩ : ∃ y, shW zs[k] s = y := ⟨_, rfl⟩
        obtain ⟨b, hbb⟩ : ∃ b, isI zs[k] = b := ⟨_, rfl⟩
        have hyl : y.length = 32 := by rw [← hy]; exact shW_length _ _
        have hsy : (Try.prog.info? 23).map (·.size) = some (HC y).size := by rw [HC_size, hyl]; kernel_rfl
        have hsy2 : zeros32.size = (HC y).size := by rw [HC_size, hyl]; rfl
        have HK := Lib.hid hK; have HQ := Lib.hid hQ; have HB := Lib.hid hB; have HY := Lib.hid hy; have HBB := Lib.hid hbb; have HYL := Lib.hid hyl; have SY := Lib.hid hsy; have SY2 := Lib.hid hsy2
        have HE := Lib.hid hcell1
        have hce := hcell1
        have HCW := Lib.hid hcw
        clear hK hQ hB hy hbb hyl hsy hsy2 hcell1 hcell hcw HB1
        go_wp2_with (first
          | (go_at_call 19; with_reducible refine (shared_st g s u zs[k] _ ⟨hu0, by omega⟩ _ HK.out).mono ?_; rintro e w2 ⟨rfl, hk2, hg2⟩; rw [HY.out, HBB.out]
             rw [HBB.out] at hk2
             have hb2 := below_grown HB.out hg2 HG0.out HB.out.size
             have HK2 := Lib.hid hk2; have HQ2 := Lib.hid (HQ.out.grown hg2 hgq); have HB2 := Lib.hid hb2
             clear hk2 hg2 hb2)
          | (refine wpList_store_row rfl 23 _ _ rfl w2.heap.size (HC y) rfl rfl 23 zeros32 (Blk.newAt _ _ rfl) SY.out SY2.out (HC_one _) ?_))
        refine wp_gen (fun wr hwr => ?_)
        have hA : Blk wr w2.heap.size (HC y) 23 := by rw [hwr]; exact (Blk.newAt _ _ rfl).setRow _
        have hK2 : Blk wr g (CD s (decide (0 < k)) (u + cnt b)) 61 := by rw [hwr]; exact (HK2.out.alloc _).otherRow _ (by have := HK2.out.lt; omega)
        have hQ2 : Blk wr q #[.int .i64 s, .int .i64 (powI 4 s)] 27 := by rw [hwr]; exact (HQ2.out.alloc _).otherRow _ (by have := HQ2.out.lt; omega)
        have hB2 : Below w.heap.size w wr := by rw [hwr]; exact below_setRow (HB2.out.next (Nat.le_refl _) _) _ HB2.out.size
        have hE2 := (hB2.cell (block_lt_of_cell HCW.out)).trans HCW.out
        have HA := Lib.hid hA; have HKK := Lib.hid hK2; have HQ2 := Lib.hid hQ2; have HB2 := Lib.hid hB2; have HE2 := Lib.hid hE2
        clear hA hK2 hQ2 hB2 hE2 hwr HE HK HQ HB hce
        refine region_muts [23] _ (Nat.le_refl _) (fun S vals w => newAt wr.heap.size 23 9 10 zeros32 (HC y) S vals w) [isV 0 (.agg #[.int .i64 s, .int .i64 (powI 4 s)]), isV 1 (.slice (some ⟨b0, off, none⟩) zs.length lc), isV 2 (.int .i64 k), isV 3 (.pointer (some ⟨b0, off + k, none⟩)), isV 4 (.int .i64 zs[k]), isV 5 (.tuple #[HV y, .bool b]), isV 6 (.tuple #[HV y, .bool b]), isV 7 (HV y), isV 8 (.bool b), anyV, isV 10 undef, isV 11 (.bool b)]
          [[], [], [], [1, 2], [3], [0, 4], [5], [6], [6], [], [7, 9], [8]] [some 38, some 39, some 40, some 41, some 42, some 43, some 37, some 44, some 45, some 11, none, some 12] _ (by kernel_rfl) (by kernel_rfl) (by kernel_rfl) (by kernel_rfl) (by kernel_rfl) rfl ?_ ?_ ?_ ?_
        · repeat (first | exact stT_nil | refine stT_cons (by first | exact stT_is _ _ | exact stT_as _ _ | exact stT_any | exact stT_lit _ _ _ _ _ (by decide)) ?_)
        · exact newAt.start _ _ _ _ _ _ _ _
        · intro hgz
          refine ⟨?_, ?_, ?_, ?_, ?_, ?_, ?_, ?_, ?_, ?_, ?_, ?_, trivial⟩ <;> intro S vals w1 hb hSi hdn hcl hG hf <;> obtain ⟨hb, hz⟩ := hgz w1 hb <;> simp [leans, factsOf, phi, sel_lit, isV, asV, anyV, sel] at hf <;> simp [putD, phi, Act.put]
          · -- 0 load 
            refine wpList_load_row rfl 27 _ rfl _ rfl 27 #[.int .i64 s, .int .i64 (powI 4 s)] (0, 0) _ (HQ2.out.keep hb.below) Try.underlying27 rfl (by kernel_rfl) ?_
            exact ⟨rfl, rfl, .refl _ _ _, mk_is rfl, hG.keep _ 0 (by decide) (by decide) (Below.refl _ _)⟩
          · -- 1 move 
            go_wp2
            exact ⟨rfl, rfl, .refl _ _ _, mk_is rfl, hG.keep _ 1 (by decide) (by decide) (Below.refl _ _)⟩
          · -- 2 move 
            go_wp2
            exact ⟨rfl, rfl, .refl _ _ _, mk_is rfl, hG.keep _ 2 (by decide) (by decide) (Below.refl _ _)⟩
          · -- 3 indexAddr 
            simp only [hf]; clear hf
            go_wp2
            exact ⟨rfl, rfl, .refl _ _ _, mk_is rfl, hG.keep _ 3 (by decide) (by decide) (Below.refl _ _)⟩
          · -- 4 load 
            simp only [hf]; clear hf
            have c4 := (hb.below.cell (block_lt_of_cell HE2.out)).trans HE2.out
            go_wp2
            exact ⟨rfl, rfl, .refl _ _ _, mk_is rfl, hG.keep _ 4 (by decide) (by decide) (Below.refl _ _)⟩
          · -- 5 call (curia/curiaref3.Key).Shared 
            simp only [hf]; clear hf
            go_wp2_with (first | (go_at_call 20; refine (rshared_st s (powI 4 s) zs[k] _).mono ?_; rintro e w' ⟨rfl, hb'⟩; rw [HY.out, HBB.out]))
            exact ⟨rfl, rfl, GrowsT.of hb' hz, mk_is rfl, hG.keep _ 5 (by decide) (by decide) hb'⟩
          · -- 6 move 
            simp only [hf]; clear hf
            go_wp2
            exact ⟨rfl, rfl, .refl _ _ _, mk_is rfl, hG.keep _ 6 (by decide) (by decide) (Below.refl _ _)⟩
          · -- 7 extract 
            simp only [hf]; clear hf
            go_wp2
            exact ⟨rfl, rfl, .refl _ _ _, mk_is rfl, hG.keep _ 7 (by decide) (by decide) (Below.refl _ _)⟩
          · -- 8 extract 
            simp only [hf]; clear hf
            go_wp2
            exact ⟨rfl, rfl, .refl _ _ _, mk_is rfl, hG.keep _ 8 (by decide) (by decide) (Below.refl _ _)⟩
          · -- 9 alloc 
            go_wp2
            have hgr : Below w1.heap.size w1 (w1.alloc (.cells zeros32 23)) := (Below.refl _ _).next (Nat.le_refl _) _
            exact ⟨rfl, rfl, GrowsT.of hgr hz, mk_any, newAt.new w1.heap.size (by decide) (way_not hcl [] 10 9 (by decide) hSi) hz (Blk.new _ _ _)⟩
          · -- 10 store
            obtain ⟨q', hv4, hq', hb4⟩ := hG.ahead (hdn 9 (by decide)) hSi
            have HB4 := Lib.hid hb4
            clear hb4
            simp only [hf, hv4]
            refine wpList_store_row rfl 23 _ _ rfl q' (HC y) rfl rfl 23 zeros32 HB4.out SY.out SY2.out (HC_one _) ?_
            have hgr : GrowsT [23] wr.heap.size w1 (w1.setRow q' (HC y)) := GrowsT.grown HB4.out (by decide) (grown_setRow (grown_refl w1 _) _ (.inr rfl)) hq' hz
            exact ⟨rfl, rfl, hgr, rfl, newAt.store _ q' (by decide) hv4 hq' (HB4.out.setRow _)⟩
          · -- 11 assign 
            simp only [hf]; clear hf
            go_wp2
            exact ⟨rfl, rfl, .refl _ _ _, mk_is rfl, hG.keep _ 11 (by decide) (by decide) (Below.refl _ _)⟩
        · intro vals w1 hb hG hf; simp [leans, List.range, List.range.loop, factsOf, phi, sel_lit, isV, asV, anyV, sel] at hf; simp [putD, List.range, List.range.loop, Act.put, hf]
          obtain ⟨vb, hv9, hvb0, hvb⟩ := hG.behind (by simp) (by simp)
          simp only [hv9]
          have hB3 := HB2.out.later hb.below (Nat.le_refl _)
          have HV3 := Lib.hid hvb; have HA3 := Lib.hid (HA.out.keep hb.below); have HK3 := Lib.hid (HKK.out.keep hb.below); have HQ3 := Lib.hid (HQ2.out.keep hb.below); have HB3 := Lib.hid hB3
          clear hvb hv9 hG hb hf hB3 HA HKK HQ2 HB2 HE2
          go_wp2_with fail
          refine region_muts [61] w.heap.size HB3.out.size (fun S vals w => keyMut g 61 10 (CD s (decide (0 < k)) (u + cnt b)) (CD s true (u + cnt b)) S w ∧ Blk w q #[.int .i64 s, .int .i64 (powI 4 s)] 27) [isV 0 (HV y), isV 1 (HV y), isV 2 (.bool false), isV 3 (.bool false), isV 4 (.bool b), isV 5 (.bool b), isV 6 (.bool false), isV 7 (.bool false), isV 8 (.bool false), isV 9 (.pointer (some ⟨g, 0, none⟩)), isV 10 (.int .i64 (powI 4 s)), isV 11 (.pointer (some ⟨q, 1, none⟩)), isV 12 (.int .i64 (powI 4 s)), isV 13 (.bool false), isV 14 (.bool false)]
            [[], [], [0, 1], [2], [3], [3], [3, 4, 5], [3, 6], [7], [8], [8, 9], [8], [8, 11], [8, 10, 12], [8, 13]] [some 46, some 47, some 48, some 49, some 50, some 51, some 52, some 53, some 54, some 55, some 56, some 57, some 58, some 59, some 60] _ (by kernel_rfl) (by kernel_rfl) (by kernel_rfl) (by kernel_rfl) (by kernel_rfl) rfl ?_ ?_ ?_ ?_
          · repeat (first | exact stT_nil | refine stT_cons (by first | exact stT_is _ _ | exact stT_as _ _ | exact stT_any | exact stT_lit _ _ _ _ _ (by decide)) ?_)
          · exact ⟨keyMut.start HK3.out, HQ3.out⟩
          · intro hgz
            refine ⟨?_, ?_, ?_, ?_, ?_, ?_, ?_, ?_, ?_, ?_, ?_, ?_, ?_, ?_, ?_, trivial⟩ <;> intro S vals w1 hb hSi hdn hcl hG hf <;> obtain ⟨hb, hz⟩ := hgz w1 hb <;> simp [leans, factsOf, phi, sel_lit, isV, asV, anyV, sel] at hf <;> simp [putD, phi, Act.put]
            · -- 0 load 
              obtain ⟨fr0, h0⟩ := hb.marks _ _ _ _ (by decide) HA3.out
              refine wpList_load_row rfl 23 _ rfl _ rfl 23 (HC y) fr0 _ h0 Try.underlying23 rfl SY.out ?_
              exact ⟨rfl, rfl, .refl _ _ _, mk_is rfl, ⟨hG.1.keep 0 (by decide) (Below.refl _ _), hG.2.keep (Below.refl _ _)⟩⟩
            · -- 1 load 
              obtain ⟨fr1, h1⟩ := hb.marks _ _ _ _ (by decide) HV3.out
              refine wpList_load_row rfl 23 _ rfl _ rfl 23 (HC y) fr1 _ h1 Try.underlying23 rfl SY.out ?_
              exact ⟨rfl, rfl, .refl _ _ _, mk_is rfl, ⟨hG.1.keep 1 (by decide) (Below.refl _ _), hG.2.keep (Below.refl _ _)⟩⟩
            · -- 2 binOp 
              simp only [hf]; clear hf
              have kE := neh w1 y y HYL.out HYL.out
              rw [beq_self_eq_true] at kE
              go_wp2
              exact ⟨rfl, rfl, .refl _ _ _, mk_is rfl, ⟨hG.1.keep 2 (by decide) (Below.refl _ _), hG.2.keep (Below.refl _ _)⟩⟩
            · -- 3 move 
              simp only [hf]; clear hf
              go_wp2
              exact ⟨rfl, rfl, .refl _ _ _, mk_is rfl, ⟨hG.1.keep 3 (by decide) (Below.refl _ _), hG.2.keep (Below.refl _ _)⟩⟩
            · -- 4 move if some (3, false)
              simp only [hf]; clear hf
              go_wp2
              exact ⟨rfl, rfl, .refl _ _ _, mk_is rfl, ⟨hG.1.keep 4 (by decide) (Below.refl _ _), hG.2.keep (Below.refl _ _)⟩⟩
            · -- 5 move if some (3, false)
              simp only [hf]; clear hf
              go_wp2
              exact ⟨rfl, rfl, .refl _ _ _, mk_is rfl, ⟨hG.1.keep 5 (by decide) (Below.refl _ _), hG.2.keep (Below.refl _ _)⟩⟩
            · -- 6 binOp if some (3, false)
              simp only [hf]; clear hf
              go_wp2
              exact ⟨rfl, rfl, .refl _ _ _, mk_is rfl, ⟨hG.1.keep 6 (by decide) (Below.refl _ _), hG.2.keep (Below.refl _ _)⟩⟩
            · -- 7 pick 
              simp only [hf]; clear hf
              go_wp2
              exact ⟨rfl, rfl, .refl _ _ _, mk_is rfl, ⟨hG.1.keep 7 (by decide) (Below.refl _ _), hG.2.keep (Below.refl _ _)⟩⟩
            · -- 8 move 
              simp only [hf]; clear hf
              go_wp2
              exact ⟨rfl, rfl, .refl _ _ _, mk_is rfl, ⟨hG.1.keep 8 (by decide) (Below.refl _ _), hG.2.keep (Below.refl _ _)⟩⟩
            · -- 9 move if some (8, false)
              simp only [hf]; clear hf
              go_wp2
              exact ⟨rfl, rfl, .refl _ _ _, mk_is rfl, ⟨hG.1.keep 9 (by decide) (Below.refl _ _), hG.2.keep (Below.refl _ _)⟩⟩
            · -- 10 call (*curia/pair.Key).Public if some (8, false)
              simp only [hf]; clear hf
              have HKN := Lib.hid (hG.1.ahead hSi)
              go_wp2_with (first | (go_at_call 15; refine (public_st g s (u + cnt b) _ ⟨by have := BS.out; omega, BS.out.2⟩ _ HKN.out).mono ?_; rintro e w' ⟨rfl, hk', hg'⟩))
              exact ⟨rfl, rfl, GrowsT.grown HKN.out (by decide) hg' HG0.out hz, mk_is rfl, ⟨keyMut.mark hk', hG.2.grown hg' hgq⟩⟩
            · -- 11 fieldAddr if some (8, false)
              simp only [hf]; clear hf
              go_wp2
              exact ⟨rfl, rfl, .refl _ _ _, mk_is rfl, ⟨hG.1.keep 11 (by decide) (Below.refl _ _), hG.2.keep (Below.refl _ _)⟩⟩
            · -- 12 load if some (8, false)
              simp only [hf]; clear hf
              obtain ⟨fr6, h6⟩ := hb.marks q _ _ _ (by decide) HQ3.out
              have c6 : w1.cell? ⟨q, 1, none⟩ = some (.int .i64 (powI 4 s)) := cell_of_row w1 q 1 _ _ fr6 h6
              clear h6
              go_wp2
              exact ⟨rfl, rfl, .refl _ _ _, mk_is rfl, ⟨hG.1.keep 12 (by decide) (Below.refl _ _), hG.2.keep (Below.refl _ _)⟩⟩
            · -- 13 binOp if some (8, false)
              simp only [hf]; clear hf
              go_wp2
              exact ⟨rfl, rfl, .refl _ _ _, mk_is rfl, ⟨hG.1.keep 13 (by decide) (Below.refl _ _), hG.2.keep (Below.refl _ _)⟩⟩
            · -- 14 pick 
              simp only [hf]; clear hf
              go_wp2
              exact ⟨rfl, rfl, .refl _ _ _, mk_is rfl, ⟨hG.1.keep 14 (by decide) (Below.refl _ _), hG.2.keep (Below.refl _ _)⟩⟩
          · intro vals w1 hb hG hf; simp [leans, List.range, List.range.loop, factsOf, phi, sel_lit, isV, asV, anyV, sel] at hf; simp [putD, List.range, List.range.loop, Act.put, hf]
            have hK4 := hG.1.behind (by simp)
            have hQ4 := hG.2
            have hB4 := HB3.out.trans hb.below
            have HK4 := Lib.hid hK4; have HB4 := Lib.hid hB4; have HQ4 := Lib.hid hQ4
            clear hG hb hf hK4 hB4 hQ4 HK3 HQ3 HB3 HA3 HV3
            cases b with
            | true =>
              go_wp2
              go_roundw
              case rel =>
                have hd : decide (0 < k + 1) = true := decide_eq_true (by omega)
                refine ⟨k + 1, u + 1, by omega, by go_num, by go_num, by omega, by omega, ?_, HQ4.out, HB4.out⟩
                rw [hd]; exact HK4.out
              case measure => simp [intOf]; omega
            | false =>
              go_wp2
              go_roundw
              case rel =>
                have hd : decide (0 < k + 1) = true := decide_eq_true (by omega)
                have hu : u + cnt false = u := by simp [cnt]
                refine ⟨k + 1, u, by omega, by go_num, rfl, by omega, by omega, ?_, HQ4.out, HB4.out⟩
                rw [hd, ← hu]; exact HK4.out
              case measure => simp [intOf]; omega
      · have hkl : k = zs.length := by omega
        subst hkl
        have HK := Lib.hid hK; have HB := Lib.hid hB
        have hdd : decide (0 < zs.length) = decide ((zs.length : Int) > 0) := by simp
        clear hK hQ hB HQ HB1
        go_wp2_with (first
          | (go_at_call 21; with_reducible refine (uses_st g s u _ ⟨hu0, by omega⟩ _ HK.out).mono ?_; rintro e w' ⟨rfl, rfl⟩)
          | (go_at_call 13; with_reducible refine (made_st g s u _ _ HK.out).mono ?_; rintro e w' ⟨rfl, rfl⟩; rw [hdd])
          | (go_at_call 18; with_reducible refine (known_pair _).mono ?_; rintro e w9 ⟨rfl, hb9⟩))
        go_ret
        exact ⟨rfl, HB.out.later hb9 (Nat.le_refl _)⟩
end Go.Proofs.Ytbhhgmaibdkgbaa
