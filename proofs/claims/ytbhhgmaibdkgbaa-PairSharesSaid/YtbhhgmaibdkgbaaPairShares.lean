/-
  The law PairShares, walked.
-/
import Derived.Test.YtbhhgmaibdkgbaaPairMath
namespace Go.Proofs.Ytbhhgmaibdkgbaa
set_option maxRecDepth 100000
open Go.RowKit Pm
set_option linter.unusedVariables false
set_option linter.unusedSimpArgs false
attribute [local go_sem] eqh_guard key_y key_x

set_option maxRecDepth 100000 in
set_option maxHeartbeats 2000000 in
theorem pairShares_walk {w : World} (a : List UInt8) (ha : a.length = 32) (b : List UInt8) (hb : b.length = 32) (odd : Int) (wodd : (Lit.int .i64 odd).wf = true) :
    Calls Try.prog 4 #[HV a, HV b, .int .i64 odd] w fun e w' => e = .returned (.bool true) ∧ Below w.heap.size w w' := by
  have hsz : (Try.prog.info? 23).map (·.size) = some (HC a).size := by rw [HC_size, ha]; kernel_rfl
  have hszb : (Try.prog.info? 23).map (·.size) = some (HC b).size := by rw [HC_size, hb]; kernel_rfl
  obtain ⟨s, hs⟩ : ∃ s, keyS a = s := ⟨_, rfl⟩
  obtain ⟨r, hr⟩ : ∃ r, keyS b = r := ⟨_, rfl⟩
  have hbs := keyS_bd a
  have hbr := keyS_bd b
  rw [hs] at hbs
  rw [hr] at hbr
  have HA := Lib.hid ha; have HB := Lib.hid hb; have S1 := Lib.hid hsz; have S2 := Lib.hid hszb; have HS := Lib.hid hs; have HR := Lib.hid hr; have BS := Lib.hid hbs; have BR := Lib.hid hbr
  clear ha hb hsz hszb hs hr hbs hbr
  unfold HV
  go_enter Try.func4, Try.ntmps4
  go_wp2_with fail
  refine wp_gen (fun wr hwr => ?_)
  have hX0 : Blk wr w.heap.size (HC a) 23 := by rw [hwr]; exact (Blk.new w _ _).alloc _
  have hX1 : Blk wr (w.heap.size + 1) (HC b) 23 := by rw [hwr]; exact Blk.newAt _ _ (by simp)
  have hB0 : Below w.heap.size w wr := by rw [hwr]; exact ((Below.refl _ _).next (Nat.le_refl _) _).next (Nat.le_refl _) _
  clear hwr
  refine region_muts [61] _ (Nat.le_refl _) (fun S vals w => keyAt wr.heap.size 61 1 (CK s 0 0 0 0) S vals w ∧ keyAt wr.heap.size 61 3 (CK r 0 0 0 0) S vals w ∧ apart 1 3 S vals) [isV 0 (HV a), anyV, isV 2 (HV b), anyV, asV 4 1, asV 5 3]
    [[], [0], [], [2], [1], [3]] [some 18, some 19, some 20, some 21, some 7, some 8] _ (by kernel_rfl) (by kernel_rfl) (by kernel_rfl) (by kernel_rfl) (by kernel_rfl) rfl ?_ ?_ ?_ ?_
  · repeat (first | exact stT_nil | refine stT_cons (by first | exact stT_is _ _ | exact stT_as _ _ | exact stT_any) ?_)
  · exact ⟨keyAt.start _ _ _ _ _ _, keyAt.start _ _ _ _ _ _, apart.start _ _ _⟩
  · intro hgz
    refine ⟨?_, ?_, ?_, ?_, ?_, ?_, trivial⟩ <;> intro S vals w1 hb hSi hdn hcl hG hf <;> obtain ⟨hb, hz⟩ := hgz w1 hb <;> simp [leans, factsOf, phi, isV, asV, anyV, sel] at hf <;> simp [putD, phi, Act.put]
    · -- 0 load 
      refine wpList_load_row rfl 23 _ rfl _ rfl 23 (HC a) (0, 0) _ (hX0.keep hb.below) Try.underlying23 rfl S1.out ?_
      exact ⟨rfl, rfl, .refl _ _ _, mk_is rfl, ⟨hG.1.keep _ 0 (by decide) (Below.refl _ _), hG.2.1.keep _ 0 (by decide) (Below.refl _ _), hG.2.2.keep _ 0 (by decide) (by decide)⟩⟩
    · -- 1 call curia/pair.From 
      simp only [hf]; clear hf
      go_wp2_with (first | (go_at_call 11; refine (from_k a HA.out _).mono ?_; rintro e w' ⟨g', rfl, hg', hk', hb'⟩; rw [HS.out] at hk'))
      exact ⟨rfl, rfl, GrowsT.of hb' hz, mk_any, ⟨keyAt.new g' (Nat.le_trans hz hg') hk', hG.2.1.keep _ 1 (by decide) hb', apart.left hG.2.1 g' hg' (by decide)⟩⟩
    · -- 2 load 
      refine wpList_load_row rfl 23 _ rfl _ rfl 23 (HC b) (0, 0) _ (hX1.keep hb.below) Try.underlying23 rfl S2.out ?_
      exact ⟨rfl, rfl, .refl _ _ _, mk_is rfl, ⟨hG.1.keep _ 2 (by decide) (Below.refl _ _), hG.2.1.keep _ 2 (by decide) (Below.refl _ _), hG.2.2.keep _ 2 (by decide) (by decide)⟩⟩
    · -- 3 call curia/pair.From 
      simp only [hf]; clear hf
      go_wp2_with (first | (go_at_call 11; refine (from_k b HB.out _).mono ?_; rintro e w' ⟨g', rfl, hg', hk', hb'⟩; rw [HR.out] at hk'))
      exact ⟨rfl, rfl, GrowsT.of hb' hz, mk_any, ⟨hG.1.keep _ 3 (by decide) hb', keyAt.new g' (Nat.le_trans hz hg') hk', apart.right hG.1 g' hg' (by decide)⟩⟩
    · -- 4 assign 
      go_wp2
      exact ⟨rfl, rfl, .refl _ _ _, mk_as rfl (by decide) (by decide), ⟨hG.1.keep _ 4 (by decide) (Below.refl _ _), hG.2.1.keep _ 4 (by decide) (Below.refl _ _), hG.2.2.keep _ 4 (by decide) (by decide)⟩⟩
    · -- 5 assign 
      go_wp2
      exact ⟨rfl, rfl, .refl _ _ _, mk_as rfl (by decide) (by decide), ⟨hG.1.keep _ 5 (by decide) (Below.refl _ _), hG.2.1.keep _ 5 (by decide) (Below.refl _ _), hG.2.2.keep _ 5 (by decide) (by decide)⟩⟩
  · intro vals w1 hb hG hf; simp [leans, List.range, List.range.loop, factsOf, phi, isV, asV, anyV, sel] at hf; simp [putD, List.range, List.range.loop, Act.put, hf]
    obtain ⟨g, hv1, hg0, hk0⟩ := hG.1.get (by simp)
    obtain ⟨q, hv3, hq0, hq1⟩ := hG.2.1.get (by simp)
    have hgq : g ≠ q := fun e => hG.2.2 (by simp) (by simp) (by rw [hv1, hv3, e])
    simp only [hv1, hv3]
    have HX0 := Lib.hid (hX0.keep hb.below)
    have hltx := hX0.lt
    have hxg : w.heap.size ≠ g := by omega
    have hxq : w.heap.size ≠ q := by omega
    have hB1 := hB0.lift hb.below hB0.size
    have HK := Lib.hid hk0; have HQ := Lib.hid hq1; have HB1 := Lib.hid hB1; have HG0 := Lib.hid (Nat.le_trans hB0.size hg0); have HQ0 := Lib.hid (Nat.le_trans hB0.size hq0)
    clear hk0 hq1 hB1 hG hb hf hv1 hv3
    obtain ⟨x, hx⟩ : ∃ x, shareW (powI 4 r) s = x := ⟨_, rfl⟩
    have hx2 : shareW (powI 4 s) r = x := by rw [← hx]; unfold shareW; rw [raised r s ⟨by have := BR.out; omega, BR.out.2⟩ ⟨by have := BS.out; omega, BS.out.2⟩]
    have hxl : x.length = 32 := by rw [← hx]; exact shareW_length _ _
    have hsx : (Try.prog.info? 23).map (·.size) = some (HC x).size := by rw [HC_size, hxl]; kernel_rfl
    have hsx2 : zeros32.size = (HC x).size := by rw [HC_size, hxl]; rfl
    have HSX := Lib.hid hx; have HSY := Lib.hid hx2; have HXL := Lib.hid hxl; have SX := Lib.hid hsx; have SX2 := Lib.hid hsx2
    clear hx hx2 hxl hsx hsx2 hltx
    go_wp2_with fail
    refine (public_first q r 0 ⟨by have := BR.out; omega, BR.out.2⟩ _ HQ.out).mono ?_
    rintro e w11 ⟨rfl, hk11, hg11⟩
    have hX11 := HX0.out.grown hg11 (hxq)
    have hK11 := HK.out.grown hg11 (hgq)
    have hQ11 : Blk w11 (q) (CK r 1 (powI 4 r) 1 0) 61 := hk11
    have hB11 := below_grown HB1.out hg11 HQ0.out HB1.out.size
    have HX11 := Lib.hid hX11; have HK11 := Lib.hid hK11; have HQ11 := Lib.hid hQ11; have HB11 := Lib.hid hB11
    clear hX11 hK11 hQ11 hB11 HX0 HK HQ HB1 hk11 hg11
    go_wp2_with fail
    refine (shared_yes g s 0 0 0 0 (powI 4 r) (isI_pub r BR.out) (by decide) _ HK11.out).mono ?_
    rintro e w12 ⟨rfl, hk12, hg12⟩
    rw [HSX.out]
    have hX12 := HX11.out.grown hg12 (hxg)
    have hK12 : Blk w12 (g) (CK s 0 0 0 1) 61 := hk12
    have hQ12 := HQ11.out.grown hg12 (Ne.symm (hgq))
    have hB12 := below_grown HB11.out hg12 HG0.out HB11.out.size
    have HX12 := Lib.hid hX12; have HK12 := Lib.hid hK12; have HQ12 := Lib.hid hQ12; have HB12 := Lib.hid hB12
    clear hX12 hK12 hQ12 hB12 HX11 HK11 HQ11 HB11 hk12 hg12
    go_wp2_with (first
          | (refine wpList_store_row rfl 23 _ _ rfl w12.heap.size (HC x) rfl rfl 23 zeros32 (Blk.newAt _ _ rfl) SX.out SX2.out (HC_one _) ?_
             refine wpl_gen (fun w13 hw13 => ?_)
             have hX13 : Blk w13 (w.heap.size) (HC a) 23 := by rw [hw13]; exact (HX12.out.alloc _).otherRow _ (by have := HX12.out.lt; omega)
             have hK13 : Blk w13 (g) (CK s 0 0 0 1) 61 := by rw [hw13]; exact (HK12.out.alloc _).otherRow _ (by have := HK12.out.lt; omega)
             have hQ13 : Blk w13 (q) (CK r 1 (powI 4 r) 1 0) 61 := by rw [hw13]; exact (HQ12.out.alloc _).otherRow _ (by have := HQ12.out.lt; omega)
             have hA13 : Blk w13 (w12.heap.size) (HC x) 23 := by rw [hw13]; exact (Blk.newAt _ _ rfl).setRow _
             have hB13 : Below w.heap.size w w13 := by rw [hw13]; exact below_setRow (HB12.out.next (Nat.le_refl _) _) _ HB12.out.size
             have hneAX : w12.heap.size ≠ w.heap.size := by have := HX12.out.lt; omega
             have hneAK : w12.heap.size ≠ g := by have := HK12.out.lt; omega
             have hneAQ : w12.heap.size ≠ q := by have := HQ12.out.lt; omega
             have HX13 := Lib.hid hX13; have HK13 := Lib.hid hK13; have HQ13 := Lib.hid hQ13; have HA13 := Lib.hid hA13; have HB13 := Lib.hid hB13
             clear hX13 hK13 hQ13 hA13 hB13 HX12 HK12 HQ12 HB12 hw13))
    refine (public_first g s 1 ⟨by have := BS.out; omega, BS.out.2⟩ _ HK13.out).mono ?_
    rintro e w14 ⟨rfl, hk14, hg14⟩
    have hX14 := HX13.out.grown hg14 (hxg)
    have hK14 : Blk w14 (g) (CK s 1 (powI 4 s) 1 1) 61 := hk14
    have hQ14 := HQ13.out.grown hg14 (Ne.symm (hgq))
    have hA14 := HA13.out.grown hg14 (hneAK)
    have hB14 := below_grown HB13.out hg14 HG0.out HB13.out.size
    have HX14 := Lib.hid hX14; have HK14 := Lib.hid hK14; have HQ14 := Lib.hid hQ14; have HA14 := Lib.hid hA14; have HB14 := Lib.hid hB14
    clear hX14 hK14 hQ14 hA14 hB14 HX13 HK13 HQ13 HA13 HB13 hk14 hg14
    go_wp2_with fail
    refine (shared_yes q r 1 (powI 4 r) 1 0 (powI 4 s) (isI_pub s BS.out) (by decide) _ HQ14.out).mono ?_
    rintro e w15 ⟨rfl, hk15, hg15⟩
    rw [HSY.out]
    have hX15 := HX14.out.grown hg15 (hxq)
    have hK15 := HK14.out.grown hg15 (hgq)
    have hQ15 : Blk w15 (q) (CK r 1 (powI 4 r) 1 1) 61 := hk15
    have hA15 := HA14.out.grown hg15 (hneAQ)
    have hB15 := below_grown HB14.out hg15 HQ0.out HB14.out.size
    have HX15 := Lib.hid hX15; have HK15 := Lib.hid hK15; have HQ15 := Lib.hid hQ15; have HA15 := Lib.hid hA15; have HB15 := Lib.hid hB15
    clear hX15 hK15 hQ15 hA15 hB15 HX14 HK14 HQ14 HA14 HB14 hk15 hg15
    by_cases ho : isI odd = true
    · obtain ⟨z, hz⟩ : ∃ z, shareW odd s = z := ⟨_, rfl⟩
      have hzl : z.length = 32 := by rw [← hz]; exact shareW_length _ _
      have hsz : (Try.prog.info? 23).map (·.size) = some (HC z).size := by rw [HC_size, hzl]; kernel_rfl
      have hsz2 : zeros32.size = (HC z).size := by rw [HC_size, hzl]; rfl
      have HZ := Lib.hid hz; have HZL := Lib.hid hzl; have SZ := Lib.hid hsz; have SZ2 := Lib.hid hsz2
      clear hz hzl hsz hsz2
      go_wp2_with (first
            | (refine wpList_store_row rfl 23 _ _ rfl w15.heap.size (HC x) rfl rfl 23 zeros32 (Blk.newAt _ _ rfl) SX.out SX2.out (HC_one _) ?_
               refine wpl_gen (fun w16 hw16 => ?_)
               have hX16 : Blk w16 (w.heap.size) (HC a) 23 := by rw [hw16]; exact (HX15.out.alloc _).otherRow _ (by have := HX15.out.lt; omega)
               have hK16 : Blk w16 (g) (CK s 1 (powI 4 s) 1 1) 61 := by rw [hw16]; exact (HK15.out.alloc _).otherRow _ (by have := HK15.out.lt; omega)
               have hQ16 : Blk w16 (q) (CK r 1 (powI 4 r) 1 1) 61 := by rw [hw16]; exact (HQ15.out.alloc _).otherRow _ (by have := HQ15.out.lt; omega)
               have hA16 : Blk w16 (w12.heap.size) (HC x) 23 := by rw [hw16]; exact (HA15.out.alloc _).otherRow _ (by have := HA15.out.lt; omega)
               have hY16 : Blk w16 (w15.heap.size) (HC x) 23 := by rw [hw16]; exact (Blk.newAt _ _ rfl).setRow _
               have hB16 : Below w.heap.size w w16 := by rw [hw16]; exact below_setRow (HB15.out.next (Nat.le_refl _) _) _ HB15.out.size
               have hneYX : w15.heap.size ≠ w.heap.size := by have := HX15.out.lt; omega
               have hneYK : w15.heap.size ≠ g := by have := HK15.out.lt; omega
               have hneYQ : w15.heap.size ≠ q := by have := HQ15.out.lt; omega
               have hneYA : w15.heap.size ≠ w12.heap.size := by have := HA15.out.lt; omega
               have HX16 := Lib.hid hX16; have HK16 := Lib.hid hK16; have HQ16 := Lib.hid hQ16; have HA16 := Lib.hid hA16; have HY16 := Lib.hid hY16; have HB16 := Lib.hid hB16
               clear hX16 hK16 hQ16 hA16 hY16 hB16 HX15 HK15 HQ15 HA15 HB15 hw16))
      refine (shared_yes g s 1 (powI 4 s) 1 1 odd ho (by decide) _ HK16.out).mono ?_
      rintro e w17 ⟨rfl, hk17, hg17⟩
      rw [HZ.out]
      have hX17 := HX16.out.grown hg17 (hxg)
      have hK17 : Blk w17 (g) (CK s 1 (powI 4 s) 1 2) 61 := hk17
      have hQ17 := HQ16.out.grown hg17 (Ne.symm (hgq))
      have hA17 := HA16.out.grown hg17 (hneAK)
      have hY17 := HY16.out.grown hg17 (hneYK)
      have hB17 := below_grown HB16.out hg17 HG0.out HB16.out.size
      have HX17 := Lib.hid hX17; have HK17 := Lib.hid hK17; have HQ17 := Lib.hid hQ17; have HA17 := Lib.hid hA17; have HY17 := Lib.hid hY17; have HB17 := Lib.hid hB17
      clear hX17 hK17 hQ17 hA17 hY17 hB17 HX16 HK16 HQ16 HA16 HY16 HB16 hk17 hg17
      go_wp2_with (first
            | (refine wpList_store_row rfl 23 _ _ rfl w17.heap.size (HC z) rfl rfl 23 zeros32 (Blk.newAt _ _ rfl) SZ.out SZ2.out (HC_one _) ?_
               refine wpl_gen (fun w18 hw18 => ?_)
               have hX18 : Blk w18 (w.heap.size) (HC a) 23 := by rw [hw18]; exact (HX17.out.alloc _).otherRow _ (by have := HX17.out.lt; omega)
               have hK18 : Blk w18 (g) (CK s 1 (powI 4 s) 1 2) 61 := by rw [hw18]; exact (HK17.out.alloc _).otherRow _ (by have := HK17.out.lt; omega)
               have hQ18 : Blk w18 (q) (CK r 1 (powI 4 r) 1 1) 61 := by rw [hw18]; exact (HQ17.out.alloc _).otherRow _ (by have := HQ17.out.lt; omega)
               have hA18 : Blk w18 (w12.heap.size) (HC x) 23 := by rw [hw18]; exact (HA17.out.alloc _).otherRow _ (by have := HA17.out.lt; omega)
               have hY18 : Blk w18 (w15.heap.size) (HC x) 23 := by rw [hw18]; exact (HY17.out.alloc _).otherRow _ (by have := HY17.out.lt; omega)
               have hZ18 : Blk w18 (w17.heap.size) (HC z) 23 := by rw [hw18]; exact (Blk.newAt _ _ rfl).setRow _
               have hB18 : Below w.heap.size w w18 := by rw [hw18]; exact below_setRow (HB17.out.next (Nat.le_refl _) _) _ HB17.out.size
               have hneZX : w17.heap.size ≠ w.heap.size := by have := HX17.out.lt; omega
               have hneZK : w17.heap.size ≠ g := by have := HK17.out.lt; omega
               have hneZQ : w17.heap.size ≠ q := by have := HQ17.out.lt; omega
               have hneZA : w17.heap.size ≠ w12.heap.size := by have := HA17.out.lt; omega
               have hneZY : w17.heap.size ≠ w15.heap.size := by have := HY17.out.lt; omega
               have HX18 := Lib.hid hX18; have HK18 := Lib.hid hK18; have HQ18 := Lib.hid hQ18; have HA18 := Lib.hid hA18; have HY18 := Lib.hid hY18; have HZ18 := Lib.hid hZ18; have HB18 := Lib.hid hB18
               clear hX18 hK18 hQ18 hA18 hY18 hZ18 hB18 HX17 HK17 HQ17 HA17 HY17 HB17 hw18)
            | (refine wpList_load_row rfl 23 _ rfl (w.heap.size) rfl 23 (HC a) (0, 0) _ HX18.out Try.underlying23 rfl S1.out ?_))
      refine (rfrom_k a HA.out _).mono ?_
      rintro e w19 ⟨rfl, hb19⟩
      rw [HS.out]
      have hX19 := HX18.out.keep hb19
      have hK19 := HK18.out.keep hb19
      have hQ19 := HQ18.out.keep hb19
      have hA19 := HA18.out.keep hb19
      have hY19 := HY18.out.keep hb19
      have hZ19 := HZ18.out.keep hb19
      have hB19 := HB18.out.later hb19 (Nat.le_refl _)
      have HX19 := Lib.hid hX19; have HK19 := Lib.hid hK19; have HQ19 := Lib.hid hQ19; have HA19 := Lib.hid hA19; have HY19 := Lib.hid hY19; have HZ19 := Lib.hid hZ19; have HB19 := Lib.hid hB19
      clear hX19 hK19 hQ19 hA19 hY19 hZ19 hB19 HX18 HK18 HQ18 HA18 HY18 HZ18 HB18 hb19
      go_wp2_with fail
      refine (rshared_yes s (powI 4 s) odd ho _).mono ?_
      rintro e w20 ⟨rfl, hb20⟩
      rw [HZ.out]
      have hX20 := HX19.out.keep hb20
      have hK20 := HK19.out.keep hb20
      have hQ20 := HQ19.out.keep hb20
      have hA20 := HA19.out.keep hb20
      have hY20 := HY19.out.keep hb20
      have hZ20 := HZ19.out.keep hb20
      have hB20 := HB19.out.later hb20 (Nat.le_refl _)
      have HX20 := Lib.hid hX20; have HK20 := Lib.hid hK20; have HQ20 := Lib.hid hQ20; have HA20 := Lib.hid hA20; have HY20 := Lib.hid hY20; have HZ20 := Lib.hid hZ20; have HB20 := Lib.hid hB20
      clear hX20 hK20 hQ20 hA20 hY20 hZ20 hB20 HX19 HK19 HQ19 HA19 HY19 HZ19 HB19 hb20
      have kX : ∀ w0, (binOp .eql 23 (.agg (HC x)) (.agg (HC x))).run Try.prog w0 = .ok (.bool true) w0 := fun w0 => by have h := eqh w0 x x HXL.out HXL.out; rwa [beq_self_eq_true] at h
      have kZ : ∀ w0, (binOp .eql 23 (.agg (HC z)) (.agg (HC z))).run Try.prog w0 = .ok (.bool true) w0 := fun w0 => by have h := eqh w0 z z HZL.out HZL.out; rwa [beq_self_eq_true] at h
      go_wp2_with (first
            | (refine wpList_store_row rfl 23 _ _ rfl w20.heap.size (HC z) rfl rfl 23 zeros32 (Blk.newAt _ _ rfl) SZ.out SZ2.out (HC_one _) ?_
               refine wpl_gen (fun w21 hw21 => ?_)
               have hX21 : Blk w21 (w.heap.size) (HC a) 23 := by rw [hw21]; exact (HX20.out.alloc _).otherRow _ (by have := HX20.out.lt; omega)
               have hK21 : Blk w21 (g) (CK s 1 (powI 4 s) 1 2) 61 := by rw [hw21]; exact (HK20.out.alloc _).otherRow _ (by have := HK20.out.lt; omega)
               have hQ21 : Blk w21 (q) (CK r 1 (powI 4 r) 1 1) 61 := by rw [hw21]; exact (HQ20.out.alloc _).otherRow _ (by have := HQ20.out.lt; omega)
               have hA21 : Blk w21 (w12.heap.size) (HC x) 23 := by rw [hw21]; exact (HA20.out.alloc _).otherRow _ (by have := HA20.out.lt; omega)
               have hY21 : Blk w21 (w15.heap.size) (HC x) 23 := by rw [hw21]; exact (HY20.out.alloc _).otherRow _ (by have := HY20.out.lt; omega)
               have hZ21 : Blk w21 (w17.heap.size) (HC z) 23 := by rw [hw21]; exact (HZ20.out.alloc _).otherRow _ (by have := HZ20.out.lt; omega)
               have hV21 : Blk w21 (w20.heap.size) (HC z) 23 := by rw [hw21]; exact (Blk.newAt _ _ rfl).setRow _
               have hB21 : Below w.heap.size w w21 := by rw [hw21]; exact below_setRow (HB20.out.next (Nat.le_refl _) _) _ HB20.out.size
               have hneVX : w20.heap.size ≠ w.heap.size := by have := HX20.out.lt; omega
               have hneVK : w20.heap.size ≠ g := by have := HK20.out.lt; omega
               have hneVQ : w20.heap.size ≠ q := by have := HQ20.out.lt; omega
               have hneVA : w20.heap.size ≠ w12.heap.size := by have := HA20.out.lt; omega
               have hneVY : w20.heap.size ≠ w15.heap.size := by have := HY20.out.lt; omega
               have hneVZ : w20.heap.size ≠ w17.heap.size := by have := HZ20.out.lt; omega
               have HX21 := Lib.hid hX21; have HK21 := Lib.hid hK21; have HQ21 := Lib.hid hQ21; have HA21 := Lib.hid hA21; have HY21 := Lib.hid hY21; have HZ21 := Lib.hid hZ21; have HV21 := Lib.hid hV21; have HB21 := Lib.hid hB21
               clear hX21 hK21 hQ21 hA21 hY21 hZ21 hV21 hB21 HX20 HK20 HQ20 HA20 HY20 HZ20 HB20 hw21)
            | (refine list_wanted rfl ?_; refine wpList_load_row rfl 23 _ rfl (w12.heap.size) rfl 23 (HC x) (0, 0) _ HA21.out Try.underlying23 rfl SX.out ?_)
            | (refine list_wanted rfl ?_; refine wpList_load_row rfl 23 _ rfl (w15.heap.size) rfl 23 (HC x) (0, 0) _ HY21.out Try.underlying23 rfl SX.out ?_)
            | (refine list_wanted rfl ?_; refine wpList_load_row rfl 23 _ rfl (w17.heap.size) rfl 23 (HC z) (0, 0) _ HZ21.out Try.underlying23 rfl SZ.out ?_)
            | (refine list_wanted rfl ?_; refine wpList_load_row rfl 23 _ rfl (w20.heap.size) rfl 23 (HC z) (0, 0) _ HV21.out Try.underlying23 rfl SZ.out ?_)
            | (go_at_call 21; refine (uses_any g s 1 (powI 4 s) 1 2 (by decide) _ HK21.out).mono ?_; rintro e w9 ⟨rfl, rfl⟩)
            | (go_at_call 21; refine (uses_any q r 1 (powI 4 r) 1 1 (by decide) _ HQ21.out).mono ?_; rintro e w9 ⟨rfl, rfl⟩)
            | (go_at_call 18; refine (known_pair _).mono ?_; rintro e w9 ⟨rfl, hb9⟩))
      go_ret
      exact ⟨rfl, HB21.out.later hb9 (Nat.le_refl _)⟩
    · obtain ⟨z, hz⟩ : ∃ z : List UInt8, List.replicate 32 0 = z := ⟨_, rfl⟩
      have hzl : z.length = 32 := by rw [← hz]; rfl
      have ho := Bool.eq_false_iff.2 ho
      have hsz : (Try.prog.info? 23).map (·.size) = some (HC z).size := by rw [HC_size, hzl]; kernel_rfl
      have hsz2 : zeros32.size = (HC z).size := by rw [HC_size, hzl]; rfl
      have HZ := Lib.hid hz; have HZL := Lib.hid hzl; have SZ := Lib.hid hsz; have SZ2 := Lib.hid hsz2
      clear hz hzl hsz hsz2
      go_wp2_with (first
            | (refine wpList_store_row rfl 23 _ _ rfl w15.heap.size (HC x) rfl rfl 23 zeros32 (Blk.newAt _ _ rfl) SX.out SX2.out (HC_one _) ?_
               refine wpl_gen (fun w16 hw16 => ?_)
               have hX16 : Blk w16 (w.heap.size) (HC a) 23 := by rw [hw16]; exact (HX15.out.alloc _).otherRow _ (by have := HX15.out.lt; omega)
               have hK16 : Blk w16 (g) (CK s 1 (powI 4 s) 1 1) 61 := by rw [hw16]; exact (HK15.out.alloc _).otherRow _ (by have := HK15.out.lt; omega)
               have hQ16 : Blk w16 (q) (CK r 1 (powI 4 r) 1 1) 61 := by rw [hw16]; exact (HQ15.out.alloc _).otherRow _ (by have := HQ15.out.lt; omega)
               have hA16 : Blk w16 (w12.heap.size) (HC x) 23 := by rw [hw16]; exact (HA15.out.alloc _).otherRow _ (by have := HA15.out.lt; omega)
               have hY16 : Blk w16 (w15.heap.size) (HC x) 23 := by rw [hw16]; exact (Blk.newAt _ _ rfl).setRow _
               have hB16 : Below w.heap.size w w16 := by rw [hw16]; exact below_setRow (HB15.out.next (Nat.le_refl _) _) _ HB15.out.size
               have hneYX : w15.heap.size ≠ w.heap.size := by have := HX15.out.lt; omega
               have hneYK : w15.heap.size ≠ g := by have := HK15.out.lt; omega
               have hneYQ : w15.heap.size ≠ q := by have := HQ15.out.lt; omega
               have hneYA : w15.heap.size ≠ w12.heap.size := by have := HA15.out.lt; omega
               have HX16 := Lib.hid hX16; have HK16 := Lib.hid hK16; have HQ16 := Lib.hid hQ16; have HA16 := Lib.hid hA16; have HY16 := Lib.hid hY16; have HB16 := Lib.hid hB16
               clear hX16 hK16 hQ16 hA16 hY16 hB16 HX15 HK15 HQ15 HA15 HB15 hw16))
      refine (shared_no g s 1 (powI 4 s) 1 1 odd ho _ HK16.out).mono ?_
      rintro e w17 ⟨rfl, hb17⟩
      rw [HZ.out]
      have hX17 := HX16.out.keep hb17
      have hK17 := HK16.out.keep hb17
      have hQ17 := HQ16.out.keep hb17
      have hA17 := HA16.out.keep hb17
      have hY17 := HY16.out.keep hb17
      have hB17 := HB16.out.later hb17 (Nat.le_refl _)
      have HX17 := Lib.hid hX17; have HK17 := Lib.hid hK17; have HQ17 := Lib.hid hQ17; have HA17 := Lib.hid hA17; have HY17 := Lib.hid hY17; have HB17 := Lib.hid hB17
      clear hX17 hK17 hQ17 hA17 hY17 hB17 HX16 HK16 HQ16 HA16 HY16 HB16 hb17
      go_wp2_with (first
            | (refine wpList_store_row rfl 23 _ _ rfl w17.heap.size (HC z) rfl rfl 23 zeros32 (Blk.newAt _ _ rfl) SZ.out SZ2.out (HC_one _) ?_
               refine wpl_gen (fun w18 hw18 => ?_)
               have hX18 : Blk w18 (w.heap.size) (HC a) 23 := by rw [hw18]; exact (HX17.out.alloc _).otherRow _ (by have := HX17.out.lt; omega)
               have hK18 : Blk w18 (g) (CK s 1 (powI 4 s) 1 1) 61 := by rw [hw18]; exact (HK17.out.alloc _).otherRow _ (by have := HK17.out.lt; omega)
               have hQ18 : Blk w18 (q) (CK r 1 (powI 4 r) 1 1) 61 := by rw [hw18]; exact (HQ17.out.alloc _).otherRow _ (by have := HQ17.out.lt; omega)
               have hA18 : Blk w18 (w12.heap.size) (HC x) 23 := by rw [hw18]; exact (HA17.out.alloc _).otherRow _ (by have := HA17.out.lt; omega)
               have hY18 : Blk w18 (w15.heap.size) (HC x) 23 := by rw [hw18]; exact (HY17.out.alloc _).otherRow _ (by have := HY17.out.lt; omega)
               have hZ18 : Blk w18 (w17.heap.size) (HC z) 23 := by rw [hw18]; exact (Blk.newAt _ _ rfl).setRow _
               have hB18 : Below w.heap.size w w18 := by rw [hw18]; exact below_setRow (HB17.out.next (Nat.le_refl _) _) _ HB17.out.size
               have hneZX : w17.heap.size ≠ w.heap.size := by have := HX17.out.lt; omega
               have hneZK : w17.heap.size ≠ g := by have := HK17.out.lt; omega
               have hneZQ : w17.heap.size ≠ q := by have := HQ17.out.lt; omega
               have hneZA : w17.heap.size ≠ w12.heap.size := by have := HA17.out.lt; omega
               have hneZY : w17.heap.size ≠ w15.heap.size := by have := HY17.out.lt; omega
               have HX18 := Lib.hid hX18; have HK18 := Lib.hid hK18; have HQ18 := Lib.hid hQ18; have HA18 := Lib.hid hA18; have HY18 := Lib.hid hY18; have HZ18 := Lib.hid hZ18; have HB18 := Lib.hid hB18
               clear hX18 hK18 hQ18 hA18 hY18 hZ18 hB18 HX17 HK17 HQ17 HA17 HY17 HB17 hw18)
            | (refine wpList_load_row rfl 23 _ rfl (w.heap.size) rfl 23 (HC a) (0, 0) _ HX18.out Try.underlying23 rfl S1.out ?_))
      refine (rfrom_k a HA.out _).mono ?_
      rintro e w19 ⟨rfl, hb19⟩
      rw [HS.out]
      have hX19 := HX18.out.keep hb19
      have hK19 := HK18.out.keep hb19
      have hQ19 := HQ18.out.keep hb19
      have hA19 := HA18.out.keep hb19
      have hY19 := HY18.out.keep hb19
      have hZ19 := HZ18.out.keep hb19
      have hB19 := HB18.out.later hb19 (Nat.le_refl _)
      have HX19 := Lib.hid hX19; have HK19 := Lib.hid hK19; have HQ19 := Lib.hid hQ19; have HA19 := Lib.hid hA19; have HY19 := Lib.hid hY19; have HZ19 := Lib.hid hZ19; have HB19 := Lib.hid hB19
      clear hX19 hK19 hQ19 hA19 hY19 hZ19 hB19 HX18 HK18 HQ18 HA18 HY18 HZ18 HB18 hb19
      go_wp2_with fail
      refine (rshared_no s (powI 4 s) odd ho _).mono ?_
      rintro e w20 ⟨rfl, hb20⟩
      rw [HZ.out]
      have hX20 := HX19.out.keep hb20
      have hK20 := HK19.out.keep hb20
      have hQ20 := HQ19.out.keep hb20
      have hA20 := HA19.out.keep hb20
      have hY20 := HY19.out.keep hb20
      have hZ20 := HZ19.out.keep hb20
      have hB20 := HB19.out.later hb20 (Nat.le_refl _)
      have HX20 := Lib.hid hX20; have HK20 := Lib.hid hK20; have HQ20 := Lib.hid hQ20; have HA20 := Lib.hid hA20; have HY20 := Lib.hid hY20; have HZ20 := Lib.hid hZ20; have HB20 := Lib.hid hB20
      clear hX20 hK20 hQ20 hA20 hY20 hZ20 hB20 HX19 HK19 HQ19 HA19 HY19 HZ19 HB19 hb20
      have kX : ∀ w0, (binOp .eql 23 (.agg (HC x)) (.agg (HC x))).run Try.prog w0 = .ok (.bool true) w0 := fun w0 => by have h := eqh w0 x x HXL.out HXL.out; rwa [beq_self_eq_true] at h
      have kZ : ∀ w0, (binOp .eql 23 (.agg (HC z)) (.agg (HC z))).run Try.prog w0 = .ok (.bool true) w0 := fun w0 => by have h := eqh w0 z z HZL.out HZL.out; rwa [beq_self_eq_true] at h
      go_wp2_with (first
            | (refine wpList_store_row rfl 23 _ _ rfl w20.heap.size (HC z) rfl rfl 23 zeros32 (Blk.newAt _ _ rfl) SZ.out SZ2.out (HC_one _) ?_
               refine wpl_gen (fun w21 hw21 => ?_)
               have hX21 : Blk w21 (w.heap.size) (HC a) 23 := by rw [hw21]; exact (HX20.out.alloc _).otherRow _ (by have := HX20.out.lt; omega)
               have hK21 : Blk w21 (g) (CK s 1 (powI 4 s) 1 1) 61 := by rw [hw21]; exact (HK20.out.alloc _).otherRow _ (by have := HK20.out.lt; omega)
               have hQ21 : Blk w21 (q) (CK r 1 (powI 4 r) 1 1) 61 := by rw [hw21]; exact (HQ20.out.alloc _).otherRow _ (by have := HQ20.out.lt; omega)
               have hA21 : Blk w21 (w12.heap.size) (HC x) 23 := by rw [hw21]; exact (HA20.out.alloc _).otherRow _ (by have := HA20.out.lt; omega)
               have hY21 : Blk w21 (w15.heap.size) (HC x) 23 := by rw [hw21]; exact (HY20.out.alloc _).otherRow _ (by have := HY20.out.lt; omega)
               have hZ21 : Blk w21 (w17.heap.size) (HC z) 23 := by rw [hw21]; exact (HZ20.out.alloc _).otherRow _ (by have := HZ20.out.lt; omega)
               have hV21 : Blk w21 (w20.heap.size) (HC z) 23 := by rw [hw21]; exact (Blk.newAt _ _ rfl).setRow _
               have hB21 : Below w.heap.size w w21 := by rw [hw21]; exact below_setRow (HB20.out.next (Nat.le_refl _) _) _ HB20.out.size
               have hneVX : w20.heap.size ≠ w.heap.size := by have := HX20.out.lt; omega
               have hneVK : w20.heap.size ≠ g := by have := HK20.out.lt; omega
               have hneVQ : w20.heap.size ≠ q := by have := HQ20.out.lt; omega
               have hneVA : w20.heap.size ≠ w12.heap.size := by have := HA20.out.lt; omega
               have hneVY : w20.heap.size ≠ w15.heap.size := by have := HY20.out.lt; omega
               have hneVZ : w20.heap.size ≠ w17.heap.size := by have := HZ20.out.lt; omega
               have HX21 := Lib.hid hX21; have HK21 := Lib.hid hK21; have HQ21 := Lib.hid hQ21; have HA21 := Lib.hid hA21; have HY21 := Lib.hid hY21; have HZ21 := Lib.hid hZ21; have HV21 := Lib.hid hV21; have HB21 := Lib.hid hB21
               clear hX21 hK21 hQ21 hA21 hY21 hZ21 hV21 hB21 HX20 HK20 HQ20 HA20 HY20 HZ20 HB20 hw21)
            | (refine list_wanted rfl ?_; refine wpList_load_row rfl 23 _ rfl (w12.heap.size) rfl 23 (HC x) (0, 0) _ HA21.out Try.underlying23 rfl SX.out ?_)
            | (refine list_wanted rfl ?_; refine wpList_load_row rfl 23 _ rfl (w15.heap.size) rfl 23 (HC x) (0, 0) _ HY21.out Try.underlying23 rfl SX.out ?_)
            | (refine list_wanted rfl ?_; refine wpList_load_row rfl 23 _ rfl (w17.heap.size) rfl 23 (HC z) (0, 0) _ HZ21.out Try.underlying23 rfl SZ.out ?_)
            | (refine list_wanted rfl ?_; refine wpList_load_row rfl 23 _ rfl (w20.heap.size) rfl 23 (HC z) (0, 0) _ HV21.out Try.underlying23 rfl SZ.out ?_)
            | (go_at_call 21; refine (uses_any g s 1 (powI 4 s) 1 1 (by decide) _ HK21.out).mono ?_; rintro e w9 ⟨rfl, rfl⟩)
            | (go_at_call 21; refine (uses_any q r 1 (powI 4 r) 1 1 (by decide) _ HQ21.out).mono ?_; rintro e w9 ⟨rfl, rfl⟩)
            | (go_at_call 18; refine (known_pair _).mono ?_; rintro e w9 ⟨rfl, hb9⟩))
      go_ret
      exact ⟨rfl, HB21.out.later hb9 (Nat.le_refl _)⟩
end Go.Proofs.Ytbhhgmaibdkgbaa
