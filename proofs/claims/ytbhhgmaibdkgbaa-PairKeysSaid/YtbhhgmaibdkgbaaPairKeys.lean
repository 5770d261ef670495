/-
  The law PairKeys, walked.
-/
import Derived.Test.YtbhhgmaibdkgbaaPairMath
namespace Go.Proofs.Ytbhhgmaibdkgbaa
set_option maxRecDepth 100000
open Go.RowKit Pm
set_option linter.unusedVariables false
set_option linter.unusedSimpArgs false
attribute [local go_sem] eqh_guard key_y key_x

set_option maxRecDepth 100000 in
set_option maxHeartbeats 2000000 in
theorem pairKeys_walk {w : World} (a : List UInt8) (ha : a.length = 32) (n : Int) (wn : (Lit.int .i64 n).wf = true) :
    Calls Try.prog 6 #[HV a, .int .i64 n] w fun e w' => e = .returned (.bool true) ∧ Below w.heap.size w w' := by
  have hsz : (Try.prog.info? 23).map (·.size) = some (HC a).size := by rw [HC_size, ha]; kernel_rfl
  obtain ⟨s, hs⟩ : ∃ s, keyS a = s := ⟨_, rfl⟩
  have hbs := keyS_bd a
  rw [hs] at hbs
  have HA := Lib.hid ha; have S1 := Lib.hid hsz; have HS := Lib.hid hs; have BS := Lib.hid hbs
  clear ha hsz hs hbs
  unfold HV
  by_cases h1 : n < 0
  · go_enter Try.func6, Try.ntmps6
    go_wp2
    go_ret
    exact ⟨rfl, (Below.refl _ _).next (Nat.le_refl _) _⟩
  by_cases h2 : n > 20
  · go_enter Try.func6, Try.ntmps6
    go_wp2
    go_ret
    exact ⟨rfl, (Below.refl _ _).next (Nat.le_refl _) _⟩
  go_enter Try.func6, Try.ntmps6
  go_wp2_with fail
  refine wp_gen (fun wr hwr => ?_)
  have hX0 : Blk wr w.heap.size (HC a) 23 := by rw [hwr]; exact Blk.new w _ _
  have hB0 : Below w.heap.size w wr := by rw [hwr]; exact (Below.refl _ _).next (Nat.le_refl _) _
  clear hwr
  refine region_muts [61] _ (Nat.le_refl _) (fun S vals w => keyAt wr.heap.size 61 1 (CK s 0 0 0 0) S vals w ∧ keyAt wr.heap.size 61 3 (CK s 0 0 0 0) S vals w ∧ apart 1 3 S vals) [isV 0 (HV a), anyV, isV 2 (HV a), anyV, asV 4 1, asV 5 3]
    [[], [0], [], [2], [1], [3]] [some 14, some 15, some 16, some 17, some 5, some 6] _ (by kernel_rfl) (by kernel_rfl) (by kernel_rfl) (by kernel_rfl) (by kernel_rfl) rfl ?_ ?_ ?_ ?_
  · repeat (first | exact stT_nil | refine stT_cons (by first | exact stT_is _ _ | exact stT_as _ _ | exact stT_any | exact stT_lit _ _ _ _ _ (by decide)) ?_)
  · exact ⟨keyAt.start _ _ _ _ _ _, keyAt.start _ _ _ _ _ _, apart.start _ _ _⟩
  · intro hgz
    refine ⟨?_, ?_, ?_, ?_, ?_, ?_, trivial⟩ <;> intro S vals w1 hb hSi hdn hcl hG hf <;> obtain ⟨hb, hz⟩ := hgz w1 hb <;> simp [leans, factsOf, phi, sel_lit, isV, asV, anyV, sel] at hf <;> simp [putD, phi, Act.put]
    · -- 0 load 
      refine wpList_load_row rfl 23 _ rfl _ rfl 23 (HC a) (0, 0) _ (hX0.keep hb.below) Try.underlying23 rfl S1.out ?_
      exact ⟨rfl, rfl, .refl _ _ _, mk_is rfl, ⟨hG.1.keep _ 0 (by decide) (Below.refl _ _), hG.2.1.keep _ 0 (by decide) (Below.refl _ _), hG.2.2.keep _ 0 (by decide) (by decide)⟩⟩
    · -- 1 call curia/pair.From 
      simp only [hf]; clear hf
      go_wp2_with (first | (go_at_call 11; refine (from_k a HA.out _).mono ?_; rintro e w' ⟨g', rfl, hg', hk', hb'⟩; rw [HS.out] at hk'))
      exact ⟨rfl, rfl, GrowsT.of hb' hz, mk_any, ⟨keyAt.new g' (Nat.le_trans hz hg') hk', hG.2.1.keep _ 1 (by decide) hb', apart.left hG.2.1 g' hg' (by decide)⟩⟩
    · -- 2 load 
      refine wpList_load_row rfl 23 _ rfl _ rfl 23 (HC a) (0, 0) _ (hX0.keep hb.below) Try.underlying23 rfl S1.out ?_
      exact ⟨rfl, rfl, .refl _ _ _, mk_is rfl, ⟨hG.1.keep _ 2 (by decide) (Below.refl _ _), hG.2.1.keep _ 2 (by decide) (Below.refl _ _), hG.2.2.keep _ 2 (by decide) (by decide)⟩⟩
    · -- 3 call curia/pair.From 
      simp only [hf]; clear hf
      go_wp2_with (first | (go_at_call 11; refine (from_k a HA.out _).mono ?_; rintro e w' ⟨g', rfl, hg', hk', hb'⟩; rw [HS.out] at hk'))
      exact ⟨rfl, rfl, GrowsT.of hb' hz, mk_any, ⟨hG.1.keep _ 3 (by decide) hb', keyAt.new g' (Nat.le_trans hz hg') hk', apart.right hG.1 g' hg' (by decide)⟩⟩
    · -- 4 assign 
      go_wp2
      exact ⟨rfl, rfl, .refl _ _ _, mk_as rfl (by decide) (by decide), ⟨hG.1.keep _ 4 (by decide) (Below.refl _ _), hG.2.1.keep _ 4 (by decide) (Below.refl _ _), hG.2.2.keep _ 4 (by decide) (by decide)⟩⟩
    · -- 5 assign 
      go_wp2
      exact ⟨rfl, rfl, .refl _ _ _, mk_as rfl (by decide) (by decide), ⟨hG.1.keep _ 5 (by decide) (Below.refl _ _), hG.2.1.keep _ 5 (by decide) (Below.refl _ _), hG.2.2.keep _ 5 (by decide) (by decide)⟩⟩
  · intro vals w1 hb hG hf; simp [leans, List.range, List.range.loop, factsOf, phi, sel_lit, isV, asV, anyV, sel] at hf; simp [putD, List.range, List.range.loop, Act.put, hf]
    obtain ⟨g, hv1, hg0, hk0⟩ := hG.1.get (by simp)
    obtain ⟨q, hv3, hq0, hq1⟩ := hG.2.1.get (by simp)
    have hgq : g ≠ q := fun e => hG.2.2 (by simp) (by simp) (by rw [hv1, hv3, e])
    simp only [hv1, hv3]
    have HX0 := Lib.hid (hX0.keep hb.below)
    have hltx := hX0.lt
    have hxg : w.heap.size ≠ g := by omega
    have hxq : w.heap.size ≠ q := by omega
    have hB1 := hB0.lift hb.below hB0.size
    have HK := Lib.hid hk0; have HQ := Lib.hid hq1; have HB1 := Lib.hid hB1; have HG0 := Lib.hid (Nat.le_trans hB0.size hg0); have HQ0 := Lib.hid (Nat.le_trans hB0.size hq0)
    clear hk0 hq1 hB1 hG hb hf hv1 hv3
    have is0 : isI 0 = false := by decide +kernel
    have is1 : isI 1 = false := is_1
    have hip := isI_pub s BS.out
    have HIP := Lib.hid hip; have I0 := Lib.hid is0; have I1 := Lib.hid is1
    clear hltx hip is0 is1 HX0
    go_wp2
    go_loopw [7] (fun i wr => ∃ k : Nat, (k : Int) ≤ n ∧ i = .int .i64 k ∧ Blk wr g (CK s 0 0 0 0) 61 ∧ Blk wr q (CK s 0 0 0 0) 61 ∧ Below w.heap.size w wr) (fun i _ => n.toNat - (intOf i).toNat)
    case atStart => exact ⟨0, by omega, rfl, HK.out, HQ.out, HB1.out⟩
    case round =>
      obtain ⟨k, hk, rfl, hK, hQ, hB⟩ := hrel
      have HK := Lib.hid hK; have HQ := Lib.hid hQ; have HB := Lib.hid hB
      clear hK hQ hB HB1
      by_cases hlt : (k : Int) < n
      · go_wp2_with (first
          | (go_at_call 19; with_reducible refine (shared_no g s 0 0 0 0 1 I1.out _ HK.out).mono ?_; rintro e w2 ⟨rfl, hb2⟩
             have HK2 := Lib.hid (HK.out.keep hb2); have HQ2 := Lib.hid (HQ.out.keep hb2); have HB2 := Lib.hid (HB.out.later hb2 (Nat.le_refl _))
             clear hb2)
          | (go_at_call 19; with_reducible refine (shared_no g s 0 0 0 0 0 I0.out _ HK2.out).mono ?_; rintro e w3 ⟨rfl, hb3⟩
             have HK3 := Lib.hid (HK2.out.keep hb3); have HQ3 := Lib.hid (HQ2.out.keep hb3); have HB3 := Lib.hid (HB2.out.later hb3 (Nat.le_refl _))
             clear hb3))
        go_roundw
        case rel => exact ⟨k + 1, by omega, by go_num, HK3.out, HQ3.out, HB3.out⟩
        case measure => simp [intOf]; omega
      · have hb1 := BS.out.1
        have hb2 := BS.out.2
        go_wp2_with (first
          | (go_at_call 14; with_reducible refine (secret_any g s 0 0 0 0 _ HK.out).mono ?_; rintro e w' ⟨rfl, rfl⟩)
          | (go_at_call 15; with_reducible refine (public_first g s 0 ⟨by have := BS.out; omega, BS.out.2⟩ _ HK.out).mono ?_; rintro e w2 ⟨rfl, hk2, hg2⟩
             have HK2 := Lib.hid hk2; have HQ2 := Lib.hid (HQ.out.grown hg2 (Ne.symm hgq)); have HB2 := Lib.hid (below_grown HB.out hg2 HG0.out HB.out.size)
             clear hk2 hg2)
          | (go_at_call 22; with_reducible refine (ris_any _ _).mono ?_; rintro e w' ⟨rfl, rfl⟩; rw [HIP.out])
          | (go_at_call 14; with_reducible refine (secret_any q s 0 0 0 0 _ HQ2.out).mono ?_; rintro e w' ⟨rfl, rfl⟩)
          | (go_at_call 14; with_reducible refine (secret_any g s 1 (powI 4 s) 1 0 _ HK2.out).mono ?_; rintro e w' ⟨rfl, rfl⟩)
          | (go_at_call 21; with_reducible refine (uses_any g s 1 (powI 4 s) 1 0 (by decide) _ HK2.out).mono ?_; rintro e w' ⟨rfl, rfl⟩)
          | (go_at_call 13; with_reducible refine (made_any q s 0 0 0 0 _ HQ2.out).mono ?_; rintro e w' ⟨rfl, rfl⟩)
          | (go_at_call 18; refine (known_pair _).mono ?_; rintro e w9 ⟨rfl, hb9⟩))
        go_ret
        exact ⟨rfl, HB2.out.later hb9 (Nat.le_refl _)⟩
end Go.Proofs.Ytbhhgmaibdkgbaa
