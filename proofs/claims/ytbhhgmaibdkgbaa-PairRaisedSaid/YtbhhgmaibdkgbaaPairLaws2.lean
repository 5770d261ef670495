/-
  The laws over package pair: two keys.
-/
import Derived.Test.YtbhhgmaibdkgbaaPairLaws
import Derived.Test.YtbhhgmaibdkgbaaMuts2
import Derived.Test.YtbhhgmaibdkgbaaPowMath
namespace Go.Proofs.Ytbhhgmaibdkgbaa
set_option maxRecDepth 100000
open Go.RowKit Pm
set_option linter.unusedVariables false
set_option linter.unusedSimpArgs false
attribute [local go_sem] eqh_guard key_y key_x

theorem raised (r s : Int) (hr : 0 ≤ r ∧ r < 1073741789) (hs : 0 ≤ s ∧ s < 1073741789) : powI (powI 4 r) s = powI (powI 4 s) r := by
  obtain ⟨m, rfl⟩ := Int.eq_ofNat_of_zero_le hr.1
  obtain ⟨n, rfl⟩ := Int.eq_ofNat_of_zero_le hs.1
  have h1 : powI 4 (m : Int) = (pw 4 m : Int) := powI_nat 4 m (by decide) (by omega)
  have h2 : powI 4 (n : Int) = (pw 4 n : Int) := powI_nat 4 n (by decide) (by omega)
  rw [h1, h2, powI_nat (pw 4 m) n (pw_lt _ _) (by omega), powI_nat (pw 4 n) m (pw_lt _ _) (by omega), pw_pw, pw_pw, Nat.mul_comm]
theorem isI_pub (s : Int) (hs : 1 ≤ s ∧ s < 1073741789) : isI (powI 4 s) = true := by
  obtain ⟨n, rfl⟩ := Int.eq_ofNat_of_zero_le (show 0 ≤ s by omega)
  rw [show powI 4 (n : Int) = (pw 4 n : Int) from powI_nat 4 n (by decide) (by omega)]
  exact isI_four n (by omega) (by omega)
theorem isI_raised (s r : Int) (hs : 1 ≤ s ∧ s < 1073741789) (hr : 1 ≤ r ∧ r < 1073741789) : isI (powI (powI 4 s) r) = true := by
  obtain ⟨n, rfl⟩ := Int.eq_ofNat_of_zero_le (show 0 ≤ s by omega)
  obtain ⟨m, rfl⟩ := Int.eq_ofNat_of_zero_le (show 0 ≤ r by omega)
  have h1 : powI 4 (n : Int) = (pw 4 n : Int) := powI_nat 4 n (by decide) (by omega)
  rw [h1, powI_nat (pw 4 n) m (pw_lt _ _) (by omega), pw_pw, isI_nat _ (pw_lt _ _)]
  have h3 : pw 4 (n * m) ≠ 1 := by
    intro h
    have h4 := pw_gcd 4 (n * m) 1073741789 h four_Q
    have h5 : Nat.gcd (n * m) 1073741789 = 1 := Nat.Coprime.mul_left (coprime_Q n (by omega) (by omega)) (coprime_Q m (by omega) (by omega))
    rw [h5, pw_one _ (by decide)] at h4
    exact absurd h4 (by decide)
  have h6 := of_Q_pos _ (four_all (n * m))
  exact decide_eq_true ⟨by omega, four_all _⟩

set_option maxRecDepth 100000 in
set_option maxHeartbeats 2000000 in
theorem pairRaised_walk {w : World} (a : List UInt8) (ha : a.length = 32) (b : List UInt8) (hb : b.length = 32) :
    Calls Try.prog 8 #[HV a, HV b] w fun e w' => e = .returned (.bool true) ∧ Below w.heap.size w w' := by
  have hsz : (Try.prog.info? 23).map (·.size) = some (HC a).size := by rw [HC_size, ha]; kernel_rfl
  have hszb : (Try.prog.info? 23).map (·.size) = some (HC b).size := by rw [HC_size, hb]; kernel_rfl
  obtain ⟨s, hs⟩ : ∃ s, keyS a = s := ⟨_, rfl⟩
  obtain ⟨r, hr⟩ : ∃ r, keyS b = r := ⟨_, rfl⟩
  have hbs := keyS_bd a
  have hbr := keyS_bd b
  rw [hs] at hbs
  rw [hr] at hbr
  have HA := Lib.hid ha; have HB := Lib.hid hb; have S1 := Lib.hid hsz; have S2 := Lib.hid hszb; have HS := Lib.hid hs; have HR := Lib.hid hr; have BS := Lib.hid hbs; have BR := Lib.hid hbr
  clear ha hb hsz hszb hs hr hbs hbr
  unfold HV
  go_enter Try.func8, Try.ntmps8
  go_wp2_with fail
  refine wp_gen (fun wr hwr => ?_)
  have hX0 : Blk wr w.heap.size (HC a) 23 := by rw [hwr]; exact (Blk.new w _ _).alloc _
  have hX1 : Blk wr (w.heap.size + 1) (HC b) 23 := by rw [hwr]; exact Blk.newAt _ _ (by simp)
  have hB0 : Below w.heap.size w wr := by rw [hwr]; exact ((Below.refl _ _).next (Nat.le_refl _) _).next (Nat.le_refl _) _
  clear hwr
  refine region_muts [61] _ (Nat.le_refl _) (fun S vals w => keyAt wr.heap.size 61 1 (CK s 0 0 0 0) S vals w ∧ keyAt wr.heap.size 61 3 (CK r 0 0 0 0) S vals w) [isV 0 (HV a), anyV, isV 2 (HV b), anyV, asV 4 1, asV 5 3]
    [[], [0], [], [2], [1], [3]] [some 9, some 10, some 11, some 12, some 5, some 6] _ (by kernel_rfl) (by kernel_rfl) (by kernel_rfl) (by kernel_rfl) (by kernel_rfl) rfl ?_ ?_ ?_ ?_
  · repeat (first | exact stT_nil | refine stT_cons (by first | exact stT_is _ _ | exact stT_as _ _ | exact stT_any) ?_)
  · exact ⟨keyAt.start _ _ _ _ _ _, keyAt.start _ _ _ _ _ _⟩
  · intro hgz
    refine ⟨?_, ?_, ?_, ?_, ?_, ?_, trivial⟩ <;> intro S vals w1 hb hSi hdn hcl hG hf <;> obtain ⟨hb, hz⟩ := hgz w1 hb <;> simp [leans, factsOf, phi, isV, asV, anyV, sel] at hf <;> simp [putD, phi, Act.put]
    · -- 0 load 
      refine wpList_load_row rfl 23 _ rfl _ rfl 23 (HC a) (0, 0) _ (hX0.keep hb.below) Try.underlying23 rfl S1.out ?_
      exact ⟨rfl, rfl, .refl _ _ _, mk_is rfl, ⟨hG.1.keep _ 0 (by decide) (Below.refl _ _), hG.2.keep _ 0 (by decide) (Below.refl _ _)⟩⟩
    · -- 1 call curia/pair.From 
      simp only [hf]; clear hf
      go_wp2_with (first | (go_at_call 11; refine (from_k a HA.out _).mono ?_; rintro e w' ⟨g', rfl, hg', hk', hb'⟩; rw [HS.out] at hk'))
      exact ⟨rfl, rfl, GrowsT.of hb' hz, mk_any, ⟨keyAt.new g' (Nat.le_trans hz hg') hk', hG.2.keep _ 1 (by decide) hb'⟩⟩
    · -- 2 load 
      refine wpList_load_row rfl 23 _ rfl _ rfl 23 (HC b) (0, 0) _ (hX1.keep hb.below) Try.underlying23 rfl S2.out ?_
      exact ⟨rfl, rfl, .refl _ _ _, mk_is rfl, ⟨hG.1.keep _ 2 (by decide) (Below.refl _ _), hG.2.keep _ 2 (by decide) (Below.refl _ _)⟩⟩
    · -- 3 call curia/pair.From 
      simp only [hf]; clear hf
      go_wp2_with (first | (go_at_call 11; refine (from_k b HB.out _).mono ?_; rintro e w' ⟨g', rfl, hg', hk', hb'⟩; rw [HR.out] at hk'))
      exact ⟨rfl, rfl, GrowsT.of hb' hz, mk_any, ⟨hG.1.keep _ 3 (by decide) hb', keyAt.new g' (Nat.le_trans hz hg') hk'⟩⟩
    · -- 4 assign 
      go_wp2
      exact ⟨rfl, rfl, .refl _ _ _, mk_as rfl (by decide) (by decide), ⟨hG.1.keep _ 4 (by decide) (Below.refl _ _), hG.2.keep _ 4 (by decide) (Below.refl _ _)⟩⟩
    · -- 5 assign 
      go_wp2
      exact ⟨rfl, rfl, .refl _ _ _, mk_as rfl (by decide) (by decide), ⟨hG.1.keep _ 5 (by decide) (Below.refl _ _), hG.2.keep _ 5 (by decide) (Below.refl _ _)⟩⟩
  · intro vals w1 hb hG hf; simp [leans, List.range, List.range.loop, factsOf, phi, isV, asV, anyV, sel] at hf; simp [putD, List.range, List.range.loop, Act.put, hf]
    obtain ⟨g, hv1, hg0, hk0⟩ := hG.1.get (by simp)
    obtain ⟨q, hv3, hq0, hq1⟩ := hG.2.get (by simp)
    simp only [hv1, hv3]
    have hB1 := hB0.lift hb.below hB0.size
    have HK := Lib.hid hk0; have HQ := Lib.hid hq1; have HB1 := Lib.hid hB1; have HG0 := Lib.hid (Nat.le_trans hB0.size hg0); have HQ0 := Lib.hid (Nat.le_trans hB0.size hq0)
    clear hk0 hq1 hB1 hG hb hf hv1 hv3
    have hyz : powI (powI 4 r) s = powI (powI 4 s) r := raised r s ⟨by have := BR.out; omega, BR.out.2⟩ ⟨by have := BS.out; omega, BS.out.2⟩
    have hiy : isI (powI (powI 4 s) r) = true := isI_raised s r BS.out BR.out
    have HIY := Lib.hid hiy; have HYZ := Lib.hid hyz
    have hne : q ≠ g ∨ True := .inr trivial
    clear hiy hyz hne
    go_wp2_with (first
      | (go_at_call 14; refine (secret_any q r 0 0 0 0 _ HQ.out).mono ?_; rintro e w' ⟨rfl, rfl⟩)
      | (go_at_call 14; refine (secret_any g s 0 0 0 0 _ HK.out).mono ?_; rintro e w' ⟨rfl, rfl⟩)
      | (go_at_call 14; refine (secret_any q r 1 (powI 4 r) 1 0 _ HQ2.out).mono ?_; rintro e w' ⟨rfl, rfl⟩)
      | (go_at_call 24; refine (rpow_any _ _ _).mono ?_; rintro e w' ⟨rfl, rfl⟩; try rw [HYZ.out])
      | (go_at_call 22; refine (ris_any _ _).mono ?_; rintro e w' ⟨rfl, rfl⟩; rw [HIY.out])
      | (go_at_call 15; refine (public_first q r 0 ⟨by have := BR.out; omega, BR.out.2⟩ _ HQ.out).mono ?_; rintro e w2 ⟨rfl, hk2, hg2⟩
         have HQ2 := Lib.hid hk2; have HB2 := Lib.hid (below_grown HB1.out hg2 HQ0.out HB1.out.size)
         clear hk2 hg2)
      | (go_at_call 18; refine (known_pair _).mono ?_; rintro e w9 ⟨rfl, hb9⟩))
    go_ret
    exact ⟨rfl, HB2.out.later hb9 (Nat.le_refl _)⟩
end Go.Proofs.Ytbhhgmaibdkgbaa
