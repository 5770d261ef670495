/-
  Signatures: the walk of Sign, the program's.
-/
import Derived.Test.YtmijaghaombbpaaSign
import Derived.Test.YtmijaghaombbpaaMuts2
namespace Go.Proofs.Ytmijaghaombbpaa
set_option maxRecDepth 100000
open Go.RowKit Pm
set_option linter.unusedVariables false
set_option linter.unusedSimpArgs false

theorem secret_st (g : Nat) (s us : Int) (d : Bool) (w : World) (hk : Blk w g (CD s d us) 59) :
    Calls Try.prog 22 #[.pointer (some ⟨g, 0, none⟩)] w fun e w' => e = .returned (.int .i64 s) ∧ w = w' := secret_any g s _ _ _ us w hk

set_option maxHeartbeats 1600000 in
theorem sign_row (g : Nat) (s us : Int) (dn : Bool) (hs : 1 ≤ s ∧ s < 1073741789) (a : Option Addr) (l c : Nat) (p : List UInt8) (w : World) (hk : Blk w g (CD s dn us) 59) (hp : Row8 w a l p) :
    Calls Try.prog 13 #[.pointer (some ⟨g, 0, none⟩), .slice a l c] w fun e w' => e = .returned (.agg #[.int .i64 (sigE s p), .int .i64 (sigS s p)]) ∧ Blk w' g (CD s true us) 59 ∧ w.grownBy w' (some g) := by
  obtain ⟨d, hd⟩ : ∃ d, deriveW (List.replicate 32 0) (sb ⟨#[110, 111, 110, 99, 101]⟩) [fourB s, p].flatten = d := ⟨_, rfl⟩
  have hdl : d.length = 32 := by rw [← hd]; exact sumW_length _
  obtain ⟨r, hr⟩ : ∃ r, U (numN d 8) % 1073741788 + 1 = r := ⟨_, rfl⟩
  have hrn : nonceW s p = r := by rw [← hr, ← hd]; rfl
  have hrb := nonceW_bd s p
  rw [hrn] at hrb
  obtain ⟨E, hE⟩ : ∃ E, askW (powI 4 r) (powI 4 s) p = E := ⟨_, rfl⟩
  have hEn : sigE s p = E := by rw [← hE, ← hrn]; rfl
  have hEb := sigE_bd s p
  rw [hEn] at hEb
  have hSn : sigS s p = (r + E * s) % 1073741789 := by rw [← hEn, ← hrn]; rfl
  rw [hEn, hSn]
  have hm : 0 ≤ E * s ∧ E * s ≤ 1152921504606846976 := by
    refine ⟨Int.mul_nonneg hEb.1 (by omega), ?_⟩
    have h1 : E * s ≤ 1073741824 * 1073741824 := Int.mul_le_mul (by omega) (by omega) (by omega) (by omega)
    omega
  have HD := Lib.hid hd; have HDL := Lib.hid hdl; have HR := Lib.hid hr; have HE := Lib.hid hE; have HM := Lib.hid hm; have HRB := Lib.hid hrb
  have HP := Lib.hid hp; have HK := Lib.hid hk; have HS := Lib.hid hs
  clear hd hdl hr hrn hE hEn hEb hSn hm hrb hp hk hs
  go_enter Try.func13, Try.ntmps13
  go_wp2_with fail
  refine calls_gen (fun w0 hw0 => ?_)
  have hT0 : Blk w0 w.heap.size #[.int .i64 0, .int .i64 0] 31 := by rw [hw0]; exact Blk.new _ _ _
  have hb0 : Below w.heap.size w w0 := by rw [hw0]; exact (Below.refl _ _).next (Nat.le_refl _) _
  have hne : w.heap.size ≠ g := by have := HK.out.lt; omega
  have hlt := HK.out.lt
  have HT0 := Lib.hid hT0; have HB0 := Lib.hid hb0; have HK0 := Lib.hid (HK.out.keep hb0); have HP0 := Lib.hid (HP.out.below hb0)
  clear hw0 hT0 hb0
  refine (secret_st g s us dn _ HK0.out).mono ?_
  rintro e w' ⟨rfl, rfl⟩
  go_wp2_with fail
  refine (four_b s _).mono ?_
  rintro e w1 ⟨rfl, hF1, hb1⟩
  have HF1 := Lib.hid hF1; have HB1 := Lib.hid (HB0.out.later hb1 (Nat.le_refl _)); have HK1 := Lib.hid (HK0.out.keep hb1); have HP1 := Lib.hid (HP0.out.below hb1); have HT1 := Lib.hid (HT0.out.keep hb1)
  clear hF1 hb1 HB0 HK0 HP0 HT0
  go_wp2_with fail
  refine (derive_zero ⟨#[110, 111, 110, 99, 101]⟩ (by decide) _ 2 2 [fourB s, p] _ (RowR.two (Row8.ofBlk HF1.out (by simp [fourB, maxLen]) 4 rfl) HP1.out)).mono ?_
  rintro e w2 ⟨rfl, hb2⟩
  rw [HD.out]
  have hbq := ((Below.refl _ w1).next (Nat.le_refl _) (.cells #[.slice (some ⟨w0.heap.size, 0, none⟩) 4 4, .slice a l c] 24)).later hb2 (Nat.le_refl _)
  have HB2 := Lib.hid (HB1.out.later hbq (Nat.le_refl _)); have HK2 := Lib.hid (HK1.out.keep hbq); have HP2 := Lib.hid (HP1.out.below hbq); have HT2 := Lib.hid (HT1.out.keep hbq)
  clear hb2 hbq HB1 HK1 HP1 HT1 HF1
  go_wp2_with fail
  refine (pscalar_any d HDL.out _).mono ?_
  rintro e w3 ⟨rfl, hb3⟩
  rw [HR.out]
  have HB3 := Lib.hid (HB2.out.later hb3 (Nat.le_refl _)); have HK3 := Lib.hid (HK2.out.keep hb3); have HP3 := Lib.hid (HP2.out.below hb3); have HT3 := Lib.hid (HT2.out.keep hb3)
  clear hb3 HB2 HK2 HP2 HT2
  go_wp2_with fail
  refine (pow_any 4 r _).mono ?_
  rintro e w' ⟨rfl, rfl⟩
  go_wp2_with fail
  refine (public_st g s us dn ⟨by have := HS.out; omega, HS.out.2⟩ _ HK3.out).mono ?_
  rintro e w4 ⟨rfl, hk4, hg4⟩
  have hgw : w.grownBy w4 (some g) := grown_trans (grown_below (grown_refl w _) HB3.out) hg4
  have HK4 := Lib.hid hk4; have HG4 := Lib.hid hgw; have HP4 := Lib.hid (HP3.out.key HK3.out hg4); have HT4 := Lib.hid (HT3.out.grown hg4 hne)
  clear hk4 hg4 hgw HB3 HK3 HP3 HT3
  go_wp2_with fail
  refine (asked_row (powI 4 r) (powI 4 s) a l c p _ HP4.out).mono ?_
  rintro e w5 ⟨rfl, hb5⟩
  rw [HE.out]
  have hT5 := HT4.out.keep hb5
  have c0 : w5.cell? ⟨w.heap.size, 0, none⟩ = some (.int .i64 0) := hT5.cell 0
  have c1 : w5.cell? ⟨w.heap.size, 1, none⟩ = some (.int .i64 0) := hT5.cell 1
  have f0 := hT5.frozen 0
  have f1 := hT5.frozen 1
  have HG5 := Lib.hid (grown_below HG4.out hb5); have HK5 := Lib.hid (HK4.out.keep hb5); have HT5 := Lib.hid hT5
  have hm0 := HM.out.1
  have hm1 := HM.out.2
  have hr0 := HRB.out.1
  have hr1 := HRB.out.2
  have hw1 : IntKind.i64.wrap (E * s) = E * s := IntWalk.i64_in _ (by omega)
  have hw2 : IntKind.i64.wrap (r + E * s) = r + E * s := IntWalk.i64_in _ (by omega)
  have hw3 : Int.tmod (r + E * s) 1073741789 = (r + E * s) % 1073741789 := Int.tmod_eq_emod_of_nonneg (by omega)
  have hw4 : IntKind.i64.wrap ((r + E * s) % 1073741789) = (r + E * s) % 1073741789 := IntWalk.i64_in _ (by omega)
  clear hb5 hT5 hm0 hm1 hr0 hr1 HG4 HK4 HP4 HT4
  go_wp2
  have hT6 : Blk ((w5.setCell ⟨w.heap.size, 0, none⟩ (.int .i64 E)).setCell ⟨w.heap.size, 1, none⟩ (.int .i64 ((r + E * s) % 1073741789))) w.heap.size #[.int .i64 E, .int .i64 ((r + E * s) % 1073741789)] 31 := ((HT5.out.set 0 _).set 1 _).copy rfl
  exact bodyPost_ret (v := .agg #[.int .i64 E, .int .i64 ((r + E * s) % 1073741789)]) (results_cell_row rfl _ _ w.heap.size _ #[.int .i64 E, .int .i64 ((r + E * s) % 1073741789)] (0, 0) _ rfl hT6 Try.underlying31 rfl (by kernel_rfl)) rfl
    ⟨rfl, (HK5.out.other ⟨w.heap.size, 0, none⟩ _ (Ne.symm hne)).other ⟨w.heap.size, 1, none⟩ _ (Ne.symm hne), grown_setNew (grown_setNew HG5.out 0 _ (Nat.le_refl _)) 1 _ (Nat.le_refl _)⟩

theorem sign_st (g : Nat) (s us : Int) (dn : Bool) (hs : 1 ≤ s ∧ s < 1073741789) (a : Option Addr) (l c : Nat) (p : List UInt8) (w : World) (hk : Blk w g (CD s dn us) 59) (hp : Arg8 w a l c p) :
    Calls Try.prog 13 #[.pointer (some ⟨g, 0, none⟩), .slice a l c] w fun e w' => e = .returned (.agg #[.int .i64 (sigE s p), .int .i64 (sigS s p)]) ∧ Blk w' g (CD s true us) 59 ∧ w.grownBy w' (some g) := sign_row g s us dn hs a l c p w hk hp.row

theorem below_any (n : Int) (w : World) : Calls Try.prog 33 #[.int .i64 n] w fun e w' => e = .returned (.bool (decide (0 ≤ n ∧ n < 1073741789))) ∧ w = w' := by
  by_cases h0 : 0 ≤ n
  · by_cases h1 : n < 1073741789
    · rw [decide_eq_true (⟨h0, h1⟩ : 0 ≤ n ∧ n < 1073741789)]
      have h2 : n ≥ 0 := h0
      go_enter Try.func33, Try.ntmps33
      go_wp2
      go_ret
      exact ⟨rfl, rfl⟩
    · rw [decide_eq_false (fun h : 0 ≤ n ∧ n < 1073741789 => h1 h.2)]
      have h2 : n ≥ 0 := h0
      go_enter Try.func33, Try.ntmps33
      go_wp2
      go_ret
      exact ⟨rfl, rfl⟩
  · rw [decide_eq_false (fun h : 0 ≤ n ∧ n < 1073741789 => h0 h.1)]
    have h2 : ¬ n ≥ 0 := h0
    go_enter Try.func33, Try.ntmps33
    go_wp2
    go_ret
    exact ⟨rfl, rfl⟩
end Go.Proofs.Ytmijaghaombbpaa
