/-
  The law SignSame, walked.
-/
import Derived.Test.YtmijaghaombbpaaSignLaws
import Derived.Test.YtmijaghaombbpaaMuts2
import Derived.Test.YtmijaghaombbpaaOpenI
namespace Go.Proofs.Ytmijaghaombbpaa
set_option maxRecDepth 100000
open Go.RowKit Pm
set_option linter.unusedVariables false
set_option linter.unusedSimpArgs false
attribute [local go_sem] eqh_guard key_y key_x

set_option maxRecDepth 100000 in
set_option maxHeartbeats 2000000 in
theorem signSame_walk {w : World} (a : List UInt8) (ha : a.length = 32) (la : Option Addr) (ll lc : Nat) (p : List UInt8) (hp : Arg8 w la ll lc p) :
    Calls Try.prog 8 #[HV a, .slice la ll lc] w fun e w' => e = .returned (.bool true) ∧ Below w.heap.size w w' := by
  have hsz : (Try.prog.info? 23).map (·.size) = some (HC a).size := by rw [HC_size, ha]; kernel_rfl
  obtain ⟨s, hs⟩ : ∃ s, keyS a = s := ⟨_, rfl⟩
  have hbs := keyS_bd a
  rw [hs] at hbs
  have HA := Lib.hid ha; have S1 := Lib.hid hsz; have HS := Lib.hid hs; have BS := Lib.hid hbs
  clear ha hsz hs hbs
  unfold HV
  have hle := hp.le
  have hsm := hp.small
  have hl := hp.row.len_eq
  have HL := Lib.hid hl
  clear hl
  have HP := Lib.hid hp
  clear hp
  obtain ⟨E, hE⟩ : ∃ E, sigE s p = E := ⟨_, rfl⟩
  obtain ⟨F, hF⟩ : ∃ F, sigS s p = F := ⟨_, rfl⟩
  have hver := verW_own s p BS.out
  have hEb := sigE_bd s p
  have hFb := sigS_bd s p
  rw [hE, hF] at hver
  rw [hE] at hEb
  rw [hF] at hFb
  have HVER := Lib.hid hver; have HE := Lib.hid hE; have HF := Lib.hid hF; have HEB := Lib.hid hEb; have HFB := Lib.hid hFb
  clear hver hE hF hEb hFb
  by_cases h1 : ((ll : Int) > 500)
  · go_enter Try.func8, Try.ntmps8
    go_wp2
    go_ret
    exact ⟨rfl, (Below.refl _ _).next (Nat.le_refl _) _⟩
  have hX0 : Blk (w.alloc (.cells (HC a) 23)) w.heap.size (HC a) 23 := Blk.new w _ _
  have hB0 : Below w.heap.size w (w.alloc (.cells (HC a) 23)) := (Below.refl _ _).next (Nat.le_refl _) _
  have HX0 := Lib.hid hX0; have HB0 := Lib.hid hB0
  clear hX0 hB0
  go_enter Try.func8, Try.ntmps8
  go_wp2_with (first
    | (refine wpList_load_row rfl 23 _ rfl w.heap.size rfl 23 (HC a) (0, 0) _ HX0.out Try.underlying23 rfl S1.out ?_)
    | (go_at_call 11; refine (from_k a HA.out _).mono ?_; rintro e1 w1 ⟨g, rfl, hg1, hk1, hb1⟩; rw [HS.out] at hk1
       have HK1 : Hid (Blk w1 g (CD s false 0) 59) := Lib.hid hk1
       have hxg : w.heap.size ≠ g := by rw [size_alloc] at hg1; omega
       have HG1 := Lib.hid (Nat.le_trans HB0.out.size hg1); have HB1 := Lib.hid (HB0.out.later hb1 (Nat.le_refl _)); have HX1 := Lib.hid (HX0.out.keep hb1); have HP1 := Lib.hid ((HP.out.below HB0.out).below hb1)
       clear hk1 hg1 hb1)
    | (at_builtin
       refine wpList_append8 rfl (.tmp 14) (.tmp 15) 24 rfl w1.heap.size 5 Try.underlying24 info8 (.slice (some ⟨w1.heap.size, 0, none⟩) 0 0) [] rfl ?c1 _ _ _ p rfl ?c2 ?c3 ?c4 ?c5 ?_
       case c1 => exact Own8.litAt [] _ rfl rfl rfl (Nat.le_refl _) (small8 _ (by simp))
       case c2 => exact HP1.out.row.below ((Below.refl _ _).next (Nat.le_refl _) _)
       case c3 => exact HP1.out.nil
       case c4 => rw [← HL.out]; simp; omega
       case c5 => simp
       intro v1 w2 hown1 hg2 hb2
       have hB2 : Below w1.heap.size w1 w2 := ((Below.refl _ _).next (Nat.le_refl _) _).trans hb2
       obtain ⟨a1, c1, e1, hr1, hn1⟩ := hown1.forms (by rw [List.nil_append, ← HL.out]; simp only [maxLen]; omega)
       rw [List.nil_append, ← HL.out] at e1 hr1
       subst e1
       have HB2 := Lib.hid (HB1.out.later hB2 (Nat.le_refl _)); have HK2 := Lib.hid (HK1.out.keep hB2); have HX2 := Lib.hid (HX1.out.keep hB2); have HP2 := Lib.hid (HP1.out.below hB2); have HR2 := Lib.hid hr1
       clear hown1 hg2 hb2 hB2 hr1 hn1))
  refine (sign_row g s 0 false BS.out a1 ll c1 p _ HK2.out HR2.out).mono ?_
  rintro e1 w3 ⟨rfl, hk3, hg3⟩
  rw [HE.out, HF.out]
  have HB3 := Lib.hid (below_grown HB2.out hg3 HG1.out HB2.out.size); have HX3 := Lib.hid (HX2.out.grown hg3 hxg); have HP3 := Lib.hid (HP2.out.key HK2.out hg3); have HR3 := Lib.hid (HR2.out.key HK2.out hg3)
  clear hk3 hg3
  go_wp2_with (first
    | (refine wpList_load_row rfl 23 _ rfl w.heap.size rfl 23 (HC a) (0, 0) _ (HX3.out.alloc _) Try.underlying23 rfl S1.out ?_)
    | (go_at_call 11; refine (from_k a HA.out _).mono ?_; rintro e1 w4 ⟨q, rfl, hg4, hk4, hb4⟩; rw [HS.out] at hk4
       have hb4 := ((Below.refl _ w3).next (Nat.le_refl _) (.cells #[.int .i64 E, .int .i64 F] 31)).later hb4 (Nat.le_refl _)
       have HT4 : Hid (Blk w4 w3.heap.size #[.int .i64 E, .int .i64 F] 31) := Lib.hid ((Blk.new w3 _ _).keep (by assumption))
       have HK4 : Hid (Blk w4 q (CD s false 0) 59) := Lib.hid hk4
       have HB4 := Lib.hid (HB3.out.later hb4 (Nat.le_refl _)); have HP4 := Lib.hid (HP3.out.below hb4); have HR4 := Lib.hid (HR3.out.below hb4)
       have HQ4 := Lib.hid (show w3.heap.size + 1 ≤ q from by rw [size_alloc] at hg4; exact hg4)
       clear hk4 hb4))
  refine (sign_row q s 0 false BS.out a1 ll c1 p _ HK4.out HR4.out).mono ?_
  rintro e1 w5 ⟨rfl, hk5, hg5⟩
  rw [HE.out, HF.out]
  have hq4 := HQ4.out
  have hs3 := HB3.out.size
  have HB5 := Lib.hid (below_grown HB4.out hg5 (by omega) HB4.out.size); have HP5 := Lib.hid (HP4.out.key HK4.out hg5); have HR5 := Lib.hid (HR4.out.key HK4.out hg5)
  have hT5 := (HT4.out.grown hg5 (by omega)).alloc (.cells #[.int .i64 E, .int .i64 F] 31)
  have ct0 : (w5.alloc (.cells #[.int .i64 E, .int .i64 F] 31)).cell? ⟨w3.heap.size, 0, none⟩ = some (.int .i64 E) := hT5.cell 0
  have ct1 : (w5.alloc (.cells #[.int .i64 E, .int .i64 F] 31)).cell? ⟨w3.heap.size, 1, none⟩ = some (.int .i64 F) := hT5.cell 1
  have hba : Below w5.heap.size w5 (w5.alloc (.cells #[.int .i64 E, .int .i64 F] 31)) := (Below.refl _ _).next (Nat.le_refl _) _
  have kS1 := (HR5.out.below hba).str (P := Try.prog) 24 9 5 c1 Try.underlying24 Try.underlying5 Try.underlying9
  have kS2 := (HP5.out.row.below hba).str (P := Try.prog) 24 9 5 lc Try.underlying24 Try.underlying5 Try.underlying9
  generalize strB p = str at kS1 kS2
  have HB6 := Lib.hid (HB5.out.later hba (Nat.le_refl _))
  clear hk5 hg5 hT5 hba hq4 hs3
  go_wp2_with (go_at_call 16; with_reducible refine (known_sign _).mono ?_; rintro e w9 ⟨rfl, hb9⟩)
  go_ret
  exact ⟨rfl, HB6.out.later hb9 (Nat.le_refl _)⟩
end Go.Proofs.Ytmijaghaombbpaa
