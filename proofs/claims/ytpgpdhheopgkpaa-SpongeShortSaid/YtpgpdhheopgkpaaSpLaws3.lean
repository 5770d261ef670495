/-
  More walks of the laws over package sponge.
-/
import Derived.Test.YtpgpdhheopgkpaaSpLaws2
import Derived.Test.YtpgpdhheopgkpaaStr
namespace Go.Proofs.Ytpgpdhheopgkpaa
open Go.RowKit
set_option linter.unusedVariables false
set_option linter.unusedSimpArgs false
attribute [local go_sem] eqh_guard eqw

theorem derive_zero (s : ByteArray) (hs : s.size ≤ maxLen) (a : Option Addr) (len cap : Nat) (L : List (List UInt8)) (w : World) (hp : RowR w a len L) :
    Calls Try.prog 17 #[.agg zeros32, .string s, .slice a len cap] w fun e w' => e = .returned (HV (deriveW (List.replicate 32 0) (sb s) L.flatten)) ∧ Below w.heap.size w w' := by
  rw [zeros32_HC]
  exact derive_any (List.replicate 32 0) rfl s hs a len cap L w hp

set_option maxRecDepth 100000 in
set_option maxHeartbeats 2000000 in
theorem spongeRows_walk {w : World} (a : Option Addr) (len cap : Nat) (L : List (List UInt8)) (hp : ArgR w a len cap L) :
    Calls Try.prog 6 #[.slice a len cap] w fun e w' => e = .returned (.bool true) ∧ Below w.heap.size w w' := by
  have hlen := hp.len_eq
  have hsm : L.length ≤ 140737488351232 := by have h1 := hp.le; have h2 := hp.small; omega
  subst hlen
  have HP := Lib.hid hp
  clear hp
  go_enter Try.func6, Try.ntmps6
  go_wp2
  go_loopw [3, 4] (fun b i wr => ∃ k : Nat, k ≤ L.length ∧ i = .int .i64 k ∧ (L.take k).flatten.length ≤ 1500 ∧ Own8 wr w.heap.size 5 b (L.take k).flatten ∧ Below w.heap.size w wr) (fun _ i _ => L.length - (intOf i).toNat)
  case atStart => exact ⟨0, Nat.zero_le _, rfl, by simp, World.ownsRow_nil _ _ _ _, Below.refl _ _⟩
  case round =>
    obtain ⟨k, hk, rfl, hle, hO, hB⟩ := hrel
    by_cases hlt : k < L.length
    · obtain ⟨b, off, rfl, a', l', c', hcell, hrow⟩ : ∃ b off, a = some ⟨b, off, none⟩ ∧ ∃ a' l' c', wr.cell? ⟨b, off + k, none⟩ = some (.slice a' l' c') ∧ Arg8 w a' l' c' L[k] := by
        rcases HP.out.cells with h1 | ⟨b, off, rfl, hc⟩
        · simp [h1] at hlt
        · obtain ⟨a', l', c', h2, h3⟩ := hc k hlt
          exact ⟨b, off, rfl, a', l', c', (hB.cell (block_lt_of_cell h2)).trans h2, h3⟩
      have hrow2 := hrow.row.below hB
      have hl' : l' = L[k].length := hrow.row.len_eq
      have hsm' : l' ≤ 140737488351232 := by have h1 := hrow.le; have h2 := hrow.small; omega
      obtain ⟨a3, c3, rfl, hr3, hn3⟩ := hO.forms (by simp only [maxLen]; omega)
      generalize hm : (L.take k).flatten.length = m at *
      have HM := Lib.hid hm; have HLL := Lib.hid hl'; have HR3 := Lib.hid hr3; have HN3 := Lib.hid hn3
      have HO := Lib.hid hO; have HB := Lib.hid hB; have HW := Lib.hid hrow2; have HN := Lib.hid hrow.nil
      clear hm hl' hO hB hrow hrow2 hr3 hn3
      by_cases h1 : ((k : Int) > 200)
      · go_wp2
        go_ret
        exact ⟨rfl, HB.out⟩
      by_cases h2 : ((m : Int) + l' > 1500)
      · go_wp2
        go_ret
        exact ⟨rfl, HB.out⟩
      have hadd : (L.take k).flatten.length + L[k].length ≤ 140737488355328 := by rw [HM.out, ← HLL.out]; omega
      have hnext : (L.take (k + 1)).flatten.length ≤ 1500 := by rw [take_flat L k hlt, List.length_append, HM.out, ← HLL.out]; omega
      have HADD := Lib.hid hadd; have HNX := Lib.hid hnext
      clear hadd hnext
      go_wp2_with (at_builtin
                   refine wpList_append8 rfl (.tmp 24) (.tmp 28) 27 rfl w.heap.size 5 Try.underlying27 info8 _ (L.take k).flatten rfl HO.out _ _ _ L[k] rfl HW.out HN.out HADD.out HB.out.size ?_
                   intro v3 w3 hown3 hg3 hb3
                   have HO3 := Lib.hid hown3; have HB3 := Lib.hid hb3
                   clear hown3 hg3 hb3)
      go_roundw
      case rel =>
        refine ⟨k + 1, by omega, by go_num, HNX.out, ?_, HB.out.trans HB3.out⟩
        rw [take_flat L k hlt]; exact HO3.out
      case measure => simp [intOf]; omega
    · rw [List.take_of_length_le (by omega)] at hO hle
      obtain ⟨a3, c3, rfl, hr3, hn3⟩ := hO.forms (by simp only [maxLen]; omega)
      obtain ⟨d, hd⟩ : ∃ d, sumW L.flatten = d := ⟨_, rfl⟩
      obtain ⟨u, hu⟩ : ∃ u, deriveW (List.replicate 32 0) (sb ⟨#[120]⟩) L.flatten = u := ⟨_, rfl⟩
      have hfl : [L.flatten].flatten = L.flatten := by simp
      have kE1 := fun w1 => eqh w1 d d (by rw [← hd]; exact sumW_length _) (by rw [← hd]; exact sumW_length _)
      have kE2 := fun w1 => eqh w1 u u (by rw [← hu]; exact sumW_length _) (by rw [← hu]; exact sumW_length _)
      simp only [beq_self_eq_true] at kE1 kE2
      generalize hm : L.flatten.length = m at *
      have HD := Lib.hid hd; have HU := Lib.hid hu; have HF := Lib.hid hfl; have HR3 := Lib.hid hr3
      have HO := Lib.hid hO; have HB := Lib.hid hB; have HM := Lib.hid hm
      clear hd hu hfl hr3 hO hB hm hn3
      go_wp2_with fail
      refine (sum_any _ L.length cap L _ (HP.out.row.below HB.out)).mono ?_
      rintro e w1 ⟨rfl, hb1⟩
      rw [HD.out]
      have hB1 := HB.out.later hb1 (Nat.le_refl _)
      have hR1 := HR3.out.below hb1
      have HB1 := Lib.hid hB1; have HR1 := Lib.hid hR1
      clear hb1 hB1 hR1 HB HR3 HO
      go_wp2_with fail
      refine (sum_any _ 1 1 [L.flatten] _ (RowR.one HR1.out)).mono ?_
      rintro e w2 ⟨rfl, hb2⟩
      rw [HF.out, HD.out]
      have hB2 := (HB1.out.next (Nat.le_refl _) _).later hb2 (Nat.le_refl _)
      have hR2 := (HR1.out.below ((Below.refl _ _).next (Nat.le_refl _) _)).below hb2
      have HB2 := Lib.hid hB2; have HR2 := Lib.hid hR2
      clear hb2 hB2 hR2 HB1 HR1
      go_wp2_with fail
      refine (derive_zero ⟨#[120]⟩ (by decide) _ L.length cap L _ (HP.out.row.below HB2.out)).mono ?_
      rintro e w3 ⟨rfl, hb3⟩
      rw [HU.out]
      have hB3 := HB2.out.later hb3 (Nat.le_refl _)
      have hR3 := HR2.out.below hb3
      have HB3 := Lib.hid hB3; have HR3 := Lib.hid hR3
      clear hb3 hB3 hR3 HB2 HR2
      go_wp2_with fail
      refine (derive_zero ⟨#[120]⟩ (by decide) _ 1 1 [L.flatten] _ (RowR.one HR3.out)).mono ?_
      rintro e w4 ⟨rfl, hb4⟩
      rw [HF.out, HU.out]
      have hB4 := (HB3.out.next (Nat.le_refl _) _).later hb4 (Nat.le_refl _)
      have HB4 := Lib.hid hB4
      clear hb4 hB4 HB3 HR3
      go_wp2_with (go_at_call 14; refine (known_any _).mono ?_; rintro e w5 ⟨rfl, hb5⟩)
      go_ret
      exact ⟨rfl, HB4.out.later hb5 (Nat.le_refl _)⟩

set_option maxRecDepth 100000 in
set_option maxHeartbeats 2000000 in
theorem spongeOwn_walk {w : World} (a : Option Addr) (l c : Nat) (p : List UInt8) (hp : Arg8 w a l c p) (n : Int) (wn : (Lit.int .i64 n).wf = true) :
    Calls Try.prog 11 #[.slice a l c, .int .i64 n] w fun e w' => e = .returned (.bool true) ∧ Below w.heap.size w w' := by
  clear wn
  have hl := hp.row.len_eq
  have hsm : l ≤ 140737488351232 := by have h1 := hp.le; have h2 := hp.small; omega
  obtain ⟨d, hd⟩ : ∃ d, sumW p = d := ⟨_, rfl⟩
  have hdl : d.length = 32 := by rw [← hd]; exact sumW_length _
  have hsz : (Try.prog.info? 29).map (·.size) = some (HC d).size := by rw [HC_size, hdl]; kernel_rfl
  have hsz2 : zeros32.size = (HC d).size := by rw [HC_size, hdl]; rfl
  have hf1 : [p].flatten = p := by simp
  have hf2 : [p, []].flatten = p := by simp
  have HP := Lib.hid hp; have HD := Lib.hid hd; have HDL := Lib.hid hdl; have S1 := Lib.hid hsz; have S2 := Lib.hid hsz2; have HF1 := Lib.hid hf1; have HF2 := Lib.hid hf2; have HL := Lib.hid hl
  clear hp hd hdl hsz hsz2 hf1 hf2 hl
  by_cases h1 : ((l : Int) > 500)
  · go_enter Try.func11, Try.ntmps11
    go_wp2
    go_ret
    exact ⟨rfl, Below.refl _ _⟩
  by_cases h2 : (n < 1)
  · go_enter Try.func11, Try.ntmps11
    go_wp2
    go_ret
    exact ⟨rfl, Below.refl _ _⟩
  by_cases h3 : (n > 5)
  · go_enter Try.func11, Try.ntmps11
    go_wp2
    go_ret
    exact ⟨rfl, Below.refl _ _⟩
  go_enter Try.func11, Try.ntmps11
  go_wp2_with (first
    | (at_builtin
       refine wpList_append8 rfl (.tmp 19) (.tmp 20) 27 rfl w.heap.size 5 Try.underlying27 info8 (.slice (some ⟨w.heap.size, 0, none⟩) 0 0) [] rfl ?c1 _ _ _ p rfl ?c2 ?c3 ?c4 ?c5 ?_
       case c1 => exact Own8.litAt [] _ rfl rfl rfl (Nat.le_refl _) (small8 _ (by simp))
       case c2 => exact HP.out.row.below ((Below.refl _ _).next (Nat.le_refl _) _)
       case c3 => exact HP.out.nil
       case c4 => rw [← HL.out]; simp; omega
       case c5 => simp
       intro v1 w1 hown1 hg1 hb1
       have hB1 : Below w.heap.size w w1 := ((Below.refl _ _).next (Nat.le_refl _) _).trans hb1
       obtain ⟨a1, c1, e1, hr1, hn1⟩ := hown1.forms (by rw [List.nil_append, ← HL.out]; simp only [maxLen]; omega)
       rw [List.nil_append, ← HL.out] at e1 hr1
       subst e1
       have HB1 := Lib.hid hB1; have HR1 := Lib.hid hr1
       clear hown1 hg1 hb1 hB1 hr1 hn1)
    | (go_at_call 15; refine (sum_any _ 1 1 [p] _ (RowR.one HR1.out)).mono ?_; rintro e w2 ⟨rfl, hb2⟩; rw [HF1.out, HD.out])
    | (refine wpList_store_row rfl 29 _ _ rfl w2.heap.size (HC d) rfl rfl 29 zeros32 (Blk.newAt _ _ rfl) S1.out S2.out (HC_one _) ?_))
  refine wp_gen (fun w3 hw3 => ?_)
  have hX3 : Blk w3 w2.heap.size (HC d) 29 := by rw [hw3]; exact (Blk.newAt _ _ rfl).setRow _
  have hq : Below w1.heap.size w1 w3 := by
    rw [hw3]
    have hz := ((Below.refl _ w1).next (Nat.le_refl _) _).later hb2 (Nat.le_refl _)
    exact below_setRow (hz.next (Nat.le_refl _) _) _ hz.size
  have hB3 := HB1.out.later hq (Nat.le_refl _)
  have hR3 := HR1.out.below hq
  generalize w2.heap.size = H at *
  clear hw3 hb2 hq HB1 HR1
  have HX3 := Lib.hid hX3; have HB3 := Lib.hid hB3; have HR3 := Lib.hid hR3
  clear hX3 hB3 hR3

  go_wp2
  go_loopw [7] (fun i wr => ∃ k : Nat, (k : Int) ≤ n ∧ i = .int .i64 k ∧ Blk wr H (HC d) 29 ∧ Row8 wr a1 l p ∧ Below w.heap.size w wr) (fun i _ => n.toNat - (intOf i).toNat)
  case atStart => exact ⟨0, by omega, rfl, HX3.out, HR3.out, HB3.out⟩
  case round =>
    obtain ⟨k, hk, rfl, hX, hR, hB⟩ := hrel
    have HX := Lib.hid hX; have HR := Lib.hid hR; have HB := Lib.hid hB
    clear hX hR hB HX3 HR3 HB3
    by_cases hlt : (k : Int) < n
    · go_wp2_with fail
      refine region_grows _ (Nat.le_refl _) [isV 0 (.slice a1 l c1), rowsV 1 2 [p, []], isV 2 (HV d), isV 3 (HV d), isV 4 (.bool false)]
        [[], [0], [1], [], [2, 3]] [some 30, some 31, some 32, some 33, some 34] _ (by kernel_rfl) (by kernel_rfl) (by kernel_rfl) (by kernel_rfl) (by kernel_rfl) rfl ?_ ?_ ?_
      · repeat (first | exact st_nil | refine st_cons (by first | exact st_is _ _ | exact st_as _ _ | exact st_row _ _ _ | exact st_rows _ _ _ | exact st_lit _ _ _ _ _ | exact st_args _ _ _ | exact st_bytes _ _) ?_)
      · intro hgz
        refine ⟨?_, ?_, ?_, ?_, ?_, trivial⟩ <;> intro vals w1 hb hf <;> obtain ⟨hb, hz⟩ := hgz w1 hb <;> simp [leans, factsOf, phi, sel_lit, sel_row, sel_rows, sel_args, sel_bytes, isV, asV, sel] at hf <;> simp [putD, phi, Act.put]
        · -- 0 move 
          go_wp2
          exact ⟨rfl, rfl, .refl _ _, mk_is rfl⟩
        · -- 1 buildSlice 
          simp only [hf]; clear hf
          go_wp2
          exact ⟨rfl, rfl, Grows.alloc _ _ hz, mk_rows w1.heap.size _ rfl (RowR.two (HR.out.marks hb.marks) (Row8.nil _ _))⟩
        · -- 2 call curia/sponge.Sum 
          obtain ⟨g1, c1, e1, hr1⟩ := hf
          simp only [e1]
          go_wp2_with (first | (go_at_call 15; refine (sum_any _ 2 c1 [p, []] _ hr1).mono ?_; rintro e w' ⟨rfl, hb'⟩; rw [HF2.out, HD.out]))
          exact ⟨rfl, rfl, Grows.of hb' hz, mk_is rfl⟩
        · -- 3 load 
          refine wpList_load_row rfl 29 _ rfl _ rfl 29 (HC d) (0, 0) _ (HX.out.keep hb.below) Try.underlying29 rfl S1.out ?_
          exact ⟨rfl, rfl, .refl _ _, mk_is rfl⟩
        · -- 4 binOp 
          simp only [hf]; clear hf
          have kE := neh w1 d d HDL.out HDL.out
          rw [beq_self_eq_true] at kE
          go_wp2
          exact ⟨rfl, rfl, .refl _ _, mk_is rfl⟩
      · intro vals w1 hb hf; simp [leans, List.range, List.range.loop, factsOf, phi, sel_lit, sel_row, sel_rows, sel_args, sel_bytes, isV, asV, sel] at hf; simp [putD, List.range, List.range.loop, Act.put, hf]
        go_wp2
        go_roundw
        case rel => exact ⟨k + 1, by omega, by go_num, HX.out.keep hb.below, HR.out.marks hb.marks, HB.out.later hb.below (Nat.le_refl _)⟩
        case measure => simp [intOf]; omega
    · have kS1 := HR.out.str (P := Try.prog) 27 9 5 c1 Try.underlying27 Try.underlying5 Try.underlying9
      have kS2 := (HP.out.row.below HB.out).str (P := Try.prog) 27 9 5 c Try.underlying27 Try.underlying5 Try.underlying9
      generalize strB p = s at kS1 kS2
      go_wp2_with (go_at_call 14; refine (known_any _).mono ?_; rintro e w5 ⟨rfl, hb5⟩)
      go_ret
      exact ⟨rfl, HB.out.later hb5 (Nat.le_refl _)⟩
end Go.Proofs.Ytpgpdhheopgkpaa
