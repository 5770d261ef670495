/-
  The law RowsBack, walked.
-/
import Derived.Test.YtgghkeinkcpboaaRowsPack
import Derived.Test.YtgghkeinkcpboaaSame
import Derived.Test.YtgghkeinkcpboaaNums
namespace Go.Proofs.Ytgghkeinkcpboaa
set_option maxRecDepth 100000
open Go.RowKit
set_option linter.unusedVariables false
set_option linter.unusedSimpArgs false

theorem packP_len {L : List (List UInt8)} (h : okRows L = true) : ∀ k, k ≤ L.length → (packP L k).length ≤ 1 + 2002 * k
  | 0, _ => by rw [packP_zero]; simp
  | k + 1, hk => by
    have h1 := packP_len h k (by omega)
    have h2 := (okRows_spec h).2 _ (List.getElem_mem (show k < L.length by omega))
    rw [packP_succ L k (by omega), List.length_append, List.length_append]
    have h3 : (rowHead L[k].length).length = 2 := rfl
    omega
theorem packW_len {L : List (List UInt8)} (h : okRows L = true) : (packW L).length ≤ 150000 := by
  have h1 := packP_len h L.length (Nat.le_refl _)
  have h2 := (okRows_spec h).1
  unfold packW; omega
theorem packW_pos (L : List (List UInt8)) : 1 ≤ (packW L).length := by rw [packW_eq, List.length_cons]; omega
theorem unpack_whole {L : List (List UInt8)} (h : okRows L = true) : unpackW (packW L) = some L := by
  have h1 := unpack_pack L h []
  rw [List.append_nil, if_pos rfl] at h1; exact h1

set_option maxRecDepth 100000 in
set_option maxHeartbeats 4000000 in
theorem rowsBack_walk {w : World} (a : Option Addr) (l c : Nat) (L : List (List UInt8)) (hp : ArgR w a l c L) (cut : Int) (wcut : (Lit.int .i64 cut).wf = true) (more : Int) (wmore : (Lit.int .u8 more).wf = true) :
    Calls Try.prog 5 #[.slice a l c, .int .i64 cut, .int .u8 more] w fun e w' => e = .returned (.bool true) ∧ Below w.heap.size w w' := by
  obtain ⟨y, hy⟩ : ∃ y : UInt8, Bt y = more := ⟨_, Bt_of wmore⟩
  subst hy
  have hand := low16 cut wcut
  obtain ⟨A, hA⟩ : ∃ A : Nat, cut % 65536 = A := ⟨(cut % 65536).toNat, by have := Int.emod_nonneg cut (show (65536 : Int) ≠ 0 by decide); omega⟩
  rw [hA] at hand
  have HP := Lib.hid hp
  obtain ⟨iE, hiE, hcE⟩ := elemI
  clear hp wcut wmore hA
  go_enter Try.func5, Try.ntmps5
  go_wp2_with fail
  refine (long_any a l c L _ HP.out).mono ?_
  rintro e w' ⟨z, rfl, rfl⟩
  cases z with
  | true =>
    go_wp2
    go_ret
    exact ⟨rfl, Below.refl _ _⟩
  | false =>
    go_wp2_with fail
    refine (pack_any a l c L _ HP.out).mono ?_
    rintro e w1 ⟨hok, hno, hb1⟩
    have HP1 := Lib.hid (HP.out.below hb1); have HB1 : Hid (Below w.heap.size w w1) := Lib.hid hb1
    clear HP
    rcases hk : okRows L with _ | _
    · obtain rfl := hno hk
      clear hok hno hb1
      go_wp2_with fail
      refine (rpack_any a l c L _ HP1.out).mono ?_
      rintro e w2 ⟨hok2, hno2, hb2⟩
      obtain rfl := hno2 hk
      have HB2 := Lib.hid (HB1.out.later hb2 (Nat.le_refl _))
      clear hok2 hno2 hb2 hk
      go_wp2_with (go_at_call 14; refine (known_rows _).mono ?_; rintro e w9 ⟨rfl, hb9⟩)
      go_ret
      exact ⟨rfl, HB2.out.later hb9 (Nat.le_refl _)⟩
    · obtain ⟨v, rfl, hown⟩ := hok hk
      obtain ⟨M, hM⟩ : ∃ M, packW L = M := ⟨_, rfl⟩
      have hun := unpack_whole hk
      have hlen := packW_len hk
      have hpos := packW_pos L
      rw [hM] at hun hlen hpos hown
      obtain ⟨N, hN⟩ : ∃ N, M.length = N := ⟨_, rfl⟩
      obtain ⟨gb, cb, rfl, hgb, hgl, hLb, hcm⟩ := hown.hasN N hN.symm (by omega)
      have hrc : RowC w1 (some ⟨gb, 0, none⟩) N cb M := ⟨hown.row (by simp only [maxLen]; omega) hN.symm, fun e => by cases e⟩
      rw [hN] at hlen hpos
      have hN0 : ¬ (N : Int) = 0 := by omega
      have hN00 : ¬ N = 0 := by omega
      obtain ⟨K, hK⟩ : ∃ K, A % N = K := ⟨_, rfl⟩
      have hKN : K < N := by rw [← hK]; exact Nat.mod_lt _ (by omega)
      have hrem : Int.tmod (A : Int) (N : Int) = (K : Int) := by rw [Int.tmod_eq_emod_of_nonneg (by omega), ← hK]; simp
      have h1 := unpack_some hun
      have h2 := unpack_none (unpack_less (b := M.take K) (t := M.drop K) (L := L) (by rw [List.take_append_drop]; exact hun) (fun h => by have := congrArg List.length h; rw [List.length_drop, hN] at this; simp at this; omega))
      have h3 := unpack_none (unpack_more (b := M) (t := [y]) hun (by simp))
      have hLs : L.length ≤ 60 := (okRows_spec hk).1
      have HU1 := Lib.hid h1; have HU2 := Lib.hid h2; have HU3 := Lib.hid h3; have HLS := Lib.hid hLs; have HN := Lib.hid hN; have HLEN := Lib.hid (show N ≤ 200000 by omega); have HLEN2 := Lib.hid hlen; have HKN := Lib.hid hKN; have HLB := Lib.hid hLb; have HM1 := Lib.hid hrc
      have HW := Lib.hid (fun (_ : Unit) => small_wrap K)
      clear hok hno hb1 hk hM hun hlen hpos hown hN hgb hgl hLb hcm hrc hK hKN h1 h2 h3 hLs
      go_wp2_with fail
      refine (unpack_any (some ⟨gb, 0, none⟩) N cb M _ HM1.out HLB.out (by rw [HN.out]; exact HLEN.out)).mono ?_
      rintro e w2 ⟨v2, rfl, hO2, hb2⟩
      rw [HU1.out.1]
      rw [HU1.out.2] at hO2
      have FP2 : Hid (ArgR w2 a l c L) := Lib.hid (HP1.out.below hb2)
      have FM2 : Hid (RowC w2 (some ⟨gb, 0, none⟩) N cb M) := Lib.hid (HM1.out.below hb2)
      have HB2 : Hid (Below w.heap.size w w2) := Lib.hid (HB1.out.later hb2 (Nat.le_refl _))
      clear HP1 HM1 HB1
      clear hb2
      have FR2 : Hid (OwnR w2 w1.heap.size 24 v2 L) := Lib.hid (hO2)
      obtain ⟨hwK, hwK2⟩ := small_wrap K (by have h1 := HKN.out; have h2 := HLEN.out; omega)
      go_wp2_with (first
        | (refine wpList_upto rfl (.tmp 49) (.tmp 54) 24 rfl elemB hiE hcE rfl FM2.out HLB.out K rfl (by have := HKN.out; omega) ?_
           intro a4 h4 _
           have HR4 := Lib.hid h4
           clear h4))
      refine (unpack_any a4 K cb (M.take K) _ HR4.out (by have h1 := HKN.out; have h2 := HLB.out; omega) (by rw [List.length_take]; have := HLEN.out; have := HKN.out; omega)).mono ?_
      rintro e w3 ⟨v3, rfl, hO3, hb3⟩
      rw [HU2.out.1]
      clear hO3 hwK hwK2
      have FP3 : Hid (ArgR w3 a l c L) := Lib.hid (FP2.out.below hb3)
      have FM3 : Hid (RowC w3 (some ⟨gb, 0, none⟩) N cb M) := Lib.hid (FM2.out.below hb3)
      have FR3 : Hid (OwnR w3 w1.heap.size 24 v2 L) := Lib.hid (FR2.out.below hb3)
      have FC3 : Hid (RowC w3 a4 K cb (M.take K)) := Lib.hid (HR4.out.below hb3)
      have HB3 : Hid (Below w.heap.size w w3) := Lib.hid (HB2.out.later hb3 (Nat.le_refl _))
      clear FP2 FM2 FR2 HR4 HB2
      clear hb3
      clear FC3
      have FPD := FP3; have FRD := FR3; have HBW := HB3
      go_wp2_with (first
        | (at_builtin
           refine wpList_append8 rfl (.tmp 60) (.tmp 61) 24 rfl (w3.heap.size) 5 Try.underlying24 info8 (.slice (some ⟨w3.heap.size, 0, none⟩) 0 0) [] rfl ?c1 _ _ _ (M) rfl ?c2 ?c3 ?c4 ?c5 ?_
           case c1 => exact Own8.litAt [] _ rfl rfl rfl (Nat.le_refl _) (small8 _ (by simp))
           case c2 => exact (FM3.out.row).below ((Below.refl _ _).next (Nat.le_refl _) _)
           case c3 => exact FM3.out.nil
           case c4 => have := (show M.length ≤ 200000 by rw [HN.out]; exact HLEN.out); simp only [List.length_nil]; omega
           case c5 => simp
           intro v4 w4 hown4 hg4 hb4
           rw [List.nil_append] at hown4
           have hb4 : Below w3.heap.size w3 w4 := ((Below.refl _ _).next (Nat.le_refl _) _).trans hb4
           have FP4 : Hid (ArgR w4 a l c L) := Lib.hid (FP3.out.below hb4)
           have FM4 : Hid (RowC w4 (some ⟨gb, 0, none⟩) N cb M) := Lib.hid (FM3.out.below hb4)
           have FR4 : Hid (OwnR w4 w1.heap.size 24 v2 L) := Lib.hid (FR3.out.below hb4)
           have HB4 : Hid (Below w.heap.size w w4) := Lib.hid (HB3.out.later hb4 (Nat.le_refl _))
           clear FP3 FM3 FR3 HB3
           have FD4 : Hid (Own8 w4 (w3.heap.size) 5 v4 (M)) := Lib.hid (hown4)
           have HBD := Lib.hid hb4
           clear hown4 hg4 hb4)
        | (at_builtin
           refine wpList_append8 rfl (.tmp 62) (.tmp 64) 24 rfl w3.heap.size 5 Try.underlying24 info8 v4 M rfl (FD4.out.below ((Below.refl _ _).next (Nat.le_refl _) _)) _ _ _ [y] rfl (Row8.litAt [y] _ rfl rfl rfl (by simp [maxLen])) (fun e => by cases e) (by rw [HN.out]; have := HLEN.out; simp only [List.length_cons, List.length_nil]; omega) (by have h1 := HBD.out.size; rw [size_alloc]; omega) ?_
           intro v5 w5 hown5 hg5 hb5
           have hb5 : Below w3.heap.size w3 w5 := (HBD.out.next (Nat.le_refl _) _).trans hb5
           have FP5 := Lib.hid (FPD.out.below hb5); have FR5 := Lib.hid (FRD.out.below hb5); have HB5 := Lib.hid (HBW.out.later hb5 (Nat.le_refl _)); have FD5 := Lib.hid hown5
           clear hown5 hg5 hb5))
      obtain ⟨ad, cd, hve, hcd, hld⟩ := FD5.out.toL (by rw [List.length_append, HN.out]; have := HLEN.out; simp only [List.length_cons, List.length_nil]; omega)
      subst hve
      have HCD := Lib.hid hcd; have HLD := Lib.hid hld
      clear hcd hld
      clear FD5
      refine (unpack_any ad (M ++ [y]).length cd (M ++ [y]) _ HCD.out HLD.out (by rw [List.length_append, HN.out]; have := HLEN2.out; simp only [List.length_cons, List.length_nil]; omega)).mono ?_
      rintro e w6 ⟨v6, rfl, hO6, hb6⟩
      rw [HU3.out.1]
      clear hO6
      have FP6 : Hid (ArgR w6 a l c L) := Lib.hid (FP5.out.below hb6)
      have FR6 : Hid (OwnR w6 w1.heap.size 24 v2 L) := Lib.hid (FR5.out.below hb6)
      have FD6 : Hid (RowC w6 ad (M ++ [y]).length cd (M ++ [y])) := Lib.hid (HCD.out.below hb6)
      have HB6 : Hid (Below w.heap.size w w6) := Lib.hid (HB5.out.later hb6 (Nat.le_refl _))
      clear FP5 FR5 HCD HB5
      clear hb6
      obtain ⟨aR, cR, hve, hnR, _, _⟩ := FR6.out.toN (by have := HLS.out; omega)
      subst hve
      have HNR := Lib.hid hnR
      clear hnR
      go_wp2_with (first
        | (go_at_call 17; refine (same_any _ _ _ _ _ _ L L _ HNR.out FP6.out.toN).mono ?_; rintro e w8 ⟨rfl, hb8⟩; rw [decide_eq_true rfl])
        | (go_at_call 14; refine (known_rows _).mono ?_; rintro e w9 ⟨rfl, hb9⟩))
      go_ret
      exact ⟨rfl, (HB6.out.later hb8 (Nat.le_refl _)).later hb9 (Nat.le_refl _)⟩
end Go.Proofs.Ytgghkeinkcpboaa
