/-
  The law RowsFull, walked.
-/
import Derived.Test.YtgghkeinkcpboaaRowsBack
import Derived.Test.YtgghkeinkcpboaaPackN
import Derived.Test.YtgghkeinkcpboaaMake
namespace Go.Proofs.Ytgghkeinkcpboaa
set_option maxRecDepth 100000
open Go.RowKit
set_option linter.unusedVariables false
set_option linter.unusedSimpArgs false

theorem madeR (n : Nat) : (madeCells (Value.slice none 0 0).cells (n * 1)).toList = List.replicate n (.slice none 0 0) := by
  refine List.ext_getElem? fun i => ?_
  simp [madeCells, Value.cells, List.getElem?_replicate]
  by_cases h : i < n
  · simp [h, Nat.mod_one]
  · simp [h]
theorem blkv_of_own {w : World} {base g n : Nat} {e : TypeId} {vs : List Value} (h : w.ownsRow base e 1 (.slice (some ⟨g, 0, none⟩) n n) n vs) : ∃ cs, Blk w g cs e ∧ cs.toList = vs := by
  rcases h.2 with ⟨h1, _⟩ | ⟨g', cap, cur, h1, _, h2, h3, _, h4, h5⟩
  · cases h1
  · injection h1 with h1 _ h6
    injection h1 with h1
    injection h1 with h1
    subst h1; subst h6
    exact ⟨cur, h2, by rw [← h5, List.take_of_length_le (by simp [h4])]⟩
theorem packW_rep (m S : Nat) : (packW (List.replicate m [] ++ [List.replicate S 0])).length = 1 + 2 * (m + 1) + S := by
  have hR (k : Nat) : (rowHead k).length = 2 := rfl
  have h1 : ∀ m : Nat, ((List.replicate m ([] : List UInt8)).flatMap fun p => rowHead p.length ++ p).length = 2 * m := by
    intro m
    induction m with
    | zero => rfl
    | succ m ih => rw [List.replicate_succ, List.flatMap_cons, List.length_append, ih, List.length_append, hR]; simp; omega
  rw [packW_eq, List.length_cons, List.flatMap_append, List.length_append, h1, List.flatMap_cons, List.flatMap_nil, List.append_nil, List.length_append, hR, List.length_replicate]
  omega
theorem okRows_rep (m S : Nat) : okRows (List.replicate m [] ++ [List.replicate S 0]) = (decide (m + 1 ≤ 60) && decide (S ≤ 2000)) := by
  unfold okRows
  simp
theorem full_nums (N m S : Nat) (hm : N = m + 1) (hN : N ≤ 80) (hS : S ≤ 2100) : ∃ A B T : Nat,
    (IntKind.i64.wrap (2 * (N : Int)) = (A : Int) ∧ IntKind.i64.wrap (1 + (A : Int)) = (B : Int) ∧ IntKind.i64.wrap ((B : Int) + (S : Int)) = (T : Int)
      ∧ RowKit.wrap64 (2 * (N : Int)) = (A : Int) ∧ RowKit.wrap64 (1 + (A : Int)) = (B : Int) ∧ RowKit.wrap64 ((B : Int) + (S : Int)) = (T : Int))
    ∧ T = 1 + 2 * (m + 1) + S ∧ T ≤ 1000000 := by
  refine ⟨2 * N, 1 + 2 * N, 1 + 2 * N + S, ⟨?_, ?_, ?_, ?_, ?_, ?_⟩, by omega, by omega⟩
  · rw [IntWalk.i64_in _ (by omega)]; omega
  · rw [IntWalk.i64_in _ (by omega)]; omega
  · rw [IntWalk.i64_in _ (by omega)]; omega
  · rw [IntWalk.wrap64_in _ (by omega)]; omega
  · rw [IntWalk.wrap64_in _ (by omega)]; omega
  · rw [IntWalk.wrap64_in _ (by omega)]; omega
theorem rowN_full {w : World} {g g2 m S : Nat} {cs : Array Value} {e e2 : TypeId} (hB : Blk w g cs e) (hcs : cs.toList = List.replicate (m + 1) (.slice none 0 0)) (hB2 : Blk w g2 (HC (List.replicate S 0)) e2) (hg : g2 ≠ g) (hm : m ≤ 1000) (hS : S ≤ 10000) :
    RowN (w.setCell ⟨g, m, none⟩ (.slice (some ⟨g2, 0, none⟩) S S)) (some ⟨g, 0, none⟩) (m + 1) (List.replicate m [] ++ [List.replicate S 0]) := by
  have hB' := hB.set m (.slice (some ⟨g2, 0, none⟩) S S)
  have hB2' := hB2.other ⟨g, m, none⟩ (.slice (some ⟨g2, 0, none⟩) S S) hg
  have hsz : cs.size = m + 1 := by rw [← Array.length_toList, hcs, List.length_replicate]
  have hc (i : Nat) : cs[i]? = if i < m + 1 then some (.slice none 0 0) else none := by rw [← Array.getElem?_toList, hcs, List.getElem?_replicate]
  refine ⟨by simp, by simp [maxLen]; omega, .inr ⟨g, 0, rfl, fun i hi => ?_⟩⟩
  rw [Nat.zero_add, hB'.cell, Array.getElem?_setIfInBounds]
  simp at hi
  by_cases h : m = i
  · subst h
    refine ⟨_, _, _, by rw [if_pos rfl, if_pos (by omega)], ?_⟩
    rw [List.getElem_append_right (by simp)]
    simp only [List.length_replicate, Nat.sub_self, List.getElem_cons_zero]
    exact RowC.blk hB2' (by simp) (by simp; omega)
  · refine ⟨_, _, _, by rw [if_neg h, hc, if_pos (by omega)], ?_⟩
    rw [List.getElem_append_left (by simp; omega), List.getElem_replicate]
    exact ⟨Row8.nil _ _, fun _ => rfl⟩

set_option maxRecDepth 100000 in
set_option maxHeartbeats 4000000 in
theorem rowsFull_walk {w : World} (n : Int) (wn : (Lit.int .i64 n).wf = true) (size : Int) (wsize : (Lit.int .i64 size).wf = true) :
    Calls Try.prog 7 #[.int .i64 n, .int .i64 size] w fun e w' => e = .returned (.bool true) ∧ Below w.heap.size w w' := by
  clear wn wsize
  by_cases h1 : n < 0
  · go_enter Try.func7, Try.ntmps7
    go_wp2
    go_ret
    exact ⟨rfl, Below.refl _ _⟩
  by_cases h2 : n > 80
  · go_enter Try.func7, Try.ntmps7
    go_wp2
    go_ret
    exact ⟨rfl, Below.refl _ _⟩
  by_cases h3 : size < 0
  · go_enter Try.func7, Try.ntmps7
    go_wp2
    go_ret
    exact ⟨rfl, Below.refl _ _⟩
  by_cases h4 : size > 2100
  · go_enter Try.func7, Try.ntmps7
    go_wp2
    go_ret
    exact ⟨rfl, Below.refl _ _⟩
  obtain ⟨N, rfl⟩ : ∃ k : Nat, n = k := ⟨n.toNat, by omega⟩
  obtain ⟨S, rfl⟩ : ∃ k : Nat, size = k := ⟨size.toNat, by omega⟩
  have hN : N ≤ 80 := by omega
  have hS : S ≤ 2100 := by omega
  clear h1 h2 h3 h4
  have h1 : ¬ (N : Int) < 0 := by omega
  have h2 : ¬ (N : Int) > 80 := by omega
  have h3 : ¬ (S : Int) < 0 := by omega
  have h4 : ¬ (S : Int) > 2100 := by omega
  obtain ⟨i8, hi8, hz8, hs8, hb8⟩ := info_parts info8
  obtain ⟨iR, hiR, hzR, hsR, hbR⟩ := info_parts infoR
  by_cases h0 : N = 0
  · subst h0
    clear h1 h2
    have HS := Lib.hid hS
    clear hS hN
    go_enter Try.func7, Try.ntmps7
    go_wp2_with (
                 at_make
                 refine wpList_make_full _ rfl _ _ 22 rfl w.heap.size 24 iR (.slice none 0 0) 1 Try.underlying22 hiR hzR hsR _ _ _ _ 0 rfl rfl rfl rfl ?m1 ?m2 ?m3 ?_
                 case m1 => rw [hbR]; decide
                 case m2 => simp only [maxLen]; decide
                 case m3 => exact Nat.le_refl _
                 intro w1 hown hg1
                 have hB1 : Below w.heap.size w w1 := (Below.refl _ w).grown hg1 (Nat.le_refl _) (fun k hk => by cases hk)
                 have HB1 := Lib.hid hB1
                 clear hown hg1 hB1)
    refine (pack_n _ _ _ [] _ ⟨rfl, by simp, .inl rfl⟩).mono ?_
    rintro e w2 ⟨hok, hno, hb2⟩
    obtain ⟨v, rfl, hown⟩ := hok rfl
    have hl0 : (packW []).length = 1 := by rw [packW_eq]; rfl
    obtain ⟨av, cv, rfl, _, _⟩ := hown.toC (by rw [hl0]; omega)
    rw [hl0]
    have HB2 := Lib.hid (HB1.out.later hb2 (Nat.le_refl _))
    clear hok hno hb2 hown hl0
    go_wp2_with (go_at_call 14; refine (known_rows _).mono ?_; rintro e w9 ⟨rfl, hb9⟩)
    go_ret
    exact ⟨rfl, HB2.out.later hb9 (Nat.le_refl _)⟩
  obtain ⟨m, hm⟩ : ∃ m, N = m + 1 := ⟨N - 1, by omega⟩
  have k1 : (N : Int) > 0 := by omega
  have k0 : ¬ (N : Int) = 0 := by omega
  have kj : ¬ (0 : Int) = (N : Int) := by omega
  have hmN : (m : Int) < (N : Int) := by omega
  have hm0 : ¬ (m : Int) < 0 := by omega
  have e1 : IntKind.i64.wrap ((N : Int) - 1) = (m : Int) := by rw [IntWalk.i64_in _ (by omega)]; omega
  have e2 : RowKit.wrap64 ((N : Int) - 1) = (m : Int) := by rw [IntWalk.wrap64_in _ (by omega)]; omega
  have HS := Lib.hid hS; have HN := Lib.hid hN; have HM := Lib.hid hm
  clear hS hN hm h0
  go_enter Try.func7, Try.ntmps7
  go_wp2_with (first
    | (at_make
       refine wpList_make_full _ rfl _ _ 22 rfl w.heap.size 24 iR (.slice none 0 0) 1 Try.underlying22 hiR hzR hsR _ _ _ _ N rfl rfl rfl rfl ?m1 ?m2 ?m3 ?_
       case m1 => have := HN.out; rw [hbR]; omega
       case m2 => have := HN.out; simp only [maxLen]; omega
       case m3 => exact Nat.le_refl _
       intro w1 hown hg1
       rw [madeR] at hown
       obtain ⟨cs, hb, hcs⟩ := blkv_of_own hown
       have hB1 : Below w.heap.size w w1 := (Below.refl _ w).grown hg1 (Nat.le_refl _) (fun k hk => by cases hk)
       have HB1 := Lib.hid hB1; have HBK := Lib.hid hb; have HCS := Lib.hid hcs
       clear hown hg1 hB1 hb hcs)
    | (at_make
       refine wpList_make_full _ rfl _ _ 24 rfl w1.heap.size 5 i8 (.int .u8 0) 1 Try.underlying24 hi8 hz8 hs8 _ _ _ _ S rfl rfl rfl rfl ?m1 ?m2 ?m3 ?_
       case m1 => have := HS.out; rw [hb8]; omega
       case m2 => have := HS.out; simp only [maxLen]; omega
       case m3 => exact Nat.le_refl _
       intro w2 hown2 hg2
       rw [made8] at hown2
       have hq := blk_of_own hown2
       have hb2 : Below w1.heap.size w1 w2 := (Below.refl _ _).grown hg2 (Nat.le_refl _) (fun k hk => by cases hk)
       have hlt := HBK.out.lt
       have hbk := HBK.out.keep hb2
       have cQ : w2.cell? ⟨w.heap.size, m, none⟩ = some (.slice none 0 0) := by
         rw [hbk.cell, ← Array.getElem?_toList, HCS.out, List.getElem?_replicate, if_pos (by have := HM.out; omega)]
       have fQ := hbk.frozen m
       have HLT := Lib.hid hlt; have HQ := Lib.hid hq; have HBK2 := Lib.hid hbk; have HB2 := Lib.hid (HB1.out.later hb2 (Nat.le_refl _))
       clear hown2 hg2 hq hb2 hlt hbk HBK HB1))
  refine (pack_n _ _ _ (List.replicate m [] ++ [List.replicate S 0]) _ ?hR).mono ?_
  case hR =>
    rw [HM.out]
    exact rowN_full HBK2.out (by rw [← HM.out]; exact HCS.out) HQ.out (by have := HLT.out; omega) (by have := HM.out; have := HN.out; omega) (by have := HS.out; omega)
  rintro e w4 ⟨hok, hno, hb4⟩
  have HB4 : Hid (Below w.heap.size w w4) := Lib.hid ((HB2.out.setCell (Nat.le_refl _) _).later hb4 (Nat.le_refl _))
  obtain ⟨A, B, T, hnums, hT, hTs⟩ := full_nums N m S HM.out HN.out HS.out
  have hlen := packW_rep m S
  rw [okRows_rep] at hok hno
  have hlT : (packW (List.replicate m [] ++ [List.replicate S 0])).length = T := hlen.trans hT.symm
  have hm := HM.out
  have hz : ((N : Int) == 0) = false := by rw [beq_eq_false_iff_ne]; exact k0
  have HNUMS := Lib.hid hnums; have HLT2 := Lib.hid hlT; have HTS := Lib.hid hTs
  clear hnums hT hTs hlen hlT e1 e2 cQ fQ hb4
  by_cases hn60 : N ≤ 60
  · have c1 : (N : Int) ≤ 60 := by omega
    by_cases hs2 : S ≤ 2000
    · have c2 : (S : Int) ≤ 2000 := by omega
      obtain ⟨v, rfl, hown⟩ := hok (by rw [decide_eq_true hs2, decide_eq_true (by omega)]; rfl)
      obtain ⟨av, cv, rfl, _, _⟩ := hown.toC (by rw [HLT2.out]; exact HTS.out)
      rw [HLT2.out]
      clear hok hno hm hn60 hs2 hown
      obtain ⟨a1, a2, a3, b1, b2, b3⟩ := HNUMS.out
      go_wp2_with (go_at_call 14; refine (known_rows _).mono ?_; rintro e w9 ⟨rfl, hb9⟩)
      go_ret
      exact ⟨rfl, HB4.out.later hb9 (Nat.le_refl _)⟩
    · have c2 : ¬ (S : Int) ≤ 2000 := by omega
      obtain rfl := hno (by rw [decide_eq_false hs2, Bool.and_false])
      clear hok hno hm hn60 hs2
      obtain ⟨a1, a2, a3, b1, b2, b3⟩ := HNUMS.out
      go_wp2_with (go_at_call 14; refine (known_rows _).mono ?_; rintro e w9 ⟨rfl, hb9⟩)
      go_ret
      exact ⟨rfl, HB4.out.later hb9 (Nat.le_refl _)⟩
  · have c1 : ¬ (N : Int) ≤ 60 := by omega
    obtain rfl := hno (by rw [decide_eq_false (show ¬ m + 1 ≤ 60 by omega), Bool.false_and])
    clear hok hno hm hn60
    obtain ⟨a1, a2, a3, b1, b2, b3⟩ := HNUMS.out
    go_wp2_with (go_at_call 14; refine (known_rows _).mono ?_; rintro e w9 ⟨rfl, hb9⟩)
    go_ret
    exact ⟨rfl, HB4.out.later hb9 (Nat.le_refl _)⟩
end Go.Proofs.Ytgghkeinkcpboaa
