/-
  Rows as bytes: the walk of the document's Pack, and of what is too much.
-/
import Derived.Test.YtgghkeinkcpboaaPack
import Derived.Test.YtgghkeinkcpboaaMuts2
namespace Go.Proofs.Ytgghkeinkcpboaa
set_option maxRecDepth 100000
open Go.RowKit
set_option linter.unusedVariables false
set_option linter.unusedSimpArgs false

set_option maxHeartbeats 2000000 in
theorem rpack_any (a : Option Addr) (len cap : Nat) (L : List (List UInt8)) (w : World) (hp : ArgR w a len cap L) :
    Calls Try.prog 13 #[.slice a len cap] w fun e w' => (okRows L = true → ∃ v, e = .returned (.tuple #[v, .int .i64 0]) ∧ Own8 w' w.heap.size 5 v (packW L)) ∧ (okRows L = false → e = .returned (.tuple #[.slice none 0 0, .int .i64 1])) ∧ Below w.heap.size w w' := by
  have hlen := hp.len_eq
  have hsm := hp.row.small
  unfold maxLen at hsm
  subst hlen
  by_cases h60 : ¬ L.length ≤ 60
  · have hgt : (L.length : Int) > 60 := by omega
    clear hp
    go_enter Try.func13, Try.ntmps13
    go_wp2
    refine bodyPost_ret (results_tmp2 rfl _ _ _) rfl ?_
    exact ⟨(fun h => by rw [okRows_many h60] at h; cases h), (fun _ => rfl), Below.refl _ _⟩
  have h60 : L.length ≤ 60 := Decidable.not_not.1 h60
  have hx0 : Bt (UInt8.ofNat L.length) = (L.length : Int) := by rw [Bt_ofNat]; omega
  have HX0 := Lib.hid hx0
  clear hx0
  have hle60 : ¬ ((L.length : Int) > 60) := by omega
  have HP := Lib.hid hp
  clear hp
  go_enter Try.func13, Try.ntmps13
  go_wp2
  go_loopw [4, 5] (fun b i wr => ∃ k : Nat, k ≤ L.length ∧ i = .int .i64 k ∧ Own8 wr w.heap.size 5 b (packP L k) ∧ (packP L k).length ≤ 1 + 2002 * k ∧ (∀ (j : Nat) (hj : j < L.length), j < k → L[j].length ≤ 2000) ∧ Below w.heap.size w wr) (fun _ i _ => L.length - (intOf i).toNat)
  case atStart => exact ⟨0, Nat.zero_le _, rfl, by rw [packP_zero]; exact Own8.litAt [UInt8.ofNat L.length] _ (by rw [← HX0.out]; rfl) rfl rfl (Nat.le_refl _) (by simp [maxLen]), by simp [packP_zero], fun j _ hj => absurd hj (Nat.not_lt_zero _), (Below.refl _ _).next (Nat.le_refl _) _⟩
  case round =>
    obtain ⟨k, hk, rfl, hO, hl, hall, hB⟩ := hrel
    by_cases hlt : k < L.length
    · obtain ⟨b, off, rfl, a', l', c', hcell, hcell0, hrow⟩ : ∃ b off, a = some ⟨b, off, none⟩ ∧ ∃ a' l' c', wr.cell? ⟨b, off + k, none⟩ = some (.slice a' l' c') ∧ w.cell? ⟨b, off + k, none⟩ = some (.slice a' l' c') ∧ Arg8 w a' l' c' L[k] := by
        rcases HP.out.cells with h1 | ⟨b, off, rfl, hc⟩
        · simp [h1] at hlt
        · obtain ⟨a', l', c', h2, h3⟩ := hc k hlt
          exact ⟨b, off, rfl, a', l', c', (hB.cell (block_lt_of_cell h2)).trans h2, h2, h3⟩
      have hl' := hrow.row.len_eq
      subst hl'
      by_cases h2000 : L[k].length ≤ 2000
      · have hrowS := hrow
        have hx1 : (L[k].length : Int) / 256 = Bt (UInt8.ofNat (L[k].length / 256)) := by rw [Bt_ofNat]; omega
        have hx2 : (L[k].length : Int) % 256 = Bt (UInt8.ofNat L[k].length) := (Bt_ofNat _).symm
        have hgt : ¬ ((L[k].length : Int) > 2000) := by omega
        have HO := Lib.hid hO; have HB := Lib.hid hB; have HL := Lib.hid hl; have HA := Lib.hid hall
        clear hO hB hrow hl hall
        have hcw : w.cell? ⟨b, off + k, none⟩ = some (.slice a' L[k].length c') := hcell0
        have HE := Lib.hid hcw
        clear hcw hcell0
        go_wp2_with fail
        refine region_muts [5] w.heap.size HB.out.size (fun S vals w' => ownAt w.heap.size 5 15 u4 (packP L k) (packP L k ++ rowHead L[k].length) S vals w' ∧ tmpAt 14 15 2 (rowHead L[k].length) S vals w') [isV 0 u4, isV 1 (.slice (some ⟨b, off, none⟩) L.length cap), isV 2 (.int .i64 k), isV 3 (.pointer (some ⟨b, off + k, none⟩)), isV 4 (.slice a' L[k].length c'), isV 5 (.int .i64 L[k].length), isV 6 (.int .i64 (Bt (UInt8.ofNat (L[k].length / 256)))), isV 7 (.int .u8 (Bt (UInt8.ofNat (L[k].length / 256)))), isV 8 (.slice (some ⟨b, off, none⟩) L.length cap), isV 9 (.int .i64 k), isV 10 (.pointer (some ⟨b, off + k, none⟩)), isV 11 (.slice a' L[k].length c'), isV 12 (.int .i64 L[k].length), isV 13 (.int .u8 (Bt (UInt8.ofNat L[k].length))), anyV, anyV, asV 16 15]
          [[], [], [], [1, 2], [3], [4], [5], [6], [], [], [8, 9], [10], [11], [12], [7, 13], [0, 14], [0, 15]] [some 25, some 26, some 27, some 28, some 29, some 30, some 31, some 32, some 33, some 34, some 35, some 36, some 37, some 38, some 39, some 40, some 4] _ (by kernel_rfl) (by kernel_rfl) (by kernel_rfl) (by kernel_rfl) (by kernel_rfl) rfl ?_ ?_ ?_ ?_
        · repeat (first | exact stT_nil | refine stT_cons (by first | exact stT_is _ _ | exact stT_as _ _ | exact stT_any | exact stT_lit _ _ _ _ _ (by decide) | exact stT_rowOf _ _ _ _ (by decide) (by decide)) ?_)
        · exact ⟨ownAt.start HO.out, tmpAt.start _ _ _ _ _ _⟩
        · intro hgz
          refine ⟨?_, ?_, ?_, ?_, ?_, ?_, ?_, ?_, ?_, ?_, ?_, ?_, ?_, ?_, ?_, ?_, ?_, trivial⟩ <;> intro S vals w1 hb hSi hdn hcl hG hf <;> obtain ⟨hb, hz⟩ := hgz w1 hb <;> simp [leans, factsOf, phi, sel_lit, sel_rowOf, isV, asV, anyV, sel] at hf <;> simp [putD, phi, Act.put]
          · -- 0 move 
            go_wp2
            exact ⟨rfl, rfl, .refl _ _ _, mk_is rfl, ⟨hG.1.keep _ 0 (by decide) (Below.refl _ _), hG.2.keep _ 0 (by decide) (by decide) (Below.refl _ _)⟩⟩
          · -- 1 move 
            go_wp2
            exact ⟨rfl, rfl, .refl _ _ _, mk_is rfl, ⟨hG.1.keep _ 1 (by decide) (Below.refl _ _), hG.2.keep _ 1 (by decide) (by decide) (Below.refl _ _)⟩⟩
          · -- 2 move 
            go_wp2
            exact ⟨rfl, rfl, .refl _ _ _, mk_is rfl, ⟨hG.1.keep _ 2 (by decide) (Below.refl _ _), hG.2.keep _ 2 (by decide) (by decide) (Below.refl _ _)⟩⟩
          · -- 3 indexAddr 
            simp only [hf]; clear hf
            go_wp2
            exact ⟨rfl, rfl, .refl _ _ _, mk_is rfl, ⟨hG.1.keep _ 3 (by decide) (Below.refl _ _), hG.2.keep _ 3 (by decide) (by decide) (Below.refl _ _)⟩⟩
          · -- 4 load 
            simp only [hf]; clear hf
            have c4 := ((HB.out.trans hb.below).cell (block_lt_of_cell HE.out)).trans HE.out
            go_wp2
            exact ⟨rfl, rfl, .refl _ _ _, mk_is rfl, ⟨hG.1.keep _ 4 (by decide) (Below.refl _ _), hG.2.keep _ 4 (by decide) (by decide) (Below.refl _ _)⟩⟩
          · -- 5 call 
            simp only [hf]; clear hf
            go_wp2
            exact ⟨rfl, rfl, .refl _ _ _, mk_is rfl, ⟨hG.1.keep _ 5 (by decide) (Below.refl _ _), hG.2.keep _ 5 (by decide) (by decide) (Below.refl _ _)⟩⟩
          · -- 6 binOp 
            simp only [hf]; clear hf
            go_wp2
            exact ⟨rfl, rfl, .refl _ _ _, mk_is rfl, ⟨hG.1.keep _ 6 (by decide) (Below.refl _ _), hG.2.keep _ 6 (by decide) (by decide) (Below.refl _ _)⟩⟩
          · -- 7 convert 
            simp only [hf]; clear hf
            go_wp2
            exact ⟨rfl, rfl, .refl _ _ _, mk_is rfl, ⟨hG.1.keep _ 7 (by decide) (Below.refl _ _), hG.2.keep _ 7 (by decide) (by decide) (Below.refl _ _)⟩⟩
          · -- 8 move 
            go_wp2
            exact ⟨rfl, rfl, .refl _ _ _, mk_is rfl, ⟨hG.1.keep _ 8 (by decide) (Below.refl _ _), hG.2.keep _ 8 (by decide) (by decide) (Below.refl _ _)⟩⟩
          · -- 9 move 
            go_wp2
            exact ⟨rfl, rfl, .refl _ _ _, mk_is rfl, ⟨hG.1.keep _ 9 (by decide) (Below.refl _ _), hG.2.keep _ 9 (by decide) (by decide) (Below.refl _ _)⟩⟩
          · -- 10 indexAddr 
            simp only [hf]; clear hf
            go_wp2
            exact ⟨rfl, rfl, .refl _ _ _, mk_is rfl, ⟨hG.1.keep _ 10 (by decide) (Below.refl _ _), hG.2.keep _ 10 (by decide) (by decide) (Below.refl _ _)⟩⟩
          · -- 11 load 
            simp only [hf]; clear hf
            have c4 := ((HB.out.trans hb.below).cell (block_lt_of_cell HE.out)).trans HE.out
            go_wp2
            exact ⟨rfl, rfl, .refl _ _ _, mk_is rfl, ⟨hG.1.keep _ 11 (by decide) (Below.refl _ _), hG.2.keep _ 11 (by decide) (by decide) (Below.refl _ _)⟩⟩
          · -- 12 call 
            simp only [hf]; clear hf
            go_wp2
            exact ⟨rfl, rfl, .refl _ _ _, mk_is rfl, ⟨hG.1.keep _ 12 (by decide) (Below.refl _ _), hG.2.keep _ 12 (by decide) (by decide) (Below.refl _ _)⟩⟩
          · -- 13 convert 
            simp only [hf]; clear hf
            go_wp2
            exact ⟨rfl, rfl, .refl _ _ _, mk_is rfl, ⟨hG.1.keep _ 13 (by decide) (Below.refl _ _), hG.2.keep _ 13 (by decide) (by decide) (Below.refl _ _)⟩⟩
          · -- 14 buildSlice
            simp only [hf]; clear hf
            go_wp2
            have hgr : Below w1.heap.size w1 (w1.alloc (.cells (HC (rowHead L[k].length)) 5)) := (Below.refl _ _).next (Nat.le_refl _) _
            exact ⟨rfl, rfl, GrowsT.of hgr hz, mk_any, ⟨hG.1.keep _ 14 (by decide) hgr, tmpAt.new w1.heap.size (Row8.litAt (rowHead L[k].length) _ rfl rfl rfl (by simp [rowHead, maxLen]))⟩⟩
          · -- 15 append
            have hown := hG.1.1 hSi
            obtain ⟨g, hv14, hrw⟩ := hG.2 (hdn 14 (by decide)) hSi
            simp only [hf, hv14]
            refine wpList_append8 rfl (.tmp 25) (.tmp 39) 24 rfl w.heap.size 5 Try.underlying24 info8 u4 (packP L k) rfl hown _ _ _ (rowHead L[k].length) rfl hrw (fun h => by cases h) (by have hl1 := HL.out; simp only [rowHead, List.length_cons, List.length_nil]; omega) hz ?_
            intro v3 w3 hown3 hg3 hb3
            exact ⟨rfl, rfl, GrowsT.append hown (by decide) hg3 hb3, mk_any, ⟨ownAt.mark hown3, tmpAt.done _⟩⟩
          · -- 16 assign 
            go_wp2
            exact ⟨rfl, rfl, .refl _ _ _, mk_as rfl (by decide) (by decide), ⟨hG.1.keep _ 16 (by decide) (Below.refl _ _), hG.2.keep _ 16 (by decide) (by decide) (Below.refl _ _)⟩⟩
        · intro vals w1 hb hG hf; simp [leans, List.range, List.range.loop, factsOf, phi, sel_lit, sel_rowOf, isV, asV, anyV, sel] at hf; simp [putD, List.range, List.range.loop, Act.put, hf]
          have hown := hG.1.2 (by simp)
          have HB3 := Lib.hid (HB.out.trans hb.below)
          have c4 := (HB3.out.cell (block_lt_of_cell HE.out)).trans HE.out
          have HW3 := Lib.hid (hrowS.below HB3.out)
          generalize vals 15 = u at hown ⊢
          have HO3 := Lib.hid hown
          clear hown hG hb hf hcell
          go_wp2_with (at_builtin
                       refine wpList_append8 rfl (.tmp 41) (.tmp 45) 24 rfl w.heap.size 5 Try.underlying24 info8 _ (packP L k ++ rowHead L[k].length) rfl HO3.out _ _ _ L[k] rfl HW3.out.row HW3.out.nil ?d4 HB3.out.size ?_
                       case d4 => have hl1 := HL.out; simp only [rowHead, List.length_append, List.length_cons, List.length_nil]; omega
                       intro v4 w4 hown4 hg4 hb4
                       have HB4 := Lib.hid (HB3.out.trans hb4)
                       have HO4 := Lib.hid hown4
                       clear hown4 hg4 hb4)
          go_roundw
          case rel =>
            refine ⟨k + 1, by omega, by go_num, by rw [packP_succ L k hlt]; exact HO4.out, ?_, ?_, HB4.out⟩
            · rw [packP_succ L k hlt]
              have hl1 := HL.out
              simp only [rowHead, List.length_append, List.length_cons, List.length_nil]
              omega
            · intro j hj hjk
              by_cases hje : j = k
              · subst hje; exact h2000
              · exact HA.out j hj (by omega)
          case measure => simp [intOf]; omega
      · have hgt : (L[k].length : Int) > 2000 := by omega
        have HB := Lib.hid hB
        clear hO hB hl hall hrow
        go_wp2
        refine bodyPost_ret (results_tmp2 rfl _ _ _) rfl ?_
        exact ⟨(fun h => by rw [okRows_long k hlt h2000] at h; cases h), (fun _ => rfl), HB.out⟩
    · have hkl : k = L.length := by omega
      subst hkl
      have hok := okRows_all h60 (fun i hi => hall i hi hi)
      have HO := Lib.hid hO; have HB := Lib.hid hB; have HK := Lib.hid hok
      clear hO hB hl hall hok
      go_wp2
      refine bodyPost_ret (results_tmp2 rfl _ _ _) rfl ?_
      exact ⟨(fun _ => ⟨_, rfl, HO.out⟩), (fun h => by rw [HK.out] at h; cases h), HB.out⟩
theorem long_any (a : Option Addr) (len cap : Nat) (L : List (List UInt8)) (w : World) (hp : ArgR w a len cap L) :
    Calls Try.prog 11 #[.slice a len cap] w fun e w' => ∃ z, e = .returned (.bool z) ∧ w = w' := by
  have hlen := hp.len_eq
  have hsm := hp.row.small
  unfold maxLen at hsm
  subst hlen
  have HP := Lib.hid hp
  clear hp
  go_enter Try.func11, Try.ntmps11
  go_wp2
  go_loopw [3, 4] (fun n i wr => ∃ (k : Nat) (v : Int), k ≤ L.length ∧ i = .int .i64 k ∧ n = .int .i64 v ∧ wr = w) (fun _ i _ => L.length - (intOf i).toNat)
  case atStart => exact ⟨0, 0, Nat.zero_le _, rfl, rfl, rfl⟩
  case round =>
    obtain ⟨k, v, hk, rfl, rfl, rfl⟩ := hrel
    by_cases hlt : k < L.length
    · by_cases hv : v ≤ 9000
      · obtain ⟨b, off, rfl, a', l', c', hcell, hrow⟩ : ∃ b off, a = some ⟨b, off, none⟩ ∧ ∃ a' l' c', wr.cell? ⟨b, off + k, none⟩ = some (.slice a' l' c') ∧ Arg8 wr a' l' c' L[k] := by
          rcases HP.out.cells with h1 | ⟨b, off, rfl, hc⟩
          · simp [h1] at hlt
          · obtain ⟨a', l', c', h2, h3⟩ := hc k hlt
            exact ⟨b, off, rfl, a', l', c', h2, h3⟩
        clear hrow
        go_wp2
        go_roundw
        case rel => exact ⟨k + 1, _, by omega, by go_num, rfl, by first | trivial | rfl⟩
        case measure => simp [intOf]; omega
      · have hv2 : v > 9000 := by omega
        go_wp2
        go_ret
        first | simp | exact .inr rfl | exact .inl rfl
    · by_cases hv : v > 9000
      · go_wp2
        go_ret
        first | simp | exact .inr rfl | exact .inl rfl
      · go_wp2
        go_ret
        first | simp | exact .inr rfl | exact .inl rfl
end Go.Proofs.Ytgghkeinkcpboaa
