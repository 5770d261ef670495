/-
  Rows as bytes: the walk of Pack, the program's.
-/
import Derived.Test.YtgghkeinkcpboaaNum
namespace Go.Proofs.Ytgghkeinkcpboaa
set_option maxRecDepth 100000
open Go.RowKit
set_option linter.unusedVariables false
set_option linter.unusedSimpArgs false

set_option maxHeartbeats 2000000 in
theorem pack_any (a : Option Addr) (len cap : Nat) (L : List (List UInt8)) (w : World) (hp : ArgR w a len cap L) :
    Calls Try.prog 12 #[.slice a len cap] w fun e w' => (okRows L = true → ∃ v, e = .returned (.tuple #[v, .int .i64 0]) ∧ Own8 w' w.heap.size 5 v (packW L)) ∧ (okRows L = false → e = .returned (.tuple #[.slice none 0 0, .int .i64 1])) ∧ Below w.heap.size w w' := by
  have hlen := hp.len_eq
  have hsm := hp.row.small
  unfold maxLen at hsm
  subst hlen
  by_cases h60 : ¬ L.length ≤ 60
  · have hgt : (L.length : Int) > 60 := by omega
    clear hp
    go_enter Try.func12, Try.ntmps12
    go_wp2
    refine bodyPost_ret (results_tmp2 rfl _ _ _) rfl ?_
    exact ⟨(fun h => by rw [okRows_many h60] at h; cases h), (fun _ => rfl), Below.refl _ _⟩
  have h60 : L.length ≤ 60 := Decidable.not_not.1 h60
  have hx0 : Bt (UInt8.ofNat L.length) = (L.length : Int) := by rw [Bt_ofNat]; omega
  have HX0 := Lib.hid hx0
  clear hx0
  have hle60 : ¬ ((L.length : Int) > 60) := by omega
  have HP := Lib.hid hp
  clear hp
  go_enter Try.func12, Try.ntmps12
  go_wp2
  go_loopw [4, 6, 16] (fun b _ i wr => ∃ k : Nat, k ≤ L.length ∧ i = .int .i64 k ∧ Own8 wr w.heap.size 5 b (packP L k) ∧ (packP L k).length ≤ 1 + 2002 * k ∧ (∀ (j : Nat) (hj : j < L.length), j < k → L[j].length ≤ 2000) ∧ Below w.heap.size w wr) (fun _ _ i _ => L.length - (intOf i).toNat)
  case atStart => exact ⟨0, Nat.zero_le _, rfl, by rw [packP_zero]; exact Own8.litAt [UInt8.ofNat L.length] _ (by rw [← HX0.out]; rfl) rfl rfl (Nat.le_refl _) (by simp [maxLen]), by simp [packP_zero], fun j _ hj => absurd hj (Nat.not_lt_zero _), (Below.refl _ _).next (Nat.le_refl _) _⟩
  case round =>
    obtain ⟨k, hk, rfl, hO, hl, hall, hB⟩ := hrel
    by_cases hlt : k < L.length
    · obtain ⟨b, off, rfl, a', l', c', hcell, hrow⟩ : ∃ b off, a = some ⟨b, off, none⟩ ∧ ∃ a' l' c', wr.cell? ⟨b, off + k, none⟩ = some (.slice a' l' c') ∧ Arg8 w a' l' c' L[k] := by
        rcases HP.out.cells with h1 | ⟨b, off, rfl, hc⟩
        · simp [h1] at hlt
        · obtain ⟨a', l', c', h2, h3⟩ := hc k hlt
          exact ⟨b, off, rfl, a', l', c', (hB.cell (block_lt_of_cell h2)).trans h2, h3⟩
      have hl' := hrow.row.len_eq
      subst hl'
      by_cases h2000 : L[k].length ≤ 2000
      · have hrowS := hrow
        have hx1 : (L[k].length : Int) / 256 = Bt (UInt8.ofNat (L[k].length / 256)) := by rw [Bt_ofNat]; omega
        have hx2 : (L[k].length : Int) % 256 = Bt (UInt8.ofNat L[k].length) := (Bt_ofNat _).symm
        have hgt : ¬ ((L[k].length : Int) > 2000) := by omega
        have HO := Lib.hid hO; have HB := Lib.hid hB; have HL := Lib.hid hl; have HA := Lib.hid hall
        clear hO hB hrow hl hall
        go_wp2_with (first
          | (at_builtin
             refine wpList_append8 rfl (.tmp 23) (.tmp 31) 24 rfl w.heap.size 5 Try.underlying24 info8 _ (packP L k) rfl ?c1 _ _ _ (rowHead L[k].length) rfl ?c2 ?c3 ?c4 ?c5 ?_
             case c1 => exact HO.out.below ((Below.refl _ _).next (Nat.le_refl _) _)
             case c2 => exact Row8.litAt (rowHead L[k].length) _ rfl rfl rfl (by simp [rowHead, maxLen])
             case c3 => exact fun h => by cases h
             case c4 => have hl1 := HL.out; simp only [rowHead, List.length_cons, List.length_nil]; omega
             case c5 => exact (HB.out.next (Nat.le_refl _) _).size
             intro v3 w3 hown3 hg3 hb3
             have HB3 := Lib.hid ((HB.out.next (Nat.le_refl _) _).trans hb3)
             have HO3 := Lib.hid hown3
             have HW3 := Lib.hid (hrowS.below HB3.out)
             clear hown3 hg3 hb3)
          | (at_builtin
             refine wpList_append8 rfl (.tmp 33) (.tmp 34) 24 rfl w.heap.size 5 Try.underlying24 info8 _ (packP L k ++ rowHead L[k].length) rfl HO3.out _ _ _ L[k] rfl HW3.out.row HW3.out.nil ?d4 HB3.out.size ?_
             case d4 => have hl1 := HL.out; simp only [rowHead, List.length_append, List.length_cons, List.length_nil]; omega
             intro v4 w4 hown4 hg4 hb4
             have HB4 := Lib.hid (HB3.out.trans hb4)
             have HO4 := Lib.hid hown4
             clear hown4 hg4 hb4))
        go_roundw
        case rel =>
          refine ⟨k + 1, by omega, by go_num, by rw [packP_succ L k hlt]; exact HO4.out, ?_, ?_, HB4.out⟩
          · rw [packP_succ L k hlt]
            have hl1 := HL.out
            simp only [rowHead, List.length_append, List.length_cons, List.length_nil]
            omega
          · intro j hj hjk
            by_cases hje : j = k
            · subst hje; exact h2000
            · exact HA.out j hj (by omega)
        case measure => simp [intOf]; omega
      · have hgt : (L[k].length : Int) > 2000 := by omega
        have HB := Lib.hid hB
        clear hO hB hl hall hrow
        go_wp2
        refine bodyPost_ret (results_tmp2 rfl _ _ _) rfl ?_
        exact ⟨(fun h => by rw [okRows_long k hlt h2000] at h; cases h), (fun _ => rfl), HB.out⟩
    · have hkl : k = L.length := by omega
      subst hkl
      have hok := okRows_all h60 (fun i hi => hall i hi hi)
      have HO := Lib.hid hO; have HB := Lib.hid hB; have HK := Lib.hid hok
      clear hO hB hl hall hok
      go_wp2
      refine bodyPost_ret (results_tmp2 rfl _ _ _) rfl ?_
      exact ⟨(fun _ => ⟨_, rfl, HO.out⟩), (fun h => by rw [HK.out] at h; cases h), HB.out⟩
end Go.Proofs.Ytgghkeinkcpboaa
