/-
  Numbers as eight bytes: the walks of Num, the program's and the document's.
-/
import Derived.Test.YtgghkeinkcpboaaRowMath
import Derived.Test.YtgghkeinkcpboaaStr
namespace Go.Proofs.Ytgghkeinkcpboaa
set_option maxRecDepth 100000
open Go.RowKit
set_option linter.unusedVariables false
set_option linter.unusedSimpArgs false

theorem num_any (n : Int) (w : World) :
    Calls Try.prog 20 #[.int .i64 n] w fun e w' => ∃ Q, e = .returned (.slice (some ⟨Q, 0, none⟩) 8 8) ∧ w.heap.size ≤ Q ∧ Blk w' Q (HC (numB n)) 5 ∧ Below w.heap.size w w' := by
  obtain ⟨i8, hi8, hz8, hs8, hb8⟩ := info_parts info8
  go_enter Try.func20, Try.ntmps20
  go_wp2_with (at_make
               refine wpList_make_full _ rfl _ _ 24 rfl w.heap.size 5 i8 (.int .u8 0) 1 Try.underlying24 hi8 hz8 hs8 _ _ _ _ 8 rfl rfl rfl rfl ?m1 ?m2 ?m3 ?_
               case m1 => rw [hb8]; decide
               case m2 => simp only [maxLen]; decide
               case m3 => exact Nat.le_refl _
               intro w1 hown hg1
               rw [made8] at hown
               have hX1 := blk_of_own hown
               have hB1 : Below w.heap.size w w1 := (Below.refl _ w).grown hg1 (Nat.le_refl _) (fun k hk => by cases hk)
               have HQ1 := Lib.hid hX1; have HB1 := Lib.hid hB1
               clear hown hg1 hX1 hB1)
  go_loopw [4, 8] (fun _ i wr => ∃ k : Nat, k ≤ 8 ∧ i = .int .i64 k ∧ Blk wr w.heap.size (HC (partN n k)) 5 ∧ Below w.heap.size w wr) (fun _ i _ => 8 - (intOf i).toNat)
  case atStart => exact ⟨0, Nat.zero_le _, rfl, by rw [partN_zero]; exact HQ1.out, HB1.out⟩
  case round =>
    obtain ⟨k, hk, rfl, hQ, hB⟩ := hrel
    by_cases hlt : k < 8
    · obtain ⟨vq, cQ⟩ : ∃ v, wr.cell? ⟨w.heap.size, k, none⟩ = some v := ⟨_, (hQ.cell k).trans (HC_get_lt _ k (by rw [partN_length n k hk]; exact hlt))⟩
      have fQ := hQ.frozen k
      have HQ := Lib.hid hQ; have HB := Lib.hid hB
      obtain ⟨hs1, hs2, hs3, hs4⟩ := shift_factsR k (by omega)
      clear hQ hB HQ1 HB1
      go_wp2
      go_roundw
      case rel =>
        refine ⟨k + 1, by omega, by go_num, (HQ.out.set k _).copy ?_, HB.out.setCell (by simp) _⟩
        rw [show n / 2 ^ (56 - 8 * k) % 256 = Bt (lowB n (56 - 8 * k)) from (lowB_eq n (56 - 8 * k)).symm, HC_set, partN_set n k hlt]
      case measure => simp [intOf]; omega
    · have hkl : k = 8 := by omega
      subst hkl
      rw [partN_all] at hQ
      have HQ := Lib.hid hQ; have HB := Lib.hid hB
      clear hQ hB HQ1 HB1
      go_wp2
      go_ret
      exact ⟨w.heap.size, rfl, Nat.le_refl _, HQ.out, HB.out⟩

set_option maxHeartbeats 1000000 in
theorem rnum_any (n : Int) (w : World) :
    Calls Try.prog 21 #[.int .i64 n] w fun e w' => ∃ a c, e = .returned (.slice a 8 c) ∧ Row8 w' a 8 (numB n) ∧ (a = none → c = 0) ∧ Below w.heap.size w w' := by
  go_enter Try.func21, Try.ntmps21
  go_wp2
  go_loopw [3, 4] (fun b i wr => ∃ k : Nat, k ≤ 8 ∧ i = .int .i64 (7 - (k : Int)) ∧ Own8 wr w.heap.size 5 b ((numB n).take k) ∧ Below w.heap.size w wr) (fun _ i _ => (intOf i + 1).toNat)
  case atStart => exact ⟨0, Nat.zero_le _, rfl, World.ownsRow_nil _ _ _ _, Below.refl _ _⟩
  case round =>
    obtain ⟨k, hk, rfl, hO, hB⟩ := hrel
    by_cases hlt : k < 8
    · have hx : n / 2 ^ (56 - 8 * k) % 256 = Bt (lowB n (56 - 8 * k)) := (lowB_eq n (56 - 8 * k)).symm
      have hge : (7 - (k : Int) ≥ 0) := by omega
      have hm1 : IntKind.i64.wrap (8 * (7 - (k : Int))) = 56 - 8 * (k : Int) := by rw [IntWalk.i64_in _ (by omega)]; omega
      have hm2 : IntKind.u64.wrap (56 - 8 * (k : Int)) = 56 - 8 * (k : Int) := IntWalk.u64_in _ (by omega)
      have hm3 : (56 - 8 * (k : Int)).toNat = 56 - 8 * k := by omega
      have hm4 : IntKind.i64.wrap (7 - (k : Int) - 1) = 7 - ((k + 1 : Nat) : Int) := by rw [IntWalk.i64_in _ (by omega)]; omega
      have hge2 : 0 ≤ 56 - 8 * (k : Int) := by omega
      have hle2 : 56 - 8 * k ≤ 64 := by omega
      have HO := Lib.hid hO; have HB := Lib.hid hB
      clear hO hB
      go_wp2_with (at_builtin
                   refine wpList_append8 rfl (.tmp 9) (.tmp 16) 24 rfl w.heap.size 5 Try.underlying24 info8 _ ((numB n).take k) rfl ?c1 _ _ _ [lowB n (56 - 8 * k)] rfl ?c2 ?c3 ?c4 ?c5 ?_
                   case c1 => exact HO.out.below ((Below.refl _ _).next (Nat.le_refl _) _)
                   case c2 => exact Row8.litAt [lowB n (56 - 8 * k)] _ rfl rfl rfl (by simp [maxLen])
                   case c3 => exact fun h => by cases h
                   case c4 => simp [numB_length]; omega
                   case c5 => exact (HB.out.next (Nat.le_refl _) _).size
                   intro v3 w3 hown3 hg3 hb3
                   have HO3 := Lib.hid hown3; have HB3 := Lib.hid ((HB.out.next (Nat.le_refl _) _).trans hb3)
                   clear hown3 hg3 hb3)
      go_roundw
      case rel =>
        refine ⟨k + 1, by omega, by go_num, ?_, HB3.out⟩
        have e : (numB n).take (k + 1) = (numB n).take k ++ [lowB n (56 - 8 * k)] := by
          rw [List.take_add_one, numB_get n k hlt]; rfl
        rw [e]; exact HO3.out
      case measure => simp [intOf]; omega
    · have hkl : k = 8 := by omega
      subst hkl
      rw [List.take_of_length_le (by simp [numB_length])] at hO
      obtain ⟨a', c', rfl, hr, hn⟩ := hO.forms (by simp [numB_length, maxLen])
      have HR := Lib.hid hr; have HB := Lib.hid hB; have HN := Lib.hid hn
      clear hO hB hr hn
      go_wp2
      go_ret
      exact ⟨a', c', rfl, HR.out, HN.out, HB.out⟩
end Go.Proofs.Ytgghkeinkcpboaa
