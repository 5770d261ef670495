/-
  Slices of rows of bytes, no nil one with spare room: what Join takes.
-/
import Derived.Test.YtpemaphgmfaioaaGreatHSumR
import Derived.Test.YtpemaphgmfaioaaGreatHMut
namespace Go.Proofs.YtpemaphgmfaioaaGreat
set_option maxRecDepth 100000
open Go.RowKit
set_option linter.unusedVariables false
set_option linter.unusedSimpArgs false

set_option maxRecDepth 100000 in
set_option maxHeartbeats 2000000 in
theorem rjoin_n (a : Option Addr) (len cap : Nat) (L : List (List UInt8)) (w : World) (hp : RowN w a len L) (hbound : L.flatten.length ≤ 140737488354000) :
    Calls Tryz.prog 36 #[.slice a len cap] w fun e w' => ∃ v, e = .returned v ∧ Own8 w' w.heap.size 5 v L.flatten ∧ Below w.heap.size w w' := by
  have hlen := hp.len_eq
  have hsm := hp.small
  unfold maxLen at hsm
  subst hlen
  have HP := Lib.hid hp; have HBD := Lib.hid hbound
  clear hp hbound
  go_enter Tryz.func36, Tryz.ntmps36
  go_wp2
  go_loopw [3, 4] (fun b i wr => ∃ k : Nat, k ≤ L.length ∧ i = .int .i64 k ∧ Own8 wr w.heap.size 5 b (L.take k).flatten ∧ Below w.heap.size w wr) (fun _ i _ => L.length - (intOf i).toNat)
  case atStart => exact ⟨0, Nat.zero_le _, rfl, World.ownsRow_nil _ _ _ _, Below.refl _ _⟩
  case round =>
    obtain ⟨k, hk, rfl, hO, hB⟩ := hrel
    by_cases hlt : k < L.length
    · obtain ⟨b, off, rfl, a', l', c', hcell, hrow⟩ : ∃ b off, a = some ⟨b, off, none⟩ ∧ ∃ a' l' c', wr.cell? ⟨b, off + k, none⟩ = some (.slice a' l' c') ∧ RowC w a' l' c' L[k] := by
        rcases HP.out.cells with h1 | ⟨b, off, rfl, hc⟩
        · simp [h1] at hlt
        · obtain ⟨a', l', c', h2, h3⟩ := hc k hlt
          exact ⟨b, off, rfl, a', l', c', (hB.cell (block_lt_of_cell h2)).trans h2, h3⟩
      have hrow2 := hrow.row.below hB
      have hle : (L.take k).flatten.length + L[k].length ≤ 140737488355328 := by
        have h1 := take_flat_le L (k + 1)
        rw [take_flat L k hlt, List.length_append] at h1
        have := HBD.out; omega
      have HO := Lib.hid hO; have HB := Lib.hid hB; have HW := Lib.hid hrow2; have HN := Lib.hid hrow.nil; have HLE := Lib.hid hle
      clear hO hB hrow hrow2 hle
      go_wp2_with (at_builtin
                   refine wpList_append8 rfl (.tmp 11) (.tmp 15) 70 rfl w.heap.size 5 Tryz.underlying70 info8 _ (L.take k).flatten rfl HO.out _ _ _ L[k] rfl HW.out HN.out HLE.out HB.out.size ?_
                   intro v3 w3 hown3 hg3 hb3
                   have HO3 := Lib.hid hown3; have HB3 := Lib.hid hb3
                   clear hown3 hg3 hb3)
      go_roundw
      case rel =>
        refine ⟨k + 1, by omega, by go_num, ?_, HB.out.trans HB3.out⟩
        rw [take_flat L k hlt]; exact HO3.out
      case measure => simp [intOf]; omega
    · rw [List.take_of_length_le (by omega)] at hO
      have HO := Lib.hid hO; have HB := Lib.hid hB
      clear hO hB
      go_wp2
      go_ret
      exact ⟨_, rfl, HO.out, HB.out⟩
end Go.Proofs.YtpemaphgmfaioaaGreat
