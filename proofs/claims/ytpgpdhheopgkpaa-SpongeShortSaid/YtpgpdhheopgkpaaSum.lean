/-
  The walks of sponge.Sum and sponge.Derive.
-/
import Derived.Test.YtpgpdhheopgkpaaEnd2
namespace Go.Proofs.Ytpgpdhheopgkpaa
open Go.RowKit

/-- a slice of rows that reads as these -/
structure RowR (w : World) (a : Option Addr) (len : Nat) (L : List (List UInt8)) : Prop where
  len_eq : len = L.length
  small : L.length ≤ maxLen
  cells : L = [] ∨ ∃ b off, a = some ⟨b, off, none⟩ ∧ ∀ (i : Nat) (h : i < L.length), ∃ a' l' c', w.cell? ⟨b, off + i, none⟩ = some (.slice a' l' c') ∧ Row8 w a' l' L[i]
theorem RowR.below {w w' : World} {a : Option Addr} {len : Nat} {L : List (List UInt8)} (h : RowR w a len L) (b : Below w.heap.size w w') : RowR w' a len L := by
  refine ⟨h.len_eq, h.small, ?_⟩
  rcases h.cells with h1 | ⟨c, off, rfl, hc⟩
  · exact .inl h1
  · refine .inr ⟨c, off, rfl, fun i hi => ?_⟩
    obtain ⟨a', l', c', h2, h3⟩ := hc i hi
    exact ⟨a', l', c', (b.cell (block_lt_of_cell h2)).trans h2, h3.below b⟩
theorem Row8.lt {w : World} {a : Option Addr} {len : Nat} {bs : List UInt8} (h : Row8 w a len bs) : ∀ x : Addr, a = some x → bs ≠ [] → x.block < w.heap.size := by
  intro x hx hn
  rcases h.cells with h1 | ⟨b, off, rfl, hc⟩
  · exact absurd h1 hn
  · injection hx with hx
    subst hx
    have h0 : 0 < bs.length := List.length_pos_iff.2 hn
    exact block_lt_of_cell (hc 0 h0)

set_option maxRecDepth 100000 in
set_option maxHeartbeats 2000000 in
theorem sum_any (a : Option Addr) (len cap : Nat) (L : List (List UInt8)) (w : World) (hp : RowR w a len L) :
    Calls Try.prog 15 #[.slice a len cap] w fun e w' => e = .returned (HV (sumW L.flatten)) ∧ Below w.heap.size w w' := by
  have hlen := hp.len_eq
  have hsm := hp.small
  unfold maxLen at hsm
  subst hlen
  have HP := Lib.hid hp
  clear hp
  go_enter Try.func15, Try.ntmps15
  go_wp2_with fail
  refine (begin_any _).mono ?_
  rintro e w1 ⟨rfl, b1⟩
  have hR1 := ((Blk.newAt (w := w) (g := w.heap.size) _ 29 rfl).copy (cs' := HC (List.replicate 32 0)) (by rfl)).keep b1
  have hB1 := ((Below.refl w.heap.size w).alloc (Nat.le_refl _) _).lift b1 (by simp)
  have hs1 : w.heap.size + 1 ≤ w1.heap.size := by have := b1.size; rw [size_alloc] at this; exact this
  have HR1 := Lib.hid hR1; have HB1 := Lib.hid hB1
  clear hR1 hB1 b1
  go_wp2_with fail
  refine wp_gen (fun w2 hw2 => ?_)
  have hX2 : Blk w2 w1.heap.size (C6 (takes beginW (L.take 0).flatten)) 46 := by rw [hw2]; exact Blk.new _ _ _
  have hR2 : Blk w2 w.heap.size (HC (List.replicate 32 0)) 29 := by rw [hw2]; exact HR1.out.alloc _
  have hB2 : Below w.heap.size w w2 := by rw [hw2]; exact HB1.out.alloc (by omega) _
  clear hw2 HR1 HB1
  generalize hg : w1.heap.size = g at *
  clear hg
  have HX2 := Lib.hid hX2; have HR2 := Lib.hid hR2; have HB2 := Lib.hid hB2
  clear hX2 hR2 hB2
  go_loopw [5, 9] (fun _ i wr => ∃ k : Nat, k ≤ L.length ∧ i = .int .i64 k ∧ Blk wr g (C6 (takes beginW (L.take k).flatten)) 46 ∧ Blk wr w.heap.size (HC (List.replicate 32 0)) 29 ∧ Below w.heap.size w wr) (fun _ i _ => L.length - (intOf i).toNat)
  case atStart => exact ⟨0, Nat.zero_le _, rfl, HX2.out, HR2.out, HB2.out⟩
  case round =>
    obtain ⟨k, hk, rfl, hX, hR, hB⟩ := hrel
    clear HX2 HR2 HB2
    have hat := takes_at (L.take k).flatten beginW (by decide)
    by_cases hlt : k < L.length
    · obtain ⟨b, off, rfl, a', l', c', hcell, hrow⟩ : ∃ b off, a = some ⟨b, off, none⟩ ∧ ∃ a' l' c', wr.cell? ⟨b, off + k, none⟩ = some (.slice a' l' c') ∧ Row8 w a' l' L[k] := by
        rcases HP.out.cells with h1 | ⟨b, off, rfl, hc⟩
        · simp [h1] at hlt
        · obtain ⟨a', l', c', h2, h3⟩ := hc k hlt
          exact ⟨b, off, rfl, a', l', c', (hB.cell (block_lt_of_cell h2)).trans h2, h3⟩
      have hlr := hrow.lt
      have hrow2 := hrow.below hB
      have HX := Lib.hid hX; have HR := Lib.hid hR; have HB := Lib.hid hB
      have HL := Lib.hid hlr; have HW := Lib.hid hrow2; have HA := Lib.hid hat
      clear hX hR hB hrow hlr hrow2 hat
      go_wp2_with fail
      refine (take_any g _ a' l' c' L[k] _ HX.out HA.out HW.out (fun x hx hn => by have := HL.out x hx hn; omega)).mono ?_
      rintro e w3 ⟨rfl, hX3, hG3⟩
      have hs3 : w.heap.size < wr.heap.size := HR.out.lt
      have hR3 := HR.out.grown hG3 (by omega)
      have hB3 := below_grown HB.out hG3 (by omega) (by omega)
      have HX3 := Lib.hid hX3; have HR3 := Lib.hid hR3; have HB3 := Lib.hid hB3
      clear hX3 hR3 hB3 hG3 HX HR HB HL HW HA
      go_wp2
      go_roundw
      case rel =>
        refine ⟨k + 1, by omega, by go_num, ?_, HR3.out, HB3.out⟩
        rw [List.take_succ_eq_append_getElem hlt, List.flatten_append, takes_append]
        simpa using HX3.out
      case measure => simp [intOf]; omega
    · have HX := Lib.hid hX; have HR := Lib.hid hR; have HB := Lib.hid hB; have HA := Lib.hid hat
      have hs3 : w.heap.size < wr.heap.size := hR.lt
      clear hX hR hB hat
      go_wp2_with fail
      refine (end_any g _ _ HX.out HA.out).mono ?_
      rintro e w3 ⟨rfl, hG3⟩
      have hR3 := HR.out.grown hG3 (by omega)
      have hB3 := below_grown HB.out hG3 (by omega) (by omega)
      rw [List.take_of_length_le (by omega)]
      have hsz : (Try.prog.info? 29).map (·.size) = some (HC (sumW L.flatten)).size := by
        rw [HC_size, sumW_length]; kernel_rfl
      have hsz2 : (HC (List.replicate 32 0)).size = (HC (sumW L.flatten)).size := by rw [HC_size, HC_size, sumW_length]; rfl
      have HR3 := Lib.hid hR3; have HB3 := Lib.hid hB3; have S1 := Lib.hid hsz; have S2 := Lib.hid hsz2
      clear hR3 hB3 hG3 hsz hsz2 HX HR HB HA
      go_wp2_with (refine wpList_store_row rfl 29 _ _ rfl w.heap.size (HC (sumW L.flatten)) rfl rfl 29 (HC (List.replicate 32 0)) HR3.out S1.out S2.out (HC_one _) ?_)
      exact bodyPost_ret (v := HV (sumW L.flatten)) (results_cell_row rfl _ _ w.heap.size _ _ (0, 0) _ rfl (HR3.out.setRow _) Try.underlying29 rfl S1.out) rfl
        ⟨rfl, below_setRow HB3.out _ (Nat.le_refl _)⟩
end Go.Proofs.Ytpgpdhheopgkpaa
