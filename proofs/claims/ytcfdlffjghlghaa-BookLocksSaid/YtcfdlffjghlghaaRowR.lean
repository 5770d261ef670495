/-
  Slices of rows of bytes. No program is named here.
-/
import Derived.Test.YtcfdlffjghlghaaMem2
namespace Go.Proofs.Ytcfdlffjghlghaa
set_option maxRecDepth 100000
open Go.RowKit

/-- a slice of rows that reads as these -/
structure RowR (w : World) (a : Option Addr) (len : Nat) (L : List (List UInt8)) : Prop where
  len_eq : len = L.length
  small : L.length ≤ maxLen
  cells : L = [] ∨ ∃ b off, a = some ⟨b, off, none⟩ ∧ ∀ (i : Nat) (h : i < L.length), ∃ a' l' c', w.cell? ⟨b, off + i, none⟩ = some (.slice a' l' c') ∧ Row8 w a' l' L[i]
theorem RowR.below {w w' : World} {a : Option Addr} {len : Nat} {L : List (List UInt8)} (h : RowR w a len L) (b : Below w.heap.size w w') : RowR w' a len L := by
  refine ⟨h.len_eq, h.small, ?_⟩
  rcases h.cells with h1 | ⟨c, off, rfl, hc⟩
  · exact .inl h1
  · refine .inr ⟨c, off, rfl, fun i hi => ?_⟩
    obtain ⟨a', l', c', h2, h3⟩ := hc i hi
    exact ⟨a', l', c', (b.cell (block_lt_of_cell h2)).trans h2, h3.below b⟩
theorem Row8.lt {w : World} {a : Option Addr} {len : Nat} {bs : List UInt8} (h : Row8 w a len bs) : ∀ x : Addr, a = some x → bs ≠ [] → x.block < w.heap.size := by
  intro x hx hn
  rcases h.cells with h1 | ⟨b, off, rfl, hc⟩
  · exact absurd h1 hn
  · injection hx with hx
    subst hx
    have h0 : 0 < bs.length := List.length_pos_iff.2 hn
    exact block_lt_of_cell (hc 0 h0)
end Go.Proofs.Ytcfdlffjghlghaa
