/-
  make([]byte, n). No program is named here.
-/
import Derived.Test.YtgghkeinkcpboaaOwn
import Derived.Test.YtgghkeinkcpboaaMem2
namespace Go.Proofs.Ytgghkeinkcpboaa
set_option maxRecDepth 100000
open Go.RowKit
set_option linter.unusedVariables false
set_option linter.unusedSimpArgs false

theorem made8 (n : Nat) : (madeCells (Value.int .u8 0).cells (n * 1)).toList = HL (List.replicate n 0) := by
  refine List.ext_getElem? fun i => ?_
  simp [madeCells, HL, Value.cells, List.getElem?_replicate]
  by_cases h : i < n
  · simp [h, Bt, Nat.mod_one]
  · simp [h]
theorem blk_of_own {w : World} {base g n : Nat} {e : TypeId} {bs : List UInt8} (h : w.ownsRow base e 1 (.slice (some ⟨g, 0, none⟩) n n) n (HL bs)) : Blk w g (HC bs) e := by
  rcases h.2 with ⟨h1, _⟩ | ⟨g', cap, cur, h1, _, h2, h3, _, h4, h5⟩
  · cases h1
  · injection h1 with h1 _ h6
    injection h1 with h1
    injection h1 with h1
    subst h1; subst h6
    have : cur = HC bs := by
      apply Array.toList_inj.1
      rw [HC_toList, ← h5, List.take_of_length_le (by simp [h4])]
    rw [← this]; exact h2
theorem mod8B (x : Int) : x % 256 = Bt (UInt8.ofNat (x % 256).toNat) := by
  unfold Bt
  rw [UInt8.toNat_ofNat']
  omega
end Go.Proofs.Ytgghkeinkcpboaa
