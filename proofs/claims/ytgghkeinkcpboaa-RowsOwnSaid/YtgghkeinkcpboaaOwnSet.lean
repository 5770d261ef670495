/-
  Bytes of one's own: written at a place. No program is named here.
-/
import Derived.Test.YtgghkeinkcpboaaRowC
import Derived.Test.YtgghkeinkcpboaaNums
import Derived.Laws.OwnMore
namespace Go.Proofs.Ytgghkeinkcpboaa
set_option maxRecDepth 100000
open Go.RowKit
set_option linter.unusedVariables false
set_option linter.unusedSimpArgs false
theorem Own8.set {w : World} {B g n cap i : Nat} {e : TypeId} {bs : List UInt8} (h : Own8 w B e (.slice (some ⟨g, 0, none⟩) n cap) bs) (hn : n = bs.length) (b : UInt8) : Own8 (w.setCell ⟨g, i, none⟩ (.int .u8 (Bt b))) B e (.slice (some ⟨g, 0, none⟩) n cap) (bs.set i b) := by
  subst hn
  have h1 := (World.ownsRow.stored h i (.int .u8 (Bt b))).1
  unfold Own8
  rw [List.length_set, show HL (bs.set i b) = (HL bs).set i (.int .u8 (Bt b)) by simp [HL, List.map_set]]
  exact h1
theorem Own8.ofBlkAny {w : World} {B g n cap : Nat} {e : TypeId} {bs : List UInt8} (h : Own8 w B e (.slice (some ⟨g, 0, none⟩) n cap) bs) : ∃ cur, Blk w g cur e := by
  rcases h.2 with ⟨h1, _⟩ | ⟨g', cap', cur, h1, _, h2, _⟩
  · cases h1
  · injection h1 with h1 _ _; injection h1 with h1; injection h1 with h1; subst h1; exact ⟨cur, h2⟩
end Go.Proofs.Ytgghkeinkcpboaa
