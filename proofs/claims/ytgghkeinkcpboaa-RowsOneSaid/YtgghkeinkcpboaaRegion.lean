/-
  Laws on a region whose order is open, in forms that the walks use. No program is named here.
-/
import Derived.WalkKit
import Derived.StillTailTactics
import Derived.Lib.QuietBelow
import Derived.Lib.Hide
namespace Go.Proofs.Ytgghkeinkcpboaa
set_option maxRecDepth 100000
open Go.RowKit

/-- reads and quiet calls ahead of one forced tail; the world behind the draw under its own name -/
theorem region_tail {P : Program} {id : Nat} {Q : Exit → Act → World → Prop} {a : Act} {w : World} {l : List Oper} (n : Nat) (hm : P.follows .mixedOrders = true) (hB : Region.lexTailB .any l.toArray n = true)
    (h : wpStill P l.toArray w.drew (fun a' => wpList P l.toArray Q (l.drop n) a' w.drew) (l.take n) a) : (Code.region id l.toArray true).wp P Q a w :=
  wp_region_still_tail n hm hB h

/-- the world under a name of its own -/
theorem wp_gen {P : Program} {c : Code} {Q : Exit → Act → World → Prop} {a : Act} {w : World} (h : ∀ w1, w1 = w → c.wp P Q a w1) : c.wp P Q a w := h w rfl
end Go.Proofs.Ytgghkeinkcpboaa
