/-
  Facts in a region that writes that hold from one operation to another. No program is named here.
-/
import Derived.Test.YtgghkeinkcpboaaMuts2
import Derived.Test.YtgghkeinkcpboaaExt3
namespace Go.Proofs.Ytgghkeinkcpboaa
set_option maxRecDepth 100000
open Go.RowKit
set_option linter.unusedVariables false

/-- what stays where memory only grows -/
def BM (φ : Value → World → Prop) : Prop := ∀ v w w', Below w.heap.size w w' → φ v w → φ v w'
/-- operation k's value is so from k on till m -/
def tmpF (k m : Nat) (φ : Value → World → Prop) (S : Nat → Bool) (vals : Nat → Value) (w : World) : Prop := S k = true → S m = false → φ (vals k) w
theorem tmpF.start (k m : Nat) (φ : Value → World → Prop) (vals : Nat → Value) (w : World) : tmpF k m φ (fun _ => false) vals w := fun h => Bool.noConfusion h
theorem tmpF.keep {k m : Nat} {φ : Value → World → Prop} {S : Nat → Bool} {vals : Nat → Value} {w w' : World} (h : tmpF k m φ S vals w) (hφ : BM φ) (v : Value) (i : Nat) (hk : k ≠ i) (hm : m ≠ i) (hb : Below w.heap.size w w') : tmpF k m φ (add1 S i) (fun j => if j = i then v else vals j) w' := by
  intro h1 h2
  rw [add1_other S hk] at h1
  rw [add1_other S hm] at h2
  show φ (if k = i then v else vals k) w'
  rw [if_neg hk]
  exact hφ _ _ _ hb (h h1 h2)
theorem tmpF.new {k m : Nat} {φ : Value → World → Prop} {S : Nat → Bool} {vals : Nat → Value} {w' : World} {v : Value} (h : φ v w') : tmpF k m φ (add1 S k) (fun j => if j = k then v else vals j) w' := fun _ _ => by
  show φ (if k = k then v else vals k) w'
  rw [if_pos rfl]; exact h
theorem tmpF.done {k m : Nat} {φ : Value → World → Prop} {S : Nat → Bool} {vals : Nat → Value} {w' : World} (v : Value) : tmpF k m φ (add1 S m) (fun j => if j = m then v else vals j) w' := fun _ h => by rw [add1_same] at h; cases h
theorem tmpF.get {k m : Nat} {φ : Value → World → Prop} {S : Nat → Bool} {vals : Nat → Value} {w : World} (h : tmpF k m φ S vals w) (hS : S k = true) (hm : S m = false) : φ (vals k) w := h hS hm
/-- operation k's value is so from k on -/
def hasF (k : Nat) (φ : Value → World → Prop) (S : Nat → Bool) (vals : Nat → Value) (w : World) : Prop := S k = true → φ (vals k) w
theorem hasF.start (k : Nat) (φ : Value → World → Prop) (vals : Nat → Value) (w : World) : hasF k φ (fun _ => false) vals w := fun h => Bool.noConfusion h
theorem hasF.keep {k : Nat} {φ : Value → World → Prop} {S : Nat → Bool} {vals : Nat → Value} {w w' : World} (h : hasF k φ S vals w) (hφ : BM φ) (v : Value) (i : Nat) (hk : k ≠ i) (hb : Below w.heap.size w w') : hasF k φ (add1 S i) (fun j => if j = i then v else vals j) w' := by
  intro h1
  rw [add1_other S hk] at h1
  show φ (if k = i then v else vals k) w'
  rw [if_neg hk]
  exact hφ _ _ _ hb (h h1)
theorem hasF.via {k : Nat} {φ : Value → World → Prop} {S : Nat → Bool} {vals : Nat → Value} {w w' : World} (h : hasF k φ S vals w) (v : Value) (i : Nat) (hk : k ≠ i) (hφ : ∀ u, φ u w → φ u w') : hasF k φ (add1 S i) (fun j => if j = i then v else vals j) w' := by
  intro h1
  rw [add1_other S hk] at h1
  show φ (if k = i then v else vals k) w'
  rw [if_neg hk]
  exact hφ _ (h h1)
theorem hasF.new {k : Nat} {φ : Value → World → Prop} {S : Nat → Bool} {vals : Nat → Value} {w' : World} {v : Value} (h : φ v w') : hasF k φ (add1 S k) (fun j => if j = k then v else vals j) w' := fun _ => by
  show φ (if k = k then v else vals k) w'
  rw [if_pos rfl]; exact h
theorem hasF.get {k : Nat} {φ : Value → World → Prop} {S : Nat → Bool} {vals : Nat → Value} {w : World} (h : hasF k φ S vals w) (hS : S k = true) : φ (vals k) w := h hS

/-- a slice of rows, as an argument -/
def isArgs (n : Nat) (L : List (List UInt8)) (v : Value) (w : World) : Prop := ∃ a c, v = .slice a n c ∧ ArgR w a n c L
theorem bm_args (n : Nat) (L : List (List UInt8)) : BM (isArgs n L) := fun _ _ _ hb ⟨a, c, h1, h2⟩ => ⟨a, c, h1, h2.below hb⟩
/-- a slice of rows -/
def isRows (n : Nat) (L : List (List UInt8)) (v : Value) (w : World) : Prop := ∃ a c, v = .slice a n c ∧ RowR w a n L
theorem bm_rows (n : Nat) (L : List (List UInt8)) : BM (isRows n L) := fun _ _ _ hb ⟨a, c, h1, h2⟩ => ⟨a, c, h1, h2.below hb⟩
/-- a slice of bytes -/
def isBytes (n : Nat) (bs : List UInt8) (v : Value) (w : World) : Prop := ∃ a c, v = .slice a n c ∧ Row8 w a n bs ∧ (a = none → c = 0)
theorem bm_bytes (n : Nat) (bs : List UInt8) : BM (isBytes n bs) := fun _ _ _ hb ⟨a, c, h1, h2, h3⟩ => ⟨a, c, h1, h2.below hb, h3⟩
/-- bytes of one's own -/
def isOwn (B : Nat) (e : TypeId) (bs : List UInt8) (v : Value) (w : World) : Prop := Own8 w B e v bs
theorem bm_own (B : Nat) (e : TypeId) (bs : List UInt8) : BM (isOwn B e bs) := fun _ _ _ hb h => Own8.below h hb
/-- a whole block of bytes -/
def isBlk (B : Nat) (t : TypeId) (n : Nat) (bs : List UInt8) (v : Value) (w : World) : Prop := ∃ g, v = .slice (some ⟨g, 0, none⟩) n n ∧ B ≤ g ∧ Blk w g (HC bs) t
theorem bm_blk (B : Nat) (t : TypeId) (n : Nat) (bs : List UInt8) : BM (isBlk B t n bs) := fun _ _ _ hb ⟨g, h1, h2, h3⟩ => ⟨g, h1, h2, h3.keep hb⟩
/-- a fixed value -/
def isVal (u : Value) (v : Value) (_ : World) : Prop := v = u
theorem bm_val (u : Value) : BM (isVal u) := fun _ _ _ _ h => h
theorem Own8.apart {w : World} {B Z : Nat} {e : TypeId} {v : Value} {bs : List UInt8} (h : Own8 w B e v bs) (hZ : Z < B) : v.ownBlock = none ∨ v.ownBlock ≠ some Z :=
  .inr fun hv => by have := (World.ownsRow.lt h Z hv).1; omega
theorem Own8.base {w : World} {B B' : Nat} {e : TypeId} {v : Value} {bs : List UInt8} (h : Own8 w B e v bs) (hB : B' ≤ B) : Own8 w B' e v bs :=
  ⟨h.1, h.2.imp id fun ⟨g, cap, cur, h1, h2, h3⟩ => ⟨g, cap, cur, h1, Nat.le_trans hB h2, h3⟩⟩
end Go.Proofs.Ytgghkeinkcpboaa
