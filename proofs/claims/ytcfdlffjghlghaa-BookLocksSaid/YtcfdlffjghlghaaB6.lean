/-
  Books: the region that lays a new line, in whatever order.
-/
import Derived.Test.YtcfdlffjghlghaaB5
namespace Go.Proofs.Ytcfdlffjghlghaa
set_option maxRecDepth 100000
open Go.RowKit
set_option linter.unusedVariables false
set_option linter.unusedSimpArgs false

/-- what the operations come to that only reckon -/
def cstB (r : Nat) (V : Value) (e : Int) (p : List UInt8) : Nat → Option Value
  | 0 => some (.pointer (some ⟨r, 0, none⟩))
  | 1 => some (.pointer (some ⟨r, 0, none⟩))
  | 2 => some (.pointer (some ⟨r, 0, none⟩))
  | 3 => some (.pointer (some ⟨r, 2, none⟩))
  | 4 => some V
  | 5 => some (.int .i64 e)
  | 6 => some (.agg (HC p))
  | 7 => some (.agg (lineC e p))
  | 10 => some (.pointer (some ⟨r, 0, none⟩))
  | 11 => some (.pointer (some ⟨r, 2, none⟩))
  | _ => none
structure JB (w3 : World) (r A0 : Nat) (t : TypeId) (V : Value) (L : List Ln) (s f e : Int) (p : List UInt8) (S : Nat → Bool) (vals : Nat → Value) (w : World) : Prop where
  grown : GrownX (fun k => k = r ∨ V.ownBlock = some k) w3 w
  paper : Blk w A0 (HC p) 30
  val : ∀ k x, S k = true → cstB r V e p k = some x → vals k = x
  x8 : S 8 = true → ∃ g, vals 8 = .slice (some ⟨g, 0, none⟩) 1 1 ∧ Blk w g (lineC e p) 65 ∧ w3.heap.size ≤ g
  old : S 9 = false → w.ownsRow 0 65 33 V L.length (lnC L)
  new : S 9 = true → w.ownsRow 0 65 33 (vals 9) (L.length + 1) (lnC (L ++ [(e, p)])) ∧ ((vals 9).ownBlock = V.ownBlock ∨ ∃ q, (vals 9).ownBlock = some q ∧ w3.heap.size ≤ q)
  blk0 : S 12 = false → Blk w r (BC 1 V s f) t
  blk1 : S 12 = true → Blk w r (BC 1 (vals 9) s f) t
  seq : S 12 = true → S 9 = true
section
variable {w3 : World} {r A0 : Nat} {t : TypeId} {V : Value} {L : List Ln} {s f e : Int} {p : List UInt8} {S : Nat → Bool} {vals : Nat → Value} {w : World}
theorem updV (vals : Nat → Value) (i : Nat) (x : Value) {k : Nat} (h : k ≠ i) : (if k = i then x else vals k) = vals k := if_neg h
theorem JB.pure (h : JB w3 r A0 t V L s f e p S vals w) {i : Nat} {x : Value} (hc : cstB r V e p i = some x) : JB w3 r A0 t V L s f e p (add1 S i) (fun j => if j = i then x else vals j) w := by
  have n8 : 8 ≠ i := by rintro rfl; cases hc
  have n9 : 9 ≠ i := by rintro rfl; cases hc
  have n12 : 12 ≠ i := by rintro rfl; cases hc
  have s8 := add1_other S n8; have s9 := add1_other S n9; have s12 := add1_other S n12
  have v8 := updV vals i x n8; have v9 := updV vals i x n9
  refine ⟨h.grown, h.paper, fun k y hk hy => ?_, fun hk => ?_, fun hk => ?_, fun hk => ?_, fun hk => ?_, fun hk => ?_, fun hk => ?_⟩
  · by_cases e1 : k = i
    · subst e1; rw [hc] at hy; cases hy; exact if_pos rfl
    · rw [add1_other S e1] at hk; rw [updV vals i x e1]; exact h.val k y hk hy
  · rw [s8] at hk; rw [v8]; exact h.x8 hk
  · rw [s9] at hk; exact h.old hk
  · rw [s9] at hk; rw [v9]; exact h.new hk
  · rw [s12] at hk; exact h.blk0 hk
  · rw [s12] at hk; rw [v9]; exact h.blk1 hk
  · rw [s12] at hk; rw [s9]; exact h.seq hk
theorem ownsRow_keep {w w' : World} {v : Value} {n : Nat} {xs : List Value} (h : w.ownsRow 0 65 33 v n xs) (hk : ∀ q, v.ownBlock = some q → q < w.heap.size → w'.heap[q]? = w.heap[q]?) : w'.ownsRow 0 65 33 v n xs := by
  refine ⟨h.1, ?_⟩
  rcases h.2 with h1 | ⟨q, cap, cur, e, h2, h3, h4⟩
  · exact .inl h1
  · exact .inr ⟨q, cap, cur, e, h2, (hk q (by rw [e]; rfl) (Array.getElem?_eq_some_iff.1 h3).1).trans h3, h4⟩
theorem JB.alloc (h : JB w3 r A0 t V L s f e p S vals w) (h9 : S 9 = false) (h12 : S 12 = false) : JB w3 r A0 t V L s f e p (add1 S 8) (fun j => if j = 8 then .slice (some ⟨w.heap.size, 0, none⟩) 1 1 else vals j) (w.alloc (.cells (lineC e p) 65)) := by
  have s9 := add1_other S (show 9 ≠ 8 by decide); have s12 := add1_other S (show 12 ≠ 8 by decide)
  have ka : ∀ q, q < w.heap.size → (w.alloc (.cells (lineC e p) 65)).heap[q]? = w.heap[q]? := fun q hq => Below.heap_alloc _ _ _ hq
  refine ⟨⟨h.grown.os, h.grown.tape, h.grown.output, by rw [size_alloc]; have := h.grown.size; omega, fun k hk hn => (ka k (Nat.lt_of_lt_of_le hk h.grown.size)).trans (h.grown.block k hk hn)⟩, (ka _ h.paper.lt).trans h.paper, fun k y hk hy => ?_, fun _ => ⟨w.heap.size, if_pos rfl, heap_alloc_new _ _, h.grown.size⟩, fun hk => ownsRow_keep (h.old h9) fun q _ hq => ka q hq, fun hk => ?_, fun hk => (ka _ (h.blk0 h12).lt).trans (h.blk0 h12), fun hk => ?_, fun hk => ?_⟩
  · have e1 : k ≠ 8 := by rintro rfl; cases hy
    rw [add1_other S e1] at hk; rw [updV vals 8 _ e1]; exact h.val k y hk hy
  · rw [s9, h9] at hk; cases hk
  · rw [s12, h12] at hk; cases hk
  · rw [s12, h12] at hk; cases hk
theorem JB.app (h : JB w3 r A0 t V L s f e p S vals w) (h9 : S 9 = false) (h12 : S 12 = false) {v' : Value} {w' : World} (hown : w'.ownsRow 0 65 33 v' (L.length + 1) (lnC (L ++ [(e, p)]))) (hg : w.grownBy w' V.ownBlock) (hv : v'.ownBlock = V.ownBlock ∨ v'.ownBlock = some w.heap.size) (h1 : V.ownBlock ≠ some r) (h2 : V.ownBlock ≠ some A0) (h3 : ∀ q, V.ownBlock = some q → q < w3.heap.size) :
    JB w3 r A0 t V L s f e p (add1 S 9) (fun j => if j = 9 then v' else vals j) w' := by
  have s8 := add1_other S (show 8 ≠ 9 by decide); have s12 := add1_other S (show 12 ≠ 9 by decide)
  have ka : ∀ q, q < w.heap.size → V.ownBlock ≠ some q → w'.heap[q]? = w.heap[q]? := fun q hq hn => hg.block q hq (fun e => hn e.symm)
  have hm : ∀ q, V.ownBlock = some q → q < w3.heap.size := h3
  refine ⟨⟨hg.os.trans h.grown.os, hg.tape.trans h.grown.tape, hg.output.trans h.grown.output, Nat.le_trans h.grown.size hg.size, fun k hk hn => (ka k (Nat.lt_of_lt_of_le hk h.grown.size) (fun e => hn (.inr e))).trans (h.grown.block k hk hn)⟩, (ka _ h.paper.lt h2).trans h.paper, fun k y hk hy => ?_, fun hk => ?_, fun hk => ?_, fun _ => ?_, fun hk => (ka _ (h.blk0 h12).lt h1).trans (h.blk0 h12), fun hk => ?_, fun _ => add1_same S 9⟩
  · have e1 : k ≠ 9 := by rintro rfl; cases hy
    rw [add1_other S e1] at hk; rw [updV vals 9 _ e1]; exact h.val k y hk hy
  · rw [s8] at hk
    obtain ⟨g, k1, k2, k3⟩ := h.x8 hk
    refine ⟨g, by rw [updV vals 9 _ (show 8 ≠ 9 by decide)]; exact k1, (ka g k2.lt (fun e => ?_)).trans k2, k3⟩
    have := hm g e; omega
  · rw [add1_same] at hk; cases hk
  · show World.ownsRow w' 0 _ 33 v' _ _ ∧ (v'.ownBlock = V.ownBlock ∨ _)
    refine ⟨hown, hv.imp id fun e => ⟨_, e, h.grown.size⟩⟩
  · rw [s12, h12] at hk; cases hk
theorem JB.store (h : JB w3 r A0 t V L s f e p S vals w) (h9 : S 9 = true) (h12 : S 12 = false) (hA : A0 ≠ r) (hr : r < w3.heap.size) (h1 : V.ownBlock ≠ some r) (x : Value) : JB w3 r A0 t V L s f e p (add1 S 12) (fun j => if j = 12 then x else vals j) (w.setCell ⟨r, 2, none⟩ (vals 9)) := by
  have s8 := add1_other S (show 8 ≠ 12 by decide); have s9 := add1_other S (show 9 ≠ 12 by decide)
  have v8 := updV vals 12 x (show 8 ≠ 12 by decide); have v9 := updV vals 12 x (show 9 ≠ 12 by decide)
  have ka : ∀ q, q ≠ r → (w.setCell ⟨r, 2, none⟩ (vals 9)).heap[q]? = w.heap[q]? := fun q hq => heap_setCell_other w ⟨r, 2, none⟩ q _ hq
  have hs : (w.setCell ⟨r, 2, none⟩ (vals 9)).heap.size = w.heap.size := by simp [World.setCell]
  have hb : Blk (w.setCell ⟨r, 2, none⟩ (vals 9)) r (BC 1 (vals 9) s f) t := ((h.blk0 h12).set 2 _).copy rfl
  obtain ⟨n1, n2⟩ := h.new h9
  have hnr : ∀ q, (vals 9).ownBlock = some q → q ≠ r := fun q hq e1 => by
    subst e1
    rcases n2 with n2 | ⟨q', n2, n3⟩
    · rw [n2] at hq; exact h1 hq
    · rw [n2] at hq; cases hq; omega
  refine ⟨⟨h.grown.os, h.grown.tape, h.grown.output, by rw [hs]; exact h.grown.size, fun k hk hn => (ka k (fun e => hn (.inl e))).trans (h.grown.block k hk hn)⟩, (ka _ hA).trans h.paper, fun k y hk hy => ?_, fun hk => ?_, fun hk => ?_, fun _ => ?_, fun hk => ?_, fun _ => by rw [v9]; exact hb, fun _ => by rw [s9]; exact h9⟩
  · have e1 : k ≠ 12 := by rintro rfl; cases hy
    rw [add1_other S e1] at hk; rw [updV vals 12 _ e1]; exact h.val k y hk hy
  · rw [s8] at hk
    obtain ⟨g, k1, k2, k3⟩ := h.x8 hk
    exact ⟨g, by rw [v8]; exact k1, (ka g (by omega)).trans k2, k3⟩
  · rw [s9, h9] at hk; cases hk
  · rw [v9]
    exact ⟨ownsRow_keep n1 fun q hq _ => ka q (hnr q hq), n2⟩
  · rw [add1_same] at hk; cases hk
end
end Go.Proofs.Ytcfdlffjghlghaa
