/-
  Whole rows: loaded, stored. No program is named here.
-/
import Derived.Test.YtcfdlffjghlghaaSpWords
namespace Go.Proofs.Ytcfdlffjghlghaa
set_option maxRecDepth 100000
open Go.RowKit

theorem HC_one (l : List UInt8) : (HC l).all (·.oneCell') = true := by
  rw [Array.all_eq_true_iff_forall_mem]
  intro v hv
  simp only [HC, List.mem_toArray, List.mem_map] at hv
  obtain ⟨b, _, rfl⟩ := hv
  rfl
theorem HC_zeros : HC (List.replicate 32 0) = Array.replicate 32 (.int .u8 0) := by rfl
theorem Blk.setRow {w : World} {g : Nat} {cs : Array Value} {t : TypeId} (h : Blk w g cs t) (cs' : Array Value) : Blk (w.setRow g cs') g cs' t := setRow_heap w g cs cs' t _ h
theorem Blk.otherRow {w : World} {g g' : Nat} {cs : Array Value} {t : TypeId} (h : Blk w g cs t) (cs' : Array Value) (hne : g ≠ g') : Blk (w.setRow g' cs') g cs t := (setRow_other w g' g cs' hne).trans h
theorem grown_setRow {a b : World} {r : Option Nat} {g : Nat} (h : a.grownBy b r) (cs : Array Value) (hg : a.heap.size ≤ g ∨ r = some g) : a.grownBy (b.setRow g cs) r :=
  ⟨h.os, h.tape, h.output, by rw [size_setRow]; exact h.size, fun k hk hr => (setRow_other b g k cs (by rcases hg with h1 | h1 <;> (intro e; subst e; first | omega | exact hr h1.symm))).trans (h.block k hk hr)⟩
theorem below_setRow {B : Nat} {a b : World} {g : Nat} (h : Below B a b) (cs : Array Value) (hg : B ≤ g) : Below B a (b.setRow g cs) :=
  h.trans ⟨rfl, rfl, rfl, by rw [size_setRow]; exact Nat.le_refl _, fun k hk => setRow_other b g k cs (by omega)⟩
theorem grown_setNew {a b : World} {r : Option Nat} {g : Nat} (h : a.grownBy b r) (i : Nat) (v : Value) (hg : a.heap.size ≤ g) : a.grownBy (b.setCell ⟨g, i, none⟩ v) r :=
  ⟨h.os, h.tape, h.output, by simp [World.setCell]; exact h.size, fun k hk hr => (heap_setCell_other b ⟨g, i, none⟩ k v (by simp; omega)).trans (h.block k hk hr)⟩
/-- the front of a list, noughts behind it -/
def front (out : List UInt8) (n : Nat) : List UInt8 := out.take n ++ List.replicate (32 - n) 0
theorem front_zero (out : List UInt8) : front out 0 = List.replicate 32 0 := by simp [front]
theorem front_all (out : List UInt8) (h : out.length = 32) : front out 32 = out := by rw [front, List.take_of_length_le (by omega)]; simp
theorem front_length (out : List UInt8) (n : Nat) (h : out.length = 32) (hn : n ≤ 32) : (front out n).length = 32 := by simp [front]; omega
theorem front_set (out : List UInt8) (n : Nat) (h : out.length = 32) (hn : n < 32) (b : UInt8) (hb : out[n]? = some b) : (front out n).set n b = front out (n + 1) := by
  obtain ⟨h1, h2⟩ := List.getElem?_eq_some_iff.1 hb
  subst h2
  have e : List.replicate (32 - n) (0 : UInt8) = 0 :: List.replicate (32 - (n + 1)) 0 := by rw [show 32 - n = (32 - (n + 1)) + 1 by omega]; rfl
  unfold front
  rw [e]
  exact set_front out n (32 - (n + 1)) h1 (by omega) _ (by simp) 0
theorem outs_get (x : W5) (i j : Nat) (hi : i < 4) (hj : j < 8) : (outs x)[8 * i + j]? = some (byteAt (tIter (i + 1) x).a j) := by
  unfold outs
  rw [List.getElem?_map, List.getElem?_range (by omega)]
  show some (outB x (8 * i + j)) = _
  unfold outB
  rw [show (8 * i + j) / 8 = i by omega, show (8 * i + j) % 8 = j by omega]
theorem cell_front {w : World} {g n : Nat} {out : List UInt8} {t : TypeId} (h : Blk w g (HC (front out n)) t) (ho : out.length = 32) (hn : n < 32) : ∃ v, w.cell? ⟨g, n, none⟩ = some v :=
  ⟨_, (h.cell n).trans (HC_get_lt _ n (by rw [front_length _ _ ho (by omega)]; exact hn))⟩
end Go.Proofs.Ytcfdlffjghlghaa
