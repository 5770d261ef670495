/-
  More of what is said of operations' values in a region whose order is open: slices of bytes and of rows that may be appended. No program is named here.
-/
import Derived.Test.YtcfdlffjghlghaaExt2
import Derived.Test.YtcfdlffjghlghaaOpen
namespace Go.Proofs.Ytcfdlffjghlghaa
set_option maxRecDepth 100000
open Go.RowKit

theorem Arg8.marks {w w' : World} {a : Option Addr} {l c : Nat} {bs : List UInt8} (h : Arg8 w a l c bs) (k : Marks w w') : Arg8 w' a l c bs := ⟨h.row.marks k, h.nil, h.le, h.small⟩
theorem ArgR.marks {w w' : World} {a : Option Addr} {l c : Nat} {L : List (List UInt8)} (h : ArgR w a l c L) (k : Marks w w') : ArgR w' a l c L := by
  refine ⟨h.len_eq, h.nil, h.le, h.small, ?_⟩
  rcases h.cells with h1 | ⟨c, off, rfl, hc⟩
  · exact .inl h1
  · refine .inr ⟨c, off, rfl, fun i hi => ?_⟩
    obtain ⟨a', l', c', h2, h3⟩ := hc i hi
    exact ⟨a', l', c', k.cell h2, h3.marks k⟩
theorem ArgR.two {w : World} {e : TypeId} {a a2 : Option Addr} {l c l2 c2 : Nat} {bs bs2 : List UInt8} (h : Arg8 w a l c bs) (h2 : Arg8 w a2 l2 c2 bs2) :
    ArgR (w.alloc (.cells #[.slice a l c, .slice a2 l2 c2] e)) (some ⟨w.heap.size, 0, none⟩) 2 2 [bs, bs2] := by
  refine ⟨rfl, (fun e => by cases e), Nat.le_refl _, by simp, .inr ⟨w.heap.size, 0, rfl, fun i hi => ?_⟩⟩
  have hb := Below.alloc (Below.refl w.heap.size w) (Nat.le_refl _) (.cells #[.slice a l c, .slice a2 l2 c2] e)
  rw [Nat.zero_add, cell_of_row _ _ i _ _ _ (Blk.new w _ e)]
  match i, hi with
  | 0, _ => exact ⟨a, l, c, rfl, h.below hb⟩
  | 1, _ => exact ⟨a2, l2, c2, rfl, h2.below hb⟩
  | n + 2, hi => exact absurd hi (by simp)

theorem ArgR.three {w : World} {e : TypeId} {a a2 a3 : Option Addr} {l c l2 c2 l3 c3 : Nat} {bs bs2 bs3 : List UInt8} (h : Arg8 w a l c bs) (h2 : Arg8 w a2 l2 c2 bs2) (h3 : Arg8 w a3 l3 c3 bs3) :
    ArgR (w.alloc (.cells #[.slice a l c, .slice a2 l2 c2, .slice a3 l3 c3] e)) (some ⟨w.heap.size, 0, none⟩) 3 3 [bs, bs2, bs3] := by
  refine ⟨rfl, (fun e => by cases e), Nat.le_refl _, by simp, .inr ⟨w.heap.size, 0, rfl, fun i hi => ?_⟩⟩
  have hb := Below.alloc (Below.refl w.heap.size w) (Nat.le_refl _) (.cells #[.slice a l c, .slice a2 l2 c2, .slice a3 l3 c3] e)
  rw [Nat.zero_add, cell_of_row _ _ i _ _ _ (Blk.new w _ e)]
  match i, hi with
  | 0, _ => exact ⟨a, l, c, rfl, h.below hb⟩
  | 1, _ => exact ⟨a2, l2, c2, rfl, h2.below hb⟩
  | 2, _ => exact ⟨a3, l3, c3, rfl, h3.below hb⟩
  | n + 3, hi => exact absurd hi (by simp)
/-- a block of bytes, as an argument -/
theorem Arg8.ofBlk {w : World} {g n : Nat} {bs : List UInt8} {t : TypeId} (h : Blk w g (HC bs) t) (hn : n = bs.length) (hs : bs.length ≤ 1000) : Arg8 w (some ⟨g, 0, none⟩) n n bs :=
  ⟨⟨hn, by simp only [maxLen]; omega, .inr ⟨g, 0, rfl, fun i hi => by rw [Nat.zero_add]; exact (h.cell i).trans (HC_get_lt bs i hi)⟩⟩, (fun e => by cases e), Nat.le_refl _, by omega⟩

/-- operation i's value is a slice of rows, that has no spare below nil -/
def argsV (i n : Nat) (L : List (List UInt8)) : (Nat → Value) → World → Prop := fun vals w => ∃ g, vals i = .slice (some ⟨g, 0, none⟩) n n ∧ ArgR w (some ⟨g, 0, none⟩) n n L
/-- .. is a slice of bytes -/
def bytesV (i : Nat) (bs : List UInt8) : (Nat → Value) → World → Prop := fun vals w => ∃ a c, vals i = .slice a bs.length c ∧ Row8 w a bs.length bs ∧ (a = none → c = 0)
theorem st_args (i n : Nat) (L : List (List UInt8)) : StM (argsV i n L) := fun _ _ _ hb ⟨g, h1, h2⟩ => ⟨g, h1, h2.marks hb⟩
theorem st_bytes (i : Nat) (bs : List UInt8) : StM (bytesV i bs) := fun _ _ _ hb ⟨a, c, h1, h2, h3⟩ => ⟨a, c, h1, h2.marks hb, h3⟩
theorem sel_args {ks : List Nat} {vals : Nat → Value} {i n : Nat} {L : List (List UInt8)} {w : World} (h : ks.contains i = true) : argsV i n L (sel ks vals) w ↔ argsV i n L vals w := by
  unfold argsV sel; rw [if_pos h]
theorem sel_bytes {ks : List Nat} {vals : Nat → Value} {i : Nat} {bs : List UInt8} {w : World} (h : ks.contains i = true) : bytesV i bs (sel ks vals) w ↔ bytesV i bs vals w := by
  unfold bytesV sel; rw [if_pos h]
theorem mk_args {x : Value} {i n : Nat} {ks : List Nat} {L : List (List UInt8)} {vals : Nat → Value} {w : World} (g : Nat) (h : x = .slice (some ⟨g, 0, none⟩) n n) (hb : ArgR w (some ⟨g, 0, none⟩) n n L) : argsV i n L (sel (i :: ks) fun j => if j = i then x else vals j) w :=
  ⟨g, sel_own.trans h, hb⟩
theorem mk_bytes {x : Value} {i : Nat} {ks : List Nat} {bs : List UInt8} {vals : Nat → Value} {w : World} (a : Option Addr) (c : Nat) (h : x = .slice a bs.length c) (hb : Row8 w a bs.length bs) (hn : a = none → c = 0) : bytesV i bs (sel (i :: ks) fun j => if j = i then x else vals j) w :=
  ⟨a, c, sel_own.trans h, hb, hn⟩
theorem lit_mark (w : World) (bs : List UInt8) (cs : Array Value) (hcs : cs = HC bs) (t : TypeId) (n : Nat) :
    Below w.heap.size w ((w.alloc (.cells cs t)).freeze ⟨w.heap.size, n, none⟩ 1) ∧ ∃ fr, ((w.alloc (.cells cs t)).freeze ⟨w.heap.size, n, none⟩ 1).heap[w.heap.size]? = some (.cells (HC bs) t fr) := by
  subst hcs
  have h := Grows.freeze (B := w.heap.size) (w.alloc (.cells (HC bs) t)) w.heap.size n 1 (Nat.le_refl _)
  exact ⟨((Below.refl _ w).next (Nat.le_refl _) _).trans h.below, h.marks _ _ _ _ (Blk.new w (HC bs) t)⟩
theorem Arg8.ofCells {w : World} {g n : Nat} {bs : List UInt8} {t : TypeId} {fr : Nat × Nat} (h : w.heap[g]? = some (.cells (HC bs) t fr)) (hn : n = bs.length) (hs : bs.length ≤ 1000) : Arg8 w (some ⟨g, 0, none⟩) n n bs :=
  ⟨Row8.ofCells h hn (by simp only [maxLen]; omega), (fun e => by cases e), Nat.le_refl _, by omega⟩
end Go.Proofs.Ytcfdlffjghlghaa
