/-
  What is said of operations' values in a region whose order is open, where memory only grows. No program is named here.
-/
import Derived.Test.YtcfdlffjghlghaaExt
import Derived.Test.YtcfdlffjghlghaaRowR
namespace Go.Proofs.Ytcfdlffjghlghaa
set_option maxRecDepth 100000
open Go.RowKit

/-- blocks keep their cells (their marks aside) -/
def Marks (w w' : World) : Prop := ∀ (g : Nat) (cs : Array Value) (t : TypeId) (fr : Nat × Nat), w.heap[g]? = some (.cells cs t fr) → ∃ fr', w'.heap[g]? = some (.cells cs t fr')
theorem Marks.refl (w : World) : Marks w w := fun _ _ _ fr h => ⟨fr, h⟩
theorem Marks.trans {a b c : World} (h : Marks a b) (k : Marks b c) : Marks a c := fun g cs t fr hg => by
  obtain ⟨fr', h1⟩ := h g cs t fr hg
  exact k g cs t fr' h1
theorem Marks.below {w w' : World} (h : Below w.heap.size w w') : Marks w w' := fun g _ _ fr hg => ⟨fr, (h.block g (Array.getElem?_eq_some_iff.1 hg).1).trans hg⟩
theorem Marks.cell {w w' : World} (h : Marks w w') {x : Addr} {v : Value} (hx : w.cell? x = some v) : w'.cell? x = some v := by
  unfold World.cell? at *
  cases hb : w.heap[x.block]? with
  | none => rw [hb] at hx; cases hx
  | some o =>
    rw [hb] at hx
    cases o with
    | cells cs t fr =>
      obtain ⟨fr', h1⟩ := h _ _ _ _ hb
      rw [h1]; exact hx
    | _ => cases hx
theorem Row8.marks {w w' : World} {a : Option Addr} {len : Nat} {bs : List UInt8} (h : Row8 w a len bs) (k : Marks w w') : Row8 w' a len bs := h.mono fun _ _ hx _ => k.cell hx
theorem RowR.marks {w w' : World} {a : Option Addr} {len : Nat} {L : List (List UInt8)} (h : RowR w a len L) (k : Marks w w') : RowR w' a len L := by
  refine ⟨h.len_eq, h.small, ?_⟩
  rcases h.cells with h1 | ⟨c, off, rfl, hc⟩
  · exact .inl h1
  · refine .inr ⟨c, off, rfl, fun i hi => ?_⟩
    obtain ⟨a', l', c', h2, h3⟩ := hc i hi
    exact ⟨a', l', c', k.cell h2, h3.marks k⟩

/-- memory grows; what lies below B stays whole, what lies above keeps its cells -/
structure Grows (B : Nat) (w w' : World) : Prop where
  below : Below B w w'
  marks : Marks w w'
theorem Grows.refl (B : Nat) (w : World) : Grows B w w := ⟨Below.refl _ _, Marks.refl _⟩
theorem Grows.trans {B : Nat} {a b c : World} (h : Grows B a b) (k : Grows B b c) : Grows B a c := ⟨h.below.trans k.below, h.marks.trans k.marks⟩
theorem Grows.size {B : Nat} {a b : World} (h : Grows B a b) (hB : B ≤ a.heap.size) : B ≤ b.heap.size := Nat.le_trans hB h.below.size
theorem Grows.of {B : Nat} {w w' : World} (h : Below w.heap.size w w') (hB : B ≤ w.heap.size) : Grows B w w' := ⟨h.mono hB, .below h⟩
theorem Grows.alloc {B : Nat} (w : World) (o : Obj) (hB : B ≤ w.heap.size) : Grows B w (w.alloc o) := .of ((Below.refl _ _).alloc (Nat.le_refl _) _) hB
theorem Grows.freeze {B : Nat} (w : World) (g off n : Nat) (hB : B ≤ g) : Grows B w (w.freeze ⟨g, off, none⟩ n) := by
  unfold World.freeze
  by_cases h0 : n = 0
  · rw [if_pos h0]; exact .refl _ _
  · rw [if_neg h0]
    refine ⟨⟨rfl, rfl, rfl, by simp, fun k hk => ?_⟩, fun k cs t fr hk => ?_⟩
    · have hne : g ≠ k := by omega
      simp [Array.getElem?_modify, hne]
    · by_cases hgk : g = k
      · subst hgk
        refine ⟨if fr.1 == fr.2 then (off, off + n) else (min fr.1 off, max fr.2 (off + n)), ?_⟩
        simp [Array.getElem?_modify, hk]
      · exact ⟨fr, by simp [Array.getElem?_modify, hgk, hk]⟩

/-- operation i's value is v -/
def isV (i : Nat) (v : Value) : (Nat → Value) → World → Prop := fun vals _ => vals i = v
/-- .. is that of operation j -/
def asV (i j : Nat) : (Nat → Value) → World → Prop := fun vals _ => vals i = vals j
/-- .. is a slice of bytes, of so many, over a whole block of the region's own -/
def litV (B i n : Nat) (bs : List UInt8) (t : TypeId) : (Nat → Value) → World → Prop := fun vals w => ∃ g fr, B ≤ g ∧ vals i = .slice (some ⟨g, 0, none⟩) n n ∧ w.heap[g]? = some (.cells (HC bs) t fr)
/-- .. is a slice of bytes, of so many, at the head of a block -/
def rowV (i n : Nat) (bs : List UInt8) : (Nat → Value) → World → Prop := fun vals w => ∃ g c, vals i = .slice (some ⟨g, 0, none⟩) n c ∧ Row8 w (some ⟨g, 0, none⟩) n bs
/-- .. is a slice of rows -/
def rowsV (i n : Nat) (L : List (List UInt8)) : (Nat → Value) → World → Prop := fun vals w => ∃ g c, vals i = .slice (some ⟨g, 0, none⟩) n c ∧ RowR w (some ⟨g, 0, none⟩) n L

def StM (φ : (Nat → Value) → World → Prop) : Prop := ∀ vals w w', Marks w w' → φ vals w → φ vals w'
theorem st_is (i : Nat) (v : Value) : StM (isV i v) := fun _ _ _ _ h => h
theorem st_as (i j : Nat) : StM (asV i j) := fun _ _ _ _ h => h
theorem st_row (i n : Nat) (bs : List UInt8) : StM (rowV i n bs) := fun _ _ _ hb ⟨g, c, h1, h2⟩ => ⟨g, c, h1, h2.marks hb⟩
theorem st_rows (i n : Nat) (L : List (List UInt8)) : StM (rowsV i n L) := fun _ _ _ hb ⟨g, c, h1, h2⟩ => ⟨g, c, h1, h2.marks hb⟩
theorem st_lit (B i n : Nat) (bs : List UInt8) (t : TypeId) : StM (litV B i n bs t) := fun _ _ _ hb ⟨g, fr, h0, h1, h2⟩ => by
  obtain ⟨fr', h3⟩ := hb _ _ _ _ h2
  exact ⟨g, fr', h0, h1, h3⟩
theorem st_nil : ∀ φ ∈ ([] : List ((Nat → Value) → World → Prop)), StM φ := fun _ h => by cases h
theorem st_cons {φ : (Nat → Value) → World → Prop} {L : List ((Nat → Value) → World → Prop)} (h : StM φ) (k : ∀ φ ∈ L, StM φ) : ∀ ψ ∈ φ :: L, StM ψ := List.forall_mem_cons.2 ⟨h, k⟩

theorem Row8.ofCells {w : World} {g n : Nat} {bs : List UInt8} {t : TypeId} {fr : Nat × Nat} (h : w.heap[g]? = some (.cells (HC bs) t fr)) (hn : n = bs.length) (hm : bs.length ≤ maxLen) : Row8 w (some ⟨g, 0, none⟩) n bs := by
  refine ⟨hn, hm, .inr ⟨g, 0, rfl, fun i hi => ?_⟩⟩
  rw [Nat.zero_add, cell_of_row _ _ i _ _ _ h]
  exact HC_get_lt bs i hi
/-- a constant string's bytes, marked -/
theorem run_convert_mark {P : Program} (w : World) (t e : TypeId) (g n c : Nat) (cs : Array Value) (u : TypeId) (fr : Nat × Nat) (ht : P.underlying t = some (.slice e)) (he : P.underlying e = some (.int .u8)) (hg : w.heap[g]? = some (.cells cs u fr)) :
    (convert t t (.slice (some ⟨g, 0, none⟩) n c)).run P w = .ok (.slice (some ⟨g, 0, none⟩) n c) (w.freeze ⟨g, cs.size, none⟩ 1) := by
  have hsh : w.shape? g = some (u, cs.size) := by unfold World.shape?; rw [hg]
  simp [convert, run_underlying ht, run_underlying he, markStringish, hsh]

/-- THE LAW, where memory only grows -/
theorem region_grows {P : Program} {l : List Oper} {a0 : Act} {w0 : World} {id : Nat} {Q : Exit → Act → World → Prop} (B : Nat) (hB : B ≤ w0.heap.size) (L : List ((Nat → Value) → World → Prop)) (D : List (List Nat)) (ds : List (Option Tmp)) (n : Nat) (hm : P.follows .mixedOrders = true)
    (hs : Region.noSelect l.toArray = true) (hok : okTab l D = true) (hd : l.map (·.dst) = ds) (hn : (ds.all fun d => match d with | none => true | some t => decide (t < n)) = true) (ha : a0.tmps.size = n) (hst : ∀ φ ∈ L, StM φ)
    (hobs : (∀ w1, Grows B w0.drew w1 → Grows B w0 w1 ∧ B ≤ w1.heap.size) → walksFrom P l.toArray ds (Grows B) L D a0 w0.drew 0 l)
    (hend : ∀ vals w, Grows B w0 w → leans L D vals w (List.range l.length) → Q .normal (putD ds vals (List.range l.length) a0) w) :
    (Code.region id l.toArray true).wp P Q a0 w0 := by
  have hdr : ∀ w1, Grows B w0.drew w1 → Grows B w0 w1 := fun w1 h => ⟨⟨h.below.os, h.below.tape, h.below.output, h.below.size, h.below.block⟩, h.marks⟩
  exact region_walks (Grows B) L D ds n hm hs hok hd hn ha (Grows.refl B) Grows.trans (fun φ hφ vals w w' hR h => hst φ hφ vals w w' hR.marks h)
    (hobs fun w1 h => ⟨hdr w1 h, h.size hB⟩) (fun vals w h1 h2 => hend vals w (hdr w h1) h2)

/-- a guarded operation that is wanted is walked like one without a guard -/
theorem one_wanted {P : Program} {ops : Array Oper} {Q : Exit → Act → World → Prop} {d : Option Tmp} {op : Op} {ty : TypeId} {pos : String} {af : Array Edge} {g : Option (Nat × Bool)} {a : Act} {w : World} (hw : Region.wanted ⟨d, op, ty, pos, af, g⟩ (yielded ops a.tmps) = true)
    (h : wpList P ops Q [⟨d, op, ty, pos, af, none⟩] a w) : wpList P ops Q [⟨d, op, ty, pos, af, g⟩] a w := by
  unfold wpList at *
  rw [if_pos hw]
  exact h
theorem list_wanted {P : Program} {ops : Array Oper} {Q : Exit → Act → World → Prop} {rest : List Oper} {d : Option Tmp} {op : Op} {ty : TypeId} {pos : String} {af : Array Edge} {g : Option (Nat × Bool)} {a : Act} {w : World} (hw : Region.wanted ⟨d, op, ty, pos, af, g⟩ (yielded ops a.tmps) = true)
    (h : wpList P ops Q (⟨d, op, ty, pos, af, none⟩ :: rest) a w) : wpList P ops Q (⟨d, op, ty, pos, af, g⟩ :: rest) a w := by
  unfold wpList at *
  rw [if_pos hw]
  exact h
/-- .. and one that is not wanted does nothing -/
theorem one_dropped {P : Program} {ops : Array Oper} {Q : Exit → Act → World → Prop} {o : Oper} {a : Act} {w : World} (hw : Region.wanted o (yielded ops a.tmps) = false)
    (h : Q .normal (a.put o.dst undef) w) : wpList P ops Q [o] a w := by
  unfold wpList
  rw [if_neg (by rw [hw]; decide)]
  exact h
theorem RowR.litAt {w : World} {g n : Nat} {e : TypeId} (L : List (List UInt8)) (cs : Array Value) (hg : g = w.heap.size) (hn : n = L.length) (hm : L.length ≤ maxLen)
    (h : ∀ (i : Nat) (hi : i < L.length), ∃ a' l' c', cs[i]? = some (.slice a' l' c') ∧ Row8 w a' l' L[i]) : RowR (w.alloc (.cells cs e)) (some ⟨g, 0, none⟩) n L := by
  subst hg hn
  refine ⟨rfl, hm, .inr ⟨w.heap.size, 0, rfl, fun i hi => ?_⟩⟩
  obtain ⟨a', l', c', h1, h2⟩ := h i hi
  rw [Nat.zero_add, cell_of_row _ _ i _ _ _ (Blk.new w cs e)]
  exact ⟨a', l', c', h1, h2.below (Below.alloc (Below.refl _ _) (Nat.le_refl _) _)⟩
theorem RowR.one {w : World} {e : TypeId} {a : Option Addr} {l c : Nat} {bs : List UInt8} (h : Row8 w a l bs) : RowR (w.alloc (.cells #[.slice a l c] e)) (some ⟨w.heap.size, 0, none⟩) 1 [bs] :=
  RowR.litAt _ _ rfl rfl (by simp [maxLen]) fun i hi => by
    obtain rfl : i = 0 := by simpa using hi
    exact ⟨a, l, c, rfl, h⟩
theorem RowR.two {w : World} {e : TypeId} {a a2 : Option Addr} {l c l2 c2 : Nat} {bs bs2 : List UInt8} (h : Row8 w a l bs) (h2 : Row8 w a2 l2 bs2) : RowR (w.alloc (.cells #[.slice a l c, .slice a2 l2 c2] e)) (some ⟨w.heap.size, 0, none⟩) 2 [bs, bs2] :=
  RowR.litAt _ _ rfl rfl (by simp [maxLen]) fun i hi => by
    match i, hi with
    | 0, _ => exact ⟨a, l, c, rfl, h⟩
    | 1, _ => exact ⟨a2, l2, c2, rfl, h2⟩
    | n + 2, hi => exact absurd hi (by simp)
theorem RowR.oneAt {w : World} {e : TypeId} {g : Nat} {a : Option Addr} {l c : Nat} {bs : List UInt8} (hg : g = w.heap.size) (h : Row8 w a l bs) : RowR (w.alloc (.cells #[.slice a l c] e)) (some ⟨g, 0, none⟩) 1 [bs] := hg ▸ RowR.one h
theorem RowR.twoAt {w : World} {e : TypeId} {g : Nat} {a a2 : Option Addr} {l c l2 c2 : Nat} {bs bs2 : List UInt8} (hg : g = w.heap.size) (h : Row8 w a l bs) (h2 : Row8 w a2 l2 bs2) : RowR (w.alloc (.cells #[.slice a l c, .slice a2 l2 c2] e)) (some ⟨g, 0, none⟩) 2 [bs, bs2] := hg ▸ RowR.two h h2
theorem _root_.Go.RowKit.Below.next {B : Nat} {a w : World} (h : Below B a w) (hB : B ≤ a.heap.size) (o : Obj) : Below B a (w.alloc o) := h.alloc (Nat.le_trans hB h.size) o
theorem _root_.Go.RowKit.Below.later {B : Nat} {a b c : World} (h : Below B a b) (k : Below b.heap.size b c) (hB : B ≤ a.heap.size) : Below B a c := h.trans (k.mono (Nat.le_trans hB h.size))
theorem sel_lit {ks : List Nat} {vals : Nat → Value} {B i n : Nat} {bs : List UInt8} {t : TypeId} {w : World} (h : ks.contains i = true) : litV B i n bs t (sel ks vals) w ↔ litV B i n bs t vals w := by
  unfold litV sel; rw [if_pos h]
theorem sel_row {ks : List Nat} {vals : Nat → Value} {i n : Nat} {bs : List UInt8} {w : World} (h : ks.contains i = true) : rowV i n bs (sel ks vals) w ↔ rowV i n bs vals w := by
  unfold rowV sel; rw [if_pos h]
theorem sel_rows {ks : List Nat} {vals : Nat → Value} {i n : Nat} {L : List (List UInt8)} {w : World} (h : ks.contains i = true) : rowsV i n L (sel ks vals) w ↔ rowsV i n L vals w := by
  unfold rowsV sel; rw [if_pos h]
theorem sel_own {i : Nat} {ks : List Nat} {x : Value} {vals : Nat → Value} : sel (i :: ks) (fun j => if j = i then x else vals j) i = x := by simp [sel]
theorem mk_is {v x : Value} {i : Nat} {ks : List Nat} {vals : Nat → Value} {w : World} (h : x = v) : isV i v (sel (i :: ks) fun j => if j = i then x else vals j) w := sel_own.trans h
theorem mk_lit {x : Value} {B i n : Nat} {ks : List Nat} {bs : List UInt8} {t : TypeId} {vals : Nat → Value} {w : World} (g : Nat) (fr : Nat × Nat) (h0 : B ≤ g) (h : x = .slice (some ⟨g, 0, none⟩) n n) (hb : w.heap[g]? = some (.cells (HC bs) t fr)) : litV B i n bs t (sel (i :: ks) fun j => if j = i then x else vals j) w :=
  ⟨g, fr, h0, sel_own.trans h, hb⟩
theorem mk_row {x : Value} {i n : Nat} {ks : List Nat} {bs : List UInt8} {vals : Nat → Value} {w : World} (g c : Nat) (h : x = .slice (some ⟨g, 0, none⟩) n c) (hb : Row8 w (some ⟨g, 0, none⟩) n bs) : rowV i n bs (sel (i :: ks) fun j => if j = i then x else vals j) w :=
  ⟨g, c, sel_own.trans h, hb⟩
theorem mk_rows {x : Value} {i n : Nat} {ks : List Nat} {L : List (List UInt8)} {vals : Nat → Value} {w : World} (g c : Nat) (h : x = .slice (some ⟨g, 0, none⟩) n c) (hb : RowR w (some ⟨g, 0, none⟩) n L) : rowsV i n L (sel (i :: ks) fun j => if j = i then x else vals j) w :=
  ⟨g, c, sel_own.trans h, hb⟩
theorem RowR.three {w : World} {e : TypeId} {a a2 a3 : Option Addr} {l c l2 c2 l3 c3 : Nat} {bs bs2 bs3 : List UInt8} (h : Row8 w a l bs) (h2 : Row8 w a2 l2 bs2) (h3 : Row8 w a3 l3 bs3) :
    RowR (w.alloc (.cells #[.slice a l c, .slice a2 l2 c2, .slice a3 l3 c3] e)) (some ⟨w.heap.size, 0, none⟩) 3 [bs, bs2, bs3] :=
  RowR.litAt _ _ rfl rfl (by simp [maxLen]) fun i hi => by
    match i, hi with
    | 0, _ => exact ⟨a, l, c, rfl, h⟩
    | 1, _ => exact ⟨a2, l2, c2, rfl, h2⟩
    | 2, _ => exact ⟨a3, l3, c3, rfl, h3⟩
    | n + 3, hi => exact absurd hi (by simp)
theorem RowR.four {w : World} {e : TypeId} {a a2 a3 a4 : Option Addr} {l c l2 c2 l3 c3 l4 c4 : Nat} {bs bs2 bs3 bs4 : List UInt8} (h : Row8 w a l bs) (h2 : Row8 w a2 l2 bs2) (h3 : Row8 w a3 l3 bs3) (h4 : Row8 w a4 l4 bs4) :
    RowR (w.alloc (.cells #[.slice a l c, .slice a2 l2 c2, .slice a3 l3 c3, .slice a4 l4 c4] e)) (some ⟨w.heap.size, 0, none⟩) 4 [bs, bs2, bs3, bs4] :=
  RowR.litAt _ _ rfl rfl (by simp [maxLen]) fun i hi => by
    match i, hi with
    | 0, _ => exact ⟨a, l, c, rfl, h⟩
    | 1, _ => exact ⟨a2, l2, c2, rfl, h2⟩
    | 2, _ => exact ⟨a3, l3, c3, rfl, h3⟩
    | 3, _ => exact ⟨a4, l4, c4, rfl, h4⟩
    | n + 4, hi => exact absurd hi (by simp)
end Go.Proofs.Ytcfdlffjghlghaa
