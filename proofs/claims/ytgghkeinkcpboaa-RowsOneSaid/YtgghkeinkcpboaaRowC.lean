/-
  Slices of bytes, of rows of bytes, no nil one with spare room. No program is named here.
-/
import Derived.Test.YtgghkeinkcpboaaMuts4
import Derived.Test.YtgghkeinkcpboaaRowR
import Derived.Test.YtgghkeinkcpboaaStr
import Derived.ChangeKeysEq
namespace Go.Proofs.Ytgghkeinkcpboaa
set_option maxRecDepth 100000
open Go.RowKit
set_option linter.unusedVariables false
set_option linter.unusedSimpArgs false

/-- a slice of bytes that has no spare below nil -/
structure RowC (w : World) (a : Option Addr) (l c : Nat) (bs : List UInt8) : Prop where
  row : Row8 w a l bs
  nil : a = none → c = 0
theorem RowC.below {w w' : World} {a : Option Addr} {l c : Nat} {bs : List UInt8} (h : RowC w a l c bs) (b : Below w.heap.size w w') : RowC w' a l c bs := ⟨h.row.below b, h.nil⟩
theorem Arg8.toC {w : World} {a : Option Addr} {l c : Nat} {bs : List UInt8} (h : Arg8 w a l c bs) : RowC w a l c bs := ⟨h.row, h.nil⟩
theorem RowC.blk {w : World} {g n c : Nat} {bs : List UInt8} {t : TypeId} (h : Blk w g (HC bs) t) (hn : n = bs.length) (hs : bs.length ≤ 100000) : RowC w (some ⟨g, 0, none⟩) n c bs := ⟨Row8.ofBlk h (by simp only [maxLen]; omega) n hn, fun e => by cases e⟩
theorem Own8.toC {w : World} {B : Nat} {e : TypeId} {v : Value} {bs : List UInt8} (h : Own8 w B e v bs) (hs : bs.length ≤ 1000000) : ∃ a c, v = .slice a bs.length c ∧ RowC w a bs.length c bs := by
  obtain ⟨a, c, h1, h2, h3⟩ := h.forms (by simp only [maxLen]; omega)
  exact ⟨a, c, h1, h2, h3⟩
structure RowN (w : World) (a : Option Addr) (len : Nat) (L : List (List UInt8)) : Prop where
  len_eq : len = L.length
  small : L.length ≤ maxLen
  cells : L = [] ∨ ∃ b off, a = some ⟨b, off, none⟩ ∧ ∀ (i : Nat) (h : i < L.length), ∃ a' l' c', w.cell? ⟨b, off + i, none⟩ = some (.slice a' l' c') ∧ RowC w a' l' c' L[i]
theorem RowN.below {w w' : World} {a : Option Addr} {len : Nat} {L : List (List UInt8)} (h : RowN w a len L) (b : Below w.heap.size w w') : RowN w' a len L := by
  refine ⟨h.len_eq, h.small, ?_⟩
  rcases h.cells with h1 | ⟨c, off, rfl, hc⟩
  · exact .inl h1
  · refine .inr ⟨c, off, rfl, fun i hi => ?_⟩
    obtain ⟨a', l', c', h2, h3⟩ := hc i hi
    exact ⟨a', l', c', (b.cell (block_lt_of_cell h2)).trans h2, h3.below b⟩
theorem ArgR.toN {w : World} {a : Option Addr} {l c : Nat} {L : List (List UInt8)} (h : ArgR w a l c L) : RowN w a l L :=
  ⟨h.len_eq, h.row.small, h.cells.imp id fun ⟨b, off, h1, h2⟩ => ⟨b, off, h1, fun i hi => by
    obtain ⟨a', l', c', h3, h4⟩ := h2 i hi
    exact ⟨a', l', c', h3, h4.toC⟩⟩⟩
theorem RowN.litAt {w : World} {g n : Nat} {e : TypeId} (L : List (List UInt8)) (cs : Array Value) (hg : g = w.heap.size) (hn : n = L.length) (hm : L.length ≤ maxLen)
    (h : ∀ (i : Nat) (hi : i < L.length), ∃ a' l' c', cs[i]? = some (.slice a' l' c') ∧ RowC w a' l' c' L[i]) : RowN (w.alloc (.cells cs e)) (some ⟨g, 0, none⟩) n L := by
  subst hg hn
  refine ⟨rfl, hm, .inr ⟨w.heap.size, 0, rfl, fun i hi => ?_⟩⟩
  obtain ⟨a', l', c', h1, h2⟩ := h i hi
  rw [Nat.zero_add, cell_of_row _ _ i _ _ _ (Blk.new w cs e)]
  exact ⟨a', l', c', h1, h2.below (Below.alloc (Below.refl _ _) (Nat.le_refl _) _)⟩
theorem RowN.one {w : World} {e : TypeId} {g : Nat} {a : Option Addr} {l c : Nat} {bs : List UInt8} (hg : g = w.heap.size) (h : RowC w a l c bs) : RowN (w.alloc (.cells #[.slice a l c] e)) (some ⟨g, 0, none⟩) 1 [bs] :=
  RowN.litAt _ _ hg rfl (by simp [maxLen]) fun i hi => by
    match i, hi with
    | 0, _ => exact ⟨a, l, c, rfl, h⟩
    | n + 1, hi => exact absurd hi (by simp)
theorem RowN.two {w : World} {e : TypeId} {g : Nat} {a a2 : Option Addr} {l c l2 c2 : Nat} {bs bs2 : List UInt8} (hg : g = w.heap.size) (h : RowC w a l c bs) (h2 : RowC w a2 l2 c2 bs2) : RowN (w.alloc (.cells #[.slice a l c, .slice a2 l2 c2] e)) (some ⟨g, 0, none⟩) 2 [bs, bs2] :=
  RowN.litAt _ _ hg rfl (by simp [maxLen]) fun i hi => by
    match i, hi with
    | 0, _ => exact ⟨a, l, c, rfl, h⟩
    | 1, _ => exact ⟨a2, l2, c2, rfl, h2⟩
    | n + 2, hi => exact absurd hi (by simp)
theorem RowN.three {w : World} {e : TypeId} {g : Nat} {a a2 a3 : Option Addr} {l c l2 c2 l3 c3 : Nat} {bs bs2 bs3 : List UInt8} (hg : g = w.heap.size) (h : RowC w a l c bs) (h2 : RowC w a2 l2 c2 bs2) (h3 : RowC w a3 l3 c3 bs3) :
    RowN (w.alloc (.cells #[.slice a l c, .slice a2 l2 c2, .slice a3 l3 c3] e)) (some ⟨g, 0, none⟩) 3 [bs, bs2, bs3] :=
  RowN.litAt _ _ hg rfl (by simp [maxLen]) fun i hi => by
    match i, hi with
    | 0, _ => exact ⟨a, l, c, rfl, h⟩
    | 1, _ => exact ⟨a2, l2, c2, rfl, h2⟩
    | 2, _ => exact ⟨a3, l3, c3, rfl, h3⟩
    | n + 3, hi => exact absurd hi (by simp)
/-- .. as what an operation comes to -/
def isRowN (n : Nat) (L : List (List UInt8)) (v : Value) (w : World) : Prop := ∃ a c, v = .slice a n c ∧ RowN w a n L
theorem bm_rowN (n : Nat) (L : List (List UInt8)) : BM (isRowN n L) := fun _ _ _ hb ⟨a, c, h1, h2⟩ => ⟨a, c, h1, h2.below hb⟩

theorem Row8.sub {w : World} {b off l : Nat} {p : List UInt8} (h : Row8 w (some ⟨b, off, none⟩) l p) (i n : Nat) (hn : i + n ≤ p.length) : Row8 w (some ⟨b, off + i, none⟩) n ((p.drop i).take n) := by
  have hl : ((p.drop i).take n).length = n := by rw [List.length_take, List.length_drop]; omega
  refine ⟨hl.symm, by have := h.small; rw [hl]; omega, .inr ⟨b, off + i, rfl, fun j hj => ?_⟩⟩
  rw [hl] at hj
  rcases h.cells with h1 | ⟨b', off', h1, hc⟩
  · subst h1; simp at hn; omega
  · injection h1 with h1; injection h1 with h2 h3; subst h2; subst h3
    have h4 := hc (i + j) (by omega)
    rw [List.getElem_take, List.getElem_drop, Nat.add_assoc]
    exact h4
theorem Row8.from {w : World} {b off l : Nat} {p : List UInt8} (h : Row8 w (some ⟨b, off, none⟩) l p) (i : Nat) (hi : i ≤ p.length) : Row8 w (some ⟨b, off + i, none⟩) (l - i) (p.drop i) := by
  have h1 := h.sub i (p.length - i) (by omega)
  rw [List.take_of_length_le (by rw [List.length_drop]; omega)] at h1
  rw [h.len_eq]; exact h1
theorem Own8.apart2 {w : World} {B Z : Nat} {e : TypeId} {v : Value} {bs : List UInt8} (h : Own8 w B e v bs) (hZ : Z < B) : v.ownBlock ≠ some Z :=
  fun hv => by have := (World.ownsRow.lt h Z hv).1; omega
theorem Own8.ofBlk {w : World} {B Q n : Nat} {e : TypeId} {bs : List UInt8} (h : Blk w Q (HC bs) e) (hB : B ≤ Q) (hn : n = bs.length) (hm : bs.length ≤ maxLen) : Own8 w B e (.slice (some ⟨Q, 0, none⟩) n n) bs := by
  subst hn
  refine ⟨by rw [HL_length, Nat.mul_one], .inr ⟨Q, bs.length, HC bs, rfl, hB, h, Nat.le_refl _, hm, by rw [HC_size, Nat.mul_one], ?_⟩⟩
  rw [HC_toList, Nat.mul_one]; exact List.take_of_length_le (by rw [HL_length]; exact Nat.le_refl _)
theorem Own8.key {w w' : World} {B g : Nat} {e T : TypeId} {v : Value} {bs : List UInt8} {cs : Array Value} (h : Own8 w B e v bs) (hk : Blk w g cs T) (hg : w.grownBy w' (some g)) (he : e ≠ T) : Own8 w' B e v bs := by
  refine h.kept hg (.inr fun hv => ?_)
  rcases h.2 with ⟨h1, _⟩ | ⟨g', cap, cur, h1, _, h2, _⟩
  · rw [h1] at hv; cases hv
  · rw [h1] at hv
    have hgg : g' = g := by injection hv
    unfold Blk at hk
    rw [hgg, hk] at h2
    have h3 := Option.some.inj h2
    injection h3 with h4 h5
    exact he h5.symm
theorem Own8.toL {w : World} {B : Nat} {e : TypeId} {v : Value} {bs : List UInt8} (h : Own8 w B e v bs) (hs : bs.length ≤ 1000000) : ∃ a c, v = .slice a bs.length c ∧ RowC w a bs.length c bs ∧ bs.length ≤ c := by
  by_cases hb : bs = []
  · subst hb
    obtain ⟨a, c, h1, h2, h3⟩ := h.forms (by simp [maxLen])
    exact ⟨a, c, h1, ⟨h2, h3⟩, Nat.zero_le _⟩
  · obtain ⟨g, cap, rfl, _, _, h4, _⟩ := h.has hb
    exact ⟨_, cap, rfl, ⟨h.row (by simp only [maxLen]; omega) rfl, fun e => by cases e⟩, h4⟩

/-- an operation that comes to a value -/
theorem wpList_value {P : Program} {ops : Array Oper} {rest : List Oper} {o : Oper} {a : Act} {Q : Exit → Act → World → Prop} {w w' : World} {v : Value} (hgd : o.guard = none) (hrun : (execOp a.eval o).run P w = .ok (.value v) w')
    (h : wpList P ops Q rest (a.put o.dst v) w') : wpList P ops Q (o :: rest) a w := by
  refine wpList_plain hgd fun K hK => ?_
  unfold Oper.wp
  rw [hrun]
  exact hK _ _ h
theorem RowC.sliced {w : World} {ad : Option Addr} {l c : Nat} {bs : List UInt8} (hr : RowC w ad l c bs) (hlc : l ≤ c) (lo hi : Nat) (h1 : lo ≤ hi) (h2 : hi ≤ l) :
    ∃ a', sliced ad lo hi c 1 = .slice a' (hi - lo) (c - lo) ∧ RowC w a' (hi - lo) (c - lo) ((bs.drop lo).take (hi - lo)) ∧ (ad.map (·.block) = a'.map (·.block)) := by
  have hl := hr.row.len_eq
  refine ⟨_, rfl, ⟨?_, ?_⟩, ?_⟩
  · by_cases h0 : hi = lo
    · subst h0
      rw [Nat.sub_self, List.take_zero]; exact Row8.nil _ _
    · obtain ⟨b, off, rfl⟩ : ∃ b off, ad = some ⟨b, off, none⟩ := by
        rcases hr.row.cells with h3 | ⟨b, off, h3, _⟩
        · rw [h3] at hl; simp at hl; omega
        · exact ⟨b, off, h3⟩
      have hadd : (⟨b, off, none⟩ : Addr).add (lo * 1) = ⟨b, off + lo, none⟩ := by rw [Nat.mul_one]; unfold Addr.add; split <;> simp_all
      rw [if_neg (by omega), Option.map_some, hadd]
      exact hr.row.sub lo (hi - lo) (by omega)
  · intro h3
    split at h3
    · omega
    · cases ad with
      | none => have := hr.nil rfl; omega
      | some x => simp at h3
  · split
    · rfl
    · cases ad with
      | none => rfl
      | some x => simp [Addr.add]; split <;> rfl
section
variable {P : Program} {ops : Array Oper} {rest : List Oper} {o : Oper} {a : Act} {Q : Exit → Act → World → Prop} {w : World}
/-- a stretch of a slice of bytes: from k on -/
theorem wpList_from {w0 : World} (hgd : o.guard = none) (x lo : Operand) (t : TypeId) (ho : o.op = .slice t x (some lo) none none)
    (ht : P.underlying t = some (.slice (P.elem t))) {i : TypeInfo} (hi : P.info? (P.elem t) = some i) (hsz : P.cellsOf (P.elem t) = 1) {ad : Option Addr} {l c : Nat} {bs : List UInt8} (hx : a.eval x = .slice ad l c) (hr : RowC w0 ad l c bs) (hlc : l ≤ c)
    (k : Nat) (hk : a.eval lo = .int .i64 k) (hkl : k ≤ l) (h : ∀ a', RowC w0 a' (l - k) (c - k) (bs.drop k) → (ad.map (·.block) = a'.map (·.block)) → wpList P ops Q rest (a.put o.dst (.slice a' (l - k) (c - k))) w) : wpList P ops Q (o :: rest) a w := by
  obtain ⟨d, op, ty, pos, af, g⟩ := o
  simp only at ho hgd
  subst ho; subst hgd
  refine wpList_value (w' := w) (v := sliced ad k l c 1) rfl ?_ ?_
  · simp [execOp, hx, hk, run_sliceAt_slice _ _ _ _ _ _ ht, run_slice_l w t ad l c ht .i64 (k : Int) (by omega) (by omega), run_sizeOf w hi, hsz]
  · obtain ⟨a', e1, h1, h2⟩ := hr.sliced hlc k l hkl (Nat.le_refl _)
    rw [e1]
    refine h a' ?_ h2
    rw [List.take_of_length_le (by rw [List.length_drop, hr.row.len_eq]; exact Nat.le_refl _)] at h1
    exact h1
/-- .. up to k -/
theorem wpList_upto {w0 : World} (hgd : o.guard = none) (x hi' : Operand) (t : TypeId) (ho : o.op = .slice t x none (some hi') none)
    (ht : P.underlying t = some (.slice (P.elem t))) {i : TypeInfo} (hi : P.info? (P.elem t) = some i) (hsz : P.cellsOf (P.elem t) = 1) {ad : Option Addr} {l c : Nat} {bs : List UInt8} (hx : a.eval x = .slice ad l c) (hr : RowC w0 ad l c bs) (hlc : l ≤ c)
    (k : Nat) (hk : a.eval hi' = .int .i64 k) (hkl : k ≤ l) (h : ∀ a', RowC w0 a' k c (bs.take k) → (ad.map (·.block) = a'.map (·.block)) → wpList P ops Q rest (a.put o.dst (.slice a' k c)) w) : wpList P ops Q (o :: rest) a w := by
  obtain ⟨d, op, ty, pos, af, g⟩ := o
  simp only at ho hgd
  subst ho; subst hgd
  refine wpList_value (w' := w) (v := sliced ad 0 k c 1) rfl ?_ ?_
  · simp [execOp, hx, hk, run_sliceAt_slice _ _ _ _ _ _ ht, run_slice_h w t ad l c ht .i64 (k : Int) (by omega) (by omega), run_sizeOf w hi, hsz]
  · obtain ⟨a', e1, h1, h2⟩ := hr.sliced hlc 0 k (Nat.zero_le _) hkl
    rw [e1]
    exact h a' h1 h2
/-- .. between two -/
theorem wpList_cut {w0 : World} (hgd : o.guard = none) (x lo hi' : Operand) (t : TypeId) (ho : o.op = .slice t x (some lo) (some hi') none)
    (ht : P.underlying t = some (.slice (P.elem t))) {i : TypeInfo} (hi : P.info? (P.elem t) = some i) (hsz : P.cellsOf (P.elem t) = 1) {ad : Option Addr} {l c : Nat} {bs : List UInt8} (hx : a.eval x = .slice ad l c) (hr : RowC w0 ad l c bs) (hlc : l ≤ c)
    (j k : Nat) (hj : a.eval lo = .int .i64 j) (hk : a.eval hi' = .int .i64 k) (hjk : j ≤ k) (hkl : k ≤ l) (h : ∀ a', RowC w0 a' (k - j) (c - j) ((bs.drop j).take (k - j)) → (ad.map (·.block) = a'.map (·.block)) → wpList P ops Q rest (a.put o.dst (.slice a' (k - j) (c - j))) w) : wpList P ops Q (o :: rest) a w := by
  obtain ⟨d, op, ty, pos, af, g⟩ := o
  simp only at ho hgd
  subst ho; subst hgd
  refine wpList_value (w' := w) (v := sliced ad j k c 1) rfl ?_ ?_
  · simp [execOp, hx, hj, hk, run_sliceAt_slice _ _ _ _ _ _ ht, run_slice_lh w t ad l c ht .i64 .i64 (j : Int) (k : Int) (by omega) (by omega) (by omega), run_sizeOf w hi, hsz]
  · obtain ⟨a', e1, h1, h2⟩ := hr.sliced hlc j k hjk hkl
    rw [e1]
    exact h a' h1 h2
end
end Go.Proofs.Ytgghkeinkcpboaa
