/-
  Slices of records, of structs of whole numbers that are handed in. No program is named here.
-/
import Derived.Test.YtbgdlggobbiibaaI15
import Derived.Deep.Slices
import Derived.Test.YtbgdlggobbiibaaI14
import Derived.Test.YtbgdlggobbiibaaI11
import Derived.Test.YtbgdlggobbiibaaI13
namespace Go.Proofs.Ytbgdlggobbiibaa
set_option maxRecDepth 100000
open Go.RowKit
set_option linter.unusedVariables false
set_option linter.unusedSimpArgs false

/-- cells that lie in a row -/
theorem lies_cells {w : World} {a : Addr} {cs : List Value} (h : ∀ j (hj : j < cs.length), w.cell? (a.add j) = some cs[j]) (hne : cs ≠ []) : a.spot = none ∧ Lies (fun _ => True) w (some ⟨a.block, a.off, none⟩) cs := by
  have hp : 0 < cs.length := List.length_pos_iff.2 hne
  have hz := h 0 hp
  have hsp : a.spot = none := by
    have h1 := hz
    unfold World.cell? at h1
    split at h1
    · next c t fr hb =>
      by_cases hs : (a.add 0).spot.isSome = true
      · rw [if_pos hs] at h1; cases h1
      · simpa [Addr.add] using hs
    · cases h1
  refine ⟨hsp, .inr ⟨a.block, a.off, rfl, trivial, ?_, fun i hi => ?_⟩⟩
  · have := block_lt_of_cell hz
    simpa [Addr.add] using this
  · have h1 := h i hi
    have e : a.add i = ⟨a.block, a.off + i, none⟩ := by cases a; simp_all [Addr.add]
    rw [e] at h1
    exact h1
/-- a slice of records: each is told by so much -/
theorem open_recs {α : Type} [Inhabited α] {H : Type} {enc : TypeId × Value → H} {P : Program} {w : World} {base b0 : Nat} {held : Bool} {r : Reach} {t e : TypeId} {v : Value} {d : DataW H} {ps : List MemPlace} {s : List (Option IntKind)} {B : Nat} (ht : P.underlying t = some (.slice e)) (hs : sigT P 20 e = some s) (hs0 : s ≠ []) (hB : P.bytesOf e = B) (hB1 : 1 ≤ B)
    (form : α → List Seg) (Ok : α → Prop) (hp : ∀ cs : List Value, cs.map cellKind = s.map some → (∀ u ∈ cs, wfV u) → ∃ x : α, Ok x ∧ RL (fun _ => True) w (form x) cs)
    (hval : Value.okWide P w r b0 t v) (h : DataW.Trod enc P w base (fun _ => true) held t v d ps) (hlt : ∀ n ∈ d.weights P t, n ≤ 140737488351232) :
    ∃ (n : Nat) (f : Nat → α), n ≤ 140737488351232 ∧ (∀ j, j < n → Ok (f j)) ∧ RA (fun _ => True) w (.recs n s.length fun j => form (f j)) v := by
  unfold Value.okWide at hval
  rw [ht] at hval
  obtain ⟨fuel, hf⟩ := h
  have hC : P.cellsOf e = s.length := by
    obtain ⟨_, _, _, hc, _⟩ := sigT_info hs
    exact hc
  rcases Deep.open_slice ht hf with ⟨hcs, _⟩ | ⟨a, len, cap, m, n, D, Pl, hcs, _, hl, hm, hmm, hx, hcell⟩
  · have : v = .slice none 0 0 := by cases v <;> simp_all [Value.cells, Cell.okWide, Cell.ok]
    subst this
    exact ⟨0, fun _ => default, by omega, fun j hj => by omega, .recs (cs := fun _ => []) (fun j hj => by omega) (Nat.le_refl _) (Nat.zero_le _) (fun _ => rfl) (.inl rfl)⟩
  · have hv : v = .slice (some a) len cap := by cases v <;> simp_all [Value.cells, Cell.okWide, Cell.ok]
    subst hv
    simp only [if_true] at hmm
    subst hmm
    simp only [Prod.mk.injEq] at hx
    rw [hx.1] at hlt
    have hwt := weight_of_slice ht hlt
    rw [hB] at hwt
    simp at hwt
    have hlen : len * B ≤ 140737488351232 := Nat.le_trans (Nat.mul_le_mul_right _ (by omega)) hwt
    have hlen2 : len ≤ 140737488351232 := Nat.le_trans (Nat.le_mul_of_pos_right _ (by omega)) hlen
    have each : ∀ j, j < len → ∃ (x : α) (cs : List Value), Ok x ∧ RL (fun _ => True) w (form x) cs ∧ cs.length = s.length ∧ ∀ i (hi : i < cs.length), w.cell? (a.add (j * s.length + i)) = some cs[i] := by
      intro j hj
      obtain ⟨cs', h1, h2⟩ := hcell j (by omega)
      rw [hC] at h1
      obtain ⟨_, h3, h4⟩ := World.cells?_some h1
      obtain ⟨h5, h6⟩ := kinds_of_trod 20 e _ hs h2 (by simpa using h3)
      obtain ⟨x, k1, k2⟩ := hp _ h5 h6
      have h3' : cs'.length = s.length := by simpa using h3
      refine ⟨x, cs', k1, k2, h3', fun i hi => ?_⟩
      have h8 := h4 i (by omega)
      rw [← Addr.add_add, h8]
      first | exact List.getElem?_eq_getElem hi | simp [hi]
    let g : Nat → α := fun j => if hj : j < len then (each j hj).choose else default
    let c : Nat → List Value := fun j => if hj : j < len then (each j hj).choose_spec.choose else []
    have hg : ∀ j (hj : j < len), Ok (g j) ∧ RL (fun _ => True) w (form (g j)) (c j) ∧ (c j).length = s.length ∧ ∀ i (hi : i < (c j).length), w.cell? (a.add (j * s.length + i)) = some (c j)[i] := by
      intro j hj
      have := (each j hj).choose_spec.choose_spec
      simp only [g, c, dif_pos hj]
      exact this
    refine ⟨len, g, hlen2, fun j hj => (hg j hj).1, ?_⟩
    by_cases h0 : len = 0
    · subst h0
      exact .recs (cs := c) (fun j hj => by omega) hl (by omega) (fun h => by cases h) (.inl rfl)
    · have hsp : a.spot = none := by
        obtain ⟨_, _, k3, k4⟩ := hg 0 (by omega)
        refine (lies_cells (w := w) (a := a) (cs := c 0) (fun i hi => ?_) (fun e => hs0 (List.length_eq_zero_iff.1 (by rw [← k3, e]; rfl)))).1
        have := k4 i hi
        rwa [Nat.zero_mul, Nat.zero_add] at this
      have ha : a = ⟨a.block, a.off, none⟩ := by cases a; simp_all
      rw [ha]
      refine .recs (cs := c) (fun j hj => (hg j hj).2.1) hl (by omega) (fun h => by cases h) (.inr ⟨a.block, a.off, rfl, fun j hj => ?_⟩)
      obtain ⟨_, _, k3, k4⟩ := hg j hj
      have := (lies_cells (w := w) (a := a.add (j * s.length)) (cs := c j) (fun i hi => by rw [Addr.add_add]; exact k4 i hi) (fun e => hs0 (List.length_eq_zero_iff.1 (by rw [← k3, e]; rfl)))).2
      have e2 : (a.add (j * s.length)).off = a.off + j * s.length := by rw [ha, add_at]
      have e3 : (a.add (j * s.length)).block = a.block := by rw [ha, add_at]
      rw [e2, e3] at this
      exact this
theorem rows_each {w : World} {a : Addr} {K : Nat} : ∀ (m : Nat), (∀ i < m, ∃ zs : List Int, zs.length = K ∧ ∀ j < K, w.cell? (a.add (i * K + j)) = some (.int .i64 (zs.getD j 0))) → ∃ zs : List Int, zs.length = m * K ∧ ∀ j < m * K, w.cell? (a.add j) = some (.int .i64 (zs.getD j 0))
  | 0, _ => ⟨[], by simp, fun j hj => by omega⟩
  | m + 1, h => by
    obtain ⟨zs, h1, h2⟩ := rows_each m fun i hi => h i (by omega)
    obtain ⟨ys, h3, h4⟩ := h m (by omega)
    refine ⟨zs ++ ys, by rw [List.length_append, h1, h3, Nat.succ_mul], fun j hj => ?_⟩
    rw [Nat.succ_mul] at hj
    by_cases e : j < m * K
    · rw [h2 j e, List.getD_eq_getElem?_getD, List.getD_eq_getElem?_getD, List.getElem?_append_left (by omega)]
    · have h5 := h4 (j - m * K) (by omega)
      rw [show m * K + (j - m * K) = j by omega] at h5
      rw [h5, List.getD_eq_getElem?_getD, List.getD_eq_getElem?_getD, List.getElem?_append_right (by omega), h1]
theorem lies_of {w : World} {a : Addr} {zs : List Int} (h : ∀ j < zs.length, w.cell? (a.add j) = some (.int .i64 (zs.getD j 0))) : Lies (fun _ => True) w (some a) (zs.map (Value.int .i64)) := by
  by_cases h0 : zs = []
  · left; subst h0; rfl
  · right
    have hp : 0 < zs.length := List.length_pos_iff.2 h0
    have hz := h 0 hp
    have hsp : a.spot = none := by
      have h1 := hz
      unfold World.cell? at h1
      split at h1
      · next c t fr hb =>
        by_cases hs : (a.add 0).spot.isSome = true
        · rw [if_pos hs] at h1; cases h1
        · simpa [Addr.add] using hs
      · cases h1
    refine ⟨a.block, a.off, by cases a; simp_all, trivial, ?_, fun i hi => ?_⟩
    · have := block_lt_of_cell hz
      simpa [Addr.add] using this
    · have hi' : i < zs.length := by simpa using hi
      have h1 := h i hi'
      have e : a.add i = ⟨a.block, a.off + i, none⟩ := by cases a; simp_all [Addr.add]
      rw [e] at h1
      rw [h1]
      simp [List.getD_eq_getElem?_getD, hi']
/-- a slice of structs of K whole numbers -/
theorem open_flats {H : Type} {enc : TypeId × Value → H} {P : Program} {w : World} {base b0 : Nat} {held : Bool} {r : Reach} {t e : TypeId} {v : Value} {d : DataW H} {ps : List MemPlace} {K : Nat} (ht : P.underlying t = some (.slice e)) (hs : sigT P 20 e = some (List.replicate K (some .i64))) (hK : 1 ≤ K) (hby : P.bytesOf e = 8 * K)
    (hval : Value.okWide P w r b0 t v) (h : DataW.Trod enc P w base (fun _ => true) held t v d ps) (hlt : ∀ n ∈ d.weights P t, n ≤ 140737488351232) :
    ∃ (n : Nat) (zs : List Int), n ≤ 140737488351232 ∧ RA (fun _ => True) w (.row n [.ints .i64 (n * K) zs]) v := by
  unfold Value.okWide at hval
  rw [ht] at hval
  obtain ⟨fuel, hf⟩ := h
  have hC : P.cellsOf e = K := by
    obtain ⟨_, _, _, hc, _⟩ := sigT_info hs
    rw [hc]; simp
  rcases Deep.open_slice ht hf with ⟨hcs, _⟩ | ⟨a, len, cap, m, n, D, Pl, hcs, _, hl, hm, hmm, hx, hcell⟩
  · have : v = .slice none 0 0 := by cases v <;> simp_all [Value.cells, Cell.okWide, Cell.ok]
    subst this
    refine ⟨0, [], by omega, .row (cs := []) ?_ (Nat.le_refl _) (Nat.zero_le _) (fun _ => rfl) (.inl rfl)⟩
    exact .ofInts (by simp) rfl
  · have hv : v = .slice (some a) len cap := by cases v <;> simp_all [Value.cells, Cell.okWide, Cell.ok]
    subst hv
    simp only [if_true] at hmm
    subst hmm
    simp only [Prod.mk.injEq] at hx
    rw [hx.1] at hlt
    have hwt := weight_of_slice ht hlt
    rw [hby] at hwt
    simp at hwt
    have hlen : len * (8 * K) ≤ 140737488351232 := Nat.le_trans (Nat.mul_le_mul_right _ (by omega)) hwt
    have hlen2 : len ≤ 140737488351232 := Nat.le_trans (Nat.le_mul_of_pos_right _ (by omega)) hlen
    obtain ⟨zs, hz1, hz2⟩ := rows_each (w := w) (a := a) (K := K) len fun i hi => by
      obtain ⟨cs', h1, h2⟩ := hcell i (by omega)
      rw [hC] at h1
      obtain ⟨_, h3, h4⟩ := World.cells?_some h1
      obtain ⟨h5, h6⟩ := kinds_of_trod 20 e _ hs h2 (by simpa using h3)
      obtain ⟨ys, rfl, h7, _⟩ := kinds_ints h5 h6
      refine ⟨ys, h7, fun j hj => ?_⟩
      have h8 := h4 j hj
      rw [← Addr.add_add, h8]
      simp [List.getD_eq_getElem?_getD, h7, hj]
    refine ⟨len, zs, hlen2, .row (cs := zs.map (Value.int .i64)) (.ofInts hz1 rfl) hl (by omega) (fun h => by cases h) (lies_of fun j hj => hz2 j (by omega))⟩
end Go.Proofs.Ytbgdlggobbiibaa

/-
  Rows of bytes that are handed in, as records. No program is named here.
-/
namespace Go.Proofs.Ytbgdlggobbiibaa
set_option maxRecDepth 100000
open Go.RowKit
set_option linter.unusedVariables false
set_option linter.unusedSimpArgs false

theorem ra_arg8 {w : World} {a : Option Addr} {l c : Nat} {bs : List UInt8} (h : Arg8 w a l c bs) : RA (fun _ => True) w (.row bs.length [.bytes bs.length bs]) (.slice a l c) := by
  have hl := h.row.len_eq
  subst hl
  refine .row (cs := HL bs) (.ofBytes rfl rfl) h.le (by have := h.small; unfold maxLen; omega) h.nil ?_
  by_cases h0 : bs = []
  · subst h0; exact .inl rfl
  · rcases h.row.cells with h1 | ⟨b, off, rfl, hc⟩
    · exact absurd h1 h0
    · have hp : 0 < bs.length := List.length_pos_iff.2 h0
      refine .inr ⟨b, off, rfl, trivial, ?_, fun i hi => ?_⟩
      · exact block_lt_of_cell (hc 0 hp)
      · have hi' : i < bs.length := by simpa [HL] using hi
        rw [hc i hi']
        simp [HL]
theorem ra_argR {w : World} {a : Option Addr} {l c : Nat} {L : List (List UInt8)} (h : ArgR w a l c L) : RA (fun _ => True) w (.recs l 1 fun j => [.gen 1 [.row (L.getD j []).length [.bytes (L.getD j []).length (L.getD j [])]]]) (.slice a l c) := by
  have hl := h.len_eq
  subst hl
  rcases h.cells with rfl | ⟨b, off, rfl, hc⟩
  · exact .recs (cs := fun _ => []) (fun j hj => absurd hj (Nat.not_lt_zero _)) h.le (by have := h.small; unfold maxLen; omega) h.nil (.inl rfl)
  · have each : ∀ j, ∃ v, j < L.length → w.cell? ⟨b, off + j, none⟩ = some v ∧ RA (fun _ => True) w (.row (L.getD j []).length [.bytes (L.getD j []).length (L.getD j [])]) v ∧ v.oneCell' = true := fun j => by
      by_cases hj : j < L.length
      · obtain ⟨a', l', c', h1, h2⟩ := hc j hj
        refine ⟨_, fun _ => ⟨h1, ?_, rfl⟩⟩
        rw [List.getD_eq_getElem?_getD, List.getElem?_eq_getElem hj, Option.getD_some]
        exact ra_arg8 h2
      · exact ⟨.nilFunc, fun h => absurd h hj⟩
    refine .recs (cs := fun j => [(each j).choose]) (fun j hj => ?_) h.le (by have := h.small; unfold maxLen; omega) h.nil (.inr ⟨b, off, rfl, fun j hj => ?_⟩)
    · obtain ⟨h1, h2, h3⟩ := (each j).choose_spec hj
      exact .gen (vs := [_]) (.cons h2 h3 .nil) rfl .nil
    · obtain ⟨h1, h2, h3⟩ := (each j).choose_spec hj
      refine .inr ⟨b, off + j * 1, rfl, trivial, block_lt_of_cell h1, fun i hi => ?_⟩
      obtain rfl : i = 0 := by simpa using hi
      rw [Nat.mul_one]
      simpa using h1
end Go.Proofs.Ytbgdlggobbiibaa

/-
  A struct that is handed in, by the numbers of its fields. No program is named here.
-/
namespace Go.Proofs.Ytbgdlggobbiibaa
set_option maxRecDepth 100000
open Go.RowKit Go.ChangeShapes
set_option linter.unusedVariables false
set_option linter.unusedSimpArgs false

def fldOf (P : Program) (t : TypeId) (i : Nat) : Option (TypeId × Nat) := match P.underlying t with | some (.struct fs) => (fs[i]?).map fun f => (f.type, f.offset) | _ => none
section
variable {H : Type} {enc : TypeId × Value → H} {P : Program} {w : World} {base b0 : Nat} {spare : Nat → Bool} {held : Bool} {r : Reach} {t : TypeId} {fuel B : Nat} {cs : List Value} {x : DataW H × List MemPlace}
theorem fld_open (h : DataW.trod enc P w base spare held fuel t cs = some x) (hw : ∀ n ∈ x.1.weights P t, n ≤ B) {i off n : Nat} {u : TypeId} (hf : fldOf P t i = some (u, off)) (hc : P.cellsOf u = n) :
    ∃ k y, DataW.trod enc P w base spare held k u ((cs.drop off).take n) = some y ∧ ∀ m ∈ y.1.weights P u, m ≤ B := by
  unfold fldOf at hf
  split at hf
  · next fs ht =>
    cases hq : fs[i]? with
    | none => rw [hq] at hf; cases hf
    | some f =>
      rw [hq] at hf
      simp only [Option.map_some, Option.some.injEq, Prod.mk.injEq] at hf
      obtain ⟨rfl, rfl⟩ := hf
      subst hc
      exact struct_field ht h hw hq
  · cases hf
/-- a field of whole numbers, bytes .. -/
theorem fld_kinds (h : DataW.trod enc P w base spare held fuel t cs = some x) (hw : ∀ n ∈ x.1.weights P t, n ≤ B) {i off n : Nat} {u : TypeId} {sg : List (Option IntKind)} (hf : fldOf P t i = some (u, off)) (hc : P.cellsOf u = n) (hs : sigT P 20 u = some sg) (hn : sg.length = n) (hl : off + n ≤ cs.length) :
    ((cs.drop off).take n).map cellKind = sg.map some ∧ ∀ v ∈ (cs.drop off).take n, wfV v := by
  obtain ⟨k, y, h1, _⟩ := fld_open h hw hf hc
  exact kinds_of_trod 20 u sg hs h1 (by rw [List.length_take, List.length_drop, hn]; omega)
theorem cell_wide {N i : Nat} {v : Value} {u : TypeId} (h : Row.okWide P w r b0 t cs.toArray) (hl : (P.cellTypes P.depth t).map (·.length) = some N) (hi : i < N) (hc : cs[i]? = some v) (ht : (P.cellTypes P.depth t).bind (·[i]?) = some u) : Cell.okWide P w r b0 u v := by
  obtain ⟨ts, h1, _, h2⟩ := h
  rw [h1] at hl ht
  simp only [Option.map_some, Option.some.injEq, Option.bind_some] at hl ht
  obtain ⟨u', h3, h4⟩ := h2 i v (by simpa using hc)
  rw [hl, Nat.mod_eq_of_lt hi, ht] at h3
  cases h3
  exact h4
/-- a field that is a slice -/
theorem fld_slice {N i off : Nat} {u : TypeId} {v : Value} {e : TypeId} (h : DataW.trod enc P w base spare held fuel t cs = some x) (hw : ∀ n ∈ x.1.weights P t, n ≤ B) (hok : Row.okWide P w r b0 t cs.toArray) (hl : (P.cellTypes P.depth t).map (·.length) = some N) (hi : off < N)
    (hv : cs[off]? = some v) (hf : fldOf P t i = some (u, off)) (hc : P.cellsOf u = 1) (ht : (P.cellTypes P.depth t).bind (·[off]?) = some u) (hu : P.underlying u = some (.slice e)) :
    Value.okWide P w r b0 u v ∧ ∃ d ps, DataW.Trod enc P w base spare held u v d ps ∧ ∀ m ∈ d.weights P u, m ≤ B := by
  have h1 := cell_wide hok hl hi hv ht
  obtain ⟨k, y, h2, h3⟩ := fld_open h hw hf hc
  have e1 : (cs.drop off).take 1 = [v] := by
    obtain ⟨hlt, hg⟩ := List.getElem?_eq_some_iff.1 hv
    rw [List.drop_eq_getElem_cons hlt, hg]; rfl
  rw [e1] at h2
  have hvc : v.cells.toList = [v] := by
    unfold Cell.okWide at h1
    rw [hu] at h1
    rcases Deep.open_slice hu h2 with ⟨h4, _⟩ | ⟨a, len, cap, _, _, _, _, h4, _⟩ <;> · cases h4; rfl
  refine ⟨by unfold Value.okWide; rw [hu]; exact h1, y.1, y.2, ⟨k, by rw [hvc]; exact h2⟩, h3⟩
end
end Go.Proofs.Ytbgdlggobbiibaa

/-
  A law's commit, opened.
-/
namespace Go.Proofs.Ytbgdlggobbiibaa
set_option maxRecDepth 100000
open Go.RowKit Go.ChangeShapes
set_option linter.unusedVariables false
set_option linter.unusedSimpArgs false

/-- what holds of every commit -/
structure CSall (c : CS) : Prop where
  n : c.n ≤ 140737488351232
  m : c.m ≤ 140737488351232
  k : c.k ≤ 140737488351232
  ops : c.ops.length = c.n * 5
  vs : c.vs.length = c.m * 3
  bx : ∀ j, j < c.k → (c.bx j).length ≤ 140737488351232
  tag : c.tag.length = 32
theorem row_len {S : Nat → Prop} {w : World} {n m : Nat} {zs : List Int} {v : Value} (h : RA S w (.row n [.ints .i64 m zs]) v) : zs.length = m := by
  cases h with
  | row h => cases h with
    | ints h _ => exact h
theorem oneV {l : List Value} {i : Nat} {v : Value} (h : l[i]? = some v) : (l.drop i).take 1 = [v] := by
  obtain ⟨hlt, hg⟩ := List.getElem?_eq_some_iff.1 h
  rw [List.drop_eq_getElem_cons hlt, hg]; rfl
set_option maxHeartbeats 1000000 in
theorem open_commit {H : Type} {enc : TypeId × Value → H} {w : World} {base b0 : Nat} {held : Bool} {r : Reach} {v : Value} {d : DataW H} {ps : List MemPlace}
    (hval : Value.okWide Try.prog w r b0 32 v) (h : DataW.Trod enc Try.prog w base (fun _ => true) held 32 v d ps) (hlt : ∀ n ∈ d.weights Try.prog 32, n ≤ 140737488351232) :
    ∃ c : CS, CSall c ∧ RA (fun _ => True) w (.agg (cSegs c)) v := by
  unfold Value.okWide at hval
  rw [Try.underlying32] at hval
  obtain ⟨ar, rfl, hsz, hok⟩ := hval
  rw [show Try.prog.cellsOf 32 = 43 by kernel_rfl] at hsz
  obtain ⟨cs, rfl⟩ : ∃ l : List Value, ar = l.toArray := ⟨ar.toList, by simp⟩
  obtain ⟨fuel, hf⟩ := h
  have hlen : cs.length = 43 := by simpa using hsz
  rw [show (Value.agg cs.toArray).cells.toList = cs by simp [Value.cells]] at hf
  have hN : (Try.prog.cellTypes Try.prog.depth 32).map (·.length) = some 43 := by kernel_rfl
  obtain ⟨k0, w0⟩ := fld_kinds hf hlt (i := 0) (off := 0) (n := 1) (u := 3) (sg := List.replicate 1 (some .i64)) (by kernel_rfl) (by kernel_rfl) (by kernel_rfl) rfl (by omega)
  obtain ⟨k1, w1⟩ := fld_kinds hf hlt (i := 1) (off := 1) (n := 1) (u := 3) (sg := List.replicate 1 (some .i64)) (by kernel_rfl) (by kernel_rfl) (by kernel_rfl) rfl (by omega)
  obtain ⟨k4, w4⟩ := fld_kinds hf hlt (i := 4) (off := 4) (n := 1) (u := 3) (sg := List.replicate 1 (some .i64)) (by kernel_rfl) (by kernel_rfl) (by kernel_rfl) rfl (by omega)
  obtain ⟨k5, w5⟩ := fld_kinds hf hlt (i := 5) (off := 5) (n := 3) (u := 25) (sg := List.replicate 3 (some .i64)) (by kernel_rfl) (by kernel_rfl) (by kernel_rfl) rfl (by omega)
  obtain ⟨k7, w7⟩ := fld_kinds hf hlt (i := 7) (off := 9) (n := 32) (u := 28) (sg := List.replicate 32 (some .u8)) (by kernel_rfl) (by kernel_rfl) (by kernel_rfl) rfl (by omega)
  obtain ⟨k8, w8⟩ := fld_kinds hf hlt (i := 8) (off := 41) (n := 2) (u := 30) (sg := List.replicate 2 (some .i64)) (by kernel_rfl) (by kernel_rfl) (by kernel_rfl) rfl (by omega)
  obtain ⟨v2, hv2⟩ : ∃ v, cs[2]? = some v := ⟨_, List.getElem?_eq_getElem (by omega)⟩
  obtain ⟨v3, hv3⟩ : ∃ v, cs[3]? = some v := ⟨_, List.getElem?_eq_getElem (by omega)⟩
  obtain ⟨v8, hv8⟩ : ∃ v, cs[8]? = some v := ⟨_, List.getElem?_eq_getElem (by omega)⟩
  obtain ⟨o2, d2, q2, t2, g2⟩ := fld_slice hf hlt hok hN (i := 2) (off := 2) (by omega) hv2 (u := 23) (by kernel_rfl) (by kernel_rfl) (by kernel_rfl) Try.underlying23
  obtain ⟨o3, d3, q3, t3, g3⟩ := fld_slice hf hlt hok hN (i := 3) (off := 3) (by omega) hv3 (u := 24) (by kernel_rfl) (by kernel_rfl) (by kernel_rfl) Try.underlying24
  obtain ⟨o8, d8, q8, t8, g8⟩ := fld_slice hf hlt hok hN (i := 6) (off := 8) (by omega) hv8 (u := 26) (by kernel_rfl) (by kernel_rfl) (by kernel_rfl) Try.underlying26
  obtain ⟨n, ops, hn, r2⟩ := open_flats (P := Try.prog) (e := 68) (K := 5) (by kernel_rfl) (by kernel_rfl) (by omega) (by kernel_rfl) o2 t2 g2
  obtain ⟨m, vs, hm, r3⟩ := open_flats (P := Try.prog) (e := 71) (K := 3) (by kernel_rfl) (by kernel_rfl) (by omega) (by kernel_rfl) o3 t3 g3
  obtain ⟨a8, l8, c8, L, rfl, r8⟩ := open_rows Try.underlying26 Try.underlying22 Try.underlying5 (by kernel_rfl) (by kernel_rfl) (by kernel_rfl) (by kernel_rfl) o8 t8 g8
  obtain ⟨z0, y0, l0, _⟩ := kinds_ints k0 w0
  obtain ⟨z1, y1, l1, _⟩ := kinds_ints k1 w1
  obtain ⟨z4, y4, l4, _⟩ := kinds_ints k4 w4
  obtain ⟨z5, y5, l5, _⟩ := kinds_ints k5 w5
  obtain ⟨bs, y7, l7⟩ := kinds_bytes k7 w7
  obtain ⟨zs8, y8, l88, _⟩ := kinds_ints k8 w8
  have sp : ∀ a b, cs.drop a = (cs.drop a).take b ++ cs.drop (a + b) := fun a b => by rw [← List.drop_drop, List.take_append_drop]
  have l41 : cs.drop 41 = (cs.drop 41).take 2 := (List.take_of_length_le (by simp [hlen])).symm
  have e : cs = (cs.drop 0).take 1 ++ ((cs.drop 1).take 1 ++ ((cs.drop 2).take 1 ++ ((cs.drop 3).take 1 ++ ((cs.drop 4).take 1 ++ ((cs.drop 5).take 3 ++ ((cs.drop 8).take 1 ++ ((cs.drop 9).take 32 ++ (cs.drop 41).take 2))))))) := by
    rw [← l41, ← sp 9 32, ← sp 8 1, ← sp 5 3, ← sp 4 1, ← sp 3 1, ← sp 2 1, ← sp 1 1, ← sp 0 1]
    rfl
  rw [y0, y1, y4, y5, y7, y8, oneV hv2, oneV hv3, oneV hv8] at e
  obtain ⟨e0, rfl⟩ : ∃ a, z0 = [a] := by rcases z0 with _ | ⟨a, _ | ⟨b, l⟩⟩ <;> first | (simp at l0; done) | exact ⟨a, rfl⟩
  obtain ⟨e1, rfl⟩ : ∃ a, z1 = [a] := by rcases z1 with _ | ⟨a, _ | ⟨b, l⟩⟩ <;> first | (simp at l1; done) | exact ⟨a, rfl⟩
  obtain ⟨e4, rfl⟩ : ∃ a, z4 = [a] := by rcases z4 with _ | ⟨a, _ | ⟨b, l⟩⟩ <;> first | (simp at l4; done) | exact ⟨a, rfl⟩
  obtain ⟨p0, p1, p2, rfl⟩ : ∃ a b c, z5 = [a, b, c] := ⟨_, _, _, three_eqC l5⟩
  obtain ⟨sE, sS, rfl⟩ : ∃ a b, zs8 = [a, b] := by rcases zs8 with _ | ⟨a, _ | ⟨b, _ | ⟨c, l⟩⟩⟩ <;> first | (simp at l88; done) | exact ⟨a, b, rfl⟩
  have hl8 := r8.len_eq
  refine ⟨⟨e0, e1, n, ops, m, vs, e4, p0, p1, p2, l8, fun j => L.getD j [], bs, sE, sS⟩, ⟨hn, hm, ?_, row_len r2, row_len r3, fun j hj => ?_, l7⟩, ?_⟩
  · have := r8.le; have := r8.small; show l8 ≤ _; omega
  · rcases r8.cells with h1 | ⟨b, off, _, h2⟩
    · subst h1; show ([] : List UInt8).length ≤ _; exact Nat.zero_le _
    · have hj' : j < L.length := by rw [← hl8]; exact hj
      obtain ⟨a', l', c', _, h3⟩ := h2 j hj'
      show (L.getD j []).length ≤ _
      rw [List.getD_eq_getElem?_getD, List.getElem?_eq_getElem hj', Option.getD_some, ← h3.row.len_eq]
      have := h3.le; have := h3.small; omega
  · rw [e]
    have R2 : v2.oneCell' = true := by cases r2; rfl
    have R3 : v3.oneCell' = true := by cases r3; rfl
    exact .agg (.ints (zs := [e0, e1]) rfl (.gen (vs := [v2, v3]) (.cons r2 R2 (.cons r3 R3 .nil)) rfl (.ints (zs := [e4, p0, p1, p2]) rfl (.gen (vs := [_]) (.cons (ra_argR r8) rfl .nil) rfl (.bytes l7 (.ints (zs := [sE, sS]) rfl .nil))))))
end Go.Proofs.Ytbgdlggobbiibaa

/-
  The laws of commits' bytes: what is more than is looked at; WireCommits, WireLong.
-/
namespace Go.Proofs.Ytbgdlggobbiibaa
set_option maxRecDepth 100000
open Go.RowKit Pm
set_option linter.unusedVariables false
set_option linter.unusedSimpArgs false
attribute [local irreducible] condK LoopA regA numB numsB boxB anyP idxP withinB sigB oddOpB oddVoteB mayB bodyB

/-- so many bytes have the first boxes -/
def sumN (bx : Nat → List UInt8) : Nat → Nat
  | 0 => 0
  | j + 1 => sumN bx j + (bx j).length
theorem sumN_mono (bx : Nat → List UInt8) {i : Nat} : ∀ {j : Nat}, i ≤ j → sumN bx i ≤ sumN bx j
  | 0, h => by obtain rfl : i = 0 := by omega
               exact Nat.le_refl _
  | j + 1, h => by
    rcases Nat.lt_or_ge j i with h1 | h1
    · obtain rfl : i = j + 1 := by omega
      exact Nat.le_refl _
    · exact Nat.le_trans (sumN_mono bx h1) (Nat.le_add_right _ _)
theorem sumN_at (bx : Nat → List UInt8) {j k : Nat} (h : j < k) : (bx j).length ≤ sumN bx k := by
  have := sumN_mono bx (i := j + 1) (j := k) (by omega)
  have h2 : sumN bx (j + 1) = sumN bx j + (bx j).length := rfl
  omega
def bigB (c : CS) : Bool := decide (3000 ≤ c.n + c.m + c.k + sumN c.bx c.k)
theorem big_no {c : CS} (hc : CSall c) (h : bigB c = false) : CSok c := by
  have h1 : ¬ 3000 ≤ c.n + c.m + c.k + sumN c.bx c.k := of_decide_eq_false h
  exact ⟨by omega, by omega, by omega, hc.ops, hc.vs, fun j hj => by have := sumN_at c.bx hj; omega⟩
theorem commit_length {c : CS} (hc : CSok c) (ht : c.tag.length = 32) : (commitB c).length = commitN c := by
  unfold commitB commitN
  simp only [List.length_append, numsB_length, body_length hc, ht, List.length_cons, List.length_nil]
theorem commit_small {c : CS} (hc : CSok c) : commitN c ≤ 140737488355328 ∧ bodyN c ≤ 140737488355328 := by
  have := bxN_le (bx := c.bx) (k := c.k) hc.bx
  have h1 := hc.n; have h2 := hc.m; have h3 := hc.k
  unfold commitN bodyN; omega
def bigS : List A → (Res → Prop) → Prop
  | [.agg l], K => ∃ c, l = cSegs c ∧ CSall c ∧ K (.d (.v (.bool (bigB c))))
  | _, _ => False
def trueS : List A → (Res → Prop) → Prop
  | [], K => K (.d (.v (.bool true)))
  | _, _ => False
theorem trueS_of {f : FuncId} (h : FnO f [] (.d (.v (.bool true)))) : ∀ args K, trueS args K → ∃ r, FnO f args r ∧ K r := by
  intro args K hd
  unfold trueS at hd
  split at hd
  · exact ⟨_, h, hd⟩
  · exact hd.elim
noncomputable def envF0 : EnvX := envCq
noncomputable def envF1 : EnvX := envF0.add 10 trueS (trueS_of wknown_ok) ⟨_, Try.func10, by kernel_rfl, by kernel_rfl⟩
attribute [local irreducible] bigB commitR commitB commitN bodyN
theorem gok_none12 {w : World} : GOK gTab (fun _ => True) w := fun q l h => by cases h
end Go.Proofs.Ytbgdlggobbiibaa

/-
  Rows of records that are alike.
-/
namespace Go.Proofs.Ytbgdlggobbiibaa
set_option maxRecDepth 100000
open Go.RowKit Pm
set_option linter.unusedVariables false
set_option linter.unusedSimpArgs false

theorem atK_all {K n : Nat} {zs ys : List Int} (hz : zs.length = n * K) (hy : ys.length = n * K) (hK : 0 < K) (h : ∀ j, j < n → atK K zs j = atK K ys j) : zs = ys := by
  refine List.ext_getElem (by omega) fun i h1 h2 => ?_
  have hi : i / K < n := by rw [Nat.div_lt_iff_lt_mul hK]; omega
  have h3 := h _ hi
  have h4 : ∀ (l : List Int), (atK K l (i / K))[i % K]? = l[i]? := fun l => by
    unfold atK
    rw [List.getElem?_take, if_pos (Nat.mod_lt _ hK), List.getElem?_drop]
    have := Nat.div_add_mod i K
    rw [Nat.mul_comm] at this
    rw [this]
  have h5 := h4 zs
  rw [h3, h4 ys, List.getElem?_eq_getElem h1, List.getElem?_eq_getElem h2] at h5
  exact (Option.some.inj h5).symm
/-- are rows of records one? the first that are not -/
theorem rows_first {K n : Nat} {zs ys : List Int} (hz : zs.length = n * K) (hy : ys.length = n * K) (hK : 0 < K) : ∃ N, N ≤ n ∧ (∀ j, j < N → decide ((zs.drop (j * K)).take K = (ys.drop (j * K)).take K) = true) ∧ (N = n ∧ decide (zs = ys) = true ∨ N < n ∧ decide ((zs.drop (N * K)).take K = (ys.drop (N * K)).take K) = false ∧ decide (zs = ys) = false) := by
  obtain ⟨N, h1, h2, h3⟩ := first_P0 (fun j => !decide (atK K zs j = atK K ys j)) n
  have h2' : ∀ j, j < N → atK K zs j = atK K ys j := fun j hj => by
    have := h2 j hj
    simpa using this
  refine ⟨N, h1, fun j hj => decide_eq_true (h2' j hj), ?_⟩
  rcases h3 with rfl | ⟨h3, h4⟩
  · exact .inl ⟨rfl, decide_eq_true (atK_all hz hy hK h2')⟩
  · have h5 : ¬ atK K zs N = atK K ys N := by simpa using h4
    exact .inr ⟨h3, decide_eq_false h5, decide_eq_false fun e => h5 (by rw [e])⟩
attribute [local irreducible] condK LoopA regA numB numsB boxB anyP idxP mayB
def eqRes (n : Nat) (zs : List Int) (n' : Nat) (ys : List Int) : Bool := decide (n = n') && decide (zs = ys)
set_option maxHeartbeats 4000000 in
theorem sameVotes_ok (n n' : Nat) (zs ys : List Int) (hn : n ≤ 6000) (hn' : n' ≤ 6000) : FnO 25 [.row n [.ints .i64 (n * 3) zs], .row n' [.ints .i64 (n' * 3) ys]] (.d (.v (.bool (eqRes n zs n' ys)))) := by
  refine fn_lens fun hl => ?_
  have hz : zs.length = n * 3 := hl.1.1
  have hy : ys.length = n' * 3 := hl.2.1.1
  clear hl
  refine fnA (E := envCq) Try.func25 Try.ntmps25 ?_
  by_cases e : n = n'
  · subst e
    obtain ⟨N, hN, hno, hend⟩ := rows_first (K := 3) hz hy (by decide)
    have e0 : eqRes n zs n ys = decide (zs = ys) := by unfold eqRes; simp
    rw [e0]
    have hq : (((n : Nat) : Int) != ((n : Nat) : Int)) = false := by simp
    clear e0
    refine agow ?_; (try with_reducible exact True.intro)
    refine StopL.mk (loop_forG [0, 1, 5] [0] N (fun j => ⟨[.d (.row n [.ints .i64 (n * 3) zs]), .d (.row n [.ints .i64 (n * 3) ys]), .dead, .dead, .dead, .d (.v (.int .i64 (j : Nat))), .dead, .dead, .dead, .dead, .dead, .dead, .dead, .dead, .dead, .dead, .dead, .dead, .dead, .dead, .dead, .dead, .dead, .dead, .dead, .dead], [none]⟩) ?_)
    intro j hj hl
    by_cases h : j < N
    · have h1 : (j : Int) < (n : Int) := by omega
      have h2 := hno j h
      clear hend hno
      refine agow ?_; (try with_reducible exact True.intro)
      refine hl.go h [0, 1, 5] [0] ?_
      rfl
    · obtain rfl : N = j := by omega
      rcases hend with ⟨e1, e2⟩ | ⟨h1, h2, e2⟩
      · have h1 : ¬ (N : Int) < (n : Int) := by omega
        rw [e2]
        clear e2 e1 hno
        refine agow ?_; (try with_reducible exact True.intro)
      · have h1 : (N : Int) < (n : Int) := by omega
        rw [e2]
        clear e2 hno
        refine agow ?_; (try with_reducible exact True.intro)
  · have e0 : eqRes n zs n' ys = false := by unfold eqRes; simp [e]
    have hq : (((n : Nat) : Int) != ((n' : Nat) : Int)) = true := by simp; omega
    rw [e0]
    clear e0 e
    refine agow ?_; (try with_reducible exact True.intro)
def eqS (K : Nat) : List A → (Res → Prop) → Prop
  | [.row n [.ints .i64 q zs], .row n' [.ints .i64 q' ys]], C => q = n * K ∧ q' = n' * K ∧ n ≤ 6000 ∧ n' ≤ 6000 ∧ C (.d (.v (.bool (eqRes n zs n' ys))))
  | _, _ => False
theorem eqS_of {f : FuncId} {K : Nat} (h : ∀ (n n' : Nat) (zs ys : List Int), n ≤ 6000 → n' ≤ 6000 → FnO f [.row n [.ints .i64 (n * K) zs], .row n' [.ints .i64 (n' * K) ys]] (.d (.v (.bool (eqRes n zs n' ys))))) : ∀ args C, eqS K args C → ∃ r, FnO f args r ∧ C r := by
  intro args C hd
  unfold eqS at hd
  split at hd
  · obtain ⟨rfl, rfl, h1, h2, hd⟩ := hd; exact ⟨_, h _ _ _ _ h1 h2, hd⟩
  · exact hd.elim
noncomputable def envY1 : EnvX := envCq
noncomputable def envY2 : EnvX := envY1
noncomputable def envY3 : EnvX := envY2.add 25 (eqS 3) (eqS_of sameVotes_ok) ⟨_, Try.func25, by kernel_rfl, by kernel_rfl⟩
/-! boxes -/
def strE (a b : List UInt8) : Bool := (⟨a.toArray⟩ : ByteArray).toList == (⟨b.toArray⟩ : ByteArray).toList
theorem strE_eq (a b : List UInt8) : strE a b = decide (a = b) := by
  unfold strE
  rw [Bool.eq_iff_iff]
  simp
def bequalS : List A → (Res → Prop) → Prop
  | [.row n [.bytes m a], .row n' [.bytes m' b]], C => n = a.length ∧ m = a.length ∧ n' = b.length ∧ m' = b.length ∧ a.length ≤ 140737488355328 ∧ b.length ≤ 140737488355328 ∧ C (.d (.v (.bool (strE a b))))
  | _, _ => False
noncomputable def envY4 : EnvX := envY3
attribute [local irreducible] strE
def eqBx (k : Nat) (bx : Nat → List UInt8) (k' : Nat) (by' : Nat → List UInt8) : Bool := decide (k = k') && !anyP (fun j => !strE (bx j) (by' j)) k
theorem bx_first (k : Nat) (bx by' : Nat → List UInt8) : ∃ N, N ≤ k ∧ (∀ j, j < N → strE (bx j) (by' j) = true) ∧ (N = k ∧ eqBx k bx k by' = true ∨ N < k ∧ strE (bx N) (by' N) = false ∧ eqBx k bx k by' = false) := by
  obtain ⟨N, h1, h2, h3⟩ := first_P0 (fun j => !strE (bx j) (by' j)) k
  refine ⟨N, h1, fun j hj => by simpa using h2 j hj, ?_⟩
  rcases h3 with rfl | ⟨h3, h4⟩
  · exact .inl ⟨rfl, by unfold eqBx; rw [anyP_no h2]; simp⟩
  · exact .inr ⟨h3, by simpa using h4, by unfold eqBx; rw [anyP_at h3 h4]; simp⟩
set_option maxHeartbeats 4000000 in
theorem rsameBoxes_ok (k k' : Nat) (bx by' : Nat → List UInt8) (hk : k ≤ 6000) (hk' : k' ≤ 6000) (hb : ∀ j, j < k → (bx j).length ≤ 6000) (hb' : ∀ j, j < k' → (by' j).length ≤ 6000) : FnO 26 [.recs k 1 (boxF bx), .recs k' 1 (boxF by')] (.d (.v (.bool (eqBx k bx k' by')))) := by
  refine fnA (E := envY4) Try.func26 Try.ntmps26 ?_
  by_cases e : k = k'
  · subst e
    obtain ⟨N, hN, hno, hend⟩ := bx_first k bx by'
    have hq : (((k : Nat) : Int) != ((k : Nat) : Int)) = false := by simp
    refine agow ?_; (try with_reducible exact True.intro)
    refine StopL.mk (loop_forG [0, 1, 5] [0] N (fun j => ⟨[.d (.recs k 1 (boxF bx)), .d (.recs k 1 (boxF by')), .dead, .dead, .dead, .d (.v (.int .i64 (j : Nat))), .dead, .dead, .dead, .dead, .dead, .dead, .dead, .dead, .dead, .dead, .dead, .dead, .dead, .dead, .dead, .dead, .dead, .dead, .dead, .dead, .dead, .dead], [none]⟩) ?_)
    intro j hj hl
    by_cases h : j < N
    · have h1 : (j : Int) < (k : Int) := by omega
      have h2 : (!((⟨(bx j).toArray⟩ : ByteArray).toList == (⟨(by' j).toArray⟩ : ByteArray).toList)) = false := by have := hno j h; unfold strE at this; rw [this]; rfl
      have h3 := hb j (by omega)
      have h4 := hb' j (by omega)
      clear hend hno
      refine agow ?_; (try with_reducible exact True.intro)
      refine hl.go h [0, 1, 5] [0] ?_
      rfl
    · obtain rfl : N = j := by omega
      rcases hend with ⟨e1, e2⟩ | ⟨h1, h2, e2⟩
      · have h1 : ¬ (N : Int) < (k : Int) := by omega
        rw [e2]
        clear e2 e1 hno
        refine agow ?_; (try with_reducible exact True.intro)
      · have h3 := hb N (by omega)
        have h4 := hb' N (by omega)
        have h1 : (N : Int) < (k : Int) := by omega
        have h5 : (!((⟨(bx N).toArray⟩ : ByteArray).toList == (⟨(by' N).toArray⟩ : ByteArray).toList)) = true := by unfold strE at h2; rw [h2]; rfl
        rw [e2]
        clear e2 hno h2
        refine agow ?_; (try with_reducible exact True.intro)
  · have e0 : eqBx k bx k' by' = false := by unfold eqBx; simp [e]
    have hq : (((k : Nat) : Int) != ((k' : Nat) : Int)) = true := by simp; omega
    rw [e0]
    clear e0 e
    refine agow ?_; (try with_reducible exact True.intro)
def rsBxS : List A → (Res → Prop) → Prop
  | [.recs k z f, .recs k' z' g], C => z = 1 ∧ z' = 1 ∧ k ≤ 6000 ∧ k' ≤ 6000 ∧ ∃ bx, f = boxF bx ∧ ∃ by', g = boxF by' ∧ (∀ j, j < k → (bx j).length ≤ 6000) ∧ (∀ j, j < k' → (by' j).length ≤ 6000) ∧ C (.d (.v (.bool (eqBx k bx k' by'))))
  | _, _ => False
theorem rsBxS_ok : ∀ args C, rsBxS args C → ∃ r, FnO 26 args r ∧ C r := by
  intro args C hd
  unfold rsBxS at hd
  split at hd
  · obtain ⟨rfl, rfl, h1, h2, bx, rfl, by', rfl, h3, h4, hd⟩ := hd; exact ⟨_, rsameBoxes_ok _ _ _ _ h1 h2 h3 h4, hd⟩
  · exact hd.elim
noncomputable def envY5 : EnvX := envY4
noncomputable def envY6 : EnvX := envY5.add 26 rsBxS rsBxS_ok ⟨_, Try.func26, by kernel_rfl, by kernel_rfl⟩
end Go.Proofs.Ytbgdlggobbiibaa

/-
  Commits that are one: both programs.
-/
namespace Go.Proofs.Ytbgdlggobbiibaa
set_option maxRecDepth 100000
open Go.RowKit Pm
set_option linter.unusedVariables false
set_option linter.unusedSimpArgs false
attribute [local irreducible] condK LoopA regA numB numsB boxB anyP idxP mayB strE eqRes eqBx

def sameB (c d : CS) : Bool := (c.e == d.e) && ((c.fr == d.fr) && ((c.sl == d.sl) && (eqSegs [.ints .i64 3 [c.p0, c.p1, c.p2]] [.ints .i64 3 [d.p0, d.p1, d.p2]] && (eqSegs [.bytes 32 c.tag] [.bytes 32 d.tag] && (eqSegs [.ints .i64 2 [c.sE, c.sS]] [.ints .i64 2 [d.sE, d.sS]] && (eqRes c.n c.ops d.n d.ops && (eqRes c.m c.vs d.m d.vs && eqBx c.k c.bx d.k d.bx)))))))
set_option maxHeartbeats 8000000 in
theorem rsame_ok (c d : CS) (hc : CSok c) (hd : CSok d) : FnO 8 [.agg (cSegs c), .agg (cSegs d)] (.d (.v (.bool (sameB c d)))) := by
  refine fnA (E := envY6) Try.func8 Try.ntmps8 ?_
  obtain ⟨b1, b2, b3, b4, b5, b6⟩ := hc
  obtain ⟨d1, d2, d3, d4, d5, d6⟩ := hd
  by_cases hn : c.n = d.n
  case neg =>
    have e0 : eqRes c.n c.ops d.n d.ops = false := by unfold eqRes; simp [hn]
    have e1 : sameB c d = false := by simp only [sameB, e0, Bool.false_and, Bool.and_false]
    have hq : (((c.n : Nat) : Int) != ((d.n : Nat) : Int)) = true := by simp; omega
    rw [e1]
    clear e1 e0 hn
    refine agow ?_; (try with_reducible exact True.intro)
  have hq : (((c.n : Nat) : Int) != ((d.n : Nat) : Int)) = false := by simp; omega
  cases h8 : eqRes c.m c.vs d.m d.vs
  case false =>
    have e1 : sameB c d = false := by simp only [sameB, h8, Bool.false_and, Bool.and_false]
    rw [e1]
    clear e1 hn
    refine agow ?_; (try with_reducible exact True.intro)
  cases h9 : eqBx c.k c.bx d.k d.bx
  case false =>
    have e1 : sameB c d = false := by simp only [sameB, h9, Bool.and_false]
    rw [e1]
    clear e1 hn
    refine agow ?_; (try with_reducible exact True.intro)
  obtain ⟨N, hN, hno, hend⟩ := rows_first (K := 5) (n := c.n) b4 (by rw [hn]; exact d4) (by decide)
  have e7 : eqRes c.n c.ops d.n d.ops = decide (c.ops = d.ops) := by unfold eqRes; simp [hn]
  have hnd : c.n ≤ d.n := by omega
  clear hn
  refine agow ?_; (try with_reducible exact True.intro)
  refine StopL.mk (loop_forG [2, 3, 5] [0, 1] N (fun j => ⟨[.dead, .dead, .ptr 0 0, .ptr 1 0, .dead, .d (.v (.int .i64 (j : Nat))), .dead, .dead, .dead, .dead, .dead, .dead, .dead, .dead, .dead, .dead, .dead, .dead, .dead, .dead, .dead, .dead, .dead, .dead, .dead, .dead, .dead, .dead, .dead, .dead, .dead, .dead, .dead, .dead, .dead, .dead, .dead, .dead, .dead, .dead, .dead, .dead, .dead, .dead, .dead, .dead, .dead, .dead, .dead, .dead, .dead, .dead, .dead, .dead, .dead, .dead, .dead, .dead, .dead, .dead, .dead, .dead, .dead, .dead, .dead, .dead, .dead, .dead, .dead, .dead, .dead, .dead, .dead, .dead, .dead, .dead, .dead, .dead, .dead, .dead, .dead, .dead, .dead, .dead, .dead, .dead, .dead], [some (.var (cSegs c)), some (.var (cSegs d))]⟩) ?_)
  intro j hj hl
  by_cases h : j < N
  · have h1 : (j : Int) < (c.n : Int) := by omega
    have h2 := hno j h
    clear hend hno e7
    refine agow ?_; (try with_reducible exact True.intro)
    refine hl.go h [2, 3, 5] [0, 1] ?_
    rfl
  obtain rfl : N = j := by omega
  rcases hend with ⟨e1, e2⟩ | ⟨h1, h2, e2⟩
  · have h1 : ¬ (N : Int) < (c.n : Int) := by omega
    rw [e2] at e7
    clear e2 e1 hno
    cases g1 : (c.e == d.e)
    case false =>
      have e1 : sameB c d = false := by simp only [sameB, g1, Bool.false_and]
      rw [e1]
      clear e1 e7
      refine agow ?_; (try with_reducible exact True.intro)
    cases g2 : (c.fr == d.fr)
    case false =>
      have e1 : sameB c d = false := by simp only [sameB, g2, Bool.false_and, Bool.and_false]
      rw [e1]
      clear e1 e7
      refine agow ?_; (try with_reducible exact True.intro)
    cases g3 : (c.sl == d.sl)
    case false =>
      have e1 : sameB c d = false := by simp only [sameB, g3, Bool.false_and, Bool.and_false]
      rw [e1]
      clear e1 e7
      refine agow ?_; (try with_reducible exact True.intro)
    cases g4 : eqSegs [.ints .i64 3 [c.p0, c.p1, c.p2]] [.ints .i64 3 [d.p0, d.p1, d.p2]]
    case false =>
      have e1 : sameB c d = false := by simp only [sameB, g4, Bool.false_and, Bool.and_false]
      rw [e1]
      clear e1 e7
      refine agow ?_; (try with_reducible exact True.intro)
    cases g5 : eqSegs [.bytes 32 c.tag] [.bytes 32 d.tag]
    case false =>
      have e1 : sameB c d = false := by simp only [sameB, g5, Bool.false_and, Bool.and_false]
      rw [e1]
      clear e1 e7
      refine agow ?_; (try with_reducible exact True.intro)
    have e1 : sameB c d = eqSegs [.ints .i64 2 [c.sE, c.sS]] [.ints .i64 2 [d.sE, d.sS]] := by simp only [sameB, g1, g2, g3, g4, g5, e7, h8, h9, Bool.true_and, Bool.and_true]
    rw [e1]
    clear e1 e7
    refine agow ?_; (try with_reducible exact True.intro)
  · have e1 : sameB c d = false := by simp only [sameB, e7, e2, Bool.false_and, Bool.and_false]
    have h3 : (N : Int) < (c.n : Int) := by omega
    rw [e1]
    clear e1 e7 e2 hno h1
    refine agow ?_; (try with_reducible exact True.intro)
/-- two commits -/
def twoS : List A → (Res → Prop) → Prop
  | [.agg l, .agg m], K => ∃ c, l = cSegs c ∧ ∃ d, m = cSegs d ∧ CSok c ∧ CSok d ∧ K (.d (.v (.bool (sameB c d))))
  | _, _ => False
theorem twoS_of {f : FuncId} (h : ∀ c d, CSok c → CSok d → FnO f [.agg (cSegs c), .agg (cSegs d)] (.d (.v (.bool (sameB c d))))) : ∀ args K, twoS args K → ∃ r, FnO f args r ∧ K r := by
  intro args K hd
  unfold twoS at hd
  split at hd
  · obtain ⟨c, rfl, d, rfl, h1, h2, hd⟩ := hd; exact ⟨_, h _ _ h1 h2, hd⟩
  · exact hd.elim
theorem sameB_refl (c : CS) : sameB c c = true := by
  have h1 : eqRes c.n c.ops c.n c.ops = true := by unfold eqRes; simp
  have h2 : eqRes c.m c.vs c.m c.vs = true := by unfold eqRes; simp
  have h3 : eqBx c.k c.bx c.k c.bx = true := by unfold eqBx; rw [anyP_no fun j hj => by rw [strE_eq]; simp]; simp
  simp [sameB, h1, h2, h3, eqSegs]
end Go.Proofs.Ytbgdlggobbiibaa

/-
  Bytes read one thing after the other: numbers, boxes, sums; what was written is read as it was. No function is named here.
-/
namespace Go.Proofs.Ytbgdlggobbiibaa
set_option maxRecDepth 100000
open Go.RowKit
set_option linter.unusedVariables false
set_option linter.unusedSimpArgs false

theorem isNum_numB' (n : Int) (h : 0 ≤ n ∧ n ≤ 9223372036854775807) : isNum (numB n) = true := by
  unfold isNum
  rw [numB_length]
  have h1 : ((lowB n 56).toNat : Int) = (n / 2 ^ 56) % 256 := lowB_eq n 56
  have h2 : (numB n).getD 0 0 = lowB n 56 := rfl
  rw [h2]
  have : (lowB n 56).toNat ≤ 127 := by
    have e : (2 : Int) ^ 56 = 72057594037927936 := by decide
    rw [e] at h1
    omega
  rw [decide_eq_true this]; rfl
theorem numK_numB' (n : Int) (h : 0 ≤ n ∧ n ≤ 9223372036854775807) : (numK (numB n) : Int) = n := by
  have e : ∀ s, ((lowB n s).toNat : Int) = (n / 2 ^ s) % 256 := fun s => lowB_eq n s
  have e56 := e 56; have e48 := e 48; have e40 := e 40; have e32 := e 32; have e24 := e 24; have e16 := e 16; have e8 := e 8; have e0 := e 0
  have p56 : (2 : Int) ^ 56 = 72057594037927936 := by decide
  have p48 : (2 : Int) ^ 48 = 281474976710656 := by decide
  have p40 : (2 : Int) ^ 40 = 1099511627776 := by decide
  have p32 : (2 : Int) ^ 32 = 4294967296 := by decide
  have p24 : (2 : Int) ^ 24 = 16777216 := by decide
  have p16 : (2 : Int) ^ 16 = 65536 := by decide
  have p8 : (2 : Int) ^ 8 = 256 := by decide
  have p0 : (2 : Int) ^ 0 = 1 := by decide
  rw [p56] at e56; rw [p48] at e48; rw [p40] at e40; rw [p32] at e32; rw [p24] at e24; rw [p16] at e16; rw [p8] at e8; rw [p0] at e0
  simp only [numK, numB, List.foldl_cons, List.foldl_nil]
  omega
theorem byte_ext {a b : UInt8} (h : a.toNat = b.toNat) : a = b := UInt8.toNat_inj.1 h
/-- eight bytes that are a number are that number's -/
theorem numB_numK (b : List UInt8) (h : isNum b = true) : numB (numK b) = b := by
  unfold isNum at h
  simp only [Bool.and_eq_true, beq_iff_eq, decide_eq_true_eq] at h
  obtain ⟨h8, h0⟩ := h
  match b, h8 with
  | [a0, a1, a2, a3, a4, a5, a6, a7], _ =>
  have l0 := UInt8.toNat_lt a0; have l1 := UInt8.toNat_lt a1; have l2 := UInt8.toNat_lt a2; have l3 := UInt8.toNat_lt a3
  have l4 := UInt8.toNat_lt a4; have l5 := UInt8.toNat_lt a5; have l6 := UInt8.toNat_lt a6; have l7 := UInt8.toNat_lt a7
  have e : numK [a0, a1, a2, a3, a4, a5, a6, a7] = ((((((a0.toNat * 256 + a1.toNat) * 256 + a2.toNat) * 256 + a3.toNat) * 256 + a4.toNat) * 256 + a5.toNat) * 256 + a6.toNat) * 256 + a7.toNat := by
    simp only [numK, List.foldl_cons, List.foldl_nil, Nat.zero_mul, Nat.zero_add]
  rw [e]
  generalize hN : ((((((a0.toNat * 256 + a1.toNat) * 256 + a2.toNat) * 256 + a3.toNat) * 256 + a4.toNat) * 256 + a5.toNat) * 256 + a6.toNat) * 256 + a7.toNat = N
  have lw : ∀ s (a : UInt8), ((N : Int) / 2 ^ s) % 256 = (a.toNat : Int) → lowB (N : Int) s = a := fun s a h => byte_ext (by
    have := lowB_eq (N : Int) s
    have h2 : ((lowB (N : Int) s).toNat : Int) = (a.toNat : Int) := by rw [← h]; exact this
    omega)
  have p56 : (2 : Int) ^ 56 = 72057594037927936 := by decide
  have p48 : (2 : Int) ^ 48 = 281474976710656 := by decide
  have p40 : (2 : Int) ^ 40 = 1099511627776 := by decide
  have p32 : (2 : Int) ^ 32 = 4294967296 := by decide
  have p24 : (2 : Int) ^ 24 = 16777216 := by decide
  have p16 : (2 : Int) ^ 16 = 65536 := by decide
  have p8 : (2 : Int) ^ 8 = 256 := by decide
  have p0 : (2 : Int) ^ 0 = 1 := by decide
  unfold numB
  rw [lw 56 a0 (by rw [p56]; omega), lw 48 a1 (by rw [p48]; omega), lw 40 a2 (by rw [p40]; omega), lw 32 a3 (by rw [p32]; omega), lw 24 a4 (by rw [p24]; omega), lw 16 a5 (by rw [p16]; omega), lw 8 a6 (by rw [p8]; omega), lw 0 a7 (by rw [p0]; omega)]
theorem numK_small (b : List UInt8) (h : isNum b = true) : numK b ≤ 9223372036854775807 := by
  unfold isNum at h
  simp only [Bool.and_eq_true, beq_iff_eq, decide_eq_true_eq] at h
  have := numK_bd b h.2 7 (by omega)
  rw [List.take_of_length_le (by omega)] at this
  have e : (128 : Nat) * 256 ^ 7 = 9223372036854775808 := by decide
  omega

/-- bytes that are left; is it bad? -/
structure Rd where
  bs : List UInt8
  bad : Bool
def Rd.ok (R : Rd) (n : Nat) : Bool := !R.bad && decide (n ≤ R.bs.length)
/-- so many bytes -/
def tkV (n : Nat) (R : Rd) : List UInt8 := if R.ok n = true then R.bs.take n else []
def tkN (n : Nat) (R : Rd) : Rd := if R.ok n = true then ⟨R.bs.drop n, false⟩ else ⟨R.bs, true⟩
/-- a number -/
def nmV (R : Rd) : Int := numT (tkV 8 R)
def nmN (R : Rd) : Rd := if isNum (tkV 8 R) = true then tkN 8 R else ⟨(tkN 8 R).bs, true⟩
/-- a number of at most so many -/
def cntV (m : Int) (R : Rd) : Int := if nmV R ≤ m then nmV R else 0
def cntN (m : Int) (R : Rd) : Rd := if nmV R ≤ m then nmN R else ⟨(nmN R).bs, true⟩
/-- numbers, one behind the other -/
def nmsV : Nat → Rd → List Int
  | 0, _ => []
  | k + 1, R => nmV R :: nmsV k (nmN R)
def nmsN : Nat → Rd → Rd
  | 0, R => R
  | k + 1, R => nmsN k (nmN R)
theorem nmsV_length : ∀ (k : Nat) (R : Rd), (nmsV k R).length = k
  | 0, _ => rfl
  | k + 1, R => by simp [nmsV, nmsV_length k]
theorem nmsN_add : ∀ (a b : Nat) (R : Rd), nmsN (a + b) R = nmsN b (nmsN a R)
  | 0, b, R => by rw [Nat.zero_add]; rfl
  | a + 1, b, R => by rw [Nat.succ_add]; exact nmsN_add a b (nmN R)
theorem nmsV_add : ∀ (a b : Nat) (R : Rd), nmsV (a + b) R = nmsV a R ++ nmsV b (nmsN a R)
  | 0, b, R => by rw [Nat.zero_add]; rfl
  | a + 1, b, R => by rw [Nat.succ_add]; show nmV R :: nmsV (a + b) (nmN R) = _; rw [nmsV_add a b]; rfl
/-- a sum -/
def hashV (R : Rd) : List UInt8 := if R.ok 32 = true then R.bs.take 32 else List.replicate 32 0
theorem hashV_length (R : Rd) : (hashV R).length = 32 := by
  unfold hashV
  split
  · next h => unfold Rd.ok at h; simp at h; simp; omega
  · simp
/-- a box: how long, then so many bytes; m: at most so long -/
def boxV (m : Int) (R : Rd) : List UInt8 := tkV (cntV m R).toNat (cntN m R)
def boxN (m : Int) (R : Rd) : Rd := tkN (cntV m R).toNat (cntN m R)
def bxsV (m : Int) : Nat → Rd → List (List UInt8)
  | 0, _ => []
  | k + 1, R => boxV m R :: bxsV m k (boxN m R)
def bxsN (m : Int) : Nat → Rd → Rd
  | 0, R => R
  | k + 1, R => bxsN m k (boxN m R)
theorem bxsV_length (m : Int) : ∀ (k : Nat) (R : Rd), (bxsV m k R).length = k
  | 0, _ => rfl
  | k + 1, R => by simp [bxsV, bxsV_length m k]
theorem bxsN_add (m : Int) : ∀ (a b : Nat) (R : Rd), bxsN m (a + b) R = bxsN m b (bxsN m a R)
  | 0, b, R => by rw [Nat.zero_add]; rfl
  | a + 1, b, R => by rw [Nat.succ_add]; exact bxsN_add m a b (boxN m R)
theorem bxsV_add (m : Int) : ∀ (a b : Nat) (R : Rd), bxsV m (a + b) R = bxsV m a R ++ bxsV m b (bxsN m a R)
  | 0, b, R => by rw [Nat.zero_add]; rfl
  | a + 1, b, R => by rw [Nat.succ_add]; show boxV m R :: bxsV m (a + b) (boxN m R) = _; rw [bxsV_add m a b]; rfl

/-! what is bad stays bad -/
theorem ok_bad {R : Rd} {n : Nat} (h : R.bad = true) : R.ok n = false := by unfold Rd.ok; rw [h]; rfl
theorem tkN_bad {n : Nat} {R : Rd} (h : R.bad = true) : (tkN n R).bad = true := by unfold tkN; rw [ok_bad h]; rfl
theorem isNum_nil : isNum [] = false := rfl
theorem nmN_bad {R : Rd} (h : R.bad = true) : (nmN R).bad = true := by
  unfold nmN tkV; rw [ok_bad h]; rfl
theorem cntN_bad {m : Int} {R : Rd} (h : R.bad = true) : (cntN m R).bad = true := by
  unfold cntN; split
  · exact nmN_bad h
  · rfl
theorem nmsN_bad : ∀ {k : Nat} {R : Rd}, R.bad = true → (nmsN k R).bad = true
  | 0, _, h => h
  | k + 1, _, h => nmsN_bad (k := k) (nmN_bad h)
theorem boxN_bad {m : Int} {R : Rd} (h : R.bad = true) : (boxN m R).bad = true := tkN_bad (cntN_bad h)
theorem bxsN_bad {m : Int} : ∀ {k : Nat} {R : Rd}, R.bad = true → (bxsN m k R).bad = true
  | 0, _, h => h
  | k + 1, _, h => bxsN_bad (k := k) (boxN_bad h)
theorem fine {p : Prop} {b : Bool} (h : b = true → p → False) (h1 : p) : b = false := by cases b; rfl; exact (h rfl h1).elim

/-! bytes that are read are what is told of them -/
theorem tkN_back {n : Nat} {R : Rd} (h : (tkN n R).bad = false) : R.bad = false ∧ R.bs = tkV n R ++ (tkN n R).bs ∧ (tkV n R).length = n := by
  unfold tkN tkV at *
  by_cases h1 : R.ok n = true
  · rw [if_pos h1, if_pos h1]
    unfold Rd.ok at h1
    simp at h1
    refine ⟨h1.1, (List.take_append_drop n R.bs).symm, ?_⟩
    rw [List.length_take]; omega
  · rw [if_neg h1] at h; cases h
theorem nmN_back {R : Rd} (h : (nmN R).bad = false) : R.bad = false ∧ R.bs = numB (nmV R) ++ (nmN R).bs ∧ 0 ≤ nmV R ∧ nmV R ≤ 9223372036854775807 := by
  unfold nmN at *
  by_cases h1 : isNum (tkV 8 R) = true
  · rw [if_pos h1] at *
    obtain ⟨h2, h3, h4⟩ := tkN_back h
    have e : nmV R = (numK (tkV 8 R) : Int) := by unfold nmV numT; rw [if_pos h1]
    have := numK_small _ h1
    refine ⟨h2, ?_, by omega, by omega⟩
    rw [e, numB_numK _ h1]; exact h3
  · rw [if_neg h1] at h; cases h
theorem cntN_back {m : Int} {R : Rd} (h : (cntN m R).bad = false) : R.bad = false ∧ R.bs = numB (cntV m R) ++ (cntN m R).bs ∧ 0 ≤ cntV m R ∧ cntV m R ≤ m ∧ cntV m R ≤ 9223372036854775807 := by
  unfold cntN cntV at *
  by_cases h1 : nmV R ≤ m
  · rw [if_pos h1] at *
    rw [if_pos h1]
    obtain ⟨h2, h3, h4, h5⟩ := nmN_back h
    exact ⟨h2, h3, h4, h1, h5⟩
  · rw [if_neg h1] at h; cases h
theorem nmsN_back : ∀ {k : Nat} {R : Rd}, (nmsN k R).bad = false → R.bad = false ∧ R.bs = numsB (nmsV k R) ++ (nmsN k R).bs ∧ ∀ z ∈ nmsV k R, 0 ≤ z ∧ z ≤ 9223372036854775807
  | 0, R, h => ⟨h, rfl, by simp [nmsV]⟩
  | k + 1, R, h => by
    obtain ⟨h1, h2, h3⟩ := nmsN_back (k := k) (R := nmN R) h
    obtain ⟨h4, h5, h6⟩ := nmN_back h1
    refine ⟨h4, ?_, ?_⟩
    · show R.bs = numsB (nmV R :: nmsV k (nmN R)) ++ (nmsN k (nmN R)).bs
      rw [numsB_cons, List.append_assoc, ← h2]; exact h5
    · intro z hz
      rcases List.mem_cons.1 hz with rfl | hz
      · exact h6
      · exact h3 z hz
theorem hashV_back {R : Rd} (h : (tkN 32 R).bad = false) : R.bad = false ∧ R.bs = hashV R ++ (tkN 32 R).bs := by
  obtain ⟨h1, h2, h3⟩ := tkN_back h
  refine ⟨h1, ?_⟩
  have e : hashV R = tkV 32 R := by
    unfold hashV tkV
    split
    · rfl
    · next h4 => unfold tkN at h; rw [if_neg h4] at h; cases h
  rw [e]; exact h2
theorem boxN_back {m : Int} {R : Rd} (h : (boxN m R).bad = false) : R.bad = false ∧ R.bs = (numB ((boxV m R).length : Int) ++ boxV m R) ++ (boxN m R).bs ∧ ((boxV m R).length : Int) ≤ m ∧ (boxV m R).length ≤ 9223372036854775807 := by
  obtain ⟨h1, h2, h3⟩ := tkN_back h
  obtain ⟨h4, h5, h6, h7, h8⟩ := cntN_back h1
  have e : ((boxV m R).length : Int) = cntV m R := by unfold boxV; rw [h3]; omega
  rw [e]
  refine ⟨h4, ?_, h7, by omega⟩
  rw [List.append_assoc]
  show R.bs = numB (cntV m R) ++ (tkV (cntV m R).toNat (cntN m R) ++ (tkN (cntV m R).toNat (cntN m R)).bs)
  rw [← h2]; exact h5
def bxsB (L : List (List UInt8)) : List UInt8 := L.flatMap fun p => numB (p.length : Int) ++ p
theorem bxsN_back {m : Int} : ∀ {k : Nat} {R : Rd}, (bxsN m k R).bad = false → R.bad = false ∧ R.bs = bxsB (bxsV m k R) ++ (bxsN m k R).bs ∧ ∀ p ∈ bxsV m k R, (p.length : Int) ≤ m
  | 0, R, h => ⟨h, rfl, by simp [bxsV]⟩
  | k + 1, R, h => by
    obtain ⟨h1, h2, h3⟩ := bxsN_back (k := k) (R := boxN m R) h
    obtain ⟨h4, h5, h6, _⟩ := boxN_back h1
    refine ⟨h4, ?_, ?_⟩
    · show R.bs = bxsB (boxV m R :: bxsV m k (boxN m R)) ++ (bxsN m k (boxN m R)).bs
      unfold bxsB at *
      rw [List.flatMap_cons, List.append_assoc, ← h2]; exact h5
    · intro z hz
      rcases List.mem_cons.1 hz with rfl | hz
      · exact h6
      · exact h3 z hz

/-! what was written is read as it was -/
theorem tk_app {n : Nat} {p t : List UInt8} (h : p.length = n) : tkV n ⟨p ++ t, false⟩ = p ∧ tkN n ⟨p ++ t, false⟩ = ⟨t, false⟩ := by
  have h1 : Rd.ok ⟨p ++ t, false⟩ n = true := by unfold Rd.ok; simp; omega
  unfold tkV tkN
  rw [if_pos h1, if_pos h1]
  subst h
  simp
theorem num_app {z : Int} {t : List UInt8} (h : 0 ≤ z ∧ z ≤ 9223372036854775807) : nmV ⟨numB z ++ t, false⟩ = z ∧ nmN ⟨numB z ++ t, false⟩ = ⟨t, false⟩ := by
  obtain ⟨h1, h2⟩ := tk_app (n := 8) (p := numB z) (t := t) (numB_length z)
  unfold nmV nmN numT
  rw [h1, h2, isNum_numB' z h, if_pos rfl, if_pos rfl]
  exact ⟨numK_numB' z h, rfl⟩
theorem cnt_app {m z : Int} {t : List UInt8} (h : 0 ≤ z ∧ z ≤ 9223372036854775807) (hm : z ≤ m) : cntV m ⟨numB z ++ t, false⟩ = z ∧ cntN m ⟨numB z ++ t, false⟩ = ⟨t, false⟩ := by
  obtain ⟨h1, h2⟩ := num_app (t := t) h
  unfold cntV cntN
  rw [h1, if_pos hm, if_pos hm, h2]
  exact ⟨rfl, rfl⟩
theorem nums_app : ∀ {zs : List Int} {t : List UInt8}, (∀ z ∈ zs, 0 ≤ z ∧ z ≤ 9223372036854775807) → nmsV zs.length ⟨numsB zs ++ t, false⟩ = zs ∧ nmsN zs.length ⟨numsB zs ++ t, false⟩ = ⟨t, false⟩
  | [], t, _ => ⟨rfl, rfl⟩
  | z :: zs, t, h => by
    obtain ⟨h1, h2⟩ := num_app (t := numsB zs ++ t) (h z (by simp))
    obtain ⟨h3, h4⟩ := nums_app (zs := zs) (t := t) fun y hy => h y (List.mem_cons_of_mem _ hy)
    rw [numsB_cons, List.append_assoc]
    show nmV _ :: nmsV zs.length (nmN _) = _ ∧ nmsN zs.length (nmN _) = _
    rw [h1, h2, h3, h4]
    exact ⟨rfl, rfl⟩
theorem hash_app {p t : List UInt8} (h : p.length = 32) : hashV ⟨p ++ t, false⟩ = p ∧ tkN 32 ⟨p ++ t, false⟩ = ⟨t, false⟩ := by
  obtain ⟨h1, h2⟩ := tk_app (t := t) h
  refine ⟨?_, h2⟩
  have h3 : Rd.ok ⟨p ++ t, false⟩ 32 = true := by unfold Rd.ok; simp; omega
  unfold hashV
  unfold tkV at h1
  rw [if_pos h3] at *
  exact h1
theorem box_app {m : Int} {p t : List UInt8} (h : (p.length : Int) ≤ m) (h2 : p.length ≤ 9223372036854775807) : boxV m ⟨(numB (p.length : Int) ++ p) ++ t, false⟩ = p ∧ boxN m ⟨(numB (p.length : Int) ++ p) ++ t, false⟩ = ⟨t, false⟩ := by
  rw [List.append_assoc]
  obtain ⟨h3, h4⟩ := cnt_app (m := m) (z := (p.length : Int)) (t := p ++ t) (by omega) h
  unfold boxV boxN
  rw [h3, h4, Int.toNat_natCast]
  exact tk_app rfl
theorem bxs_app {m : Int} : ∀ {L : List (List UInt8)} {t : List UInt8}, (∀ p ∈ L, (p.length : Int) ≤ m ∧ p.length ≤ 9223372036854775807) → bxsV m L.length ⟨bxsB L ++ t, false⟩ = L ∧ bxsN m L.length ⟨bxsB L ++ t, false⟩ = ⟨t, false⟩
  | [], t, _ => ⟨rfl, rfl⟩
  | p :: L, t, h => by
    obtain ⟨h1, h2⟩ := box_app (t := bxsB L ++ t) (h p (by simp)).1 (h p (by simp)).2
    obtain ⟨h3, h4⟩ := bxs_app (L := L) (t := t) fun y hy => h y (List.mem_cons_of_mem _ hy)
    have e : bxsB (p :: L) ++ t = (numB (p.length : Int) ++ p) ++ (bxsB L ++ t) := by unfold bxsB; rw [List.flatMap_cons, List.append_assoc]
    rw [e]
    show boxV m _ :: bxsV m L.length (boxN m _) = _ ∧ bxsN m L.length (boxN m _) = _
    rw [h1, h2, h3, h4]
    exact ⟨rfl, rfl⟩
end Go.Proofs.Ytbgdlggobbiibaa
