/-
  What a slice of whole numbers is, as an argument. No program is named here.
-/
import Derived.Test.YtcfdlffjghlghaaOpen
import Derived.ChangeSame
namespace Go.Proofs.Ytcfdlffjghlghaa
set_option maxRecDepth 100000
open Go.RowKit Go.ChangeShapes Go.WideShapes
set_option linter.unusedVariables false

structure ArgI (w : World) (a : Option Addr) (l c : Nat) (zs : List Int) : Prop where
  len_eq : l = zs.length
  nil : a = none → c = 0
  le : l ≤ c
  small : c ≤ 140737488351232
  cells : zs = [] ∨ ∃ b off, a = some ⟨b, off, none⟩ ∧ ∀ (i : Nat) (h : i < zs.length), w.cell? ⟨b, off + i, none⟩ = some (.int .i64 zs[i]) ∧ (Lit.int .i64 zs[i]).wf = true
theorem ArgI.below {w w' : World} {a : Option Addr} {l c : Nat} {zs : List Int} (h : ArgI w a l c zs) (b : Below w.heap.size w w') : ArgI w' a l c zs := by
  refine ⟨h.len_eq, h.nil, h.le, h.small, ?_⟩
  rcases h.cells with h1 | ⟨g, off, rfl, hc⟩
  · exact .inl h1
  · exact .inr ⟨g, off, rfl, fun i hi => ⟨(b.cell (block_lt_of_cell (hc i hi).1)).trans (hc i hi).1, (hc i hi).2⟩⟩
theorem ArgI.at_ {w : World} {a : Option Addr} {l c : Nat} {zs : List Int} (h : ArgI w a l c zs) (i : Nat) (hi : i < zs.length) : ∃ b off, a = some ⟨b, off, none⟩ ∧ w.cell? ⟨b, off + i, none⟩ = some (.int .i64 zs[i]) ∧ (Lit.int .i64 zs[i]).wf = true := by
  rcases h.cells with h1 | ⟨g, off, h2, hc⟩
  · subst h1; simp at hi
  · exact ⟨g, off, h2, hc i hi⟩

section
variable {H : Type} {enc : TypeId × Value → H} {P : Program} {w : World} {base b0 : Nat} {held : Bool}
theorem argI_of_ints {a : Addr} {n c : Nat} {zs : List Int} (hn : n ≤ zs.length) (hl : n ≤ c) (hs : c ≤ 140737488351232) (hcell : ∀ i, i < zs.length → w.cell? (a.add i) = some (.int .i64 (zs.getD i 0))) (hw : ∀ z ∈ zs, (Lit.int .i64 z).wf = true) :
    ArgI w (some a) n c (zs.take n) := by
  have hlen : (zs.take n).length = n := by rw [List.length_take]; omega
  refine ⟨hlen.symm, (fun h => by cases h), hl, hs, ?_⟩
  by_cases h0 : n = 0
  · left; subst h0; simp
  · right
    have hsp : a.spot = none := by
      have h1 := hcell 0 (by omega)
      unfold World.cell? at h1
      split at h1
      · next c t fr hb =>
        by_cases hs : (a.add 0).spot.isSome = true
        · rw [if_pos hs] at h1; cases h1
        · simpa [Addr.add] using hs
      · cases h1
    refine ⟨a.block, a.off, by cases a; simp_all, fun i hi => ?_⟩
    rw [hlen] at hi
    have h1 := hcell i (by omega)
    have hadd : a.add i = ⟨a.block, a.off + i, none⟩ := by
      unfold Addr.add
      split
      · next h => subst h; cases a; simp_all
      · simp_all
    rw [hadd] at h1
    have hiz : i < zs.length := by omega
    have e : (zs.take n)[i] = zs[i] := by simp
    rw [e]
    refine ⟨?_, hw _ (List.getElem_mem hiz)⟩
    rw [h1, List.getD_eq_getElem?_getD, List.getElem?_eq_getElem hiz, Option.getD_some]

theorem open_nums {r : Reach} {t e : TypeId} {v : Value} {d : DataW H} {ps : List MemPlace} (ht : P.underlying t = some (.slice e)) (hu : P.underlying e = some (.int .i64)) (hc : P.cellsOf e = 1) (hby : P.bytesOf e = 8)
    (hval : Value.okWide P w r b0 t v) (h : DataW.Trod enc P w base (fun _ => true) held t v d ps) (hlt : ∀ n ∈ d.weights P t, n ≤ 140737488351232) : ∃ a l c zs, v = .slice a l c ∧ ArgI w a l c zs := by
  unfold Value.okWide at hval
  rw [ht] at hval
  obtain ⟨fuel, hf⟩ := h
  rcases open_ints ht hu hc hf with ⟨hcs, _⟩ | ⟨a, len, cap, zs, hcs, _, hl, hm, hz, hx, hcell, hw⟩
  · have : v = .slice none 0 0 := by cases v <;> simp_all [Value.cells, Cell.okWide, Cell.ok]
    exact ⟨none, 0, 0, [], this, rfl, fun _ => rfl, Nat.le_refl _, Nat.zero_le _, .inl rfl⟩
  · have : v = .slice (some a) len cap := by cases v <;> simp_all [Value.cells, Cell.okWide, Cell.ok]
    simp only [if_true] at hz
    simp only [Prod.mk.injEq] at hx
    rw [hx.1] at hlt
    have hwt := weight_of_slice ht hlt
    rw [hby] at hwt
    simp [lits] at hwt
    exact ⟨some a, len, cap, _, this, argI_of_ints (by omega) hl (by omega) hcell hw⟩

/-- a struct of two whole numbers -/
theorem open_ii {r : Reach} {t : TypeId} {f0 f1 : Field} {v : Value} {d : DataW H} {ps : List MemPlace} (ht : P.underlying t = some (.struct #[f0, f1])) (hu0 : P.underlying f0.type = some (.int .i64)) (hu1 : P.underlying f1.type = some (.int .i64))
    (hc0 : P.cellsOf f0.type = 1) (hc1 : P.cellsOf f1.type = 1) (ho0 : f0.offset = 0) (ho1 : f1.offset = 1) (hct : P.cellsOf t = 2)
    (hval : Value.okWide P w r b0 t v) (h : DataW.Trod enc P w base (fun _ => true) held t v d ps) : ∃ x y : Int, v = .agg #[.int .i64 x, .int .i64 y] ∧ (Lit.int .i64 x).wf = true ∧ (Lit.int .i64 y).wf = true := by
  unfold Value.okWide at hval
  rw [ht] at hval
  obtain ⟨cs, rfl, hsz, _⟩ := hval
  obtain ⟨fuel, hf⟩ := h
  obtain ⟨y0, y1, n, _, hl, h0, h1⟩ := trod_struct2 ht hf
  obtain ⟨x, hx, _, wx⟩ := DataW.trod_int hu0 h0
  obtain ⟨y, hy, _, wy⟩ := DataW.trod_int hu1 h1
  rw [hct] at hl
  rw [hc0, ho0] at hx
  rw [hc1, ho1] at hy
  refine ⟨x, y, ?_, wx, wy⟩
  obtain ⟨l⟩ := cs
  match l, hl with
  | [a, b], _ =>
    simp [Value.cells] at hx hy
    rw [hx, hy]
end
end Go.Proofs.Ytcfdlffjghlghaa
