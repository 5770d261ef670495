/-
  Slices of records that are handed in.
-/
import Derived.Test.YtcfdlffjghlghaaB13
import Derived.Deep.Slices
namespace Go.Proofs.Ytcfdlffjghlghaa
set_option maxRecDepth 100000
set_option pp.deepTerms true
set_option pp.maxSteps 1000000
open Go.RowKit
set_option linter.unusedVariables false
set_option linter.unusedSimpArgs false

/-- cells that lie in a row -/
theorem lies_cells {w : World} {a : Addr} {cs : List Value} (h : ∀ j (hj : j < cs.length), w.cell? (a.add j) = some cs[j]) (hne : cs ≠ []) : a.spot = none ∧ Lies (fun _ => True) w (some ⟨a.block, a.off, none⟩) cs := by
  have hp : 0 < cs.length := List.length_pos_iff.2 hne
  have hz := h 0 hp
  have hsp : a.spot = none := by
    have h1 := hz
    unfold World.cell? at h1
    split at h1
    · next c t fr hb =>
      by_cases hs : (a.add 0).spot.isSome = true
      · rw [if_pos hs] at h1; cases h1
      · simpa [Addr.add] using hs
    · cases h1
  refine ⟨hsp, .inr ⟨a.block, a.off, rfl, trivial, ?_, fun i hi => ?_⟩⟩
  · have := block_lt_of_cell hz
    simpa [Addr.add] using this
  · have h1 := h i hi
    have e : a.add i = ⟨a.block, a.off + i, none⟩ := by cases a; simp_all [Addr.add]
    rw [e] at h1
    exact h1
/-- a slice of records: each is told by so much -/
theorem open_recs {α : Type} [Inhabited α] {H : Type} {enc : TypeId × Value → H} {P : Program} {w : World} {base b0 : Nat} {held : Bool} {r : Reach} {t e : TypeId} {v : Value} {d : DataW H} {ps : List MemPlace} {s : List (Option IntKind)} {B : Nat} (ht : P.underlying t = some (.slice e)) (hs : sigT P 20 e = some s) (hs0 : s ≠ []) (hB : P.bytesOf e = B) (hB1 : 1 ≤ B)
    (form : α → List Seg) (Ok : α → Prop) (hp : ∀ cs : List Value, cs.map cellKind = s.map some → (∀ u ∈ cs, wfV u) → ∃ x : α, Ok x ∧ RL (fun _ => True) w (form x) cs)
    (hval : Value.okWide P w r b0 t v) (h : DataW.Trod enc P w base (fun _ => true) held t v d ps) (hlt : ∀ n ∈ d.weights P t, n ≤ 140737488351232) :
    ∃ (n : Nat) (f : Nat → α), n ≤ 140737488351232 ∧ (∀ j, j < n → Ok (f j)) ∧ RA (fun _ => True) w (.recs n s.length fun j => form (f j)) v := by
  unfold Value.okWide at hval
  rw [ht] at hval
  obtain ⟨fuel, hf⟩ := h
  have hC : P.cellsOf e = s.length := by
    obtain ⟨_, _, _, hc, _⟩ := sigT_info hs
    exact hc
  rcases Deep.open_slice ht hf with ⟨hcs, _⟩ | ⟨a, len, cap, m, n, D, Pl, hcs, _, hl, hm, hmm, hx, hcell⟩
  · have : v = .slice none 0 0 := by cases v <;> simp_all [Value.cells, Cell.okWide, Cell.ok]
    subst this
    exact ⟨0, fun _ => default, by omega, fun j hj => by omega, .recs (cs := fun _ => []) (fun j hj => by omega) (Nat.le_refl _) (Nat.zero_le _) (fun _ => rfl) (.inl rfl)⟩
  · have hv : v = .slice (some a) len cap := by cases v <;> simp_all [Value.cells, Cell.okWide, Cell.ok]
    subst hv
    simp only [if_true] at hmm
    subst hmm
    simp only [Prod.mk.injEq] at hx
    rw [hx.1] at hlt
    have hwt := weight_of_slice ht hlt
    rw [hB] at hwt
    simp at hwt
    have hlen : len * B ≤ 140737488351232 := Nat.le_trans (Nat.mul_le_mul_right _ (by omega)) hwt
    have hlen2 : len ≤ 140737488351232 := Nat.le_trans (Nat.le_mul_of_pos_right _ (by omega)) hlen
    have each : ∀ j, j < len → ∃ (x : α) (cs : List Value), Ok x ∧ RL (fun _ => True) w (form x) cs ∧ cs.length = s.length ∧ ∀ i (hi : i < cs.length), w.cell? (a.add (j * s.length + i)) = some cs[i] := by
      intro j hj
      obtain ⟨cs', h1, h2⟩ := hcell j (by omega)
      rw [hC] at h1
      obtain ⟨_, h3, h4⟩ := World.cells?_some h1
      obtain ⟨h5, h6⟩ := kinds_of_trod 20 e _ hs h2 (by simpa using h3)
      obtain ⟨x, k1, k2⟩ := hp _ h5 h6
      have h3' : cs'.length = s.length := by simpa using h3
      refine ⟨x, cs', k1, k2, h3', fun i hi => ?_⟩
      have h8 := h4 i (by omega)
      rw [← Addr.add_add, h8]
      first | exact List.getElem?_eq_getElem hi | simp [hi]
    let g : Nat → α := fun j => if hj : j < len then (each j hj).choose else default
    let c : Nat → List Value := fun j => if hj : j < len then (each j hj).choose_spec.choose else []
    have hg : ∀ j (hj : j < len), Ok (g j) ∧ RL (fun _ => True) w (form (g j)) (c j) ∧ (c j).length = s.length ∧ ∀ i (hi : i < (c j).length), w.cell? (a.add (j * s.length + i)) = some (c j)[i] := by
      intro j hj
      have := (each j hj).choose_spec.choose_spec
      simp only [g, c, dif_pos hj]
      exact this
    refine ⟨len, g, hlen2, fun j hj => (hg j hj).1, ?_⟩
    by_cases h0 : len = 0
    · subst h0
      exact .recs (cs := c) (fun j hj => by omega) hl (by omega) (fun h => by cases h) (.inl rfl)
    · have hsp : a.spot = none := by
        obtain ⟨_, _, k3, k4⟩ := hg 0 (by omega)
        refine (lies_cells (w := w) (a := a) (cs := c 0) (fun i hi => ?_) (fun e => hs0 (List.length_eq_zero_iff.1 (by rw [← k3, e]; rfl)))).1
        have := k4 i hi
        rwa [Nat.zero_mul, Nat.zero_add] at this
      have ha : a = ⟨a.block, a.off, none⟩ := by cases a; simp_all
      rw [ha]
      refine .recs (cs := c) (fun j hj => (hg j hj).2.1) hl (by omega) (fun h => by cases h) (.inr ⟨a.block, a.off, rfl, fun j hj => ?_⟩)
      obtain ⟨_, _, k3, k4⟩ := hg j hj
      have := (lies_cells (w := w) (a := a.add (j * s.length)) (cs := c j) (fun i hi => by rw [Addr.add_add]; exact k4 i hi) (fun e => hs0 (List.length_eq_zero_iff.1 (by rw [← k3, e]; rfl)))).2
      have e2 : (a.add (j * s.length)).off = a.off + j * s.length := by rw [ha, add_at]
      have e3 : (a.add (j * s.length)).block = a.block := by rw [ha, add_at]
      rw [e2, e3] at this
      exact this
end Go.Proofs.Ytcfdlffjghlghaa
