/-
  Slices of rows of bytes that a call owns: appended to. No program is named here.
-/
import Derived.Test.YtgghkeinkcpboaaRowC
namespace Go.Proofs.Ytgghkeinkcpboaa
set_option maxRecDepth 100000
open Go.RowKit
set_option linter.unusedVariables false
set_option linter.unusedSimpArgs false

theorem cell_of_heap {w w' : World} {b o : Nat} (h : w'.heap[b]? = w.heap[b]?) : w'.cell? ⟨b, o, none⟩ = w.cell? ⟨b, o, none⟩ := by
  unfold World.cell?
  show (match w'.heap[b]? with | _ => _) = _
  rw [h]
/-- a row of one's own among others -/
structure Row0 (w : World) (B : Nat) (a : Option Addr) (n c : Nat) (bs : List UInt8) : Prop where
  rowc : RowC w a n c bs
  at0 : bs ≠ [] → ∃ g, a = some ⟨g, 0, none⟩ ∧ B ≤ g
theorem Row0.below {w w' : World} {B : Nat} {a : Option Addr} {n c : Nat} {bs : List UInt8} (h : Row0 w B a n c bs) (b : Below w.heap.size w w') : Row0 w' B a n c bs := ⟨h.rowc.below b, h.at0⟩
theorem Row0.base {w : World} {B B' : Nat} {a : Option Addr} {n c : Nat} {bs : List UInt8} (h : Row0 w B a n c bs) (hB : B' ≤ B) : Row0 w B' a n c bs := ⟨h.rowc, fun hn => by obtain ⟨g, h1, h2⟩ := h.at0 hn; exact ⟨g, h1, Nat.le_trans hB h2⟩⟩
theorem Row0.kept {w w' : World} {B : Nat} {a : Option Addr} {n c : Nat} {bs : List UInt8} {r : Option Nat} (h : Row0 w B a n c bs) (hg : w.grownBy w' r) (hne : ∀ g, r = some g → ∀ x, w.cell? ⟨g, 0, none⟩ ≠ some (.int .u8 x)) : Row0 w' B a n c bs := by
  refine ⟨⟨?_, h.rowc.nil⟩, h.at0⟩
  by_cases hb : bs = []
  · have hn := h.rowc.row.len_eq
    subst hb
    rw [show n = 0 from hn]; exact Row8.nil _ _
  obtain ⟨g, rfl, _⟩ := h.at0 hb
  refine ⟨h.rowc.row.len_eq, h.rowc.row.small, .inr ⟨g, 0, rfl, fun i hi => ?_⟩⟩
  rcases h.rowc.row.cells with h1 | ⟨g', off, h1, hc⟩
  · exact absurd h1 hb
  injection h1 with h1; injection h1 with h2 h3; subst h2; subst h3
  have h0 := hc 0 (List.length_pos_iff.2 hb)
  have hlt := block_lt_of_cell h0
  have hr : some g ≠ r := fun e => hne g e.symm _ h0
  rw [cell_of_heap (hg.block g hlt hr)]
  exact hc i hi
def OwnR (w : World) (B : Nat) (e : TypeId) (v : Value) (L : List (List UInt8)) : Prop :=
  (∃ vs : List Value, w.ownsRow B e 1 v L.length vs ∧ ∀ (i : Nat) (h : i < L.length), ∃ a c, vs[i]? = some (.slice a L[i].length c) ∧ Row0 w B a L[i].length c L[i]) ∧ (L = [] → v = .slice none 0 0)
theorem OwnR.nil (w : World) (B : Nat) (e : TypeId) : OwnR w B e (.slice none 0 0) [] := ⟨⟨[], World.ownsRow_nil _ _ _ _, fun i h => by simp at h⟩, fun _ => rfl⟩
theorem OwnR.below {w w' : World} {B : Nat} {e : TypeId} {v : Value} {L : List (List UInt8)} (h : OwnR w B e v L) (b : Below w.heap.size w w') : OwnR w' B e v L := by
  obtain ⟨⟨vs, h1, h2⟩, h3⟩ := h
  refine ⟨⟨vs, World.ownsRow.kept h1 (show w.grownBy w' none from ⟨b.os, b.tape, b.output, b.size, fun k hk _ => b.block k hk⟩) (by cases v.ownBlock <;> simp), fun i hi => ?_⟩, h3⟩
  obtain ⟨a, c, h4, h5⟩ := h2 i hi
  exact ⟨a, c, h4, h5.below b⟩
theorem OwnR.base {w : World} {B B' : Nat} {e : TypeId} {v : Value} {L : List (List UInt8)} (h : OwnR w B e v L) (hB : B' ≤ B) : OwnR w B' e v L := by
  obtain ⟨⟨vs, h1, h2⟩, h3⟩ := h
  refine ⟨⟨vs, ⟨h1.1, h1.2.imp id fun ⟨g, cap, cur, h4, h5, h6⟩ => ⟨g, cap, cur, h4, Nat.le_trans hB h5, h6⟩⟩, fun i hi => ?_⟩, h3⟩
  obtain ⟨a, c, h4, h5⟩ := h2 i hi
  exact ⟨a, c, h4, h5.base hB⟩
/-- a block that was there keeps the rows when it is written -/
theorem OwnR.grown {w w' : World} {B g : Nat} {e : TypeId} {v : Value} {L : List (List UInt8)} (h : OwnR w B e v L) (hg : w.grownBy w' (some g)) (hB : g < B) : OwnR w' B e v L := by
  obtain ⟨⟨vs, h1, h2⟩, h3⟩ := h
  have hv : v.ownBlock ≠ some g := fun hv => by have := (World.ownsRow.lt h1 g hv).1; omega
  refine ⟨⟨vs, World.ownsRow.kept h1 hg (.inr hv), fun i hi => ?_⟩, h3⟩
  obtain ⟨a, c, h4, h5⟩ := h2 i hi
  refine ⟨a, c, h4, ⟨⟨?_, h5.rowc.nil⟩, h5.at0⟩⟩
  by_cases hb : L[i] = []
  · rw [hb]; exact Row8.nil _ _
  obtain ⟨g', rfl, hg'⟩ := h5.at0 hb
  exact h5.rowc.row.grown hg fun x hx => by injection hx with hx; subst hx; show g' ≠ g; omega
theorem OwnR.toN {w : World} {B : Nat} {e : TypeId} {v : Value} {L : List (List UInt8)} (h : OwnR w B e v L) (hs : L.length ≤ 1000000) : ∃ a c, v = .slice a L.length c ∧ RowN w a L.length L ∧ (a = none → c = 0) ∧ L.length ≤ c := by
  obtain ⟨⟨vs, h1, h2⟩, h3⟩ := h
  by_cases hL : L = []
  · subst hL
    exact ⟨none, 0, h3 rfl, ⟨rfl, by simp, .inl rfl⟩, fun _ => rfl, Nat.le_refl _⟩
  have hpos := List.length_pos_iff.2 hL
  rcases h1.2 with ⟨_, h0⟩ | ⟨g, cap, cur, rfl, hb, hg, h4, h5, _⟩
  · omega
  refine ⟨_, cap, rfl, ⟨rfl, by simp only [maxLen]; omega, .inr ⟨g, 0, rfl, fun i hi => ?_⟩⟩, (fun e => by cases e), h4⟩
  obtain ⟨a, c, h6, h7⟩ := h2 i hi
  refine ⟨a, _, c, ?_, h7.rowc⟩
  have h8 := World.ownsRow.cells h1 (g := g) rfl i _ h6
  have hadd : (⟨g, 0, none⟩ : Addr).add i = ⟨g, 0 + i, none⟩ := by unfold Addr.add; split <;> simp_all
  rwa [hadd] at h8
/-- a row appended to rows of the call's own -/
theorem wpList_appendR {P : Program} {w : World} {ops : Array Oper} {rest : List Oper} {o : Oper} {a : Act} {Q : Exit → Act → World → Prop} (hgd : o.guard = none) (s x : Operand) (t : TypeId)
    (ho : o.op = .call { callee := .builtin .append, args := #[s, x], argTypes := #[t, t] })
    (base : Nat) (e : TypeId) (ht : P.underlying t = some (.slice e)) (hinfo : (P.info? e).map (fun i => (i.zero, i.size, i.bytes)) = some (some (.slice none 0 0), 1, 24))
    (v : Value) (L : List (List UInt8)) (hs : a.eval s = v) (hown : OwnR w base e v L)
    (g : Nat) (ad : Option Addr) (n c : Nat) (bs : List UInt8) (hx : a.eval x = .slice (some ⟨g, 0, none⟩) 1 1) (hcell : w.cell? ⟨g, 0, none⟩ = some (.slice ad n c)) (hr : Row0 w base ad n c bs)
    (hlen : L.length ≤ 1000000) (hbase : base ≤ w.heap.size)
    (h : ∀ v' w', OwnR w' base e v' (L ++ [bs]) → w.grownBy w' v.ownBlock → Below base w w' → wpList P ops Q rest (a.put o.dst v') w') : wpList P ops Q (o :: rest) a w := by
  obtain ⟨i0, hi, hz0, hz1, hz2⟩ := info_parts hinfo
  obtain ⟨⟨vs, h1, h2⟩, h3⟩ := hown
  refine wpList_append_own w hgd s x t ho base e i0 (.slice none 0 0) 1 24 ht hi hz0 hz1 hz2 rfl (by decide) v L.length vs hs h1 ⟨g, 0, none⟩ 1 1 [.slice ad n c] hx rfl ?_ (fun u hu => by simp at hu; subst hu; rfl) (by simp only [maxLen]; omega) (by omega) hbase ?_
  · intro j u hu
    match j, hu with
    | 0, hu =>
      simp at hu; subst hu
      have hadd : (⟨g, 0, none⟩ : Addr).add 0 = ⟨g, 0, none⟩ := by unfold Addr.add; split <;> simp_all
      rw [hadd]; exact hcell
    | j + 1, hu => simp at hu
  · intro v' w' h4 h5 h6
    have hne : ∀ g', v.ownBlock = some g' → ∀ x, w.cell? ⟨g', 0, none⟩ ≠ some (.int .u8 x) := by
      intro g' hg' y hy
      by_cases hL : L = []
      · rw [h3 hL] at hg'; cases hg'
      have hpos := List.length_pos_iff.2 hL
      obtain ⟨a0, c0, h7, _⟩ := h2 0 hpos
      rcases h1.2 with ⟨hv, _⟩ | ⟨g2, cap, cur, hv, _⟩
      · rw [hv] at hg'; cases hg'
      · subst hv
        have hgg : g2 = g' := by injection hg'
        subst hgg
        have h8 := World.ownsRow.cells h1 (g := g2) rfl 0 _ h7
        have hadd : (⟨g2, 0, none⟩ : Addr).add 0 = ⟨g2, 0, none⟩ := by unfold Addr.add; split <;> simp_all
        rw [hadd, hy] at h8; cases h8
    have hl : vs.length = L.length := by have := h1.1; omega
    refine h v' w' ⟨⟨vs ++ [.slice ad n c], by rw [List.length_append]; exact h4, fun i hi => ?_⟩, fun hL => by simp at hL⟩ h5 ((Below.refl base w).grown h5 hbase (fun k hk => (World.ownsRow.lt h1 k hk).1))
    rw [List.length_append] at hi
    by_cases hlt : i < L.length
    · obtain ⟨a1, c1, h7, h8⟩ := h2 i hlt
      refine ⟨a1, c1, ?_, ?_⟩
      · rw [List.getElem?_append_left (by omega), List.getElem_append_left hlt]; exact h7
      · rw [List.getElem_append_left hlt]; exact h8.kept h5 hne
    · have hil : i = L.length := by simp at hi; omega
      subst hil
      refine ⟨ad, c, ?_, ?_⟩
      · rw [List.getElem?_append_right (by omega), hl, Nat.sub_self, List.getElem_append_right (Nat.le_refl _)]
        simp [hr.rowc.row.len_eq]
      · rw [List.getElem_append_right (Nat.le_refl _)]
        simp only [Nat.sub_self, List.getElem_cons_zero]
        have hk := hr.kept h5 hne
        have hn := hr.rowc.row.len_eq
        subst hn; exact hk
/-- a slice of one row, new -/
def isRow1 (B n : Nat) (bs : List UInt8) (v : Value) (w : World) : Prop := ∃ g a c, v = .slice (some ⟨g, 0, none⟩) 1 1 ∧ w.cell? ⟨g, 0, none⟩ = some (.slice a n c) ∧ Row0 w B a n c bs
theorem bm_row1 (B n : Nat) (bs : List UInt8) : BM (isRow1 B n bs) := fun _ _ _ hb ⟨g, a, c, h1, h2, h3⟩ => ⟨g, a, c, h1, (hb.cell (block_lt_of_cell h2)).trans h2, h3.below hb⟩
def isOwnR (B : Nat) (e : TypeId) (L : List (List UInt8)) (v : Value) (w : World) : Prop := OwnR w B e v L
theorem bm_ownR (B : Nat) (e : TypeId) (L : List (List UInt8)) : BM (isOwnR B e L) := fun _ _ _ hb h => OwnR.below h hb
theorem GrowsT.appendR {Ts : List TypeId} {B : Nat} {w w' : World} {e : TypeId} {v : Value} {L : List (List UInt8)} (ho : OwnR w B e v L) (he : e ∈ Ts) (hg : w.grownBy w' v.ownBlock) (hb : Below B w w') : GrowsT Ts B w w' := by
  obtain ⟨⟨vs, h1, _⟩, _⟩ := ho
  refine ⟨hb, fun g cs t fr ht hgt => ?_⟩
  have hne : v.ownBlock ≠ some g := by
    intro hv
    rcases h1.2 with ⟨h2, _⟩ | ⟨g', cap, cur, h2, _, h3, _, _, _, _⟩
    · rw [h2] at hv; cases hv
    · rw [h2] at hv
      have hgg : g' = g := by injection hv
      rw [hgg, hgt] at h3
      have h4 := Option.some.inj h3
      injection h4 with h5 h6
      exact ht (h6 ▸ he)
  exact ⟨fr, (hg.block g (Array.getElem?_eq_some_iff.1 hgt).1 (fun h => hne h.symm)).trans hgt⟩
end Go.Proofs.Ytgghkeinkcpboaa
