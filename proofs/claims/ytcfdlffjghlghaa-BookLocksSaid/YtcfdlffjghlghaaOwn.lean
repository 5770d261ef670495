/-
  Bytes that a call owns: appended to. No program is named here.
-/
import Derived.Test.YtcfdlffjghlghaaSpWords
import Derived.OwnWalk
import Derived.Laws.AppendOwnNone
namespace Go.Proofs.Ytcfdlffjghlghaa
set_option maxRecDepth 100000
open Go.RowKit

/-- bytes as a list of cells -/
def HL (l : List UInt8) : List Value := l.map fun b => Value.int .u8 (Bt b)
theorem HL_length (l : List UInt8) : (HL l).length = l.length := by simp [HL]
theorem HL_append (l m : List UInt8) : HL (l ++ m) = HL l ++ HL m := by simp [HL]
theorem HL_get (l : List UInt8) (i : Nat) : (HL l)[i]? = (l[i]?).map fun b => Value.int .u8 (Bt b) := by simp [HL]
theorem HL_one (l : List UInt8) : ∀ u ∈ HL l, u.oneCell' = true := by
  intro u hu
  simp only [HL, List.mem_map] at hu
  obtain ⟨b, _, rfl⟩ := hu
  rfl
theorem HC_toList (l : List UInt8) : (HC l).toList = HL l := by simp [HC, HL]

/-- the slice v is the call's own and reads as these bytes -/
def Own8 (w : World) (base : Nat) (e : TypeId) (v : Value) (bs : List UInt8) : Prop := w.ownsRow base e 1 v bs.length (HL bs)

theorem Own8.lit (w : World) (base : Nat) (e : TypeId) (bs : List UInt8) (hb : base ≤ w.heap.size) (hm : bs.length ≤ maxLen) :
    Own8 (w.alloc (.cells (HC bs) e)) base e (.slice (some ⟨w.heap.size, 0, none⟩) bs.length bs.length) bs := by
  have := World.ownsRow_lit (base := base) (e := e) (size := 1) w (HC bs) bs.length hb hm (by rw [HC_size, Nat.mul_one])
  rw [HC_toList] at this
  exact this
theorem Own8.litAt {w : World} {g n base : Nat} {e : TypeId} (bs : List UInt8) (cs : Array Value) (hc : cs = HC bs) (hg : g = w.heap.size) (hn : n = bs.length) (hb : base ≤ w.heap.size) (hm : bs.length ≤ maxLen) :
    Own8 (w.alloc (.cells cs e)) base e (.slice (some ⟨g, 0, none⟩) n n) bs := by
  subst hc hg hn
  exact Own8.lit w base e bs hb hm
theorem Row8.litAt {w : World} {g n : Nat} {e : TypeId} (bs : List UInt8) (cs : Array Value) (hc : cs = HC bs) (hg : g = w.heap.size) (hn : n = bs.length) (hm : bs.length ≤ maxLen) :
    Row8 (w.alloc (.cells cs e)) (some ⟨g, 0, none⟩) n bs := by
  subst hc hg hn
  refine ⟨rfl, hm, .inr ⟨w.heap.size, 0, rfl, fun i hi => ?_⟩⟩
  rw [Nat.zero_add, cell_of_row _ _ i _ _ _ (Blk.new w (HC bs) e)]
  exact HC_get_lt bs i hi
theorem small8 (bs : List UInt8) (h : bs.length ≤ 1000) : bs.length ≤ maxLen := by simp only [maxLen]; omega
theorem Own8.kept {w w' : World} {base : Nat} {e : TypeId} {v : Value} {bs : List UInt8} {r : Option Nat} (h : Own8 w base e v bs) (hg : w.grownBy w' r) (hne : v.ownBlock = none ∨ v.ownBlock ≠ r) : Own8 w' base e v bs := World.ownsRow.kept h hg hne
theorem Own8.below {w w' : World} {base : Nat} {e : TypeId} {v : Value} {bs : List UInt8} (h : Own8 w base e v bs) (b : Below w.heap.size w w') : Own8 w' base e v bs :=
  h.kept (r := none) ⟨b.os, b.tape, b.output, b.size, fun k hk _ => b.block k hk⟩ (by cases v.ownBlock <;> simp)
/-- a byte at least is owned: there is a block -/
theorem Own8.has {w : World} {base : Nat} {e : TypeId} {v : Value} {bs : List UInt8} (h : Own8 w base e v bs) (hn : bs ≠ []) :
    ∃ g cap, v = .slice (some ⟨g, 0, none⟩) bs.length cap ∧ base ≤ g ∧ g < w.heap.size ∧ bs.length ≤ cap ∧ cap ≤ maxLen := by
  rcases h.2 with ⟨_, h0⟩ | ⟨g, cap, cur, rfl, hb, hg, h1, h2, _⟩
  · exact absurd (List.length_eq_zero_iff.1 h0) hn
  · exact ⟨g, cap, rfl, hb, (Array.getElem?_eq_some_iff.1 hg).1, h1, h2⟩
theorem Own8.hasN {w : World} {base : Nat} {e : TypeId} {v : Value} {bs : List UInt8} (h : Own8 w base e v bs) (n : Nat) (hl : n = bs.length) (hn : 0 < n) :
    ∃ g cap, v = .slice (some ⟨g, 0, none⟩) n cap ∧ base ≤ g ∧ g < w.heap.size ∧ n ≤ cap ∧ cap ≤ maxLen := by
  subst hl
  exact h.has (List.length_pos_iff.1 hn)
theorem Own8.row {w : World} {base g cap n : Nat} {e : TypeId} {bs : List UInt8} (h : Own8 w base e (.slice (some ⟨g, 0, none⟩) n cap) bs) (hm : bs.length ≤ maxLen) (hn : n = bs.length) : Row8 w (some ⟨g, 0, none⟩) n bs := by
  refine ⟨hn, hm, .inr ⟨g, 0, rfl, fun i hi => ?_⟩⟩
  have h2 := World.ownsRow.cells h (g := g) rfl i (.int .u8 (Bt bs[i])) (by rw [HL_get, List.getElem?_eq_getElem hi]; rfl)
  have hadd : (⟨g, 0, none⟩ : Addr).add i = ⟨g, 0 + i, none⟩ := by unfold Addr.add; split <;> simp_all
  rwa [hadd] at h2

/-- bytes appended to bytes of the call's own -/
theorem wpList_append8 {P : Program} {w : World} {ops : Array Oper} {rest : List Oper} {o : Oper} {a : Act} {Q : Exit → Act → World → Prop} (hgd : o.guard = none) (s x : Operand) (t : TypeId)
    (ho : o.op = .call { callee := .builtin .append, args := #[s, x], argTypes := #[t, t] })
    (base : Nat) (e : TypeId) (ht : P.underlying t = some (.slice e)) (hinfo : (P.info? e).map (fun i => (i.zero, i.size, i.bytes)) = some (some (.int .u8 0), 1, 1))
    (v : Value) (bs : List UInt8) (hs : a.eval s = v) (hown : Own8 w base e v bs)
    (ad : Option Addr) (m c : Nat) (bs2 : List UInt8) (hx : a.eval x = .slice ad m c) (hr : Row8 w ad m bs2) (hnil : ad = none → c = 0)
    (hlen : bs.length + bs2.length ≤ 140737488355328) (hbase : base ≤ w.heap.size)
    (h : ∀ v' w', Own8 w' base e v' (bs ++ bs2) → w.grownBy w' v.ownBlock → Below base w w' → wpList P ops Q rest (a.put o.dst v') w') : wpList P ops Q (o :: rest) a w := by
  have hbel : ∀ w', w.grownBy w' v.ownBlock → Below base w w' := fun w' hg => (Below.refl base w).grown hg hbase (fun k hk => (World.ownsRow.lt hown k hk).1)
  obtain ⟨i0, hi, hz0, hz1, hz2⟩ := info_parts hinfo
  have hm := hr.len_eq
  subst hm
  cases ad with
  | none =>
    have hc := hnil rfl
    subst hc
    have hb2 : bs2 = [] := by rcases hr.cells with h1 | ⟨b, off, h1, _⟩; exact h1; cases h1
    subst hb2
    refine wpList_append_own_none hgd s x t ho base e i0 1 ht hi v bs.length (HL bs) hs hown hx (h v w ?_ ⟨rfl, rfl, rfl, Nat.le_refl _, fun _ _ _ => rfl⟩ (Below.refl _ _))
    rw [List.append_nil]; exact hown
  | some ad =>
    refine wpList_append_own w hgd s x t ho base e i0 (.int .u8 0) 1 1 ht hi hz0 hz1 hz2 rfl (by decide) v bs.length (HL bs) hs hown ad bs2.length c (HL bs2) hx (by rw [HL_length, Nat.mul_one]) ?_ (HL_one _) (by simp only [maxLen]; omega) (by omega) hbase ?_
    · intro j u hu
      rcases hr.cells with h1 | ⟨b, off, h1, hc⟩
      · subst h1; simp [HL] at hu
      · injection h1 with h1
        subst h1
        rw [HL_get] at hu
        by_cases hj : j < bs2.length
        · rw [List.getElem?_eq_getElem hj] at hu
          injection hu with hu
          have hadd : (⟨b, off, none⟩ : Addr).add j = ⟨b, off + j, none⟩ := by unfold Addr.add; split <;> simp_all
          rw [hadd, hc j hj]; exact congrArg some hu
        · rw [List.getElem?_eq_none (by omega)] at hu; cases hu
    · intro v' w' h1 h2 _
      refine h v' w' ?_ h2 (hbel _ h2)
      unfold Own8
      rw [List.length_append, HL_append]
      exact h1
/-- what own bytes look like from outside -/
theorem Own8.forms {w : World} {base : Nat} {e : TypeId} {v : Value} {bs : List UInt8} (h : Own8 w base e v bs) (hm : bs.length ≤ maxLen) : ∃ a c, v = .slice a bs.length c ∧ Row8 w a bs.length bs ∧ (a = none → c = 0) := by
  by_cases hb : bs = []
  · subst hb
    rcases h.2 with ⟨h1, _⟩ | ⟨g, cap, cur, h1, _⟩
    · exact ⟨none, 0, h1, Row8.nil _ _, fun _ => rfl⟩
    · exact ⟨_, cap, h1, Row8.nil _ _, fun e => by cases e⟩
  · obtain ⟨g, cap, rfl, _, _, _, _⟩ := h.has hb
    exact ⟨_, cap, rfl, h.row hm rfl, fun e => by cases e⟩
theorem Row8.ofBlk {w : World} {g : Nat} {bs : List UInt8} {t : TypeId} (h : Blk w g (HC bs) t) (hs : bs.length ≤ maxLen) (n : Nat) (hn : n = bs.length) : Row8 w (some ⟨g, 0, none⟩) n bs :=
  ⟨hn, hs, .inr ⟨g, 0, rfl, fun i hi => by rw [Nat.zero_add]; exact (h.cell i).trans (HC_get_lt bs i hi)⟩⟩
end Go.Proofs.Ytcfdlffjghlghaa
