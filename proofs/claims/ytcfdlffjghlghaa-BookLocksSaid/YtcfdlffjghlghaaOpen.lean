/-
  Arguments opened: arrays of bytes and of words, slices of bytes, slices of these. No program is named here.
-/
import Derived.Test.YtcfdlffjghlghaaRowR
import Derived.OpenShut
import Derived.ChangeSlices
import Derived.Deep.Matrix
import Derived.SizedLaws
namespace Go.Proofs.Ytcfdlffjghlghaa
set_option maxRecDepth 100000
open Go.RowKit Go.ChangeShapes Go.WideShapes

/-- numbers of a byte's range as bytes -/
def toB (l : List Int) : List UInt8 := l.map fun z => UInt8.ofNat z.toNat
theorem toB_length (l : List Int) : (toB l).length = l.length := by simp [toB]
theorem Bt_of {z : Int} (h : (Lit.int .u8 z).wf = true) : Bt (UInt8.ofNat z.toNat) = z := by
  have := bounds_u8 h
  unfold Bt
  rw [UInt8.toNat_ofNat']
  omega
theorem U_of {z : Int} (h : (Lit.int .u64 z).wf = true) : ∃ x : BitVec 64, z = U x := by
  have := bounds_u64 h
  refine ⟨BitVec.ofNat 64 z.toNat, ?_⟩
  rw [U_def, BitVec.toNat_ofNat]
  omega
theorem all_ints {k : IntKind} : ∀ (l : List Value), (∀ i, i < l.length → ∃ n, l[i]? = some (.int k n) ∧ (Lit.int k n).wf = true) → ∃ ns : List Int, l = ns.map (.int k) ∧ ∀ n ∈ ns, (Lit.int k n).wf = true
  | [], _ => ⟨[], rfl, by simp⟩
  | v :: r, h => by
    obtain ⟨n, h0, hw⟩ := h 0 (by simp)
    obtain ⟨ns, h1, h2⟩ := all_ints r fun i hi => by simpa using h (i + 1) (by simp; omega)
    simp only [List.getElem?_cons_zero, Option.some.injEq] at h0
    exact ⟨n :: ns, by rw [h0, h1]; rfl, by
      intro m hm
      rcases List.mem_cons.1 hm with rfl | hm
      · exact hw
      · exact h2 m hm⟩

section
variable {H : Type} {enc : TypeId × Value → H} {P : Program} {w : World} {base b0 : Nat} {spare : Nat → Bool} {held : Bool}

theorem open_ints_array {r : Reach} {t e : TypeId} {k : IntKind} {n : Nat} {v : Value} {d : DataW H} {ps : List MemPlace} (ht : P.underlying t = some (.array n e)) (hu : P.underlying e = some (.int k)) (hc : P.cellsOf e = 1) (hct : P.cellsOf t = n)
    (hval : Value.okWide P w r b0 t v) (h : DataW.Trod enc P w base spare held t v d ps) : ∃ ns : List Int, v = .agg (ns.map (.int k)).toArray ∧ ns.length = n ∧ ∀ z ∈ ns, (Lit.int k z).wf = true := by
  unfold Value.okWide at hval
  rw [ht] at hval
  obtain ⟨cs, rfl, hsz, _⟩ := hval
  obtain ⟨fuel, hf⟩ := h
  obtain ⟨xs, m, _, _, hl, hxl, hel⟩ := DataW.trod_array ht hf
  have hcl : cs.toList.length = n := by rw [← hct, ← hsz]; simp
  obtain ⟨ns, h1, h2⟩ := all_ints (k := k) cs.toList fun i hi => by
    rw [hcl] at hi
    have h3 := hel i hi
    rw [List.getElem?_eq_getElem (by omega)] at h3
    obtain ⟨z, h4, _, h5⟩ := DataW.trod_int hu h3
    refine ⟨z, ?_, h5⟩
    rw [hc, Nat.mul_one, show (Value.agg cs).cells = cs from rfl, List.drop_eq_getElem_cons (by omega), List.take_succ_cons, List.take_zero] at h4
    rw [List.getElem?_eq_getElem (by omega)]
    exact congrArg some (by simpa using h4)
  refine ⟨ns, ?_, ?_, h2⟩
  · rw [← h1]
  · rw [← hcl, h1, List.length_map]

theorem open_hash {r : Reach} {t e : TypeId} {v : Value} {d : DataW H} {ps : List MemPlace} (ht : P.underlying t = some (.array 32 e)) (hu : P.underlying e = some (.int .u8)) (hc : P.cellsOf e = 1) (hct : P.cellsOf t = 32)
    (hval : Value.okWide P w r b0 t v) (h : DataW.Trod enc P w base spare held t v d ps) : ∃ bs : List UInt8, v = HV bs ∧ bs.length = 32 := by
  obtain ⟨ns, rfl, hl, hw⟩ := open_ints_array ht hu hc hct hval h
  refine ⟨toB ns, ?_, by rw [toB_length, hl]⟩
  unfold HV HC toB
  rw [List.map_map]
  congr 2
  refine List.map_congr_left fun z hz => ?_
  show Value.int .u8 z = Value.int .u8 (Bt (UInt8.ofNat z.toNat))
  rw [Bt_of (hw z hz)]
theorem open_words {r : Reach} {t e : TypeId} {v : Value} {d : DataW H} {ps : List MemPlace} (ht : P.underlying t = some (.array 5 e)) (hu : P.underlying e = some (.int .u64)) (hc : P.cellsOf e = 1) (hct : P.cellsOf t = 5)
    (hval : Value.okWide P w r b0 t v) (h : DataW.Trod enc P w base spare held t v d ps) : ∃ x : W5, v = V5 x := by
  obtain ⟨ns, rfl, hl, hw⟩ := open_ints_array ht hu hc hct hval h
  match ns, hl with
  | [a, b, c, d, e], _ =>
    obtain ⟨xa, rfl⟩ := U_of (hw a (by simp))
    obtain ⟨xb, rfl⟩ := U_of (hw b (by simp))
    obtain ⟨xc, rfl⟩ := U_of (hw c (by simp))
    obtain ⟨xd, rfl⟩ := U_of (hw d (by simp))
    obtain ⟨xe, rfl⟩ := U_of (hw e (by simp))
    exact ⟨⟨xa, xb, xc, xd, xe⟩, rfl⟩

/-- each weight of an argument is within the form's reach -/
theorem light {ts : List TypeId} {ds : List (DataW H)} (hsz : (DataW.weightsEach P ts ds).all (· ≤ reachBytes) = true) (j : Nat) {t : TypeId} {d : DataW H} (ht : ts[j]? = some t) (hd : ds[j]? = some d) : ∀ n ∈ d.weights P t, n ≤ 140737488351232 := fun n hn => by
  have := List.all_eq_true.1 hsz _ (DataW.weights_mem_each ht hd n hn)
  exact of_decide_eq_true this
theorem weight_of_slice {t e : TypeId} {xs ys : List (DataW H)} (ht : P.underlying t = some (.slice e)) (h : ∀ n ∈ (DataW.slice xs ys).weights P t, n ≤ 140737488351232) : (xs.length + ys.length) * P.bytesOf e ≤ 140737488351232 :=
  h _ (by simp [DataW.weights, ht])
theorem weight_of_elem {t e : TypeId} {xs ys : List (DataW H)} (ht : P.underlying t = some (.slice e)) (h : ∀ n ∈ (DataW.slice xs ys).weights P t, n ≤ 140737488351232) : ∀ d ∈ xs, ∀ n ∈ d.weights P e, n ≤ 140737488351232 := by
  have hall : ∀ (l : List (DataW H)), (∀ n ∈ DataW.weightsAll P e l, n ≤ 140737488351232) → ∀ d ∈ l, ∀ n ∈ d.weights P e, n ≤ 140737488351232 := by
    intro l
    induction l with
    | nil => intro _ d hd; cases hd
    | cons a r ih =>
      intro hl d hd
      simp only [DataW.weightsAll, List.mem_append] at hl
      rcases List.mem_cons.1 hd with rfl | hd
      · exact fun n hn => hl n (.inl hn)
      · exact ih (fun n hn => hl n (.inr hn)) d hd
  refine hall xs fun n hn => h n ?_
  simp [DataW.weights, ht, hn]

/-- what a slice of bytes is, as an argument -/
structure Arg8 (w : World) (a : Option Addr) (l c : Nat) (bs : List UInt8) : Prop where
  row : Row8 w a l bs
  nil : a = none → c = 0
  le : l ≤ c
  small : c ≤ 140737488351232

theorem row8_of_ints {a : Addr} {n : Nat} {zs : List Int} (hn : n ≤ zs.length) (hm : n ≤ maxLen) (hcell : ∀ i, i < zs.length → w.cell? (a.add i) = some (.int .u8 (zs.getD i 0))) (hw : ∀ z ∈ zs, (Lit.int .u8 z).wf = true) :
    Row8 w (some a) n ((toB zs).take n) := by
  have hlen : ((toB zs).take n).length = n := by rw [List.length_take, toB_length]; omega
  refine ⟨hlen.symm, by rw [hlen]; exact hm, ?_⟩
  by_cases h0 : n = 0
  · left; subst h0; simp
  · right
    have hsp : a.spot = none := by
      have h1 := hcell 0 (by omega)
      unfold World.cell? at h1
      split at h1
      · next c t fr hb =>
        by_cases hs : (a.add 0).spot.isSome = true
        · rw [if_pos hs] at h1; cases h1
        · simpa [Addr.add] using hs
      · cases h1
    refine ⟨a.block, a.off, by cases a; simp_all, fun i hi => ?_⟩
    rw [hlen] at hi
    have h1 := hcell i (by omega)
    have hadd : a.add i = ⟨a.block, a.off + i, none⟩ := by
      unfold Addr.add
      split
      · next h => subst h; cases a; simp_all
      · simp_all
    rw [hadd] at h1
    rw [h1]
    have hiz : i < zs.length := by omega
    congr 2
    rw [List.getElem_take, List.getD_eq_getElem?_getD, List.getElem?_eq_getElem hiz, Option.getD_some]
    unfold toB
    rw [List.getElem_map, Bt_of (hw _ (List.getElem_mem hiz))]

theorem open_bytes {r : Reach} {t e : TypeId} {v : Value} {d : DataW H} {ps : List MemPlace} (ht : P.underlying t = some (.slice e)) (hu : P.underlying e = some (.int .u8)) (hc : P.cellsOf e = 1) (hby : P.bytesOf e = 1)
    (hval : Value.okWide P w r b0 t v) (h : DataW.Trod enc P w base (fun _ => true) held t v d ps) (hlt : ∀ n ∈ d.weights P t, n ≤ 140737488351232) : ∃ a l c bs, v = .slice a l c ∧ Arg8 w a l c bs := by
  unfold Value.okWide at hval
  rw [ht] at hval
  obtain ⟨fuel, hf⟩ := h
  rcases open_ints ht hu hc hf with ⟨hcs, _⟩ | ⟨a, len, cap, zs, hcs, _, hl, hm, hz, hx, hcell, hw⟩
  · have : v = .slice none 0 0 := by cases v <;> simp_all [Value.cells, Cell.okWide, Cell.ok]
    exact ⟨none, 0, 0, [], this, Row8.nil _ _, fun _ => rfl, Nat.le_refl _, Nat.zero_le _⟩
  · have : v = .slice (some a) len cap := by cases v <;> simp_all [Value.cells, Cell.okWide, Cell.ok]
    simp only [if_true] at hz
    simp only [Prod.mk.injEq] at hx
    rw [hx.1] at hlt
    have hwt := weight_of_slice ht hlt
    rw [hby] at hwt
    simp [lits] at hwt
    exact ⟨some a, len, cap, _, this, row8_of_ints (by omega) (by omega) hcell hw, (fun h => by cases h), hl, by omega⟩

/-- what a slice of rows of bytes is, as an argument -/
structure ArgR (w : World) (a : Option Addr) (l c : Nat) (L : List (List UInt8)) : Prop where
  len_eq : l = L.length
  nil : a = none → c = 0
  le : l ≤ c
  small : c ≤ 140737488351232
  cells : L = [] ∨ ∃ b off, a = some ⟨b, off, none⟩ ∧ ∀ (i : Nat) (h : i < L.length), ∃ a' l' c', w.cell? ⟨b, off + i, none⟩ = some (.slice a' l' c') ∧ Arg8 w a' l' c' L[i]
theorem ArgR.row {a : Option Addr} {l c : Nat} {L : List (List UInt8)} (h : ArgR w a l c L) : RowR w a l L := by
  refine ⟨h.len_eq, by have := h.le; have := h.small; have := h.len_eq; simp only [maxLen]; omega, ?_⟩
  rcases h.cells with h1 | ⟨b, off, h1, h2⟩
  · exact .inl h1
  · refine .inr ⟨b, off, h1, fun i hi => ?_⟩
    obtain ⟨a', l', c', h3, h4⟩ := h2 i hi
    exact ⟨a', l', c', h3, h4.row⟩
theorem Arg8.below {w' : World} {a : Option Addr} {l c : Nat} {bs : List UInt8} (h : Arg8 w a l c bs) (b : Below w.heap.size w w') : Arg8 w' a l c bs := ⟨h.row.below b, h.nil, h.le, h.small⟩
theorem ArgR.below {w' : World} {a : Option Addr} {l c : Nat} {L : List (List UInt8)} (h : ArgR w a l c L) (b : Below w.heap.size w w') : ArgR w' a l c L := by
  refine ⟨h.len_eq, h.nil, h.le, h.small, ?_⟩
  rcases h.cells with h1 | ⟨c, off, rfl, hc⟩
  · exact .inl h1
  · refine .inr ⟨c, off, rfl, fun i hi => ?_⟩
    obtain ⟨a', l', c', h2, h3⟩ := hc i hi
    exact ⟨a', l', c', (b.cell (block_lt_of_cell h2)).trans h2, h3.below b⟩

theorem open_rows {r : Reach} {t e q : TypeId} {v : Value} {d : DataW H} {ps : List MemPlace} (ht : P.underlying t = some (.slice e)) (he : P.underlying e = some (.slice q)) (hq : P.underlying q = some (.int .u8)) (ce : P.cellsOf e = 1) (cq : P.cellsOf q = 1) (bq : P.bytesOf q = 1) (be : P.bytesOf e = 24)
    (hval : Value.okWide P w r b0 t v) (h : DataW.Trod enc P w base (fun _ => true) held t v d ps) (hlt : ∀ n ∈ d.weights P t, n ≤ 140737488351232) : ∃ a l c L, v = .slice a l c ∧ ArgR w a l c L := by
  unfold Value.okWide at hval
  rw [ht] at hval
  obtain ⟨fuel, hf⟩ := h
  rcases Deep.open_int_rows ht he hq ce cq hf with ⟨hcs, _⟩ | ⟨a, len, cap, A, L, C, Z, hcs, _, hl, hm, hx, hcell⟩
  · have : v = .slice none 0 0 := by cases v <;> simp_all [Value.cells, Cell.okWide, Cell.ok]
    exact ⟨none, 0, 0, [], this, rfl, fun _ => rfl, Nat.le_refl _, Nat.zero_le _, .inl rfl⟩
  · have hv : v = .slice (some a) len cap := by cases v <;> simp_all [Value.cells, Cell.okWide, Cell.ok]
    simp only [Prod.mk.injEq] at hx
    rw [hx.1] at hlt
    have hwt := weight_of_slice ht hlt
    rw [be] at hwt
    simp at hwt
    have hwe := weight_of_elem ht hlt
    have each : ∀ i, i < len → Arg8 w (A i) (L i) (C i) ((toB (Z i)).take (L i)) := by
      intro i hi
      obtain ⟨_, h2, h3, h4, h5, h6, h7⟩ := hcell i (by omega)
      have hC : C i ≤ 140737488351232 := by
        cases hA : A i with
        | none => have := h6 hA; omega
        | some a' =>
          have h8 := hwe (Deep.intRow .u8 (A i) (L i) (Z i)) (List.mem_map.2 ⟨i, List.mem_range.2 hi, rfl⟩)
          unfold Deep.intRow at h8
          rw [hA] at h8
          have h9 := weight_of_slice he h8
          rw [bq] at h9
          simp [lits] at h9
          omega
      refine ⟨?_, h6, h2, hC⟩
      cases hA : A i with
      | none =>
        have := h6 hA
        have h0 : L i = 0 := by omega
        rw [h0]
        exact Row8.nil _ _
      | some a' => exact row8_of_ints (by omega) (by omega) (fun j hj => (h7 a' hA).2 j (by omega)) h5
    refine ⟨some a, len, cap, (List.range len).map fun i => (toB (Z i)).take (L i), hv, by simp, (fun h => by cases h), hl, by omega, ?_⟩
    by_cases h0 : len = 0
    · left; subst h0; rfl
    · right
      have hsp : a.spot = none := by
        have h1 := (hcell 0 (by omega)).1
        unfold World.cell? at h1
        split at h1
        · next c t fr hb =>
          by_cases hs : (a.add 0).spot.isSome = true
          · rw [if_pos hs] at h1; cases h1
          · simpa [Addr.add] using hs
        · cases h1
      refine ⟨a.block, a.off, by cases a; simp_all, fun i hi => ?_⟩
      have hi' : i < len := by simpa using hi
      refine ⟨A i, L i, C i, ?_, ?_⟩
      · have h1 := (hcell i (by omega)).1
        have hadd : a.add i = ⟨a.block, a.off + i, none⟩ := by
          unfold Addr.add
          split
          · next h => subst h; cases a; simp_all
          · simp_all
        rwa [hadd] at h1
      · rw [List.getElem_map, List.getElem_range]
        exact each i hi'
end
end Go.Proofs.Ytcfdlffjghlghaa
