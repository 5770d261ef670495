/-
  Views: a law's operations, opened.
-/
import Derived.Test.YtpemaphgmfaioaaGreatP8
import Derived.Deep.Slices
namespace Go.Proofs.YtpemaphgmfaioaaGreat
set_option maxRecDepth 100000
open Go.RowKit Pm
set_option linter.unusedVariables false
set_option linter.unusedSimpArgs false

theorem rows_each {w : World} {a : Addr} {K : Nat} : ∀ (m : Nat), (∀ i < m, ∃ zs : List Int, zs.length = K ∧ ∀ j < K, w.cell? (a.add (i * K + j)) = some (.int .i64 (zs.getD j 0))) → ∃ zs : List Int, zs.length = m * K ∧ ∀ j < m * K, w.cell? (a.add j) = some (.int .i64 (zs.getD j 0))
  | 0, _ => ⟨[], by simp, fun j hj => by omega⟩
  | m + 1, h => by
    obtain ⟨zs, h1, h2⟩ := rows_each m fun i hi => h i (by omega)
    obtain ⟨ys, h3, h4⟩ := h m (by omega)
    refine ⟨zs ++ ys, by rw [List.length_append, h1, h3, Nat.succ_mul], fun j hj => ?_⟩
    rw [Nat.succ_mul] at hj
    by_cases e : j < m * K
    · rw [h2 j e, List.getD_eq_getElem?_getD, List.getD_eq_getElem?_getD, List.getElem?_append_left (by omega)]
    · have h5 := h4 (j - m * K) (by omega)
      rw [show m * K + (j - m * K) = j by omega] at h5
      rw [h5, List.getD_eq_getElem?_getD, List.getD_eq_getElem?_getD, List.getElem?_append_right (by omega), h1]
theorem lies_of {w : World} {a : Addr} {zs : List Int} (h : ∀ j < zs.length, w.cell? (a.add j) = some (.int .i64 (zs.getD j 0))) : Lies (fun _ => True) w (some a) (zs.map (Value.int .i64)) := by
  by_cases h0 : zs = []
  · left; subst h0; rfl
  · right
    have hp : 0 < zs.length := List.length_pos_iff.2 h0
    have hz := h 0 hp
    have hsp : a.spot = none := by
      have h1 := hz
      unfold World.cell? at h1
      split at h1
      · next c t fr hb =>
        by_cases hs : (a.add 0).spot.isSome = true
        · rw [if_pos hs] at h1; cases h1
        · simpa [Addr.add] using hs
      · cases h1
    refine ⟨a.block, a.off, by cases a; simp_all, trivial, ?_, fun i hi => ?_⟩
    · have := block_lt_of_cell hz
      simpa [Addr.add] using this
    · have hi' : i < zs.length := by simpa using hi
      have h1 := h i hi'
      have e : a.add i = ⟨a.block, a.off + i, none⟩ := by cases a; simp_all [Addr.add]
      rw [e] at h1
      rw [h1]
      simp [List.getD_eq_getElem?_getD, hi']
/-- a slice of structs of K whole numbers -/
theorem open_flats {H : Type} {enc : TypeId × Value → H} {P : Program} {w : World} {base b0 : Nat} {held : Bool} {r : Reach} {t e : TypeId} {v : Value} {d : DataW H} {ps : List MemPlace} {K : Nat} (ht : P.underlying t = some (.slice e)) (hs : sigT P 20 e = some (List.replicate K (some .i64))) (hK : 1 ≤ K) (hby : P.bytesOf e = 8 * K)
    (hval : Value.okWide P w r b0 t v) (h : DataW.Trod enc P w base (fun _ => true) held t v d ps) (hlt : ∀ n ∈ d.weights P t, n ≤ 140737488351232) :
    ∃ (n : Nat) (zs : List Int), n ≤ 140737488351232 ∧ RA (fun _ => True) w (.row n [.ints .i64 (n * K) zs]) v := by
  unfold Value.okWide at hval
  rw [ht] at hval
  obtain ⟨fuel, hf⟩ := h
  have hC : P.cellsOf e = K := by
    obtain ⟨_, _, _, hc, _⟩ := sigT_info hs
    rw [hc]; simp
  rcases Deep.open_slice ht hf with ⟨hcs, _⟩ | ⟨a, len, cap, m, n, D, Pl, hcs, _, hl, hm, hmm, hx, hcell⟩
  · have : v = .slice none 0 0 := by cases v <;> simp_all [Value.cells, Cell.okWide, Cell.ok]
    subst this
    refine ⟨0, [], by omega, .row (cs := []) ?_ (Nat.le_refl _) (Nat.zero_le _) (fun _ => rfl) (.inl rfl)⟩
    exact .ofInts (by simp) rfl
  · have hv : v = .slice (some a) len cap := by cases v <;> simp_all [Value.cells, Cell.okWide, Cell.ok]
    subst hv
    simp only [if_true] at hmm
    subst hmm
    simp only [Prod.mk.injEq] at hx
    rw [hx.1] at hlt
    have hwt := weight_of_slice ht hlt
    rw [hby] at hwt
    simp at hwt
    have hlen : len * (8 * K) ≤ 140737488351232 := Nat.le_trans (Nat.mul_le_mul_right _ (by omega)) hwt
    have hlen2 : len ≤ 140737488351232 := Nat.le_trans (Nat.le_mul_of_pos_right _ (by omega)) hlen
    obtain ⟨zs, hz1, hz2⟩ := rows_each (w := w) (a := a) (K := K) len fun i hi => by
      obtain ⟨cs', h1, h2⟩ := hcell i (by omega)
      rw [hC] at h1
      obtain ⟨_, h3, h4⟩ := World.cells?_some h1
      obtain ⟨h5, h6⟩ := kinds_of_trod 20 e _ hs h2 (by simpa using h3)
      obtain ⟨ys, rfl, h7, _⟩ := kinds_ints h5 h6
      refine ⟨ys, h7, fun j hj => ?_⟩
      have h8 := h4 j hj
      rw [← Addr.add_add, h8]
      simp [List.getD_eq_getElem?_getD, h7, hj]
    refine ⟨len, zs, hlen2, .row (cs := zs.map (Value.int .i64)) (.ofInts hz1 rfl) hl (by omega) (fun h => by cases h) (lies_of fun j hj => hz2 j (by omega))⟩
end Go.Proofs.YtpemaphgmfaioaaGreat
