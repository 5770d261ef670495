/-
  Bytes as rows. No function is named here.
-/
import Derived.Test.YtgghkeinkcpboaaRowMath
import Derived.Test.YtgghkeinkcpboaaOwnR
namespace Go.Proofs.Ytgghkeinkcpboaa
set_option maxRecDepth 100000
open Go.RowKit
set_option linter.unusedVariables false
set_option linter.unusedSimpArgs false

/-- a row off the front: the row, the rest -/
def stepR : List UInt8 → Option (List UInt8 × List UInt8)
  | h :: l :: r => if h.toNat * 256 + l.toNat ≤ 2000 ∧ h.toNat * 256 + l.toNat ≤ r.length then some (r.take (h.toNat * 256 + l.toNat), r.drop (h.toNat * 256 + l.toNat)) else none
  | _ => none
/-- so many rows off the front -/
def takeR (r : List UInt8) : Nat → Option (List (List UInt8) × List UInt8)
  | 0 => some ([], r)
  | k + 1 => (takeR r k).bind fun x => (stepR x.2).map fun y => (x.1 ++ [y.1], y.2)
def unpackW : List UInt8 → Option (List (List UInt8))
  | [] => none
  | c :: r => if c.toNat ≤ 60 then (takeR r c.toNat).bind fun x => if x.2 = [] then some x.1 else none else none
def unpackL (b : List UInt8) : List (List UInt8) := (unpackW b).getD []
def unpackE (b : List UInt8) : Int := if (unpackW b).isSome then 0 else 2
theorem unpack_none {b : List UInt8} (h : unpackW b = none) : unpackE b = 2 ∧ unpackL b = [] := by unfold unpackE unpackL; rw [h]; exact ⟨rfl, rfl⟩
theorem unpack_some {b : List UInt8} {L : List (List UInt8)} (h : unpackW b = some L) : unpackE b = 0 ∧ unpackL b = L := by unfold unpackE unpackL; rw [h]; exact ⟨rfl, rfl⟩
theorem takeR_succ {r r1 r2 p : List UInt8} {L : List (List UInt8)} {k : Nat} (h : takeR r k = some (L, r1)) (h2 : stepR r1 = some (p, r2)) : takeR r (k + 1) = some (L ++ [p], r2) := by simp [takeR, h, h2]
theorem takeR_fail {r r1 : List UInt8} {L : List (List UInt8)} {k : Nat} (h : takeR r k = some (L, r1)) (h2 : stepR r1 = none) : takeR r (k + 1) = none := by simp [takeR, h, h2]
theorem takeR_none {r : List UInt8} {k : Nat} (h : takeR r k = none) : ∀ m, k ≤ m → takeR r m = none
  | 0, hm => by have : k = 0 := by omega
                subst this; exact h
  | m + 1, hm => by
    by_cases hk : k = m + 1
    · subst hk; exact h
    · simp [takeR, takeR_none h m (by omega)]
theorem unpack_stop {c : UInt8} {r r1 : List UInt8} {L : List (List UInt8)} {k : Nat} (hk : k < c.toNat) (h : takeR r k = some (L, r1)) (h2 : stepR r1 = none) : unpackW (c :: r) = none := by
  simp only [unpackW]
  split
  · rw [takeR_none (takeR_fail h h2) _ hk]; rfl
  · rfl
theorem stepR_short {r : List UInt8} (h : r.length < 2) : stepR r = none := by
  match r, h with
  | [], _ => rfl
  | [_], _ => rfl
  | _ :: _ :: _, h => simp only [List.length_cons] at h; omega
theorem takeR_len {r r1 : List UInt8} {L : List (List UInt8)} : ∀ {k : Nat}, takeR r k = some (L, r1) → L.length = k
  | 0, h => by simp [takeR] at h; rw [h.1]; rfl
  | k + 1, h => by
    simp only [takeR] at h
    cases h1 : takeR r k with
    | none => rw [h1] at h; cases h
    | some x =>
      rw [h1] at h
      simp only [Option.bind_some] at h
      cases h2 : stepR x.2 with
      | none => rw [h2] at h; cases h
      | some y =>
        rw [h2] at h
        simp only [Option.map_some, Option.some.injEq, Prod.mk.injEq] at h
        rw [← h.1, List.length_append, takeR_len (k := k) (L := x.1) (r1 := x.2) h1]; rfl

/-- what was packed comes back -/
theorem stepR_row (p t : List UInt8) (hp : p.length ≤ 2000) : stepR (rowHead p.length ++ p ++ t) = some (p, t) := by
  have e : (UInt8.ofNat (p.length / 256)).toNat * 256 + (UInt8.ofNat p.length).toNat = p.length := by
    rw [UInt8.toNat_ofNat', UInt8.toNat_ofNat']; omega
  show stepR (UInt8.ofNat (p.length / 256) :: UInt8.ofNat p.length :: (p ++ t)) = _
  simp only [stepR]
  rw [e, if_pos ⟨hp, by rw [List.length_append]; omega⟩, List.take_left, List.drop_left]
theorem takeR_pack (L : List (List UInt8)) (hL : ∀ p ∈ L, p.length ≤ 2000) (t : List UInt8) : ∀ k, k ≤ L.length → takeR ((L.flatMap fun p => rowHead p.length ++ p) ++ t) k = some (L.take k, (L.drop k).flatMap (fun p => rowHead p.length ++ p) ++ t)
  | 0, _ => by simp [takeR]
  | k + 1, h => by
    have h1 := takeR_pack L hL t k (by omega)
    have hd : L.drop k = L[k] :: L.drop (k + 1) := List.drop_eq_getElem_cons (by omega)
    rw [hd, List.flatMap_cons, List.append_assoc] at h1
    rw [takeR_succ h1 (stepR_row L[k] _ (hL _ (List.getElem_mem _)))]
    rw [List.take_succ_eq_append_getElem (by omega)]
theorem packW_eq (L : List (List UInt8)) : packW L = UInt8.ofNat L.length :: L.flatMap fun p => rowHead p.length ++ p := by
  unfold packW packP; rw [List.take_length]
theorem okRows_spec {L : List (List UInt8)} (h : okRows L = true) : L.length ≤ 60 ∧ ∀ p ∈ L, p.length ≤ 2000 := by
  unfold okRows at h
  simp only [Bool.and_eq_true, decide_eq_true_eq, List.all_eq_true] at h
  exact h
theorem unpack_pack (L : List (List UInt8)) (h : okRows L = true) (t : List UInt8) : unpackW (packW L ++ t) = if t = [] then some L else none := by
  obtain ⟨h1, h2⟩ := okRows_spec h
  rw [packW_eq, List.cons_append]
  have e : (UInt8.ofNat L.length).toNat = L.length := by rw [UInt8.toNat_ofNat']; omega
  simp only [unpackW]
  rw [e, if_pos h1, takeR_pack L h2 t L.length (Nat.le_refl _)]
  simp
/-- fewer bytes are no rows of as many -/
theorem stepR_app {r t p r2 : List UInt8} (h : stepR r = some (p, r2)) : stepR (r ++ t) = some (p, r2 ++ t) := by
  match r, h with
  | a :: b :: r', h =>
    simp only [stepR] at h
    split at h
    · rename_i hc
      simp only [Option.some.injEq, Prod.mk.injEq] at h
      show stepR (a :: b :: (r' ++ t)) = _
      simp only [stepR]
      rw [if_pos ⟨hc.1, by rw [List.length_append]; omega⟩, List.take_append_of_le_length hc.2, List.drop_append_of_le_length hc.2, h.1, h.2]
    · cases h
theorem takeR_app {r t r2 : List UInt8} {L : List (List UInt8)} : ∀ {k : Nat}, takeR r k = some (L, r2) → takeR (r ++ t) k = some (L, r2 ++ t)
  | 0, h => by simp [takeR] at h ⊢; exact ⟨h.1, by rw [h.2]⟩
  | k + 1, h => by
    simp only [takeR] at h
    cases h1 : takeR r k with
    | none => rw [h1] at h; cases h
    | some x =>
      rw [h1] at h
      simp only [Option.bind_some] at h
      cases h2 : stepR x.2 with
      | none => rw [h2] at h; cases h
      | some y =>
        rw [h2] at h
        simp only [Option.map_some, Option.some.injEq, Prod.mk.injEq] at h
        rw [takeR_succ (takeR_app (k := k) (L := x.1) (r2 := x.2) h1) (stepR_app (t := t) (p := y.1) (r2 := y.2) h2), h.1, h.2]
theorem unpack_more {b t : List UInt8} {L : List (List UInt8)} (h : unpackW b = some L) (ht : t ≠ []) : unpackW (b ++ t) = none := by
  match b, h with
  | c :: r, h =>
    simp only [unpackW] at h
    rw [List.cons_append]
    simp only [unpackW]
    split at h
    · rename_i hc
      rw [if_pos hc]
      cases h1 : takeR r c.toNat with
      | none => rw [h1] at h; cases h
      | some x =>
        rw [h1] at h
        rw [takeR_app (t := t) (L := x.1) (r2 := x.2) h1]
        simp [ht]
    · cases h
theorem unpack_less {b t : List UInt8} {L : List (List UInt8)} (h : unpackW (b ++ t) = some L) (ht : t ≠ []) : unpackW b = none := by
  cases h1 : unpackW b with
  | none => rfl
  | some L' => rw [unpack_more h1 ht] at h; cases h
/-- bytes that are taken are written as they were -/
theorem stepR_back {r p r2 : List UInt8} (h : stepR r = some (p, r2)) : r = rowHead p.length ++ p ++ r2 ∧ p.length ≤ 2000 := by
  match r, h with
  | a :: b :: r', h =>
    simp only [stepR] at h
    split at h
    · rename_i hc
      simp only [Option.some.injEq, Prod.mk.injEq] at h
      have hl : p.length = a.toNat * 256 + b.toNat := by rw [← h.1, List.length_take]; omega
      have ha := UInt8.toNat_lt a
      have hb := UInt8.toNat_lt b
      have e1 : UInt8.ofNat (p.length / 256) = a := by rw [hl, show (a.toNat * 256 + b.toNat) / 256 = a.toNat by omega]; exact UInt8.ofNat_toNat
      have e2 : UInt8.ofNat p.length = b := by
        apply UInt8.toNat_inj.1
        rw [UInt8.toNat_ofNat', hl]; omega
      refine ⟨?_, by omega⟩
      unfold rowHead
      rw [e1, e2, ← h.1, ← h.2]
      simp
    · cases h
theorem takeR_back {r r2 : List UInt8} {L : List (List UInt8)} : ∀ {k : Nat}, takeR r k = some (L, r2) → r = (L.flatMap fun p => rowHead p.length ++ p) ++ r2 ∧ ∀ p ∈ L, p.length ≤ 2000
  | 0, h => by simp [takeR] at h; rw [h.1, h.2]; simp
  | k + 1, h => by
    simp only [takeR] at h
    cases h1 : takeR r k with
    | none => rw [h1] at h; cases h
    | some x =>
      rw [h1] at h
      simp only [Option.bind_some] at h
      cases h2 : stepR x.2 with
      | none => rw [h2] at h; cases h
      | some y =>
        rw [h2] at h
        simp only [Option.map_some, Option.some.injEq, Prod.mk.injEq] at h
        obtain ⟨e1, e2⟩ := takeR_back (k := k) (L := x.1) (r2 := x.2) h1
        obtain ⟨e3, e4⟩ := stepR_back (p := y.1) (r2 := y.2) h2
        rw [← h.1, ← h.2]
        refine ⟨?_, fun p hp => ?_⟩
        · rw [e1, e3]; simp
        · rcases List.mem_append.1 hp with h5 | h5
          · exact e2 p h5
          · simp at h5; rw [h5]; exact e4
theorem unpack_back {b : List UInt8} {L : List (List UInt8)} (h : unpackW b = some L) : okRows L = true ∧ packW L = b := by
  match b, h with
  | c :: r, h =>
    simp only [unpackW] at h
    split at h
    · rename_i hc
      cases h1 : takeR r c.toNat with
      | none => rw [h1] at h; cases h
      | some x =>
        rw [h1] at h
        simp only [Option.bind_some] at h
        split at h
        · rename_i hx
          simp only [Option.some.injEq] at h
          obtain ⟨e1, e2⟩ := takeR_back (L := x.1) (r2 := x.2) h1
          have hl := takeR_len (L := x.1) (r1 := x.2) h1
          rw [hx, List.append_nil] at e1
          rw [h] at e1 e2 hl
          refine ⟨okRows_all (by omega) fun i hi => e2 _ (List.getElem_mem hi), ?_⟩
          rw [packW_eq, hl, UInt8.ofNat_toNat, ← e1]
        · cases h
    · cases h
theorem Own8.toRow0 {w : World} {B : Nat} {e : TypeId} {v : Value} {bs : List UInt8} (h : Own8 w B e v bs) (hs : bs.length ≤ 1000000) : ∃ a c, v = .slice a bs.length c ∧ Row0 w B a bs.length c bs := by
  obtain ⟨a, c, h1, h2, h3⟩ := h.toL hs
  refine ⟨a, c, h1, h2, fun hn => ?_⟩
  obtain ⟨g, cap, h4, h5, _⟩ := h.has hn
  rw [h1] at h4
  injection h4 with h4
  exact ⟨g, h4, h5⟩
end Go.Proofs.Ytgghkeinkcpboaa
