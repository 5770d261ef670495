/-
  '==' on structs and arrays of numbers and truths: cell by cell. No program is named here.
-/
import Derived.Test.YtcfdlffjghlghaaA13
namespace Go.Proofs.Ytcfdlffjghlghaa
set_option maxRecDepth 100000
open Go.RowKit
set_option linter.unusedVariables false
set_option linter.unusedSimpArgs false

/-- the kinds of a type's cells, where it is made of numbers and truths -/
def sigF (r : TypeId → Option (List (Option IntKind))) : Nat → List Field → Option (List (Option IntKind))
  | off, [] => some []
  | off, f :: fs => if f.name ≠ "_" ∧ f.offset = off then (match r f.type with | some s => (sigF r (off + s.length) fs).map (s ++ ·) | none => none) else none
def sigT (P : Program) : Nat → TypeId → Option (List (Option IntKind))
  | 0, _ => none
  | d + 1, t =>
    let s := match P.underlying t with
      | some .bool => some [none]
      | some (.int k) => some [some k]
      | some (.array n e) => (sigT P d e).map fun s => (List.replicate n s).flatten
      | some (.struct fs) => if P.stoodInHeld t = true then none else sigF (sigT P d) 0 fs.toList
      | _ => none
    match s with
    | some s => (match P.info? t with | some i => if i.size = s.length then some s else none | none => none)
    | none => none
def mkV (P : Program) (t : TypeId) (xs : List Value) : Value := if aggOf P t = true then .agg xs.toArray else xs.headD undef

section
variable {P : Program}

theorem sigT_info {d : Nat} {t : TypeId} {s : List (Option IntKind)} (h : sigT P d t = some s) : ∃ i, P.info? t = some i ∧ i.size = s.length ∧ P.cellsOf t = s.length ∧ ∃ u, P.underlying t = some u := by
  cases d with
  | zero => cases h
  | succ d =>
    unfold sigT at h
    simp only at h
    split at h
    · next s' hs =>
      split at h
      · next i hi =>
        split at h
        · next hsz =>
          cases h
          refine ⟨i, hi, hsz, by simp [Program.cellsOf, hi, hsz], ?_⟩
          cases hu : P.underlying t with
          | none => rw [hu] at hs; cases hs
          | some u => exact ⟨u, rfl⟩
        · cases h
      · cases h
    · cases h
theorem run_part_mk {d : Nat} {t : TypeId} {s : List (Option IntKind)} (h : sigT P d t = some s) (w : World) (xs : List Value) (off : Nat) (hl : off + s.length ≤ xs.length) (h1 : aggOf P t = false → s.length = 1) :
    (part t xs.toArray off).run P w = .ok (mkV P t ((xs.drop off).take s.length)) w := by
  obtain ⟨i, hi, hsz, hc, u, hu⟩ := sigT_info h
  have hag : (isAgg t).run P w = .ok (aggOf P t) w := by
    unfold isAgg aggOf
    rw [Sem.run_bind, run_underlying hu w, hu]
    cases u <;> simp
  cases ha : aggOf P t with
  | true =>
    simp only [part, Sem.run_bind, hag, ha, Result.andThen_ok, if_true, run_sizeOf w hi, hc, mkV, Sem.run_pure]
    congr 2
    apply Array.ext_getElem?
    intro m
    simp only [Array.getElem?_extract, List.getElem?_toArray, List.getElem?_take, List.getElem?_drop, List.size_toArray]
    by_cases hm : m < s.length
    · rw [if_pos (by omega), if_pos hm]
    · rw [if_neg (by omega), if_neg hm]
  | false =>
    have h2 := h1 ha
    have h3 : off < xs.length := by omega
    simp only [part, Sem.run_bind, hag, ha, Result.andThen_ok, Bool.false_eq_true, if_false, mkV]
    rw [h2, List.drop_eq_getElem_cons h3, List.take_succ_cons]
    simp [h3]

theorem kinds_sub {xs : List Value} {a b : List (Option IntKind)} {off : Nat} (h : (xs.drop off).map cellKind = (a ++ b).map some) : ((xs.drop off).take a.length).map cellKind = a.map some ∧ (xs.drop (off + a.length)).map cellKind = b.map some := by
  rw [List.map_append] at h
  constructor
  · rw [List.map_take, h, List.take_append_of_le_length (by simp), List.take_of_length_le (by simp)]
  · rw [← List.drop_drop, List.map_drop, h, List.drop_append_of_le_length (by simp), List.drop_of_length_le (by simp)]; simp
theorem len_of_kinds {xs : List Value} {a : List (Option IntKind)} (h : xs.map cellKind = a.map some) : xs.length = a.length := by
  have := congrArg List.length h; simpa using this

/-- what holds of a type's '==' -/
def EqAtT (P : Program) (d : Nat) (t : TypeId) (s : List (Option IntKind)) : Prop :=
  (aggOf P t = false → s.length = 1) ∧ ∀ (m : Nat) (w : World) (xs ys : List Value), xs.map cellKind = s.map some → ys.map cellKind = s.map some →
    ∃ b : Bool, (Op.equalIn (d + m) t (mkV P t xs) (mkV P t ys)).run P w = .ok b w ∧ (b = true ↔ xs = ys)

theorem eqFields_sig {d : Nat} (ih : ∀ t s, sigT P d t = some s → EqAtT P d t s) (m : Nat) (w : World) (xs ys : List Value) : ∀ (fs : List Field) (off : Nat) (s : List (Option IntKind)), sigF (sigT P d) off fs = some s →
    (xs.drop off).map cellKind = s.map some → (ys.drop off).map cellKind = s.map some → off ≤ xs.length → off ≤ ys.length → ∃ b : Bool, (Op.eqFields (d + m) xs.toArray ys.toArray fs).run P w = .ok b w ∧ (b = true ↔ xs.drop off = ys.drop off)
  | [], off, s, h, hx, hy, _, _ => by
    cases h
    refine ⟨true, by simp [Op.eqFields], ?_⟩
    have h1 : xs.drop off = [] := by simpa using hx
    have h2 : ys.drop off = [] := by simpa using hy
    rw [h1, h2]; simp
  | f :: fs, off, s, h, hx, hy, lx, ly => by
    unfold sigF at h
    split at h
    · next hf =>
      obtain ⟨hn, ho⟩ := hf
      cases hs : sigT P d f.type with
      | none => rw [hs] at h; cases h
      | some a =>
        rw [hs] at h
        cases hr : sigF (sigT P d) (off + a.length) fs with
        | none => simp [hr] at h
        | some b =>
          simp only [hr, Option.map_some, Option.some.injEq] at h
          subst h
          obtain ⟨k1, k2⟩ := kinds_sub hx
          obtain ⟨k3, k4⟩ := kinds_sub hy
          have l1 := len_of_kinds hx
          have l2 := len_of_kinds hy
          simp at l1 l2
          obtain ⟨e1, e2⟩ := ih f.type a hs
          obtain ⟨r, hrun, hiff⟩ := e2 m w _ _ k1 k3
          obtain ⟨r', hrun', hiff'⟩ := eqFields_sig ih m w xs ys fs (off + a.length) b hr k2 k4 (by omega) (by omega)
          have p1 := run_part_mk hs w xs off (by omega) e1
          have p2 := run_part_mk hs w ys off (by omega) e1
          simp only [Op.eqFields, hn, ne_eq, not_false_eq_true, if_true, Sem.run_bind, ho, p1, p2, hrun, Result.andThen_ok]
          have split : ∀ zs : List Value, zs.drop off = (zs.drop off).take a.length ++ zs.drop (off + a.length) := fun zs => by rw [← List.drop_drop, List.take_append_drop]
          cases r with
          | false =>
            refine ⟨false, by simp, ?_⟩
            constructor
            · intro h; cases h
            · intro h; exact absurd (hiff.2 (by rw [h])) (by simp)
          | true =>
            refine ⟨r', by simpa using hrun', ?_⟩
            rw [hiff', split xs, split ys, hiff.1 rfl]
            constructor
            · intro h; rw [h]
            · intro h; exact List.append_cancel_left h
    · cases h
theorem eqItems_sig {d : Nat} {e : TypeId} {a : List (Option IntKind)} (he : sigT P d e = some a) (ih : EqAtT P d e a) (m : Nat) (w : World) (xs ys : List Value) : ∀ (n k : Nat),
    (xs.drop (k * a.length)).map cellKind = ((List.replicate n a).flatten).map some → (ys.drop (k * a.length)).map cellKind = ((List.replicate n a).flatten).map some → k * a.length ≤ xs.length → k * a.length ≤ ys.length →
    ∃ b : Bool, (Op.eqItems (d + m) e a.length xs.toArray ys.toArray (List.range' k n)).run P w = .ok b w ∧ (b = true ↔ xs.drop (k * a.length) = ys.drop (k * a.length))
  | 0, k, hx, hy, _, _ => by
    refine ⟨true, by simp [Op.eqItems], ?_⟩
    have h1 : xs.drop (k * a.length) = [] := by simpa using hx
    have h2 : ys.drop (k * a.length) = [] := by simpa using hy
    rw [h1, h2]; simp
  | n + 1, k, hx, hy, lx, ly => by
    rw [List.replicate_succ, List.flatten_cons] at hx hy
    obtain ⟨k1, k2⟩ := kinds_sub hx
    obtain ⟨k3, k4⟩ := kinds_sub hy
    have l1 := len_of_kinds hx
    have l2 := len_of_kinds hy
    simp at l1 l2
    obtain ⟨e1, e2⟩ := ih
    obtain ⟨r, hrun, hiff⟩ := e2 m w _ _ k1 k3
    have hk : k * a.length + a.length = (k + 1) * a.length := by rw [Nat.add_mul, Nat.one_mul]
    rw [hk] at k2 k4
    obtain ⟨r', hrun', hiff'⟩ := eqItems_sig he ⟨e1, e2⟩ m w xs ys n (k + 1) k2 k4 (by omega) (by omega)
    have p1 := run_part_mk he w xs (k * a.length) (by omega) e1
    have p2 := run_part_mk he w ys (k * a.length) (by omega) e1
    rw [List.range'_succ]
    simp only [Op.eqItems, Sem.run_bind, p1, p2, hrun, Result.andThen_ok]
    have split : ∀ zs : List Value, zs.drop (k * a.length) = (zs.drop (k * a.length)).take a.length ++ zs.drop ((k + 1) * a.length) := fun zs => by rw [← hk, ← List.drop_drop, List.take_append_drop]
    cases r with
    | false =>
      refine ⟨false, by simp, ?_⟩
      constructor
      · intro h; cases h
      · intro h; exact absurd (hiff.2 (by rw [h])) (by simp)
    | true =>
      refine ⟨r', by simpa using hrun', ?_⟩
      rw [hiff', split xs, split ys, hiff.1 rfl]
      constructor
      · intro h; rw [h]
      · intro h; exact List.append_cancel_left h

theorem eq_sig : ∀ (d : Nat) (t : TypeId) (s : List (Option IntKind)), sigT P d t = some s → EqAtT P d t s
  | 0, t, s, h => by cases h
  | d + 1, t, s, h => by
    have ih := eq_sig d
    have h' := h
    unfold sigT at h
    simp only at h
    split at h
    case h_2 => cases h
    next s' hs =>
    split at h
    case h_2 => cases h
    next i hi =>
    split at h
    case isFalse => cases h
    next hsz =>
    cases h
    split at hs
    · next hu =>
      cases hs
      have ha : aggOf P t = false := by unfold aggOf; rw [hu]
      refine ⟨fun _ => rfl, fun m w xs ys hx hy => ?_⟩
      match xs, ys, hx, hy with
      | [.bool x], [.bool y], _, _ =>
        refine ⟨x == y, ?_, by simp⟩
        rw [show d + 1 + m = (d + m) + 1 by omega]
        simp only [mkV, ha, Bool.false_eq_true, if_false, List.headD_cons]
        exact run_equalIn_bool w (d + m) t x y hu
      | [], _, hx, _ => simp at hx
      | _ :: _ :: _, _, hx, _ => simp at hx
      | [_], [], _, hy => simp at hy
      | [_], _ :: _ :: _, _, hy => simp at hy
      | [.int _ _], [_], hx, _ => simp [cellKind] at hx
      | [.float _ _], [_], hx, _ => simp [cellKind] at hx
      | [.complex _ _ _], [_], hx, _ => simp [cellKind] at hx
      | [.string _], [_], hx, _ => simp [cellKind] at hx
      | [.pointer _], [_], hx, _ => simp [cellKind] at hx
      | [.slice _ _ _], [_], hx, _ => simp [cellKind] at hx
      | [.map _], [_], hx, _ => simp [cellKind] at hx
      | [.chan _], [_], hx, _ => simp [cellKind] at hx
      | [.func _ _ _], [_], hx, _ => simp [cellKind] at hx
      | [.nilFunc], [_], hx, _ => simp [cellKind] at hx
      | [.iface _ _], [_], hx, _ => simp [cellKind] at hx
      | [.nilIface], [_], hx, _ => simp [cellKind] at hx
      | [.agg _], [_], hx, _ => simp [cellKind] at hx
      | [.tuple _], [_], hx, _ => simp [cellKind] at hx
      | [.bool _], [.int _ _], _, hy => simp [cellKind] at hy
      | [.bool _], [.float _ _], _, hy => simp [cellKind] at hy
      | [.bool _], [.complex _ _ _], _, hy => simp [cellKind] at hy
      | [.bool _], [.string _], _, hy => simp [cellKind] at hy
      | [.bool _], [.pointer _], _, hy => simp [cellKind] at hy
      | [.bool _], [.slice _ _ _], _, hy => simp [cellKind] at hy
      | [.bool _], [.map _], _, hy => simp [cellKind] at hy
      | [.bool _], [.chan _], _, hy => simp [cellKind] at hy
      | [.bool _], [.func _ _ _], _, hy => simp [cellKind] at hy
      | [.bool _], [.nilFunc], _, hy => simp [cellKind] at hy
      | [.bool _], [.iface _ _], _, hy => simp [cellKind] at hy
      | [.bool _], [.nilIface], _, hy => simp [cellKind] at hy
      | [.bool _], [.agg _], _, hy => simp [cellKind] at hy
      | [.bool _], [.tuple _], _, hy => simp [cellKind] at hy
    · next k hu =>
      cases hs
      have ha : aggOf P t = false := by unfold aggOf; rw [hu]
      refine ⟨fun _ => rfl, fun m w xs ys hx hy => ?_⟩
      have one : ∀ zs : List Value, zs.map cellKind = [some k].map some → ∃ z, zs = [.int k z] := by
        intro zs hz
        match zs, hz with
        | [v], hz =>
          cases v <;> simp [cellKind] at hz
          subst hz; exact ⟨_, rfl⟩
        | [], hz => simp at hz
        | _ :: _ :: _, hz => simp at hz
      obtain ⟨x, rfl⟩ := one xs hx
      obtain ⟨y, rfl⟩ := one ys hy
      refine ⟨x == y, ?_, by simp⟩
      rw [show d + 1 + m = (d + m) + 1 by omega]
      simp only [mkV, ha, Bool.false_eq_true, if_false, List.headD_cons]
      exact run_equalIn_int w (d + m) t k k x y hu
    · next n e hu =>
      have ha : aggOf P t = true := by unfold aggOf; rw [hu]
      cases he : sigT P d e with
      | none => rw [he] at hs; cases hs
      | some a =>
        rw [he] at hs
        cases hs
        refine ⟨fun h => (by rw [ha] at h; cases h), fun m w xs ys hx hy => ?_⟩
        obtain ⟨ie, hie, _, hce, _⟩ := sigT_info he
        obtain ⟨b, hb, hbi⟩ := eqItems_sig he (ih e a he) m w xs ys n 0 (by simpa using hx) (by simpa using hy) (by simp) (by simp)
        refine ⟨b, ?_, by simpa using hbi⟩
        rw [show d + 1 + m = (d + m) + 1 by omega]
        simp only [mkV, ha, if_true]
        rw [run_equalIn_array w (d + m) _ _ hu hie, hce, List.range_eq_range']
        exact hb
    · next fs hu =>
      have ha : aggOf P t = true := by unfold aggOf; rw [hu]
      split at hs
      · cases hs
      · next hst =>
        refine ⟨fun h => (by rw [ha] at h; cases h), fun m w xs ys hx hy => ?_⟩
        obtain ⟨b, hb, hbi⟩ := eqFields_sig ih m w xs ys fs.toList 0 _ hs (by simpa using hx) (by simpa using hy) (by simp) (by simp)
        refine ⟨b, ?_, by simpa using hbi⟩
        have hfo : P.fieldsOf t = fs := by unfold Program.fieldsOf; rw [hu]
        rw [show d + 1 + m = (d + m) + 1 by omega]
        simp only [mkV, ha, if_true]
        rw [run_equalIn_struct w (d + m) t _ _ (by rw [hfo]; exact hu) (by simpa using hst), hfo]
        exact hb
    · cases hs

def kindsS : List Seg → List (Option (Option IntKind))
  | [] => []
  | .ints k n _ :: l => List.replicate n (some (some k)) ++ kindsS l
  | .bytes n _ :: l => List.replicate n (some (some .u8)) ++ kindsS l
  | .bools n _ :: l => List.replicate n (some none) ++ kindsS l
  | .gen n asx :: l => [none] ++ kindsS l
def eqB (P : Program) (t : TypeId) (i : TI) : Bool :=
  !P.eqGuardType P.depth t && aggOf P t && (match sigT P 20 t with | some s => decide (kindsS i.zero = s.map some) | none => false)
theorem kindsS_of {S : Nat → Prop} {w : World} : ∀ {l : List Seg} {cs : List Value} {s : List (Option IntKind)}, kindsS l = s.map some → RL S w l cs → cs.map cellKind = kindsS l
  | _, _, _, _, .nil => rfl
  | .ints k n zs :: l, _, s, h, .ints h1 r => by
    obtain ⟨s1, s2, rfl, h2, h3⟩ := List.map_eq_append_iff.1 h.symm
    rw [List.map_append, kindsS, kindsS_of h3.symm r]
    congr 1
    refine List.ext_getElem (by simp [h1]) fun i _ _ => by simp [cellKind]
  | .bytes n bs :: l, _, s, h, .bytes h1 r => by
    obtain ⟨s1, s2, rfl, h2, h3⟩ := List.map_eq_append_iff.1 h.symm
    rw [List.map_append, kindsS, kindsS_of h3.symm r]
    congr 1
    refine List.ext_getElem (by simp [HL, h1]) fun i _ _ => by simp [HL, cellKind]
  | .bools n bs :: l, _, s, h, .bools h1 r => by
    obtain ⟨s1, s2, rfl, h2, h3⟩ := List.map_eq_append_iff.1 h.symm
    rw [List.map_append, kindsS, kindsS_of h3.symm r]
    congr 1
    refine List.ext_getElem (by simp [h1]) fun i _ _ => by simp [cellKind]
  | .gen n asx :: l, _, s, h, .gen g h1 r => by
    exfalso
    rw [kindsS] at h
    cases s with
    | nil => simp at h
    | cons a s => simp at h
theorem eqB_spec {t : TypeId} {i : TI} (h : eqB P t i = true) : EqT P t i := by
  unfold eqB at h
  simp only [Bool.and_eq_true, Bool.not_eq_true'] at h
  obtain ⟨⟨h1, h2⟩, h3⟩ := h
  cases hs : sigT P 20 t with
  | none => rw [hs] at h3; cases h3
  | some s =>
    rw [hs] at h3
    have h4 : kindsS i.zero = s.map some := by simpa using h3
    refine ⟨h1, fun w xs ys z hz hx hy => ?_⟩
    have hzk := kindsS_of (S := fun _ => True) (w := w) h4 (zeroB_spec hz)
    obtain ⟨b, hb, hbi⟩ := (eq_sig 20 t s hs).2 9980 w xs ys (by rw [hx, hzk, h4]) (by rw [hy, hzk, h4])
    refine ⟨b, ?_, hbi⟩
    simpa [mkV, h2] using hb
end
end Go.Proofs.Ytcfdlffjghlghaa
