/-
  Types asx the machine without memory is told of them; contracts; operations and what they come to. No program is named here.
-/
import Derived.Test.YtcfdlffjghlghaaA2
import Derived.Maps.AppendAt
namespace Go.Proofs.Ytcfdlffjghlghaa
set_option maxRecDepth 100000
open Go.RowKit
set_option linter.unusedVariables false
set_option linter.unusedSimpArgs false

/-- what is told of a type -/
structure TI where
  sz : Nat
  agg : Bool
  zero : List Seg
  fld : List Nat
  fty : List TypeId
  esz : Nat
  len : Nat
  sl : Bool
  elem : TypeId
  knd : Option IntKind
  bytes : Nat
  eq : Bool
  plc : List (Nat × Nat)

def aggOf (P : Program) (t : TypeId) : Bool := match P.underlying t with | some (.struct _) => true | some (.array _ _) => true | _ => false
def isInt (k : IntKind) (z : Int) : Value → Bool | .int k' z' => decide (k = k') && decide (z = z') | _ => false
def isBoolV (b : Bool) : Value → Bool | .bool b' => b == b' | _ => false
def isPlain : A → Value → Bool
  | .v (.slice none 0 0), .slice none 0 0 => true
  | .v (.pointer none), .pointer none => true
  | .v (.int k z), .int k' z' => decide (k = k') && decide (z = z')
  | .v (.bool b), .bool b' => b == b'
  | .v (.string s), .string s' => s.size == 0 && s'.size == 0
  | _, _ => false
def allZip {α : Type} (p : α → Value → Bool) : List α → List Value → Option (List Value)
  | [], cs => some cs
  | _ :: _, [] => none
  | a :: asx, c :: cs => if p a c then allZip p asx cs else none
def zeroB : List Seg → List Value → Bool
  | [], cs => cs.isEmpty
  | .ints k n zs :: l, cs => zs.length == n && (match allZip (isInt k) zs cs with | some r => zeroB l r | none => false)
  | .bytes n bs :: l, cs => bs.length == n && (match allZip (fun b => isInt .u8 (Bt b)) bs cs with | some r => zeroB l r | none => false)
  | .bools n bs :: l, cs => bs.length == n && (match allZip isBoolV bs cs with | some r => zeroB l r | none => false)
  | .gen n asx :: l, cs => asx.length == n && (match allZip isPlain asx cs with | some r => zeroB l r | none => false)

theorem allZip_spec {α : Type} {p : α → Value → Bool} : ∀ {asx : List α} {cs r : List Value}, allZip p asx cs = some r → ∃ c, cs = c ++ r ∧ c.length = asx.length ∧ ∀ i (h : i < asx.length) (h' : i < c.length), p asx[i] c[i] = true
  | [], cs, r, h => by cases h; exact ⟨[], rfl, rfl, fun i h => by simp at h⟩
  | a :: asx, [], r, h => by cases h
  | a :: asx, c :: cs, r, h => by
    unfold allZip at h
    by_cases hp : p a c = true
    · rw [if_pos hp] at h
      obtain ⟨d, rfl, h2, h3⟩ := allZip_spec h
      refine ⟨c :: d, rfl, by simp [h2], fun i h h' => ?_⟩
      cases i with
      | zero => exact hp
      | succ i => exact h3 i (by simpa using h) (by simpa using h')
    · rw [if_neg hp] at h; cases h
theorem byteArray_empty {s : ByteArray} (h : s.size = 0) : s = ByteArray.empty := by
  obtain ⟨⟨l⟩⟩ := s
  cases l with
  | nil => rfl
  | cons a l => simp [ByteArray.size] at h
theorem isPlain_spec {a : A} {v : Value} (h : isPlain a v = true) : a = .v v ∧ v.oneCell' = true := by
  unfold isPlain at h
  split at h <;> first | (cases h; done) | skip
  · exact ⟨rfl, rfl⟩
  · exact ⟨rfl, rfl⟩
  · simp only [Bool.and_eq_true, decide_eq_true_eq] at h; obtain ⟨rfl, rfl⟩ := h; exact ⟨rfl, rfl⟩
  · simp only [beq_iff_eq] at h; subst h; exact ⟨rfl, rfl⟩
  · simp only [Bool.and_eq_true, beq_iff_eq] at h
    rw [byteArray_empty h.1, byteArray_empty h.2]; exact ⟨rfl, rfl⟩
theorem isInt_spec {k : IntKind} {z : Int} {v : Value} (h : isInt k z v = true) : v = .int k z := by
  unfold isInt at h
  split at h
  · simp only [Bool.and_eq_true, decide_eq_true_eq] at h; obtain ⟨rfl, rfl⟩ := h; rfl
  · cases h
theorem isBoolV_spec {b : Bool} {v : Value} (h : isBoolV b v = true) : v = .bool b := by
  unfold isBoolV at h
  split at h
  · simp only [beq_iff_eq] at h; subst h; rfl
  · cases h
theorem zeroB_spec {S : Nat → Prop} {w : World} : ∀ {l : List Seg} {cs : List Value}, zeroB l cs = true → RL S w l cs
  | [], cs, h => by
    simp only [zeroB, List.isEmpty_iff] at h; subst h; exact .nil
  | .ints k n zs :: l, cs, h => by
    simp only [zeroB, Bool.and_eq_true, beq_iff_eq] at h
    cases hz : allZip (isInt k) zs cs with
    | none => rw [hz] at h; cases h.2
    | some r =>
      rw [hz] at h
      obtain ⟨c, rfl, h2, h3⟩ := allZip_spec hz
      have e : c = zs.map (Value.int k) := List.ext_getElem (by simp [h2]) fun i h4 h5 => by simpa using isInt_spec (h3 i (by omega) h4)
      subst e
      exact .ints h.1 (zeroB_spec h.2)
  | .bytes n bs :: l, cs, h => by
    simp only [zeroB, Bool.and_eq_true, beq_iff_eq] at h
    cases hz : allZip (fun b => isInt .u8 (Bt b)) bs cs with
    | none => rw [hz] at h; cases h.2
    | some r =>
      rw [hz] at h
      obtain ⟨c, rfl, h2, h3⟩ := allZip_spec hz
      have e : c = HL bs := List.ext_getElem (by simp [HL, h2]) fun i h4 h5 => by simpa [HL] using isInt_spec (h3 i (by omega) h4)
      subst e
      exact .bytes h.1 (zeroB_spec h.2)
  | .bools n bs :: l, cs, h => by
    simp only [zeroB, Bool.and_eq_true, beq_iff_eq] at h
    cases hz : allZip isBoolV bs cs with
    | none => rw [hz] at h; cases h.2
    | some r =>
      rw [hz] at h
      obtain ⟨c, rfl, h2, h3⟩ := allZip_spec hz
      have e : c = bs.map Value.bool := List.ext_getElem (by simp [h2]) fun i h4 h5 => by simpa using isBoolV_spec (h3 i (by omega) h4)
      subst e
      exact .bools h.1 (zeroB_spec h.2)
  | .gen n asx :: l, cs, h => by
    simp only [zeroB, Bool.and_eq_true, beq_iff_eq] at h
    cases hz : allZip isPlain asx cs with
    | none => rw [hz] at h; cases h.2
    | some r =>
      rw [hz] at h
      obtain ⟨c, rfl, h2, h3⟩ := allZip_spec hz
      have g : ∀ (asx : List A) (c : List Value), c.length = asx.length → (∀ i (h : i < asx.length) (h' : i < c.length), isPlain asx[i] c[i] = true) → RG S w asx c := by
        intro asx
        induction asx with
        | nil => intro c h _; rw [List.length_eq_zero_iff.1 h]; exact .nil
        | cons a asx ih =>
          intro c h h'
          cases c with
          | nil => simp at h
          | cons x c =>
            obtain ⟨k1, k2⟩ := isPlain_spec (h' 0 (by simp) (by simp))
            simp only [List.getElem_cons_zero] at k1 k2
            subst k1
            exact .cons (.v x) k2 (ih c (by simpa using h) fun i h1 h2 => h' (i + 1) (by simpa using h1) (by simpa using h2))
      exact .gen (g asx c h2 h3) h.1 (zeroB_spec h.2)

structure TyOK (P : Program) (t : TypeId) (i : TI) : Prop where
  info : ∃ f z, P.info? t = some f ∧ f.size = i.sz ∧ f.bytes = i.bytes ∧ f.zero = some z ∧ zeroB i.zero z.cells.toList = true
  und : ∃ d, P.underlying t = some d
  agg : aggOf P t = i.agg
  fld : ∀ (f off : Nat), i.fld[f]? = some off → ∃ fs x j, P.underlying t = some (.struct fs) ∧ fs[f]? = some x ∧ x.offset = off ∧ i.fty[f]? = some x.type ∧ P.info? x.type = some j ∧ j.size ≠ 0
  arr : i.esz ≠ 0 → (P.underlying t = some (.array i.len i.elem) ∨ P.underlying t = some (.slice i.elem)) ∧ ∃ j, P.info? i.elem = some j ∧ j.size = i.esz
  alen : i.len ≠ 0 → P.underlying t = some (.array i.len i.elem)
  knd : ∀ k, i.knd = some k → P.underlying t = some (.int k)
  sl : i.sl = true → P.underlying t = some (.slice i.elem)
  plc : i.agg = true → i.esz = 0 → ∃ fs, P.underlying t = some (.struct fs) ∧ fs.toList.mapM (fun f => (P.info? f.type).map fun j => (f.offset, j.size)) = some i.plc
def tyB (P : Program) (t : TypeId) (i : TI) : Bool :=
  (match P.info? t with | some f => f.size == i.sz && f.bytes == i.bytes && (match f.zero with | some z => zeroB i.zero z.cells.toList | none => false) | none => false) &&
  (P.underlying t).isSome && (aggOf P t == i.agg) &&
  ((List.range i.fld.length).all fun f => match P.underlying t with | some (.struct fs) => (match fs[f]? with | some x => some x.offset == i.fld[f]? && some x.type == i.fty[f]? && (match P.info? x.type with | some j => j.size != 0 | none => false) | none => false) | _ => false) &&
  (i.esz == 0 || (match P.underlying t with | some (.array n e) => n == i.len && e == i.elem | some (.slice e) => e == i.elem | _ => false) && (match P.info? i.elem with | some j => j.size == i.esz | none => false)) &&
  (i.len == 0 || (match P.underlying t with | some (.array n e) => n == i.len && e == i.elem | _ => false)) &&
  (match i.knd with | some k => (match P.underlying t with | some (.int k') => decide (k = k') | _ => false) | none => true) &&
  (!i.sl || (match P.underlying t with | some (.slice e) => e == i.elem | _ => false)) &&
  (!i.agg || i.esz != 0 || (match P.underlying t with | some (.struct fs) => decide (fs.toList.mapM (fun f => (P.info? f.type).map fun j => (f.offset, j.size)) = some i.plc) | _ => false))
theorem tyB_spec {P : Program} {t : TypeId} {i : TI} (h : tyB P t i = true) : TyOK P t i := by
  unfold tyB at h
  simp only [Bool.and_eq_true] at h
  obtain ⟨⟨⟨⟨⟨⟨⟨⟨h1, h2⟩, h3⟩, h4⟩, h5⟩, h6⟩, h7⟩, h9⟩, h10⟩ := h
  refine ⟨?_, ?_, by simpa using h3, ?_, ?_, ?_, ?_, ?_, ?_⟩
  · split at h1
    · next f hf =>
      simp only [Bool.and_eq_true, beq_iff_eq] at h1
      obtain ⟨⟨k1, k2⟩, k3⟩ := h1
      split at k3
      · next z hz => exact ⟨f, z, hf, k1, k2, hz, k3⟩
      · cases k3
    · cases h1
  · exact Option.isSome_iff_exists.1 h2
  · intro f off hf
    have hlt : f < i.fld.length := (List.getElem?_eq_some_iff.1 hf).1
    have h8 := List.all_eq_true.1 h4 f (List.mem_range.2 hlt)
    split at h8
    · next fs hu =>
      split at h8
      · next x hx =>
        simp only [Bool.and_eq_true, beq_iff_eq] at h8
        rw [hf] at h8
        split at h8
        · next j hj => exact ⟨fs, x, j, hu, hx, by simpa using h8.1.1, h8.1.2.symm, hj, by simpa using h8.2⟩
        · cases h8.2
      · cases h8
    · cases h8
  · intro he
    simp only [Bool.or_eq_true, beq_iff_eq, he, false_or, Bool.and_eq_true] at h5
    obtain ⟨k1, k2⟩ := h5
    refine ⟨?_, ?_⟩
    · split at k1
      · next n e hu => simp only [Bool.and_eq_true, beq_iff_eq] at k1; obtain ⟨rfl, rfl⟩ := k1; exact .inl hu
      · next e hu => simp only [beq_iff_eq] at k1; subst k1; exact .inr hu
      · cases k1
    · split at k2
      · next j hj => exact ⟨j, hj, by simpa using k2⟩
      · cases k2
  · intro he
    simp only [Bool.or_eq_true, beq_iff_eq, he, false_or] at h6
    split at h6
    · next n e hu => simp only [Bool.and_eq_true, beq_iff_eq] at h6; obtain ⟨rfl, rfl⟩ := h6; exact hu
    · cases h6
  · intro k hk
    rw [hk] at h7
    simp only at h7
    split at h7
    · next k' hu => simp only [decide_eq_true_eq] at h7; subst h7; exact hu
    · cases h7
  · intro hs
    rw [hs] at h9
    simp only [Bool.not_true, Bool.false_or] at h9
    split at h9
    · next e hu => simp only [beq_iff_eq] at h9; subst h9; exact hu
    · cases h9
  · intro ha he
    simp only [ha, he, Bool.not_true, Bool.false_or, bne_self_eq_false] at h10
    split at h10
    · next fs hu => exact ⟨fs, hu, by simpa using h10⟩
    · cases h10

/-! contracts -/
inductive Res where
  | d (a : A)
  | o (e : TypeId) (sz n : Nat) (l : List Seg)
  | t (l : List A)
  | p (x : Bk)
  | ob (p : OP)
/-- what a block holds -/
def HB (D : Nat → Prop) (w : World) (r : Nat) : Bk → Prop
  | .var l => ∃ cs t, w.heap[r]? = some (.cells (List.toArray cs) t (0, 0)) ∧ RL D w l cs
  | .obj p => ∃ cs t, w.heap[r]? = some (.cells (List.toArray cs) t (0, 0)) ∧ p cs t
  | .sl _ _ _ _ => False
  | .abs _ => False
theorem HB.up {D D' : Nat → Prop} {w w' : World} {r : Nat} {x : Bk} (k : Keeps D w D' w') (e : w'.heap[r]? = w.heap[r]?) (h : HB D w r x) : HB D' w' r x := by
  cases x with
  | var l => obtain ⟨cs, t, h1, h2⟩ := h; exact ⟨cs, t, e.trans h1, h2.up k⟩
  | obj p => obtain ⟨cs, t, h1, h2⟩ := h; exact ⟨cs, t, e.trans h1, h2⟩
  | sl => exact h.elim
  | abs => exact h.elim
def RR (S : Nat → Prop) (B : Nat) (w : World) : Res → Value → Prop
  | .d a, v => RA (fun r => S r ∨ B ≤ r) w a v
  | .o e sz n l, v => ∃ cs, w.ownsRow B e sz v n cs ∧ RL (fun r => (S r ∨ B ≤ r) ∧ v.ownBlock ≠ some r) w l cs
  | .t l, v => ∃ vs, v = .tuple vs.toArray ∧ RAs (fun r => S r ∨ B ≤ r) w l vs
  | .p x, v => ∃ r, v = .pointer (some ⟨r, 0, none⟩) ∧ B ≤ r ∧ HB (fun q => (S q ∨ B ≤ q) ∧ q ≠ r) w r x
  | .ob p, v => ∃ r F, v = .pointer (some ⟨r, 0, none⟩) ∧ (∀ q ∈ r :: F, B ≤ q ∧ q < w.heap.size) ∧ p (hres w (r :: F)) r
/-- what a function answers to these -/
def FnOK (P : Program) (G : Nat → Option (List Seg)) (f : FuncId) (args : List A) (res : Res) : Prop :=
  ∀ (S : Nat → Prop) (w : World) (vs : List Value), GOK G S w → RAs S w args vs → Calls P f vs.toArray w fun e w' => ∃ v, e = .returned v ∧ RR S w.heap.size w' res v ∧ Below w.heap.size w w'

/-- the same, where a block is lent to it by the address that stands among the arguments at this place -/
def FnM (P : Program) (G : Nat → Option (List Seg)) (f : FuncId) (pos : Nat) (x : Bk) (args : List A) (res : Res) (x' : Bk) : Prop :=
  ∀ (S : Nat → Prop) (w : World) (r : Nat) (vs : List Value), r < w.heap.size → GOK G (fun q => S q ∧ q ≠ r) w → HB (fun q => S q ∧ q ≠ r) w r x → RAs (fun q => S q ∧ q ≠ r) w args vs →
    Calls P f (vs.insertIdx pos (.pointer (some ⟨r, 0, none⟩))).toArray w fun e w' => ∃ v, e = .returned v ∧ RR (fun q => S q ∧ q ≠ r) w.heap.size w' res v ∧ HB (fun q => (S q ∨ w.heap.size ≤ q) ∧ q ≠ r) w' r x' ∧ w.grownBy w' (some r)

/-- no memory beneath -/
def flatA : A → Bool
  | .v _ => true
  | .agg l => l.all fun s => match s with | .gen _ _ => false | _ => true
  | _ => false
/-- an answer of a function to which an object is lent: plain data, or a new object -/
def RRb (w w' : World) (F' : List Nat) : Res → Value → Prop
  | .d a, v => flatA a = true ∧ RA (fun _ => False) w' a v
  | .t l, v => l.all flatA = true ∧ ∃ vs, v = .tuple vs.toArray ∧ RAs (fun _ => False) w' l vs
  | .ob p, v => ∃ r F, v = .pointer (some ⟨r, 0, none⟩) ∧ (∀ q ∈ r :: F, w.heap.size ≤ q ∧ q < w'.heap.size ∧ q ∉ F') ∧ p (hres w' (r :: F)) r
  | _, _ => False
/-- what a function answers to which an object is lent -/
def FnB (P : Program) (G : Nat → Option (List Seg)) (f : FuncId) (pos : Nat) (p : OP) (args : List A) (res : Res) (p' : OP) : Prop :=
  ∀ (S : Nat → Prop) (w : World) (r : Nat) (F : List Nat) (vs : List Value), GOK G S w → (∀ q ∈ r :: F, q < w.heap.size) → p (hres w (r :: F)) r → RAs S w args vs → (∀ z, S z → z ∉ r :: F) →
    Calls P f (vs.insertIdx pos (.pointer (some ⟨r, 0, none⟩))).toArray w fun e w' => ∃ v F', e = .returned v ∧ (∀ q ∈ F', q ∈ r :: F ∨ w.heap.size ≤ q) ∧ (∀ q ∈ r :: F', q < w'.heap.size) ∧ p' (hres w' (r :: F')) r ∧ RRb w w' (r :: F') res v ∧ GrownX (fun q => q ∈ r :: F) w w'
theorem flat_RL {S S' : Nat → Prop} {w w' : World} : ∀ {l : List Seg} {cs : List Value}, (l.all fun s => match s with | .gen _ _ => false | _ => true) = true → RL S w l cs → RL S' w' l cs
  | _, _, _, .nil => .nil
  | _, _, h, .ints k r => .ints k (flat_RL (by simpa using h) r)
  | _, _, h, .bytes k r => .bytes k (flat_RL (by simpa using h) r)
  | _, _, h, .bools k r => .bools k (flat_RL (by simpa using h) r)
  | _, _, h, .gen g k r => by simp at h
theorem flat_RA {S S' : Nat → Prop} {w w' : World} {a : A} {v : Value} (h : flatA a = true) (k : RA S w a v) : RA S' w' a v := by
  cases k with
  | v => exact .v _
  | agg k => exact .agg (flat_RL (by simpa [flatA] using h) k)
  | row => cases h
  | ref => cases h
  | sref => cases h
  | recs => cases h
end Go.Proofs.Ytcfdlffjghlghaa
