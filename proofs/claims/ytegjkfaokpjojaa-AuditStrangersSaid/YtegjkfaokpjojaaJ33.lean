/-
  Boxes, as the machine without memory reckons them: streams laid over bytes.
-/
import Derived.Test.YtegjkfaokpjojaaJ31
namespace Go.Proofs.Ytegjkfaokpjojaa
set_option maxRecDepth 100000
open Go.RowKit Pm
set_option linter.unusedVariables false
set_option linter.unusedSimpArgs false
attribute [local irreducible] condK LoopA regA powI scal mulI isI fourB deriveW numB

/-- the stretch of the stream that is held behind so many steps -/
def heldS (s : List UInt8) (k : Nat) : List UInt8 := if k = 0 then List.replicate 32 0 else streamW s ((k - 1) / 32)
theorem heldS_length (s : List UInt8) (k : Nat) : (heldS s k).length = 32 := by
  unfold heldS; split
  · simp
  · exact streamW_length _ _
theorem heldS_same (s : List UInt8) (k : Nat) (h : ¬ k % 32 = 0) : heldS s k = streamW s (k / 32) := by
  unfold heldS; rw [if_neg (by omega), show (k - 1) / 32 = k / 32 by omega]
theorem heldS_next (s : List UInt8) (k : Nat) : heldS s (k + 1) = streamW s (k / 32) := by
  unfold heldS; rw [if_neg (by omega), Nat.add_sub_cancel]
theorem tdivS (k : Nat) : Int.tdiv (k : Int) 32 = ((k / 32 : Nat) : Int) := by rw [Int.tdiv_eq_ediv_of_nonneg (by omega)]; omega
theorem tmodS (k : Nat) : Int.tmod (k : Int) 32 = ((k % 32 : Nat) : Int) := by rw [Int.tmod_eq_emod_of_nonneg (by omega)]; omega
theorem stream_eq (s : List UInt8) (k : Nat) : deriveW s (sb ⟨#[115, 116, 114, 101, 97, 109]⟩) (fourB ((k / 32 : Nat) : Int)) = streamW s (k / 32) := rfl
theorem flat_rep (n : Nat) : (List.replicate n [(0 : UInt8)]).flatten = List.replicate n 0 := by
  induction n with
  | zero => rfl
  | succ n ih => rw [List.replicate_succ, List.flatten_cons, ih]; rfl
theorem xor_bd (a b : UInt8) : 0 ≤ bits .xor .u8 (Bt a) (Bt b) ∧ bits .xor .u8 (Bt a) (Bt b) < 256 ∧ UInt8.ofNat (bits .xor .u8 (Bt a) (Bt b)).toNat = a ^^^ b := by
  rw [Bt_xor]
  have := UInt8.toNat_lt (a ^^^ b)
  unfold Bt
  refine ⟨by omega, by omega, ?_⟩
  rw [Int.toNat_natCast, UInt8.ofNat_toNat]
theorem xorW_take (s p : List UInt8) (k : Nat) (h : k < p.length) : (xorW s p).take (k + 1) = (xorW s p).take k ++ [p.getD k 0 ^^^ (streamW s (k / 32)).getD (k % 32) 0] := by
  have hl : k < (xorW s p).length := by rw [xorW_length]; exact h
  rw [List.take_succ_eq_append_getElem hl]
  have h4 := xorW_get s p k h
  rw [List.getElem?_eq_getElem hl] at h4
  rw [Option.some.inj h4, List.getD_eq_getElem?_getD (l := p), List.getElem?_eq_getElem h]
  rfl
theorem zeros_bytes (n : Nat) : zerosK n tiByte.zero = [.bytes n (List.replicate n 0)] := by
  show [Seg.bytes (n * 1) (List.replicate n [(0 : UInt8)]).flatten] = _
  rw [Nat.mul_one, flat_rep]
/-- bytes by a sum -/
def row1S (g : List UInt8 → List UInt8 → Res) : List A → (Res → Prop) → Prop
  | [.agg [.bytes 32 h], x], K => rowK x fun p => p.length ≤ 100000 ∧ K (g h p)
  | _, _ => False
theorem row1S_of {f : FuncId} {g : List UInt8 → List UInt8 → Res} (hx : ∀ h p, p.length ≤ 100000 → FnO f [.agg [.bytes 32 h], .row p.length [.bytes p.length p]] (g h p)) : ∀ args K, row1S g args K → ∃ r, FnO f args r ∧ K r := by
  intro args K h
  unfold row1S at h
  split at h
  · obtain ⟨p, ⟨h1, h⟩, hp⟩ := rowK_row h
    refine ⟨_, fun S w vs hG ha => ?_, h⟩
    obtain ⟨v1, v2, rfl, k1, k2⟩ := ra_two ha
    exact hx _ p h1 S w _ hG (.cons k1 (.cons (hp k2) .nil))
  · exact h.elim
noncomputable def envBg : EnvX := envBf
noncomputable def envBh : EnvX := envBg
abbrev FnFO (f : FuncId) (args : List A) (res : Res) : Prop := FnF Try.prog gTab f args res
def sealR (y x : Int) (p : List UInt8) : List A := [.row (sealB y x p).length [.bytes (sealB y x p).length (sealB y x p)], .v (.int .i64 (sealE y p))]
theorem sealOk_no {y : Int} {p : List UInt8} (h : ¬ (isI y = true ∧ p.length ≤ 200)) : sealOk y p = false := by
  unfold sealOk
  cases h1 : isI y with
  | false => rfl
  | true => rw [Bool.true_and]; exact decide_eq_false fun h2 => h ⟨h1, h2⟩
theorem seal_nil {f : FuncId} {args : List A} {y x : Int} {p : List UInt8} (hs : sealOk y p = false) (h : FnFO f args (.t [.v (.slice none 0 0), .v (.int .i64 1)])) : FnFO f args (.t (sealR y x p)) := by
  unfold sealR sealB sealE
  rw [hs]
  intro S w vs hG ha
  refine (h S w vs hG ha).mono ?_
  rintro e w' ⟨v, h1, ⟨vs', h2, h3⟩, h4⟩
  refine ⟨v, h1, ⟨vs', h2, ?_⟩, h4⟩
  cases h3 with
  | cons k r =>
    rw [RA.plain k]
    exact .cons (.row (cs := []) (.ofBytes rfl rfl) (Nat.le_refl _) (Nat.zero_le _) (fun _ => rfl) (.inl rfl)) r
theorem boxW_length (y x : Int) (p : List UInt8) : (boxW y x p).length = 12 + p.length := by
  unfold boxW
  rw [List.length_append, List.length_append, tagW_length, xorW_length, show (fourB (powI 4 x)).length = 4 by unfold fourB; rfl]
theorem seal_yes {y x : Int} {p : List UInt8} (h : isI y = true) (h2 : p.length ≤ 200) : sealB y x p = boxW y x p ∧ sealE y p = 0 := by
  have hs : sealOk y p = true := by unfold sealOk; rw [h, decide_eq_true h2]; rfl
  unfold sealB sealE
  rw [hs]
  exact ⟨rfl, rfl⟩
attribute [local irreducible] xorW tagW
def sealS : List A → (Res → Prop) → Prop
  | [.v (.int .i64 y), .agg [.bytes 32 d], x], K => rowK x fun p => p.length ≤ 1000000 ∧ K (.t (sealR y (scal d) p))
  | _, _ => False
theorem sealS_of {f : FuncId} (hx : ∀ y d p, p.length ≤ 1000000 → FnFO f [.v (.int .i64 y), .agg [.bytes 32 d], .row p.length [.bytes p.length p]] (.t (sealR y (scal d) p))) : ∀ args K, sealS args K → ∃ r, FnO f args r ∧ FnFO f args r ∧ K r := by
  intro args K h
  unfold sealS at h
  split at h
  · obtain ⟨p, ⟨h1, h⟩, hp⟩ := rowK_row h
    refine ⟨_, fun S w vs hG ha => ?_, fun S w vs hG ha => ?_, h⟩
    · obtain ⟨v1, v2, v3, rfl, k1, k2, k3⟩ := ra_three ha
      exact FnF.okT (hx _ _ p h1) S w _ hG (.cons k1 (.cons k2 (.cons (hp k3) .nil)))
    · obtain ⟨v1, v2, v3, rfl, k1, k2, k3⟩ := ra_three ha
      exact hx _ _ p h1 S w _ hG (.cons k1 (.cons k2 (.cons (hp k3) .nil)))
  · exact h.elim
noncomputable def envBi : EnvX := envBh
noncomputable def envBj : EnvX := envBi
end Go.Proofs.Ytegjkfaokpjojaa

/-
  Boxes, as the machine without memory reckons them: opened.
-/
namespace Go.Proofs.Ytegjkfaokpjojaa
set_option maxRecDepth 100000
open Go.RowKit Pm
set_option linter.unusedVariables false
set_option linter.unusedSimpArgs false
attribute [local irreducible] condK LoopA regA powI scal mulI isI fourB deriveW numB xorW tagW shW

/-- the number that four bytes are -/
def num4 (b : List UInt8) : Int := ((((b.getD 0 0).toNat * 256 + (b.getD 1 0).toNat) * 256 + (b.getD 2 0).toNat) * 256 + (b.getD 3 0).toNat : Nat)
theorem or_at (a b i : Nat) (hb : b < 2 ^ i) (hs : a * 2 ^ i + b < 9223372036854775808) : bits .or .i64 ((a * 2 ^ i : Nat) : Int) (b : Int) = ((a * 2 ^ i + b : Nat) : Int) := by
  show IntKind.i64.wrap ((BitVec.ofInt 64 ((a * 2 ^ i : Nat) : Int) ||| BitVec.ofInt 64 (b : Int)).toNat : Int) = _
  rw [BitVec.ofInt_natCast, BitVec.ofInt_natCast, BitVec.toNat_or, BitVec.toNat_ofNat, BitVec.toNat_ofNat, Nat.mod_eq_of_lt (by omega), Nat.mod_eq_of_lt (by omega)]
  have h := Nat.shiftLeft_add_eq_or_of_lt hb a
  rw [Nat.shiftLeft_eq] at h
  rw [← h, IntWalk.i64_in _ (by omega)]
theorem or_step (n : Nat) (hn : n < 1099511627776) (x : UInt8) : bits .or .i64 (IntKind.i64.wrap ((n : Int) * 2 ^ min 8 IntKind.i64.bits)) (IntKind.i64.wrap (Bt x)) = ((n * 256 + x.toNat : Nat) : Int) := by
  have hx := UInt8.toNat_lt x
  have e1 : ((n : Int) * 2 ^ min 8 IntKind.i64.bits) = ((n * 2 ^ 8 : Nat) : Int) := by
    show (n : Int) * 2 ^ 8 = _
    omega
  rw [e1, wrapS (by omega) (by omega), wrapS (z := Bt x) (by unfold Bt; omega) (by unfold Bt; omega)]
  exact or_at n x.toNat 8 hx (by omega)
theorem num4_or (b : List UInt8) : bits .or .i64 (IntKind.i64.wrap (bits .or .i64 (IntKind.i64.wrap (bits .or .i64 (IntKind.i64.wrap (bits .or .i64 (0 * 2 ^ min 8 IntKind.i64.bits) (IntKind.i64.wrap (Bt (b.getD 0 0))) * 2 ^ min 8 IntKind.i64.bits)) (IntKind.i64.wrap (Bt (b.getD 1 0))) * 2 ^ min 8 IntKind.i64.bits)) (IntKind.i64.wrap (Bt (b.getD 2 0))) * 2 ^ min 8 IntKind.i64.bits)) (IntKind.i64.wrap (Bt (b.getD 3 0))) = num4 b := by
  have h0 := UInt8.toNat_lt (b.getD 0 0)
  have h1 := UInt8.toNat_lt (b.getD 1 0)
  have h2 := UInt8.toNat_lt (b.getD 2 0)
  have s0 : bits .or .i64 (0 * 2 ^ min 8 IntKind.i64.bits) (IntKind.i64.wrap (Bt (b.getD 0 0))) = (((b.getD 0 0).toNat : Nat) : Int) := by
    have h := or_step 0 (by omega) (b.getD 0 0)
    rw [Nat.zero_mul, Nat.zero_add] at h
    rw [← h]
    congr 1
  rw [s0, or_step _ (by omega), or_step _ (by omega), or_step _ (by omega), num4]
theorem num4_or2 (b : List UInt8) : bits .or .i64 (bits .or .i64 (bits .or .i64 (IntKind.i64.wrap (IntKind.i64.wrap (Bt (b.getD 0 0)) * 2 ^ min 24 IntKind.i64.bits)) (IntKind.i64.wrap (IntKind.i64.wrap (Bt (b.getD 1 0)) * 2 ^ min 16 IntKind.i64.bits))) (IntKind.i64.wrap (IntKind.i64.wrap (Bt (b.getD 2 0)) * 2 ^ min 8 IntKind.i64.bits))) (IntKind.i64.wrap (Bt (b.getD 3 0))) = num4 b := by
  have h0 := UInt8.toNat_lt (b.getD 0 0)
  have h1 := UInt8.toNat_lt (b.getD 1 0)
  have h2 := UInt8.toNat_lt (b.getD 2 0)
  have h3 := UInt8.toNat_lt (b.getD 3 0)
  have w : ∀ x : UInt8, IntKind.i64.wrap (Bt x) = (x.toNat : Int) := fun x => by have := UInt8.toNat_lt x; exact wrapS (by unfold Bt; omega) (by unfold Bt; omega)
  have e0 : IntKind.i64.wrap (((b.getD 0 0).toNat : Int) * 2 ^ min 24 IntKind.i64.bits) = (((b.getD 0 0).toNat * 2 ^ 24 : Nat) : Int) := by
    rw [show ((b.getD 0 0).toNat : Int) * 2 ^ min 24 IntKind.i64.bits = (((b.getD 0 0).toNat * 2 ^ 24 : Nat) : Int) by show _ * 2 ^ 24 = _; omega]
    exact wrapS (by omega) (by omega)
  have e1 : IntKind.i64.wrap (((b.getD 1 0).toNat : Int) * 2 ^ min 16 IntKind.i64.bits) = (((b.getD 1 0).toNat * 2 ^ 16 : Nat) : Int) := by
    rw [show ((b.getD 1 0).toNat : Int) * 2 ^ min 16 IntKind.i64.bits = (((b.getD 1 0).toNat * 2 ^ 16 : Nat) : Int) by show _ * 2 ^ 16 = _; omega]
    exact wrapS (by omega) (by omega)
  have e2 : IntKind.i64.wrap (((b.getD 2 0).toNat : Int) * 2 ^ min 8 IntKind.i64.bits) = (((b.getD 2 0).toNat * 2 ^ 8 : Nat) : Int) := by
    rw [show ((b.getD 2 0).toNat : Int) * 2 ^ min 8 IntKind.i64.bits = (((b.getD 2 0).toNat * 2 ^ 8 : Nat) : Int) by show _ * 2 ^ 8 = _; omega]
    exact wrapS (by omega) (by omega)
  rw [w, w, w, w, e0, e1, e2, or_at _ _ 24 (by omega) (by omega)]
  rw [show (b.getD 0 0).toNat * 2 ^ 24 + (b.getD 1 0).toNat * 2 ^ 16 = ((b.getD 0 0).toNat * 256 + (b.getD 1 0).toNat) * 2 ^ 16 by omega, or_at _ _ 16 (by omega) (by omega)]
  rw [show ((b.getD 0 0).toNat * 256 + (b.getD 1 0).toNat) * 2 ^ 16 + (b.getD 2 0).toNat * 2 ^ 8 = (((b.getD 0 0).toNat * 256 + (b.getD 1 0).toNat) * 256 + (b.getD 2 0).toNat) * 2 ^ 8 by omega, or_at _ _ 8 (by omega) (by omega), num4]
theorem beq_toList (p q : List UInt8) : ((ByteArray.mk p.toArray).toList == (ByteArray.mk q.toArray).toList) = (p == q) := by rw [ByteArray.toList_mk, ByteArray.toList_mk]
def equalS : List A → (Res → Prop) → Prop
  | [x, y], K => rowK x fun p => rowK y fun q => p.length ≤ 1000000 ∧ q.length ≤ 1000000 ∧ K (.d (.v (.bool (p == q))))
  | _, _ => False
def numberS : List A → (Res → Prop) → Prop
  | [.row 4 [.bytes 4 b]], K => K (.d (.v (.int .i64 (num4 b))))
  | _, _ => False
noncomputable def envBk : EnvX := envBj
noncomputable def envBl : EnvX := envBk
/-- is it opened? -/
def openOk (x : Int) (b : List UInt8) : Bool := isI (num4 b) && ((b.drop 4).take 8 == tagW (shW (num4 b) x) (b.take 4) (b.drop 12))
def openE (x : Int) (b : List UInt8) : Int := if b.length < 12 ∨ b.length > 212 then 2 else if openOk x b = true then 0 else 3
def openB (x : Int) (b : List UInt8) : List UInt8 := xorW (shW (num4 b) x) (b.drop 12)
def openR (x : Int) (b : List UInt8) : List A := if openE x b = 0 then [.row (b.length - 12) [.bytes (b.length - 12) (openB x b)], .v (.int .i64 0)] else [.v (.slice none 0 0), .v (.int .i64 (openE x b))]
theorem num4_take (b : List UInt8) : num4 (b.take 4) = num4 b := by
  have h : ∀ i, i < 4 → (b.take 4).getD i 0 = b.getD i 0 := fun i hi => by simp [List.getD_eq_getElem?_getD, List.getElem?_take, hi]
  unfold num4
  rw [h 0 (by omega), h 1 (by omega), h 2 (by omega), h 3 (by omega)]
attribute [local irreducible] num4
/-- a box that is opened: either way -/
def opnK (s : Int) (b : List UInt8) (K : List A → Prop) : Prop :=
  StopC (condK (decide (openE s b = 0)) (K [.row (b.length - 12) [.bytes (b.length - 12) (openB s b)], .v (.int .i64 0)]) (K [.v (.slice none 0 0), .v (.int .i64 (openE s b))]))
theorem opnK_spec {s : Int} {b : List UInt8} {K : List A → Prop} (h : opnK s b K) : K (openR s b) := by
  have h := h.out
  unfold openR
  by_cases he : openE s b = 0
  · rw [decide_eq_true he, condK_true] at h
    rw [if_pos he]
    exact h
  · rw [decide_eq_false he, condK_false] at h
    rw [if_neg he]
    exact h
def openM : Nat → Bk → List A → (Res → Bk → Prop) → Prop
  | 0, .obj P, [x], K => ∃ s, P = KeyP s ∧ rowK x fun b => b.length ≤ 1000000 ∧ opnK s b fun l => K (.t l) (.obj (KeyP s))
  | _, _, _, _ => False
def ropenS : List A → (Res → Prop) → Prop
  | [.agg [.ints .i64 2 [s, y]], x], K => rowK x fun b => b.length ≤ 1000000 ∧ opnK s b fun l => K (.t l)
  | _, _ => False
noncomputable def envBm : EnvX := envBl
noncomputable def envBn : EnvX := envBm
end Go.Proofs.Ytegjkfaokpjojaa
