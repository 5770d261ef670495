/-
  Views: operations with what is not their own.
-/
import Derived.Test.YtegjkfaokpjojaaJ19
namespace Go.Proofs.Ytegjkfaokpjojaa
set_option maxRecDepth 100000
open Go.RowKit Pm
set_option linter.unusedVariables false
set_option linter.unusedSimpArgs false
attribute [local irreducible] condK LoopA regA

/-- has an operation nothing but its own fields? kind, who, threshold, keys -/
def ownB (o : List Int) : Bool :=
  if o.getD 0 0 = 1 then decide (o.getD 1 0 = 0) && decide (o.getD 2 0 = 0)
  else if o.getD 0 0 = 2 ∨ o.getD 0 0 = 3 ∨ o.getD 0 0 = 4 then decide (o.getD 2 0 = 0) && (decide (o.getD 3 0 = 0) && decide (o.getD 4 0 = 0))
  else if o.getD 0 0 = 5 then decide (o.getD 1 0 = 0) && (decide (o.getD 3 0 = 0) && decide (o.getD 4 0 = 0))
  else false
theorem five {o : List Int} (h : o.length = 5) : ∃ a b c d e, o = [a, b, c, d, e] := by
  rcases o with _ | ⟨a, _ | ⟨b, _ | ⟨c, _ | ⟨d, _ | ⟨e, _ | ⟨f, l⟩⟩⟩⟩⟩⟩ <;> simp at h
  exact ⟨a, b, c, d, e, rfl⟩
def ownS (neg : Bool) : List A → (Res → Prop) → Prop
  | [.agg [.ints .i64 5 o]], K => K (.d (.v (.bool (if neg = true then !ownB o else ownB o))))
  | _, _ => False
theorem ownS_of {f : FuncId} (neg : Bool) (hx : ∀ o, FnO f [.agg [.ints .i64 5 o]] (.d (.v (.bool (if neg = true then !ownB o else ownB o))))) : ∀ args K, ownS neg args K → ∃ r, FnO f args r ∧ K r := by
  intro args K h
  unfold ownS at h
  split at h
  · exact ⟨_, hx _, h⟩
  · exact h.elim
noncomputable def envVe : EnvX := envVd
noncomputable def envVf : EnvX := envVe
/-! is any operation odd? -/
def opAt (zs : List Int) (i : Nat) : List Int := (zs.drop (i * 5)).take 5
def idxP (p : Nat → Bool) (n : Nat) : Int := match (List.range n).find? p with | some i => (i : Int) | none => -1
theorem idxP_at {p : Nat → Bool} {n k : Nat} (hk : k < n) (h : p k = true) (hn : ∀ j < k, p j = false) : idxP p n = (k : Int) := by
  have : (List.range n).find? p = some k := by
    rw [List.find?_range_eq_some]
    exact ⟨h, by simpa using hk, fun j hj => by simp [hn j hj]⟩
  unfold idxP; rw [this]
theorem idxP_none {p : Nat → Bool} {n : Nat} (hn : ∀ j < n, p j = false) : idxP p n = -1 := by
  have : (List.range n).find? p = none := by
    rw [List.find?_eq_none]
    intro j hj
    simp [hn j (by simpa using hj)]
  unfold idxP; rw [this]
def oddTo (zs : List Int) (n : Nat) : Bool := (List.range n).any fun i => !ownB (opAt zs i)
theorem idxP_any (zs : List Int) (n : Nat) : decide (idxP (fun i => !ownB (opAt zs i)) n ≥ 0) = oddTo zs n := by
  cases h : oddTo zs n with
  | true =>
    unfold oddTo at h
    rw [List.any_eq_true] at h
    obtain ⟨i, hi, hp⟩ := h
    unfold idxP
    cases hf : (List.range n).find? fun i => !ownB (opAt zs i) with
    | some j => simp
    | none =>
      rw [List.find?_eq_none] at hf
      exact absurd hp (hf i hi)
  | false =>
    unfold oddTo at h
    rw [List.any_eq_false] at h
    have := idxP_none (p := fun i => !ownB (opAt zs i)) (n := n) fun j hj => by
      have := h j (by simpa using hj)
      simpa using this
    rw [this]; rfl
def funOf : A → Option FuncId
  | .v (.func (.func g) a b) => if a = #[] ∧ b = #[] then some g else none
  | _ => none
noncomputable def envVg : EnvX := envVf
noncomputable def envVh : EnvX := envVg
end Go.Proofs.Ytegjkfaokpjojaa

/-
  Views: the operations one by one, as the program does them.
-/
namespace Go.Proofs.Ytegjkfaokpjojaa
set_option maxRecDepth 100000
open Go.RowKit Pm
set_option linter.unusedVariables false
set_option linter.unusedSimpArgs false
attribute [local irreducible] condK LoopA regA isI

/-- a view on its way -/
abbrev sSegs (e : Int) (zs : List Int) (ad : List Bool) (k : Int) (ch : List UInt8) (fr : Int) (ng gn : List Bool) : List Seg := [.ints .i64 1 [e], .ints .i64 31 zs, .bools 8 ad, .ints .i64 1 [k], .bytes 32 ch, .ints .i64 1 [fr], .bools 8 ng, .bools 8 gn]
/-- has any leaf this key to sign? -/
def usedB (zs : List Int) (s : Int) : Bool := (List.range 8).any fun i => decide (zs.getD (i * 2) 0 = s)
/-- the first place without a member -/
def freeN (zs : List Int) : Nat := ((List.range 8).find? fun i => !memL zs i).getD 8
def fullB (zs : List Int) : Bool := (List.range 8).all fun i => memL zs i
def errAdd (zs xs : List Int) : Int := if (isI (xs.getD 0 0) && isI (xs.getD 1 0)) = true then (if usedB zs (xs.getD 0 0) = true then 7 else if fullB zs = true then 12 else 0) else 7
theorem free_at {zs : List Int} {k : Nat} (hk : k < 8) (h : memL zs k = false) (hn : ∀ j < k, memL zs j = true) : freeN zs = k := by
  have : (List.range 8).find? (fun i => !memL zs i) = some k := by
    rw [List.find?_range_eq_some]
    exact ⟨by simp [h], by simpa using hk, fun j hj => by simp [hn j hj]⟩
  unfold freeN; rw [this]; rfl
theorem full_iff (zs : List Int) : fullB zs = true ↔ ∀ i < 8, memL zs i = true := by
  unfold fullB
  rw [List.all_eq_true]
  simp
theorem memTo_full (zs : List Int) : ∀ k, (memTo zs k).length = k ↔ ∀ i < k, memL zs i = true
  | 0 => by simp [memTo]
  | k + 1 => by
    have L := memTo_len zs k
    have ih := memTo_full zs k
    rw [memTo, List.length_append]
    by_cases h : memL zs k = true
    · rw [if_pos h]
      constructor
      · intro h2 i hi
        by_cases e : i = k
        · rw [e]; exact h
        · exact ih.1 (by simpa using h2) i (by omega)
      · intro h2
        have := ih.2 fun i hi => h2 i (by omega)
        simp [this]
    · rw [if_neg h]
      constructor
      · intro h2; simp at h2; omega
      · intro h2; exact absurd (h2 k (by omega)) h
theorem used_t {zs : List Int} {s : Int} {i : Nat} (hi : i < 8) (h : zs.getD (i * 2) 0 = s) : usedB zs s = true := by
  unfold usedB
  rw [List.any_eq_true]
  exact ⟨i, by simpa using hi, by simpa using h⟩
theorem used_f {zs : List Int} {s : Int} (h : ∀ i < 8, zs.getD (i * 2) 0 ≠ s) : usedB zs s = false := by
  unfold usedB
  rw [List.any_eq_false]
  intro i hi
  simpa using h i (by simpa using hi)
theorem leafP_get0 (zs : List Int) {i : Nat} (hi : i < 8) : (leafP zs i).getD 0 0 = zs.getD (i * 2) 0 := by
  rw [leafP_eq zs hi]
  simp [List.getD_eq_getElem?_getD, List.getElem?_take]
theorem used_mem {zs : List Int} {s : Int} (hs : s ≠ 0) (h : ∀ j < (memTo zs 8).length, zs.getD (((memTo zs 8).getD j 0).toNat * 2) 0 ≠ s) : usedB zs s = false := by
  refine used_f fun i hi => ?_
  by_cases hm : memL zs i = true
  · have hin : (i : Int) ∈ memTo zs 8 := (memTo_mem zs 8 i).2 ⟨by omega, by omega, by simpa using hm⟩
    obtain ⟨j, hj, e⟩ := List.getElem_of_mem hin
    have := h j hj
    rw [List.getD_eq_getElem?_getD (l := memTo zs 8), List.getElem?_eq_getElem hj, Option.getD_some, e] at this
    simpa using this
  · have h0 : leafP zs i = [0, 0] := by
      have : memL zs i = false := by simpa using hm
      simpa [memL] using this
    rw [← leafP_get0 zs hi, h0]
    exact fun e => hs e.symm
theorem isI_ne {y : Int} (h : isI y = true) : y ≠ 0 := by rintro rfl; simp [isI] at h
theorem two {o : List Int} (h : o.length = 2) : ∃ a b, o = [a, b] := by
  rcases o with _ | ⟨a, _ | ⟨b, _ | ⟨c, l⟩⟩⟩ <;> simp at h
  exact ⟨a, b, rfl⟩
attribute [local irreducible] memTo memL freeN usedB fullB putL errAdd isT memB
def addSM : Nat → Bk → List A → (Res → Bk → Prop) → Prop
  | 0, .var [.ints .i64 1 [e], .ints .i64 31 zs, .bools 8 ad, .ints .i64 1 [k], .bytes 32 ch, .ints .i64 1 [fr], .bools 8 ng, .bools 8 gn], [.agg [.ints .i64 2 xs]], K =>
    K (.d (.v (.int .i64 (errAdd zs xs)))) (.var (if errAdd zs xs = 0 then sSegs e (putL zs xs (freeN zs : Nat)) ad k ch fr (ng.set (freeN zs) true) gn else sSegs e zs ad k ch fr ng gn))
  | _, _, _, _ => False
end Go.Proofs.Ytegjkfaokpjojaa

/-
  Views: the other operations, as the program does them.
-/
namespace Go.Proofs.Ytegjkfaokpjojaa
set_option maxRecDepth 100000
open Go.RowKit Pm
set_option linter.unusedVariables false
set_option linter.unusedSimpArgs false
attribute [local irreducible] condK LoopA regA isI memTo memL freeN usedB fullB putL errAdd isT memB

def errRem (zs : List Int) (fr who : Int) : Int := if who = fr ∨ memB zs who = false then 7 else 0
def errPro (zs : List Int) (ad : List Bool) (who : Int) : Int := if memB zs who = false ∨ ad.getD who.toNat false = true then 7 else 0
def errDem (zs : List Int) (ad : List Bool) (who : Int) : Int := if memB zs who = false ∨ ad.getD who.toNat false = false then 7 else 0
def errLim (k : Int) : Int := if k < 1 ∨ k > 8 then 7 else 0
theorem memB_bd {zs : List Int} {i : Int} (h : memB zs i = true) : 0 ≤ i ∧ i < 8 := by
  unfold memB at h
  simp [leafB] at h
  omega
end Go.Proofs.Ytegjkfaokpjojaa
