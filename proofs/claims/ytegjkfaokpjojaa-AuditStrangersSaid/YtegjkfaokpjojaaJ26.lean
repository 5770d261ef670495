/-
  Operations as bytes, sums of views.
-/
import Derived.Test.YtegjkfaokpjojaaJ25
import Derived.Test.YtegjkfaokpjojaaJ19
namespace Go.Proofs.Ytegjkfaokpjojaa
set_option maxRecDepth 100000
open Go.RowKit Pm
set_option linter.unusedVariables false
set_option linter.unusedSimpArgs false
attribute [local irreducible] condK LoopA regA numB deriveW numsB treeHV

/-- a byte for each: one for an admin -/
def flagsB (ad : List Bool) : List UInt8 := ad.map fun b => if b = true then 1 else 0
def flagsT (ad : List Bool) (j : Nat) : List UInt8 := (flagsB ad).take j ++ List.replicate (8 - j) 0
theorem flagsT_8 {ad : List Bool} (h : ad.length = 8) : flagsT ad 8 = flagsB ad := by
  unfold flagsT
  rw [List.take_of_length_le (by simp [flagsB, h]), Nat.sub_self, List.replicate_zero, List.append_nil]
theorem flagsT_get {ad : List Bool} (h : ad.length = 8) {j : Nat} (hj : j < 8) : flagsT ad (j + 1) = (flagsT ad j).set j (if ad.getD j false = true then 1 else 0) := by
  have hl : (flagsB ad).length = 8 := by simp [flagsB, h]
  unfold flagsT
  rw [List.set_append_right _ _ (by simp; omega), List.length_take, hl, Nat.min_eq_left (by omega), Nat.sub_self, show 8 - j = (8 - (j + 1)) + 1 by omega, List.replicate_succ, List.set_cons_zero, List.take_add_one, List.append_assoc]
  congr 1
  rw [List.getElem?_eq_getElem (by omega)]
  simp [flagsB, List.getD_eq_getElem?_getD, List.getElem?_eq_getElem (show j < ad.length by omega)]
theorem flagsT_0 {ad : List Bool} (h : ad.length = 8) {j : Nat} (hj : j < 8) (hb : ad.getD j false = false) : flagsT ad (j + 1) = flagsT ad j := by
  have hl : (flagsB ad).length = 8 := by simp [flagsB, h]
  have h1 := flagsT_get h hj
  rw [hb] at h1
  rw [h1]
  unfold flagsT
  rw [List.set_append_right _ _ (by simp; omega), List.length_take, hl, Nat.min_eq_left (by omega), Nat.sub_self, show 8 - j = (8 - (j + 1)) + 1 by omega, List.replicate_succ, List.set_cons_zero]
  rfl
theorem flagsT_1 {ad : List Bool} (h : ad.length = 8) {j : Nat} (hj : j < 8) (hb : ad.getD j false = true) : flagsT ad (j + 1) = (flagsT ad j).set j 1 := by
  have h1 := flagsT_get h hj
  rw [hb] at h1
  exact h1
attribute [local irreducible] flagsT
theorem flagsT_00 (ad : List Bool) : flagsT ad 0 = [0, 0, 0, 0, 0, 0, 0, 0] := by rw [flagsT]; rfl
def viewHV (e : Int) (zs : List Int) (ad : List Bool) (k : Int) (ch : List UInt8) : List UInt8 := deriveW ch (sb ⟨#[118, 105, 101, 119]⟩) (numB e ++ (numB k ++ (flagsB ad ++ treeHV zs)))
theorem five_get (L : List Int) (i k : Nat) (hk : k < 5) : ((L.drop i).take 5).getD k 0 = L.getD (i + k) 0 := by
  rw [List.getD_eq_getElem?_getD, List.getElem?_take, if_pos hk, List.getElem?_drop, ← List.getD_eq_getElem?_getD]
theorem five_eq {o : List Int} (h : o.length = 5) : o = [o.getD 0 0, o.getD 1 0, o.getD 2 0, o.getD 3 0, o.getD 4 0] := by
  rcases o with _ | ⟨a, _ | ⟨b, _ | ⟨c, _ | ⟨d, _ | ⟨e, _ | ⟨f, l⟩⟩⟩⟩⟩⟩ <;> first | (simp at h; done) | rfl
theorem numsB_five (zs : List Int) {i : Nat} (h : i + 5 ≤ zs.length) : numsB (zs.take (i + 5)) = numsB (zs.take i) ++ numsB [((zs.drop i).take 5).getD 0 0, ((zs.drop i).take 5).getD 1 0, ((zs.drop i).take 5).getD 2 0, ((zs.drop i).take 5).getD 3 0, ((zs.drop i).take 5).getD 4 0] := by
  rw [← five_eq (o := (zs.drop i).take 5) (by simp; omega), ← numsB_append, List.take_add]
def flagsS : List A → (Res → Prop) → Prop
  | [.agg [.bools 8 ad]], K => K (.o 5 1 8 [.bytes 8 (flagsB ad)])
  | _, _ => False
noncomputable def envK9 : EnvX := envK8
attribute [local irreducible] flagsB
/-- a view's sum, on both sides -/
def vHashS : List A → (Res → Prop) → Prop
  | [.agg [.ints .i64 1 [e], .ints .i64 31 zs, .bools 8 ad, .ints .i64 1 [k], .bytes 32 ch]], K => K (.d (.agg [.bytes 32 (viewHV e zs ad k ch)]))
  | _, _ => False
theorem vHashS_of {f : FuncId} (hx : ∀ e zs ad k ch, FnO f [.agg (vSegs e zs ad k ch)] (.d (.agg [.bytes 32 (viewHV e zs ad k ch)]))) : ∀ args K, vHashS args K → ∃ r, FnO f args r ∧ K r := by
  intro args K h
  unfold vHashS at h
  split at h
  · exact ⟨_, hx _ _ _ _ _, h⟩
  · exact h.elim
end Go.Proofs.Ytegjkfaokpjojaa
