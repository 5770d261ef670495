/-
  Trees: each member below a node is under just one node of those by which it is reached.
-/
import Derived.Test.YtegjkfaokpjojaaJ16
import Derived.Test.YtegjkfaokpjojaaJ11
import Derived.Test.YtegjkfaokpjojaaJ13
namespace Go.Proofs.Ytegjkfaokpjojaa
set_option maxRecDepth 100000
open Go.RowKit
set_option linter.unusedVariables false
set_option linter.unusedSimpArgs false
attribute [local irreducible] condK LoopA regA

/-- how many of these nodes a leaf is under -/
def cu (l : List Int) (i : Nat) : Nat := l.countP fun m => underB m (i : Int)
theorem cu_step (l : List Int) (i k : Nat) (hk : k < l.length) : cu (l.take (k + 1)) i = cu (l.take k) i + (if underB (l.getD k 0) (i : Int) = true then 1 else 0) := by
  unfold cu
  rw [List.take_succ_eq_append_getElem hk, List.countP_append, List.countP_singleton]
  simp [List.getD_eq_getElem?_getD, hk]
theorem cu_le (l : List Int) (i : Nat) : cu l i ≤ l.length := List.countP_le_length
theorem under_odd {n : Int} (hn : oddB n = true) {i : Nat} (hi : i < 8) : (if underB (n - stepZ n) (i : Int) = true then 1 else 0) + (if underB (n + stepZ n) (i : Int) = true then 1 else 0) = (if underB n (i : Int) = true then 1 else 0) := by
  have : i = 0 ∨ i = 1 ∨ i = 2 ∨ i = 3 ∨ i = 4 ∨ i = 5 ∨ i = 6 ∨ i = 7 := by omega
  rcases seven hn with rfl | rfl | rfl | rfl | rfl | rfl | rfl <;> rcases this with rfl | rfl | rfl | rfl | rfl | rfl | rfl | rfl <;> decide
theorem under_even {n : Int} (hn : oddB n = false) {i : Nat} (hi : i < 8) : underB n (i : Int) = decide (n = 2 * (i : Int)) := by
  have hl : leafB (i : Int) = true := by simp [leafB]; omega
  simp only [underB, hl, Bool.true_and]
  by_cases h0 : 0 ≤ n
  · by_cases h1 : n < 15
    · simp [oddB, h0, h1] at hn
      have a1 : ¬ n = (i : Int) / 2 * 4 + 1 := by omega
      have a2 : ¬ n = (i : Int) / 4 * 8 + 3 := by omega
      have a3 : ¬ n = 7 := by omega
      simp [a1, a2, a3]
    · have a1 : ¬ n = (i : Int) / 2 * 4 + 1 := by omega
      have a2 : ¬ n = (i : Int) / 4 * 8 + 3 := by omega
      have a3 : ¬ n = 7 := by omega
      simp [a1, a2, a3]
  · have a1 : ¬ n = (i : Int) / 2 * 4 + 1 := by omega
    have a2 : ¬ n = (i : Int) / 4 * 8 + 3 := by omega
    have a3 : ¬ n = 7 := by omega
    simp [a1, a2, a3]
theorem odd_in {d : Nat} {n : Int} (hn : oddB n = true) (h : okD (d + 1) n = true) : True := trivial
theorem count_res (zs : List Int) {i : Nat} (hi : i < 8) : ∀ (d : Nat) (n : Int), okD d n = true → cu (resF d zs n) i ≤ (if underB n (i : Int) = true then 1 else 0) ∧ (underB n (i : Int) = true → keyZ zs (2 * (i : Int)) ≠ 0 → cu (resF d zs n) i = 1) := by
  have one : ∀ n : Int, cu [n] i = if underB n (i : Int) = true then 1 else 0 := fun n => by simp [cu, List.countP_singleton]
  have leaf : ∀ (n : Int) (l : List Int), oddB n = false → l = (if keyZ zs n = 0 then [] else [n]) → cu l i ≤ (if underB n (i : Int) = true then 1 else 0) ∧ (underB n (i : Int) = true → keyZ zs (2 * (i : Int)) ≠ 0 → cu l i = 1) := by
    rintro n l hn rfl
    by_cases hk : keyZ zs n = 0
    · rw [if_pos hk]
      refine ⟨by simp [cu], fun hu hk2 => ?_⟩
      rw [under_even hn hi] at hu
      simp at hu
      rw [← hu] at hk2
      exact absurd hk hk2
    · rw [if_neg hk, one]
      exact ⟨Nat.le_refl _, fun hu _ => by simp [hu]⟩
  intro d
  induction d with
  | zero =>
    intro n hn
    exact leaf n _ (by simpa [okD] using hn) (by simp [resF])
  | succ d ih =>
    intro n hok
    cases hn : oddB n with
    | false => exact leaf n _ hn (by simp [resF, hn])
    | true =>
      obtain ⟨o1, o2⟩ := odd_levels hn hok
      have hu := under_odd hn hi
      by_cases hk : keyZ zs n = 0
      · have e : resF (d + 1) zs n = resF d zs (n - stepZ n) ++ resF d zs (n + stepZ n) := by simp [resF, hk, hn]
        have e2 : cu (resF (d + 1) zs n) i = cu (resF d zs (n - stepZ n)) i + cu (resF d zs (n + stepZ n)) i := by rw [e]; simp [cu]
        obtain ⟨a1, a2⟩ := ih _ o1
        obtain ⟨b1, b2⟩ := ih _ o2
        rw [e2]
        refine ⟨by omega, fun h1 h2 => ?_⟩
        rw [if_pos h1] at hu
        cases hq : underB (n - stepZ n) (i : Int) with
        | true =>
          rw [hq] at hu a1
          have := a2 hq h2
          simp at hu a1
          rw [if_neg (by simp [hu])] at b1
          omega
        | false =>
          rw [hq] at hu a1
          simp at hu a1
          have := b2 hu h2
          rw [hu] at b1
          simp at b1
          omega
      · have e : resF (d + 1) zs n = [n] := by simp [resF, hk]
        rw [e, one]
        exact ⟨Nat.le_refl _, fun h1 _ => by simp [h1]⟩
end Go.Proofs.Ytegjkfaokpjojaa

/-
  Trees: a leaf put.
-/
namespace Go.Proofs.Ytegjkfaokpjojaa
set_option maxRecDepth 100000
open Go.RowKit
set_option linter.unusedVariables false
set_option linter.unusedSimpArgs false
attribute [local irreducible] condK LoopA regA

def putL (zs xs : List Int) (i : Int) : List Int :=
  if leafB i = true then (((zs.take (i.toNat * 2) ++ (xs ++ zs.drop (i.toNat * 2 + 2))).set (16 + (i / 2 * 4 + 1).toNat) 0).set (16 + (i / 4 * 8 + 3).toNat) 0).set (16 + 7) 0 else List.replicate 31 0
def putS : List A → (Res → Prop) → Prop
  | [.agg [.ints .i64 31 zs], .v (.int .i64 i), .agg [.ints .i64 2 xs]], K => K (.d (.agg [.ints .i64 31 (putL zs xs i)]))
  | _, _ => False
theorem putS_ok {f : FuncId} (hx : ∀ zs i xs, FnO f [.agg [.ints .i64 31 zs], .v (.int .i64 i), .agg [.ints .i64 2 xs]] (.d (.agg [.ints .i64 31 (putL zs xs i)]))) : ∀ args K, putS args K → ∃ r, FnO f args r ∧ K r := by
  intro args K h
  unfold putS at h
  split at h
  · exact ⟨_, hx _ _ _, h⟩
  · exact h.elim
noncomputable def env6a : EnvX := env5
noncomputable def env6 : EnvX := env6a

end Go.Proofs.Ytegjkfaokpjojaa

/-
  Trees: whether one may be.
-/
namespace Go.Proofs.Ytegjkfaokpjojaa
set_option maxRecDepth 100000
open Go.RowKit Pm
set_option linter.unusedVariables false
set_option linter.unusedSimpArgs false
attribute [local irreducible] condK LoopA regA

def isS : List A → (Res → Prop) → Prop
  | [.v (.int .i64 y)], K => K (.d (.v (.bool (isI y))))
  | _, _ => False
theorem isS_ok {f : FuncId} (hx : ∀ y, FnO f [.v (.int .i64 y)] (.d (.v (.bool (isI y))))) : ∀ args K, isS args K → ∃ r, FnO f args r ∧ K r := by
  intro args K h
  unfold isS at h
  split at h
  · exact ⟨_, hx _, h⟩
  · exact h.elim
def ofLeafS : List A → (Res → Prop) → Prop
  | [.v (.int .i64 y)], K => K (.d (.v (.bool (y.tmod 2 == 0))))
  | _, _ => False
theorem ofLeafS_ok {f : FuncId} (hx : ∀ y, FnO f [.v (.int .i64 y)] (.d (.v (.bool (y.tmod 2 == 0))))) : ∀ args K, ofLeafS args K → ∃ r, FnO f args r ∧ K r := by
  intro args K h
  unfold ofLeafS at h
  split at h
  · exact ⟨_, hx _, h⟩
  · exact h.elim
noncomputable def env7a : EnvX := env6
noncomputable def env7b : EnvX := env7a
noncomputable def env7 : EnvX := env7b

def leafP (zs : List Int) (k : Nat) : List Int := ((zs.take 16).drop (k * 2)).take 2
def leafOK (zs : List Int) (k : Nat) : Bool := decide (leafP zs k = [0, 0]) || (isI ((leafP zs k).getD 0 0) && isI ((leafP zs k).getD 1 0))
def nodeV (zs : List Int) (k : Nat) : Int := ((zs.drop 16).take 15).getD k 0
def nodeOK (zs : List Int) (k : Nat) : Bool := decide (nodeV zs k = 0) || (!((k : Int).tmod 2 == 0) && isI (nodeV zs k))
def isT (zs : List Int) : Bool := (List.range 8).all (leafOK zs) && (List.range 15).all (nodeOK zs)
theorem isT_leaf {zs : List Int} {k : Nat} (hk : k < 8) (h : leafOK zs k = false) : isT zs = false := by
  have : (List.range 8).all (leafOK zs) = false := List.all_eq_false.2 ⟨k, by simpa using hk, by simp [h]⟩
  simp [isT, this]
theorem isT_node {zs : List Int} {k : Nat} (hk : k < 15) (h : nodeOK zs k = false) : isT zs = false := by
  have : (List.range 15).all (nodeOK zs) = false := List.all_eq_false.2 ⟨k, by simpa using hk, by simp [h]⟩
  simp [isT, this]
theorem isT_all {zs : List Int} (h1 : ∀ k < 8, leafOK zs k = true) (h2 : ∀ k < 15, nodeOK zs k = true) : isT zs = true := by
  have e1 : (List.range 8).all (leafOK zs) = true := List.all_eq_true.2 fun k hk => h1 k (by simpa using hk)
  have e2 : (List.range 15).all (nodeOK zs) = true := List.all_eq_true.2 fun k hk => h2 k (by simpa using hk)
  simp only [isT, e1, e2]; rfl
end Go.Proofs.Ytegjkfaokpjojaa

/-
  Trees: by the root's all members are reached, each once; with its own key by that alone.
-/
namespace Go.Proofs.Ytegjkfaokpjojaa
set_option maxRecDepth 100000
open Go.RowKit Pm
set_option linter.unusedVariables false
set_option linter.unusedSimpArgs false
attribute [local irreducible] condK LoopA regA

noncomputable def env15a : EnvX := env12
theorem leafP_eq (zs : List Int) {k : Nat} (hk : k < 8) : leafP zs k = (zs.drop (k * 2)).take 2 := by
  unfold leafP
  rw [List.drop_take, List.take_take]
  congr 1; omega
theorem nodeV_eq (zs : List Int) {k : Nat} (hk : k < 15) : nodeV zs k = zs.getD (16 + k) 0 := by
  unfold nodeV
  simp [List.getD_eq_getElem?_getD, List.getElem?_take, hk]
end Go.Proofs.Ytegjkfaokpjojaa

/-
  Trees: a tree with a key that is none may not be.
-/
namespace Go.Proofs.Ytegjkfaokpjojaa
set_option maxRecDepth 100000
open Go.RowKit Pm
set_option linter.unusedVariables false
set_option linter.unusedSimpArgs false
attribute [local irreducible] condK LoopA regA

def isTS : List A → (Res → Prop) → Prop
  | [.agg [.ints .i64 31 zs]], K => K (.d (.v (.bool (isT zs))))
  | _, _ => False
theorem isTS_ok {f : FuncId} (hx : ∀ zs, FnO f [.agg [.ints .i64 31 zs]] (.d (.v (.bool (isT zs))))) : ∀ args K, isTS args K → ∃ r, FnO f args r ∧ K r := by
  intro args K h
  unfold isTS at h
  split at h
  · exact ⟨_, hx _, h⟩
  · exact h.elim
noncomputable def env8 : EnvX := env7

theorem i4 : isI 4 = true := by
  have h := isI_four 1 (by decide) (by decide)
  have e : ((pw 4 1 : Nat) : Int) = 4 := by rw [pw_def]; rfl
  rw [e] at h; exact h
theorem i0 : isI 0 = false := by simp [isI]
theorem isT_eq (zs : List Int) : isT zs = ((leafOK zs 0 && (leafOK zs 1 && (leafOK zs 2 && (leafOK zs 3 && (leafOK zs 4 && (leafOK zs 5 && (leafOK zs 6 && (leafOK zs 7 && true)))))))) &&
    (nodeOK zs 0 && (nodeOK zs 1 && (nodeOK zs 2 && (nodeOK zs 3 && (nodeOK zs 4 && (nodeOK zs 5 && (nodeOK zs 6 && (nodeOK zs 7 && (nodeOK zs 8 && (nodeOK zs 9 && (nodeOK zs 10 && (nodeOK zs 11 && (nodeOK zs 12 && (nodeOK zs 13 && (nodeOK zs 14 && true)))))))))))))))) := rfl
theorem leafOK_of {zs : List Int} {k : Nat} {a b : Int} (h : leafP zs k = [a, b]) : leafOK zs k = (decide (a = 0 ∧ b = 0) || (isI a && isI b)) := by unfold leafOK; rw [h]; simp
theorem nodeOK_of {zs : List Int} {k : Nat} {a : Int} (h : nodeV zs k = a) : nodeOK zs k = (decide (a = 0) || (!((k : Int).tmod 2 == 0) && isI a)) := by unfold nodeOK; rw [h]
theorem eights9 {x : Int} (h : 0 ≤ x ∧ x < 8) : x = 0 ∨ x = 1 ∨ x = 2 ∨ x = 3 ∨ x = 4 ∨ x = 5 ∨ x = 6 ∨ x = 7 := by omega
theorem fifteen9 {x : Int} (h : 0 ≤ x ∧ x < 15) : x = 0 ∨ x = 1 ∨ x = 2 ∨ x = 3 ∨ x = 4 ∨ x = 5 ∨ x = 6 ∨ x = 7 ∨ x = 8 ∨ x = 9 ∨ x = 10 ∨ x = 11 ∨ x = 12 ∨ x = 13 ∨ x = 14 := by omega
theorem isT_zero : isT [0, 0, 0, 0, 0, 0, 0, 0, 0, 0, 0, 0, 0, 0, 0, 0, 0, 0, 0, 0, 0, 0, 0, 0, 0, 0, 0, 0, 0, 0, 0] = true := by
  rw [isT_eq]; rfl
set_option maxHeartbeats 4000000 in
theorem may_a {i : Int} (hi : 0 ≤ i ∧ i < 8) (y : Int) : isT (List.take (i.toNat * 2) [0, 0, 0, 0, 0, 0, 0, 0, 0, 0, 0, 0, 0, 0, 0, 0, 0, 0, 0, 0, 0, 0, 0, 0, 0, 0, 0, 0, 0, 0, 0] ++ 4 :: y :: List.drop (i.toNat * 2) [0, 0, 0, 0, 0, 0, 0, 0, 0, 0, 0, 0, 0, 0, 0, 0, 0, 0, 0, 0, 0, 0, 0, 0, 0, 0, 0, 0, 0]) = isI y := by
  rcases eights9 hi with rfl | rfl | rfl | rfl | rfl | rfl | rfl | rfl <;> (simp [isT_eq, leafOK, leafP, nodeOK, nodeV, i4])
set_option maxHeartbeats 4000000 in
theorem may_b {i : Int} (hi : 0 ≤ i ∧ i < 8) (y : Int) : isT (List.take (i.toNat * 2) [0, 0, 0, 0, 0, 0, 0, 0, 0, 0, 0, 0, 0, 0, 0, 0, 0, 0, 0, 0, 0, 0, 0, 0, 0, 0, 0, 0, 0, 0, 0] ++ y :: 4 :: List.drop (i.toNat * 2) [0, 0, 0, 0, 0, 0, 0, 0, 0, 0, 0, 0, 0, 0, 0, 0, 0, 0, 0, 0, 0, 0, 0, 0, 0, 0, 0, 0, 0]) = isI y := by
  rcases eights9 hi with rfl | rfl | rfl | rfl | rfl | rfl | rfl | rfl <;> (simp [isT_eq, leafOK, leafP, nodeOK, nodeV, i4])
set_option maxHeartbeats 4000000 in
theorem may_c {n : Int} (hn : 0 ≤ n ∧ n < 15) (y : Int) : isT ([0, 0, 0, 0, 0, 0, 0, 0, 0, 0, 0, 0, 0, 0, 0, 0, 0, 0, 0, 0, 0, 0, 0, 0, 0, 0, 0, 0, 0, 0, 0].set (16 + n.toNat) y) = (y == 0 || (isI y && (bits .and .i64 n 1 == 1))) := by
  have hb : (bits .and .i64 n 1 == 1) = decide (n % 2 = 1) := by
    rcases fifteen9 hn with rfl | rfl | rfl | rfl | rfl | rfl | rfl | rfl | rfl | rfl | rfl | rfl | rfl | rfl | rfl <;> rfl
  rw [hb]
  rcases fifteen9 hn with rfl | rfl | rfl | rfl | rfl | rfl | rfl | rfl | rfl | rfl | rfl | rfl | rfl | rfl | rfl <;> (simp [isT_eq, leafOK, leafP, nodeOK, nodeV]; first | done | rfl | (by_cases h : y = 0 <;> simp [h]))
end Go.Proofs.Ytegjkfaokpjojaa

/-
  Trees: by the root's all members are reached, each once; with its own key by that alone.
-/
namespace Go.Proofs.Ytegjkfaokpjojaa
set_option maxRecDepth 100000
open Go.RowKit Pm
set_option linter.unusedVariables false
set_option linter.unusedSimpArgs false
attribute [local irreducible] condK LoopA regA

noncomputable def env16 : EnvX := env15a
theorem isT_member {zs : List Int} (h : isT zs = true) {i : Nat} (hi : i < 8) (hz : leafP zs i ≠ [0, 0]) : (leafP zs i).getD 1 0 ≠ 0 := by
  have h1 : leafOK zs i = true := by
    cases e : leafOK zs i with
    | true => rfl
    | false => rw [isT_leaf hi e] at h; exact h
  unfold leafOK at h1
  rw [decide_eq_false hz] at h1
  simp only [Bool.false_or, Bool.and_eq_true] at h1
  intro e
  rw [e] at h1
  simp [isI] at h1
theorem leafP_get (zs : List Int) {i : Nat} (hi : i < 8) : (leafP zs i).getD 1 0 = zs.getD (i * 2 + 1) 0 := by
  rw [leafP_eq zs hi]
  simp [List.getD_eq_getElem?_getD, List.getElem?_take]
theorem leafP_set (zs : List Int) {i m : Nat} {x : Int} (hi : i < 8) (hm : 16 ≤ m) : leafP (zs.set m x) i = leafP zs i := by
  unfold leafP
  rw [List.take_set_of_le hm]
theorem keyZ_leaf (zs : List Int) {i : Nat} (hi : i < 8) : keyZ zs (2 * (i : Int)) = zs.getD (i * 2 + 1) 0 := by
  have a1 : (0 : Int) ≤ 2 * (i : Int) ∧ 2 * (i : Int) < 15 := by omega
  have a2 : 2 * (i : Int) % 2 = 0 := by omega
  have a3 : (2 * (i : Int)).toNat + 1 = i * 2 + 1 := by omega
  simp only [keyZ, a1, a2, a3, and_self, if_true]
theorem under7 {i : Nat} (hi : i < 8) : underB 7 (i : Int) = true := by
  have hl : leafB (i : Int) = true := by simp [leafB]; omega
  simp [underB, hl]
end Go.Proofs.Ytegjkfaokpjojaa
