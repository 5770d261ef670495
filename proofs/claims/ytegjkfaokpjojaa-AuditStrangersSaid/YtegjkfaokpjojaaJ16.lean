/-
  Places and nodes: the first functions, by the machine without memory.
-/
import Derived.Test.YtegjkfaokpjojaaJ10
namespace Go.Proofs.Ytegjkfaokpjojaa
set_option maxRecDepth 100000
open Go.RowKit
set_option linter.unusedVariables false
set_option linter.unusedSimpArgs false
attribute [local irreducible] condK LoopA regA

/-- is there such a leaf? -/
def leafB (x : Int) : Bool := decide (0 ≤ x) && decide (x < 8)
def leafS : List A → (Res → Prop) → Prop
  | [.v (.int .i64 x)], K => K (.d (.v (.bool (leafB x))))
  | _, _ => False
theorem leafS_ok {f : FuncId} (hx : ∀ x, FnO f [.v (.int .i64 x)] (.d (.v (.bool (leafB x))))) : ∀ args K, leafS args K → ∃ r, FnO f args r ∧ K r := by
  intro args K h
  unfold leafS at h
  split at h
  · exact ⟨_, hx _, h⟩
  · exact h.elim
noncomputable def env1a : EnvX := env0
noncomputable def env1 : EnvX := env1a

def pathL (x : Int) : List Int := if leafB x = true then [x / 2 * 4 + 1, x / 4 * 8 + 3, 7] else [0, 0, 0]
def pathS : List A → (Res → Prop) → Prop
  | [.v (.int .i64 x)], K => K (.d (.agg [.ints .i64 3 (pathL x)]))
  | _, _ => False
theorem path_nums (x : Int) (h0 : 0 ≤ x) (h1 : x < 8) : IntKind.i64.wrap (x.tdiv 2) = x / 2 ∧ IntKind.i64.wrap (x / 2 * 4) = x / 2 * 4 ∧ IntKind.i64.wrap (x / 2 * 4 + 1) = x / 2 * 4 + 1 ∧
    IntKind.i64.wrap (x.tdiv 4) = x / 4 ∧ IntKind.i64.wrap (x / 4 * 8) = x / 4 * 8 ∧ IntKind.i64.wrap (x / 4 * 8 + 3) = x / 4 * 8 + 3 := by
  rw [Int.tdiv_eq_ediv_of_nonneg h0, Int.tdiv_eq_ediv_of_nonneg h0]
  refine ⟨wrapS ?_ ?_, wrapS ?_ ?_, wrapS ?_ ?_, wrapS ?_ ?_, wrapS ?_ ?_, wrapS ?_ ?_⟩ <;> omega
end Go.Proofs.Ytegjkfaokpjojaa

/-
  Places and nodes: the functions over them, by the machine without memory.
-/
namespace Go.Proofs.Ytegjkfaokpjojaa
set_option maxRecDepth 100000
open Go.RowKit
set_option linter.unusedVariables false
set_option linter.unusedSimpArgs false
attribute [local irreducible] condK LoopA regA

theorem pathS_ok {f : FuncId} (hx : ∀ x, FnO f [.v (.int .i64 x)] (.d (.agg [.ints .i64 3 (pathL x)]))) : ∀ args K, pathS args K → ∃ r, FnO f args r ∧ K r := by
  intro args K h
  unfold pathS at h
  split at h
  · exact ⟨_, hx _, h⟩
  · exact h.elim
def idx3 (p q r v : Int) : Int := if v = p then 0 else if v = q then 1 else if v = r then 2 else -1
def idxS : List A → (Res → Prop) → Prop
  | [.row 3 [.ints .i64 3 [p, q, r]], .v (.int .i64 v)], K => K (.d (.v (.int .i64 (idx3 p q r v))))
  | _, _ => False
theorem idx_ok (p q r v : Int) : FnO 45 [.row 3 [.ints .i64 3 [p, q, r]], .v (.int .i64 v)] (.d (.v (.int .i64 (idx3 p q r v)))) := by
  refine fnA (E := env0) Try.func45 Try.ntmps45 ?_
  have lp : ∀ (a b : Int), ¬ a = b → (a == b) = false := fun a b h => by simp [h]
  by_cases h1 : v = p
  · refine ago ?_; (try with_reducible exact True.intro)
    refine StopL.mk (loop_unroll 4 ?_)
    refine ago ?_; (try with_reducible exact True.intro)
    simp [idx3, h1]
  · by_cases h2 : v = q
    · refine ago ?_; (try with_reducible exact True.intro)
      refine StopL.mk (loop_unroll 4 ?_)
      refine ago ?_; (try with_reducible exact True.intro)
      simp [idx3, h1, h2] <;> omega
    · by_cases h3 : v = r
      · refine ago ?_; (try with_reducible exact True.intro)
        refine StopL.mk (loop_unroll 4 ?_)
        refine ago ?_; (try with_reducible exact True.intro)
        simp [idx3, h1, h2, h3] <;> omega
      · refine ago ?_; (try with_reducible exact True.intro)
        refine StopL.mk (loop_unroll 4 ?_)
        refine ago ?_; (try with_reducible exact True.intro)
        simp [idx3, h1, h2, h3]
end Go.Proofs.Ytegjkfaokpjojaa

/-
  Places and nodes: beside, under, in common, by the machine without memory.
-/
namespace Go.Proofs.Ytegjkfaokpjojaa
set_option maxRecDepth 100000
open Go.RowKit
set_option linter.unusedVariables false
set_option linter.unusedSimpArgs false
attribute [local irreducible] condK LoopA regA

theorem idxS_ok {f : FuncId} (hx : ∀ p q r v, FnO f [.row 3 [.ints .i64 3 [p, q, r]], .v (.int .i64 v)] (.d (.v (.int .i64 (idx3 p q r v))))) : ∀ args K, idxS args K → ∃ r, FnO f args r ∧ K r := by
  intro args K h
  unfold idxS at h
  split at h
  · exact ⟨_, hx _ _ _ _, h⟩
  · exact h.elim
noncomputable def env2a : EnvX := env1.add 45 idxS (idxS_ok idx_ok) ⟨_, Try.func45, by kernel_rfl, by kernel_rfl⟩
def hasS : List A → (Res → Prop) → Prop
  | [.row 3 [.ints .i64 3 [p, q, r]], .v (.int .i64 v)], K => K (.d (.v (.bool (decide (idx3 p q r v ≥ 0)))))
  | _, _ => False
theorem has_ok (p q r v : Int) : FnO 32 [.row 3 [.ints .i64 3 [p, q, r]], .v (.int .i64 v)] (.d (.v (.bool (decide (idx3 p q r v ≥ 0))))) := by
  refine fnA (E := env2a) Try.func32 Try.ntmps32 ?_
  refine ago ?_; (try with_reducible exact True.intro)
theorem hasS_ok {f : FuncId} (hx : ∀ p q r v, FnO f [.row 3 [.ints .i64 3 [p, q, r]], .v (.int .i64 v)] (.d (.v (.bool (decide (idx3 p q r v ≥ 0)))))) : ∀ args K, hasS args K → ∃ r, FnO f args r ∧ K r := by
  intro args K h
  unfold hasS at h
  split at h
  · exact ⟨_, hx _ _ _ _, h⟩
  · exact h.elim
noncomputable def env2b : EnvX := env2a.add 32 hasS (hasS_ok has_ok) ⟨_, Try.func32, by kernel_rfl, by kernel_rfl⟩
/-- what a path is, where there is such a leaf and where there is none -/
theorem pathL_t {x : Int} (h : leafB x = true) : pathL x = [x / 2 * 4 + 1, x / 4 * 8 + 3, 7] := if_pos h
theorem pathL_f {x : Int} (h : leafB x = false) : pathL x = [0, 0, 0] := if_neg (by simp [h])
def pathT (x : Int) : List Int := [if leafB x = true then x / 2 * 4 + 1 else 0, if leafB x = true then x / 4 * 8 + 3 else 0, if leafB x = true then 7 else 0]
theorem pathT_eq (x : Int) : pathL x = pathT x := by unfold pathL pathT; split <;> rfl
def pathTS : List A → (Res → Prop) → Prop
  | [.v (.int .i64 x)], K => K (.d (.agg [.ints .i64 3 [if leafB x = true then x / 2 * 4 + 1 else 0, if leafB x = true then x / 4 * 8 + 3 else 0, if leafB x = true then 7 else 0]]))
  | _, _ => False
theorem pathTS_ok {f : FuncId} (hx : ∀ x, FnO f [.v (.int .i64 x)] (.d (.agg [.ints .i64 3 (pathL x)]))) : ∀ args K, pathTS args K → ∃ r, FnO f args r ∧ K r := by
  intro args K h
  unfold pathTS at h
  split at h
  · exact ⟨_, hx _, by rw [pathT_eq]; exact h⟩
  · exact h.elim
noncomputable def env2c : EnvX := env2b
noncomputable def env2 : EnvX := env2c
def underB (n x : Int) : Bool := leafB x && (decide (n = 2 * x) || decide (n = x / 2 * 4 + 1) || decide (n = x / 4 * 8 + 3) || decide (n = 7))
def underS : List A → (Res → Prop) → Prop
  | [.v (.int .i64 n), .v (.int .i64 x)], K => K (.d (.v (.bool (underB n x))))
  | _, _ => False
theorem leafB_t {x : Int} (h : leafB x = true) : 0 ≤ x ∧ x < 8 := by simpa [leafB] using h
def sideL (x : Int) : List Int := if leafB x = true then [if x % 2 = 0 then 2 * x + 2 else 2 * x - 2, if x / 2 % 2 = 0 then x / 2 * 4 + 5 else x / 2 * 4 - 3, if x / 4 = 0 then 11 else 3] else [0, 0, 0]
theorem eight {p : Int → Prop} {x : Int} (h : 0 ≤ x ∧ x < 8) (h0 : p 0) (h1 : p 1) (h2 : p 2) (h3 : p 3) (h4 : p 4) (h5 : p 5) (h6 : p 6) (h7 : p 7) : p x := by
  have : x = 0 ∨ x = 1 ∨ x = 2 ∨ x = 3 ∨ x = 4 ∨ x = 5 ∨ x = 6 ∨ x = 7 := by omega
  rcases this with rfl | rfl | rfl | rfl | rfl | rfl | rfl | rfl <;> assumption
def commonI (a b : Int) : Int := if leafB a = true ∧ leafB b = true then (if a = b then 2 * a else if a / 2 = b / 2 then a / 2 * 4 + 1 else if a / 4 = b / 4 then a / 4 * 8 + 3 else 7) else 0
theorem underS_ok {f : FuncId} (hx : ∀ n x, FnO f [.v (.int .i64 n), .v (.int .i64 x)] (.d (.v (.bool (underB n x))))) : ∀ args K, underS args K → ∃ r, FnO f args r ∧ K r := by
  intro args K h
  unfold underS at h
  split at h
  · exact ⟨_, hx _ _, h⟩
  · exact h.elim
def sideS : List A → (Res → Prop) → Prop
  | [.v (.int .i64 x)], K => K (.d (.agg [.ints .i64 3 [(sideL x).getD 0 0, (sideL x).getD 1 0, (sideL x).getD 2 0]]))
  | _, _ => False
theorem sideS_ok {f : FuncId} (hx : ∀ x, FnO f [.v (.int .i64 x)] (.d (.agg [.ints .i64 3 (sideL x)]))) : ∀ args K, sideS args K → ∃ r, FnO f args r ∧ K r := by
  intro args K h
  unfold sideS at h
  split at h
  · refine ⟨_, hx _, ?_⟩
    have e : ∀ x, [(sideL x).getD 0 0, (sideL x).getD 1 0, (sideL x).getD 2 0] = sideL x := by intro x; unfold sideL; split <;> rfl
    rw [e] at h; exact h
  · exact h.elim
noncomputable def env3a : EnvX := env2
noncomputable def env3b : EnvX := env3a
noncomputable def env3 : EnvX := env3b
def commonS : List A → (Res → Prop) → Prop
  | [.v (.int .i64 a), .v (.int .i64 b)], K => K (.d (.v (.int .i64 (commonI a b))))
  | _, _ => False
theorem commonS_ok {f : FuncId} (hx : ∀ a b, FnO f [.v (.int .i64 a), .v (.int .i64 b)] (.d (.v (.int .i64 (commonI a b))))) : ∀ args K, commonS args K → ∃ r, FnO f args r ∧ K r := by
  intro args K h
  unfold commonS at h
  split at h
  · exact ⟨_, hx _ _, h⟩
  · exact h.elim
noncomputable def env4 : EnvX := env3
end Go.Proofs.Ytegjkfaokpjojaa

/-
  Places and nodes: the laws of two places, by the machine without memory.
-/
namespace Go.Proofs.Ytegjkfaokpjojaa
set_option maxRecDepth 100000
open Go.RowKit
set_option linter.unusedVariables false
set_option linter.unusedSimpArgs false
attribute [local irreducible] condK LoopA regA

def knownS : List A → (Res → Prop) → Prop
  | [], K => K (.d (.v (.bool true)))
  | _, _ => False
theorem knownS_ok {f : FuncId} (hx : FnO f [] (.d (.v (.bool true)))) : ∀ args K, knownS args K → ∃ r, FnO f args r ∧ K r := by
  intro args K h
  unfold knownS at h
  split at h
  · exact ⟨_, hx, h⟩
  · exact h.elim
noncomputable def env5 : EnvX := env4

theorem leafB_i {x : Int} (h0 : 0 ≤ x) (h1 : x < 8) : leafB x = true := by simp [leafB, h0, h1]
end Go.Proofs.Ytegjkfaokpjojaa

/-
  Trees: keys of nodes; the two nodes below one.
-/
namespace Go.Proofs.Ytegjkfaokpjojaa
set_option maxRecDepth 100000
open Go.RowKit
set_option linter.unusedVariables false
set_option linter.unusedSimpArgs false
attribute [local irreducible] condK LoopA regA

/-- a node's key -/
def keyZ (zs : List Int) (n : Int) : Int := if 0 ≤ n ∧ n < 15 then (if n % 2 = 0 then zs.getD (n.toNat + 1) 0 else zs.getD (16 + n.toNat) 0) else 0
def keyTS : List A → (Res → Prop) → Prop
  | [.agg [.ints .i64 31 zs], .v (.int .i64 n)], K => K (.d (.v (.int .i64 (keyZ zs n))))
  | _, _ => False
theorem keyTS_ok {f : FuncId} (hx : ∀ zs n, FnO f [.agg [.ints .i64 31 zs], .v (.int .i64 n)] (.d (.v (.int .i64 (keyZ zs n))))) : ∀ args K, keyTS args K → ∃ r, FnO f args r ∧ K r := by
  intro args K h
  unfold keyTS at h
  split at h
  · exact ⟨_, hx _ _, h⟩
  · exact h.elim
theorem fifteenI {x : Int} (h : 0 ≤ x ∧ x < 15) : x = 0 ∨ x = 1 ∨ x = 2 ∨ x = 3 ∨ x = 4 ∨ x = 5 ∨ x = 6 ∨ x = 7 ∨ x = 8 ∨ x = 9 ∨ x = 10 ∨ x = 11 ∨ x = 12 ∨ x = 13 ∨ x = 14 := by omega
def nodeB (n : Int) : Bool := decide (0 ≤ n) && decide (n < 15)
def nodeS : List A → (Res → Prop) → Prop
  | [.v (.int .i64 x)], K => K (.d (.v (.bool (nodeB x))))
  | _, _ => False
theorem nodeS_ok {f : FuncId} (hx : ∀ x, FnO f [.v (.int .i64 x)] (.d (.v (.bool (nodeB x))))) : ∀ args K, nodeS args K → ∃ r, FnO f args r ∧ K r := by
  intro args K h
  unfold nodeS at h
  split at h
  · exact ⟨_, hx _, h⟩
  · exact h.elim
def evenS : List A → (Res → Prop) → Prop
  | [.v (.int .i64 y)], K => K (.d (.v (.bool (y.tmod 2 == 0))))
  | _, _ => False
theorem evenS_ok {f : FuncId} (hx : ∀ y, FnO f [.v (.int .i64 y)] (.d (.v (.bool (y.tmod 2 == 0))))) : ∀ args K, evenS args K → ∃ r, FnO f args r ∧ K r := by
  intro args K h
  unfold evenS at h
  split at h
  · exact ⟨_, hx _, h⟩
  · exact h.elim
noncomputable def env10a : EnvX := env5
noncomputable def env10b : EnvX := env10a
def stepZ (n : Int) : Int := if n = 7 then 4 else if n % 4 = 3 then 2 else 1
def oddB (n : Int) : Bool := decide (0 ≤ n) && decide (n < 15) && decide (n % 2 = 1)
def halfS : List A → (Res → Prop) → Prop
  | [.v (.int .i64 n)], K => oddB n = true ∧ K (.d (.v (.int .i64 (stepZ n))))
  | _, _ => False
theorem seven {x : Int} (h : oddB x = true) : x = 1 ∨ x = 3 ∨ x = 5 ∨ x = 7 ∨ x = 9 ∨ x = 11 ∨ x = 13 := by simp [oddB] at h; omega
def tzS : List A → (Res → Prop) → Prop
  | [.v (.int .u64 n)], K => oddB (n - 1) = true ∧ K (.d (.v (.int .i64 (if n = 8 then 3 else if n % 4 = 0 then 2 else 1))))
  | _, _ => False
theorem seven1 {x : Int} (h : oddB (x - 1) = true) : x = 2 ∨ x = 4 ∨ x = 6 ∨ x = 8 ∨ x = 10 ∨ x = 12 ∨ x = 14 := by simp [oddB] at h; omega
theorem tzS_ok {f : FuncId} (hx : ∀ n, oddB (n - 1) = true → FnO f [.v (.int .u64 n)] (.d (.v (.int .i64 (if n = 8 then 3 else if n % 4 = 0 then 2 else 1))))) : ∀ args K, tzS args K → ∃ r, FnO f args r ∧ K r := by
  intro args K h
  unfold tzS at h
  split at h
  · exact ⟨_, hx _ h.1, h.2⟩
  · exact h.elim
noncomputable def env10c : EnvX := env10b
noncomputable def env10d : EnvX := env10c
def belowS : List A → (Res → Prop) → Prop
  | [.v (.int .i64 n)], K => oddB n = true ∧ K (.t [.v (.int .i64 (n - stepZ n)), .v (.int .i64 (n + stepZ n))])
  | _, _ => False
noncomputable def env10e : EnvX := env10d
noncomputable def env10f : EnvX := env10e
noncomputable def env10g : EnvX := env10f
noncomputable def env10 : EnvX := env10g
end Go.Proofs.Ytegjkfaokpjojaa

/-
  Trees: by which nodes all below a node are reached.
-/
namespace Go.Proofs.Ytegjkfaokpjojaa
set_option maxRecDepth 100000
open Go.RowKit
set_option linter.unusedVariables false
set_option linter.unusedSimpArgs false
attribute [local irreducible] condK LoopA regA

/-- by which nodes all below a node are reached -/
def resF : Nat → List Int → Int → List Int
  | 0, zs, n => if keyZ zs n = 0 then [] else [n]
  | d + 1, zs, n => if keyZ zs n = 0 then (if oddB n = true then resF d zs (n - stepZ n) ++ resF d zs (n + stepZ n) else []) else [n]
theorem resF_len (zs : List Int) : ∀ (d : Nat) (n : Int), (resF d zs n).length ≤ 2 ^ d
  | 0, n => by unfold resF; split <;> simp
  | d + 1, n => by
    unfold resF
    have h1 := resF_len zs d (n - stepZ n)
    have h2 := resF_len zs d (n + stepZ n)
    have h3 : 1 ≤ 2 ^ d := Nat.one_le_two_pow
    rw [Nat.pow_succ]
    split
    · split
      · rw [List.length_append]; omega
      · simp
    · simp; omega
/-- how deep a node lies at the most -/
def okD (d : Nat) (n : Int) : Bool :=
  !oddB n || (decide (1 ≤ d) && decide (n % 4 = 1)) || (decide (2 ≤ d) && decide (n % 8 = 3)) || decide (3 ≤ d)
def resR (d : Nat) (zs : List Int) (n : Int) : Res := .o 3 1 (resF d zs n).length [.ints .i64 (resF d zs n).length (resF d zs n)]
def resS (d : Nat) : List A → (Res → Prop) → Prop
  | [.agg [.ints .i64 31 zs], .v (.int .i64 n)], K => okD d n = true ∧ K (.o 3 1 (resF d zs n).length [.ints .i64 (resF d zs n).length (resF d zs n)])
  | _, _ => False
theorem resS_ok {f : FuncId} {d : Nat} (hx : ∀ zs n, okD d n = true → FnO f [.agg [.ints .i64 31 zs], .v (.int .i64 n)] (resR d zs n)) : ∀ args K, resS d args K → ∃ r, FnO f args r ∧ K r := by
  intro args K h
  unfold resS at h
  split at h
  · exact ⟨_, hx _ _ h.1, h.2⟩
  · exact h.elim
theorem nodeB_of (n : Int) (h : oddB n = true) : nodeB n = true := by simp [oddB] at h; simp [nodeB, h]
theorem odd_levels {d : Nat} {n : Int} (hn : oddB n = true) (h : okD (d + 1) n = true) : okD d (n - stepZ n) = true ∧ okD d (n + stepZ n) = true := by
  rcases seven hn with rfl | rfl | rfl | rfl | rfl | rfl | rfl <;> rcases d with _ | _ | d <;> first | (simp [okD, oddB] at h; done) | (constructor <;> simp [okD, oddB, stepZ])
theorem odd_node {n : Int} (hn : oddB n = true) : nodeB n = true ∧ (n.tmod 2 == 0) = false := by
  rcases seven hn with rfl | rfl | rfl | rfl | rfl | rfl | rfl <;> decide
theorem odd_nums {n : Int} (hn : oddB n = true) : IntKind.i64.wrap (n - stepZ n) = n - stepZ n ∧ IntKind.i64.wrap (n + stepZ n) = n + stepZ n ∧ (bits .and .i64 n 1 == 0) = false ∧ 0 ≤ n ∧ n < 15 := by
  rcases seven hn with rfl | rfl | rfl | rfl | rfl | rfl | rfl <;> decide
end Go.Proofs.Ytegjkfaokpjojaa

/-
  Rows of numbers: whether two are one.
-/
namespace Go.Proofs.Ytegjkfaokpjojaa
set_option maxRecDepth 100000
open Go.RowKit
set_option linter.unusedVariables false
set_option linter.unusedSimpArgs false
attribute [local irreducible] condK LoopA regA

def sameS : List A → (Res → Prop) → Prop
  | [.row n [.ints .i64 n' xs], .row m [.ints .i64 m' ys]], K => n = xs.length ∧ n' = xs.length ∧ m = ys.length ∧ m' = ys.length ∧ xs.length ≤ 1000000 ∧ ys.length ≤ 1000000 ∧ K (.d (.v (.bool (decide (xs = ys)))))
  | _, _ => False
theorem same_of {xs ys : List Int} (h : xs.length = ys.length) (h2 : ∀ j, j < xs.length → xs.getD j 0 = ys.getD j 0) : xs = ys := by
  refine List.ext_getElem h fun i h3 h4 => ?_
  have := h2 i h3
  simpa [List.getD_eq_getElem?_getD, h3, h4] using this
noncomputable def env12a : EnvX := env10
noncomputable def env12b : EnvX := env12a
noncomputable def env12 : EnvX := env12b
end Go.Proofs.Ytegjkfaokpjojaa

/-
  Trees: the law of whom nodes reach.
-/
namespace Go.Proofs.Ytegjkfaokpjojaa
set_option maxRecDepth 100000
open Go.RowKit
set_option linter.unusedVariables false
set_option linter.unusedSimpArgs false
attribute [local irreducible] condK LoopA regA

end Go.Proofs.Ytegjkfaokpjojaa
