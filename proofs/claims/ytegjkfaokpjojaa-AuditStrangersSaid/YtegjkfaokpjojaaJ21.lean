/-
  Views: operations in a row, as the program does them.
-/
import Derived.Test.YtegjkfaokpjojaaJ20
namespace Go.Proofs.Ytegjkfaokpjojaa
set_option maxRecDepth 100000
open Go.RowKit Pm
set_option linter.unusedVariables false
set_option linter.unusedSimpArgs false
attribute [local irreducible] condK LoopA regA isI memTo memL freeN usedB fullB putL errAdd isT memB

/-- what operations change: tree, admins, threshold, who was added, who is gone -/
structure Vw where
  zs : List Int
  ad : List Bool
  k : Int
  ng : List Bool
  gn : List Bool
def errOp (s : Vw) (fr : Int) (o : List Int) : Int :=
  if o.getD 0 0 = 1 then errAdd s.zs [o.getD 3 0, o.getD 4 0] else if o.getD 0 0 = 2 then errRem s.zs fr (o.getD 1 0) else if o.getD 0 0 = 3 then errPro s.zs s.ad (o.getD 1 0) else if o.getD 0 0 = 4 then errDem s.zs s.ad (o.getD 1 0) else errLim (o.getD 2 0)
def nextOp (s : Vw) (o : List Int) : Vw :=
  if o.getD 0 0 = 1 then ⟨putL s.zs [o.getD 3 0, o.getD 4 0] (freeN s.zs : Nat), s.ad, s.k, s.ng.set (freeN s.zs) true, s.gn⟩
  else if o.getD 0 0 = 2 then ⟨putL s.zs [0, 0] (o.getD 1 0), s.ad.set (o.getD 1 0).toNat false, s.k, s.ng.set (o.getD 1 0).toNat false, s.gn.set (o.getD 1 0).toNat true⟩
  else if o.getD 0 0 = 3 then ⟨s.zs, s.ad.set (o.getD 1 0).toNat true, s.k, s.ng, s.gn⟩
  else if o.getD 0 0 = 4 then ⟨s.zs, s.ad.set (o.getD 1 0).toNat false, s.k, s.ng, s.gn⟩
  else ⟨s.zs, s.ad, o.getD 2 0, s.ng, s.gn⟩
abbrev wSegs (e : Int) (s : Vw) (ch : List UInt8) (fr : Int) : List Seg := sSegs e s.zs s.ad s.k ch fr s.ng s.gn
def remSM : Nat → Bk → List A → (Res → Bk → Prop) → Prop
  | 0, .var [.ints .i64 1 [e], .ints .i64 31 zs, .bools 8 ad, .ints .i64 1 [k], .bytes 32 ch, .ints .i64 1 [fr], .bools 8 ng, .bools 8 gn], [.v (.int .i64 y)], K =>
    K (.d (.v (.int .i64 (errRem zs fr y)))) (.var (if errRem zs fr y = 0 then sSegs e (putL zs [0, 0] y) (ad.set y.toNat false) k ch fr (ng.set y.toNat false) (gn.set y.toNat true) else sSegs e zs ad k ch fr ng gn))
  | _, _, _, _ => False
def proSM : Nat → Bk → List A → (Res → Bk → Prop) → Prop
  | 0, .var [.ints .i64 1 [e], .ints .i64 31 zs, .bools 8 ad, .ints .i64 1 [k], .bytes 32 ch, .ints .i64 1 [fr], .bools 8 ng, .bools 8 gn], [.v (.int .i64 y)], K =>
    K (.d (.v (.int .i64 (errPro zs ad y)))) (.var (if errPro zs ad y = 0 then sSegs e zs (ad.set y.toNat true) k ch fr ng gn else sSegs e zs ad k ch fr ng gn))
  | _, _, _, _ => False
def demSM : Nat → Bk → List A → (Res → Bk → Prop) → Prop
  | 0, .var [.ints .i64 1 [e], .ints .i64 31 zs, .bools 8 ad, .ints .i64 1 [k], .bytes 32 ch, .ints .i64 1 [fr], .bools 8 ng, .bools 8 gn], [.v (.int .i64 y)], K =>
    K (.d (.v (.int .i64 (errDem zs ad y)))) (.var (if errDem zs ad y = 0 then sSegs e zs (ad.set y.toNat false) k ch fr ng gn else sSegs e zs ad k ch fr ng gn))
  | _, _, _, _ => False
def limSM : Nat → Bk → List A → (Res → Bk → Prop) → Prop
  | 0, .var [.ints .i64 1 [e], .ints .i64 31 zs, .bools 8 ad, .ints .i64 1 [k], .bytes 32 ch, .ints .i64 1 [fr], .bools 8 ng, .bools 8 gn], [.v (.int .i64 y)], K =>
    K (.d (.v (.int .i64 (errLim y)))) (.var (if errLim y = 0 then sSegs e zs ad y ch fr ng gn else sSegs e zs ad k ch fr ng gn))
  | _, _, _, _ => False
noncomputable def envVi : EnvX := envVh
noncomputable def envVj : EnvX := envVi
noncomputable def envVk : EnvX := envVj
noncomputable def envVl : EnvX := envVk
noncomputable def envVm : EnvX := envVl
def oneSM : Nat → Bk → List A → (Res → Bk → Prop) → Prop
  | 0, .var [.ints .i64 1 [e], .ints .i64 31 zs, .bools 8 ad, .ints .i64 1 [k], .bytes 32 ch, .ints .i64 1 [fr], .bools 8 ng, .bools 8 gn], [.agg [.ints .i64 5 o]], K =>
    K (.d (.v (.int .i64 (errOp ⟨zs, ad, k, ng, gn⟩ fr o)))) (.var (if errOp ⟨zs, ad, k, ng, gn⟩ fr o = 0 then wSegs e (nextOp ⟨zs, ad, k, ng, gn⟩ o) ch fr else sSegs e zs ad k ch fr ng gn))
  | _, _, _, _ => False
noncomputable def envVn : EnvX := envVm
/-- operations in a row, from the j-th on: the first error, and what was done -/
def runE (fr : Int) (ops : List Int) : Nat → Nat → Vw → Int × Vw
  | 0, _, s => (0, s)
  | d + 1, j, s => if errOp s fr (opAt ops j) = 0 then runE fr ops d (j + 1) (nextOp s (opAt ops j)) else (errOp s fr (opAt ops j), s)
/-- operations by someone: an error, and what was done -/
def doR (e : Int) (s : Vw) (fr : Int) (ops : List Int) (n : Nat) : Int × Vw :=
  if (!mayV e s.zs s.ad s.k || decide (n > 4) || oddTo ops n) = true then (1, s) else if memB s.zs fr = false then (6, s) else
  if (runE fr ops n 0 s).1 ≠ 0 then runE fr ops n 0 s else if ((cntB (runE fr ops n 0 s).2.ad : Nat) : Int) < (runE fr ops n 0 s).2.k then (7, (runE fr ops n 0 s).2) else (0, (runE fr ops n 0 s).2)
end Go.Proofs.Ytegjkfaokpjojaa

/-
  Views: operations done, as the program does them.
-/
namespace Go.Proofs.Ytegjkfaokpjojaa
set_option maxRecDepth 100000
open Go.RowKit Pm
set_option linter.unusedVariables false
set_option linter.unusedSimpArgs false
attribute [local irreducible] condK LoopA regA isI memTo memL freeN usedB fullB putL errAdd isT memB errOp nextOp mayV oddTo cntB runE opAt

theorem nine : (List.replicate 31 (0 : Int)).length = 31 := rfl
def doSM : Nat → Bk → List A → (Res → Bk → Prop) → Prop
  | 0, .var [.ints .i64 1 [e], .ints .i64 31 zs, .bools 8 ad, .ints .i64 1 [k], .bytes 32 ch, .ints .i64 1 [fr], .bools 8 ng, .bools 8 gn], [.row n [.ints .i64 m ops]], K =>
    m = n * 5 ∧ n ≤ 1000000 ∧ K (.d (.v (.int .i64 (doR e ⟨zs, ad, k, ng, gn⟩ fr ops n).1))) (.var (wSegs e (doR e ⟨zs, ad, k, ng, gn⟩ fr ops n).2 ch fr))
  | _, _, _, _ => False
noncomputable def envVo : EnvX := envVn
/-- nobody -/
abbrev F8 : List Bool := [false, false, false, false, false, false, false, false]
/-- a view of nothing -/
abbrev vZero : List Seg := vSegs 0 (List.replicate 31 0) F8 0 (List.replicate 32 0)
/-- what operations come to: the view, who was added, who is gone, an error -/
def appR (e : Int) (zs : List Int) (ad : List Bool) (k : Int) (ch : List UInt8) (fr : Int) (ops : List Int) (n : Nat) : List A :=
  if (doR e ⟨zs, ad, k, F8, F8⟩ fr ops n).1 = 0 then [.agg (vSegs e (doR e ⟨zs, ad, k, F8, F8⟩ fr ops n).2.zs (doR e ⟨zs, ad, k, F8, F8⟩ fr ops n).2.ad (doR e ⟨zs, ad, k, F8, F8⟩ fr ops n).2.k ch), .agg [.bools 8 (doR e ⟨zs, ad, k, F8, F8⟩ fr ops n).2.ng], .agg [.bools 8 (doR e ⟨zs, ad, k, F8, F8⟩ fr ops n).2.gn], .v (.int .i64 0)]
  else [.agg vZero, .agg [.bools 8 F8], .agg [.bools 8 F8], .v (.int .i64 (doR e ⟨zs, ad, k, F8, F8⟩ fr ops n).1)]
attribute [local irreducible] doR
end Go.Proofs.Ytegjkfaokpjojaa

/-
  Views: the operations one by one, as the document does them.
-/
namespace Go.Proofs.Ytegjkfaokpjojaa
set_option maxRecDepth 100000
open Go.RowKit Pm
set_option linter.unusedVariables false
set_option linter.unusedSimpArgs false
attribute [local irreducible] condK LoopA regA isI memTo memL freeN usedB fullB putL errAdd isT memB

/-- the first free place among the last d ones -/
def freeD (zs : List Int) : Nat → Int
  | 0 => -1
  | d + 1 => if memL zs (7 - d) = true then freeD zs d else ((7 - d : Nat) : Int)
theorem freeD_find (zs : List Int) : ∀ d ≤ 8, freeD zs d = (match (List.range' (8 - d) d).find? (fun i => !memL zs i) with | some i => (i : Int) | none => -1)
  | 0, _ => rfl
  | d + 1, h => by
    have ih := freeD_find zs d (by omega)
    have e : List.range' (8 - (d + 1)) (d + 1) = (7 - d) :: List.range' (8 - d) d := by
      rw [List.range'_succ, show 8 - (d + 1) = 7 - d by omega, show 7 - d + 1 = 8 - d by omega]
    rw [e, List.find?_cons, freeD]
    cases hm : memL zs (7 - d) with
    | true => simp [ih]
    | false => simp
theorem freeD_8 (zs : List Int) : freeD zs 8 = if fullB zs = true then (-1 : Int) else ((freeN zs : Nat) : Int) := by
  rw [freeD_find zs 8 (by omega)]
  unfold freeN
  rw [show List.range' (8 - 8) 8 = List.range 8 from rfl]
  cases hf : (List.range 8).find? (fun i => !memL zs i) with
  | none =>
    rw [List.find?_eq_none] at hf
    have : fullB zs = true := (full_iff zs).2 fun i hi => by
      have := hf i (by simpa using hi)
      simpa using this
    rw [this]; rfl
  | some i =>
    have h1 := List.find?_some hf
    have h2 := List.mem_of_find?_eq_some hf
    have : fullB zs = false := by
      cases h : fullB zs with
      | false => rfl
      | true =>
        have := (full_iff zs).1 h i (by simpa using h2)
        simp [this] at h1
    rw [this]; rfl
theorem used_none {zs : List Int} {s : Int} (h : ∀ i < 8, zs.getD (i * 2) 0 ≠ s) : usedB zs s = false := used_f h
theorem free_lt {zs : List Int} (h : fullB zs = false) : freeN zs < 8 ∧ memL zs (freeN zs) = false := by
  unfold freeN
  cases hf : (List.range 8).find? (fun i => !memL zs i) with
  | none =>
    rw [List.find?_eq_none] at hf
    have : fullB zs = true := (full_iff zs).2 fun i hi => by
      have := hf i (by simpa using hi)
      simpa using this
    rw [this] at h; cases h
  | some i =>
    have h1 := List.find?_some hf
    have h2 := List.mem_of_find?_eq_some hf
    exact ⟨by simpa using h2, by simpa using h1⟩
end Go.Proofs.Ytegjkfaokpjojaa
