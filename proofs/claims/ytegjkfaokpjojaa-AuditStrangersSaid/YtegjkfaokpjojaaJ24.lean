/-
  Views: operations done, as the document does them.
-/
import Derived.Test.YtegjkfaokpjojaaJ23
namespace Go.Proofs.Ytegjkfaokpjojaa
set_option maxRecDepth 100000
open Go.RowKit Pm
set_option linter.unusedVariables false
set_option linter.unusedSimpArgs false
attribute [local irreducible] condK LoopA regA isI memTo memL freeN usedB fullB putL errAdd isT memB errOneR oneRz oneRa oneRk mayV oddTo cntB runE opAt ownB

def raddSM2 : Nat → Bk → List A → (Res → Bk → Prop) → Prop
  | 0, .var [.ints .i64 1 [e], .ints .i64 31 zs, .bools 8 ad, .ints .i64 1 [k], .bytes 32 ch], [.agg [.ints .i64 2 xs]], K =>
    StopC (condK (decide (errAdd zs xs = 0)) (K (.t [.v (.int .i64 ((freeN zs : Nat) : Int)), .v (.int .i64 0)]) (.var (vSegs e (putL zs xs (freeN zs : Nat)) (ad.set (freeN zs) false) k ch))) (K (.t [.v (.int .i64 0), .v (.int .i64 (errAdd zs xs))]) (.var (vSegs e zs ad k ch))))
  | _, _, _, _ => False
def roneSM2 : Nat → Bk → List A → (Res → Bk → Prop) → Prop
  | 0, .var [.ints .i64 1 [e], .ints .i64 31 zs, .bools 8 ad, .ints .i64 1 [k], .bytes 32 ch], [.v (.int .i64 fr), .agg [.ints .i64 5 o]], K =>
    StopC (condK (decide (errOneR zs ad fr o = 0)) (K (.d (.v (.int .i64 0))) (.var (vSegs e (oneRz zs o) (oneRa ad o) (oneRk k o) ch))) (K (.d (.v (.int .i64 (errOneR zs ad fr o)))) (.var (vSegs e zs ad k ch))))
  | _, _, _, _ => False
noncomputable def envVr : EnvX := envVo
noncomputable def envVs : EnvX := envVr
theorem oddTo_step (ops : List Int) (i : Nat) : oddTo ops (i + 1) = (oddTo ops i || !ownB (opAt ops i)) := by
  unfold oddTo
  rw [List.range_succ, List.any_append]
  simp
theorem oddTo_mono (ops : List Int) : ∀ (d i : Nat), oddTo ops i = true → oddTo ops (i + d) = true
  | 0, i, h => h
  | d + 1, i, h => by
    rw [← Nat.add_assoc, oddTo_step, oddTo_mono ops d i h]; rfl
/-- the answer out of what was done -/
def resV (e : Int) (ch : List UInt8) (d : Int × Vw) : List A :=
  if d.1 = 0 then [.agg (vSegs e d.2.zs d.2.ad d.2.k ch), .agg [.bools 8 d.2.ng], .agg [.bools 8 d.2.gn], .v (.int .i64 0)] else [.agg vZero, .agg [.bools 8 F8], .agg [.bools 8 F8], .v (.int .i64 d.1)]
theorem appR_eq (e : Int) (zs : List Int) (ad : List Bool) (k : Int) (ch : List UInt8) (fr : Int) (ops : List Int) (n : Nat) : appR e zs ad k ch fr ops n = resV e ch (doR e ⟨zs, ad, k, F8, F8⟩ fr ops n) := rfl
theorem op_parts {ops : List Int} {i j : Nat} (hol : ops.length = i * 5) (hj : j < i) : (opAt ops j).getD 0 0 = ops.getD (j * 5) 0 ∧ (opAt ops j).getD 1 0 = ops.getD (j * 5 + 1) 0 ∧ (ops.drop (j * 5 + 3)).take 2 = [(opAt ops j).getD 3 0, (opAt ops j).getD 4 0] := by
  have hoe : opAt ops j = (ops.drop (j * 5)).take 5 := by unfold opAt; rfl
  rw [hoe]
  refine ⟨by simp [List.getD_eq_getElem?_getD], by simp [List.getD_eq_getElem?_getD], List.ext_getElem (by simp; omega) fun m h1 h2 => ?_⟩
  have hm : m = 0 ∨ m = 1 := by simp at h2; omega
  rcases hm with rfl | rfl
  · simp [List.getD_eq_getElem?_getD, show j * 5 + 3 < ops.length by omega]
  · simp [List.getD_eq_getElem?_getD, show j * 5 + 4 < ops.length by omega, show j * 5 + 3 + 1 = j * 5 + 4 by omega]
end Go.Proofs.Ytegjkfaokpjojaa
