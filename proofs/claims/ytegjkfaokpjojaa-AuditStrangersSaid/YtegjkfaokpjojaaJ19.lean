/-
  Views: whether one may be.
-/
import Derived.Test.YtegjkfaokpjojaaJ18
namespace Go.Proofs.Ytegjkfaokpjojaa
set_option maxRecDepth 100000
open Go.RowKit Pm
set_option linter.unusedVariables false
set_option linter.unusedSimpArgs false
attribute [local irreducible] condK LoopA regA

def countS : List A → (Res → Prop) → Prop
  | [.agg [.bools 8 ad]], K => K (.d (.v (.int .i64 (cntB ad : Nat))))
  | _, _ => False
/-- a view: its epoch, tree, admins, threshold, history -/
abbrev vSegs (e : Int) (zs : List Int) (ad : List Bool) (k : Int) (ch : List UInt8) : List Seg := [.ints .i64 1 [e], .ints .i64 31 zs, .bools 8 ad, .ints .i64 1 [k], .bytes 32 ch]
def adminsS : List A → (Res → Prop) → Prop
  | [.agg [.ints .i64 1 [e], .ints .i64 31 zs, .bools 8 ad, .ints .i64 1 [k], .bytes 32 ch]], K => K (.d (.v (.int .i64 (cntB ad : Nat))))
  | _, _ => False
def rMemS : List A → (Res → Prop) → Prop
  | [.agg [.ints .i64 1 [e], .ints .i64 31 zs, .bools 8 ad, .ints .i64 1 [k], .bytes 32 ch], .v (.int .i64 i)], K => K (.d (.v (.bool (memB zs i))))
  | _, _ => False
noncomputable def envV4 : EnvX := envV3
noncomputable def envV5 : EnvX := envV4
noncomputable def envV6 : EnvX := envV5
noncomputable def envV7 : EnvX := envV6
noncomputable def envV8 : EnvX := envV7
noncomputable def envV9 : EnvX := envV8
noncomputable def envVa : EnvX := envV9
noncomputable def envVb : EnvX := envVa
/-- all admins are members -/
def admTo (zs : List Int) (ad : List Bool) (n : Nat) : Bool := (List.range n).all fun i => !ad.getD i false || memL zs i
/-- may this view be? -/
def mayV (e : Int) (zs : List Int) (ad : List Bool) (k : Int) : Bool := decide (0 ≤ e) && decide (e ≤ 1099511627776) && isT zs && admTo zs ad 8 && decide (1 ≤ k) && decide (k ≤ (cntB ad : Nat))
theorem admTo_step (zs : List Int) (ad : List Bool) (n : Nat) : admTo zs ad (n + 1) = (admTo zs ad n && (!ad.getD n false || memL zs n)) := by
  unfold admTo
  rw [List.range_succ, List.all_append]
  simp
theorem admTo_mono (zs : List Int) (ad : List Bool) : ∀ (d n : Nat), admTo zs ad (n + d) = true → admTo zs ad n = true
  | 0, n, h => h
  | d + 1, n, h => by
    rw [← Nat.add_assoc, admTo_step] at h
    simp only [Bool.and_eq_true] at h
    exact admTo_mono zs ad d n h.1
def vIsS : List A → (Res → Prop) → Prop
  | [.agg [.ints .i64 1 [e], .ints .i64 31 zs, .bools 8 ad, .ints .i64 1 [k], .bytes 32 ch]], K => K (.d (.v (.bool (mayV e zs ad k))))
  | _, _ => False
theorem vIsS_of {f : FuncId} (hx : ∀ e zs ad k ch, FnO f [.agg (vSegs e zs ad k ch)] (.d (.v (.bool (mayV e zs ad k))))) : ∀ args K, vIsS args K → ∃ r, FnO f args r ∧ K r := by
  intro args K h
  unfold vIsS at h
  split at h
  · exact ⟨_, hx _ _ _ _ _, h⟩
  · exact h.elim
noncomputable def envVc : EnvX := envVb
noncomputable def envVd : EnvX := envVc
end Go.Proofs.Ytegjkfaokpjojaa
