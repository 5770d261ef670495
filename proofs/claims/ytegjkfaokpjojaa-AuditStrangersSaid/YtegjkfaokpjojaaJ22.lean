/-
  Views: the other operations, as the document does them.
-/
import Derived.Test.YtegjkfaokpjojaaJ21
namespace Go.Proofs.Ytegjkfaokpjojaa
set_option maxRecDepth 100000
open Go.RowKit Pm
set_option linter.unusedVariables false
set_option linter.unusedSimpArgs false
attribute [local irreducible] condK LoopA regA isI memTo memL freeN usedB fullB putL errAdd isT memB

def raddSM : Nat → Bk → List A → (Res → Bk → Prop) → Prop
  | 0, .var [.ints .i64 1 [e], .ints .i64 31 zs, .bools 8 ad, .ints .i64 1 [k], .bytes 32 ch], [.agg [.ints .i64 2 xs]], K =>
    K (.t [.v (.int .i64 (if errAdd zs xs = 0 then ((freeN zs : Nat) : Int) else 0)), .v (.int .i64 (errAdd zs xs))])
      (.var (if errAdd zs xs = 0 then vSegs e (putL zs xs (freeN zs : Nat)) (ad.set (freeN zs) false) k ch else vSegs e zs ad k ch))
  | _, _, _, _ => False
noncomputable def envVp : EnvX := envVo
def errDemR (ad : List Bool) (who : Int) : Int := if who < 0 ∨ who ≥ 8 ∨ ad.getD who.toNat false = false then 7 else 0
def errOneR (zs : List Int) (ad : List Bool) (fr : Int) (o : List Int) : Int :=
  if o.getD 0 0 = 2 then errRem zs fr (o.getD 1 0) else if o.getD 0 0 = 3 then errPro zs ad (o.getD 1 0) else if o.getD 0 0 = 4 then errDemR ad (o.getD 1 0) else errLim (o.getD 2 0)
/-- what an operation but Add leaves: tree, admins, threshold -/
def oneRz (zs : List Int) (o : List Int) : List Int := if o.getD 0 0 = 2 then putL zs [0, 0] (o.getD 1 0) else zs
def oneRa (ad : List Bool) (o : List Int) : List Bool := if o.getD 0 0 = 2 ∨ o.getD 0 0 = 4 then ad.set (o.getD 1 0).toNat false else if o.getD 0 0 = 3 then ad.set (o.getD 1 0).toNat true else ad
def oneRk (k : Int) (o : List Int) : Int := if o.getD 0 0 = 2 ∨ o.getD 0 0 = 3 ∨ o.getD 0 0 = 4 then k else o.getD 2 0
def roneSM : Nat → Bk → List A → (Res → Bk → Prop) → Prop
  | 0, .var [.ints .i64 1 [e], .ints .i64 31 zs, .bools 8 ad, .ints .i64 1 [k], .bytes 32 ch], [.v (.int .i64 fr), .agg [.ints .i64 5 o]], K =>
    K (.d (.v (.int .i64 (errOneR zs ad fr o)))) (.var (if errOneR zs ad fr o = 0 then vSegs e (oneRz zs o) (oneRa ad o) (oneRk k o) ch else vSegs e zs ad k ch))
  | _, _, _, _ => False
noncomputable def envVq : EnvX := envVp
end Go.Proofs.Ytegjkfaokpjojaa
