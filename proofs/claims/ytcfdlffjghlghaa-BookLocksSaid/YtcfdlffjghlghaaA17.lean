/-
  What is handed in is asx long asx it says. No program is named here.
-/
import Derived.Test.YtcfdlffjghlghaaA16
namespace Go.Proofs.Ytcfdlffjghlghaa
set_option maxRecDepth 100000
open Go.RowKit
set_option linter.unusedVariables false
set_option linter.unusedSimpArgs false

def segLens : List Seg → Prop
  | [] => True
  | .ints _ n zs :: l => zs.length = n ∧ segLens l
  | .bytes n bs :: l => bs.length = n ∧ segLens l
  | .bools n bs :: l => bs.length = n ∧ segLens l
  | .gen n asx :: l => asx.length = n ∧ segLens l
def argLens : List A → Prop
  | [] => True
  | .agg l :: r => segLens l ∧ argLens r
  | .row _ l :: r => segLens l ∧ argLens r
  | _ :: r => argLens r
theorem rl_lens {S : Nat → Prop} {w : World} : ∀ {l : List Seg} {cs : List Value}, RL S w l cs → segLens l
  | _, _, .nil => trivial
  | _, _, .ints h r => ⟨h, rl_lens r⟩
  | _, _, .bytes h r => ⟨h, rl_lens r⟩
  | _, _, .bools h r => ⟨h, rl_lens r⟩
  | _, _, .gen _ h r => ⟨h, rl_lens r⟩
theorem ras_lens {S : Nat → Prop} {w : World} : ∀ {l : List A} {vs : List Value}, RAs S w l vs → argLens l
  | _, _, .nil => trivial
  | _, _, .cons h r => by
    have ih := ras_lens r
    cases h with
    | v => exact ih
    | agg h => exact ⟨rl_lens h, ih⟩
    | row h => exact ⟨rl_lens h, ih⟩
    | ref => exact ih
    | sref => exact ih
    | recs => exact ih
theorem fn_lens {P : Program} {G : Nat → Option (List Seg)} {f : FuncId} {args : List A} {res : Res} (h : argLens args → FnOK P G f args res) : FnOK P G f args res :=
  fun S w vs hG ha => h (ras_lens ha) S w vs hG ha
theorem hb_lens {D : Nat → Prop} {w : World} {r : Nat} {l : List Seg} (h : HB D w r (.var l)) : segLens l := by
  obtain ⟨cs, t, _, h⟩ := h
  exact rl_lens h
theorem fnM_lens {P : Program} {G : Nat → Option (List Seg)} {f : FuncId} {pos : Nat} {l : List Seg} {x' : Bk} {args : List A} {res : Res} (h : segLens l → argLens args → FnM P G f pos (.var l) args res x') : FnM P G f pos (.var l) args res x' :=
  fun S w r vs hr hG hb ha => h (hb_lens hb) (ras_lens ha) S w r vs hr hG hb ha
end Go.Proofs.Ytcfdlffjghlghaa
