/-
  Views: a law's view, opened.
-/
import Derived.Test.YtbgdlggobbiibaaI14
namespace Go.Proofs.Ytbgdlggobbiibaa
set_option maxRecDepth 100000
open Go.RowKit Pm
set_option linter.unusedVariables false
set_option linter.unusedSimpArgs false

def sigView : List (Option IntKind) := List.replicate 1 (some .i64) ++ (List.replicate 31 (some .i64) ++ (List.replicate 8 none ++ (List.replicate 1 (some .i64) ++ List.replicate 32 (some .u8))))
theorem one_of {zs : List Int} (h : zs.length = 1) : ∃ a, zs = [a] := by
  rcases zs with _ | ⟨a, _ | ⟨b, l⟩⟩ <;> simp at h
  exact ⟨a, rfl⟩
theorem open_view {H : Type} {enc : TypeId × Value → H} {P : Program} {w : World} {base b0 : Nat} {spare : Nat → Bool} {held : Bool} {r : Reach} {t : TypeId} {v : Value} {dd : DataW H} {ps : List MemPlace} (hs : sigT P 20 t = some sigView) (ha : aggOf P t = true)
    (hval : Value.okWide P w r b0 t v) (h : DataW.Trod enc P w base spare held t v dd ps) :
    ∃ (e : Int) (zs : List Int) (ad : List Bool) (k : Int) (ch : List UInt8), RA (fun _ => True) w (.agg (vSegs e zs ad k ch)) v := by
  obtain ⟨cs, rfl, h1, hw⟩ := open_agg hs ha hval h
  unfold sigView at h1
  obtain ⟨c1, cs, rfl, k1, h1, w1, hw⟩ := kinds_split h1 hw
  obtain ⟨c2, cs, rfl, k2, h1, w2, hw⟩ := kinds_split h1 hw
  obtain ⟨c3, cs, rfl, k3, h1, w3, hw⟩ := kinds_split h1 hw
  obtain ⟨c4, c5, rfl, k4, k5, w4, w5⟩ := kinds_split h1 hw
  obtain ⟨z1, rfl, l1, _⟩ := kinds_ints k1 w1
  obtain ⟨zs, rfl, l2, _⟩ := kinds_ints k2 w2
  obtain ⟨ad, rfl, l3⟩ := kinds_bools k3
  obtain ⟨z4, rfl, l4, _⟩ := kinds_ints k4 w4
  obtain ⟨ch, rfl, l5⟩ := kinds_bytes k5 w5
  obtain ⟨e, rfl⟩ := one_of l1
  obtain ⟨k, rfl⟩ := one_of l4
  exact ⟨e, zs, ad, k, ch, .agg (.ints l1 (.ints l2 (.bools l3 (.ints l4 (.ofBytes l5 rfl)))))⟩
theorem sig_view : sigT Try.prog 20 46 = some sigView := by kernel_rfl
theorem agg_view : aggOf Try.prog 46 = true := by kernel_rfl
end Go.Proofs.Ytbgdlggobbiibaa
