/-
  Welcomes as bytes: the other program; what was written is read as it was.
-/
import Derived.Test.YtbgdlggobbiibaaRw2
namespace Go.Proofs.Ytbgdlggobbiibaa
set_option maxRecDepth 100000
open Go.RowKit Pm
set_option linter.unusedVariables false
set_option linter.unusedSimpArgs false
theorem withinB_i63 {z : Int} (h : withinB z 7 = true) : 0 ≤ z ∧ z ≤ 9223372036854775807 := within_i63 h (by decide)
attribute [local irreducible] condK LoopA regA numB numsB boxB flagsB
set_option maxHeartbeats 4000000 in
theorem rwelcome_ok (w : WS) (hw : WSok w) : FnO 24 [.agg (wlSegs w)] (wlR w) := by
  refine fnA (E := envWe) Try.func24 Try.ntmps24 ?_
  have hl := wlB_length hw
  have hb := hw.box
  have hz := hw.zs
  have ha := hw.ad
  have hc := hw.ch
  have htg := hw.tag
  have hn4 : (numsB [w.leaf, w.fr, w.e, w.k]).length = 32 := by rw [numsB_length]; rfl
  have hnz : (numsB w.zs).length = 248 := by rw [numsB_length, hw.zs]
  have hfl : (flagsB w.ad).length = 8 := by unfold flagsB; rw [List.length_map]; exact hw.ad
  have hnb : (numB (w.box.length : Int)).length = 8 := numB_length _
  unfold wlR
  cases hm : mayW w with
  | false =>
    refine agow ?_; (try with_reducible exact True.intro)
    rfl
  | true =>
    refine agow ?_; (try with_reducible exact True.intro)
    have hL : (numsB [w.leaf, w.fr, w.e, w.k] ++ (flagsB w.ad ++ (w.ch ++ numsB w.zs))).length = 320 := by simp only [List.length_append, hn4, hfl, hc, hnz]
    rw [hL]
    generalize hp : ptsOf _ _ _ = o
    obtain rfl : o = some [.own 8 (320 + 1), .own 10 8, .dat (.row w.box.length [.bytes w.box.length w.box]), .win 0 76 32] := hp.symm.trans (ptsOf_cons rfl (ptOf_own rfl rfl) (ptsOf_cons rfl (ptOf_own rfl rfl) (ptsOf_cons rfl rfl (ptsOf_cons rfl rfl ptsOf_nil))))
    clear hp
    refine agow ?_; (try with_reducible exact True.intro)
    have eB : (2 : UInt8) :: (numsB [w.leaf, w.fr, w.e, w.k] ++ (flagsB w.ad ++ (w.ch ++ numsB w.zs)) ++ (numB (w.box.length : Int) ++ (w.box ++ w.tag))) = wlB w := by
      have h := wl_form (w := w) hz []
      rw [List.append_nil] at h
      rw [h]
      unfold restW
      simp only [numsB_cons, numsB_nil, List.append_assoc, List.append_nil]
    have eN : (numsB [w.leaf, w.fr, w.e, w.k] ++ (flagsB w.ad ++ (w.ch ++ numsB w.zs)) ++ (numB (w.box.length : Int) ++ (w.box ++ w.tag))).length + 1 = wlN w := by
      rw [← hl, ← eB]; rfl
    rw [eN, if_pos rfl, ← eB]
    rfl
end Go.Proofs.Ytbgdlggobbiibaa
