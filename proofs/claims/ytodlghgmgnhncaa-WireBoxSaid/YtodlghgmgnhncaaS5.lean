/-
  A welcome's box may have so many bytes; its view must be one that may be.
-/
import Derived.Test.YtodlghgmgnhncaaWl1
import Derived.Test.YtodlghgmgnhncaaI16
import Derived.Test.YtodlghgmgnhncaaQ8
namespace Go.Proofs.Ytodlghgmgnhncaa
set_option maxRecDepth 100000
open Go.RowKit Pm
set_option linter.unusedVariables false
set_option linter.unusedSimpArgs false
attribute [local irreducible] condK LoopA regA numB numsB boxB anyP idxP mayV withinB wlR wlB wlN mayW
noncomputable def envB0 : EnvX := envF1.add 27 wlX (wlX_of wwelcome_ok) ⟨_, Try.func27, by kernel_rfl, by kernel_rfl⟩
noncomputable def envB1 : EnvX := envB0.add 30 vIsS (vIsS_of rvIs_ok) ⟨_, Try.func30, by kernel_rfl, by kernel_rfl⟩
noncomputable def envBo : EnvX := { envB1 with fz := true }
theorem wlR_no {w : WS} (h : mayW w = false) : wlR w = .t [.v (.slice none 0 0), .v (.int .i64 1)] := by unfold wlR; rw [if_neg (by rw [h]; decide)]
theorem wlR_yes {w : WS} (h : mayW w = true) : wlR w = .t [.row (wlN w) [.bytes (wlN w) (wlB w)], .v (.int .i64 0)] := by unfold wlR; rw [if_pos h]
set_option maxHeartbeats 8000000 in
theorem wireBox_ok (n : Int) (e : Int) (zs : List Int) (ad : List Bool) (k : Int) (ch : List UInt8) (leaf : Int) (hz : zs.length = 31) (ha : ad.length = 8) (hch : ch.length = 32) : FnO 9 [.v (.int .i64 n), .agg (vSegs e zs ad k ch), .v (.int .i64 leaf)] (.d (.v (.bool true))) := by
  refine fnA (E := envBo) Try.func9 Try.ntmps9 ?_
  by_cases h0 : n < 0
  case pos =>
    refine agow ?_; (try with_reducible exact True.intro)
  by_cases h1 : n > 400
  case pos =>
    refine agow ?_; (try with_reducible exact True.intro)
  obtain ⟨m, rfl, hm⟩ : ∃ m : Nat, n = m ∧ m ≤ 400 := ⟨n.toNat, by omega, by omega⟩
  have hr : (List.replicate m [(0 : UInt8)]).flatten.length = m := by simp
  have hs8 : (⟨(numB 0).toArray⟩ : ByteArray).size = 8 := by show (numB 0).toArray.size = 8; rw [List.size_toArray]; exact numB_length 0
  have hne : (!((⟨(numB 0).toArray⟩ : ByteArray).toList == ByteArray.empty.toList)) = true := by
    have h : ¬ numB 0 = [] := fun h => by have := numB_length 0; rw [h] at this; cases this
    simp [ByteArray.ext_iff, h]
  have hw0 : withinB 0 7 = true := by unfold withinB; decide
  by_cases h3 : (m : Int) ≤ 300
  case neg =>
    refine agow ?_; (try with_reducible exact True.intro)
    rw [wlR_no (by unfold mayW; simp only [hr, decide_eq_false h3, Bool.and_false])]
    refine agow ?_; (try with_reducible exact True.intro)
  cases h4 : mayV e zs ad k
  case false =>
    refine agow ?_; (try with_reducible exact True.intro)
    rw [wlR_no (by unfold mayW; simp only [h4, Bool.false_and, Bool.and_false])]
    refine agow ?_; (try with_reducible exact True.intro)
  by_cases h5 : leaf ≥ 0
  case neg =>
    refine agow ?_; (try with_reducible exact True.intro)
    rw [wlR_no (by unfold mayW withinB; simp only [decide_eq_false h5, Bool.false_and])]
    refine agow ?_; (try with_reducible exact True.intro)
  by_cases h6 : leaf ≤ 7
  case neg =>
    refine agow ?_; (try with_reducible exact True.intro)
    rw [wlR_no (by unfold mayW withinB; simp only [decide_eq_false h6, Bool.false_and, Bool.and_false])]
    refine agow ?_; (try with_reducible exact True.intro)
  refine agow ?_; (try with_reducible exact True.intro)
  rw [wlR_yes (by unfold mayW; rw [hr, h4, hw0, decide_eq_true h3]; unfold withinB; rw [decide_eq_true h5, decide_eq_true h6]; rfl)]
  refine agow ?_; (try with_reducible exact True.intro)
  unfold wlN
  simp only [hr]
  refine agow ?_; (try with_reducible exact True.intro)
theorem vSegs_lens {S : Nat → Prop} {w : World} {e : Int} {zs : List Int} {ad : List Bool} {k : Int} {ch : List UInt8} {v : Value} (h : RA S w (.agg (vSegs e zs ad k ch)) v) : zs.length = 31 ∧ ad.length = 8 ∧ ch.length = 32 := by
  cases h with
  | agg h =>
  cases h with
  | ints h1 r1 =>
  cases r1 with
  | ints h2 r2 =>
  cases r2 with
  | bools h3 r3 =>
  cases r3 with
  | ints h4 r4 =>
  cases r4 with
  | bytes h5 r5 => exact ⟨h2, h3, h5⟩
theorem wireBox_walk {w : World} (n : Int) (hn : (Lit.int .i64 n).wf = true) (v : Value) (h : ∃ (e : Int) (zs : List Int) (ad : List Bool) (k : Int) (ch : List UInt8), RA (fun _ => True) w (.agg (vSegs e zs ad k ch)) v) (leaf : Int) (hl : (Lit.int .i64 leaf).wf = true) :
    Calls Try.prog 9 #[.int .i64 n, v, .int .i64 leaf] w fun e w' => e = .returned (.bool true) ∧ Below w.heap.size w w' := by
  obtain ⟨e, zs, ad, k, ch, hr⟩ := h
  obtain ⟨h1, h2, h3⟩ := vSegs_lens hr
  exact law_of_fn (wireBox_ok n e zs ad k ch leaf h1 h2 h3) gok_none12 (.cons (.v _) (.cons hr (.cons (.v _) .nil)))
end Go.Proofs.Ytodlghgmgnhncaa
