/-
  The other program's ToCommit, where it read to the end without an error: one contract.
-/
import Derived.Test.YtbgdlggobbiibaaRd8
namespace Go.Proofs.Ytbgdlggobbiibaa
set_option maxRecDepth 100000
open Go.RowKit Pm
set_option linter.unusedVariables false
set_option linter.unusedSimpArgs false
attribute [local irreducible] nmV nmN cntV cntN tkV tkN nmsV nmsN hashV numB numsB boxV boxN bxsV bxsN commitB commitN mayB okC

/-- what is a commit's bytes is read so by the other program too -/
theorem okC_r {b : List UInt8} {N M B : Nat} (he : EndsC b N M B) (hk : okC b = true) :
    SameC (rC b N M B) (cOf b) ∧ (s12 b N M B).bad = false ∧ tkV 1 ⟨b, false⟩ = [1] ∧ mayB (rC b N M B) = true := by
  obtain ⟨h1, h2, h3, h4⟩ := okC_back hk
  have hm := may_facts h1 h2
  obtain ⟨g1, g2, g3⟩ := rparse (cOf b) hm h2 h3 b h4 he.n3 he.m3 he.b3
  refine ⟨g1, ?_, g3, ?_⟩
  · rw [g2]
  · rw [mayB_same g1]; exact h1
theorem okC_bad {b : List UInt8} {N M B : Nat} (he : EndsC b N M B) (h0 : (s12 b N M B).bad = true) : okC b = false := by
  cases h : okC b with
  | false => rfl
  | true => have := (okC_r he h).2.1; rw [h0] at this; cases this
theorem okRes_off {b : List UInt8} (h : okC b = false) : okRes b = .t [commit0, .v (.int .i64 2)] := by unfold okRes; rw [if_neg (by rw [h]; decide)]
/-- not bad at the end: it read all -/
theorem ends_whole {b : List UInt8} {N M B : Nat} (he : EndsC b N M B) (h0 : (s12 b N M B).bad = false) :
    (nmV (nmN (nmN (s1 b)))).toNat ≤ N ∧ (nmV (nmsN (N * 5) (s4 b))).toNat ≤ M ∧ (nmV (s8 b N M)).toNat ≤ B := by
  have k10 : (bxsN maxI B (s9 b N M)).bad = false := fine (fun h p => by have := nmN_bad (nmN_bad (tkN_bad (n := 32) h)); rw [show nmN (nmN (tkN 32 (bxsN maxI B (s9 b N M)))) = s12 b N M B from rfl, h0] at this; cases this) trivial
  have k9 : (s9 b N M).bad = false := fine (fun h p => by have := bxsN_bad (m := maxI) (k := B) h; rw [k10] at this; cases this) trivial
  have k7 : (s7 b N M).bad = false := fine (fun h p => by have := nmN_bad (nmN_bad (nmN_bad (nmN_bad (nmN_bad h)))); rw [show nmN (nmN (nmN (nmN (nmN (s7 b N M))))) = s9 b N M from rfl, k9] at this; cases this) trivial
  have k6 : (s6 b N).bad = false := fine (fun h p => by have := nmsN_bad (k := M * 3) h; rw [show nmsN (M * 3) (s6 b N) = s7 b N M from rfl, k7] at this; cases this) trivial
  have k5 : (nmsN (N * 5) (s4 b)).bad = false := fine (fun h p => by have := nmN_bad h; rw [show nmN (nmsN (N * 5) (s4 b)) = s6 b N from rfl, k6] at this; cases this) trivial
  refine ⟨?_, ?_, ?_⟩
  · rcases he.n3 with h | ⟨_, h⟩
    · omega
    · rw [k5] at h; cases h
  · rcases he.m3 with h | ⟨_, h⟩
    · omega
    · rw [show nmsN (M * 3) (s6 b N) = s7 b N M from rfl, k7] at h; cases h
  · rcases he.b3 with h | ⟨_, h⟩
    · omega
    · rw [k10] at h; cases h
theorem rtoC_whole (b : List UInt8) (hb : b.length ≤ 6000) (N M B : Nat) (he : EndsC b N M B) (h0 : (s12 b N M B).bad = false) : FnO 5 [.row b.length [.bytes b.length b]] (okRes b) := by
  have hs := ends_small he hb
  have hl := lens_are b N M B
  obtain ⟨w1, w2, w3⟩ := ends_whole he h0
  obtain ⟨hc, ht⟩ := rC_ok hb hs.1 hs.2.1 hs.2.2
  have hn := commit_length hc ht
  have k1 : (s1 b).bad = false := by
    refine fine (fun h p => ?_) trivial
    have h4 : (s4 b).bad = true := nmN_bad (nmN_bad (nmN_bad h))
    have h5 : (s7 b N M).bad = true := nmsN_bad (k := M * 3) (nmN_bad (nmsN_bad (k := N * 5) h4))
    have h9 : (s9 b N M).bad = true := nmN_bad (nmN_bad (nmN_bad (nmN_bad (nmN_bad h5))))
    have h12 : (s12 b N M B).bad = true := nmN_bad (nmN_bad (tkN_bad (n := 32) (bxsN_bad (m := maxI) (k := B) h9)))
    rw [h0] at h12; cases h12
  have h1f : (tkV 1 ⟨b, false⟩).length = 1 := (tkN_back (n := 1) (R := ⟨b, false⟩) k1).2.2
  by_cases h1g : Bt ((tkV 1 ⟨b, false⟩).getD 0 0) = 1
  case neg =>
    rw [okRes_off]
    · exact rtoC_f b hb N M B he hs hl w1 w2 w3 h0 h1f h1g
    · cases hk : okC b with
      | false => rfl
      | true => rw [(okC_r he hk).2.2.1] at h1g; exact absurd (by decide) h1g
  cases hm : mayB (rC b N M B) with
  | false =>
    rw [okRes_off]
    · exact rtoC_m b hb N M B he hs hl w1 w2 w3 h0 h1f h1g hm
    · cases hk : okC b with
      | false => rfl
      | true => rw [(okC_r he hk).2.2.2] at hm; cases hm
  | true =>
    by_cases hB2 : commitB (rC b N M B) = b
    · obtain ⟨q1, q2⟩ := okC_app hm hc ht
      rw [hB2] at q1 q2
      have e : okRes b = .t [.agg (cSegs (cOf b)), .v (.int .i64 0)] := by unfold okRes; rw [if_pos q1]
      rw [e]
      refine fn_up2 (rtoC_t b hb N M B he hs hl w1 w2 w3 h0 h1f h1g hm hB2 (by rw [← hn, hB2])) fun S w v h => ra_same q2.symm ?_
      exact ra_recs (s1 := []) (s3 := []) (s5 := []) (s6 := []) (x := .v undef) (bxsV_length _ _ _) h
    · rw [okRes_off]
      · exact rtoC_s b hb N M B he hs hl w1 w2 w3 h0 h1f h1g hm hB2 hn (by have := commit_small hc; omega)
      · cases hk : okC b with
        | false => rfl
        | true =>
          obtain ⟨g1, _⟩ := okC_r he hk
          exact absurd ((commitB_same g1).trans (okC_back hk).2.2.2.symm) hB2
end Go.Proofs.Ytbgdlggobbiibaa
