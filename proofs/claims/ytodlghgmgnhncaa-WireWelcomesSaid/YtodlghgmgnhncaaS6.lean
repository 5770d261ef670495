/-
  Bytes are a commit or a welcome or neither; what is taken is written as it was.
-/
import Derived.Test.YtodlghgmgnhncaaRw2
import Derived.Test.YtodlghgmgnhncaaI18
namespace Go.Proofs.Ytodlghgmgnhncaa
set_option maxRecDepth 100000
set_option pp.deepTerms true
set_option pp.maxSteps 1000000
open Go.RowKit Pm
set_option linter.unusedVariables false
set_option linter.unusedSimpArgs false
attribute [local irreducible] condK LoopA regA numB numsB boxB anyP idxP mayB strE commitB commitN bodyN bodyB commitR bigB okRes okC cOf okW owRes wlOf wlB wlN wlR mayW
/-- bytes as a welcome, or refused -/
def towS : List A → (Res → Prop) → Prop
  | [.row n [.bytes m b]], K => n = b.length ∧ m = b.length ∧ b.length ≤ 1000000 ∧ K (owRes b)
  | _, _ => False
theorem towS_of {f : FuncId} {p : Nat} (h : ∀ b : List UInt8, b.length ≤ 1000000 → FnO f [.row b.length [.bytes b.length b]] (owRes b)) : ∀ args K, towS args K → ∃ r, FnO f args r ∧ K r := by
  intro args K hd
  unfold towS at hd
  split at hd
  · obtain ⟨rfl, rfl, h1, hd⟩ := hd; exact ⟨_, h _ h1, hd⟩
  · exact hd.elim
noncomputable def envS0 : EnvX := envF1.add 20 toS (toS_of (p := 0) wtoCommit_ok) ⟨_, Try.func20, by kernel_rfl, by kernel_rfl⟩
noncomputable def envS1 : EnvX := envS0.add 22 towS (towS_of (p := 0) wtoWelcome_ok) ⟨_, Try.func22, by kernel_rfl, by kernel_rfl⟩
noncomputable def envS2 : EnvX := envS1.add 27 (wlS wlR) (wlS_of wwelcome_ok) ⟨_, Try.func27, by kernel_rfl, by kernel_rfl⟩
theorem okRes_yes {b : List UInt8} (h : okC b = true) : okRes b = .t [.agg (cSegs (cOf b)), .v (.int .i64 0)] := by unfold okRes; rw [if_pos h]
theorem okRes_no {b : List UInt8} (h : okC b = false) : okRes b = .t [commit0, .v (.int .i64 2)] := by unfold okRes; rw [if_neg (by rw [h]; decide)]
theorem owRes_yes {b : List UInt8} (h : okW b = true) : owRes b = .t [.agg (wlSegs (wlOf b)), .v (.int .i64 0)] := by unfold owRes; rw [if_pos h]
theorem owRes_no {b : List UInt8} (h : okW b = false) : owRes b = .t [welcome0, .v (.int .i64 2)] := by unfold owRes; rw [if_neg (by rw [h]; decide)]
theorem commitR_back {b : List UInt8} (h : okC b = true) : commitR (cOf b) = .t [.row b.length [.bytes b.length b], .v (.int .i64 0)] := by
  obtain ⟨h1, h2, h3, h4⟩ := okC_back h
  have hn := commit_length h2 h3
  unfold commitR
  rw [if_pos h1, ← h4]
  have e : commitN (cOf b) = b.length := by rw [← hn, ← h4]
  rw [e]
theorem wlR_back {b : List UInt8} (h : okW b = true) : wlR (wlOf b) = .t [.row b.length [.bytes b.length b], .v (.int .i64 0)] := by
  obtain ⟨h1, h2, h4⟩ := okW_back h
  have hn := wlB_length h2
  unfold wlR
  rw [if_pos h1, ← h4]
  have e : wlN (wlOf b) = b.length := by rw [← hn, ← h4]
  rw [e]
set_option maxHeartbeats 4000000 in
theorem wireApart_ok (b : List UInt8) : FnO 11 [.row b.length [.bytes b.length b]] (.d (.v (.bool true))) := by
  refine fnA (E := envS2) Try.func11 Try.ntmps11 ?_
  by_cases h0 : (b.length : Int) > 3000
  case pos =>
    refine agow ?_; (try with_reducible exact True.intro)
  cases h1 : okC b with
  | true =>
    cases h2 : okW b with
    | true => exact (not_both h1 h2).elim
    | false =>
      refine agow ?_; (try with_reducible exact True.intro)
      rw [okRes_yes h1]
      refine agow ?_; (try with_reducible exact True.intro)
      rw [owRes_no h2]
      refine agow ?_; (try with_reducible exact True.intro)
  | false =>
    cases h2 : okW b with
    | true =>
      refine agow ?_; (try with_reducible exact True.intro)
      rw [okRes_no h1]
      refine agow ?_; (try with_reducible exact True.intro)
      rw [owRes_yes h2]
      refine agow ?_; (try with_reducible exact True.intro)
    | false =>
      refine agow ?_; (try with_reducible exact True.intro)
      rw [okRes_no h1]
      refine agow ?_; (try with_reducible exact True.intro)
      rw [owRes_no h2]
      refine agow ?_; (try with_reducible exact True.intro)
set_option maxHeartbeats 4000000 in
theorem wireOnce_ok (b : List UInt8) : FnO 12 [.row b.length [.bytes b.length b]] (.d (.v (.bool true))) := by
  refine fnA (E := envS2) Try.func12 Try.ntmps12 ?_
  by_cases h0 : (b.length : Int) > 3000
  case pos =>
    refine agow ?_; (try with_reducible exact True.intro)
  cases h1 : okC b with
  | true =>
    have h3 := cOf_ok b
    have h4 := okC_back h1
    have h5 := h4.2.1
    have h6 := h4.2.2.1
    clear h3 h4
    refine agow ?_; (try with_reducible exact True.intro)
    rw [okRes_yes h1]
    refine agow ?_; (try with_reducible exact True.intro)
    rw [commitR_back h1]
    refine agow ?_; (try with_reducible exact True.intro)
  | false =>
    cases h2 : okW b with
    | true =>
      have h5 := (okW_back h2).2.1
      refine agow ?_; (try with_reducible exact True.intro)
      rw [okRes_no h1]
      refine agow ?_; (try with_reducible exact True.intro)
      rw [owRes_yes h2]
      refine agow ?_; (try with_reducible exact True.intro)
      rw [wlR_back h2]
      refine agow ?_; (try with_reducible exact True.intro)
    | false =>
      refine agow ?_; (try with_reducible exact True.intro)
      rw [okRes_no h1]
      refine agow ?_; (try with_reducible exact True.intro)
      rw [owRes_no h2]
      refine agow ?_; (try with_reducible exact True.intro)
theorem wireApart_walk {w : World} (a : Option Addr) (l c : Nat) (bs : List UInt8) (hp : Arg8 w a l c bs) :
    Calls Try.prog 11 #[.slice a l c] w fun e w' => e = .returned (.bool true) ∧ Below w.heap.size w w' :=
  law_of_fn (wireApart_ok bs) gok_none12 (.cons (ra_arg8 hp) .nil)
theorem wireOnce_walk {w : World} (a : Option Addr) (l c : Nat) (bs : List UInt8) (hp : Arg8 w a l c bs) :
    Calls Try.prog 12 #[.slice a l c] w fun e w' => e = .returned (.bool true) ∧ Below w.heap.size w w' :=
  law_of_fn (wireOnce_ok bs) gok_none12 (.cons (ra_arg8 hp) .nil)
end Go.Proofs.Ytodlghgmgnhncaa
