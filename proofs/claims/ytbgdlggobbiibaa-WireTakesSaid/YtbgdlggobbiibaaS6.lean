/-
  Bytes are a commit or a welcome or neither; what is taken is written as it was.
-/
import Derived.Test.YtbgdlggobbiibaaRw2
import Derived.Test.YtbgdlggobbiibaaI18
namespace Go.Proofs.Ytbgdlggobbiibaa
set_option maxRecDepth 100000
open Go.RowKit Pm
set_option linter.unusedVariables false
set_option linter.unusedSimpArgs false
attribute [local irreducible] condK LoopA regA numB numsB boxB anyP idxP mayB strE commitB commitN bodyN bodyB commitR bigB okRes okC cOf okW owRes wlOf wlB wlN wlR mayW
/-- bytes as a welcome, or refused -/
def towS : List A → (Res → Prop) → Prop
  | [.row n [.bytes m b]], K => n = b.length ∧ m = b.length ∧ b.length ≤ 1000000 ∧ K (owRes b)
  | _, _ => False
theorem towS_of {f : FuncId} {p : Nat} (h : ∀ b : List UInt8, b.length ≤ 1000000 → FnO f [.row b.length [.bytes b.length b]] (owRes b)) : ∀ args K, towS args K → ∃ r, FnO f args r ∧ K r := by
  intro args K hd
  unfold towS at hd
  split at hd
  · obtain ⟨rfl, rfl, h1, hd⟩ := hd; exact ⟨_, h _ h1, hd⟩
  · exact hd.elim
noncomputable def envS0 : EnvX := envF1.add 4 toS (toS_of (p := 0) wtoCommit_ok) ⟨_, Try.func4, by kernel_rfl, by kernel_rfl⟩
noncomputable def envS1 : EnvX := envS0.add 6 towS (towS_of (p := 0) wtoWelcome_ok) ⟨_, Try.func6, by kernel_rfl, by kernel_rfl⟩
noncomputable def envS2 : EnvX := envS1
theorem okRes_yes {b : List UInt8} (h : okC b = true) : okRes b = .t [.agg (cSegs (cOf b)), .v (.int .i64 0)] := by unfold okRes; rw [if_pos h]
theorem okRes_no {b : List UInt8} (h : okC b = false) : okRes b = .t [commit0, .v (.int .i64 2)] := by unfold okRes; rw [if_neg (by rw [h]; decide)]
theorem owRes_yes {b : List UInt8} (h : okW b = true) : owRes b = .t [.agg (wlSegs (wlOf b)), .v (.int .i64 0)] := by unfold owRes; rw [if_pos h]
theorem owRes_no {b : List UInt8} (h : okW b = false) : owRes b = .t [welcome0, .v (.int .i64 2)] := by unfold owRes; rw [if_neg (by rw [h]; decide)]
theorem commitR_back {b : List UInt8} (h : okC b = true) : commitR (cOf b) = .t [.row b.length [.bytes b.length b], .v (.int .i64 0)] := by
  obtain ⟨h1, h2, h3, h4⟩ := okC_back h
  have hn := commit_length h2 h3
  unfold commitR
  rw [if_pos h1, ← h4]
  have e : commitN (cOf b) = b.length := by rw [← hn, ← h4]
  rw [e]
theorem wlR_back {b : List UInt8} (h : okW b = true) : wlR (wlOf b) = .t [.row b.length [.bytes b.length b], .v (.int .i64 0)] := by
  obtain ⟨h1, h2, h4⟩ := okW_back h
  have hn := wlB_length h2
  unfold wlR
  rw [if_pos h1, ← h4]
  have e : wlN (wlOf b) = b.length := by rw [← hn, ← h4]
  rw [e]
end Go.Proofs.Ytbgdlggobbiibaa
