/-
  The machine without memory: a loop that counts. No program is named here.
-/
import Derived.Test.YtkeabmnmeheeiaaHA2
namespace Go.Proofs.Ytkeabmnmeheeiaa
set_option maxRecDepth 100000
set_option pp.deepTerms true
set_option pp.maxSteps 1000000
open Go.RowKit
set_option linter.unusedVariables false
set_option linter.unusedSimpArgs false

theorem max_of {p : Nat → Prop} : ∀ (N : Nat), (∃ j, j ≤ N ∧ p j) → ∃ j, j ≤ N ∧ p j ∧ ∀ i, i ≤ N → p i → i ≤ j
  | 0, ⟨j, h1, h2⟩ => by
    obtain rfl : j = 0 := by omega
    exact ⟨0, Nat.le_refl _, h2, fun i hi _ => hi⟩
  | N + 1, ⟨j, h1, h2⟩ => by
    by_cases h : p (N + 1)
    · exact ⟨N + 1, Nat.le_refl _, h, fun i hi _ => hi⟩
    · have hj : j ≤ N := by
        rcases Nat.lt_or_ge N j with h3 | h3
        · exact (h ((show j = N + 1 by omega) ▸ h2)).elim
        · exact h3
      obtain ⟨k, k1, k2, k3⟩ := max_of N ⟨j, hj, h2⟩
      refine ⟨k, by omega, k2, fun i hi hp => ?_⟩
      rcases Nat.lt_or_ge N i with h3 | h3
      · exact (h ((show i = N + 1 by omega) ▸ hp)).elim
      · exact k3 i h3 hp
/-- the last of so many states that a state is -/
noncomputable def lastOf (N : Nat) (f : Nat → St) (s : St) : Nat := by
  classical exact if h : ∃ j, j ≤ N ∧ s = f j then Classical.choose (max_of (p := fun j => s = f j) N h) else 0
theorem lastOf_spec {N : Nat} {f : Nat → St} {s : St} (h : ∃ j, j ≤ N ∧ s = f j) : lastOf N f s ≤ N ∧ s = f (lastOf N f s) ∧ ∀ i, i ≤ N → s = f i → i ≤ lastOf N f s := by
  have := Classical.choose_spec (max_of (p := fun j => s = f j) N h)
  unfold lastOf
  rw [dif_pos h]
  exact this
/-- a round is done: the state is the next one's -/
structure Round (N : Nat) (f : Nat → St) (j : Nat) (s' : St) : Prop where
  there : ∃ i, i ≤ N ∧ s' = f i
  less : N - lastOf N f s' < N - lastOf N f (f j)
/-- of the rounds with this state j is the last one -/
structure LastR (N : Nat) (f : Nat → St) (j : Nat) : Prop where
  le : j ≤ N
  last : ∀ i, i ≤ N → f j = f i → i ≤ j
theorem LastR.next {N : Nat} {f : Nat → St} {j : Nat} {s' : St} (h : LastR N f j) (hj : j < N) (e : s' = f (j + 1)) : Round N f j s' := by
  subst e
  refine ⟨⟨_, hj, rfl⟩, ?_⟩
  obtain ⟨c1, c2, c3⟩ := lastOf_spec (N := N) (f := f) (s := f (j + 1)) ⟨_, hj, rfl⟩
  obtain ⟨d1, d2, d3⟩ := lastOf_spec (N := N) (f := f) (s := f j) ⟨_, h.le, rfl⟩
  have h1 := c3 _ hj rfl
  have h2 := h.last _ d1 d2
  omega
/-- a loop of N rounds at most: its state ahead of each -/
theorem loop_for {body : St → (Exit → St → Prop) → Prop} {s : St} {k : Exit → St → Prop} (live : List Nat) (m : Nat) (N : Nat) (f : Nat → St)
    (h3 : ∀ j, j ≤ N → LastR N f j → body (f j) fun e s' => match e with | .normal => liveOK live m s' ∧ Round N f j (weaken live m s') | e => k e s')
    (h1 : liveOK live m s := by exact rfl) (h2 : weaken live m s = f 0 := by exact rfl) (h0 : 0 < m := by decide) : LoopA body s k := by
  refine loop_inv live m (fun s => ∃ j, j ≤ N ∧ s = f j) (fun s => N - lastOf N f s) h1 ⟨0, Nat.zero_le _, h2⟩ ?_ h0
  intro s hs
  obtain ⟨a1, a2, a3⟩ := lastOf_spec hs
  generalize hj : lastOf N f s = j at *
  subst a2
  have h4 := h3 j a1 ⟨a1, a3⟩
  refine Eq.mp (congrArg (body (f j)) (funext fun e => funext fun s' => ?_)) h4
  cases e <;> simp only []
  exact propext ⟨fun h => ⟨h.1, h.2.there, by have := h.2.less; rw [hj] at this; exact this⟩, fun h => ⟨h.1, h.2.1, by rw [hj]; exact h.2.2⟩⟩
end Go.Proofs.Ytkeabmnmeheeiaa
