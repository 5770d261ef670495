/-
  Turning loses nothing: of unlike fives the turned ones are unlike. Plain words: no program is named here.
-/
import Derived.Test.YtpgpdhheopgkpaaWords
namespace Go.Proofs.Ytpgpdhheopgkpaa

/-- one digit of the five words that meet -/
def mixB (a b c d e : Bool) : Bool × Bool × Bool × Bool × Bool :=
  let a := a ^^ e
  let e := e ^^ d
  let c := c ^^ b
  let ta := !a && b
  let tb := !b && c
  let tc := !c && d
  let td := !d && e
  let te := !e && a
  let a := a ^^ tb
  let b := b ^^ tc
  let c := c ^^ td
  let d := d ^^ te
  let e := e ^^ ta
  (a ^^ e, b ^^ a, !c, d ^^ c, e)
theorem mixB_inj : ∀ a b c d e a' b' c' d' e' : Bool, mixB a b c d e = mixB a' b' c' d' e' → a = a' ∧ b = b' ∧ c = c' ∧ d = d' ∧ e = e' := by decide +kernel
theorem mix_bit (x : W5) (i : Nat) (hi : i < 64) :
    ((mixW x).a.getLsbD i, (mixW x).b.getLsbD i, (mixW x).c.getLsbD i, (mixW x).d.getLsbD i, (mixW x).e.getLsbD i) = mixB (x.a.getLsbD i) (x.b.getLsbD i) (x.c.getLsbD i) (x.d.getLsbD i) (x.e.getLsbD i) := by
  simp [mixW, mixB, hi]
theorem W5_ext {x y : W5} (h : ∀ i, i < 64 → x.a.getLsbD i = y.a.getLsbD i ∧ x.b.getLsbD i = y.b.getLsbD i ∧ x.c.getLsbD i = y.c.getLsbD i ∧ x.d.getLsbD i = y.d.getLsbD i ∧ x.e.getLsbD i = y.e.getLsbD i) : x = y := by
  obtain ⟨a, b, c, d, e⟩ := x
  obtain ⟨a', b', c', d', e'⟩ := y
  have e1 : a = a' := BitVec.eq_of_getLsbD_eq fun i hi => (h i hi).1
  have e2 : b = b' := BitVec.eq_of_getLsbD_eq fun i hi => (h i hi).2.1
  have e3 : c = c' := BitVec.eq_of_getLsbD_eq fun i hi => (h i hi).2.2.1
  have e4 : d = d' := BitVec.eq_of_getLsbD_eq fun i hi => (h i hi).2.2.2.1
  have e5 : e = e' := BitVec.eq_of_getLsbD_eq fun i hi => (h i hi).2.2.2.2
  rw [e1, e2, e3, e4, e5]
theorem mix_inj {x y : W5} (h : mixW x = mixW y) : x = y := by
  refine W5_ext fun i hi => ?_
  have hx := mix_bit x i hi
  have hy := mix_bit y i hi
  rw [h, hy] at hx
  have := mixB_inj _ _ _ _ _ _ _ _ _ _ hx
  exact ⟨this.1.symm, this.2.1.symm, this.2.2.1.symm, this.2.2.2.1.symm, this.2.2.2.2.symm⟩

theorem ror_bit (x : BitVec 64) (n i : Nat) (hi : i < 64) : (x.rotateRight n).getLsbD i = x.getLsbD ((i + n) % 64) := by
  rw [BitVec.getLsbD_rotateRight]
  by_cases h : i < 64 - n % 64
  · simp only [h, decide_true, cond_true]; congr 1; omega
  · simp only [h, hi, decide_false, decide_true, cond_false, Bool.true_and]; congr 1; omega
theorem ror_xor (x y : BitVec 64) (n : Nat) : (x ^^^ y).rotateRight n = x.rotateRight n ^^^ y.rotateRight n := by
  refine BitVec.eq_of_getLsbD_eq fun i hi => ?_
  rw [BitVec.getLsbD_xor, ror_bit _ _ _ hi, ror_bit _ _ _ hi, ror_bit _ _ _ hi, BitVec.getLsbD_xor]
theorem ror_ror (x : BitVec 64) (m n : Nat) : (x.rotateRight m).rotateRight n = x.rotateRight (n + m) := by
  refine BitVec.eq_of_getLsbD_eq fun i hi => ?_
  rw [ror_bit _ _ _ hi, ror_bit _ _ _ (Nat.mod_lt _ (by decide)), ror_bit _ _ _ hi]
  congr 1; omega
/-- .. and again: the turns double -/
theorem tw_tw (x : BitVec 64) (m n : Nat) : tw (tw x m n) m n = tw x (m + m) (n + n) := by
  unfold tw
  simp only [ror_xor, ror_ror, Nat.add_comm n m]
  refine BitVec.eq_of_getLsbD_eq fun i hi => ?_
  simp only [BitVec.getLsbD_xor]
  generalize x.getLsbD i = p
  generalize (x.rotateRight m).getLsbD i = q
  generalize (x.rotateRight n).getLsbD i = r
  generalize (x.rotateRight (m + n)).getLsbD i = s
  generalize (x.rotateRight (m + m)).getLsbD i = t
  generalize (x.rotateRight (n + n)).getLsbD i = u
  revert p q r s t u
  decide +kernel
theorem tw_whole (x : BitVec 64) (m n : Nat) : tw x (64 * m) (64 * n) = x := by
  refine BitVec.eq_of_getLsbD_eq fun i hi => ?_
  unfold tw
  rw [BitVec.getLsbD_xor, BitVec.getLsbD_xor, ror_bit _ _ _ hi, ror_bit _ _ _ hi, show (i + 64 * m) % 64 = i by omega, show (i + 64 * n) % 64 = i by omega]
  simp
theorem tw_inj {x y : BitVec 64} {m n : Nat} (h : tw x m n = tw y m n) : x = y := by
  have e1 : tw x (m + m) (n + n) = tw y (m + m) (n + n) := by rw [← tw_tw, ← tw_tw, h]
  have step : ∀ m n, tw x m n = tw y m n → tw x (m + m) (n + n) = tw y (m + m) (n + n) := fun m n h => by rw [← tw_tw, ← tw_tw, h]
  have e6 := step _ _ (step _ _ (step _ _ (step _ _ (step _ _ (step _ _ h)))))
  rw [show m + m + (m + m) + (m + m + (m + m)) + (m + m + (m + m) + (m + m + (m + m))) + (m + m + (m + m) + (m + m + (m + m)) + (m + m + (m + m) + (m + m + (m + m)))) +
      (m + m + (m + m) + (m + m + (m + m)) + (m + m + (m + m) + (m + m + (m + m))) + (m + m + (m + m) + (m + m + (m + m)) + (m + m + (m + m) + (m + m + (m + m))))) = 64 * m by omega,
    show n + n + (n + n) + (n + n + (n + n)) + (n + n + (n + n) + (n + n + (n + n))) + (n + n + (n + n) + (n + n + (n + n)) + (n + n + (n + n) + (n + n + (n + n)))) +
      (n + n + (n + n) + (n + n + (n + n)) + (n + n + (n + n) + (n + n + (n + n))) + (n + n + (n + n) + (n + n + (n + n)) + (n + n + (n + n) + (n + n + (n + n))))) = 64 * n by omega, tw_whole, tw_whole] at e6
  exact e6
theorem spread_inj {x y : W5} (h : spreadW x = spreadW y) : x = y := by
  obtain ⟨a, b, c, d, e⟩ := x
  obtain ⟨a', b', c', d', e'⟩ := y
  unfold spreadW at h
  simp only [W5.mk.injEq] at h
  rw [tw_inj h.1, tw_inj h.2.1, tw_inj h.2.2.1, tw_inj h.2.2.2.1, tw_inj h.2.2.2.2]
theorem rnd_inj {r : Nat} {x y : W5} (h : rndW r x = rndW r y) : x = y := by
  have h1 := mix_inj (spread_inj h)
  obtain ⟨a, b, c, d, e⟩ := x
  obtain ⟨a', b', c', d', e'⟩ := y
  simp only [W5.mk.injEq] at h1
  have hc : c = c' := by
    have h2 := congrArg (· ^^^ BitVec.ofNat 64 (240 - 15 * r)) h1.2.2.1
    simpa [BitVec.xor_assoc] using h2
  rw [h1.1, h1.2.1, hc, h1.2.2.2.1, h1.2.2.2.2]
theorem turnN_inj {x y : W5} : ∀ n, turnN n x = turnN n y → x = y
  | 0, h => h
  | n + 1, h => turnN_inj n (rnd_inj h)
theorem turn_inj {x y : W5} (h : turnW x = turnW y) : x = y := turnN_inj 12 h
end Go.Proofs.Ytpgpdhheopgkpaa
