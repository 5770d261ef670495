/-
  Books: what writing comes to; laws of one line.
-/
import Derived.Test.YtcfdlffjghlghaaB11
namespace Go.Proofs.Ytcfdlffjghlghaa
set_option maxRecDepth 100000
set_option pp.deepTerms true
set_option pp.maxSteps 1000000
open Go.RowKit
set_option linter.unusedVariables false
set_option linter.unusedSimpArgs false
attribute [local irreducible] condK LoopA regA

theorem hasV_iff (L : List Ln) (e : Int) : hasV L e = true ↔ ∃ x ∈ L, x.1 = e := by simp [hasV]
theorem hasV_not {L : List Ln} {e : Int} (h : ∀ x ∈ L, x.1 ≠ e) : hasV L e = false := by
  cases hv : hasV L e with
  | false => rfl
  | true => obtain ⟨x, h1, h2⟩ := (hasV_iff L e).1 hv; exact (h x h1 h2).elim
theorem getV_of {L : List Ln} {e : Int} {x : Ln} (hx : x ∈ L) (he : x.1 = e) (h : ∀ y ∈ L, y.1 = e → y = x) : getV L e = x.2 := by
  unfold getV
  cases hf : L.find? (fun x => x.1 == e) with
  | none => have := List.find?_eq_none.1 hf x hx; simp [he] at this
  | some y =>
    have h1 := List.mem_of_find?_eq_some hf
    have h2 := List.find?_some hf
    rw [h y h1 (by simpa using h2)]
theorem write_has {x : BS} {e : Int} {p : List UInt8} (h0 : 0 ≤ e) (h1 : e ≤ 1099511627776) (h : hasV x.L e = true) : writeE x e p = (if (getV x.L e == p) = true then 0 else 9) ∧ writeB x e p = x := by
  have hn : ¬ (e < 0 ∨ e > 1099511627776) := by omega
  unfold writeE writeB
  rw [if_neg hn, if_neg hn, if_pos h, if_pos h]; exact ⟨rfl, rfl⟩
theorem write_no {x : BS} {e : Int} {p : List UInt8} (h0 : 0 ≤ e) (h1 : e ≤ 1099511627776) (h : hasV x.L e = false) (hl : x.L.length < 100) : writeE x e p = 0 ∧ writeB x e p = ⟨x.L ++ [(e, p)], x.s, x.f⟩ := by
  have h' : ¬ hasV x.L e = true := by rw [h]; decide
  have hn : ¬ (e < 0 ∨ e > 1099511627776) := by omega
  have hm : ¬ 100 ≤ x.L.length := by omega
  unfold writeE writeB
  rw [if_neg hn, if_neg hn, if_neg h', if_neg h', if_neg hm, if_neg hm]; exact ⟨rfl, rfl⟩
theorem write_all {x : BS} {e : Int} {p : List UInt8} (h0 : 0 ≤ e) (h1 : e ≤ 1099511627776) (h : hasV x.L e = false) (hl : 100 ≤ x.L.length) : writeE x e p = 12 ∧ writeB x e p = x := by
  have h' : ¬ hasV x.L e = true := by rw [h]; decide
  have hn : ¬ (e < 0 ∨ e > 1099511627776) := by omega
  unfold writeE writeB
  rw [if_neg hn, if_neg hn, if_neg h', if_neg h', if_pos hl, if_pos hl]; exact ⟨rfl, rfl⟩
theorem write_arg_ {x : BS} {e : Int} {p : List UInt8} (h : e < 0 ∨ e > 1099511627776) : writeE x e p = 1 ∧ writeB x e p = x := by
  unfold writeE writeB
  rw [if_pos h, if_pos h]; exact ⟨rfl, rfl⟩
theorem hasV_one (e : Int) (p : List UInt8) : hasV [(e, p)] e = true := by simp [hasV]
theorem getV_one (e : Int) (p : List UInt8) : getV [(e, p)] e = p := by simp [getV, List.find?]
/-- a book in which one line was written so often -/
def sameX (e : Int) (p : List UInt8) (j : Nat) : BS := ⟨if j = 0 then [] else [(e, p)], 0, 0⟩
theorem same_w {e : Int} (h0 : 0 ≤ e) (h1 : e ≤ 1099511627776) (p : List UInt8) (j : Nat) : writeE (sameX e p j) e p = 0 ∧ writeB (sameX e p j) e p = sameX e p (j + 1) := by
  by_cases hj : j = 0
  · subst hj
    exact write_no h0 h1 (hasV_not (by simp [sameX])) (by simp [sameX])
  · have hL : (sameX e p j).L = [(e, p)] := if_neg hj
    have hs : sameX e p (j + 1) = sameX e p j := by simp [sameX, hj]
    obtain ⟨k1, k2⟩ := write_has (x := sameX e p j) (p := p) h0 h1 (by rw [hL]; exact hasV_one e p)
    rw [hL, getV_one] at k1
    exact ⟨by simpa using k1, k2.trans hs.symm⟩
set_option maxHeartbeats 1000000 in
theorem bookSame_ok (e : Int) (p : List UInt8) (hp : p.length = 32) (n : Int) : FnO 11 [.v (.int .i64 e), .agg [.bytes 32 p], .v (.int .i64 n)] (.d (.v (.bool true))) := by
  refine fnA (E := envB8) Try.func11 Try.ntmps11 ?_
  by_cases h0 : e < 0
  · refine agow ?_; (try with_reducible exact True.intro)
  by_cases h1 : e > 1099511627776
  · refine agow ?_; (try with_reducible exact True.intro)
  by_cases h2 : n < 1
  · refine agow ?_; (try with_reducible exact True.intro)
  by_cases h3 : n > 20
  · refine agow ?_; (try with_reducible exact True.intro)
  refine agow ?_; (try with_reducible exact True.intro)
  obtain ⟨N, rfl⟩ : ∃ N : Nat, n = (N : Nat) := ⟨n.toNat, by omega⟩
  refine StopL.mk (loop_forG [0, 2, 4, 6, 7, 8] [0, 1] N (fun j => ⟨[.d (.v (.int .i64 e)), .dead, .d (.v (.int .i64 N)), .dead, .ptr 0 0, .dead, .d (.v (.bool false)), .ob 1, .d (.v (.int .i64 (j : Nat))), .dead, .dead, .dead, .dead, .dead, .dead, .dead, .dead, .dead, .dead, .dead, .dead, .dead, .dead, .dead, .dead, .dead, .dead, .dead, .dead, .dead, .dead, .dead, .dead, .dead, .dead, .dead, .dead, .dead, .dead, .dead, .dead, .dead, .dead, .dead, .dead], [some (.var [.bytes 32 p]), some (.abs (bkP (sameX e p j)))]⟩) ?_)
  intro j hj hl
  obtain ⟨w1, w2⟩ := same_w (e := e) (by omega) (by omega) p j
  by_cases h : j < N
  · have h4 : (j : Int) < (N : Int) := by omega
    clear w2
    refine agow ?_; (try with_reducible exact True.intro)
    refine hl.go h [0, 2, 4, 6, 7, 8] [0, 1] ?_
    rw [← (same_w (e := e) (by omega) (by omega) p j).2]
    rfl
  · obtain rfl : j = N := by omega
    have h4 : ¬ (j : Int) < (j : Int) := by omega
    have h5 : ((sameX e p j).L.length : Int) = 1 := by simp [sameX, show j ≠ 0 by omega]
    have h6 : (sameX e p j).f = 0 := rfl
    clear w1 w2
    refine agow ?_; (try with_reducible exact True.intro)
set_option maxHeartbeats 1000000 in
theorem bookCopy_ok (e : Int) (p : List UInt8) (hp : p.length = 32) : FnO 10 [.v (.int .i64 e), .agg [.bytes 32 p]] (.d (.v (.bool true))) := by
  refine fnA (E := envB8) Try.func10 Try.ntmps10 ?_
  by_cases h0 : e < 2
  · refine agow ?_; (try with_reducible exact True.intro)
  by_cases h1 : e > 1099511627776
  · refine agow ?_; (try with_reducible exact True.intro)
  refine agow ?_; (try with_reducible exact True.intro)
  have hX : (writeB ⟨[], 0, 0⟩ 1 [UInt8.ofNat 9, 0, 0, 0, 0, 0, 0, 0, 0, 0, 0, 0, 0, 0, 0, 0, 0, 0, 0, 0, 0, 0, 0, 0, 0, 0, 0, 0, 0, 0, 0, 0]) = ⟨[(1, [UInt8.ofNat 9, 0, 0, 0, 0, 0, 0, 0, 0, 0, 0, 0, 0, 0, 0, 0, 0, 0, 0, 0, 0, 0, 0, 0, 0, 0, 0, 0, 0, 0, 0, 0])], 0, 0⟩ := (write_no (by omega) (by omega) (hasV_not (by simp)) (by simp)).2
  have hC : crashB (writeB ⟨[], 0, 0⟩ 1 [UInt8.ofNat 9, 0, 0, 0, 0, 0, 0, 0, 0, 0, 0, 0, 0, 0, 0, 0, 0, 0, 0, 0, 0, 0, 0, 0, 0, 0, 0, 0, 0, 0, 0, 0]) 1 = ⟨[(1, [UInt8.ofNat 9, 0, 0, 0, 0, 0, 0, 0, 0, 0, 0, 0, 0, 0, 0, 0, 0, 0, 0, 0, 0, 0, 0, 0, 0, 0, 0, 0, 0, 0, 0, 0])], 1, 0⟩ := by rw [hX]; rfl
  have hn : hasV [((1 : Int), [UInt8.ofNat 9, 0, 0, 0, 0, 0, 0, 0, 0, 0, 0, 0, 0, 0, 0, 0, 0, 0, 0, 0, 0, 0, 0, 0, 0, 0, 0, 0, 0, 0, 0, 0])] e = false := hasV_not (by simp; omega)
  obtain ⟨c1, c2⟩ := write_no (x := ⟨[(1, [UInt8.ofNat 9, 0, 0, 0, 0, 0, 0, 0, 0, 0, 0, 0, 0, 0, 0, 0, 0, 0, 0, 0, 0, 0, 0, 0, 0, 0, 0, 0, 0, 0, 0, 0])], 1, 0⟩) (e := e) (p := p) (by omega) (by omega) hn (by simp)
  obtain ⟨b1, b2⟩ := write_no (x := ⟨[(1, [UInt8.ofNat 9, 0, 0, 0, 0, 0, 0, 0, 0, 0, 0, 0, 0, 0, 0, 0, 0, 0, 0, 0, 0, 0, 0, 0, 0, 0, 0, 0, 0, 0, 0, 0])], 0, 0⟩) (e := e) (p := [UInt8.ofNat 7, UInt8.ofNat 7, 0, 0, 0, 0, 0, 0, 0, 0, 0, 0, 0, 0, 0, 0, 0, 0, 0, 0, 0, 0, 0, 0, 0, 0, 0, 0, 0, 0, 0, 0]) (by omega) (by omega) hn (by simp)
  have hv : ∀ q : List UInt8, getV ([((1 : Int), [UInt8.ofNat 9, 0, 0, 0, 0, 0, 0, 0, 0, 0, 0, 0, 0, 0, 0, 0, 0, 0, 0, 0, 0, 0, 0, 0, 0, 0, 0, 0, 0, 0, 0, 0])] ++ [(e, q)]) e = q ∧ hasV ([((1 : Int), [UInt8.ofNat 9, 0, 0, 0, 0, 0, 0, 0, 0, 0, 0, 0, 0, 0, 0, 0, 0, 0, 0, 0, 0, 0, 0, 0, 0, 0, 0, 0, 0, 0, 0, 0])] ++ [(e, q)]) e = true := fun q => ⟨getV_of (x := (e, q)) (by simp) rfl (by intro y hy he; rcases List.mem_append.1 hy with h | h; rcases List.mem_cons.1 h with rfl | h; simp at he; omega; cases h; simpa using h), (hasV_iff _ _).2 ⟨(e, q), by simp, rfl⟩⟩
  have f1 : writeE (crashB (writeB ⟨[], 0, 0⟩ 1 [UInt8.ofNat 9, 0, 0, 0, 0, 0, 0, 0, 0, 0, 0, 0, 0, 0, 0, 0, 0, 0, 0, 0, 0, 0, 0, 0, 0, 0, 0, 0, 0, 0, 0, 0]) 1) e p = 0 := by rw [hC]; exact c1
  have f2 : writeE (writeB ⟨[], 0, 0⟩ 1 [UInt8.ofNat 9, 0, 0, 0, 0, 0, 0, 0, 0, 0, 0, 0, 0, 0, 0, 0, 0, 0, 0, 0, 0, 0, 0, 0, 0, 0, 0, 0, 0, 0, 0, 0]) e [UInt8.ofNat 7, UInt8.ofNat 7, 0, 0, 0, 0, 0, 0, 0, 0, 0, 0, 0, 0, 0, 0, 0, 0, 0, 0, 0, 0, 0, 0, 0, 0, 0, 0, 0, 0, 0, 0] = 0 := by rw [hX]; exact b1
  have f3 : getV (writeB (writeB ⟨[], 0, 0⟩ 1 [UInt8.ofNat 9, 0, 0, 0, 0, 0, 0, 0, 0, 0, 0, 0, 0, 0, 0, 0, 0, 0, 0, 0, 0, 0, 0, 0, 0, 0, 0, 0, 0, 0, 0, 0]) e [UInt8.ofNat 7, UInt8.ofNat 7, 0, 0, 0, 0, 0, 0, 0, 0, 0, 0, 0, 0, 0, 0, 0, 0, 0, 0, 0, 0, 0, 0, 0, 0, 0, 0, 0, 0, 0, 0]).L e = [UInt8.ofNat 7, UInt8.ofNat 7, 0, 0, 0, 0, 0, 0, 0, 0, 0, 0, 0, 0, 0, 0, 0, 0, 0, 0, 0, 0, 0, 0, 0, 0, 0, 0, 0, 0, 0, 0] := by rw [hX, b2]; exact (hv _).1
  have f4 : hasV (writeB (writeB ⟨[], 0, 0⟩ 1 [UInt8.ofNat 9, 0, 0, 0, 0, 0, 0, 0, 0, 0, 0, 0, 0, 0, 0, 0, 0, 0, 0, 0, 0, 0, 0, 0, 0, 0, 0, 0, 0, 0, 0, 0]) e [UInt8.ofNat 7, UInt8.ofNat 7, 0, 0, 0, 0, 0, 0, 0, 0, 0, 0, 0, 0, 0, 0, 0, 0, 0, 0, 0, 0, 0, 0, 0, 0, 0, 0, 0, 0, 0, 0]).L e = true := by rw [hX, b2]; exact (hv _).2
  have f5 : getV (writeB (crashB (writeB ⟨[], 0, 0⟩ 1 [UInt8.ofNat 9, 0, 0, 0, 0, 0, 0, 0, 0, 0, 0, 0, 0, 0, 0, 0, 0, 0, 0, 0, 0, 0, 0, 0, 0, 0, 0, 0, 0, 0, 0, 0]) 1) e p).L e = p := by rw [hC, c2]; exact (hv _).1
  have f6 : hasV (writeB (crashB (writeB ⟨[], 0, 0⟩ 1 [UInt8.ofNat 9, 0, 0, 0, 0, 0, 0, 0, 0, 0, 0, 0, 0, 0, 0, 0, 0, 0, 0, 0, 0, 0, 0, 0, 0, 0, 0, 0, 0, 0, 0, 0]) 1) e p).L e = true := by rw [hC, c2]; exact (hv _).2
  clear hX hC hn c1 c2 b1 b2 hv h0 h1
  refine agow ?_; (try with_reducible exact True.intro)
end Go.Proofs.Ytcfdlffjghlghaa
