/-
  Books: what is written of an epoch, as a book's lines tell it.
-/
import Derived.Test.YtcfdlffjghlghaaA19
import Derived.Test.YtcfdlffjghlghaaA17
import Derived.Test.YtcfdlffjghlghaaY7
namespace Go.Proofs.Ytcfdlffjghlghaa
set_option maxRecDepth 100000
open Go.RowKit
set_option linter.unusedVariables false
set_option linter.unusedSimpArgs false
attribute [local irreducible] condK LoopA regA

/-- a line: an epoch, what is written of it -/
abbrev Ln := Int × List UInt8
def lineF (L : List Ln) (j : Nat) : List Seg := [.ints .i64 1 [(L.getD j (0, [])).1], .bytes 32 (L.getD j (0, [])).2]
def bookSegs (mu : Int) (L : List Ln) (s f : Int) : List Seg := [.ints .i32 1 [mu], .ints .u32 1 [0], .gen 1 [.recs L.length 33 (lineF L)], .ints .i64 2 [s, f]]
def H0 : List UInt8 := [0, 0, 0, 0, 0, 0, 0, 0, 0, 0, 0, 0, 0, 0, 0, 0, 0, 0, 0, 0, 0, 0, 0, 0, 0, 0, 0, 0, 0, 0, 0, 0]
/-- is something written of an epoch, and what? -/
def hasV (L : List Ln) (e : Int) : Bool := L.any fun x => x.1 == e
def getV (L : List Ln) (e : Int) : List UInt8 := match L.find? (fun x => x.1 == e) with | some x => x.2 | none => H0
/-- the first line of an epoch -/
theorem first_ln (L : List Ln) (e : Int) : ∃ N, N ≤ L.length ∧ (∀ j, j < N → ¬ (L.getD j (0, [])).1 = e) ∧ (N = L.length ∧ hasV L e = false ∧ getV L e = H0 ∨ (N < L.length ∧ (L.getD N (0, [])).1 = e ∧ hasV L e = true ∧ getV L e = (L.getD N (0, [])).2)) := by
  induction L with
  | nil => exact ⟨0, Nat.le_refl _, fun j hj => absurd hj (by omega), .inl ⟨rfl, rfl, rfl⟩⟩
  | cons x L ih =>
    by_cases h : x.1 = e
    · exact ⟨0, Nat.zero_le _, fun j hj => absurd hj (by omega), .inr ⟨by simp, by simpa using h, by simp [hasV, h], by simp [getV, List.find?, h]⟩⟩
    · obtain ⟨N, h1, h2, h3⟩ := ih
      have hb : (x.1 == e) = false := by simpa using h
      refine ⟨N + 1, by simpa using h1, fun j hj => ?_, ?_⟩
      · cases j with
        | zero => simpa using h
        | succ j => simpa using h2 j (by omega)
      · have e1 : hasV (x :: L) e = hasV L e := by simp [hasV, hb]
        have e2 : getV (x :: L) e = getV L e := by simp [getV, List.find?, hb]
        rw [e1, e2]
        rcases h3 with ⟨h3, h4, h5⟩ | ⟨h3, h4, h5, h6⟩
        · exact .inl ⟨by simp [h3], h4, h5⟩
        · exact .inr ⟨by simpa using h3, by simpa using h4, h5, by simpa using h6⟩
attribute [local irreducible] hasV getV
set_option maxHeartbeats 1000000 in
theorem find_ok (mu : Int) (L : List Ln) (s f e : Int) (hL : L.length ≤ 1000000) :
    FnO 26 [.sref (bookSegs mu L s f) 0, .v (.int .i64 e)] (.t [.agg [.bytes 32 (getV L e)], .v (.bool (hasV L e))]) := by
  refine fnA (E := env0) Try.func26 Try.ntmps26 ?_
  obtain ⟨N, hN, hno, hend⟩ := first_ln L e
  refine agow ?_; (try with_reducible exact True.intro)
  refine StopL.mk (loop_forG [0, 1, 4, 5, 11, 12, 13] [0] N (fun j => ⟨[.d (.sref (bookSegs mu L s f) 0), .d (.v (.int .i64 e)), .dead, .dead, .ptr 0 0, .d (.v (.bool false)), .dead, .dead, .dead, .dead, .dead, .d (.recs L.length 33 (lineF L)), .d (.v (.int .i64 L.length)), .d (.v (.int .i64 (j : Nat))), .dead, .dead, .dead, .dead, .dead, .dead, .dead, .dead, .dead, .dead, .dead], [some (.var [.bytes 32 H0])]⟩) ?_)
  intro j hj hl
  by_cases h : j < N
  · have h1 : (j : Int) < (L.length : Int) := by omega
    have h2 : ((L.getD j (0, [])).1 == e) = false := by simpa using hno j h
    clear hend hno
    refine agow ?_; (try with_reducible exact True.intro)
    refine hl.go h [0, 1, 4, 5, 11, 12, 13] [0] ?_
    rfl
  · obtain rfl : j = N := by omega
    rcases hend with ⟨rfl, h4, h5⟩ | ⟨h3, h4, h5, h6⟩
    · have h1 : ¬ (L.length : Int) < (L.length : Int) := by omega
      rw [h4, h5]
      clear h4 h5 hno
      refine agow ?_; (try with_reducible exact True.intro)
      rfl
    · have h1 : (j : Int) < (L.length : Int) := by omega
      have h2 : ((L.getD j (0, [])).1 == e) = true := by simpa using h4
      rw [h5, h6]
      clear h4 h5 h6 hno
      refine agow ?_; (try with_reducible exact True.intro)
end Go.Proofs.Ytcfdlffjghlghaa
