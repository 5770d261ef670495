/-
  Views: members added one behind the other, walked.
-/
import Derived.Test.YtkeabmnmeheeiaaHW
import Derived.Test.YtkeabmnmeheeiaaA19
namespace Go.Proofs.Ytkeabmnmeheeiaa
set_option maxRecDepth 100000
set_option pp.deepTerms true
set_option pp.maxSteps 1000000
open Go.RowKit Pm
set_option linter.unusedVariables false
set_option linter.unusedSimpArgs false
attribute [local irreducible] condK LoopA regA powI scal keyV someZ someA isI putL doR mayV addZ addG

def addsL : Nat → List Int
  | 0 => []
  | j + 1 => addsL j ++ addO j
theorem addsL_len : ∀ j, (addsL j).length = j * 5
  | 0 => rfl
  | j + 1 => by rw [addsL, List.length_append, addsL_len j, Nat.succ_mul]; rfl
theorem addsL_at (i : Nat) : ∀ q, i < q → opAt (addsL q) i = addO i
  | 0, h => absurd h (by omega)
  | q + 1, h => by
    unfold opAt
    rw [addsL]
    by_cases e : i < q
    · have := addsL_at i q e
      unfold opAt at this
      rw [List.drop_append_of_le_length (by rw [addsL_len]; omega), List.take_append_of_le_length (by rw [List.length_drop, addsL_len]; omega)]
      exact this
    · obtain rfl : i = q := by omega
      rw [← addsL_len i, List.drop_left]
      rfl
theorem w40 {j : Nat} (hj : j ≤ 4) : IntKind.i64.wrap (40 + (j : Int)) = ((40 + j : Nat) : Int) := by rw [wrapS (by omega) (by omega)]; omega
theorem w50 {j : Nat} (hj : j ≤ 4) : IntKind.i64.wrap (50 + (j : Int)) = ((50 + j : Nat) : Int) := by rw [wrapS (by omega) (by omega)]; omega
attribute [local irreducible] addsL
theorem addsL_0 : addsL 0 = [] := by rw [addsL]
theorem addsL_succ (j : Nat) : addsL (j + 1) = addsL j ++ addO j := by rw [addsL]
theorem F8_get (i : Nat) : F8.getD i false = false := by
  rcases i with _ | _ | _ | _ | _ | _ | _ | _ | i <;> rfl
theorem addO_eq (j : Nat) : addO j = [1, 0, 0, keyV (40 + (j : Int)), keyV (50 + (j : Int))] := by
  rw [show (40 + (j : Int)) = ((40 + j : Nat) : Int) by omega, show (50 + (j : Int)) = ((50 + j : Nat) : Int) by omega]
set_option maxHeartbeats 4000000 in
theorem viewAdds_ok (m n : Int) :
    FnO 7 [.v (.int .i64 m), .v (.int .i64 n)] (.d (.v (.bool true))) := by
  refine fnA (E := envX2) Try.func7 Try.ntmps7 ?_
  by_cases h1 : m < 1
  · refine agom ?_; (try with_reducible exact True.intro)
  by_cases h2 : m > 8
  · refine agom ?_; (try with_reducible exact True.intro)
  by_cases h3 : n < 0
  · refine agom ?_; (try with_reducible exact True.intro)
  by_cases h4 : n > 4
  · refine agom ?_; (try with_reducible exact True.intro)
  obtain ⟨p, rfl⟩ := Int.eq_ofNat_of_zero_le (show 0 ≤ m by omega)
  obtain ⟨q, rfl⟩ := Int.eq_ofNat_of_zero_le (show 0 ≤ n by omega)
  have hp : 1 ≤ p ∧ p ≤ 8 := by omega
  have hq : q ≤ 4 := by omega
  have hmin : min p 8 = p := by omega
  refine agom ?_; (try with_reducible exact True.intro)
  refine StopL.mk (loop_forN [0, 1, 5, 6] [0] 5 50 5 [.ints .i64 0 []] q (fun j => ⟨[.d (.v (.int .i64 (p : Nat))), .d (.v (.int .i64 (q : Nat))), .dead, .dead, .dead, .own 0 j, .d (.v (.int .i64 (j : Nat))), .dead, .dead, .dead, .dead, .dead, .dead, .dead, .dead, .dead, .dead, .dead, .dead, .dead, .dead, .dead, .dead, .dead, .dead, .dead, .dead, .dead, .dead, .dead, .dead, .dead, .dead, .dead, .dead, .dead, .dead, .dead, .dead, .dead, .dead, .dead, .dead, .dead, .dead, .dead, .dead, .dead, .dead, .dead, .dead, .dead, .dead, .dead, .dead, .dead, .dead, .dead, .dead, .dead, .dead, .dead, .dead, .dead, .dead, .dead, .dead, .dead, .dead, .dead, .dead, .dead, .dead, .dead, .dead, .dead, .dead, .dead, .dead, .dead, .dead, .dead, .dead, .dead, .dead, .dead, .dead, .dead, .dead, .dead, .dead, .dead, .dead, .dead, .dead, .dead, .dead, .dead, .dead, .dead, .dead, .dead, .dead, .dead, .dead, .dead, .dead, .dead, .dead, .dead, .dead, .dead, .dead], [some (.sl 50 5 j [.ints .i64 (j * 5) (addsL j)])]⟩) ?_ (h2 := by rw [addsL_0]; exact rfl))
  intro j hj hl
  by_cases hjq : j < q
  · refine agow ?_; (try with_reducible exact True.intro)
    refine hl.go hjq [0, 1, 5, 6] [0] ?_
    rw [addsL_succ, addO_eq, Nat.add_mul, Nat.one_mul]
    rfl
  obtain rfl : j = q := by omega
  have hD := doR_adds p hp j hq (ops := addsL j) fun i hi => addsL_at i j hi
  rw [← hmin] at hD
  by_cases h8 : p + j ≤ 8
  · have hR := hD.1 (by omega)
    have he1 : decide ((doR 0 ⟨someZ (min p 8), someA 1 (min p 8), 1, F8, F8⟩ 0 (addsL j) j).1 = 0) = true := by rw [hR]; rfl
    refine agow ?_; (try with_reducible exact True.intro)
    rw [hR, hmin]
    refine StopL.mk (loop_forG [0, 1, 7, 8, 9, 10, 11] [0, 1, 2, 3] 8 (fun i => ⟨[.d (.v (.int .i64 (p : Nat))), .d (.v (.int .i64 (j : Nat))), .dead, .dead, .dead, .dead, .dead, .ptr 1 0, .ptr 2 0, .ptr 3 0, .d (.v (.int .i64 0)), .d (.v (.int .i64 (i : Nat))), .dead, .dead, .dead, .dead, .dead, .dead, .dead, .dead, .dead, .dead, .dead, .dead, .dead, .dead, .dead, .dead, .dead, .dead, .dead, .dead, .dead, .dead, .dead, .dead, .dead, .dead, .dead, .dead, .dead, .dead, .dead, .dead, .dead, .dead, .dead, .dead, .dead, .dead, .dead, .dead, .dead, .dead, .dead, .dead, .dead, .dead, .dead, .dead, .dead, .dead, .dead, .dead, .dead, .dead, .dead, .dead, .dead, .dead, .dead, .dead, .dead, .dead, .dead, .dead, .dead, .dead, .dead, .dead, .dead, .dead, .dead, .dead, .dead, .dead, .dead, .dead, .dead, .dead, .dead, .dead, .dead, .dead, .dead, .dead, .dead, .dead, .dead, .dead, .dead, .dead, .dead, .dead, .dead, .dead, .dead, .dead, .dead, .dead, .dead, .dead, .dead], [some (.sl 50 5 j [.ints .i64 (j * 5) (addsL j)]), some (.var (vSegs 0 (addZ p j) (someA 1 p) 1 Z32)), some (.var [.bools 8 (addG p j)]), some (.var [.bools 8 F8])]⟩) ?_)
    clear hl hR he1 hD
    intro i hi hl
    by_cases hi8 : i < 8
    · have g1 := addG_get p i hi8 j h8
      have g2 := addZ_sign p hp.2 i hi8 j h8
      have g3 : F8.getD i false = false := F8_get i
      by_cases c1 : i < p
      · rw [decide_eq_false (show ¬ p ≤ i by omega), Bool.false_and] at g1
        refine agow ?_; (try with_reducible exact True.intro)
        refine hl.go hi8 [0, 1, 7, 8, 9, 10, 11] [0, 1, 2, 3] ?_
        rfl
      · by_cases c2 : i < p + j
        · rw [decide_eq_true (show p ≤ i by omega), decide_eq_true c2, Bool.true_and] at g1
          rw [if_neg c1, if_pos c2, show ((40 + (i - p) : Nat) : Int) = 40 + (i : Int) - (p : Int) by omega] at g2
          have g4 : (someA 1 p).getD i false = false := by rw [someA_get 1 i hi8 p hp.2, decide_eq_false (show ¬ ((i : Int) < 1) by omega), Bool.and_false]
          have g5 : (!((addG p j).getD i false == decide ((i : Int) < (p : Int) + (j : Int)))) = false := by rw [g1, decide_eq_true (by omega)]; rfl
          refine agow ?_; (try with_reducible exact True.intro)
          refine hl.go hi8 [0, 1, 7, 8, 9, 10, 11] [0, 1, 2, 3] ?_
          rfl
        · rw [decide_eq_true (show p ≤ i by omega), decide_eq_false c2, Bool.true_and] at g1
          have g5 : (!((addG p j).getD i false == decide ((i : Int) < (p : Int) + (j : Int)))) = false := by rw [g1, decide_eq_false (by omega)]; rfl
          refine agow ?_; (try with_reducible exact True.intro)
          refine hl.go hi8 [0, 1, 7, 8, 9, 10, 11] [0, 1, 2, 3] ?_
          rfl
    · obtain rfl : i = 8 := by omega
      refine agow ?_; (try with_reducible exact True.intro)
  · have hR := hD.2 (by omega)
    have he1 : decide ((doR 0 ⟨someZ (min p 8), someA 1 (min p 8), 1, F8, F8⟩ 0 (addsL j) j).1 = 0) = false := by rw [hR]; rfl
    have he2 : ((doR 0 ⟨someZ (min p 8), someA 1 (min p 8), 1, F8, F8⟩ 0 (addsL j) j).1 == 12) = true := by rw [hR]; rfl
    refine agow ?_; (try with_reducible exact True.intro)
theorem viewAdds_walk (m : Int) (hm : (Lit.int .i64 m).wf = true) (n : Int) (hn : (Lit.int .i64 n).wf = true) {w : World} :
    Calls Try.prog 7 #[.int .i64 m, .int .i64 n] w fun e w' => e = .returned (.bool true) ∧ Below w.heap.size w w' :=
  law_of_fn (viewAdds_ok m n) (fun q l e => by cases (show (none : Option (List Seg)) = some l from e)) (.cons (.v _) (.cons (.v _) .nil))
end Go.Proofs.Ytkeabmnmeheeiaa
