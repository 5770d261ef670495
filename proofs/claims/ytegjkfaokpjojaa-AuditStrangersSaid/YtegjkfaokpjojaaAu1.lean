/-
  Audits: the map of the first of each history; each two of them; what a party has.
-/
import Derived.Test.YtegjkfaokpjojaaAu0
import Derived.Test.YtegjkfaokpjojaaY15
import Derived.Test.YtegjkfaokpjojaaPb8
import Derived.Test.YtegjkfaokpjojaaJ18
namespace Go.Proofs.Ytegjkfaokpjojaa
set_option maxRecDepth 100000
set_option pp.deepTerms true
set_option pp.maxSteps 1000000
open Go.RowKit Pm
set_option linter.unusedVariables false
set_option linter.unusedSimpArgs false
attribute [local irreducible] condK LoopA regA powI scal mulI isI fourB deriveW numB numsB bodyB nodeW nextW viewHV doR chkV planL sealB boxD keyZ helD commonI placeI apE doP comE comP nextP joinP upW lefW tagE expW memTo createP enterP getM hasM putM mapG z480 xOf

noncomputable def envAu0 : EnvX := (envPz7.withY yTab5 yOK5 yEq5).withM mzT mzT_ok
abbrev optP : Option PS → A
  | none => .v (.pointer none)
  | some p => .sref (pSegs p) 0
abbrev optX : Option XS → A
  | none => .v (.pointer none)
  | some p => .sref (xSegs p) 0
theorem opt_get {α : Type} {f : Option α → A} (hf : f none = .v (.pointer none)) {G : List (Option α)} {j : Nat} (hj : j < G.length) (d : A) : (G.map f).getD j d = f (atG G j) := by
  simp only [atG, List.getD_eq_getElem?_getD, List.getElem?_map, List.getElem?_eq_getElem hj]
  rfl
set_option maxHeartbeats 4000000 in
theorem agree_fn (G : List (Option PS)) (n : Nat) (hn : G.length = n) (hn2 : n ≤ 1000000) : FnO 7 [.row n [.gen n (G.map optP)]] (.d (.v (.bool (agreeB G)))) := by
  refine fnA (E := envAu0) Try.func7 Try.ntmps7 ?_
  obtain ⟨N, hN, hok, hend⟩ := first_noO (p := fun j => okG G j = true) n
  refine agow ?_; (try with_reducible exact True.intro)
  refine StopL.mk (loop_forG [3, 10, 11, 12] [0] N (fun j => ⟨[.dead, .dead, .dead, .mp 0, .dead, .dead, .dead, .dead, .dead, .dead, .d (.row n [.gen n (G.map optP)]), .d (.v (.int .i64 (n : Nat))), .d (.v (.int .i64 (j : Nat))), .dead, .dead, .dead, .dead, .dead, .dead, .dead, .dead, .dead, .dead, .dead, .dead, .dead, .dead, .dead, .dead, .dead, .dead, .dead, .dead, .dead, .dead, .dead, .dead, .dead, .dead, .dead, .dead, .dead], [some (.abs (mapOP 32 (mapG G j)))]⟩) ?_ (h2 := by rw [mapG_zero]; exact rfl))
  intro j hj hl
  by_cases h3 : j < n
  · have h2 : (j : Int) < n := by omega
    have hg := opt_get (f := optP) rfl (G := G) (j := j) (by omega) (.v undef)
    cases ho : atG G j with
    | none =>
      have hlt : j < N := by
        rcases Nat.lt_or_ge j N with h | h
        · exact h
        · obtain rfl : N = j := by omega
          rcases hend with h | h
          · omega
          · exact (h.2 (by unfold okG; rw [ho])).elim
      have hz := mapG_none ho
      rw [ho] at hg
      clear hok hend hN
      refine agow ?_; (try with_reducible exact True.intro)
      rw [hg]
      refine agow ?_; (try with_reducible exact True.intro)
      refine hl.go hlt [3, 10, 11, 12] [0] ?_
      show gather _ _ _ = St.mk _ _
      rw [hz]
      rfl
    | some p =>
      rw [ho] at hg
      have hg : (G.map optP).getD j (.v undef) = .sref (pSegs p) 0 := hg
      rcases mapG_first G p.ch j with ⟨q1, q2, _⟩ | ⟨i, q, hi, q0, q3, q1, q2, _⟩
      · have hlt : j < N := by
          rcases Nat.lt_or_ge j N with h | h
          · exact h
          · obtain rfl : N = j := by omega
            rcases hend with h | h
            · omega
            · exact (h.2 (by unfold okG; rw [ho]; simp [q1])).elim
        have hz := mapG_new ho q1
        clear hok hend hN
        refine agow ?_; (try with_reducible exact True.intro)
        rw [hg]
        refine agow ?_; (try with_reducible exact True.intro)
        rw [q2]
        refine agow ?_; (try with_reducible exact True.intro)
        refine hl.go hlt [3, 10, 11, 12] [0] ?_
        show gather _ _ _ = St.mk _ _
        rw [hz]
        rfl
      · have hz := mapG_has ho q1
        by_cases hlt : j < N
        · have hq : eqSegs (ownM p) (ownM q) = true := by
            have := hok j hlt
            unfold okG at this
            rw [ho] at this
            simp only [q1, if_true, q2] at this
            exact this
          have hq2 : (!eqSegs (ownM p) (ownM q)) = false := by rw [hq]; rfl
          clear hok hend hN q0 q3
          refine agow ?_; (try with_reducible exact True.intro)
          rw [hg]
          refine agow ?_; (try with_reducible exact True.intro)
          rw [q2]
          refine agow ?_; (try with_reducible exact True.intro)
          refine hl.go hlt [3, 10, 11, 12] [0] ?_
          show gather _ _ _ = St.mk _ _
          rw [hz]
          rfl
        · obtain rfl : N = j := by omega
          have hf : okG G N = false := by
            rcases hend with h | h
            · omega
            · simpa using h.2
          have hq : eqSegs (ownM p) (ownM q) = false := by
            unfold okG at hf
            rw [ho] at hf
            simp only [q1, if_true, q2] at hf
            exact hf
          have hq2 : (!eqSegs (ownM p) (ownM q)) = true := by rw [hq]; rfl
          have hA : agreeB G = false := by
            unfold agreeB
            rw [List.all_eq_false]
            exact ⟨N, by rw [List.mem_range]; omega, by rw [hf]; simp⟩
          rw [hA]
          clear hok hend hN q0 q3 hA
          refine agow ?_; (try with_reducible exact True.intro)
          rw [hg]
          refine agow ?_; (try with_reducible exact True.intro)
          rw [q2]
          refine agow ?_; (try with_reducible exact True.intro)
  · obtain rfl : N = n := by omega
    have h2 : ¬ (j : Int) < N := by omega
    obtain rfl : N = j := by omega
    have hz : agreeB G = true := by
      unfold agreeB
      rw [List.all_eq_true]
      exact fun i hi => hok i (by rw [List.mem_range] at hi; omega)
    rw [hz]
    clear hz hok hend hN
    refine agow ?_; (try with_reducible exact True.intro)
end Go.Proofs.Ytegjkfaokpjojaa
