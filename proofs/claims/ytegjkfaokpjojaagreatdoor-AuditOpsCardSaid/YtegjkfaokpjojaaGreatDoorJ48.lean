/-
  Audits: the document's Agree: each two of them.
-/
import Derived.Test.YtegjkfaokpjojaaGreatDoorJ47
namespace Go.Proofs.YtegjkfaokpjojaaGreatDoor
set_option maxRecDepth 100000
open Go.RowKit Pm
set_option linter.unusedVariables false
set_option linter.unusedSimpArgs false
attribute [local irreducible] condK LoopA regA powI scal mulI isI fourB deriveW numB numsB bodyB nodeW nextW viewHV doR chkV planL sealB boxD keyZ helD commonI placeI apE doP comE comP nextP joinP upW lefW tagE expW memTo createP enterP getM hasM putM mapG z480 xOf

/-- the document's export, asked of an address -/
def xexpS : List A → (Res → Prop) → Prop
  | [x, .v (.string l)], K => l.size ≤ 1000000 ∧ xK x fun p => K (.d (.agg [.bytes 32 (expW p.ep (sb l))]))
  | _, _ => False
theorem xexpS_ok : ∀ args K, xexpS args K → ∃ r, FnO 63 args r ∧ K r := by
  intro args K h
  unfold xexpS at h
  split at h
  · obtain ⟨hl, h⟩ := h
    obtain ⟨p, rfl, h⟩ := xK_eq h
    exact ⟨_, xexport_fn p _ hl, h⟩
  · exact h.elim
noncomputable def envAu1 : EnvX := envAu0.add 63 xexpS xexpS_ok ⟨_, Tryz.func63, by kernel_rfl, by kernel_rfl⟩
abbrev vX (x : XS) : List Seg := vSegs x.e x.zs x.ad x.k x.ch
abbrev eX (x : XS) : List Seg := [.bytes 32 (expW x.ep audW)]
theorem pair_no {x y : XS} (h : ¬ x.ch = y.ch) : pairX (some x) (some y) = true := by unfold pairX; simp [h]
theorem pair_is {x y : XS} (h : x.ch = y.ch) : pairX (some x) (some y) = (eqSegs (vX x) (vX y) && eqSegs (eX x) (eX y)) := by
  unfold pairX
  rw [Bool.eq_iff_iff]
  simp [h, eqSegs]
  constructor
  · rintro ⟨h1, h2, h3, h4, h5⟩; exact ⟨⟨h1, h2, h3, h4⟩, h5⟩
  · rintro ⟨⟨h1, h2, h3, h4⟩, h5⟩; exact ⟨h1, h2, h3, h4, h5⟩
set_option maxHeartbeats 8000000 in
theorem xagree_fn (H : List (Option XS)) (n : Nat) (hn : H.length = n) (hn2 : n ≤ 1000000) : FnO 17 [.row n [.gen n (H.map optX)]] (.d (.v (.bool (agreeX H)))) := by
  refine fnA (E := envAu1) Tryz.func17 Tryz.ntmps17 ?_
  obtain ⟨N, hN, hok, hend⟩ := first_noO (p := fun j => rowX H j = true) n
  refine agow ?_; (try with_reducible exact True.intro)
  refine StopL.mk (loop_forG [0, 3] [0] N (fun i => ⟨[.d (.row n [.gen n (H.map optX)]), .dead, .dead, .d (.v (.int .i64 (i : Nat))), .dead, .dead, .dead, .dead, .dead, .dead, .dead, .dead, .dead, .dead, .dead, .dead, .dead, .dead, .dead, .dead, .dead, .dead, .dead, .dead, .dead, .dead, .dead, .dead, .dead, .dead, .dead, .dead, .dead, .dead, .dead, .dead, .dead, .dead, .dead, .dead, .dead, .dead, .dead, .dead, .dead, .dead, .dead, .dead, .dead, .dead, .dead, .dead, .dead, .dead, .dead, .dead, .dead, .dead, .dead, .dead, .dead, .dead, .dead, .dead, .dead, .dead, .dead, .dead, .dead, .dead, .dead, .dead, .dead, .dead, .dead], [none]⟩) ?_)
  intro i hi hl
  by_cases h3 : i < n
  · have h2 : (i : Int) < n := by omega
    have hg := opt_get (f := optX) rfl (G := H) (j := i) (by omega) (.v undef)
    obtain ⟨M, hM, hkk, hkend⟩ := first_noO (p := fun k => pairX (atG H i) (atG H k) = true) i
    refine agow ?_; (try with_reducible exact True.intro)
    refine StopL.mk (loop_forG [0, 3, 4] [0] M (fun k => ⟨[.d (.row n [.gen n (H.map optX)]), .dead, .dead, .d (.v (.int .i64 (i : Nat))), .d (.v (.int .i64 (k : Nat))), .dead, .dead, .dead, .dead, .dead, .dead, .dead, .dead, .dead, .dead, .dead, .dead, .dead, .dead, .dead, .dead, .dead, .dead, .dead, .dead, .dead, .dead, .dead, .dead, .dead, .dead, .dead, .dead, .dead, .dead, .dead, .dead, .dead, .dead, .dead, .dead, .dead, .dead, .dead, .dead, .dead, .dead, .dead, .dead, .dead, .dead, .dead, .dead, .dead, .dead, .dead, .dead, .dead, .dead, .dead, .dead, .dead, .dead, .dead, .dead, .dead, .dead, .dead, .dead, .dead, .dead, .dead, .dead, .dead, .dead], [none]⟩) ?_)
    intro k hk hl2
    by_cases h4 : k < i
    · have h5 : (k : Int) < i := by omega
      have h6 : (k : Int) < n := by omega
      have hg2 := opt_get (f := optX) rfl (G := H) (j := k) (by omega) (.v undef)
      have hkM : k < M ∨ k = M ∧ pairX (atG H i) (atG H k) = false := by
        rcases Nat.lt_or_ge k M with h | h
        · exact .inl h
        · obtain rfl : M = k := by omega
          rcases hkend with h | h
          · omega
          · exact .inr ⟨rfl, by simpa using h.2⟩
      have hq := hkk k
      have hA : ¬ pairX (atG H i) (atG H k) = true → agreeX H = false := fun h => by
        unfold agreeX
        rw [List.all_eq_false]
        refine ⟨i, by rw [List.mem_range]; omega, ?_⟩
        intro e
        unfold rowX at e
        rw [List.all_eq_true] at e
        exact h (e k (by rw [List.mem_range]; exact h4))
      clear hok hend hN hkend hkk hl hM hi
      cases ho : atG H i with
      | none =>
        have hlt : k < M := by
          rcases hkM with h | ⟨_, h⟩
          · exact h
          · rw [ho] at h; cases h
        rw [ho] at hg
        clear hkM hq hA
        refine agow ?_; (try with_reducible exact True.intro)
        rw [hg]
        refine agow ?_; (try with_reducible exact True.intro)
        refine hl2.go hlt [0, 3, 4] [0] ?_
        rfl
      | some x =>
        rw [ho] at hg
        have hg : (H.map optX).getD i (.v undef) = .sref (xSegs x) 0 := hg
        cases ho2 : atG H k with
        | none =>
          have hlt : k < M := by
            rcases hkM with h | ⟨_, h⟩
            · exact h
            · rw [ho, ho2] at h; cases h
          rw [ho2] at hg2
          clear hkM hq hA
          refine agow ?_; (try with_reducible exact True.intro)
          rw [hg]
          refine agow ?_; (try with_reducible exact True.intro)
          rw [hg2]
          refine agow ?_; (try with_reducible exact True.intro)
          refine hl2.go hlt [0, 3, 4] [0] ?_
          rfl
        | some y =>
          rw [ho2] at hg2
          have hg2 : (H.map optX).getD k (.v undef) = .sref (xSegs y) 0 := hg2
          rw [ho, ho2] at hkM hq
          by_cases hch : x.ch = y.ch
          · rw [pair_is hch] at hkM hq
            have hcd := decide_eq_true hch
            clear hch
            refine agow ?_; (try with_reducible exact True.intro)
            rw [hg]
            refine agow ?_; (try with_reducible exact True.intro)
            rw [hg2]
            refine agow ?_; (try with_reducible exact True.intro)
            rw [hg]
            refine agow ?_; (try with_reducible exact True.intro)
            rw [hg2]
            refine agow ?_; (try with_reducible exact True.intro)
            rw [hg]
            refine agow ?_; (try with_reducible exact True.intro)
            rw [hg2]
            by_cases hlt : k < M
            · have hq := hq hlt
              rw [Bool.and_eq_true] at hq
              obtain ⟨q1, q2⟩ := hq
              have q1' : (!eqSegs (vX x) (vX y)) = false := by rw [q1]; rfl
              have q2' : (!eqSegs (eX x) (eX y)) = false := by rw [q2]; rfl
              clear hkM q1 q2
              refine agow ?_; (try with_reducible exact True.intro)
              rw [hg]
              refine agow ?_; (try with_reducible exact True.intro)
              rw [hg2]
              refine agow ?_; (try with_reducible exact True.intro)
              refine hl2.go hlt [0, 3, 4] [0] ?_
              rfl
            · have hq : (eqSegs (vX x) (vX y) && eqSegs (eX x) (eX y)) = false := by
                rcases hkM with h | h
                · exact (hlt h).elim
                · exact h.2
              have hA := hA (fun e => by rw [ho, ho2, pair_is (of_decide_eq_true hcd)] at e; rw [hq] at e; cases e)
              rw [hA]
              by_cases q1 : eqSegs (vX x) (vX y) = true
              · have q2 : eqSegs (eX x) (eX y) = false := by rw [q1] at hq; simpa using hq
                have q1' : (!eqSegs (vX x) (vX y)) = false := by rw [q1]; rfl
                have q2' : (!eqSegs (eX x) (eX y)) = true := by rw [q2]; rfl
                clear hkM q1 q2 hq hA
                refine agow ?_; (try with_reducible exact True.intro)
                rw [hg]
                refine agow ?_; (try with_reducible exact True.intro)
                rw [hg2]
                refine agow ?_; (try with_reducible exact True.intro)
              · have q1' : (!eqSegs (vX x) (vX y)) = true := by simpa using q1
                clear hkM q1 hq hA
                refine agow ?_; (try with_reducible exact True.intro)
          · have hlt : k < M := by
              rcases hkM with h | ⟨_, h⟩
              · exact h
              · rw [pair_no hch] at h; cases h
            have hcd := decide_eq_false hch
            clear hkM hq hch hA
            refine agow ?_; (try with_reducible exact True.intro)
            rw [hg]
            refine agow ?_; (try with_reducible exact True.intro)
            rw [hg2]
            refine agow ?_; (try with_reducible exact True.intro)
            rw [hg]
            refine agow ?_; (try with_reducible exact True.intro)
            rw [hg2]
            refine agow ?_; (try with_reducible exact True.intro)
            refine hl2.go hlt [0, 3, 4] [0] ?_
            rfl
    · obtain rfl : M = i := by omega
      obtain rfl : M = k := by omega
      have h5 : ¬ (M : Int) < (M : Int) := by omega
      have hlt : M < N := by
        rcases Nat.lt_or_ge M N with h | h
        · exact h
        · obtain rfl : N = M := by omega
          rcases hend with h | h
          · omega
          · refine (h.2 ?_).elim
            unfold rowX
            rw [List.all_eq_true]
            exact fun q hq => hkk q (by rw [List.mem_range] at hq; exact hq)
      clear hok hend hN hkend hkk hM hi hg hl2
      refine agow ?_; (try with_reducible exact True.intro)
      refine hl.go hlt [0, 3] [0] ?_
      rfl
  · obtain rfl : N = n := by omega
    have h2 : ¬ (i : Int) < N := by omega
    obtain rfl : N = i := by omega
    have hz : agreeX H = true := by
      unfold agreeX
      rw [List.all_eq_true]
      exact fun i hi => hok i (by rw [List.mem_range] at hi; omega)
    rw [hz]
    clear hz hok hend hN
    refine agow ?_; (try with_reducible exact True.intro)
end Go.Proofs.YtegjkfaokpjojaaGreatDoor
