/-
  The types of audits, and of a map; an environment that knows them.
-/
import Derived.Test.YtegjkfaokpjojaaGreatDoorJ31
import Derived.Test.YtegjkfaokpjojaaGreatDoorJ40
import Derived.Test.YtegjkfaokpjojaaGreatDoorJ46
import Derived.Test.YtegjkfaokpjojaaGreatDoorJ18
namespace Go.Proofs.YtegjkfaokpjojaaGreatDoor
set_option maxRecDepth 100000
open Go.RowKit
set_option linter.unusedVariables false
set_option linter.unusedSimpArgs false

def yTab5 (t0 : TypeId) : Option TI :=
  match t0 with
  | 130 => some (tiStruct 105 [.ints .i64 1 [0], .ints .i64 31 (List.replicate 31 0), .bools 8 (List.replicate 8 false), .ints .i64 1 [0], .bytes 32 (List.replicate 32 0), .bytes 32 (List.replicate 32 0)] [0, 73] [40, 26] 336 true [(0, 73), (73, 32)])
  | 30 => some (tiSl 23 1)
  | 31 => some (tiSl 28 1)
  | _ => yTab3 t0
set_option maxRecDepth 100000 in
theorem yOK5 : ∀ t i, yTab5 t = some i → TyOK Tryz.prog t i := by
  intro t i h
  unfold yTab5 at h
  split at h <;> first | (cases h; exact tyB_spec (by kernel_rfl)) | exact yOK3 _ _ h
set_option maxRecDepth 100000 in
theorem yEq5 : ∀ t i, yTab5 t = some i → i.eq = true → EqT Tryz.prog t i := by
  intro t i h
  unfold yTab5 at h
  split at h <;> first | (cases h; intro he; cases he; done) | (cases h; intro _; exact eqB_spec (by kernel_rfl)) | exact yEq3 _ _ h
noncomputable def EnvX.withM (E : EnvX) (m : TypeId → Option (Nat × TypeId)) (h : ∀ t x, m t = some x → MapT E.P t x.1 x.2) : EnvX := { E with mz := m, hmz := h }
def mzT (t : TypeId) : Option (Nat × TypeId) :=
  match t with
  | 127 => some (32, 130)
  | _ => none
set_option maxRecDepth 100000 in
theorem mzT_ok : ∀ t x, mzT t = some x → MapT Tryz.prog t x.1 x.2 := by
  intro t x h
  unfold mzT at h
  split at h
  · cases h
    exact mapT_of (kt := 26) (b := 5) (zs := List.replicate 32 0) (by kernel_rfl) (by kernel_rfl) (by kernel_rfl) (by kernel_rfl) (by kernel_rfl) (yOK5 26 _ rfl) (yEq5 26 _ rfl rfl) rfl (by simp)
  · cases h
end Go.Proofs.YtegjkfaokpjojaaGreatDoor

/-
  Do parties agree? By a map of the first of each history, and each two of them: the same. Mathematics; no function is named here.
-/
namespace Go.Proofs.YtegjkfaokpjojaaGreatDoor
set_option maxRecDepth 100000
open Go.RowKit Pm
set_option linter.unusedVariables false
set_option linter.unusedSimpArgs false

theorem getM_put {k ks : List UInt8} {v z : List Seg} : ∀ {L : List (List UInt8 × List Seg)}, getM (putM L k v) ks z = if k = ks then v else getM L ks z
  | [] => by simp [putM, getM]
  | x :: L => by
    unfold putM
    by_cases h : x.1 = k
    · rw [if_pos h]
      by_cases h2 : k = ks
      · simp [getM, h2]
      · simp [getM, h2, h]
    · rw [if_neg h]
      unfold getM
      rw [getM_put]
      by_cases h2 : x.1 = ks
      · rw [if_pos h2, if_pos h2, if_neg (fun e => h (h2.trans e.symm))]
      · rw [if_neg h2, if_neg h2]
theorem hasM_put {k ks : List UInt8} {v : List Seg} : ∀ {L : List (List UInt8 × List Seg)}, hasM (putM L k v) ks = if k = ks then true else hasM L ks
  | [] => by simp [putM, hasM]
  | x :: L => by
    unfold putM
    by_cases h : x.1 = k
    · rw [if_pos h]
      by_cases h2 : k = ks
      · simp [hasM, h2]
      · simp [hasM, h2, h]
    · rw [if_neg h]
      unfold hasM
      rw [hasM_put]
      by_cases h2 : x.1 = ks
      · rw [if_pos h2, if_pos h2, if_neg (fun e => h (h2.trans e.symm))]
      · rw [if_neg h2, if_neg h2]
def audW : List UInt8 := sb ⟨#[97, 117, 100, 105, 116]⟩
/-- what a party has that all of its history must have -/
abbrev ownM (p : PS) : List Seg := [.ints .i64 1 [p.e], .ints .i64 31 p.zs, .bools 8 p.ad, .ints .i64 1 [p.k], .bytes 32 p.ch, .bytes 32 (expW p.ep audW)]
abbrev atG {α : Type} (G : List (Option α)) (j : Nat) : Option α := G.getD j none
def mapG (G : List (Option PS)) : Nat → List (List UInt8 × List Seg)
  | 0 => []
  | j + 1 => match atG G j with
    | none => mapG G j
    | some p => if hasM (mapG G j) p.ch = true then mapG G j else putM (mapG G j) p.ch (ownM p)
/-- is it one with the first of its history? -/
def okG (G : List (Option PS)) (j : Nat) : Bool := match atG G j with
  | none => true
  | some p => if hasM (mapG G j) p.ch = true then eqSegs (ownM p) (getM (mapG G j) p.ch []) else true
def agreeB (G : List (Option PS)) : Bool := (List.range G.length).all (okG G)
theorem mapG_zero (G : List (Option PS)) : mapG G 0 = [] := rfl
theorem mapG_none {G : List (Option PS)} {j : Nat} (h : atG G j = none) : mapG G (j + 1) = mapG G j := by rw [mapG, h]
theorem mapG_has {G : List (Option PS)} {j : Nat} {p : PS} (h : atG G j = some p) (hm : hasM (mapG G j) p.ch = true) : mapG G (j + 1) = mapG G j := by rw [mapG, h]; simp [hm]
theorem mapG_new {G : List (Option PS)} {j : Nat} {p : PS} (h : atG G j = some p) (hm : hasM (mapG G j) p.ch = false) : mapG G (j + 1) = putM (mapG G j) p.ch (ownM p) := by rw [mapG, h]; simp [hm]
/-- what stands in the map is the first of its history -/
def FirstAt (G : List (Option PS)) (ks : List UInt8) (j : Nat) : Prop :=
  (hasM (mapG G j) ks = false ∧ (∀ z, getM (mapG G j) ks z = z) ∧ ∀ i, i < j → ∀ p, atG G i = some p → p.ch ≠ ks) ∨
    ∃ i p, i < j ∧ atG G i = some p ∧ p.ch = ks ∧ hasM (mapG G j) ks = true ∧ (∀ z, getM (mapG G j) ks z = ownM p) ∧ hasM (mapG G i) ks = false
theorem mapG_first (G : List (Option PS)) (ks : List UInt8) : ∀ j, FirstAt G ks j
  | 0 => .inl ⟨rfl, fun _ => rfl, fun i hi => by omega⟩
  | j + 1 => by
    have ih := mapG_first G ks j
    have keep : mapG G (j + 1) = mapG G j → (∀ p, atG G j = some p → p.ch = ks → hasM (mapG G j) ks = true) → FirstAt G ks (j + 1) := fun e hp => by
      rcases ih with ⟨h1, h2, h3⟩ | ⟨i, p, h1, h2, h3, h4, h5, h6⟩
      · refine Or.inl ⟨by rw [e]; exact h1, fun z => by rw [e]; exact h2 z, fun i hi p hpi => ?_⟩
        by_cases hij : i = j
        · subst hij
          intro hc
          have := hp p hpi hc
          rw [h1] at this; cases this
        · exact h3 i (by omega) p hpi
      · exact .inr ⟨i, p, by omega, h2, h3, by rw [e]; exact h4, fun z => by rw [e]; exact h5 z, h6⟩
    cases hg : atG G j with
    | none => exact keep (mapG_none hg) fun p hp => by rw [hg] at hp; cases hp
    | some p =>
      by_cases hm : hasM (mapG G j) p.ch = true
      · exact keep (mapG_has hg hm) fun q hq hc => by rw [hg] at hq; cases hq; rw [← hc]; exact hm
      · have hm' : hasM (mapG G j) p.ch = false := by simpa using hm
        have e := mapG_new hg hm'
        by_cases hc : p.ch = ks
        · refine .inr ⟨j, p, by omega, hg, hc, ?_, fun z => ?_, by rw [← hc]; exact hm'⟩
          · rw [e, hasM_put, if_pos hc]
          · rw [e, getM_put, if_pos hc]
        · rcases ih with ⟨h1, h2, h3⟩ | ⟨i, q, h1, h2, h3, h4, h5, h6⟩
          · refine .inl ⟨?_, fun z => ?_, fun i hi q hq => ?_⟩
            · rw [e, hasM_put, if_neg hc]; exact h1
            · rw [e, getM_put, if_neg hc]; exact h2 z
            · by_cases hij : i = j
              · subst hij; rw [hg] at hq; cases hq; exact hc
              · exact h3 i (by omega) q hq
          · refine .inr ⟨i, q, by omega, h2, h3, ?_, fun z => ?_, h6⟩
            · rw [e, hasM_put, if_neg hc]; exact h4
            · rw [e, getM_put, if_neg hc]; exact h5 z
theorem eqOwn (p q : PS) : eqSegs (ownM p) (ownM q) = true ↔ ownM p = ownM q := by
  simp [eqSegs]
/-- of two of one history: are they one? -/
def pairX (x y : Option XS) : Bool := match x, y with
  | some x, some y => if x.ch = y.ch then decide (x.e = y.e ∧ x.zs = y.zs ∧ x.ad = y.ad ∧ x.k = y.k ∧ expW x.ep audW = expW y.ep audW) else true
  | _, _ => true
def rowX (H : List (Option XS)) (i : Nat) : Bool := (List.range i).all fun k => pairX (atG H i) (atG H k)
def agreeX (H : List (Option XS)) : Bool := (List.range H.length).all (rowX H)
theorem pair_own {p q : PS} : pairX (some (xOf p)) (some (xOf q)) = true ↔ (p.ch = q.ch → ownM p = ownM q) := by
  unfold pairX xOf
  by_cases h : p.ch = q.ch
  · simp [h]
  · simp [h]
theorem atG_map {α β : Type} (f : α → β) (G : List (Option α)) (j : Nat) : atG (G.map (Option.map f)) j = (atG G j).map f := by
  simp only [atG, List.getD_eq_getElem?_getD, List.getElem?_map]
  cases G[j]? <;> rfl
/-- both ways come to the same -/
theorem agree_eq (G : List (Option PS)) : agreeX (G.map (Option.map xOf)) = agreeB G := by
  rw [Bool.eq_iff_iff]
  simp only [agreeX, agreeB, List.all_eq_true, List.mem_range, List.length_map, rowX, atG_map]
  constructor
  · intro h j hj
    unfold okG
    cases hg : atG G j with
    | none => rfl
    | some p =>
      simp only
      split
      · next hm =>
        rcases mapG_first G p.ch j with ⟨h1, _, _⟩ | ⟨i, q, h1, h2, h3, _, h5, _⟩
        · rw [hm] at h1; cases h1
        · rw [h5, eqOwn]
          have h6 := h j hj i h1
          rw [hg, h2] at h6
          exact pair_own.1 h6 h3.symm
      · rfl
  · intro h i hi k hk
    cases hi2 : atG G i with
    | none => rfl
    | some p =>
      cases hk2 : atG G k with
      | none => simp [pairX]
      | some q =>
        refine pair_own.2 fun hc => ?_
        have one : ∀ j, j < G.length → ∀ p, atG G j = some p → ∃ i q, (∀ z, getM (mapG G (j + 1)) p.ch z = ownM q) ∧ i ≤ j ∧ atG G i = some q ∧ hasM (mapG G i) p.ch = false ∧ ownM p = ownM q := fun j hj p hp => by
          have h7 := h j hj
          unfold okG at h7
          rw [hp] at h7
          simp only at h7
          rcases mapG_first G p.ch j with ⟨h1, _, _⟩ | ⟨i, q, h1, h2, h3, h4, h5, h6⟩
          · exact ⟨j, p, fun z => by rw [mapG_new hp h1, getM_put, if_pos rfl], Nat.le_refl _, hp, h1, rfl⟩
          · rw [if_pos h4, h5, eqOwn] at h7
            exact ⟨i, q, fun z => by rw [mapG_has hp h4]; exact h5 z, by omega, h2, h6, h7⟩
        obtain ⟨a, q1, _, a1, a2, a3, a4⟩ := one i hi p hi2
        obtain ⟨b, q2, _, b1, b2, b3, b4⟩ := one k (by omega) q hk2
        have c1 : q1.ch = p.ch := by have := congrArg (fun l => match l with | [_, _, _, _, Seg.bytes _ c, _] => c | _ => []) a4; exact this.symm
        have c2 : q2.ch = q.ch := by have := congrArg (fun l => match l with | [_, _, _, _, Seg.bytes _ c, _] => c | _ => []) b4; exact this.symm
        rw [← hc] at b3 c2
        have hab : a = b := by
          rcases Nat.lt_trichotomy a b with hl | hl | hl
          · rcases mapG_first G p.ch b with ⟨_, _, h3⟩ | ⟨_, _, _, _, _, h4, _⟩
            · exact (h3 a hl q1 a2 c1).elim
            · rw [b3] at h4; cases h4
          · exact hl
          · rcases mapG_first G p.ch a with ⟨_, _, h3⟩ | ⟨_, _, _, _, _, h4, _⟩
            · exact (h3 b hl q2 b2 c2).elim
            · rw [a3] at h4; cases h4
        subst hab
        rw [a2] at b2; cases b2
        rw [a4, b4]
end Go.Proofs.YtegjkfaokpjojaaGreatDoor

/-
  Audits: the map of the first of each history; each two of them; what a party has.
-/
namespace Go.Proofs.YtegjkfaokpjojaaGreatDoor
set_option maxRecDepth 100000
open Go.RowKit Pm
set_option linter.unusedVariables false
set_option linter.unusedSimpArgs false
attribute [local irreducible] condK LoopA regA powI scal mulI isI fourB deriveW numB numsB bodyB nodeW nextW viewHV doR chkV planL sealB boxD keyZ helD commonI placeI apE doP comE comP nextP joinP upW lefW tagE expW memTo createP enterP getM hasM putM mapG z480 xOf

noncomputable def envAu0 : EnvX := (envPz7.withY yTab5 yOK5 yEq5).withM mzT mzT_ok
abbrev optP : Option PS → A
  | none => .v (.pointer none)
  | some p => .sref (pSegs p) 0
abbrev optX : Option XS → A
  | none => .v (.pointer none)
  | some p => .sref (xSegs p) 0
theorem opt_get {α : Type} {f : Option α → A} (hf : f none = .v (.pointer none)) {G : List (Option α)} {j : Nat} (hj : j < G.length) (d : A) : (G.map f).getD j d = f (atG G j) := by
  simp only [atG, List.getD_eq_getElem?_getD, List.getElem?_map, List.getElem?_eq_getElem hj]
  rfl
set_option maxHeartbeats 4000000 in
theorem agree_fn (G : List (Option PS)) (n : Nat) (hn : G.length = n) (hn2 : n ≤ 1000000) : FnO 16 [.row n [.gen n (G.map optP)]] (.d (.v (.bool (agreeB G)))) := by
  refine fnA (E := envAu0) Tryz.func16 Tryz.ntmps16 ?_
  obtain ⟨N, hN, hok, hend⟩ := first_noO (p := fun j => okG G j = true) n
  refine agow ?_; (try with_reducible exact True.intro)
  refine StopL.mk (loop_forG [3, 10, 11, 12] [0] N (fun j => ⟨[.dead, .dead, .dead, .mp 0, .dead, .dead, .dead, .dead, .dead, .dead, .d (.row n [.gen n (G.map optP)]), .d (.v (.int .i64 (n : Nat))), .d (.v (.int .i64 (j : Nat))), .dead, .dead, .dead, .dead, .dead, .dead, .dead, .dead, .dead, .dead, .dead, .dead, .dead, .dead, .dead, .dead, .dead, .dead, .dead, .dead, .dead, .dead, .dead, .dead, .dead, .dead, .dead, .dead, .dead], [some (.abs (mapOP 32 (mapG G j)))]⟩) ?_ (h2 := by rw [mapG_zero]; exact rfl))
  intro j hj hl
  by_cases h3 : j < n
  · have h2 : (j : Int) < n := by omega
    have hg := opt_get (f := optP) rfl (G := G) (j := j) (by omega) (.v undef)
    cases ho : atG G j with
    | none =>
      have hlt : j < N := by
        rcases Nat.lt_or_ge j N with h | h
        · exact h
        · obtain rfl : N = j := by omega
          rcases hend with h | h
          · omega
          · exact (h.2 (by unfold okG; rw [ho])).elim
      have hz := mapG_none ho
      rw [ho] at hg
      clear hok hend hN
      refine agow ?_; (try with_reducible exact True.intro)
      rw [hg]
      refine agow ?_; (try with_reducible exact True.intro)
      refine hl.go hlt [3, 10, 11, 12] [0] ?_
      show gather _ _ _ = St.mk _ _
      rw [hz]
      rfl
    | some p =>
      rw [ho] at hg
      have hg : (G.map optP).getD j (.v undef) = .sref (pSegs p) 0 := hg
      rcases mapG_first G p.ch j with ⟨q1, q2, _⟩ | ⟨i, q, hi, q0, q3, q1, q2, _⟩
      · have hlt : j < N := by
          rcases Nat.lt_or_ge j N with h | h
          · exact h
          · obtain rfl : N = j := by omega
            rcases hend with h | h
            · omega
            · exact (h.2 (by unfold okG; rw [ho]; simp [q1])).elim
        have hz := mapG_new ho q1
        clear hok hend hN
        refine agow ?_; (try with_reducible exact True.intro)
        rw [hg]
        refine agow ?_; (try with_reducible exact True.intro)
        rw [q2]
        refine agow ?_; (try with_reducible exact True.intro)
        refine hl.go hlt [3, 10, 11, 12] [0] ?_
        show gather _ _ _ = St.mk _ _
        rw [hz]
        rfl
      · have hz := mapG_has ho q1
        by_cases hlt : j < N
        · have hq : eqSegs (ownM p) (ownM q) = true := by
            have := hok j hlt
            unfold okG at this
            rw [ho] at this
            simp only [q1, if_true, q2] at this
            exact this
          have hq2 : (!eqSegs (ownM p) (ownM q)) = false := by rw [hq]; rfl
          clear hok hend hN q0 q3
          refine agow ?_; (try with_reducible exact True.intro)
          rw [hg]
          refine agow ?_; (try with_reducible exact True.intro)
          rw [q2]
          refine agow ?_; (try with_reducible exact True.intro)
          refine hl.go hlt [3, 10, 11, 12] [0] ?_
          show gather _ _ _ = St.mk _ _
          rw [hz]
          rfl
        · obtain rfl : N = j := by omega
          have hf : okG G N = false := by
            rcases hend with h | h
            · omega
            · simpa using h.2
          have hq : eqSegs (ownM p) (ownM q) = false := by
            unfold okG at hf
            rw [ho] at hf
            simp only [q1, if_true, q2] at hf
            exact hf
          have hq2 : (!eqSegs (ownM p) (ownM q)) = true := by rw [hq]; rfl
          have hA : agreeB G = false := by
            unfold agreeB
            rw [List.all_eq_false]
            exact ⟨N, by rw [List.mem_range]; omega, by rw [hf]; simp⟩
          rw [hA]
          clear hok hend hN q0 q3 hA
          refine agow ?_; (try with_reducible exact True.intro)
          rw [hg]
          refine agow ?_; (try with_reducible exact True.intro)
          rw [q2]
          refine agow ?_; (try with_reducible exact True.intro)
  · obtain rfl : N = n := by omega
    have h2 : ¬ (j : Int) < N := by omega
    obtain rfl : N = j := by omega
    have hz : agreeB G = true := by
      unfold agreeB
      rw [List.all_eq_true]
      exact fun i hi => hok i (by rw [List.mem_range] at hi; omega)
    rw [hz]
    clear hz hok hend hN
    refine agow ?_; (try with_reducible exact True.intro)
end Go.Proofs.YtegjkfaokpjojaaGreatDoor
