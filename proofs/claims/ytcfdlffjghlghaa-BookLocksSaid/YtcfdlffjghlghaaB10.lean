/-
  Books: contracts.
-/
import Derived.Test.YtcfdlffjghlghaaB9
namespace Go.Proofs.Ytcfdlffjghlghaa
set_option maxRecDepth 100000
open Go.RowKit
set_option linter.unusedVariables false
set_option linter.unusedSimpArgs false

/-- a book: its lines, how many stay, how often it was flushed -/
structure BS where
  L : List Ln
  s : Nat
  f : Nat
def bkP (x : BS) : OP := fun h r => bookP x.L x.s x.f h r ∧ x.s ≤ x.L.length ∧ x.L.length ≤ 100
def writeE (x : BS) (e : Int) (p : List UInt8) : Int :=
  if e < 0 ∨ e > 1099511627776 then 1 else if hasV x.L e = true then (if (getV x.L e == p) = true then 0 else 9) else if 100 ≤ x.L.length then 12 else 0
def writeB (x : BS) (e : Int) (p : List UInt8) : BS :=
  if e < 0 ∨ e > 1099511627776 then x else if hasV x.L e = true then x else if 100 ≤ x.L.length then x else ⟨x.L ++ [(e, p)], x.s, x.f⟩
def flushB (x : BS) : BS := ⟨x.L, x.L.length, x.f + 1⟩
def crashB (x : BS) (keep : Int) : BS := ⟨x.L.take (leftN x.L.length x.s keep), leftN x.L.length x.s keep, 0⟩

theorem FnB.of {f : FuncId} {pos : Nat} {p p' : OP} {args : List A} {res : Res} (q : Prop) (hq : ∀ h r, p h r → q) (h : q → FnB Try.prog gTab f pos p args res p') : FnB Try.prog gTab f pos p args res p' := fun S w r F vs hG hlt hp ha hS => h (hq _ _ hp) S w r F vs hG hlt hp ha hS
/-- what a book's contract is, where its lines stay -/
theorem fnB_bk {f : FuncId} {x y : BS} {args : List A} {vs0 : List Value} {a : A} {v0 : Value} (hargs : ∀ {S : Nat → Prop} {w : World} {vs : List Value}, RAs S w args vs → vs = vs0) (ha : flatA a = true) (hv : ∀ w, RA (fun _ => False) w a v0) (hL : y.L = x.L) (hs : x.s ≤ x.L.length → y.s ≤ y.L.length)
    (h : x.s ≤ x.L.length → x.L.length ≤ 100 → ∀ (w : World) (r : Nat) (t : TypeId) (v : Value), BookW w r t v x.L x.s x.f → Calls Try.prog f (.pointer (some ⟨r, 0, none⟩) :: vs0).toArray w fun e w' => e = .returned v0 ∧ Blk w' r (BC 0 v y.s y.f) t ∧ w.grownBy w' (some r)) :
    FnB Try.prog gTab f 0 (bkP x) args (.d a) (bkP y) := by
  intro S w r F vs hG hlt hp hA hS
  obtain ⟨hp, h1, h2⟩ := hp
  refine (fnB_of (x := a) (y := v0) hargs ha hv (fun w r t v hb => h h1 h2 w r t v hb) S w r F vs hG hlt hp hA hS).mono ?_
  rintro e w' ⟨v, F', rfl, k1, k2, k3, k4, k5⟩
  exact ⟨v, F', rfl, k1, k2, ⟨by rw [hL]; exact k3, hs h1, by rw [hL]; exact h2⟩, k4, k5⟩
theorem args0 {S : Nat → Prop} {w : World} {vs : List Value} (h : RAs S w [] vs) : vs = [] := by cases h; rfl
theorem args1 {x : Value} {S : Nat → Prop} {w : World} {vs : List Value} (h : RAs S w [.v x] vs) : vs = [x] := by
  cases h with | cons h r => cases r; cases h; rfl
theorem args2 {x : Value} {p : List UInt8} {S : Nat → Prop} {w : World} {vs : List Value} (h : RAs S w [.v x, .agg [.bytes 32 p]] vs) : vs = [x, .agg (HC p)] ∧ p.length = 32 := by
  cases h with | cons h r => cases r with | cons h2 r => cases r; cases h; obtain ⟨rfl, h3⟩ := ra_agg32 h2; exact ⟨rfl, h3⟩
theorem lenB_ok (x : BS) : FnB Try.prog gTab 22 0 (bkP x) [] (.d (.v (.int .i64 x.L.length))) (bkP x) :=
  fnB_bk (vs0 := []) args0 rfl (fun w => .v _) rfl id fun h1 h2 w r t v hb => len_walk w r t v x.L x.s x.f hb
theorem flushesB_ok (x : BS) (hf : x.f ≤ 1000) : FnB Try.prog gTab 23 0 (bkP x) [] (.d (.v (.int .i64 x.f))) (bkP x) :=
  fnB_bk (vs0 := []) args0 rfl (fun w => .v _) rfl id fun h1 h2 w r t v hb => flushes_walk w r t v x.L x.s x.f hb (by omega)
theorem holdsB_ok (x : BS) (e : Int) : FnB Try.prog gTab 21 0 (bkP x) [.v (.int .i64 e)] (.t [.agg [.bytes 32 (getV x.L e)], .v (.bool (hasV x.L e))]) (bkP x) := by
  intro S w r F vs hG hlt hp hA hS
  obtain ⟨hp, h1, h2⟩ := hp
  obtain rfl := args1 hA
  obtain ⟨t, v, hb, hF⟩ := BookW.of hp
  refine (holds_walk w r t v x.L x.s x.f e (by omega) hb).mono ?_
  rintro y w' ⟨rfl, k1, k2⟩
  have hl := getV_len x.L hb.len e
  exact ⟨_, F, rfl, fun q hq => .inl (by simp [hq]), fun q hq => Nat.lt_of_lt_of_le (hlt q hq) k2.size, ⟨(hb.next k1 k2).to hF, h1, h2⟩, ⟨rfl, _, rfl, .cons (.agg (.ofBytes hl rfl)) (.cons (.v _) .nil)⟩, ⟨k2.os, k2.tape, k2.output, k2.size, fun k hk hn => k2.block k hk (fun e => hn (by cases e; simp))⟩⟩
theorem flushB_ok (x : BS) (hf : x.f ≤ 1000) : FnB Try.prog gTab 15 0 (bkP x) [] (.t []) (bkP (flushB x)) := by
  intro S w r F vs hG hlt hp hA hS
  obtain ⟨hp, h1, h2⟩ := hp
  obtain rfl := args0 hA
  obtain ⟨t, v, hb, hF⟩ := BookW.of hp
  refine (flush_walk w r t v x.L x.s x.f hb (by omega)).mono ?_
  rintro y w' ⟨rfl, k1, k2⟩
  exact ⟨_, F, rfl, fun q hq => .inl (by simp [hq]), fun q hq => Nat.lt_of_lt_of_le (hlt q hq) k2.size, ⟨(hb.next k1 k2).to hF, Nat.le_refl _, h2⟩, ⟨rfl, [], rfl, .nil⟩, ⟨k2.os, k2.tape, k2.output, k2.size, fun k hk hn => k2.block k hk (fun e => hn (by cases e; simp))⟩⟩
theorem writeB_ok (x : BS) (e : Int) (p : List UInt8) : FnB Try.prog gTab 13 0 (bkP x) [.v (.int .i64 e), .agg [.bytes 32 p]] (.d (.v (.int .i64 (writeE x e p)))) (bkP (writeB x e p)) := by
  intro S w r F vs hG hlt hp hA hS
  have hp0 := hp
  obtain ⟨hp, h1, h2⟩ := hp
  obtain ⟨rfl, hl⟩ := args2 hA
  obtain ⟨t, v, hb, hF⟩ := BookW.of hp
  have stay : ∀ (y : Int), (∀ (w' : World), Blk w' r (BC 0 v x.s x.f) t ∧ w.grownBy w' (some r) → ∃ v' F', Ending.returned (.int .i64 y) = .returned v' ∧ (∀ q ∈ F', q ∈ r :: F ∨ w.heap.size ≤ q) ∧ (∀ q ∈ r :: F', q < w'.heap.size) ∧ bkP x (hres w' (r :: F')) r ∧ RRb w w' (r :: F') (.d (.v (.int .i64 y))) v' ∧ GrownX (fun q => q ∈ r :: F) w w') := fun y w' ⟨k1, k2⟩ =>
    ⟨_, F, rfl, fun q hq => .inl (by simp [hq]), fun q hq => Nat.lt_of_lt_of_le (hlt q hq) k2.size, ⟨(hb.next k1 k2).to hF, h1, h2⟩, ⟨rfl, .v _⟩, ⟨k2.os, k2.tape, k2.output, k2.size, fun k hk hn => k2.block k hk (fun e => hn (by cases e; simp))⟩⟩
  unfold writeE writeB
  by_cases c1 : e < 0 ∨ e > 1099511627776
  · rw [if_pos c1, if_pos c1]
    refine (write_arg w r t v x.L x.s x.f e p hl c1 hb).mono ?_
    rintro y w' ⟨rfl, k⟩
    exact stay _ w' k
  · rw [if_neg c1, if_neg c1]
    by_cases c2 : hasV x.L e = true
    · rw [if_pos c2, if_pos c2]
      refine (write_walk w r t v x.L x.s x.f e p hl (by omega) (by omega) (by omega) c2 _ rfl hb).mono ?_
      rintro y w' ⟨rfl, k⟩
      exact stay _ w' k
    · rw [if_neg c2, if_neg c2]
      have c2' : hasV x.L e = false := by simpa using c2
      by_cases c3 : 100 ≤ x.L.length
      · rw [if_pos c3, if_pos c3]
        refine (write_full w r t v x.L x.s x.f e p hl (by omega) (by omega) (by omega) c2' c3 hb).mono ?_
        rintro y w' ⟨rfl, k⟩
        exact stay _ w' k
      · rw [if_neg c3, if_neg c3]
        refine (write_new w r t v x.L x.s x.f e p hl (by omega) (by omega) (by omega) c2' (by omega) hb).mono ?_
        rintro y w' ⟨rfl, v', k1, k2, k3⟩
        have hin : ∀ q, v.ownBlock = some q → q ∈ r :: F := fun q hq => by simp [hF q hq]
        refine ⟨_, match v'.ownBlock with | some q => [q] | none => [], rfl, fun q hq => ?_, fun q hq => ?_, ⟨k1.to fun q hq => by rw [hq]; simp, by simp; omega, by simp; omega⟩, ⟨rfl, .v _⟩, ⟨k3.os, k3.tape, k3.output, k3.size, fun k hk hn => k3.block k hk (fun e => hn (by rcases e with e | e; simp [e]; exact hin k e))⟩⟩
        · cases hv : v'.ownBlock with
          | none => rw [hv] at hq; cases hq
          | some q' =>
            rw [hv] at hq
            simp at hq; subst hq
            rcases k2 with k2 | ⟨q2, k2, k4⟩
            · exact .inl (hin q (by rw [← k2]; exact hv))
            · rw [hv] at k2; cases k2; exact .inr k4
        · rcases List.mem_cons.1 hq with rfl | hq
          · exact Nat.lt_of_lt_of_le (hlt _ (by simp)) k3.size
          · cases hv : v'.ownBlock with
            | none => rw [hv] at hq; cases hq
            | some q' =>
              rw [hv] at hq
              simp at hq; subst hq
              rcases k1.own.2 with ⟨e1, _⟩ | ⟨q2, cap, cur, e1, _, h5, _⟩ <;> rw [e1] at hv <;> cases hv
              exact (Array.getElem?_eq_some_iff.1 h5).1
theorem crashB_ok (x : BS) (keep : Int) (hk : -9223372036854775808 ≤ keep ∧ keep ≤ 9223372036854775807) : FnB Try.prog gTab 17 0 (bkP x) [.v (.int .i64 keep)] (.ob (bkP (crashB x keep))) (bkP x) := by
  intro S w r F vs hG hlt hp hA hS
  obtain ⟨hp, h1, h2⟩ := hp
  obtain rfl := args1 hA
  obtain ⟨t, v, hb, hF⟩ := BookW.of hp
  refine (crash_walk w r t v x.L x.s x.f keep h1 (by omega) hk hb).mono ?_
  rintro y w' ⟨g, v', rfl, k1, k2, k3, k4, k5⟩
  have hle := leftN_le h1 keep
  have hcl : (x.L.take (leftN x.L.length x.s keep)).length = leftN x.L.length x.s keep := by rw [List.length_take]; exact Nat.min_eq_left hle
  refine ⟨_, F, rfl, fun q hq => .inl (by simp [hq]), fun q hq => Nat.lt_of_lt_of_le (hlt q hq) k5.size, ⟨(hb.next k1 k5).to hF, h1, h2⟩, ⟨g, match v'.ownBlock with | some q => [q] | none => [], rfl, fun q hq => ?_, ⟨k2.to fun q hq => by rw [hq]; simp, Nat.le_of_eq hcl.symm, by show (x.L.take (leftN x.L.length x.s keep)).length ≤ 100; omega⟩⟩, ⟨k5.os, k5.tape, k5.output, k5.size, fun k hk hn => k5.block k hk (fun e => hn (by cases e; simp))⟩⟩
  have hq2 : w.heap.size ≤ q ∧ q < w'.heap.size := by
    rcases List.mem_cons.1 hq with rfl | hq
    · exact ⟨k3, k2.blk.lt⟩
    · cases hv : v'.ownBlock with
      | none => rw [hv] at hq; cases hq
      | some q' =>
        rw [hv] at hq
        simp at hq; subst hq
        refine ⟨k4 _ hv, ?_⟩
        rcases k2.own.2 with ⟨e1, _⟩ | ⟨q2, cap, cur, e1, _, h5, _⟩ <;> rw [e1] at hv <;> cases hv
        exact (Array.getElem?_eq_some_iff.1 h5).1
  exact ⟨hq2.1, hq2.2, fun hm => by have := hlt q hm; omega⟩
set_option maxRecDepth 100000 in
theorem new_walk (w : World) : Calls Try.prog 12 #[] w fun x w' => x = .returned (.pointer (some ⟨w.heap.size, 0, none⟩)) ∧ w' = w.alloc (.cells (BC 0 (.slice none 0 0) 0 0) 63) := by
  go_enter Try.func12, Try.ntmps12
  go_wp2
  go_ret
  exact ⟨rfl, rfl⟩
theorem newB_ok : FnO 12 [] (.ob (bkP ⟨[], 0, 0⟩)) := by
  intro S w vs hG ha
  obtain rfl := args0 ha
  refine (new_walk w).mono ?_
  rintro x w' ⟨rfl, rfl⟩
  refine ⟨_, rfl, ⟨w.heap.size, [], rfl, fun q hq => ?_, ⟨BookW.to (t := 63) (v := .slice none 0 0) ⟨Blk.newAt _ _ rfl, ⟨rfl, .inl ⟨rfl, rfl⟩⟩, by simp [Value.ownBlock], by simp⟩ (by simp [Value.ownBlock]), by simp, by simp⟩⟩, (Below.refl _ _).alloc (Nat.le_refl _) _⟩
  obtain rfl : q = w.heap.size := by simpa using hq
  exact ⟨Nat.le_refl _, by rw [size_alloc]; omega⟩
end Go.Proofs.Ytcfdlffjghlghaa
