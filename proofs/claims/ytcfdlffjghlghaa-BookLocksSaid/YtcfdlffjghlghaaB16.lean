/-
  Books: once it stays an epoch's paper is never another one.
-/
import Derived.Test.YtcfdlffjghlghaaB15
namespace Go.Proofs.Ytcfdlffjghlghaa
set_option maxRecDepth 100000
set_option pp.deepTerms true
set_option pp.maxSteps 1000000
open Go.RowKit
set_option linter.unusedVariables false
set_option linter.unusedSimpArgs false
attribute [local irreducible] condK LoopA regA

/-- an act: its kind, its epoch, its paper -/
abbrev Ac := Int × Int × List UInt8
def acF (a : Ac) : List Seg := [.ints .i64 2 [a.1, a.2.1], .bytes 32 a.2.2]
def stepX (a : Ac) (x : BS) : BS := if a.1 = 1 then writeB x a.2.1 a.2.2 else if a.1 = 2 then flushB x else crashB x a.2.1
def locX (e : Int) (p : List UInt8) (g : Nat → Ac) : Nat → BS
  | 0 => flushB (writeB ⟨[], 0, 0⟩ e p)
  | j + 1 => stepX (g j) (locX e p g j)
/-- an epoch's line stays, and is its only one -/
structure InvB (e : Int) (p : List UInt8) (x : BS) : Prop where
  m : (e, p) ∈ x.L.take x.s
  u : ∀ y ∈ x.L, y.1 = e → y = (e, p)
  s : x.s ≤ x.L.length
theorem InvB.has {e : Int} {p : List UInt8} {x : BS} (h : InvB e p x) : hasV x.L e = true ∧ getV x.L e = p := by
  have hm : (e, p) ∈ x.L := List.mem_of_mem_take h.m
  exact ⟨(hasV_iff _ _).2 ⟨_, hm, rfl⟩, getV_of hm rfl h.u⟩
theorem inv_write {e : Int} {p : List UInt8} {x : BS} (h : InvB e p x) (e2 : Int) (q : List UInt8) : InvB e p (writeB x e2 q) := by
  by_cases c1 : e2 < 0 ∨ e2 > 1099511627776
  · rw [(write_arg_ c1).2]; exact h
  cases c2 : hasV x.L e2 with
  | true => rw [(write_has (by omega) (by omega) c2).2]; exact h
  | false =>
    by_cases c3 : 100 ≤ x.L.length
    · rw [(write_all (by omega) (by omega) c2 c3).2]; exact h
    · rw [(write_no (by omega) (by omega) c2 (by omega)).2]
      have hne : e2 ≠ e := fun e1 => by rw [e1, h.has.1] at c2; cases c2
      refine ⟨?_, fun y hy he => ?_, by simp; have := h.s; omega⟩
      · show (e, p) ∈ (x.L ++ [(e2, q)]).take x.s
        rw [List.take_append_of_le_length h.s]; exact h.m
      · rcases List.mem_append.1 hy with hy | hy
        · exact h.u y hy he
        · rcases List.mem_cons.1 hy with rfl | hy
          · exact (hne he).elim
          · cases hy
theorem inv_flush {e : Int} {p : List UInt8} {x : BS} (h : InvB e p x) : InvB e p (flushB x) := by
  refine ⟨?_, h.u, Nat.le_refl _⟩
  show (e, p) ∈ x.L.take x.L.length
  rw [List.take_length]; exact List.mem_of_mem_take h.m
theorem inv_crash {e : Int} {p : List UInt8} {x : BS} (h : InvB e p x) (k : Int) : InvB e p (crashB x k) := by
  have hle : x.s ≤ leftN x.L.length x.s k := by unfold leftN; omega
  have hle2 := leftN_le h.s k
  have hl : (x.L.take (leftN x.L.length x.s k)).length = leftN x.L.length x.s k := by rw [List.length_take]; exact Nat.min_eq_left hle2
  refine ⟨?_, fun y hy he => h.u y (List.mem_of_mem_take hy) he, Nat.le_of_eq hl.symm⟩
  show (e, p) ∈ (x.L.take (leftN x.L.length x.s k)).take (leftN x.L.length x.s k)
  rw [List.take_take, Nat.min_self]
  have e1 : x.L.take x.s = (x.L.take (leftN x.L.length x.s k)).take x.s := by rw [List.take_take, Nat.min_eq_left hle]
  have := h.m
  rw [e1] at this
  exact List.mem_of_mem_take this
theorem inv_loc {e : Int} (h0 : 0 ≤ e) (h1 : e ≤ 1099511627776) (p : List UInt8) (g : Nat → Ac) : ∀ j, InvB e p (locX e p g j)
  | 0 => by
    have hw : writeB ⟨[], 0, 0⟩ e p = ⟨[(e, p)], 0, 0⟩ := (write_no (x := ⟨[], 0, 0⟩) h0 h1 (hasV_not (by simp)) (by simp)).2
    show InvB e p (flushB (writeB ⟨[], 0, 0⟩ e p))
    rw [hw]
    exact ⟨by simp [flushB], by simp [flushB], by simp [flushB]⟩
  | j + 1 => by
    have ih := inv_loc h0 h1 p g j
    show InvB e p (stepX (g j) (locX e p g j))
    unfold stepX
    split
    · exact inv_write ih _ _
    · split
      · exact inv_flush ih
      · exact inv_crash ih _
theorem writeB_f (x : BS) (e : Int) (p : List UInt8) : (writeB x e p).f = x.f := by
  unfold writeB; split; rfl; split; rfl; split <;> rfl
theorem loc_f (e : Int) (p : List UInt8) (g : Nat → Ac) : ∀ j, (locX e p g j).f ≤ j + 1
  | 0 => by show (writeB ⟨[], 0, 0⟩ e p).f + 1 ≤ 1; rw [writeB_f]; exact Nat.le_refl _
  | j + 1 => by
    have ih := loc_f e p g j
    show (stepX (g j) (locX e p g j)).f ≤ j + 1 + 1
    unfold stepX
    split
    · rw [writeB_f]; omega
    · split
      · show (locX e p g j).f + 1 ≤ _; omega
      · exact Nat.zero_le _
theorem lock_e {e : Int} (h0 : 0 ≤ e) (h1 : e ≤ 1099511627776) {p : List UInt8} {x : BS} (h : InvB e p x) (q : List UInt8) : (!((writeE x e q == 0) == eqSegs [.bytes 32 q] [.bytes 32 p])) = false := by
  obtain ⟨k1, k2⟩ := h.has
  rw [(write_has (p := q) h0 h1 k1).1, k2]
  by_cases hq : q = p
  · subst hq; simp [eqSegs]
  · have : (p == q) = false := by simpa using fun e => hq e.symm
    simp [eqSegs, this, hq]
set_option maxHeartbeats 2000000 in
theorem bookLocks_ok (e : Int) (p : List UInt8) (hp : p.length = 32) (n : Nat) (g : Nat → Ac) (hn : n ≤ 140737488351232) (hg : ∀ j, j < n → -9223372036854775808 ≤ (g j).2.1 ∧ (g j).2.1 ≤ 9223372036854775807) :
    FnO 4 [.v (.int .i64 e), .agg [.bytes 32 p], .recs n 34 fun j => acF (g j)] (.d (.v (.bool true))) := by
  refine fnA (E := envB8) Try.func4 Try.ntmps4 ?_
  by_cases h0 : e < 0
  · refine agow ?_; (try with_reducible exact True.intro)
  by_cases h1 : e > 1099511627776
  · refine agow ?_; (try with_reducible exact True.intro)
  by_cases h2 : (n : Int) > 10000
  · refine agow ?_; (try with_reducible exact True.intro)
  have hw0 : writeE ⟨[], 0, 0⟩ e p = 0 := (write_no (x := ⟨[], 0, 0⟩) (by omega) (by omega) (hasV_not (by simp)) (by simp)).1
  have hf0 : (writeB ⟨[], 0, 0⟩ e p).f ≤ 1000 := by rw [writeB_f]; exact Nat.zero_le _
  refine agow ?_; (try with_reducible exact True.intro)
  have hN : min n 120 ≤ n ∧ min n 120 ≤ 120 := by omega
  refine StopL.mk (loop_forG [0, 2, 4, 6, 7, 8] [0, 1] (min n 120) (fun j => ⟨[.d (.v (.int .i64 e)), .dead, .d (.recs n 34 fun j => acF (g j)), .dead, .ptr 0 0, .dead, .d (.v (.bool false)), .ob 1, .d (.v (.int .i64 (j : Nat))), .dead, .dead, .dead, .dead, .dead, .dead, .dead, .dead, .dead, .dead, .dead, .dead, .dead, .dead, .dead, .dead, .dead, .dead, .dead, .dead, .dead, .dead, .dead, .dead, .dead, .dead, .dead, .dead, .dead, .dead, .dead, .dead, .dead, .dead, .dead, .dead, .dead, .dead, .dead, .dead, .dead, .dead, .dead, .dead, .dead, .dead, .dead, .dead, .dead, .dead, .dead, .dead, .dead, .dead, .dead, .dead, .dead, .dead, .dead, .dead, .dead, .dead, .dead, .dead, .dead, .dead, .dead, .dead, .dead, .dead, .dead, .dead, .dead, .dead, .dead, .dead, .dead, .dead, .dead, .dead, .dead, .dead, .dead, .dead, .dead, .dead, .dead, .dead, .dead, .dead, .dead, .dead, .dead, .dead, .dead, .dead, .dead, .dead, .dead, .dead, .dead, .dead, .dead, .dead, .dead, .dead, .dead], [some (.var [.bytes 32 p]), some (.abs (bkP (locX e p g j)))]⟩) ?_)
  intro j hj hl
  clear hw0 hf0
  have hJ := inv_loc (e := e) (by omega) (by omega) p g j
  have hf := loc_f e p g j
  by_cases h : j < min n 120
  · have h4 : (j : Int) < (n : Int) := by omega
    have h5 : (j : Int) < 120 := by omega
    have hk := hg j (by omega)
    have hff : (locX e p g j).f ≤ 1000 := by omega
    clear hf hg hN
    by_cases k1 : (g j).1 = 1
    · have e1 : ((g j).1 == 1) = true := by simpa using k1
      have hs : locX e p g (j + 1) = writeB (locX e p g j) (g j).2.1 (g j).2.2 := if_pos k1
      have hI : InvB e p (writeB (locX e p g j) (g j).2.1 (g j).2.2) := inv_write hJ _ _
      have hv : hasV (writeB (locX e p g j) (g j).2.1 (g j).2.2).L e = true := hI.has.1
      have gv : (!eqSegs [.bytes 32 (getV (writeB (locX e p g j) (g j).2.1 (g j).2.2).L e)] [.bytes 32 p]) = false := by rw [hI.has.2]; simp [eqSegs]
      clear hI
      by_cases k2 : (g j).2.1 = e
      · have e2 : ((g j).2.1 == e) = true := by simpa using k2
        have hlk : (!((writeE (locX e p g j) (g j).2.1 (g j).2.2 == 0) == eqSegs [.bytes 32 (g j).2.2] [.bytes 32 p])) = false := by rw [k2]; exact lock_e (by omega) (by omega) hJ _
        clear k1 k2 hJ
        refine agow ?_; (try with_reducible exact True.intro)
        refine hl.go h [0, 2, 4, 6, 7, 8] [0, 1] ?_
        rw [hs]; rfl
      · have e2 : ((g j).2.1 == e) = false := by simpa using k2
        clear k1 k2 hJ
        refine agow ?_; (try with_reducible exact True.intro)
        refine hl.go h [0, 2, 4, 6, 7, 8] [0, 1] ?_
        rw [hs]; rfl
    · have e1 : ((g j).1 == 1) = false := by simpa using k1
      by_cases k2 : (g j).1 = 2
      · have e2 : ((g j).1 == 2) = true := by simpa using k2
        have hs : locX e p g (j + 1) = flushB (locX e p g j) := (if_neg k1).trans (if_pos k2)
        have hI : InvB e p (flushB (locX e p g j)) := inv_flush hJ
        have hv : hasV (flushB (locX e p g j)).L e = true := hI.has.1
        have gv : (!eqSegs [.bytes 32 (getV (flushB (locX e p g j)).L e)] [.bytes 32 p]) = false := by rw [hI.has.2]; simp [eqSegs]
        clear hI
        clear k1 k2 hJ
        refine agow ?_; (try with_reducible exact True.intro)
        refine hl.go h [0, 2, 4, 6, 7, 8] [0, 1] ?_
        rw [hs]; rfl
      · have e2 : ((g j).1 == 2) = false := by simpa using k2
        have hs : locX e p g (j + 1) = crashB (locX e p g j) (g j).2.1 := (if_neg k1).trans (if_neg k2)
        have hI : InvB e p (crashB (locX e p g j) (g j).2.1) := inv_crash hJ _
        have hv : hasV (crashB (locX e p g j) (g j).2.1).L e = true := hI.has.1
        have gv : (!eqSegs [.bytes 32 (getV (crashB (locX e p g j) (g j).2.1).L e)] [.bytes 32 p]) = false := by rw [hI.has.2]; simp [eqSegs]
        clear hI
        clear k1 k2 hJ
        refine agow ?_; (try with_reducible exact True.intro)
        refine hl.go h [0, 2, 4, 6, 7, 8] [0, 2] ?_
        rw [hs]; rfl
  · obtain rfl : j = min n 120 := by omega
    have hx : ¬ ((min n 120 : Nat) : Int) < (n : Int) ∨ (((min n 120 : Nat) : Int) < (n : Int) ∧ ¬ ((min n 120 : Nat) : Int) < 120) := by omega
    clear hf hg
    rcases hx with hx | ⟨hx, hy⟩
    · refine agow ?_; (try with_reducible exact True.intro)
    · refine agow ?_; (try with_reducible exact True.intro)
theorem act_cells {w : World} (cs : List Value) (h : cs.map cellKind = (List.replicate 2 (some IntKind.i64) ++ List.replicate 32 (some IntKind.u8)).map some) (hw : ∀ u ∈ cs, wfV u) : ∃ a : Ac, (-9223372036854775808 ≤ a.2.1 ∧ a.2.1 ≤ 9223372036854775807) ∧ RL (fun _ => True) w (acF a) cs := by
  obtain ⟨c, d, rfl, k1, k2, k3, k4⟩ := kinds_split h hw
  obtain ⟨zs, rfl, l1, b1⟩ := kinds_ints k1 k3
  obtain ⟨bs, rfl, l2⟩ := kinds_bytes k2 k4
  match zs, l1, b1 with
  | [x, y], _, b1 =>
    exact ⟨(x, y, bs), wf_i64 (b1 y (by simp)), RL.append (.ofInts (k := .i64) (n := 2) (zs := [x, y]) rfl rfl) (.ofBytes l2 rfl)⟩
theorem open_acts {H : Type} {enc : TypeId × Value → H} {w : World} {base b0 : Nat} {held : Bool} {r : Reach} {v : Value} {d : DataW H} {ps : List MemPlace}
    (hval : Value.okWide Try.prog w r b0 22 v) (h : DataW.Trod enc Try.prog w base (fun _ => true) held 22 v d ps) (hlt : ∀ n ∈ d.weights Try.prog 22, n ≤ 140737488351232) :
    ∃ (n : Nat) (g : Nat → Ac), n ≤ 140737488351232 ∧ (∀ j, j < n → -9223372036854775808 ≤ (g j).2.1 ∧ (g j).2.1 ≤ 9223372036854775807) ∧ RA (fun _ => True) w (.recs n 34 fun j => acF (g j)) v :=
  open_recs (P := Try.prog) (e := 32) (s := List.replicate 2 (some IntKind.i64) ++ List.replicate 32 (some IntKind.u8)) (B := 48) Try.underlying22 (by kernel_rfl) (by simp) (by kernel_rfl) (by omega) acF (fun a => -9223372036854775808 ≤ a.2.1 ∧ a.2.1 ≤ 9223372036854775807) act_cells hval h hlt
theorem bookLocks_walk {w : World} (e : Int) (he : (Lit.int .i64 e).wf = true) (h : List UInt8) (hh : h.length = 32) (v : Value) (n : Nat) (g : Nat → Ac) (hn : n ≤ 140737488351232) (hg : ∀ j, j < n → -9223372036854775808 ≤ (g j).2.1 ∧ (g j).2.1 ≤ 9223372036854775807) (hv : RA (fun _ => True) w (.recs n 34 fun j => acF (g j)) v) :
    Calls Try.prog 4 #[.int .i64 e, HV h, v] w fun e w' => e = .returned (.bool true) ∧ Below w.heap.size w w' :=
  law_of_fn (bookLocks_ok e h hh n g hn hg) gok_none11 (.cons (.v _) (.cons (ra_hash32 hh) (.cons hv .nil)))
end Go.Proofs.Ytcfdlffjghlghaa
