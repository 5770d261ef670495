/-
  Books: laws of many lines.
-/
import Derived.Test.YtcfdlffjghlghaaB12
namespace Go.Proofs.Ytcfdlffjghlghaa
set_option maxRecDepth 100000
set_option pp.deepTerms true
set_option pp.maxSteps 1000000
open Go.RowKit
set_option linter.unusedVariables false
set_option linter.unusedSimpArgs false
attribute [local irreducible] condK LoopA regA

/-- lines, one behind the other -/
def lnsX (g : Nat → Ln) (n : Nat) : List Ln := (List.range n).map g
theorem lns_len (g : Nat → Ln) (n : Nat) : (lnsX g n).length = n := by simp [lnsX]
theorem lns_succ (g : Nat → Ln) (n : Nat) : lnsX g (n + 1) = lnsX g n ++ [g n] := by simp [lnsX, List.range_succ]
theorem lns_mem {g : Nat → Ln} {n : Nat} {x : Ln} (h : x ∈ lnsX g n) : ∃ i, i < n ∧ x = g i := by
  obtain ⟨i, h1, rfl⟩ := List.mem_map.1 h
  exact ⟨i, List.mem_range.1 h1, rfl⟩
theorem lns_no {g : Nat → Ln} {n : Nat} {e : Int} (h : ∀ i, i < n → (g i).1 ≠ e) : hasV (lnsX g n) e = false := hasV_not fun x hx => by
  obtain ⟨i, h1, rfl⟩ := lns_mem hx
  exact h i h1
theorem lns_at {g : Nat → Ln} {n i : Nat} (hi : i < n) (h : ∀ j, j < n → (g j).1 = (g i).1 → j = i) : hasV (lnsX g n) (g i).1 = true ∧ getV (lnsX g n) (g i).1 = (g i).2 := by
  have hm : g i ∈ lnsX g n := List.mem_map.2 ⟨i, List.mem_range.2 hi, rfl⟩
  refine ⟨(hasV_iff _ _).2 ⟨g i, hm, rfl⟩, getV_of hm rfl fun y hy he => ?_⟩
  obtain ⟨j, h1, rfl⟩ := lns_mem hy
  rw [h j h1 he]
theorem lns_take (g : Nat → Ln) (n m : Nat) (h : m ≤ n) : (lnsX g n).take m = lnsX g m := by
  unfold lnsX
  rw [← List.map_take, List.take_range, Nat.min_eq_left h]
def H1 : List UInt8 := [UInt8.ofNat 1, 0, 0, 0, 0, 0, 0, 0, 0, 0, 0, 0, 0, 0, 0, 0, 0, 0, 0, 0, 0, 0, 0, 0, 0, 0, 0, 0, 0, 0, 0, 0]
/-- one line, flushed so often -/
def manyX (j : Nat) : BS := ⟨[(1, H1)], if j = 0 then 0 else 1, j⟩
theorem many_s (j : Nat) : flushB (manyX j) = manyX (j + 1) := by simp [flushB, manyX]
theorem many_left (j : Nat) (keep : Int) : ((crashB (manyX j) keep).L.length : Int) = if j = 0 ∧ keep < 1 then 0 else 1 := by
  show (((([((1 : Int), H1)] : List Ln).take (leftN 1 (if j = 0 then 0 else 1) keep)).length : Nat) : Int) = _
  rw [List.length_take]
  simp only [List.length_cons, List.length_nil]
  unfold leftN
  by_cases hj : j = 0
  · subst hj
    by_cases hk : keep < 1
    · simp only [hk, and_self, if_true]; omega
    · simp only [hk, and_false, if_true, if_false]; omega
  · simp only [hj, false_and, if_false]; omega
set_option maxHeartbeats 1000000 in
theorem bookMany_ok (n keep : Int) (hk : -9223372036854775808 ≤ keep ∧ keep ≤ 9223372036854775807) : FnO 7 [.v (.int .i64 n), .v (.int .i64 keep)] (.d (.v (.bool true))) := by
  refine fnA (E := envB8) Try.func7 Try.ntmps7 ?_
  by_cases h0 : n < 0
  · refine agow ?_; (try with_reducible exact True.intro)
  by_cases h1 : n > 30
  · refine agow ?_; (try with_reducible exact True.intro)
  refine agow ?_; (try with_reducible exact True.intro)
  obtain ⟨N, rfl⟩ : ∃ N : Nat, n = (N : Nat) := ⟨n.toNat, by omega⟩
  refine StopL.mk (loop_forG [0, 1, 4, 5, 6] [0] N (fun j => ⟨[.d (.v (.int .i64 N)), .d (.v (.int .i64 keep)), .dead, .dead, .d (.v (.bool false)), .ob 0, .d (.v (.int .i64 (j : Nat))), .dead, .dead, .dead, .dead, .dead, .dead, .dead, .dead, .dead, .dead, .dead, .dead, .dead, .dead, .dead, .dead, .dead, .dead, .dead, .dead, .dead, .dead, .dead, .dead, .dead, .dead, .dead, .dead, .dead, .dead, .dead, .dead, .dead, .dead, .dead, .dead, .dead, .dead, .dead, .dead, .dead, .dead, .dead, .dead, .dead, .dead, .dead, .dead, .dead, .dead, .dead, .dead, .dead, .dead, .dead, .dead, .dead, .dead, .dead, .dead], [some (.abs (bkP (manyX j)))]⟩) ?_)
  intro j hj hl
  have hf : (manyX j).f ≤ 1000 := by show j ≤ 1000; omega
  by_cases h : j < N
  · have h4 : (j : Int) < (N : Int) := by omega
    refine agow ?_; (try with_reducible exact True.intro)
    refine hl.go h [0, 1, 4, 5, 6] [0] ?_
    rw [← many_s j]
    rfl
  · obtain rfl : j = N := by omega
    have h4 : ¬ (j : Int) < (j : Int) := by omega
    have h5 : ((manyX j).f : Int) = (j : Int) := rfl
    have h6 : ((manyX j).L.length : Int) = 1 := rfl
    have h7 : (crashB (manyX j) keep).f = 0 := rfl
    have h8 := many_left j keep
    by_cases c1 : j = 0
    · by_cases c2 : keep < 1
      · rw [if_pos ⟨c1, c2⟩] at h8
        subst c1
        clear h0 h1 hj h
        refine agow ?_; (try with_reducible exact True.intro)
      · rw [if_neg (fun h => c2 h.2)] at h8
        subst c1
        clear h0 h1 hj h
        refine agow ?_; (try with_reducible exact True.intro)
    · rw [if_neg (fun h => c1 h.1)] at h8
      have c3 : ¬ (j : Int) = 0 := by omega
      clear h0 h1 hj h c1
      refine agow ?_; (try with_reducible exact True.intro)
/-- every other epoch -/
def fullG (i : Nat) : Ln := (2 * (i : Int), H1)
def fullX (j : Nat) : BS := ⟨lnsX fullG (min j 100), 0, 0⟩
theorem full_no (j : Nat) (m : Nat) (h : m ≤ j) : hasV (lnsX fullG m) (2 * (j : Int)) = false := lns_no fun i hi => by show 2 * (i : Int) ≠ 2 * (j : Int); omega
theorem full_lt {j : Nat} (h : j < 100) : writeE (fullX j) (2 * (j : Int)) H1 = 0 ∧ writeB (fullX j) (2 * (j : Int)) H1 = fullX (j + 1) := by
  obtain ⟨k1, k2⟩ := write_no (x := fullX j) (e := 2 * (j : Int)) (p := H1) (by omega) (by omega) (full_no j _ (by omega)) (by show (lnsX fullG (min j 100)).length < 100; rw [lns_len]; omega)
  refine ⟨k1, k2.trans ?_⟩
  show (⟨lnsX fullG (min j 100) ++ [(2 * (j : Int), H1)], 0, 0⟩ : BS) = ⟨lnsX fullG (min (j + 1) 100), 0, 0⟩
  rw [show min (j + 1) 100 = j + 1 by omega, lns_succ, show min j 100 = j by omega]; rfl
theorem full_ge {j : Nat} (h : 100 ≤ j) (h2 : j ≤ 1000) : writeE (fullX j) (2 * (j : Int)) H1 = 12 ∧ writeB (fullX j) (2 * (j : Int)) H1 = fullX (j + 1) := by
  obtain ⟨k1, k2⟩ := write_all (x := fullX j) (e := 2 * (j : Int)) (p := H1) (by omega) (by omega) (full_no j _ (by omega)) (by show 100 ≤ (lnsX fullG (min j 100)).length; rw [lns_len]; omega)
  refine ⟨k1, k2.trans ?_⟩
  show (⟨lnsX fullG (min j 100), 0, 0⟩ : BS) = ⟨lnsX fullG (min (j + 1) 100), 0, 0⟩
  rw [show min (j + 1) 100 = 100 by omega, show min j 100 = 100 by omega]
set_option maxHeartbeats 1000000 in
theorem bookFull_ok (n : Int) : FnO 6 [.v (.int .i64 n)] (.d (.v (.bool true))) := by
  refine fnA (E := envB8) Try.func6 Try.ntmps6 ?_
  by_cases h0 : n < 0
  · refine agow ?_; (try with_reducible exact True.intro)
  by_cases h1 : n > 130
  · refine agow ?_; (try with_reducible exact True.intro)
  refine agow ?_; (try with_reducible exact True.intro)
  obtain ⟨N, rfl⟩ : ∃ N : Nat, n = (N : Nat) := ⟨n.toNat, by omega⟩
  refine StopL.mk (loop_forG [0, 2, 3, 4] [0] N (fun j => ⟨[.d (.v (.int .i64 N)), .dead, .d (.v (.bool false)), .ob 0, .d (.v (.int .i64 (j : Nat))), .dead, .dead, .dead, .dead, .dead, .dead, .dead, .dead, .dead, .dead, .dead, .dead, .dead, .dead, .dead, .dead, .dead, .dead, .dead, .dead, .dead, .dead, .dead, .dead, .dead, .dead, .dead, .dead, .dead, .dead, .dead, .dead, .dead, .dead, .dead, .dead, .dead, .dead, .dead, .dead, .dead, .dead, .dead, .dead, .dead, .dead, .dead, .dead, .dead, .dead, .dead, .dead, .dead], [some (.abs (bkP (fullX j)))]⟩) ?_)
  intro j hj hl
  by_cases h : j < N
  · have h4 : (j : Int) < (N : Int) := by omega
    by_cases h5 : j < 100
    · have h6 : (j : Int) < 100 := by omega
      have h7 : writeE (fullX j) (2 * (j : Int)) [UInt8.ofNat 1, 0, 0, 0, 0, 0, 0, 0, 0, 0, 0, 0, 0, 0, 0, 0, 0, 0, 0, 0, 0, 0, 0, 0, 0, 0, 0, 0, 0, 0, 0, 0] = 0 := (full_lt h5).1
      refine agow ?_; (try with_reducible exact True.intro)
      refine hl.go h [0, 2, 3, 4] [0] ?_
      rw [← (full_lt h5).2]
      rfl
    · have h6 : ¬ (j : Int) < 100 := by omega
      have h7 : writeE (fullX j) (2 * (j : Int)) [UInt8.ofNat 1, 0, 0, 0, 0, 0, 0, 0, 0, 0, 0, 0, 0, 0, 0, 0, 0, 0, 0, 0, 0, 0, 0, 0, 0, 0, 0, 0, 0, 0, 0, 0] = 12 := (full_ge (by omega) (by omega)).1
      have h8 : (!((writeE (fullX j) (2 * (j : Int)) [UInt8.ofNat 1, 0, 0, 0, 0, 0, 0, 0, 0, 0, 0, 0, 0, 0, 0, 0, 0, 0, 0, 0, 0, 0, 0, 0, 0, 0, 0, 0, 0, 0, 0, 0] == 0) == decide ((j : Int) < 100))) = false := by rw [h7, decide_eq_false h6]; rfl
      have h9 : (writeE (fullX j) (2 * (j : Int)) [UInt8.ofNat 1, 0, 0, 0, 0, 0, 0, 0, 0, 0, 0, 0, 0, 0, 0, 0, 0, 0, 0, 0, 0, 0, 0, 0, 0, 0, 0, 0, 0, 0, 0, 0] != 0) = true := by rw [h7]; rfl
      have h10 : (writeE (fullX j) (2 * (j : Int)) [UInt8.ofNat 1, 0, 0, 0, 0, 0, 0, 0, 0, 0, 0, 0, 0, 0, 0, 0, 0, 0, 0, 0, 0, 0, 0, 0, 0, 0, 0, 0, 0, 0, 0, 0] != 12) = false := by rw [h7]; rfl
      clear h6 h7
      refine agow ?_; (try with_reducible exact True.intro)
      refine hl.go h [0, 2, 3, 4] [0] ?_
      rw [← (full_ge (j := j) (by omega) (by omega)).2]
      rfl
  · obtain rfl : j = N := by omega
    have h4 : ¬ (j : Int) < (j : Int) := by omega
    have h5 : (((fullX j).L.length : Int) == if (100 : Int) < (j : Int) then 100 else (j : Int)) = true := by
      have : (fullX j).L.length = min j 100 := lns_len _ _
      rw [this, beq_iff_eq]; split <;> omega
    have h6 : (writeE (fullX j) (-1) [0, 0, 0, 0, 0, 0, 0, 0, 0, 0, 0, 0, 0, 0, 0, 0, 0, 0, 0, 0, 0, 0, 0, 0, 0, 0, 0, 0, 0, 0, 0, 0] == 1) = true := by rw [(write_arg_ (by omega)).1]; rfl
    have h7 : (writeE (writeB (fullX j) (-1) [0, 0, 0, 0, 0, 0, 0, 0, 0, 0, 0, 0, 0, 0, 0, 0, 0, 0, 0, 0, 0, 0, 0, 0, 0, 0, 0, 0, 0, 0, 0, 0]) 1099511627777 [0, 0, 0, 0, 0, 0, 0, 0, 0, 0, 0, 0, 0, 0, 0, 0, 0, 0, 0, 0, 0, 0, 0, 0, 0, 0, 0, 0, 0, 0, 0, 0] == 1) = true := by rw [(write_arg_ (by omega)).1]; rfl
    clear h0 h1 hj h
    refine agow ?_; (try with_reducible exact True.intro)
theorem u8b (z : Int) : 0 ≤ IntKind.u8.wrap z ∧ IntKind.u8.wrap z < 256 := by rw [IntKind.wrap_u8]; omega
def byteH (i : Nat) : List UInt8 := [UInt8.ofNat (IntKind.u8.wrap (i : Int)).toNat, 0, 0, 0, 0, 0, 0, 0, 0, 0, 0, 0, 0, 0, 0, 0, 0, 0, 0, 0, 0, 0, 0, 0, 0, 0, 0, 0, 0, 0, 0, 0]
def orderG (i : Nat) : Ln := (100 - (i : Int), byteH i)
def orderX (j : Nat) : BS := ⟨lnsX orderG j, 0, 0⟩
theorem order_w {j : Nat} (h : j ≤ 30) : writeE (orderX j) (100 - (j : Int)) (byteH j) = 0 ∧ writeB (orderX j) (100 - (j : Int)) (byteH j) = orderX (j + 1) := by
  obtain ⟨k1, k2⟩ := write_no (x := orderX j) (e := 100 - (j : Int)) (p := byteH j) (by omega) (by omega) (lns_no fun i hi => by show 100 - (i : Int) ≠ 100 - (j : Int); omega) (by show (lnsX orderG j).length < 100; rw [lns_len]; omega)
  refine ⟨k1, k2.trans ?_⟩
  show (⟨lnsX orderG j ++ [(100 - (j : Int), byteH j)], 0, 0⟩ : BS) = ⟨lnsX orderG (j + 1), 0, 0⟩
  rw [lns_succ]; rfl
theorem order_c (N : Nat) (k : Nat) : (crashB (orderX N) (k : Int)).L = lnsX orderG (min k N) := by
  show (lnsX orderG N).take (leftN (lnsX orderG N).length 0 (k : Int)) = _
  rw [lns_len, lns_take _ _ _ (leftN_le (Nat.zero_le _) _)]
  congr 1
  unfold leftN; omega
theorem order_has (m i : Nat) (h : i < m) : hasV (lnsX orderG m) (100 - (i : Int)) = true ∧ getV (lnsX orderG m) (100 - (i : Int)) = byteH i := lns_at (g := orderG) h fun j _ he => by
  have : 100 - (j : Int) = 100 - (i : Int) := he
  omega
set_option maxHeartbeats 1000000 in
theorem bookOrder_ok (n keep : Int) : FnO 9 [.v (.int .i64 n), .v (.int .i64 keep)] (.d (.v (.bool true))) := by
  refine fnA (E := envB8) Try.func9 Try.ntmps9 ?_
  by_cases h0 : n < 0
  · refine agow ?_; (try with_reducible exact True.intro)
  by_cases h1 : n > 30
  · refine agow ?_; (try with_reducible exact True.intro)
  by_cases h2 : keep < 0
  · refine agow ?_; (try with_reducible exact True.intro)
  by_cases h3 : keep > 40
  · refine agow ?_; (try with_reducible exact True.intro)
  refine agow ?_; (try with_reducible exact True.intro)
  obtain ⟨N, rfl⟩ : ∃ N : Nat, n = (N : Nat) := ⟨n.toNat, by omega⟩
  obtain ⟨k, rfl⟩ : ∃ k : Nat, keep = (k : Nat) := ⟨keep.toNat, by omega⟩
  refine StopL.mk (loop_forG [0, 1, 4, 5, 6] [0] N (fun j => ⟨[.d (.v (.int .i64 N)), .d (.v (.int .i64 k)), .dead, .dead, .d (.v (.bool false)), .ob 0, .d (.v (.int .i64 (j : Nat))), .dead, .dead, .dead, .dead, .dead, .dead, .dead, .dead, .dead, .dead, .dead, .dead, .dead, .dead, .dead, .dead, .dead, .dead, .dead, .dead, .dead, .dead, .dead, .dead, .dead, .dead, .dead, .dead, .dead, .dead, .dead, .dead, .dead, .dead, .dead, .dead, .dead, .dead, .dead, .dead, .dead, .dead, .dead, .dead, .dead, .dead, .dead, .dead, .dead, .dead, .dead, .dead, .dead, .dead, .dead, .dead, .dead, .dead, .dead, .dead, .dead, .dead, .dead, .dead, .dead, .dead], [some (.abs (bkP (orderX j)))]⟩) ?_)
  intro j hj hl
  by_cases h : j < N
  · have h4 : (j : Int) < (N : Int) := by omega
    obtain ⟨b1, b2⟩ := u8b (j : Int)
    refine agow ?_; (try with_reducible exact True.intro)
    refine hl.go h [0, 1, 4, 5, 6] [0] ?_
    rw [← (order_w (j := j) (by omega)).2]
    rfl
  · obtain rfl : j = N := by omega
    have h4 : ¬ (j : Int) < (j : Int) := by omega
    have hlc := order_c j k
    refine agow ?_; (try with_reducible exact True.intro)
    refine StopL.mk (loop_forG [0, 1, 4, 7, 8] [0, 1] j (fun i => ⟨[.d (.v (.int .i64 j)), .d (.v (.int .i64 k)), .dead, .dead, .d (.v (.bool false)), .dead, .dead, .ob 1, .d (.v (.int .i64 (i : Nat))), .dead, .dead, .dead, .dead, .dead, .dead, .dead, .dead, .dead, .dead, .dead, .dead, .dead, .dead, .dead, .dead, .dead, .dead, .dead, .dead, .dead, .dead, .dead, .dead, .dead, .dead, .dead, .dead, .dead, .dead, .dead, .dead, .dead, .dead, .dead, .dead, .dead, .dead, .dead, .dead, .dead, .dead, .dead, .dead, .dead, .dead, .dead, .dead, .dead, .dead, .dead, .dead, .dead, .dead, .dead, .dead, .dead, .dead, .dead, .dead, .dead, .dead, .dead, .dead], [some (.abs (bkP (orderX j))), some (.abs (bkP (crashB (orderX j) k)))]⟩) ?_)
    intro i hi hl2
    by_cases hq : i < j
    · have h5 : (i : Int) < (j : Int) := by omega
      obtain ⟨b1, b2⟩ := u8b (i : Int)
      by_cases hk : i < k
      · have h6 : (i : Int) < (k : Int) := by omega
        obtain ⟨g1, g2⟩ := order_has (min k j) i (by omega)
        rw [← hlc] at g1 g2
        clear hlc
        have g3 : (!eqSegs [.bytes 32 (getV (crashB (orderX j) k).L (100 - (i : Int)))] [.bytes 32 [UInt8.ofNat (IntKind.u8.wrap (i : Int)).toNat, 0, 0, 0, 0, 0, 0, 0, 0, 0, 0, 0, 0, 0, 0, 0, 0, 0, 0, 0, 0, 0, 0, 0, 0, 0, 0, 0, 0, 0, 0, 0]]) = false := by rw [g2]; simp [eqSegs, byteH]
        refine agow ?_; (try with_reducible exact True.intro)
        refine hl2.go hq [0, 1, 4, 7, 8] [0, 1] ?_
        rfl
      · have h6 : ¬ (i : Int) < (k : Int) := by omega
        have g1 : hasV (crashB (orderX j) k).L (100 - (i : Int)) = false := by rw [hlc]; exact lns_no fun q hq => by show 100 - (q : Int) ≠ 100 - (i : Int); omega
        clear hlc
        refine agow ?_; (try with_reducible exact True.intro)
        refine hl2.go hq [0, 1, 4, 7, 8] [0, 1] ?_
        rfl
    · obtain rfl : i = j := by omega
      have h5 : ¬ (i : Int) < (i : Int) := by omega
      refine agow ?_; (try with_reducible exact True.intro)
def crG (i : Nat) : Ln := ((i : Int), byteH i)
/-- the book ahead of round j: flushed ahead of round fl -/
def crX (fl j : Nat) : BS := ⟨lnsX crG j, if fl < j then fl else 0, if fl < j then 1 else 0⟩
theorem cr_no (j m : Nat) (h : m ≤ j) : hasV (lnsX crG m) (j : Int) = false := lns_no fun i hi => by show (i : Int) ≠ (j : Int); omega
theorem cr_w {x : BS} {j : Nat} (hx : x.L = lnsX crG j) (h : j ≤ 40) : writeE x (j : Int) (byteH j) = 0 ∧ writeB x (j : Int) (byteH j) = ⟨lnsX crG (j + 1), x.s, x.f⟩ := by
  obtain ⟨k1, k2⟩ := write_no (x := x) (e := (j : Int)) (p := byteH j) (by omega) (by omega) (by rw [hx]; exact cr_no j j (Nat.le_refl _)) (by rw [hx, lns_len]; omega)
  refine ⟨k1, k2.trans ?_⟩
  rw [hx, lns_succ]; rfl
/-- behind all rounds -/
def crY (fl n : Nat) : BS := if fl = n then flushB (crX fl n) else crX fl n
theorem crY_L (fl n : Nat) : (crY fl n).L = lnsX crG n := by unfold crY; split <;> rfl
theorem crY_s {fl n : Nat} (h : fl ≤ n) : (crY fl n).s = fl := by
  unfold crY
  by_cases e : fl = n
  · rw [if_pos e]; show (lnsX crG n).length = fl; rw [lns_len]; omega
  · rw [if_neg e]; exact if_pos (by omega)
theorem cr_len {fl n : Nat} (h : fl ≤ n) (keep : Int) : (crashB (crY fl n) keep).L.length = fl + min keep.toNat (n - fl) := by
  show ((crY fl n).L.take (leftN (crY fl n).L.length (crY fl n).s keep)).length = _
  rw [crY_L, crY_s h, lns_len, lns_take _ _ _ (leftN_le h keep), lns_len]; rfl
theorem cr_again (x : BS) (keep : Int) : (crashB (crashB x keep) 0).L.length = (crashB x keep).L.length := by
  show ((crashB x keep).L.take (leftN (crashB x keep).L.length (crashB x keep).s 0)).length = _
  have hs : (crashB x keep).s = leftN x.L.length x.s keep := rfl
  have hl : (crashB x keep).L.length = min (leftN x.L.length x.s keep) x.L.length := by show (x.L.take _).length = _; rw [List.length_take]
  rw [List.length_take, hs, hl]
  unfold leftN
  omega
set_option maxHeartbeats 1000000 in
theorem bookCrashes_ok (n fl keep : Int) (hk : -9223372036854775808 ≤ keep ∧ keep ≤ 9223372036854775807) : FnO 5 [.v (.int .i64 n), .v (.int .i64 fl), .v (.int .i64 keep)] (.d (.v (.bool true))) := by
  refine fnA (E := envB8) Try.func5 Try.ntmps5 ?_
  by_cases h0 : n < 0
  · refine agow ?_; (try with_reducible exact True.intro)
  by_cases h1 : n > 40
  · refine agow ?_; (try with_reducible exact True.intro)
  by_cases h2 : fl < 0
  · refine agow ?_; (try with_reducible exact True.intro)
  by_cases h3 : fl > n
  · refine agow ?_; (try with_reducible exact True.intro)
  refine agow ?_; (try with_reducible exact True.intro)
  obtain ⟨N, rfl⟩ : ∃ N : Nat, n = (N : Nat) := ⟨n.toNat, by omega⟩
  obtain ⟨l, rfl⟩ : ∃ k : Nat, fl = (k : Nat) := ⟨fl.toNat, by omega⟩
  refine StopL.mk (loop_forG [0, 1, 2, 6, 7, 8] [0] N (fun j => ⟨[.d (.v (.int .i64 N)), .d (.v (.int .i64 l)), .d (.v (.int .i64 keep)), .dead, .dead, .dead, .d (.v (.bool false)), .ob 0, .d (.v (.int .i64 (j : Nat))), .dead, .dead, .dead, .dead, .dead, .dead, .dead, .dead, .dead, .dead, .dead, .dead, .dead, .dead, .dead, .dead, .dead, .dead, .dead, .dead, .dead, .dead, .dead, .dead, .dead, .dead, .dead, .dead, .dead, .dead, .dead, .dead, .dead, .dead, .dead, .dead, .dead, .dead, .dead, .dead, .dead, .dead, .dead, .dead, .dead, .dead, .dead, .dead, .dead, .dead, .dead, .dead, .dead, .dead, .dead, .dead, .dead, .dead, .dead, .dead, .dead, .dead, .dead, .dead, .dead, .dead, .dead, .dead, .dead, .dead, .dead, .dead, .dead, .dead, .dead, .dead, .dead, .dead, .dead, .dead], [some (.abs (bkP (crX l j)))]⟩) ?_)
  intro j hj hl
  by_cases h : j < N
  · have h4 : (j : Int) < (N : Int) := by omega
    obtain ⟨b1, b2⟩ := u8b (j : Int)
    by_cases e : j = l
    · subst e
      have hf : (crX j j).f ≤ 1000 := by show (if j < j then 1 else 0) ≤ 1000; split <;> omega
      have h5 : ((j : Int) == (j : Int)) = true := by simp
      refine agow ?_; (try with_reducible exact True.intro)
      refine hl.go h [0, 1, 2, 6, 7, 8] [0] ?_
      have e1 : writeB (flushB (crX j j)) (j : Int) (byteH j) = crX j (j + 1) := by
        rw [(cr_w (x := flushB (crX j j)) rfl (by omega)).2]
        simp [flushB, crX, lns_len]
      rw [← e1]; rfl
    · have h5 : ((j : Int) == (l : Int)) = false := by rw [beq_eq_false_iff_ne]; omega
      refine agow ?_; (try with_reducible exact True.intro)
      refine hl.go h [0, 1, 2, 6, 7, 8] [0] ?_
      have e1 : writeB (crX l j) (j : Int) (byteH j) = crX l (j + 1) := by
        rw [(cr_w (x := crX l j) rfl (by omega)).2]
        have : l < j + 1 ↔ l < j := by omega
        simp [crX, this]
      rw [← e1]; rfl
  · obtain rfl : j = N := by omega
    have h4 : ¬ (j : Int) < (j : Int) := by omega
    have hle : l ≤ j := by omega
    have hlen := cr_len hle keep
    have hag := cr_again (crY l j) keep
    have hL : (((crY l j).L.length : Int) == (j : Int)) = true := by rw [crY_L, lns_len]; simp
    have hwant : (((crashB (crY l j) keep).L.length : Int) == ((l : Int) + if (j : Int) - (l : Int) < (if (0 : Int) > keep then 0 else keep) then (j : Int) - (l : Int) else (if (0 : Int) > keep then 0 else keep))) = true := by
      rw [hlen, beq_iff_eq]; split <;> split at * <;> omega
    have hwant2 : (((crashB (crashB (crY l j) keep) 0).L.length : Int) == ((l : Int) + if (j : Int) - (l : Int) < (if (0 : Int) > keep then 0 else keep) then (j : Int) - (l : Int) else (if (0 : Int) > keep then 0 else keep))) = true := by rw [hag]; exact hwant
    by_cases e : l = j
    · subst e
      have hf : (crX l l).f ≤ 1000 := by show (if l < l then 1 else 0) ≤ 1000; split <;> omega
      have h5 : ((l : Int) == (l : Int)) = true := by simp
      have eY : crY l l = flushB (crX l l) := if_pos rfl
      rw [eY] at hL hwant hwant2
      clear hlen hag eY
      refine agow ?_; (try with_reducible exact True.intro)
    · have h5 : ((l : Int) == (j : Int)) = false := by rw [beq_eq_false_iff_ne]; omega
      have eY : crY l j = crX l j := if_neg e
      rw [eY] at hL hwant hwant2
      clear hlen hag eY
      refine agow ?_; (try with_reducible exact True.intro)
theorem ra_hash32 {S : Nat → Prop} {w : World} {h : List UInt8} (hh : h.length = 32) : RA S w (.agg [.bytes 32 h]) (HV h) := .agg (.ofBytes hh rfl)
theorem wf_i64 {z : Int} (h : (Lit.int .i64 z).wf = true) : -9223372036854775808 ≤ z ∧ z ≤ 9223372036854775807 := by
  unfold Lit.wf at h
  rw [Bool.and_eq_true, decide_eq_true_eq, decide_eq_true_eq] at h
  have e1 : IntKind.i64.min = -9223372036854775808 := by decide
  have e2 : IntKind.i64.max = 9223372036854775807 := by decide
  rw [e1, e2] at h; exact h
theorem gok_none11 {w : World} : GOK gTab (fun _ => True) w := fun q l h => by cases h
theorem bookSame_walk {w : World} (e : Int) (he : (Lit.int .i64 e).wf = true) (h : List UInt8) (hh : h.length = 32) (n : Int) (hn : (Lit.int .i64 n).wf = true) :
    Calls Try.prog 11 #[.int .i64 e, HV h, .int .i64 n] w fun e w' => e = .returned (.bool true) ∧ Below w.heap.size w w' :=
  law_of_fn (bookSame_ok e h hh n) gok_none11 (.cons (.v _) (.cons (ra_hash32 hh) (.cons (.v _) .nil)))
theorem bookCopy_walk {w : World} (e : Int) (he : (Lit.int .i64 e).wf = true) (h : List UInt8) (hh : h.length = 32) :
    Calls Try.prog 10 #[.int .i64 e, HV h] w fun e w' => e = .returned (.bool true) ∧ Below w.heap.size w w' :=
  law_of_fn (bookCopy_ok e h hh) gok_none11 (.cons (.v _) (.cons (ra_hash32 hh) .nil))
theorem bookMany_walk {w : World} (n : Int) (hn : (Lit.int .i64 n).wf = true) (k : Int) (hk : (Lit.int .i64 k).wf = true) :
    Calls Try.prog 7 #[.int .i64 n, .int .i64 k] w fun e w' => e = .returned (.bool true) ∧ Below w.heap.size w w' :=
  law_of_fn (bookMany_ok n k (wf_i64 hk)) gok_none11 (.cons (.v _) (.cons (.v _) .nil))
theorem bookFull_walk {w : World} (n : Int) (hn : (Lit.int .i64 n).wf = true) :
    Calls Try.prog 6 #[.int .i64 n] w fun e w' => e = .returned (.bool true) ∧ Below w.heap.size w w' :=
  law_of_fn (bookFull_ok n) gok_none11 (.cons (.v _) .nil)
theorem bookOrder_walk {w : World} (n : Int) (hn : (Lit.int .i64 n).wf = true) (k : Int) (hk : (Lit.int .i64 k).wf = true) :
    Calls Try.prog 9 #[.int .i64 n, .int .i64 k] w fun e w' => e = .returned (.bool true) ∧ Below w.heap.size w w' :=
  law_of_fn (bookOrder_ok n k) gok_none11 (.cons (.v _) (.cons (.v _) .nil))
theorem bookCrashes_walk {w : World} (n : Int) (hn : (Lit.int .i64 n).wf = true) (l : Int) (hl : (Lit.int .i64 l).wf = true) (k : Int) (hk : (Lit.int .i64 k).wf = true) :
    Calls Try.prog 5 #[.int .i64 n, .int .i64 l, .int .i64 k] w fun e w' => e = .returned (.bool true) ∧ Below w.heap.size w w' :=
  law_of_fn (bookCrashes_ok n l k (wf_i64 hk)) gok_none11 (.cons (.v _) (.cons (.v _) (.cons (.v _) .nil)))
end Go.Proofs.Ytcfdlffjghlghaa
