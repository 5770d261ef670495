/-
  Bytes as a commit: the walk of the other program, where the bytes are bad.
-/
import Derived.Test.YtbgdlggobbiibaaRd8
namespace Go.Proofs.Ytbgdlggobbiibaa
set_option maxRecDepth 100000
open Go.RowKit Pm
set_option linter.unusedVariables false
set_option linter.unusedSimpArgs false
attribute [local irreducible] condK LoopA regA numB numsB boxB anyP idxP mayB withinB sigB oddOpB oddVoteB bodyB commitB commitN bodyN tkV tkN numT isNum nmV nmN cntV cntN hashV boxV boxN nmsV nmsN bxsV bxsN

set_option maxHeartbeats 8000000 in
theorem rtoB_eee (b : List UInt8) (hb : b.length ≤ 6000) (N M B : Nat) (he : EndsC b N M B) (hs : N ≤ 3000 ∧ M ≤ 3000 ∧ B ≤ 3000) (hl : LensC b N M B) (hN : (nmV (nmN (nmN (s1 b)))).toNat ≤ N) (hM : (nmV (nmsN (N * 5) (s4 b))).toNat ≤ M) (hB : (nmV (s8 b N M)).toNat ≤ B) (h0 : (nmN (nmN (tkN 32 (bxsN maxI B (s9 b N M))))).bad = true) : FnO 5 [.row b.length [.bytes b.length b]] (.t [commit0, .v (.int .i64 2)]) := by
  refine fnA (E := envXd5) Try.func5 Try.ntmps5 ?_
  obtain ⟨n1, n2, n3, m1, m2, m3, b1, b2, b3⟩ := he
  obtain ⟨sN, sM, sB⟩ := hs
  obtain ⟨l1, l2, l3, l4, l5, l6, l7, l8, l9, l10, l11, l12, l13, l14, l15⟩ := hl
  have v1 := nmV_nat (nmN (nmN (s1 b))); have w1 := nmV_max (nmN (nmN (s1 b)))
  have v2 := nmV_nat (nmsN (N * 5) (s4 b)); have w2 := nmV_max (nmsN (N * 5) (s4 b))
  have v3 := nmV_nat (s8 b N M); have w3 := nmV_max (s8 b N M)
  have L1 : (s1 b).bs.length ≤ 1000000 := by omega
  have L1' : (tkN 1 ⟨b, false⟩).bs.length ≤ 1000000 := L1
  have L2 : (nmN (s1 b)).bs.length ≤ 1000000 := by omega
  have L2' : (nmN (tkN 1 ⟨b, false⟩)).bs.length ≤ 1000000 := L2
  have L3 : (nmN (nmN (tkN 1 ⟨b, false⟩))).bs.length ≤ 1000000 := show (nmN (nmN (s1 b))).bs.length ≤ 1000000 by omega
  clear L1 L2
  refine agow ?_; (try with_reducible exact True.intro)
  refine StopL.mk (loop_forV [0, 2, 4, 5, 6, 7] [0, 1, 2] 2 2 68 5 [.ints .i64 0 []] N (fun j => ⟨[.d (.row b.length [.bytes b.length b]), .dead, .ptr 0 0, .dead, .ptr 1 0, .d (.row (tkV 1 ⟨b, false⟩).length [.bytes (tkV 1 ⟨b, false⟩).length (tkV 1 ⟨b, false⟩)]), .ptr 2 0, .d (.v (.int .i64 (nmV (nmN (nmN (s1 b))) - ((j : Nat) : Int)))), .dead, .dead, .dead, .dead, .dead, .dead, .dead, .dead, .dead, .dead, .dead, .dead, .dead, .dead, .dead, .dead, .dead, .dead, .dead, .dead, .dead, .dead, .dead, .dead, .dead, .dead, .dead, .dead, .dead, .dead, .dead, .dead, .dead, .dead, .dead, .dead, .dead, .dead, .dead, .dead, .dead, .dead, .dead, .dead, .dead, .dead, .dead, .dead, .dead, .dead, .dead, .dead, .dead, .dead, .dead, .dead, .dead, .dead, .dead, .dead, .dead, .dead, .dead, .dead, .dead, .dead, .dead, .dead, .dead, .dead, .dead, .dead, .dead, .dead, .dead, .dead, .dead, .dead, .dead, .dead, .dead, .dead, .dead, .dead, .dead, .dead, .dead, .dead, .dead, .dead, .dead, .dead, .dead, .dead, .dead, .dead, .dead, .dead, .dead, .dead, .dead, .dead, .dead, .dead, .dead, .dead, .dead, .dead, .dead, .dead, .dead, .dead, .dead, .dead, .dead, .dead, .dead, .dead, .dead, .dead, .dead, .dead, .dead, .dead, .dead, .dead, .dead, .dead, .dead, .dead, .dead, .dead, .dead, .dead, .dead], [some (.var cs0Z), some (.var (rdL (nmsN (j * 5) (s4 b)))), some (.vh (xs1 b) 2 true 68 5 j [.ints .i64 (j * 5) (nmsV (j * 5) (s4 b))])]⟩) ?_ (h2 := by rw [Nat.zero_mul, nmsN_zero, nmsV_zero, Int.natCast_zero, Int.sub_zero]; exact rfl))
  intro j hj hl
  by_cases h : j < N
  · have h1 : nmV (nmN (nmN (s1 b))) - ((j : Nat) : Int) > 0 := by omega
    have h2 : (nmsN (j * 5) (s4 b)).bad = false := n2 j h
    have h3 : (nmsN (j * 5) (s4 b)).bs.length ≤ 1000000 := by have := l5 (j * 5); omega
    have hw : nmV (nmN (nmN (s1 b))) - ((j + 1 : Nat) : Int) = nmV (nmN (nmN (s1 b))) - ((j : Nat) : Int) - 1 := by omega
    refine agow ?_; (try with_reducible exact True.intro)
    refine hl.go h [0, 2, 4, 5, 6, 7] [0, 1, 2] ?_
    rw [hw, five_mul, nmsN_add, nmsV_add]
    rfl
  obtain rfl : N = j := by omega
  clear hl hj h
  have h1 : ¬ nmV (nmN (nmN (s1 b))) - ((N : Nat) : Int) > 0 := by omega
  have L5 : (nmsN (N * 5) (s4 b)).bs.length ≤ 1000000 := by have := l5 (N * 5); omega
  refine agow ?_; (try with_reducible exact True.intro)
  clear h1
  refine StopL.mk (loop_forV [0, 2, 4, 5, 6, 8] [0, 1, 2] 2 3 71 3 [.ints .i64 0 []] M (fun j => ⟨[.d (.row b.length [.bytes b.length b]), .dead, .ptr 0 0, .dead, .ptr 1 0, .d (.row (tkV 1 ⟨b, false⟩).length [.bytes (tkV 1 ⟨b, false⟩).length (tkV 1 ⟨b, false⟩)]), .ptr 2 0, .dead, .d (.v (.int .i64 (nmV (nmsN (N * 5) (s4 b)) - ((j : Nat) : Int)))), .dead, .dead, .dead, .dead, .dead, .dead, .dead, .dead, .dead, .dead, .dead, .dead, .dead, .dead, .dead, .dead, .dead, .dead, .dead, .dead, .dead, .dead, .dead, .dead, .dead, .dead, .dead, .dead, .dead, .dead, .dead, .dead, .dead, .dead, .dead, .dead, .dead, .dead, .dead, .dead, .dead, .dead, .dead, .dead, .dead, .dead, .dead, .dead, .dead, .dead, .dead, .dead, .dead, .dead, .dead, .dead, .dead, .dead, .dead, .dead, .dead, .dead, .dead, .dead, .dead, .dead, .dead, .dead, .dead, .dead, .dead, .dead, .dead, .dead, .dead, .dead, .dead, .dead, .dead, .dead, .dead, .dead, .dead, .dead, .dead, .dead, .dead, .dead, .dead, .dead, .dead, .dead, .dead, .dead, .dead, .dead, .dead, .dead, .dead, .dead, .dead, .dead, .dead, .dead, .dead, .dead, .dead, .dead, .dead, .dead, .dead, .dead, .dead, .dead, .dead, .dead, .dead, .dead, .dead, .dead, .dead, .dead, .dead, .dead, .dead, .dead, .dead, .dead, .dead, .dead, .dead, .dead, .dead, .dead], [some (.var cs0Z), some (.var (rdL (nmsN (j * 3) (s6 b N)))), some (.vh (xs2 b N) 3 true 71 3 j [.ints .i64 (j * 3) (nmsV (j * 3) (s6 b N))])]⟩) ?_ (h2 := by rw [Nat.zero_mul, nmsN_zero, nmsV_zero, Int.natCast_zero, Int.sub_zero]; exact rfl))
  intro j hj hl
  by_cases h : j < M
  · have h1 : nmV (nmsN (N * 5) (s4 b)) - ((j : Nat) : Int) > 0 := by omega
    have h2 : (nmsN (j * 3) (s6 b N)).bad = false := m2 j h
    have h3 : (nmsN (j * 3) (s6 b N)).bs.length ≤ 1000000 := by have := l7 (j * 3); omega
    have h4 : (nmN (nmsN (j * 3) (s6 b N))).bs.length ≤ 1000000 := by have := nmN_len (nmsN (j * 3) (s6 b N)); omega
    have hw : nmV (nmsN (N * 5) (s4 b)) - ((j + 1 : Nat) : Int) = nmV (nmsN (N * 5) (s4 b)) - ((j : Nat) : Int) - 1 := by omega
    refine agow ?_; (try with_reducible exact True.intro)
    refine hl.go h [0, 2, 4, 5, 6, 8] [0, 1, 2] ?_
    rw [hw, three_mul, nmsN_add, nmsV_add, nmsV_three, nmsN_three]
    rfl
  obtain rfl : M = j := by omega
  clear hl hj h
  have h1 : ¬ nmV (nmsN (N * 5) (s4 b)) - ((M : Nat) : Int) > 0 := by omega
  have L7 : (nmsN (M * 3) (s6 b N)).bs.length ≤ 1000000 := by have := l7 (M * 3); omega
  have L9 : (nmN (nmsN (M * 3) (s6 b N))).bs.length ≤ 1000000 := show (nmN (s7 b N M)).bs.length ≤ 1000000 by omega
  have L10 : (nmN (nmN (nmsN (M * 3) (s6 b N)))).bs.length ≤ 1000000 := show (nmN (nmN (s7 b N M))).bs.length ≤ 1000000 by omega
  have L11 : (nmN (nmN (nmN (nmsN (M * 3) (s6 b N))))).bs.length ≤ 1000000 := show (nmN (nmN (nmN (s7 b N M)))).bs.length ≤ 1000000 by omega
  have L12 : (nmN (nmN (nmN (nmN (nmsN (M * 3) (s6 b N)))))).bs.length ≤ 1000000 := show (s8 b N M).bs.length ≤ 1000000 by omega
  refine agow ?_; (try with_reducible exact True.intro)
  refine StopL.mk (loop_unroll 4 ?_)
  refine agow ?_; (try with_reducible exact True.intro)
  clear h1 L7 L9 L10 L11 L12
  refine StopL.mk (loop_forV [0, 2, 4, 5, 6, 11] [0, 1, 2] 2 8 22 1 [.gen 0 []] B (fun j => ⟨[.d (.row b.length [.bytes b.length b]), .dead, .ptr 0 0, .dead, .ptr 1 0, .d (.row (tkV 1 ⟨b, false⟩).length [.bytes (tkV 1 ⟨b, false⟩).length (tkV 1 ⟨b, false⟩)]), .ptr 2 0, .dead, .dead, .dead, .dead, .d (.v (.int .i64 (nmV (s8 b N M) - ((j : Nat) : Int)))), .dead, .dead, .dead, .dead, .dead, .dead, .dead, .dead, .dead, .dead, .dead, .dead, .dead, .dead, .dead, .dead, .dead, .dead, .dead, .dead, .dead, .dead, .dead, .dead, .dead, .dead, .dead, .dead, .dead, .dead, .dead, .dead, .dead, .dead, .dead, .dead, .dead, .dead, .dead, .dead, .dead, .dead, .dead, .dead, .dead, .dead, .dead, .dead, .dead, .dead, .dead, .dead, .dead, .dead, .dead, .dead, .dead, .dead, .dead, .dead, .dead, .dead, .dead, .dead, .dead, .dead, .dead, .dead, .dead, .dead, .dead, .dead, .dead, .dead, .dead, .dead, .dead, .dead, .dead, .dead, .dead, .dead, .dead, .dead, .dead, .dead, .dead, .dead, .dead, .dead, .dead, .dead, .dead, .dead, .dead, .dead, .dead, .dead, .dead, .dead, .dead, .dead, .dead, .dead, .dead, .dead, .dead, .dead, .dead, .dead, .dead, .dead, .dead, .dead, .dead, .dead, .dead, .dead, .dead, .dead, .dead, .dead, .dead, .dead, .dead, .dead, .dead, .dead, .dead, .dead, .dead], [some (.var cs0Z), some (.var (rdL (bxsN maxI j (s9 b N M)))), some (.vh (xs3 b N M) 8 true 22 1 j [.gen j ((bxsV maxI j (s9 b N M)).map rowA)])]⟩) ?_ (h2 := by rw [bxsN_zero, bxsV_zero, Int.natCast_zero, Int.sub_zero]; exact rfl))
  intro j hj hl
  by_cases h : j < B
  · have h1 : nmV (s8 b N M) - ((j : Nat) : Int) > 0 := by omega
    have h2 : (bxsN maxI j (s9 b N M)).bad = false := b2 j h
    have h3 : (bxsN maxI j (s9 b N M)).bs.length ≤ 1000000 := by have := l14 j; omega
    have h4 : (nmN (bxsN maxI j (s9 b N M))).bs.length ≤ 1000000 := by have := nmN_len (bxsN maxI j (s9 b N M)); omega
    have h5 := nmV_nat (bxsN maxI j (s9 b N M))
    have hw : nmV (s8 b N M) - ((j + 1 : Nat) : Int) = nmV (s8 b N M) - ((j : Nat) : Int) - 1 := by omega
    refine agow ?_; (try with_reducible exact True.intro)
    refine hl.go h [0, 2, 4, 5, 6, 11] [0, 1, 2] ?_
    rw [hw, bxsN_one, bxsV_one, box_maxV, box_maxN]
    rfl
  obtain rfl : B = j := by omega
  clear hl hj h
  have h1 : ¬ nmV (s8 b N M) - ((B : Nat) : Int) > 0 := by omega
  have L14 : (bxsN maxI B (s9 b N M)).bs.length ≤ 1000000 := by have := l14 B; omega
  have L15 : (tkN 32 (bxsN maxI B (s9 b N M))).bs.length ≤ 1000000 := show (s11 b N M B).bs.length ≤ 1000000 by omega
  have X1 : (nmsV (N * 5) (s4 b)).length = N * 5 := nmsV_length _ _
  have X2 : (nmsV (M * 3) (s6 b N)).length = M * 3 := nmsV_length _ _
  have X3 : (hashV (bxsN maxI B (s9 b N M))).length = 32 := hashV_length _
  have X4 : (bxsV maxI B (s9 b N M)).length = B := bxsV_length _ _ _
  have X5 : ∀ p ∈ bxsV maxI B (s9 b N M), p.length ≤ 6000 := fun p hp => by have := bxsV_len maxI B (s9 b N M) p hp; omega
  refine agow ?_; (try with_reducible exact True.intro)
  cases hm : mayB (rC b N M B)
  case false =>
    have eR : commitR (csX (nmV (s1 b)) (nmV (nmN (s1 b))) N (nmsV (N * 5) (s4 b)) M (nmsV (M * 3) (s6 b N)) (nmV (s7 b N M)) (nmV (nmN (s7 b N M))) (nmV (nmN (nmN (s7 b N M)))) (nmV (nmN (nmN (nmN (s7 b N M))))) B (bxsV maxI B (s9 b N M)) (hashV (bxsN maxI B (s9 b N M))) (nmV (tkN 32 (bxsN maxI B (s9 b N M)))) (nmV (nmN (tkN 32 (bxsN maxI B (s9 b N M)))))) = .t [.v (.slice none 0 0), .v (.int .i64 1)] := by show commitR (rC b N M B) = _; unfold commitR; rw [if_neg (by rw [hm]; decide)]
    rw [eR]
    clear eR
    refine agow ?_; (try with_reducible exact True.intro)
    try rfl
  case true =>
    have eR : commitR (csX (nmV (s1 b)) (nmV (nmN (s1 b))) N (nmsV (N * 5) (s4 b)) M (nmsV (M * 3) (s6 b N)) (nmV (s7 b N M)) (nmV (nmN (s7 b N M))) (nmV (nmN (nmN (s7 b N M)))) (nmV (nmN (nmN (nmN (s7 b N M))))) B (bxsV maxI B (s9 b N M)) (hashV (bxsN maxI B (s9 b N M))) (nmV (tkN 32 (bxsN maxI B (s9 b N M)))) (nmV (nmN (tkN 32 (bxsN maxI B (s9 b N M)))))) = .t [.row (commitN (rC b N M B)) [.bytes (commitN (rC b N M B)) (commitB (rC b N M B))], .v (.int .i64 0)] := by show commitR (rC b N M B) = _; unfold commitR; rw [if_pos hm]
    rw [eR]
    clear eR
    refine agow ?_; (try with_reducible exact True.intro)
    try rfl
set_option maxHeartbeats 8000000 in
theorem rtoB_eeb (b : List UInt8) (hb : b.length ≤ 6000) (N M B : Nat) (he : EndsC b N M B) (hs : N ≤ 3000 ∧ M ≤ 3000 ∧ B ≤ 3000) (hl : LensC b N M B) (hN : (nmV (nmN (nmN (s1 b)))).toNat ≤ N) (hM : (nmV (nmsN (N * 5) (s4 b))).toNat ≤ M) (hB : B < (nmV (s8 b N M)).toNat) (hBb : (bxsN maxI B (s9 b N M)).bad = true) (h0 : (nmN (nmN (tkN 32 (bxsN maxI B (s9 b N M))))).bad = true) : FnO 5 [.row b.length [.bytes b.length b]] (.t [commit0, .v (.int .i64 2)]) := by
  refine fnA (E := envXd5) Try.func5 Try.ntmps5 ?_
  obtain ⟨n1, n2, n3, m1, m2, m3, b1, b2, b3⟩ := he
  obtain ⟨sN, sM, sB⟩ := hs
  obtain ⟨l1, l2, l3, l4, l5, l6, l7, l8, l9, l10, l11, l12, l13, l14, l15⟩ := hl
  have v1 := nmV_nat (nmN (nmN (s1 b))); have w1 := nmV_max (nmN (nmN (s1 b)))
  have v2 := nmV_nat (nmsN (N * 5) (s4 b)); have w2 := nmV_max (nmsN (N * 5) (s4 b))
  have v3 := nmV_nat (s8 b N M); have w3 := nmV_max (s8 b N M)
  have L1 : (s1 b).bs.length ≤ 1000000 := by omega
  have L1' : (tkN 1 ⟨b, false⟩).bs.length ≤ 1000000 := L1
  have L2 : (nmN (s1 b)).bs.length ≤ 1000000 := by omega
  have L2' : (nmN (tkN 1 ⟨b, false⟩)).bs.length ≤ 1000000 := L2
  have L3 : (nmN (nmN (tkN 1 ⟨b, false⟩))).bs.length ≤ 1000000 := show (nmN (nmN (s1 b))).bs.length ≤ 1000000 by omega
  clear L1 L2
  refine agow ?_; (try with_reducible exact True.intro)
  refine StopL.mk (loop_forV [0, 2, 4, 5, 6, 7] [0, 1, 2] 2 2 68 5 [.ints .i64 0 []] N (fun j => ⟨[.d (.row b.length [.bytes b.length b]), .dead, .ptr 0 0, .dead, .ptr 1 0, .d (.row (tkV 1 ⟨b, false⟩).length [.bytes (tkV 1 ⟨b, false⟩).length (tkV 1 ⟨b, false⟩)]), .ptr 2 0, .d (.v (.int .i64 (nmV (nmN (nmN (s1 b))) - ((j : Nat) : Int)))), .dead, .dead, .dead, .dead, .dead, .dead, .dead, .dead, .dead, .dead, .dead, .dead, .dead, .dead, .dead, .dead, .dead, .dead, .dead, .dead, .dead, .dead, .dead, .dead, .dead, .dead, .dead, .dead, .dead, .dead, .dead, .dead, .dead, .dead, .dead, .dead, .dead, .dead, .dead, .dead, .dead, .dead, .dead, .dead, .dead, .dead, .dead, .dead, .dead, .dead, .dead, .dead, .dead, .dead, .dead, .dead, .dead, .dead, .dead, .dead, .dead, .dead, .dead, .dead, .dead, .dead, .dead, .dead, .dead, .dead, .dead, .dead, .dead, .dead, .dead, .dead, .dead, .dead, .dead, .dead, .dead, .dead, .dead, .dead, .dead, .dead, .dead, .dead, .dead, .dead, .dead, .dead, .dead, .dead, .dead, .dead, .dead, .dead, .dead, .dead, .dead, .dead, .dead, .dead, .dead, .dead, .dead, .dead, .dead, .dead, .dead, .dead, .dead, .dead, .dead, .dead, .dead, .dead, .dead, .dead, .dead, .dead, .dead, .dead, .dead, .dead, .dead, .dead, .dead, .dead, .dead, .dead, .dead, .dead, .dead], [some (.var cs0Z), some (.var (rdL (nmsN (j * 5) (s4 b)))), some (.vh (xs1 b) 2 true 68 5 j [.ints .i64 (j * 5) (nmsV (j * 5) (s4 b))])]⟩) ?_ (h2 := by rw [Nat.zero_mul, nmsN_zero, nmsV_zero, Int.natCast_zero, Int.sub_zero]; exact rfl))
  intro j hj hl
  by_cases h : j < N
  · have h1 : nmV (nmN (nmN (s1 b))) - ((j : Nat) : Int) > 0 := by omega
    have h2 : (nmsN (j * 5) (s4 b)).bad = false := n2 j h
    have h3 : (nmsN (j * 5) (s4 b)).bs.length ≤ 1000000 := by have := l5 (j * 5); omega
    have hw : nmV (nmN (nmN (s1 b))) - ((j + 1 : Nat) : Int) = nmV (nmN (nmN (s1 b))) - ((j : Nat) : Int) - 1 := by omega
    refine agow ?_; (try with_reducible exact True.intro)
    refine hl.go h [0, 2, 4, 5, 6, 7] [0, 1, 2] ?_
    rw [hw, five_mul, nmsN_add, nmsV_add]
    rfl
  obtain rfl : N = j := by omega
  clear hl hj h
  have h1 : ¬ nmV (nmN (nmN (s1 b))) - ((N : Nat) : Int) > 0 := by omega
  have L5 : (nmsN (N * 5) (s4 b)).bs.length ≤ 1000000 := by have := l5 (N * 5); omega
  refine agow ?_; (try with_reducible exact True.intro)
  clear h1
  refine StopL.mk (loop_forV [0, 2, 4, 5, 6, 8] [0, 1, 2] 2 3 71 3 [.ints .i64 0 []] M (fun j => ⟨[.d (.row b.length [.bytes b.length b]), .dead, .ptr 0 0, .dead, .ptr 1 0, .d (.row (tkV 1 ⟨b, false⟩).length [.bytes (tkV 1 ⟨b, false⟩).length (tkV 1 ⟨b, false⟩)]), .ptr 2 0, .dead, .d (.v (.int .i64 (nmV (nmsN (N * 5) (s4 b)) - ((j : Nat) : Int)))), .dead, .dead, .dead, .dead, .dead, .dead, .dead, .dead, .dead, .dead, .dead, .dead, .dead, .dead, .dead, .dead, .dead, .dead, .dead, .dead, .dead, .dead, .dead, .dead, .dead, .dead, .dead, .dead, .dead, .dead, .dead, .dead, .dead, .dead, .dead, .dead, .dead, .dead, .dead, .dead, .dead, .dead, .dead, .dead, .dead, .dead, .dead, .dead, .dead, .dead, .dead, .dead, .dead, .dead, .dead, .dead, .dead, .dead, .dead, .dead, .dead, .dead, .dead, .dead, .dead, .dead, .dead, .dead, .dead, .dead, .dead, .dead, .dead, .dead, .dead, .dead, .dead, .dead, .dead, .dead, .dead, .dead, .dead, .dead, .dead, .dead, .dead, .dead, .dead, .dead, .dead, .dead, .dead, .dead, .dead, .dead, .dead, .dead, .dead, .dead, .dead, .dead, .dead, .dead, .dead, .dead, .dead, .dead, .dead, .dead, .dead, .dead, .dead, .dead, .dead, .dead, .dead, .dead, .dead, .dead, .dead, .dead, .dead, .dead, .dead, .dead, .dead, .dead, .dead, .dead, .dead, .dead, .dead, .dead], [some (.var cs0Z), some (.var (rdL (nmsN (j * 3) (s6 b N)))), some (.vh (xs2 b N) 3 true 71 3 j [.ints .i64 (j * 3) (nmsV (j * 3) (s6 b N))])]⟩) ?_ (h2 := by rw [Nat.zero_mul, nmsN_zero, nmsV_zero, Int.natCast_zero, Int.sub_zero]; exact rfl))
  intro j hj hl
  by_cases h : j < M
  · have h1 : nmV (nmsN (N * 5) (s4 b)) - ((j : Nat) : Int) > 0 := by omega
    have h2 : (nmsN (j * 3) (s6 b N)).bad = false := m2 j h
    have h3 : (nmsN (j * 3) (s6 b N)).bs.length ≤ 1000000 := by have := l7 (j * 3); omega
    have h4 : (nmN (nmsN (j * 3) (s6 b N))).bs.length ≤ 1000000 := by have := nmN_len (nmsN (j * 3) (s6 b N)); omega
    have hw : nmV (nmsN (N * 5) (s4 b)) - ((j + 1 : Nat) : Int) = nmV (nmsN (N * 5) (s4 b)) - ((j : Nat) : Int) - 1 := by omega
    refine agow ?_; (try with_reducible exact True.intro)
    refine hl.go h [0, 2, 4, 5, 6, 8] [0, 1, 2] ?_
    rw [hw, three_mul, nmsN_add, nmsV_add, nmsV_three, nmsN_three]
    rfl
  obtain rfl : M = j := by omega
  clear hl hj h
  have h1 : ¬ nmV (nmsN (N * 5) (s4 b)) - ((M : Nat) : Int) > 0 := by omega
  have L7 : (nmsN (M * 3) (s6 b N)).bs.length ≤ 1000000 := by have := l7 (M * 3); omega
  have L9 : (nmN (nmsN (M * 3) (s6 b N))).bs.length ≤ 1000000 := show (nmN (s7 b N M)).bs.length ≤ 1000000 by omega
  have L10 : (nmN (nmN (nmsN (M * 3) (s6 b N)))).bs.length ≤ 1000000 := show (nmN (nmN (s7 b N M))).bs.length ≤ 1000000 by omega
  have L11 : (nmN (nmN (nmN (nmsN (M * 3) (s6 b N))))).bs.length ≤ 1000000 := show (nmN (nmN (nmN (s7 b N M)))).bs.length ≤ 1000000 by omega
  have L12 : (nmN (nmN (nmN (nmN (nmsN (M * 3) (s6 b N)))))).bs.length ≤ 1000000 := show (s8 b N M).bs.length ≤ 1000000 by omega
  refine agow ?_; (try with_reducible exact True.intro)
  refine StopL.mk (loop_unroll 4 ?_)
  refine agow ?_; (try with_reducible exact True.intro)
  clear h1 L7 L9 L10 L11 L12
  refine StopL.mk (loop_forV [0, 2, 4, 5, 6, 11] [0, 1, 2] 2 8 22 1 [.gen 0 []] B (fun j => ⟨[.d (.row b.length [.bytes b.length b]), .dead, .ptr 0 0, .dead, .ptr 1 0, .d (.row (tkV 1 ⟨b, false⟩).length [.bytes (tkV 1 ⟨b, false⟩).length (tkV 1 ⟨b, false⟩)]), .ptr 2 0, .dead, .dead, .dead, .dead, .d (.v (.int .i64 (nmV (s8 b N M) - ((j : Nat) : Int)))), .dead, .dead, .dead, .dead, .dead, .dead, .dead, .dead, .dead, .dead, .dead, .dead, .dead, .dead, .dead, .dead, .dead, .dead, .dead, .dead, .dead, .dead, .dead, .dead, .dead, .dead, .dead, .dead, .dead, .dead, .dead, .dead, .dead, .dead, .dead, .dead, .dead, .dead, .dead, .dead, .dead, .dead, .dead, .dead, .dead, .dead, .dead, .dead, .dead, .dead, .dead, .dead, .dead, .dead, .dead, .dead, .dead, .dead, .dead, .dead, .dead, .dead, .dead, .dead, .dead, .dead, .dead, .dead, .dead, .dead, .dead, .dead, .dead, .dead, .dead, .dead, .dead, .dead, .dead, .dead, .dead, .dead, .dead, .dead, .dead, .dead, .dead, .dead, .dead, .dead, .dead, .dead, .dead, .dead, .dead, .dead, .dead, .dead, .dead, .dead, .dead, .dead, .dead, .dead, .dead, .dead, .dead, .dead, .dead, .dead, .dead, .dead, .dead, .dead, .dead, .dead, .dead, .dead, .dead, .dead, .dead, .dead, .dead, .dead, .dead, .dead, .dead, .dead, .dead, .dead, .dead], [some (.var cs0Z), some (.var (rdL (bxsN maxI j (s9 b N M)))), some (.vh (xs3 b N M) 8 true 22 1 j [.gen j ((bxsV maxI j (s9 b N M)).map rowA)])]⟩) ?_ (h2 := by rw [bxsN_zero, bxsV_zero, Int.natCast_zero, Int.sub_zero]; exact rfl))
  intro j hj hl
  by_cases h : j < B
  · have h1 : nmV (s8 b N M) - ((j : Nat) : Int) > 0 := by omega
    have h2 : (bxsN maxI j (s9 b N M)).bad = false := b2 j h
    have h3 : (bxsN maxI j (s9 b N M)).bs.length ≤ 1000000 := by have := l14 j; omega
    have h4 : (nmN (bxsN maxI j (s9 b N M))).bs.length ≤ 1000000 := by have := nmN_len (bxsN maxI j (s9 b N M)); omega
    have h5 := nmV_nat (bxsN maxI j (s9 b N M))
    have hw : nmV (s8 b N M) - ((j + 1 : Nat) : Int) = nmV (s8 b N M) - ((j : Nat) : Int) - 1 := by omega
    refine agow ?_; (try with_reducible exact True.intro)
    refine hl.go h [0, 2, 4, 5, 6, 11] [0, 1, 2] ?_
    rw [hw, bxsN_one, bxsV_one, box_maxV, box_maxN]
    rfl
  obtain rfl : B = j := by omega
  clear hl hj h
  have h1 : nmV (s8 b N M) - ((B : Nat) : Int) > 0 := by omega
  have h2 : (bxsN maxI B (s9 b N M)).bad = true := hBb
  have L14 : (bxsN maxI B (s9 b N M)).bs.length ≤ 1000000 := by have := l14 B; omega
  have L15 : (tkN 32 (bxsN maxI B (s9 b N M))).bs.length ≤ 1000000 := show (s11 b N M B).bs.length ≤ 1000000 by omega
  have X1 : (nmsV (N * 5) (s4 b)).length = N * 5 := nmsV_length _ _
  have X2 : (nmsV (M * 3) (s6 b N)).length = M * 3 := nmsV_length _ _
  have X3 : (hashV (bxsN maxI B (s9 b N M))).length = 32 := hashV_length _
  have X4 : (bxsV maxI B (s9 b N M)).length = B := bxsV_length _ _ _
  have X5 : ∀ p ∈ bxsV maxI B (s9 b N M), p.length ≤ 6000 := fun p hp => by have := bxsV_len maxI B (s9 b N M) p hp; omega
  refine agow ?_; (try with_reducible exact True.intro)
  cases hm : mayB (rC b N M B)
  case false =>
    have eR : commitR (csX (nmV (s1 b)) (nmV (nmN (s1 b))) N (nmsV (N * 5) (s4 b)) M (nmsV (M * 3) (s6 b N)) (nmV (s7 b N M)) (nmV (nmN (s7 b N M))) (nmV (nmN (nmN (s7 b N M)))) (nmV (nmN (nmN (nmN (s7 b N M))))) B (bxsV maxI B (s9 b N M)) (hashV (bxsN maxI B (s9 b N M))) (nmV (tkN 32 (bxsN maxI B (s9 b N M)))) (nmV (nmN (tkN 32 (bxsN maxI B (s9 b N M)))))) = .t [.v (.slice none 0 0), .v (.int .i64 1)] := by show commitR (rC b N M B) = _; unfold commitR; rw [if_neg (by rw [hm]; decide)]
    rw [eR]
    clear eR
    refine agow ?_; (try with_reducible exact True.intro)
    try rfl
  case true =>
    have eR : commitR (csX (nmV (s1 b)) (nmV (nmN (s1 b))) N (nmsV (N * 5) (s4 b)) M (nmsV (M * 3) (s6 b N)) (nmV (s7 b N M)) (nmV (nmN (s7 b N M))) (nmV (nmN (nmN (s7 b N M)))) (nmV (nmN (nmN (nmN (s7 b N M))))) B (bxsV maxI B (s9 b N M)) (hashV (bxsN maxI B (s9 b N M))) (nmV (tkN 32 (bxsN maxI B (s9 b N M)))) (nmV (nmN (tkN 32 (bxsN maxI B (s9 b N M)))))) = .t [.row (commitN (rC b N M B)) [.bytes (commitN (rC b N M B)) (commitB (rC b N M B))], .v (.int .i64 0)] := by show commitR (rC b N M B) = _; unfold commitR; rw [if_pos hm]
    rw [eR]
    clear eR
    refine agow ?_; (try with_reducible exact True.intro)
    try rfl
set_option maxHeartbeats 8000000 in
theorem rtoB_ebe (b : List UInt8) (hb : b.length ≤ 6000) (N M B : Nat) (he : EndsC b N M B) (hs : N ≤ 3000 ∧ M ≤ 3000 ∧ B ≤ 3000) (hl : LensC b N M B) (hN : (nmV (nmN (nmN (s1 b)))).toNat ≤ N) (hM : M < (nmV (nmsN (N * 5) (s4 b))).toNat) (hMb : (nmsN (M * 3) (s6 b N)).bad = true) (hB : (nmV (s8 b N M)).toNat ≤ B) (h0 : (nmN (nmN (tkN 32 (bxsN maxI B (s9 b N M))))).bad = true) : FnO 5 [.row b.length [.bytes b.length b]] (.t [commit0, .v (.int .i64 2)]) := by
  refine fnA (E := envXd5) Try.func5 Try.ntmps5 ?_
  obtain ⟨n1, n2, n3, m1, m2, m3, b1, b2, b3⟩ := he
  obtain ⟨sN, sM, sB⟩ := hs
  obtain ⟨l1, l2, l3, l4, l5, l6, l7, l8, l9, l10, l11, l12, l13, l14, l15⟩ := hl
  have v1 := nmV_nat (nmN (nmN (s1 b))); have w1 := nmV_max (nmN (nmN (s1 b)))
  have v2 := nmV_nat (nmsN (N * 5) (s4 b)); have w2 := nmV_max (nmsN (N * 5) (s4 b))
  have v3 := nmV_nat (s8 b N M); have w3 := nmV_max (s8 b N M)
  have L1 : (s1 b).bs.length ≤ 1000000 := by omega
  have L1' : (tkN 1 ⟨b, false⟩).bs.length ≤ 1000000 := L1
  have L2 : (nmN (s1 b)).bs.length ≤ 1000000 := by omega
  have L2' : (nmN (tkN 1 ⟨b, false⟩)).bs.length ≤ 1000000 := L2
  have L3 : (nmN (nmN (tkN 1 ⟨b, false⟩))).bs.length ≤ 1000000 := show (nmN (nmN (s1 b))).bs.length ≤ 1000000 by omega
  clear L1 L2
  refine agow ?_; (try with_reducible exact True.intro)
  refine StopL.mk (loop_forV [0, 2, 4, 5, 6, 7] [0, 1, 2] 2 2 68 5 [.ints .i64 0 []] N (fun j => ⟨[.d (.row b.length [.bytes b.length b]), .dead, .ptr 0 0, .dead, .ptr 1 0, .d (.row (tkV 1 ⟨b, false⟩).length [.bytes (tkV 1 ⟨b, false⟩).length (tkV 1 ⟨b, false⟩)]), .ptr 2 0, .d (.v (.int .i64 (nmV (nmN (nmN (s1 b))) - ((j : Nat) : Int)))), .dead, .dead, .dead, .dead, .dead, .dead, .dead, .dead, .dead, .dead, .dead, .dead, .dead, .dead, .dead, .dead, .dead, .dead, .dead, .dead, .dead, .dead, .dead, .dead, .dead, .dead, .dead, .dead, .dead, .dead, .dead, .dead, .dead, .dead, .dead, .dead, .dead, .dead, .dead, .dead, .dead, .dead, .dead, .dead, .dead, .dead, .dead, .dead, .dead, .dead, .dead, .dead, .dead, .dead, .dead, .dead, .dead, .dead, .dead, .dead, .dead, .dead, .dead, .dead, .dead, .dead, .dead, .dead, .dead, .dead, .dead, .dead, .dead, .dead, .dead, .dead, .dead, .dead, .dead, .dead, .dead, .dead, .dead, .dead, .dead, .dead, .dead, .dead, .dead, .dead, .dead, .dead, .dead, .dead, .dead, .dead, .dead, .dead, .dead, .dead, .dead, .dead, .dead, .dead, .dead, .dead, .dead, .dead, .dead, .dead, .dead, .dead, .dead, .dead, .dead, .dead, .dead, .dead, .dead, .dead, .dead, .dead, .dead, .dead, .dead, .dead, .dead, .dead, .dead, .dead, .dead, .dead, .dead, .dead, .dead], [some (.var cs0Z), some (.var (rdL (nmsN (j * 5) (s4 b)))), some (.vh (xs1 b) 2 true 68 5 j [.ints .i64 (j * 5) (nmsV (j * 5) (s4 b))])]⟩) ?_ (h2 := by rw [Nat.zero_mul, nmsN_zero, nmsV_zero, Int.natCast_zero, Int.sub_zero]; exact rfl))
  intro j hj hl
  by_cases h : j < N
  · have h1 : nmV (nmN (nmN (s1 b))) - ((j : Nat) : Int) > 0 := by omega
    have h2 : (nmsN (j * 5) (s4 b)).bad = false := n2 j h
    have h3 : (nmsN (j * 5) (s4 b)).bs.length ≤ 1000000 := by have := l5 (j * 5); omega
    have hw : nmV (nmN (nmN (s1 b))) - ((j + 1 : Nat) : Int) = nmV (nmN (nmN (s1 b))) - ((j : Nat) : Int) - 1 := by omega
    refine agow ?_; (try with_reducible exact True.intro)
    refine hl.go h [0, 2, 4, 5, 6, 7] [0, 1, 2] ?_
    rw [hw, five_mul, nmsN_add, nmsV_add]
    rfl
  obtain rfl : N = j := by omega
  clear hl hj h
  have h1 : ¬ nmV (nmN (nmN (s1 b))) - ((N : Nat) : Int) > 0 := by omega
  have L5 : (nmsN (N * 5) (s4 b)).bs.length ≤ 1000000 := by have := l5 (N * 5); omega
  refine agow ?_; (try with_reducible exact True.intro)
  clear h1
  refine StopL.mk (loop_forV [0, 2, 4, 5, 6, 8] [0, 1, 2] 2 3 71 3 [.ints .i64 0 []] M (fun j => ⟨[.d (.row b.length [.bytes b.length b]), .dead, .ptr 0 0, .dead, .ptr 1 0, .d (.row (tkV 1 ⟨b, false⟩).length [.bytes (tkV 1 ⟨b, false⟩).length (tkV 1 ⟨b, false⟩)]), .ptr 2 0, .dead, .d (.v (.int .i64 (nmV (nmsN (N * 5) (s4 b)) - ((j : Nat) : Int)))), .dead, .dead, .dead, .dead, .dead, .dead, .dead, .dead, .dead, .dead, .dead, .dead, .dead, .dead, .dead, .dead, .dead, .dead, .dead, .dead, .dead, .dead, .dead, .dead, .dead, .dead, .dead, .dead, .dead, .dead, .dead, .dead, .dead, .dead, .dead, .dead, .dead, .dead, .dead, .dead, .dead, .dead, .dead, .dead, .dead, .dead, .dead, .dead, .dead, .dead, .dead, .dead, .dead, .dead, .dead, .dead, .dead, .dead, .dead, .dead, .dead, .dead, .dead, .dead, .dead, .dead, .dead, .dead, .dead, .dead, .dead, .dead, .dead, .dead, .dead, .dead, .dead, .dead, .dead, .dead, .dead, .dead, .dead, .dead, .dead, .dead, .dead, .dead, .dead, .dead, .dead, .dead, .dead, .dead, .dead, .dead, .dead, .dead, .dead, .dead, .dead, .dead, .dead, .dead, .dead, .dead, .dead, .dead, .dead, .dead, .dead, .dead, .dead, .dead, .dead, .dead, .dead, .dead, .dead, .dead, .dead, .dead, .dead, .dead, .dead, .dead, .dead, .dead, .dead, .dead, .dead, .dead, .dead, .dead], [some (.var cs0Z), some (.var (rdL (nmsN (j * 3) (s6 b N)))), some (.vh (xs2 b N) 3 true 71 3 j [.ints .i64 (j * 3) (nmsV (j * 3) (s6 b N))])]⟩) ?_ (h2 := by rw [Nat.zero_mul, nmsN_zero, nmsV_zero, Int.natCast_zero, Int.sub_zero]; exact rfl))
  intro j hj hl
  by_cases h : j < M
  · have h1 : nmV (nmsN (N * 5) (s4 b)) - ((j : Nat) : Int) > 0 := by omega
    have h2 : (nmsN (j * 3) (s6 b N)).bad = false := m2 j h
    have h3 : (nmsN (j * 3) (s6 b N)).bs.length ≤ 1000000 := by have := l7 (j * 3); omega
    have h4 : (nmN (nmsN (j * 3) (s6 b N))).bs.length ≤ 1000000 := by have := nmN_len (nmsN (j * 3) (s6 b N)); omega
    have hw : nmV (nmsN (N * 5) (s4 b)) - ((j + 1 : Nat) : Int) = nmV (nmsN (N * 5) (s4 b)) - ((j : Nat) : Int) - 1 := by omega
    refine agow ?_; (try with_reducible exact True.intro)
    refine hl.go h [0, 2, 4, 5, 6, 8] [0, 1, 2] ?_
    rw [hw, three_mul, nmsN_add, nmsV_add, nmsV_three, nmsN_three]
    rfl
  obtain rfl : M = j := by omega
  clear hl hj h
  have h1 : nmV (nmsN (N * 5) (s4 b)) - ((M : Nat) : Int) > 0 := by omega
  have h2 : (nmsN (M * 3) (s6 b N)).bad = true := hMb
  have L7 : (nmsN (M * 3) (s6 b N)).bs.length ≤ 1000000 := by have := l7 (M * 3); omega
  have L9 : (nmN (nmsN (M * 3) (s6 b N))).bs.length ≤ 1000000 := show (nmN (s7 b N M)).bs.length ≤ 1000000 by omega
  have L10 : (nmN (nmN (nmsN (M * 3) (s6 b N)))).bs.length ≤ 1000000 := show (nmN (nmN (s7 b N M))).bs.length ≤ 1000000 by omega
  have L11 : (nmN (nmN (nmN (nmsN (M * 3) (s6 b N))))).bs.length ≤ 1000000 := show (nmN (nmN (nmN (s7 b N M)))).bs.length ≤ 1000000 by omega
  have L12 : (nmN (nmN (nmN (nmN (nmsN (M * 3) (s6 b N)))))).bs.length ≤ 1000000 := show (s8 b N M).bs.length ≤ 1000000 by omega
  refine agow ?_; (try with_reducible exact True.intro)
  refine StopL.mk (loop_unroll 4 ?_)
  refine agow ?_; (try with_reducible exact True.intro)
  clear h1 L7 L9 L10 L11 L12 h2
  refine StopL.mk (loop_forV [0, 2, 4, 5, 6, 11] [0, 1, 2] 2 8 22 1 [.gen 0 []] B (fun j => ⟨[.d (.row b.length [.bytes b.length b]), .dead, .ptr 0 0, .dead, .ptr 1 0, .d (.row (tkV 1 ⟨b, false⟩).length [.bytes (tkV 1 ⟨b, false⟩).length (tkV 1 ⟨b, false⟩)]), .ptr 2 0, .dead, .dead, .dead, .dead, .d (.v (.int .i64 (nmV (s8 b N M) - ((j : Nat) : Int)))), .dead, .dead, .dead, .dead, .dead, .dead, .dead, .dead, .dead, .dead, .dead, .dead, .dead, .dead, .dead, .dead, .dead, .dead, .dead, .dead, .dead, .dead, .dead, .dead, .dead, .dead, .dead, .dead, .dead, .dead, .dead, .dead, .dead, .dead, .dead, .dead, .dead, .dead, .dead, .dead, .dead, .dead, .dead, .dead, .dead, .dead, .dead, .dead, .dead, .dead, .dead, .dead, .dead, .dead, .dead, .dead, .dead, .dead, .dead, .dead, .dead, .dead, .dead, .dead, .dead, .dead, .dead, .dead, .dead, .dead, .dead, .dead, .dead, .dead, .dead, .dead, .dead, .dead, .dead, .dead, .dead, .dead, .dead, .dead, .dead, .dead, .dead, .dead, .dead, .dead, .dead, .dead, .dead, .dead, .dead, .dead, .dead, .dead, .dead, .dead, .dead, .dead, .dead, .dead, .dead, .dead, .dead, .dead, .dead, .dead, .dead, .dead, .dead, .dead, .dead, .dead, .dead, .dead, .dead, .dead, .dead, .dead, .dead, .dead, .dead, .dead, .dead, .dead, .dead, .dead, .dead], [some (.var cs0Z), some (.var (rdL (bxsN maxI j (s9 b N M)))), some (.vh (xs3 b N M) 8 true 22 1 j [.gen j ((bxsV maxI j (s9 b N M)).map rowA)])]⟩) ?_ (h2 := by rw [bxsN_zero, bxsV_zero, Int.natCast_zero, Int.sub_zero]; exact rfl))
  intro j hj hl
  by_cases h : j < B
  · have h1 : nmV (s8 b N M) - ((j : Nat) : Int) > 0 := by omega
    have h2 : (bxsN maxI j (s9 b N M)).bad = false := b2 j h
    have h3 : (bxsN maxI j (s9 b N M)).bs.length ≤ 1000000 := by have := l14 j; omega
    have h4 : (nmN (bxsN maxI j (s9 b N M))).bs.length ≤ 1000000 := by have := nmN_len (bxsN maxI j (s9 b N M)); omega
    have h5 := nmV_nat (bxsN maxI j (s9 b N M))
    have hw : nmV (s8 b N M) - ((j + 1 : Nat) : Int) = nmV (s8 b N M) - ((j : Nat) : Int) - 1 := by omega
    refine agow ?_; (try with_reducible exact True.intro)
    refine hl.go h [0, 2, 4, 5, 6, 11] [0, 1, 2] ?_
    rw [hw, bxsN_one, bxsV_one, box_maxV, box_maxN]
    rfl
  obtain rfl : B = j := by omega
  clear hl hj h
  have h1 : ¬ nmV (s8 b N M) - ((B : Nat) : Int) > 0 := by omega
  have L14 : (bxsN maxI B (s9 b N M)).bs.length ≤ 1000000 := by have := l14 B; omega
  have L15 : (tkN 32 (bxsN maxI B (s9 b N M))).bs.length ≤ 1000000 := show (s11 b N M B).bs.length ≤ 1000000 by omega
  have X1 : (nmsV (N * 5) (s4 b)).length = N * 5 := nmsV_length _ _
  have X2 : (nmsV (M * 3) (s6 b N)).length = M * 3 := nmsV_length _ _
  have X3 : (hashV (bxsN maxI B (s9 b N M))).length = 32 := hashV_length _
  have X4 : (bxsV maxI B (s9 b N M)).length = B := bxsV_length _ _ _
  have X5 : ∀ p ∈ bxsV maxI B (s9 b N M), p.length ≤ 6000 := fun p hp => by have := bxsV_len maxI B (s9 b N M) p hp; omega
  refine agow ?_; (try with_reducible exact True.intro)
  cases hm : mayB (rC b N M B)
  case false =>
    have eR : commitR (csX (nmV (s1 b)) (nmV (nmN (s1 b))) N (nmsV (N * 5) (s4 b)) M (nmsV (M * 3) (s6 b N)) (nmV (s7 b N M)) (nmV (nmN (s7 b N M))) (nmV (nmN (nmN (s7 b N M)))) (nmV (nmN (nmN (nmN (s7 b N M))))) B (bxsV maxI B (s9 b N M)) (hashV (bxsN maxI B (s9 b N M))) (nmV (tkN 32 (bxsN maxI B (s9 b N M)))) (nmV (nmN (tkN 32 (bxsN maxI B (s9 b N M)))))) = .t [.v (.slice none 0 0), .v (.int .i64 1)] := by show commitR (rC b N M B) = _; unfold commitR; rw [if_neg (by rw [hm]; decide)]
    rw [eR]
    clear eR
    refine agow ?_; (try with_reducible exact True.intro)
    try rfl
  case true =>
    have eR : commitR (csX (nmV (s1 b)) (nmV (nmN (s1 b))) N (nmsV (N * 5) (s4 b)) M (nmsV (M * 3) (s6 b N)) (nmV (s7 b N M)) (nmV (nmN (s7 b N M))) (nmV (nmN (nmN (s7 b N M)))) (nmV (nmN (nmN (nmN (s7 b N M))))) B (bxsV maxI B (s9 b N M)) (hashV (bxsN maxI B (s9 b N M))) (nmV (tkN 32 (bxsN maxI B (s9 b N M)))) (nmV (nmN (tkN 32 (bxsN maxI B (s9 b N M)))))) = .t [.row (commitN (rC b N M B)) [.bytes (commitN (rC b N M B)) (commitB (rC b N M B))], .v (.int .i64 0)] := by show commitR (rC b N M B) = _; unfold commitR; rw [if_pos hm]
    rw [eR]
    clear eR
    refine agow ?_; (try with_reducible exact True.intro)
    try rfl
set_option maxHeartbeats 8000000 in
theorem rtoB_ebb (b : List UInt8) (hb : b.length ≤ 6000) (N M B : Nat) (he : EndsC b N M B) (hs : N ≤ 3000 ∧ M ≤ 3000 ∧ B ≤ 3000) (hl : LensC b N M B) (hN : (nmV (nmN (nmN (s1 b)))).toNat ≤ N) (hM : M < (nmV (nmsN (N * 5) (s4 b))).toNat) (hMb : (nmsN (M * 3) (s6 b N)).bad = true) (hB : B < (nmV (s8 b N M)).toNat) (hBb : (bxsN maxI B (s9 b N M)).bad = true) (h0 : (nmN (nmN (tkN 32 (bxsN maxI B (s9 b N M))))).bad = true) : FnO 5 [.row b.length [.bytes b.length b]] (.t [commit0, .v (.int .i64 2)]) := by
  refine fnA (E := envXd5) Try.func5 Try.ntmps5 ?_
  obtain ⟨n1, n2, n3, m1, m2, m3, b1, b2, b3⟩ := he
  obtain ⟨sN, sM, sB⟩ := hs
  obtain ⟨l1, l2, l3, l4, l5, l6, l7, l8, l9, l10, l11, l12, l13, l14, l15⟩ := hl
  have v1 := nmV_nat (nmN (nmN (s1 b))); have w1 := nmV_max (nmN (nmN (s1 b)))
  have v2 := nmV_nat (nmsN (N * 5) (s4 b)); have w2 := nmV_max (nmsN (N * 5) (s4 b))
  have v3 := nmV_nat (s8 b N M); have w3 := nmV_max (s8 b N M)
  have L1 : (s1 b).bs.length ≤ 1000000 := by omega
  have L1' : (tkN 1 ⟨b, false⟩).bs.length ≤ 1000000 := L1
  have L2 : (nmN (s1 b)).bs.length ≤ 1000000 := by omega
  have L2' : (nmN (tkN 1 ⟨b, false⟩)).bs.length ≤ 1000000 := L2
  have L3 : (nmN (nmN (tkN 1 ⟨b, false⟩))).bs.length ≤ 1000000 := show (nmN (nmN (s1 b))).bs.length ≤ 1000000 by omega
  clear L1 L2
  refine agow ?_; (try with_reducible exact True.intro)
  refine StopL.mk (loop_forV [0, 2, 4, 5, 6, 7] [0, 1, 2] 2 2 68 5 [.ints .i64 0 []] N (fun j => ⟨[.d (.row b.length [.bytes b.length b]), .dead, .ptr 0 0, .dead, .ptr 1 0, .d (.row (tkV 1 ⟨b, false⟩).length [.bytes (tkV 1 ⟨b, false⟩).length (tkV 1 ⟨b, false⟩)]), .ptr 2 0, .d (.v (.int .i64 (nmV (nmN (nmN (s1 b))) - ((j : Nat) : Int)))), .dead, .dead, .dead, .dead, .dead, .dead, .dead, .dead, .dead, .dead, .dead, .dead, .dead, .dead, .dead, .dead, .dead, .dead, .dead, .dead, .dead, .dead, .dead, .dead, .dead, .dead, .dead, .dead, .dead, .dead, .dead, .dead, .dead, .dead, .dead, .dead, .dead, .dead, .dead, .dead, .dead, .dead, .dead, .dead, .dead, .dead, .dead, .dead, .dead, .dead, .dead, .dead, .dead, .dead, .dead, .dead, .dead, .dead, .dead, .dead, .dead, .dead, .dead, .dead, .dead, .dead, .dead, .dead, .dead, .dead, .dead, .dead, .dead, .dead, .dead, .dead, .dead, .dead, .dead, .dead, .dead, .dead, .dead, .dead, .dead, .dead, .dead, .dead, .dead, .dead, .dead, .dead, .dead, .dead, .dead, .dead, .dead, .dead, .dead, .dead, .dead, .dead, .dead, .dead, .dead, .dead, .dead, .dead, .dead, .dead, .dead, .dead, .dead, .dead, .dead, .dead, .dead, .dead, .dead, .dead, .dead, .dead, .dead, .dead, .dead, .dead, .dead, .dead, .dead, .dead, .dead, .dead, .dead, .dead, .dead], [some (.var cs0Z), some (.var (rdL (nmsN (j * 5) (s4 b)))), some (.vh (xs1 b) 2 true 68 5 j [.ints .i64 (j * 5) (nmsV (j * 5) (s4 b))])]⟩) ?_ (h2 := by rw [Nat.zero_mul, nmsN_zero, nmsV_zero, Int.natCast_zero, Int.sub_zero]; exact rfl))
  intro j hj hl
  by_cases h : j < N
  · have h1 : nmV (nmN (nmN (s1 b))) - ((j : Nat) : Int) > 0 := by omega
    have h2 : (nmsN (j * 5) (s4 b)).bad = false := n2 j h
    have h3 : (nmsN (j * 5) (s4 b)).bs.length ≤ 1000000 := by have := l5 (j * 5); omega
    have hw : nmV (nmN (nmN (s1 b))) - ((j + 1 : Nat) : Int) = nmV (nmN (nmN (s1 b))) - ((j : Nat) : Int) - 1 := by omega
    refine agow ?_; (try with_reducible exact True.intro)
    refine hl.go h [0, 2, 4, 5, 6, 7] [0, 1, 2] ?_
    rw [hw, five_mul, nmsN_add, nmsV_add]
    rfl
  obtain rfl : N = j := by omega
  clear hl hj h
  have h1 : ¬ nmV (nmN (nmN (s1 b))) - ((N : Nat) : Int) > 0 := by omega
  have L5 : (nmsN (N * 5) (s4 b)).bs.length ≤ 1000000 := by have := l5 (N * 5); omega
  refine agow ?_; (try with_reducible exact True.intro)
  clear h1
  refine StopL.mk (loop_forV [0, 2, 4, 5, 6, 8] [0, 1, 2] 2 3 71 3 [.ints .i64 0 []] M (fun j => ⟨[.d (.row b.length [.bytes b.length b]), .dead, .ptr 0 0, .dead, .ptr 1 0, .d (.row (tkV 1 ⟨b, false⟩).length [.bytes (tkV 1 ⟨b, false⟩).length (tkV 1 ⟨b, false⟩)]), .ptr 2 0, .dead, .d (.v (.int .i64 (nmV (nmsN (N * 5) (s4 b)) - ((j : Nat) : Int)))), .dead, .dead, .dead, .dead, .dead, .dead, .dead, .dead, .dead, .dead, .dead, .dead, .dead, .dead, .dead, .dead, .dead, .dead, .dead, .dead, .dead, .dead, .dead, .dead, .dead, .dead, .dead, .dead, .dead, .dead, .dead, .dead, .dead, .dead, .dead, .dead, .dead, .dead, .dead, .dead, .dead, .dead, .dead, .dead, .dead, .dead, .dead, .dead, .dead, .dead, .dead, .dead, .dead, .dead, .dead, .dead, .dead, .dead, .dead, .dead, .dead, .dead, .dead, .dead, .dead, .dead, .dead, .dead, .dead, .dead, .dead, .dead, .dead, .dead, .dead, .dead, .dead, .dead, .dead, .dead, .dead, .dead, .dead, .dead, .dead, .dead, .dead, .dead, .dead, .dead, .dead, .dead, .dead, .dead, .dead, .dead, .dead, .dead, .dead, .dead, .dead, .dead, .dead, .dead, .dead, .dead, .dead, .dead, .dead, .dead, .dead, .dead, .dead, .dead, .dead, .dead, .dead, .dead, .dead, .dead, .dead, .dead, .dead, .dead, .dead, .dead, .dead, .dead, .dead, .dead, .dead, .dead, .dead, .dead], [some (.var cs0Z), some (.var (rdL (nmsN (j * 3) (s6 b N)))), some (.vh (xs2 b N) 3 true 71 3 j [.ints .i64 (j * 3) (nmsV (j * 3) (s6 b N))])]⟩) ?_ (h2 := by rw [Nat.zero_mul, nmsN_zero, nmsV_zero, Int.natCast_zero, Int.sub_zero]; exact rfl))
  intro j hj hl
  by_cases h : j < M
  · have h1 : nmV (nmsN (N * 5) (s4 b)) - ((j : Nat) : Int) > 0 := by omega
    have h2 : (nmsN (j * 3) (s6 b N)).bad = false := m2 j h
    have h3 : (nmsN (j * 3) (s6 b N)).bs.length ≤ 1000000 := by have := l7 (j * 3); omega
    have h4 : (nmN (nmsN (j * 3) (s6 b N))).bs.length ≤ 1000000 := by have := nmN_len (nmsN (j * 3) (s6 b N)); omega
    have hw : nmV (nmsN (N * 5) (s4 b)) - ((j + 1 : Nat) : Int) = nmV (nmsN (N * 5) (s4 b)) - ((j : Nat) : Int) - 1 := by omega
    refine agow ?_; (try with_reducible exact True.intro)
    refine hl.go h [0, 2, 4, 5, 6, 8] [0, 1, 2] ?_
    rw [hw, three_mul, nmsN_add, nmsV_add, nmsV_three, nmsN_three]
    rfl
  obtain rfl : M = j := by omega
  clear hl hj h
  have h1 : nmV (nmsN (N * 5) (s4 b)) - ((M : Nat) : Int) > 0 := by omega
  have h2 : (nmsN (M * 3) (s6 b N)).bad = true := hMb
  have L7 : (nmsN (M * 3) (s6 b N)).bs.length ≤ 1000000 := by have := l7 (M * 3); omega
  have L9 : (nmN (nmsN (M * 3) (s6 b N))).bs.length ≤ 1000000 := show (nmN (s7 b N M)).bs.length ≤ 1000000 by omega
  have L10 : (nmN (nmN (nmsN (M * 3) (s6 b N)))).bs.length ≤ 1000000 := show (nmN (nmN (s7 b N M))).bs.length ≤ 1000000 by omega
  have L11 : (nmN (nmN (nmN (nmsN (M * 3) (s6 b N))))).bs.length ≤ 1000000 := show (nmN (nmN (nmN (s7 b N M)))).bs.length ≤ 1000000 by omega
  have L12 : (nmN (nmN (nmN (nmN (nmsN (M * 3) (s6 b N)))))).bs.length ≤ 1000000 := show (s8 b N M).bs.length ≤ 1000000 by omega
  refine agow ?_; (try with_reducible exact True.intro)
  refine StopL.mk (loop_unroll 4 ?_)
  refine agow ?_; (try with_reducible exact True.intro)
  clear h1 L7 L9 L10 L11 L12 h2
  refine StopL.mk (loop_forV [0, 2, 4, 5, 6, 11] [0, 1, 2] 2 8 22 1 [.gen 0 []] B (fun j => ⟨[.d (.row b.length [.bytes b.length b]), .dead, .ptr 0 0, .dead, .ptr 1 0, .d (.row (tkV 1 ⟨b, false⟩).length [.bytes (tkV 1 ⟨b, false⟩).length (tkV 1 ⟨b, false⟩)]), .ptr 2 0, .dead, .dead, .dead, .dead, .d (.v (.int .i64 (nmV (s8 b N M) - ((j : Nat) : Int)))), .dead, .dead, .dead, .dead, .dead, .dead, .dead, .dead, .dead, .dead, .dead, .dead, .dead, .dead, .dead, .dead, .dead, .dead, .dead, .dead, .dead, .dead, .dead, .dead, .dead, .dead, .dead, .dead, .dead, .dead, .dead, .dead, .dead, .dead, .dead, .dead, .dead, .dead, .dead, .dead, .dead, .dead, .dead, .dead, .dead, .dead, .dead, .dead, .dead, .dead, .dead, .dead, .dead, .dead, .dead, .dead, .dead, .dead, .dead, .dead, .dead, .dead, .dead, .dead, .dead, .dead, .dead, .dead, .dead, .dead, .dead, .dead, .dead, .dead, .dead, .dead, .dead, .dead, .dead, .dead, .dead, .dead, .dead, .dead, .dead, .dead, .dead, .dead, .dead, .dead, .dead, .dead, .dead, .dead, .dead, .dead, .dead, .dead, .dead, .dead, .dead, .dead, .dead, .dead, .dead, .dead, .dead, .dead, .dead, .dead, .dead, .dead, .dead, .dead, .dead, .dead, .dead, .dead, .dead, .dead, .dead, .dead, .dead, .dead, .dead, .dead, .dead, .dead, .dead, .dead, .dead], [some (.var cs0Z), some (.var (rdL (bxsN maxI j (s9 b N M)))), some (.vh (xs3 b N M) 8 true 22 1 j [.gen j ((bxsV maxI j (s9 b N M)).map rowA)])]⟩) ?_ (h2 := by rw [bxsN_zero, bxsV_zero, Int.natCast_zero, Int.sub_zero]; exact rfl))
  intro j hj hl
  by_cases h : j < B
  · have h1 : nmV (s8 b N M) - ((j : Nat) : Int) > 0 := by omega
    have h2 : (bxsN maxI j (s9 b N M)).bad = false := b2 j h
    have h3 : (bxsN maxI j (s9 b N M)).bs.length ≤ 1000000 := by have := l14 j; omega
    have h4 : (nmN (bxsN maxI j (s9 b N M))).bs.length ≤ 1000000 := by have := nmN_len (bxsN maxI j (s9 b N M)); omega
    have h5 := nmV_nat (bxsN maxI j (s9 b N M))
    have hw : nmV (s8 b N M) - ((j + 1 : Nat) : Int) = nmV (s8 b N M) - ((j : Nat) : Int) - 1 := by omega
    refine agow ?_; (try with_reducible exact True.intro)
    refine hl.go h [0, 2, 4, 5, 6, 11] [0, 1, 2] ?_
    rw [hw, bxsN_one, bxsV_one, box_maxV, box_maxN]
    rfl
  obtain rfl : B = j := by omega
  clear hl hj h
  have h1 : nmV (s8 b N M) - ((B : Nat) : Int) > 0 := by omega
  have h2 : (bxsN maxI B (s9 b N M)).bad = true := hBb
  have L14 : (bxsN maxI B (s9 b N M)).bs.length ≤ 1000000 := by have := l14 B; omega
  have L15 : (tkN 32 (bxsN maxI B (s9 b N M))).bs.length ≤ 1000000 := show (s11 b N M B).bs.length ≤ 1000000 by omega
  have X1 : (nmsV (N * 5) (s4 b)).length = N * 5 := nmsV_length _ _
  have X2 : (nmsV (M * 3) (s6 b N)).length = M * 3 := nmsV_length _ _
  have X3 : (hashV (bxsN maxI B (s9 b N M))).length = 32 := hashV_length _
  have X4 : (bxsV maxI B (s9 b N M)).length = B := bxsV_length _ _ _
  have X5 : ∀ p ∈ bxsV maxI B (s9 b N M), p.length ≤ 6000 := fun p hp => by have := bxsV_len maxI B (s9 b N M) p hp; omega
  refine agow ?_; (try with_reducible exact True.intro)
  cases hm : mayB (rC b N M B)
  case false =>
    have eR : commitR (csX (nmV (s1 b)) (nmV (nmN (s1 b))) N (nmsV (N * 5) (s4 b)) M (nmsV (M * 3) (s6 b N)) (nmV (s7 b N M)) (nmV (nmN (s7 b N M))) (nmV (nmN (nmN (s7 b N M)))) (nmV (nmN (nmN (nmN (s7 b N M))))) B (bxsV maxI B (s9 b N M)) (hashV (bxsN maxI B (s9 b N M))) (nmV (tkN 32 (bxsN maxI B (s9 b N M)))) (nmV (nmN (tkN 32 (bxsN maxI B (s9 b N M)))))) = .t [.v (.slice none 0 0), .v (.int .i64 1)] := by show commitR (rC b N M B) = _; unfold commitR; rw [if_neg (by rw [hm]; decide)]
    rw [eR]
    clear eR
    refine agow ?_; (try with_reducible exact True.intro)
    try rfl
  case true =>
    have eR : commitR (csX (nmV (s1 b)) (nmV (nmN (s1 b))) N (nmsV (N * 5) (s4 b)) M (nmsV (M * 3) (s6 b N)) (nmV (s7 b N M)) (nmV (nmN (s7 b N M))) (nmV (nmN (nmN (s7 b N M)))) (nmV (nmN (nmN (nmN (s7 b N M))))) B (bxsV maxI B (s9 b N M)) (hashV (bxsN maxI B (s9 b N M))) (nmV (tkN 32 (bxsN maxI B (s9 b N M)))) (nmV (nmN (tkN 32 (bxsN maxI B (s9 b N M)))))) = .t [.row (commitN (rC b N M B)) [.bytes (commitN (rC b N M B)) (commitB (rC b N M B))], .v (.int .i64 0)] := by show commitR (rC b N M B) = _; unfold commitR; rw [if_pos hm]
    rw [eR]
    clear eR
    refine agow ?_; (try with_reducible exact True.intro)
    try rfl
set_option maxHeartbeats 8000000 in
theorem rtoB_bee (b : List UInt8) (hb : b.length ≤ 6000) (N M B : Nat) (he : EndsC b N M B) (hs : N ≤ 3000 ∧ M ≤ 3000 ∧ B ≤ 3000) (hl : LensC b N M B) (hN : N < (nmV (nmN (nmN (s1 b)))).toNat) (hNb : (nmsN (N * 5) (s4 b)).bad = true) (hM : (nmV (nmsN (N * 5) (s4 b))).toNat ≤ M) (hB : (nmV (s8 b N M)).toNat ≤ B) (h0 : (nmN (nmN (tkN 32 (bxsN maxI B (s9 b N M))))).bad = true) : FnO 5 [.row b.length [.bytes b.length b]] (.t [commit0, .v (.int .i64 2)]) := by
  refine fnA (E := envXd5) Try.func5 Try.ntmps5 ?_
  obtain ⟨n1, n2, n3, m1, m2, m3, b1, b2, b3⟩ := he
  obtain ⟨sN, sM, sB⟩ := hs
  obtain ⟨l1, l2, l3, l4, l5, l6, l7, l8, l9, l10, l11, l12, l13, l14, l15⟩ := hl
  have v1 := nmV_nat (nmN (nmN (s1 b))); have w1 := nmV_max (nmN (nmN (s1 b)))
  have v2 := nmV_nat (nmsN (N * 5) (s4 b)); have w2 := nmV_max (nmsN (N * 5) (s4 b))
  have v3 := nmV_nat (s8 b N M); have w3 := nmV_max (s8 b N M)
  have L1 : (s1 b).bs.length ≤ 1000000 := by omega
  have L1' : (tkN 1 ⟨b, false⟩).bs.length ≤ 1000000 := L1
  have L2 : (nmN (s1 b)).bs.length ≤ 1000000 := by omega
  have L2' : (nmN (tkN 1 ⟨b, false⟩)).bs.length ≤ 1000000 := L2
  have L3 : (nmN (nmN (tkN 1 ⟨b, false⟩))).bs.length ≤ 1000000 := show (nmN (nmN (s1 b))).bs.length ≤ 1000000 by omega
  clear L1 L2
  refine agow ?_; (try with_reducible exact True.intro)
  refine StopL.mk (loop_forV [0, 2, 4, 5, 6, 7] [0, 1, 2] 2 2 68 5 [.ints .i64 0 []] N (fun j => ⟨[.d (.row b.length [.bytes b.length b]), .dead, .ptr 0 0, .dead, .ptr 1 0, .d (.row (tkV 1 ⟨b, false⟩).length [.bytes (tkV 1 ⟨b, false⟩).length (tkV 1 ⟨b, false⟩)]), .ptr 2 0, .d (.v (.int .i64 (nmV (nmN (nmN (s1 b))) - ((j : Nat) : Int)))), .dead, .dead, .dead, .dead, .dead, .dead, .dead, .dead, .dead, .dead, .dead, .dead, .dead, .dead, .dead, .dead, .dead, .dead, .dead, .dead, .dead, .dead, .dead, .dead, .dead, .dead, .dead, .dead, .dead, .dead, .dead, .dead, .dead, .dead, .dead, .dead, .dead, .dead, .dead, .dead, .dead, .dead, .dead, .dead, .dead, .dead, .dead, .dead, .dead, .dead, .dead, .dead, .dead, .dead, .dead, .dead, .dead, .dead, .dead, .dead, .dead, .dead, .dead, .dead, .dead, .dead, .dead, .dead, .dead, .dead, .dead, .dead, .dead, .dead, .dead, .dead, .dead, .dead, .dead, .dead, .dead, .dead, .dead, .dead, .dead, .dead, .dead, .dead, .dead, .dead, .dead, .dead, .dead, .dead, .dead, .dead, .dead, .dead, .dead, .dead, .dead, .dead, .dead, .dead, .dead, .dead, .dead, .dead, .dead, .dead, .dead, .dead, .dead, .dead, .dead, .dead, .dead, .dead, .dead, .dead, .dead, .dead, .dead, .dead, .dead, .dead, .dead, .dead, .dead, .dead, .dead, .dead, .dead, .dead, .dead], [some (.var cs0Z), some (.var (rdL (nmsN (j * 5) (s4 b)))), some (.vh (xs1 b) 2 true 68 5 j [.ints .i64 (j * 5) (nmsV (j * 5) (s4 b))])]⟩) ?_ (h2 := by rw [Nat.zero_mul, nmsN_zero, nmsV_zero, Int.natCast_zero, Int.sub_zero]; exact rfl))
  intro j hj hl
  by_cases h : j < N
  · have h1 : nmV (nmN (nmN (s1 b))) - ((j : Nat) : Int) > 0 := by omega
    have h2 : (nmsN (j * 5) (s4 b)).bad = false := n2 j h
    have h3 : (nmsN (j * 5) (s4 b)).bs.length ≤ 1000000 := by have := l5 (j * 5); omega
    have hw : nmV (nmN (nmN (s1 b))) - ((j + 1 : Nat) : Int) = nmV (nmN (nmN (s1 b))) - ((j : Nat) : Int) - 1 := by omega
    refine agow ?_; (try with_reducible exact True.intro)
    refine hl.go h [0, 2, 4, 5, 6, 7] [0, 1, 2] ?_
    rw [hw, five_mul, nmsN_add, nmsV_add]
    rfl
  obtain rfl : N = j := by omega
  clear hl hj h
  have h1 : nmV (nmN (nmN (s1 b))) - ((N : Nat) : Int) > 0 := by omega
  have h2 : (nmsN (N * 5) (s4 b)).bad = true := hNb
  have L5 : (nmsN (N * 5) (s4 b)).bs.length ≤ 1000000 := by have := l5 (N * 5); omega
  refine agow ?_; (try with_reducible exact True.intro)
  clear h1 h2
  refine StopL.mk (loop_forV [0, 2, 4, 5, 6, 8] [0, 1, 2] 2 3 71 3 [.ints .i64 0 []] M (fun j => ⟨[.d (.row b.length [.bytes b.length b]), .dead, .ptr 0 0, .dead, .ptr 1 0, .d (.row (tkV 1 ⟨b, false⟩).length [.bytes (tkV 1 ⟨b, false⟩).length (tkV 1 ⟨b, false⟩)]), .ptr 2 0, .dead, .d (.v (.int .i64 (nmV (nmsN (N * 5) (s4 b)) - ((j : Nat) : Int)))), .dead, .dead, .dead, .dead, .dead, .dead, .dead, .dead, .dead, .dead, .dead, .dead, .dead, .dead, .dead, .dead, .dead, .dead, .dead, .dead, .dead, .dead, .dead, .dead, .dead, .dead, .dead, .dead, .dead, .dead, .dead, .dead, .dead, .dead, .dead, .dead, .dead, .dead, .dead, .dead, .dead, .dead, .dead, .dead, .dead, .dead, .dead, .dead, .dead, .dead, .dead, .dead, .dead, .dead, .dead, .dead, .dead, .dead, .dead, .dead, .dead, .dead, .dead, .dead, .dead, .dead, .dead, .dead, .dead, .dead, .dead, .dead, .dead, .dead, .dead, .dead, .dead, .dead, .dead, .dead, .dead, .dead, .dead, .dead, .dead, .dead, .dead, .dead, .dead, .dead, .dead, .dead, .dead, .dead, .dead, .dead, .dead, .dead, .dead, .dead, .dead, .dead, .dead, .dead, .dead, .dead, .dead, .dead, .dead, .dead, .dead, .dead, .dead, .dead, .dead, .dead, .dead, .dead, .dead, .dead, .dead, .dead, .dead, .dead, .dead, .dead, .dead, .dead, .dead, .dead, .dead, .dead, .dead, .dead], [some (.var cs0Z), some (.var (rdL (nmsN (j * 3) (s6 b N)))), some (.vh (xs2 b N) 3 true 71 3 j [.ints .i64 (j * 3) (nmsV (j * 3) (s6 b N))])]⟩) ?_ (h2 := by rw [Nat.zero_mul, nmsN_zero, nmsV_zero, Int.natCast_zero, Int.sub_zero]; exact rfl))
  intro j hj hl
  by_cases h : j < M
  · have h1 : nmV (nmsN (N * 5) (s4 b)) - ((j : Nat) : Int) > 0 := by omega
    have h2 : (nmsN (j * 3) (s6 b N)).bad = false := m2 j h
    have h3 : (nmsN (j * 3) (s6 b N)).bs.length ≤ 1000000 := by have := l7 (j * 3); omega
    have h4 : (nmN (nmsN (j * 3) (s6 b N))).bs.length ≤ 1000000 := by have := nmN_len (nmsN (j * 3) (s6 b N)); omega
    have hw : nmV (nmsN (N * 5) (s4 b)) - ((j + 1 : Nat) : Int) = nmV (nmsN (N * 5) (s4 b)) - ((j : Nat) : Int) - 1 := by omega
    refine agow ?_; (try with_reducible exact True.intro)
    refine hl.go h [0, 2, 4, 5, 6, 8] [0, 1, 2] ?_
    rw [hw, three_mul, nmsN_add, nmsV_add, nmsV_three, nmsN_three]
    rfl
  obtain rfl : M = j := by omega
  clear hl hj h
  have h1 : ¬ nmV (nmsN (N * 5) (s4 b)) - ((M : Nat) : Int) > 0 := by omega
  have L7 : (nmsN (M * 3) (s6 b N)).bs.length ≤ 1000000 := by have := l7 (M * 3); omega
  have L9 : (nmN (nmsN (M * 3) (s6 b N))).bs.length ≤ 1000000 := show (nmN (s7 b N M)).bs.length ≤ 1000000 by omega
  have L10 : (nmN (nmN (nmsN (M * 3) (s6 b N)))).bs.length ≤ 1000000 := show (nmN (nmN (s7 b N M))).bs.length ≤ 1000000 by omega
  have L11 : (nmN (nmN (nmN (nmsN (M * 3) (s6 b N))))).bs.length ≤ 1000000 := show (nmN (nmN (nmN (s7 b N M)))).bs.length ≤ 1000000 by omega
  have L12 : (nmN (nmN (nmN (nmN (nmsN (M * 3) (s6 b N)))))).bs.length ≤ 1000000 := show (s8 b N M).bs.length ≤ 1000000 by omega
  refine agow ?_; (try with_reducible exact True.intro)
  refine StopL.mk (loop_unroll 4 ?_)
  refine agow ?_; (try with_reducible exact True.intro)
  clear h1 L7 L9 L10 L11 L12
  refine StopL.mk (loop_forV [0, 2, 4, 5, 6, 11] [0, 1, 2] 2 8 22 1 [.gen 0 []] B (fun j => ⟨[.d (.row b.length [.bytes b.length b]), .dead, .ptr 0 0, .dead, .ptr 1 0, .d (.row (tkV 1 ⟨b, false⟩).length [.bytes (tkV 1 ⟨b, false⟩).length (tkV 1 ⟨b, false⟩)]), .ptr 2 0, .dead, .dead, .dead, .dead, .d (.v (.int .i64 (nmV (s8 b N M) - ((j : Nat) : Int)))), .dead, .dead, .dead, .dead, .dead, .dead, .dead, .dead, .dead, .dead, .dead, .dead, .dead, .dead, .dead, .dead, .dead, .dead, .dead, .dead, .dead, .dead, .dead, .dead, .dead, .dead, .dead, .dead, .dead, .dead, .dead, .dead, .dead, .dead, .dead, .dead, .dead, .dead, .dead, .dead, .dead, .dead, .dead, .dead, .dead, .dead, .dead, .dead, .dead, .dead, .dead, .dead, .dead, .dead, .dead, .dead, .dead, .dead, .dead, .dead, .dead, .dead, .dead, .dead, .dead, .dead, .dead, .dead, .dead, .dead, .dead, .dead, .dead, .dead, .dead, .dead, .dead, .dead, .dead, .dead, .dead, .dead, .dead, .dead, .dead, .dead, .dead, .dead, .dead, .dead, .dead, .dead, .dead, .dead, .dead, .dead, .dead, .dead, .dead, .dead, .dead, .dead, .dead, .dead, .dead, .dead, .dead, .dead, .dead, .dead, .dead, .dead, .dead, .dead, .dead, .dead, .dead, .dead, .dead, .dead, .dead, .dead, .dead, .dead, .dead, .dead, .dead, .dead, .dead, .dead, .dead], [some (.var cs0Z), some (.var (rdL (bxsN maxI j (s9 b N M)))), some (.vh (xs3 b N M) 8 true 22 1 j [.gen j ((bxsV maxI j (s9 b N M)).map rowA)])]⟩) ?_ (h2 := by rw [bxsN_zero, bxsV_zero, Int.natCast_zero, Int.sub_zero]; exact rfl))
  intro j hj hl
  by_cases h : j < B
  · have h1 : nmV (s8 b N M) - ((j : Nat) : Int) > 0 := by omega
    have h2 : (bxsN maxI j (s9 b N M)).bad = false := b2 j h
    have h3 : (bxsN maxI j (s9 b N M)).bs.length ≤ 1000000 := by have := l14 j; omega
    have h4 : (nmN (bxsN maxI j (s9 b N M))).bs.length ≤ 1000000 := by have := nmN_len (bxsN maxI j (s9 b N M)); omega
    have h5 := nmV_nat (bxsN maxI j (s9 b N M))
    have hw : nmV (s8 b N M) - ((j + 1 : Nat) : Int) = nmV (s8 b N M) - ((j : Nat) : Int) - 1 := by omega
    refine agow ?_; (try with_reducible exact True.intro)
    refine hl.go h [0, 2, 4, 5, 6, 11] [0, 1, 2] ?_
    rw [hw, bxsN_one, bxsV_one, box_maxV, box_maxN]
    rfl
  obtain rfl : B = j := by omega
  clear hl hj h
  have h1 : ¬ nmV (s8 b N M) - ((B : Nat) : Int) > 0 := by omega
  have L14 : (bxsN maxI B (s9 b N M)).bs.length ≤ 1000000 := by have := l14 B; omega
  have L15 : (tkN 32 (bxsN maxI B (s9 b N M))).bs.length ≤ 1000000 := show (s11 b N M B).bs.length ≤ 1000000 by omega
  have X1 : (nmsV (N * 5) (s4 b)).length = N * 5 := nmsV_length _ _
  have X2 : (nmsV (M * 3) (s6 b N)).length = M * 3 := nmsV_length _ _
  have X3 : (hashV (bxsN maxI B (s9 b N M))).length = 32 := hashV_length _
  have X4 : (bxsV maxI B (s9 b N M)).length = B := bxsV_length _ _ _
  have X5 : ∀ p ∈ bxsV maxI B (s9 b N M), p.length ≤ 6000 := fun p hp => by have := bxsV_len maxI B (s9 b N M) p hp; omega
  refine agow ?_; (try with_reducible exact True.intro)
  cases hm : mayB (rC b N M B)
  case false =>
    have eR : commitR (csX (nmV (s1 b)) (nmV (nmN (s1 b))) N (nmsV (N * 5) (s4 b)) M (nmsV (M * 3) (s6 b N)) (nmV (s7 b N M)) (nmV (nmN (s7 b N M))) (nmV (nmN (nmN (s7 b N M)))) (nmV (nmN (nmN (nmN (s7 b N M))))) B (bxsV maxI B (s9 b N M)) (hashV (bxsN maxI B (s9 b N M))) (nmV (tkN 32 (bxsN maxI B (s9 b N M)))) (nmV (nmN (tkN 32 (bxsN maxI B (s9 b N M)))))) = .t [.v (.slice none 0 0), .v (.int .i64 1)] := by show commitR (rC b N M B) = _; unfold commitR; rw [if_neg (by rw [hm]; decide)]
    rw [eR]
    clear eR
    refine agow ?_; (try with_reducible exact True.intro)
    try rfl
  case true =>
    have eR : commitR (csX (nmV (s1 b)) (nmV (nmN (s1 b))) N (nmsV (N * 5) (s4 b)) M (nmsV (M * 3) (s6 b N)) (nmV (s7 b N M)) (nmV (nmN (s7 b N M))) (nmV (nmN (nmN (s7 b N M)))) (nmV (nmN (nmN (nmN (s7 b N M))))) B (bxsV maxI B (s9 b N M)) (hashV (bxsN maxI B (s9 b N M))) (nmV (tkN 32 (bxsN maxI B (s9 b N M)))) (nmV (nmN (tkN 32 (bxsN maxI B (s9 b N M)))))) = .t [.row (commitN (rC b N M B)) [.bytes (commitN (rC b N M B)) (commitB (rC b N M B))], .v (.int .i64 0)] := by show commitR (rC b N M B) = _; unfold commitR; rw [if_pos hm]
    rw [eR]
    clear eR
    refine agow ?_; (try with_reducible exact True.intro)
    try rfl
set_option maxHeartbeats 8000000 in
theorem rtoB_beb (b : List UInt8) (hb : b.length ≤ 6000) (N M B : Nat) (he : EndsC b N M B) (hs : N ≤ 3000 ∧ M ≤ 3000 ∧ B ≤ 3000) (hl : LensC b N M B) (hN : N < (nmV (nmN (nmN (s1 b)))).toNat) (hNb : (nmsN (N * 5) (s4 b)).bad = true) (hM : (nmV (nmsN (N * 5) (s4 b))).toNat ≤ M) (hB : B < (nmV (s8 b N M)).toNat) (hBb : (bxsN maxI B (s9 b N M)).bad = true) (h0 : (nmN (nmN (tkN 32 (bxsN maxI B (s9 b N M))))).bad = true) : FnO 5 [.row b.length [.bytes b.length b]] (.t [commit0, .v (.int .i64 2)]) := by
  refine fnA (E := envXd5) Try.func5 Try.ntmps5 ?_
  obtain ⟨n1, n2, n3, m1, m2, m3, b1, b2, b3⟩ := he
  obtain ⟨sN, sM, sB⟩ := hs
  obtain ⟨l1, l2, l3, l4, l5, l6, l7, l8, l9, l10, l11, l12, l13, l14, l15⟩ := hl
  have v1 := nmV_nat (nmN (nmN (s1 b))); have w1 := nmV_max (nmN (nmN (s1 b)))
  have v2 := nmV_nat (nmsN (N * 5) (s4 b)); have w2 := nmV_max (nmsN (N * 5) (s4 b))
  have v3 := nmV_nat (s8 b N M); have w3 := nmV_max (s8 b N M)
  have L1 : (s1 b).bs.length ≤ 1000000 := by omega
  have L1' : (tkN 1 ⟨b, false⟩).bs.length ≤ 1000000 := L1
  have L2 : (nmN (s1 b)).bs.length ≤ 1000000 := by omega
  have L2' : (nmN (tkN 1 ⟨b, false⟩)).bs.length ≤ 1000000 := L2
  have L3 : (nmN (nmN (tkN 1 ⟨b, false⟩))).bs.length ≤ 1000000 := show (nmN (nmN (s1 b))).bs.length ≤ 1000000 by omega
  clear L1 L2
  refine agow ?_; (try with_reducible exact True.intro)
  refine StopL.mk (loop_forV [0, 2, 4, 5, 6, 7] [0, 1, 2] 2 2 68 5 [.ints .i64 0 []] N (fun j => ⟨[.d (.row b.length [.bytes b.length b]), .dead, .ptr 0 0, .dead, .ptr 1 0, .d (.row (tkV 1 ⟨b, false⟩).length [.bytes (tkV 1 ⟨b, false⟩).length (tkV 1 ⟨b, false⟩)]), .ptr 2 0, .d (.v (.int .i64 (nmV (nmN (nmN (s1 b))) - ((j : Nat) : Int)))), .dead, .dead, .dead, .dead, .dead, .dead, .dead, .dead, .dead, .dead, .dead, .dead, .dead, .dead, .dead, .dead, .dead, .dead, .dead, .dead, .dead, .dead, .dead, .dead, .dead, .dead, .dead, .dead, .dead, .dead, .dead, .dead, .dead, .dead, .dead, .dead, .dead, .dead, .dead, .dead, .dead, .dead, .dead, .dead, .dead, .dead, .dead, .dead, .dead, .dead, .dead, .dead, .dead, .dead, .dead, .dead, .dead, .dead, .dead, .dead, .dead, .dead, .dead, .dead, .dead, .dead, .dead, .dead, .dead, .dead, .dead, .dead, .dead, .dead, .dead, .dead, .dead, .dead, .dead, .dead, .dead, .dead, .dead, .dead, .dead, .dead, .dead, .dead, .dead, .dead, .dead, .dead, .dead, .dead, .dead, .dead, .dead, .dead, .dead, .dead, .dead, .dead, .dead, .dead, .dead, .dead, .dead, .dead, .dead, .dead, .dead, .dead, .dead, .dead, .dead, .dead, .dead, .dead, .dead, .dead, .dead, .dead, .dead, .dead, .dead, .dead, .dead, .dead, .dead, .dead, .dead, .dead, .dead, .dead, .dead], [some (.var cs0Z), some (.var (rdL (nmsN (j * 5) (s4 b)))), some (.vh (xs1 b) 2 true 68 5 j [.ints .i64 (j * 5) (nmsV (j * 5) (s4 b))])]⟩) ?_ (h2 := by rw [Nat.zero_mul, nmsN_zero, nmsV_zero, Int.natCast_zero, Int.sub_zero]; exact rfl))
  intro j hj hl
  by_cases h : j < N
  · have h1 : nmV (nmN (nmN (s1 b))) - ((j : Nat) : Int) > 0 := by omega
    have h2 : (nmsN (j * 5) (s4 b)).bad = false := n2 j h
    have h3 : (nmsN (j * 5) (s4 b)).bs.length ≤ 1000000 := by have := l5 (j * 5); omega
    have hw : nmV (nmN (nmN (s1 b))) - ((j + 1 : Nat) : Int) = nmV (nmN (nmN (s1 b))) - ((j : Nat) : Int) - 1 := by omega
    refine agow ?_; (try with_reducible exact True.intro)
    refine hl.go h [0, 2, 4, 5, 6, 7] [0, 1, 2] ?_
    rw [hw, five_mul, nmsN_add, nmsV_add]
    rfl
  obtain rfl : N = j := by omega
  clear hl hj h
  have h1 : nmV (nmN (nmN (s1 b))) - ((N : Nat) : Int) > 0 := by omega
  have h2 : (nmsN (N * 5) (s4 b)).bad = true := hNb
  have L5 : (nmsN (N * 5) (s4 b)).bs.length ≤ 1000000 := by have := l5 (N * 5); omega
  refine agow ?_; (try with_reducible exact True.intro)
  clear h1 h2
  refine StopL.mk (loop_forV [0, 2, 4, 5, 6, 8] [0, 1, 2] 2 3 71 3 [.ints .i64 0 []] M (fun j => ⟨[.d (.row b.length [.bytes b.length b]), .dead, .ptr 0 0, .dead, .ptr 1 0, .d (.row (tkV 1 ⟨b, false⟩).length [.bytes (tkV 1 ⟨b, false⟩).length (tkV 1 ⟨b, false⟩)]), .ptr 2 0, .dead, .d (.v (.int .i64 (nmV (nmsN (N * 5) (s4 b)) - ((j : Nat) : Int)))), .dead, .dead, .dead, .dead, .dead, .dead, .dead, .dead, .dead, .dead, .dead, .dead, .dead, .dead, .dead, .dead, .dead, .dead, .dead, .dead, .dead, .dead, .dead, .dead, .dead, .dead, .dead, .dead, .dead, .dead, .dead, .dead, .dead, .dead, .dead, .dead, .dead, .dead, .dead, .dead, .dead, .dead, .dead, .dead, .dead, .dead, .dead, .dead, .dead, .dead, .dead, .dead, .dead, .dead, .dead, .dead, .dead, .dead, .dead, .dead, .dead, .dead, .dead, .dead, .dead, .dead, .dead, .dead, .dead, .dead, .dead, .dead, .dead, .dead, .dead, .dead, .dead, .dead, .dead, .dead, .dead, .dead, .dead, .dead, .dead, .dead, .dead, .dead, .dead, .dead, .dead, .dead, .dead, .dead, .dead, .dead, .dead, .dead, .dead, .dead, .dead, .dead, .dead, .dead, .dead, .dead, .dead, .dead, .dead, .dead, .dead, .dead, .dead, .dead, .dead, .dead, .dead, .dead, .dead, .dead, .dead, .dead, .dead, .dead, .dead, .dead, .dead, .dead, .dead, .dead, .dead, .dead, .dead, .dead], [some (.var cs0Z), some (.var (rdL (nmsN (j * 3) (s6 b N)))), some (.vh (xs2 b N) 3 true 71 3 j [.ints .i64 (j * 3) (nmsV (j * 3) (s6 b N))])]⟩) ?_ (h2 := by rw [Nat.zero_mul, nmsN_zero, nmsV_zero, Int.natCast_zero, Int.sub_zero]; exact rfl))
  intro j hj hl
  by_cases h : j < M
  · have h1 : nmV (nmsN (N * 5) (s4 b)) - ((j : Nat) : Int) > 0 := by omega
    have h2 : (nmsN (j * 3) (s6 b N)).bad = false := m2 j h
    have h3 : (nmsN (j * 3) (s6 b N)).bs.length ≤ 1000000 := by have := l7 (j * 3); omega
    have h4 : (nmN (nmsN (j * 3) (s6 b N))).bs.length ≤ 1000000 := by have := nmN_len (nmsN (j * 3) (s6 b N)); omega
    have hw : nmV (nmsN (N * 5) (s4 b)) - ((j + 1 : Nat) : Int) = nmV (nmsN (N * 5) (s4 b)) - ((j : Nat) : Int) - 1 := by omega
    refine agow ?_; (try with_reducible exact True.intro)
    refine hl.go h [0, 2, 4, 5, 6, 8] [0, 1, 2] ?_
    rw [hw, three_mul, nmsN_add, nmsV_add, nmsV_three, nmsN_three]
    rfl
  obtain rfl : M = j := by omega
  clear hl hj h
  have h1 : ¬ nmV (nmsN (N * 5) (s4 b)) - ((M : Nat) : Int) > 0 := by omega
  have L7 : (nmsN (M * 3) (s6 b N)).bs.length ≤ 1000000 := by have := l7 (M * 3); omega
  have L9 : (nmN (nmsN (M * 3) (s6 b N))).bs.length ≤ 1000000 := show (nmN (s7 b N M)).bs.length ≤ 1000000 by omega
  have L10 : (nmN (nmN (nmsN (M * 3) (s6 b N)))).bs.length ≤ 1000000 := show (nmN (nmN (s7 b N M))).bs.length ≤ 1000000 by omega
  have L11 : (nmN (nmN (nmN (nmsN (M * 3) (s6 b N))))).bs.length ≤ 1000000 := show (nmN (nmN (nmN (s7 b N M)))).bs.length ≤ 1000000 by omega
  have L12 : (nmN (nmN (nmN (nmN (nmsN (M * 3) (s6 b N)))))).bs.length ≤ 1000000 := show (s8 b N M).bs.length ≤ 1000000 by omega
  refine agow ?_; (try with_reducible exact True.intro)
  refine StopL.mk (loop_unroll 4 ?_)
  refine agow ?_; (try with_reducible exact True.intro)
  clear h1 L7 L9 L10 L11 L12
  refine StopL.mk (loop_forV [0, 2, 4, 5, 6, 11] [0, 1, 2] 2 8 22 1 [.gen 0 []] B (fun j => ⟨[.d (.row b.length [.bytes b.length b]), .dead, .ptr 0 0, .dead, .ptr 1 0, .d (.row (tkV 1 ⟨b, false⟩).length [.bytes (tkV 1 ⟨b, false⟩).length (tkV 1 ⟨b, false⟩)]), .ptr 2 0, .dead, .dead, .dead, .dead, .d (.v (.int .i64 (nmV (s8 b N M) - ((j : Nat) : Int)))), .dead, .dead, .dead, .dead, .dead, .dead, .dead, .dead, .dead, .dead, .dead, .dead, .dead, .dead, .dead, .dead, .dead, .dead, .dead, .dead, .dead, .dead, .dead, .dead, .dead, .dead, .dead, .dead, .dead, .dead, .dead, .dead, .dead, .dead, .dead, .dead, .dead, .dead, .dead, .dead, .dead, .dead, .dead, .dead, .dead, .dead, .dead, .dead, .dead, .dead, .dead, .dead, .dead, .dead, .dead, .dead, .dead, .dead, .dead, .dead, .dead, .dead, .dead, .dead, .dead, .dead, .dead, .dead, .dead, .dead, .dead, .dead, .dead, .dead, .dead, .dead, .dead, .dead, .dead, .dead, .dead, .dead, .dead, .dead, .dead, .dead, .dead, .dead, .dead, .dead, .dead, .dead, .dead, .dead, .dead, .dead, .dead, .dead, .dead, .dead, .dead, .dead, .dead, .dead, .dead, .dead, .dead, .dead, .dead, .dead, .dead, .dead, .dead, .dead, .dead, .dead, .dead, .dead, .dead, .dead, .dead, .dead, .dead, .dead, .dead, .dead, .dead, .dead, .dead, .dead, .dead], [some (.var cs0Z), some (.var (rdL (bxsN maxI j (s9 b N M)))), some (.vh (xs3 b N M) 8 true 22 1 j [.gen j ((bxsV maxI j (s9 b N M)).map rowA)])]⟩) ?_ (h2 := by rw [bxsN_zero, bxsV_zero, Int.natCast_zero, Int.sub_zero]; exact rfl))
  intro j hj hl
  by_cases h : j < B
  · have h1 : nmV (s8 b N M) - ((j : Nat) : Int) > 0 := by omega
    have h2 : (bxsN maxI j (s9 b N M)).bad = false := b2 j h
    have h3 : (bxsN maxI j (s9 b N M)).bs.length ≤ 1000000 := by have := l14 j; omega
    have h4 : (nmN (bxsN maxI j (s9 b N M))).bs.length ≤ 1000000 := by have := nmN_len (bxsN maxI j (s9 b N M)); omega
    have h5 := nmV_nat (bxsN maxI j (s9 b N M))
    have hw : nmV (s8 b N M) - ((j + 1 : Nat) : Int) = nmV (s8 b N M) - ((j : Nat) : Int) - 1 := by omega
    refine agow ?_; (try with_reducible exact True.intro)
    refine hl.go h [0, 2, 4, 5, 6, 11] [0, 1, 2] ?_
    rw [hw, bxsN_one, bxsV_one, box_maxV, box_maxN]
    rfl
  obtain rfl : B = j := by omega
  clear hl hj h
  have h1 : nmV (s8 b N M) - ((B : Nat) : Int) > 0 := by omega
  have h2 : (bxsN maxI B (s9 b N M)).bad = true := hBb
  have L14 : (bxsN maxI B (s9 b N M)).bs.length ≤ 1000000 := by have := l14 B; omega
  have L15 : (tkN 32 (bxsN maxI B (s9 b N M))).bs.length ≤ 1000000 := show (s11 b N M B).bs.length ≤ 1000000 by omega
  have X1 : (nmsV (N * 5) (s4 b)).length = N * 5 := nmsV_length _ _
  have X2 : (nmsV (M * 3) (s6 b N)).length = M * 3 := nmsV_length _ _
  have X3 : (hashV (bxsN maxI B (s9 b N M))).length = 32 := hashV_length _
  have X4 : (bxsV maxI B (s9 b N M)).length = B := bxsV_length _ _ _
  have X5 : ∀ p ∈ bxsV maxI B (s9 b N M), p.length ≤ 6000 := fun p hp => by have := bxsV_len maxI B (s9 b N M) p hp; omega
  refine agow ?_; (try with_reducible exact True.intro)
  cases hm : mayB (rC b N M B)
  case false =>
    have eR : commitR (csX (nmV (s1 b)) (nmV (nmN (s1 b))) N (nmsV (N * 5) (s4 b)) M (nmsV (M * 3) (s6 b N)) (nmV (s7 b N M)) (nmV (nmN (s7 b N M))) (nmV (nmN (nmN (s7 b N M)))) (nmV (nmN (nmN (nmN (s7 b N M))))) B (bxsV maxI B (s9 b N M)) (hashV (bxsN maxI B (s9 b N M))) (nmV (tkN 32 (bxsN maxI B (s9 b N M)))) (nmV (nmN (tkN 32 (bxsN maxI B (s9 b N M)))))) = .t [.v (.slice none 0 0), .v (.int .i64 1)] := by show commitR (rC b N M B) = _; unfold commitR; rw [if_neg (by rw [hm]; decide)]
    rw [eR]
    clear eR
    refine agow ?_; (try with_reducible exact True.intro)
    try rfl
  case true =>
    have eR : commitR (csX (nmV (s1 b)) (nmV (nmN (s1 b))) N (nmsV (N * 5) (s4 b)) M (nmsV (M * 3) (s6 b N)) (nmV (s7 b N M)) (nmV (nmN (s7 b N M))) (nmV (nmN (nmN (s7 b N M)))) (nmV (nmN (nmN (nmN (s7 b N M))))) B (bxsV maxI B (s9 b N M)) (hashV (bxsN maxI B (s9 b N M))) (nmV (tkN 32 (bxsN maxI B (s9 b N M)))) (nmV (nmN (tkN 32 (bxsN maxI B (s9 b N M)))))) = .t [.row (commitN (rC b N M B)) [.bytes (commitN (rC b N M B)) (commitB (rC b N M B))], .v (.int .i64 0)] := by show commitR (rC b N M B) = _; unfold commitR; rw [if_pos hm]
    rw [eR]
    clear eR
    refine agow ?_; (try with_reducible exact True.intro)
    try rfl
set_option maxHeartbeats 8000000 in
theorem rtoB_bbe (b : List UInt8) (hb : b.length ≤ 6000) (N M B : Nat) (he : EndsC b N M B) (hs : N ≤ 3000 ∧ M ≤ 3000 ∧ B ≤ 3000) (hl : LensC b N M B) (hN : N < (nmV (nmN (nmN (s1 b)))).toNat) (hNb : (nmsN (N * 5) (s4 b)).bad = true) (hM : M < (nmV (nmsN (N * 5) (s4 b))).toNat) (hMb : (nmsN (M * 3) (s6 b N)).bad = true) (hB : (nmV (s8 b N M)).toNat ≤ B) (h0 : (nmN (nmN (tkN 32 (bxsN maxI B (s9 b N M))))).bad = true) : FnO 5 [.row b.length [.bytes b.length b]] (.t [commit0, .v (.int .i64 2)]) := by
  refine fnA (E := envXd5) Try.func5 Try.ntmps5 ?_
  obtain ⟨n1, n2, n3, m1, m2, m3, b1, b2, b3⟩ := he
  obtain ⟨sN, sM, sB⟩ := hs
  obtain ⟨l1, l2, l3, l4, l5, l6, l7, l8, l9, l10, l11, l12, l13, l14, l15⟩ := hl
  have v1 := nmV_nat (nmN (nmN (s1 b))); have w1 := nmV_max (nmN (nmN (s1 b)))
  have v2 := nmV_nat (nmsN (N * 5) (s4 b)); have w2 := nmV_max (nmsN (N * 5) (s4 b))
  have v3 := nmV_nat (s8 b N M); have w3 := nmV_max (s8 b N M)
  have L1 : (s1 b).bs.length ≤ 1000000 := by omega
  have L1' : (tkN 1 ⟨b, false⟩).bs.length ≤ 1000000 := L1
  have L2 : (nmN (s1 b)).bs.length ≤ 1000000 := by omega
  have L2' : (nmN (tkN 1 ⟨b, false⟩)).bs.length ≤ 1000000 := L2
  have L3 : (nmN (nmN (tkN 1 ⟨b, false⟩))).bs.length ≤ 1000000 := show (nmN (nmN (s1 b))).bs.length ≤ 1000000 by omega
  clear L1 L2
  refine agow ?_; (try with_reducible exact True.intro)
  refine StopL.mk (loop_forV [0, 2, 4, 5, 6, 7] [0, 1, 2] 2 2 68 5 [.ints .i64 0 []] N (fun j => ⟨[.d (.row b.length [.bytes b.length b]), .dead, .ptr 0 0, .dead, .ptr 1 0, .d (.row (tkV 1 ⟨b, false⟩).length [.bytes (tkV 1 ⟨b, false⟩).length (tkV 1 ⟨b, false⟩)]), .ptr 2 0, .d (.v (.int .i64 (nmV (nmN (nmN (s1 b))) - ((j : Nat) : Int)))), .dead, .dead, .dead, .dead, .dead, .dead, .dead, .dead, .dead, .dead, .dead, .dead, .dead, .dead, .dead, .dead, .dead, .dead, .dead, .dead, .dead, .dead, .dead, .dead, .dead, .dead, .dead, .dead, .dead, .dead, .dead, .dead, .dead, .dead, .dead, .dead, .dead, .dead, .dead, .dead, .dead, .dead, .dead, .dead, .dead, .dead, .dead, .dead, .dead, .dead, .dead, .dead, .dead, .dead, .dead, .dead, .dead, .dead, .dead, .dead, .dead, .dead, .dead, .dead, .dead, .dead, .dead, .dead, .dead, .dead, .dead, .dead, .dead, .dead, .dead, .dead, .dead, .dead, .dead, .dead, .dead, .dead, .dead, .dead, .dead, .dead, .dead, .dead, .dead, .dead, .dead, .dead, .dead, .dead, .dead, .dead, .dead, .dead, .dead, .dead, .dead, .dead, .dead, .dead, .dead, .dead, .dead, .dead, .dead, .dead, .dead, .dead, .dead, .dead, .dead, .dead, .dead, .dead, .dead, .dead, .dead, .dead, .dead, .dead, .dead, .dead, .dead, .dead, .dead, .dead, .dead, .dead, .dead, .dead, .dead], [some (.var cs0Z), some (.var (rdL (nmsN (j * 5) (s4 b)))), some (.vh (xs1 b) 2 true 68 5 j [.ints .i64 (j * 5) (nmsV (j * 5) (s4 b))])]⟩) ?_ (h2 := by rw [Nat.zero_mul, nmsN_zero, nmsV_zero, Int.natCast_zero, Int.sub_zero]; exact rfl))
  intro j hj hl
  by_cases h : j < N
  · have h1 : nmV (nmN (nmN (s1 b))) - ((j : Nat) : Int) > 0 := by omega
    have h2 : (nmsN (j * 5) (s4 b)).bad = false := n2 j h
    have h3 : (nmsN (j * 5) (s4 b)).bs.length ≤ 1000000 := by have := l5 (j * 5); omega
    have hw : nmV (nmN (nmN (s1 b))) - ((j + 1 : Nat) : Int) = nmV (nmN (nmN (s1 b))) - ((j : Nat) : Int) - 1 := by omega
    refine agow ?_; (try with_reducible exact True.intro)
    refine hl.go h [0, 2, 4, 5, 6, 7] [0, 1, 2] ?_
    rw [hw, five_mul, nmsN_add, nmsV_add]
    rfl
  obtain rfl : N = j := by omega
  clear hl hj h
  have h1 : nmV (nmN (nmN (s1 b))) - ((N : Nat) : Int) > 0 := by omega
  have h2 : (nmsN (N * 5) (s4 b)).bad = true := hNb
  have L5 : (nmsN (N * 5) (s4 b)).bs.length ≤ 1000000 := by have := l5 (N * 5); omega
  refine agow ?_; (try with_reducible exact True.intro)
  clear h1 h2
  refine StopL.mk (loop_forV [0, 2, 4, 5, 6, 8] [0, 1, 2] 2 3 71 3 [.ints .i64 0 []] M (fun j => ⟨[.d (.row b.length [.bytes b.length b]), .dead, .ptr 0 0, .dead, .ptr 1 0, .d (.row (tkV 1 ⟨b, false⟩).length [.bytes (tkV 1 ⟨b, false⟩).length (tkV 1 ⟨b, false⟩)]), .ptr 2 0, .dead, .d (.v (.int .i64 (nmV (nmsN (N * 5) (s4 b)) - ((j : Nat) : Int)))), .dead, .dead, .dead, .dead, .dead, .dead, .dead, .dead, .dead, .dead, .dead, .dead, .dead, .dead, .dead, .dead, .dead, .dead, .dead, .dead, .dead, .dead, .dead, .dead, .dead, .dead, .dead, .dead, .dead, .dead, .dead, .dead, .dead, .dead, .dead, .dead, .dead, .dead, .dead, .dead, .dead, .dead, .dead, .dead, .dead, .dead, .dead, .dead, .dead, .dead, .dead, .dead, .dead, .dead, .dead, .dead, .dead, .dead, .dead, .dead, .dead, .dead, .dead, .dead, .dead, .dead, .dead, .dead, .dead, .dead, .dead, .dead, .dead, .dead, .dead, .dead, .dead, .dead, .dead, .dead, .dead, .dead, .dead, .dead, .dead, .dead, .dead, .dead, .dead, .dead, .dead, .dead, .dead, .dead, .dead, .dead, .dead, .dead, .dead, .dead, .dead, .dead, .dead, .dead, .dead, .dead, .dead, .dead, .dead, .dead, .dead, .dead, .dead, .dead, .dead, .dead, .dead, .dead, .dead, .dead, .dead, .dead, .dead, .dead, .dead, .dead, .dead, .dead, .dead, .dead, .dead, .dead, .dead, .dead], [some (.var cs0Z), some (.var (rdL (nmsN (j * 3) (s6 b N)))), some (.vh (xs2 b N) 3 true 71 3 j [.ints .i64 (j * 3) (nmsV (j * 3) (s6 b N))])]⟩) ?_ (h2 := by rw [Nat.zero_mul, nmsN_zero, nmsV_zero, Int.natCast_zero, Int.sub_zero]; exact rfl))
  intro j hj hl
  by_cases h : j < M
  · have h1 : nmV (nmsN (N * 5) (s4 b)) - ((j : Nat) : Int) > 0 := by omega
    have h2 : (nmsN (j * 3) (s6 b N)).bad = false := m2 j h
    have h3 : (nmsN (j * 3) (s6 b N)).bs.length ≤ 1000000 := by have := l7 (j * 3); omega
    have h4 : (nmN (nmsN (j * 3) (s6 b N))).bs.length ≤ 1000000 := by have := nmN_len (nmsN (j * 3) (s6 b N)); omega
    have hw : nmV (nmsN (N * 5) (s4 b)) - ((j + 1 : Nat) : Int) = nmV (nmsN (N * 5) (s4 b)) - ((j : Nat) : Int) - 1 := by omega
    refine agow ?_; (try with_reducible exact True.intro)
    refine hl.go h [0, 2, 4, 5, 6, 8] [0, 1, 2] ?_
    rw [hw, three_mul, nmsN_add, nmsV_add, nmsV_three, nmsN_three]
    rfl
  obtain rfl : M = j := by omega
  clear hl hj h
  have h1 : nmV (nmsN (N * 5) (s4 b)) - ((M : Nat) : Int) > 0 := by omega
  have h2 : (nmsN (M * 3) (s6 b N)).bad = true := hMb
  have L7 : (nmsN (M * 3) (s6 b N)).bs.length ≤ 1000000 := by have := l7 (M * 3); omega
  have L9 : (nmN (nmsN (M * 3) (s6 b N))).bs.length ≤ 1000000 := show (nmN (s7 b N M)).bs.length ≤ 1000000 by omega
  have L10 : (nmN (nmN (nmsN (M * 3) (s6 b N)))).bs.length ≤ 1000000 := show (nmN (nmN (s7 b N M))).bs.length ≤ 1000000 by omega
  have L11 : (nmN (nmN (nmN (nmsN (M * 3) (s6 b N))))).bs.length ≤ 1000000 := show (nmN (nmN (nmN (s7 b N M)))).bs.length ≤ 1000000 by omega
  have L12 : (nmN (nmN (nmN (nmN (nmsN (M * 3) (s6 b N)))))).bs.length ≤ 1000000 := show (s8 b N M).bs.length ≤ 1000000 by omega
  refine agow ?_; (try with_reducible exact True.intro)
  refine StopL.mk (loop_unroll 4 ?_)
  refine agow ?_; (try with_reducible exact True.intro)
  clear h1 L7 L9 L10 L11 L12 h2
  refine StopL.mk (loop_forV [0, 2, 4, 5, 6, 11] [0, 1, 2] 2 8 22 1 [.gen 0 []] B (fun j => ⟨[.d (.row b.length [.bytes b.length b]), .dead, .ptr 0 0, .dead, .ptr 1 0, .d (.row (tkV 1 ⟨b, false⟩).length [.bytes (tkV 1 ⟨b, false⟩).length (tkV 1 ⟨b, false⟩)]), .ptr 2 0, .dead, .dead, .dead, .dead, .d (.v (.int .i64 (nmV (s8 b N M) - ((j : Nat) : Int)))), .dead, .dead, .dead, .dead, .dead, .dead, .dead, .dead, .dead, .dead, .dead, .dead, .dead, .dead, .dead, .dead, .dead, .dead, .dead, .dead, .dead, .dead, .dead, .dead, .dead, .dead, .dead, .dead, .dead, .dead, .dead, .dead, .dead, .dead, .dead, .dead, .dead, .dead, .dead, .dead, .dead, .dead, .dead, .dead, .dead, .dead, .dead, .dead, .dead, .dead, .dead, .dead, .dead, .dead, .dead, .dead, .dead, .dead, .dead, .dead, .dead, .dead, .dead, .dead, .dead, .dead, .dead, .dead, .dead, .dead, .dead, .dead, .dead, .dead, .dead, .dead, .dead, .dead, .dead, .dead, .dead, .dead, .dead, .dead, .dead, .dead, .dead, .dead, .dead, .dead, .dead, .dead, .dead, .dead, .dead, .dead, .dead, .dead, .dead, .dead, .dead, .dead, .dead, .dead, .dead, .dead, .dead, .dead, .dead, .dead, .dead, .dead, .dead, .dead, .dead, .dead, .dead, .dead, .dead, .dead, .dead, .dead, .dead, .dead, .dead, .dead, .dead, .dead, .dead, .dead, .dead], [some (.var cs0Z), some (.var (rdL (bxsN maxI j (s9 b N M)))), some (.vh (xs3 b N M) 8 true 22 1 j [.gen j ((bxsV maxI j (s9 b N M)).map rowA)])]⟩) ?_ (h2 := by rw [bxsN_zero, bxsV_zero, Int.natCast_zero, Int.sub_zero]; exact rfl))
  intro j hj hl
  by_cases h : j < B
  · have h1 : nmV (s8 b N M) - ((j : Nat) : Int) > 0 := by omega
    have h2 : (bxsN maxI j (s9 b N M)).bad = false := b2 j h
    have h3 : (bxsN maxI j (s9 b N M)).bs.length ≤ 1000000 := by have := l14 j; omega
    have h4 : (nmN (bxsN maxI j (s9 b N M))).bs.length ≤ 1000000 := by have := nmN_len (bxsN maxI j (s9 b N M)); omega
    have h5 := nmV_nat (bxsN maxI j (s9 b N M))
    have hw : nmV (s8 b N M) - ((j + 1 : Nat) : Int) = nmV (s8 b N M) - ((j : Nat) : Int) - 1 := by omega
    refine agow ?_; (try with_reducible exact True.intro)
    refine hl.go h [0, 2, 4, 5, 6, 11] [0, 1, 2] ?_
    rw [hw, bxsN_one, bxsV_one, box_maxV, box_maxN]
    rfl
  obtain rfl : B = j := by omega
  clear hl hj h
  have h1 : ¬ nmV (s8 b N M) - ((B : Nat) : Int) > 0 := by omega
  have L14 : (bxsN maxI B (s9 b N M)).bs.length ≤ 1000000 := by have := l14 B; omega
  have L15 : (tkN 32 (bxsN maxI B (s9 b N M))).bs.length ≤ 1000000 := show (s11 b N M B).bs.length ≤ 1000000 by omega
  have X1 : (nmsV (N * 5) (s4 b)).length = N * 5 := nmsV_length _ _
  have X2 : (nmsV (M * 3) (s6 b N)).length = M * 3 := nmsV_length _ _
  have X3 : (hashV (bxsN maxI B (s9 b N M))).length = 32 := hashV_length _
  have X4 : (bxsV maxI B (s9 b N M)).length = B := bxsV_length _ _ _
  have X5 : ∀ p ∈ bxsV maxI B (s9 b N M), p.length ≤ 6000 := fun p hp => by have := bxsV_len maxI B (s9 b N M) p hp; omega
  refine agow ?_; (try with_reducible exact True.intro)
  cases hm : mayB (rC b N M B)
  case false =>
    have eR : commitR (csX (nmV (s1 b)) (nmV (nmN (s1 b))) N (nmsV (N * 5) (s4 b)) M (nmsV (M * 3) (s6 b N)) (nmV (s7 b N M)) (nmV (nmN (s7 b N M))) (nmV (nmN (nmN (s7 b N M)))) (nmV (nmN (nmN (nmN (s7 b N M))))) B (bxsV maxI B (s9 b N M)) (hashV (bxsN maxI B (s9 b N M))) (nmV (tkN 32 (bxsN maxI B (s9 b N M)))) (nmV (nmN (tkN 32 (bxsN maxI B (s9 b N M)))))) = .t [.v (.slice none 0 0), .v (.int .i64 1)] := by show commitR (rC b N M B) = _; unfold commitR; rw [if_neg (by rw [hm]; decide)]
    rw [eR]
    clear eR
    refine agow ?_; (try with_reducible exact True.intro)
    try rfl
  case true =>
    have eR : commitR (csX (nmV (s1 b)) (nmV (nmN (s1 b))) N (nmsV (N * 5) (s4 b)) M (nmsV (M * 3) (s6 b N)) (nmV (s7 b N M)) (nmV (nmN (s7 b N M))) (nmV (nmN (nmN (s7 b N M)))) (nmV (nmN (nmN (nmN (s7 b N M))))) B (bxsV maxI B (s9 b N M)) (hashV (bxsN maxI B (s9 b N M))) (nmV (tkN 32 (bxsN maxI B (s9 b N M)))) (nmV (nmN (tkN 32 (bxsN maxI B (s9 b N M)))))) = .t [.row (commitN (rC b N M B)) [.bytes (commitN (rC b N M B)) (commitB (rC b N M B))], .v (.int .i64 0)] := by show commitR (rC b N M B) = _; unfold commitR; rw [if_pos hm]
    rw [eR]
    clear eR
    refine agow ?_; (try with_reducible exact True.intro)
    try rfl
set_option maxHeartbeats 8000000 in
theorem rtoB_bbb (b : List UInt8) (hb : b.length ≤ 6000) (N M B : Nat) (he : EndsC b N M B) (hs : N ≤ 3000 ∧ M ≤ 3000 ∧ B ≤ 3000) (hl : LensC b N M B) (hN : N < (nmV (nmN (nmN (s1 b)))).toNat) (hNb : (nmsN (N * 5) (s4 b)).bad = true) (hM : M < (nmV (nmsN (N * 5) (s4 b))).toNat) (hMb : (nmsN (M * 3) (s6 b N)).bad = true) (hB : B < (nmV (s8 b N M)).toNat) (hBb : (bxsN maxI B (s9 b N M)).bad = true) (h0 : (nmN (nmN (tkN 32 (bxsN maxI B (s9 b N M))))).bad = true) : FnO 5 [.row b.length [.bytes b.length b]] (.t [commit0, .v (.int .i64 2)]) := by
  refine fnA (E := envXd5) Try.func5 Try.ntmps5 ?_
  obtain ⟨n1, n2, n3, m1, m2, m3, b1, b2, b3⟩ := he
  obtain ⟨sN, sM, sB⟩ := hs
  obtain ⟨l1, l2, l3, l4, l5, l6, l7, l8, l9, l10, l11, l12, l13, l14, l15⟩ := hl
  have v1 := nmV_nat (nmN (nmN (s1 b))); have w1 := nmV_max (nmN (nmN (s1 b)))
  have v2 := nmV_nat (nmsN (N * 5) (s4 b)); have w2 := nmV_max (nmsN (N * 5) (s4 b))
  have v3 := nmV_nat (s8 b N M); have w3 := nmV_max (s8 b N M)
  have L1 : (s1 b).bs.length ≤ 1000000 := by omega
  have L1' : (tkN 1 ⟨b, false⟩).bs.length ≤ 1000000 := L1
  have L2 : (nmN (s1 b)).bs.length ≤ 1000000 := by omega
  have L2' : (nmN (tkN 1 ⟨b, false⟩)).bs.length ≤ 1000000 := L2
  have L3 : (nmN (nmN (tkN 1 ⟨b, false⟩))).bs.length ≤ 1000000 := show (nmN (nmN (s1 b))).bs.length ≤ 1000000 by omega
  clear L1 L2
  refine agow ?_; (try with_reducible exact True.intro)
  refine StopL.mk (loop_forV [0, 2, 4, 5, 6, 7] [0, 1, 2] 2 2 68 5 [.ints .i64 0 []] N (fun j => ⟨[.d (.row b.length [.bytes b.length b]), .dead, .ptr 0 0, .dead, .ptr 1 0, .d (.row (tkV 1 ⟨b, false⟩).length [.bytes (tkV 1 ⟨b, false⟩).length (tkV 1 ⟨b, false⟩)]), .ptr 2 0, .d (.v (.int .i64 (nmV (nmN (nmN (s1 b))) - ((j : Nat) : Int)))), .dead, .dead, .dead, .dead, .dead, .dead, .dead, .dead, .dead, .dead, .dead, .dead, .dead, .dead, .dead, .dead, .dead, .dead, .dead, .dead, .dead, .dead, .dead, .dead, .dead, .dead, .dead, .dead, .dead, .dead, .dead, .dead, .dead, .dead, .dead, .dead, .dead, .dead, .dead, .dead, .dead, .dead, .dead, .dead, .dead, .dead, .dead, .dead, .dead, .dead, .dead, .dead, .dead, .dead, .dead, .dead, .dead, .dead, .dead, .dead, .dead, .dead, .dead, .dead, .dead, .dead, .dead, .dead, .dead, .dead, .dead, .dead, .dead, .dead, .dead, .dead, .dead, .dead, .dead, .dead, .dead, .dead, .dead, .dead, .dead, .dead, .dead, .dead, .dead, .dead, .dead, .dead, .dead, .dead, .dead, .dead, .dead, .dead, .dead, .dead, .dead, .dead, .dead, .dead, .dead, .dead, .dead, .dead, .dead, .dead, .dead, .dead, .dead, .dead, .dead, .dead, .dead, .dead, .dead, .dead, .dead, .dead, .dead, .dead, .dead, .dead, .dead, .dead, .dead, .dead, .dead, .dead, .dead, .dead, .dead], [some (.var cs0Z), some (.var (rdL (nmsN (j * 5) (s4 b)))), some (.vh (xs1 b) 2 true 68 5 j [.ints .i64 (j * 5) (nmsV (j * 5) (s4 b))])]⟩) ?_ (h2 := by rw [Nat.zero_mul, nmsN_zero, nmsV_zero, Int.natCast_zero, Int.sub_zero]; exact rfl))
  intro j hj hl
  by_cases h : j < N
  · have h1 : nmV (nmN (nmN (s1 b))) - ((j : Nat) : Int) > 0 := by omega
    have h2 : (nmsN (j * 5) (s4 b)).bad = false := n2 j h
    have h3 : (nmsN (j * 5) (s4 b)).bs.length ≤ 1000000 := by have := l5 (j * 5); omega
    have hw : nmV (nmN (nmN (s1 b))) - ((j + 1 : Nat) : Int) = nmV (nmN (nmN (s1 b))) - ((j : Nat) : Int) - 1 := by omega
    refine agow ?_; (try with_reducible exact True.intro)
    refine hl.go h [0, 2, 4, 5, 6, 7] [0, 1, 2] ?_
    rw [hw, five_mul, nmsN_add, nmsV_add]
    rfl
  obtain rfl : N = j := by omega
  clear hl hj h
  have h1 : nmV (nmN (nmN (s1 b))) - ((N : Nat) : Int) > 0 := by omega
  have h2 : (nmsN (N * 5) (s4 b)).bad = true := hNb
  have L5 : (nmsN (N * 5) (s4 b)).bs.length ≤ 1000000 := by have := l5 (N * 5); omega
  refine agow ?_; (try with_reducible exact True.intro)
  clear h1 h2
  refine StopL.mk (loop_forV [0, 2, 4, 5, 6, 8] [0, 1, 2] 2 3 71 3 [.ints .i64 0 []] M (fun j => ⟨[.d (.row b.length [.bytes b.length b]), .dead, .ptr 0 0, .dead, .ptr 1 0, .d (.row (tkV 1 ⟨b, false⟩).length [.bytes (tkV 1 ⟨b, false⟩).length (tkV 1 ⟨b, false⟩)]), .ptr 2 0, .dead, .d (.v (.int .i64 (nmV (nmsN (N * 5) (s4 b)) - ((j : Nat) : Int)))), .dead, .dead, .dead, .dead, .dead, .dead, .dead, .dead, .dead, .dead, .dead, .dead, .dead, .dead, .dead, .dead, .dead, .dead, .dead, .dead, .dead, .dead, .dead, .dead, .dead, .dead, .dead, .dead, .dead, .dead, .dead, .dead, .dead, .dead, .dead, .dead, .dead, .dead, .dead, .dead, .dead, .dead, .dead, .dead, .dead, .dead, .dead, .dead, .dead, .dead, .dead, .dead, .dead, .dead, .dead, .dead, .dead, .dead, .dead, .dead, .dead, .dead, .dead, .dead, .dead, .dead, .dead, .dead, .dead, .dead, .dead, .dead, .dead, .dead, .dead, .dead, .dead, .dead, .dead, .dead, .dead, .dead, .dead, .dead, .dead, .dead, .dead, .dead, .dead, .dead, .dead, .dead, .dead, .dead, .dead, .dead, .dead, .dead, .dead, .dead, .dead, .dead, .dead, .dead, .dead, .dead, .dead, .dead, .dead, .dead, .dead, .dead, .dead, .dead, .dead, .dead, .dead, .dead, .dead, .dead, .dead, .dead, .dead, .dead, .dead, .dead, .dead, .dead, .dead, .dead, .dead, .dead, .dead, .dead], [some (.var cs0Z), some (.var (rdL (nmsN (j * 3) (s6 b N)))), some (.vh (xs2 b N) 3 true 71 3 j [.ints .i64 (j * 3) (nmsV (j * 3) (s6 b N))])]⟩) ?_ (h2 := by rw [Nat.zero_mul, nmsN_zero, nmsV_zero, Int.natCast_zero, Int.sub_zero]; exact rfl))
  intro j hj hl
  by_cases h : j < M
  · have h1 : nmV (nmsN (N * 5) (s4 b)) - ((j : Nat) : Int) > 0 := by omega
    have h2 : (nmsN (j * 3) (s6 b N)).bad = false := m2 j h
    have h3 : (nmsN (j * 3) (s6 b N)).bs.length ≤ 1000000 := by have := l7 (j * 3); omega
    have h4 : (nmN (nmsN (j * 3) (s6 b N))).bs.length ≤ 1000000 := by have := nmN_len (nmsN (j * 3) (s6 b N)); omega
    have hw : nmV (nmsN (N * 5) (s4 b)) - ((j + 1 : Nat) : Int) = nmV (nmsN (N * 5) (s4 b)) - ((j : Nat) : Int) - 1 := by omega
    refine agow ?_; (try with_reducible exact True.intro)
    refine hl.go h [0, 2, 4, 5, 6, 8] [0, 1, 2] ?_
    rw [hw, three_mul, nmsN_add, nmsV_add, nmsV_three, nmsN_three]
    rfl
  obtain rfl : M = j := by omega
  clear hl hj h
  have h1 : nmV (nmsN (N * 5) (s4 b)) - ((M : Nat) : Int) > 0 := by omega
  have h2 : (nmsN (M * 3) (s6 b N)).bad = true := hMb
  have L7 : (nmsN (M * 3) (s6 b N)).bs.length ≤ 1000000 := by have := l7 (M * 3); omega
  have L9 : (nmN (nmsN (M * 3) (s6 b N))).bs.length ≤ 1000000 := show (nmN (s7 b N M)).bs.length ≤ 1000000 by omega
  have L10 : (nmN (nmN (nmsN (M * 3) (s6 b N)))).bs.length ≤ 1000000 := show (nmN (nmN (s7 b N M))).bs.length ≤ 1000000 by omega
  have L11 : (nmN (nmN (nmN (nmsN (M * 3) (s6 b N))))).bs.length ≤ 1000000 := show (nmN (nmN (nmN (s7 b N M)))).bs.length ≤ 1000000 by omega
  have L12 : (nmN (nmN (nmN (nmN (nmsN (M * 3) (s6 b N)))))).bs.length ≤ 1000000 := show (s8 b N M).bs.length ≤ 1000000 by omega
  refine agow ?_; (try with_reducible exact True.intro)
  refine StopL.mk (loop_unroll 4 ?_)
  refine agow ?_; (try with_reducible exact True.intro)
  clear h1 L7 L9 L10 L11 L12 h2
  refine StopL.mk (loop_forV [0, 2, 4, 5, 6, 11] [0, 1, 2] 2 8 22 1 [.gen 0 []] B (fun j => ⟨[.d (.row b.length [.bytes b.length b]), .dead, .ptr 0 0, .dead, .ptr 1 0, .d (.row (tkV 1 ⟨b, false⟩).length [.bytes (tkV 1 ⟨b, false⟩).length (tkV 1 ⟨b, false⟩)]), .ptr 2 0, .dead, .dead, .dead, .dead, .d (.v (.int .i64 (nmV (s8 b N M) - ((j : Nat) : Int)))), .dead, .dead, .dead, .dead, .dead, .dead, .dead, .dead, .dead, .dead, .dead, .dead, .dead, .dead, .dead, .dead, .dead, .dead, .dead, .dead, .dead, .dead, .dead, .dead, .dead, .dead, .dead, .dead, .dead, .dead, .dead, .dead, .dead, .dead, .dead, .dead, .dead, .dead, .dead, .dead, .dead, .dead, .dead, .dead, .dead, .dead, .dead, .dead, .dead, .dead, .dead, .dead, .dead, .dead, .dead, .dead, .dead, .dead, .dead, .dead, .dead, .dead, .dead, .dead, .dead, .dead, .dead, .dead, .dead, .dead, .dead, .dead, .dead, .dead, .dead, .dead, .dead, .dead, .dead, .dead, .dead, .dead, .dead, .dead, .dead, .dead, .dead, .dead, .dead, .dead, .dead, .dead, .dead, .dead, .dead, .dead, .dead, .dead, .dead, .dead, .dead, .dead, .dead, .dead, .dead, .dead, .dead, .dead, .dead, .dead, .dead, .dead, .dead, .dead, .dead, .dead, .dead, .dead, .dead, .dead, .dead, .dead, .dead, .dead, .dead, .dead, .dead, .dead, .dead, .dead, .dead], [some (.var cs0Z), some (.var (rdL (bxsN maxI j (s9 b N M)))), some (.vh (xs3 b N M) 8 true 22 1 j [.gen j ((bxsV maxI j (s9 b N M)).map rowA)])]⟩) ?_ (h2 := by rw [bxsN_zero, bxsV_zero, Int.natCast_zero, Int.sub_zero]; exact rfl))
  intro j hj hl
  by_cases h : j < B
  · have h1 : nmV (s8 b N M) - ((j : Nat) : Int) > 0 := by omega
    have h2 : (bxsN maxI j (s9 b N M)).bad = false := b2 j h
    have h3 : (bxsN maxI j (s9 b N M)).bs.length ≤ 1000000 := by have := l14 j; omega
    have h4 : (nmN (bxsN maxI j (s9 b N M))).bs.length ≤ 1000000 := by have := nmN_len (bxsN maxI j (s9 b N M)); omega
    have h5 := nmV_nat (bxsN maxI j (s9 b N M))
    have hw : nmV (s8 b N M) - ((j + 1 : Nat) : Int) = nmV (s8 b N M) - ((j : Nat) : Int) - 1 := by omega
    refine agow ?_; (try with_reducible exact True.intro)
    refine hl.go h [0, 2, 4, 5, 6, 11] [0, 1, 2] ?_
    rw [hw, bxsN_one, bxsV_one, box_maxV, box_maxN]
    rfl
  obtain rfl : B = j := by omega
  clear hl hj h
  have h1 : nmV (s8 b N M) - ((B : Nat) : Int) > 0 := by omega
  have h2 : (bxsN maxI B (s9 b N M)).bad = true := hBb
  have L14 : (bxsN maxI B (s9 b N M)).bs.length ≤ 1000000 := by have := l14 B; omega
  have L15 : (tkN 32 (bxsN maxI B (s9 b N M))).bs.length ≤ 1000000 := show (s11 b N M B).bs.length ≤ 1000000 by omega
  have X1 : (nmsV (N * 5) (s4 b)).length = N * 5 := nmsV_length _ _
  have X2 : (nmsV (M * 3) (s6 b N)).length = M * 3 := nmsV_length _ _
  have X3 : (hashV (bxsN maxI B (s9 b N M))).length = 32 := hashV_length _
  have X4 : (bxsV maxI B (s9 b N M)).length = B := bxsV_length _ _ _
  have X5 : ∀ p ∈ bxsV maxI B (s9 b N M), p.length ≤ 6000 := fun p hp => by have := bxsV_len maxI B (s9 b N M) p hp; omega
  refine agow ?_; (try with_reducible exact True.intro)
  cases hm : mayB (rC b N M B)
  case false =>
    have eR : commitR (csX (nmV (s1 b)) (nmV (nmN (s1 b))) N (nmsV (N * 5) (s4 b)) M (nmsV (M * 3) (s6 b N)) (nmV (s7 b N M)) (nmV (nmN (s7 b N M))) (nmV (nmN (nmN (s7 b N M)))) (nmV (nmN (nmN (nmN (s7 b N M))))) B (bxsV maxI B (s9 b N M)) (hashV (bxsN maxI B (s9 b N M))) (nmV (tkN 32 (bxsN maxI B (s9 b N M)))) (nmV (nmN (tkN 32 (bxsN maxI B (s9 b N M)))))) = .t [.v (.slice none 0 0), .v (.int .i64 1)] := by show commitR (rC b N M B) = _; unfold commitR; rw [if_neg (by rw [hm]; decide)]
    rw [eR]
    clear eR
    refine agow ?_; (try with_reducible exact True.intro)
    try rfl
  case true =>
    have eR : commitR (csX (nmV (s1 b)) (nmV (nmN (s1 b))) N (nmsV (N * 5) (s4 b)) M (nmsV (M * 3) (s6 b N)) (nmV (s7 b N M)) (nmV (nmN (s7 b N M))) (nmV (nmN (nmN (s7 b N M)))) (nmV (nmN (nmN (nmN (s7 b N M))))) B (bxsV maxI B (s9 b N M)) (hashV (bxsN maxI B (s9 b N M))) (nmV (tkN 32 (bxsN maxI B (s9 b N M)))) (nmV (nmN (tkN 32 (bxsN maxI B (s9 b N M)))))) = .t [.row (commitN (rC b N M B)) [.bytes (commitN (rC b N M B)) (commitB (rC b N M B))], .v (.int .i64 0)] := by show commitR (rC b N M B) = _; unfold commitR; rw [if_pos hm]
    rw [eR]
    clear eR
    refine agow ?_; (try with_reducible exact True.intro)
    try rfl
end Go.Proofs.Ytbgdlggobbiibaa
