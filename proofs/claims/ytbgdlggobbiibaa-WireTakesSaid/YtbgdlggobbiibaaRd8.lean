/-
  Bytes as a commit: the walk of the other program.
-/
import Derived.Test.YtbgdlggobbiibaaI18
namespace Go.Proofs.Ytbgdlggobbiibaa
set_option maxRecDepth 100000
open Go.RowKit Pm
set_option linter.unusedVariables false
set_option linter.unusedSimpArgs false
theorem nmsV_three (R : Rd) : nmsV 3 R = [nmV R, nmV (nmN R), nmV (nmN (nmN R))] := rfl
theorem nmsN_three (R : Rd) : nmsN 3 R = nmN (nmN (nmN R)) := rfl
attribute [local irreducible] condK LoopA regA numB numsB boxB anyP idxP mayB withinB sigB oddOpB oddVoteB bodyB commitB commitN bodyN tkV tkN numT isNum nmV nmN cntV cntN hashV boxV boxN nmsV nmsN bxsV bxsN

theorem fn_up2 {f : FuncId} {args : List A} {a a' x : A} (h : FnO f args (.t [a, x])) (k : ∀ (S : Nat → Prop) (w : World) (v : Value), RA S w a v → RA S w a' v) : FnO f args (.t [a', x]) := by
  intro S w vs hG ha
  refine (h S w vs hG ha).mono ?_
  rintro e w' ⟨v, rfl, ⟨us, rfl, hu⟩, h2⟩
  refine ⟨_, rfl, ⟨us, rfl, ?_⟩, h2⟩
  cases hu with
  | cons h1 r => exact .cons (k _ _ _ h1) r
theorem fn_arg {f : FuncId} {a a' : A} {res : Res} (h : FnO f [a'] res) (k : ∀ (S : Nat → Prop) (w : World) (v : Value), RA S w a v → RA S w a' v) : FnO f [a] res := by
  intro S w vs hG ha
  refine h S w vs hG ?_
  cases ha with
  | cons h1 r => exact .cons (k _ _ _ h1) r
theorem ra_same {c d : CS} (h : SameC c d) {S : Nat → Prop} {w : World} {v : Value} (hr : RA S w (.agg (cSegs c)) v) : RA S w (.agg (cSegs d)) v := by
  obtain ⟨h1, h2, h3, h4, h5, h6, h7, h8, h9, h10, h11, h12, h13, h14, h15⟩ := h
  have e : cSegs d = [.ints .i64 2 [c.e, c.fr], .gen 2 [.row c.n [.ints .i64 (c.n * 5) c.ops], .row c.m [.ints .i64 (c.m * 3) c.vs]], .ints .i64 4 [c.sl, c.p0, c.p1, c.p2], .gen 1 [.recs c.k 1 (boxF d.bx)], .bytes 32 c.tag, .ints .i64 2 [c.sE, c.sS]] := by
    unfold cSegs; rw [h1, h2, h3, h4, h5, h6, h7, h8, h9, h10, h11, h13, h14, h15]
  rw [e]
  cases hr with
  | agg h =>
  cases h with
  | ints k1 r1 =>
  cases r1 with
  | gen g1 k2 r2 =>
  cases r2 with
  | ints k3 r3 =>
  cases r3 with
  | gen g2 k4 r4 =>
  cases g2 with
  | cons a1 b1 r =>
  refine .agg (.ints k1 (.gen g1 k2 (.ints k3 (.gen (.cons ?_ b1 r) rfl r4))))
  cases a1 with
  | recs q1 q2 q3 q4 q5 =>
    refine .recs (fun j hj => ?_) q2 q3 q4 q5
    have := q1 j hj
    have e2 : boxF d.bx j = boxF c.bx j := by unfold boxF; rw [h12 j (by rw [← h11]; exact hj)]
    rw [e2]; exact this
def csX (e fr : Int) (n : Nat) (ops : List Int) (m : Nat) (vs : List Int) (s p0 p1 p2 : Int) (k : Nat) (X : List (List UInt8)) (tag : List UInt8) (sE sS : Int) : CS := ⟨e, fr, n, ops, m, vs, s, p0, p1, p2, k, fun j => X.getD j [], tag, sE, sS⟩
/-- a commit whose boxes are rows of one's own -/
def rcS : List A → (Res → Prop) → Prop
  | [.agg [.ints .i64 2 [e, fr], .gen 2 [.row n [.ints .i64 n5 ops], .row m [.ints .i64 m3 vs]], .ints .i64 4 [s, p0, p1, p2], .gen 1 [.row k [.gen k' L]], .bytes 32 tag, .ints .i64 2 [sE, sS]]], K =>
    n5 = n * 5 ∧ m3 = m * 3 ∧ k' = k ∧ n ≤ 3000 ∧ m ≤ 3000 ∧ k ≤ 3000 ∧ ops.length = n * 5 ∧ vs.length = m * 3 ∧ tag.length = 32 ∧ ∃ X, L = X.map rowA ∧ X.length = k ∧ (∀ p ∈ X, p.length ≤ 6000) ∧ K (commitR (csX e fr n ops m vs s p0 p1 p2 k X tag sE sS))
  | _, _ => False
theorem rcS_ok : ∀ args K, rcS args K → ∃ r, FnO 20 args r ∧ K r := by
  intro args K hd
  unfold rcS at hd
  split at hd
  · next e fr n n5 ops m m3 vs s p0 p1 p2 k k' L tag sE sS =>
    obtain ⟨rfl, rfl, rfl, h1, h2, h3, h4, h5, h6, X, rfl, h7, h8, hd⟩ := hd
    refine ⟨_, fn_arg (rcommit_ok (csX e fr n ops m vs s p0 p1 p2 _ X tag sE sS) ⟨h1, h2, h3, h4, h5, fun j hj => ?_⟩ h6) (fun S w v h => ra_recs (s1 := []) (s3 := []) (s5 := []) (s6 := []) (x := .v undef) h7 h), hd⟩
    show (X.getD j []).length ≤ 6000
    have hj' : j < X.length := by rw [h7]; exact hj
    rw [List.getD_eq_getElem?_getD, List.getElem?_eq_getElem hj']
    exact h8 _ (List.getElem_mem hj')
  · exact hd.elim
/-- take, of a reader that is told cell by cell -/
def takeX (f : FuncId) : Nat → Bk → List A → (Res → Bk → Prop) → Prop
  | 0, .var [.gen 1 [.row n [.bytes m bs]], .bools 1 [bad]], [.v (.int .i64 z)], K => n = bs.length ∧ m = bs.length ∧ bs.length ≤ 1000000 ∧ 0 ≤ z ∧ K (tkRes z.toNat ⟨bs, bad⟩) (.var (rdL (tkN z.toNat ⟨bs, bad⟩)))
  | _, _, _, _ => False
theorem takeX_ok : ∀ pos x args K, takeX 0 pos x args K → ∃ r x', FnMO 15 pos x args r x' ∧ K r x' := by
  intro pos x args K hd
  unfold takeX at hd
  split at hd
  · next n m bs bad z =>
    obtain ⟨rfl, rfl, h1, h2, hd⟩ := hd
    exact ⟨_, _, rtake_ok z ⟨bs, bad⟩ h1 h2, hd⟩
  · exact hd.elim
noncomputable def envXd0 : EnvX := envCq.add 20 rcS rcS_ok ⟨_, Try.func20, by kernel_rfl, by kernel_rfl⟩
noncomputable def envXd1 : EnvX := envXd0.addM 15 (takeX 0) takeX_ok ⟨_, Try.func15, by kernel_rfl, by kernel_rfl⟩
noncomputable def envXd2 : EnvX := envXd1.addM 16 (rdM (fun R => .d (.v (.int .i64 (nmV R)))) nmN) (rdM_of rnum_ok) ⟨_, Try.func16, by kernel_rfl, by kernel_rfl⟩
noncomputable def envXd3 : EnvX := envXd2.addM 17 (rdM (numsRes 5) (nmsN 5)) (rdM_of rop_ok2) ⟨_, Try.func17, by kernel_rfl, by kernel_rfl⟩
noncomputable def envXd4 : EnvX := envXd3.addM 18 (rdM (fun R => .d (.agg [.ints .i64 2 [nmV R, nmV (nmN R)]])) (fun R => nmN (nmN R))) (rdM_of rsig2_ok) ⟨_, Try.func18, by kernel_rfl, by kernel_rfl⟩
noncomputable def envXd5 : EnvX := envXd4.addM 19 (rdM (fun R => .d (.agg [.bytes 32 (hashV R)])) (tkN 32)) (rdM_of rhash_ok) ⟨_, Try.func19, by kernel_rfl, by kernel_rfl⟩
theorem rd_eta (R : Rd) : (⟨R.bs, R.bad⟩ : Rd) = R := rfl
def xs1 (b : List UInt8) : List Seg := [.ints .i64 2 [nmV (s1 b), nmV (nmN (s1 b))], .gen 2 [.v (.slice none 0 0), .v (.slice none 0 0)], .ints .i64 4 [0, 0, 0, 0], .gen 1 [.v (.slice none 0 0)], .bytes 32 (List.replicate 32 0), .ints .i64 2 [0, 0]]
def xs2 (b : List UInt8) (N : Nat) : List Seg := [.ints .i64 2 [nmV (s1 b), nmV (nmN (s1 b))], .gen 2 [.row N [.ints .i64 (N * 5) (nmsV (N * 5) (s4 b))], .v (.slice none 0 0)], .ints .i64 4 [0, 0, 0, 0], .gen 1 [.v (.slice none 0 0)], .bytes 32 (List.replicate 32 0), .ints .i64 2 [0, 0]]
def xs3 (b : List UInt8) (N M : Nat) : List Seg := [.ints .i64 2 [nmV (s1 b), nmV (nmN (s1 b))], .gen 2 [.row N [.ints .i64 (N * 5) (nmsV (N * 5) (s4 b))], .row M [.ints .i64 (M * 3) (nmsV (M * 3) (s6 b N))]],
  .ints .i64 4 [nmV (s7 b N M), nmV (nmN (s7 b N M)), nmV (nmN (nmN (s7 b N M))), nmV (nmN (nmN (nmN (s7 b N M))))], .gen 1 [.v (.slice none 0 0)], .bytes 32 (List.replicate 32 0), .ints .i64 2 [0, 0]]
def xs4 (b : List UInt8) (N M B : Nat) : List Seg := [.ints .i64 2 [nmV (s1 b), nmV (nmN (s1 b))], .gen 2 [.row N [.ints .i64 (N * 5) (nmsV (N * 5) (s4 b))], .row M [.ints .i64 (M * 3) (nmsV (M * 3) (s6 b N))]],
  .ints .i64 4 [nmV (s7 b N M), nmV (nmN (s7 b N M)), nmV (nmN (nmN (s7 b N M))), nmV (nmN (nmN (nmN (s7 b N M))))], .gen 1 [.row B [.gen B ((bxsV maxI B (s9 b N M)).map rowA)]], .bytes 32 (hashV (s10 b N M B)), .ints .i64 2 [nmV (s11 b N M B), nmV (nmN (s11 b N M B))]]
/-- where the other program stops reading -/
structure EndsC (b : List UInt8) (N M B : Nat) : Prop where
  n1 : N ≤ (nmV (nmN (nmN (s1 b)))).toNat
  n2 : ∀ j, j < N → (nmsN (j * 5) (s4 b)).bad = false
  n3 : N = (nmV (nmN (nmN (s1 b)))).toNat ∨ N < (nmV (nmN (nmN (s1 b)))).toNat ∧ (nmsN (N * 5) (s4 b)).bad = true
  m1 : M ≤ (nmV (nmsN (N * 5) (s4 b))).toNat
  m2 : ∀ j, j < M → (nmsN (j * 3) (s6 b N)).bad = false
  m3 : M = (nmV (nmsN (N * 5) (s4 b))).toNat ∨ M < (nmV (nmsN (N * 5) (s4 b))).toNat ∧ (nmsN (M * 3) (s6 b N)).bad = true
  b1 : B ≤ (nmV (s8 b N M)).toNat
  b2 : ∀ j, j < B → (bxsN maxI j (s9 b N M)).bad = false
  b3 : B = (nmV (s8 b N M)).toNat ∨ B < (nmV (s8 b N M)).toNat ∧ (bxsN maxI B (s9 b N M)).bad = true
theorem ends_are (b : List UInt8) : ∃ N M B, EndsC b N M B := by
  obtain ⟨N, h1, h2, h3⟩ := first_P0 (fun j => (nmsN (j * 5) (s4 b)).bad) (nmV (nmN (nmN (s1 b)))).toNat
  obtain ⟨M, h4, h5, h6⟩ := first_P0 (fun j => (nmsN (j * 3) (s6 b N)).bad) (nmV (nmsN (N * 5) (s4 b))).toNat
  obtain ⟨B, h7, h8, h9⟩ := first_P0 (fun j => (bxsN maxI j (s9 b N M)).bad) (nmV (s8 b N M)).toNat
  exact ⟨N, M, B, h1, h2, h3, h4, h5, h6, h7, h8, h9⟩
/-- how long what is left is -/
structure LensC (b : List UInt8) (N M B : Nat) : Prop where
  l1 : (s1 b).bs.length ≤ b.length
  l2 : (nmN (s1 b)).bs.length ≤ b.length
  l3 : (nmN (nmN (s1 b))).bs.length ≤ b.length
  l4 : (s4 b).bs.length ≤ b.length
  l5 : ∀ k, (nmsN k (s4 b)).bs.length ≤ b.length
  l6 : (s6 b N).bs.length ≤ b.length
  l7 : ∀ k, (nmsN k (s6 b N)).bs.length ≤ b.length
  l8 : (s7 b N M).bs.length ≤ b.length
  l9 : (nmN (s7 b N M)).bs.length ≤ b.length
  l10 : (nmN (nmN (s7 b N M))).bs.length ≤ b.length
  l11 : (nmN (nmN (nmN (s7 b N M)))).bs.length ≤ b.length
  l12 : (s8 b N M).bs.length ≤ b.length
  l13 : (s9 b N M).bs.length ≤ b.length
  l14 : ∀ k, (bxsN maxI k (s9 b N M)).bs.length ≤ b.length
  l15 : (s11 b N M B).bs.length ≤ b.length
theorem lens_are (b : List UInt8) (N M B : Nat) : LensC b N M B := by
  have i1 : (s1 b).bs.length ≤ b.length := tkN_len 1 ⟨b, false⟩
  have i2 := Nat.le_trans (nmN_len (s1 b)) i1
  have i3 := Nat.le_trans (nmN_len (nmN (s1 b))) i2
  have i4 : (s4 b).bs.length ≤ b.length := Nat.le_trans (nmN_len (nmN (nmN (s1 b)))) i3
  have i5 : ∀ k, (nmsN k (s4 b)).bs.length ≤ b.length := fun k => Nat.le_trans (nmsN_len k (s4 b)) i4
  have i6 : (s6 b N).bs.length ≤ b.length := Nat.le_trans (nmN_len _) (i5 (N * 5))
  have i7 : ∀ k, (nmsN k (s6 b N)).bs.length ≤ b.length := fun k => Nat.le_trans (nmsN_len k (s6 b N)) i6
  have i8 : (s7 b N M).bs.length ≤ b.length := i7 (M * 3)
  have i9 := Nat.le_trans (nmN_len (s7 b N M)) i8
  have i10 := Nat.le_trans (nmN_len (nmN (s7 b N M))) i9
  have i11 := Nat.le_trans (nmN_len (nmN (nmN (s7 b N M)))) i10
  have i12 : (s8 b N M).bs.length ≤ b.length := Nat.le_trans (nmN_len (nmN (nmN (nmN (s7 b N M))))) i11
  have i13 : (s9 b N M).bs.length ≤ b.length := Nat.le_trans (nmN_len (s8 b N M)) i12
  have i14 : ∀ k, (bxsN maxI k (s9 b N M)).bs.length ≤ b.length := fun k => Nat.le_trans (bxsN_len maxI k (s9 b N M)) i13
  have i15 : (s11 b N M B).bs.length ≤ b.length := Nat.le_trans (tkN_len 32 (s10 b N M B)) (i14 B)
  exact ⟨i1, i2, i3, i4, i5, i6, i7, i8, i9, i10, i11, i12, i13, i14, i15⟩
theorem ends_small {b : List UInt8} {N M B : Nat} (h : EndsC b N M B) (hb : b.length ≤ 6000) : N ≤ 3000 ∧ M ≤ 3000 ∧ B ≤ 3000 := by
  obtain ⟨i1, i2, i3, i4, i5, i6, i7, i8, i9, i10, i11, i12, i13, i14, i15⟩ := lens_are b N M B
  refine ⟨?_, ?_, ?_⟩
  · by_cases e : N = 0
    · omega
    · have := nmsN_size (h.n2 (N - 1) (by omega)); omega
  · by_cases e : M = 0
    · omega
    · have := nmsN_size (h.m2 (M - 1) (by omega)); omega
  · by_cases e : B = 0
    · omega
    · have := bxsN_size (h.b2 (B - 1) (by omega)); omega
theorem str_ne {a b : List UInt8} (h : a ≠ b) : (!((⟨a.toArray⟩ : ByteArray).toList == (⟨b.toArray⟩ : ByteArray).toList)) = true := by
  simp
  exact h
set_option maxHeartbeats 8000000 in
theorem rtoC_t (b : List UInt8) (hb : b.length ≤ 6000) (N M B : Nat) (he : EndsC b N M B) (hs : N ≤ 3000 ∧ M ≤ 3000 ∧ B ≤ 3000) (hl : LensC b N M B) (hN : (nmV (nmN (nmN (s1 b)))).toNat ≤ N) (hM : (nmV (nmsN (N * 5) (s4 b))).toNat ≤ M) (hB : (nmV (s8 b N M)).toNat ≤ B) (h0 : (nmN (nmN (tkN 32 (bxsN maxI B (s9 b N M))))).bad = false) (h1f : (tkV 1 ⟨b, false⟩).length = 1) (h1g : Bt ((tkV 1 ⟨b, false⟩).getD 0 0) = 1) (hm : mayB (rC b N M B) = true) (hB2 : commitB (rC b N M B) = b) (hn2 : commitN (rC b N M B) = b.length) : FnO 5 [.row b.length [.bytes b.length b]] (.t [.agg (xs4 b N M B), .v (.int .i64 0)]) := by
  refine fnA (E := envXd5) Try.func5 Try.ntmps5 ?_
  obtain ⟨n1, n2, n3, m1, m2, m3, b1, b2, b3⟩ := he
  obtain ⟨sN, sM, sB⟩ := hs
  obtain ⟨l1, l2, l3, l4, l5, l6, l7, l8, l9, l10, l11, l12, l13, l14, l15⟩ := hl
  have v1 := nmV_nat (nmN (nmN (s1 b))); have w1 := nmV_max (nmN (nmN (s1 b)))
  have v2 := nmV_nat (nmsN (N * 5) (s4 b)); have w2 := nmV_max (nmsN (N * 5) (s4 b))
  have v3 := nmV_nat (s8 b N M); have w3 := nmV_max (s8 b N M)
  have L1 : (s1 b).bs.length ≤ 1000000 := by omega
  have L1' : (tkN 1 ⟨b, false⟩).bs.length ≤ 1000000 := L1
  have L2 : (nmN (s1 b)).bs.length ≤ 1000000 := by omega
  have L2' : (nmN (tkN 1 ⟨b, false⟩)).bs.length ≤ 1000000 := L2
  have L3 : (nmN (nmN (tkN 1 ⟨b, false⟩))).bs.length ≤ 1000000 := show (nmN (nmN (s1 b))).bs.length ≤ 1000000 by omega
  clear L1 L2
  refine agow ?_; (try with_reducible exact True.intro)
  refine StopL.mk (loop_forV [0, 2, 4, 5, 6, 7] [0, 1, 2] 2 2 68 5 [.ints .i64 0 []] N (fun j => ⟨[.d (.row b.length [.bytes b.length b]), .dead, .ptr 0 0, .dead, .ptr 1 0, .d (.row (tkV 1 ⟨b, false⟩).length [.bytes (tkV 1 ⟨b, false⟩).length (tkV 1 ⟨b, false⟩)]), .ptr 2 0, .d (.v (.int .i64 (nmV (nmN (nmN (s1 b))) - ((j : Nat) : Int)))), .dead, .dead, .dead, .dead, .dead, .dead, .dead, .dead, .dead, .dead, .dead, .dead, .dead, .dead, .dead, .dead, .dead, .dead, .dead, .dead, .dead, .dead, .dead, .dead, .dead, .dead, .dead, .dead, .dead, .dead, .dead, .dead, .dead, .dead, .dead, .dead, .dead, .dead, .dead, .dead, .dead, .dead, .dead, .dead, .dead, .dead, .dead, .dead, .dead, .dead, .dead, .dead, .dead, .dead, .dead, .dead, .dead, .dead, .dead, .dead, .dead, .dead, .dead, .dead, .dead, .dead, .dead, .dead, .dead, .dead, .dead, .dead, .dead, .dead, .dead, .dead, .dead, .dead, .dead, .dead, .dead, .dead, .dead, .dead, .dead, .dead, .dead, .dead, .dead, .dead, .dead, .dead, .dead, .dead, .dead, .dead, .dead, .dead, .dead, .dead, .dead, .dead, .dead, .dead, .dead, .dead, .dead, .dead, .dead, .dead, .dead, .dead, .dead, .dead, .dead, .dead, .dead, .dead, .dead, .dead, .dead, .dead, .dead, .dead, .dead, .dead, .dead, .dead, .dead, .dead, .dead, .dead, .dead, .dead, .dead], [some (.var cs0Z), some (.var (rdL (nmsN (j * 5) (s4 b)))), some (.vh (xs1 b) 2 true 68 5 j [.ints .i64 (j * 5) (nmsV (j * 5) (s4 b))])]⟩) ?_ (h2 := by rw [Nat.zero_mul, nmsN_zero, nmsV_zero, Int.natCast_zero, Int.sub_zero]; exact rfl))
  intro j hj hl
  by_cases h : j < N
  · have h1 : nmV (nmN (nmN (s1 b))) - ((j : Nat) : Int) > 0 := by omega
    have h2 : (nmsN (j * 5) (s4 b)).bad = false := n2 j h
    have h3 : (nmsN (j * 5) (s4 b)).bs.length ≤ 1000000 := by have := l5 (j * 5); omega
    have hw : nmV (nmN (nmN (s1 b))) - ((j + 1 : Nat) : Int) = nmV (nmN (nmN (s1 b))) - ((j : Nat) : Int) - 1 := by omega
    refine agow ?_; (try with_reducible exact True.intro)
    refine hl.go h [0, 2, 4, 5, 6, 7] [0, 1, 2] ?_
    rw [hw, five_mul, nmsN_add, nmsV_add]
    rfl
  obtain rfl : N = j := by omega
  clear hl hj h
  have h1 : ¬ nmV (nmN (nmN (s1 b))) - ((N : Nat) : Int) > 0 := by omega
  have L5 : (nmsN (N * 5) (s4 b)).bs.length ≤ 1000000 := by have := l5 (N * 5); omega
  refine agow ?_; (try with_reducible exact True.intro)
  clear h1
  refine StopL.mk (loop_forV [0, 2, 4, 5, 6, 8] [0, 1, 2] 2 3 71 3 [.ints .i64 0 []] M (fun j => ⟨[.d (.row b.length [.bytes b.length b]), .dead, .ptr 0 0, .dead, .ptr 1 0, .d (.row (tkV 1 ⟨b, false⟩).length [.bytes (tkV 1 ⟨b, false⟩).length (tkV 1 ⟨b, false⟩)]), .ptr 2 0, .dead, .d (.v (.int .i64 (nmV (nmsN (N * 5) (s4 b)) - ((j : Nat) : Int)))), .dead, .dead, .dead, .dead, .dead, .dead, .dead, .dead, .dead, .dead, .dead, .dead, .dead, .dead, .dead, .dead, .dead, .dead, .dead, .dead, .dead, .dead, .dead, .dead, .dead, .dead, .dead, .dead, .dead, .dead, .dead, .dead, .dead, .dead, .dead, .dead, .dead, .dead, .dead, .dead, .dead, .dead, .dead, .dead, .dead, .dead, .dead, .dead, .dead, .dead, .dead, .dead, .dead, .dead, .dead, .dead, .dead, .dead, .dead, .dead, .dead, .dead, .dead, .dead, .dead, .dead, .dead, .dead, .dead, .dead, .dead, .dead, .dead, .dead, .dead, .dead, .dead, .dead, .dead, .dead, .dead, .dead, .dead, .dead, .dead, .dead, .dead, .dead, .dead, .dead, .dead, .dead, .dead, .dead, .dead, .dead, .dead, .dead, .dead, .dead, .dead, .dead, .dead, .dead, .dead, .dead, .dead, .dead, .dead, .dead, .dead, .dead, .dead, .dead, .dead, .dead, .dead, .dead, .dead, .dead, .dead, .dead, .dead, .dead, .dead, .dead, .dead, .dead, .dead, .dead, .dead, .dead, .dead, .dead], [some (.var cs0Z), some (.var (rdL (nmsN (j * 3) (s6 b N)))), some (.vh (xs2 b N) 3 true 71 3 j [.ints .i64 (j * 3) (nmsV (j * 3) (s6 b N))])]⟩) ?_ (h2 := by rw [Nat.zero_mul, nmsN_zero, nmsV_zero, Int.natCast_zero, Int.sub_zero]; exact rfl))
  intro j hj hl
  by_cases h : j < M
  · have h1 : nmV (nmsN (N * 5) (s4 b)) - ((j : Nat) : Int) > 0 := by omega
    have h2 : (nmsN (j * 3) (s6 b N)).bad = false := m2 j h
    have h3 : (nmsN (j * 3) (s6 b N)).bs.length ≤ 1000000 := by have := l7 (j * 3); omega
    have h4 : (nmN (nmsN (j * 3) (s6 b N))).bs.length ≤ 1000000 := by have := nmN_len (nmsN (j * 3) (s6 b N)); omega
    have hw : nmV (nmsN (N * 5) (s4 b)) - ((j + 1 : Nat) : Int) = nmV (nmsN (N * 5) (s4 b)) - ((j : Nat) : Int) - 1 := by omega
    refine agow ?_; (try with_reducible exact True.intro)
    refine hl.go h [0, 2, 4, 5, 6, 8] [0, 1, 2] ?_
    rw [hw, three_mul, nmsN_add, nmsV_add, nmsV_three, nmsN_three]
    rfl
  obtain rfl : M = j := by omega
  clear hl hj h
  have h1 : ¬ nmV (nmsN (N * 5) (s4 b)) - ((M : Nat) : Int) > 0 := by omega
  have L7 : (nmsN (M * 3) (s6 b N)).bs.length ≤ 1000000 := by have := l7 (M * 3); omega
  have L9 : (nmN (nmsN (M * 3) (s6 b N))).bs.length ≤ 1000000 := show (nmN (s7 b N M)).bs.length ≤ 1000000 by omega
  have L10 : (nmN (nmN (nmsN (M * 3) (s6 b N)))).bs.length ≤ 1000000 := show (nmN (nmN (s7 b N M))).bs.length ≤ 1000000 by omega
  have L11 : (nmN (nmN (nmN (nmsN (M * 3) (s6 b N))))).bs.length ≤ 1000000 := show (nmN (nmN (nmN (s7 b N M)))).bs.length ≤ 1000000 by omega
  have L12 : (nmN (nmN (nmN (nmN (nmsN (M * 3) (s6 b N)))))).bs.length ≤ 1000000 := show (s8 b N M).bs.length ≤ 1000000 by omega
  refine agow ?_; (try with_reducible exact True.intro)
  refine StopL.mk (loop_unroll 4 ?_)
  refine agow ?_; (try with_reducible exact True.intro)
  clear h1 L7 L9 L10 L11 L12
  refine StopL.mk (loop_forV [0, 2, 4, 5, 6, 11] [0, 1, 2] 2 8 22 1 [.gen 0 []] B (fun j => ⟨[.d (.row b.length [.bytes b.length b]), .dead, .ptr 0 0, .dead, .ptr 1 0, .d (.row (tkV 1 ⟨b, false⟩).length [.bytes (tkV 1 ⟨b, false⟩).length (tkV 1 ⟨b, false⟩)]), .ptr 2 0, .dead, .dead, .dead, .dead, .d (.v (.int .i64 (nmV (s8 b N M) - ((j : Nat) : Int)))), .dead, .dead, .dead, .dead, .dead, .dead, .dead, .dead, .dead, .dead, .dead, .dead, .dead, .dead, .dead, .dead, .dead, .dead, .dead, .dead, .dead, .dead, .dead, .dead, .dead, .dead, .dead, .dead, .dead, .dead, .dead, .dead, .dead, .dead, .dead, .dead, .dead, .dead, .dead, .dead, .dead, .dead, .dead, .dead, .dead, .dead, .dead, .dead, .dead, .dead, .dead, .dead, .dead, .dead, .dead, .dead, .dead, .dead, .dead, .dead, .dead, .dead, .dead, .dead, .dead, .dead, .dead, .dead, .dead, .dead, .dead, .dead, .dead, .dead, .dead, .dead, .dead, .dead, .dead, .dead, .dead, .dead, .dead, .dead, .dead, .dead, .dead, .dead, .dead, .dead, .dead, .dead, .dead, .dead, .dead, .dead, .dead, .dead, .dead, .dead, .dead, .dead, .dead, .dead, .dead, .dead, .dead, .dead, .dead, .dead, .dead, .dead, .dead, .dead, .dead, .dead, .dead, .dead, .dead, .dead, .dead, .dead, .dead, .dead, .dead, .dead, .dead, .dead, .dead, .dead, .dead], [some (.var cs0Z), some (.var (rdL (bxsN maxI j (s9 b N M)))), some (.vh (xs3 b N M) 8 true 22 1 j [.gen j ((bxsV maxI j (s9 b N M)).map rowA)])]⟩) ?_ (h2 := by rw [bxsN_zero, bxsV_zero, Int.natCast_zero, Int.sub_zero]; exact rfl))
  intro j hj hl
  by_cases h : j < B
  · have h1 : nmV (s8 b N M) - ((j : Nat) : Int) > 0 := by omega
    have h2 : (bxsN maxI j (s9 b N M)).bad = false := b2 j h
    have h3 : (bxsN maxI j (s9 b N M)).bs.length ≤ 1000000 := by have := l14 j; omega
    have h4 : (nmN (bxsN maxI j (s9 b N M))).bs.length ≤ 1000000 := by have := nmN_len (bxsN maxI j (s9 b N M)); omega
    have h5 := nmV_nat (bxsN maxI j (s9 b N M))
    have hw : nmV (s8 b N M) - ((j + 1 : Nat) : Int) = nmV (s8 b N M) - ((j : Nat) : Int) - 1 := by omega
    refine agow ?_; (try with_reducible exact True.intro)
    refine hl.go h [0, 2, 4, 5, 6, 11] [0, 1, 2] ?_
    rw [hw, bxsN_one, bxsV_one, box_maxV, box_maxN]
    rfl
  obtain rfl : B = j := by omega
  clear hl hj h
  have h1 : ¬ nmV (s8 b N M) - ((B : Nat) : Int) > 0 := by omega
  have L14 : (bxsN maxI B (s9 b N M)).bs.length ≤ 1000000 := by have := l14 B; omega
  have L15 : (tkN 32 (bxsN maxI B (s9 b N M))).bs.length ≤ 1000000 := show (s11 b N M B).bs.length ≤ 1000000 by omega
  have X1 : (nmsV (N * 5) (s4 b)).length = N * 5 := nmsV_length _ _
  have X2 : (nmsV (M * 3) (s6 b N)).length = M * 3 := nmsV_length _ _
  have X3 : (hashV (bxsN maxI B (s9 b N M))).length = 32 := hashV_length _
  have X4 : (bxsV maxI B (s9 b N M)).length = B := bxsV_length _ _ _
  have X5 : ∀ p ∈ bxsV maxI B (s9 b N M), p.length ≤ 6000 := fun p hp => by have := bxsV_len maxI B (s9 b N M) p hp; omega
  refine agow ?_; (try with_reducible exact True.intro)
  have hg2 : (Bt ((tkV 1 ⟨b, false⟩).getD 0 0) != 1) = false := by rw [h1g]; rfl
  clear h1g
  have eR : commitR (csX (nmV (s1 b)) (nmV (nmN (s1 b))) N (nmsV (N * 5) (s4 b)) M (nmsV (M * 3) (s6 b N)) (nmV (s7 b N M)) (nmV (nmN (s7 b N M))) (nmV (nmN (nmN (s7 b N M)))) (nmV (nmN (nmN (nmN (s7 b N M))))) B (bxsV maxI B (s9 b N M)) (hashV (bxsN maxI B (s9 b N M))) (nmV (tkN 32 (bxsN maxI B (s9 b N M)))) (nmV (nmN (tkN 32 (bxsN maxI B (s9 b N M)))))) = .t [.row b.length [.bytes b.length b], .v (.int .i64 0)] := by show commitR (rC b N M B) = _; unfold commitR; rw [if_pos hm, hB2, hn2]
  rw [eR]
  clear eR hB2 hn2
  refine agow ?_; (try with_reducible exact True.intro)
  try rfl
set_option maxHeartbeats 8000000 in
theorem rtoC_f (b : List UInt8) (hb : b.length ≤ 6000) (N M B : Nat) (he : EndsC b N M B) (hs : N ≤ 3000 ∧ M ≤ 3000 ∧ B ≤ 3000) (hl : LensC b N M B) (hN : (nmV (nmN (nmN (s1 b)))).toNat ≤ N) (hM : (nmV (nmsN (N * 5) (s4 b))).toNat ≤ M) (hB : (nmV (s8 b N M)).toNat ≤ B) (h0 : (nmN (nmN (tkN 32 (bxsN maxI B (s9 b N M))))).bad = false) (h1f : (tkV 1 ⟨b, false⟩).length = 1) (h1g : ¬ Bt ((tkV 1 ⟨b, false⟩).getD 0 0) = 1) : FnO 5 [.row b.length [.bytes b.length b]] (.t [commit0, .v (.int .i64 2)]) := by
  refine fnA (E := envXd5) Try.func5 Try.ntmps5 ?_
  obtain ⟨n1, n2, n3, m1, m2, m3, b1, b2, b3⟩ := he
  obtain ⟨sN, sM, sB⟩ := hs
  obtain ⟨l1, l2, l3, l4, l5, l6, l7, l8, l9, l10, l11, l12, l13, l14, l15⟩ := hl
  have v1 := nmV_nat (nmN (nmN (s1 b))); have w1 := nmV_max (nmN (nmN (s1 b)))
  have v2 := nmV_nat (nmsN (N * 5) (s4 b)); have w2 := nmV_max (nmsN (N * 5) (s4 b))
  have v3 := nmV_nat (s8 b N M); have w3 := nmV_max (s8 b N M)
  have L1 : (s1 b).bs.length ≤ 1000000 := by omega
  have L1' : (tkN 1 ⟨b, false⟩).bs.length ≤ 1000000 := L1
  have L2 : (nmN (s1 b)).bs.length ≤ 1000000 := by omega
  have L2' : (nmN (tkN 1 ⟨b, false⟩)).bs.length ≤ 1000000 := L2
  have L3 : (nmN (nmN (tkN 1 ⟨b, false⟩))).bs.length ≤ 1000000 := show (nmN (nmN (s1 b))).bs.length ≤ 1000000 by omega
  clear L1 L2
  refine agow ?_; (try with_reducible exact True.intro)
  refine StopL.mk (loop_forV [0, 2, 4, 5, 6, 7] [0, 1, 2] 2 2 68 5 [.ints .i64 0 []] N (fun j => ⟨[.d (.row b.length [.bytes b.length b]), .dead, .ptr 0 0, .dead, .ptr 1 0, .d (.row (tkV 1 ⟨b, false⟩).length [.bytes (tkV 1 ⟨b, false⟩).length (tkV 1 ⟨b, false⟩)]), .ptr 2 0, .d (.v (.int .i64 (nmV (nmN (nmN (s1 b))) - ((j : Nat) : Int)))), .dead, .dead, .dead, .dead, .dead, .dead, .dead, .dead, .dead, .dead, .dead, .dead, .dead, .dead, .dead, .dead, .dead, .dead, .dead, .dead, .dead, .dead, .dead, .dead, .dead, .dead, .dead, .dead, .dead, .dead, .dead, .dead, .dead, .dead, .dead, .dead, .dead, .dead, .dead, .dead, .dead, .dead, .dead, .dead, .dead, .dead, .dead, .dead, .dead, .dead, .dead, .dead, .dead, .dead, .dead, .dead, .dead, .dead, .dead, .dead, .dead, .dead, .dead, .dead, .dead, .dead, .dead, .dead, .dead, .dead, .dead, .dead, .dead, .dead, .dead, .dead, .dead, .dead, .dead, .dead, .dead, .dead, .dead, .dead, .dead, .dead, .dead, .dead, .dead, .dead, .dead, .dead, .dead, .dead, .dead, .dead, .dead, .dead, .dead, .dead, .dead, .dead, .dead, .dead, .dead, .dead, .dead, .dead, .dead, .dead, .dead, .dead, .dead, .dead, .dead, .dead, .dead, .dead, .dead, .dead, .dead, .dead, .dead, .dead, .dead, .dead, .dead, .dead, .dead, .dead, .dead, .dead, .dead, .dead, .dead], [some (.var cs0Z), some (.var (rdL (nmsN (j * 5) (s4 b)))), some (.vh (xs1 b) 2 true 68 5 j [.ints .i64 (j * 5) (nmsV (j * 5) (s4 b))])]⟩) ?_ (h2 := by rw [Nat.zero_mul, nmsN_zero, nmsV_zero, Int.natCast_zero, Int.sub_zero]; exact rfl))
  intro j hj hl
  by_cases h : j < N
  · have h1 : nmV (nmN (nmN (s1 b))) - ((j : Nat) : Int) > 0 := by omega
    have h2 : (nmsN (j * 5) (s4 b)).bad = false := n2 j h
    have h3 : (nmsN (j * 5) (s4 b)).bs.length ≤ 1000000 := by have := l5 (j * 5); omega
    have hw : nmV (nmN (nmN (s1 b))) - ((j + 1 : Nat) : Int) = nmV (nmN (nmN (s1 b))) - ((j : Nat) : Int) - 1 := by omega
    refine agow ?_; (try with_reducible exact True.intro)
    refine hl.go h [0, 2, 4, 5, 6, 7] [0, 1, 2] ?_
    rw [hw, five_mul, nmsN_add, nmsV_add]
    rfl
  obtain rfl : N = j := by omega
  clear hl hj h
  have h1 : ¬ nmV (nmN (nmN (s1 b))) - ((N : Nat) : Int) > 0 := by omega
  have L5 : (nmsN (N * 5) (s4 b)).bs.length ≤ 1000000 := by have := l5 (N * 5); omega
  refine agow ?_; (try with_reducible exact True.intro)
  clear h1
  refine StopL.mk (loop_forV [0, 2, 4, 5, 6, 8] [0, 1, 2] 2 3 71 3 [.ints .i64 0 []] M (fun j => ⟨[.d (.row b.length [.bytes b.length b]), .dead, .ptr 0 0, .dead, .ptr 1 0, .d (.row (tkV 1 ⟨b, false⟩).length [.bytes (tkV 1 ⟨b, false⟩).length (tkV 1 ⟨b, false⟩)]), .ptr 2 0, .dead, .d (.v (.int .i64 (nmV (nmsN (N * 5) (s4 b)) - ((j : Nat) : Int)))), .dead, .dead, .dead, .dead, .dead, .dead, .dead, .dead, .dead, .dead, .dead, .dead, .dead, .dead, .dead, .dead, .dead, .dead, .dead, .dead, .dead, .dead, .dead, .dead, .dead, .dead, .dead, .dead, .dead, .dead, .dead, .dead, .dead, .dead, .dead, .dead, .dead, .dead, .dead, .dead, .dead, .dead, .dead, .dead, .dead, .dead, .dead, .dead, .dead, .dead, .dead, .dead, .dead, .dead, .dead, .dead, .dead, .dead, .dead, .dead, .dead, .dead, .dead, .dead, .dead, .dead, .dead, .dead, .dead, .dead, .dead, .dead, .dead, .dead, .dead, .dead, .dead, .dead, .dead, .dead, .dead, .dead, .dead, .dead, .dead, .dead, .dead, .dead, .dead, .dead, .dead, .dead, .dead, .dead, .dead, .dead, .dead, .dead, .dead, .dead, .dead, .dead, .dead, .dead, .dead, .dead, .dead, .dead, .dead, .dead, .dead, .dead, .dead, .dead, .dead, .dead, .dead, .dead, .dead, .dead, .dead, .dead, .dead, .dead, .dead, .dead, .dead, .dead, .dead, .dead, .dead, .dead, .dead, .dead], [some (.var cs0Z), some (.var (rdL (nmsN (j * 3) (s6 b N)))), some (.vh (xs2 b N) 3 true 71 3 j [.ints .i64 (j * 3) (nmsV (j * 3) (s6 b N))])]⟩) ?_ (h2 := by rw [Nat.zero_mul, nmsN_zero, nmsV_zero, Int.natCast_zero, Int.sub_zero]; exact rfl))
  intro j hj hl
  by_cases h : j < M
  · have h1 : nmV (nmsN (N * 5) (s4 b)) - ((j : Nat) : Int) > 0 := by omega
    have h2 : (nmsN (j * 3) (s6 b N)).bad = false := m2 j h
    have h3 : (nmsN (j * 3) (s6 b N)).bs.length ≤ 1000000 := by have := l7 (j * 3); omega
    have h4 : (nmN (nmsN (j * 3) (s6 b N))).bs.length ≤ 1000000 := by have := nmN_len (nmsN (j * 3) (s6 b N)); omega
    have hw : nmV (nmsN (N * 5) (s4 b)) - ((j + 1 : Nat) : Int) = nmV (nmsN (N * 5) (s4 b)) - ((j : Nat) : Int) - 1 := by omega
    refine agow ?_; (try with_reducible exact True.intro)
    refine hl.go h [0, 2, 4, 5, 6, 8] [0, 1, 2] ?_
    rw [hw, three_mul, nmsN_add, nmsV_add, nmsV_three, nmsN_three]
    rfl
  obtain rfl : M = j := by omega
  clear hl hj h
  have h1 : ¬ nmV (nmsN (N * 5) (s4 b)) - ((M : Nat) : Int) > 0 := by omega
  have L7 : (nmsN (M * 3) (s6 b N)).bs.length ≤ 1000000 := by have := l7 (M * 3); omega
  have L9 : (nmN (nmsN (M * 3) (s6 b N))).bs.length ≤ 1000000 := show (nmN (s7 b N M)).bs.length ≤ 1000000 by omega
  have L10 : (nmN (nmN (nmsN (M * 3) (s6 b N)))).bs.length ≤ 1000000 := show (nmN (nmN (s7 b N M))).bs.length ≤ 1000000 by omega
  have L11 : (nmN (nmN (nmN (nmsN (M * 3) (s6 b N))))).bs.length ≤ 1000000 := show (nmN (nmN (nmN (s7 b N M)))).bs.length ≤ 1000000 by omega
  have L12 : (nmN (nmN (nmN (nmN (nmsN (M * 3) (s6 b N)))))).bs.length ≤ 1000000 := show (s8 b N M).bs.length ≤ 1000000 by omega
  refine agow ?_; (try with_reducible exact True.intro)
  refine StopL.mk (loop_unroll 4 ?_)
  refine agow ?_; (try with_reducible exact True.intro)
  clear h1 L7 L9 L10 L11 L12
  refine StopL.mk (loop_forV [0, 2, 4, 5, 6, 11] [0, 1, 2] 2 8 22 1 [.gen 0 []] B (fun j => ⟨[.d (.row b.length [.bytes b.length b]), .dead, .ptr 0 0, .dead, .ptr 1 0, .d (.row (tkV 1 ⟨b, false⟩).length [.bytes (tkV 1 ⟨b, false⟩).length (tkV 1 ⟨b, false⟩)]), .ptr 2 0, .dead, .dead, .dead, .dead, .d (.v (.int .i64 (nmV (s8 b N M) - ((j : Nat) : Int)))), .dead, .dead, .dead, .dead, .dead, .dead, .dead, .dead, .dead, .dead, .dead, .dead, .dead, .dead, .dead, .dead, .dead, .dead, .dead, .dead, .dead, .dead, .dead, .dead, .dead, .dead, .dead, .dead, .dead, .dead, .dead, .dead, .dead, .dead, .dead, .dead, .dead, .dead, .dead, .dead, .dead, .dead, .dead, .dead, .dead, .dead, .dead, .dead, .dead, .dead, .dead, .dead, .dead, .dead, .dead, .dead, .dead, .dead, .dead, .dead, .dead, .dead, .dead, .dead, .dead, .dead, .dead, .dead, .dead, .dead, .dead, .dead, .dead, .dead, .dead, .dead, .dead, .dead, .dead, .dead, .dead, .dead, .dead, .dead, .dead, .dead, .dead, .dead, .dead, .dead, .dead, .dead, .dead, .dead, .dead, .dead, .dead, .dead, .dead, .dead, .dead, .dead, .dead, .dead, .dead, .dead, .dead, .dead, .dead, .dead, .dead, .dead, .dead, .dead, .dead, .dead, .dead, .dead, .dead, .dead, .dead, .dead, .dead, .dead, .dead, .dead, .dead, .dead, .dead, .dead, .dead], [some (.var cs0Z), some (.var (rdL (bxsN maxI j (s9 b N M)))), some (.vh (xs3 b N M) 8 true 22 1 j [.gen j ((bxsV maxI j (s9 b N M)).map rowA)])]⟩) ?_ (h2 := by rw [bxsN_zero, bxsV_zero, Int.natCast_zero, Int.sub_zero]; exact rfl))
  intro j hj hl
  by_cases h : j < B
  · have h1 : nmV (s8 b N M) - ((j : Nat) : Int) > 0 := by omega
    have h2 : (bxsN maxI j (s9 b N M)).bad = false := b2 j h
    have h3 : (bxsN maxI j (s9 b N M)).bs.length ≤ 1000000 := by have := l14 j; omega
    have h4 : (nmN (bxsN maxI j (s9 b N M))).bs.length ≤ 1000000 := by have := nmN_len (bxsN maxI j (s9 b N M)); omega
    have h5 := nmV_nat (bxsN maxI j (s9 b N M))
    have hw : nmV (s8 b N M) - ((j + 1 : Nat) : Int) = nmV (s8 b N M) - ((j : Nat) : Int) - 1 := by omega
    refine agow ?_; (try with_reducible exact True.intro)
    refine hl.go h [0, 2, 4, 5, 6, 11] [0, 1, 2] ?_
    rw [hw, bxsN_one, bxsV_one, box_maxV, box_maxN]
    rfl
  obtain rfl : B = j := by omega
  clear hl hj h
  have h1 : ¬ nmV (s8 b N M) - ((B : Nat) : Int) > 0 := by omega
  have L14 : (bxsN maxI B (s9 b N M)).bs.length ≤ 1000000 := by have := l14 B; omega
  have L15 : (tkN 32 (bxsN maxI B (s9 b N M))).bs.length ≤ 1000000 := show (s11 b N M B).bs.length ≤ 1000000 by omega
  have X1 : (nmsV (N * 5) (s4 b)).length = N * 5 := nmsV_length _ _
  have X2 : (nmsV (M * 3) (s6 b N)).length = M * 3 := nmsV_length _ _
  have X3 : (hashV (bxsN maxI B (s9 b N M))).length = 32 := hashV_length _
  have X4 : (bxsV maxI B (s9 b N M)).length = B := bxsV_length _ _ _
  have X5 : ∀ p ∈ bxsV maxI B (s9 b N M), p.length ≤ 6000 := fun p hp => by have := bxsV_len maxI B (s9 b N M) p hp; omega
  refine agow ?_; (try with_reducible exact True.intro)
  have hg2 : (Bt ((tkV 1 ⟨b, false⟩).getD 0 0) != 1) = true := by simp only [bne_iff_ne, ne_eq]; exact h1g
  clear h1g
  cases hm : mayB (rC b N M B)
  case false =>
    have eR : commitR (csX (nmV (s1 b)) (nmV (nmN (s1 b))) N (nmsV (N * 5) (s4 b)) M (nmsV (M * 3) (s6 b N)) (nmV (s7 b N M)) (nmV (nmN (s7 b N M))) (nmV (nmN (nmN (s7 b N M)))) (nmV (nmN (nmN (nmN (s7 b N M))))) B (bxsV maxI B (s9 b N M)) (hashV (bxsN maxI B (s9 b N M))) (nmV (tkN 32 (bxsN maxI B (s9 b N M)))) (nmV (nmN (tkN 32 (bxsN maxI B (s9 b N M)))))) = .t [.v (.slice none 0 0), .v (.int .i64 1)] := by show commitR (rC b N M B) = _; unfold commitR; rw [if_neg (by rw [hm]; decide)]
    rw [eR]
    clear eR
    refine agow ?_; (try with_reducible exact True.intro)
    try rfl
  case true =>
    have eR : commitR (csX (nmV (s1 b)) (nmV (nmN (s1 b))) N (nmsV (N * 5) (s4 b)) M (nmsV (M * 3) (s6 b N)) (nmV (s7 b N M)) (nmV (nmN (s7 b N M))) (nmV (nmN (nmN (s7 b N M)))) (nmV (nmN (nmN (nmN (s7 b N M))))) B (bxsV maxI B (s9 b N M)) (hashV (bxsN maxI B (s9 b N M))) (nmV (tkN 32 (bxsN maxI B (s9 b N M)))) (nmV (nmN (tkN 32 (bxsN maxI B (s9 b N M)))))) = .t [.row (commitN (rC b N M B)) [.bytes (commitN (rC b N M B)) (commitB (rC b N M B))], .v (.int .i64 0)] := by show commitR (rC b N M B) = _; unfold commitR; rw [if_pos hm]
    rw [eR]
    clear eR
    refine agow ?_; (try with_reducible exact True.intro)
    try rfl
set_option maxHeartbeats 8000000 in
theorem rtoC_m (b : List UInt8) (hb : b.length ≤ 6000) (N M B : Nat) (he : EndsC b N M B) (hs : N ≤ 3000 ∧ M ≤ 3000 ∧ B ≤ 3000) (hl : LensC b N M B) (hN : (nmV (nmN (nmN (s1 b)))).toNat ≤ N) (hM : (nmV (nmsN (N * 5) (s4 b))).toNat ≤ M) (hB : (nmV (s8 b N M)).toNat ≤ B) (h0 : (nmN (nmN (tkN 32 (bxsN maxI B (s9 b N M))))).bad = false) (h1f : (tkV 1 ⟨b, false⟩).length = 1) (h1g : Bt ((tkV 1 ⟨b, false⟩).getD 0 0) = 1) (hm : mayB (rC b N M B) = false) : FnO 5 [.row b.length [.bytes b.length b]] (.t [commit0, .v (.int .i64 2)]) := by
  refine fnA (E := envXd5) Try.func5 Try.ntmps5 ?_
  obtain ⟨n1, n2, n3, m1, m2, m3, b1, b2, b3⟩ := he
  obtain ⟨sN, sM, sB⟩ := hs
  obtain ⟨l1, l2, l3, l4, l5, l6, l7, l8, l9, l10, l11, l12, l13, l14, l15⟩ := hl
  have v1 := nmV_nat (nmN (nmN (s1 b))); have w1 := nmV_max (nmN (nmN (s1 b)))
  have v2 := nmV_nat (nmsN (N * 5) (s4 b)); have w2 := nmV_max (nmsN (N * 5) (s4 b))
  have v3 := nmV_nat (s8 b N M); have w3 := nmV_max (s8 b N M)
  have L1 : (s1 b).bs.length ≤ 1000000 := by omega
  have L1' : (tkN 1 ⟨b, false⟩).bs.length ≤ 1000000 := L1
  have L2 : (nmN (s1 b)).bs.length ≤ 1000000 := by omega
  have L2' : (nmN (tkN 1 ⟨b, false⟩)).bs.length ≤ 1000000 := L2
  have L3 : (nmN (nmN (tkN 1 ⟨b, false⟩))).bs.length ≤ 1000000 := show (nmN (nmN (s1 b))).bs.length ≤ 1000000 by omega
  clear L1 L2
  refine agow ?_; (try with_reducible exact True.intro)
  refine StopL.mk (loop_forV [0, 2, 4, 5, 6, 7] [0, 1, 2] 2 2 68 5 [.ints .i64 0 []] N (fun j => ⟨[.d (.row b.length [.bytes b.length b]), .dead, .ptr 0 0, .dead, .ptr 1 0, .d (.row (tkV 1 ⟨b, false⟩).length [.bytes (tkV 1 ⟨b, false⟩).length (tkV 1 ⟨b, false⟩)]), .ptr 2 0, .d (.v (.int .i64 (nmV (nmN (nmN (s1 b))) - ((j : Nat) : Int)))), .dead, .dead, .dead, .dead, .dead, .dead, .dead, .dead, .dead, .dead, .dead, .dead, .dead, .dead, .dead, .dead, .dead, .dead, .dead, .dead, .dead, .dead, .dead, .dead, .dead, .dead, .dead, .dead, .dead, .dead, .dead, .dead, .dead, .dead, .dead, .dead, .dead, .dead, .dead, .dead, .dead, .dead, .dead, .dead, .dead, .dead, .dead, .dead, .dead, .dead, .dead, .dead, .dead, .dead, .dead, .dead, .dead, .dead, .dead, .dead, .dead, .dead, .dead, .dead, .dead, .dead, .dead, .dead, .dead, .dead, .dead, .dead, .dead, .dead, .dead, .dead, .dead, .dead, .dead, .dead, .dead, .dead, .dead, .dead, .dead, .dead, .dead, .dead, .dead, .dead, .dead, .dead, .dead, .dead, .dead, .dead, .dead, .dead, .dead, .dead, .dead, .dead, .dead, .dead, .dead, .dead, .dead, .dead, .dead, .dead, .dead, .dead, .dead, .dead, .dead, .dead, .dead, .dead, .dead, .dead, .dead, .dead, .dead, .dead, .dead, .dead, .dead, .dead, .dead, .dead, .dead, .dead, .dead, .dead, .dead], [some (.var cs0Z), some (.var (rdL (nmsN (j * 5) (s4 b)))), some (.vh (xs1 b) 2 true 68 5 j [.ints .i64 (j * 5) (nmsV (j * 5) (s4 b))])]⟩) ?_ (h2 := by rw [Nat.zero_mul, nmsN_zero, nmsV_zero, Int.natCast_zero, Int.sub_zero]; exact rfl))
  intro j hj hl
  by_cases h : j < N
  · have h1 : nmV (nmN (nmN (s1 b))) - ((j : Nat) : Int) > 0 := by omega
    have h2 : (nmsN (j * 5) (s4 b)).bad = false := n2 j h
    have h3 : (nmsN (j * 5) (s4 b)).bs.length ≤ 1000000 := by have := l5 (j * 5); omega
    have hw : nmV (nmN (nmN (s1 b))) - ((j + 1 : Nat) : Int) = nmV (nmN (nmN (s1 b))) - ((j : Nat) : Int) - 1 := by omega
    refine agow ?_; (try with_reducible exact True.intro)
    refine hl.go h [0, 2, 4, 5, 6, 7] [0, 1, 2] ?_
    rw [hw, five_mul, nmsN_add, nmsV_add]
    rfl
  obtain rfl : N = j := by omega
  clear hl hj h
  have h1 : ¬ nmV (nmN (nmN (s1 b))) - ((N : Nat) : Int) > 0 := by omega
  have L5 : (nmsN (N * 5) (s4 b)).bs.length ≤ 1000000 := by have := l5 (N * 5); omega
  refine agow ?_; (try with_reducible exact True.intro)
  clear h1
  refine StopL.mk (loop_forV [0, 2, 4, 5, 6, 8] [0, 1, 2] 2 3 71 3 [.ints .i64 0 []] M (fun j => ⟨[.d (.row b.length [.bytes b.length b]), .dead, .ptr 0 0, .dead, .ptr 1 0, .d (.row (tkV 1 ⟨b, false⟩).length [.bytes (tkV 1 ⟨b, false⟩).length (tkV 1 ⟨b, false⟩)]), .ptr 2 0, .dead, .d (.v (.int .i64 (nmV (nmsN (N * 5) (s4 b)) - ((j : Nat) : Int)))), .dead, .dead, .dead, .dead, .dead, .dead, .dead, .dead, .dead, .dead, .dead, .dead, .dead, .dead, .dead, .dead, .dead, .dead, .dead, .dead, .dead, .dead, .dead, .dead, .dead, .dead, .dead, .dead, .dead, .dead, .dead, .dead, .dead, .dead, .dead, .dead, .dead, .dead, .dead, .dead, .dead, .dead, .dead, .dead, .dead, .dead, .dead, .dead, .dead, .dead, .dead, .dead, .dead, .dead, .dead, .dead, .dead, .dead, .dead, .dead, .dead, .dead, .dead, .dead, .dead, .dead, .dead, .dead, .dead, .dead, .dead, .dead, .dead, .dead, .dead, .dead, .dead, .dead, .dead, .dead, .dead, .dead, .dead, .dead, .dead, .dead, .dead, .dead, .dead, .dead, .dead, .dead, .dead, .dead, .dead, .dead, .dead, .dead, .dead, .dead, .dead, .dead, .dead, .dead, .dead, .dead, .dead, .dead, .dead, .dead, .dead, .dead, .dead, .dead, .dead, .dead, .dead, .dead, .dead, .dead, .dead, .dead, .dead, .dead, .dead, .dead, .dead, .dead, .dead, .dead, .dead, .dead, .dead, .dead], [some (.var cs0Z), some (.var (rdL (nmsN (j * 3) (s6 b N)))), some (.vh (xs2 b N) 3 true 71 3 j [.ints .i64 (j * 3) (nmsV (j * 3) (s6 b N))])]⟩) ?_ (h2 := by rw [Nat.zero_mul, nmsN_zero, nmsV_zero, Int.natCast_zero, Int.sub_zero]; exact rfl))
  intro j hj hl
  by_cases h : j < M
  · have h1 : nmV (nmsN (N * 5) (s4 b)) - ((j : Nat) : Int) > 0 := by omega
    have h2 : (nmsN (j * 3) (s6 b N)).bad = false := m2 j h
    have h3 : (nmsN (j * 3) (s6 b N)).bs.length ≤ 1000000 := by have := l7 (j * 3); omega
    have h4 : (nmN (nmsN (j * 3) (s6 b N))).bs.length ≤ 1000000 := by have := nmN_len (nmsN (j * 3) (s6 b N)); omega
    have hw : nmV (nmsN (N * 5) (s4 b)) - ((j + 1 : Nat) : Int) = nmV (nmsN (N * 5) (s4 b)) - ((j : Nat) : Int) - 1 := by omega
    refine agow ?_; (try with_reducible exact True.intro)
    refine hl.go h [0, 2, 4, 5, 6, 8] [0, 1, 2] ?_
    rw [hw, three_mul, nmsN_add, nmsV_add, nmsV_three, nmsN_three]
    rfl
  obtain rfl : M = j := by omega
  clear hl hj h
  have h1 : ¬ nmV (nmsN (N * 5) (s4 b)) - ((M : Nat) : Int) > 0 := by omega
  have L7 : (nmsN (M * 3) (s6 b N)).bs.length ≤ 1000000 := by have := l7 (M * 3); omega
  have L9 : (nmN (nmsN (M * 3) (s6 b N))).bs.length ≤ 1000000 := show (nmN (s7 b N M)).bs.length ≤ 1000000 by omega
  have L10 : (nmN (nmN (nmsN (M * 3) (s6 b N)))).bs.length ≤ 1000000 := show (nmN (nmN (s7 b N M))).bs.length ≤ 1000000 by omega
  have L11 : (nmN (nmN (nmN (nmsN (M * 3) (s6 b N))))).bs.length ≤ 1000000 := show (nmN (nmN (nmN (s7 b N M)))).bs.length ≤ 1000000 by omega
  have L12 : (nmN (nmN (nmN (nmN (nmsN (M * 3) (s6 b N)))))).bs.length ≤ 1000000 := show (s8 b N M).bs.length ≤ 1000000 by omega
  refine agow ?_; (try with_reducible exact True.intro)
  refine StopL.mk (loop_unroll 4 ?_)
  refine agow ?_; (try with_reducible exact True.intro)
  clear h1 L7 L9 L10 L11 L12
  refine StopL.mk (loop_forV [0, 2, 4, 5, 6, 11] [0, 1, 2] 2 8 22 1 [.gen 0 []] B (fun j => ⟨[.d (.row b.length [.bytes b.length b]), .dead, .ptr 0 0, .dead, .ptr 1 0, .d (.row (tkV 1 ⟨b, false⟩).length [.bytes (tkV 1 ⟨b, false⟩).length (tkV 1 ⟨b, false⟩)]), .ptr 2 0, .dead, .dead, .dead, .dead, .d (.v (.int .i64 (nmV (s8 b N M) - ((j : Nat) : Int)))), .dead, .dead, .dead, .dead, .dead, .dead, .dead, .dead, .dead, .dead, .dead, .dead, .dead, .dead, .dead, .dead, .dead, .dead, .dead, .dead, .dead, .dead, .dead, .dead, .dead, .dead, .dead, .dead, .dead, .dead, .dead, .dead, .dead, .dead, .dead, .dead, .dead, .dead, .dead, .dead, .dead, .dead, .dead, .dead, .dead, .dead, .dead, .dead, .dead, .dead, .dead, .dead, .dead, .dead, .dead, .dead, .dead, .dead, .dead, .dead, .dead, .dead, .dead, .dead, .dead, .dead, .dead, .dead, .dead, .dead, .dead, .dead, .dead, .dead, .dead, .dead, .dead, .dead, .dead, .dead, .dead, .dead, .dead, .dead, .dead, .dead, .dead, .dead, .dead, .dead, .dead, .dead, .dead, .dead, .dead, .dead, .dead, .dead, .dead, .dead, .dead, .dead, .dead, .dead, .dead, .dead, .dead, .dead, .dead, .dead, .dead, .dead, .dead, .dead, .dead, .dead, .dead, .dead, .dead, .dead, .dead, .dead, .dead, .dead, .dead, .dead, .dead, .dead, .dead, .dead, .dead], [some (.var cs0Z), some (.var (rdL (bxsN maxI j (s9 b N M)))), some (.vh (xs3 b N M) 8 true 22 1 j [.gen j ((bxsV maxI j (s9 b N M)).map rowA)])]⟩) ?_ (h2 := by rw [bxsN_zero, bxsV_zero, Int.natCast_zero, Int.sub_zero]; exact rfl))
  intro j hj hl
  by_cases h : j < B
  · have h1 : nmV (s8 b N M) - ((j : Nat) : Int) > 0 := by omega
    have h2 : (bxsN maxI j (s9 b N M)).bad = false := b2 j h
    have h3 : (bxsN maxI j (s9 b N M)).bs.length ≤ 1000000 := by have := l14 j; omega
    have h4 : (nmN (bxsN maxI j (s9 b N M))).bs.length ≤ 1000000 := by have := nmN_len (bxsN maxI j (s9 b N M)); omega
    have h5 := nmV_nat (bxsN maxI j (s9 b N M))
    have hw : nmV (s8 b N M) - ((j + 1 : Nat) : Int) = nmV (s8 b N M) - ((j : Nat) : Int) - 1 := by omega
    refine agow ?_; (try with_reducible exact True.intro)
    refine hl.go h [0, 2, 4, 5, 6, 11] [0, 1, 2] ?_
    rw [hw, bxsN_one, bxsV_one, box_maxV, box_maxN]
    rfl
  obtain rfl : B = j := by omega
  clear hl hj h
  have h1 : ¬ nmV (s8 b N M) - ((B : Nat) : Int) > 0 := by omega
  have L14 : (bxsN maxI B (s9 b N M)).bs.length ≤ 1000000 := by have := l14 B; omega
  have L15 : (tkN 32 (bxsN maxI B (s9 b N M))).bs.length ≤ 1000000 := show (s11 b N M B).bs.length ≤ 1000000 by omega
  have X1 : (nmsV (N * 5) (s4 b)).length = N * 5 := nmsV_length _ _
  have X2 : (nmsV (M * 3) (s6 b N)).length = M * 3 := nmsV_length _ _
  have X3 : (hashV (bxsN maxI B (s9 b N M))).length = 32 := hashV_length _
  have X4 : (bxsV maxI B (s9 b N M)).length = B := bxsV_length _ _ _
  have X5 : ∀ p ∈ bxsV maxI B (s9 b N M), p.length ≤ 6000 := fun p hp => by have := bxsV_len maxI B (s9 b N M) p hp; omega
  refine agow ?_; (try with_reducible exact True.intro)
  have hg2 : (Bt ((tkV 1 ⟨b, false⟩).getD 0 0) != 1) = false := by rw [h1g]; rfl
  clear h1g
  have eR : commitR (csX (nmV (s1 b)) (nmV (nmN (s1 b))) N (nmsV (N * 5) (s4 b)) M (nmsV (M * 3) (s6 b N)) (nmV (s7 b N M)) (nmV (nmN (s7 b N M))) (nmV (nmN (nmN (s7 b N M)))) (nmV (nmN (nmN (nmN (s7 b N M))))) B (bxsV maxI B (s9 b N M)) (hashV (bxsN maxI B (s9 b N M))) (nmV (tkN 32 (bxsN maxI B (s9 b N M)))) (nmV (nmN (tkN 32 (bxsN maxI B (s9 b N M)))))) = .t [.v (.slice none 0 0), .v (.int .i64 1)] := by show commitR (rC b N M B) = _; unfold commitR; rw [if_neg (by rw [hm]; decide)]
  rw [eR]
  clear eR
  refine agow ?_; (try with_reducible exact True.intro)
  try rfl
set_option maxHeartbeats 8000000 in
theorem rtoC_s (b : List UInt8) (hb : b.length ≤ 6000) (N M B : Nat) (he : EndsC b N M B) (hs : N ≤ 3000 ∧ M ≤ 3000 ∧ B ≤ 3000) (hl : LensC b N M B) (hN : (nmV (nmN (nmN (s1 b)))).toNat ≤ N) (hM : (nmV (nmsN (N * 5) (s4 b))).toNat ≤ M) (hB : (nmV (s8 b N M)).toNat ≤ B) (h0 : (nmN (nmN (tkN 32 (bxsN maxI B (s9 b N M))))).bad = false) (h1f : (tkV 1 ⟨b, false⟩).length = 1) (h1g : Bt ((tkV 1 ⟨b, false⟩).getD 0 0) = 1) (hm : mayB (rC b N M B) = true) (hB2 : commitB (rC b N M B) ≠ b) (hn3 : (commitB (rC b N M B)).length = commitN (rC b N M B)) (hn4 : commitN (rC b N M B) ≤ 140737488355328) : FnO 5 [.row b.length [.bytes b.length b]] (.t [commit0, .v (.int .i64 2)]) := by
  refine fnA (E := envXd5) Try.func5 Try.ntmps5 ?_
  obtain ⟨n1, n2, n3, m1, m2, m3, b1, b2, b3⟩ := he
  obtain ⟨sN, sM, sB⟩ := hs
  obtain ⟨l1, l2, l3, l4, l5, l6, l7, l8, l9, l10, l11, l12, l13, l14, l15⟩ := hl
  have v1 := nmV_nat (nmN (nmN (s1 b))); have w1 := nmV_max (nmN (nmN (s1 b)))
  have v2 := nmV_nat (nmsN (N * 5) (s4 b)); have w2 := nmV_max (nmsN (N * 5) (s4 b))
  have v3 := nmV_nat (s8 b N M); have w3 := nmV_max (s8 b N M)
  have L1 : (s1 b).bs.length ≤ 1000000 := by omega
  have L1' : (tkN 1 ⟨b, false⟩).bs.length ≤ 1000000 := L1
  have L2 : (nmN (s1 b)).bs.length ≤ 1000000 := by omega
  have L2' : (nmN (tkN 1 ⟨b, false⟩)).bs.length ≤ 1000000 := L2
  have L3 : (nmN (nmN (tkN 1 ⟨b, false⟩))).bs.length ≤ 1000000 := show (nmN (nmN (s1 b))).bs.length ≤ 1000000 by omega
  clear L1 L2
  refine agow ?_; (try with_reducible exact True.intro)
  refine StopL.mk (loop_forV [0, 2, 4, 5, 6, 7] [0, 1, 2] 2 2 68 5 [.ints .i64 0 []] N (fun j => ⟨[.d (.row b.length [.bytes b.length b]), .dead, .ptr 0 0, .dead, .ptr 1 0, .d (.row (tkV 1 ⟨b, false⟩).length [.bytes (tkV 1 ⟨b, false⟩).length (tkV 1 ⟨b, false⟩)]), .ptr 2 0, .d (.v (.int .i64 (nmV (nmN (nmN (s1 b))) - ((j : Nat) : Int)))), .dead, .dead, .dead, .dead, .dead, .dead, .dead, .dead, .dead, .dead, .dead, .dead, .dead, .dead, .dead, .dead, .dead, .dead, .dead, .dead, .dead, .dead, .dead, .dead, .dead, .dead, .dead, .dead, .dead, .dead, .dead, .dead, .dead, .dead, .dead, .dead, .dead, .dead, .dead, .dead, .dead, .dead, .dead, .dead, .dead, .dead, .dead, .dead, .dead, .dead, .dead, .dead, .dead, .dead, .dead, .dead, .dead, .dead, .dead, .dead, .dead, .dead, .dead, .dead, .dead, .dead, .dead, .dead, .dead, .dead, .dead, .dead, .dead, .dead, .dead, .dead, .dead, .dead, .dead, .dead, .dead, .dead, .dead, .dead, .dead, .dead, .dead, .dead, .dead, .dead, .dead, .dead, .dead, .dead, .dead, .dead, .dead, .dead, .dead, .dead, .dead, .dead, .dead, .dead, .dead, .dead, .dead, .dead, .dead, .dead, .dead, .dead, .dead, .dead, .dead, .dead, .dead, .dead, .dead, .dead, .dead, .dead, .dead, .dead, .dead, .dead, .dead, .dead, .dead, .dead, .dead, .dead, .dead, .dead, .dead], [some (.var cs0Z), some (.var (rdL (nmsN (j * 5) (s4 b)))), some (.vh (xs1 b) 2 true 68 5 j [.ints .i64 (j * 5) (nmsV (j * 5) (s4 b))])]⟩) ?_ (h2 := by rw [Nat.zero_mul, nmsN_zero, nmsV_zero, Int.natCast_zero, Int.sub_zero]; exact rfl))
  intro j hj hl
  by_cases h : j < N
  · have h1 : nmV (nmN (nmN (s1 b))) - ((j : Nat) : Int) > 0 := by omega
    have h2 : (nmsN (j * 5) (s4 b)).bad = false := n2 j h
    have h3 : (nmsN (j * 5) (s4 b)).bs.length ≤ 1000000 := by have := l5 (j * 5); omega
    have hw : nmV (nmN (nmN (s1 b))) - ((j + 1 : Nat) : Int) = nmV (nmN (nmN (s1 b))) - ((j : Nat) : Int) - 1 := by omega
    refine agow ?_; (try with_reducible exact True.intro)
    refine hl.go h [0, 2, 4, 5, 6, 7] [0, 1, 2] ?_
    rw [hw, five_mul, nmsN_add, nmsV_add]
    rfl
  obtain rfl : N = j := by omega
  clear hl hj h
  have h1 : ¬ nmV (nmN (nmN (s1 b))) - ((N : Nat) : Int) > 0 := by omega
  have L5 : (nmsN (N * 5) (s4 b)).bs.length ≤ 1000000 := by have := l5 (N * 5); omega
  refine agow ?_; (try with_reducible exact True.intro)
  clear h1
  refine StopL.mk (loop_forV [0, 2, 4, 5, 6, 8] [0, 1, 2] 2 3 71 3 [.ints .i64 0 []] M (fun j => ⟨[.d (.row b.length [.bytes b.length b]), .dead, .ptr 0 0, .dead, .ptr 1 0, .d (.row (tkV 1 ⟨b, false⟩).length [.bytes (tkV 1 ⟨b, false⟩).length (tkV 1 ⟨b, false⟩)]), .ptr 2 0, .dead, .d (.v (.int .i64 (nmV (nmsN (N * 5) (s4 b)) - ((j : Nat) : Int)))), .dead, .dead, .dead, .dead, .dead, .dead, .dead, .dead, .dead, .dead, .dead, .dead, .dead, .dead, .dead, .dead, .dead, .dead, .dead, .dead, .dead, .dead, .dead, .dead, .dead, .dead, .dead, .dead, .dead, .dead, .dead, .dead, .dead, .dead, .dead, .dead, .dead, .dead, .dead, .dead, .dead, .dead, .dead, .dead, .dead, .dead, .dead, .dead, .dead, .dead, .dead, .dead, .dead, .dead, .dead, .dead, .dead, .dead, .dead, .dead, .dead, .dead, .dead, .dead, .dead, .dead, .dead, .dead, .dead, .dead, .dead, .dead, .dead, .dead, .dead, .dead, .dead, .dead, .dead, .dead, .dead, .dead, .dead, .dead, .dead, .dead, .dead, .dead, .dead, .dead, .dead, .dead, .dead, .dead, .dead, .dead, .dead, .dead, .dead, .dead, .dead, .dead, .dead, .dead, .dead, .dead, .dead, .dead, .dead, .dead, .dead, .dead, .dead, .dead, .dead, .dead, .dead, .dead, .dead, .dead, .dead, .dead, .dead, .dead, .dead, .dead, .dead, .dead, .dead, .dead, .dead, .dead, .dead, .dead], [some (.var cs0Z), some (.var (rdL (nmsN (j * 3) (s6 b N)))), some (.vh (xs2 b N) 3 true 71 3 j [.ints .i64 (j * 3) (nmsV (j * 3) (s6 b N))])]⟩) ?_ (h2 := by rw [Nat.zero_mul, nmsN_zero, nmsV_zero, Int.natCast_zero, Int.sub_zero]; exact rfl))
  intro j hj hl
  by_cases h : j < M
  · have h1 : nmV (nmsN (N * 5) (s4 b)) - ((j : Nat) : Int) > 0 := by omega
    have h2 : (nmsN (j * 3) (s6 b N)).bad = false := m2 j h
    have h3 : (nmsN (j * 3) (s6 b N)).bs.length ≤ 1000000 := by have := l7 (j * 3); omega
    have h4 : (nmN (nmsN (j * 3) (s6 b N))).bs.length ≤ 1000000 := by have := nmN_len (nmsN (j * 3) (s6 b N)); omega
    have hw : nmV (nmsN (N * 5) (s4 b)) - ((j + 1 : Nat) : Int) = nmV (nmsN (N * 5) (s4 b)) - ((j : Nat) : Int) - 1 := by omega
    refine agow ?_; (try with_reducible exact True.intro)
    refine hl.go h [0, 2, 4, 5, 6, 8] [0, 1, 2] ?_
    rw [hw, three_mul, nmsN_add, nmsV_add, nmsV_three, nmsN_three]
    rfl
  obtain rfl : M = j := by omega
  clear hl hj h
  have h1 : ¬ nmV (nmsN (N * 5) (s4 b)) - ((M : Nat) : Int) > 0 := by omega
  have L7 : (nmsN (M * 3) (s6 b N)).bs.length ≤ 1000000 := by have := l7 (M * 3); omega
  have L9 : (nmN (nmsN (M * 3) (s6 b N))).bs.length ≤ 1000000 := show (nmN (s7 b N M)).bs.length ≤ 1000000 by omega
  have L10 : (nmN (nmN (nmsN (M * 3) (s6 b N)))).bs.length ≤ 1000000 := show (nmN (nmN (s7 b N M))).bs.length ≤ 1000000 by omega
  have L11 : (nmN (nmN (nmN (nmsN (M * 3) (s6 b N))))).bs.length ≤ 1000000 := show (nmN (nmN (nmN (s7 b N M)))).bs.length ≤ 1000000 by omega
  have L12 : (nmN (nmN (nmN (nmN (nmsN (M * 3) (s6 b N)))))).bs.length ≤ 1000000 := show (s8 b N M).bs.length ≤ 1000000 by omega
  refine agow ?_; (try with_reducible exact True.intro)
  refine StopL.mk (loop_unroll 4 ?_)
  refine agow ?_; (try with_reducible exact True.intro)
  clear h1 L7 L9 L10 L11 L12
  refine StopL.mk (loop_forV [0, 2, 4, 5, 6, 11] [0, 1, 2] 2 8 22 1 [.gen 0 []] B (fun j => ⟨[.d (.row b.length [.bytes b.length b]), .dead, .ptr 0 0, .dead, .ptr 1 0, .d (.row (tkV 1 ⟨b, false⟩).length [.bytes (tkV 1 ⟨b, false⟩).length (tkV 1 ⟨b, false⟩)]), .ptr 2 0, .dead, .dead, .dead, .dead, .d (.v (.int .i64 (nmV (s8 b N M) - ((j : Nat) : Int)))), .dead, .dead, .dead, .dead, .dead, .dead, .dead, .dead, .dead, .dead, .dead, .dead, .dead, .dead, .dead, .dead, .dead, .dead, .dead, .dead, .dead, .dead, .dead, .dead, .dead, .dead, .dead, .dead, .dead, .dead, .dead, .dead, .dead, .dead, .dead, .dead, .dead, .dead, .dead, .dead, .dead, .dead, .dead, .dead, .dead, .dead, .dead, .dead, .dead, .dead, .dead, .dead, .dead, .dead, .dead, .dead, .dead, .dead, .dead, .dead, .dead, .dead, .dead, .dead, .dead, .dead, .dead, .dead, .dead, .dead, .dead, .dead, .dead, .dead, .dead, .dead, .dead, .dead, .dead, .dead, .dead, .dead, .dead, .dead, .dead, .dead, .dead, .dead, .dead, .dead, .dead, .dead, .dead, .dead, .dead, .dead, .dead, .dead, .dead, .dead, .dead, .dead, .dead, .dead, .dead, .dead, .dead, .dead, .dead, .dead, .dead, .dead, .dead, .dead, .dead, .dead, .dead, .dead, .dead, .dead, .dead, .dead, .dead, .dead, .dead, .dead, .dead, .dead, .dead, .dead, .dead], [some (.var cs0Z), some (.var (rdL (bxsN maxI j (s9 b N M)))), some (.vh (xs3 b N M) 8 true 22 1 j [.gen j ((bxsV maxI j (s9 b N M)).map rowA)])]⟩) ?_ (h2 := by rw [bxsN_zero, bxsV_zero, Int.natCast_zero, Int.sub_zero]; exact rfl))
  intro j hj hl
  by_cases h : j < B
  · have h1 : nmV (s8 b N M) - ((j : Nat) : Int) > 0 := by omega
    have h2 : (bxsN maxI j (s9 b N M)).bad = false := b2 j h
    have h3 : (bxsN maxI j (s9 b N M)).bs.length ≤ 1000000 := by have := l14 j; omega
    have h4 : (nmN (bxsN maxI j (s9 b N M))).bs.length ≤ 1000000 := by have := nmN_len (bxsN maxI j (s9 b N M)); omega
    have h5 := nmV_nat (bxsN maxI j (s9 b N M))
    have hw : nmV (s8 b N M) - ((j + 1 : Nat) : Int) = nmV (s8 b N M) - ((j : Nat) : Int) - 1 := by omega
    refine agow ?_; (try with_reducible exact True.intro)
    refine hl.go h [0, 2, 4, 5, 6, 11] [0, 1, 2] ?_
    rw [hw, bxsN_one, bxsV_one, box_maxV, box_maxN]
    rfl
  obtain rfl : B = j := by omega
  clear hl hj h
  have h1 : ¬ nmV (s8 b N M) - ((B : Nat) : Int) > 0 := by omega
  have L14 : (bxsN maxI B (s9 b N M)).bs.length ≤ 1000000 := by have := l14 B; omega
  have L15 : (tkN 32 (bxsN maxI B (s9 b N M))).bs.length ≤ 1000000 := show (s11 b N M B).bs.length ≤ 1000000 by omega
  have X1 : (nmsV (N * 5) (s4 b)).length = N * 5 := nmsV_length _ _
  have X2 : (nmsV (M * 3) (s6 b N)).length = M * 3 := nmsV_length _ _
  have X3 : (hashV (bxsN maxI B (s9 b N M))).length = 32 := hashV_length _
  have X4 : (bxsV maxI B (s9 b N M)).length = B := bxsV_length _ _ _
  have X5 : ∀ p ∈ bxsV maxI B (s9 b N M), p.length ≤ 6000 := fun p hp => by have := bxsV_len maxI B (s9 b N M) p hp; omega
  refine agow ?_; (try with_reducible exact True.intro)
  have hg2 : (Bt ((tkV 1 ⟨b, false⟩).getD 0 0) != 1) = false := by rw [h1g]; rfl
  clear h1g
  have hst := str_ne hB2
  clear hB2
  have eR : commitR (csX (nmV (s1 b)) (nmV (nmN (s1 b))) N (nmsV (N * 5) (s4 b)) M (nmsV (M * 3) (s6 b N)) (nmV (s7 b N M)) (nmV (nmN (s7 b N M))) (nmV (nmN (nmN (s7 b N M)))) (nmV (nmN (nmN (nmN (s7 b N M))))) B (bxsV maxI B (s9 b N M)) (hashV (bxsN maxI B (s9 b N M))) (nmV (tkN 32 (bxsN maxI B (s9 b N M)))) (nmV (nmN (tkN 32 (bxsN maxI B (s9 b N M)))))) = .t [.row (commitN (rC b N M B)) [.bytes (commitN (rC b N M B)) (commitB (rC b N M B))], .v (.int .i64 0)] := by show commitR (rC b N M B) = _; unfold commitR; rw [if_pos hm]
  rw [eR]
  clear eR
  refine agow ?_; (try with_reducible exact True.intro)
  try rfl
end Go.Proofs.Ytbgdlggobbiibaa
