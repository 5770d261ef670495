/-
  Bytes as a commit: the other program.
-/
import Derived.Test.YtbgdlggobbiibaaI17
import Derived.Test.YtbgdlggobbiibaaI16
import Derived.Test.YtbgdlggobbiibaaI1
namespace Go.Proofs.Ytbgdlggobbiibaa
set_option maxRecDepth 100000
open Go.RowKit Pm
set_option linter.unusedVariables false
set_option linter.unusedSimpArgs false

abbrev maxI : Int := 9223372036854775807
/-- the readers one behind the other, where so many operations, votes, boxes are read -/
def s1 (b : List UInt8) : Rd := tkN 1 ⟨b, false⟩
def s4 (b : List UInt8) : Rd := nmN (nmN (nmN (s1 b)))
def s6 (b : List UInt8) (N : Nat) : Rd := nmN (nmsN (N * 5) (s4 b))
def s7 (b : List UInt8) (N M : Nat) : Rd := nmsN (M * 3) (s6 b N)
def s8 (b : List UInt8) (N M : Nat) : Rd := nmN (nmN (nmN (nmN (s7 b N M))))
def s9 (b : List UInt8) (N M : Nat) : Rd := nmN (s8 b N M)
def s10 (b : List UInt8) (N M B : Nat) : Rd := bxsN maxI B (s9 b N M)
def s11 (b : List UInt8) (N M B : Nat) : Rd := tkN 32 (s10 b N M B)
def s12 (b : List UInt8) (N M B : Nat) : Rd := nmN (nmN (s11 b N M B))
def rC (b : List UInt8) (N M B : Nat) : CS := ⟨nmV (s1 b), nmV (nmN (s1 b)), N, nmsV (N * 5) (s4 b), M, nmsV (M * 3) (s6 b N), nmV (s7 b N M), nmV (nmN (s7 b N M)), nmV (nmN (nmN (s7 b N M))), nmV (nmN (nmN (nmN (s7 b N M)))), B, fun j => (bxsV maxI B (s9 b N M)).getD j [], hashV (s10 b N M B), nmV (s11 b N M B), nmV (nmN (s11 b N M B))⟩
theorem nmV_nat (R : Rd) : 0 ≤ nmV R := by unfold nmV numT; split; omega; exact Int.le_refl 0
theorem nmV_max (R : Rd) : nmV R ≤ 9223372036854775807 := by
  unfold nmV numT; split
  · next h => have := numK_small _ h; omega
  · decide
theorem box_maxV (R : Rd) : boxV maxI R = tkV (nmV R).toNat (nmN R) := by
  have := nmV_max R
  unfold boxV cntV cntN; rw [if_pos this, if_pos this]
theorem box_maxN (R : Rd) : boxN maxI R = tkN (nmV R).toNat (nmN R) := by
  have := nmV_max R
  unfold boxN cntV cntN; rw [if_pos this, if_pos this]
theorem cnt_max (R : Rd) : cntV maxI R = nmV R ∧ cntN maxI R = nmN R := by
  have := nmV_max R
  unfold cntV cntN; rw [if_pos this, if_pos this]; exact ⟨rfl, rfl⟩
/-- so much was there -/
theorem nmsN_size {k : Nat} {R : Rd} (h : (nmsN k R).bad = false) : 8 * k ≤ R.bs.length := by
  obtain ⟨_, h2, _⟩ := nmsN_back h
  rw [h2, List.length_append, numsB_length, nmsV_length]; omega
theorem bxsB_size : ∀ (L : List (List UInt8)), 8 * L.length ≤ (bxsB L).length
  | [] => Nat.le_refl _
  | p :: L => by
    have := bxsB_size L
    have e : bxsB (p :: L) = (numB (p.length : Int) ++ p) ++ bxsB L := by unfold bxsB; rw [List.flatMap_cons]
    rw [e, List.length_append, List.length_append, numB_length, List.length_cons]; omega
theorem bxsN_size {m : Int} {k : Nat} {R : Rd} (h : (bxsN m k R).bad = false) : 8 * k ≤ R.bs.length := by
  obtain ⟨_, h2, _⟩ := bxsN_back h
  have := bxsB_size (bxsV m k R)
  rw [bxsV_length] at this
  rw [h2, List.length_append]; omega
theorem tkV_len' (n : Nat) (R : Rd) : (tkV n R).length ≤ R.bs.length := tkV_len n R
theorem boxV_len (m : Int) (R : Rd) : (boxV m R).length ≤ R.bs.length := Nat.le_trans (tkV_len _ _) (cntN_len m R)
theorem bxsV_len (m : Int) : ∀ (k : Nat) (R : Rd), ∀ p ∈ bxsV m k R, p.length ≤ R.bs.length
  | 0, _, p, hp => by simp [bxsV] at hp
  | k + 1, R, p, hp => by
    rcases List.mem_cons.1 hp with rfl | hp
    · exact boxV_len m R
    · exact Nat.le_trans (bxsV_len m k _ p hp) (boxN_len m R)
attribute [local irreducible] nmV nmN cntV cntN tkV tkN nmsV nmsN bxsV bxsN hashV numB numsB bxsB boxV boxN
/-- what was written is read by the other program as it was -/
theorem rparse (c : CS) (h : MF c) (hc : CSok c) (ht : c.tag.length = 32) (b : List UInt8) (hb : b = commitB c) {N M B : Nat}
    (hN : N = (nmV (nmN (nmN (s1 b)))).toNat ∨ N < (nmV (nmN (nmN (s1 b)))).toNat ∧ (nmsN (N * 5) (s4 b)).bad = true)
    (hM : M = (nmV (nmsN (N * 5) (s4 b))).toNat ∨ M < (nmV (nmsN (N * 5) (s4 b))).toNat ∧ (nmsN (M * 3) (s6 b N)).bad = true)
    (hB : B = (nmV (s8 b N M)).toNat ∨ B < (nmV (s8 b N M)).toNat ∧ (bxsN maxI B (s9 b N M)).bad = true) :
    SameC (rC b N M B) c ∧ s12 b N M B = ⟨[], false⟩ ∧ tkV 1 ⟨b, false⟩ = [1] := by
  have hb2 : b = [1] ++ restF c [] := by
    have h1 := commit_form c []
    rw [List.append_nil] at h1
    rw [hb, h1]; rfl
  obtain ⟨t1, t2⟩ := tk_app (n := 1) (p := [1]) (t := restF c []) rfl
  rw [← hb2] at t1 t2
  have q1 : s1 b = ⟨restF c [], false⟩ := t2
  unfold restF at q1
  obtain ⟨a1, b1⟩ := num_app (t := numB c.fr ++ (numB (c.n : Int) ++ (numsB c.ops ++ (numB (c.m : Int) ++ (numsB c.vs ++ (numB c.sl ++ (numB c.p0 ++ (numB c.p1 ++ (numB c.p2 ++ (numB (c.k : Int) ++ (bxsB (boxL c) ++ (c.tag ++ (numB c.sE ++ (numB c.sS ++ [])))))))))))))) h.e
  rw [← q1] at a1 b1
  obtain ⟨a2, b2⟩ := num_app (t := numB (c.n : Int) ++ (numsB c.ops ++ (numB (c.m : Int) ++ (numsB c.vs ++ (numB c.sl ++ (numB c.p0 ++ (numB c.p1 ++ (numB c.p2 ++ (numB (c.k : Int) ++ (bxsB (boxL c) ++ (c.tag ++ (numB c.sE ++ (numB c.sS ++ []))))))))))))) h.fr
  rw [← b1] at a2 b2
  have n4 := h.n4
  have m8 := h.m8
  have k16 := h.k16
  obtain ⟨a3, b3⟩ := num_app (z := (c.n : Int)) (t := numsB c.ops ++ (numB (c.m : Int) ++ (numsB c.vs ++ (numB c.sl ++ (numB c.p0 ++ (numB c.p1 ++ (numB c.p2 ++ (numB (c.k : Int) ++ (bxsB (boxL c) ++ (c.tag ++ (numB c.sE ++ (numB c.sS ++ [])))))))))))) (by omega)
  rw [← b2] at a3 b3
  have q4 : s4 b = nmN (nmN (nmN (s1 b))) := rfl
  rw [← q4] at b3
  have full : ∀ k, k ≤ c.n * 5 → (nmsN k (s4 b)).bad = false := fun k hk => by
    cases e : (nmsN k (s4 b)).bad with
    | false => rfl
    | true =>
      exfalso
      have h1 := nmsN_bad (k := c.n * 5 - k) e
      rw [← nmsN_add, show k + (c.n * 5 - k) = c.ops.length by rw [hc.ops]; omega, b3, (nums_app h.ops).2] at h1
      cases h1
  have eN : N = c.n := by
    rw [a3] at hN
    rcases hN with hN | ⟨hN, hb⟩
    · omega
    · rw [full _ (by omega)] at hb; cases hb
  obtain ⟨a4, b4⟩ := nums_app (zs := c.ops) (t := numB (c.m : Int) ++ (numsB c.vs ++ (numB c.sl ++ (numB c.p0 ++ (numB c.p1 ++ (numB c.p2 ++ (numB (c.k : Int) ++ (bxsB (boxL c) ++ (c.tag ++ (numB c.sE ++ (numB c.sS ++ []))))))))))) h.ops
  have e1' : N * 5 = c.ops.length := by rw [eN, hc.ops]
  rw [← b3, ← e1'] at a4 b4
  obtain ⟨a5, b5⟩ := num_app (z := (c.m : Int)) (t := numsB c.vs ++ (numB c.sl ++ (numB c.p0 ++ (numB c.p1 ++ (numB c.p2 ++ (numB (c.k : Int) ++ (bxsB (boxL c) ++ (c.tag ++ (numB c.sE ++ (numB c.sS ++ [])))))))))) (by omega)
  rw [← b4] at a5 b5
  have q6 : s6 b N = nmN (nmsN (N * 5) (s4 b)) := rfl
  rw [← q6] at b5
  have full2 : ∀ k, k ≤ c.m * 3 → (nmsN k (s6 b N)).bad = false := fun k hk => by
    cases e : (nmsN k (s6 b N)).bad with
    | false => rfl
    | true =>
      exfalso
      have h1 := nmsN_bad (k := c.m * 3 - k) e
      rw [← nmsN_add, show k + (c.m * 3 - k) = c.vs.length by rw [hc.vs]; omega, b5, (nums_app h.vs).2] at h1
      cases h1
  have eM : M = c.m := by
    rw [a5] at hM
    rcases hM with hM | ⟨hM, hb⟩
    · omega
    · rw [full2 _ (by omega)] at hb; cases hb
  obtain ⟨a6, b6⟩ := nums_app (zs := c.vs) (t := numB c.sl ++ (numB c.p0 ++ (numB c.p1 ++ (numB c.p2 ++ (numB (c.k : Int) ++ (bxsB (boxL c) ++ (c.tag ++ (numB c.sE ++ (numB c.sS ++ []))))))))) h.vs
  have e2' : M * 3 = c.vs.length := by rw [eM, hc.vs]
  rw [← b5, ← e2'] at a6 b6
  have q7 : s7 b N M = nmsN (M * 3) (s6 b N) := rfl
  rw [← q7] at b6
  obtain ⟨a7, b7⟩ := num_app (t := numB c.p0 ++ (numB c.p1 ++ (numB c.p2 ++ (numB (c.k : Int) ++ (bxsB (boxL c) ++ (c.tag ++ (numB c.sE ++ (numB c.sS ++ [])))))))) h.sl
  rw [← b6] at a7 b7
  obtain ⟨a8, b8⟩ := num_app (t := numB c.p1 ++ (numB c.p2 ++ (numB (c.k : Int) ++ (bxsB (boxL c) ++ (c.tag ++ (numB c.sE ++ (numB c.sS ++ []))))))) h.p0
  rw [← b7] at a8 b8
  obtain ⟨a9, b9⟩ := num_app (t := numB c.p2 ++ (numB (c.k : Int) ++ (bxsB (boxL c) ++ (c.tag ++ (numB c.sE ++ (numB c.sS ++ [])))))) h.p1
  rw [← b8] at a9 b9
  obtain ⟨a10, b10⟩ := num_app (t := numB (c.k : Int) ++ (bxsB (boxL c) ++ (c.tag ++ (numB c.sE ++ (numB c.sS ++ []))))) h.p2
  rw [← b9] at a10 b10
  have q8 : s8 b N M = nmN (nmN (nmN (nmN (s7 b N M)))) := rfl
  rw [← q8] at b10
  obtain ⟨a11, b11⟩ := num_app (z := (c.k : Int)) (t := bxsB (boxL c) ++ (c.tag ++ (numB c.sE ++ (numB c.sS ++ [])))) (by omega)
  rw [← b10] at a11 b11
  have q9 : s9 b N M = nmN (s8 b N M) := rfl
  rw [← q9] at b11
  have hbx : ∀ p ∈ boxL c, (p.length : Int) ≤ maxI ∧ p.length ≤ 9223372036854775807 := fun p hp => by
    unfold boxL at hp
    obtain ⟨j, hj, rfl⟩ := List.mem_map.1 hp
    have := h.bx j (List.mem_range.1 hj)
    show _ ≤ (9223372036854775807 : Int) ∧ _
    omega
  have full3 : ∀ k, k ≤ c.k → (bxsN maxI k (s9 b N M)).bad = false := fun k hk => by
    cases e : (bxsN maxI k (s9 b N M)).bad with
    | false => rfl
    | true =>
      exfalso
      have h1 := bxsN_bad (m := maxI) (k := c.k - k) e
      rw [← bxsN_add, show k + (c.k - k) = (boxL c).length by rw [boxL_length]; omega, b11, (bxs_app hbx).2] at h1
      cases h1
  have eB : B = c.k := by
    rw [a11] at hB
    rcases hB with hB | ⟨hB, hb⟩
    · omega
    · rw [full3 _ (by omega)] at hb; cases hb
  obtain ⟨a12, b12⟩ := bxs_app (m := maxI) (L := boxL c) (t := c.tag ++ (numB c.sE ++ (numB c.sS ++ []))) hbx
  have e3' : B = (boxL c).length := by rw [eB, boxL_length]
  rw [← b11, ← e3'] at a12 b12
  have q10 : s10 b N M B = bxsN maxI B (s9 b N M) := rfl
  rw [← q10] at b12
  obtain ⟨a13, b13⟩ := hash_app (t := numB c.sE ++ (numB c.sS ++ [])) ht
  rw [← b12] at a13 b13
  have q11 : s11 b N M B = tkN 32 (s10 b N M B) := rfl
  rw [← q11] at b13
  obtain ⟨a14, b14⟩ := num_app (t := numB c.sS ++ []) h.sE
  rw [← b13] at a14 b14
  obtain ⟨a15, b15⟩ := num_app (t := []) h.sS
  rw [← b14] at a15 b15
  refine ⟨⟨a1, a2, eN, a4, eM, a6, a7, a8, a9, a10, eB, fun j hj => ?_, a13, a14, a15⟩, b15, t1⟩
  show (bxsV maxI B (s9 b N M)).getD j [] = _
  rw [a12]
  unfold boxL
  rw [List.getD_eq_getElem?_getD, List.getElem?_eq_getElem (by simp; exact hj)]
  simp
theorem rC_ok {b : List UInt8} {N M B : Nat} (hb : b.length ≤ 6000) (hN : N ≤ 3000) (hM : M ≤ 3000) (hB : B ≤ 3000) : CSok (rC b N M B) ∧ (rC b N M B).tag.length = 32 := by
  refine ⟨⟨hN, hM, hB, nmsV_length _ _, nmsV_length _ _, fun j hj => ?_⟩, hashV_length _⟩
  have hl := bxsV_length maxI B (s9 b N M)
  have hj' : j < (bxsV maxI B (s9 b N M)).length := by rw [hl]; exact hj
  show ((bxsV maxI B (s9 b N M)).getD j []).length ≤ _
  rw [List.getD_eq_getElem?_getD, List.getElem?_eq_getElem hj', Option.getD_some]
  have h1 := bxsV_len maxI B (s9 b N M) _ (List.getElem_mem hj')
  have h2 : (s9 b N M).bs.length ≤ b.length := by
    have i1 := tkN_len 1 ⟨b, false⟩
    have i2 := nmN_len (s1 b); have i3 := nmN_len (nmN (s1 b)); have i4 := nmN_len (nmN (nmN (s1 b)))
    have i5 := nmsN_len (N * 5) (s4 b); have i6 := nmN_len (nmsN (N * 5) (s4 b)); have i7 := nmsN_len (M * 3) (s6 b N)
    have i8 := nmN_len (s7 b N M); have i9 := nmN_len (nmN (s7 b N M)); have i10 := nmN_len (nmN (nmN (s7 b N M))); have i11 := nmN_len (nmN (nmN (nmN (s7 b N M)))); have i12 := nmN_len (s8 b N M)
    exact Nat.le_trans i12 (Nat.le_trans i11 (Nat.le_trans i10 (Nat.le_trans i9 (Nat.le_trans i8 (Nat.le_trans i7 (Nat.le_trans i6 (Nat.le_trans i5 (Nat.le_trans i4 (Nat.le_trans i3 (Nat.le_trans i2 i1))))))))))
  omega
end Go.Proofs.Ytbgdlggobbiibaa

/-
  Bytes as a commit: the program.
-/
namespace Go.Proofs.Ytbgdlggobbiibaa
set_option maxRecDepth 100000
open Go.RowKit Pm
set_option linter.unusedVariables false
set_option linter.unusedSimpArgs false
attribute [local irreducible] condK LoopA regA numB numsB boxB anyP idxP mayB withinB sigB oddOpB oddVoteB bodyB tkV tkN numT isNum nmV nmN cntV cntN hashV boxV boxN nmsV nmsN bxsV bxsN

/-- rows in a row, as records -/
theorem rows_recs {S : Nat → Prop} {w : World} {k : Nat} {X : List (List UInt8)} {v : Value} (hX : X.length = k) (h : RA S w (.row k [.gen k (X.map rowA)]) v) : RA S w (.recs k 1 (boxF fun j => X.getD j [])) v := by
  cases h with
  | row h h1 h2 h3 h4 =>
    rename_i c cs a
    obtain ⟨_, g⟩ := h.toGen
    have hl : cs.length = k := by rw [g.len]; simpa using hX
    have at' : ∀ j, j < k → ∃ u, cs[j]? = some u ∧ RA S w (rowA (X.getD j [])) u ∧ u.oneCell' = true := fun j hj => by
      obtain ⟨u, e1, e2, e3⟩ := g.at j (by simpa [hX] using hj)
      refine ⟨u, e1, ?_, e3⟩
      have : (X.map rowA).getD j (.v undef) = rowA (X.getD j []) := by
        rw [List.getD_eq_getElem?_getD, List.getD_eq_getElem?_getD, List.getElem?_map, List.getElem?_eq_getElem (by omega)]; rfl
      rwa [this] at e2
    refine .recs (cs := fun j => [cs.getD j undef]) (fun j hj => ?_) h1 h2 h3 ?_
    · obtain ⟨u, e1, e2, e3⟩ := at' j hj
      rw [show cs.getD j undef = u by rw [List.getD_eq_getElem?_getD, e1]; rfl]
      exact .ofGen rfl (.cons e2 e3 .nil)
    · rcases h4 with h4 | ⟨b, o, h5, h6, h7, h8⟩
      · left; rw [h4] at hl; exact hl.symm
      · refine .inr ⟨b, o, h5, fun j hj => .inr ⟨b, o + j * 1, rfl, h6, h7, fun i hi => ?_⟩⟩
        have hi0 : i = 0 := by simpa using hi
        subst hi0
        have h9 := h8 j (by omega)
        rw [Nat.mul_one, Nat.add_zero, h9]
        simp only [List.getElem_cons_zero, List.getD_eq_getElem?_getD, List.getElem?_eq_getElem (show j < cs.length by omega), Option.getD_some]
theorem ra_recs {S : Nat → Prop} {w : World} {s1 s3 s5 s6 : List Seg} {x : A} {k : Nat} {X : List (List UInt8)} {v : Value} {i1 i2 i3 i4 i5 i6 : Int} {y z : A} {t : List UInt8} {e1 e2 : Int} (hX : X.length = k)
    (h : RA S w (.agg [.ints .i64 2 [i1, i2], .gen 2 [y, z], .ints .i64 4 [i3, i4, i5, i6], .gen 1 [.row k [.gen k (X.map rowA)]], .bytes 32 t, .ints .i64 2 [e1, e2]]) v) :
    RA S w (.agg [.ints .i64 2 [i1, i2], .gen 2 [y, z], .ints .i64 4 [i3, i4, i5, i6], .gen 1 [.recs k 1 (boxF fun j => X.getD j [])], .bytes 32 t, .ints .i64 2 [e1, e2]]) v := by
  cases h with
  | agg h =>
  cases h with
  | ints h1 r1 =>
  cases r1 with
  | gen g1 h2 r2 =>
  cases r2 with
  | ints h3 r3 =>
  cases r3 with
  | gen g2 h4 r4 =>
  cases g2 with
  | cons a1 b1 r =>
  exact .agg (.ints h1 (.gen g1 h2 (.ints h3 (.gen (.cons (rows_recs hX a1) b1 r) rfl r4))))
theorem fnM_up {f : FuncId} {pos : Nat} {x x' : Bk} {args : List A} {a a' : A} (h : FnMO f pos x args (.d a) x') (k : ∀ (S : Nat → Prop) (w : World) (v : Value), RA S w a v → RA S w a' v) : FnMO f pos x args (.d a') x' := by
  intro S w r vs h1 h2 h3 h4
  refine (h S w r vs h1 h2 h3 h4).mono ?_
  rintro e' w' ⟨v, rfl, h5, h7, h8⟩
  exact ⟨v, rfl, k _ _ _ h5, h7, h8⟩
theorem wcommit_cs (R : Rd) (hR : R.bs.length ≤ 1000000) : FnMO 12 0 (.var (rdL R)) [] (.d (.agg (cSegs (wC R)))) (.var (rdL (wq11 R))) :=
  fnM_up (wcommit_rd R hR) fun S w v h => ra_recs (s1 := []) (s3 := []) (s5 := []) (s6 := []) (x := .v undef) (bxsV_length _ _ _) h
theorem kind_ok (k : UInt8) (R : Rd) (hR : R.bs.length ≤ 1000000) : FnMO 11 0 (.var (rdL R)) [.v (.int .u8 (Bt k))] (.t []) (.var (rdL (kdN k R))) := by
  refine fnMA (E := envRj) Try.func11 Try.ntmps11 ?_
  cases hb : (tkN 1 R).bad with
  | true =>
    have e : kdN k R = tkN 1 R := by unfold kdN; rw [if_neg (fun h => by rw [hb] at h; cases h.1)]
    rw [e]
    clear e
    refine agow ?_; (try with_reducible exact True.intro)
  | false =>
    have hl := (tkN_back hb).2.2
    by_cases h1 : (tkV 1 R).getD 0 0 = k
    · have e : kdN k R = tkN 1 R := by unfold kdN; rw [if_neg (fun h => h.2 h1)]
      have h2 : (Bt ((tkV 1 R).getD 0 0) != Bt k) = false := by rw [h1]; simp
      rw [e]
      clear e h1
      refine agow ?_; (try with_reducible exact True.intro)
    · have e : kdN k R = ⟨(tkN 1 R).bs, true⟩ := by unfold kdN; rw [if_pos ⟨hb, h1⟩]
      have h2 : (Bt ((tkV 1 R).getD 0 0) != Bt k) = true := by
        simp only [bne_iff_ne, ne_eq]
        intro h3
        exact h1 (byte_ext (by unfold Bt at h3; omega))
      rw [e]
      clear e h1
      refine agow ?_; (try with_reducible exact True.intro)
theorem ended_ok (R : Rd) (hR : R.bs.length ≤ 1000000) : FnMO 13 0 (.var (rdL R)) [] (.d (.v (.bool (!R.bad && decide (R.bs.length = 0))))) (.var (rdL R)) := by
  refine fnMA (E := envRj) Try.func13 Try.ntmps13 ?_
  cases hb : R.bad with
  | true =>
    refine agow ?_; (try with_reducible exact True.intro)
    rfl
  | false =>
    refine agow ?_; (try with_reducible exact True.intro)
    have e : ((R.bs.length : Int) == 0) = decide (R.bs.length = 0) := by rw [Bool.eq_iff_iff]; simp
    rw [e]
    rfl
def kindX : Nat → Bk → List A → (Res → Bk → Prop) → Prop
  | 0, .var [.gen 1 [.row n [.bytes m bs]], .bools 1 [bad]], [.v (.int .u8 z)], K => n = bs.length ∧ m = bs.length ∧ bs.length ≤ 1000000 ∧ ∃ k, z = Bt k ∧ K (.t []) (.var (rdL (kdN k ⟨bs, bad⟩)))
  | _, _, _, _ => False
theorem kindX_ok : ∀ pos x args K, kindX pos x args K → ∃ r x', FnMO 11 pos x args r x' ∧ K r x' := by
  intro pos x args K hd
  unfold kindX at hd
  split at hd
  · next n m bs bad z =>
    obtain ⟨rfl, rfl, h1, k, rfl, hd⟩ := hd
    exact ⟨_, _, kind_ok k ⟨bs, bad⟩ h1, hd⟩
  · exact hd.elim
noncomputable def envW0 : EnvX := envCq.addM 11 kindX kindX_ok ⟨_, Try.func11, by kernel_rfl, by kernel_rfl⟩
noncomputable def envW1 : EnvX := envW0.addM 12 (rdM (fun R => .d (.agg (cSegs (wC R)))) wq11) (rdM_of wcommit_cs) ⟨_, Try.func12, by kernel_rfl, by kernel_rfl⟩
noncomputable def envW2 : EnvX := envW1.addM 13 (rdM (fun R => .d (.v (.bool (!R.bad && decide (R.bs.length = 0))))) (fun R => R)) (rdM_of ended_ok) ⟨_, Try.func13, by kernel_rfl, by kernel_rfl⟩
theorem Bt_one : Bt 1 = 1 := by decide
/-- bytes as a commit, or refused -/
def okRes (b : List UInt8) : Res := if okC b = true then .t [.agg (cSegs (cOf b)), .v (.int .i64 0)] else .t [commit0, .v (.int .i64 2)]
theorem kdN_len (k : UInt8) (R : Rd) : (kdN k R).bs.length ≤ R.bs.length := by
  unfold kdN; split
  · exact tkN_len 1 R
  · exact tkN_len 1 R
set_option maxHeartbeats 2000000 in
theorem wtoCommit_ok (b : List UInt8) (hb : b.length ≤ 1000000) : FnO 4 [.row b.length [.bytes b.length b]] (okRes b) := by
  refine fnA (E := envW2) Try.func4 Try.ntmps4 ?_
  have h1 := kdN_len 1 ⟨b, false⟩
  have h1' : (kdN 1 ⟨b, false⟩).bs.length ≤ 1000000 := Nat.le_trans h1 hb
  have h2 : (wq11 (kdN 1 ⟨b, false⟩)).bs.length ≤ 1000000 := by
    refine Nat.le_trans ?_ h1'
    generalize kdN 1 ⟨b, false⟩ = R
    have i2 := nmN_len R; have i3 := nmN_len (nmN R); have i4 : (wq3 R).bs.length ≤ (nmN (nmN R)).bs.length := cntN_len _ _
    have i5 : (wq4 R).bs.length ≤ (wq3 R).bs.length := nmsN_len _ _
    have i6 : (wq5 R).bs.length ≤ (wq4 R).bs.length := cntN_len _ _
    have i7 : (wq6 R).bs.length ≤ (wq5 R).bs.length := nmsN_len _ _
    have i8 := nmN_len (wq6 R); have i9 := nmN_len (nmN (wq6 R)); have i10 := nmN_len (nmN (nmN (wq6 R))); have i11 : (wq7 R).bs.length ≤ (nmN (nmN (nmN (wq6 R)))).bs.length := nmN_len _
    have i12 : (wq8 R).bs.length ≤ (wq7 R).bs.length := cntN_len _ _
    have i13 : (wq9 R).bs.length ≤ (wq8 R).bs.length := bxsN_len _ _ _
    have i14 : (wq10 R).bs.length ≤ (wq9 R).bs.length := tkN_len _ _
    have i15 := nmN_len (wq10 R); have i16 : (wq11 R).bs.length ≤ (nmN (wq10 R)).bs.length := nmN_len _
    exact Nat.le_trans i16 (Nat.le_trans i15 (Nat.le_trans i14 (Nat.le_trans i13 (Nat.le_trans i12 (Nat.le_trans i11 (Nat.le_trans i10 (Nat.le_trans i9 (Nat.le_trans i8 (Nat.le_trans i7 (Nat.le_trans i6 (Nat.le_trans i5 (Nat.le_trans i4 (Nat.le_trans i3 i2)))))))))))))
  have hc := (wC_ok (kdN 1 ⟨b, false⟩)).1
  have e1 := Bt_one
  cases h3 : (!(wq11 (kdN 1 ⟨b, false⟩)).bad && decide ((wq11 (kdN 1 ⟨b, false⟩)).bs.length = 0)) with
  | false =>
    have e : okRes b = .t [commit0, .v (.int .i64 2)] := by
      unfold okRes okC
      rw [← Bool.and_assoc, h3]; rfl
    rw [e]
    clear e
    refine agow ?_; (try with_reducible exact True.intro)
    refine ⟨1, Bt_one.symm, ?_⟩
    refine agow ?_; (try with_reducible exact True.intro)
    try rfl
  | true =>
    cases h4 : mayB (wC (kdN 1 ⟨b, false⟩)) with
    | false =>
      have e : okRes b = .t [commit0, .v (.int .i64 2)] := by
        unfold okRes okC cOf
        rw [← Bool.and_assoc, h3, h4]; rfl
      rw [e]
      clear e
      refine agow ?_; (try with_reducible exact True.intro)
      refine ⟨1, Bt_one.symm, ?_⟩
      refine agow ?_; (try with_reducible exact True.intro)
      try rfl
    | true =>
      have e : okRes b = .t [.agg (cSegs (cOf b)), .v (.int .i64 0)] := by
        unfold okRes okC cOf
        rw [← Bool.and_assoc, h3, h4]; rfl
      rw [e]
      clear e
      refine agow ?_; (try with_reducible exact True.intro)
      refine ⟨1, Bt_one.symm, ?_⟩
      refine agow ?_; (try with_reducible exact True.intro)
      try rfl
end Go.Proofs.Ytbgdlggobbiibaa

/-
  Whole numbers: the lowest bits; small ones do not wrap. No program is named here.
-/
namespace Go.Proofs.Ytbgdlggobbiibaa
set_option maxRecDepth 100000
open Go.RowKit
set_option linter.unusedVariables false

theorem low16 (n : Int) (h : (Lit.int .i64 n).wf = true) : bits .and .i64 n 65535 = n % 65536 := by
  show IntKind.i64.wrap ((BitVec.ofInt 64 n &&& BitVec.ofInt 64 (65535 : Int)).toNat : Int) = _
  have e : (BitVec.ofInt 64 (65535 : Int)).toNat = 2 ^ 16 - 1 := by decide
  rw [BitVec.toNat_and, e, Nat.and_two_pow_sub_one_eq_mod, BitVec.toNat_ofInt, IntWalk.i64_in _ (by omega)]
  omega
theorem small_wrap (K : Nat) (h : K ≤ 1000000) : RowKit.wrap64 (K : Int) = (K : Int) ∧ IntKind.i64.wrap (K : Int) = (K : Int) := ⟨IntWalk.wrap64_in _ (by omega), IntWalk.i64_in _ (by omega)⟩
end Go.Proofs.Ytbgdlggobbiibaa

/-
  Laws of commits read and written.
-/
namespace Go.Proofs.Ytbgdlggobbiibaa
set_option maxRecDepth 100000
open Go.RowKit Pm
set_option linter.unusedVariables false
set_option linter.unusedSimpArgs false

theorem eqRes_iff {n n' : Nat} {a b : List Int} : eqRes n a n' b = true ↔ n = n' ∧ a = b := by unfold eqRes; simp
theorem eqBx_iff {k k' : Nat} {a b : Nat → List UInt8} : eqBx k a k' b = true ↔ k = k' ∧ ∀ j, j < k → a j = b j := by
  unfold eqBx
  rw [Bool.and_eq_true, decide_eq_true_eq, Bool.not_eq_true']
  refine and_congr_right fun hk => ?_
  constructor
  · intro h j hj
    have h2 : strE (a j) (b j) = true := by
      cases e : strE (a j) (b j) with
      | true => rfl
      | false => rw [(anyP_iff _ _).2 ⟨j, hj, by rw [e]; rfl⟩] at h; cases h
    rw [strE_eq] at h2
    exact of_decide_eq_true h2
  · intro h
    exact anyP_no fun j hj => by rw [h j hj, strE_eq]; simp
theorem sameB_iff {c d : CS} : sameB c d = true ↔ SameC c d := by
  unfold sameB
  simp only [Bool.and_eq_true, beq_iff_eq, eqSegs, Bool.and_true, decide_eq_true_eq, eqRes_iff, eqBx_iff, List.cons.injEq, and_true]
  constructor
  · rintro ⟨h1, h2, h3, ⟨h4, h5, h6⟩, h7, ⟨h8, h9⟩, ⟨h10, h11⟩, ⟨h12, h13⟩, h14, h15⟩
    exact ⟨h1, h2, h10, h11, h12, h13, h3, h4, h5, h6, h14, fun j hj => h15 j (by omega), h7, h8, h9⟩
  · rintro ⟨h1, h2, h10, h11, h12, h13, h3, h4, h5, h6, h14, h15, h7, h8, h9⟩
    exact ⟨h1, h2, h3, ⟨h4, h5, h6⟩, h7, ⟨h8, h9⟩, ⟨h10, h11⟩, ⟨h12, h13⟩, h14, fun j hj => h15 j (by omega)⟩
theorem bytes_sameB {c d : CS} (h : mayB c = true) (hc : CSok c) (ht : c.tag.length = 32) (h' : mayB d = true) (hc' : CSok d) (ht' : d.tag.length = 32) : ((⟨(commitB c).toArray⟩ : ByteArray).toList == (⟨(commitB d).toArray⟩ : ByteArray).toList) = sameB c d := by
  have h1 : strE (commitB c) (commitB d) = decide (commitB c = commitB d) := strE_eq _ _
  show strE (commitB c) (commitB d) = _
  rw [h1]
  cases e : sameB c d with
  | true => exact decide_eq_true (commitB_same (sameB_iff.1 e))
  | false => exact decide_eq_false fun h2 => by rw [sameB_iff.2 (commitB_inj h hc ht h' hc' ht' h2)] at e; cases e
attribute [local irreducible] condK LoopA regA numB numsB boxB anyP idxP mayB strE eqRes eqBx sameB commitB commitN bodyN bodyB commitR bigB okRes okC cOf
/-- bytes as a commit, or refused -/
def toS : List A → (Res → Prop) → Prop
  | [.row n [.bytes m b]], K => n = b.length ∧ m = b.length ∧ b.length ≤ 1000000 ∧ K (okRes b)
  | _, _ => False
theorem toS_of {f : FuncId} {p : Nat} (h : ∀ b : List UInt8, b.length ≤ 1000000 → FnO f [.row b.length [.bytes b.length b]] (okRes b)) : ∀ args K, toS args K → ∃ r, FnO f args r ∧ K r := by
  intro args K hd
  unfold toS at hd
  split at hd
  · obtain ⟨rfl, rfl, h1, hd⟩ := hd; exact ⟨_, h _ h1, hd⟩
  · exact hd.elim
noncomputable def envZ1 : EnvX := envF1
noncomputable def envZ2 : EnvX := envZ1.add 8 twoS (twoS_of rsame_ok) ⟨_, Try.func8, by kernel_rfl, by kernel_rfl⟩
noncomputable def envZ3 : EnvX := envZ2.add 4 toS (toS_of (p := 0) wtoCommit_ok) ⟨_, Try.func4, by kernel_rfl, by kernel_rfl⟩
theorem okRes_good {c : CS} (h : mayB c = true) (hc : CSok c) (ht : c.tag.length = 32) : okRes (commitB c) = .t [.agg (cSegs (cOf (commitB c))), .v (.int .i64 0)] := by
  unfold okRes; rw [if_pos (okC_app h hc ht).1]
theorem okRes_less {c : CS} {k : Nat} (h : mayB c = true) (hc : CSok c) (ht : c.tag.length = 32) (hk : k < (commitB c).length) : okRes ((commitB c).take k) = .t [commit0, .v (.int .i64 2)] := by
  unfold okRes
  rw [if_neg]
  intro h1
  have := okC_less h hc ht (t := (commitB c).drop k) (List.take_append_drop k _).symm h1
  have h2 := congrArg List.length this
  rw [List.length_drop] at h2
  simp at h2; omega
theorem okRes_more {c : CS} {x : UInt8} (h : mayB c = true) (hc : CSok c) (ht : c.tag.length = 32) : okRes (commitB c ++ [x]) = .t [commit0, .v (.int .i64 2)] := by
  unfold okRes
  rw [if_neg]
  intro h1
  have := okC_more h hc ht h1
  cases this
theorem cOf_ok (b : List UInt8) : CSok (cOf b) := by unfold cOf; exact (wC_ok _).1
theorem wf_u8 {z : Int} (h : (Lit.int .u8 z).wf = true) : 0 ≤ z ∧ z < 256 := by
  unfold Lit.wf at h
  simp [IntKind.min, IntKind.max, IntKind.signed, IntKind.bits] at h
  omega
end Go.Proofs.Ytbgdlggobbiibaa
