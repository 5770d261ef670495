/-
  Commits with numbers beyond their bounds.
-/
import Derived.Test.YtodlghgmgnhncaaI16
import Derived.Test.YtodlghgmgnhncaaI17
import Derived.Test.YtodlghgmgnhncaaI18
namespace Go.Proofs.Ytodlghgmgnhncaa
set_option maxRecDepth 100000
open Go.RowKit Pm
set_option linter.unusedVariables false
set_option linter.unusedSimpArgs false

/-- boxes in a row -/
def boxLK : List A → (List (List UInt8) → Prop) → Prop
  | [], K => K []
  | .v (.slice none 0 0) :: r, K => boxLK r fun L => K ([] :: L)
  | .row n [.bytes m b] :: r, K => n = b.length ∧ m = b.length ∧ boxLK r fun L => K (b :: L)
  | _, _ => False
theorem boxLK_spec : ∀ {l : List A} {K : List (List UInt8) → Prop}, boxLK l K → ∃ L, K L ∧ L.length = l.length ∧ ∀ {S : Nat → Prop} {w : World} {vs : List Value}, RG S w l vs → RG S w (L.map rowA) vs := by
  intro l
  induction l with
  | nil => intro K h; exact ⟨[], h, rfl, fun g => g⟩
  | cons a r ih =>
    intro K h
    unfold boxLK at h
    split at h
    · next e => cases e
    · next e =>
      cases e
      obtain ⟨L, h1, h2, h3⟩ := ih h
      refine ⟨[] :: L, h1, by simp [h2], fun g => ?_⟩
      cases g with
      | cons a1 b1 r1 =>
        cases a1
        exact .cons (nil_rowQ (.bytes rfl .nil)) b1 (h3 r1)
    · next e =>
      cases e
      obtain ⟨rfl, rfl, h⟩ := h
      obtain ⟨L, h1, h2, h3⟩ := ih h
      refine ⟨_ :: L, h1, by simp [h2], fun g => ?_⟩
      cases g with
      | cons a1 b1 r1 => exact .cons a1 b1 (h3 r1)
    · exact h.elim
/-- operations, votes, boxes of any form -/
def recK (q : Nat) : A → (Nat → List Int → Prop) → Prop
  | .v (.slice none 0 0), K => K 0 []
  | .row n [.ints .i64 p zs], K => p = n * q ∧ n ≤ 3000 ∧ zs.length = n * q ∧ K n zs
  | _, _ => False
def bxsK : A → (Nat → List (List UInt8) → Prop) → Prop
  | .v (.slice none 0 0), K => K 0 []
  | .row k [.gen p l], K => p = k ∧ k ≤ 3000 ∧ boxLK l fun L => L.length = k ∧ (L.all fun b => decide (b.length ≤ 6000)) = true ∧ K k L
  | _, _ => False
theorem recK_spec {q : Nat} {a : A} {K : Nat → List Int → Prop} (h : recK q a K) : ∃ n zs, K n zs ∧ n ≤ 3000 ∧ zs.length = n * q ∧ ∀ {S : Nat → Prop} {w : World} {v : Value}, RA S w a v → RA S w (.row n [.ints .i64 (n * q) zs]) v := by
  unfold recK at h
  split at h
  · refine ⟨0, [], h, by omega, by simp, fun hr => ?_⟩
    rw [RA.plain hr]
    exact nil_rowQ (.ints (by simp) .nil)
  · obtain ⟨rfl, h1, h2, h⟩ := h
    exact ⟨_, _, h, h1, h2, fun hr => hr⟩
  · exact h.elim
theorem bxsK_spec {a : A} {K : Nat → List (List UInt8) → Prop} (h : bxsK a K) : ∃ k X, K k X ∧ k ≤ 3000 ∧ X.length = k ∧ (∀ p ∈ X, p.length ≤ 6000) ∧ ∀ {S : Nat → Prop} {w : World} {v : Value}, RA S w a v → RA S w (.recs k 1 (boxF fun j => X.getD j [])) v := by
  unfold bxsK at h
  split at h
  · refine ⟨0, [], h, by omega, rfl, by simp, fun hr => ?_⟩
    rw [RA.plain hr]
    exact .recs (cs := fun _ => []) (fun j hj => absurd hj (Nat.not_lt_zero _)) (Nat.le_refl _) (Nat.zero_le _) (fun _ => rfl) (.inl rfl)
  · obtain ⟨rfl, h1, h⟩ := h
    obtain ⟨L, ⟨h2, h3, h⟩, h4, h5⟩ := boxLK_spec h
    refine ⟨_, L, h, h1, h2, fun p hp => of_decide_eq_true (List.all_eq_true.1 h3 p hp), fun hr => rows_recs h2 ?_⟩
    cases hr with
    | row k1 k2 k3 k4 k5 =>
      obtain ⟨g1, g2⟩ := k1.toGen
      exact .row (.ofGen (by simp [h2]) (h5 g2)) k2 k3 k4 k5
  · exact h.elim
def csW (e fr : Int) (n : Nat) (ops : List Int) (m : Nat) (vs : List Int) (s p0 p1 p2 : Int) (k : Nat) (X : List (List UInt8)) (tag : List UInt8) (sE sS : Int) : CS := ⟨e, fr, n, ops, m, vs, s, p0, p1, p2, k, fun j => X.getD j [], tag, sE, sS⟩
/-- a commit of any form -/
def anyS : List A → (Res → Prop) → Prop
  | [.agg [.ints .i64 2 [e, fr], .gen 2 [x, y], .ints .i64 4 [s, p0, p1, p2], .gen 1 [z], .bytes 32 tag, .ints .i64 2 [sE, sS]]], K =>
    tag.length = 32 ∧ recK 5 x fun n ops => recK 3 y fun m vs => bxsK z fun k X => K (commitR (csW e fr n ops m vs s p0 p1 p2 k X tag sE sS))
  | _, _ => False
theorem fn_argQ {f : FuncId} {a a' : A} {res : Res} (h : FnO f [a'] res) (k : ∀ (S : Nat → Prop) (w : World) (v : Value), RA S w a v → RA S w a' v) : FnO f [a] res := by
  intro S w vs hG ha
  refine h S w vs hG ?_
  cases ha with
  | cons h1 r => exact .cons (k _ _ _ h1) r
theorem anyS_ok : ∀ args K, anyS args K → ∃ r, FnO 15 args r ∧ K r := by
  intro args K hd
  unfold anyS at hd
  split at hd
  · next e fr x y s p0 p1 p2 z tag sE sS =>
    obtain ⟨ht, hd⟩ := hd
    obtain ⟨n, ops, hd, n1, n2, n3⟩ := recK_spec hd
    obtain ⟨m, vs, hd, m1, m2, m3⟩ := recK_spec hd
    obtain ⟨k, X, hd, k1, k2, k3, k4⟩ := bxsK_spec hd
    refine ⟨_, fn_argQ (wcommit_ok (csW e fr n ops m vs s p0 p1 p2 k X tag sE sS) ⟨n1, m1, k1, n2, m2, fun j hj => ?_⟩ ht) (fun S w v h => ?_), hd⟩
    · show (X.getD j []).length ≤ 6000
      have hj' : j < X.length := by rw [k2]; exact hj
      rw [List.getD_eq_getElem?_getD, List.getElem?_eq_getElem hj']
      exact k3 _ (List.getElem_mem hj')
    · cases h with
      | agg h =>
      cases h with
      | ints h1 r1 =>
      cases r1 with
      | gen g1 h2 r2 =>
      cases r2 with
      | ints h3 r3 =>
      cases r3 with
      | gen g2 h4 r4 =>
      cases g1 with
      | cons a1 b1 r =>
      cases r with
      | cons a2 b2 r' =>
      cases g2 with
      | cons a3 b3 r3 =>
      exact .agg (.ints h1 (.gen (.cons (n3 a1) b1 (.cons (m3 a2) b2 r')) rfl (.ints h3 (.gen (.cons (k4 a3) b3 r3) rfl r4))))
  · exact hd.elim
theorem commitR_no {c : CS} (h : mayB c = false) : commitR c = .t [.v (.slice none 0 0), .v (.int .i64 1)] := by unfold commitR; rw [if_neg (by rw [h]; decide)]
theorem commitR_yes {c : CS} (h : mayB c = true) : commitR c = .t [.row (commitN c) [.bytes (commitN c) (commitB c)], .v (.int .i64 0)] := by unfold commitR; rw [if_pos h]
theorem commitN_pos (c : CS) : 0 < commitN c := by unfold commitN; omega
theorem no_e {c : CS} (h : withinB c.e 1099511627776 = false) : mayB c = false := by unfold mayB; rw [h]; rfl
theorem no_fr {c : CS} (h : withinB c.fr 7 = false) : mayB c = false := by unfold mayB; rw [h]; simp
theorem no_sig {c : CS} (h : sigB c.sE c.sS = false) : mayB c = false := by unfold mayB; rw [h]; simp
theorem no_p1 {c : CS} (h : withinB c.p1 2147483579 = false) : mayB c = false := by unfold mayB; rw [h]; simp
theorem no_n {c : CS} (h : decide ((c.n : Int) ≤ 4) = false) : mayB c = false := by unfold mayB; rw [h]; simp
theorem no_ops {c : CS} (h : anyP (fun i => oddOpB (atK 5 c.ops i)) c.n = true) : mayB c = false := by unfold mayB; rw [h]; simp
theorem no_m {c : CS} (h : decide ((c.m : Int) ≤ 8) = false) : mayB c = false := by unfold mayB; rw [h]; simp
theorem no_vs {c : CS} (h : anyP (fun i => oddVoteB (atK 3 c.vs i)) c.m = true) : mayB c = false := by unfold mayB; rw [h]; simp
theorem no_k {c : CS} (h : decide ((c.k : Int) ≤ 16) = false) : mayB c = false := by unfold mayB; rw [h]; simp
theorem no_bx {c : CS} (h : anyP (fun i => decide (((c.bx i).length : Int) > 300)) c.k = true) : mayB c = false := by unfold mayB; rw [h]; simp
theorem yes_0 {t : List UInt8} : mayB (csW 0 0 0 [] 0 [] 0 0 0 0 0 [] t 0 0) = true := by
  unfold mayB csW
  simp [withinB, sigB, anyP_no]
attribute [local irreducible] condK LoopA regA numB numsB boxB anyP idxP commitB commitN bodyN bodyB commitR mayB
noncomputable def envO0 : EnvX := envF1.add 15 anyS anyS_ok ⟨_, Try.func15, by kernel_rfl, by kernel_rfl⟩
noncomputable def envO : EnvX := { envO0 with fz := true }
set_option maxHeartbeats 8000000 in
theorem wireOdd_ok (way : Int) : FnO 8 [.v (.int .i64 way)] (.d (.v (.bool true))) := by
  refine fnA (E := envO) Try.func8 Try.ntmps8 ?_
  by_cases h0 : way < 0
  case pos =>
    refine agow ?_; (try with_reducible exact True.intro)
  by_cases h1 : way > 11
  case pos =>
    refine agow ?_; (try with_reducible exact True.intro)
  obtain ⟨k, rfl, hk⟩ : ∃ k : Nat, way = k ∧ k ≤ 11 := ⟨way.toNat, by omega, by omega⟩
  clear h0 h1
  match k, hk with
  | 0, _ =>
    refine agow ?_; (try with_reducible exact True.intro)
    rw [commitR_yes yes_0]
    refine agow ?_; (try with_reducible exact True.intro)
    rw [show ∀ c : CS, decide (((commitN c : Nat) : Int) > 0) = true from fun c => decide_eq_true (by have := commitN_pos c; omega)]
    refine agow ?_; (try with_reducible exact True.intro)
  | 1, _ =>
    refine agow ?_; (try with_reducible exact True.intro)
    rw [commitR_no (no_e (by decide))]
    refine agow ?_; (try with_reducible exact True.intro)
  | 2, _ =>
    refine agow ?_; (try with_reducible exact True.intro)
    rw [commitR_no (no_e (by decide))]
    refine agow ?_; (try with_reducible exact True.intro)
  | 3, _ =>
    refine agow ?_; (try with_reducible exact True.intro)
    rw [commitR_no (no_fr (by decide))]
    refine agow ?_; (try with_reducible exact True.intro)
  | 4, _ =>
    refine agow ?_; (try with_reducible exact True.intro)
    rw [commitR_no (no_n (by decide))]
    refine agow ?_; (try with_reducible exact True.intro)
  | 5, _ =>
    refine agow ?_; (try with_reducible exact True.intro)
    rw [commitR_no (no_ops (anyP_at (N := 0) (by decide) (by decide)))]
    refine agow ?_; (try with_reducible exact True.intro)
  | 6, _ =>
    refine agow ?_; (try with_reducible exact True.intro)
    rw [commitR_no (no_m (by decide))]
    refine agow ?_; (try with_reducible exact True.intro)
  | 7, _ =>
    refine agow ?_; (try with_reducible exact True.intro)
    rw [commitR_no (no_vs (anyP_at (N := 0) (by decide) (by decide)))]
    refine agow ?_; (try with_reducible exact True.intro)
  | 8, _ =>
    refine agow ?_; (try with_reducible exact True.intro)
    rw [commitR_no (no_p1 (by decide))]
    refine agow ?_; (try with_reducible exact True.intro)
  | 9, _ =>
    refine agow ?_; (try with_reducible exact True.intro)
    rw [commitR_no (no_k (by decide))]
    refine agow ?_; (try with_reducible exact True.intro)
  | 10, _ =>
    refine agow ?_; (try with_reducible exact True.intro)
    rw [commitR_no (no_bx (anyP_at (N := 0) (by decide) (by decide)))]
    refine agow ?_; (try with_reducible exact True.intro)
  | 11, _ =>
    refine agow ?_; (try with_reducible exact True.intro)
    rw [commitR_no (no_sig (by decide))]
    refine agow ?_; (try with_reducible exact True.intro)
  | k + 12, h => exact absurd h (by omega)
theorem wireOdd_walk {w : World} (way : Int) (hw : (Lit.int .i64 way).wf = true) :
    Calls Try.prog 8 #[.int .i64 way] w fun e w' => e = .returned (.bool true) ∧ Below w.heap.size w w' :=
  law_of_fn (wireOdd_ok way) gok_none12 (.cons (.v _) .nil)
end Go.Proofs.Ytodlghgmgnhncaa
