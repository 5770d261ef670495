/-
  Views: operations at once, and one by one.
-/
import Derived.Test.YtkeabmnmeheeiaaW15
namespace Go.Proofs.Ytkeabmnmeheeiaa
set_option maxRecDepth 100000
set_option pp.deepTerms true
set_option pp.maxSteps 1000000
open Go.RowKit Pm
set_option linter.unusedVariables false
set_option linter.unusedSimpArgs false
attribute [local irreducible] condK LoopA regA powI scal keyV someZ someA isI putL mayV

/-- the same but for who is new or gone -/
structure Alike (s t : Vw) : Prop where
  zs : s.zs = t.zs
  ad : s.ad = t.ad
  k : s.k = t.k
theorem Alike.err {s t : Vw} (h : Alike s t) (fr : Int) (o : List Int) : errOp s fr o = errOp t fr o := by
  unfold errOp; rw [h.zs, h.ad]
theorem Alike.next {s t : Vw} (h : Alike s t) (o : List Int) : Alike (nextOp s o) (nextOp t o) := by
  unfold nextOp
  split
  · exact ⟨by show putL s.zs _ _ = putL t.zs _ _; rw [h.zs], h.ad, h.k⟩
  · split
    · exact ⟨by show putL s.zs _ _ = putL t.zs _ _; rw [h.zs], by show s.ad.set _ _ = t.ad.set _ _; rw [h.ad], h.k⟩
    · split
      · exact ⟨h.zs, by show s.ad.set _ _ = t.ad.set _ _; rw [h.ad], h.k⟩
      · split
        · exact ⟨h.zs, by show s.ad.set _ _ = t.ad.set _ _; rw [h.ad], h.k⟩
        · exact ⟨h.zs, h.ad, rfl⟩
theorem oddTo_1 (ops : List Int) (j : Nat) : oddTo (opAt ops j) 1 = !ownB (opAt (opAt ops j) 0) := by
  unfold oddTo
  rw [show List.range 1 = [0] from rfl, List.any_cons, List.any_nil, Bool.or_false]
theorem opAt_0 (ops : List Int) (j : Nat) : opAt (opAt ops j) 0 = opAt ops j := by
  unfold opAt
  rw [Nat.zero_mul, List.drop_zero, List.take_take]; rfl
/-- one operation, alone -/
theorem doR_one {s : Vw} {fr : Int} {ops : List Int} {j : Nat} (h : (doR 0 s fr (opAt ops j) 1).1 = 0) :
    mayV 0 s.zs s.ad s.k = true ∧ ownB (opAt ops j) = true ∧ memB s.zs fr = true ∧ errOp s fr (opAt ops j) = 0 ∧ doR 0 s fr (opAt ops j) 1 = (0, nextOp s (opAt ops j)) ∧ (nextOp s (opAt ops j)).k ≤ ((cntB (nextOp s (opAt ops j)).ad : Nat) : Int) := by
  have hv : mayV 0 s.zs s.ad s.k = true := by
    cases hq : mayV 0 s.zs s.ad s.k with
    | true => rfl
    | false => unfold doR at h; rw [hq] at h; simp at h
  have ho : oddTo (opAt ops j) 1 = false := by
    cases hq : oddTo (opAt ops j) 1 with
    | false => rfl
    | true => unfold doR at h; rw [hv, hq] at h; simp at h
  have hm : memB s.zs fr = true := by
    cases hq : memB s.zs fr with
    | true => rfl
    | false => unfold doR at h; rw [hv, ho, hq] at h; simp at h
  have hown : ownB (opAt ops j) = true := by rw [oddTo_1, opAt_0] at ho; simpa using ho
  by_cases he : errOp s fr (opAt ops j) = 0
  · have hr : runE fr (opAt ops j) 1 0 s = (0, nextOp s (opAt ops j)) := by rw [runE_go (opAt_0 ops j) he, runE_0]
    by_cases hc : (nextOp s (opAt ops j)).k ≤ ((cntB (nextOp s (opAt ops j)).ad : Nat) : Int)
    · exact ⟨hv, hown, hm, he, doR_of hv (by decide) ho hm hr hc, hc⟩
    · exfalso
      unfold doR at h
      rw [hv, ho, hm, hr] at h
      have : ((cntB (nextOp s (opAt ops j)).ad : Nat) : Int) < (nextOp s (opAt ops j)).k := by omega
      simp [this] at h
  · exfalso
    have hr : runE fr (opAt ops j) 1 0 s = (errOp s fr (opAt ops j), s) := runE_no (opAt_0 ops j) he
    rw [doR_no hv (by decide) ho hm hr he] at h
    exact he h
/-- operations one by one: the view behind so many -/
def turnS (ops : List Int) (s : Vw) : Nat → Vw
  | 0 => s
  | j + 1 => ⟨(nextOp (turnS ops s j) (opAt ops j)).zs, (nextOp (turnS ops s j) (opAt ops j)).ad, (nextOp (turnS ops s j) (opAt ops j)).k, F8, F8⟩
theorem turn_ok {ops : List Int} {s : Vw} : ∀ {n : Nat}, (∀ j, j < n → (doR 0 (turnS ops s j) 0 (opAt ops j) 1).1 = 0) → ∀ (d j : Nat) (t : Vw), j + d = n → Alike t (turnS ops s j) → ∃ t', runE 0 ops d j t = (0, t') ∧ Alike t' (turnS ops s n)
  | n, h, 0, j, t, hj, ht => ⟨t, runE_0 _ _ _ _, by rw [← hj]; exact ht⟩
  | n, h, d + 1, j, t, hj, ht => by
    obtain ⟨_, _, _, he, _, _⟩ := doR_one (h j (by omega))
    have he' : errOp t 0 (opAt ops j) = 0 := by rw [ht.err]; exact he
    have hn : Alike (nextOp t (opAt ops j)) (turnS ops s (j + 1)) := by
      have := ht.next (opAt ops j)
      exact ⟨this.zs, this.ad, this.k⟩
    obtain ⟨t', h1, h2⟩ := turn_ok h d (j + 1) _ (by omega) hn
    exact ⟨t', by rw [runE_go rfl he']; exact h1, h2⟩
theorem turn_do {ops : List Int} {s : Vw} {n : Nat} (hn : n ≤ 4) (hv : mayV 0 s.zs s.ad s.k = true) (hm : memB s.zs 0 = true) (h : ∀ j, j < n → (doR 0 (turnS ops s j) 0 (opAt ops j) 1).1 = 0) :
    ∃ t', doR 0 s 0 ops n = (0, t') ∧ Alike t' (turnS ops s n) := by
  obtain ⟨t', h1, h2⟩ := turn_ok h n 0 s (by omega) ⟨rfl, rfl, rfl⟩
  refine ⟨t', doR_of hv hn ?_ hm h1 ?_, h2⟩
  · unfold oddTo
    rw [List.any_eq_false]
    intro i hi
    rw [(doR_one (h i (by simpa using hi))).2.1]; simp
  · rw [h2.k, h2.ad]
    rcases n with _ | n
    · show s.k ≤ ((cntB s.ad : Nat) : Int)
      unfold mayV at hv
      simp only [Bool.and_eq_true, decide_eq_true_eq] at hv
      exact hv.2
    · exact (doR_one (h n (by omega))).2.2.2.2.2
theorem first_no {p : Nat → Prop} : ∀ (n : Nat), ∃ N, N ≤ n ∧ (∀ j, j < N → p j) ∧ (N = n ∨ (N < n ∧ ¬ p N))
  | 0 => ⟨0, Nat.le_refl _, fun j hj => absurd hj (by omega), .inl rfl⟩
  | n + 1 => by
    obtain ⟨N, h1, h2, h3⟩ := first_no (p := p) n
    rcases h3 with rfl | ⟨h3, h4⟩
    · by_cases h : p N
      · exact ⟨N + 1, Nat.le_refl _, fun j hj => by
          rcases Nat.lt_or_ge j N with h5 | h5
          · exact h2 j h5
          · exact (show j = N by omega) ▸ h, .inl rfl⟩
      · exact ⟨N, by omega, h2, .inr ⟨by omega, h⟩⟩
    · exact ⟨N, by omega, h2, .inr ⟨by omega, h4⟩⟩
attribute [local irreducible] doR turnS
theorem turnS_0 (ops : List Int) (s : Vw) : turnS ops s 0 = s := by rw [turnS]
theorem turnS_succ {ops : List Int} {s : Vw} {j : Nat} (h : (doR 0 (turnS ops s j) 0 (opAt ops j) 1).1 = 0) : (turnS ops s (j + 1)).zs = (doR 0 (turnS ops s j) 0 (opAt ops j) 1).2.zs ∧ (turnS ops s (j + 1)).ad = (doR 0 (turnS ops s j) 0 (opAt ops j) 1).2.ad ∧ (turnS ops s (j + 1)).k = (doR 0 (turnS ops s j) 0 (opAt ops j) 1).2.k := by
  rw [(doR_one h).2.2.2.2.1, turnS]
  exact ⟨rfl, rfl, rfl⟩
theorem turnS_F (ops : List Int) {s : Vw} (h : s = ⟨s.zs, s.ad, s.k, F8, F8⟩) : ∀ j, turnS ops s j = ⟨(turnS ops s j).zs, (turnS ops s j).ad, (turnS ops s j).k, F8, F8⟩
  | 0 => by rw [turnS_0]; exact h
  | j + 1 => by rw [turnS]
set_option maxHeartbeats 1000000 in
theorem viewTurns_ok (m a : Int) (ops : List Int) (n : Nat) (hn : n ≤ 140737488351232) :
    FnO 10 [.v (.int .i64 m), .v (.int .i64 a), .row n [.ints .i64 (n * 5) ops]] (.d (.v (.bool true))) := by
  refine fn_lens fun hl => ?_
  have hl3 : ops.length = n * 5 := hl.1.1
  clear hl
  refine fnA (E := envX2) Try.func10 Try.ntmps10 ?_
  by_cases h1 : m < 1
  · refine agom ?_; (try with_reducible exact True.intro)
  by_cases h2 : m > 8
  · refine agom ?_; (try with_reducible exact True.intro)
  by_cases h3 : a < 1
  · refine agom ?_; (try with_reducible exact True.intro)
  by_cases h4 : a > m
  · refine agom ?_; (try with_reducible exact True.intro)
  by_cases h5 : (n : Int) > 4
  · refine agom ?_; (try with_reducible exact True.intro)
  obtain ⟨p, rfl⟩ := Int.eq_ofNat_of_zero_le (show 0 ≤ m by omega)
  have hmin : min p 8 = p := by omega
  have hv : mayV 0 (someZ p) (someA a p) 1 = true := by
    rw [some_may p (by omega), decide_eq_true (show (1 : Int) ≤ ((min p (min (max a 0) 8).toNat : Nat) : Int) by omega)]; rfl
  have hm : memB (someZ p) 0 = true := memB_some p (by omega) (by omega)
  obtain ⟨N, hN, hok, hend⟩ := first_no (p := fun j => (doR 0 (turnS ops ⟨someZ p, someA a p, 1, F8, F8⟩ j) 0 (opAt ops j) 1).1 = 0) n
  have hF := turnS_F ops (s := ⟨someZ p, someA a p, 1, F8, F8⟩) rfl
  have hS := fun j (h : j < N) => turnS_succ (hok j h)
  have h00 := turnS_0 ops ⟨someZ p, someA a p, 1, F8, F8⟩
  have hT := fun (h : N = n) => turn_do (ops := ops) (s := ⟨someZ p, someA a p, 1, F8, F8⟩) (n := n) (by omega) hv hm (h ▸ hok)
  clear hv hm
  generalize hs : turnS ops ⟨someZ p, someA a p, 1, F8, F8⟩ = tS at *
  clear hs
  refine agow ?_; (try with_reducible exact True.intro)
  rw [hmin]
  refine StopL.mk (loop_forG [2, 7, 8, 9] [0, 1] N (fun j => ⟨[.dead, .dead, .d (.row n [.ints .i64 (n * 5) ops]), .dead, .dead, .dead, .dead, .ptr 0 0, .ptr 1 0, .d (.v (.int .i64 (j : Nat))), .dead, .dead, .dead, .dead, .dead, .dead, .dead, .dead, .dead, .dead, .dead, .dead, .dead, .dead, .dead, .dead, .dead, .dead, .dead, .dead, .dead, .dead, .dead, .dead, .dead, .dead, .dead, .dead, .dead, .dead, .dead, .dead, .dead, .dead, .dead, .dead, .dead, .dead, .dead, .dead, .dead, .dead, .dead, .dead, .dead, .dead, .dead, .dead, .dead, .dead, .dead, .dead, .dead, .dead, .dead, .dead, .dead, .dead, .dead, .dead, .dead, .dead, .dead, .dead, .dead, .dead, .dead, .dead, .dead, .dead, .dead], [some (.var (vSegs 0 (someZ p) (someA a p) 1 Z32)), some (.var (vSegs 0 (tS j).zs (tS j).ad (tS j).k Z32))]⟩) ?_ (h2 := by rw [h00]; exact rfl))
  intro j hj hl
  by_cases hjN : j < N
  · have ho := hok j hjN
    obtain ⟨s1, s2, s3⟩ := hS j hjN
    rw [hF j] at ho s1 s2 s3
    unfold opAt at ho s1 s2 s3
    have ho1 : decide ((doR 0 ⟨(tS j).zs, (tS j).ad, (tS j).k, F8, F8⟩ 0 ((ops.drop (j * 5)).take 5) 1).1 = 0) = true := decide_eq_true ho
    clear hok hS hF hT hend ho
    refine agow ?_; (try with_reducible exact True.intro)
    rw [show ((j : Int) + 1).toNat - j = 1 by omega]
    refine hl.go hjN [2, 7, 8, 9] [0, 1] ?_
    rw [s1, s2, s3]
    rfl
  · obtain rfl : j = N := by omega
    clear hS h00
    rcases hend with rfl | ⟨h6, h7⟩
    · obtain ⟨t', e1, e2, e3, e4⟩ := hT rfl
      clear hok hF hT
      refine agow ?_; (try with_reducible exact True.intro)
    · rw [hF j] at h7
      unfold opAt at h7
      have ho1 : decide ((doR 0 ⟨(tS j).zs, (tS j).ad, (tS j).k, F8, F8⟩ 0 ((ops.drop (j * 5)).take 5) 1).1 = 0) = false := decide_eq_false h7
      clear hok hF hT
      refine agow ?_; (try with_reducible exact True.intro)
theorem viewTurns_walk (m : Int) (hm : (Lit.int .i64 m).wf = true) (a : Int) (ha : (Lit.int .i64 a).wf = true) (l : Value) (n : Nat) (zs : List Int) (hn : n ≤ 140737488351232) {w : World} (hl : RA (fun _ => True) w (.row n [.ints .i64 (n * 5) zs]) l) :
    Calls Try.prog 10 #[.int .i64 m, .int .i64 a, l] w fun e w' => e = .returned (.bool true) ∧ Below w.heap.size w w' :=
  law_of_fn (viewTurns_ok m a zs n (by omega)) (fun q l e => by cases (show (none : Option (List Seg)) = some l from e)) (.cons (.v _) (.cons (.v _) (.cons hl .nil)))
end Go.Proofs.Ytkeabmnmeheeiaa
