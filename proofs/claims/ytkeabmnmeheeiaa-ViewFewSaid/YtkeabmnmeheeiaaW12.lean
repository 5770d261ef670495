/-
  Views: never too few admins.
-/
import Derived.Test.YtkeabmnmeheeiaaW11
import Derived.Test.YtkeabmnmeheeiaaA18
namespace Go.Proofs.Ytkeabmnmeheeiaa
set_option maxRecDepth 100000
set_option pp.deepTerms true
set_option pp.maxSteps 1000000
open Go.RowKit Pm
set_option linter.unusedVariables false
set_option linter.unusedSimpArgs false
attribute [local irreducible] condK LoopA regA powI scal keyV someZ someA isI putL doR mayV

theorem some_may3 {m a k : Int} (hm : 1 ≤ m ∧ m ≤ 8) (ha : 1 ≤ a ∧ a ≤ m) (hk : 1 ≤ k ∧ k ≤ a) : mayV 0 (someZ (min m.toNat 8)) (someA a (min m.toNat 8)) k = true := by
  rw [some_may _ (by omega), decide_eq_true hk.1, decide_eq_true (show k ≤ ((min (min m.toNat 8) (min (max a 0) 8).toNat : Nat) : Int) by omega)]
  rfl
theorem sign_ne {zs : List Int} (hz : zs.length = 31) (hT : isT zs = true) {i : Nat} (hi : i < 8) (hm : memL zs i = true) : zs.getD (i * 2) 0 ≠ 0 := by
  unfold memL at hm
  have hm' := of_decide_eq_true hm
  unfold isT at hT
  rw [Bool.and_eq_true, List.all_eq_true] at hT
  have h1 := hT.1 i (by simpa using hi)
  unfold leafOK at h1
  rw [Bool.or_eq_true, decide_eq_true_eq, Bool.and_eq_true] at h1
  rcases h1 with h1 | ⟨h1, _⟩
  · exact absurd h1 hm'
  · rw [leafP_get0 zs hi] at h1
    exact isI_ne h1
set_option maxHeartbeats 400000 in
theorem viewFew_ok (m a k : Int) (ops : List Int) (n : Nat) (hn : n ≤ 140737488351232) :
    FnO 6 [.v (.int .i64 m), .v (.int .i64 a), .v (.int .i64 k), .row n [.ints .i64 (n * 5) ops]] (.d (.v (.bool true))) := by
  refine fnA (E := envW6) Try.func6 Try.ntmps6 ?_
  by_cases h1 : m < 1
  · refine agom ?_; (try with_reducible exact True.intro)
  by_cases h2 : m > 8
  · refine agom ?_; (try with_reducible exact True.intro)
  by_cases h3 : a < 1
  · refine agom ?_; (try with_reducible exact True.intro)
  by_cases h4 : a > m
  · refine agom ?_; (try with_reducible exact True.intro)
  by_cases h5 : k < 1
  · refine agom ?_; (try with_reducible exact True.intro)
  by_cases h6 : k > a
  · refine agom ?_; (try with_reducible exact True.intro)
  by_cases h7 : (n : Int) > 4
  · refine agom ?_; (try with_reducible exact True.intro)
  have h70 : n ≤ 4 := by omega
  have F := some_may3 (m := m) (a := a) (k := k) (by omega) (by omega) (by omega)
  by_cases he : (doR 0 ⟨someZ (min m.toNat 8), someA a (min m.toNat 8), k, F8, F8⟩ 0 ops n).1 = 0
  · obtain ⟨_, _, hI, hc⟩ := doR_inv2 (s := ⟨someZ (min m.toNat 8), someA a (min m.toNat 8), k, F8, F8⟩) (someZ_len _ (by omega)) (someA_len _ _) he
    have he1 : decide ((doR 0 ⟨someZ (min m.toNat 8), someA a (min m.toNat 8), k, F8, F8⟩ 0 ops n).1 = 0) = true := decide_eq_true he
    generalize hR : doR 0 ⟨someZ (min m.toNat 8), someA a (min m.toNat 8), k, F8, F8⟩ 0 ops n = R at *
    refine agom ?_; (try with_reducible exact True.intro)
    rw [hR]
    obtain ⟨e0, zs, ad, kk, ng, gn⟩ := R
    have hz : zs.length = 31 := hI.inv.zl
    have hal : ad.length = 8 := hI.inv.al
    have hT : isT zs = true := hI.tree
    have hA : ∀ i < 8, ad.getD i false = true → memL zs i = true := (admTo_iff _ _).1 hI.inv.adm
    have hk1 : 1 ≤ kk := hI.one
    have hc1 : kk ≤ ((cntB ad : Nat) : Int) := hc
    clear hI hc hR he he1 F
    refine StopL.mk (loop_for [9, 13, 14] 1 8 (fun j => ⟨[.dead, .dead, .dead, .dead, .dead, .dead, .dead, .dead, .dead, .ptr 0 0, .dead, .dead, .dead, .d (.v (.int .i64 (cntB (ad.take j) : Nat))), .d (.v (.int .i64 (j : Nat))), .dead, .dead, .dead, .dead, .dead, .dead, .dead, .dead, .dead, .dead, .dead, .dead, .dead, .dead, .dead, .dead, .dead, .dead, .dead, .dead, .dead, .dead, .dead, .dead, .dead, .dead, .dead, .dead, .dead, .dead, .dead, .dead, .dead, .dead, .dead, .dead, .dead, .dead, .dead, .dead, .dead, .dead, .dead, .dead, .dead, .dead, .dead, .dead, .dead, .dead, .dead, .dead, .dead, .dead, .dead, .dead, .dead, .dead, .dead, .dead, .dead, .dead, .dead, .dead, .dead, .dead, .dead, .dead, .dead, .dead, .dead, .dead, .dead, .dead, .dead, .dead], [some (.var (vSegs 0 zs ad kk (List.replicate 32 0)))]⟩) ?_)
    intro j hj hl
    have hw : IntKind.i64.wrap ((j : Int) + 1) = ((j + 1 : Nat) : Int) := by rw [wrapS (by omega) (by omega)]; omega
    have hcc : cntB (ad.take j) ≤ 8 := Nat.le_trans (cnt_le _) (by simp; omega)
    have hwc : IntKind.i64.wrap ((cntB (ad.take j) : Nat) + 1) = ((cntB (ad.take j) + 1 : Nat) : Int) := by rw [wrapS (by omega) (by omega)]; omega
    by_cases hj8 : j < 8
    · have hs := cnt_step ad j (by omega)
      cases hb : ad.getD j false with
      | true =>
        have hne : (zs.getD (j * 2) 0 == 0) = false := by simpa using sign_ne hz hT hj8 (hA j hj8 hb)
        rw [hb, if_pos rfl] at hs
        refine agom ?_; (try with_reducible exact True.intro)
        refine hl.next hj8 ?_; rw [hs, ← hwc, ← hw]; rfl
      | false =>
        rw [hb, if_neg (by simp)] at hs
        refine agom ?_; (try with_reducible exact True.intro)
        refine hl.next hj8 ?_; rw [hs, ← hw]; rfl
    · obtain rfl : j = 8 := by omega
      have e : ad.take 8 = ad := List.take_of_length_le (by omega)
      rw [e]
      have hc2 : ((cntB ad : Nat) : Int) ≥ 1 := by omega
      refine agom ?_; (try with_reducible exact True.intro)
  · have he1 : decide ((doR 0 ⟨someZ (min m.toNat 8), someA a (min m.toNat 8), k, F8, F8⟩ 0 ops n).1 = 0) = false := decide_eq_false he
    have he2 : ((doR 0 ⟨someZ (min m.toNat 8), someA a (min m.toNat 8), k, F8, F8⟩ 0 ops n).1 != 0) = true := by simpa using he
    refine agom ?_; (try with_reducible exact True.intro)
theorem viewFew_walk (m : Int) (hm : (Lit.int .i64 m).wf = true) (a : Int) (ha : (Lit.int .i64 a).wf = true) (k : Int) (hk : (Lit.int .i64 k).wf = true) (l : Value) (n : Nat) (zs : List Int) (hn : n ≤ 140737488351232) {w : World} (hl : RA (fun _ => True) w (.row n [.ints .i64 (n * 5) zs]) l) :
    Calls Try.prog 6 #[.int .i64 m, .int .i64 a, .int .i64 k, l] w fun e w' => e = .returned (.bool true) ∧ Below w.heap.size w w' :=
  law_of_fn (viewFew_ok m a k zs n (by omega)) (fun q l e => by cases (show (none : Option (List Seg)) = some l from e)) (.cons (.v _) (.cons (.v _) (.cons (.v _) (.cons hl .nil))))
end Go.Proofs.Ytkeabmnmeheeiaa
