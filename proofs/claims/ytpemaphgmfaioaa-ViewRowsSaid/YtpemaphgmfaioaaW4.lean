/-
  Views: the laws' first look.
-/
import Derived.Test.YtpemaphgmfaioaaW3
namespace Go.Proofs.Ytpemaphgmfaioaa
set_option maxRecDepth 100000
open Go.RowKit Pm
set_option linter.unusedVariables false
set_option linter.unusedSimpArgs false
attribute [local irreducible] condK LoopA regA powI scal keyV someZ someA isI mayV doR

/-- operations done: what comes of it, either way -/
def applyS : List A → (Res → Prop) → Prop
  | [.agg [.ints .i64 1 [e], .ints .i64 31 zs, .bools 8 ad, .ints .i64 1 [k], .bytes 32 ch], .v (.int .i64 fr), .row n [.ints .i64 m ops]], K =>
    m = n * 5 ∧ n ≤ 1000000 ∧ StopC (condK (decide ((doR e ⟨zs, ad, k, F8, F8⟩ fr ops n).1 = 0))
      (K (.t [.agg (vSegs e (doR e ⟨zs, ad, k, F8, F8⟩ fr ops n).2.zs (doR e ⟨zs, ad, k, F8, F8⟩ fr ops n).2.ad (doR e ⟨zs, ad, k, F8, F8⟩ fr ops n).2.k ch), .agg [.bools 8 (doR e ⟨zs, ad, k, F8, F8⟩ fr ops n).2.ng], .agg [.bools 8 (doR e ⟨zs, ad, k, F8, F8⟩ fr ops n).2.gn], .v (.int .i64 0)]))
      (K (.t [.agg vZero, .agg [.bools 8 F8], .agg [.bools 8 F8], .v (.int .i64 (doR e ⟨zs, ad, k, F8, F8⟩ fr ops n).1)])))
  | _, _ => False
theorem applyS_of {f : FuncId} (hx : ∀ e zs ad k ch fr ops n, n ≤ 1000000 → FnO f [.agg (vSegs e zs ad k ch), .v (.int .i64 fr), .row n [.ints .i64 (n * 5) ops]] (.t (appR e zs ad k ch fr ops n))) : ∀ args K, applyS args K → ∃ r, FnO f args r ∧ K r := by
  intro args K h
  unfold applyS at h
  split at h
  · next e zs ad k ch fr n m ops =>
    obtain ⟨rfl, hn, h⟩ := h
    have h := h.out
    refine ⟨_, hx e zs ad k ch fr ops n hn, ?_⟩
    unfold appR
    by_cases he : (doR e ⟨zs, ad, k, F8, F8⟩ fr ops n).1 = 0
    · rw [decide_eq_true he, condK_true] at h
      rw [if_pos he]
      exact h
    · rw [decide_eq_false he, condK_false] at h
      rw [if_neg he]
      exact h
  · exact h.elim
noncomputable def envW4 : EnvX := envW3.add 21 applyS (applyS_of apply_ok) ⟨_, Try.func21, by kernel_rfl, by kernel_rfl⟩
noncomputable def envW5 : EnvX := envW4.add 24 applyS (applyS_of rapply_ok) ⟨_, Try.func24, by kernel_rfl, by kernel_rfl⟩
theorem someA_one : someA 1 1 = [true, false, false, false, false, false, false, false] := by rw [someA_succ, someA_zero]; rfl
abbrev T8 : List Bool := [true, false, false, false, false, false, false, false]
set_option maxHeartbeats 400000 in
theorem demote_gen (zs : List Int) (hm : memB zs 0 = true) (hv : mayV 0 zs T8 1 = true) : doR 0 ⟨zs, T8, 1, F8, F8⟩ 0 [4, 0, 0, 0, 0] 1 = (7, ⟨zs, F8, 1, F8, F8⟩) := by
  have ho : oddTo [4, 0, 0, 0, 0] 1 = false := by decide
  have he : errOp ⟨zs, T8, 1, F8, F8⟩ 0 (opAt [4, 0, 0, 0, 0] 0) = 0 := by
    show errDem zs T8 0 = 0
    unfold errDem
    rw [hm]; rfl
  have hr : runE 0 [4, 0, 0, 0, 0] 1 0 ⟨zs, T8, 1, F8, F8⟩ = (0, ⟨zs, F8, 1, F8, F8⟩) := by
    unfold runE
    rw [if_pos he]
    unfold runE
    rfl
  unfold doR
  rw [hv, ho, hm, hr]
  rfl
set_option maxHeartbeats 400000 in
theorem add_gen (zs : List Int) (x y : Int) (hm : memB zs 0 = true) (hv : mayV 0 zs T8 1 = true) (he : errAdd zs [x, y] = 0) (hf : freeN zs = 1) :
    doR 0 ⟨zs, T8, 1, F8, F8⟩ 0 [1, 0, 0, x, y] 1 = (0, ⟨putL zs [x, y] 1, T8, 1, [false, true, false, false, false, false, false, false], F8⟩) := by
  have ho : oddTo [1, 0, 0, x, y] 1 = false := by
    show (List.range 1).any (fun i => !ownB (opAt [1, 0, 0, x, y] i)) = false
    rfl
  have he : errOp ⟨zs, T8, 1, F8, F8⟩ 0 (opAt [1, 0, 0, x, y] 0) = 0 := he
  have hr : runE 0 [1, 0, 0, x, y] 1 0 ⟨zs, T8, 1, F8, F8⟩ = (0, ⟨putL zs [x, y] 1, T8, 1, [false, true, false, false, false, false, false, false], F8⟩) := by
    unfold runE
    rw [if_pos he]
    unfold runE
    show (0, (⟨putL zs [x, y] (freeN zs : Nat), T8, 1, F8.set (freeN zs) true, F8⟩ : Vw)) = _
    rw [hf]; rfl
  unfold doR
  rw [hv, ho, hm, hr]
  rfl
theorem used_some (n : Nat) (hn : n ≤ 8) (j : Nat) (hj : n ≤ j ∧ j < 32) : usedB (someZ n) (keyV (j : Nat)) = false := by
  refine used_f fun i hi => ?_
  rw [someZ_get i hi n hn]
  split
  · intro e
    have := keyV_inj (by omega) (by omega) e
    omega
  · intro e
    exact isI_ne (keyV_isI (j : Nat)) e.symm
theorem free_some (n : Nat) (hn : n < 8) : freeN (someZ n) = n :=
  free_at hn (by rw [someZ_mem n n hn (by omega)]; simp) fun j hj => by rw [someZ_mem j n (by omega) (by omega)]; simpa using hj
theorem full_some (n : Nat) (hn : n < 8) : fullB (someZ n) = false := by
  cases h : fullB (someZ n) with
  | false => rfl
  | true =>
    have := (full_iff _).1 h n hn
    rw [someZ_mem n n hn (by omega)] at this
    simp at this
theorem errAdd_some (n : Nat) (hn : n < 8) (j : Nat) (y : Int) (hj : n ≤ j ∧ j < 32) (hy : isI y = true) : errAdd (someZ n) [keyV (j : Nat), y] = 0 := by
  unfold errAdd
  rw [List.getD_cons_zero, List.getD_cons_succ, List.getD_cons_zero, keyV_isI, hy, used_some n (by omega) j hj, full_some n hn]
  simp
theorem memB_some (n : Nat) (hn : n ≤ 8) (h : 0 < n) : memB (someZ n) 0 = true := by
  have : memL (someZ n) 0 = true := by rw [someZ_mem 0 n (by omega) hn]; simpa using h
  unfold memB
  rw [show ((0 : Int).toNat) = 0 from rfl, this]
  rfl
end Go.Proofs.Ytpemaphgmfaioaa
