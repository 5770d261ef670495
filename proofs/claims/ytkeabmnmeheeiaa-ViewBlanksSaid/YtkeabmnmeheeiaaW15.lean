/-
  Views: a place that is left is taken again.
-/
import Derived.Test.YtkeabmnmeheeiaaHW
import Derived.Test.YtkeabmnmeheeiaaA19
namespace Go.Proofs.Ytkeabmnmeheeiaa
set_option maxRecDepth 100000
open Go.RowKit Pm
set_option linter.unusedVariables false
set_option linter.unusedSimpArgs false
attribute [local irreducible] condK LoopA regA powI scal keyV someZ someA isI putL mayV

theorem err_rem (s : Vw) (fr w : Int) : errOp s fr [2, w, 0, 0, 0] = errRem s.zs fr w := rfl
theorem next_rem (s : Vw) (w : Int) : nextOp s [2, w, 0, 0, 0] = ⟨putL s.zs [0, 0] w, s.ad.set w.toNat false, s.k, s.ng.set w.toNat false, s.gn.set w.toNat true⟩ := rfl
theorem err_pro (s : Vw) (fr w : Int) : errOp s fr [3, w, 0, 0, 0] = errPro s.zs s.ad w := rfl
theorem next_pro (s : Vw) (w : Int) : nextOp s [3, w, 0, 0, 0] = ⟨s.zs, s.ad.set w.toNat true, s.k, s.ng, s.gn⟩ := rfl
theorem err_dem (s : Vw) (fr w : Int) : errOp s fr [4, w, 0, 0, 0] = errDem s.zs s.ad w := rfl
theorem err_lim (s : Vw) (fr k : Int) : errOp s fr [5, 0, k, 0, 0] = errLim k := rfl
theorem runE_0 (fr : Int) (ops : List Int) (j : Nat) (s : Vw) : runE fr ops 0 j s = (0, s) := by rw [runE]
theorem runE_go {fr : Int} {ops o : List Int} {d j : Nat} {s : Vw} (ho : opAt ops j = o) (h : errOp s fr o = 0) : runE fr ops (d + 1) j s = runE fr ops d (j + 1) (nextOp s o) := by rw [runE, ho, if_pos h]
theorem runE_no {fr : Int} {ops o : List Int} {d j : Nat} {s : Vw} (ho : opAt ops j = o) (h : errOp s fr o ≠ 0) : runE fr ops (d + 1) j s = (errOp s fr o, s) := by rw [runE, ho, if_neg h]
theorem doR_of {e : Int} {s s' : Vw} {fr : Int} {ops : List Int} {n : Nat} (hv : mayV e s.zs s.ad s.k = true) (hn : n ≤ 4) (ho : oddTo ops n = false) (hm : memB s.zs fr = true) (hr : runE fr ops n 0 s = (0, s')) (hc : s'.k ≤ ((cntB s'.ad : Nat) : Int)) : doR e s fr ops n = (0, s') := by
  unfold doR
  rw [hv, ho, hm, hr, decide_eq_false (show ¬ n > 4 by omega)]
  show (if ((cntB s'.ad : Nat) : Int) < s'.k then _ else _) = _
  rw [if_neg (by omega)]
theorem doR_no {e : Int} {s : Vw} {fr : Int} {ops : List Int} {n : Nat} {c : Int} {s' : Vw} (hv : mayV e s.zs s.ad s.k = true) (hn : n ≤ 4) (ho : oddTo ops n = false) (hm : memB s.zs fr = true) (hr : runE fr ops n 0 s = (c, s')) (hc : c ≠ 0) : doR e s fr ops n = (c, s') := by
  unfold doR
  rw [hv, ho, hm, hr, decide_eq_false (show ¬ n > 4 by omega)]
  show (if c ≠ 0 then _ else _) = _
  rw [if_pos hc]
theorem errRem_0 {zs : List Int} {w : Int} (h0 : w ≠ 0) (hm : memB zs w = true) : errRem zs 0 w = 0 := by
  unfold errRem
  rw [if_neg]
  rintro (h | h)
  · exact h0 h
  · rw [hm] at h; cases h
theorem memB_nat (zs : List Int) {w : Nat} (hw : w < 8) : memB zs (w : Int) = memL zs w := by
  unfold memB leafB
  rw [decide_eq_true (show (0 : Int) ≤ (w : Int) by omega), decide_eq_true (show (w : Int) < 8 by omega), Int.toNat_natCast]
  rfl
attribute [local irreducible] doR
/-- who is at one place leaves, another one takes it -/
theorem swap_facts (m w : Nat) (hm : m ≤ 8) (hw : 1 ≤ w ∧ w < m) (x y : Int) (hx : isI x = true) (hy : isI y = true) (hk : ∀ j < 8, keyV (j : Nat) ≠ x) :
    mayV 0 (someZ m) (someA 1 m) 1 = true ∧ memB (someZ m) 0 = true ∧ (someA 1 m).set w false = someA 1 m ∧ ((cntB (someA 1 m) : Nat) : Int) = 1 ∧
    errRem (someZ m) 0 (w : Nat) = 0 ∧ errAdd (putL (someZ m) [0, 0] (w : Nat)) [x, y] = 0 ∧ freeN (putL (someZ m) [0, 0] (w : Nat)) = w ∧
    errRem (putL (putL (someZ m) [0, 0] (w : Nat)) [x, y] (w : Nat)) 0 (w : Nat) = 0 ∧ (putL (putL (someZ m) [0, 0] (w : Nat)) [x, y] (w : Nat)).getD (w * 2) 0 = x ∧
    (putL (putL (putL (someZ m) [0, 0] (w : Nat)) [x, y] (w : Nat)) [0, 0] (w : Nat)).getD (w * 2) 0 = 0 := by
  have l0 := someZ_len m hm
  have l1 : (putL (someZ m) [0, 0] (w : Nat)).length = 31 := putL_length l0 rfl
  have l2 : (putL (putL (someZ m) [0, 0] (w : Nat)) [x, y] (w : Nat)).length = 31 := putL_length l1 rfl
  have w8 : w < 8 := by omega
  have m1 : ∀ j, j < 8 → memL (putL (someZ m) [0, 0] (w : Nat)) j = if j = w then false else decide (j < m) := fun j hj => by
    rw [memL_put l0 rfl w8 hj, someZ_mem j m hj hm]
    split <;> simp
  have hf : freeN (putL (someZ m) [0, 0] (w : Nat)) = w := free_at w8 (by rw [m1 w w8, if_pos rfl]) fun j hj => by rw [m1 j (by omega), if_neg (by omega)]; exact decide_eq_true (by omega)
  have hfull : fullB (putL (someZ m) [0, 0] (w : Nat)) = false := by
    cases h : fullB (putL (someZ m) [0, 0] (w : Nat)) with
    | false => rfl
    | true => have := (full_iff _).1 h w w8; rw [m1 w w8, if_pos rfl] at this; cases this
  have hu : usedB (putL (someZ m) [0, 0] (w : Nat)) x = false := used_f fun j hj => by
    rw [← leafP_get0 _ hj, leafP_put l0 rfl w8 hj]
    split
    · rw [List.getD_cons_zero]; exact fun e => isI_ne hx e.symm
    · rw [someZ_leaf j m hj hm]
      split
      · rw [List.getD_cons_zero]; exact hk j hj
      · rw [List.getD_cons_zero]; exact fun e => isI_ne hx e.symm
  refine ⟨?_, memB_some m hm (by omega), set_same ?_, by rw [cnt_one m (by omega)]; rfl, errRem_0 (by omega) ?_, by rw [err_addV hx hy hu hfull]; rfl, hf, errRem_0 (by omega) ?_, ?_, ?_⟩
  · rw [some_may m hm, decide_eq_true (show (1 : Int) ≤ ((min m (min (max (1 : Int) 0) 8).toNat : Nat) : Int) by omega)]; rfl
  · rw [someA_get 1 w w8 m hm, decide_eq_false (show ¬ ((w : Int) < 1) by omega), Bool.and_false]
  · rw [memB_nat _ w8, someZ_mem w m w8 hm]; exact decide_eq_true hw.2
  · rw [memB_nat _ w8, memL_put l1 rfl w8 w8, if_pos rfl]; exact decide_eq_true fun e => isI_ne hx (List.cons.inj e).1
  · rw [← leafP_get0 _ w8, leafP_put l1 rfl w8 w8, if_pos rfl, List.getD_cons_zero]
  · rw [← leafP_get0 _ w8, leafP_put l2 rfl w8 w8, if_pos rfl, List.getD_cons_zero]
theorem odd_swap (w x y : Int) : oddTo [2, w, 0, 0, 0, 1, 0, 0, x, y] 2 = false := rfl
theorem odd_swap3 (w x y : Int) : oddTo [2, w, 0, 0, 0, 1, 0, 0, x, y, 2, w, 0, 0, 0] 3 = false := rfl
/-- twice or not -/
theorem swap_do (m w : Nat) (hm : m ≤ 8) (hw : 1 ≤ w ∧ w < m) (x y : Int) (hx : isI x = true) (hy : isI y = true) (hk : ∀ j < 8, keyV (j : Nat) ≠ x) :
    doR 0 ⟨someZ m, someA 1 m, 1, F8, F8⟩ 0 [2, (w : Nat), 0, 0, 0, 1, 0, 0, x, y] 2 = (0, ⟨putL (putL (someZ m) [0, 0] (w : Nat)) [x, y] (w : Nat), someA 1 m, 1, (F8.set w false).set w true, F8.set w true⟩) ∧
    doR 0 ⟨someZ m, someA 1 m, 1, F8, F8⟩ 0 [2, (w : Nat), 0, 0, 0, 1, 0, 0, x, y, 2, (w : Nat), 0, 0, 0] 3 = (0, ⟨putL (putL (putL (someZ m) [0, 0] (w : Nat)) [x, y] (w : Nat)) [0, 0] (w : Nat), someA 1 m, 1, ((F8.set w false).set w true).set w false, (F8.set w true).set w true⟩) := by
  obtain ⟨hv, hb, hs, hc, e1, e2, hf, e3, g1, g2⟩ := swap_facts m w hm hw x y hx hy hk
  have n1 : nextOp ⟨someZ m, someA 1 m, 1, F8, F8⟩ [2, (w : Nat), 0, 0, 0] = ⟨putL (someZ m) [0, 0] (w : Nat), someA 1 m, 1, F8.set w false, F8.set w true⟩ := by rw [next_rem, Int.toNat_natCast, hs]
  have n2 : nextOp ⟨putL (someZ m) [0, 0] (w : Nat), someA 1 m, 1, F8.set w false, F8.set w true⟩ [1, 0, 0, x, y] = ⟨putL (putL (someZ m) [0, 0] (w : Nat)) [x, y] (w : Nat), someA 1 m, 1, (F8.set w false).set w true, F8.set w true⟩ := by rw [next_add, hf]
  have n3 : nextOp ⟨putL (putL (someZ m) [0, 0] (w : Nat)) [x, y] (w : Nat), someA 1 m, 1, (F8.set w false).set w true, F8.set w true⟩ [2, (w : Nat), 0, 0, 0] = ⟨putL (putL (putL (someZ m) [0, 0] (w : Nat)) [x, y] (w : Nat)) [0, 0] (w : Nat), someA 1 m, 1, ((F8.set w false).set w true).set w false, (F8.set w true).set w true⟩ := by rw [next_rem, Int.toNat_natCast, hs]
  refine ⟨doR_of hv (by decide) (odd_swap _ _ _) hb ?_ (by rw [hc]; exact Int.le_refl _), doR_of hv (by decide) (odd_swap3 _ _ _) hb ?_ (by rw [hc]; exact Int.le_refl _)⟩
  · rw [runE_go (o := [2, (w : Nat), 0, 0, 0]) rfl (by rw [err_rem]; exact e1), n1, runE_go (o := [1, 0, 0, x, y]) rfl (by rw [err_add]; exact e2), n2, runE_0]
  · rw [runE_go (o := [2, (w : Nat), 0, 0, 0]) rfl (by rw [err_rem]; exact e1), n1, runE_go (o := [1, 0, 0, x, y]) rfl (by rw [err_add]; exact e2), n2, runE_go (o := [2, (w : Nat), 0, 0, 0]) rfl (by rw [err_rem]; exact e3), n3, runE_0]
set_option maxHeartbeats 4000000 in
theorem viewSwaps_ok (m w : Int) (tw : Bool) :
    FnO 8 [.v (.int .i64 m), .v (.int .i64 w), .v (.bool tw)] (.d (.v (.bool true))) := by
  refine fnA (E := envX2) Try.func8 Try.ntmps8 ?_
  by_cases h1 : m < 2
  · refine agom ?_; (try with_reducible exact True.intro)
  by_cases h2 : m > 8
  · refine agom ?_; (try with_reducible exact True.intro)
  by_cases h3 : w < 1
  · refine agom ?_; (try with_reducible exact True.intro)
  by_cases h4 : w ≥ m
  · refine agom ?_; (try with_reducible exact True.intro)
  obtain ⟨p, rfl⟩ := Int.eq_ofNat_of_zero_le (show 0 ≤ m by omega)
  obtain ⟨q, rfl⟩ := Int.eq_ofNat_of_zero_le (show 0 ≤ w by omega)
  have hp : p ≤ 8 := by omega
  have hq : 1 ≤ q ∧ q < p := by omega
  have hmin : min p 8 = p := by omega
  have hk : ∀ j < 8, keyV (j : Nat) ≠ keyV 41 := fun j hj => keyX_ne j 41 (by omega) (by omega) (by omega)
  obtain ⟨d1, d2⟩ := swap_do p q hp hq (keyV 41) (keyV 51) (keyV_isI 41) (keyV_isI 51) hk
  obtain ⟨-, -, -, -, -, -, -, -, g1, g2⟩ := swap_facts p q hp hq (keyV 41) (keyV 51) (keyV_isI 41) (keyV_isI 51) hk
  have g3 : (someA 1 p).getD q false = false := by rw [someA_get 1 q (by omega) p hp, decide_eq_false (show ¬ ((q : Int) < 1) by omega), Bool.and_false]
  have g4 : ((F8.set q false).set q true).getD q false = true := by rw [getD_setB, if_pos ⟨rfl, by simp; omega⟩]
  have g5 : (F8.set q true).getD q false = true := by rw [getD_setB, if_pos ⟨rfl, by simp; omega⟩]
  have g6 : (((F8.set q false).set q true).set q false).getD q false = false := by rw [getD_setB, if_pos ⟨rfl, by simp; omega⟩]
  have g7 : ((F8.set q true).set q true).getD q false = true := by rw [getD_setB, if_pos ⟨rfl, by simp; omega⟩]
  rw [← hmin] at d1 d2
  rw [← hmin] at g1 g2 g3
  cases tw with
  | false =>
    obtain ⟨r0, r1, r2, r3, r4⟩ : decide ((doR 0 ⟨someZ (min p 8), someA 1 (min p 8), 1, F8, F8⟩ 0 [2, (q : Nat), 0, 0, 0, 1, 0, 0, keyV 41, keyV 51] 2).1 = 0) = true ∧ (doR 0 ⟨someZ (min p 8), someA 1 (min p 8), 1, F8, F8⟩ 0 [2, (q : Nat), 0, 0, 0, 1, 0, 0, keyV 41, keyV 51] 2).2.gn.getD q false = true ∧ (doR 0 ⟨someZ (min p 8), someA 1 (min p 8), 1, F8, F8⟩ 0 [2, (q : Nat), 0, 0, 0, 1, 0, 0, keyV 41, keyV 51] 2).2.ng.getD q false = true ∧ ((doR 0 ⟨someZ (min p 8), someA 1 (min p 8), 1, F8, F8⟩ 0 [2, (q : Nat), 0, 0, 0, 1, 0, 0, keyV 41, keyV 51] 2).2.zs.getD (q * 2) 0 == keyV 41) = true ∧ (doR 0 ⟨someZ (min p 8), someA 1 (min p 8), 1, F8, F8⟩ 0 [2, (q : Nat), 0, 0, 0, 1, 0, 0, keyV 41, keyV 51] 2).2.ad.getD q false = false := by rw [d1]; exact ⟨rfl, g5, g4, by rw [g1]; simp, g3⟩
    clear hmin d1 d2 g1 g2 g3 g4 g5 g6 g7 hk
    refine agow ?_; (try with_reducible exact True.intro)
  | true =>
    obtain ⟨r0, r1, r2, r3, r4⟩ : decide ((doR 0 ⟨someZ (min p 8), someA 1 (min p 8), 1, F8, F8⟩ 0 [2, (q : Nat), 0, 0, 0, 1, 0, 0, keyV 41, keyV 51, 2, (q : Nat), 0, 0, 0] 3).1 = 0) = true ∧ (doR 0 ⟨someZ (min p 8), someA 1 (min p 8), 1, F8, F8⟩ 0 [2, (q : Nat), 0, 0, 0, 1, 0, 0, keyV 41, keyV 51, 2, (q : Nat), 0, 0, 0] 3).2.gn.getD q false = true ∧ (doR 0 ⟨someZ (min p 8), someA 1 (min p 8), 1, F8, F8⟩ 0 [2, (q : Nat), 0, 0, 0, 1, 0, 0, keyV 41, keyV 51, 2, (q : Nat), 0, 0, 0] 3).2.ng.getD q false = false ∧ ((doR 0 ⟨someZ (min p 8), someA 1 (min p 8), 1, F8, F8⟩ 0 [2, (q : Nat), 0, 0, 0, 1, 0, 0, keyV 41, keyV 51, 2, (q : Nat), 0, 0, 0] 3).2.zs.getD (q * 2) 0 == 0) = true ∧ (doR 0 ⟨someZ (min p 8), someA 1 (min p 8), 1, F8, F8⟩ 0 [2, (q : Nat), 0, 0, 0, 1, 0, 0, keyV 41, keyV 51, 2, (q : Nat), 0, 0, 0] 3).2.ad.getD q false = false := by rw [d2]; exact ⟨rfl, g7, g6, by rw [g2]; simp, g3⟩
    clear hmin d1 d2 g1 g2 g3 g4 g5 g6 g7 hk
    refine agow ?_; (try with_reducible exact True.intro)
theorem viewSwaps_walk (m : Int) (hm : (Lit.int .i64 m).wf = true) (q : Int) (hq : (Lit.int .i64 q).wf = true) (tw : Bool) {w : World} :
    Calls Try.prog 8 #[.int .i64 m, .int .i64 q, .bool tw] w fun e w' => e = .returned (.bool true) ∧ Below w.heap.size w w' :=
  law_of_fn (viewSwaps_ok m q tw) (fun q l e => by cases (show (none : Option (List Seg)) = some l from e)) (.cons (.v _) (.cons (.v _) (.cons (.v _) .nil)))
end Go.Proofs.Ytkeabmnmeheeiaa
