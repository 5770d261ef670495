/-
  Approvals: operations of which it is known that they can be done.
-/
import Derived.Test.YtpemaphgmfaioaaGreatU3
namespace Go.Proofs.YtpemaphgmfaioaaGreat
set_option maxRecDepth 100000
open Go.RowKit Pm
set_option linter.unusedVariables false
set_option linter.unusedSimpArgs false
attribute [local irreducible] condK LoopA regA powI scal keyV someZ isI putL mayV

theorem memB_some (n : Nat) (hn : n ≤ 8) (h : 0 < n) : memB (someZ n) 0 = true := by
  have : memL (someZ n) 0 = true := by rw [someZ_mem 0 n (by omega) hn]; simpa using h
  unfold memB
  rw [show ((0 : Int).toNat) = 0 from rfl, this]
  rfl
theorem memB_nat (zs : List Int) {w : Nat} (hw : w < 8) : memB zs (w : Int) = memL zs w := by
  unfold memB leafB
  rw [decide_eq_true (show (0 : Int) ≤ (w : Int) by omega), decide_eq_true (show (w : Int) < 8 by omega), Int.toNat_natCast]
  rfl
theorem err_pro (s : Vw) (fr w : Int) : errOp s fr [3, w, 0, 0, 0] = errPro s.zs s.ad w := rfl
theorem next_pro (s : Vw) (w : Int) : nextOp s [3, w, 0, 0, 0] = ⟨s.zs, s.ad.set w.toNat true, s.k, s.ng, s.gn⟩ := rfl
theorem err_lim (s : Vw) (fr k : Int) : errOp s fr [5, 0, k, 0, 0] = errLim k := rfl
theorem next_lim (s : Vw) (k : Int) : nextOp s [5, 0, k, 0, 0] = ⟨s.zs, s.ad, k, s.ng, s.gn⟩ := rfl
theorem runE_0 (fr : Int) (ops : List Int) (j : Nat) (s : Vw) : runE fr ops 0 j s = (0, s) := by rw [runE]
theorem runE_go {fr : Int} {ops o : List Int} {d j : Nat} {s : Vw} (ho : opAt ops j = o) (h : errOp s fr o = 0) : runE fr ops (d + 1) j s = runE fr ops d (j + 1) (nextOp s o) := by rw [runE, ho, if_pos h]
theorem doR_of {e : Int} {s s' : Vw} {fr : Int} {ops : List Int} {n : Nat} (hv : mayV e s.zs s.ad s.k = true) (hn : n ≤ 4) (ho : oddTo ops n = false) (hm : memB s.zs fr = true) (hr : runE fr ops n 0 s = (0, s')) (hc : s'.k ≤ ((cntB s'.ad : Nat) : Int)) : doR e s fr ops n = (0, s') := by
  unfold doR
  rw [hv, ho, hm, hr, decide_eq_false (show ¬ n > 4 by omega)]
  show (if ((cntB s'.ad : Nat) : Int) < s'.k then _ else _) = _
  rw [if_neg (by omega)]
theorem pro_do : (doR 0 ⟨someZ 4, someA 2 4, 1, F8, F8⟩ 0 [3, 3, 0, 0, 0] 1).1 = 0 := by
  have hv : mayV 0 (someZ 4) (someA 2 4) 1 = true := by rw [some_may 4 (by decide)]; decide
  have he : errPro (someZ 4) (someA 2 4) 3 = 0 := by
    unfold errPro
    have h1 : memB (someZ 4) 3 = true := by
      have := memB_nat (someZ 4) (w := 3) (by decide)
      rw [someZ_mem 3 4 (by decide) (by decide)] at this
      exact this.trans (by decide)
    rw [h1, if_neg]
    rintro (h | h)
    · cases h
    · have := someA_get 2 3 (by decide) 4 (by decide)
      rw [show (3 : Int).toNat = 3 from rfl, this] at h
      revert h; decide
  rw [doR_of (s' := ⟨someZ 4, (someA 2 4).set 3 true, 1, F8, F8⟩) hv (by decide) (by decide) (memB_some 4 (by decide) (by decide)) (by rw [runE_go (o := [3, 3, 0, 0, 0]) rfl (by rw [err_pro]; exact he), next_pro, runE_0]; rfl) (by decide)]
theorem lim_do (k : Int) (h1 : 1 ≤ k) (h4 : k ≤ 4) : (doR 0 ⟨someZ 5, someA 4 5, k, F8, F8⟩ 0 [5, 0, 2, 0, 0] 1).1 = 0 := by
  have h5 : min 5 (min (max (4 : Int) 0) 8).toNat = 4 := by decide
  have hv : mayV 0 (someZ 5) (someA 4 5) k = true := by
    rw [some_may 5 (by decide), h5, decide_eq_true h1, decide_eq_true (show k ≤ ((4 : Nat) : Int) by omega), Bool.and_true]
  rw [doR_of (s' := ⟨someZ 5, someA 4 5, 2, F8, F8⟩) hv (by decide) (by decide) (memB_some 5 (by decide) (by decide)) (by rw [runE_go (o := [5, 0, 2, 0, 0]) rfl (by rw [err_lim]; decide), next_lim, runE_0]) (by rw [someA_cnt 4 5 (by decide)]; decide)]
end Go.Proofs.YtpemaphgmfaioaaGreat
