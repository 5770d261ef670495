/-
  The other program's view, read.
-/
import Derived.Test.YtbgdlggobbiibaaRw1
namespace Go.Proofs.Ytbgdlggobbiibaa
set_option maxRecDepth 100000
open Go.RowKit Pm
set_option linter.unusedVariables false
set_option linter.unusedSimpArgs false
attribute [local irreducible] condK LoopA regA numB numsB boxB tkV tkN numT isNum nmV nmN cntV cntN hashV boxV boxN nmsV nmsN bxsV bxsN flV flN flsV flsN

/-- eight bytes as flags; none when there are none -/
def rfV (Q : Rd) : List Bool := if Q.ok 8 = true then (tkV 8 Q).map fun x => Bt x == 1 else List.replicate 8 false
def xc (R : Rd) : Rd := tkN 8 (va R)
def xd (R : Rd) : Rd := tkN 32 (xc R)
def xe (R : Rd) : Rd := nmsN 31 (xd R)
def xwSegs (R : Rd) : List Seg := vSegs (nmV R) (nmsV 31 (xd R)) (rfV (va R)) (nmV (nmN R)) (hashV (xc R))
theorem rleaf22 (R : Rd) (hR : R.bs.length ≤ 1000000) : FnMO 47 0 (.var (rdL R)) [] (.d (.agg [.ints .i64 2 [nmV R, nmV (nmN R)]])) (.var (rdL (nmN (nmN R)))) := by
  have h := rleaf2_ok R hR
  unfold numsRes at h
  rw [nmsV_two 0 R, nmsN_two 0 R, nmsV_zero, nmsN_zero] at h
  exact h
noncomputable def envX3 : EnvX := envRj.addM 47 (rdM (fun R => .d (.agg [.ints .i64 2 [nmV R, nmV (nmN R)]])) (fun R => nmN (nmN R))) (rdM_of rleaf22) ⟨_, Try.func47, by kernel_rfl, by kernel_rfl⟩
theorem flag_step {p : List UInt8} (hp : p.length = 8) {j : Nat} (hj : j < 8) : ((p.map fun x => Bt x == 1).take j ++ List.replicate (8 - j) false).set j (Bt (p.getD j 0) == 1) = (p.map fun x => Bt x == 1).take (j + 1) ++ List.replicate (8 - (j + 1)) false := by
  have e : 8 - j = (8 - (j + 1)) + 1 := by omega
  rw [e, set_app (by rw [List.length_take, List.length_map]; omega), List.take_add_one, List.getElem?_map, List.getElem?_eq_getElem (by omega), List.getD_eq_getElem?_getD, List.getElem?_eq_getElem (by omega)]
  rfl
set_option maxHeartbeats 4000000 in
theorem rview_rd (R : Rd) (hR : R.bs.length ≤ 1000000) : FnMO 23 0 (.var (rdL R)) [] (.d (.agg (xwSegs R))) (.var (rdL (xe R))) := by
  refine fnMA (E := envX3) Try.func23 Try.ntmps23 ?_
  have l1 := nmN_len R
  have l2 : (va R).bs.length ≤ 1000000 := by have : (va R).bs.length ≤ (nmN R).bs.length := nmN_len _; omega
  have l2' : (nmN (nmN R)).bs.length ≤ 1000000 := l2
  have l3 : (xc R).bs.length ≤ 1000000 := by have : (xc R).bs.length ≤ (va R).bs.length := tkN_len _ _; omega
  have l3' : (tkN 8 (nmN (nmN R))).bs.length ≤ 1000000 := l3
  have l4 : (xd R).bs.length ≤ 1000000 := by have : (xd R).bs.length ≤ (xc R).bs.length := tkN_len _ _; omega
  by_cases hk : (va R).ok 8 = true
  · have e1 : (tkV 8 (va R)).length = 8 := by
      unfold tkV; rw [if_pos hk, List.length_take]
      unfold Rd.ok at hk; simp at hk; omega
    have e1' : (tkV 8 (nmN (nmN R))).length = 8 := e1
    refine agow ?_; (try with_reducible exact True.intro)
    rw [e1']
    have eF : rfV (va R) = (tkV 8 (nmN (nmN R))).map fun x => Bt x == 1 := by unfold rfV; rw [if_pos hk]; rfl
    refine StopL.mk (loop_forG [0, 2, 3, 4, 5] [0, 1, 2] 8 (fun j => ⟨[.ptr 0 0, .dead, .ptr 1 0, .ptr 2 0, .d (.row 8 [.bytes 8 (tkV 8 (nmN (nmN R)))]), .d (.v (.int .i64 (j : Nat))), .dead, .dead, .dead, .dead, .dead, .dead, .dead, .dead, .dead, .dead, .dead, .dead, .dead, .dead, .dead, .dead, .dead, .dead, .dead, .dead, .dead, .dead, .dead, .dead, .dead, .dead, .dead, .dead, .dead, .dead, .dead, .dead, .dead, .dead, .dead, .dead, .dead, .dead, .dead, .dead, .dead, .dead, .dead, .dead, .dead, .dead, .dead, .dead], [some (.var (rdL (xc R))), some (.var vwZ), some (.var (vSegs (nmV R) (List.replicate 31 0) (((tkV 8 (nmN (nmN R))).map fun x => Bt x == 1).take j ++ List.replicate (8 - j) false) (nmV (nmN R)) (List.replicate 32 0)))]⟩) ?_)
    intro j hj hl
    by_cases h : j < 8
    · have h1 : (j : Int) < 8 := by omega
      refine agow ?_; (try with_reducible exact True.intro)
      refine hl.go h [0, 2, 3, 4, 5] [0, 1, 2] ?_
      rw [← flag_step e1' h]
      rfl
    obtain rfl : j = 8 := by omega
    rw [List.take_of_length_le (show ((tkV 8 (nmN (nmN R))).map fun x => Bt x == 1).length ≤ 8 by rw [List.length_map]; omega), ← eF]
    clear hl h hj
    refine agow ?_; (try with_reducible exact True.intro)
    refine StopL.mk (loop_forG [0, 2, 3, 6] [0, 1, 2] 8 (fun j => ⟨[.ptr 0 0, .dead, .ptr 1 0, .ptr 2 0, .dead, .dead, .d (.v (.int .i64 (j : Nat))), .dead, .dead, .dead, .dead, .dead, .dead, .dead, .dead, .dead, .dead, .dead, .dead, .dead, .dead, .dead, .dead, .dead, .dead, .dead, .dead, .dead, .dead, .dead, .dead, .dead, .dead, .dead, .dead, .dead, .dead, .dead, .dead, .dead, .dead, .dead, .dead, .dead, .dead, .dead, .dead, .dead, .dead, .dead, .dead, .dead, .dead, .dead], [some (.var (rdL (nmsN (j * 2) (xd R)))), some (.var vwZ), some (.var (vSegs (nmV R) (nmsV (j * 2) (xd R) ++ List.replicate (31 - j * 2) 0) (rfV (va R)) (nmV (nmN R)) (hashV (xc R))))]⟩) ?_ (h2 := by rw [Nat.zero_mul, nmsN_zero, nmsV_zero]; exact rfl))
    intro j hj hl
    by_cases h : j < 8
    · have h1 : (j : Int) < 8 := by omega
      have h2 : (nmsN (j * 2) (xd R)).bs.length ≤ 1000000 := by have := nmsN_len (j * 2) (xd R); omega
      refine agow ?_; (try with_reducible exact True.intro)
      refine hl.go h [0, 2, 3, 6] [0, 1, 2] ?_
      rw [show (j + 1) * 2 = j * 2 + 2 by omega, nmsN_two, nmsV_two, ← over_app (nmsV_length (j * 2) (xd R)), show 31 - (j * 2 + 2) + 2 = 31 - j * 2 by omega]
      rfl
    obtain rfl : j = 8 := by omega
    clear hl h hj
    refine agow ?_; (try with_reducible exact True.intro)
    refine StopL.mk (loop_forG [0, 2, 3, 7] [0, 1, 2] 15 (fun j => ⟨[.ptr 0 0, .dead, .ptr 1 0, .ptr 2 0, .dead, .dead, .dead, .d (.v (.int .i64 (j : Nat))), .dead, .dead, .dead, .dead, .dead, .dead, .dead, .dead, .dead, .dead, .dead, .dead, .dead, .dead, .dead, .dead, .dead, .dead, .dead, .dead, .dead, .dead, .dead, .dead, .dead, .dead, .dead, .dead, .dead, .dead, .dead, .dead, .dead, .dead, .dead, .dead, .dead, .dead, .dead, .dead, .dead, .dead, .dead, .dead, .dead, .dead], [some (.var (rdL (nmsN (16 + j) (xd R)))), some (.var vwZ), some (.var (vSegs (nmV R) (nmsV (16 + j) (xd R) ++ List.replicate (15 - j) 0) (rfV (va R)) (nmV (nmN R)) (hashV (xc R))))]⟩) ?_)
    intro j hj hl
    by_cases h : j < 15
    · have h1 : (j : Int) < 15 := by omega
      have h2 : (nmsN (16 + j) (xd R)).bs.length ≤ 1000000 := by have := nmsN_len (16 + j) (xd R); omega
      refine agow ?_; (try with_reducible exact True.intro)
      refine hl.go h [0, 2, 3, 7] [0, 1, 2] ?_
      rw [show 16 + (j + 1) = 16 + j + 1 by omega, nmsN_one, nmsV_one, ← set_app (nmsV_length (16 + j) (xd R)), show 15 - (j + 1) + 1 = 15 - j by omega]
      rfl
    obtain rfl : j = 15 := by omega
    rw [show nmsV (16 + 15) (xd R) ++ List.replicate (15 - 15) 0 = nmsV 31 (xd R) by simp]
    clear hl h hj
    refine agow ?_; (try with_reducible exact True.intro)
    rfl
  · have e0 : tkV 8 (nmN (nmN R)) = [] := by
      show tkV 8 (va R) = []
      unfold tkV; rw [if_neg hk]
    have e1 : (tkV 8 (nmN (nmN R))).length = 0 := by rw [e0]; rfl
    have eF : rfV (va R) = List.replicate 8 false := by unfold rfV; rw [if_neg hk]
    have e0' : (tkV 8 (va R)) = [] := e0
    rw [show xwSegs R = vSegs (nmV R) (nmsV 31 (xd R)) (rfV (va R)) (nmV (nmN R)) (hashV (xc R)) from rfl]
    refine agow ?_; (try with_reducible exact True.intro)
    rw [e0]
    refine StopL.mk (loop_unroll 1 ?_)
    refine agow ?_; (try with_reducible exact True.intro)
    refine StopL.mk (loop_forG [0, 2, 3, 6] [0, 1, 2] 8 (fun j => ⟨[.ptr 0 0, .dead, .ptr 1 0, .ptr 2 0, .dead, .dead, .d (.v (.int .i64 (j : Nat))), .dead, .dead, .dead, .dead, .dead, .dead, .dead, .dead, .dead, .dead, .dead, .dead, .dead, .dead, .dead, .dead, .dead, .dead, .dead, .dead, .dead, .dead, .dead, .dead, .dead, .dead, .dead, .dead, .dead, .dead, .dead, .dead, .dead, .dead, .dead, .dead, .dead, .dead, .dead, .dead, .dead, .dead, .dead, .dead, .dead, .dead, .dead], [some (.var (rdL (nmsN (j * 2) (xd R)))), some (.var vwZ), some (.var (vSegs (nmV R) (nmsV (j * 2) (xd R) ++ List.replicate (31 - j * 2) 0) (rfV (va R)) (nmV (nmN R)) (hashV (xc R))))]⟩) ?_ (h2 := by rw [Nat.zero_mul, nmsN_zero, nmsV_zero, eF]; exact rfl))
    intro j hj hl
    by_cases h : j < 8
    · have h1 : (j : Int) < 8 := by omega
      have h2 : (nmsN (j * 2) (xd R)).bs.length ≤ 1000000 := by have := nmsN_len (j * 2) (xd R); omega
      refine agow ?_; (try with_reducible exact True.intro)
      refine hl.go h [0, 2, 3, 6] [0, 1, 2] ?_
      rw [show (j + 1) * 2 = j * 2 + 2 by omega, nmsN_two, nmsV_two, ← over_app (nmsV_length (j * 2) (xd R)), show 31 - (j * 2 + 2) + 2 = 31 - j * 2 by omega]
      rfl
    obtain rfl : j = 8 := by omega
    clear hl h hj
    refine agow ?_; (try with_reducible exact True.intro)
    refine StopL.mk (loop_forG [0, 2, 3, 7] [0, 1, 2] 15 (fun j => ⟨[.ptr 0 0, .dead, .ptr 1 0, .ptr 2 0, .dead, .dead, .dead, .d (.v (.int .i64 (j : Nat))), .dead, .dead, .dead, .dead, .dead, .dead, .dead, .dead, .dead, .dead, .dead, .dead, .dead, .dead, .dead, .dead, .dead, .dead, .dead, .dead, .dead, .dead, .dead, .dead, .dead, .dead, .dead, .dead, .dead, .dead, .dead, .dead, .dead, .dead, .dead, .dead, .dead, .dead, .dead, .dead, .dead, .dead, .dead, .dead, .dead, .dead], [some (.var (rdL (nmsN (16 + j) (xd R)))), some (.var vwZ), some (.var (vSegs (nmV R) (nmsV (16 + j) (xd R) ++ List.replicate (15 - j) 0) (rfV (va R)) (nmV (nmN R)) (hashV (xc R))))]⟩) ?_)
    intro j hj hl
    by_cases h : j < 15
    · have h1 : (j : Int) < 15 := by omega
      have h2 : (nmsN (16 + j) (xd R)).bs.length ≤ 1000000 := by have := nmsN_len (16 + j) (xd R); omega
      refine agow ?_; (try with_reducible exact True.intro)
      refine hl.go h [0, 2, 3, 7] [0, 1, 2] ?_
      rw [show 16 + (j + 1) = 16 + j + 1 by omega, nmsN_one, nmsV_one, ← set_app (nmsV_length (16 + j) (xd R)), show 15 - (j + 1) + 1 = 15 - j by omega]
      rfl
    obtain rfl : j = 15 := by omega
    rw [show nmsV (16 + 15) (xd R) ++ List.replicate (15 - 15) 0 = nmsV 31 (xd R) by simp]
    clear hl h hj
    refine agow ?_; (try with_reducible exact True.intro)
end Go.Proofs.Ytbgdlggobbiibaa
