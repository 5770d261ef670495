/-
  Views: odd operations are refused.
-/
import Derived.Test.YtkeabmnmeheeiaaW15
namespace Go.Proofs.Ytkeabmnmeheeiaa
set_option maxRecDepth 100000
set_option pp.deepTerms true
set_option pp.maxSteps 1000000
open Go.RowKit Pm
set_option linter.unusedVariables false
set_option linter.unusedSimpArgs false
attribute [local irreducible] condK LoopA regA powI scal keyV someZ someA isI putL mayV

abbrev S3 : Vw := ⟨someZ 3, someA 2 3, 1, F8, F8⟩
theorem may_S3 : mayV 0 S3.zs S3.ad S3.k = true := by
  show mayV 0 (someZ 3) (someA 2 3) 1 = true
  rw [some_may 3 (by omega)]; rfl
theorem mem_S3 (i : Nat) (hi : i < 8) : memB (someZ 3) (i : Int) = decide (i < 3) := by rw [memB_nat _ hi, someZ_mem i 3 hi (by omega)]
theorem adm_S3 (i : Nat) (hi : i < 8) : (someA 2 3).getD i false = decide (i < 2) := by
  rw [someA_get 2 i hi 3 (by omega)]
  have e : decide ((i : Int) < 2) = decide (i < 2) := decide_eq_decide.2 (by omega)
  rw [e]
  by_cases h : i < 2
  · rw [decide_eq_true h, decide_eq_true (show i < 3 by omega)]; rfl
  · rw [decide_eq_false h, Bool.and_false]
theorem odd_1 {a b c d e : Int} {v : Bool} (h : ownB [a, b, c, d, e] = v) : oddTo [a, b, c, d, e] 1 = !v := by
  show (List.range 1).any (fun i => !ownB (opAt [a, b, c, d, e] i)) = !v
  rw [show List.range 1 = [0] from rfl, List.any_cons, List.any_nil, Bool.or_false]
  rw [show opAt [a, b, c, d, e] 0 = [a, b, c, d, e] from rfl, h]
theorem doR_odd {s : Vw} {fr a b c d e : Int} (h : ownB [a, b, c, d, e] = false) : (doR 0 s fr [a, b, c, d, e] 1).1 = 1 := by
  unfold doR
  rw [odd_1 h]
  simp
theorem doR_6 {a b c d e : Int} (h : ownB [a, b, c, d, e] = true) : (doR 0 S3 3 [a, b, c, d, e] 1).1 = 6 := by
  unfold doR
  rw [odd_1 h, may_S3, show memB S3.zs 3 = false from mem_S3 3 (by omega)]
  rfl
theorem doR_e {a b c d e v : Int} (h : ownB [a, b, c, d, e] = true) (he : errOp S3 0 [a, b, c, d, e] = v) (hv : v ≠ 0) : (doR 0 S3 0 [a, b, c, d, e] 1).1 = v := by
  rw [doR_no (c := v) may_S3 (by decide) (odd_1 h) (show memB S3.zs 0 = true from mem_S3 0 (by omega)) (by rw [runE_no (o := [a, b, c, d, e]) rfl (by rw [he]; exact hv), he]) hv]
theorem errRem_7 {zs : List Int} {fr w : Int} (h : w = fr ∨ memB zs w = false) : errRem zs fr w = 7 := if_pos h
theorem errPro_7 {zs : List Int} {ad : List Bool} {w : Int} (h : memB zs w = false ∨ ad.getD w.toNat false = true) : errPro zs ad w = 7 := if_pos h
theorem errDem_7 {zs : List Int} {ad : List Bool} {w : Int} (h : memB zs w = false ∨ ad.getD w.toNat false = false) : errDem zs ad w = 7 := if_pos h
theorem errAdd_i {zs : List Int} {x y : Int} (h : isI x = false) : errAdd zs [x, y] = 7 := by
  unfold errAdd
  rw [List.getD_cons_zero, h]; rfl
theorem errAdd_u {zs : List Int} {x y : Int} (h : usedB zs x = true) : errAdd zs [x, y] = 7 := by
  unfold errAdd
  rw [List.getD_cons_zero, h]
  split <;> rfl
/-- the two answers to an operation -/
structure Two (o : List Int) (c d : Int) : Prop where
  zero : (doR 0 S3 0 o 1).1 = c
  three : (doR 0 S3 3 o 1).1 = d
theorem two_odd {a b c d e : Int} (h : ownB [a, b, c, d, e] = false) : Two [a, b, c, d, e] 1 1 := ⟨doR_odd h, doR_odd h⟩
theorem two_err {a b c d e : Int} (h : ownB [a, b, c, d, e] = true) (he : errOp S3 0 [a, b, c, d, e] = 7) : Two [a, b, c, d, e] 7 6 := ⟨doR_e h he (by decide), doR_6 h⟩
theorem two_0 : Two [3, 2, 0, 0, 0] 0 6 := by
  refine ⟨?_, doR_6 rfl⟩
  have he : errOp S3 0 [3, 2, 0, 0, 0] = 0 := by
    rw [err_pro]
    show errPro (someZ 3) (someA 2 3) 2 = 0
    unfold errPro
    rw [show memB (someZ 3) 2 = true from mem_S3 2 (by omega), show (someA 2 3).getD (2 : Int).toNat false = false from adm_S3 2 (by omega)]
    rfl
  have hc : cntB ((someA 2 3).set 2 true) = 3 := by
    rw [someA_map 2 3 (by omega)]
    decide
  rw [doR_of (s' := ⟨someZ 3, (someA 2 3).set 2 true, 1, F8, F8⟩) may_S3 (by decide) (odd_1 rfl) (show memB S3.zs 0 = true from mem_S3 0 (by omega)) ?_ (by rw [hc]; decide)]
  rw [runE_go (o := [3, 2, 0, 0, 0]) rfl he, runE_0, next_pro]
  rfl
theorem two_15 : Two [5, 0, 3, 0, 0] 7 6 := by
  refine ⟨?_, doR_6 rfl⟩
  have he : errOp S3 0 [5, 0, 3, 0, 0] = 0 := by rw [err_lim]; rfl
  have hc : cntB (someA 2 3) = 2 := by
    rw [someA_map 2 3 (by omega)]
    decide
  have hr : runE 0 [5, 0, 3, 0, 0] 1 0 S3 = (0, ⟨someZ 3, someA 2 3, 3, F8, F8⟩) := by
    rw [runE_go (o := [5, 0, 3, 0, 0]) rfl he, runE_0]
    rfl
  unfold doR
  rw [odd_1 (v := true) rfl, may_S3, show memB S3.zs 0 = true from mem_S3 0 (by omega), hr]
  show ((if ((cntB (someA 2 3) : Nat) : Int) < 3 then _ else _ : Int × Vw)).1 = 7
  rw [hc, if_pos (by decide)]
theorem two_5 (x y : Int) (hx : x ≠ 0) : Two [5, 0, 1, x, y] 1 1 := two_odd (by
  show (decide ((0 : Int) = 0) && (decide (x = 0) && decide (y = 0))) = false
  rw [decide_eq_false hx]; rfl)
theorem two_7 (y : Int) : Two [1, 0, 0, keyV 1, y] 7 6 := two_err rfl (by
  rw [err_add]
  refine errAdd_u (used_t (i := 1) (by omega) ?_)
  have := someZ_get 1 (by omega) 3 (by omega)
  rw [if_pos (by omega)] at this
  exact this)
abbrev oddL (x y : Int) : List Int := [3, 2, 0, 0, 0, 0, 0, 0, 0, 0, 6, 0, 0, 0, 0, 1, 1, 0, x, y, 2, 2, 1, 0, 0, 5, 0, 1, x, y, 1, 0, 0, 0, 0, 1, 0, 0, keyV 1, y, 2, 0, 0, 0, 0, 2, 5, 0, 0, 0, 2, -1, 0, 0, 0, 3, 1, 0, 0, 0, 3, 8, 0, 0, 0, 4, 2, 0, 0, 0, 5, 0, 9, 0, 0, 5, 0, 3, 0, 0]
theorem two_all (x y : Int) (hx : x ≠ 0) (w : Nat) (hw : w < 16) : Two (((oddL x y).drop (w * 5)).take 5) (if w = 0 then 0 else if w ≤ 5 then 1 else 7) (if 1 ≤ w ∧ w ≤ 5 then 1 else 6) := by
  obtain rfl | rfl | rfl | rfl | rfl | rfl | rfl | rfl | rfl | rfl | rfl | rfl | rfl | rfl | rfl | rfl : w = 0 ∨ w = 1 ∨ w = 2 ∨ w = 3 ∨ w = 4 ∨ w = 5 ∨ w = 6 ∨ w = 7 ∨ w = 8 ∨ w = 9 ∨ w = 10 ∨ w = 11 ∨ w = 12 ∨ w = 13 ∨ w = 14 ∨ w = 15 := by omega
  · exact (show Two [3, 2, 0, 0, 0] 0 6 from two_0)
  · exact (show Two [0, 0, 0, 0, 0] 1 1 from two_odd rfl)
  · exact (show Two [6, 0, 0, 0, 0] 1 1 from two_odd rfl)
  · exact (show Two [1, 1, 0, x, y] 1 1 from two_odd rfl)
  · exact (show Two [2, 2, 1, 0, 0] 1 1 from two_odd rfl)
  · exact (show Two [5, 0, 1, x, y] 1 1 from two_5 _ _ hx)
  · exact (show Two [1, 0, 0, 0, 0] 7 6 from two_err rfl (by rw [err_add]; exact errAdd_i (by unfold isI; rfl)))
  · exact (show Two [1, 0, 0, keyV 1, y] 7 6 from two_7 _)
  · exact (show Two [2, 0, 0, 0, 0] 7 6 from two_err rfl (by rw [err_rem]; exact errRem_7 (.inl rfl)))
  · exact (show Two [2, 5, 0, 0, 0] 7 6 from two_err rfl (by rw [err_rem]; exact errRem_7 (.inr (mem_S3 5 (by omega)))))
  · exact (show Two [2, -1, 0, 0, 0] 7 6 from two_err rfl (by rw [err_rem]; exact errRem_7 (.inr rfl)))
  · exact (show Two [3, 1, 0, 0, 0] 7 6 from two_err rfl (by rw [err_pro]; exact errPro_7 (.inr (adm_S3 1 (by omega)))))
  · exact (show Two [3, 8, 0, 0, 0] 7 6 from two_err rfl (by rw [err_pro]; exact errPro_7 (.inl rfl)))
  · exact (show Two [4, 2, 0, 0, 0] 7 6 from two_err rfl (by rw [err_dem]; exact errDem_7 (.inr (adm_S3 2 (by omega)))))
  · exact (show Two [5, 0, 9, 0, 0] 7 6 from two_err rfl (by rw [err_lim]; rfl))
  · exact (show Two [5, 0, 3, 0, 0] 7 6 from two_15)
attribute [local irreducible] doR
set_option maxHeartbeats 8000000 in
theorem viewOdd_ok (way : Int) : FnO 9 [.v (.int .i64 way)] (.d (.v (.bool true))) := by
  refine fnA (E := envX2) Try.func9 Try.ntmps9 ?_
  by_cases h1 : way < 0
  · refine agom ?_; (try with_reducible exact True.intro)
  by_cases h2 : way ≥ 16
  · refine agom ?_; (try with_reducible exact True.intro)
  obtain ⟨w, rfl⟩ := Int.eq_ofNat_of_zero_le (show 0 ≤ way by omega)
  have hT : Two (List.take 5 (List.drop (w * 5) [3, 2, 0, 0, 0, 0, 0, 0, 0, 0, 6, 0, 0, 0, 0, 1, 1, 0, keyV 41, keyV 51, 2, 2, 1, 0, 0, 5, 0, 1, keyV 41, keyV 51, 1, 0, 0, 0, 0, 1, 0, 0, keyV 1, keyV 51, 2, 0, 0, 0, 0, 2, 5, 0, 0, 0, 2, -1, 0, 0, 0, 3, 1, 0, 0, 0, 3, 8, 0, 0, 0, 4, 2, 0, 0, 0, 5, 0, 9, 0, 0, 5, 0, 3, 0, 0])) (if w = 0 then 0 else if w ≤ 5 then 1 else 7) (if 1 ≤ w ∧ w ≤ 5 then 1 else 6) := two_all (keyV 41) (keyV 51) (keyV_ne0 41) w (by omega)
  refine agow ?_; (try with_reducible exact True.intro)
  generalize ([3, 2, 0, 0, 0, 0, 0, 0, 0, 0, 6, 0, 0, 0, 0, 1, 1, 0, keyV 41, keyV 51, 2, 2, 1, 0, 0, 5, 0, 1, keyV 41, keyV 51, 1, 0, 0, 0, 0, 1, 0, 0, keyV 1, keyV 51, 2, 0, 0, 0, 0, 2, 5, 0, 0, 0, 2, -1, 0, 0, 0, 3, 1, 0, 0, 0, 3, 8, 0, 0, 0, 4, 2, 0, 0, 0, 5, 0, 9, 0, 0, 5, 0, 3, 0, 0] : List Int) = L at *
  by_cases w0 : w = 0
  · rw [if_pos w0, if_neg (show ¬ (1 ≤ w ∧ w ≤ 5) by omega)] at hT
    obtain ⟨r0, r1, r2, r3, r4, r5, r6, r7⟩ : decide ((doR 0 S3 0 (List.take 5 (List.drop (w * 5) L)) 1).1 = 0) = true ∧ decide ((doR 0 S3 3 (List.take 5 (List.drop (w * 5) L)) 1).1 = 0) = false ∧ ((doR 0 S3 0 (List.take 5 (List.drop (w * 5) L)) 1).1 == 0) = true ∧ ((doR 0 S3 3 (List.take 5 (List.drop (w * 5) L)) 1).1 == 6) = true ∧ ((doR 0 S3 0 (List.take 5 (List.drop (w * 5) L)) 1).1 == 0) = true ∧ ((doR 0 S3 0 (List.take 5 (List.drop (w * 5) L)) 1).1 == 1) = false ∧ ((doR 0 S3 0 (List.take 5 (List.drop (w * 5) L)) 1).1 == 7) = false ∧ (((doR 0 S3 3 (List.take 5 (List.drop (w * 5) L)) 1).1 == 6) == ((0 : Int) != 1)) = true := by rw [hT.zero, hT.three]; exact ⟨rfl, rfl, rfl, rfl, rfl, rfl, rfl, rfl⟩
    clear hT
    refine agow ?_; (try with_reducible exact True.intro)
  by_cases w5 : w ≤ 5
  · rw [if_neg w0, if_pos w5, if_pos (show 1 ≤ w ∧ w ≤ 5 by omega)] at hT
    obtain ⟨r0, r1, r2, r3, r4, r5, r6, r7⟩ : decide ((doR 0 S3 0 (List.take 5 (List.drop (w * 5) L)) 1).1 = 0) = false ∧ decide ((doR 0 S3 3 (List.take 5 (List.drop (w * 5) L)) 1).1 = 0) = false ∧ ((doR 0 S3 0 (List.take 5 (List.drop (w * 5) L)) 1).1 == 1) = true ∧ ((doR 0 S3 3 (List.take 5 (List.drop (w * 5) L)) 1).1 == 6) = false ∧ ((doR 0 S3 0 (List.take 5 (List.drop (w * 5) L)) 1).1 == 0) = false ∧ ((doR 0 S3 0 (List.take 5 (List.drop (w * 5) L)) 1).1 == 1) = true ∧ ((doR 0 S3 0 (List.take 5 (List.drop (w * 5) L)) 1).1 == 7) = false ∧ (((doR 0 S3 3 (List.take 5 (List.drop (w * 5) L)) 1).1 == 6) == ((1 : Int) != 1)) = true := by rw [hT.zero, hT.three]; exact ⟨rfl, rfl, rfl, rfl, rfl, rfl, rfl, rfl⟩
    clear hT
    refine agow ?_; (try with_reducible exact True.intro)
  rw [if_neg w0, if_neg w5, if_neg (show ¬ (1 ≤ w ∧ w ≤ 5) by omega)] at hT
  obtain ⟨r0, r1, r2, r3, r4, r5, r6, r7⟩ : decide ((doR 0 S3 0 (List.take 5 (List.drop (w * 5) L)) 1).1 = 0) = false ∧ decide ((doR 0 S3 3 (List.take 5 (List.drop (w * 5) L)) 1).1 = 0) = false ∧ ((doR 0 S3 0 (List.take 5 (List.drop (w * 5) L)) 1).1 == 7) = true ∧ ((doR 0 S3 3 (List.take 5 (List.drop (w * 5) L)) 1).1 == 6) = true ∧ ((doR 0 S3 0 (List.take 5 (List.drop (w * 5) L)) 1).1 == 0) = false ∧ ((doR 0 S3 0 (List.take 5 (List.drop (w * 5) L)) 1).1 == 1) = false ∧ ((doR 0 S3 0 (List.take 5 (List.drop (w * 5) L)) 1).1 == 7) = true ∧ (((doR 0 S3 3 (List.take 5 (List.drop (w * 5) L)) 1).1 == 6) == ((7 : Int) != 1)) = true := by rw [hT.zero, hT.three]; exact ⟨rfl, rfl, rfl, rfl, rfl, rfl, rfl, rfl⟩
  clear hT
  refine agow ?_; (try with_reducible exact True.intro)
theorem viewOdd_walk (way : Int) (hway : (Lit.int .i64 way).wf = true) {w : World} :
    Calls Try.prog 9 #[.int .i64 way] w fun e w' => e = .returned (.bool true) ∧ Below w.heap.size w w' :=
  law_of_fn (viewOdd_ok way) (fun q l e => by cases (show (none : Option (List Seg)) = some l from e)) (.cons (.v _) .nil)
end Go.Proofs.Ytkeabmnmeheeiaa
