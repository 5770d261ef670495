/-
  Views: operations done, as the document does them.
-/
import Derived.Test.YtegjkfaokpjojaaGreatDoorJ23
namespace Go.Proofs.YtegjkfaokpjojaaGreatDoor
set_option maxRecDepth 100000
open Go.RowKit Pm
set_option linter.unusedVariables false
set_option linter.unusedSimpArgs false
attribute [local irreducible] condK LoopA regA isI memTo memL freeN usedB fullB putL errAdd isT memB errOneR oneRz oneRa oneRk mayV oddTo cntB runE opAt ownB

def raddSM2 : Nat → Bk → List A → (Res → Bk → Prop) → Prop
  | 0, .var [.ints .i64 1 [e], .ints .i64 31 zs, .bools 8 ad, .ints .i64 1 [k], .bytes 32 ch], [.agg [.ints .i64 2 xs]], K =>
    StopC (condK (decide (errAdd zs xs = 0)) (K (.t [.v (.int .i64 ((freeN zs : Nat) : Int)), .v (.int .i64 0)]) (.var (vSegs e (putL zs xs (freeN zs : Nat)) (ad.set (freeN zs) false) k ch))) (K (.t [.v (.int .i64 0), .v (.int .i64 (errAdd zs xs))]) (.var (vSegs e zs ad k ch))))
  | _, _, _, _ => False
theorem raddSM2_ok : ∀ pos x args K, raddSM2 pos x args K → ∃ r x', FnMO 97 pos x args r x' ∧ K r x' := by
  intro pos x args K h
  unfold raddSM2 at h
  split at h
  · next e zs ad k ch xs =>
    have h := h.out
    have ho := radd_ok e zs ad k ch xs
    by_cases he : errAdd zs xs = 0
    · rw [decide_eq_true he, condK_true] at h
      rw [if_pos he, if_pos he, he] at ho
      exact ⟨_, _, ho, h⟩
    · rw [decide_eq_false he, condK_false] at h
      rw [if_neg he, if_neg he] at ho
      exact ⟨_, _, ho, h⟩
  · exact h.elim
def roneSM2 : Nat → Bk → List A → (Res → Bk → Prop) → Prop
  | 0, .var [.ints .i64 1 [e], .ints .i64 31 zs, .bools 8 ad, .ints .i64 1 [k], .bytes 32 ch], [.v (.int .i64 fr), .agg [.ints .i64 5 o]], K =>
    StopC (condK (decide (errOneR zs ad fr o = 0)) (K (.d (.v (.int .i64 0))) (.var (vSegs e (oneRz zs o) (oneRa ad o) (oneRk k o) ch))) (K (.d (.v (.int .i64 (errOneR zs ad fr o)))) (.var (vSegs e zs ad k ch))))
  | _, _, _, _ => False
theorem roneSM2_ok : ∀ pos x args K, roneSM2 pos x args K → ∃ r x', FnMO 98 pos x args r x' ∧ K r x' := by
  intro pos x args K h
  unfold roneSM2 at h
  split at h
  · next e zs ad k ch fr o =>
    have h := h.out
    have ho := rone_ok e zs ad k ch fr o
    by_cases he : errOneR zs ad fr o = 0
    · rw [decide_eq_true he, condK_true] at h
      rw [if_pos he, he] at ho
      exact ⟨_, _, ho, h⟩
    · rw [decide_eq_false he, condK_false] at h
      rw [if_neg he] at ho
      exact ⟨_, _, ho, h⟩
  · exact h.elim
noncomputable def envVr : EnvX := envVo.addM 97 raddSM2 raddSM2_ok ⟨_, Tryz.func97, by kernel_rfl, by kernel_rfl⟩
noncomputable def envVs : EnvX := envVr.addM 98 roneSM2 roneSM2_ok ⟨_, Tryz.func98, by kernel_rfl, by kernel_rfl⟩
theorem oddTo_step (ops : List Int) (i : Nat) : oddTo ops (i + 1) = (oddTo ops i || !ownB (opAt ops i)) := by
  unfold oddTo
  rw [List.range_succ, List.any_append]
  simp
theorem oddTo_mono (ops : List Int) : ∀ (d i : Nat), oddTo ops i = true → oddTo ops (i + d) = true
  | 0, i, h => h
  | d + 1, i, h => by
    rw [← Nat.add_assoc, oddTo_step, oddTo_mono ops d i h]; rfl
/-- the answer out of what was done -/
def resV (e : Int) (ch : List UInt8) (d : Int × Vw) : List A :=
  if d.1 = 0 then [.agg (vSegs e d.2.zs d.2.ad d.2.k ch), .agg [.bools 8 d.2.ng], .agg [.bools 8 d.2.gn], .v (.int .i64 0)] else [.agg vZero, .agg [.bools 8 F8], .agg [.bools 8 F8], .v (.int .i64 d.1)]
theorem appR_eq (e : Int) (zs : List Int) (ad : List Bool) (k : Int) (ch : List UInt8) (fr : Int) (ops : List Int) (n : Nat) : appR e zs ad k ch fr ops n = resV e ch (doR e ⟨zs, ad, k, F8, F8⟩ fr ops n) := rfl
theorem op_parts {ops : List Int} {i j : Nat} (hol : ops.length = i * 5) (hj : j < i) : (opAt ops j).getD 0 0 = ops.getD (j * 5) 0 ∧ (opAt ops j).getD 1 0 = ops.getD (j * 5 + 1) 0 ∧ (ops.drop (j * 5 + 3)).take 2 = [(opAt ops j).getD 3 0, (opAt ops j).getD 4 0] := by
  have hoe : opAt ops j = (ops.drop (j * 5)).take 5 := by unfold opAt; rfl
  rw [hoe]
  refine ⟨by simp [List.getD_eq_getElem?_getD], by simp [List.getD_eq_getElem?_getD], List.ext_getElem (by simp; omega) fun m h1 h2 => ?_⟩
  have hm : m = 0 ∨ m = 1 := by simp at h2; omega
  rcases hm with rfl | rfl
  · simp [List.getD_eq_getElem?_getD, show j * 5 + 3 < ops.length by omega]
  · simp [List.getD_eq_getElem?_getD, show j * 5 + 4 < ops.length by omega, show j * 5 + 3 + 1 = j * 5 + 4 by omega]
set_option maxHeartbeats 4000000 in
theorem rapply_ok (e : Int) (zs : List Int) (ad : List Bool) (k : Int) (ch : List UInt8) (fr : Int) (ops : List Int) (n : Nat) (hn : n ≤ 1000000) :
    FnO 42 [.agg (vSegs e zs ad k ch), .v (.int .i64 fr), .row n [.ints .i64 (n * 5) ops]] (.t (appR e zs ad k ch fr ops n)) := by
  refine fn_lens fun hl => ?_
  obtain ⟨⟨_, hzl, hal, _, _, _⟩, ⟨hol, _⟩, _⟩ := hl
  rw [appR_eq]
  refine fnA (E := envVs) Tryz.func42 Tryz.ntmps42 ?_
  cases hV : mayV e zs ad k with
  | false =>
    have hr : doR e ⟨zs, ad, k, F8, F8⟩ fr ops n = (1, ⟨zs, ad, k, F8, F8⟩) := by simp [doR, hV]
    rw [hr]
    clear hr
    refine agom ?_; (try with_reducible exact True.intro)
    refine StopL.mk (loop_unroll 1 ?_)
    by_cases hn0 : n = 0
    · subst hn0
      refine agom ?_; (try with_reducible exact True.intro)
      rfl
    · have hn1 : (0 : Int) < (n : Int) := by omega
      refine agom ?_; (try with_reducible exact True.intro)
      rfl
  | true =>
  by_cases h4 : n > 4
  · have hr : doR e ⟨zs, ad, k, F8, F8⟩ fr ops n = (1, ⟨zs, ad, k, F8, F8⟩) := by simp [doR, hV, h4]
    have h41 : decide ((n : Int) > 4) = true := by simp; omega
    have h40 : (0 : Int) < (n : Int) := by omega
    rw [hr]
    clear hr
    refine agom ?_; (try with_reducible exact True.intro)
    refine StopL.mk (loop_unroll 1 ?_)
    refine agom ?_; (try with_reducible exact True.intro)
    rfl
  have h41 : decide ((n : Int) > 4) = false := by simp; omega
  have h42 : decide ((n : Int) ≤ 4) = !oddTo ops 0 := by
    have : oddTo ops 0 = false := by unfold oddTo; rfl
    rw [this]; simp; omega
  refine agom ?_; (try with_reducible exact True.intro)
  refine StopL.mk (loop_inv [1, 2, 3, 6, 7, 8, 10, 11, 12, 13, 14] 7 (fun st => ∃ i : Nat, i ≤ n ∧ ∃ b : Bool, b = !oddTo ops i ∧ st = ⟨[.dead, .d (.v (.int .i64 fr)), .d (.row n [.ints .i64 (n * 5) ops]), .ptr 0 0, .dead, .dead, .ptr 1 0, .ptr 2 0, .ptr 3 0, .dead, .ptr 4 0, .ptr 5 0, .ptr 6 0, .d (.v (.bool b)), .d (.v (.int .i64 (i : Nat))), .dead, .dead, .dead, .dead, .dead, .dead, .dead, .dead, .dead, .dead, .dead, .dead, .dead, .dead, .dead, .dead, .dead, .dead, .dead, .dead, .dead, .dead, .dead, .dead, .dead, .dead, .dead, .dead, .dead, .dead, .dead, .dead, .dead, .dead, .dead, .dead, .dead, .dead, .dead, .dead, .dead, .dead, .dead, .dead, .dead, .dead, .dead, .dead, .dead, .dead, .dead, .dead, .dead, .dead, .dead, .dead, .dead, .dead, .dead, .dead, .dead, .dead, .dead, .dead, .dead, .dead, .dead, .dead, .dead, .dead, .dead, .dead, .dead, .dead, .dead, .dead, .dead, .dead, .dead, .dead, .dead, .dead, .dead, .dead, .dead, .dead, .dead, .dead, .dead, .dead, .dead, .dead, .dead, .dead, .dead, .dead, .dead, .dead, .dead, .dead, .dead, .dead, .dead, .dead, .dead, .dead, .dead, .dead, .dead, .dead, .dead], [some (.var (vSegs e zs ad k ch)), some (.var vZero), some (.var [.bools 8 F8]), some (.var [.bools 8 F8]), some (.var [.bools 8 F8]), some (.var [.bools 8 F8]), some (.var [.bools 8 F8])]⟩) (fun s => n - intAt s 14) rfl ⟨0, by omega, decide ((n : Int) ≤ 4), h42, rfl⟩ ?_)
  clear h42
  rintro st ⟨i, hi, b, hb, rfl⟩
  have hw : IntKind.i64.wrap ((i : Int) + 1) = ((i + 1 : Nat) : Int) := by rw [wrapS (by omega) (by omega)]; omega
  have hbad : b = false → doR e ⟨zs, ad, k, F8, F8⟩ fr ops n = (1, ⟨zs, ad, k, F8, F8⟩) := by
    intro hb0
    have hO : oddTo ops n = true := by
      have h1 : oddTo ops i = true := by rw [hb0] at hb; cases h : oddTo ops i with
        | true => rfl
        | false => rw [h] at hb; cases hb
      have h2 := oddTo_mono ops (n - i) i h1
      rwa [show i + (n - i) = n by omega] at h2
    simp [doR, hO]
  by_cases hi2 : i < n
  · have hlt : decide ((i : Int) < (n : Int)) = true := by simp; omega
    cases b with
    | true =>
      clear hbad
      refine agom ?_; (try with_reducible exact True.intro)
      have hop : opAt ops i = (ops.drop (i * 5)).take 5 := by unfold opAt; rfl
      refine ⟨⟨i + 1, by omega, ownB ((ops.drop (i * 5)).take 5), ?_, by rw [← hw]; rfl⟩, ?_⟩
      · rw [oddTo_step, ← hop]
        cases h : oddTo ops i with
        | true => rw [h] at hb; cases hb
        | false => cases ownB (opAt ops i) <;> rfl
      · show n - (IntKind.i64.wrap ((i : Int) + 1)).toNat < n - (i : Int).toNat
        rw [hw]; omega
    | false =>
      rw [hbad rfl]
      clear hbad hb
      refine agom ?_; (try with_reducible exact True.intro)
      rfl
  · obtain rfl : i = n := by omega
    have hlt : decide ((i : Int) < (i : Int)) = false := by simp
    cases b with
    | false =>
      rw [hbad rfl]
      clear hbad hb
      refine agom ?_; (try with_reducible exact True.intro)
      rfl
    | true =>
      clear hbad hw hi hi2
      have hO : oddTo ops i = false := by
        cases h : oddTo ops i with
        | true => rw [h] at hb; cases hb
        | false => rfl
      clear hb
      cases hM : memB zs fr with
      | false =>
        have hr : doR e ⟨zs, ad, k, F8, F8⟩ fr ops i = (6, ⟨zs, ad, k, F8, F8⟩) := by simp [doR, hV, h4, hO, hM]
        rw [hr]
        clear hr
        refine agom ?_; (try with_reducible exact True.intro)
        rfl
      | true =>
        have hI : Inv ⟨zs, ad, k, F8, F8⟩ := mayV_inv hV hzl hal
        have hr : doR e ⟨zs, ad, k, F8, F8⟩ fr ops i = (if (runE fr ops i 0 ⟨zs, ad, k, F8, F8⟩).1 ≠ 0 then runE fr ops i 0 ⟨zs, ad, k, F8, F8⟩ else if ((cntB (runE fr ops i 0 ⟨zs, ad, k, F8, F8⟩).2.ad : Nat) : Int) < (runE fr ops i 0 ⟨zs, ad, k, F8, F8⟩).2.k then (7, (runE fr ops i 0 ⟨zs, ad, k, F8, F8⟩).2) else (0, (runE fr ops i 0 ⟨zs, ad, k, F8, F8⟩).2)) := by
          simp only [doR, hV, hO, hM, decide_eq_false h4]
          simp
        rw [hr]
        clear hr
        refine agom ?_; (try with_reducible exact True.intro)
        have hR0 : runE fr ops i 0 ⟨zs, ad, k, F8, F8⟩ = runE fr ops i 0 ⟨zs, ad, k, F8, F8⟩ := rfl
        generalize hR : runE fr ops i 0 ⟨zs, ad, k, F8, F8⟩ = R at *
        refine StopL.mk (loop_inv [1, 2, 3, 6, 7, 8, 10, 11, 12, 15] 7 (fun st => ∃ j : Nat, j ≤ i ∧ ∃ q : Vw, Inv q ∧ runE fr ops (i - j) j q = R ∧ st = ⟨[.dead, .d (.v (.int .i64 fr)), .d (.row i [.ints .i64 (i * 5) ops]), .ptr 0 0, .dead, .dead, .ptr 1 0, .ptr 2 0, .ptr 3 0, .dead, .ptr 4 0, .ptr 5 0, .ptr 6 0, .dead, .dead, .d (.v (.int .i64 (j : Nat))), .dead, .dead, .dead, .dead, .dead, .dead, .dead, .dead, .dead, .dead, .dead, .dead, .dead, .dead, .dead, .dead, .dead, .dead, .dead, .dead, .dead, .dead, .dead, .dead, .dead, .dead, .dead, .dead, .dead, .dead, .dead, .dead, .dead, .dead, .dead, .dead, .dead, .dead, .dead, .dead, .dead, .dead, .dead, .dead, .dead, .dead, .dead, .dead, .dead, .dead, .dead, .dead, .dead, .dead, .dead, .dead, .dead, .dead, .dead, .dead, .dead, .dead, .dead, .dead, .dead, .dead, .dead, .dead, .dead, .dead, .dead, .dead, .dead, .dead, .dead, .dead, .dead, .dead, .dead, .dead, .dead, .dead, .dead, .dead, .dead, .dead, .dead, .dead, .dead, .dead, .dead, .dead, .dead, .dead, .dead, .dead, .dead, .dead, .dead, .dead, .dead, .dead, .dead, .dead, .dead, .dead, .dead, .dead, .dead, .dead], [some (.var (vSegs e q.zs q.ad q.k ch)), some (.var vZero), some (.var [.bools 8 F8]), some (.var [.bools 8 F8]), some (.var [.bools 8 q.ng]), some (.var [.bools 8 q.gn]), some (.var [.bools 8 F8])]⟩) (fun s => i - intAt s 15) rfl ⟨0, by omega, _, hI, hR, rfl⟩ ?_)
        clear hR hR0 hV h41 h4 hO hM hI hlt hzl hal
        rintro st ⟨j, hj, ⟨zs, ad, k, ng, gn⟩, hI, hrun, rfl⟩
        have hw : IntKind.i64.wrap ((j : Int) + 1) = ((j + 1 : Nat) : Int) := by rw [wrapS (by omega) (by omega)]; omega
        by_cases hj2 : j < i
        · have hlt : decide ((j : Int) < (i : Int)) = true := by simp; omega
          obtain ⟨d, hd⟩ : ∃ d, i - j = d + 1 := ⟨i - j - 1, by omega⟩
          rw [hd] at hrun
          unfold runE at hrun
          obtain ⟨g0, g1, g3⟩ := op_parts hol hj2
          by_cases k1 : ops.getD (j * 5) 0 = 1
          · have hk1 : (ops.getD (j * 5) 0 == 1) = true := by simpa using k1
            have ee : errOp ⟨zs, ad, k, ng, gn⟩ fr (opAt ops j) = errAdd zs ((ops.drop (j * 5 + 3)).take 2) := by
              unfold errOp; rw [if_pos (by rw [g0]; exact k1), g3]
            by_cases he : errAdd zs ((ops.drop (j * 5 + 3)).take 2) = 0
            · have he1 : decide (errAdd zs ((ops.drop (j * 5 + 3)).take 2) = 0) = true := decide_eq_true he
              have hf8 : freeN zs < 8 := by
                rw [g3] at he
                exact (free_lt (errAdd_0 he).1).1
              have he' : errOp ⟨zs, ad, k, ng, gn⟩ fr (opAt ops j) = 0 := by rw [ee]; exact he
              have nx : nextOp ⟨zs, ad, k, ng, gn⟩ (opAt ops j) = ⟨putL zs ((ops.drop (j * 5 + 3)).take 2) (freeN zs : Nat), ad.set (freeN zs) false, k, ng.set (freeN zs) true, gn⟩ := by
                rw [← nextOp_same hI fr he']; unfold nextOpR; rw [if_pos (by rw [g0]; exact k1), ← g3]
              have hI' := nextOp_inv hI fr he'
              rw [nx] at hI'
              rw [if_pos he', nx] at hrun
              clear nx he' ee g0 g1 g3
              cases hg : ng.getD (freeN zs) false with
              | true =>
                refine agom ?_; (try with_reducible exact True.intro)
                refine ⟨⟨j + 1, by omega, _, hI', by rw [show i - (j + 1) = d by omega]; exact hrun, by rw [← hw]; rfl⟩, ?_⟩
                show i - (IntKind.i64.wrap ((j : Int) + 1)).toNat < i - (j : Int).toNat
                rw [hw]; omega
              | false =>
                refine agom ?_; (try with_reducible exact True.intro)
                refine ⟨⟨j + 1, by omega, _, hI', by rw [show i - (j + 1) = d by omega]; exact hrun, by rw [← hw]; rfl⟩, ?_⟩
                show i - (IntKind.i64.wrap ((j : Int) + 1)).toNat < i - (j : Int).toNat
                rw [hw]; omega
            · have he1 : decide (errAdd zs ((ops.drop (j * 5 + 3)).take 2) = 0) = false := decide_eq_false he
              have he2 : (errAdd zs ((ops.drop (j * 5 + 3)).take 2) == 0) = false := by simpa using he
              have he3 : (errAdd zs ((ops.drop (j * 5 + 3)).take 2) != 0) = true := by simpa using he
              have he' : errOp ⟨zs, ad, k, ng, gn⟩ fr (opAt ops j) ≠ 0 := by rw [ee]; exact he
              rw [if_neg he'] at hrun
              rw [← hrun, if_pos he', ee]
              clear ee g0 g1 g3 he' hrun
              cases hg : ng.getD 0 false with
              | true =>
                refine agom ?_; (try with_reducible exact True.intro)
                exact (congrArg Res.t (show resV e ch (_, _) = _ from if_neg he)).symm
              | false =>
                refine agom ?_; (try with_reducible exact True.intro)
                exact (congrArg Res.t (show resV e ch (_, _) = _ from if_neg he)).symm
          · have hk1 : (ops.getD (j * 5) 0 == 1) = false := by simpa using k1
            have ee : errOneR zs ad fr ((ops.drop (j * 5)).take 5) = errOp ⟨zs, ad, k, ng, gn⟩ fr (opAt ops j) := by
              rw [← errOp_same hI, errOpR, if_neg (by rw [g0]; exact k1)]
              unfold opAt; rfl
            by_cases he : errOneR zs ad fr ((ops.drop (j * 5)).take 5) = 0
            · have he1 : decide (errOneR zs ad fr ((ops.drop (j * 5)).take 5) = 0) = true := decide_eq_true he
              have he' : errOp ⟨zs, ad, k, ng, gn⟩ fr (opAt ops j) = 0 := by rw [← ee]; exact he
              have hI' := nextOp_inv hI fr he'
              rw [if_pos he'] at hrun
              by_cases k2 : ops.getD (j * 5) 0 = 2
              · have hk2 : (ops.getD (j * 5) 0 == 2) = true := by simpa using k2
                have nx : nextOp ⟨zs, ad, k, ng, gn⟩ (opAt ops j) = ⟨oneRz zs ((ops.drop (j * 5)).take 5), oneRa ad ((ops.drop (j * 5)).take 5), oneRk k ((ops.drop (j * 5)).take 5), ng.set (ops.getD (j * 5 + 1) 0).toNat false, gn.set (ops.getD (j * 5 + 1) 0).toNat true⟩ := by
                  rw [← nextOp_same hI fr he']; unfold nextOpR; rw [if_neg (by rw [g0]; exact k1), if_pos (by rw [g0]; exact k2), if_pos (by rw [g0]; exact k2), g1]
                  unfold opAt; rfl
                have hb : 0 ≤ ops.getD (j * 5 + 1) 0 ∧ ops.getD (j * 5 + 1) 0 < 8 := by
                  unfold errOp errRem at he'
                  rw [if_neg (by rw [g0]; exact k1), if_pos (by rw [g0]; exact k2), g1] at he'
                  have hm : memB zs (ops.getD (j * 5 + 1) 0) = true := by
                    cases hq : memB zs (ops.getD (j * 5 + 1) 0) with
                    | true => rfl
                    | false => rw [if_pos (.inr hq)] at he'; cases he'
                  exact memB_bd hm
                obtain ⟨hb0, hb1⟩ := hb
                rw [nx] at hI' hrun
                clear nx he' ee g0 g1 g3
                refine agom ?_; (try with_reducible exact True.intro)
                refine ⟨⟨j + 1, by omega, _, hI', by rw [show i - (j + 1) = d by omega]; exact hrun, by rw [← hw]; rfl⟩, ?_⟩
                show i - (IntKind.i64.wrap ((j : Int) + 1)).toNat < i - (j : Int).toNat
                rw [hw]; omega
              · have hk2 : (ops.getD (j * 5) 0 == 2) = false := by simpa using k2
                have nx : nextOp ⟨zs, ad, k, ng, gn⟩ (opAt ops j) = ⟨oneRz zs ((ops.drop (j * 5)).take 5), oneRa ad ((ops.drop (j * 5)).take 5), oneRk k ((ops.drop (j * 5)).take 5), ng, gn⟩ := by
                  rw [← nextOp_same hI fr he']; unfold nextOpR; rw [if_neg (by rw [g0]; exact k1), if_neg (by rw [g0]; exact k2), if_neg (by rw [g0]; exact k2)]
                  unfold opAt; rfl
                rw [nx] at hI' hrun
                clear nx he' ee g0 g1 g3
                refine agom ?_; (try with_reducible exact True.intro)
                refine ⟨⟨j + 1, by omega, _, hI', by rw [show i - (j + 1) = d by omega]; exact hrun, by rw [← hw]; rfl⟩, ?_⟩
                show i - (IntKind.i64.wrap ((j : Int) + 1)).toNat < i - (j : Int).toNat
                rw [hw]; omega
            · have he1 : decide (errOneR zs ad fr ((ops.drop (j * 5)).take 5) = 0) = false := decide_eq_false he
              have he2 : (errOneR zs ad fr ((ops.drop (j * 5)).take 5) == 0) = false := by simpa using he
              have he3 : (errOneR zs ad fr ((ops.drop (j * 5)).take 5) != 0) = true := by simpa using he
              have he' : errOp ⟨zs, ad, k, ng, gn⟩ fr (opAt ops j) ≠ 0 := by rw [← ee]; exact he
              rw [if_neg he'] at hrun
              rw [← hrun, if_pos he', ← ee]
              clear ee g0 g1 g3 he' hrun
              refine agom ?_; (try with_reducible exact True.intro)
              exact (congrArg Res.t (show resV e ch (_, _) = _ from if_neg he)).symm
        · obtain rfl : j = i := by omega
          have hlt : decide ((j : Int) < (j : Int)) = false := by simp
          rw [Nat.sub_self] at hrun
          unfold runE at hrun
          subst hrun
          rw [if_neg (by simp)]
          by_cases hc : ((cntB ad : Nat) : Int) < k
          · have hc1 : decide (((cntB ad : Nat) : Int) < k) = true := decide_eq_true hc
            rw [if_pos hc]
            refine agom ?_; (try with_reducible exact True.intro)
            rfl
          · have hc1 : decide (((cntB ad : Nat) : Int) < k) = false := decide_eq_false hc
            rw [if_neg hc]
            refine agom ?_; (try with_reducible exact True.intro)
            rfl
end Go.Proofs.YtegjkfaokpjojaaGreatDoor
