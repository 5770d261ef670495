/-
  Views: the other operations, as the document does them.
-/
import Derived.Test.YtegjkfaokpjojaaGreatDoorJ21
namespace Go.Proofs.YtegjkfaokpjojaaGreatDoor
set_option maxRecDepth 100000
open Go.RowKit Pm
set_option linter.unusedVariables false
set_option linter.unusedSimpArgs false
attribute [local irreducible] condK LoopA regA isI memTo memL freeN usedB fullB putL errAdd isT memB

def raddSM : Nat → Bk → List A → (Res → Bk → Prop) → Prop
  | 0, .var [.ints .i64 1 [e], .ints .i64 31 zs, .bools 8 ad, .ints .i64 1 [k], .bytes 32 ch], [.agg [.ints .i64 2 xs]], K =>
    K (.t [.v (.int .i64 (if errAdd zs xs = 0 then ((freeN zs : Nat) : Int) else 0)), .v (.int .i64 (errAdd zs xs))])
      (.var (if errAdd zs xs = 0 then vSegs e (putL zs xs (freeN zs : Nat)) (ad.set (freeN zs) false) k ch else vSegs e zs ad k ch))
  | _, _, _, _ => False
theorem raddSM_ok : ∀ pos x args K, raddSM pos x args K → ∃ r x', FnMO 97 pos x args r x' ∧ K r x' := by
  intro pos x args K h
  unfold raddSM at h
  split at h
  · exact ⟨_, _, radd_ok _ _ _ _ _ _, h⟩
  · exact h.elim
noncomputable def envVp : EnvX := envVo.addM 97 raddSM raddSM_ok ⟨_, Tryz.func97, by kernel_rfl, by kernel_rfl⟩
def errDemR (ad : List Bool) (who : Int) : Int := if who < 0 ∨ who ≥ 8 ∨ ad.getD who.toNat false = false then 7 else 0
def errOneR (zs : List Int) (ad : List Bool) (fr : Int) (o : List Int) : Int :=
  if o.getD 0 0 = 2 then errRem zs fr (o.getD 1 0) else if o.getD 0 0 = 3 then errPro zs ad (o.getD 1 0) else if o.getD 0 0 = 4 then errDemR ad (o.getD 1 0) else errLim (o.getD 2 0)
/-- what an operation but Add leaves: tree, admins, threshold -/
def oneRz (zs : List Int) (o : List Int) : List Int := if o.getD 0 0 = 2 then putL zs [0, 0] (o.getD 1 0) else zs
def oneRa (ad : List Bool) (o : List Int) : List Bool := if o.getD 0 0 = 2 ∨ o.getD 0 0 = 4 then ad.set (o.getD 1 0).toNat false else if o.getD 0 0 = 3 then ad.set (o.getD 1 0).toNat true else ad
def oneRk (k : Int) (o : List Int) : Int := if o.getD 0 0 = 2 ∨ o.getD 0 0 = 3 ∨ o.getD 0 0 = 4 then k else o.getD 2 0
set_option maxHeartbeats 8000000 in
theorem rone_ok (e : Int) (zs : List Int) (ad : List Bool) (k : Int) (ch : List UInt8) (fr : Int) (o : List Int) :
    FnMO 98 0 (.var (vSegs e zs ad k ch)) [.v (.int .i64 fr), .agg [.ints .i64 5 o]] (.d (.v (.int .i64 (errOneR zs ad fr o))))
      (.var (if errOneR zs ad fr o = 0 then vSegs e (oneRz zs o) (oneRa ad o) (oneRk k o) ch else vSegs e zs ad k ch)) := by
  refine fnM_lens fun _ hl => ?_
  obtain ⟨a, b, c, d, f, rfl⟩ := five hl.1.1
  clear hl
  refine fnMA (E := envVp) Tryz.func98 Tryz.ntmps98 ?_
  by_cases h2 : a = 2
  · subst h2
    have e1 : errOneR zs ad fr [2, b, c, d, f] = errRem zs fr b := rfl
    have e2 : oneRz zs [2, b, c, d, f] = putL zs [0, 0] b := rfl
    have e3 : oneRa ad [2, b, c, d, f] = ad.set b.toNat false := rfl
    have e4 : oneRk k [2, b, c, d, f] = k := rfl
    rw [e1, e2, e3, e4]
    clear e1 e2 e3 e4
    cases hm : memB zs b with
    | false =>
      have he : errRem zs fr b = 7 := by simp [errRem, hm]
      rw [he, if_neg (by decide)]
      clear he
      refine agom ?_; (try with_reducible exact True.intro)
    | true =>
      by_cases hf : b = fr
      · subst hf
        have he : errRem zs b b = 7 := by simp [errRem]
        have hy : (b == b) = true := by simp
        rw [he, if_neg (by decide)]
        clear he
        refine agom ?_; (try with_reducible exact True.intro)
      · have hy : (b == fr) = false := by simpa using hf
        obtain ⟨h0, h1⟩ := memB_bd hm
        obtain ⟨n, rfl⟩ := Int.eq_ofNat_of_zero_le h0
        have he : errRem zs fr (n : Int) = 0 := by simp [errRem, hm, hf]
        rw [he, if_pos rfl, Int.toNat_natCast]
        clear he hf
        refine agom ?_; (try with_reducible exact True.intro)
  have n2 : (a == 2) = false := by simpa using h2
  by_cases h3 : a = 3
  · subst h3
    have e1 : errOneR zs ad fr [3, b, c, d, f] = errPro zs ad b := rfl
    have e2 : oneRz zs [3, b, c, d, f] = zs := rfl
    have e3 : oneRa ad [3, b, c, d, f] = ad.set b.toNat true := rfl
    have e4 : oneRk k [3, b, c, d, f] = k := rfl
    rw [e1, e2, e3, e4]
    clear e1 e2 e3 e4 h2
    cases hm : memB zs b with
    | false =>
      have he : errPro zs ad b = 7 := by simp [errPro, hm]
      rw [he, if_neg (by decide)]
      clear he
      refine agom ?_; (try with_reducible exact True.intro)
    | true =>
      obtain ⟨h0, h1⟩ := memB_bd hm
      obtain ⟨n, rfl⟩ := Int.eq_ofNat_of_zero_le h0
      cases ha : ad.getD n false with
      | true =>
        have he : errPro zs ad (n : Int) = 7 := by unfold errPro; rw [Int.toNat_natCast, ha]; simp
        rw [he, if_neg (by decide)]
        clear he
        refine agom ?_; (try with_reducible exact True.intro)
      | false =>
        have he : errPro zs ad (n : Int) = 0 := by unfold errPro; rw [Int.toNat_natCast, ha, hm]; simp
        rw [he, if_pos rfl, Int.toNat_natCast]
        clear he
        refine agom ?_; (try with_reducible exact True.intro)
  have n3 : (a == 3) = false := by simpa using h3
  by_cases h4 : a = 4
  · subst h4
    have e1 : errOneR zs ad fr [4, b, c, d, f] = errDemR ad b := rfl
    have e2 : oneRz zs [4, b, c, d, f] = zs := rfl
    have e3 : oneRa ad [4, b, c, d, f] = ad.set b.toNat false := rfl
    have e4 : oneRk k [4, b, c, d, f] = k := rfl
    rw [e1, e2, e3, e4]
    clear e1 e2 e3 e4 h2 h3
    by_cases h0 : b < 0
    · have he : errDemR ad b = 7 := by simp [errDemR, h0]
      rw [he, if_neg (by decide)]
      clear he
      refine agom ?_; (try with_reducible exact True.intro)
    · by_cases h1 : b ≥ 8
      · have he : errDemR ad b = 7 := by simp [errDemR, h1]
        rw [he, if_neg (by decide)]
        clear he
        refine agom ?_; (try with_reducible exact True.intro)
      · obtain ⟨n, rfl⟩ := Int.eq_ofNat_of_zero_le (show 0 ≤ b by omega)
        cases ha : ad.getD n false with
        | false =>
          have he : errDemR ad (n : Int) = 7 := by unfold errDemR; rw [Int.toNat_natCast, ha]; simp
          rw [he, if_neg (by decide)]
          clear he
          refine agom ?_; (try with_reducible exact True.intro)
        | true =>
          have he : errDemR ad (n : Int) = 0 := by unfold errDemR; rw [Int.toNat_natCast, ha, if_neg (by simp; omega)]
          rw [he, if_pos rfl, Int.toNat_natCast]
          clear he
          refine agom ?_; (try with_reducible exact True.intro)
  have n4 : (a == 4) = false := by simpa using h4
  have e1 : errOneR zs ad fr [a, b, c, d, f] = errLim c := by simp [errOneR, h2, h3, h4]
  have e2 : oneRz zs [a, b, c, d, f] = zs := by simp [oneRz, h2]
  have e3 : oneRa ad [a, b, c, d, f] = ad := by simp [oneRa, h2, h3, h4]
  have e4 : oneRk k [a, b, c, d, f] = c := by simp [oneRk, h2, h3, h4]
  rw [e1, e2, e3, e4]
  clear e1 e2 e3 e4 h2 h3 h4
  by_cases h0 : c < 1
  · have he : errLim c = 7 := by simp [errLim, h0]
    rw [he, if_neg (by decide)]
    clear he
    refine agom ?_; (try with_reducible exact True.intro)
  · by_cases h1 : c > 8
    · have he : errLim c = 7 := by simp [errLim, h1]
      rw [he, if_neg (by decide)]
      clear he
      refine agom ?_; (try with_reducible exact True.intro)
    · have he : errLim c = 0 := by simp [errLim, h0, h1]
      rw [he, if_pos rfl]
      clear he
      refine agom ?_; (try with_reducible exact True.intro)
end Go.Proofs.YtegjkfaokpjojaaGreatDoor
