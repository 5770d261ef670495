/-
  Audits: four rows of operations by one alone: what comes of them. Mathematics; no function is named here.
-/
import Derived.Test.YtegjkfaokpjojaaGreatDoorJ50
namespace Go.Proofs.YtegjkfaokpjojaaGreatDoor
set_option maxRecDepth 100000
set_option pp.deepTerms true
set_option pp.maxSteps 1000000
open Go.RowKit Pm
set_option linter.unusedVariables false
set_option linter.unusedSimpArgs false

theorem powU_lt_ne {a b : Nat} (ha : 1 ≤ a) (hab : a < b) (hb : b < 1073741789) : pw 4 a ≠ pw 4 b := by
  intro h
  have e1 : pw 4 (1073741789 - a) * pw 4 a % 2147483579 = 1 := by rw [pw_add, show 1073741789 - a + a = 1073741789 by omega, four_Q]
  have e2 : pw 4 (1073741789 - a) * pw 4 b % 2147483579 = pw 4 (b - a) := by
    rw [pw_add, show 1073741789 - a + b = 1073741789 + (b - a) by omega, ← pw_add, four_Q, Nat.one_mul, Nat.mod_eq_of_lt (pw_lt _ _)]
  rw [← h, e1] at e2
  exact four_ne (b - a) (by omega) (by omega) e2.symm
theorem powU_inj {a b : Int} (ha : 1 ≤ a ∧ a < 1073741789) (hb : 1 ≤ b ∧ b < 1073741789) (h : powI 4 a = powI 4 b) : a = b := by
  obtain ⟨m, rfl⟩ := Int.eq_ofNat_of_zero_le (show 0 ≤ a by omega)
  obtain ⟨n, rfl⟩ := Int.eq_ofNat_of_zero_le (show 0 ≤ b by omega)
  rw [show powI 4 (m : Int) = (pw 4 m : Int) from powI_nat 4 m (by decide) (by omega), show powI 4 (n : Int) = (pw 4 n : Int) from powI_nat 4 n (by decide) (by omega)] at h
  have h' : pw 4 m = pw 4 n := Int.ofNat_inj.1 h
  rcases Nat.lt_trichotomy m n with h1 | h1 | h1
  · exact (powU_lt_ne (by omega) h1 (by omega) h').elim
  · rw [h1]
  · exact (powU_lt_ne (by omega) h1 (by omega) h'.symm).elim
theorem isI_pubU (s : Int) (hs : 1 ≤ s ∧ s < 1073741789) : isI (powI 4 s) = true := by
  obtain ⟨n, rfl⟩ := Int.eq_ofNat_of_zero_le (show 0 ≤ s by omega)
  rw [show powI 4 (n : Int) = (pw 4 n : Int) from powI_nat 4 n (by decide) (by omega)]
  exact isI_four n (by omega) (by omega)
theorem sigS_bdU (s : Int) (p : List UInt8) : 0 ≤ sigS s p ∧ sigS s p < 1073741789 := by
  unfold sigS
  omega

theorem verW_ownU (s : Int) (p : List UInt8) (hs : 1 ≤ s ∧ s < 1073741789) : verW (powI 4 s) p (sigE s p) (sigS s p) = true := by
  have hn := nonceW_bd s p
  have hE := sigE_bd s p
  unfold verW
  rw [isI_pubU s hs, decide_eq_true hE, decide_eq_true (sigS_bdU s p)]
  have h := begun s (nonceW s p) (sigE s p) ⟨by omega, hs.2⟩ ⟨by omega, hn.2⟩ hE
  have h2 : sigS s p = (nonceW s p + sigE s p * s) % 1073741789 := rfl
  rw [h2, h]
  simp [sigE]
theorem keys_apart : scal (sgnW (seedU 3)) ≠ scal (sgnW (seedU 4)) := by decide +kernel
theorem leaf_apart : powI 4 (scal (sgnW (seedU 4))) ≠ powI 4 (scal (sgnW (seedU 3))) := fun h => keys_apart (powU_inj (scal_bd _) (scal_bd _) h.symm)
theorem isI_0 {x : Int} (h : isI x = true) : x ≠ 0 := by
  rintro rfl
  revert h
  decide
attribute [local irreducible] isI
abbrev Zo (x y : Int) : List Int := [x, y] ++ List.replicate 29 0
abbrev Zt (x y a b : Int) : List Int := [x, y, a, b] ++ List.replicate 27 0
abbrev Ao : List Bool := [true, false, false, false, false, false, false, false]
/-- the four rows of operations, and what comes of them -/
def opsO (a b : Int) : Nat → List Int
  | 0 => [1, 0, 0, a, b]
  | 1 => [1, 0, 0, a, b, 3, 1, 0, 0, 0]
  | 2 => [1, 0, 0, a, b, 2, 1, 0, 0, 0]
  | _ => [5, 0, 1, 0, 0]
def cntO : Nat → Nat
  | 0 => 1
  | 1 => 2
  | 2 => 2
  | _ => 1
def endO (x y a b : Int) : Nat → Vw
  | 0 => ⟨Zt x y a b, Ao, 1, F8.set 1 true, F8⟩
  | 1 => ⟨Zt x y a b, Ao.set 1 true, 1, F8.set 1 true, F8⟩
  | 2 => ⟨Zo x y, Ao, 1, F8, F8.set 1 true⟩
  | _ => ⟨Zo x y, Ao, 1, F8, F8⟩
theorem runO_1 {fr : Int} {ops o : List Int} {d j : Nat} {s : Vw} (ho : opAt ops j = o) (h : errOp s fr o = 0) : runE fr ops (d + 1) j s = runE fr ops d (j + 1) (nextOp s o) := by rw [runE, ho, if_pos h]
theorem mem_oo {x y : Int} (hx : x ≠ 0) : memL (Zo x y) 0 = true := by simp [memL, leafP, hx]
theorem mem_tt {x y a b : Int} (ha : a ≠ 0) : memL (Zt x y a b) 1 = true := by simp [memL, leafP, ha]
theorem add_oo {x y a b : Int} (hx : x ≠ 0) (ha : isI a = true) (hb : isI b = true) (hne : a ≠ x) : errAdd (Zo x y) [a, b] = 0 := by
  have h0 := isI_0 ha
  have u : usedB (Zo x y) a = false := by
    unfold usedB
    rw [List.any_eq_false]
    intro i hi
    rw [List.mem_range] at hi
    have : i = 0 ∨ i = 1 ∨ i = 2 ∨ i = 3 ∨ i = 4 ∨ i = 5 ∨ i = 6 ∨ i = 7 := by omega
    rcases this with rfl | rfl | rfl | rfl | rfl | rfl | rfl | rfl <;> simp <;> first | exact fun h => hne h.symm | exact fun h => h0 h.symm
  have f : fullB (Zo x y) = false := by
    unfold fullB
    rw [List.all_eq_false]
    exact ⟨1, by simp, by simp [memL, leafP]⟩
  unfold errAdd
  rw [show ([a, b] : List Int).getD 0 0 = a from rfl, show ([a, b] : List Int).getD 1 0 = b from rfl, ha, hb, u, f]
  rfl
theorem next_oo {x y a b : Int} (hx : x ≠ 0) (ad : List Bool) (k : Int) : nextOp ⟨Zo x y, ad, k, F8, F8⟩ [1, 0, 0, a, b] = ⟨Zt x y a b, ad, k, F8.set 1 true, F8⟩ := by
  have hf : freeN (Zo x y) = 1 := free_at (by decide) (by simp [memL, leafP]) (fun j hj => by
    obtain rfl : j = 0 := by omega
    exact mem_oo hx)
  unfold nextOp
  rw [show ([1, 0, 0, a, b] : List Int).getD 0 0 = 1 from rfl, if_pos rfl]
  dsimp only
  rw [hf]
  rfl
theorem err_oo {x y a b : Int} (hx : x ≠ 0) (ha : isI a = true) (hb : isI b = true) (hne : a ≠ x) (ad : List Bool) (k : Int) (ng gn : List Bool) : errOp ⟨Zo x y, ad, k, ng, gn⟩ 0 [1, 0, 0, a, b] = 0 := by
  unfold errOp
  rw [show ([1, 0, 0, a, b] : List Int).getD 0 0 = 1 from rfl, if_pos rfl]
  exact add_oo hx ha hb hne
theorem run_oo {x y a b : Int} (hx : x ≠ 0) (ha : isI a = true) (hb : isI b = true) (hne : a ≠ x) {w : Nat} (hw : w < 4) : runE 0 (opsO a b w) (cntO w) 0 ⟨Zo x y, Ao, 1, F8, F8⟩ = (0, endO x y a b w) := by
  have h0 := isI_0 ha
  have hm : memB (Zt x y a b) 1 = true := by simp [memB, leafB, memL, leafP, h0]
  have : w = 0 ∨ w = 1 ∨ w = 2 ∨ w = 3 := by omega
  rcases this with rfl | rfl | rfl | rfl
  · show runE 0 [1, 0, 0, a, b] (0 + 1) 0 ⟨Zo x y, Ao, 1, F8, F8⟩ = (0, ⟨Zt x y a b, Ao, 1, F8.set 1 true, F8⟩)
    rw [runO_1 (d := 0) (o := [1, 0, 0, a, b]) rfl (err_oo hx ha hb hne _ _ _ _), next_oo hx]
    rfl
  · show runE 0 [1, 0, 0, a, b, 3, 1, 0, 0, 0] (1 + 1) 0 ⟨Zo x y, Ao, 1, F8, F8⟩ = (0, ⟨Zt x y a b, Ao.set 1 true, 1, F8.set 1 true, F8⟩)
    rw [runO_1 (d := 1) (o := [1, 0, 0, a, b]) rfl (err_oo hx ha hb hne _ _ _ _), next_oo hx, runO_1 (d := 0)  (o := [3, 1, 0, 0, 0]) rfl ?_]
    · rfl
    · show errPro (Zt x y a b) Ao 1 = 0
      unfold errPro
      rw [if_neg]
      rintro (h | h)
      · rw [hm] at h; cases h
      · cases h
  · show runE 0 [1, 0, 0, a, b, 2, 1, 0, 0, 0] (1 + 1) 0 ⟨Zo x y, Ao, 1, F8, F8⟩ = (0, ⟨Zo x y, Ao, 1, F8, F8.set 1 true⟩)
    rw [runO_1 (d := 1) (o := [1, 0, 0, a, b]) rfl (err_oo hx ha hb hne _ _ _ _), next_oo hx, runO_1 (d := 0)  (o := [2, 1, 0, 0, 0]) rfl ?_]
    · rfl
    · show errRem (Zt x y a b) 0 1 = 0
      unfold errRem
      rw [if_neg]
      rintro (h | h)
      · cases h
      · rw [hm] at h; cases h
  · rfl
theorem do_oo {x y a b : Int} (hx : isI x = true) (ha : isI a = true) (hb : isI b = true) (hne : a ≠ x) {e : Int} (hv : mayV e (Zo x y) Ao 1 = true) {w : Nat} (hw : w < 4) : doR e ⟨Zo x y, Ao, 1, F8, F8⟩ 0 (opsO a b w) (cntO w) = (0, endO x y a b w) := by
  have h0 := isI_0 hx
  have hr := run_oo h0 ha hb hne hw (y := y)
  have hm : memB (Zo x y) 0 = true := by simp [memB, leafB, memL, leafP, h0]
  have ho : oddTo (opsO a b w) (cntO w) = false := by
    have : w = 0 ∨ w = 1 ∨ w = 2 ∨ w = 3 := by omega
    rcases this with rfl | rfl | rfl | rfl <;> rfl
  have hn : ¬ cntO w > 4 := by
    have : w = 0 ∨ w = 1 ∨ w = 2 ∨ w = 3 := by omega
    rcases this with rfl | rfl | rfl | rfl <;> decide
  have hc : ¬ ((cntB (endO x y a b w).ad : Nat) : Int) < (endO x y a b w).k := by
    have : w = 0 ∨ w = 1 ∨ w = 2 ∨ w = 3 := by omega
    rcases this with rfl | rfl | rfl | rfl
    · show ¬ ((cntB Ao : Nat) : Int) < 1; decide
    · show ¬ ((cntB (Ao.set 1 true) : Nat) : Int) < 1; decide
    · show ¬ ((cntB Ao : Nat) : Int) < 1; decide
    · show ¬ ((cntB Ao : Nat) : Int) < 1; decide
  unfold doR
  rw [hv, ho, hm, hr, decide_eq_false hn]
  show (if ((cntB (endO x y a b w).ad : Nat) : Int) < (endO x y a b w).k then _ else _) = _
  rw [if_neg hc]
/-- where it may be done, one's own approval is enough -/
theorem com_one {p : PS} {n : Nat} {ops : List Int} {x y : Int} (hn : n ≠ 0) (hd : (doR p.e ⟨p.zs, p.ad, p.k, F8, F8⟩ p.lf ops n).1 = 0) (hz : p.zs = Zo x y) (ha : p.ad = Ao) (hk : p.k = 1) (hl : p.lf = 0) (he : p.e = 0) (hx : x = powI 4 (scal p.sg)) :
    appE p.e p.zs p.ad p.k p.lf (scal p.sg) p.lf ops n = 0 ∧ comE p n ops 1 [0, sigE (scal p.sg) (paperV p.e p.zs p.ad p.k p.ch p.lf ops), sigS (scal p.sg) (paperV p.e p.zs p.ad p.k p.ch p.lf ops)] = 0 := by
  have h0 : admB p.ad 0 = true := by rw [ha]; rfl
  have hx2 : p.zs.getD 0 0 = powI 4 (scal p.sg) := by rw [hz, ← hx]; rfl
  refine ⟨?_, ?_⟩
  · unfold appE
    rw [if_neg hn, if_neg (fun h => h hd), hl, if_neg (by rw [h0]; decide), if_neg (fun h => h hx2.symm)]
  · have hp : passB p.zs p.ad (paperV p.e p.zs p.ad p.k p.ch p.lf ops) [0, sigE (scal p.sg) (paperV p.e p.zs p.ad p.k p.ch p.lf ops), sigS (scal p.sg) (paperV p.e p.zs p.ad p.k p.ch p.lf ops)] 0 = true := by
      unfold passB
      show (admB p.ad 0 && decide ((-1 : Int) < 0) && verW (p.zs.getD 0 0) _ (sigE (scal p.sg) (paperV p.e p.zs p.ad p.k p.ch p.lf ops)) (sigS (scal p.sg) (paperV p.e p.zs p.ad p.k p.ch p.lf ops))) = true
      rw [h0, hx2, verW_ownU _ _ (scal_bd _)]
      rfl
    have hc : chkE p.zs p.ad (paperV p.e p.zs p.ad p.k p.ch p.lf ops) [0, sigE (scal p.sg) (paperV p.e p.zs p.ad p.k p.ch p.lf ops), sigS (scal p.sg) (paperV p.e p.zs p.ad p.k p.ch p.lf ops)] 1 = 0 := chkE_all fun j hj => by
      obtain rfl : j = 0 := by omega
      exact hp
    have hv : chkV p.e p.zs p.ad p.k p.ch p.lf ops n [0, sigE (scal p.sg) (paperV p.e p.zs p.ad p.k p.ch p.lf ops), sigS (scal p.sg) (paperV p.e p.zs p.ad p.k p.ch p.lf ops)] 1 = 0 := by
      unfold chkV
      rw [if_neg hn, if_neg (fun h => h hd), if_neg (fun h => h hc), hk, if_neg (by decide)]
    unfold comE
    rw [if_neg (fun h => h hv), if_neg (fun h => h hd), if_neg (by omega)]
/-- new keys change no member, no key to sign -/
theorem sgn_beh {zs : List Int} (zl : zs.length = 31) {fr : Int} (l0 : 0 ≤ fr) (l1 : fr < 8) (sl a b c : Int) (hs : sl ≠ 0) (hm : memL zs fr.toNat = true) : memTo (behZ zs fr sl a b c) 8 = memTo zs 8 ∧ sgL (behZ zs fr sl a b c) (memTo zs 8) = sgL zs (memTo zs 8) := by
  have get := behZ_get zl l0 l1 sl a b c
  refine ⟨memTo_congr fun k hk => ?_, sgL_congr fun m hm2 => ?_⟩
  · by_cases h : memL zs k = true
    · rw [h, memL_beh zl l0 l1 _ _ _ _ hk hs h]
    · have hne : k ≠ fr.toNat := fun e => h (e ▸ hm)
      unfold memL
      rw [leafP_beh zl l0 l1 _ _ _ _ hk, if_neg hne]
  · have := (memTo_mem zs 8 m).1 hm2
    rw [get, if_neg (by omega), if_neg (by omega), if_neg (by omega), if_neg (by omega)]
theorem change_oo {x y a b sl c0 c1 c2 : Int} (hx : isI x = true) (ha : isI a = true) (hs : sl ≠ 0) {w : Nat} (hw : w < 4) :
    changeB 1 Ao (Zo x y) (endO x y a b w).k (endO x y a b w).ad (behZ (endO x y a b w).zs 0 sl c0 c1 c2) = decide (w ≤ 1) := by
  have x0 := isI_0 hx
  have a0 := isI_0 ha
  have e1 : memTo (Zo x y) 8 = [0] := by simp [memTo, memL, leafP, x0]
  have e2 : memTo (Zt x y a b) 8 = [0, 1] := by simp [memTo, memL, leafP, x0, a0]
  have s1 := sgn_beh (zs := Zo x y) (by simp) (fr := 0) (by decide) (by decide) sl c0 c1 c2 hs (by simp [memL, leafP, x0])
  have s2 := sgn_beh (zs := Zt x y a b) (by simp) (fr := 0) (by decide) (by decide) sl c0 c1 c2 hs (by simp [memL, leafP, x0])
  have : w = 0 ∨ w = 1 ∨ w = 2 ∨ w = 3 := by omega
  rcases this with rfl | rfl | rfl | rfl
  · show changeB 1 Ao (Zo x y) 1 Ao (behZ (Zt x y a b) 0 sl c0 c1 c2) = true
    unfold changeB sgnB sameU
    rw [s2.1, e1, e2]
    simp
  · show changeB 1 Ao (Zo x y) 1 (Ao.set 1 true) (behZ (Zt x y a b) 0 sl c0 c1 c2) = true
    unfold changeB
    rfl
  · show changeB 1 Ao (Zo x y) 1 Ao (behZ (Zo x y) 0 sl c0 c1 c2) = false
    unfold changeB sgnB sameU
    rw [s1.1, s1.2]
    simp [eqSegs]
  · show changeB 1 Ao (Zo x y) 1 Ao (behZ (Zo x y) 0 sl c0 c1 c2) = false
    unfold changeB sgnB sameU
    rw [s1.1, s1.2]
    simp [eqSegs]
end Go.Proofs.YtegjkfaokpjojaaGreatDoor
