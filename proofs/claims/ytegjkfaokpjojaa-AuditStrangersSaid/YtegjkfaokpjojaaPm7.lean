/-
  Members of one group: whose keys its view tells; a commit, and another one's step taken. Mathematics; no function is named here.
-/
import Derived.Test.YtegjkfaokpjojaaPm6
import Derived.Test.YtegjkfaokpjojaaL5m
namespace Go.Proofs.Ytegjkfaokpjojaa
set_option maxRecDepth 100000
open Go.RowKit Pm
set_option linter.unusedVariables false
set_option linter.unusedSimpArgs false

/-- what holds of each party: sums of their lengths; no secret where there is no key -/
structure PInv (p : PS) : Prop where
  lf0 : 0 ≤ p.lf
  lf1 : p.lf < 8
  zl : p.zs.length = 31
  al : p.ad.length = 8
  cl : p.ch.length = 32
  gl : p.sg.length = 32
  sl : p.sc.length = 32
  bl : p.ab.length = 96
  el : p.ep.length = 32
  il : p.ini.length = 32
  a0 : nodeK p.zs (16 + n1 p.lf) = false → abK p.ab 0 = zB 32
  a1 : nodeK p.zs (16 + n2 p.lf) = false → abK p.ab 1 = zB 32
  a2 : nodeK p.zs 23 = false → abK p.ab 2 = zB 32
theorem abK_len {ab : List UInt8} (h : ab.length = 96) {k : Nat} (hk : k < 3) : (abK ab k).length = 32 := by unfold abK; simp; omega
/-- a party's keys are those that its view tells -/
structure Own (p : PS) : Prop where
  inv : PInv p
  may : mayV p.e p.zs p.ad p.k = true
  lf : leafP p.zs p.lf.toNat = [powI 4 (scal p.sg), nodeY p.sc]
  k0 : nodeK p.zs (16 + n1 p.lf) = true → p.zs.getD (16 + n1 p.lf) 0 = nodeY (abK p.ab 0)
  k1 : nodeK p.zs (16 + n2 p.lf) = true → p.zs.getD (16 + n2 p.lf) 0 = nodeY (abK p.ab 1)
  k2 : nodeK p.zs 23 = true → p.zs.getD 23 0 = nodeY (abK p.ab 2)
/-- of one view, with one secret -/
structure Like (p q : PS) : Prop where
  e : p.e = q.e
  zs : p.zs = q.zs
  ad : p.ad = q.ad
  k : p.k = q.k
  ch : p.ch = q.ch
  ep : p.ep = q.ep
  ini : p.ini = q.ini
theorem nodeY_isI (h : List UInt8) : isI (nodeY h) = true := isI_pub (scal (nodeW h)) (scal_bd _)
theorem nodeY_ne (h : List UInt8) : nodeY h ≠ 0 := isI_ne (nodeY_isI h)
theorem nodeK_iff (zs : List Int) (m : Nat) : nodeK zs m = true ↔ zs.getD m 0 ≠ 0 := by unfold nodeK; simp
theorem nodeK_not (zs : List Int) (m : Nat) : nodeK zs m = false ↔ zs.getD m 0 = 0 := by unfold nodeK; simp
theorem up_k0 (h : List UInt8) : abK (upW h) 0 = nextW h := by
  unfold abK upW
  have h1 := nextW_len h
  simp [List.take_append, h1]
theorem up_k1 (h : List UInt8) : abK (upW h) 1 = nextW (nextW h) := by
  unfold abK upW
  have h1 := nextW_len h
  have h2 := nextW_len (nextW h)
  simp [List.take_append, List.drop_append, h1, h2]
theorem up_k2 (h : List UInt8) : abK (upW h) 2 = nextW (nextW (nextW h)) := by
  unfold abK upW
  have h1 := nextW_len h
  have h2 := nextW_len (nextW h)
  have h3 := nextW_len (nextW (nextW h))
  have e1 : List.drop 64 (nextW h) = [] := List.drop_eq_nil_of_le (by omega)
  have e2 : List.take 32 (nextW (nextW (nextW h))) = nextW (nextW (nextW h)) := List.take_of_length_le (by omega)
  simp [List.take_append, List.drop_append, h1, h2, h3, e1, e2]
theorem abK_set {p : PS} (hb : p.ab.length = 96) {h : List UInt8} (hh : h.length = 32) {q k : Nat} (hq : q < 3) (hk : k < 3) : abK (setAb p q h).ab k = if k = q then h else abK p.ab k := by
  show abK (p.ab.take (q * 32) ++ (h ++ p.ab.drop (q * 32 + 32))) k = _
  unfold abK
  have h1 : (p.ab.take (q * 32)).length = q * 32 := by simp; omega
  by_cases e : k = q
  · subst e
    rw [if_pos rfl, List.drop_append_of_le_length (by omega), List.drop_eq_nil_of_le (by omega), List.nil_append, List.take_append_of_le_length (by omega), List.take_of_length_le (by omega)]
  · rw [if_neg e]
    rcases Nat.lt_or_ge k q with h2 | h2
    · rw [List.drop_append_of_le_length (by omega), List.take_append_of_le_length (by simp; omega), List.drop_take, List.take_take, show min 32 (q * 32 - k * 32) = 32 by omega]
    · rw [List.drop_append, List.drop_eq_nil_of_le (by omega), List.nil_append, h1, List.drop_append, List.drop_eq_nil_of_le (by omega), List.nil_append, List.drop_drop, hh]
      congr 2
      omega
theorem setAb_len {p : PS} (hb : p.ab.length = 96) {h : List UInt8} (hh : h.length = 32) {q : Nat} (hq : q < 3) : (setAb p q h).ab.length = 96 := by
  show (p.ab.take (q * 32) ++ (h ++ p.ab.drop (q * 32 + 32))).length = 96
  simp; omega
/-- what is so of the parties that a climb, or forgetting, leaves -/
structure SameP (p p' : PS) : Prop where
  e : p'.e = p.e
  zs : p'.zs = p.zs
  ad : p'.ad = p.ad
  k : p'.k = p.k
  ch : p'.ch = p.ch
  lf : p'.lf = p.lf
  sg : p'.sg = p.sg
  sc : p'.sc = p.sc
  ep : p'.ep = p.ep
  ini : p'.ini = p.ini
theorem SameP.refl (p : PS) : SameP p p := ⟨rfl, rfl, rfl, rfl, rfl, rfl, rfl, rfl, rfl, rfl⟩
theorem SameP.trans {p q r : PS} (h : SameP p q) (k : SameP q r) : SameP p r := ⟨k.1.trans h.1, k.2.trans h.2, k.3.trans h.3, k.4.trans h.4, k.5.trans h.5, k.6.trans h.6, k.7.trans h.7, k.8.trans h.8, k.9.trans h.9, k.10.trans h.10⟩
theorem SameP.set (p : PS) (q : Nat) (h : List UInt8) : SameP p (setAb p q h) := ⟨rfl, rfl, rfl, rfl, rfl, rfl, rfl, rfl, rfl, rfl⟩
/-- what is forgotten, what is kept -/
theorem forg_spec {p : PS} (hb : p.ab.length = 96) {k : Nat} (hk : k < 3) : SameP p (forgR p k) ∧ (forgR p k).ab.length = 96 ∧
    (0 < k → abK (forgR p k).ab 0 = if nodeK p.zs (16 + n1 p.lf) = true then abK p.ab 0 else zB 32) ∧ (1 < k → abK (forgR p k).ab 1 = if nodeK p.zs (16 + n2 p.lf) = true then abK p.ab 1 else zB 32) := by
  have hz : (zB 32).length = 32 := by simp
  have l0 : (forg0 p).ab.length = 96 := by unfold forg0; split; exact hb; exact setAb_len hb hz (by decide)
  have s0 : SameP p (forg0 p) := by unfold forg0; split; exact .refl p; exact .set p 0 _
  have a0 : abK (forg0 p).ab 0 = if nodeK p.zs (16 + n1 p.lf) = true then abK p.ab 0 else zB 32 := by
    unfold forg0; split
    · rfl
    · rw [abK_set hb hz (by decide) (by decide), if_pos rfl]
  have a1 : abK (forg0 p).ab 1 = abK p.ab 1 := by
    unfold forg0; split
    · rfl
    · rw [abK_set hb hz (by decide) (by decide), if_neg (by decide)]
  have e1 : (forg0 p).zs = p.zs := s0.zs
  have e2 : (forg0 p).lf = p.lf := s0.lf
  have l1 : (forg1 (forg0 p)).ab.length = 96 := by unfold forg1; split; exact l0; exact setAb_len l0 hz (by decide)
  have s1 : SameP p (forg1 (forg0 p)) := by unfold forg1; split; exact s0; exact s0.trans (.set _ 1 _)
  have b0 : abK (forg1 (forg0 p)).ab 0 = abK (forg0 p).ab 0 := by
    unfold forg1; split
    · rfl
    · rw [abK_set l0 hz (by decide) (by decide), if_neg (by decide)]
  have b1 : abK (forg1 (forg0 p)).ab 1 = if nodeK p.zs (16 + n2 p.lf) = true then abK p.ab 1 else zB 32 := by
    unfold forg1; rw [e1, e2]; split
    · exact a1
    · rw [abK_set l0 hz (by decide) (by decide), if_pos rfl]
  unfold forgR
  rcases (show k = 0 ∨ k = 1 ∨ k = 2 by omega) with rfl | rfl | rfl
  · exact ⟨.refl p, hb, fun h => absurd h (by decide), fun h => absurd h (by decide)⟩
  · exact ⟨s0, l0, fun _ => a0, fun h => absurd h (by decide)⟩
  · exact ⟨s1, l1, fun _ => b0.trans a0, fun _ => b1⟩
/-- a climb by secrets whose keys the tree has -/
theorem climb_spec {p : PS} (hb : p.ab.length = 96) {h : List UInt8} (hh : h.length = 32) {k : Nat} (hk : k < 3)
    (c0 : k = 0 → p.zs.getD (16 + n1 p.lf) 0 = nodeY h) (c1 : k ≤ 1 → p.zs.getD (16 + n2 p.lf) 0 = nodeY (if k = 1 then h else nextW h)) (c2 : p.zs.getD 23 0 = nodeY (if k = 2 then h else if k = 1 then nextW h else nextW (nextW h))) :
    (climbR p h k).1 = true ∧ (climbR p h k).2.1 = (if k = 2 then nextW h else if k = 1 then nextW (nextW h) else nextW (nextW (nextW h))) ∧ SameP p (climbR p h k).2.2 ∧ (climbR p h k).2.2.ab.length = 96 ∧
    abK (climbR p h k).2.2.ab 0 = (if k = 0 then h else abK p.ab 0) ∧ abK (climbR p h k).2.2.ab 1 = (if k = 0 then nextW h else if k = 1 then h else abK p.ab 1) ∧ abK (climbR p h k).2.2.ab 2 = (if k = 0 then nextW (nextW h) else if k = 1 then nextW h else h) := by
  have no : ∀ (q : PS) (x : List UInt8) (m : Nat), q.zs.getD m 0 = nodeY x → ¬ upB q x m = true := fun q x m e => by unfold upB; rw [e]; simp [nodeY]
  have top : ∀ (q : PS) (x : List UInt8), q.ab.length = 96 → x.length = 32 → q.zs.getD 23 0 = nodeY x → (climb2R q x).1 = true ∧ (climb2R q x).2.1 = nextW x ∧ SameP q (climb2R q x).2.2 ∧ (climb2R q x).2.2.ab.length = 96 ∧ abK (climb2R q x).2.2.ab 0 = abK q.ab 0 ∧ abK (climb2R q x).2.2.ab 1 = abK q.ab 1 ∧ abK (climb2R q x).2.2.ab 2 = x := fun q x hq hx e => by
    unfold climb2R
    rw [if_neg (no q x 23 e)]
    exact ⟨rfl, rfl, .set _ _ _, setAb_len hq hx (by decide), by rw [abK_set hq hx (by decide) (by decide), if_neg (by decide)], by rw [abK_set hq hx (by decide) (by decide), if_neg (by decide)], by rw [abK_set hq hx (by decide) (by decide), if_pos rfl]⟩
  have mid : ∀ (q : PS) (x : List UInt8), q.ab.length = 96 → x.length = 32 → q.zs.getD (16 + n2 q.lf) 0 = nodeY x → q.zs.getD 23 0 = nodeY (nextW x) → (climb1R q x).1 = true ∧ (climb1R q x).2.1 = nextW (nextW x) ∧ SameP q (climb1R q x).2.2 ∧ (climb1R q x).2.2.ab.length = 96 ∧ abK (climb1R q x).2.2.ab 0 = abK q.ab 0 ∧ abK (climb1R q x).2.2.ab 1 = x ∧ abK (climb1R q x).2.2.ab 2 = nextW x := fun q x hq hx e e2 => by
    unfold climb1R
    rw [if_neg (no q x _ e)]
    obtain ⟨t1, t2, t3, t4, t5, t6, t7⟩ := top (setAb q 1 x) (nextW x) (setAb_len hq hx (by decide)) (nextW_len x) e2
    exact ⟨t1, t2, (SameP.set q 1 x).trans t3, t4, by rw [t5, abK_set hq hx (by decide) (by decide), if_neg (by decide)], by rw [t6, abK_set hq hx (by decide) (by decide), if_pos rfl], t7⟩
  rcases (show k = 0 ∨ k = 1 ∨ k = 2 by omega) with rfl | rfl | rfl
  · have e0 := c0 rfl
    have e1 : p.zs.getD (16 + n2 p.lf) 0 = nodeY (nextW h) := c1 (by decide)
    have e2 : p.zs.getD 23 0 = nodeY (nextW (nextW h)) := c2
    have e : climbR p h 0 = climb1R (setAb p 0 h) (nextW h) := by
      unfold climbR
      rw [if_pos rfl]
      unfold climb0R
      rw [if_neg (no p h _ e0)]
    obtain ⟨t1, t2, t3, t4, t5, t6, t7⟩ := mid (setAb p 0 h) (nextW h) (setAb_len hb hh (by decide)) (nextW_len h) e1 e2
    rw [e]
    refine ⟨t1, t2.trans ?_, (SameP.set p 0 h).trans t3, t4, ?_, t6.trans ?_, t7.trans ?_⟩
    · rw [if_neg (by decide), if_neg (by decide)]
    · rw [t5, abK_set hb hh (by decide) (by decide), if_pos rfl]
    · rw [if_pos rfl]
    · rw [if_pos rfl]
  · have e1 : p.zs.getD (16 + n2 p.lf) 0 = nodeY h := c1 (by decide)
    have e2 : p.zs.getD 23 0 = nodeY (nextW h) := c2
    have e : climbR p h 1 = climb1R p h := by unfold climbR; rw [if_neg (by decide), if_pos rfl]
    obtain ⟨t1, t2, t3, t4, t5, t6, t7⟩ := mid p h hb hh e1 e2
    rw [e]
    refine ⟨t1, t2.trans ?_, t3, t4, t5.trans ?_, t6.trans ?_, t7.trans ?_⟩
    · rw [if_neg (by decide), if_pos rfl]
    · rw [if_neg (by decide)]
    · rw [if_neg (by decide), if_pos rfl]
    · rw [if_neg (by decide), if_pos rfl]
  · have e2 : p.zs.getD 23 0 = nodeY h := c2
    have e : climbR p h 2 = climb2R p h := by unfold climbR; rw [if_neg (by decide), if_neg (by decide)]
    obtain ⟨t1, t2, t3, t4, t5, t6, t7⟩ := top p h hb hh e2
    rw [e]
    refine ⟨t1, t2.trans ?_, t3, t4, t5.trans ?_, t6.trans ?_, t7.trans ?_⟩
    · rw [if_pos rfl]
    · rw [if_neg (by decide)]
    · rw [if_neg (by decide), if_neg (by decide)]
    · rw [if_neg (by decide), if_neg (by decide)]
end Go.Proofs.Ytegjkfaokpjojaa
