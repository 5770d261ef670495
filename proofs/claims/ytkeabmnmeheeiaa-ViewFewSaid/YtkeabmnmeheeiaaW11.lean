/-
  Views: what may be stays what may be.
-/
import Derived.Test.YtkeabmnmeheeiaaHW
import Derived.Test.YtkeabmnmeheeiaaW8
import Derived.Test.YtkeabmnmeheeiaaW9
namespace Go.Proofs.Ytkeabmnmeheeiaa
set_option maxRecDepth 100000
open Go.RowKit Pm
set_option linter.unusedVariables false
set_option linter.unusedSimpArgs false
attribute [local irreducible] condK LoopA regA powI scal keyV someZ someA isI putL

/-- may these be a leaf's numbers? -/
def leafX (xs : List Int) : Bool := decide (xs = [0, 0]) || (isI (xs.getD 0 0) && isI (xs.getD 1 0))
theorem leafX_0 : leafX [0, 0] = true := by simp [leafX]
theorem leafX_2 {x y : Int} (hx : isI x = true) (hy : isI y = true) : leafX [x, y] = true := by simp [leafX, hx, hy]
theorem node_put {zs xs : List Int} (hz : zs.length = 31) (hx : xs.length = 2) {i : Nat} (hi : i < 8) {j : Nat} (hj' : j < 15) : nodeV (putL zs xs (i : Nat)) j = 0 ∨ nodeV (putL zs xs (i : Nat)) j = nodeV zs j := by
  unfold nodeV
  rw [putL]
  rw [if_pos (by simp [leafB]; omega), Int.toNat_natCast]
  rw [List.getD_eq_getElem?_getD, List.getD_eq_getElem?_getD, List.getElem?_take, if_pos hj', List.getElem?_take, if_pos hj', List.getElem?_drop, List.getElem?_drop, ← List.getD_eq_getElem?_getD, ← List.getD_eq_getElem?_getD, getD_set_list, getD_set_list, getD_set_list]
  split
  · exact .inl rfl
  · split
    · exact .inl rfl
    · split
      · exact .inl rfl
      · exact .inr (by rw [splice_get hx (by omega), if_neg (by omega)])
theorem isT_putX {zs xs : List Int} (hz : zs.length = 31) (hx : xs.length = 2) {i : Nat} (hi : i < 8) (hX : leafX xs = true) (h : isT zs = true) : isT (putL zs xs (i : Nat)) = true := by
  unfold isT at h ⊢
  rw [Bool.and_eq_true, List.all_eq_true, List.all_eq_true] at h ⊢
  refine ⟨fun j hj => ?_, fun j hj => ?_⟩
  · have hj' : j < 8 := by simpa using hj
    by_cases e : j = i
    · unfold leafOK
      rw [leafP_put hz hx hi hj', if_pos e]
      exact hX
    · have h1 := h.1 j hj
      unfold leafOK at h1 ⊢
      rw [leafP_put hz hx hi hj', if_neg e]
      exact h1
  · have hj' : j < 15 := by simpa using hj
    have h1 := h.2 j hj
    unfold nodeOK at h1 ⊢
    rcases node_put hz hx hi hj' with e | e
    · rw [e]; simp
    · rw [e]
      exact h1
structure Inv2 (s : Vw) : Prop where
  inv : Inv s
  tree : isT s.zs = true
  one : 1 ≤ s.k
theorem nextOp_inv2 {s : Vw} (h : Inv2 s) (fr : Int) {o : List Int} (he : errOp s fr o = 0) : Inv2 (nextOp s o) := by
  refine ⟨nextOp_inv h.inv fr he, ?_, ?_⟩
  · unfold nextOp
    unfold errOp at he
    by_cases h1 : o.getD 0 0 = 1
    · rw [if_pos h1] at he ⊢
      obtain ⟨hf, hi1, hi2⟩ := errAdd_0 he
      obtain ⟨hf8, hfm⟩ := free_lt hf
      exact isT_putX h.inv.zl rfl hf8 (leafX_2 hi1 hi2) h.tree
    rw [if_neg h1] at he ⊢
    by_cases h2 : o.getD 0 0 = 2
    · rw [if_pos h2] at he ⊢
      unfold errRem at he
      have hm : memB s.zs (o.getD 1 0) = true := by
        cases hq : memB s.zs (o.getD 1 0) with
        | true => rfl
        | false => rw [if_pos (.inr hq)] at he; cases he
      obtain ⟨hb0, hb1⟩ := memB_bd hm
      obtain ⟨n, hn⟩ := Int.eq_ofNat_of_zero_le hb0
      rw [hn] at hb1 ⊢
      exact isT_putX h.inv.zl rfl (by omega) leafX_0 h.tree
    rw [if_neg h2]
    split
    · exact h.tree
    · split
      · exact h.tree
      · exact h.tree
  · unfold nextOp
    unfold errOp at he
    split at he
    · next h1 => rw [if_pos h1]; exact h.one
    · next h1 =>
      rw [if_neg h1]
      split at he
      · next h2 => rw [if_pos h2]; exact h.one
      · next h2 =>
        rw [if_neg h2]
        split at he
        · next h3 => rw [if_pos h3]; exact h.one
        · next h3 =>
          rw [if_neg h3]
          split at he
          · next h4 => rw [if_pos h4]; exact h.one
          · next h4 =>
            rw [if_neg h4]
            unfold errLim at he
            split at he
            · cases he
            · show 1 ≤ o.getD 2 0
              omega
theorem runE_inv2 {fr : Int} {ops : List Int} : ∀ (d j : Nat) (s : Vw), Inv2 s → Inv2 (runE fr ops d j s).2
  | 0, _, s, h => by unfold runE; exact h
  | d + 1, j, s, h => by
    unfold runE
    split
    · next he => exact runE_inv2 d (j + 1) _ (nextOp_inv2 h fr he)
    · exact h
theorem inv2_of {e : Int} {s : Vw} (h : mayV e s.zs s.ad s.k = true) (h1 : s.zs.length = 31) (h2 : s.ad.length = 8) : Inv2 s := by
  have hI : Inv s := mayV_inv h h1 h2
  unfold mayV at h
  simp only [Bool.and_eq_true, decide_eq_true_eq] at h
  exact ⟨hI, h.1.1.1.2, h.1.2⟩
theorem mayV_of {e : Int} {s : Vw} (h0 : 0 ≤ e) (h1 : e ≤ 1099511627776) (h : Inv2 s) (hc : s.k ≤ ((cntB s.ad : Nat) : Int)) : mayV e s.zs s.ad s.k = true := by
  unfold mayV
  rw [decide_eq_true h0, decide_eq_true h1, h.tree, h.inv.adm, decide_eq_true h.one, decide_eq_true hc]
  rfl
theorem doR_inv2 {e : Int} {s : Vw} {fr : Int} {ops : List Int} {n : Nat} (h1 : s.zs.length = 31) (h2 : s.ad.length = 8) (hr : (doR e s fr ops n).1 = 0) :
    0 ≤ e ∧ e ≤ 1099511627776 ∧ Inv2 (doR e s fr ops n).2 ∧ (doR e s fr ops n).2.k ≤ ((cntB (doR e s fr ops n).2.ad : Nat) : Int) := by
  unfold doR at hr ⊢
  split at hr
  · cases hr
  · next c1 =>
    rw [if_neg c1]
    split at hr
    · cases hr
    · next c2 =>
      rw [if_neg c2]
      split at hr
      · next c3 => exact absurd hr c3
      · next c3 =>
        rw [if_neg c3]
        split at hr
        · cases hr
        · next c4 =>
          rw [if_neg c4]
          have hm : mayV e s.zs s.ad s.k = true := by
            cases hq : mayV e s.zs s.ad s.k with
            | true => rfl
            | false => rw [hq] at c1; exact absurd rfl c1
          have hi := inv2_of hm h1 h2
          unfold mayV at hm
          simp only [Bool.and_eq_true, decide_eq_true_eq] at hm
          exact ⟨hm.1.1.1.1.1, hm.1.1.1.1.2, runE_inv2 _ _ _ hi, by show (runE fr ops n 0 s).2.k ≤ ((cntB (runE fr ops n 0 s).2.ad : Nat) : Int); omega⟩
theorem doR_may {e : Int} {s : Vw} {fr : Int} {ops : List Int} {n : Nat} (h1 : s.zs.length = 31) (h2 : s.ad.length = 8) (hr : (doR e s fr ops n).1 = 0) :
    mayV e (doR e s fr ops n).2.zs (doR e s fr ops n).2.ad (doR e s fr ops n).2.k = true := by
  obtain ⟨a, b, c, d⟩ := doR_inv2 h1 h2 hr
  exact mayV_of a b c d
attribute [local irreducible] doR mayV
set_option maxHeartbeats 400000 in
theorem viewStays_ok (e : Int) (zs : List Int) (ad : List Bool) (k : Int) (ch : List UInt8) (fr : Int) (ops : List Int) (n : Nat) (hn : n ≤ 140737488351232) :
    FnO 5 [.agg (vSegs e zs ad k ch), .v (.int .i64 fr), .row n [.ints .i64 (n * 5) ops]] (.d (.v (.bool true))) := by
  refine fn_lens fun hl => ?_
  have hl1 : zs.length = 31 := hl.1.2.1
  have hl2 : ad.length = 8 := hl.1.2.2.1
  clear hl
  refine fnA (E := envW6) Try.func5 Try.ntmps5 ?_
  by_cases h5 : (n : Int) > 10
  · refine agom ?_; (try with_reducible exact True.intro)
  have h50 : n ≤ 10 := by omega
  cases hm : mayV e zs ad k with
  | false => refine agom ?_; (try with_reducible exact True.intro)
  | true =>
  by_cases he : (doR e ⟨zs, ad, k, F8, F8⟩ fr ops n).1 = 0
  · have hm2 := doR_may (s := ⟨zs, ad, k, F8, F8⟩) hl1 hl2 he
    have he1 : decide ((doR e ⟨zs, ad, k, F8, F8⟩ fr ops n).1 = 0) = true := decide_eq_true he
    generalize hR : doR e ⟨zs, ad, k, F8, F8⟩ fr ops n = R at *
    refine agom ?_; (try with_reducible exact True.intro)
  · have he1 : decide ((doR e ⟨zs, ad, k, F8, F8⟩ fr ops n).1 = 0) = false := decide_eq_false he
    refine agom ?_; (try with_reducible exact True.intro)
theorem viewStays_walk {w : World} (v : Value) (hv : ∃ (e : Int) (zs : List Int) (ad : List Bool) (k : Int) (ch : List UInt8), RA (fun _ => True) w (.agg (vSegs e zs ad k ch)) v) (f : Int) (hf : (Lit.int .i64 f).wf = true) (l : Value) (n : Nat) (zs : List Int) (hn : n ≤ 140737488351232) (hl : RA (fun _ => True) w (.row n [.ints .i64 (n * 5) zs]) l) :
    Calls Try.prog 5 #[v, .int .i64 f, l] w fun e w' => e = .returned (.bool true) ∧ Below w.heap.size w w' := by
  obtain ⟨e, ys, ad, k, ch, hv⟩ := hv
  exact law_of_fn (viewStays_ok e ys ad k ch f zs n (by omega)) (fun q l e => by cases (show (none : Option (List Seg)) = some l from e)) (.cons hv (.cons (.v _) (.cons hl .nil)))
end Go.Proofs.Ytkeabmnmeheeiaa
