/-
  Views: nodes above who comes or goes are blank.
-/
import Derived.Test.YtkeabmnmeheeiaaW15
namespace Go.Proofs.Ytkeabmnmeheeiaa
set_option maxRecDepth 100000
set_option pp.deepTerms true
set_option pp.maxSteps 1000000
open Go.RowKit Pm
set_option linter.unusedVariables false
set_option linter.unusedSimpArgs false
attribute [local irreducible] condK LoopA regA powI scal keyV someZ someA isI mayV

/-- so many nodes with keys -/
def nodeZ (m : Nat) : Nat → List Int
  | 0 => someZ m
  | j + 1 => (nodeZ m j).set (16 + (1 + 2 * j)) (keyV ((60 + (1 + 2 * j) : Nat) : Int))
theorem nodeZ_len (m : Nat) (hm : m ≤ 8) : ∀ j, (nodeZ m j).length = 31
  | 0 => someZ_len m hm
  | j + 1 => by rw [nodeZ, List.length_set, nodeZ_len m hm j]
theorem nodeZ_leaf (m i : Nat) (hi : i < 8) : ∀ j, leafP (nodeZ m j) i = leafP (someZ m) i
  | 0 => rfl
  | j + 1 => by rw [nodeZ, leafP_set _ hi (by omega), nodeZ_leaf m i hi j]
theorem nodeZ_get (m : Nat) (hm : m ≤ 8) (i : Nat) (hi : i < 15) : ∀ j, j ≤ 7 → (nodeZ m j).getD (16 + i) 0 = if i % 2 = 1 ∧ i < 2 * j then keyV ((60 + i : Nat) : Int) else 0
  | 0, _ => by rw [nodeZ, someZ_node i m hm, if_neg (by omega)]
  | j + 1, hj => by
    rw [nodeZ, getD_set_list, nodeZ_len m hm, nodeZ_get m hm i hi j (by omega)]
    by_cases e : 16 + (1 + 2 * j) = 16 + i
    · obtain rfl : i = 1 + 2 * j := by omega
      rw [if_pos ⟨rfl, by omega⟩, if_pos (by omega)]
    · rw [if_neg (by rintro ⟨h, _⟩; exact e h)]
      by_cases h : i % 2 = 1 ∧ i < 2 * j
      · rw [if_pos h, if_pos (by omega)]
      · rw [if_neg h, if_neg (by omega)]
theorem nodeZ_isT (m : Nat) (hm : m ≤ 8) : isT (nodeZ m 7) = true := by
  have h0 := someZ_isT m hm
  unfold isT at h0 ⊢
  rw [Bool.and_eq_true, List.all_eq_true, List.all_eq_true] at h0 ⊢
  refine ⟨fun i hi => ?_, fun i hi => ?_⟩
  · have h1 := h0.1 i hi
    unfold leafOK at h1 ⊢
    rw [nodeZ_leaf m i (by simpa using hi) 7]
    exact h1
  · have hi' : i < 15 := by simpa using hi
    unfold nodeOK
    rw [nodeV_eq _ hi', nodeZ_get m hm i hi' 7 (by omega)]
    by_cases h : i % 2 = 1 ∧ i < 2 * 7
    · rw [if_pos h, keyV_isI]
      have : ((i : Int).tmod 2 == 0) = false := by
        rw [Int.tmod_eq_emod_of_nonneg (by omega)]
        simp; omega
      rw [this]; simp
    · rw [if_neg h]; simp
theorem nodeZ_mem (m i : Nat) (hi : i < 8) (hm : m ≤ 8) (j : Nat) : memL (nodeZ m j) i = decide (i < m) := by
  rw [← someZ_mem i m hi hm]
  unfold memL
  rw [nodeZ_leaf m i hi j]
theorem nodeZ_sign (m i : Nat) (hi : i < 8) (hm : m ≤ 8) (j : Nat) : (nodeZ m j).getD (i * 2) 0 = if i < m then keyV (i : Nat) else 0 := by
  rw [← leafP_get0 _ hi, nodeZ_leaf m i hi j, someZ_leaf i m hi hm]
  split <;> rw [List.getD_cons_zero]
/-- the nodes of a tree in which a leaf is put -/
theorem put_nodes {zs xs : List Int} (hz : zs.length = 31) (hx : xs.length = 2) {p : Nat} (hp : p < 8) {i : Nat} (hi : i < 15) :
    (putL zs xs (p : Nat)).getD (16 + i) 0 = if i = p / 2 * 4 + 1 ∨ i = p / 4 * 8 + 3 ∨ i = 7 then 0 else zs.getD (16 + i) 0 := by
  unfold putL
  rw [if_pos (by simp [leafB]; omega), Int.toNat_natCast]
  have e1 : ((p : Int) / 2 * 4 + 1).toNat = p / 2 * 4 + 1 := by omega
  have e2 : ((p : Int) / 4 * 8 + 3).toNat = p / 4 * 8 + 3 := by omega
  have hl : (zs.take (p * 2) ++ (xs ++ zs.drop (p * 2 + 2))).length = 31 := by simp [hz, hx]; omega
  rw [e1, e2, getD_set_list, getD_set_list, getD_set_list, List.length_set, List.length_set, hl]
  by_cases h7 : i = 7
  · rw [if_pos (by omega), if_pos (by omega)]
  · rw [if_neg (by omega)]
    by_cases h4 : i = p / 4 * 8 + 3
    · rw [if_pos (by omega), if_pos (by omega)]
    · rw [if_neg (by omega)]
      by_cases h2 : i = p / 2 * 4 + 1
      · rw [if_pos (by omega), if_pos (by omega)]
      · rw [if_neg (by omega), if_neg (by omega), splice_get hx (by omega), if_neg (by omega)]
theorem node_may (m : Nat) (hm : 1 ≤ m ∧ m ≤ 8) : mayV 0 (nodeZ m 7) (someA 1 m) 1 = true := by
  unfold mayV
  rw [nodeZ_isT m hm.2, cnt_one m hm, (admTo_iff _ _).2 fun i hi h => ?_]
  · rfl
  · rw [someA_get 1 i hi m hm.2] at h
    rw [nodeZ_mem m i hi hm.2]
    simp only [Bool.and_eq_true] at h
    exact h.1
theorem nodeZ_succ (m j : Nat) : nodeZ m (j + 1) = (nodeZ m j).set (16 + (1 + 2 * j)) (keyV (60 + ((1 + 2 * j : Nat) : Int))) := by
  rw [nodeZ, show ((60 + (1 + 2 * j) : Nat) : Int) = 60 + ((1 + 2 * j : Nat) : Int) by omega]
theorem nodeZ_0 (m : Nat) : nodeZ m 0 = someZ m := by rw [nodeZ]
attribute [local irreducible] nodeZ doR
theorem node_rem (m p : Nat) (hm : 1 ≤ m ∧ m ≤ 8) (hp : 1 ≤ p ∧ p < m) : doR 0 ⟨nodeZ m 7, someA 1 m, 1, F8, F8⟩ 0 [2, (p : Nat), 0, 0, 0] 1 = (0, ⟨putL (nodeZ m 7) [0, 0] (p : Nat), someA 1 m, 1, F8.set p false, F8.set p true⟩) := by
  have p8 : p < 8 := by omega
  have hs : (someA 1 m).set p false = someA 1 m := set_same (by rw [someA_get 1 p p8 m hm.2, decide_eq_false (show ¬ ((p : Int) < 1) by omega), Bool.and_false])
  have he : errOp ⟨nodeZ m 7, someA 1 m, 1, F8, F8⟩ 0 [2, (p : Nat), 0, 0, 0] = 0 := by
    rw [err_rem]
    exact errRem_0 (by omega) (by show memB (nodeZ m 7) (p : Nat) = true; rw [memB_nat _ p8, nodeZ_mem m p p8 hm.2]; exact decide_eq_true hp.2)
  have hn : nextOp ⟨nodeZ m 7, someA 1 m, 1, F8, F8⟩ [2, (p : Nat), 0, 0, 0] = ⟨putL (nodeZ m 7) [0, 0] (p : Nat), someA 1 m, 1, F8.set p false, F8.set p true⟩ := by rw [next_rem, Int.toNat_natCast, hs]
  refine doR_of (node_may m hm) (by decide) rfl (by show memB (nodeZ m 7) 0 = true; rw [show (0 : Int) = ((0 : Nat) : Int) from rfl, memB_nat _ (by omega), nodeZ_mem m 0 (by omega) hm.2]; exact decide_eq_true (by omega)) (by rw [runE_go (o := [2, (p : Nat), 0, 0, 0]) rfl he, hn, runE_0]) (by rw [cnt_one m hm]; exact Int.le_refl _)
theorem node_add (m : Nat) (hm : 1 ≤ m ∧ m < 8) (x y : Int) (hx : isI x = true) (hy : isI y = true) (hk : ∀ j < 8, keyV (j : Nat) ≠ x) : doR 0 ⟨nodeZ m 7, someA 1 m, 1, F8, F8⟩ 0 [1, 0, 0, x, y] 1 = (0, ⟨putL (nodeZ m 7) [x, y] (m : Nat), someA 1 m, 1, F8.set m true, F8⟩) := by
  have hF : First (nodeZ m 7) m := ⟨nodeZ_len m (by omega) 7, fun j hj => nodeZ_mem m j hj (by omega) 7⟩
  have hu : usedB (nodeZ m 7) x = false := used_f fun j hj => by
    rw [nodeZ_sign m j hj (by omega)]
    split
    · exact hk j hj
    · exact fun e => isI_ne hx e.symm
  have he : errOp ⟨nodeZ m 7, someA 1 m, 1, F8, F8⟩ 0 [1, 0, 0, x, y] = 0 := by
    rw [err_add, err_addV hx hy hu hF.full, decide_eq_false (show ¬ 8 ≤ m by omega)]; rfl
  have hn : nextOp ⟨nodeZ m 7, someA 1 m, 1, F8, F8⟩ [1, 0, 0, x, y] = ⟨putL (nodeZ m 7) [x, y] (m : Nat), someA 1 m, 1, F8.set m true, F8⟩ := by rw [next_add, hF.free hm.2]
  refine doR_of (node_may m (by omega)) (by decide) rfl (by show memB (nodeZ m 7) 0 = true; rw [show (0 : Int) = ((0 : Nat) : Int) from rfl, memB_nat _ (by omega), nodeZ_mem m 0 (by omega) (by omega)]; exact decide_eq_true (by omega)) (by rw [runE_go (o := [1, 0, 0, x, y]) rfl he, hn, runE_0]) (by rw [cnt_one m (by omega)]; exact Int.le_refl _)
set_option maxHeartbeats 2000000 in
theorem viewBlanks_ok (m w : Int) (add : Bool) :
    FnO 11 [.v (.int .i64 m), .v (.int .i64 w), .v (.bool add)] (.d (.v (.bool true))) := by
  refine fnA (E := envX2) Try.func11 Try.ntmps11 ?_
  by_cases h1 : m < 2
  · refine agom ?_; (try with_reducible exact True.intro)
  by_cases h2 : m > 7
  · refine agom ?_; (try with_reducible exact True.intro)
  by_cases h3 : w < 1
  · refine agom ?_; (try with_reducible exact True.intro)
  by_cases h4 : w ≥ m
  · refine agom ?_; (try with_reducible exact True.intro)
  obtain ⟨p, rfl⟩ := Int.eq_ofNat_of_zero_le (show 0 ≤ m by omega)
  obtain ⟨q, rfl⟩ := Int.eq_ofNat_of_zero_le (show 0 ≤ w by omega)
  have hmin : min p 8 = p := by omega
  refine agow ?_; (try with_reducible exact True.intro)
  rw [hmin]
  refine StopL.mk (loop_forG [0, 1, 2, 7, 8] [0] 7 (fun j => ⟨[.d (.v (.int .i64 (p : Nat))), .d (.v (.int .i64 (q : Nat))), .d (.v (.bool add)), .dead, .dead, .dead, .dead, .ptr 0 0, .d (.v (.int .i64 (1 + 2 * j : Nat))), .dead, .dead, .dead, .dead, .dead, .dead, .dead, .dead, .dead, .dead, .dead, .dead, .dead, .dead, .dead, .dead, .dead, .dead, .dead, .dead, .dead, .dead, .dead, .dead, .dead, .dead, .dead, .dead, .dead, .dead, .dead, .dead, .dead, .dead, .dead, .dead, .dead, .dead, .dead, .dead, .dead, .dead, .dead, .dead, .dead, .dead, .dead, .dead, .dead, .dead, .dead, .dead, .dead, .dead, .dead, .dead, .dead, .dead, .dead, .dead, .dead, .dead, .dead, .dead, .dead, .dead, .dead, .dead, .dead, .dead, .dead, .dead, .dead, .dead, .dead, .dead, .dead, .dead, .dead, .dead, .dead, .dead, .dead, .dead, .dead, .dead, .dead], [some (.var (vSegs 0 (nodeZ p j) (someA 1 p) 1 Z32))]⟩) ?_ (h2 := by rw [nodeZ_0]; exact rfl))
  intro j hj hl
  by_cases hj7 : j < 7
  · refine agow ?_; (try with_reducible exact True.intro)
    refine hl.go hj7 [0, 1, 2, 7, 8] [0] ?_
    rw [nodeZ_succ]
    rfl
  obtain rfl : j = 7 := by omega
  cases add with
  | false =>
    have hR := node_rem p q (by omega) (by omega)
    have he1 : decide ((doR 0 ⟨nodeZ p 7, someA 1 p, 1, F8, F8⟩ 0 [2, (q : Nat), 0, 0, 0] 1).1 = 0) = true := by rw [hR]; rfl
    refine agow ?_; (try with_reducible exact True.intro)
    rw [hR]
    have hZ : ∀ j, j < 7 → (putL (nodeZ p 7) [0, 0] (q : Nat)).getD (16 + (1 + 2 * j)) 0 = if 1 + 2 * j = q / 2 * 4 + 1 ∨ 1 + 2 * j = q / 4 * 8 + 3 ∨ 1 + 2 * j = 7 then 0 else keyV ((60 + (1 + 2 * j) : Nat) : Int) := fun j hj => by
      rw [put_nodes (nodeZ_len p (by omega) 7) rfl (by omega) (by omega), nodeZ_get p (by omega) (1 + 2 * j) (by omega) 7 (by omega), if_pos (show (1 + 2 * j) % 2 = 1 ∧ 1 + 2 * j < 2 * 7 by omega)]
    generalize putL (nodeZ p 7) [0, 0] (q : Nat) = Z at *
    obtain ⟨e1, e2, e3, e4, e5, e6⟩ := path_nums (q : Nat) (by omega) (by omega)
    clear hl hR he1
    refine StopL.mk (loop_forG [10, 11, 14, 15] [0, 3] 7 (fun j => ⟨[.dead, .dead, .dead, .dead, .dead, .dead, .dead, .dead, .dead, .dead, .d (.v (.int .i64 (q : Nat))), .ptr 1 0, .dead, .dead, .d (.v (.int .i64 0)), .d (.v (.int .i64 (1 + 2 * j : Nat))), .dead, .dead, .dead, .dead, .dead, .dead, .dead, .dead, .dead, .dead, .dead, .dead, .dead, .dead, .dead, .dead, .dead, .dead, .dead, .dead, .dead, .dead, .dead, .dead, .dead, .dead, .dead, .dead, .dead, .dead, .dead, .dead, .dead, .dead, .dead, .dead, .dead, .dead, .dead, .dead, .dead, .dead, .dead, .dead, .dead, .dead, .dead, .dead, .dead, .dead, .dead, .dead, .dead, .dead, .dead, .dead, .dead, .dead, .dead, .dead, .dead, .dead, .dead, .dead, .dead, .dead, .dead, .dead, .dead, .dead, .dead, .dead, .dead, .dead, .dead, .dead, .dead, .dead, .dead, .dead], [some (.var (vSegs 0 (nodeZ p 7) (someA 1 p) 1 Z32)), some (.var (vSegs 0 Z (someA 1 p) 1 Z32))]⟩) ?_)
    intro j hj hl
    by_cases hj7 : j < 7
    · have hZj := hZ j hj7
      by_cases c : 1 + 2 * j = q / 2 * 4 + 1 ∨ 1 + 2 * j = q / 4 * 8 + 3 ∨ 1 + 2 * j = 7
      · rw [if_pos c] at hZj
        have hz0 : (Z.getD (16 + (1 + 2 * j)) 0 == 0) = true := by rw [hZj]; rfl
        clear hZj hZ
        by_cases c1 : 1 + 2 * j = q / 2 * 4 + 1
        · have ca : 1 + 2 * j ≤ q / 2 * 4 + 1 := by omega
          have cb : q / 2 * 4 + 1 ≤ 1 + 2 * j := by omega
          clear c1 c
          refine agow ?_; (try with_reducible exact True.intro)
          refine hl.go hj7 [10, 11, 14, 15] [0, 1] ?_
          rfl
        · by_cases c2 : 1 + 2 * j = q / 4 * 8 + 3
          · have ca : 1 + 2 * j ≤ q / 4 * 8 + 3 := by omega
            have cb : q / 4 * 8 + 3 ≤ 1 + 2 * j := by omega
            clear c2 c
            refine agow ?_; (try with_reducible exact True.intro)
            refine hl.go hj7 [10, 11, 14, 15] [0, 1] ?_
            rfl
          · refine agow ?_; (try with_reducible exact True.intro)
            refine hl.go hj7 [10, 11, 14, 15] [0, 1] ?_
            rfl
      · rw [if_neg c] at hZj
        have hne : (Z.getD (16 + (1 + 2 * j)) 0 == 0) = false := by rw [hZj]; simpa using keyV_ne0 _
        clear hZj hZ
        refine agow ?_; (try with_reducible exact True.intro)
        refine hl.go hj7 [10, 11, 14, 15] [0, 1] ?_
        rfl
    · obtain rfl : j = 7 := by omega
      refine agow ?_; (try with_reducible exact True.intro)
  | true =>
    have hR := node_add p (by omega) (keyV 41) (keyV 51) (keyV_isI 41) (keyV_isI 51) fun j hj => keyX_ne j 41 (by omega) (by omega) (by omega)
    have he1 : decide ((doR 0 ⟨nodeZ p 7, someA 1 p, 1, F8, F8⟩ 0 [1, 0, 0, keyV 41, keyV 51] 1).1 = 0) = true := by rw [hR]; rfl
    refine agow ?_; (try with_reducible exact True.intro)
    rw [hR]
    have hZ : ∀ j, j < 7 → (putL (nodeZ p 7) [keyV 41, keyV 51] (p : Nat)).getD (16 + (1 + 2 * j)) 0 = if 1 + 2 * j = p / 2 * 4 + 1 ∨ 1 + 2 * j = p / 4 * 8 + 3 ∨ 1 + 2 * j = 7 then 0 else keyV ((60 + (1 + 2 * j) : Nat) : Int) := fun j hj => by
      rw [put_nodes (nodeZ_len p (by omega) 7) rfl (by omega) (by omega), nodeZ_get p (by omega) (1 + 2 * j) (by omega) 7 (by omega), if_pos (show (1 + 2 * j) % 2 = 1 ∧ 1 + 2 * j < 2 * 7 by omega)]
    generalize putL (nodeZ p 7) [keyV 41, keyV 51] (p : Nat) = Z at *
    obtain ⟨e1, e2, e3, e4, e5, e6⟩ := path_nums (p : Nat) (by omega) (by omega)
    clear hl hR he1
    refine StopL.mk (loop_forG [10, 11, 14, 15] [0, 3] 7 (fun j => ⟨[.dead, .dead, .dead, .dead, .dead, .dead, .dead, .dead, .dead, .dead, .d (.v (.int .i64 (p : Nat))), .ptr 1 0, .dead, .dead, .d (.v (.int .i64 0)), .d (.v (.int .i64 (1 + 2 * j : Nat))), .dead, .dead, .dead, .dead, .dead, .dead, .dead, .dead, .dead, .dead, .dead, .dead, .dead, .dead, .dead, .dead, .dead, .dead, .dead, .dead, .dead, .dead, .dead, .dead, .dead, .dead, .dead, .dead, .dead, .dead, .dead, .dead, .dead, .dead, .dead, .dead, .dead, .dead, .dead, .dead, .dead, .dead, .dead, .dead, .dead, .dead, .dead, .dead, .dead, .dead, .dead, .dead, .dead, .dead, .dead, .dead, .dead, .dead, .dead, .dead, .dead, .dead, .dead, .dead, .dead, .dead, .dead, .dead, .dead, .dead, .dead, .dead, .dead, .dead, .dead, .dead, .dead, .dead, .dead, .dead], [some (.var (vSegs 0 (nodeZ p 7) (someA 1 p) 1 Z32)), some (.var (vSegs 0 Z (someA 1 p) 1 Z32))]⟩) ?_)
    intro j hj hl
    by_cases hj7 : j < 7
    · have hZj := hZ j hj7
      by_cases c : 1 + 2 * j = p / 2 * 4 + 1 ∨ 1 + 2 * j = p / 4 * 8 + 3 ∨ 1 + 2 * j = 7
      · rw [if_pos c] at hZj
        have hz0 : (Z.getD (16 + (1 + 2 * j)) 0 == 0) = true := by rw [hZj]; rfl
        clear hZj hZ
        by_cases c1 : 1 + 2 * j = p / 2 * 4 + 1
        · have ca : 1 + 2 * j ≤ p / 2 * 4 + 1 := by omega
          have cb : p / 2 * 4 + 1 ≤ 1 + 2 * j := by omega
          clear c1 c
          refine agow ?_; (try with_reducible exact True.intro)
          refine hl.go hj7 [10, 11, 14, 15] [0, 1] ?_
          rfl
        · by_cases c2 : 1 + 2 * j = p / 4 * 8 + 3
          · have ca : 1 + 2 * j ≤ p / 4 * 8 + 3 := by omega
            have cb : p / 4 * 8 + 3 ≤ 1 + 2 * j := by omega
            clear c2 c
            refine agow ?_; (try with_reducible exact True.intro)
            refine hl.go hj7 [10, 11, 14, 15] [0, 1] ?_
            rfl
          · refine agow ?_; (try with_reducible exact True.intro)
            refine hl.go hj7 [10, 11, 14, 15] [0, 1] ?_
            rfl
      · rw [if_neg c] at hZj
        have hne : (Z.getD (16 + (1 + 2 * j)) 0 == 0) = false := by rw [hZj]; simpa using keyV_ne0 _
        clear hZj hZ
        refine agow ?_; (try with_reducible exact True.intro)
        refine hl.go hj7 [10, 11, 14, 15] [0, 1] ?_
        rfl
    · obtain rfl : j = 7 := by omega
      refine agow ?_; (try with_reducible exact True.intro)
theorem viewBlanks_walk (m : Int) (hm : (Lit.int .i64 m).wf = true) (q : Int) (hq : (Lit.int .i64 q).wf = true) (add : Bool) {w : World} :
    Calls Try.prog 11 #[.int .i64 m, .int .i64 q, .bool add] w fun e w' => e = .returned (.bool true) ∧ Below w.heap.size w w' :=
  law_of_fn (viewBlanks_ok m q add) (fun q l e => by cases (show (none : Option (List Seg)) = some l from e)) (.cons (.v _) (.cons (.v _) (.cons (.v _) .nil)))
end Go.Proofs.Ytkeabmnmeheeiaa
