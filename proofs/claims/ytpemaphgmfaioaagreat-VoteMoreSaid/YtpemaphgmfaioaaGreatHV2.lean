/-
  Views: the operations one by one, as the program does them.
-/
import Derived.Test.YtpemaphgmfaioaaGreatHV1
namespace Go.Proofs.YtpemaphgmfaioaaGreat
set_option maxRecDepth 100000
open Go.RowKit Pm
set_option linter.unusedVariables false
set_option linter.unusedSimpArgs false
attribute [local irreducible] condK LoopA regA isI

/-- a view on its way -/
abbrev sSegs (e : Int) (zs : List Int) (ad : List Bool) (k : Int) (ch : List UInt8) (fr : Int) (ng gn : List Bool) : List Seg := [.ints .i64 1 [e], .ints .i64 31 zs, .bools 8 ad, .ints .i64 1 [k], .bytes 32 ch, .ints .i64 1 [fr], .bools 8 ng, .bools 8 gn]
/-- has any leaf this key to sign? -/
def usedB (zs : List Int) (s : Int) : Bool := (List.range 8).any fun i => decide (zs.getD (i * 2) 0 = s)
/-- the first place without a member -/
def freeN (zs : List Int) : Nat := ((List.range 8).find? fun i => !memL zs i).getD 8
def fullB (zs : List Int) : Bool := (List.range 8).all fun i => memL zs i
def errAdd (zs xs : List Int) : Int := if (isI (xs.getD 0 0) && isI (xs.getD 1 0)) = true then (if usedB zs (xs.getD 0 0) = true then 7 else if fullB zs = true then 12 else 0) else 7
theorem free_at {zs : List Int} {k : Nat} (hk : k < 8) (h : memL zs k = false) (hn : ∀ j < k, memL zs j = true) : freeN zs = k := by
  have : (List.range 8).find? (fun i => !memL zs i) = some k := by
    rw [List.find?_range_eq_some]
    exact ⟨by simp [h], by simpa using hk, fun j hj => by simp [hn j hj]⟩
  unfold freeN; rw [this]; rfl
theorem full_iff (zs : List Int) : fullB zs = true ↔ ∀ i < 8, memL zs i = true := by
  unfold fullB
  rw [List.all_eq_true]
  simp
theorem memTo_full (zs : List Int) : ∀ k, (memTo zs k).length = k ↔ ∀ i < k, memL zs i = true
  | 0 => by simp [memTo]
  | k + 1 => by
    have L := memTo_len zs k
    have ih := memTo_full zs k
    rw [memTo, List.length_append]
    by_cases h : memL zs k = true
    · rw [if_pos h]
      constructor
      · intro h2 i hi
        by_cases e : i = k
        · rw [e]; exact h
        · exact ih.1 (by simpa using h2) i (by omega)
      · intro h2
        have := ih.2 fun i hi => h2 i (by omega)
        simp [this]
    · rw [if_neg h]
      constructor
      · intro h2; simp at h2; omega
      · intro h2; exact absurd (h2 k (by omega)) h
theorem used_t {zs : List Int} {s : Int} {i : Nat} (hi : i < 8) (h : zs.getD (i * 2) 0 = s) : usedB zs s = true := by
  unfold usedB
  rw [List.any_eq_true]
  exact ⟨i, by simpa using hi, by simpa using h⟩
theorem used_f {zs : List Int} {s : Int} (h : ∀ i < 8, zs.getD (i * 2) 0 ≠ s) : usedB zs s = false := by
  unfold usedB
  rw [List.any_eq_false]
  intro i hi
  simpa using h i (by simpa using hi)
theorem leafP_get0 (zs : List Int) {i : Nat} (hi : i < 8) : (leafP zs i).getD 0 0 = zs.getD (i * 2) 0 := by
  rw [leafP_eq zs hi]
  simp [List.getD_eq_getElem?_getD, List.getElem?_take]
theorem used_mem {zs : List Int} {s : Int} (hs : s ≠ 0) (h : ∀ j < (memTo zs 8).length, zs.getD (((memTo zs 8).getD j 0).toNat * 2) 0 ≠ s) : usedB zs s = false := by
  refine used_f fun i hi => ?_
  by_cases hm : memL zs i = true
  · have hin : (i : Int) ∈ memTo zs 8 := (memTo_mem zs 8 i).2 ⟨by omega, by omega, by simpa using hm⟩
    obtain ⟨j, hj, e⟩ := List.getElem_of_mem hin
    have := h j hj
    rw [List.getD_eq_getElem?_getD (l := memTo zs 8), List.getElem?_eq_getElem hj, Option.getD_some, e] at this
    simpa using this
  · have h0 : leafP zs i = [0, 0] := by
      have : memL zs i = false := by simpa using hm
      simpa [memL] using this
    rw [← leafP_get0 zs hi, h0]
    exact fun e => hs e.symm
theorem isI_ne {y : Int} (h : isI y = true) : y ≠ 0 := by rintro rfl; simp [isI] at h
theorem two {o : List Int} (h : o.length = 2) : ∃ a b, o = [a, b] := by
  rcases o with _ | ⟨a, _ | ⟨b, _ | ⟨c, l⟩⟩⟩ <;> simp at h
  exact ⟨a, b, rfl⟩
attribute [local irreducible] memTo memL freeN usedB fullB putL errAdd isT memB
def addSM : Nat → Bk → List A → (Res → Bk → Prop) → Prop
  | 0, .var [.ints .i64 1 [e], .ints .i64 31 zs, .bools 8 ad, .ints .i64 1 [k], .bytes 32 ch, .ints .i64 1 [fr], .bools 8 ng, .bools 8 gn], [.agg [.ints .i64 2 xs]], K =>
    K (.d (.v (.int .i64 (errAdd zs xs)))) (.var (if errAdd zs xs = 0 then sSegs e (putL zs xs (freeN zs : Nat)) ad k ch fr (ng.set (freeN zs) true) gn else sSegs e zs ad k ch fr ng gn))
  | _, _, _, _ => False
set_option maxHeartbeats 400000 in
theorem add_ok (e : Int) (zs : List Int) (ad : List Bool) (k : Int) (ch : List UInt8) (fr : Int) (ng gn : List Bool) (xs : List Int) :
    FnMO 98 0 (.var (sSegs e zs ad k ch fr ng gn)) [.agg [.ints .i64 2 xs]] (.d (.v (.int .i64 (errAdd zs xs)))) (.var (if errAdd zs xs = 0 then sSegs e (putL zs xs (freeN zs : Nat)) ad k ch fr (ng.set (freeN zs) true) gn else sSegs e zs ad k ch fr ng gn)) := by
  refine fnM_lens fun _ hl => ?_
  obtain ⟨x, y, rfl⟩ := two hl.1.1
  clear hl
  refine fnMA (E := envVh) Tryz.func98 Tryz.ntmps98 ?_
  by_cases hxy : (isI x && isI y) = true
  · have he0 : errAdd zs [x, y] = if usedB zs x = true then 7 else if fullB zs = true then 12 else 0 := by
      unfold errAdd; simp [hxy]
    obtain ⟨hx, hy⟩ : isI x = true ∧ isI y = true := by simpa using hxy
    have hx0 : x ≠ 0 := isI_ne hx
    have L := memTo_len zs 8
    refine agom ?_; (try with_reducible exact True.intro)
    refine StopL.mk (loop_inv [0, 3, 5, 25, 26, 27] 3 (fun s => ∃ j : Nat, j ≤ (memTo zs 8).length ∧ (∀ i < j, zs.getD (((memTo zs 8).getD i 0).toNat * 2) 0 ≠ x) ∧ s = ⟨[.ptr 0 0, .dead, .dead, .ptr 1 0, .dead, .own 2 (memTo zs 8).length, .dead, .dead, .dead, .dead, .dead, .dead, .dead, .dead, .dead, .dead, .dead, .dead, .dead, .dead, .dead, .dead, .dead, .dead, .dead, .own 2 (memTo zs 8).length, .d (.v (.int .i64 (memTo zs 8).length)), .d (.v (.int .i64 (j : Nat))), .dead, .dead, .dead, .dead, .dead, .dead, .dead, .dead, .dead, .dead, .dead, .dead, .dead, .dead, .dead, .dead, .dead, .dead, .dead, .dead, .dead, .dead, .dead, .dead, .dead, .dead, .dead, .dead, .dead, .dead, .dead, .dead, .dead, .dead, .dead, .dead, .dead, .dead, .dead, .dead, .dead], [some (.var (sSegs e zs ad k ch fr ng gn)), some (.var [.ints .i64 2 [x, y]]), some (.sl 3 1 (memTo zs 8).length [.ints .i64 (memTo zs 8).length (memTo zs 8)])]⟩) (fun s => (memTo zs 8).length - intAt s 27) rfl ⟨0, by omega, by intro j hj; omega, rfl⟩ ?_)
    rintro s ⟨j, hj, hall, rfl⟩
    have hw : IntKind.i64.wrap ((j : Int) + 1) = ((j + 1 : Nat) : Int) := by rw [wrapS (by omega) (by omega)]; omega
    by_cases hj2 : j < (memTo zs 8).length
    · have hin : (memTo zs 8).getD j 0 ∈ memTo zs 8 := by rw [List.getD_eq_getElem?_getD, List.getElem?_eq_getElem hj2]; simp
      obtain ⟨m0, m1, _⟩ := (memTo_mem zs 8 _).1 hin
      clear hin
      by_cases hs : zs.getD (((memTo zs 8).getD j 0).toNat * 2) 0 = x
      · have hu : usedB zs x = true := used_t (i := ((memTo zs 8).getD j 0).toNat) (by omega) hs
        have hs1 : (zs.getD (((memTo zs 8).getD j 0).toNat * 2) 0 == x) = true := by rw [hs]; simp
        rw [he0, if_pos hu, if_neg (by decide)]
        clear he0 hu hs hall hx0
        refine agom ?_; (try with_reducible exact True.intro)
      · have hs1 : (zs.getD (((memTo zs 8).getD j 0).toNat * 2) 0 == x) = false := by simpa using hs
        have hnext : ∀ i < j + 1, zs.getD (((memTo zs 8).getD i 0).toNat * 2) 0 ≠ x := fun i hi => by
          rcases Nat.lt_or_eq_of_le (Nat.le_of_lt_succ hi) with h | rfl
          · exact hall i h
          · exact hs
        clear he0 hs hall hx0
        refine agom ?_; (try with_reducible exact True.intro)
        refine ⟨⟨j + 1, by omega, hnext, by rw [← hw]; rfl⟩, ?_⟩
        show (memTo zs 8).length - (IntKind.i64.wrap ((j : Int) + 1)).toNat < (memTo zs 8).length - (j : Int).toNat
        rw [hw]; omega
    · have hu : usedB zs x = false := used_mem hx0 fun i hi => hall i (by omega)
      rw [hu, if_neg (by simp)] at he0
      clear hall hu hx0 hw
      cases hf : fullB zs with
      | true =>
        have h8 : (memTo zs 8).length = 8 := (memTo_full zs 8).2 ((full_iff zs).1 hf)
        have h81 : (((memTo zs 8).length : Int) == 8) = true := by rw [h8]; rfl
        rw [he0, if_pos hf, if_neg (by decide)]
        clear he0 h8 hf
        refine agom ?_; (try with_reducible exact True.intro)
      | false =>
        have h8 : (memTo zs 8).length ≠ 8 := fun h => by
          have := (full_iff zs).2 ((memTo_full zs 8).1 h)
          rw [hf] at this; cases this
        have h81 : (((memTo zs 8).length : Int) == 8) = false := by simp; omega
        have he1 : errAdd zs [x, y] = 0 := by rw [he0]; simp [hf]
        rw [he1, if_pos rfl]
        clear he1
        have hlen : (memTo zs 8).length ≤ 1000000 := by omega
        clear he0
        refine agom ?_; (try with_reducible exact True.intro)
        refine StopL.mk (loop_inv [0, 3, 5, 8] 3 (fun s => ∃ i : Nat, i ≤ 8 ∧ (∀ q < i, memL zs q = true) ∧ s = ⟨[.ptr 0 0, .dead, .dead, .ptr 1 0, .dead, .own 2 (memTo zs 8).length, .dead, .dead, .d (.v (.int .i64 (i : Nat))), .dead, .dead, .dead, .dead, .dead, .dead, .dead, .dead, .dead, .dead, .dead, .dead, .dead, .dead, .dead, .dead, .dead, .dead, .dead, .dead, .dead, .dead, .dead, .dead, .dead, .dead, .dead, .dead, .dead, .dead, .dead, .dead, .dead, .dead, .dead, .dead, .dead, .dead, .dead, .dead, .dead, .dead, .dead, .dead, .dead, .dead, .dead, .dead, .dead, .dead, .dead, .dead, .dead, .dead, .dead, .dead, .dead, .dead, .dead, .dead], [some (.var (sSegs e zs ad k ch fr ng gn)), some (.var [.ints .i64 2 [x, y]]), some (.sl 3 1 (memTo zs 8).length [.ints .i64 (memTo zs 8).length (memTo zs 8)])]⟩) (fun s => 8 - intAt s 8) rfl ⟨0, by omega, by intro j hj; omega, rfl⟩ ?_)
        clear hj2 hj h81
        rintro s ⟨i, hi, hall, rfl⟩
        have hw : IntKind.i64.wrap ((i : Int) + 1) = ((i + 1 : Nat) : Int) := by rw [wrapS (by omega) (by omega)]; omega
        have hi8 : i < 8 := by
          apply Decidable.byContradiction
          intro h
          have : fullB zs = true := (full_iff zs).2 fun q hq => hall q (by omega)
          rw [hf] at this; cases this
        have hm0 : decide ((i : Int) ∈ memTo zs 8) = memL zs i := by rw [memB_in]; simp [memB, leafB]; omega
        cases hm : memL zs i with
        | true =>
          rw [hm] at hm0
          have hnext : ∀ q < i + 1, memL zs q = true := fun q hq => by
            rcases Nat.lt_or_eq_of_le (Nat.le_of_lt_succ hq) with h | rfl
            · exact hall q h
            · exact hm
          clear hall hm hf h8
          refine agom ?_; (try with_reducible exact True.intro)
          refine ⟨⟨i + 1, by omega, hnext, by rw [← hw]; rfl⟩, ?_⟩
          show 8 - (IntKind.i64.wrap ((i : Int) + 1)).toNat < 8 - (i : Int).toNat
          rw [hw]; omega
        | false =>
          rw [hm] at hm0
          have hfree : freeN zs = i := free_at hi8 hm hall
          rw [hfree]
          clear hall hm hf h8 hfree hw
          refine agom ?_; (try with_reducible exact True.intro)
  · have he0 : errAdd zs [x, y] = 7 := by unfold errAdd; simp [hxy]
    rw [he0, if_neg (by decide)]
    clear he0
    cases hx : isI x with
    | false =>
      refine agom ?_; (try with_reducible exact True.intro)
    | true =>
      have hy : isI y = false := by rw [hx] at hxy; simpa using hxy
      refine agom ?_; (try with_reducible exact True.intro)
end Go.Proofs.YtpemaphgmfaioaaGreat

/-
  Views: the other operations, as the program does them.
-/
namespace Go.Proofs.YtpemaphgmfaioaaGreat
set_option maxRecDepth 100000
open Go.RowKit Pm
set_option linter.unusedVariables false
set_option linter.unusedSimpArgs false
attribute [local irreducible] condK LoopA regA isI memTo memL freeN usedB fullB putL errAdd isT memB

theorem addSM_ok : ∀ pos x args K, addSM pos x args K → ∃ r x', FnMO 98 pos x args r x' ∧ K r x' := by
  intro pos x args K h
  unfold addSM at h
  split at h
  · exact ⟨_, _, add_ok _ _ _ _ _ _ _ _ _, h⟩
  · exact h.elim
def errRem (zs : List Int) (fr who : Int) : Int := if who = fr ∨ memB zs who = false then 7 else 0
def errPro (zs : List Int) (ad : List Bool) (who : Int) : Int := if memB zs who = false ∨ ad.getD who.toNat false = true then 7 else 0
def errDem (zs : List Int) (ad : List Bool) (who : Int) : Int := if memB zs who = false ∨ ad.getD who.toNat false = false then 7 else 0
def errLim (k : Int) : Int := if k < 1 ∨ k > 8 then 7 else 0
theorem memB_bd {zs : List Int} {i : Int} (h : memB zs i = true) : 0 ≤ i ∧ i < 8 := by
  unfold memB at h
  simp [leafB] at h
  omega
set_option maxHeartbeats 4000000 in
theorem limit_ok (e : Int) (zs : List Int) (ad : List Bool) (k : Int) (ch : List UInt8) (fr : Int) (ng gn : List Bool) (y : Int) :
    FnMO 102 0 (.var (sSegs e zs ad k ch fr ng gn)) [.v (.int .i64 y)] (.d (.v (.int .i64 (errLim y)))) (.var (if errLim y = 0 then sSegs e zs ad y ch fr ng gn else sSegs e zs ad k ch fr ng gn)) := by
  refine fnMA (E := envVh) Tryz.func102 Tryz.ntmps102 ?_
  by_cases h0 : y < 1
  · have he : errLim y = 7 := by simp [errLim, h0]
    rw [he, if_neg (by decide)]
    clear he
    refine agom ?_; (try with_reducible exact True.intro)
  · by_cases h1 : y > 8
    · have he : errLim y = 7 := by simp [errLim, h1]
      rw [he, if_neg (by decide)]
      clear he
      refine agom ?_; (try with_reducible exact True.intro)
    · have he : errLim y = 0 := by simp [errLim, h0, h1]
      rw [he, if_pos rfl]
      clear he
      refine agom ?_; (try with_reducible exact True.intro)
set_option maxHeartbeats 4000000 in
theorem promote_ok (e : Int) (zs : List Int) (ad : List Bool) (k : Int) (ch : List UInt8) (fr : Int) (ng gn : List Bool) (y : Int) :
    FnMO 100 0 (.var (sSegs e zs ad k ch fr ng gn)) [.v (.int .i64 y)] (.d (.v (.int .i64 (errPro zs ad y)))) (.var (if errPro zs ad y = 0 then sSegs e zs (ad.set y.toNat true) k ch fr ng gn else sSegs e zs ad k ch fr ng gn)) := by
  refine fnMA (E := envVh) Tryz.func100 Tryz.ntmps100 ?_
  cases hm : memB zs y with
  | false =>
    have he : errPro zs ad y = 7 := by simp [errPro, hm]
    rw [he, if_neg (by decide)]
    clear he
    refine agom ?_; (try with_reducible exact True.intro)
  | true =>
    obtain ⟨h0, h1⟩ := memB_bd hm
    obtain ⟨n, rfl⟩ := Int.eq_ofNat_of_zero_le h0
    cases ha : ad.getD n false with
    | true =>
      have he : errPro zs ad (n : Int) = 7 := by unfold errPro; rw [Int.toNat_natCast, ha]; simp
      rw [he, if_neg (by decide)]
      clear he
      refine agom ?_; (try with_reducible exact True.intro)
    | false =>
      have he : errPro zs ad (n : Int) = 0 := by unfold errPro; rw [Int.toNat_natCast, ha, hm]; simp
      rw [he, if_pos rfl, Int.toNat_natCast]
      clear he
      refine agom ?_; (try with_reducible exact True.intro)
set_option maxHeartbeats 4000000 in
theorem demote_ok (e : Int) (zs : List Int) (ad : List Bool) (k : Int) (ch : List UInt8) (fr : Int) (ng gn : List Bool) (y : Int) :
    FnMO 101 0 (.var (sSegs e zs ad k ch fr ng gn)) [.v (.int .i64 y)] (.d (.v (.int .i64 (errDem zs ad y)))) (.var (if errDem zs ad y = 0 then sSegs e zs (ad.set y.toNat false) k ch fr ng gn else sSegs e zs ad k ch fr ng gn)) := by
  refine fnMA (E := envVh) Tryz.func101 Tryz.ntmps101 ?_
  cases hm : memB zs y with
  | false =>
    have he : errDem zs ad y = 7 := by simp [errDem, hm]
    rw [he, if_neg (by decide)]
    clear he
    refine agom ?_; (try with_reducible exact True.intro)
  | true =>
    obtain ⟨h0, h1⟩ := memB_bd hm
    obtain ⟨n, rfl⟩ := Int.eq_ofNat_of_zero_le h0
    cases ha : ad.getD n false with
    | false =>
      have he : errDem zs ad (n : Int) = 7 := by unfold errDem; rw [Int.toNat_natCast, ha]; simp
      rw [he, if_neg (by decide)]
      clear he
      refine agom ?_; (try with_reducible exact True.intro)
    | true =>
      have he : errDem zs ad (n : Int) = 0 := by unfold errDem; rw [Int.toNat_natCast, ha, hm]; simp
      rw [he, if_pos rfl, Int.toNat_natCast]
      clear he
      refine agom ?_; (try with_reducible exact True.intro)
set_option maxHeartbeats 4000000 in
theorem remove_ok (e : Int) (zs : List Int) (ad : List Bool) (k : Int) (ch : List UInt8) (fr : Int) (ng gn : List Bool) (y : Int) :
    FnMO 99 0 (.var (sSegs e zs ad k ch fr ng gn)) [.v (.int .i64 y)] (.d (.v (.int .i64 (errRem zs fr y)))) (.var (if errRem zs fr y = 0 then sSegs e (putL zs [0, 0] y) (ad.set y.toNat false) k ch fr (ng.set y.toNat false) (gn.set y.toNat true) else sSegs e zs ad k ch fr ng gn)) := by
  refine fnMA (E := envVh) Tryz.func99 Tryz.ntmps99 ?_
  by_cases hf : y = fr
  · subst hf
    have he : errRem zs y y = 7 := by simp [errRem]
    have hy : (y == y) = true := by simp
    rw [he, if_neg (by decide)]
    clear he
    refine agom ?_; (try with_reducible exact True.intro)
  · have hy : (y == fr) = false := by simpa using hf
    cases hm : memB zs y with
    | false =>
      have he : errRem zs fr y = 7 := by simp [errRem, hm]
      rw [he, if_neg (by decide)]
      clear he hf
      refine agom ?_; (try with_reducible exact True.intro)
    | true =>
      obtain ⟨h0, h1⟩ := memB_bd hm
      obtain ⟨n, rfl⟩ := Int.eq_ofNat_of_zero_le h0
      have he : errRem zs fr (n : Int) = 0 := by simp [errRem, hm, hf]
      rw [he, if_pos rfl, Int.toNat_natCast]
      clear he hf
      refine agom ?_; (try with_reducible exact True.intro)
end Go.Proofs.YtpemaphgmfaioaaGreat

/-
  Views: operations in a row, as the program does them.
-/
namespace Go.Proofs.YtpemaphgmfaioaaGreat
set_option maxRecDepth 100000
open Go.RowKit Pm
set_option linter.unusedVariables false
set_option linter.unusedSimpArgs false
attribute [local irreducible] condK LoopA regA isI memTo memL freeN usedB fullB putL errAdd isT memB

/-- what operations change: tree, admins, threshold, who was added, who is gone -/
structure Vw where
  zs : List Int
  ad : List Bool
  k : Int
  ng : List Bool
  gn : List Bool
def errOp (s : Vw) (fr : Int) (o : List Int) : Int :=
  if o.getD 0 0 = 1 then errAdd s.zs [o.getD 3 0, o.getD 4 0] else if o.getD 0 0 = 2 then errRem s.zs fr (o.getD 1 0) else if o.getD 0 0 = 3 then errPro s.zs s.ad (o.getD 1 0) else if o.getD 0 0 = 4 then errDem s.zs s.ad (o.getD 1 0) else errLim (o.getD 2 0)
def nextOp (s : Vw) (o : List Int) : Vw :=
  if o.getD 0 0 = 1 then ⟨putL s.zs [o.getD 3 0, o.getD 4 0] (freeN s.zs : Nat), s.ad, s.k, s.ng.set (freeN s.zs) true, s.gn⟩
  else if o.getD 0 0 = 2 then ⟨putL s.zs [0, 0] (o.getD 1 0), s.ad.set (o.getD 1 0).toNat false, s.k, s.ng.set (o.getD 1 0).toNat false, s.gn.set (o.getD 1 0).toNat true⟩
  else if o.getD 0 0 = 3 then ⟨s.zs, s.ad.set (o.getD 1 0).toNat true, s.k, s.ng, s.gn⟩
  else if o.getD 0 0 = 4 then ⟨s.zs, s.ad.set (o.getD 1 0).toNat false, s.k, s.ng, s.gn⟩
  else ⟨s.zs, s.ad, o.getD 2 0, s.ng, s.gn⟩
abbrev wSegs (e : Int) (s : Vw) (ch : List UInt8) (fr : Int) : List Seg := sSegs e s.zs s.ad s.k ch fr s.ng s.gn
def remSM : Nat → Bk → List A → (Res → Bk → Prop) → Prop
  | 0, .var [.ints .i64 1 [e], .ints .i64 31 zs, .bools 8 ad, .ints .i64 1 [k], .bytes 32 ch, .ints .i64 1 [fr], .bools 8 ng, .bools 8 gn], [.v (.int .i64 y)], K =>
    K (.d (.v (.int .i64 (errRem zs fr y)))) (.var (if errRem zs fr y = 0 then sSegs e (putL zs [0, 0] y) (ad.set y.toNat false) k ch fr (ng.set y.toNat false) (gn.set y.toNat true) else sSegs e zs ad k ch fr ng gn))
  | _, _, _, _ => False
theorem remSM_ok : ∀ pos x args K, remSM pos x args K → ∃ r x', FnMO 99 pos x args r x' ∧ K r x' := by
  intro pos x args K h
  unfold remSM at h
  split at h
  · exact ⟨_, _, remove_ok _ _ _ _ _ _ _ _ _, h⟩
  · exact h.elim
def proSM : Nat → Bk → List A → (Res → Bk → Prop) → Prop
  | 0, .var [.ints .i64 1 [e], .ints .i64 31 zs, .bools 8 ad, .ints .i64 1 [k], .bytes 32 ch, .ints .i64 1 [fr], .bools 8 ng, .bools 8 gn], [.v (.int .i64 y)], K =>
    K (.d (.v (.int .i64 (errPro zs ad y)))) (.var (if errPro zs ad y = 0 then sSegs e zs (ad.set y.toNat true) k ch fr ng gn else sSegs e zs ad k ch fr ng gn))
  | _, _, _, _ => False
theorem proSM_ok : ∀ pos x args K, proSM pos x args K → ∃ r x', FnMO 100 pos x args r x' ∧ K r x' := by
  intro pos x args K h
  unfold proSM at h
  split at h
  · exact ⟨_, _, promote_ok _ _ _ _ _ _ _ _ _, h⟩
  · exact h.elim
def demSM : Nat → Bk → List A → (Res → Bk → Prop) → Prop
  | 0, .var [.ints .i64 1 [e], .ints .i64 31 zs, .bools 8 ad, .ints .i64 1 [k], .bytes 32 ch, .ints .i64 1 [fr], .bools 8 ng, .bools 8 gn], [.v (.int .i64 y)], K =>
    K (.d (.v (.int .i64 (errDem zs ad y)))) (.var (if errDem zs ad y = 0 then sSegs e zs (ad.set y.toNat false) k ch fr ng gn else sSegs e zs ad k ch fr ng gn))
  | _, _, _, _ => False
theorem demSM_ok : ∀ pos x args K, demSM pos x args K → ∃ r x', FnMO 101 pos x args r x' ∧ K r x' := by
  intro pos x args K h
  unfold demSM at h
  split at h
  · exact ⟨_, _, demote_ok _ _ _ _ _ _ _ _ _, h⟩
  · exact h.elim
def limSM : Nat → Bk → List A → (Res → Bk → Prop) → Prop
  | 0, .var [.ints .i64 1 [e], .ints .i64 31 zs, .bools 8 ad, .ints .i64 1 [k], .bytes 32 ch, .ints .i64 1 [fr], .bools 8 ng, .bools 8 gn], [.v (.int .i64 y)], K =>
    K (.d (.v (.int .i64 (errLim y)))) (.var (if errLim y = 0 then sSegs e zs ad y ch fr ng gn else sSegs e zs ad k ch fr ng gn))
  | _, _, _, _ => False
theorem limSM_ok : ∀ pos x args K, limSM pos x args K → ∃ r x', FnMO 102 pos x args r x' ∧ K r x' := by
  intro pos x args K h
  unfold limSM at h
  split at h
  · exact ⟨_, _, limit_ok _ _ _ _ _ _ _ _ _, h⟩
  · exact h.elim
noncomputable def envVi : EnvX := envVh.addM 98 addSM addSM_ok ⟨_, Tryz.func98, by kernel_rfl, by kernel_rfl⟩
noncomputable def envVj : EnvX := envVi.addM 99 remSM remSM_ok ⟨_, Tryz.func99, by kernel_rfl, by kernel_rfl⟩
noncomputable def envVk : EnvX := envVj.addM 100 proSM proSM_ok ⟨_, Tryz.func100, by kernel_rfl, by kernel_rfl⟩
noncomputable def envVl : EnvX := envVk.addM 101 demSM demSM_ok ⟨_, Tryz.func101, by kernel_rfl, by kernel_rfl⟩
noncomputable def envVm : EnvX := envVl.addM 102 limSM limSM_ok ⟨_, Tryz.func102, by kernel_rfl, by kernel_rfl⟩
set_option maxHeartbeats 8000000 in
theorem one_ok (e : Int) (s : Vw) (ch : List UInt8) (fr : Int) (o : List Int) :
    FnMO 80 0 (.var (wSegs e s ch fr)) [.agg [.ints .i64 5 o]] (.d (.v (.int .i64 (errOp s fr o)))) (.var (if errOp s fr o = 0 then wSegs e (nextOp s o) ch fr else wSegs e s ch fr)) := by
  refine fnM_lens fun _ hl => ?_
  obtain ⟨a, b, c, d, f, rfl⟩ := five hl.1.1
  clear hl
  refine fnMA (E := envVm) Tryz.func80 Tryz.ntmps80 ?_
  by_cases h1 : a = 1
  · subst h1
    have e1 : errOp s fr [1, b, c, d, f] = errAdd s.zs [d, f] := rfl
    have e2 : nextOp s [1, b, c, d, f] = ⟨putL s.zs [d, f] (freeN s.zs : Nat), s.ad, s.k, s.ng.set (freeN s.zs) true, s.gn⟩ := rfl
    rw [e1, e2]
    clear e1 e2
    refine agom ?_; (try with_reducible exact True.intro)
  have n1 : (a == 1) = false := by simpa using h1
  by_cases h2 : a = 2
  · subst h2
    have e1 : errOp s fr [2, b, c, d, f] = errRem s.zs fr b := rfl
    have e2 : nextOp s [2, b, c, d, f] = ⟨putL s.zs [0, 0] b, s.ad.set b.toNat false, s.k, s.ng.set b.toNat false, s.gn.set b.toNat true⟩ := rfl
    rw [e1, e2]
    clear e1 e2 h1
    refine agom ?_; (try with_reducible exact True.intro)
  have n2 : (a == 2) = false := by simpa using h2
  by_cases h3 : a = 3
  · subst h3
    have e1 : errOp s fr [3, b, c, d, f] = errPro s.zs s.ad b := rfl
    have e2 : nextOp s [3, b, c, d, f] = ⟨s.zs, s.ad.set b.toNat true, s.k, s.ng, s.gn⟩ := rfl
    rw [e1, e2]
    clear e1 e2 h1 h2
    refine agom ?_; (try with_reducible exact True.intro)
  have n3 : (a == 3) = false := by simpa using h3
  by_cases h4 : a = 4
  · subst h4
    have e1 : errOp s fr [4, b, c, d, f] = errDem s.zs s.ad b := rfl
    have e2 : nextOp s [4, b, c, d, f] = ⟨s.zs, s.ad.set b.toNat false, s.k, s.ng, s.gn⟩ := rfl
    rw [e1, e2]
    clear e1 e2 h1 h2 h3
    refine agom ?_; (try with_reducible exact True.intro)
  have n4 : (a == 4) = false := by simpa using h4
  have e1 : errOp s fr [a, b, c, d, f] = errLim c := by simp [errOp, h1, h2, h3, h4]
  have e2 : nextOp s [a, b, c, d, f] = ⟨s.zs, s.ad, c, s.ng, s.gn⟩ := by simp [nextOp, h1, h2, h3, h4]
  rw [e1, e2]
  clear e1 e2 h1 h2 h3 h4
  refine agom ?_; (try with_reducible exact True.intro)
def oneSM : Nat → Bk → List A → (Res → Bk → Prop) → Prop
  | 0, .var [.ints .i64 1 [e], .ints .i64 31 zs, .bools 8 ad, .ints .i64 1 [k], .bytes 32 ch, .ints .i64 1 [fr], .bools 8 ng, .bools 8 gn], [.agg [.ints .i64 5 o]], K =>
    K (.d (.v (.int .i64 (errOp ⟨zs, ad, k, ng, gn⟩ fr o)))) (.var (if errOp ⟨zs, ad, k, ng, gn⟩ fr o = 0 then wSegs e (nextOp ⟨zs, ad, k, ng, gn⟩ o) ch fr else sSegs e zs ad k ch fr ng gn))
  | _, _, _, _ => False
theorem oneSM_ok : ∀ pos x args K, oneSM pos x args K → ∃ r x', FnMO 80 pos x args r x' ∧ K r x' := by
  intro pos x args K h
  unfold oneSM at h
  split at h
  · exact ⟨_, _, one_ok _ ⟨_, _, _, _, _⟩ _ _ _, h⟩
  · exact h.elim
noncomputable def envVn : EnvX := envVm.addM 80 oneSM oneSM_ok ⟨_, Tryz.func80, by kernel_rfl, by kernel_rfl⟩
/-- operations in a row, from the j-th on: the first error, and what was done -/
def runE (fr : Int) (ops : List Int) : Nat → Nat → Vw → Int × Vw
  | 0, _, s => (0, s)
  | d + 1, j, s => if errOp s fr (opAt ops j) = 0 then runE fr ops d (j + 1) (nextOp s (opAt ops j)) else (errOp s fr (opAt ops j), s)
/-- operations by someone: an error, and what was done -/
def doR (e : Int) (s : Vw) (fr : Int) (ops : List Int) (n : Nat) : Int × Vw :=
  if (!mayV e s.zs s.ad s.k || decide (n > 4) || oddTo ops n) = true then (1, s) else if memB s.zs fr = false then (6, s) else
  if (runE fr ops n 0 s).1 ≠ 0 then runE fr ops n 0 s else if ((cntB (runE fr ops n 0 s).2.ad : Nat) : Int) < (runE fr ops n 0 s).2.k then (7, (runE fr ops n 0 s).2) else (0, (runE fr ops n 0 s).2)
end Go.Proofs.YtpemaphgmfaioaaGreat

/-
  Views: operations done, as the program does them.
-/
namespace Go.Proofs.YtpemaphgmfaioaaGreat
set_option maxRecDepth 100000
open Go.RowKit Pm
set_option linter.unusedVariables false
set_option linter.unusedSimpArgs false
attribute [local irreducible] condK LoopA regA isI memTo memL freeN usedB fullB putL errAdd isT memB errOp nextOp mayV oddTo cntB runE opAt

theorem nine : (List.replicate 31 (0 : Int)).length = 31 := rfl
set_option maxHeartbeats 4000000 in
theorem do_ok (e : Int) (s : Vw) (ch : List UInt8) (fr : Int) (ops : List Int) (n : Nat) (hn : n ≤ 1000000) :
    FnMO 48 0 (.var (wSegs e s ch fr)) [.row n [.ints .i64 (n * 5) ops]] (.d (.v (.int .i64 (doR e s fr ops n).1))) (.var (wSegs e (doR e s fr ops n).2 ch fr)) := by
  refine fnMA (E := envVn) Tryz.func48 Tryz.ntmps48 ?_
  cases hV : mayV e s.zs s.ad s.k with
  | false =>
    have hr : doR e s fr ops n = (1, s) := by simp [doR, hV]
    rw [hr]
    clear hr
    refine agom ?_; (try with_reducible exact True.intro)
  | true =>
  by_cases h4 : n > 4
  · have hr : doR e s fr ops n = (1, s) := by simp [doR, hV, h4]
    have h41 : decide ((n : Int) > 4) = true := by simp; omega
    rw [hr]
    clear hr
    refine agom ?_; (try with_reducible exact True.intro)
  have h41 : decide ((n : Int) > 4) = false := by simp; omega
  cases hO : oddTo ops n with
  | true =>
    have hr : doR e s fr ops n = (1, s) := by simp [doR, hO]
    rw [hr]
    clear hr
    refine agom ?_; (try with_reducible exact True.intro)
  | false =>
  cases hM : memB s.zs fr with
  | false =>
    have hr : doR e s fr ops n = (6, s) := by simp [doR, hV, h4, hO, hM]
    rw [hr]
    clear hr
    refine agom ?_; (try with_reducible exact True.intro)
  | true =>
  have hr : doR e s fr ops n = (if (runE fr ops n 0 s).1 ≠ 0 then runE fr ops n 0 s else if ((cntB (runE fr ops n 0 s).2.ad : Nat) : Int) < (runE fr ops n 0 s).2.k then (7, (runE fr ops n 0 s).2) else (0, (runE fr ops n 0 s).2)) := by
    simp only [doR, hV, hO, hM, decide_eq_false h4]
    simp
  rw [hr]
  clear hr
  refine agom ?_; (try with_reducible exact True.intro)
  have hR0 : runE fr ops n 0 s = runE fr ops n 0 s := rfl
  generalize hR : runE fr ops n 0 s = R at *
  refine StopL.mk (loop_inv [0, 34, 35, 36] 1 (fun st => ∃ j : Nat, j ≤ n ∧ ∃ q : Vw, runE fr ops (n - j) j q = R ∧ st = ⟨[.ptr 0 0, .dead, .dead, .dead, .dead, .dead, .dead, .dead, .dead, .dead, .dead, .dead, .dead, .dead, .dead, .dead, .dead, .dead, .dead, .dead, .dead, .dead, .dead, .dead, .dead, .dead, .dead, .dead, .dead, .dead, .dead, .dead, .dead, .dead, .d (.row n [.ints .i64 (n * 5) ops]), .d (.v (.int .i64 n)), .d (.v (.int .i64 (j : Nat))), .dead, .dead, .dead, .dead, .dead, .dead, .dead, .dead, .dead, .dead, .dead, .dead, .dead, .dead, .dead, .dead, .dead, .dead, .dead, .dead, .dead, .dead], [some (.var (wSegs e q ch fr))]⟩) (fun s => n - intAt s 36) rfl ⟨0, by omega, s, hR, rfl⟩ ?_)
  clear hR hR0 hV h41 h4 hO hM
  rintro st ⟨j, hj, ⟨zs, ad, k, ng, gn⟩, hrun, rfl⟩
  have hw : IntKind.i64.wrap ((j : Int) + 1) = ((j + 1 : Nat) : Int) := by rw [wrapS (by omega) (by omega)]; omega
  by_cases hj2 : j < n
  · obtain ⟨d, hd⟩ : ∃ d, n - j = d + 1 := ⟨n - j - 1, by omega⟩
    have hopAt : opAt ops j = (ops.drop (j * 5)).take 5 := by unfold opAt; rfl
    rw [hd] at hrun
    unfold runE at hrun
    rw [hopAt] at hrun
    clear hopAt
    generalize ho : (ops.drop (j * 5)).take 5 = o at *
    by_cases he : errOp ⟨zs, ad, k, ng, gn⟩ fr o = 0
    · rw [if_pos he] at hrun
      have he1 : (errOp ⟨zs, ad, k, ng, gn⟩ fr o != 0) = false := by rw [he]; rfl
      rw [← ho] at he1 he
      refine agom ?_; (try with_reducible exact True.intro)
      refine ⟨⟨j + 1, by omega, nextOp ⟨zs, ad, k, ng, gn⟩ o, by rw [show n - (j + 1) = d by omega]; exact hrun, by rw [if_pos he, ho, ← hw]; rfl⟩, ?_⟩
      show n - (IntKind.i64.wrap ((j : Int) + 1)).toNat < n - (j : Int).toNat
      rw [hw]; omega
    · rw [if_neg he] at hrun
      have he1 : (errOp ⟨zs, ad, k, ng, gn⟩ fr o != 0) = true := by simpa using he
      have he2 : R.1 ≠ 0 := by rw [← hrun]; exact he
      rw [if_pos he2, ← hrun]
      rw [← ho] at he1 he
      clear hrun he2
      rw [← ho]
      refine agom ?_; (try with_reducible exact True.intro)
      rw [if_neg he]
      refine agom ?_; (try with_reducible exact True.intro)
  · obtain rfl : j = n := by omega
    rw [Nat.sub_self] at hrun
    unfold runE at hrun
    subst hrun
    rw [if_neg (by simp)]
    by_cases hc : ((cntB ad : Nat) : Int) < k
    · rw [if_pos hc]
      refine agom ?_; (try with_reducible exact True.intro)
    · rw [if_neg hc]
      refine agom ?_; (try with_reducible exact True.intro)
def doSM : Nat → Bk → List A → (Res → Bk → Prop) → Prop
  | 0, .var [.ints .i64 1 [e], .ints .i64 31 zs, .bools 8 ad, .ints .i64 1 [k], .bytes 32 ch, .ints .i64 1 [fr], .bools 8 ng, .bools 8 gn], [.row n [.ints .i64 m ops]], K =>
    m = n * 5 ∧ n ≤ 1000000 ∧ K (.d (.v (.int .i64 (doR e ⟨zs, ad, k, ng, gn⟩ fr ops n).1))) (.var (wSegs e (doR e ⟨zs, ad, k, ng, gn⟩ fr ops n).2 ch fr))
  | _, _, _, _ => False
theorem doSM_ok : ∀ pos x args K, doSM pos x args K → ∃ r x', FnMO 48 pos x args r x' ∧ K r x' := by
  intro pos x args K h
  unfold doSM at h
  split at h
  · obtain ⟨rfl, h1, h⟩ := h
    exact ⟨_, _, do_ok _ ⟨_, _, _, _, _⟩ _ _ _ _ h1, h⟩
  · exact h.elim
noncomputable def envVo : EnvX := envVn.addM 48 doSM doSM_ok ⟨_, Tryz.func48, by kernel_rfl, by kernel_rfl⟩
/-- nobody -/
abbrev F8 : List Bool := [false, false, false, false, false, false, false, false]
/-- a view of nothing -/
abbrev vZero : List Seg := vSegs 0 (List.replicate 31 0) F8 0 (List.replicate 32 0)
/-- what operations come to: the view, who was added, who is gone, an error -/
def appR (e : Int) (zs : List Int) (ad : List Bool) (k : Int) (ch : List UInt8) (fr : Int) (ops : List Int) (n : Nat) : List A :=
  if (doR e ⟨zs, ad, k, F8, F8⟩ fr ops n).1 = 0 then [.agg (vSegs e (doR e ⟨zs, ad, k, F8, F8⟩ fr ops n).2.zs (doR e ⟨zs, ad, k, F8, F8⟩ fr ops n).2.ad (doR e ⟨zs, ad, k, F8, F8⟩ fr ops n).2.k ch), .agg [.bools 8 (doR e ⟨zs, ad, k, F8, F8⟩ fr ops n).2.ng], .agg [.bools 8 (doR e ⟨zs, ad, k, F8, F8⟩ fr ops n).2.gn], .v (.int .i64 0)]
  else [.agg vZero, .agg [.bools 8 F8], .agg [.bools 8 F8], .v (.int .i64 (doR e ⟨zs, ad, k, F8, F8⟩ fr ops n).1)]
attribute [local irreducible] doR
set_option maxHeartbeats 4000000 in
theorem apply_ok (e : Int) (zs : List Int) (ad : List Bool) (k : Int) (ch : List UInt8) (fr : Int) (ops : List Int) (n : Nat) (hn : n ≤ 1000000) :
    FnO 21 [.agg (vSegs e zs ad k ch), .v (.int .i64 fr), .row n [.ints .i64 (n * 5) ops]] (.t (appR e zs ad k ch fr ops n)) := by
  refine fnA (E := envVo) Tryz.func21 Tryz.ntmps21 ?_
  unfold appR
  by_cases he : (doR e ⟨zs, ad, k, F8, F8⟩ fr ops n).1 = 0
  · have he1 : ((doR e ⟨zs, ad, k, F8, F8⟩ fr ops n).1 != 0) = false := by rw [he]; rfl
    rw [if_pos he]
    clear he
    refine agom ?_; (try with_reducible exact True.intro)
  · have he1 : ((doR e ⟨zs, ad, k, F8, F8⟩ fr ops n).1 != 0) = true := by simpa using he
    rw [if_neg he]
    clear he
    refine agom ?_; (try with_reducible exact True.intro)
    rfl
end Go.Proofs.YtpemaphgmfaioaaGreat
