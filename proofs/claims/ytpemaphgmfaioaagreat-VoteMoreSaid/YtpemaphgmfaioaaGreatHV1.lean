/-
  Views: members, admins.
-/
import Derived.Test.YtpemaphgmfaioaaGreatHT2
import Derived.Test.YtpemaphgmfaioaaGreatHA2
namespace Go.Proofs.YtpemaphgmfaioaaGreat
set_option maxRecDepth 100000
open Go.RowKit Pm
set_option linter.unusedVariables false
set_option linter.unusedSimpArgs false
attribute [local irreducible] condK LoopA regA

/-! whether a number is among others -/
def idxG (xs : List Int) (v : Int) : Int := if v ∈ xs then (xs.idxOf v : Nat) else -1
def idxGS : List A → (Res → Prop) → Prop
  | [.row n [.ints .i64 n' xs], .v (.int .i64 v)], K => n = xs.length ∧ n' = xs.length ∧ xs.length ≤ 1000000 ∧ K (.d (.v (.int .i64 (idxG xs v))))
  | _, _ => False
theorem idxOf_at {xs : List Int} {v : Int} {k : Nat} (hk : k < xs.length) (h : xs.getD k 0 = v) (hn : ∀ j < k, xs.getD j 0 ≠ v) : idxG xs v = (k : Nat) := by
  have e : xs[k] = v := by simpa [List.getD_eq_getElem?_getD, hk] using h
  have hm : v ∈ xs := e ▸ List.getElem_mem hk
  have hi : xs.idxOf v < xs.length := List.idxOf_lt_length_of_mem hm
  have hv : xs[xs.idxOf v] = v := List.getElem_idxOf hi
  have h1 : ¬ xs.idxOf v < k := fun h' => hn _ h' (by rw [List.getD_eq_getElem?_getD, List.getElem?_eq_getElem hi]; exact hv)
  have h2 : ¬ k < xs.idxOf v := fun h' => by
    have := List.not_of_lt_findIdx (xs := xs) (p := (· == v)) (i := k) (by unfold List.idxOf at h'; exact h')
    simp [e] at this
  unfold idxG
  rw [if_pos hm, show xs.idxOf v = k by omega]
theorem idxOf_none {xs : List Int} {v : Int} (hn : ∀ j < xs.length, xs.getD j 0 ≠ v) : idxG xs v = -1 := by
  unfold idxG
  rw [if_neg]
  intro h
  obtain ⟨i, hi, e⟩ := List.getElem_of_mem h
  exact hn i hi (by simpa [List.getD_eq_getElem?_getD, hi] using e)
set_option maxHeartbeats 4000000 in
theorem idxG_ok (xs : List Int) (v : Int) (hl : xs.length ≤ 1000000) : FnO 110 [.row xs.length [.ints .i64 xs.length xs], .v (.int .i64 v)] (.d (.v (.int .i64 (idxG xs v)))) := by
  refine fnA (E := env0) Tryz.func110 Tryz.ntmps110 ?_
  refine agom ?_; (try with_reducible exact True.intro)
  refine StopL.mk (loop_inv [0, 1, 7, 8] 1 (fun s => ∃ k : Nat, k ≤ xs.length ∧ (∀ j < k, xs.getD j 0 ≠ v) ∧ s = ⟨[.d (.row xs.length [.ints .i64 xs.length xs]), .d (.v (.int .i64 v)), .dead, .dead, .dead, .dead, .dead, .d (.v (.int .i64 xs.length)), .d (.v (.int .i64 (k : Nat))), .dead, .dead, .dead, .dead, .dead, .dead, .dead, .dead, .dead, .dead], []⟩) (fun s => xs.length - intAt s 8) rfl ⟨0, by omega, by intro j hj; omega, rfl⟩ ?_)
  rintro s ⟨k, hk, hj, rfl⟩
  have hw : IntKind.i64.wrap ((k : Int) + 1) = ((k + 1 : Nat) : Int) := by rw [wrapS (by omega) (by omega)]; omega
  by_cases hk2 : k < xs.length
  · by_cases he : xs.getD k 0 = v
    · have h1 := idxOf_at hk2 he hj
      have he1 : (v == xs.getD k 0) = true := by rw [he]; simp
      rw [h1]
      clear he hj h1
      refine agom ?_; (try with_reducible exact True.intro)
    · have he1 : (v == xs.getD k 0) = false := by simpa using fun h => he h.symm
      refine agom ?_; (try with_reducible exact True.intro)
      refine ⟨⟨k + 1, by omega, fun j hj2 => ?_, by rw [← hw]; rfl⟩, ?_⟩
      · rcases Nat.lt_or_eq_of_le (Nat.le_of_lt_succ hj2) with h | rfl
        · exact hj j h
        · exact he
      · show xs.length - (IntKind.i64.wrap ((k : Int) + 1)).toNat < xs.length - (k : Int).toNat
        rw [hw]; omega
  · have h1 := idxOf_none (xs := xs) (v := v) fun j hj2 => hj j (by omega)
    rw [h1]
    clear hj h1
    refine agom ?_; (try with_reducible exact True.intro)
theorem idxGS_ok : ∀ args K, idxGS args K → ∃ r, FnO 110 args r ∧ K r := by
  intro args K h
  unfold idxGS at h
  split at h
  · obtain ⟨rfl, rfl, h1, h⟩ := h
    exact ⟨_, idxG_ok _ _ h1, h⟩
  · exact h.elim
noncomputable def envV1 : EnvX := env16.add 110 idxGS idxGS_ok ⟨_, Tryz.func110, by kernel_rfl, by kernel_rfl⟩
def hasGS : List A → (Res → Prop) → Prop
  | [.row n [.ints .i64 n' xs], .v (.int .i64 v)], K => n = xs.length ∧ n' = xs.length ∧ xs.length ≤ 1000000 ∧ K (.d (.v (.bool (decide (v ∈ xs)))))
  | _, _ => False
theorem hasG_ok (xs : List Int) (v : Int) (hl : xs.length ≤ 1000000) : FnO 96 [.row xs.length [.ints .i64 xs.length xs], .v (.int .i64 v)] (.d (.v (.bool (decide (v ∈ xs))))) := by
  refine fnA (E := envV1) Tryz.func96 Tryz.ntmps96 ?_
  refine ago ?_; (try with_reducible exact True.intro)
  have : decide (idxG xs v ≥ 0) = decide (v ∈ xs) := by
    unfold idxG
    by_cases h : v ∈ xs
    · rw [if_pos h]; simp [h]
    · rw [if_neg h]; simp [h]
  rw [this]
theorem hasGS_ok : ∀ args K, hasGS args K → ∃ r, FnO 96 args r ∧ K r := by
  intro args K h
  unfold hasGS at h
  split at h
  · obtain ⟨rfl, rfl, h1, h⟩ := h
    exact ⟨_, hasG_ok _ _ h1, h⟩
  · exact h.elim
/-! members -/
def memL (zs : List Int) (k : Nat) : Bool := decide (leafP zs k ≠ [0, 0])
def memTo (zs : List Int) : Nat → List Int
  | 0 => []
  | k + 1 => memTo zs k ++ (if memL zs k = true then [(k : Int)] else [])
theorem memTo_len (zs : List Int) : ∀ k, (memTo zs k).length ≤ k
  | 0 => by simp [memTo]
  | k + 1 => by
    have := memTo_len zs k
    rw [memTo, List.length_append]
    split <;> simp <;> omega
theorem memTo_mem (zs : List Int) : ∀ (k : Nat) (i : Int), i ∈ memTo zs k ↔ 0 ≤ i ∧ i < k ∧ memL zs i.toNat = true
  | 0, i => by simp [memTo]; omega
  | k + 1, i => by
    rw [memTo, List.mem_append, memTo_mem zs k i]
    by_cases h : memL zs k = true
    · rw [if_pos h, List.mem_singleton]
      constructor
      · rintro (⟨h1, h2, h3⟩ | rfl)
        · exact ⟨h1, by omega, h3⟩
        · exact ⟨by omega, by omega, by simpa using h⟩
      · rintro ⟨h1, h2, h3⟩
        by_cases e : i = k
        · exact .inr e
        · exact .inl ⟨h1, by omega, h3⟩
    · rw [if_neg h]
      constructor
      · rintro (⟨h1, h2, h3⟩ | h4)
        · exact ⟨h1, by omega, h3⟩
        · simp at h4
      · rintro ⟨h1, h2, h3⟩
        by_cases e : i = k
        · subst e; simp at h3; exact absurd h3 h
        · exact .inl ⟨h1, by omega, h3⟩
/-- is there a member at this place? -/
def memB (zs : List Int) (i : Int) : Bool := leafB i && memL zs i.toNat
theorem memB_in (zs : List Int) (i : Int) : decide (i ∈ memTo zs 8) = memB zs i := by
  have := memTo_mem zs 8 i
  rw [Bool.eq_iff_iff]
  simp [memB, leafB, this]
  constructor
  · rintro ⟨h1, h2, h3⟩; exact ⟨⟨h1, by omega⟩, h3⟩
  · rintro ⟨⟨h1, h2⟩, h3⟩; exact ⟨h1, by omega, h3⟩
set_option maxHeartbeats 8000000 in
theorem members_ok (zs : List Int) : FnO 97 [.agg [.ints .i64 31 zs]] (.o 3 1 (memTo zs 8).length [.ints .i64 (memTo zs 8).length (memTo zs 8)]) := by
  refine fnA (E := envV1) Tryz.func97 Tryz.ntmps97 ?_
  refine agom ?_; (try with_reducible exact True.intro)
  refine StopL.mk (loop_nil [3, 7, 8] 1 3 3 1 [.ints .i64 0 []] (fun s => ∃ k : Nat, k ≤ 8 ∧ s = ⟨[.dead, .dead, .dead, .own 1 (memTo zs k).length, .dead, .dead, .dead, .d (.agg [.ints .i64 16 (zs.take 16)]), .d (.v (.int .i64 (k : Nat))), .dead, .dead, .dead, .dead, .dead, .dead, .dead, .dead, .dead, .dead, .dead, .dead], [some (.var [.ints .i64 31 zs]), some (.sl 3 1 (memTo zs k).length [.ints .i64 (memTo zs k).length (memTo zs k)])]⟩) (fun s => 8 - intAt s 8) rfl rfl rfl rfl ⟨0, by omega, rfl⟩ ?_)
  rintro s ⟨k, hk, rfl⟩
  have hw : IntKind.i64.wrap ((k : Int) + 1) = ((k + 1 : Nat) : Int) := by rw [wrapS (by omega) (by omega)]; omega
  by_cases hk8 : k < 8
  · have L := memTo_len zs k
    by_cases hz : ((zs.take 16).drop (k * 2)).take 2 = [0, 0]
    · have hs : memTo zs (k + 1) = memTo zs k := by rw [memTo, if_neg (by simp [memL, leafP, hz]), List.append_nil]
      refine agom ?_; (try with_reducible exact True.intro)
      refine ⟨⟨k + 1, by omega, by rw [hs, ← hw]; rfl⟩, ?_⟩
      show 8 - (IntKind.i64.wrap ((k : Int) + 1)).toNat < 8 - (k : Int).toNat
      rw [hw]; omega
    · have hs : memTo zs (k + 1) = memTo zs k ++ [(k : Int)] := by rw [memTo, if_pos (by simp [memL, leafP, hz])]
      refine agom ?_; (try with_reducible exact True.intro)
      refine ⟨⟨k + 1, by omega, by rw [hs, List.length_append, ← hw]; rfl⟩, ?_⟩
      show 8 - (IntKind.i64.wrap ((k : Int) + 1)).toNat < 8 - (k : Int).toNat
      rw [hw]; omega
  · obtain rfl : k = 8 := by omega
    refine agom ?_; (try with_reducible exact True.intro)
def membersS : List A → (Res → Prop) → Prop
  | [.agg [.ints .i64 31 zs]], K => K (.o 3 1 (memTo zs 8).length [.ints .i64 (memTo zs 8).length (memTo zs 8)])
  | _, _ => False
theorem membersS_ok : ∀ args K, membersS args K → ∃ r, FnO 97 args r ∧ K r := by
  intro args K h
  unfold membersS at h
  split at h
  · exact ⟨_, members_ok _, h⟩
  · exact h.elim
noncomputable def envV2 : EnvX := envV1.add 96 hasGS hasGS_ok ⟨_, Tryz.func96, by kernel_rfl, by kernel_rfl⟩
noncomputable def envV3 : EnvX := envV2.add 97 membersS membersS_ok ⟨_, Tryz.func97, by kernel_rfl, by kernel_rfl⟩
def isMemS : List A → (Res → Prop) → Prop
  | [.agg [.ints .i64 31 zs], .v (.int .i64 i)], K => K (.d (.v (.bool (memB zs i))))
  | _, _ => False
theorem isMem_ok (zs : List Int) (i : Int) : FnO 79 [.agg [.ints .i64 31 zs], .v (.int .i64 i)] (.d (.v (.bool (memB zs i)))) := by
  refine fnA (E := envV3) Tryz.func79 Tryz.ntmps79 ?_
  have L : (memTo zs 8).length ≤ 1000000 := Nat.le_trans (memTo_len zs 8) (by decide)
  refine ago ?_; (try with_reducible exact True.intro)
  rw [memB_in]
theorem isMemS_ok : ∀ args K, isMemS args K → ∃ r, FnO 79 args r ∧ K r := by
  intro args K h
  unfold isMemS at h
  split at h
  · exact ⟨_, isMem_ok _ _, h⟩
  · exact h.elim
/-! admins -/
def cntB (ad : List Bool) : Nat := ad.countP id
theorem cnt_step (ad : List Bool) (k : Nat) (hk : k < ad.length) : cntB (ad.take (k + 1)) = cntB (ad.take k) + (if ad.getD k false = true then 1 else 0) := by
  unfold cntB
  rw [List.take_succ_eq_append_getElem hk, List.countP_append, List.countP_singleton]
  simp [List.getD_eq_getElem?_getD, hk]
theorem cnt_le (ad : List Bool) : cntB ad ≤ ad.length := List.countP_le_length
end Go.Proofs.YtpemaphgmfaioaaGreat

/-
  Views: whether one may be.
-/
namespace Go.Proofs.YtpemaphgmfaioaaGreat
set_option maxRecDepth 100000
open Go.RowKit Pm
set_option linter.unusedVariables false
set_option linter.unusedSimpArgs false
attribute [local irreducible] condK LoopA regA

def countS : List A → (Res → Prop) → Prop
  | [.agg [.bools 8 ad]], K => K (.d (.v (.int .i64 (cntB ad : Nat))))
  | _, _ => False
set_option maxHeartbeats 4000000 in
theorem count_ok (ad : List Bool) : FnO 81 [.agg [.bools 8 ad]] (.d (.v (.int .i64 (cntB ad : Nat)))) := by
  refine fn_lens fun hl => ?_
  replace hl : ad.length = 8 := hl.1.1
  refine fnA (E := env0) Tryz.func81 Tryz.ntmps81 ?_
  refine agom ?_; (try with_reducible exact True.intro)
  refine StopL.mk (loop_inv [3, 6, 7] 1 (fun s => ∃ k : Nat, k ≤ 8 ∧ s = ⟨[.dead, .dead, .dead, .d (.v (.int .i64 (cntB (ad.take k) : Nat))), .dead, .dead, .d (.agg [.bools 8 ad]), .d (.v (.int .i64 (k : Nat))), .dead, .dead, .dead, .dead, .dead, .dead, .dead], [some (.var [.bools 8 ad])]⟩) (fun s => 8 - intAt s 7) rfl ⟨0, by omega, rfl⟩ ?_)
  rintro s ⟨k, hk, rfl⟩
  have hw : IntKind.i64.wrap ((k : Int) + 1) = ((k + 1 : Nat) : Int) := by rw [wrapS (by omega) (by omega)]; omega
  have hc : cntB (ad.take k) ≤ 8 := Nat.le_trans (cnt_le _) (by simp; omega)
  have hwc : IntKind.i64.wrap ((cntB (ad.take k) : Nat) + 1) = ((cntB (ad.take k) + 1 : Nat) : Int) := by rw [wrapS (by omega) (by omega)]; omega
  by_cases hk8 : k < 8
  · have hs := cnt_step ad k (by omega)
    cases hb : ad.getD k false with
    | true =>
      rw [hb, if_pos rfl] at hs
      refine agom ?_; (try with_reducible exact True.intro)
      refine ⟨⟨k + 1, by omega, by rw [hs, ← hwc, ← hw]; rfl⟩, ?_⟩
      show 8 - (IntKind.i64.wrap ((k : Int) + 1)).toNat < 8 - (k : Int).toNat
      rw [hw]; omega
    | false =>
      rw [hb, if_neg (by simp)] at hs
      refine agom ?_; (try with_reducible exact True.intro)
      refine ⟨⟨k + 1, by omega, by rw [hs, ← hw]; rfl⟩, ?_⟩
      show 8 - (IntKind.i64.wrap ((k : Int) + 1)).toNat < 8 - (k : Int).toNat
      rw [hw]; omega
  · obtain rfl : k = 8 := by omega
    have e : ad.take 8 = ad := List.take_of_length_le (by omega)
    rw [e]
    refine agom ?_; (try with_reducible exact True.intro)
theorem countS_ok : ∀ args K, countS args K → ∃ r, FnO 81 args r ∧ K r := by
  intro args K h
  unfold countS at h
  split at h
  · exact ⟨_, count_ok _, h⟩
  · exact h.elim
/-- a view: its epoch, tree, admins, threshold, history -/
abbrev vSegs (e : Int) (zs : List Int) (ad : List Bool) (k : Int) (ch : List UInt8) : List Seg := [.ints .i64 1 [e], .ints .i64 31 zs, .bools 8 ad, .ints .i64 1 [k], .bytes 32 ch]
def adminsS : List A → (Res → Prop) → Prop
  | [.agg [.ints .i64 1 [e], .ints .i64 31 zs, .bools 8 ad, .ints .i64 1 [k], .bytes 32 ch]], K => K (.d (.v (.int .i64 (cntB ad : Nat))))
  | _, _ => False
set_option maxHeartbeats 4000000 in
theorem admins_ok (e : Int) (zs : List Int) (ad : List Bool) (th : Int) (ch : List UInt8) : FnO 47 [.agg (vSegs e zs ad th ch)] (.d (.v (.int .i64 (cntB ad : Nat)))) := by
  refine fn_lens fun hl => ?_
  replace hl : ad.length = 8 := hl.1.2.2.1
  refine fnA (E := env0) Tryz.func47 Tryz.ntmps47 ?_
  refine agom ?_; (try with_reducible exact True.intro)
  refine StopL.mk (loop_inv [1, 3, 4] 1 (fun s => ∃ k : Nat, k ≤ 8 ∧ s = ⟨[.dead, .ptr 0 0, .dead, .d (.v (.int .i64 (cntB (ad.take k) : Nat))), .d (.v (.int .i64 (k : Nat))), .dead, .dead, .dead, .dead, .dead, .dead, .dead, .dead, .dead, .dead, .dead], [some (.var (vSegs e zs ad th ch))]⟩) (fun s => 8 - intAt s 4) rfl ⟨0, by omega, rfl⟩ ?_)
  rintro s ⟨k, hk, rfl⟩
  have hw : IntKind.i64.wrap ((k : Int) + 1) = ((k + 1 : Nat) : Int) := by rw [wrapS (by omega) (by omega)]; omega
  have hc : cntB (ad.take k) ≤ 8 := Nat.le_trans (cnt_le _) (by simp; omega)
  have hwc : IntKind.i64.wrap ((cntB (ad.take k) : Nat) + 1) = ((cntB (ad.take k) + 1 : Nat) : Int) := by rw [wrapS (by omega) (by omega)]; omega
  by_cases hk8 : k < 8
  · have hs := cnt_step ad k (by omega)
    cases hb : ad.getD k false with
    | true =>
      rw [hb, if_pos rfl] at hs
      refine agom ?_; (try with_reducible exact True.intro)
      refine ⟨⟨k + 1, by omega, by rw [hs, ← hwc, ← hw]; rfl⟩, ?_⟩
      show 8 - (IntKind.i64.wrap ((k : Int) + 1)).toNat < 8 - (k : Int).toNat
      rw [hw]; omega
    | false =>
      rw [hb, if_neg (by simp)] at hs
      refine agom ?_; (try with_reducible exact True.intro)
      refine ⟨⟨k + 1, by omega, by rw [hs, ← hw]; rfl⟩, ?_⟩
      show 8 - (IntKind.i64.wrap ((k : Int) + 1)).toNat < 8 - (k : Int).toNat
      rw [hw]; omega
  · obtain rfl : k = 8 := by omega
    have e : ad.take 8 = ad := List.take_of_length_le (by omega)
    rw [e]
    refine agom ?_; (try with_reducible exact True.intro)
theorem adminsS_ok : ∀ args K, adminsS args K → ∃ r, FnO 47 args r ∧ K r := by
  intro args K h
  unfold adminsS at h
  split at h
  · exact ⟨_, admins_ok _ _ _ _ _, h⟩
  · exact h.elim
def rMemS : List A → (Res → Prop) → Prop
  | [.agg [.ints .i64 1 [e], .ints .i64 31 zs, .bools 8 ad, .ints .i64 1 [k], .bytes 32 ch], .v (.int .i64 i)], K => K (.d (.v (.bool (memB zs i))))
  | _, _ => False
set_option maxHeartbeats 4000000 in
theorem rMem_ok (e : Int) (zs : List Int) (ad : List Bool) (th : Int) (ch : List UInt8) (i : Int) : FnO 44 [.agg (vSegs e zs ad th ch), .v (.int .i64 i)] (.d (.v (.bool (memB zs i)))) := by
  refine fnA (E := env0) Tryz.func44 Tryz.ntmps44 ?_
  by_cases h0 : 0 ≤ i
  · by_cases h1 : i < 8
    · obtain ⟨n, rfl⟩ := Int.eq_ofNat_of_zero_le h0
      have hn : n < 8 := by omega
      have hm : memB zs (n : Int) = decide ((zs.drop (n * 2)).take 2 ≠ [0, 0]) := by
        simp [memB, leafB, h1, memL, leafP_eq zs hn]
      rw [hm]
      clear hm
      refine agom ?_; (try with_reducible exact True.intro)
      simp [eqSegs]
    · have hm : memB zs i = false := by simp [memB, leafB, h1]
      rw [hm]
      clear hm
      refine agom ?_; (try with_reducible exact True.intro)
  · have hm : memB zs i = false := by simp [memB, leafB, h0]
    rw [hm]
    clear hm
    refine agom ?_; (try with_reducible exact True.intro)
theorem rMemS_ok : ∀ args K, rMemS args K → ∃ r, FnO 44 args r ∧ K r := by
  intro args K h
  unfold rMemS at h
  split at h
  · exact ⟨_, rMem_ok _ _ _ _ _ _, h⟩
  · exact h.elim
noncomputable def envV4 : EnvX := envV3.add 79 isMemS isMemS_ok ⟨_, Tryz.func79, by kernel_rfl, by kernel_rfl⟩
noncomputable def envV5 : EnvX := envV4.add 81 countS countS_ok ⟨_, Tryz.func81, by kernel_rfl, by kernel_rfl⟩
noncomputable def envV6 : EnvX := envV5.add 47 adminsS adminsS_ok ⟨_, Tryz.func47, by kernel_rfl, by kernel_rfl⟩
noncomputable def envV7 : EnvX := envV6.add 44 rMemS rMemS_ok ⟨_, Tryz.func44, by kernel_rfl, by kernel_rfl⟩
noncomputable def envV8 : EnvX := envV7.add 94 isTS (isTS_ok isTree_ok) ⟨_, Tryz.func94, by kernel_rfl, by kernel_rfl⟩
noncomputable def envV9 : EnvX := envV8.add 70 isS (isS_ok fun y => fn_plain1 fun w => is_any y w) ⟨_, Tryz.func70, by kernel_rfl, by kernel_rfl⟩
noncomputable def envVa : EnvX := envV9.add 111 putS (putS_ok put_ok) ⟨_, Tryz.func111, by kernel_rfl, by kernel_rfl⟩
noncomputable def envVb : EnvX := envVa.add 75 putS (putS_ok rput_ok) ⟨_, Tryz.func75, by kernel_rfl, by kernel_rfl⟩
/-- all admins are members -/
def admTo (zs : List Int) (ad : List Bool) (n : Nat) : Bool := (List.range n).all fun i => !ad.getD i false || memL zs i
/-- may this view be? -/
def mayV (e : Int) (zs : List Int) (ad : List Bool) (k : Int) : Bool := decide (0 ≤ e) && decide (e ≤ 1099511627776) && isT zs && admTo zs ad 8 && decide (1 ≤ k) && decide (k ≤ (cntB ad : Nat))
theorem admTo_step (zs : List Int) (ad : List Bool) (n : Nat) : admTo zs ad (n + 1) = (admTo zs ad n && (!ad.getD n false || memL zs n)) := by
  unfold admTo
  rw [List.range_succ, List.all_append]
  simp
theorem admTo_mono (zs : List Int) (ad : List Bool) : ∀ (d n : Nat), admTo zs ad (n + d) = true → admTo zs ad n = true
  | 0, n, h => h
  | d + 1, n, h => by
    rw [← Nat.add_assoc, admTo_step] at h
    simp only [Bool.and_eq_true] at h
    exact admTo_mono zs ad d n h.1
set_option maxHeartbeats 8000000 in
theorem vIs_ok (e : Int) (zs : List Int) (ad : List Bool) (th : Int) (ch : List UInt8) : FnO 76 [.agg (vSegs e zs ad th ch)] (.d (.v (.bool (mayV e zs ad th)))) := by
  refine fnA (E := envVb) Tryz.func76 Tryz.ntmps76 ?_
  by_cases h0 : e < 0
  · have hr : mayV e zs ad th = false := by simp [mayV]; intro h; omega
    rw [hr]
    clear hr
    refine agom ?_; (try with_reducible exact True.intro)
  by_cases h1 : e > 1099511627776
  · have hr : mayV e zs ad th = false := by simp [mayV]; intros; omega
    rw [hr]
    clear hr
    refine agom ?_; (try with_reducible exact True.intro)
  cases hT : isT zs with
  | false =>
    have hr : mayV e zs ad th = false := by simp [mayV, hT]
    rw [hr]
    clear hr
    refine agom ?_; (try with_reducible exact True.intro)
  | true =>
    have hr : mayV e zs ad th = (admTo zs ad 8 && decide (1 ≤ th) && decide (th ≤ (cntB ad : Nat))) := by
      have a0 : decide (0 ≤ e) = true := decide_eq_true (by omega)
      have a1 : decide (e ≤ 1099511627776) = true := decide_eq_true (by omega)
      simp only [mayV, hT, a0, a1, Bool.true_and]
    rw [hr]
    clear hr
    refine agom ?_; (try with_reducible exact True.intro)
    refine StopL.mk (loop_inv [1, 20, 21] 1 (fun s => ∃ k : Nat, k ≤ 8 ∧ admTo zs ad k = true ∧ s = ⟨[.dead, .ptr 0 0, .dead, .dead, .dead, .dead, .dead, .dead, .dead, .dead, .dead, .dead, .dead, .dead, .dead, .dead, .dead, .dead, .dead, .dead, .d (.agg [.bools 8 ad]), .d (.v (.int .i64 (k : Nat))), .dead, .dead, .dead, .dead, .dead, .dead, .dead, .dead, .dead, .dead, .dead, .dead, .dead, .dead, .dead, .dead, .dead, .dead, .dead, .dead, .dead, .dead, .dead], [some (.var (vSegs e zs ad th ch))]⟩) (fun s => 8 - intAt s 21) rfl ⟨0, by omega, rfl, rfl⟩ ?_)
    rintro s ⟨k, hk, hA, rfl⟩
    have hw : IntKind.i64.wrap ((k : Int) + 1) = ((k + 1 : Nat) : Int) := by rw [wrapS (by omega) (by omega)]; omega
    by_cases hk8 : k < 8
    · have hs := admTo_step zs ad k
      have hm : memB zs (k : Int) = memL zs k := by simp [memB, leafB]; omega
      rw [hA, Bool.true_and] at hs
      cases hb : ad.getD k false with
      | false =>
        rw [hb] at hs
        clear hm
        refine agom ?_; (try with_reducible exact True.intro)
        refine ⟨⟨k + 1, by omega, hs, by rw [← hw]; rfl⟩, ?_⟩
        show 8 - (IntKind.i64.wrap ((k : Int) + 1)).toNat < 8 - (k : Int).toNat
        rw [hw]; omega
      | true =>
        rw [hb] at hs
        cases hm2 : memL zs k with
        | true =>
          rw [hm2] at hs hm
          clear hm2
          refine agom ?_; (try with_reducible exact True.intro)
          refine ⟨⟨k + 1, by omega, hs, by rw [← hw]; rfl⟩, ?_⟩
          show 8 - (IntKind.i64.wrap ((k : Int) + 1)).toNat < 8 - (k : Int).toNat
          rw [hw]; omega
        | false =>
          rw [hm2] at hs hm
          have hr : admTo zs ad 8 = false := by
            cases h : admTo zs ad 8 with
            | false => rfl
            | true =>
              have := admTo_mono zs ad (8 - (k + 1)) (k + 1) (by rw [show k + 1 + (8 - (k + 1)) = 8 by omega]; exact h)
              rw [hs] at this; cases this
          rw [hr]
          clear hm2 hr hs
          refine agom ?_; (try with_reducible exact True.intro)
          rfl
    · obtain rfl : k = 8 := by omega
      rw [hA]
      clear hA
      by_cases h2 : th ≥ 1
      · have d1 : decide (1 ≤ th) = true := decide_eq_true h2
        rw [d1]
        clear d1
        refine agom ?_; (try with_reducible exact True.intro)
        simp
      · have d1 : decide (1 ≤ th) = false := decide_eq_false h2
        rw [d1]
        clear d1
        refine agom ?_; (try with_reducible exact True.intro)
        simp
def vIsS : List A → (Res → Prop) → Prop
  | [.agg [.ints .i64 1 [e], .ints .i64 31 zs, .bools 8 ad, .ints .i64 1 [k], .bytes 32 ch]], K => K (.d (.v (.bool (mayV e zs ad k))))
  | _, _ => False
theorem vIsS_of {f : FuncId} (hx : ∀ e zs ad k ch, FnO f [.agg (vSegs e zs ad k ch)] (.d (.v (.bool (mayV e zs ad k))))) : ∀ args K, vIsS args K → ∃ r, FnO f args r ∧ K r := by
  intro args K h
  unfold vIsS at h
  split at h
  · exact ⟨_, hx _ _ _ _ _, h⟩
  · exact h.elim
set_option maxHeartbeats 8000000 in
theorem rvIs_ok (e : Int) (zs : List Int) (ad : List Bool) (th : Int) (ch : List UInt8) : FnO 42 [.agg (vSegs e zs ad th ch)] (.d (.v (.bool (mayV e zs ad th)))) := by
  refine fnA (E := envVb) Tryz.func42 Tryz.ntmps42 ?_
  refine agom ?_; (try with_reducible exact True.intro)
  refine StopL.mk (loop_inv [1, 3] 1 (fun s => ∃ k : Nat, k ≤ 8 ∧ admTo zs ad k = true ∧ s = ⟨[.dead, .ptr 0 0, .dead, .d (.v (.int .i64 (k : Nat))), .dead, .dead, .dead, .dead, .dead, .dead, .dead, .dead, .dead, .dead, .dead, .dead, .dead, .dead, .dead, .dead, .dead, .dead, .dead, .dead, .dead, .dead, .dead, .dead, .dead, .dead, .dead, .dead, .dead, .dead, .dead, .dead, .dead, .dead, .dead, .dead, .dead, .dead, .dead], [some (.var (vSegs e zs ad th ch))]⟩) (fun s => 8 - intAt s 3) rfl ⟨0, by omega, rfl, rfl⟩ ?_)
  rintro s ⟨k, hk, hA, rfl⟩
  have hw : IntKind.i64.wrap ((k : Int) + 1) = ((k + 1 : Nat) : Int) := by rw [wrapS (by omega) (by omega)]; omega
  by_cases hk8 : k < 8
  · have hs := admTo_step zs ad k
    have hm : memB zs (k : Int) = memL zs k := by simp [memB, leafB]; omega
    rw [hA, Bool.true_and] at hs
    cases hb : ad.getD k false with
    | false =>
      rw [hb] at hs
      clear hm
      refine agom ?_; (try with_reducible exact True.intro)
      refine ⟨⟨k + 1, by omega, hs, by rw [← hw]; rfl⟩, ?_⟩
      show 8 - (IntKind.i64.wrap ((k : Int) + 1)).toNat < 8 - (k : Int).toNat
      rw [hw]; omega
    | true =>
      rw [hb] at hs
      cases hm2 : memL zs k with
      | true =>
        rw [hm2] at hs hm
        clear hm2
        refine agom ?_; (try with_reducible exact True.intro)
        refine ⟨⟨k + 1, by omega, hs, by rw [← hw]; rfl⟩, ?_⟩
        show 8 - (IntKind.i64.wrap ((k : Int) + 1)).toNat < 8 - (k : Int).toNat
        rw [hw]; omega
      | false =>
        rw [hm2] at hs hm
        have hr : mayV e zs ad th = false := by
          have : admTo zs ad 8 = false := by
            cases h : admTo zs ad 8 with
            | false => rfl
            | true =>
              have := admTo_mono zs ad (8 - (k + 1)) (k + 1) (by rw [show k + 1 + (8 - (k + 1)) = 8 by omega]; exact h)
              rw [hs] at this; cases this
          simp [mayV, this]
        rw [hr]
        clear hm2 hr hs
        refine agom ?_; (try with_reducible exact True.intro)
  · obtain rfl : k = 8 := by omega
    have hc : cntB ad ≤ 8 ∨ True := .inr trivial
    clear hc
    unfold mayV
    rw [hA]
    clear hA
    by_cases h0 : e ≥ 0
    · rw [decide_eq_true (show 0 ≤ e from h0)]
      by_cases h1 : e ≤ 1099511627776
      · rw [decide_eq_true h1]
        cases hT : isT zs with
        | false =>
          refine agom ?_; (try with_reducible exact True.intro)
          rfl
        | true =>
          by_cases h2 : th ≥ 1
          · rw [decide_eq_true (show 1 ≤ th from h2)]
            refine agom ?_; (try with_reducible exact True.intro)
            simp
          · rw [decide_eq_false (show ¬ 1 ≤ th from h2)]
            refine agom ?_; (try with_reducible exact True.intro)
            rfl
      · rw [decide_eq_false h1]
        refine agom ?_; (try with_reducible exact True.intro)
        rfl
    · rw [decide_eq_false (show ¬ 0 ≤ e from h0)]
      refine agom ?_; (try with_reducible exact True.intro)
      rfl
noncomputable def envVc : EnvX := envVb.add 76 vIsS (vIsS_of vIs_ok) ⟨_, Tryz.func76, by kernel_rfl, by kernel_rfl⟩
noncomputable def envVd : EnvX := envVc.add 42 vIsS (vIsS_of rvIs_ok) ⟨_, Tryz.func42, by kernel_rfl, by kernel_rfl⟩
end Go.Proofs.YtpemaphgmfaioaaGreat

/-
  Views: operations with what is not their own.
-/
namespace Go.Proofs.YtpemaphgmfaioaaGreat
set_option maxRecDepth 100000
open Go.RowKit Pm
set_option linter.unusedVariables false
set_option linter.unusedSimpArgs false
attribute [local irreducible] condK LoopA regA

/-- has an operation nothing but its own fields? kind, who, threshold, keys -/
def ownB (o : List Int) : Bool :=
  if o.getD 0 0 = 1 then decide (o.getD 1 0 = 0) && decide (o.getD 2 0 = 0)
  else if o.getD 0 0 = 2 ∨ o.getD 0 0 = 3 ∨ o.getD 0 0 = 4 then decide (o.getD 2 0 = 0) && (decide (o.getD 3 0 = 0) && decide (o.getD 4 0 = 0))
  else if o.getD 0 0 = 5 then decide (o.getD 1 0 = 0) && (decide (o.getD 3 0 = 0) && decide (o.getD 4 0 = 0))
  else false
theorem five {o : List Int} (h : o.length = 5) : ∃ a b c d e, o = [a, b, c, d, e] := by
  rcases o with _ | ⟨a, _ | ⟨b, _ | ⟨c, _ | ⟨d, _ | ⟨e, _ | ⟨f, l⟩⟩⟩⟩⟩⟩ <;> simp at h
  exact ⟨a, b, c, d, e, rfl⟩
def ownS (neg : Bool) : List A → (Res → Prop) → Prop
  | [.agg [.ints .i64 5 o]], K => K (.d (.v (.bool (if neg = true then !ownB o else ownB o))))
  | _, _ => False
set_option maxHeartbeats 8000000 in
theorem isOdd_ok (o : List Int) : FnO 78 [.agg [.ints .i64 5 o]] (.d (.v (.bool (!ownB o)))) := by
  refine fn_lens fun hl => ?_
  obtain ⟨a, b, c, d, e, rfl⟩ := five hl.1.1
  clear hl
  refine fnA (E := env0) Tryz.func78 Tryz.ntmps78 ?_
  by_cases h1 : a = 1
  · subst h1
    refine ago ?_; (try with_reducible exact True.intro)
    simp [eqSegs, ownB]
  have n1 : (a == 1) = false := by simpa using h1
  by_cases h2 : a = 2
  · subst h2
    clear h1
    refine ago ?_; (try with_reducible exact True.intro)
    simp [eqSegs, ownB]
  have n2 : (a == 2) = false := by simpa using h2
  by_cases h3 : a = 3
  · subst h3
    clear h1 h2
    refine ago ?_; (try with_reducible exact True.intro)
    simp [eqSegs, ownB]
  have n3 : (a == 3) = false := by simpa using h3
  by_cases h4 : a = 4
  · subst h4
    clear h1 h2 h3
    refine ago ?_; (try with_reducible exact True.intro)
    simp [eqSegs, ownB]
  have n4 : (a == 4) = false := by simpa using h4
  by_cases h5 : a = 5
  · subst h5
    clear h1 h2 h3 h4
    refine ago ?_; (try with_reducible exact True.intro)
    simp [eqSegs, ownB]
  have n5 : (a == 5) = false := by simpa using h5
  have hr : ownB [a, b, c, d, e] = false := by simp [ownB, h1, h2, h3, h4, h5]
  rw [hr]
  clear h1 h2 h3 h4 h5 hr
  refine ago ?_; (try with_reducible exact True.intro)
  rfl
set_option maxHeartbeats 8000000 in
theorem own_ok (o : List Int) : FnO 43 [.agg [.ints .i64 5 o]] (.d (.v (.bool (ownB o)))) := by
  refine fn_lens fun hl => ?_
  obtain ⟨a, b, c, d, e, rfl⟩ := five hl.1.1
  clear hl
  refine fnA (E := env0) Tryz.func43 Tryz.ntmps43 ?_
  have go : ∀ x y z : Bool, (x && (y && z)) = (x && (y && z)) := fun _ _ _ => rfl
  clear go
  by_cases h1 : a = 1
  · subst h1
    by_cases hb : b = 0
    · subst hb
      refine ago ?_; (try with_reducible exact True.intro)
      simp [ownB]
      rfl
    · refine ago ?_; (try with_reducible exact True.intro)
      simp [ownB, hb]
  have n1 : (a == 1) = false := by simpa using h1
  by_cases h2 : a = 2
  · subst h2
    clear h1
    by_cases hb : c = 0
    · subst hb
      refine ago ?_; (try with_reducible exact True.intro)
      simp [eqSegs, ownB]
    · refine ago ?_; (try with_reducible exact True.intro)
      simp [ownB, hb]
  have n2 : (a == 2) = false := by simpa using h2
  by_cases h3 : a = 3
  · subst h3
    clear h1 h2
    by_cases hb : c = 0
    · subst hb
      refine ago ?_; (try with_reducible exact True.intro)
      simp [eqSegs, ownB]
    · refine ago ?_; (try with_reducible exact True.intro)
      simp [ownB, hb]
  have n3 : (a == 3) = false := by simpa using h3
  by_cases h4 : a = 4
  · subst h4
    clear h1 h2 h3
    by_cases hb : c = 0
    · subst hb
      refine ago ?_; (try with_reducible exact True.intro)
      simp [eqSegs, ownB]
    · refine ago ?_; (try with_reducible exact True.intro)
      simp [ownB, hb]
  have n4 : (a == 4) = false := by simpa using h4
  by_cases h5 : a = 5
  · subst h5
    clear h1 h2 h3 h4
    by_cases hb : b = 0
    · subst hb
      refine ago ?_; (try with_reducible exact True.intro)
      simp [eqSegs, ownB]
    · refine ago ?_; (try with_reducible exact True.intro)
      simp [ownB, hb]
  have n5 : (a == 5) = false := by simpa using h5
  have hr : ownB [a, b, c, d, e] = false := by simp [ownB, h1, h2, h3, h4, h5]
  rw [hr]
  clear h1 h2 h3 h4 h5 hr
  refine ago ?_; (try with_reducible exact True.intro)
theorem ownS_of {f : FuncId} (neg : Bool) (hx : ∀ o, FnO f [.agg [.ints .i64 5 o]] (.d (.v (.bool (if neg = true then !ownB o else ownB o))))) : ∀ args K, ownS neg args K → ∃ r, FnO f args r ∧ K r := by
  intro args K h
  unfold ownS at h
  split at h
  · exact ⟨_, hx _, h⟩
  · exact h.elim
noncomputable def envVe : EnvX := envVd.add 78 (ownS true) (ownS_of true isOdd_ok) ⟨_, Tryz.func78, by kernel_rfl, by kernel_rfl⟩
noncomputable def envVf : EnvX := envVe.add 43 (ownS false) (ownS_of false own_ok) ⟨_, Tryz.func43, by kernel_rfl, by kernel_rfl⟩
/-! is any operation odd? -/
def opAt (zs : List Int) (i : Nat) : List Int := (zs.drop (i * 5)).take 5
def idxP (p : Nat → Bool) (n : Nat) : Int := match (List.range n).find? p with | some i => (i : Int) | none => -1
theorem idxP_at {p : Nat → Bool} {n k : Nat} (hk : k < n) (h : p k = true) (hn : ∀ j < k, p j = false) : idxP p n = (k : Int) := by
  have : (List.range n).find? p = some k := by
    rw [List.find?_range_eq_some]
    exact ⟨h, by simpa using hk, fun j hj => by simp [hn j hj]⟩
  unfold idxP; rw [this]
theorem idxP_none {p : Nat → Bool} {n : Nat} (hn : ∀ j < n, p j = false) : idxP p n = -1 := by
  have : (List.range n).find? p = none := by
    rw [List.find?_eq_none]
    intro j hj
    simp [hn j (by simpa using hj)]
  unfold idxP; rw [this]
def oddTo (zs : List Int) (n : Nat) : Bool := (List.range n).any fun i => !ownB (opAt zs i)
theorem idxP_any (zs : List Int) (n : Nat) : decide (idxP (fun i => !ownB (opAt zs i)) n ≥ 0) = oddTo zs n := by
  cases h : oddTo zs n with
  | true =>
    unfold oddTo at h
    rw [List.any_eq_true] at h
    obtain ⟨i, hi, hp⟩ := h
    unfold idxP
    cases hf : (List.range n).find? fun i => !ownB (opAt zs i) with
    | some j => simp
    | none =>
      rw [List.find?_eq_none] at hf
      exact absurd hp (hf i hi)
  | false =>
    unfold oddTo at h
    rw [List.any_eq_false] at h
    have := idxP_none (p := fun i => !ownB (opAt zs i)) (n := n) fun j hj => by
      have := h j (by simpa using hj)
      simpa using this
    rw [this]; rfl
def funOf : A → Option FuncId
  | .v (.func (.func g) a b) => if a = #[] ∧ b = #[] then some g else none
  | _ => none
set_option maxHeartbeats 8000000 in
theorem idxFn_ok (zs : List Int) (n : Nat) (hl : zs.length = n * 5) (hn : n ≤ 1000000) : FnO 95 [.row n [.ints .i64 (n * 5) zs], .v (.func (.func 78) #[] #[])] (.d (.v (.int .i64 (idxP (fun i => !ownB (opAt zs i)) n)))) := by
  refine fnA (E := envVf) Tryz.func95 Tryz.ntmps95 ?_
  refine agom ?_; (try with_reducible exact True.intro)
  refine StopL.mk (loop_inv [0, 1, 7, 8] 1 (fun s => ∃ k : Nat, k ≤ n ∧ (∀ j < k, (!ownB (opAt zs j)) = false) ∧ s = ⟨[.d (.row n [.ints .i64 (n * 5) zs]), .d (.v (.func (.func 78) #[] #[])), .dead, .dead, .dead, .dead, .dead, .d (.v (.int .i64 n)), .d (.v (.int .i64 (k : Nat))), .dead, .dead, .dead, .dead, .dead, .dead, .dead, .dead, .dead, .dead], []⟩) (fun s => n - intAt s 8) rfl ⟨0, by omega, by intro j hj; omega, rfl⟩ ?_)
  rintro s ⟨k, hk, hj, rfl⟩
  have hw : IntKind.i64.wrap ((k : Int) + 1) = ((k + 1 : Nat) : Int) := by rw [wrapS (by omega) (by omega)]; omega
  by_cases hk2 : k < n
  · cases he : ownB ((zs.drop (k * 5)).take 5) with
    | false =>
      have h1 := idxP_at (p := fun i => !ownB (opAt zs i)) hk2 (by simp [opAt, he]) hj
      rw [h1]
      clear hj h1
      refine agom ?_; (try with_reducible exact True.intro)
    | true =>
      have hj2 : ∀ j < k + 1, (!ownB (opAt zs j)) = false := fun j hj2 => by
        rcases Nat.lt_or_eq_of_le (Nat.le_of_lt_succ hj2) with h | rfl
        · exact hj j h
        · simp [opAt, he]
      clear hj
      refine agom ?_; (try with_reducible exact True.intro)
      refine ⟨⟨k + 1, by omega, hj2, by rw [← hw]; rfl⟩, ?_⟩
      show n - (IntKind.i64.wrap ((k : Int) + 1)).toNat < n - (k : Int).toNat
      rw [hw]; omega
  · obtain rfl : k = n := by omega
    have h1 := idxP_none (p := fun i => !ownB (opAt zs i)) (n := k) hj
    rw [h1]
    clear hj h1
    refine agom ?_; (try with_reducible exact True.intro)
def idxFnS : List A → (Res → Prop) → Prop
  | [.row n [.ints .i64 m zs], .v (.func (.func g) a b)], K => m = n * 5 ∧ n ≤ 1000000 ∧ g = 78 ∧ a = #[] ∧ b = #[] ∧ K (.d (.v (.int .i64 (idxP (fun i => !ownB (opAt zs i)) n))))
  | _, _ => False
theorem idxFnS_ok : ∀ args K, idxFnS args K → ∃ r, FnO 95 args r ∧ K r := by
  intro args K h
  unfold idxFnS at h
  split at h
  · obtain ⟨rfl, h1, rfl, rfl, rfl, h⟩ := h
    exact ⟨_, fn_lens fun hl => idxFn_ok _ _ hl.1.1 h1, h⟩
  · exact h.elim
noncomputable def envVg : EnvX := envVf.add 95 idxFnS idxFnS_ok ⟨_, Tryz.func95, by kernel_rfl, by kernel_rfl⟩
def hasFnS : List A → (Res → Prop) → Prop
  | [.row n [.ints .i64 m zs], .v (.func (.func g) a b)], K => m = n * 5 ∧ n ≤ 1000000 ∧ g = 78 ∧ a = #[] ∧ b = #[] ∧ K (.d (.v (.bool (oddTo zs n))))
  | _, _ => False
theorem hasFn_ok (zs : List Int) (n : Nat) (hn : n ≤ 1000000) : FnO 77 [.row n [.ints .i64 (n * 5) zs], .v (.func (.func 78) #[] #[])] (.d (.v (.bool (oddTo zs n)))) := by
  refine fnA (E := envVg) Tryz.func77 Tryz.ntmps77 ?_
  refine ago ?_; (try with_reducible exact True.intro)
  rw [idxP_any]
theorem hasFnS_ok : ∀ args K, hasFnS args K → ∃ r, FnO 77 args r ∧ K r := by
  intro args K h
  unfold hasFnS at h
  split at h
  · obtain ⟨rfl, h1, rfl, rfl, rfl, h⟩ := h
    exact ⟨_, hasFn_ok _ _ h1, h⟩
  · exact h.elim
noncomputable def envVh : EnvX := envVg.add 77 hasFnS hasFnS_ok ⟨_, Tryz.func77, by kernel_rfl, by kernel_rfl⟩
end Go.Proofs.YtpemaphgmfaioaaGreat
