/-
  Trees: a tree with a key that is none may not be.
-/
import Derived.Test.YtbgdlggobbiibaaI13
import Derived.Test.YtbgdlggobbiibaaI10
namespace Go.Proofs.Ytbgdlggobbiibaa
set_option maxRecDepth 100000
open Go.RowKit Pm
set_option linter.unusedVariables false
set_option linter.unusedSimpArgs false
attribute [local irreducible] condK LoopA regA

def isTS : List A → (Res → Prop) → Prop
  | [.agg [.ints .i64 31 zs]], K => K (.d (.v (.bool (isT zs))))
  | _, _ => False
theorem isTS_ok {f : FuncId} (hx : ∀ zs, FnO f [.agg [.ints .i64 31 zs]] (.d (.v (.bool (isT zs))))) : ∀ args K, isTS args K → ∃ r, FnO f args r ∧ K r := by
  intro args K h
  unfold isTS at h
  split at h
  · exact ⟨_, hx _, h⟩
  · exact h.elim
noncomputable def env8 : EnvX := env7.add 73 isTS (isTS_ok isTree_ok) ⟨_, Try.func73, by kernel_rfl, by kernel_rfl⟩

theorem i4 : isI 4 = true := by
  have h := isI_four 1 (by decide) (by decide)
  have e : ((pw 4 1 : Nat) : Int) = 4 := by rw [pw_def]; rfl
  rw [e] at h; exact h
theorem i0 : isI 0 = false := by simp [isI]
theorem isT_eq (zs : List Int) : isT zs = ((leafOK zs 0 && (leafOK zs 1 && (leafOK zs 2 && (leafOK zs 3 && (leafOK zs 4 && (leafOK zs 5 && (leafOK zs 6 && (leafOK zs 7 && true)))))))) &&
    (nodeOK zs 0 && (nodeOK zs 1 && (nodeOK zs 2 && (nodeOK zs 3 && (nodeOK zs 4 && (nodeOK zs 5 && (nodeOK zs 6 && (nodeOK zs 7 && (nodeOK zs 8 && (nodeOK zs 9 && (nodeOK zs 10 && (nodeOK zs 11 && (nodeOK zs 12 && (nodeOK zs 13 && (nodeOK zs 14 && true)))))))))))))))) := rfl
theorem leafOK_of {zs : List Int} {k : Nat} {a b : Int} (h : leafP zs k = [a, b]) : leafOK zs k = (decide (a = 0 ∧ b = 0) || (isI a && isI b)) := by unfold leafOK; rw [h]; simp
theorem nodeOK_of {zs : List Int} {k : Nat} {a : Int} (h : nodeV zs k = a) : nodeOK zs k = (decide (a = 0) || (!((k : Int).tmod 2 == 0) && isI a)) := by unfold nodeOK; rw [h]
theorem eights9 {x : Int} (h : 0 ≤ x ∧ x < 8) : x = 0 ∨ x = 1 ∨ x = 2 ∨ x = 3 ∨ x = 4 ∨ x = 5 ∨ x = 6 ∨ x = 7 := by omega
theorem fifteen9 {x : Int} (h : 0 ≤ x ∧ x < 15) : x = 0 ∨ x = 1 ∨ x = 2 ∨ x = 3 ∨ x = 4 ∨ x = 5 ∨ x = 6 ∨ x = 7 ∨ x = 8 ∨ x = 9 ∨ x = 10 ∨ x = 11 ∨ x = 12 ∨ x = 13 ∨ x = 14 := by omega
theorem isT_zero : isT [0, 0, 0, 0, 0, 0, 0, 0, 0, 0, 0, 0, 0, 0, 0, 0, 0, 0, 0, 0, 0, 0, 0, 0, 0, 0, 0, 0, 0, 0, 0] = true := by
  rw [isT_eq]; rfl
set_option maxHeartbeats 4000000 in
theorem may_a {i : Int} (hi : 0 ≤ i ∧ i < 8) (y : Int) : isT (List.take (i.toNat * 2) [0, 0, 0, 0, 0, 0, 0, 0, 0, 0, 0, 0, 0, 0, 0, 0, 0, 0, 0, 0, 0, 0, 0, 0, 0, 0, 0, 0, 0, 0, 0] ++ 4 :: y :: List.drop (i.toNat * 2) [0, 0, 0, 0, 0, 0, 0, 0, 0, 0, 0, 0, 0, 0, 0, 0, 0, 0, 0, 0, 0, 0, 0, 0, 0, 0, 0, 0, 0]) = isI y := by
  rcases eights9 hi with rfl | rfl | rfl | rfl | rfl | rfl | rfl | rfl <;> (simp [isT_eq, leafOK, leafP, nodeOK, nodeV, i4])
set_option maxHeartbeats 4000000 in
theorem may_b {i : Int} (hi : 0 ≤ i ∧ i < 8) (y : Int) : isT (List.take (i.toNat * 2) [0, 0, 0, 0, 0, 0, 0, 0, 0, 0, 0, 0, 0, 0, 0, 0, 0, 0, 0, 0, 0, 0, 0, 0, 0, 0, 0, 0, 0, 0, 0] ++ y :: 4 :: List.drop (i.toNat * 2) [0, 0, 0, 0, 0, 0, 0, 0, 0, 0, 0, 0, 0, 0, 0, 0, 0, 0, 0, 0, 0, 0, 0, 0, 0, 0, 0, 0, 0]) = isI y := by
  rcases eights9 hi with rfl | rfl | rfl | rfl | rfl | rfl | rfl | rfl <;> (simp [isT_eq, leafOK, leafP, nodeOK, nodeV, i4])
set_option maxHeartbeats 4000000 in
theorem may_c {n : Int} (hn : 0 ≤ n ∧ n < 15) (y : Int) : isT ([0, 0, 0, 0, 0, 0, 0, 0, 0, 0, 0, 0, 0, 0, 0, 0, 0, 0, 0, 0, 0, 0, 0, 0, 0, 0, 0, 0, 0, 0, 0].set (16 + n.toNat) y) = (y == 0 || (isI y && (bits .and .i64 n 1 == 1))) := by
  have hb : (bits .and .i64 n 1 == 1) = decide (n % 2 = 1) := by
    rcases fifteen9 hn with rfl | rfl | rfl | rfl | rfl | rfl | rfl | rfl | rfl | rfl | rfl | rfl | rfl | rfl | rfl <;> rfl
  rw [hb]
  rcases fifteen9 hn with rfl | rfl | rfl | rfl | rfl | rfl | rfl | rfl | rfl | rfl | rfl | rfl | rfl | rfl | rfl <;> (simp [isT_eq, leafOK, leafP, nodeOK, nodeV]; first | done | rfl | (by_cases h : y = 0 <;> simp [h]))
end Go.Proofs.Ytbgdlggobbiibaa

/-
  Trees: by the root's all members are reached, each once; with its own key by that alone.
-/
namespace Go.Proofs.Ytbgdlggobbiibaa
set_option maxRecDepth 100000
open Go.RowKit Pm
set_option linter.unusedVariables false
set_option linter.unusedSimpArgs false
attribute [local irreducible] condK LoopA regA

noncomputable def env16 : EnvX := env15a.add 84 isTS (isTS_ok rIsTree_ok) ⟨_, Try.func84, by kernel_rfl, by kernel_rfl⟩
theorem isT_member {zs : List Int} (h : isT zs = true) {i : Nat} (hi : i < 8) (hz : leafP zs i ≠ [0, 0]) : (leafP zs i).getD 1 0 ≠ 0 := by
  have h1 : leafOK zs i = true := by
    cases e : leafOK zs i with
    | true => rfl
    | false => rw [isT_leaf hi e] at h; exact h
  unfold leafOK at h1
  rw [decide_eq_false hz] at h1
  simp only [Bool.false_or, Bool.and_eq_true] at h1
  intro e
  rw [e] at h1
  simp [isI] at h1
theorem leafP_get (zs : List Int) {i : Nat} (hi : i < 8) : (leafP zs i).getD 1 0 = zs.getD (i * 2 + 1) 0 := by
  rw [leafP_eq zs hi]
  simp [List.getD_eq_getElem?_getD, List.getElem?_take]
theorem leafP_set (zs : List Int) {i m : Nat} {x : Int} (hi : i < 8) (hm : 16 ≤ m) : leafP (zs.set m x) i = leafP zs i := by
  unfold leafP
  rw [List.take_set_of_le hm]
theorem keyZ_leaf (zs : List Int) {i : Nat} (hi : i < 8) : keyZ zs (2 * (i : Int)) = zs.getD (i * 2 + 1) 0 := by
  have a1 : (0 : Int) ≤ 2 * (i : Int) ∧ 2 * (i : Int) < 15 := by omega
  have a2 : 2 * (i : Int) % 2 = 0 := by omega
  have a3 : (2 * (i : Int)).toNat + 1 = i * 2 + 1 := by omega
  simp only [keyZ, a1, a2, a3, and_self, if_true]
theorem under7 {i : Nat} (hi : i < 8) : underB 7 (i : Int) = true := by
  have hl : leafB (i : Int) = true := by simp [leafB]; omega
  simp [underB, hl]
end Go.Proofs.Ytbgdlggobbiibaa

/-
  Views: members, admins.
-/
namespace Go.Proofs.Ytbgdlggobbiibaa
set_option maxRecDepth 100000
open Go.RowKit Pm
set_option linter.unusedVariables false
set_option linter.unusedSimpArgs false
attribute [local irreducible] condK LoopA regA

/-! whether a number is among others -/
def idxG (xs : List Int) (v : Int) : Int := if v ∈ xs then (xs.idxOf v : Nat) else -1
def idxGS : List A → (Res → Prop) → Prop
  | [.row n [.ints .i64 n' xs], .v (.int .i64 v)], K => n = xs.length ∧ n' = xs.length ∧ xs.length ≤ 1000000 ∧ K (.d (.v (.int .i64 (idxG xs v))))
  | _, _ => False
theorem idxOf_at {xs : List Int} {v : Int} {k : Nat} (hk : k < xs.length) (h : xs.getD k 0 = v) (hn : ∀ j < k, xs.getD j 0 ≠ v) : idxG xs v = (k : Nat) := by
  have e : xs[k] = v := by simpa [List.getD_eq_getElem?_getD, hk] using h
  have hm : v ∈ xs := e ▸ List.getElem_mem hk
  have hi : xs.idxOf v < xs.length := List.idxOf_lt_length_of_mem hm
  have hv : xs[xs.idxOf v] = v := List.getElem_idxOf hi
  have h1 : ¬ xs.idxOf v < k := fun h' => hn _ h' (by rw [List.getD_eq_getElem?_getD, List.getElem?_eq_getElem hi]; exact hv)
  have h2 : ¬ k < xs.idxOf v := fun h' => by
    have := List.not_of_lt_findIdx (xs := xs) (p := (· == v)) (i := k) (by unfold List.idxOf at h'; exact h')
    simp [e] at this
  unfold idxG
  rw [if_pos hm, show xs.idxOf v = k by omega]
theorem idxOf_none {xs : List Int} {v : Int} (hn : ∀ j < xs.length, xs.getD j 0 ≠ v) : idxG xs v = -1 := by
  unfold idxG
  rw [if_neg]
  intro h
  obtain ⟨i, hi, e⟩ := List.getElem_of_mem h
  exact hn i hi (by simpa [List.getD_eq_getElem?_getD, hi] using e)
set_option maxHeartbeats 4000000 in
theorem idxG_ok (xs : List Int) (v : Int) (hl : xs.length ≤ 1000000) : FnO 87 [.row xs.length [.ints .i64 xs.length xs], .v (.int .i64 v)] (.d (.v (.int .i64 (idxG xs v)))) := by
  refine fnA (E := env0) Try.func87 Try.ntmps87 ?_
  refine agom ?_; (try with_reducible exact True.intro)
  refine StopL.mk (loop_inv [0, 1, 7, 8] 1 (fun s => ∃ k : Nat, k ≤ xs.length ∧ (∀ j < k, xs.getD j 0 ≠ v) ∧ s = ⟨[.d (.row xs.length [.ints .i64 xs.length xs]), .d (.v (.int .i64 v)), .dead, .dead, .dead, .dead, .dead, .d (.v (.int .i64 xs.length)), .d (.v (.int .i64 (k : Nat))), .dead, .dead, .dead, .dead, .dead, .dead, .dead, .dead, .dead, .dead], []⟩) (fun s => xs.length - intAt s 8) rfl ⟨0, by omega, by intro j hj; omega, rfl⟩ ?_)
  rintro s ⟨k, hk, hj, rfl⟩
  have hw : IntKind.i64.wrap ((k : Int) + 1) = ((k + 1 : Nat) : Int) := by rw [wrapS (by omega) (by omega)]; omega
  by_cases hk2 : k < xs.length
  · by_cases he : xs.getD k 0 = v
    · have h1 := idxOf_at hk2 he hj
      have he1 : (v == xs.getD k 0) = true := by rw [he]; simp
      rw [h1]
      clear he hj h1
      refine agom ?_; (try with_reducible exact True.intro)
    · have he1 : (v == xs.getD k 0) = false := by simpa using fun h => he h.symm
      refine agom ?_; (try with_reducible exact True.intro)
      refine ⟨⟨k + 1, by omega, fun j hj2 => ?_, by rw [← hw]; rfl⟩, ?_⟩
      · rcases Nat.lt_or_eq_of_le (Nat.le_of_lt_succ hj2) with h | rfl
        · exact hj j h
        · exact he
      · show xs.length - (IntKind.i64.wrap ((k : Int) + 1)).toNat < xs.length - (k : Int).toNat
        rw [hw]; omega
  · have h1 := idxOf_none (xs := xs) (v := v) fun j hj2 => hj j (by omega)
    rw [h1]
    clear hj h1
    refine agom ?_; (try with_reducible exact True.intro)
theorem idxGS_ok : ∀ args K, idxGS args K → ∃ r, FnO 87 args r ∧ K r := by
  intro args K h
  unfold idxGS at h
  split at h
  · obtain ⟨rfl, rfl, h1, h⟩ := h
    exact ⟨_, idxG_ok _ _ h1, h⟩
  · exact h.elim
noncomputable def envV1 : EnvX := env16.add 87 idxGS idxGS_ok ⟨_, Try.func87, by kernel_rfl, by kernel_rfl⟩
def hasGS : List A → (Res → Prop) → Prop
  | [.row n [.ints .i64 n' xs], .v (.int .i64 v)], K => n = xs.length ∧ n' = xs.length ∧ xs.length ≤ 1000000 ∧ K (.d (.v (.bool (decide (v ∈ xs)))))
  | _, _ => False
theorem hasG_ok (xs : List Int) (v : Int) (hl : xs.length ≤ 1000000) : FnO 81 [.row xs.length [.ints .i64 xs.length xs], .v (.int .i64 v)] (.d (.v (.bool (decide (v ∈ xs))))) := by
  refine fnA (E := envV1) Try.func81 Try.ntmps81 ?_
  refine ago ?_; (try with_reducible exact True.intro)
  have : decide (idxG xs v ≥ 0) = decide (v ∈ xs) := by
    unfold idxG
    by_cases h : v ∈ xs
    · rw [if_pos h]; simp [h]
    · rw [if_neg h]; simp [h]
  rw [this]
theorem hasGS_ok : ∀ args K, hasGS args K → ∃ r, FnO 81 args r ∧ K r := by
  intro args K h
  unfold hasGS at h
  split at h
  · obtain ⟨rfl, rfl, h1, h⟩ := h
    exact ⟨_, hasG_ok _ _ h1, h⟩
  · exact h.elim
/-! members -/
def memL (zs : List Int) (k : Nat) : Bool := decide (leafP zs k ≠ [0, 0])
def memTo (zs : List Int) : Nat → List Int
  | 0 => []
  | k + 1 => memTo zs k ++ (if memL zs k = true then [(k : Int)] else [])
theorem memTo_len (zs : List Int) : ∀ k, (memTo zs k).length ≤ k
  | 0 => by simp [memTo]
  | k + 1 => by
    have := memTo_len zs k
    rw [memTo, List.length_append]
    split <;> simp <;> omega
theorem memTo_mem (zs : List Int) : ∀ (k : Nat) (i : Int), i ∈ memTo zs k ↔ 0 ≤ i ∧ i < k ∧ memL zs i.toNat = true
  | 0, i => by simp [memTo]; omega
  | k + 1, i => by
    rw [memTo, List.mem_append, memTo_mem zs k i]
    by_cases h : memL zs k = true
    · rw [if_pos h, List.mem_singleton]
      constructor
      · rintro (⟨h1, h2, h3⟩ | rfl)
        · exact ⟨h1, by omega, h3⟩
        · exact ⟨by omega, by omega, by simpa using h⟩
      · rintro ⟨h1, h2, h3⟩
        by_cases e : i = k
        · exact .inr e
        · exact .inl ⟨h1, by omega, h3⟩
    · rw [if_neg h]
      constructor
      · rintro (⟨h1, h2, h3⟩ | h4)
        · exact ⟨h1, by omega, h3⟩
        · simp at h4
      · rintro ⟨h1, h2, h3⟩
        by_cases e : i = k
        · subst e; simp at h3; exact absurd h3 h
        · exact .inl ⟨h1, by omega, h3⟩
/-- is there a member at this place? -/
def memB (zs : List Int) (i : Int) : Bool := leafB i && memL zs i.toNat
theorem memB_in (zs : List Int) (i : Int) : decide (i ∈ memTo zs 8) = memB zs i := by
  have := memTo_mem zs 8 i
  rw [Bool.eq_iff_iff]
  simp [memB, leafB, this]
  constructor
  · rintro ⟨h1, h2, h3⟩; exact ⟨⟨h1, by omega⟩, h3⟩
  · rintro ⟨⟨h1, h2⟩, h3⟩; exact ⟨h1, by omega, h3⟩
set_option maxHeartbeats 8000000 in
theorem members_ok (zs : List Int) : FnO 82 [.agg [.ints .i64 31 zs]] (.o 3 1 (memTo zs 8).length [.ints .i64 (memTo zs 8).length (memTo zs 8)]) := by
  refine fnA (E := envV1) Try.func82 Try.ntmps82 ?_
  refine agom ?_; (try with_reducible exact True.intro)
  refine StopL.mk (loop_nil [3, 7, 8] 1 3 3 1 [.ints .i64 0 []] (fun s => ∃ k : Nat, k ≤ 8 ∧ s = ⟨[.dead, .dead, .dead, .own 1 (memTo zs k).length, .dead, .dead, .dead, .d (.agg [.ints .i64 16 (zs.take 16)]), .d (.v (.int .i64 (k : Nat))), .dead, .dead, .dead, .dead, .dead, .dead, .dead, .dead, .dead, .dead, .dead, .dead], [some (.var [.ints .i64 31 zs]), some (.sl 3 1 (memTo zs k).length [.ints .i64 (memTo zs k).length (memTo zs k)])]⟩) (fun s => 8 - intAt s 8) rfl rfl rfl rfl ⟨0, by omega, rfl⟩ ?_)
  rintro s ⟨k, hk, rfl⟩
  have hw : IntKind.i64.wrap ((k : Int) + 1) = ((k + 1 : Nat) : Int) := by rw [wrapS (by omega) (by omega)]; omega
  by_cases hk8 : k < 8
  · have L := memTo_len zs k
    by_cases hz : ((zs.take 16).drop (k * 2)).take 2 = [0, 0]
    · have hs : memTo zs (k + 1) = memTo zs k := by rw [memTo, if_neg (by simp [memL, leafP, hz]), List.append_nil]
      refine agom ?_; (try with_reducible exact True.intro)
      refine ⟨⟨k + 1, by omega, by rw [hs, ← hw]; rfl⟩, ?_⟩
      show 8 - (IntKind.i64.wrap ((k : Int) + 1)).toNat < 8 - (k : Int).toNat
      rw [hw]; omega
    · have hs : memTo zs (k + 1) = memTo zs k ++ [(k : Int)] := by rw [memTo, if_pos (by simp [memL, leafP, hz])]
      refine agom ?_; (try with_reducible exact True.intro)
      refine ⟨⟨k + 1, by omega, by rw [hs, List.length_append, ← hw]; rfl⟩, ?_⟩
      show 8 - (IntKind.i64.wrap ((k : Int) + 1)).toNat < 8 - (k : Int).toNat
      rw [hw]; omega
  · obtain rfl : k = 8 := by omega
    refine agom ?_; (try with_reducible exact True.intro)
def membersS : List A → (Res → Prop) → Prop
  | [.agg [.ints .i64 31 zs]], K => K (.o 3 1 (memTo zs 8).length [.ints .i64 (memTo zs 8).length (memTo zs 8)])
  | _, _ => False
theorem membersS_ok : ∀ args K, membersS args K → ∃ r, FnO 82 args r ∧ K r := by
  intro args K h
  unfold membersS at h
  split at h
  · exact ⟨_, members_ok _, h⟩
  · exact h.elim
noncomputable def envV2 : EnvX := envV1.add 81 hasGS hasGS_ok ⟨_, Try.func81, by kernel_rfl, by kernel_rfl⟩
noncomputable def envV3 : EnvX := envV2.add 82 membersS membersS_ok ⟨_, Try.func82, by kernel_rfl, by kernel_rfl⟩
def isMemS : List A → (Res → Prop) → Prop
  | [.agg [.ints .i64 31 zs], .v (.int .i64 i)], K => K (.d (.v (.bool (memB zs i))))
  | _, _ => False
theorem isMem_ok (zs : List Int) (i : Int) : FnO 74 [.agg [.ints .i64 31 zs], .v (.int .i64 i)] (.d (.v (.bool (memB zs i)))) := by
  refine fnA (E := envV3) Try.func74 Try.ntmps74 ?_
  have L : (memTo zs 8).length ≤ 1000000 := Nat.le_trans (memTo_len zs 8) (by decide)
  refine ago ?_; (try with_reducible exact True.intro)
  rw [memB_in]
theorem isMemS_ok : ∀ args K, isMemS args K → ∃ r, FnO 74 args r ∧ K r := by
  intro args K h
  unfold isMemS at h
  split at h
  · exact ⟨_, isMem_ok _ _, h⟩
  · exact h.elim
/-! admins -/
def cntB (ad : List Bool) : Nat := ad.countP id
theorem cnt_step (ad : List Bool) (k : Nat) (hk : k < ad.length) : cntB (ad.take (k + 1)) = cntB (ad.take k) + (if ad.getD k false = true then 1 else 0) := by
  unfold cntB
  rw [List.take_succ_eq_append_getElem hk, List.countP_append, List.countP_singleton]
  simp [List.getD_eq_getElem?_getD, hk]
theorem cnt_le (ad : List Bool) : cntB ad ≤ ad.length := List.countP_le_length
end Go.Proofs.Ytbgdlggobbiibaa

/-
  Views: whether one may be.
-/
namespace Go.Proofs.Ytbgdlggobbiibaa
set_option maxRecDepth 100000
open Go.RowKit Pm
set_option linter.unusedVariables false
set_option linter.unusedSimpArgs false
attribute [local irreducible] condK LoopA regA

def countS : List A → (Res → Prop) → Prop
  | [.agg [.bools 8 ad]], K => K (.d (.v (.int .i64 (cntB ad : Nat))))
  | _, _ => False
set_option maxHeartbeats 4000000 in
theorem count_ok (ad : List Bool) : FnO 75 [.agg [.bools 8 ad]] (.d (.v (.int .i64 (cntB ad : Nat)))) := by
  refine fn_lens fun hl => ?_
  replace hl : ad.length = 8 := hl.1.1
  refine fnA (E := env0) Try.func75 Try.ntmps75 ?_
  refine agom ?_; (try with_reducible exact True.intro)
  refine StopL.mk (loop_inv [3, 6, 7] 1 (fun s => ∃ k : Nat, k ≤ 8 ∧ s = ⟨[.dead, .dead, .dead, .d (.v (.int .i64 (cntB (ad.take k) : Nat))), .dead, .dead, .d (.agg [.bools 8 ad]), .d (.v (.int .i64 (k : Nat))), .dead, .dead, .dead, .dead, .dead, .dead, .dead], [some (.var [.bools 8 ad])]⟩) (fun s => 8 - intAt s 7) rfl ⟨0, by omega, rfl⟩ ?_)
  rintro s ⟨k, hk, rfl⟩
  have hw : IntKind.i64.wrap ((k : Int) + 1) = ((k + 1 : Nat) : Int) := by rw [wrapS (by omega) (by omega)]; omega
  have hc : cntB (ad.take k) ≤ 8 := Nat.le_trans (cnt_le _) (by simp; omega)
  have hwc : IntKind.i64.wrap ((cntB (ad.take k) : Nat) + 1) = ((cntB (ad.take k) + 1 : Nat) : Int) := by rw [wrapS (by omega) (by omega)]; omega
  by_cases hk8 : k < 8
  · have hs := cnt_step ad k (by omega)
    cases hb : ad.getD k false with
    | true =>
      rw [hb, if_pos rfl] at hs
      refine agom ?_; (try with_reducible exact True.intro)
      refine ⟨⟨k + 1, by omega, by rw [hs, ← hwc, ← hw]; rfl⟩, ?_⟩
      show 8 - (IntKind.i64.wrap ((k : Int) + 1)).toNat < 8 - (k : Int).toNat
      rw [hw]; omega
    | false =>
      rw [hb, if_neg (by simp)] at hs
      refine agom ?_; (try with_reducible exact True.intro)
      refine ⟨⟨k + 1, by omega, by rw [hs, ← hw]; rfl⟩, ?_⟩
      show 8 - (IntKind.i64.wrap ((k : Int) + 1)).toNat < 8 - (k : Int).toNat
      rw [hw]; omega
  · obtain rfl : k = 8 := by omega
    have e : ad.take 8 = ad := List.take_of_length_le (by omega)
    rw [e]
    refine agom ?_; (try with_reducible exact True.intro)
theorem countS_ok : ∀ args K, countS args K → ∃ r, FnO 75 args r ∧ K r := by
  intro args K h
  unfold countS at h
  split at h
  · exact ⟨_, count_ok _, h⟩
  · exact h.elim
/-- a view: its epoch, tree, admins, threshold, history -/
abbrev vSegs (e : Int) (zs : List Int) (ad : List Bool) (k : Int) (ch : List UInt8) : List Seg := [.ints .i64 1 [e], .ints .i64 31 zs, .bools 8 ad, .ints .i64 1 [k], .bytes 32 ch]
def adminsS : List A → (Res → Prop) → Prop
  | [.agg [.ints .i64 1 [e], .ints .i64 31 zs, .bools 8 ad, .ints .i64 1 [k], .bytes 32 ch]], K => K (.d (.v (.int .i64 (cntB ad : Nat))))
  | _, _ => False
set_option maxHeartbeats 4000000 in
theorem admins_ok (e : Int) (zs : List Int) (ad : List Bool) (th : Int) (ch : List UInt8) : FnO 85 [.agg (vSegs e zs ad th ch)] (.d (.v (.int .i64 (cntB ad : Nat)))) := by
  refine fn_lens fun hl => ?_
  replace hl : ad.length = 8 := hl.1.2.2.1
  refine fnA (E := env0) Try.func85 Try.ntmps85 ?_
  refine agom ?_; (try with_reducible exact True.intro)
  refine StopL.mk (loop_inv [1, 3, 4] 1 (fun s => ∃ k : Nat, k ≤ 8 ∧ s = ⟨[.dead, .ptr 0 0, .dead, .d (.v (.int .i64 (cntB (ad.take k) : Nat))), .d (.v (.int .i64 (k : Nat))), .dead, .dead, .dead, .dead, .dead, .dead, .dead, .dead, .dead, .dead, .dead], [some (.var (vSegs e zs ad th ch))]⟩) (fun s => 8 - intAt s 4) rfl ⟨0, by omega, rfl⟩ ?_)
  rintro s ⟨k, hk, rfl⟩
  have hw : IntKind.i64.wrap ((k : Int) + 1) = ((k + 1 : Nat) : Int) := by rw [wrapS (by omega) (by omega)]; omega
  have hc : cntB (ad.take k) ≤ 8 := Nat.le_trans (cnt_le _) (by simp; omega)
  have hwc : IntKind.i64.wrap ((cntB (ad.take k) : Nat) + 1) = ((cntB (ad.take k) + 1 : Nat) : Int) := by rw [wrapS (by omega) (by omega)]; omega
  by_cases hk8 : k < 8
  · have hs := cnt_step ad k (by omega)
    cases hb : ad.getD k false with
    | true =>
      rw [hb, if_pos rfl] at hs
      refine agom ?_; (try with_reducible exact True.intro)
      refine ⟨⟨k + 1, by omega, by rw [hs, ← hwc, ← hw]; rfl⟩, ?_⟩
      show 8 - (IntKind.i64.wrap ((k : Int) + 1)).toNat < 8 - (k : Int).toNat
      rw [hw]; omega
    | false =>
      rw [hb, if_neg (by simp)] at hs
      refine agom ?_; (try with_reducible exact True.intro)
      refine ⟨⟨k + 1, by omega, by rw [hs, ← hw]; rfl⟩, ?_⟩
      show 8 - (IntKind.i64.wrap ((k : Int) + 1)).toNat < 8 - (k : Int).toNat
      rw [hw]; omega
  · obtain rfl : k = 8 := by omega
    have e : ad.take 8 = ad := List.take_of_length_le (by omega)
    rw [e]
    refine agom ?_; (try with_reducible exact True.intro)
theorem adminsS_ok : ∀ args K, adminsS args K → ∃ r, FnO 85 args r ∧ K r := by
  intro args K h
  unfold adminsS at h
  split at h
  · exact ⟨_, admins_ok _ _ _ _ _, h⟩
  · exact h.elim
def rMemS : List A → (Res → Prop) → Prop
  | [.agg [.ints .i64 1 [e], .ints .i64 31 zs, .bools 8 ad, .ints .i64 1 [k], .bytes 32 ch], .v (.int .i64 i)], K => K (.d (.v (.bool (memB zs i))))
  | _, _ => False
set_option maxHeartbeats 4000000 in
theorem rMem_ok (e : Int) (zs : List Int) (ad : List Bool) (th : Int) (ch : List UInt8) (i : Int) : FnO 83 [.agg (vSegs e zs ad th ch), .v (.int .i64 i)] (.d (.v (.bool (memB zs i)))) := by
  refine fnA (E := env0) Try.func83 Try.ntmps83 ?_
  by_cases h0 : 0 ≤ i
  · by_cases h1 : i < 8
    · obtain ⟨n, rfl⟩ := Int.eq_ofNat_of_zero_le h0
      have hn : n < 8 := by omega
      have hm : memB zs (n : Int) = decide ((zs.drop (n * 2)).take 2 ≠ [0, 0]) := by
        simp [memB, leafB, h1, memL, leafP_eq zs hn]
      rw [hm]
      clear hm
      refine agom ?_; (try with_reducible exact True.intro)
      simp [eqSegs]
    · have hm : memB zs i = false := by simp [memB, leafB, h1]
      rw [hm]
      clear hm
      refine agom ?_; (try with_reducible exact True.intro)
  · have hm : memB zs i = false := by simp [memB, leafB, h0]
    rw [hm]
    clear hm
    refine agom ?_; (try with_reducible exact True.intro)
theorem rMemS_ok : ∀ args K, rMemS args K → ∃ r, FnO 83 args r ∧ K r := by
  intro args K h
  unfold rMemS at h
  split at h
  · exact ⟨_, rMem_ok _ _ _ _ _ _, h⟩
  · exact h.elim
noncomputable def envV4 : EnvX := envV3.add 74 isMemS isMemS_ok ⟨_, Try.func74, by kernel_rfl, by kernel_rfl⟩
noncomputable def envV5 : EnvX := envV4.add 75 countS countS_ok ⟨_, Try.func75, by kernel_rfl, by kernel_rfl⟩
noncomputable def envV6 : EnvX := envV5.add 85 adminsS adminsS_ok ⟨_, Try.func85, by kernel_rfl, by kernel_rfl⟩
noncomputable def envV7 : EnvX := envV6.add 83 rMemS rMemS_ok ⟨_, Try.func83, by kernel_rfl, by kernel_rfl⟩
noncomputable def envV8 : EnvX := envV7.add 73 isTS (isTS_ok isTree_ok) ⟨_, Try.func73, by kernel_rfl, by kernel_rfl⟩
noncomputable def envV9 : EnvX := envV8.add 79 isS (isS_ok fun y => fn_plain1 fun w => is_any y w) ⟨_, Try.func79, by kernel_rfl, by kernel_rfl⟩
noncomputable def envVa : EnvX := envV9
noncomputable def envVb : EnvX := envVa
/-- all admins are members -/
def admTo (zs : List Int) (ad : List Bool) (n : Nat) : Bool := (List.range n).all fun i => !ad.getD i false || memL zs i
/-- may this view be? -/
def mayV (e : Int) (zs : List Int) (ad : List Bool) (k : Int) : Bool := decide (0 ≤ e) && decide (e ≤ 1099511627776) && isT zs && admTo zs ad 8 && decide (1 ≤ k) && decide (k ≤ (cntB ad : Nat))
theorem admTo_step (zs : List Int) (ad : List Bool) (n : Nat) : admTo zs ad (n + 1) = (admTo zs ad n && (!ad.getD n false || memL zs n)) := by
  unfold admTo
  rw [List.range_succ, List.all_append]
  simp
theorem admTo_mono (zs : List Int) (ad : List Bool) : ∀ (d n : Nat), admTo zs ad (n + d) = true → admTo zs ad n = true
  | 0, n, h => h
  | d + 1, n, h => by
    rw [← Nat.add_assoc, admTo_step] at h
    simp only [Bool.and_eq_true] at h
    exact admTo_mono zs ad d n h.1
set_option maxHeartbeats 8000000 in
theorem vIs_ok (e : Int) (zs : List Int) (ad : List Bool) (th : Int) (ch : List UInt8) : FnO 53 [.agg (vSegs e zs ad th ch)] (.d (.v (.bool (mayV e zs ad th)))) := by
  refine fnA (E := envVb) Try.func53 Try.ntmps53 ?_
  by_cases h0 : e < 0
  · have hr : mayV e zs ad th = false := by simp [mayV]; intro h; omega
    rw [hr]
    clear hr
    refine agom ?_; (try with_reducible exact True.intro)
  by_cases h1 : e > 1099511627776
  · have hr : mayV e zs ad th = false := by simp [mayV]; intros; omega
    rw [hr]
    clear hr
    refine agom ?_; (try with_reducible exact True.intro)
  cases hT : isT zs with
  | false =>
    have hr : mayV e zs ad th = false := by simp [mayV, hT]
    rw [hr]
    clear hr
    refine agom ?_; (try with_reducible exact True.intro)
  | true =>
    have hr : mayV e zs ad th = (admTo zs ad 8 && decide (1 ≤ th) && decide (th ≤ (cntB ad : Nat))) := by
      have a0 : decide (0 ≤ e) = true := decide_eq_true (by omega)
      have a1 : decide (e ≤ 1099511627776) = true := decide_eq_true (by omega)
      simp only [mayV, hT, a0, a1, Bool.true_and]
    rw [hr]
    clear hr
    refine agom ?_; (try with_reducible exact True.intro)
    refine StopL.mk (loop_inv [1, 20, 21] 1 (fun s => ∃ k : Nat, k ≤ 8 ∧ admTo zs ad k = true ∧ s = ⟨[.dead, .ptr 0 0, .dead, .dead, .dead, .dead, .dead, .dead, .dead, .dead, .dead, .dead, .dead, .dead, .dead, .dead, .dead, .dead, .dead, .dead, .d (.agg [.bools 8 ad]), .d (.v (.int .i64 (k : Nat))), .dead, .dead, .dead, .dead, .dead, .dead, .dead, .dead, .dead, .dead, .dead, .dead, .dead, .dead, .dead, .dead, .dead, .dead, .dead, .dead, .dead, .dead, .dead], [some (.var (vSegs e zs ad th ch))]⟩) (fun s => 8 - intAt s 21) rfl ⟨0, by omega, rfl, rfl⟩ ?_)
    rintro s ⟨k, hk, hA, rfl⟩
    have hw : IntKind.i64.wrap ((k : Int) + 1) = ((k + 1 : Nat) : Int) := by rw [wrapS (by omega) (by omega)]; omega
    by_cases hk8 : k < 8
    · have hs := admTo_step zs ad k
      have hm : memB zs (k : Int) = memL zs k := by simp [memB, leafB]; omega
      rw [hA, Bool.true_and] at hs
      cases hb : ad.getD k false with
      | false =>
        rw [hb] at hs
        clear hm
        refine agom ?_; (try with_reducible exact True.intro)
        refine ⟨⟨k + 1, by omega, hs, by rw [← hw]; rfl⟩, ?_⟩
        show 8 - (IntKind.i64.wrap ((k : Int) + 1)).toNat < 8 - (k : Int).toNat
        rw [hw]; omega
      | true =>
        rw [hb] at hs
        cases hm2 : memL zs k with
        | true =>
          rw [hm2] at hs hm
          clear hm2
          refine agom ?_; (try with_reducible exact True.intro)
          refine ⟨⟨k + 1, by omega, hs, by rw [← hw]; rfl⟩, ?_⟩
          show 8 - (IntKind.i64.wrap ((k : Int) + 1)).toNat < 8 - (k : Int).toNat
          rw [hw]; omega
        | false =>
          rw [hm2] at hs hm
          have hr : admTo zs ad 8 = false := by
            cases h : admTo zs ad 8 with
            | false => rfl
            | true =>
              have := admTo_mono zs ad (8 - (k + 1)) (k + 1) (by rw [show k + 1 + (8 - (k + 1)) = 8 by omega]; exact h)
              rw [hs] at this; cases this
          rw [hr]
          clear hm2 hr hs
          refine agom ?_; (try with_reducible exact True.intro)
          rfl
    · obtain rfl : k = 8 := by omega
      rw [hA]
      clear hA
      by_cases h2 : th ≥ 1
      · have d1 : decide (1 ≤ th) = true := decide_eq_true h2
        rw [d1]
        clear d1
        refine agom ?_; (try with_reducible exact True.intro)
        simp
      · have d1 : decide (1 ≤ th) = false := decide_eq_false h2
        rw [d1]
        clear d1
        refine agom ?_; (try with_reducible exact True.intro)
        simp
def vIsS : List A → (Res → Prop) → Prop
  | [.agg [.ints .i64 1 [e], .ints .i64 31 zs, .bools 8 ad, .ints .i64 1 [k], .bytes 32 ch]], K => K (.d (.v (.bool (mayV e zs ad k))))
  | _, _ => False
theorem vIsS_of {f : FuncId} (hx : ∀ e zs ad k ch, FnO f [.agg (vSegs e zs ad k ch)] (.d (.v (.bool (mayV e zs ad k))))) : ∀ args K, vIsS args K → ∃ r, FnO f args r ∧ K r := by
  intro args K h
  unfold vIsS at h
  split at h
  · exact ⟨_, hx _ _ _ _ _, h⟩
  · exact h.elim
set_option maxHeartbeats 8000000 in
theorem rvIs_ok (e : Int) (zs : List Int) (ad : List Bool) (th : Int) (ch : List UInt8) : FnO 76 [.agg (vSegs e zs ad th ch)] (.d (.v (.bool (mayV e zs ad th)))) := by
  refine fnA (E := envVb) Try.func76 Try.ntmps76 ?_
  refine agom ?_; (try with_reducible exact True.intro)
  refine StopL.mk (loop_inv [1, 3] 1 (fun s => ∃ k : Nat, k ≤ 8 ∧ admTo zs ad k = true ∧ s = ⟨[.dead, .ptr 0 0, .dead, .d (.v (.int .i64 (k : Nat))), .dead, .dead, .dead, .dead, .dead, .dead, .dead, .dead, .dead, .dead, .dead, .dead, .dead, .dead, .dead, .dead, .dead, .dead, .dead, .dead, .dead, .dead, .dead, .dead, .dead, .dead, .dead, .dead, .dead, .dead, .dead, .dead, .dead, .dead, .dead, .dead, .dead, .dead, .dead], [some (.var (vSegs e zs ad th ch))]⟩) (fun s => 8 - intAt s 3) rfl ⟨0, by omega, rfl, rfl⟩ ?_)
  rintro s ⟨k, hk, hA, rfl⟩
  have hw : IntKind.i64.wrap ((k : Int) + 1) = ((k + 1 : Nat) : Int) := by rw [wrapS (by omega) (by omega)]; omega
  by_cases hk8 : k < 8
  · have hs := admTo_step zs ad k
    have hm : memB zs (k : Int) = memL zs k := by simp [memB, leafB]; omega
    rw [hA, Bool.true_and] at hs
    cases hb : ad.getD k false with
    | false =>
      rw [hb] at hs
      clear hm
      refine agom ?_; (try with_reducible exact True.intro)
      refine ⟨⟨k + 1, by omega, hs, by rw [← hw]; rfl⟩, ?_⟩
      show 8 - (IntKind.i64.wrap ((k : Int) + 1)).toNat < 8 - (k : Int).toNat
      rw [hw]; omega
    | true =>
      rw [hb] at hs
      cases hm2 : memL zs k with
      | true =>
        rw [hm2] at hs hm
        clear hm2
        refine agom ?_; (try with_reducible exact True.intro)
        refine ⟨⟨k + 1, by omega, hs, by rw [← hw]; rfl⟩, ?_⟩
        show 8 - (IntKind.i64.wrap ((k : Int) + 1)).toNat < 8 - (k : Int).toNat
        rw [hw]; omega
      | false =>
        rw [hm2] at hs hm
        have hr : mayV e zs ad th = false := by
          have : admTo zs ad 8 = false := by
            cases h : admTo zs ad 8 with
            | false => rfl
            | true =>
              have := admTo_mono zs ad (8 - (k + 1)) (k + 1) (by rw [show k + 1 + (8 - (k + 1)) = 8 by omega]; exact h)
              rw [hs] at this; cases this
          simp [mayV, this]
        rw [hr]
        clear hm2 hr hs
        refine agom ?_; (try with_reducible exact True.intro)
  · obtain rfl : k = 8 := by omega
    have hc : cntB ad ≤ 8 ∨ True := .inr trivial
    clear hc
    unfold mayV
    rw [hA]
    clear hA
    by_cases h0 : e ≥ 0
    · rw [decide_eq_true (show 0 ≤ e from h0)]
      by_cases h1 : e ≤ 1099511627776
      · rw [decide_eq_true h1]
        cases hT : isT zs with
        | false =>
          refine agom ?_; (try with_reducible exact True.intro)
          rfl
        | true =>
          by_cases h2 : th ≥ 1
          · rw [decide_eq_true (show 1 ≤ th from h2)]
            refine agom ?_; (try with_reducible exact True.intro)
            simp
          · rw [decide_eq_false (show ¬ 1 ≤ th from h2)]
            refine agom ?_; (try with_reducible exact True.intro)
            rfl
      · rw [decide_eq_false h1]
        refine agom ?_; (try with_reducible exact True.intro)
        rfl
    · rw [decide_eq_false (show ¬ 0 ≤ e from h0)]
      refine agom ?_; (try with_reducible exact True.intro)
      rfl
noncomputable def envVc : EnvX := envVb.add 53 vIsS (vIsS_of vIs_ok) ⟨_, Try.func53, by kernel_rfl, by kernel_rfl⟩
noncomputable def envVd : EnvX := envVc.add 76 vIsS (vIsS_of rvIs_ok) ⟨_, Try.func76, by kernel_rfl, by kernel_rfl⟩
end Go.Proofs.Ytbgdlggobbiibaa

/-
  Operations as bytes, sums of views.
-/
namespace Go.Proofs.Ytbgdlggobbiibaa
set_option maxRecDepth 100000
open Go.RowKit Pm
set_option linter.unusedVariables false
set_option linter.unusedSimpArgs false
attribute [local irreducible] condK LoopA regA numB deriveW numsB treeHV

/-- a byte for each: one for an admin -/
def flagsB (ad : List Bool) : List UInt8 := ad.map fun b => if b = true then 1 else 0
def flagsT (ad : List Bool) (j : Nat) : List UInt8 := (flagsB ad).take j ++ List.replicate (8 - j) 0
theorem flagsT_8 {ad : List Bool} (h : ad.length = 8) : flagsT ad 8 = flagsB ad := by
  unfold flagsT
  rw [List.take_of_length_le (by simp [flagsB, h]), Nat.sub_self, List.replicate_zero, List.append_nil]
theorem flagsT_get {ad : List Bool} (h : ad.length = 8) {j : Nat} (hj : j < 8) : flagsT ad (j + 1) = (flagsT ad j).set j (if ad.getD j false = true then 1 else 0) := by
  have hl : (flagsB ad).length = 8 := by simp [flagsB, h]
  unfold flagsT
  rw [List.set_append_right _ _ (by simp; omega), List.length_take, hl, Nat.min_eq_left (by omega), Nat.sub_self, show 8 - j = (8 - (j + 1)) + 1 by omega, List.replicate_succ, List.set_cons_zero, List.take_add_one, List.append_assoc]
  congr 1
  rw [List.getElem?_eq_getElem (by omega)]
  simp [flagsB, List.getD_eq_getElem?_getD, List.getElem?_eq_getElem (show j < ad.length by omega)]
theorem flagsT_0 {ad : List Bool} (h : ad.length = 8) {j : Nat} (hj : j < 8) (hb : ad.getD j false = false) : flagsT ad (j + 1) = flagsT ad j := by
  have hl : (flagsB ad).length = 8 := by simp [flagsB, h]
  have h1 := flagsT_get h hj
  rw [hb] at h1
  rw [h1]
  unfold flagsT
  rw [List.set_append_right _ _ (by simp; omega), List.length_take, hl, Nat.min_eq_left (by omega), Nat.sub_self, show 8 - j = (8 - (j + 1)) + 1 by omega, List.replicate_succ, List.set_cons_zero]
  rfl
theorem flagsT_1 {ad : List Bool} (h : ad.length = 8) {j : Nat} (hj : j < 8) (hb : ad.getD j false = true) : flagsT ad (j + 1) = (flagsT ad j).set j 1 := by
  have h1 := flagsT_get h hj
  rw [hb] at h1
  exact h1
attribute [local irreducible] flagsT
theorem flagsT_00 (ad : List Bool) : flagsT ad 0 = [0, 0, 0, 0, 0, 0, 0, 0] := by rw [flagsT]; rfl
set_option maxHeartbeats 4000000 in
theorem flags_ok (ad : List Bool) : FnO 55 [.agg [.bools 8 ad]] (.o 5 1 8 [.bytes 8 (flagsB ad)]) := by
  refine fn_lens fun hl => ?_
  replace hl : ad.length = 8 := hl.1.1
  refine fnA (E := envK8) Try.func55 Try.ntmps55 ?_
  refine agow ?_; (try with_reducible exact True.intro)
  refine StopL.mk (loop_forG [1, 3, 4] [0, 1] 8 (fun j => ⟨[.dead, .ptr 0 0, .dead, .own 1 8, .d (.v (.int .i64 (j : Nat))), .dead, .dead, .dead, .dead, .dead, .dead, .dead, .dead, .dead, .dead, .dead, .dead], [some (.var [.bools 8 ad]), some (.sl 5 1 8 [.bytes 8 (flagsT ad j)])]⟩) ?_ (h2 := by rw [flagsT_00]; exact rfl))
  intro j hj hl8
  by_cases hj8 : j < 8
  · cases hb : ad.getD j false with
    | true =>
      refine agow ?_; (try with_reducible exact True.intro)
      refine hl8.go hj8 [1, 3, 4] [0, 1] ?_
      rw [flagsT_1 hl hj8 hb]
      rfl
    | false =>
      refine agow ?_; (try with_reducible exact True.intro)
      refine hl8.go hj8 [1, 3, 4] [0, 1] ?_
      rw [flagsT_0 hl hj8 hb]
      rfl
  · obtain rfl : j = 8 := by omega
    rw [flagsT_8 hl]
    refine agow ?_; (try with_reducible exact True.intro)
def viewHV (e : Int) (zs : List Int) (ad : List Bool) (k : Int) (ch : List UInt8) : List UInt8 := deriveW ch (sb ⟨#[118, 105, 101, 119]⟩) (numB e ++ (numB k ++ (flagsB ad ++ treeHV zs)))
theorem five_get (L : List Int) (i k : Nat) (hk : k < 5) : ((L.drop i).take 5).getD k 0 = L.getD (i + k) 0 := by
  rw [List.getD_eq_getElem?_getD, List.getElem?_take, if_pos hk, List.getElem?_drop, ← List.getD_eq_getElem?_getD]
theorem five_eq {o : List Int} (h : o.length = 5) : o = [o.getD 0 0, o.getD 1 0, o.getD 2 0, o.getD 3 0, o.getD 4 0] := by
  rcases o with _ | ⟨a, _ | ⟨b, _ | ⟨c, _ | ⟨d, _ | ⟨e, _ | ⟨f, l⟩⟩⟩⟩⟩⟩ <;> first | (simp at h; done) | rfl
theorem numsB_five (zs : List Int) {i : Nat} (h : i + 5 ≤ zs.length) : numsB (zs.take (i + 5)) = numsB (zs.take i) ++ numsB [((zs.drop i).take 5).getD 0 0, ((zs.drop i).take 5).getD 1 0, ((zs.drop i).take 5).getD 2 0, ((zs.drop i).take 5).getD 3 0, ((zs.drop i).take 5).getD 4 0] := by
  rw [← five_eq (o := (zs.drop i).take 5) (by simp; omega), ← numsB_append, List.take_add]
set_option maxHeartbeats 4000000 in
theorem ops_ok (zs : List Int) (n : Nat) (hz : zs.length = n * 5) (hn : n ≤ 1000000) : FnO 60 [.row n [.ints .i64 (n * 5) zs]] (.o 5 1 (n * 40) [.bytes (n * 40) (numsB zs)]) := by
  refine fnA (E := envK8) Try.func60 Try.ntmps60 ?_
  refine agow ?_; (try with_reducible exact True.intro)
  refine StopL.mk (loop_forN [3, 8, 9, 10] [0] 3 5 1 [.bytes 0 []] n (fun j => ⟨[.dead, .dead, .dead, .own 0 (j * 40), .dead, .dead, .dead, .dead, .d (.row n [.ints .i64 (n * 5) zs]), .d (.v (.int .i64 (n : Nat))), .d (.v (.int .i64 (j : Nat))), .dead, .dead, .dead, .dead, .dead, .dead, .dead, .dead, .dead, .dead, .dead, .dead, .dead, .dead, .dead, .dead, .dead, .dead, .dead, .dead, .dead, .dead, .dead, .dead, .dead, .dead], [some (.sl 5 1 (j * 40) [.bytes (j * 40) (numsB (zs.take (j * 5)))])]⟩) ?_ (h2 := by rw [Nat.zero_mul, List.take_zero, numsB_nil]; exact rfl))
  intro j hj hl
  by_cases hjn : j < n
  · refine agow ?_; (try with_reducible exact True.intro)
    refine StopL.mk (loop_unroll 6 ?_)
    refine agow ?_; (try with_reducible exact True.intro)
    refine hl.go hjn [3, 8, 9, 10] [0] ?_
    rw [show (j + 1) * 5 = j * 5 + 5 by omega, numsB_five zs (by omega), show (j + 1) * 40 = j * 40 + 8 + 8 + 8 + 8 + 8 by omega]
    simp only [numsB_cons, numsB_nil, List.append_nil, ← List.append_assoc]
    rfl
  · obtain rfl : j = n := by omega
    rw [show zs.take (j * 5) = zs from List.take_of_length_le (by omega)]
    refine agow ?_; (try with_reducible exact True.intro)
set_option maxHeartbeats 4000000 in
theorem rops_ok (zs : List Int) (n : Nat) (hz : zs.length = n * 5) (hn : n ≤ 1000000) : FnO 71 [.row n [.ints .i64 (n * 5) zs]] (.o 5 1 (n * 40) [.bytes (n * 40) (numsB zs)]) := by
  refine fnA (E := envK8) Try.func71 Try.ntmps71 ?_
  refine agow ?_; (try with_reducible exact True.intro)
  refine StopL.mk (loop_forN [0, 3, 4] [0] 3 5 1 [.bytes 0 []] n (fun j => ⟨[.d (.row n [.ints .i64 (n * 5) zs]), .dead, .dead, .own 0 (j * 40), .d (.v (.int .i64 (j : Nat))), .dead, .dead, .dead, .dead, .dead, .dead, .dead, .dead, .dead, .dead, .dead, .dead, .dead, .dead, .dead, .dead, .dead, .dead, .dead, .dead, .dead, .dead, .dead, .dead, .dead, .dead, .dead, .dead, .dead, .dead, .dead, .dead, .dead, .dead, .dead, .dead, .dead, .dead], [some (.sl 5 1 (j * 40) [.bytes (j * 40) (numsB (zs.take (j * 5)))])]⟩) ?_ (h2 := by rw [Nat.zero_mul, List.take_zero, numsB_nil]; exact rfl))
  intro j hj hl
  by_cases hjn : j < n
  · refine agow ?_; (try with_reducible exact True.intro)
    refine hl.go hjn [0, 3, 4] [0] ?_
    rw [show (j + 1) * 5 = j * 5 + 5 by omega, numsB_five zs (by omega), show (j + 1) * 40 = j * 40 + 40 by omega, five_get _ _ 0 (by omega), five_get _ _ 1 (by omega), five_get _ _ 2 (by omega), five_get _ _ 3 (by omega), five_get _ _ 4 (by omega)]
    rfl
  · obtain rfl : j = n := by omega
    rw [show zs.take (j * 5) = zs from List.take_of_length_le (by omega)]
    refine agow ?_; (try with_reducible exact True.intro)
def flagsS : List A → (Res → Prop) → Prop
  | [.agg [.bools 8 ad]], K => K (.o 5 1 8 [.bytes 8 (flagsB ad)])
  | _, _ => False
theorem flagsS_ok : ∀ args K, flagsS args K → ∃ r, FnO 55 args r ∧ K r := by
  intro args K h
  unfold flagsS at h
  split at h
  · exact ⟨_, flags_ok _, h⟩
  · exact h.elim
noncomputable def envK9 : EnvX := envK8.add 55 flagsS flagsS_ok ⟨_, Try.func55, by kernel_rfl, by kernel_rfl⟩
attribute [local irreducible] flagsB
/-- a view's sum, on both sides -/
def vHashS : List A → (Res → Prop) → Prop
  | [.agg [.ints .i64 1 [e], .ints .i64 31 zs, .bools 8 ad, .ints .i64 1 [k], .bytes 32 ch]], K => K (.d (.agg [.bytes 32 (viewHV e zs ad k ch)]))
  | _, _ => False
theorem vHashS_of {f : FuncId} (hx : ∀ e zs ad k ch, FnO f [.agg (vSegs e zs ad k ch)] (.d (.agg [.bytes 32 (viewHV e zs ad k ch)]))) : ∀ args K, vHashS args K → ∃ r, FnO f args r ∧ K r := by
  intro args K h
  unfold vHashS at h
  split at h
  · exact ⟨_, hx _ _ _ _ _, h⟩
  · exact h.elim
end Go.Proofs.Ytbgdlggobbiibaa

/-
  The types of later stages, and an environment that knows them.
-/
namespace Go.Proofs.Ytbgdlggobbiibaa
set_option maxRecDepth 100000
open Go.RowKit
set_option linter.unusedVariables false
set_option linter.unusedSimpArgs false

def yTab2 (t0 : TypeId) : Option TI :=
  match t0 with
  | 30 => some (tiStruct 2 [.ints .i64 2 [0, 0]] [0, 1] [3, 3] 16 true [(0, 1), (1, 1)])
  | 71 => some (tiStruct 3 [.ints .i64 3 [0, 0, 0]] [0, 1] [3, 30] 24 true [(0, 1), (1, 2)])
  | 24 => some (tiSl 71 3)
  | 32 => some (tiStruct 43 [.ints .i64 2 [0, 0], .gen 2 [.v (.slice none 0 0), .v (.slice none 0 0)], .ints .i64 4 [0, 0, 0, 0], .gen 1 [.v (.slice none 0 0)], .bytes 32 (List.replicate 32 0), .ints .i64 2 [0, 0]] [0, 1, 2, 3, 4, 5, 8, 9, 41] [3, 3, 23, 24, 3, 25, 26, 28, 30] 168 false [(0, 1), (1, 1), (2, 1), (3, 1), (4, 1), (5, 3), (8, 1), (9, 32), (41, 2)])
  | 48 => some (tiStruct 108 [.ints .i64 2 [0, 0], .ints .i64 1 [0], .ints .i64 31 (List.replicate 31 0), .bools 8 (List.replicate 8 false), .ints .i64 1 [0], .bytes 32 (List.replicate 32 0), .gen 1 [.v (.slice none 0 0)], .bytes 32 (List.replicate 32 0)] [0, 1, 2, 75, 76] [3, 3, 46, 22, 28] 376 false [(0, 1), (1, 1), (2, 73), (75, 1), (76, 32)])
  | 58 => some (tiStruct 2 [.gen 1 [.v (.slice none 0 0)], .bools 1 [false]] [0, 1] [22, 4] 32 false [(0, 1), (1, 1)])
  | 64 => some (tiStruct 2 [.gen 1 [.v (.slice none 0 0)], .bools 1 [false]] [0, 1] [22, 4] 32 false [(0, 1), (1, 1)])
  | 85 => some tiPtr
  | 62 => some tiPtr
  | _ => yTab t0
set_option maxRecDepth 100000 in
theorem yOK2 : ∀ t i, yTab2 t = some i → TyOK Try.prog t i := by
  intro t i h
  unfold yTab2 at h
  split at h <;> first | (cases h; exact tyB_spec (by kernel_rfl)) | exact yOK _ _ h
set_option maxRecDepth 100000 in
theorem yEq2 : ∀ t i, yTab2 t = some i → i.eq = true → EqT Try.prog t i := by
  intro t i h
  unfold yTab2 at h
  split at h <;> first | (cases h; intro he; cases he; done) | (cases h; intro _; exact eqB_spec (by kernel_rfl)) | exact yEq _ _ h
/-- an environment with more types -/
noncomputable def EnvX.withY (E : EnvX) (Y : TypeId → Option TI) (h1 : ∀ t i, Y t = some i → TyOK E.P t i) (h2 : ∀ t i, Y t = some i → i.eq = true → EqT E.P t i) : EnvX :=
  { P := E.P, Y := Y, G := E.G, C := E.C, M := E.M, B := E.B, hB := E.hB, hY := h1, hC := E.hC, hMu := E.hMu, fr := E.fr, hfr := E.hfr, hF := E.hF, hE := h2, hM := E.hM }
end Go.Proofs.Ytbgdlggobbiibaa

/-
  The machine without memory: what a whnf alone doesn't decide. No program is named here.
-/
namespace Go.Proofs.Ytbgdlggobbiibaa
set_option maxRecDepth 100000
open Go.RowKit
set_option linter.unusedVariables false
set_option linter.unusedSimpArgs false

theorem ptOf_own {s : St} {b n m : Nat} {e : TypeId} {z : Nat} {l : List Seg} (h : s.bk b = some (.sl e z m l)) (hn : n = m) : ptOf s (.own b n) = some (.own b n) := by
  subst hn; unfold ptOf; simp only [h, if_true]
theorem ptsOf_cons {s : St} {x : Operand} {r : List (Nat × Operand)} {k : Nat} {t : T} {p : Pt} {l : List Pt} (h1 : s.ev x = t) (h2 : ptOf s t = some p) (h3 : ptsOf s r (k + 1) = some l) : ptsOf s ((k, x) :: r) k = some (p :: l) := by
  rw [ptsOf, if_pos rfl, h1, h2, h3]
theorem ptsOf_nil {s : St} {k : Nat} : ptsOf s [] k = some [] := rfl
theorem agox {p q : Prop} (left : q) (h : (Left q → p) ∧ Isq q := by
    refine And.intro ?_ ?_
    · intro left_is
      (conv => whnf); repeat ((first | ((first | refine toA ?_ | refine toE ?_ | refine toD ?_); (try (conv => arg 2; simp (disch := omega) only [wrapS, Int.toNat_natCast, Seg.n, wn1, wn2, wn3, wn4, wn5, wn6, wn7, wn8, wn9, wn10, wn11, wn12, wn13, wn14, wn15, wn16, Int.reduceAdd, Int.zero_add, Seg.cell, Seg.sub, List.set_nil, isAlloc, trimH, List.take_append_drop, St.app, St.app2, St.ev, List.getD_cons_zero, List.getD_cons_succ, List.getD_nil, St.sl, St.bk, tiInt, tiBool, tiSl, tiArr, tiStruct, weaken, keepT, List.set_cons_zero, List.set_cons_succ, List.length_cons, List.length_nil, List.cons_append, List.nil_append, List.append_nil, List.map_cons, List.map_nil, List.replicate_succ, List.replicate_zero, List.take_succ_cons, List.take_zero, List.drop_succ_cons, List.drop_zero, List.take_nil, List.drop_nil, Nat.reduceAdd, Nat.reduceSub, Nat.reduceMul, Nat.reduceEqDiff, Nat.reduceLT, Nat.reduceLeDiff, Nat.zero_add, Nat.add_zero, Nat.sub_self, Nat.sub_zero, Nat.one_mul, Nat.mul_one, Nat.zero_mul, joinS, manyS, List.flatten_cons, List.flatten_nil, eq_self, ite_true, if_true, if_false, ↓reduceIte, reduceCtorEq, Int.reduceToNat, cntAlloc, opRefs])); first | (refine ofA ?_; (conv => arg 3; whnf); first | refine regA_cons ?_ | refine regA_nil ?_) | (refine ofD ?_; (conv => arg 5; whnf); first | refine regD_cons ?_ | refine regD_nil ?_) | (refine ofE ?_; (conv => arg 2; whnf); (refine regDr_intro _ rfl ?_ ?_); focus (kernel_rfl))) | (refine StopC.mk ?_; first | (refine condK_is ?_ ?_; focus (first | rfl | assumption | (simp only [bne, Bool.true_beq, Bool.false_beq, beq_true, beq_false, Bool.not_true, Bool.not_false, Bool.true_and, Bool.and_true, Bool.false_and, Bool.and_false, Bool.true_or, Bool.or_true, Bool.false_or, Bool.or_false, beq_iff_eq, beq_eq_false_iff_ne, ne_eq, Bool.not_eq_true', Bool.not_eq_false', decide_eq_true_eq, decide_eq_false_iff_not, ge_iff_le, gt_iff_lt, *] <;> omega) | (simp [eqSegs, *] <;> omega))) | (refine condK_isnt ?_ ?_; focus (first | rfl | assumption | (simp only [bne, Bool.true_beq, Bool.false_beq, beq_true, beq_false, Bool.not_true, Bool.not_false, Bool.true_and, Bool.and_true, Bool.false_and, Bool.and_false, Bool.true_or, Bool.or_true, Bool.false_or, Bool.or_false, beq_iff_eq, beq_eq_false_iff_ne, ne_eq, Bool.not_eq_true', Bool.not_eq_false', decide_eq_true_eq, decide_eq_false_iff_not, ge_iff_le, gt_iff_lt, *] <;> omega) | (simp [eqSegs, *] <;> omega)))) | (refine And.intro ?_ ?_; focus (first | exact rfl | exact Nat.le_of_ble_eq_true rfl | exact Or.inr rfl | exact Or.inl rfl | (intro hx; cases hx <;> fail) | (intro _; rfl) | exact ⟨_, rfl, rfl⟩ | omega | (simp only [Seg.n, segN, tiByte, tiPtr, tiInt, tiBool, tiSl, tiArr, tiStruct]; omega) | (refine leLe ?_; (try simp only [Seg.n, segN, tiByte, tiPtr, tiInt, tiBool, tiSl, tiArr, tiStruct]); omega) | assumption | decide | (simp [Seg.n, segN, tiByte, tiPtr, tiInt, tiBool, tiSl, tiArr, tiStruct, *] <;> omega))) | (refine Exists.intro _ (And.intro rfl ?_))); (conv => whnf))
      all_goals exact left_is.out
    · first | with_reducible exact isqT | exact isqA) : p := h.1 ⟨left⟩
end Go.Proofs.Ytbgdlggobbiibaa

/-
  Commits as bytes: numbers, boxes.
-/
namespace Go.Proofs.Ytbgdlggobbiibaa
set_option maxRecDepth 100000
open Go.RowKit Pm
set_option linter.unusedVariables false
set_option linter.unusedSimpArgs false
attribute [local irreducible] condK LoopA regA numB numsB

noncomputable def envC0 : EnvX := envK9.withY yTab2 yOK2 yEq2
def opsCS : List A → (Res → Prop) → Prop
  | [.row n [.ints .i64 m zs]], K => m = n * 5 ∧ n ≤ 1000000 ∧ zs.length = n * 5 ∧ K (.o 5 1 (n * 40) [.bytes (n * 40) (numsB zs)])
  | _, _ => False
theorem opsCS_of {f : FuncId} (h : ∀ (zs : List Int) (n : Nat), zs.length = n * 5 → n ≤ 1000000 → FnO f [.row n [.ints .i64 (n * 5) zs]] (.o 5 1 (n * 40) [.bytes (n * 40) (numsB zs)])) : ∀ args K, opsCS args K → ∃ r, FnO f args r ∧ K r := by
  intro args K hd
  unfold opsCS at hd
  split at hd
  · obtain ⟨rfl, h1, h2, h3⟩ := hd
    exact ⟨_, h _ _ h2 h1, h3⟩
  · exact hd.elim
noncomputable def envC1 : EnvX := envC0.add 60 opsCS (opsCS_of ops_ok) ⟨_, Try.func60, by kernel_rfl, by kernel_rfl⟩
noncomputable def envC2 : EnvX := envC1.add 71 opsCS (opsCS_of rops_ok) ⟨_, Try.func71, by kernel_rfl, by kernel_rfl⟩
set_option maxHeartbeats 4000000 in
theorem wnums_ok (zs : List Int) (hz : zs.length ≤ 1000000) : FnO 59 [.row zs.length [.ints .i64 zs.length zs]] (.o 5 1 (zs.length * 8) [.bytes (zs.length * 8) (numsB zs)]) := by
  refine fnA (E := envC2) Try.func59 Try.ntmps59 ?_
  refine agow ?_; (try with_reducible exact True.intro)
  refine StopL.mk (loop_forN [3, 6, 7, 8] [0] 3 5 1 [.bytes 0 []] zs.length (fun j => ⟨[.dead, .dead, .dead, .own 0 (j * 8), .dead, .dead, .d (.row zs.length [.ints .i64 zs.length zs]), .d (.v (.int .i64 zs.length)), .d (.v (.int .i64 (j : Nat))), .dead, .dead, .dead, .dead, .dead, .dead, .dead, .dead, .dead], [some (.sl 5 1 (j * 8) [.bytes (j * 8) (numsB (zs.take j))])]⟩) ?_ (h2 := by rw [List.take_zero, numsB_nil]; exact rfl))
  intro j hj hl
  by_cases hjz : j < zs.length
  · have h1 : (j : Int) < (zs.length : Int) := by omega
    refine agow ?_; (try with_reducible exact True.intro)
    refine hl.go hjz [3, 6, 7, 8] [0] ?_
    rw [numsB_take zs hjz, Nat.add_mul, Nat.one_mul]
    rfl
  · obtain rfl : j = zs.length := by omega
    have e : zs.take zs.length = zs := List.take_length
    have h1 : ¬ (zs.length : Int) < (zs.length : Int) := by omega
    rw [e]
    refine agow ?_; (try with_reducible exact True.intro)
theorem wnumsS_ok : ∀ args K, numsS args K → ∃ r, FnO 59 args r ∧ K r := by
  intro args K h
  unfold numsS at h
  split at h
  · obtain ⟨rfl, rfl, h1, h2⟩ := h
    exact ⟨_, wnums_ok _ h1, h2⟩
  · exact h.elim
noncomputable def envC3 : EnvX := envC2.add 59 numsS wnumsS_ok ⟨_, Try.func59, by kernel_rfl, by kernel_rfl⟩
/-- a box with its length ahead -/
def boxB (bs : List UInt8) : List UInt8 := numsB [(bs.length : Int)] ++ bs
set_option maxHeartbeats 4000000 in
theorem wbox_ok (bs : List UInt8) (hb : bs.length ≤ 1000000) : FnO 61 [.row bs.length [.bytes bs.length bs]] (.o 5 1 (8 + bs.length) [.bytes (8 + bs.length) (boxB bs)]) := by
  refine fnA (E := envC3) Try.func61 Try.ntmps61 ?_
  refine agow ?_; (try with_reducible exact True.intro)
  rfl
def boxS : List A → (Res → Prop) → Prop
  | [.row n [.bytes m bs]], K => n = bs.length ∧ m = bs.length ∧ bs.length ≤ 1000000 ∧ K (.o 5 1 (8 + bs.length) [.bytes (8 + bs.length) (boxB bs)])
  | _, _ => False
theorem boxS_ok : ∀ args K, boxS args K → ∃ r, FnO 61 args r ∧ K r := by
  intro args K h
  unfold boxS at h
  split at h
  · obtain ⟨rfl, rfl, h1, h2⟩ := h
    exact ⟨_, wbox_ok _ h1, h2⟩
  · exact h.elim
noncomputable def envC4 : EnvX := envC3.add 61 boxS boxS_ok ⟨_, Try.func61, by kernel_rfl, by kernel_rfl⟩
/-- a commit's numbers, rows, boxes -/
structure CS where
  e : Int
  fr : Int
  n : Nat
  ops : List Int
  m : Nat
  vs : List Int
  sl : Int
  p0 : Int
  p1 : Int
  p2 : Int
  k : Nat
  bx : Nat → List UInt8
  tag : List UInt8
  sE : Int
  sS : Int
def boxF (bx : Nat → List UInt8) (j : Nat) : List Seg := [.gen 1 [.row (bx j).length [.bytes (bx j).length (bx j)]]]
def cSegs (c : CS) : List Seg := [.ints .i64 2 [c.e, c.fr], .gen 2 [.row c.n [.ints .i64 (c.n * 5) c.ops], .row c.m [.ints .i64 (c.m * 3) c.vs]], .ints .i64 4 [c.sl, c.p0, c.p1, c.p2], .gen 1 [.recs c.k 1 (boxF c.bx)], .bytes 32 c.tag, .ints .i64 2 [c.sE, c.sS]]
/-- what may be handed in -/
structure CSok (c : CS) : Prop where
  n : c.n ≤ 3000
  m : c.m ≤ 3000
  k : c.k ≤ 3000
  ops : c.ops.length = c.n * 5
  vs : c.vs.length = c.m * 3
  bx : ∀ j, j < c.k → (c.bx j).length ≤ 6000
/-- so many bytes have the first boxes -/
def bxN (bx : Nat → List UInt8) : Nat → Nat
  | 0 => 0
  | j + 1 => bxN bx j + (8 + (bx j).length)
def bxB (bx : Nat → List UInt8) : Nat → List UInt8
  | 0 => []
  | j + 1 => bxB bx j ++ boxB (bx j)
def bodyHead (c : CS) : List UInt8 := (numsB [c.e, c.fr, (c.n : Int)] ++ numsB c.ops) ++ numsB [(c.m : Int)]
def bodyMid (c : CS) : List UInt8 := (bodyHead c ++ numsB c.vs) ++ numsB [c.sl, c.p0, c.p1, c.p2, (c.k : Int)]
def bodyB (c : CS) : List UInt8 := bodyMid c ++ bxB c.bx c.k
def bodyN (c : CS) : Nat := 24 + c.n * 40 + 8 + c.m * 24 + 40 + bxN c.bx c.k
theorem bxN_le {bx : Nat → List UInt8} : ∀ {k : Nat}, (∀ j, j < k → (bx j).length ≤ 6000) → bxN bx k ≤ k * 6008
  | 0, _ => Nat.zero_le _
  | k + 1, h => by
    have h1 := bxN_le (k := k) fun j hj => h j (by omega)
    have h2 := h k (by omega)
    show bxN bx k + (8 + (bx k).length) ≤ _
    omega
theorem three_eqC {o : List Int} (h : o.length = 3) : o = [o.getD 0 0, o.getD 1 0, o.getD 2 0] := by
  rcases o with _ | ⟨a, _ | ⟨b, _ | ⟨c, _ | ⟨d, l⟩⟩⟩⟩ <;> first | (simp at h; done) | rfl
theorem numsB_three (zs : List Int) {i : Nat} (h : i + 3 ≤ zs.length) : numsB (zs.take (i + 3)) = numsB (zs.take i) ++ numsB [((zs.drop i).take 3).getD 0 0, ((zs.drop i).take 3).getD 1 0, ((zs.drop i).take 3).getD 2 0] := by
  rw [← three_eqC (o := (zs.drop i).take 3) (by simp; omega), ← numsB_append, List.take_add]
attribute [local irreducible] boxB
set_option maxHeartbeats 8000000 in
theorem wbody_ok (c : CS) (hc : CSok c) : FnO 28 [.agg (cSegs c)] (.o 5 1 (bodyN c) [.bytes (bodyN c) (bodyB c)]) := by
  refine fnA (E := envC4) Try.func28 Try.ntmps28 ?_
  obtain ⟨h1, h2, h3, h4, h5, h6⟩ := hc
  refine agow ?_; (try with_reducible exact True.intro)
  refine StopL.mk (loop_forG [1, 3, 30, 31, 32] [0, 2] c.m (fun j => ⟨[.dead, .ptr 0 0, .dead, .own 1 (24 + c.n * 40 + 8 + j * 24), .dead, .dead, .dead, .dead, .dead, .dead, .dead, .dead, .dead, .dead, .dead, .dead, .dead, .dead, .dead, .dead, .dead, .dead, .dead, .dead, .dead, .dead, .dead, .dead, .dead, .dead, .d (.row c.m [.ints .i64 (c.m * 3) c.vs]), .d (.v (.int .i64 c.m)), .d (.v (.int .i64 (j : Nat))), .dead, .dead, .dead, .dead, .dead, .dead, .dead, .dead, .dead, .dead, .dead, .dead, .dead, .dead, .dead, .dead, .dead, .dead, .dead, .dead, .dead, .dead, .dead, .dead, .dead, .dead, .dead, .dead, .dead, .dead, .dead, .dead, .dead, .dead, .dead, .dead, .dead, .dead, .dead, .dead, .dead, .dead, .dead, .dead, .dead, .dead, .dead], [some (.var (cSegs c)), some (.sl 5 1 (24 + c.n * 40 + 8 + j * 24) [.bytes (24 + c.n * 40 + 8 + j * 24) (bodyHead c ++ numsB (c.vs.take (j * 3)))])]⟩) ?_ (h2 := by simp only [Nat.zero_mul, List.take_zero, numsB_nil, List.append_nil, Nat.add_zero]; exact rfl))
  intro j hj hl
  by_cases hjm : j < c.m
  · have g1 : (j : Int) < (c.m : Int) := by omega
    refine agow ?_; (try with_reducible exact True.intro)
    refine hl.go hjm [1, 3, 30, 31, 32] [0, 1] ?_
    rw [show (j + 1) * 3 = j * 3 + 3 by omega, numsB_three c.vs (by omega), show (j + 1) * 24 = j * 24 + 24 by omega, ← List.append_assoc, ← Nat.add_assoc]
    rfl
  · obtain rfl : j = c.m := by omega
    have g1 : ¬ (c.m : Int) < (c.m : Int) := by omega
    rw [show c.vs.take (c.m * 3) = c.vs from List.take_of_length_le (by omega)]
    refine agow ?_; (try with_reducible exact True.intro)
    refine StopL.mk (loop_forG [3, 68, 69, 70] [0, 1] c.k (fun j => ⟨[.dead, .dead, .dead, .own 1 (24 + c.n * 40 + 8 + c.m * 24 + 40 + bxN c.bx j), .dead, .dead, .dead, .dead, .dead, .dead, .dead, .dead, .dead, .dead, .dead, .dead, .dead, .dead, .dead, .dead, .dead, .dead, .dead, .dead, .dead, .dead, .dead, .dead, .dead, .dead, .dead, .dead, .dead, .dead, .dead, .dead, .dead, .dead, .dead, .dead, .dead, .dead, .dead, .dead, .dead, .dead, .dead, .dead, .dead, .dead, .dead, .dead, .dead, .dead, .dead, .dead, .dead, .dead, .dead, .dead, .dead, .dead, .dead, .dead, .dead, .dead, .dead, .dead, .d (.recs c.k 1 (boxF c.bx)), .d (.v (.int .i64 c.k)), .d (.v (.int .i64 (j : Nat))), .dead, .dead, .dead, .dead, .dead, .dead, .dead, .dead, .dead], [some (.var (cSegs c)), some (.sl 5 1 (24 + c.n * 40 + 8 + c.m * 24 + 40 + bxN c.bx j) [.bytes (24 + c.n * 40 + 8 + c.m * 24 + 40 + bxN c.bx j) (bodyMid c ++ bxB c.bx j)])]⟩) ?_ (h2 := by simp only [bxN, bxB, List.append_nil, Nat.add_zero]; exact rfl))
    intro i hi hl2
    by_cases hik : i < c.k
    · have g2 : (i : Int) < (c.k : Int) := by omega
      have g3 := h6 i hik
      have g4 : (c.bx i).length ≤ 1000000 := by omega
      have g5 : bxN c.bx i ≤ 18030000 := by have := bxN_le (bx := c.bx) (k := i) (fun j hj => h6 j (by omega)); omega
      refine agow ?_; (try with_reducible exact True.intro)
      refine hl2.go hik [3, 68, 69, 70] [0, 1] ?_
      have e1 : 24 + c.n * 40 + 8 + c.m * 24 + 40 + bxN c.bx (i + 1) = 24 + c.n * 40 + 8 + c.m * 24 + 40 + bxN c.bx i + (8 + (c.bx i).length) := (Nat.add_assoc _ _ _).symm
      have e2 : bodyMid c ++ bxB c.bx (i + 1) = (bodyMid c ++ bxB c.bx i) ++ boxB (c.bx i) := (List.append_assoc _ _ _).symm
      rw [e1, e2]
      rfl
    · obtain rfl : i = c.k := by omega
      have g2 : ¬ (c.k : Int) < (c.k : Int) := by omega
      refine agow ?_; (try with_reducible exact True.intro)
      rfl
end Go.Proofs.Ytbgdlggobbiibaa

/-
  Views: operations with what is not their own.
-/
namespace Go.Proofs.Ytbgdlggobbiibaa
set_option maxRecDepth 100000
open Go.RowKit Pm
set_option linter.unusedVariables false
set_option linter.unusedSimpArgs false
attribute [local irreducible] condK LoopA regA

/-- has an operation nothing but its own fields? kind, who, threshold, keys -/
def ownB (o : List Int) : Bool :=
  if o.getD 0 0 = 1 then decide (o.getD 1 0 = 0) && decide (o.getD 2 0 = 0)
  else if o.getD 0 0 = 2 ∨ o.getD 0 0 = 3 ∨ o.getD 0 0 = 4 then decide (o.getD 2 0 = 0) && (decide (o.getD 3 0 = 0) && decide (o.getD 4 0 = 0))
  else if o.getD 0 0 = 5 then decide (o.getD 1 0 = 0) && (decide (o.getD 3 0 = 0) && decide (o.getD 4 0 = 0))
  else false
theorem five {o : List Int} (h : o.length = 5) : ∃ a b c d e, o = [a, b, c, d, e] := by
  rcases o with _ | ⟨a, _ | ⟨b, _ | ⟨c, _ | ⟨d, _ | ⟨e, _ | ⟨f, l⟩⟩⟩⟩⟩⟩ <;> simp at h
  exact ⟨a, b, c, d, e, rfl⟩
def ownS (neg : Bool) : List A → (Res → Prop) → Prop
  | [.agg [.ints .i64 5 o]], K => K (.d (.v (.bool (if neg = true then !ownB o else ownB o))))
  | _, _ => False
theorem ownS_of {f : FuncId} (neg : Bool) (hx : ∀ o, FnO f [.agg [.ints .i64 5 o]] (.d (.v (.bool (if neg = true then !ownB o else ownB o))))) : ∀ args K, ownS neg args K → ∃ r, FnO f args r ∧ K r := by
  intro args K h
  unfold ownS at h
  split at h
  · exact ⟨_, hx _, h⟩
  · exact h.elim
noncomputable def envVe : EnvX := envVd
noncomputable def envVf : EnvX := envVe
/-! is any operation odd? -/
def opAt (zs : List Int) (i : Nat) : List Int := (zs.drop (i * 5)).take 5
def idxP (p : Nat → Bool) (n : Nat) : Int := match (List.range n).find? p with | some i => (i : Int) | none => -1
theorem idxP_at {p : Nat → Bool} {n k : Nat} (hk : k < n) (h : p k = true) (hn : ∀ j < k, p j = false) : idxP p n = (k : Int) := by
  have : (List.range n).find? p = some k := by
    rw [List.find?_range_eq_some]
    exact ⟨h, by simpa using hk, fun j hj => by simp [hn j hj]⟩
  unfold idxP; rw [this]
theorem idxP_none {p : Nat → Bool} {n : Nat} (hn : ∀ j < n, p j = false) : idxP p n = -1 := by
  have : (List.range n).find? p = none := by
    rw [List.find?_eq_none]
    intro j hj
    simp [hn j (by simpa using hj)]
  unfold idxP; rw [this]
def oddTo (zs : List Int) (n : Nat) : Bool := (List.range n).any fun i => !ownB (opAt zs i)
theorem idxP_any (zs : List Int) (n : Nat) : decide (idxP (fun i => !ownB (opAt zs i)) n ≥ 0) = oddTo zs n := by
  cases h : oddTo zs n with
  | true =>
    unfold oddTo at h
    rw [List.any_eq_true] at h
    obtain ⟨i, hi, hp⟩ := h
    unfold idxP
    cases hf : (List.range n).find? fun i => !ownB (opAt zs i) with
    | some j => simp
    | none =>
      rw [List.find?_eq_none] at hf
      exact absurd hp (hf i hi)
  | false =>
    unfold oddTo at h
    rw [List.any_eq_false] at h
    have := idxP_none (p := fun i => !ownB (opAt zs i)) (n := n) fun j hj => by
      have := h j (by simpa using hj)
      simpa using this
    rw [this]; rfl
def funOf : A → Option FuncId
  | .v (.func (.func g) a b) => if a = #[] ∧ b = #[] then some g else none
  | _ => none
end Go.Proofs.Ytbgdlggobbiibaa
