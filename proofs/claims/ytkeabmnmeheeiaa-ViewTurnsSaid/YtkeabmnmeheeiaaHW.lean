/-
  Views: what the laws of stage 9 stand on: keys.
-/
import Derived.Test.YtkeabmnmeheeiaaHV3
import Derived.Test.YtkeabmnmeheeiaaK1
import Derived.Deep.Slices
import Derived.Test.YtkeabmnmeheeiaaHA2
namespace Go.Proofs.Ytkeabmnmeheeiaa
set_option maxRecDepth 100000
open Go.RowKit Pm
set_option linter.unusedVariables false
set_option linter.unusedSimpArgs false

theorem powI_lt_ne {a b : Nat} (ha : 1 ≤ a) (hab : a < b) (hb : b < 1073741789) : pw 4 a ≠ pw 4 b := by
  intro h
  have e1 : pw 4 (1073741789 - a) * pw 4 a % 2147483579 = 1 := by rw [pw_add, show 1073741789 - a + a = 1073741789 by omega, four_Q]
  have e2 : pw 4 (1073741789 - a) * pw 4 b % 2147483579 = pw 4 (b - a) := by
    rw [pw_add, show 1073741789 - a + b = 1073741789 + (b - a) by omega, ← pw_add, four_Q, Nat.one_mul, Nat.mod_eq_of_lt (pw_lt _ _)]
  rw [← h, e1] at e2
  exact four_ne (b - a) (by omega) (by omega) e2.symm
theorem powI_inj {a b : Int} (ha : 1 ≤ a ∧ a < 1073741789) (hb : 1 ≤ b ∧ b < 1073741789) (h : powI 4 a = powI 4 b) : a = b := by
  obtain ⟨m, rfl⟩ := Int.eq_ofNat_of_zero_le (show 0 ≤ a by omega)
  obtain ⟨n, rfl⟩ := Int.eq_ofNat_of_zero_le (show 0 ≤ b by omega)
  rw [show powI 4 (m : Int) = (pw 4 m : Int) from powI_nat 4 m (by decide) (by omega), show powI 4 (n : Int) = (pw 4 n : Int) from powI_nat 4 n (by decide) (by omega)] at h
  have h' : pw 4 m = pw 4 n := Int.ofNat_inj.1 h
  rcases Nat.lt_trichotomy m n with h1 | h1 | h1
  · exact (powI_lt_ne (by omega) h1 (by omega) h').elim
  · rw [h1]
  · exact (powI_lt_ne (by omega) h1 (by omega) h'.symm).elim
/-- a key of these laws: its number, in bytes -/
def keyB (n : Int) : List UInt8 := UInt8.ofNat (IntKind.u8.wrap n).toNat :: 3 :: List.replicate 30 0
def keyV (n : Int) : Int := powI 4 (scal (keyB n))
theorem keyV_isI (n : Int) : isI (keyV n) = true := by
  have h := scal_bd (keyB n)
  unfold keyV
  obtain ⟨m, hm⟩ := Int.eq_ofNat_of_zero_le (show 0 ≤ scal (keyB n) by omega)
  rw [hm] at h ⊢
  rw [show powI 4 (m : Int) = (pw 4 m : Int) from powI_nat 4 m (by decide) (by omega)]
  exact isI_four m (by omega) (by omega)
theorem scal_keys : ∀ a < 32, ∀ b < 32, scal (keyB (a : Nat)) = scal (keyB (b : Nat)) → a = b := by decide +kernel
theorem keyV_inj {a b : Nat} (ha : a < 32) (hb : b < 32) (h : keyV (a : Nat) = keyV (b : Nat)) : a = b :=
  scal_keys a ha b hb (powI_inj (scal_bd _) (scal_bd _) h)
attribute [local irreducible] condK LoopA regA powI scal
theorem u8_bd (n : Int) : 0 ≤ IntKind.u8.wrap n ∧ IntKind.u8.wrap n < 256 := by
  have e1 : (2 : Int) ^ 8 = 256 := by decide
  simp only [IntKind.wrap, IntKind.signed, IntKind.bits, Bool.false_and, e1]
  simp
  omega
noncomputable def envW1 : EnvX := envVs.add 43 rfromS rfromS_ok ⟨_, Try.func43, by kernel_rfl, by kernel_rfl⟩
set_option maxHeartbeats 400000 in
theorem wkey_ok (n : Int) : FnO 24 [.v (.int .i64 n)] (.d (.v (.int .i64 (keyV n)))) := by
  refine fnA (E := envW1) Try.func24 Try.ntmps24 ?_
  obtain ⟨hw0, hw1⟩ := u8_bd n
  refine ago ?_; (try with_reducible exact True.intro)
  rfl
def wkeyS : List A → (Res → Prop) → Prop
  | [.v (.int .i64 n)], K => K (.d (.v (.int .i64 (keyV n))))
  | _, _ => False
theorem wkeyS_ok : ∀ args K, wkeyS args K → ∃ r, FnO 24 args r ∧ K r := by
  intro args K h
  unfold wkeyS at h
  split at h
  · exact ⟨_, wkey_ok _, h⟩
  · exact h.elim
noncomputable def envW2 : EnvX := envW1.add 24 wkeyS wkeyS_ok ⟨_, Try.func24, by kernel_rfl, by kernel_rfl⟩
end Go.Proofs.Ytkeabmnmeheeiaa

/-
  Views: some view.
-/
namespace Go.Proofs.Ytkeabmnmeheeiaa
set_option maxRecDepth 100000
open Go.RowKit Pm
set_option linter.unusedVariables false
set_option linter.unusedSimpArgs false
attribute [local irreducible] condK LoopA regA powI scal keyV

/-- so many members -/
def someZ : Nat → List Int
  | 0 => List.replicate 31 0
  | i + 1 => (someZ i).take (i * 2) ++ ([keyV (i : Nat), keyV ((i : Nat) + 20)] ++ (someZ i).drop (i * 2 + 2))
def someA (a : Int) : Nat → List Bool
  | 0 => List.replicate 8 false
  | i + 1 => (someA a i).set i (decide ((i : Int) < a))
abbrev Z32 : List UInt8 := List.replicate 32 0
abbrev someS (m a k : Int) : List Seg := vSegs 0 (someZ (min m.toNat 8)) (someA a (min m.toNat 8)) k Z32
theorem someZ_len : ∀ i, i ≤ 8 → (someZ i).length = 31
  | 0, _ => rfl
  | i + 1, h => by
    have := someZ_len i (by omega)
    simp [someZ, this]; omega
theorem someA_len (a : Int) : ∀ i, (someA a i).length = 8
  | 0 => rfl
  | i + 1 => by simp [someA, someA_len a i]
attribute [local irreducible] someZ someA
set_option maxHeartbeats 400000 in
theorem some_ok (m a k : Int) : FnO 23 [.v (.int .i64 m), .v (.int .i64 a), .v (.int .i64 k)] (.d (.agg (someS m a k))) := by
  refine fnA (E := envW2) Try.func23 Try.ntmps23 ?_
  have z0 : someZ 0 = List.replicate 31 0 := by unfold someZ; rfl
  have a0 : someA a 0 = List.replicate 8 false := by unfold someA; rfl
  refine agom ?_; (try with_reducible exact True.intro)
  refine StopL.mk (loop_inv [0, 1, 6, 7, 8] 2 (fun st => ∃ i : Nat, i ≤ 8 ∧ i ≤ m.toNat ∧ st = ⟨[.d (.v (.int .i64 m)), .d (.v (.int .i64 a)), .dead, .dead, .dead, .dead, .ptr 0 0, .ptr 1 0, .d (.v (.int .i64 (i : Nat))), .dead, .dead, .dead, .dead, .dead, .dead, .dead, .dead, .dead, .dead, .dead, .dead, .dead, .dead, .dead, .dead, .dead, .dead, .dead, .dead, .dead, .dead, .dead, .dead, .dead, .dead, .dead, .dead], [some (.var vZero), some (.var (vSegs 0 (someZ i) (someA a i) k Z32))]⟩) (fun s => 8 - intAt s 8) rfl ⟨0, by omega, by omega, by rw [z0, a0]; rfl⟩ ?_)
  rintro st ⟨i, hi, hm, rfl⟩
  have hw : IntKind.i64.wrap ((i : Int) + 1) = ((i + 1 : Nat) : Int) := by rw [wrapS (by omega) (by omega)]; omega
  have hw2 : IntKind.i64.wrap ((i : Int) + 20) = (i : Int) + 20 := wrapS (by omega) (by omega)
  by_cases h1 : (i : Int) < m
  · by_cases h2 : i < 8
    · have sz : someZ (i + 1) = (someZ i).take (i * 2) ++ (keyV (i : Nat) :: keyV (IntKind.i64.wrap ((i : Int) + 20)) :: (someZ i).drop (i * 2 + 2)) := by rw [hw2, someZ]; rfl
      have sa : someA a (i + 1) = (someA a i).set i (decide ((i : Int) < a)) := by rw [someA]
      refine agom ?_; (try with_reducible exact True.intro)
      refine ⟨⟨i + 1, by omega, by omega, by rw [sz, sa, ← hw]; rfl⟩, ?_⟩
      show 8 - (IntKind.i64.wrap ((i : Int) + 1)).toNat < 8 - (i : Int).toNat
      rw [hw]; omega
    · have e : min m.toNat 8 = i := by omega
      refine agom ?_; (try with_reducible exact True.intro)
      unfold someS
      rw [e]
      rfl
  · have e : min m.toNat 8 = i := by omega
    refine agom ?_; (try with_reducible exact True.intro)
    unfold someS
    rw [e]
    rfl
def someFS : List A → (Res → Prop) → Prop
  | [.v (.int .i64 m), .v (.int .i64 a), .v (.int .i64 k)], K => K (.d (.agg (someS m a k)))
  | _, _ => False
theorem someFS_ok : ∀ args K, someFS args K → ∃ r, FnO 23 args r ∧ K r := by
  intro args K h
  unfold someFS at h
  split at h
  · exact ⟨_, some_ok _ _ _, h⟩
  · exact h.elim
noncomputable def envW3 : EnvX := envW2.add 23 someFS someFS_ok ⟨_, Try.func23, by kernel_rfl, by kernel_rfl⟩
end Go.Proofs.Ytkeabmnmeheeiaa

/-
  Views: what some view holds, and that it may be.
-/
namespace Go.Proofs.Ytkeabmnmeheeiaa
set_option maxRecDepth 100000
open Go.RowKit Pm
set_option linter.unusedVariables false
set_option linter.unusedSimpArgs false
attribute [local irreducible] condK LoopA regA powI scal keyV someZ someA

theorem someZ_zero : someZ 0 = List.replicate 31 0 := by rw [someZ]
theorem someZ_succ (i : Nat) : someZ (i + 1) = (someZ i).take (i * 2) ++ ([keyV (i : Nat), keyV ((i : Nat) + 20)] ++ (someZ i).drop (i * 2 + 2)) := by rw [someZ]
theorem someA_zero (a : Int) : someA a 0 = List.replicate 8 false := by rw [someA]
theorem someA_succ (a : Int) (i : Nat) : someA a (i + 1) = (someA a i).set i (decide ((i : Int) < a)) := by rw [someA]
theorem rep_get (n i : Nat) : (List.replicate n (0 : Int)).getD i 0 = 0 := by
  rw [List.getD_eq_getElem?_getD, List.getElem?_replicate]
  split <;> simp
theorem rep_getB (n i : Nat) : (List.replicate n false).getD i false = false := by
  rw [List.getD_eq_getElem?_getD, List.getElem?_replicate]
  split <;> simp
set_option maxHeartbeats 100000 in
/-- the leaves of such a view -/
theorem someZ_at (m n : Nat) (h : n ≤ 8) : (someZ (n + 1)).getD m 0 = if n * 2 ≤ m ∧ m < n * 2 + 2 then [keyV (n : Nat), keyV ((n : Nat) + 20)].getD (m - n * 2) 0 else (someZ n).getD m 0 := by
  rw [someZ_succ]
  exact splice_get (xs := [keyV (n : Nat), keyV ((n : Nat) + 20)]) (by simp) (by rw [someZ_len n h]; omega) m
set_option maxHeartbeats 100000 in
theorem someZ_get (i : Nat) (hi : i < 8) : ∀ n, n ≤ 8 → (someZ n).getD (i * 2) 0 = if i < n then keyV (i : Nat) else 0
  | 0, _ => by
    rw [if_neg (by omega), someZ_zero, rep_get]
  | n + 1, hn => by
    rw [someZ_at _ _ (by omega)]
    by_cases e : i = n
    · subst e
      rw [if_pos ⟨Nat.le_refl _, by omega⟩, if_pos (by omega), Nat.sub_self, List.getD_cons_zero]
    · rw [if_neg (by omega), someZ_get i hi n (by omega)]
      by_cases h : i < n
      · rw [if_pos h, if_pos (by omega)]
      · rw [if_neg h, if_neg (by omega)]
set_option maxHeartbeats 100000 in
theorem someZ_get1 (i : Nat) (hi : i < 8) : ∀ n, n ≤ 8 → (someZ n).getD (i * 2 + 1) 0 = if i < n then keyV ((i : Nat) + 20) else 0
  | 0, _ => by
    rw [if_neg (by omega), someZ_zero, rep_get]
  | n + 1, hn => by
    rw [someZ_at _ _ (by omega)]
    by_cases e : i = n
    · subst e
      rw [if_pos ⟨by omega, by omega⟩, if_pos (by omega), show i * 2 + 1 - i * 2 = 0 + 1 by omega, List.getD_cons_succ, List.getD_cons_zero]
    · rw [if_neg (by omega), someZ_get1 i hi n (by omega)]
      by_cases h : i < n
      · rw [if_pos h, if_pos (by omega)]
      · rw [if_neg h, if_neg (by omega)]
set_option maxHeartbeats 100000 in
theorem someZ_node (i : Nat) : ∀ n, n ≤ 8 → (someZ n).getD (16 + i) 0 = 0
  | 0, _ => by
    rw [someZ_zero, rep_get]
  | n + 1, hn => by
    rw [someZ_at _ _ (by omega), if_neg (by omega), someZ_node i n (by omega)]
set_option maxHeartbeats 100000 in
theorem someA_get (a : Int) (i : Nat) (hi : i < 8) : ∀ n, n ≤ 8 → (someA a n).getD i false = (decide (i < n) && decide ((i : Int) < a))
  | 0, _ => by
    rw [someA_zero, rep_getB]; simp
  | n + 1, hn => by
    rw [someA_succ, getD_setB, someA_len, someA_get a i hi n (by omega)]
    by_cases e : n = i
    · subst e
      rw [if_pos ⟨rfl, hi⟩, decide_eq_true (show n < n + 1 by omega), Bool.true_and]
    · rw [if_neg (by omega), show decide (i < n) = decide (i < n + 1) from decide_eq_decide.2 (by omega)]
set_option maxHeartbeats 400000 in
theorem someZ_leaf (j n : Nat) (hj : j < 8) (hn : n ≤ 8) : leafP (someZ n) j = if j < n then [keyV (j : Nat), keyV ((j : Nat) + 20)] else [0, 0] := by
  rw [leafP_two (by rw [someZ_len n hn]; omega) hj, someZ_get j hj n hn, someZ_get1 j hj n hn]
  split <;> rfl
theorem someZ_mem (j n : Nat) (hj : j < 8) (hn : n ≤ 8) : memL (someZ n) j = decide (j < n) := by
  unfold memL
  rw [someZ_leaf j n hj hn]
  refine decide_eq_decide.2 ?_
  split
  · next h => exact ⟨fun _ => h, fun _ e => isI_ne (keyV_isI _) (List.cons.inj e).1⟩
  · next h => exact ⟨fun e => absurd rfl e, fun h2 => absurd h2 h⟩
theorem someZ_isT (n : Nat) (hn : n ≤ 8) : isT (someZ n) = true := by
  unfold isT
  rw [Bool.and_eq_true, List.all_eq_true, List.all_eq_true]
  constructor
  · intro j hj
    have hj' : j < 8 := by simpa using hj
    unfold leafOK
    rw [someZ_leaf j n hj' hn]
    split
    · rw [List.getD_cons_zero, List.getD_cons_succ, List.getD_cons_zero, keyV_isI, keyV_isI]; simp
    · simp
  · intro j hj
    have hj' : j < 15 := by simpa using hj
    unfold nodeOK
    have : nodeV (someZ n) j = 0 := by
      have h := someZ_node j n hn
      unfold nodeV
      rw [List.getD_eq_getElem?_getD, List.getElem?_take, if_pos hj', List.getElem?_drop, ← List.getD_eq_getElem?_getD]
      exact h
    rw [this]; simp
theorem someA_map (a : Int) (n : Nat) (hn : n ≤ 8) : someA a n = (List.range 8).map fun i => decide (i < n) && decide (i < (min (max a 0) 8).toNat) := by
  refine List.ext_getElem (by rw [someA_len]; simp) fun i h1 h2 => ?_
  have hi : i < 8 := by rw [someA_len] at h1; exact h1
  have h := someA_get a i hi n hn
  rw [List.getD_eq_getElem?_getD, List.getElem?_eq_getElem h1] at h
  rw [List.getElem_map, List.getElem_range]
  have e : decide ((i : Int) < a) = decide (i < (min (max a 0) 8).toNat) := decide_eq_decide.2 (by omega)
  rw [← e]
  simpa using h
theorem cnt_some : ∀ n < 9, ∀ b < 9, cntB ((List.range 8).map fun i => decide (i < n) && decide (i < b)) = min n b := by decide +kernel
theorem someA_cnt (a : Int) (n : Nat) (hn : n ≤ 8) : cntB (someA a n) = min n (min (max a 0) 8).toNat := by
  rw [someA_map a n hn]
  exact cnt_some n (by omega) _ (by omega)
theorem some_may (n : Nat) (hn : n ≤ 8) (a k : Int) : mayV 0 (someZ n) (someA a n) k = (decide (1 ≤ k) && decide (k ≤ (min n (min (max a 0) 8).toNat : Nat))) := by
  unfold mayV
  have ha : admTo (someZ n) (someA a n) 8 = true := (admTo_iff _ _).2 fun i hi h => by
    rw [someA_get a i hi n hn] at h
    rw [someZ_mem i n hi hn]
    simp only [Bool.and_eq_true] at h
    exact h.1
  rw [someZ_isT n hn, ha, someA_cnt a n hn]
  simp
end Go.Proofs.Ytkeabmnmeheeiaa

/-
  Views: the laws' first look.
-/
namespace Go.Proofs.Ytkeabmnmeheeiaa
set_option maxRecDepth 100000
open Go.RowKit Pm
set_option linter.unusedVariables false
set_option linter.unusedSimpArgs false
attribute [local irreducible] condK LoopA regA powI scal keyV someZ someA isI mayV doR

/-- operations done: what comes of it, either way -/
def applyS : List A → (Res → Prop) → Prop
  | [.agg [.ints .i64 1 [e], .ints .i64 31 zs, .bools 8 ad, .ints .i64 1 [k], .bytes 32 ch], .v (.int .i64 fr), .row n [.ints .i64 m ops]], K =>
    m = n * 5 ∧ n ≤ 1000000 ∧ StopC (condK (decide ((doR e ⟨zs, ad, k, F8, F8⟩ fr ops n).1 = 0))
      (K (.t [.agg (vSegs e (doR e ⟨zs, ad, k, F8, F8⟩ fr ops n).2.zs (doR e ⟨zs, ad, k, F8, F8⟩ fr ops n).2.ad (doR e ⟨zs, ad, k, F8, F8⟩ fr ops n).2.k ch), .agg [.bools 8 (doR e ⟨zs, ad, k, F8, F8⟩ fr ops n).2.ng], .agg [.bools 8 (doR e ⟨zs, ad, k, F8, F8⟩ fr ops n).2.gn], .v (.int .i64 0)]))
      (K (.t [.agg vZero, .agg [.bools 8 F8], .agg [.bools 8 F8], .v (.int .i64 (doR e ⟨zs, ad, k, F8, F8⟩ fr ops n).1)])))
  | _, _ => False
theorem applyS_of {f : FuncId} (hx : ∀ e zs ad k ch fr ops n, n ≤ 1000000 → FnO f [.agg (vSegs e zs ad k ch), .v (.int .i64 fr), .row n [.ints .i64 (n * 5) ops]] (.t (appR e zs ad k ch fr ops n))) : ∀ args K, applyS args K → ∃ r, FnO f args r ∧ K r := by
  intro args K h
  unfold applyS at h
  split at h
  · next e zs ad k ch fr n m ops =>
    obtain ⟨rfl, hn, h⟩ := h
    have h := h.out
    refine ⟨_, hx e zs ad k ch fr ops n hn, ?_⟩
    unfold appR
    by_cases he : (doR e ⟨zs, ad, k, F8, F8⟩ fr ops n).1 = 0
    · rw [decide_eq_true he, condK_true] at h
      rw [if_pos he]
      exact h
    · rw [decide_eq_false he, condK_false] at h
      rw [if_neg he]
      exact h
  · exact h.elim
noncomputable def envW4 : EnvX := envW3.add 21 applyS (applyS_of apply_ok) ⟨_, Try.func21, by kernel_rfl, by kernel_rfl⟩
noncomputable def envW5 : EnvX := envW4.add 22 applyS (applyS_of rapply_ok) ⟨_, Try.func22, by kernel_rfl, by kernel_rfl⟩
theorem someA_one : someA 1 1 = [true, false, false, false, false, false, false, false] := by rw [someA_succ, someA_zero]; rfl
abbrev T8 : List Bool := [true, false, false, false, false, false, false, false]
set_option maxHeartbeats 400000 in
theorem demote_gen (zs : List Int) (hm : memB zs 0 = true) (hv : mayV 0 zs T8 1 = true) : doR 0 ⟨zs, T8, 1, F8, F8⟩ 0 [4, 0, 0, 0, 0] 1 = (7, ⟨zs, F8, 1, F8, F8⟩) := by
  have ho : oddTo [4, 0, 0, 0, 0] 1 = false := by decide
  have he : errOp ⟨zs, T8, 1, F8, F8⟩ 0 (opAt [4, 0, 0, 0, 0] 0) = 0 := by
    show errDem zs T8 0 = 0
    unfold errDem
    rw [hm]; rfl
  have hr : runE 0 [4, 0, 0, 0, 0] 1 0 ⟨zs, T8, 1, F8, F8⟩ = (0, ⟨zs, F8, 1, F8, F8⟩) := by
    unfold runE
    rw [if_pos he]
    unfold runE
    rfl
  unfold doR
  rw [hv, ho, hm, hr]
  rfl
set_option maxHeartbeats 400000 in
theorem add_gen (zs : List Int) (x y : Int) (hm : memB zs 0 = true) (hv : mayV 0 zs T8 1 = true) (he : errAdd zs [x, y] = 0) (hf : freeN zs = 1) :
    doR 0 ⟨zs, T8, 1, F8, F8⟩ 0 [1, 0, 0, x, y] 1 = (0, ⟨putL zs [x, y] 1, T8, 1, [false, true, false, false, false, false, false, false], F8⟩) := by
  have ho : oddTo [1, 0, 0, x, y] 1 = false := by
    show (List.range 1).any (fun i => !ownB (opAt [1, 0, 0, x, y] i)) = false
    rfl
  have he : errOp ⟨zs, T8, 1, F8, F8⟩ 0 (opAt [1, 0, 0, x, y] 0) = 0 := he
  have hr : runE 0 [1, 0, 0, x, y] 1 0 ⟨zs, T8, 1, F8, F8⟩ = (0, ⟨putL zs [x, y] 1, T8, 1, [false, true, false, false, false, false, false, false], F8⟩) := by
    unfold runE
    rw [if_pos he]
    unfold runE
    show (0, (⟨putL zs [x, y] (freeN zs : Nat), T8, 1, F8.set (freeN zs) true, F8⟩ : Vw)) = _
    rw [hf]; rfl
  unfold doR
  rw [hv, ho, hm, hr]
  rfl
theorem used_some (n : Nat) (hn : n ≤ 8) (j : Nat) (hj : n ≤ j ∧ j < 32) : usedB (someZ n) (keyV (j : Nat)) = false := by
  refine used_f fun i hi => ?_
  rw [someZ_get i hi n hn]
  split
  · intro e
    have := keyV_inj (by omega) (by omega) e
    omega
  · intro e
    exact isI_ne (keyV_isI (j : Nat)) e.symm
theorem free_some (n : Nat) (hn : n < 8) : freeN (someZ n) = n :=
  free_at hn (by rw [someZ_mem n n hn (by omega)]; simp) fun j hj => by rw [someZ_mem j n (by omega) (by omega)]; simpa using hj
theorem full_some (n : Nat) (hn : n < 8) : fullB (someZ n) = false := by
  cases h : fullB (someZ n) with
  | false => rfl
  | true =>
    have := (full_iff _).1 h n hn
    rw [someZ_mem n n hn (by omega)] at this
    simp at this
theorem errAdd_some (n : Nat) (hn : n < 8) (j : Nat) (y : Int) (hj : n ≤ j ∧ j < 32) (hy : isI y = true) : errAdd (someZ n) [keyV (j : Nat), y] = 0 := by
  unfold errAdd
  rw [List.getD_cons_zero, List.getD_cons_succ, List.getD_cons_zero, keyV_isI, hy, used_some n (by omega) j hj, full_some n hn]
  simp
theorem memB_some (n : Nat) (hn : n ≤ 8) (h : 0 < n) : memB (someZ n) 0 = true := by
  have : memL (someZ n) 0 = true := by rw [someZ_mem 0 n (by omega) hn]; simpa using h
  unfold memB
  rw [show ((0 : Int).toNat) = 0 from rfl, this]
  rfl
end Go.Proofs.Ytkeabmnmeheeiaa

/-
  Views: the laws' first look, walked.
-/
namespace Go.Proofs.Ytkeabmnmeheeiaa
set_option maxRecDepth 100000
open Go.RowKit Pm
set_option linter.unusedVariables false
set_option linter.unusedSimpArgs false
attribute [local irreducible] condK LoopA regA powI scal keyV someZ someA isI mayV doR putL

theorem leafOK_of2 {zs : List Int} {j : Nat} {x y : Int} (h : leafP zs j = [x, y]) (hx : isI x = true) (hy : isI y = true) : leafOK zs j = true := by
  unfold leafOK
  rw [h, List.getD_cons_zero, List.getD_cons_succ, List.getD_cons_zero, hx, hy]; simp
theorem isT_put {zs : List Int} (hz : zs.length = 31) {x y : Int} {i : Nat} (hi : i < 8) (hx : isI x = true) (hy : isI y = true) (h : isT zs = true) : isT (putL zs [x, y] (i : Nat)) = true := by
  unfold isT at h ⊢
  rw [Bool.and_eq_true, List.all_eq_true, List.all_eq_true] at h ⊢
  refine ⟨fun j hj => ?_, fun j hj => ?_⟩
  · have hj' : j < 8 := by simpa using hj
    by_cases e : j = i
    · refine leafOK_of2 (x := x) (y := y) ?_ hx hy
      rw [leafP_put hz rfl hi hj', if_pos e]
    · have h1 := h.1 j hj
      unfold leafOK at h1 ⊢
      rw [leafP_put hz rfl hi hj', if_neg e]
      exact h1
  · have hj' : j < 15 := by simpa using hj
    have h1 := h.2 j hj
    have e : nodeV (putL zs [x, y] (i : Nat)) j = 0 ∨ nodeV (putL zs [x, y] (i : Nat)) j = nodeV zs j := by
      unfold nodeV putL
      rw [if_pos (by simp [leafB]; omega), Int.toNat_natCast]
      rw [List.getD_eq_getElem?_getD, List.getD_eq_getElem?_getD, List.getElem?_take, if_pos hj', List.getElem?_take, if_pos hj', List.getElem?_drop, List.getElem?_drop, ← List.getD_eq_getElem?_getD, ← List.getD_eq_getElem?_getD, getD_set_list, getD_set_list, getD_set_list]
      split
      · exact .inl rfl
      · split
        · exact .inl rfl
        · split
          · exact .inl rfl
          · exact .inr (by rw [splice_get (xs := [x, y]) (by simp) (by omega), if_neg (by omega)])
    unfold nodeOK at h1 ⊢
    rcases e with e | e
    · rw [e]; simp
    · rw [e]
      exact h1
theorem may_put {e : Int} {zs : List Int} {ad : List Bool} {k : Int} (hz : zs.length = 31) {x y : Int} {i : Nat} (hi : i < 8) (hx : isI x = true) (hy : isI y = true) (h : mayV e zs ad k = true) : mayV e (putL zs [x, y] (i : Nat)) ad k = true := by
  unfold mayV at h ⊢
  simp only [Bool.and_eq_true] at h ⊢
  refine ⟨⟨⟨⟨h.1.1.1.1, isT_put hz hi hx hy h.1.1.1.2⟩, (admTo_iff _ _).2 fun j hj ha => ?_⟩, h.1.2⟩, h.2⟩
  rw [memL_put hz rfl hi hj]
  split
  · exact decide_eq_true fun e => isI_ne hx (List.cons.inj e).1
  · exact (admTo_iff _ _).1 h.1.1.2 j hj ha
set_option maxHeartbeats 400000 in
theorem known_facts : decide ((doR 0 ⟨someZ (min 1 8), someA 1 (min 1 8), 1, F8, F8⟩ 0 [4, 0, 0, 0, 0] 1).1 = 0) = false ∧ ((doR 0 ⟨someZ (min 1 8), someA 1 (min 1 8), 1, F8, F8⟩ 0 [4, 0, 0, 0, 0] 1).1 == 7) = true ∧ decide ((doR 0 ⟨someZ (min 1 8), someA 1 (min 1 8), 1, F8, F8⟩ 0 [1, 0, 0, keyV 5, keyV 6] 1).1 = 0) = true ∧
    (doR 0 ⟨someZ (min 1 8), someA 1 (min 1 8), 1, F8, F8⟩ 0 [1, 0, 0, keyV 5, keyV 6] 1).2.ng.getD 1 false = true ∧ ((doR 0 ⟨someZ (min 1 8), someA 1 (min 1 8), 1, F8, F8⟩ 0 [1, 0, 0, keyV 5, keyV 6] 1).2.zs.getD 2 0 == keyV 5) = true ∧
    mayV 0 (doR 0 ⟨someZ (min 1 8), someA 1 (min 1 8), 1, F8, F8⟩ 0 [1, 0, 0, keyV 5, keyV 6] 1).2.zs (doR 0 ⟨someZ (min 1 8), someA 1 (min 1 8), 1, F8, F8⟩ 0 [1, 0, 0, keyV 5, keyV 6] 1).2.ad (doR 0 ⟨someZ (min 1 8), someA 1 (min 1 8), 1, F8, F8⟩ 0 [1, 0, 0, keyV 5, keyV 6] 1).2.k = true := by
  have hm := memB_some 1 (by omega) (by omega)
  have hv : mayV 0 (someZ 1) T8 1 = true := by
    have h := some_may 1 (by omega) 1 1
    rw [someA_one] at h
    rw [h]
    rfl
  have hA := demote_gen (someZ 1) hm hv
  have h5 : isI (keyV 5) = true := keyV_isI 5
  have h6 : isI (keyV 6) = true := keyV_isI 6
  have he : errAdd (someZ 1) [keyV 5, keyV 6] = 0 := errAdd_some 1 (by omega) 5 _ (by omega) h6
  have hB := add_gen (someZ 1) (keyV 5) (keyV 6) hm hv he (free_some 1 (by omega))
  have hV : mayV 0 (putL (someZ 1) [keyV 5, keyV 6] 1) T8 1 = true := may_put (someZ_len 1 (by omega)) (i := 1) (by omega) h5 h6 hv
  have hl := leafP_put (zs := someZ 1) (xs := [keyV 5, keyV 6]) (someZ_len 1 (by omega)) rfl (i := 1) (j := 1) (by omega) (by omega)
  rw [if_pos rfl, leafP_two (by rw [putL_length (someZ_len 1 (by omega)) rfl]; omega) (by omega)] at hl
  have hg : (putL (someZ 1) [keyV 5, keyV 6] 1).getD 2 0 = keyV 5 := (List.cons.inj hl).1
  rw [show min 1 8 = 1 from rfl, someA_one, hA, hB]
  refine ⟨rfl, rfl, rfl, rfl, ?_, hV⟩
  show ((putL (someZ 1) [keyV 5, keyV 6] 1).getD 2 0 == keyV 5) = true
  rw [hg]
  simp
set_option maxHeartbeats 400000 in
theorem vknown_ok : FnO 20 [] (.d (.v (.bool true))) := by
  refine fnA (E := envW5) Try.func20 Try.ntmps20 ?_
  obtain ⟨fA0, fA7, fB0, fB1, fB2, fB3⟩ := known_facts
  refine agom ?_; (try with_reducible exact True.intro)
  exact congrArg (fun b => Res.d (.v (.bool b))) fB3
noncomputable def envW6 : EnvX := envW5.add 20 knownS (knownS_ok vknown_ok) ⟨_, Try.func20, by kernel_rfl, by kernel_rfl⟩
end Go.Proofs.Ytkeabmnmeheeiaa

/-
  Views: a law's view, opened.
-/
namespace Go.Proofs.Ytkeabmnmeheeiaa
set_option maxRecDepth 100000
open Go.RowKit Pm
set_option linter.unusedVariables false
set_option linter.unusedSimpArgs false

def sigView : List (Option IntKind) := List.replicate 1 (some .i64) ++ (List.replicate 31 (some .i64) ++ (List.replicate 8 none ++ (List.replicate 1 (some .i64) ++ List.replicate 32 (some .u8))))
theorem one_of {zs : List Int} (h : zs.length = 1) : ∃ a, zs = [a] := by
  rcases zs with _ | ⟨a, _ | ⟨b, l⟩⟩ <;> simp at h
  exact ⟨a, rfl⟩
theorem open_view {H : Type} {enc : TypeId × Value → H} {P : Program} {w : World} {base b0 : Nat} {spare : Nat → Bool} {held : Bool} {r : Reach} {t : TypeId} {v : Value} {dd : DataW H} {ps : List MemPlace} (hs : sigT P 20 t = some sigView) (ha : aggOf P t = true)
    (hval : Value.okWide P w r b0 t v) (h : DataW.Trod enc P w base spare held t v dd ps) :
    ∃ (e : Int) (zs : List Int) (ad : List Bool) (k : Int) (ch : List UInt8), RA (fun _ => True) w (.agg (vSegs e zs ad k ch)) v := by
  obtain ⟨cs, rfl, h1, hw⟩ := open_agg hs ha hval h
  unfold sigView at h1
  obtain ⟨c1, cs, rfl, k1, h1, w1, hw⟩ := kinds_split h1 hw
  obtain ⟨c2, cs, rfl, k2, h1, w2, hw⟩ := kinds_split h1 hw
  obtain ⟨c3, cs, rfl, k3, h1, w3, hw⟩ := kinds_split h1 hw
  obtain ⟨c4, c5, rfl, k4, k5, w4, w5⟩ := kinds_split h1 hw
  obtain ⟨z1, rfl, l1, _⟩ := kinds_ints k1 w1
  obtain ⟨zs, rfl, l2, _⟩ := kinds_ints k2 w2
  obtain ⟨ad, rfl, l3⟩ := kinds_bools k3
  obtain ⟨z4, rfl, l4, _⟩ := kinds_ints k4 w4
  obtain ⟨ch, rfl, l5⟩ := kinds_bytes k5 w5
  obtain ⟨e, rfl⟩ := one_of l1
  obtain ⟨k, rfl⟩ := one_of l4
  exact ⟨e, zs, ad, k, ch, .agg (.ints l1 (.ints l2 (.bools l3 (.ints l4 (.ofBytes l5 rfl)))))⟩
theorem sig_view : sigT Try.prog 20 32 = some sigView := by kernel_rfl
theorem agg_view : aggOf Try.prog 32 = true := by kernel_rfl
end Go.Proofs.Ytkeabmnmeheeiaa

/-
  Views: a law's operations, opened.
-/
namespace Go.Proofs.Ytkeabmnmeheeiaa
set_option maxRecDepth 100000
open Go.RowKit Pm
set_option linter.unusedVariables false
set_option linter.unusedSimpArgs false

theorem rows_each {w : World} {a : Addr} {K : Nat} : ∀ (m : Nat), (∀ i < m, ∃ zs : List Int, zs.length = K ∧ ∀ j < K, w.cell? (a.add (i * K + j)) = some (.int .i64 (zs.getD j 0))) → ∃ zs : List Int, zs.length = m * K ∧ ∀ j < m * K, w.cell? (a.add j) = some (.int .i64 (zs.getD j 0))
  | 0, _ => ⟨[], by simp, fun j hj => by omega⟩
  | m + 1, h => by
    obtain ⟨zs, h1, h2⟩ := rows_each m fun i hi => h i (by omega)
    obtain ⟨ys, h3, h4⟩ := h m (by omega)
    refine ⟨zs ++ ys, by rw [List.length_append, h1, h3, Nat.succ_mul], fun j hj => ?_⟩
    rw [Nat.succ_mul] at hj
    by_cases e : j < m * K
    · rw [h2 j e, List.getD_eq_getElem?_getD, List.getD_eq_getElem?_getD, List.getElem?_append_left (by omega)]
    · have h5 := h4 (j - m * K) (by omega)
      rw [show m * K + (j - m * K) = j by omega] at h5
      rw [h5, List.getD_eq_getElem?_getD, List.getD_eq_getElem?_getD, List.getElem?_append_right (by omega), h1]
theorem lies_of {w : World} {a : Addr} {zs : List Int} (h : ∀ j < zs.length, w.cell? (a.add j) = some (.int .i64 (zs.getD j 0))) : Lies (fun _ => True) w (some a) (zs.map (Value.int .i64)) := by
  by_cases h0 : zs = []
  · left; subst h0; rfl
  · right
    have hp : 0 < zs.length := List.length_pos_iff.2 h0
    have hz := h 0 hp
    have hsp : a.spot = none := by
      have h1 := hz
      unfold World.cell? at h1
      split at h1
      · next c t fr hb =>
        by_cases hs : (a.add 0).spot.isSome = true
        · rw [if_pos hs] at h1; cases h1
        · simpa [Addr.add] using hs
      · cases h1
    refine ⟨a.block, a.off, by cases a; simp_all, trivial, ?_, fun i hi => ?_⟩
    · have := block_lt_of_cell hz
      simpa [Addr.add] using this
    · have hi' : i < zs.length := by simpa using hi
      have h1 := h i hi'
      have e : a.add i = ⟨a.block, a.off + i, none⟩ := by cases a; simp_all [Addr.add]
      rw [e] at h1
      rw [h1]
      simp [List.getD_eq_getElem?_getD, hi']
/-- a slice of structs of K whole numbers -/
theorem open_flats {H : Type} {enc : TypeId × Value → H} {P : Program} {w : World} {base b0 : Nat} {held : Bool} {r : Reach} {t e : TypeId} {v : Value} {d : DataW H} {ps : List MemPlace} {K : Nat} (ht : P.underlying t = some (.slice e)) (hs : sigT P 20 e = some (List.replicate K (some .i64))) (hK : 1 ≤ K) (hby : P.bytesOf e = 8 * K)
    (hval : Value.okWide P w r b0 t v) (h : DataW.Trod enc P w base (fun _ => true) held t v d ps) (hlt : ∀ n ∈ d.weights P t, n ≤ 140737488351232) :
    ∃ (n : Nat) (zs : List Int), n ≤ 140737488351232 ∧ RA (fun _ => True) w (.row n [.ints .i64 (n * K) zs]) v := by
  unfold Value.okWide at hval
  rw [ht] at hval
  obtain ⟨fuel, hf⟩ := h
  have hC : P.cellsOf e = K := by
    obtain ⟨_, _, _, hc, _⟩ := sigT_info hs
    rw [hc]; simp
  rcases Deep.open_slice ht hf with ⟨hcs, _⟩ | ⟨a, len, cap, m, n, D, Pl, hcs, _, hl, hm, hmm, hx, hcell⟩
  · have : v = .slice none 0 0 := by cases v <;> simp_all [Value.cells, Cell.okWide, Cell.ok]
    subst this
    refine ⟨0, [], by omega, .row (cs := []) ?_ (Nat.le_refl _) (Nat.zero_le _) (fun _ => rfl) (.inl rfl)⟩
    exact .ofInts (by simp) rfl
  · have hv : v = .slice (some a) len cap := by cases v <;> simp_all [Value.cells, Cell.okWide, Cell.ok]
    subst hv
    simp only [if_true] at hmm
    subst hmm
    simp only [Prod.mk.injEq] at hx
    rw [hx.1] at hlt
    have hwt := weight_of_slice ht hlt
    rw [hby] at hwt
    simp at hwt
    have hlen : len * (8 * K) ≤ 140737488351232 := Nat.le_trans (Nat.mul_le_mul_right _ (by omega)) hwt
    have hlen2 : len ≤ 140737488351232 := Nat.le_trans (Nat.le_mul_of_pos_right _ (by omega)) hlen
    obtain ⟨zs, hz1, hz2⟩ := rows_each (w := w) (a := a) (K := K) len fun i hi => by
      obtain ⟨cs', h1, h2⟩ := hcell i (by omega)
      rw [hC] at h1
      obtain ⟨_, h3, h4⟩ := World.cells?_some h1
      obtain ⟨h5, h6⟩ := kinds_of_trod 20 e _ hs h2 (by simpa using h3)
      obtain ⟨ys, rfl, h7, _⟩ := kinds_ints h5 h6
      refine ⟨ys, h7, fun j hj => ?_⟩
      have h8 := h4 j hj
      rw [← Addr.add_add, h8]
      simp [List.getD_eq_getElem?_getD, h7, hj]
    refine ⟨len, zs, hlen2, .row (cs := zs.map (Value.int .i64)) (.ofInts hz1 rfl) hl (by omega) (fun h => by cases h) (lies_of fun j hj => hz2 j (by omega))⟩
end Go.Proofs.Ytkeabmnmeheeiaa

/-
  Views: what may be stays what may be.
-/
namespace Go.Proofs.Ytkeabmnmeheeiaa
set_option maxRecDepth 100000
open Go.RowKit Pm
set_option linter.unusedVariables false
set_option linter.unusedSimpArgs false
attribute [local irreducible] condK LoopA regA powI scal keyV someZ someA isI putL

/-- may these be a leaf's numbers? -/
def leafX (xs : List Int) : Bool := decide (xs = [0, 0]) || (isI (xs.getD 0 0) && isI (xs.getD 1 0))
theorem leafX_0 : leafX [0, 0] = true := by simp [leafX]
theorem leafX_2 {x y : Int} (hx : isI x = true) (hy : isI y = true) : leafX [x, y] = true := by simp [leafX, hx, hy]
theorem node_put {zs xs : List Int} (hz : zs.length = 31) (hx : xs.length = 2) {i : Nat} (hi : i < 8) {j : Nat} (hj' : j < 15) : nodeV (putL zs xs (i : Nat)) j = 0 ∨ nodeV (putL zs xs (i : Nat)) j = nodeV zs j := by
  unfold nodeV
  rw [putL]
  rw [if_pos (by simp [leafB]; omega), Int.toNat_natCast]
  rw [List.getD_eq_getElem?_getD, List.getD_eq_getElem?_getD, List.getElem?_take, if_pos hj', List.getElem?_take, if_pos hj', List.getElem?_drop, List.getElem?_drop, ← List.getD_eq_getElem?_getD, ← List.getD_eq_getElem?_getD, getD_set_list, getD_set_list, getD_set_list]
  split
  · exact .inl rfl
  · split
    · exact .inl rfl
    · split
      · exact .inl rfl
      · exact .inr (by rw [splice_get hx (by omega), if_neg (by omega)])
theorem isT_putX {zs xs : List Int} (hz : zs.length = 31) (hx : xs.length = 2) {i : Nat} (hi : i < 8) (hX : leafX xs = true) (h : isT zs = true) : isT (putL zs xs (i : Nat)) = true := by
  unfold isT at h ⊢
  rw [Bool.and_eq_true, List.all_eq_true, List.all_eq_true] at h ⊢
  refine ⟨fun j hj => ?_, fun j hj => ?_⟩
  · have hj' : j < 8 := by simpa using hj
    by_cases e : j = i
    · unfold leafOK
      rw [leafP_put hz hx hi hj', if_pos e]
      exact hX
    · have h1 := h.1 j hj
      unfold leafOK at h1 ⊢
      rw [leafP_put hz hx hi hj', if_neg e]
      exact h1
  · have hj' : j < 15 := by simpa using hj
    have h1 := h.2 j hj
    unfold nodeOK at h1 ⊢
    rcases node_put hz hx hi hj' with e | e
    · rw [e]; simp
    · rw [e]
      exact h1
structure Inv2 (s : Vw) : Prop where
  inv : Inv s
  tree : isT s.zs = true
  one : 1 ≤ s.k
theorem nextOp_inv2 {s : Vw} (h : Inv2 s) (fr : Int) {o : List Int} (he : errOp s fr o = 0) : Inv2 (nextOp s o) := by
  refine ⟨nextOp_inv h.inv fr he, ?_, ?_⟩
  · unfold nextOp
    unfold errOp at he
    by_cases h1 : o.getD 0 0 = 1
    · rw [if_pos h1] at he ⊢
      obtain ⟨hf, hi1, hi2⟩ := errAdd_0 he
      obtain ⟨hf8, hfm⟩ := free_lt hf
      exact isT_putX h.inv.zl rfl hf8 (leafX_2 hi1 hi2) h.tree
    rw [if_neg h1] at he ⊢
    by_cases h2 : o.getD 0 0 = 2
    · rw [if_pos h2] at he ⊢
      unfold errRem at he
      have hm : memB s.zs (o.getD 1 0) = true := by
        cases hq : memB s.zs (o.getD 1 0) with
        | true => rfl
        | false => rw [if_pos (.inr hq)] at he; cases he
      obtain ⟨hb0, hb1⟩ := memB_bd hm
      obtain ⟨n, hn⟩ := Int.eq_ofNat_of_zero_le hb0
      rw [hn] at hb1 ⊢
      exact isT_putX h.inv.zl rfl (by omega) leafX_0 h.tree
    rw [if_neg h2]
    split
    · exact h.tree
    · split
      · exact h.tree
      · exact h.tree
  · unfold nextOp
    unfold errOp at he
    split at he
    · next h1 => rw [if_pos h1]; exact h.one
    · next h1 =>
      rw [if_neg h1]
      split at he
      · next h2 => rw [if_pos h2]; exact h.one
      · next h2 =>
        rw [if_neg h2]
        split at he
        · next h3 => rw [if_pos h3]; exact h.one
        · next h3 =>
          rw [if_neg h3]
          split at he
          · next h4 => rw [if_pos h4]; exact h.one
          · next h4 =>
            rw [if_neg h4]
            unfold errLim at he
            split at he
            · cases he
            · show 1 ≤ o.getD 2 0
              omega
theorem runE_inv2 {fr : Int} {ops : List Int} : ∀ (d j : Nat) (s : Vw), Inv2 s → Inv2 (runE fr ops d j s).2
  | 0, _, s, h => by unfold runE; exact h
  | d + 1, j, s, h => by
    unfold runE
    split
    · next he => exact runE_inv2 d (j + 1) _ (nextOp_inv2 h fr he)
    · exact h
theorem inv2_of {e : Int} {s : Vw} (h : mayV e s.zs s.ad s.k = true) (h1 : s.zs.length = 31) (h2 : s.ad.length = 8) : Inv2 s := by
  have hI : Inv s := mayV_inv h h1 h2
  unfold mayV at h
  simp only [Bool.and_eq_true, decide_eq_true_eq] at h
  exact ⟨hI, h.1.1.1.2, h.1.2⟩
theorem mayV_of {e : Int} {s : Vw} (h0 : 0 ≤ e) (h1 : e ≤ 1099511627776) (h : Inv2 s) (hc : s.k ≤ ((cntB s.ad : Nat) : Int)) : mayV e s.zs s.ad s.k = true := by
  unfold mayV
  rw [decide_eq_true h0, decide_eq_true h1, h.tree, h.inv.adm, decide_eq_true h.one, decide_eq_true hc]
  rfl
theorem doR_inv2 {e : Int} {s : Vw} {fr : Int} {ops : List Int} {n : Nat} (h1 : s.zs.length = 31) (h2 : s.ad.length = 8) (hr : (doR e s fr ops n).1 = 0) :
    0 ≤ e ∧ e ≤ 1099511627776 ∧ Inv2 (doR e s fr ops n).2 ∧ (doR e s fr ops n).2.k ≤ ((cntB (doR e s fr ops n).2.ad : Nat) : Int) := by
  unfold doR at hr ⊢
  split at hr
  · cases hr
  · next c1 =>
    rw [if_neg c1]
    split at hr
    · cases hr
    · next c2 =>
      rw [if_neg c2]
      split at hr
      · next c3 => exact absurd hr c3
      · next c3 =>
        rw [if_neg c3]
        split at hr
        · cases hr
        · next c4 =>
          rw [if_neg c4]
          have hm : mayV e s.zs s.ad s.k = true := by
            cases hq : mayV e s.zs s.ad s.k with
            | true => rfl
            | false => rw [hq] at c1; exact absurd rfl c1
          have hi := inv2_of hm h1 h2
          unfold mayV at hm
          simp only [Bool.and_eq_true, decide_eq_true_eq] at hm
          exact ⟨hm.1.1.1.1.1, hm.1.1.1.1.2, runE_inv2 _ _ _ hi, by show (runE fr ops n 0 s).2.k ≤ ((cntB (runE fr ops n 0 s).2.ad : Nat) : Int); omega⟩
theorem doR_may {e : Int} {s : Vw} {fr : Int} {ops : List Int} {n : Nat} (h1 : s.zs.length = 31) (h2 : s.ad.length = 8) (hr : (doR e s fr ops n).1 = 0) :
    mayV e (doR e s fr ops n).2.zs (doR e s fr ops n).2.ad (doR e s fr ops n).2.k = true := by
  obtain ⟨a, b, c, d⟩ := doR_inv2 h1 h2 hr
  exact mayV_of a b c d
attribute [local irreducible] doR mayV
set_option maxHeartbeats 400000 in
theorem viewStays_ok (e : Int) (zs : List Int) (ad : List Bool) (k : Int) (ch : List UInt8) (fr : Int) (ops : List Int) (n : Nat) (hn : n ≤ 140737488351232) :
    FnO 5 [.agg (vSegs e zs ad k ch), .v (.int .i64 fr), .row n [.ints .i64 (n * 5) ops]] (.d (.v (.bool true))) := by
  refine fn_lens fun hl => ?_
  have hl1 : zs.length = 31 := hl.1.2.1
  have hl2 : ad.length = 8 := hl.1.2.2.1
  clear hl
  refine fnA (E := envW6) Try.func5 Try.ntmps5 ?_
  by_cases h5 : (n : Int) > 10
  · refine agom ?_; (try with_reducible exact True.intro)
  have h50 : n ≤ 10 := by omega
  cases hm : mayV e zs ad k with
  | false => refine agom ?_; (try with_reducible exact True.intro)
  | true =>
  by_cases he : (doR e ⟨zs, ad, k, F8, F8⟩ fr ops n).1 = 0
  · have hm2 := doR_may (s := ⟨zs, ad, k, F8, F8⟩) hl1 hl2 he
    have he1 : decide ((doR e ⟨zs, ad, k, F8, F8⟩ fr ops n).1 = 0) = true := decide_eq_true he
    generalize hR : doR e ⟨zs, ad, k, F8, F8⟩ fr ops n = R at *
    refine agom ?_; (try with_reducible exact True.intro)
  · have he1 : decide ((doR e ⟨zs, ad, k, F8, F8⟩ fr ops n).1 = 0) = false := decide_eq_false he
    refine agom ?_; (try with_reducible exact True.intro)
theorem viewStays_walk {w : World} (v : Value) (hv : ∃ (e : Int) (zs : List Int) (ad : List Bool) (k : Int) (ch : List UInt8), RA (fun _ => True) w (.agg (vSegs e zs ad k ch)) v) (f : Int) (hf : (Lit.int .i64 f).wf = true) (l : Value) (n : Nat) (zs : List Int) (hn : n ≤ 140737488351232) (hl : RA (fun _ => True) w (.row n [.ints .i64 (n * 5) zs]) l) :
    Calls Try.prog 5 #[v, .int .i64 f, l] w fun e w' => e = .returned (.bool true) ∧ Below w.heap.size w w' := by
  obtain ⟨e, ys, ad, k, ch, hv⟩ := hv
  exact law_of_fn (viewStays_ok e ys ad k ch f zs n (by omega)) (fun q l e => by cases (show (none : Option (List Seg)) = some l from e)) (.cons hv (.cons (.v _) (.cons hl .nil)))
end Go.Proofs.Ytkeabmnmeheeiaa

/-
  Views: operations handed in as nothing; members added one behind the other.
-/
namespace Go.Proofs.Ytkeabmnmeheeiaa
set_option maxRecDepth 100000
open Go.RowKit Pm
set_option linter.unusedVariables false
set_option linter.unusedSimpArgs false
attribute [local irreducible] condK LoopA regA powI scal keyV someZ someA isI putL doR mayV

/-- operations that are handed in -/
def opsK : A → (Nat → List Int → Prop) → Prop
  | .row n [.ints .i64 m ops], K => m = n * 5 ∧ n ≤ 1000000 ∧ K n ops
  | .v (.slice none 0 0), K => K 0 []
  | _, _ => False
theorem opsK_spec {x : A} {K : Nat → List Int → Prop} (h : opsK x K) : ∃ n ops, n ≤ 1000000 ∧ K n ops ∧ ∀ {S : Nat → Prop} {w : World} {v : Value}, RA S w x v → RA S w (.row n [.ints .i64 (n * 5) ops]) v := by
  unfold opsK at h
  split at h
  · obtain ⟨rfl, h1, h2⟩ := h
    exact ⟨_, _, h1, h2, fun h => h⟩
  · refine ⟨0, [], by omega, h, fun {S w v} hv => ?_⟩
    rw [RA.plain hv]
    exact .row (cs := []) (.ofInts (by simp) rfl) (Nat.le_refl _) (Nat.zero_le _) (fun _ => rfl) (.inl rfl)
  · exact h.elim
def applyN : List A → (Res → Prop) → Prop
  | [.agg [.ints .i64 1 [e], .ints .i64 31 zs, .bools 8 ad, .ints .i64 1 [k], .bytes 32 ch], .v (.int .i64 fr), x], K =>
    opsK x fun n ops => StopC (condK (decide ((doR e ⟨zs, ad, k, F8, F8⟩ fr ops n).1 = 0))
      (K (.t [.agg (vSegs e (doR e ⟨zs, ad, k, F8, F8⟩ fr ops n).2.zs (doR e ⟨zs, ad, k, F8, F8⟩ fr ops n).2.ad (doR e ⟨zs, ad, k, F8, F8⟩ fr ops n).2.k ch), .agg [.bools 8 (doR e ⟨zs, ad, k, F8, F8⟩ fr ops n).2.ng], .agg [.bools 8 (doR e ⟨zs, ad, k, F8, F8⟩ fr ops n).2.gn], .v (.int .i64 0)]))
      (K (.t [.agg vZero, .agg [.bools 8 F8], .agg [.bools 8 F8], .v (.int .i64 (doR e ⟨zs, ad, k, F8, F8⟩ fr ops n).1)])))
  | _, _ => False
theorem applyN_of {f : FuncId} (hx : ∀ e zs ad k ch fr ops n, n ≤ 1000000 → FnO f [.agg (vSegs e zs ad k ch), .v (.int .i64 fr), .row n [.ints .i64 (n * 5) ops]] (.t (appR e zs ad k ch fr ops n))) : ∀ args K, applyN args K → ∃ r, FnO f args r ∧ K r := by
  intro args K h
  unfold applyN at h
  split at h
  · next e zs ad k ch fr x =>
    obtain ⟨n, ops, hn, h, hv⟩ := opsK_spec h
    have h := h.out
    refine ⟨.t (appR e zs ad k ch fr ops n), fun S w vs hG ha => ?_, ?_⟩
    · obtain ⟨v1, v2, v3, rfl, h1, h2, h3⟩ := ra_three ha
      exact hx e zs ad k ch fr ops n hn S w _ hG (.cons h1 (.cons h2 (.cons (hv h3) .nil)))
    · unfold appR
      by_cases he : (doR e ⟨zs, ad, k, F8, F8⟩ fr ops n).1 = 0
      · rw [decide_eq_true he, condK_true] at h
        rw [if_pos he]
        exact h
      · rw [decide_eq_false he, condK_false] at h
        rw [if_neg he]
        exact h
  · exact h.elim
noncomputable def envX1 : EnvX := envW6.add 21 applyN (applyN_of apply_ok) ⟨_, Try.func21, by kernel_rfl, by kernel_rfl⟩
noncomputable def envX2 : EnvX := envX1.add 22 applyN (applyN_of rapply_ok) ⟨_, Try.func22, by kernel_rfl, by kernel_rfl⟩

theorem scal_dec : ∀ a < 200, ((scal (keyB (a : Nat)) - 28311553) * 195527054) % 268435447 = ((a : Nat) : Int) := by decide +kernel
theorem scal_keysX (a : Nat) (ha : a < 200) (b : Nat) (hb : b < 200) (h : scal (keyB (a : Nat)) = scal (keyB (b : Nat))) : a = b := by
  have h1 := scal_dec a ha
  have h2 := scal_dec b hb
  rw [h] at h1
  exact Int.ofNat_inj.1 (h1.symm.trans h2)
theorem keyX_inj {a b : Nat} (ha : a < 200) (hb : b < 200) (h : keyV (a : Nat) = keyV (b : Nat)) : a = b :=
  scal_keysX a ha b hb (powI_inj (scal_bd _) (scal_bd _) (by rw [keyV, keyV] at h; exact h))
theorem keyX_ne (a b : Nat) (ha : a < 200) (hb : b < 200) (h : a ≠ b) : keyV (a : Nat) ≠ keyV (b : Nat) := fun e => h (keyX_inj ha hb e)
theorem keyV_ne0 (a : Int) : keyV a ≠ 0 := isI_ne (keyV_isI a)
/-- a tree of members at the first places -/
structure First (zs : List Int) (p : Nat) : Prop where
  len : zs.length = 31
  mem : ∀ j, j < 8 → memL zs j = decide (j < p)
theorem First.free {zs : List Int} {p : Nat} (h : First zs p) (hp : p < 8) : freeN zs = p :=
  free_at hp (by rw [h.mem p hp]; simp) fun j hj => by rw [h.mem j (by omega)]; simpa using hj
theorem First.full {zs : List Int} {p : Nat} (h : First zs p) : fullB zs = decide (8 ≤ p) := by
  by_cases hp : 8 ≤ p
  · rw [decide_eq_true hp, full_iff]
    exact fun j hj => by rw [h.mem j hj]; exact decide_eq_true (by omega)
  · rw [decide_eq_false hp]
    cases hf : fullB zs with
    | false => rfl
    | true =>
      have := (full_iff _).1 hf p (by omega)
      rw [h.mem p (by omega)] at this
      simp at this
theorem First.some {n : Nat} (hn : n ≤ 8) : First (someZ n) n := ⟨someZ_len n hn, fun j hj => someZ_mem j n hj hn⟩
theorem First.put {zs : List Int} {p : Nat} (h : First zs p) (hp : p < 8) {x y : Int} (hx : x ≠ 0) : First (putL zs [x, y] (p : Nat)) (p + 1) :=
  ⟨putL_length h.len rfl, fun j hj => by
    rw [memL_put h.len rfl hp hj]
    split
    · next e => rw [decide_eq_true (show j < p + 1 by omega)]; exact decide_eq_true fun e => hx (List.cons.inj e).1
    · next e => rw [h.mem j hj]; exact decide_eq_decide.2 (by omega)⟩
/-- the kinds of operations, one by one -/
theorem err_add (s : Vw) (fr x y : Int) : errOp s fr [1, 0, 0, x, y] = errAdd s.zs [x, y] := rfl
theorem next_add (s : Vw) (x y : Int) : nextOp s [1, 0, 0, x, y] = ⟨putL s.zs [x, y] (freeN s.zs : Nat), s.ad, s.k, s.ng.set (freeN s.zs) true, s.gn⟩ := rfl
theorem err_addV {zs : List Int} {x y : Int} {u f : Bool} (hx : isI x = true) (hy : isI y = true) (hu : usedB zs x = u) (hf : fullB zs = f) : errAdd zs [x, y] = if u = true then 7 else if f = true then 12 else 0 := by
  unfold errAdd
  rw [List.getD_cons_zero, List.getD_cons_succ, List.getD_cons_zero, hx, hy, hu, hf]
  rfl
/-- so many added -/
def addZ (m : Nat) : Nat → List Int
  | 0 => someZ m
  | i + 1 => putL (addZ m i) [keyV ((40 + i : Nat) : Int), keyV ((50 + i : Nat) : Int)] ((m + i : Nat) : Int)
def addG (m : Nat) : Nat → List Bool
  | 0 => F8
  | i + 1 => (addG m i).set (m + i) true
theorem addZ_succ (m i : Nat) : addZ m (i + 1) = putL (addZ m i) [keyV ((40 + i : Nat) : Int), keyV ((50 + i : Nat) : Int)] ((m + i : Nat) : Int) := by rw [addZ]
theorem addG_succ (m i : Nat) : addG m (i + 1) = (addG m i).set (m + i) true := by rw [addG]
theorem addZ_first (m : Nat) (hm : m ≤ 8) : ∀ i, m + i ≤ 8 → First (addZ m i) (m + i)
  | 0, _ => First.some hm
  | i + 1, h => (addZ_first m hm i (by omega)).put (by omega) (keyV_ne0 _)
theorem addZ_leaf (m : Nat) (hm : m ≤ 8) (j : Nat) (hj : j < 8) : ∀ i, m + i ≤ 8 → leafP (addZ m i) j = if j < m then [keyV (j : Nat), keyV ((j : Nat) + 20)] else if j < m + i then [keyV ((40 + (j - m) : Nat) : Int), keyV ((50 + (j - m) : Nat) : Int)] else [0, 0]
  | 0, _ => by
    rw [addZ, someZ_leaf j m hj hm]
    split
    · rfl
    · rw [if_neg (by omega)]
  | i + 1, h => by
    rw [addZ, leafP_put (addZ_first m hm i (by omega)).len rfl (by omega) hj, addZ_leaf m hm j hj i (by omega)]
    by_cases e : j = m + i
    · subst e
      rw [if_pos rfl, if_neg (by omega), if_pos (by omega), show m + i - m = i by omega]
    · rw [if_neg e]
      split
      · rfl
      · by_cases h2 : j < m + i
        · rw [if_pos h2, if_pos (by omega)]
        · rw [if_neg h2, if_neg (by omega)]
theorem addZ_sign (m : Nat) (hm : m ≤ 8) (j : Nat) (hj : j < 8) (i : Nat) (h : m + i ≤ 8) : (addZ m i).getD (j * 2) 0 = if j < m then keyV (j : Nat) else if j < m + i then keyV ((40 + (j - m) : Nat) : Int) else 0 := by
  rw [← leafP_get0 _ hj, addZ_leaf m hm j hj i h]
  split
  · rw [List.getD_cons_zero]
  · split <;> rw [List.getD_cons_zero]
theorem addZ_used (m : Nat) (hm : m ≤ 8) (i : Nat) (h : m + i ≤ 8) (hi : i < 10) : usedB (addZ m i) (keyV ((40 + i : Nat) : Int)) = false := by
  refine used_f fun j hj => ?_
  rw [addZ_sign m hm j hj i h]
  split
  · exact keyX_ne _ _ (by omega) (by omega) (by omega)
  · split
    · exact keyX_ne _ _ (by omega) (by omega) (by omega)
    · exact fun e => keyV_ne0 _ e.symm
theorem addZ_err (m : Nat) (hm : m ≤ 8) (i : Nat) (h : m + i ≤ 8) (hi : i < 10) : errAdd (addZ m i) [keyV ((40 + i : Nat) : Int), keyV ((50 + i : Nat) : Int)] = if m + i < 8 then 0 else 12 := by
  rw [err_addV (keyV_isI _) (keyV_isI _) (addZ_used m hm i h hi) (addZ_first m hm i h).full]
  by_cases e : m + i < 8
  · rw [if_pos e, decide_eq_false (show ¬ 8 ≤ m + i by omega)]; simp
  · rw [if_neg e, decide_eq_true (show 8 ≤ m + i by omega)]; simp
theorem addG_len (m : Nat) : ∀ i, (addG m i).length = 8
  | 0 => rfl
  | i + 1 => by rw [addG, List.length_set, addG_len m i]
theorem addG_get (m : Nat) (j : Nat) (hj : j < 8) : ∀ i, m + i ≤ 8 → (addG m i).getD j false = (decide (m ≤ j) && decide (j < m + i))
  | 0, _ => by
    rw [addG]
    have h : F8.getD j false = false := by
      obtain rfl | rfl | rfl | rfl | rfl | rfl | rfl | rfl : j = 0 ∨ j = 1 ∨ j = 2 ∨ j = 3 ∨ j = 4 ∨ j = 5 ∨ j = 6 ∨ j = 7 := by omega
      all_goals rfl
    rw [h]
    by_cases e : m ≤ j
    · rw [decide_eq_false (show ¬ j < m + 0 by omega), Bool.and_false]
    · rw [decide_eq_false e, Bool.false_and]
  | i + 1, h => by
    rw [addG, getD_setB, addG_len, addG_get m j hj i (by omega)]
    by_cases e : m + i = j
    · rw [if_pos ⟨e, by omega⟩, decide_eq_true (show m ≤ j by omega), decide_eq_true (show j < m + (i + 1) by omega)]; rfl
    · rw [if_neg (by rintro ⟨h, _⟩; exact e h), show decide (j < m + i) = decide (j < m + (i + 1)) from decide_eq_decide.2 (by omega)]
abbrev addW (m i : Nat) : Vw := ⟨addZ m i, someA 1 m, 1, addG m i, F8⟩
abbrev addO (i : Nat) : List Int := [1, 0, 0, keyV ((40 + i : Nat) : Int), keyV ((50 + i : Nat) : Int)]
theorem adds_next (m : Nat) (hm : m ≤ 8) (i : Nat) (h : m + i < 8) (hi : i < 10) : errOp (addW m i) 0 (addO i) = 0 ∧ nextOp (addW m i) (addO i) = addW m (i + 1) := by
  refine ⟨?_, ?_⟩
  · rw [err_add, addZ_err m hm i (by omega) hi, if_pos h]
  · rw [next_add, (addZ_first m hm i (by omega)).free h, ← addZ_succ, ← addG_succ]
theorem adds_full (m : Nat) (hm : m ≤ 8) (i : Nat) (h : m + i = 8) (hi : i < 10) : errOp (addW m i) 0 (addO i) = 12 := by
  rw [err_add, addZ_err m hm i (by omega) hi, if_neg (by omega)]
theorem runE_adds (m : Nat) (hm : m ≤ 8) {ops : List Int} : ∀ (d j : Nat), j + d ≤ 5 → (∀ i, i < d → opAt ops (j + i) = addO (j + i)) → m + j ≤ 8 →
    (m + j + d ≤ 8 → runE 0 ops d j (addW m j) = (0, addW m (j + d))) ∧ (8 < m + j + d → (runE 0 ops d j (addW m j)).1 = 12)
  | 0, j, _, _, hj => ⟨fun _ => by rw [runE]; rfl, fun h => absurd h (by omega)⟩
  | d + 1, j, h5, ho, hj => by
    have h0 := ho 0 (by omega)
    rw [Nat.add_zero] at h0
    by_cases h8 : m + j < 8
    · obtain ⟨e1, e2⟩ := adds_next m hm j h8 (by omega)
      obtain ⟨r1, r2⟩ := runE_adds m hm (ops := ops) d (j + 1) (by omega) (fun i hi => by have := ho (i + 1) (by omega); rw [show j + (i + 1) = j + 1 + i by omega] at this; exact this) (by omega)
      rw [runE, h0, if_pos e1, e2]
      exact ⟨fun h => by rw [r1 (by omega), show j + 1 + d = j + (d + 1) by omega], fun h => r2 (by omega)⟩
    · have e1 := adds_full m hm j (by omega) (by omega)
      rw [runE, h0, if_neg (by rw [e1]; decide)]
      exact ⟨fun h => absurd h (by omega), fun _ => e1⟩
theorem cnt_one (m : Nat) (hm : 1 ≤ m ∧ m ≤ 8) : cntB (someA 1 m) = 1 := by rw [someA_cnt 1 m hm.2]; omega
theorem doR_adds (m : Nat) (hm : 1 ≤ m ∧ m ≤ 8) (n : Nat) (hn : n ≤ 4) {ops : List Int} (ho : ∀ i, i < n → opAt ops i = addO i) :
    (m + n ≤ 8 → doR 0 ⟨someZ m, someA 1 m, 1, F8, F8⟩ 0 ops n = (0, addW m n)) ∧ (8 < m + n → (doR 0 ⟨someZ m, someA 1 m, 1, F8, F8⟩ 0 ops n).1 = 12) := by
  have hv : mayV 0 (someZ m) (someA 1 m) 1 = true := by
    rw [some_may m hm.2, decide_eq_true (show (1 : Int) ≤ ((min m (min (max (1 : Int) 0) 8).toNat : Nat) : Int) by omega)]; rfl
  have hb : memB (someZ m) 0 = true := memB_some m hm.2 (by omega)
  have hodd : oddTo ops n = false := by
    unfold oddTo
    rw [List.any_eq_false]
    intro i hi
    have hi' : i < n := by simpa using hi
    rw [ho i hi']
    simp [ownB]
  obtain ⟨r1, r2⟩ := runE_adds m hm.2 (ops := ops) n 0 (by omega) (fun i hi => by rw [Nat.zero_add]; exact ho i hi) (by omega)
  have hd : doR 0 ⟨someZ m, someA 1 m, 1, F8, F8⟩ 0 ops n = (if (runE 0 ops n 0 (addW m 0)).1 ≠ 0 then runE 0 ops n 0 (addW m 0) else if ((cntB (runE 0 ops n 0 (addW m 0)).2.ad : Nat) : Int) < (runE 0 ops n 0 (addW m 0)).2.k then (7, (runE 0 ops n 0 (addW m 0)).2) else (0, (runE 0 ops n 0 (addW m 0)).2)) := by
    unfold doR
    rw [hv, hodd, hb, decide_eq_false (show ¬ n > 4 by omega)]
    rfl
  rw [hd]
  refine ⟨fun h => ?_, fun h => ?_⟩
  · rw [r1 (by omega), if_neg (by simp), Nat.zero_add]
    show (if ((cntB (someA 1 m) : Nat) : Int) < 1 then _ else _) = _
    rw [cnt_one m hm, if_neg (by decide)]
  · have := r2 (by omega)
    rw [if_pos (by rw [this]; decide), this]
end Go.Proofs.Ytkeabmnmeheeiaa
