/-
  Views: what the laws of stage 9 stand on: keys.
-/
import Derived.Test.YtkeabmnmeheeiaaHV3
import Derived.Test.YtkeabmnmeheeiaaK1
namespace Go.Proofs.Ytkeabmnmeheeiaa
set_option maxRecDepth 100000
open Go.RowKit Pm
set_option linter.unusedVariables false
set_option linter.unusedSimpArgs false

theorem powI_lt_ne {a b : Nat} (ha : 1 ≤ a) (hab : a < b) (hb : b < 1073741789) : pw 4 a ≠ pw 4 b := by
  intro h
  have e1 : pw 4 (1073741789 - a) * pw 4 a % 2147483579 = 1 := by rw [pw_add, show 1073741789 - a + a = 1073741789 by omega, four_Q]
  have e2 : pw 4 (1073741789 - a) * pw 4 b % 2147483579 = pw 4 (b - a) := by
    rw [pw_add, show 1073741789 - a + b = 1073741789 + (b - a) by omega, ← pw_add, four_Q, Nat.one_mul, Nat.mod_eq_of_lt (pw_lt _ _)]
  rw [← h, e1] at e2
  exact four_ne (b - a) (by omega) (by omega) e2.symm
theorem powI_inj {a b : Int} (ha : 1 ≤ a ∧ a < 1073741789) (hb : 1 ≤ b ∧ b < 1073741789) (h : powI 4 a = powI 4 b) : a = b := by
  obtain ⟨m, rfl⟩ := Int.eq_ofNat_of_zero_le (show 0 ≤ a by omega)
  obtain ⟨n, rfl⟩ := Int.eq_ofNat_of_zero_le (show 0 ≤ b by omega)
  rw [show powI 4 (m : Int) = (pw 4 m : Int) from powI_nat 4 m (by decide) (by omega), show powI 4 (n : Int) = (pw 4 n : Int) from powI_nat 4 n (by decide) (by omega)] at h
  have h' : pw 4 m = pw 4 n := Int.ofNat_inj.1 h
  rcases Nat.lt_trichotomy m n with h1 | h1 | h1
  · exact (powI_lt_ne (by omega) h1 (by omega) h').elim
  · rw [h1]
  · exact (powI_lt_ne (by omega) h1 (by omega) h'.symm).elim
/-- a key of these laws: its number, in bytes -/
def keyB (n : Int) : List UInt8 := UInt8.ofNat (IntKind.u8.wrap n).toNat :: 3 :: List.replicate 30 0
def keyV (n : Int) : Int := powI 4 (scal (keyB n))
theorem keyV_isI (n : Int) : isI (keyV n) = true := by
  have h := scal_bd (keyB n)
  unfold keyV
  obtain ⟨m, hm⟩ := Int.eq_ofNat_of_zero_le (show 0 ≤ scal (keyB n) by omega)
  rw [hm] at h ⊢
  rw [show powI 4 (m : Int) = (pw 4 m : Int) from powI_nat 4 m (by decide) (by omega)]
  exact isI_four m (by omega) (by omega)
theorem scal_keys : ∀ a < 32, ∀ b < 32, scal (keyB (a : Nat)) = scal (keyB (b : Nat)) → a = b := by decide +kernel
theorem keyV_inj {a b : Nat} (ha : a < 32) (hb : b < 32) (h : keyV (a : Nat) = keyV (b : Nat)) : a = b :=
  scal_keys a ha b hb (powI_inj (scal_bd _) (scal_bd _) h)
attribute [local irreducible] condK LoopA regA powI scal
theorem u8_bd (n : Int) : 0 ≤ IntKind.u8.wrap n ∧ IntKind.u8.wrap n < 256 := by
  have e1 : (2 : Int) ^ 8 = 256 := by decide
  simp only [IntKind.wrap, IntKind.signed, IntKind.bits, Bool.false_and, e1]
  simp
  omega
noncomputable def envW1 : EnvX := envVs.add 43 rfromS rfromS_ok ⟨_, Try.func43, by kernel_rfl, by kernel_rfl⟩
set_option maxHeartbeats 400000 in
theorem wkey_ok (n : Int) : FnO 24 [.v (.int .i64 n)] (.d (.v (.int .i64 (keyV n)))) := by
  refine fnA (E := envW1) Try.func24 Try.ntmps24 ?_
  obtain ⟨hw0, hw1⟩ := u8_bd n
  refine ago ?_; (try with_reducible exact True.intro)
  rfl
def wkeyS : List A → (Res → Prop) → Prop
  | [.v (.int .i64 n)], K => K (.d (.v (.int .i64 (keyV n))))
  | _, _ => False
theorem wkeyS_ok : ∀ args K, wkeyS args K → ∃ r, FnO 24 args r ∧ K r := by
  intro args K h
  unfold wkeyS at h
  split at h
  · exact ⟨_, wkey_ok _, h⟩
  · exact h.elim
noncomputable def envW2 : EnvX := envW1.add 24 wkeyS wkeyS_ok ⟨_, Try.func24, by kernel_rfl, by kernel_rfl⟩
end Go.Proofs.Ytkeabmnmeheeiaa

/-
  Views: some view.
-/
namespace Go.Proofs.Ytkeabmnmeheeiaa
set_option maxRecDepth 100000
open Go.RowKit Pm
set_option linter.unusedVariables false
set_option linter.unusedSimpArgs false
attribute [local irreducible] condK LoopA regA powI scal keyV

/-- so many members -/
def someZ : Nat → List Int
  | 0 => List.replicate 31 0
  | i + 1 => (someZ i).take (i * 2) ++ ([keyV (i : Nat), keyV ((i : Nat) + 20)] ++ (someZ i).drop (i * 2 + 2))
def someA (a : Int) : Nat → List Bool
  | 0 => List.replicate 8 false
  | i + 1 => (someA a i).set i (decide ((i : Int) < a))
abbrev Z32 : List UInt8 := List.replicate 32 0
abbrev someS (m a k : Int) : List Seg := vSegs 0 (someZ (min m.toNat 8)) (someA a (min m.toNat 8)) k Z32
theorem someZ_len : ∀ i, i ≤ 8 → (someZ i).length = 31
  | 0, _ => rfl
  | i + 1, h => by
    have := someZ_len i (by omega)
    simp [someZ, this]; omega
theorem someA_len (a : Int) : ∀ i, (someA a i).length = 8
  | 0 => rfl
  | i + 1 => by simp [someA, someA_len a i]
attribute [local irreducible] someZ someA
set_option maxHeartbeats 400000 in
theorem some_ok (m a k : Int) : FnO 23 [.v (.int .i64 m), .v (.int .i64 a), .v (.int .i64 k)] (.d (.agg (someS m a k))) := by
  refine fnA (E := envW2) Try.func23 Try.ntmps23 ?_
  have z0 : someZ 0 = List.replicate 31 0 := by unfold someZ; rfl
  have a0 : someA a 0 = List.replicate 8 false := by unfold someA; rfl
  refine agom ?_; (try with_reducible exact True.intro)
  refine StopL.mk (loop_inv [0, 1, 6, 7, 8] 2 (fun st => ∃ i : Nat, i ≤ 8 ∧ i ≤ m.toNat ∧ st = ⟨[.d (.v (.int .i64 m)), .d (.v (.int .i64 a)), .dead, .dead, .dead, .dead, .ptr 0 0, .ptr 1 0, .d (.v (.int .i64 (i : Nat))), .dead, .dead, .dead, .dead, .dead, .dead, .dead, .dead, .dead, .dead, .dead, .dead, .dead, .dead, .dead, .dead, .dead, .dead, .dead, .dead, .dead, .dead, .dead, .dead, .dead, .dead, .dead, .dead], [some (.var vZero), some (.var (vSegs 0 (someZ i) (someA a i) k Z32))]⟩) (fun s => 8 - intAt s 8) rfl ⟨0, by omega, by omega, by rw [z0, a0]; rfl⟩ ?_)
  rintro st ⟨i, hi, hm, rfl⟩
  have hw : IntKind.i64.wrap ((i : Int) + 1) = ((i + 1 : Nat) : Int) := by rw [wrapS (by omega) (by omega)]; omega
  have hw2 : IntKind.i64.wrap ((i : Int) + 20) = (i : Int) + 20 := wrapS (by omega) (by omega)
  by_cases h1 : (i : Int) < m
  · by_cases h2 : i < 8
    · have sz : someZ (i + 1) = (someZ i).take (i * 2) ++ (keyV (i : Nat) :: keyV (IntKind.i64.wrap ((i : Int) + 20)) :: (someZ i).drop (i * 2 + 2)) := by rw [hw2, someZ]; rfl
      have sa : someA a (i + 1) = (someA a i).set i (decide ((i : Int) < a)) := by rw [someA]
      refine agom ?_; (try with_reducible exact True.intro)
      refine ⟨⟨i + 1, by omega, by omega, by rw [sz, sa, ← hw]; rfl⟩, ?_⟩
      show 8 - (IntKind.i64.wrap ((i : Int) + 1)).toNat < 8 - (i : Int).toNat
      rw [hw]; omega
    · have e : min m.toNat 8 = i := by omega
      refine agom ?_; (try with_reducible exact True.intro)
      unfold someS
      rw [e]
      rfl
  · have e : min m.toNat 8 = i := by omega
    refine agom ?_; (try with_reducible exact True.intro)
    unfold someS
    rw [e]
    rfl
def someFS : List A → (Res → Prop) → Prop
  | [.v (.int .i64 m), .v (.int .i64 a), .v (.int .i64 k)], K => K (.d (.agg (someS m a k)))
  | _, _ => False
theorem someFS_ok : ∀ args K, someFS args K → ∃ r, FnO 23 args r ∧ K r := by
  intro args K h
  unfold someFS at h
  split at h
  · exact ⟨_, some_ok _ _ _, h⟩
  · exact h.elim
noncomputable def envW3 : EnvX := envW2.add 23 someFS someFS_ok ⟨_, Try.func23, by kernel_rfl, by kernel_rfl⟩
end Go.Proofs.Ytkeabmnmeheeiaa

/-
  Views: what some view holds, and that it may be.
-/
namespace Go.Proofs.Ytkeabmnmeheeiaa
set_option maxRecDepth 100000
open Go.RowKit Pm
set_option linter.unusedVariables false
set_option linter.unusedSimpArgs false
attribute [local irreducible] condK LoopA regA powI scal keyV someZ someA

theorem someZ_zero : someZ 0 = List.replicate 31 0 := by rw [someZ]
theorem someZ_succ (i : Nat) : someZ (i + 1) = (someZ i).take (i * 2) ++ ([keyV (i : Nat), keyV ((i : Nat) + 20)] ++ (someZ i).drop (i * 2 + 2)) := by rw [someZ]
theorem someA_zero (a : Int) : someA a 0 = List.replicate 8 false := by rw [someA]
theorem someA_succ (a : Int) (i : Nat) : someA a (i + 1) = (someA a i).set i (decide ((i : Int) < a)) := by rw [someA]
theorem rep_get (n i : Nat) : (List.replicate n (0 : Int)).getD i 0 = 0 := by
  rw [List.getD_eq_getElem?_getD, List.getElem?_replicate]
  split <;> simp
theorem rep_getB (n i : Nat) : (List.replicate n false).getD i false = false := by
  rw [List.getD_eq_getElem?_getD, List.getElem?_replicate]
  split <;> simp
set_option maxHeartbeats 100000 in
/-- the leaves of such a view -/
theorem someZ_at (m n : Nat) (h : n ≤ 8) : (someZ (n + 1)).getD m 0 = if n * 2 ≤ m ∧ m < n * 2 + 2 then [keyV (n : Nat), keyV ((n : Nat) + 20)].getD (m - n * 2) 0 else (someZ n).getD m 0 := by
  rw [someZ_succ]
  exact splice_get (xs := [keyV (n : Nat), keyV ((n : Nat) + 20)]) (by simp) (by rw [someZ_len n h]; omega) m
set_option maxHeartbeats 100000 in
theorem someZ_get (i : Nat) (hi : i < 8) : ∀ n, n ≤ 8 → (someZ n).getD (i * 2) 0 = if i < n then keyV (i : Nat) else 0
  | 0, _ => by
    rw [if_neg (by omega), someZ_zero, rep_get]
  | n + 1, hn => by
    rw [someZ_at _ _ (by omega)]
    by_cases e : i = n
    · subst e
      rw [if_pos ⟨Nat.le_refl _, by omega⟩, if_pos (by omega), Nat.sub_self, List.getD_cons_zero]
    · rw [if_neg (by omega), someZ_get i hi n (by omega)]
      by_cases h : i < n
      · rw [if_pos h, if_pos (by omega)]
      · rw [if_neg h, if_neg (by omega)]
set_option maxHeartbeats 100000 in
theorem someZ_get1 (i : Nat) (hi : i < 8) : ∀ n, n ≤ 8 → (someZ n).getD (i * 2 + 1) 0 = if i < n then keyV ((i : Nat) + 20) else 0
  | 0, _ => by
    rw [if_neg (by omega), someZ_zero, rep_get]
  | n + 1, hn => by
    rw [someZ_at _ _ (by omega)]
    by_cases e : i = n
    · subst e
      rw [if_pos ⟨by omega, by omega⟩, if_pos (by omega), show i * 2 + 1 - i * 2 = 0 + 1 by omega, List.getD_cons_succ, List.getD_cons_zero]
    · rw [if_neg (by omega), someZ_get1 i hi n (by omega)]
      by_cases h : i < n
      · rw [if_pos h, if_pos (by omega)]
      · rw [if_neg h, if_neg (by omega)]
set_option maxHeartbeats 100000 in
theorem someZ_node (i : Nat) : ∀ n, n ≤ 8 → (someZ n).getD (16 + i) 0 = 0
  | 0, _ => by
    rw [someZ_zero, rep_get]
  | n + 1, hn => by
    rw [someZ_at _ _ (by omega), if_neg (by omega), someZ_node i n (by omega)]
set_option maxHeartbeats 100000 in
theorem someA_get (a : Int) (i : Nat) (hi : i < 8) : ∀ n, n ≤ 8 → (someA a n).getD i false = (decide (i < n) && decide ((i : Int) < a))
  | 0, _ => by
    rw [someA_zero, rep_getB]; simp
  | n + 1, hn => by
    rw [someA_succ, getD_setB, someA_len, someA_get a i hi n (by omega)]
    by_cases e : n = i
    · subst e
      rw [if_pos ⟨rfl, hi⟩, decide_eq_true (show n < n + 1 by omega), Bool.true_and]
    · rw [if_neg (by omega), show decide (i < n) = decide (i < n + 1) from decide_eq_decide.2 (by omega)]
set_option maxHeartbeats 400000 in
theorem someZ_leaf (j n : Nat) (hj : j < 8) (hn : n ≤ 8) : leafP (someZ n) j = if j < n then [keyV (j : Nat), keyV ((j : Nat) + 20)] else [0, 0] := by
  rw [leafP_two (by rw [someZ_len n hn]; omega) hj, someZ_get j hj n hn, someZ_get1 j hj n hn]
  split <;> rfl
theorem someZ_mem (j n : Nat) (hj : j < 8) (hn : n ≤ 8) : memL (someZ n) j = decide (j < n) := by
  unfold memL
  rw [someZ_leaf j n hj hn]
  refine decide_eq_decide.2 ?_
  split
  · next h => exact ⟨fun _ => h, fun _ e => isI_ne (keyV_isI _) (List.cons.inj e).1⟩
  · next h => exact ⟨fun e => absurd rfl e, fun h2 => absurd h2 h⟩
theorem someZ_isT (n : Nat) (hn : n ≤ 8) : isT (someZ n) = true := by
  unfold isT
  rw [Bool.and_eq_true, List.all_eq_true, List.all_eq_true]
  constructor
  · intro j hj
    have hj' : j < 8 := by simpa using hj
    unfold leafOK
    rw [someZ_leaf j n hj' hn]
    split
    · rw [List.getD_cons_zero, List.getD_cons_succ, List.getD_cons_zero, keyV_isI, keyV_isI]; simp
    · simp
  · intro j hj
    have hj' : j < 15 := by simpa using hj
    unfold nodeOK
    have : nodeV (someZ n) j = 0 := by
      have h := someZ_node j n hn
      unfold nodeV
      rw [List.getD_eq_getElem?_getD, List.getElem?_take, if_pos hj', List.getElem?_drop, ← List.getD_eq_getElem?_getD]
      exact h
    rw [this]; simp
theorem someA_map (a : Int) (n : Nat) (hn : n ≤ 8) : someA a n = (List.range 8).map fun i => decide (i < n) && decide (i < (min (max a 0) 8).toNat) := by
  refine List.ext_getElem (by rw [someA_len]; simp) fun i h1 h2 => ?_
  have hi : i < 8 := by rw [someA_len] at h1; exact h1
  have h := someA_get a i hi n hn
  rw [List.getD_eq_getElem?_getD, List.getElem?_eq_getElem h1] at h
  rw [List.getElem_map, List.getElem_range]
  have e : decide ((i : Int) < a) = decide (i < (min (max a 0) 8).toNat) := decide_eq_decide.2 (by omega)
  rw [← e]
  simpa using h
theorem cnt_some : ∀ n < 9, ∀ b < 9, cntB ((List.range 8).map fun i => decide (i < n) && decide (i < b)) = min n b := by decide +kernel
theorem someA_cnt (a : Int) (n : Nat) (hn : n ≤ 8) : cntB (someA a n) = min n (min (max a 0) 8).toNat := by
  rw [someA_map a n hn]
  exact cnt_some n (by omega) _ (by omega)
theorem some_may (n : Nat) (hn : n ≤ 8) (a k : Int) : mayV 0 (someZ n) (someA a n) k = (decide (1 ≤ k) && decide (k ≤ (min n (min (max a 0) 8).toNat : Nat))) := by
  unfold mayV
  have ha : admTo (someZ n) (someA a n) 8 = true := (admTo_iff _ _).2 fun i hi h => by
    rw [someA_get a i hi n hn] at h
    rw [someZ_mem i n hi hn]
    simp only [Bool.and_eq_true] at h
    exact h.1
  rw [someZ_isT n hn, ha, someA_cnt a n hn]
  simp
end Go.Proofs.Ytkeabmnmeheeiaa

/-
  Views: the laws' first look.
-/
namespace Go.Proofs.Ytkeabmnmeheeiaa
set_option maxRecDepth 100000
open Go.RowKit Pm
set_option linter.unusedVariables false
set_option linter.unusedSimpArgs false
attribute [local irreducible] condK LoopA regA powI scal keyV someZ someA isI mayV doR

/-- operations done: what comes of it, either way -/
def applyS : List A → (Res → Prop) → Prop
  | [.agg [.ints .i64 1 [e], .ints .i64 31 zs, .bools 8 ad, .ints .i64 1 [k], .bytes 32 ch], .v (.int .i64 fr), .row n [.ints .i64 m ops]], K =>
    m = n * 5 ∧ n ≤ 1000000 ∧ StopC (condK (decide ((doR e ⟨zs, ad, k, F8, F8⟩ fr ops n).1 = 0))
      (K (.t [.agg (vSegs e (doR e ⟨zs, ad, k, F8, F8⟩ fr ops n).2.zs (doR e ⟨zs, ad, k, F8, F8⟩ fr ops n).2.ad (doR e ⟨zs, ad, k, F8, F8⟩ fr ops n).2.k ch), .agg [.bools 8 (doR e ⟨zs, ad, k, F8, F8⟩ fr ops n).2.ng], .agg [.bools 8 (doR e ⟨zs, ad, k, F8, F8⟩ fr ops n).2.gn], .v (.int .i64 0)]))
      (K (.t [.agg vZero, .agg [.bools 8 F8], .agg [.bools 8 F8], .v (.int .i64 (doR e ⟨zs, ad, k, F8, F8⟩ fr ops n).1)])))
  | _, _ => False
theorem applyS_of {f : FuncId} (hx : ∀ e zs ad k ch fr ops n, n ≤ 1000000 → FnO f [.agg (vSegs e zs ad k ch), .v (.int .i64 fr), .row n [.ints .i64 (n * 5) ops]] (.t (appR e zs ad k ch fr ops n))) : ∀ args K, applyS args K → ∃ r, FnO f args r ∧ K r := by
  intro args K h
  unfold applyS at h
  split at h
  · next e zs ad k ch fr n m ops =>
    obtain ⟨rfl, hn, h⟩ := h
    have h := h.out
    refine ⟨_, hx e zs ad k ch fr ops n hn, ?_⟩
    unfold appR
    by_cases he : (doR e ⟨zs, ad, k, F8, F8⟩ fr ops n).1 = 0
    · rw [decide_eq_true he, condK_true] at h
      rw [if_pos he]
      exact h
    · rw [decide_eq_false he, condK_false] at h
      rw [if_neg he]
      exact h
  · exact h.elim
noncomputable def envW4 : EnvX := envW3.add 21 applyS (applyS_of apply_ok) ⟨_, Try.func21, by kernel_rfl, by kernel_rfl⟩
noncomputable def envW5 : EnvX := envW4.add 22 applyS (applyS_of rapply_ok) ⟨_, Try.func22, by kernel_rfl, by kernel_rfl⟩
theorem someA_one : someA 1 1 = [true, false, false, false, false, false, false, false] := by rw [someA_succ, someA_zero]; rfl
abbrev T8 : List Bool := [true, false, false, false, false, false, false, false]
set_option maxHeartbeats 400000 in
theorem demote_gen (zs : List Int) (hm : memB zs 0 = true) (hv : mayV 0 zs T8 1 = true) : doR 0 ⟨zs, T8, 1, F8, F8⟩ 0 [4, 0, 0, 0, 0] 1 = (7, ⟨zs, F8, 1, F8, F8⟩) := by
  have ho : oddTo [4, 0, 0, 0, 0] 1 = false := by decide
  have he : errOp ⟨zs, T8, 1, F8, F8⟩ 0 (opAt [4, 0, 0, 0, 0] 0) = 0 := by
    show errDem zs T8 0 = 0
    unfold errDem
    rw [hm]; rfl
  have hr : runE 0 [4, 0, 0, 0, 0] 1 0 ⟨zs, T8, 1, F8, F8⟩ = (0, ⟨zs, F8, 1, F8, F8⟩) := by
    unfold runE
    rw [if_pos he]
    unfold runE
    rfl
  unfold doR
  rw [hv, ho, hm, hr]
  rfl
set_option maxHeartbeats 400000 in
theorem add_gen (zs : List Int) (x y : Int) (hm : memB zs 0 = true) (hv : mayV 0 zs T8 1 = true) (he : errAdd zs [x, y] = 0) (hf : freeN zs = 1) :
    doR 0 ⟨zs, T8, 1, F8, F8⟩ 0 [1, 0, 0, x, y] 1 = (0, ⟨putL zs [x, y] 1, T8, 1, [false, true, false, false, false, false, false, false], F8⟩) := by
  have ho : oddTo [1, 0, 0, x, y] 1 = false := by
    show (List.range 1).any (fun i => !ownB (opAt [1, 0, 0, x, y] i)) = false
    rfl
  have he : errOp ⟨zs, T8, 1, F8, F8⟩ 0 (opAt [1, 0, 0, x, y] 0) = 0 := he
  have hr : runE 0 [1, 0, 0, x, y] 1 0 ⟨zs, T8, 1, F8, F8⟩ = (0, ⟨putL zs [x, y] 1, T8, 1, [false, true, false, false, false, false, false, false], F8⟩) := by
    unfold runE
    rw [if_pos he]
    unfold runE
    show (0, (⟨putL zs [x, y] (freeN zs : Nat), T8, 1, F8.set (freeN zs) true, F8⟩ : Vw)) = _
    rw [hf]; rfl
  unfold doR
  rw [hv, ho, hm, hr]
  rfl
theorem used_some (n : Nat) (hn : n ≤ 8) (j : Nat) (hj : n ≤ j ∧ j < 32) : usedB (someZ n) (keyV (j : Nat)) = false := by
  refine used_f fun i hi => ?_
  rw [someZ_get i hi n hn]
  split
  · intro e
    have := keyV_inj (by omega) (by omega) e
    omega
  · intro e
    exact isI_ne (keyV_isI (j : Nat)) e.symm
theorem free_some (n : Nat) (hn : n < 8) : freeN (someZ n) = n :=
  free_at hn (by rw [someZ_mem n n hn (by omega)]; simp) fun j hj => by rw [someZ_mem j n (by omega) (by omega)]; simpa using hj
theorem full_some (n : Nat) (hn : n < 8) : fullB (someZ n) = false := by
  cases h : fullB (someZ n) with
  | false => rfl
  | true =>
    have := (full_iff _).1 h n hn
    rw [someZ_mem n n hn (by omega)] at this
    simp at this
theorem errAdd_some (n : Nat) (hn : n < 8) (j : Nat) (y : Int) (hj : n ≤ j ∧ j < 32) (hy : isI y = true) : errAdd (someZ n) [keyV (j : Nat), y] = 0 := by
  unfold errAdd
  rw [List.getD_cons_zero, List.getD_cons_succ, List.getD_cons_zero, keyV_isI, hy, used_some n (by omega) j hj, full_some n hn]
  simp
theorem memB_some (n : Nat) (hn : n ≤ 8) (h : 0 < n) : memB (someZ n) 0 = true := by
  have : memL (someZ n) 0 = true := by rw [someZ_mem 0 n (by omega) hn]; simpa using h
  unfold memB
  rw [show ((0 : Int).toNat) = 0 from rfl, this]
  rfl
end Go.Proofs.Ytkeabmnmeheeiaa

/-
  Views: the laws' first look, walked.
-/
namespace Go.Proofs.Ytkeabmnmeheeiaa
set_option maxRecDepth 100000
open Go.RowKit Pm
set_option linter.unusedVariables false
set_option linter.unusedSimpArgs false
attribute [local irreducible] condK LoopA regA powI scal keyV someZ someA isI mayV doR putL

theorem leafOK_of2 {zs : List Int} {j : Nat} {x y : Int} (h : leafP zs j = [x, y]) (hx : isI x = true) (hy : isI y = true) : leafOK zs j = true := by
  unfold leafOK
  rw [h, List.getD_cons_zero, List.getD_cons_succ, List.getD_cons_zero, hx, hy]; simp
theorem isT_put {zs : List Int} (hz : zs.length = 31) {x y : Int} {i : Nat} (hi : i < 8) (hx : isI x = true) (hy : isI y = true) (h : isT zs = true) : isT (putL zs [x, y] (i : Nat)) = true := by
  unfold isT at h ⊢
  rw [Bool.and_eq_true, List.all_eq_true, List.all_eq_true] at h ⊢
  refine ⟨fun j hj => ?_, fun j hj => ?_⟩
  · have hj' : j < 8 := by simpa using hj
    by_cases e : j = i
    · refine leafOK_of2 (x := x) (y := y) ?_ hx hy
      rw [leafP_put hz rfl hi hj', if_pos e]
    · have h1 := h.1 j hj
      unfold leafOK at h1 ⊢
      rw [leafP_put hz rfl hi hj', if_neg e]
      exact h1
  · have hj' : j < 15 := by simpa using hj
    have h1 := h.2 j hj
    have e : nodeV (putL zs [x, y] (i : Nat)) j = 0 ∨ nodeV (putL zs [x, y] (i : Nat)) j = nodeV zs j := by
      unfold nodeV putL
      rw [if_pos (by simp [leafB]; omega), Int.toNat_natCast]
      rw [List.getD_eq_getElem?_getD, List.getD_eq_getElem?_getD, List.getElem?_take, if_pos hj', List.getElem?_take, if_pos hj', List.getElem?_drop, List.getElem?_drop, ← List.getD_eq_getElem?_getD, ← List.getD_eq_getElem?_getD, getD_set_list, getD_set_list, getD_set_list]
      split
      · exact .inl rfl
      · split
        · exact .inl rfl
        · split
          · exact .inl rfl
          · exact .inr (by rw [splice_get (xs := [x, y]) (by simp) (by omega), if_neg (by omega)])
    unfold nodeOK at h1 ⊢
    rcases e with e | e
    · rw [e]; simp
    · rw [e]
      exact h1
theorem may_put {e : Int} {zs : List Int} {ad : List Bool} {k : Int} (hz : zs.length = 31) {x y : Int} {i : Nat} (hi : i < 8) (hx : isI x = true) (hy : isI y = true) (h : mayV e zs ad k = true) : mayV e (putL zs [x, y] (i : Nat)) ad k = true := by
  unfold mayV at h ⊢
  simp only [Bool.and_eq_true] at h ⊢
  refine ⟨⟨⟨⟨h.1.1.1.1, isT_put hz hi hx hy h.1.1.1.2⟩, (admTo_iff _ _).2 fun j hj ha => ?_⟩, h.1.2⟩, h.2⟩
  rw [memL_put hz rfl hi hj]
  split
  · exact decide_eq_true fun e => isI_ne hx (List.cons.inj e).1
  · exact (admTo_iff _ _).1 h.1.1.2 j hj ha
set_option maxHeartbeats 400000 in
theorem known_facts : decide ((doR 0 ⟨someZ (min 1 8), someA 1 (min 1 8), 1, F8, F8⟩ 0 [4, 0, 0, 0, 0] 1).1 = 0) = false ∧ ((doR 0 ⟨someZ (min 1 8), someA 1 (min 1 8), 1, F8, F8⟩ 0 [4, 0, 0, 0, 0] 1).1 == 7) = true ∧ decide ((doR 0 ⟨someZ (min 1 8), someA 1 (min 1 8), 1, F8, F8⟩ 0 [1, 0, 0, keyV 5, keyV 6] 1).1 = 0) = true ∧
    (doR 0 ⟨someZ (min 1 8), someA 1 (min 1 8), 1, F8, F8⟩ 0 [1, 0, 0, keyV 5, keyV 6] 1).2.ng.getD 1 false = true ∧ ((doR 0 ⟨someZ (min 1 8), someA 1 (min 1 8), 1, F8, F8⟩ 0 [1, 0, 0, keyV 5, keyV 6] 1).2.zs.getD 2 0 == keyV 5) = true ∧
    mayV 0 (doR 0 ⟨someZ (min 1 8), someA 1 (min 1 8), 1, F8, F8⟩ 0 [1, 0, 0, keyV 5, keyV 6] 1).2.zs (doR 0 ⟨someZ (min 1 8), someA 1 (min 1 8), 1, F8, F8⟩ 0 [1, 0, 0, keyV 5, keyV 6] 1).2.ad (doR 0 ⟨someZ (min 1 8), someA 1 (min 1 8), 1, F8, F8⟩ 0 [1, 0, 0, keyV 5, keyV 6] 1).2.k = true := by
  have hm := memB_some 1 (by omega) (by omega)
  have hv : mayV 0 (someZ 1) T8 1 = true := by
    have h := some_may 1 (by omega) 1 1
    rw [someA_one] at h
    rw [h]
    rfl
  have hA := demote_gen (someZ 1) hm hv
  have h5 : isI (keyV 5) = true := keyV_isI 5
  have h6 : isI (keyV 6) = true := keyV_isI 6
  have he : errAdd (someZ 1) [keyV 5, keyV 6] = 0 := errAdd_some 1 (by omega) 5 _ (by omega) h6
  have hB := add_gen (someZ 1) (keyV 5) (keyV 6) hm hv he (free_some 1 (by omega))
  have hV : mayV 0 (putL (someZ 1) [keyV 5, keyV 6] 1) T8 1 = true := may_put (someZ_len 1 (by omega)) (i := 1) (by omega) h5 h6 hv
  have hl := leafP_put (zs := someZ 1) (xs := [keyV 5, keyV 6]) (someZ_len 1 (by omega)) rfl (i := 1) (j := 1) (by omega) (by omega)
  rw [if_pos rfl, leafP_two (by rw [putL_length (someZ_len 1 (by omega)) rfl]; omega) (by omega)] at hl
  have hg : (putL (someZ 1) [keyV 5, keyV 6] 1).getD 2 0 = keyV 5 := (List.cons.inj hl).1
  rw [show min 1 8 = 1 from rfl, someA_one, hA, hB]
  refine ⟨rfl, rfl, rfl, rfl, ?_, hV⟩
  show ((putL (someZ 1) [keyV 5, keyV 6] 1).getD 2 0 == keyV 5) = true
  rw [hg]
  simp
set_option maxHeartbeats 400000 in
theorem vknown_ok : FnO 20 [] (.d (.v (.bool true))) := by
  refine fnA (E := envW5) Try.func20 Try.ntmps20 ?_
  obtain ⟨fA0, fA7, fB0, fB1, fB2, fB3⟩ := known_facts
  refine agom ?_; (try with_reducible exact True.intro)
  exact congrArg (fun b => Res.d (.v (.bool b))) fB3
noncomputable def envW6 : EnvX := envW5.add 20 knownS (knownS_ok vknown_ok) ⟨_, Try.func20, by kernel_rfl, by kernel_rfl⟩
end Go.Proofs.Ytkeabmnmeheeiaa
