/-
  Readers of bytes: a welcome.
-/
import Derived.Test.YtbgdlggobbiibaaI18
import Derived.Test.YtbgdlggobbiibaaWl1
namespace Go.Proofs.Ytbgdlggobbiibaa
set_option maxRecDepth 100000
open Go.RowKit Pm
set_option linter.unusedVariables false
set_option linter.unusedSimpArgs false
attribute [local irreducible] condK LoopA regA numB numsB boxB tkV tkN numT isNum nmV nmN cntV cntN hashV boxV boxN nmsV nmsN bxsV bxsN

/-- a byte that is 0 or 1 -/
def flV (R : Rd) : Bool := Bt ((tkV 1 R).getD 0 0) == 1
def flN (R : Rd) : Rd := if (tkN 1 R).bad = false ∧ ((tkV 1 R).getD 0 0).toNat ≤ 1 then tkN 1 R else ⟨(tkN 1 R).bs, true⟩
def flsV : Nat → Rd → List Bool
  | 0, _ => []
  | k + 1, R => flV R :: flsV k (flN R)
def flsN : Nat → Rd → Rd
  | 0, R => R
  | k + 1, R => flsN k (flN R)
theorem flsV_length : ∀ (k : Nat) (R : Rd), (flsV k R).length = k
  | 0, _ => rfl
  | k + 1, R => by simp [flsV, flsV_length k]
theorem flsN_add : ∀ (a b : Nat) (R : Rd), flsN (a + b) R = flsN b (flsN a R)
  | 0, b, R => by rw [Nat.zero_add]; rfl
  | a + 1, b, R => by rw [Nat.succ_add]; exact flsN_add a b (flN R)
theorem flsV_add : ∀ (a b : Nat) (R : Rd), flsV (a + b) R = flsV a R ++ flsV b (flsN a R)
  | 0, b, R => by rw [Nat.zero_add]; rfl
  | a + 1, b, R => by rw [Nat.succ_add]; show flV R :: flsV (a + b) (flN R) = _; rw [flsV_add a b]; rfl
theorem flN_len (R : Rd) : (flN R).bs.length ≤ R.bs.length := by
  unfold flN; split
  · exact tkN_len 1 R
  · exact tkN_len 1 R
theorem flsN_len : ∀ (k : Nat) (R : Rd), (flsN k R).bs.length ≤ R.bs.length
  | 0, R => Nat.le_refl _
  | k + 1, R => Nat.le_trans (flsN_len k (flN R)) (flN_len R)
theorem flN_bad {R : Rd} (h : R.bad = true) : (flN R).bad = true := by
  unfold flN; split
  · exact tkN_bad h
  · rfl
theorem flsN_bad : ∀ {k : Nat} {R : Rd}, R.bad = true → (flsN k R).bad = true
  | 0, _, h => h
  | k + 1, _, h => flsN_bad (k := k) (flN_bad h)
theorem one_byte {b : List UInt8} (h : b.length = 1) : b = [b.getD 0 0] := by
  match b, h with
  | [x], _ => rfl
/-- a flag that was read is what is told of it -/
theorem flN_back {R : Rd} (h : (flN R).bad = false) : R.bad = false ∧ R.bs = (if flV R = true then 1 else 0) :: (flN R).bs := by
  unfold flN at *
  split at h
  · next h1 =>
    rw [if_pos h1]
    obtain ⟨h2, h3, h4⟩ := tkN_back h
    refine ⟨h2, ?_⟩
    have h5 := one_byte h4
    have h6 : (tkV 1 R).getD 0 0 = if flV R = true then 1 else 0 := by
      unfold flV Bt
      have h7 := h1.2
      generalize (tkV 1 R).getD 0 0 = x at *
      split
      · next h8 => simp only [beq_iff_eq] at h8; exact byte_ext (by show x.toNat = 1; omega)
      · next h8 => simp only [beq_iff_eq] at h8; exact byte_ext (by show x.toNat = 0; omega)
    rw [← h6]
    show R.bs = [(tkV 1 R).getD 0 0] ++ _
    rw [← h5]; exact h3
  · cases h
theorem flsN_back : ∀ {k : Nat} {R : Rd}, (flsN k R).bad = false → R.bad = false ∧ R.bs = flagsB (flsV k R) ++ (flsN k R).bs
  | 0, R, h => ⟨h, rfl⟩
  | k + 1, R, h => by
    obtain ⟨h1, h2⟩ := flsN_back (k := k) (R := flN R) h
    obtain ⟨h4, h5⟩ := flN_back h1
    refine ⟨h4, ?_⟩
    rw [h5, h2]
    rfl
/-- a flag that was written is read as it was -/
theorem fl_app {b : Bool} {t : List UInt8} : flV ⟨(if b = true then 1 else 0) :: t, false⟩ = b ∧ flN ⟨(if b = true then 1 else 0) :: t, false⟩ = ⟨t, false⟩ := by
  obtain ⟨h1, h2⟩ := tk_app (n := 1) (p := [if b = true then (1 : UInt8) else 0]) (t := t) rfl
  have h1' : tkV 1 ⟨(if b = true then 1 else 0) :: t, false⟩ = [if b = true then (1 : UInt8) else 0] := h1
  have h2' : tkN 1 ⟨(if b = true then 1 else 0) :: t, false⟩ = ⟨t, false⟩ := h2
  unfold flV flN
  rw [h1', h2']
  cases b with
  | true => exact ⟨by decide, if_pos ⟨rfl, by decide⟩⟩
  | false => exact ⟨by decide, if_pos ⟨rfl, by decide⟩⟩
theorem fls_app : ∀ {ad : List Bool} {t : List UInt8}, flsV ad.length ⟨flagsB ad ++ t, false⟩ = ad ∧ flsN ad.length ⟨flagsB ad ++ t, false⟩ = ⟨t, false⟩
  | [], t => ⟨rfl, rfl⟩
  | b :: ad, t => by
    obtain ⟨h1, h2⟩ := fl_app (b := b) (t := flagsB ad ++ t)
    obtain ⟨h3, h4⟩ := fls_app (ad := ad) (t := t)
    have e : flagsB (b :: ad) ++ t = (if b = true then 1 else 0) :: (flagsB ad ++ t) := rfl
    rw [e]
    show flV _ :: flsV ad.length (flN _) = _ ∧ flsN ad.length (flN _) = _
    rw [h1, h2, h3, h4]
    exact ⟨rfl, rfl⟩
theorem set_app {α : Type} {X : List α} {n m : Nat} {z v : α} (h : X.length = n) : (X ++ List.replicate (m + 1) z).set n v = (X ++ [v]) ++ List.replicate m z := by
  subst h
  rw [List.set_append_right _ _ (Nat.le_refl _), Nat.sub_self, List.replicate_succ, List.set_cons_zero, List.append_assoc]
  rfl
theorem flag_ok (R : Rd) (hR : R.bs.length ≤ 1000000) : FnMO 72 0 (.var (rdL R)) [] (.d (.v (.bool (flV R)))) (.var (rdL (flN R))) := by
  refine fnMA (E := envRj) Try.func72 Try.ntmps72 ?_
  cases hb : (tkN 1 R).bad with
  | true =>
    have e : flN R = ⟨(tkN 1 R).bs, true⟩ := by unfold flN; rw [if_neg (fun h => by rw [hb] at h; cases h.1)]
    have h0 : tkV 1 R = [] := by
      unfold tkV; unfold tkN at hb
      split
      · next h1 => rw [if_pos h1] at hb; cases hb
      · rfl
    have e2 : flV R = false := by unfold flV; rw [h0]; decide
    rw [e, e2]
    clear e e2 h0
    refine agow ?_; (try with_reducible exact True.intro)
  | false =>
    have hl := (tkN_back hb).2.2
    have e2 : flV R = (Bt ((tkV 1 R).getD 0 0) == 1) := rfl
    by_cases h1 : ((tkV 1 R).getD 0 0).toNat ≤ 1
    · have e : flN R = tkN 1 R := by unfold flN; rw [if_pos ⟨hb, h1⟩]
      have h2 : decide (Bt ((tkV 1 R).getD 0 0) > 1) = false := by unfold Bt; rw [decide_eq_false_iff_not]; omega
      rw [e, e2]
      clear e e2 h1
      refine agow ?_; (try with_reducible exact True.intro)
    · have e : flN R = ⟨(tkN 1 R).bs, true⟩ := by unfold flN; rw [if_neg (fun h => h1 h.2)]
      have h2 : Bt ((tkV 1 R).getD 0 0) > 1 := by unfold Bt; omega
      have e3 : flV R = false := by rw [e2]; unfold Bt; rw [beq_eq_false_iff_ne]; omega
      rw [e, e3]
      clear e e2 e3 h1
      refine agow ?_; (try with_reducible exact True.intro)
noncomputable def envX0 : EnvX := envRj.addM 72 (rdM (fun R => .d (.v (.bool (flV R)))) flN) (rdM_of flag_ok) ⟨_, Try.func72, by kernel_rfl, by kernel_rfl⟩
def va (R : Rd) : Rd := nmN (nmN R)
def vc (R : Rd) : Rd := flsN 8 (va R)
def vd (R : Rd) : Rd := tkN 32 (vc R)
def ve (R : Rd) : Rd := nmsN 31 (vd R)
def vwZ : List Seg := vSegs 0 (List.replicate 31 0) (List.replicate 8 false) 0 (List.replicate 32 0)
def vwSegs (R : Rd) : List Seg := vSegs (nmV R) (nmsV 31 (vd R)) (flsV 8 (va R)) (nmV (nmN R)) (hashV (vc R))
theorem flsN_zero (R : Rd) : flsN 0 R = R := by unfold flsN; rfl
theorem flsV_zero (R : Rd) : flsV 0 R = [] := by unfold flsV; rfl
theorem flsN_one (j : Nat) (R : Rd) : flsN (j + 1) R = flN (flsN j R) := by
  rw [flsN_add]; rfl
theorem flsV_one (j : Nat) (R : Rd) : flsV (j + 1) R = flsV j R ++ [flV (flsN j R)] := by
  rw [flsV_add]; rfl
theorem nmsN_one (j : Nat) (R : Rd) : nmsN (j + 1) R = nmN (nmsN j R) := by
  rw [nmsN_add]
  generalize nmsN j R = Q
  unfold nmsN
  exact nmsN_zero _
theorem nmsV_one (j : Nat) (R : Rd) : nmsV (j + 1) R = nmsV j R ++ [nmV (nmsN j R)] := by
  rw [nmsV_add]
  generalize nmsN j R = Q
  show _ ++ nmsV (0 + 1) Q = _
  unfold nmsV
  rw [nmsV_zero]
theorem nmsN_two (j : Nat) (R : Rd) : nmsN (j + 2) R = nmN (nmN (nmsN j R)) := by rw [show j + 2 = j + 1 + 1 from rfl, nmsN_one, nmsN_one]
theorem nmsV_two (j : Nat) (R : Rd) : nmsV (j + 2) R = nmsV j R ++ [nmV (nmsN j R), nmV (nmN (nmsN j R))] := by rw [show j + 2 = j + 1 + 1 from rfl, nmsV_one, nmsV_one, nmsN_one, List.append_assoc]; rfl
theorem wleaf2 (R : Rd) (hR : R.bs.length ≤ 1000000) : FnMO 63 0 (.var (rdL R)) [] (.d (.agg [.ints .i64 2 [nmV R, nmV (nmN R)]])) (.var (rdL (nmN (nmN R)))) := by
  have h := wleaf_ok R hR
  unfold numsRes at h
  rw [nmsV_two 0 R, nmsN_two 0 R, nmsV_zero, nmsN_zero] at h
  exact h
noncomputable def envX1 : EnvX := envX0.addM 63 (rdM (fun R => .d (.agg [.ints .i64 2 [nmV R, nmV (nmN R)]])) (fun R => nmN (nmN R))) (rdM_of wleaf2) ⟨_, Try.func63, by kernel_rfl, by kernel_rfl⟩
theorem over_app {α : Type} {X : List α} {n m : Nat} {z a b : α} (h : X.length = n) : (X ++ List.replicate (m + 2) z).take n ++ ([a, b] ++ (X ++ List.replicate (m + 2) z).drop (n + 2)) = (X ++ [a, b]) ++ List.replicate m z := by
  subst h
  rw [List.take_left' rfl, List.drop_append, List.drop_eq_nil_of_le (by omega), List.nil_append, show X.length + 2 - X.length = 2 by omega, List.replicate_succ, List.replicate_succ]
  simp
attribute [local irreducible] flV flN flsV flsN
set_option maxHeartbeats 4000000 in
theorem wview_rd (R : Rd) (hR : R.bs.length ≤ 1000000) : FnMO 52 0 (.var (rdL R)) [] (.d (.agg (vwSegs R))) (.var (rdL (ve R))) := by
  refine fnMA (E := envX1) Try.func52 Try.ntmps52 ?_
  have l1 := nmN_len R
  have l2 : (va R).bs.length ≤ 1000000 := by have : (va R).bs.length ≤ (nmN R).bs.length := nmN_len _; omega
  refine agow ?_; (try with_reducible exact True.intro)
  refine StopL.mk (loop_forG [0, 2, 3, 13] [0, 1, 2] 8 (fun j => ⟨[.ptr 0 0, .dead, .ptr 1 0, .ptr 2 0, .dead, .dead, .dead, .dead, .dead, .dead, .dead, .dead, .dead, .d (.v (.int .i64 (j : Nat))), .dead, .dead, .dead, .dead, .dead, .dead, .dead, .dead, .dead, .dead, .dead, .dead, .dead, .dead, .dead, .dead, .dead, .dead, .dead, .dead, .dead, .dead, .dead, .dead, .dead, .dead, .dead, .dead, .dead, .dead, .dead, .dead], [some (.var (rdL (flsN j (va R)))), some (.var vwZ), some (.var (vSegs (nmV R) (List.replicate 31 0) (flsV j (va R) ++ List.replicate (8 - j) false) (nmV (nmN R)) (List.replicate 32 0)))]⟩) ?_ (h2 := by rw [flsN_zero, flsV_zero]; exact rfl))
  intro j hj hl
  by_cases h : j < 8
  · have h1 : (j : Int) < 8 := by omega
    have h2 : (flsN j (va R)).bs.length ≤ 1000000 := by have := flsN_len j (va R); omega
    refine agow ?_; (try with_reducible exact True.intro)
    refine hl.go h [0, 2, 3, 13] [0, 1, 2] ?_
    rw [flsN_one, flsV_one, ← set_app (flsV_length j (va R)), show 8 - (j + 1) + 1 = 8 - j by omega]
    rfl
  obtain rfl : j = 8 := by omega
  rw [show flsV 8 (va R) ++ List.replicate (8 - 8) false = flsV 8 (va R) by simp]
  have l3 : (vc R).bs.length ≤ 1000000 := by have : (vc R).bs.length ≤ (va R).bs.length := flsN_len _ _; omega
  have l3' : (flsN 8 (va R)).bs.length ≤ 1000000 := l3
  clear hl h hj
  refine agow ?_; (try with_reducible exact True.intro)
  have l4 : (vd R).bs.length ≤ 1000000 := by have : (vd R).bs.length ≤ (vc R).bs.length := tkN_len _ _; omega
  refine StopL.mk (loop_forG [0, 2, 3, 25] [0, 1, 2] 8 (fun j => ⟨[.ptr 0 0, .dead, .ptr 1 0, .ptr 2 0, .dead, .dead, .dead, .dead, .dead, .dead, .dead, .dead, .dead, .dead, .dead, .dead, .dead, .dead, .dead, .dead, .dead, .dead, .dead, .dead, .dead, .d (.v (.int .i64 (j : Nat))), .dead, .dead, .dead, .dead, .dead, .dead, .dead, .dead, .dead, .dead, .dead, .dead, .dead, .dead, .dead, .dead, .dead, .dead, .dead, .dead], [some (.var (rdL (nmsN (j * 2) (vd R)))), some (.var vwZ), some (.var (vSegs (nmV R) (nmsV (j * 2) (vd R) ++ List.replicate (31 - j * 2) 0) (flsV 8 (va R)) (nmV (nmN R)) (hashV (vc R))))]⟩) ?_ (h2 := by rw [Nat.zero_mul, nmsN_zero, nmsV_zero]; exact rfl))
  intro j hj hl
  by_cases h : j < 8
  · have h1 : (j : Int) < 8 := by omega
    have h2 : (nmsN (j * 2) (vd R)).bs.length ≤ 1000000 := by have := nmsN_len (j * 2) (vd R); omega
    refine agow ?_; (try with_reducible exact True.intro)
    refine hl.go h [0, 2, 3, 25] [0, 1, 2] ?_
    rw [show (j + 1) * 2 = j * 2 + 2 by omega, nmsN_two, nmsV_two, ← over_app (nmsV_length (j * 2) (vd R)), show 31 - (j * 2 + 2) + 2 = 31 - j * 2 by omega]
    rfl
  obtain rfl : j = 8 := by omega
  clear hl h hj
  refine agow ?_; (try with_reducible exact True.intro)
  refine StopL.mk (loop_forG [0, 2, 3, 35] [0, 1, 2] 15 (fun j => ⟨[.ptr 0 0, .dead, .ptr 1 0, .ptr 2 0, .dead, .dead, .dead, .dead, .dead, .dead, .dead, .dead, .dead, .dead, .dead, .dead, .dead, .dead, .dead, .dead, .dead, .dead, .dead, .dead, .dead, .dead, .dead, .dead, .dead, .dead, .dead, .dead, .dead, .dead, .dead, .d (.v (.int .i64 (j : Nat))), .dead, .dead, .dead, .dead, .dead, .dead, .dead, .dead, .dead, .dead], [some (.var (rdL (nmsN (16 + j) (vd R)))), some (.var vwZ), some (.var (vSegs (nmV R) (nmsV (16 + j) (vd R) ++ List.replicate (15 - j) 0) (flsV 8 (va R)) (nmV (nmN R)) (hashV (vc R))))]⟩) ?_)
  intro j hj hl
  by_cases h : j < 15
  · have h1 : (j : Int) < 15 := by omega
    have h2 : (nmsN (16 + j) (vd R)).bs.length ≤ 1000000 := by have := nmsN_len (16 + j) (vd R); omega
    refine agow ?_; (try with_reducible exact True.intro)
    refine hl.go h [0, 2, 3, 35] [0, 1, 2] ?_
    rw [show 16 + (j + 1) = 16 + j + 1 by omega, nmsN_one, nmsV_one, ← set_app (nmsV_length (16 + j) (vd R)), show 15 - (j + 1) + 1 = 15 - j by omega]
    rfl
  obtain rfl : j = 15 := by omega
  rw [show nmsV (16 + 15) (vd R) ++ List.replicate (15 - 15) 0 = nmsV 31 (vd R) by simp]
  clear hl h hj
  refine agow ?_; (try with_reducible exact True.intro)
  rfl
noncomputable def envX2 : EnvX := envX1.addM 52 (rdM (fun R => .d (.agg (vwSegs R))) ve) (rdM_of wview_rd) ⟨_, Try.func52, by kernel_rfl, by kernel_rfl⟩
def vg (R : Rd) : Rd := ve (nmN (nmN R))
def wlN2 (R : Rd) : Rd := tkN 32 (boxN 300 (vg R))
def wlRd (R : Rd) : WS := ⟨nmV R, nmV (nmN R), nmV (va R), nmsV 31 (vd (va R)), flsV 8 (va (va R)), nmV (nmN (va R)), hashV (vc (va R)), boxV 300 (vg R), hashV (boxN 300 (vg R))⟩
theorem ve_len (R : Rd) : (ve R).bs.length ≤ R.bs.length := by
  have h1 : (ve R).bs.length ≤ (vd R).bs.length := nmsN_len _ _
  have h2 : (vd R).bs.length ≤ (vc R).bs.length := tkN_len _ _
  have h3 : (vc R).bs.length ≤ (va R).bs.length := flsN_len _ _
  have h4 : (va R).bs.length ≤ (nmN R).bs.length := nmN_len _
  have h5 := nmN_len R
  omega
attribute [local irreducible] ve
set_option maxHeartbeats 4000000 in
theorem wwelcome_rd (R : Rd) (hR : R.bs.length ≤ 1000000) : FnMO 21 0 (.var (rdL R)) [] (.d (.agg (wlSegs (wlRd R)))) (.var (rdL (wlN2 R))) := by
  refine fnMA (E := envX2) Try.func21 Try.ntmps21 ?_
  have l1 := nmN_len R
  have l2 := nmN_len (nmN R)
  have l3 := ve_len (nmN (nmN R))
  have l4 := boxN_len 300 (ve (nmN (nmN R)))
  refine agow ?_; (try with_reducible exact True.intro)
  rfl
end Go.Proofs.Ytbgdlggobbiibaa
