/-
  Boxes, as the machine without memory reckons them: streams laid over bytes.
-/
import Derived.Test.YtegjkfaokpjojaaGreatDoorJ31
namespace Go.Proofs.YtegjkfaokpjojaaGreatDoor
set_option maxRecDepth 100000
open Go.RowKit Pm
set_option linter.unusedVariables false
set_option linter.unusedSimpArgs false
attribute [local irreducible] condK LoopA regA powI scal mulI isI fourB deriveW numB

/-- the stretch of the stream that is held behind so many steps -/
def heldS (s : List UInt8) (k : Nat) : List UInt8 := if k = 0 then List.replicate 32 0 else streamW s ((k - 1) / 32)
theorem heldS_same (s : List UInt8) (k : Nat) (h : ¬ k % 32 = 0) : heldS s k = streamW s (k / 32) := by
  unfold heldS; rw [if_neg (by omega), show (k - 1) / 32 = k / 32 by omega]
theorem heldS_next (s : List UInt8) (k : Nat) : heldS s (k + 1) = streamW s (k / 32) := by
  unfold heldS; rw [if_neg (by omega), Nat.add_sub_cancel]
theorem tdivS (k : Nat) : Int.tdiv (k : Int) 32 = ((k / 32 : Nat) : Int) := by rw [Int.tdiv_eq_ediv_of_nonneg (by omega)]; omega
theorem tmodS (k : Nat) : Int.tmod (k : Int) 32 = ((k % 32 : Nat) : Int) := by rw [Int.tmod_eq_emod_of_nonneg (by omega)]; omega
theorem stream_eq (s : List UInt8) (k : Nat) : deriveW s (sb ⟨#[115, 116, 114, 101, 97, 109]⟩) (fourB ((k / 32 : Nat) : Int)) = streamW s (k / 32) := rfl
theorem flat_rep (n : Nat) : (List.replicate n [(0 : UInt8)]).flatten = List.replicate n 0 := by
  induction n with
  | zero => rfl
  | succ n ih => rw [List.replicate_succ, List.flatten_cons, ih]; rfl
theorem xor_bd (a b : UInt8) : 0 ≤ bits .xor .u8 (Bt a) (Bt b) ∧ bits .xor .u8 (Bt a) (Bt b) < 256 ∧ UInt8.ofNat (bits .xor .u8 (Bt a) (Bt b)).toNat = a ^^^ b := by
  rw [Bt_xor]
  have := UInt8.toNat_lt (a ^^^ b)
  unfold Bt
  refine ⟨by omega, by omega, ?_⟩
  rw [Int.toNat_natCast, UInt8.ofNat_toNat]
theorem xorW_take (s p : List UInt8) (k : Nat) (h : k < p.length) : (xorW s p).take (k + 1) = (xorW s p).take k ++ [p.getD k 0 ^^^ (streamW s (k / 32)).getD (k % 32) 0] := by
  have hl : k < (xorW s p).length := by rw [xorW_length]; exact h
  rw [List.take_succ_eq_append_getElem hl]
  have h4 := xorW_get s p k h
  rw [List.getElem?_eq_getElem hl] at h4
  rw [Option.some.inj h4, List.getD_eq_getElem?_getD (l := p), List.getElem?_eq_getElem h]
  rfl
theorem zeros_bytes (n : Nat) : zerosK n tiByte.zero = [.bytes n (List.replicate n 0)] := by
  show [Seg.bytes (n * 1) (List.replicate n [(0 : UInt8)]).flatten] = _
  rw [Nat.mul_one, flat_rep]
set_option maxHeartbeats 1000000 in
theorem veil_fn (s p : List UInt8) (hp : p.length ≤ 100000) : FnO 135 [.agg [.bytes 32 s], .row p.length [.bytes p.length p]] (.o 5 1 p.length [.bytes p.length (xorW s p)]) := by
  refine fnA (E := envBf) Tryz.func135 Tryz.ntmps135 ?_
  refine agow ?_; (try with_reducible exact True.intro)
  refine StopL.mk (loop_forG [2, 5, 6, 12, 13, 14] [0, 1, 2] p.length (fun j => ⟨[.dead, .dead, .ptr 0 0, .dead, .dead, .own 1 p.length, .ptr 2 0, .dead, .dead, .dead, .dead, .dead, .d (.row p.length [.bytes p.length p]), .d (.v (.int .i64 p.length)), .d (.v (.int .i64 (j : Nat))), .dead, .dead, .dead, .dead, .dead, .dead, .dead, .dead, .dead, .dead, .dead, .dead, .dead, .dead, .dead, .dead, .dead, .dead, .dead, .dead, .dead, .dead, .dead, .dead], [some (.var [.bytes 32 s]), some (.sl 5 1 p.length [.bytes p.length (partX s p j)]), some (.var [.bytes 32 (heldS s j)])]⟩) ?_ (h2 := by rw [zeros_bytes, partX_zero]; rfl))
  intro j hj hl
  by_cases h : j < p.length
  · have h1 : (j : Int) < (p.length : Int) := by omega
    have hm := tmodS j
    have hd := tdivS j
    have hst := stream_eq s j
    have hnx := heldS_next s j
    obtain ⟨x0, x1, x2⟩ := xor_bd (p.getD j 0) ((streamW s (j / 32)).getD (j % 32) 0)
    have hps := partX_set s p j h
    have hb1 : ((j % 32 : Nat) : Int) < 32 := by omega
    have hgp : p[j] = p.getD j 0 := by rw [List.getD_eq_getElem?_getD, List.getElem?_eq_getElem h]; rfl
    rw [hgp] at hps
    obtain ⟨N, hN⟩ : ∃ N, p.length = N + 1 := ⟨p.length - 1, by omega⟩
    by_cases h3 : j % 32 = 0
    · have e : ((j : Int).tmod 32 == 0) = true := by rw [hm, h3]; rfl
      rw [hN] at hl h1 ⊢
      refine agow ?_; (try with_reducible exact True.intro)
      rw [hd, hst, hm, Int.toNat_natCast]
      refine agow ?_; (try with_reducible exact True.intro)
      refine hl.go (hN ▸ h) [2, 5, 6, 12, 13, 14] [0, 1, 2] ?_
      show gather _ _ _ = St.mk _ _
      rw [← hps, ← x2, hnx]
      rfl
    · have e : ((j : Int).tmod 32 == 0) = false := by rw [hm]; simp; omega
      have hh := heldS_same s j h3
      rw [hN] at hl h1 ⊢
      refine agow ?_; (try with_reducible exact True.intro)
      rw [hh, hm, Int.toNat_natCast]
      refine agow ?_; (try with_reducible exact True.intro)
      refine hl.go (hN ▸ h) [2, 5, 6, 12, 13, 14] [0, 1, 2] ?_
      show gather _ _ _ = St.mk _ _
      rw [← hps, ← x2, hnx]
      rfl
  · obtain rfl : j = p.length := by omega
    have h1 : ¬ (p.length : Int) < (p.length : Int) := by omega
    rw [partX_all]
    refine agow ?_; (try with_reducible exact True.intro)
set_option maxHeartbeats 1000000 in
theorem rmix_fn (s p : List UInt8) (hp : p.length ≤ 100000) : FnO 106 [.agg [.bytes 32 s], .row p.length [.bytes p.length p]] (.o 5 1 p.length [.bytes p.length (xorW s p)]) := by
  refine fnA (E := envBf) Tryz.func106 Tryz.ntmps106 ?_
  refine agow ?_; (try with_reducible exact True.intro)
  refine StopL.mk (loop_forN [1, 2, 5, 6, 7] [0, 1, 2] 5 5 1 [.bytes 0 []] p.length (fun j => ⟨[.dead, .d (.row p.length [.bytes p.length p]), .ptr 0 0, .dead, .dead, .own 2 j, .ptr 1 0, .d (.v (.int .i64 (j : Nat))), .dead, .dead, .dead, .dead, .dead, .dead, .dead, .dead, .dead, .dead, .dead, .dead, .dead, .dead, .dead, .dead, .dead, .dead, .dead, .dead, .dead, .dead, .dead, .dead, .dead, .dead, .dead, .dead], [some (.var [.bytes 32 s]), some (.var [.bytes 32 (heldS s j)]), some (.sl 5 1 j [.bytes j ((xorW s p).take j)])]⟩) ?_ (h2 := by rw [List.take_zero]; rfl))
  intro j hj hl
  by_cases h : j < p.length
  · have h1 : (j : Int) < (p.length : Int) := by omega
    have hm := tmodS j
    have hd := tdivS j
    have hst := stream_eq s j
    have hnx := heldS_next s j
    have hf4 : (fourB ((j / 32 : Nat) : Int)).length = 4 := by unfold fourB; rfl
    obtain ⟨x0, x1, x2⟩ := xor_bd (p.getD j 0) ((streamW s (j / 32)).getD (j % 32) 0)
    have hps := xorW_take s p j h
    have hb1 : ((j % 32 : Nat) : Int) < 32 := by omega
    by_cases h3 : j % 32 = 0
    · have e : ((j : Int).tmod 32 == 0) = true := by rw [hm, h3]; rfl
      rw [← hd] at hf4
      refine agow ?_; (try with_reducible exact True.intro)
      rw [hd, hst, hm, Int.toNat_natCast]
      refine agow ?_; (try with_reducible exact True.intro)
      refine hl.go h [1, 2, 5, 6, 7] [0, 1, 2] ?_
      show gather _ _ _ = St.mk _ _
      rw [hps, ← x2, hnx]
      rfl
    · have e : ((j : Int).tmod 32 == 0) = false := by rw [hm]; simp; omega
      have hh := heldS_same s j h3
      refine agow ?_; (try with_reducible exact True.intro)
      rw [hh, hm, Int.toNat_natCast]
      refine agow ?_; (try with_reducible exact True.intro)
      refine hl.go h [1, 2, 5, 6, 7] [0, 1, 2] ?_
      show gather _ _ _ = St.mk _ _
      rw [hps, ← x2, hnx]
      rfl
  · obtain rfl : j = p.length := by omega
    have h1 : ¬ (p.length : Int) < (p.length : Int) := by omega
    rw [List.take_of_length_le (Nat.le_of_eq (xorW_length s p))]
    refine agow ?_; (try with_reducible exact True.intro)
/-- bytes by a sum -/
def row1S (g : List UInt8 → List UInt8 → Res) : List A → (Res → Prop) → Prop
  | [.agg [.bytes 32 h], x], K => rowK x fun p => p.length ≤ 100000 ∧ K (g h p)
  | _, _ => False
theorem row1S_of {f : FuncId} {g : List UInt8 → List UInt8 → Res} (hx : ∀ h p, p.length ≤ 100000 → FnO f [.agg [.bytes 32 h], .row p.length [.bytes p.length p]] (g h p)) : ∀ args K, row1S g args K → ∃ r, FnO f args r ∧ K r := by
  intro args K h
  unfold row1S at h
  split at h
  · obtain ⟨p, ⟨h1, h⟩, hp⟩ := rowK_row h
    refine ⟨_, fun S w vs hG ha => ?_, h⟩
    obtain ⟨v1, v2, rfl, k1, k2⟩ := ra_two ha
    exact hx _ p h1 S w _ hG (.cons k1 (.cons (hp k2) .nil))
  · exact h.elim
noncomputable def envBg : EnvX := envBf.add 135 (row1S fun h p => .d (.row p.length [.bytes p.length (xorW h p)])) (row1S_of fun s p hp => fn_row (veil_fn s p hp)) ⟨_, Tryz.func135, by kernel_rfl, by kernel_rfl⟩
noncomputable def envBh : EnvX := envBg.add 106 (row1S fun h p => .d (.row p.length [.bytes p.length (xorW h p)])) (row1S_of fun s p hp => fn_row (rmix_fn s p hp)) ⟨_, Tryz.func106, by kernel_rfl, by kernel_rfl⟩
abbrev FnFO (f : FuncId) (args : List A) (res : Res) : Prop := FnF Tryz.prog gTab f args res
def sealR (y x : Int) (p : List UInt8) : List A := [.row (sealB y x p).length [.bytes (sealB y x p).length (sealB y x p)], .v (.int .i64 (sealE y p))]
theorem sealOk_no {y : Int} {p : List UInt8} (h : ¬ (isI y = true ∧ p.length ≤ 200)) : sealOk y p = false := by
  unfold sealOk
  cases h1 : isI y with
  | false => rfl
  | true => rw [Bool.true_and]; exact decide_eq_false fun h2 => h ⟨h1, h2⟩
theorem seal_nil {f : FuncId} {args : List A} {y x : Int} {p : List UInt8} (hs : sealOk y p = false) (h : FnFO f args (.t [.v (.slice none 0 0), .v (.int .i64 1)])) : FnFO f args (.t (sealR y x p)) := by
  unfold sealR sealB sealE
  rw [hs]
  intro S w vs hG ha
  refine (h S w vs hG ha).mono ?_
  rintro e w' ⟨v, h1, ⟨vs', h2, h3⟩, h4⟩
  refine ⟨v, h1, ⟨vs', h2, ?_⟩, h4⟩
  cases h3 with
  | cons k r =>
    rw [RA.plain k]
    exact .cons (.row (cs := []) (.ofBytes rfl rfl) (Nat.le_refl _) (Nat.zero_le _) (fun _ => rfl) (.inl rfl)) r
theorem boxW_length (y x : Int) (p : List UInt8) : (boxW y x p).length = 12 + p.length := by
  unfold boxW
  rw [List.length_append, List.length_append, tagW_length, xorW_length, show (fourB (powI 4 x)).length = 4 by unfold fourB; rfl]
theorem seal_yes {y x : Int} {p : List UInt8} (h : isI y = true) (h2 : p.length ≤ 200) : sealB y x p = boxW y x p ∧ sealE y p = 0 := by
  have hs : sealOk y p = true := by unfold sealOk; rw [h, decide_eq_true h2]; rfl
  unfold sealB sealE
  rw [hs]
  exact ⟨rfl, rfl⟩
attribute [local irreducible] xorW tagW
set_option maxHeartbeats 1000000 in
theorem seal_fn (y : Int) (d p : List UInt8) (hp : p.length ≤ 1000000) : FnFO 78 [.v (.int .i64 y), .agg [.bytes 32 d], .row p.length [.bytes p.length p]] (.t (sealR y (scal d) p)) := by
  by_cases hy : isI y = true
  · by_cases hl : p.length ≤ 200
    · have hn : ¬ (p.length : Int) > 200 := by omega
      have hb := scal_bd d
      have hb0 : 0 ≤ scal d := by omega
      have hb1 : scal d < 1073741789 := hb.2
      have e := boxW_length y (scal d) p
      have hx := xorW_length (shW y (scal d)) p
      have ht := tagW_length (shW y (scal d)) (fourB (powI 4 (scal d))) (xorW (shW y (scal d)) p)
      have hf : (fourB (powI 4 (scal d))).length = 4 := by unfold fourB; rfl
      obtain ⟨e1, e2⟩ := seal_yes (x := scal d) hy hl
      unfold sealR
      rw [e1, e2]
      clear e1 e2
      refine fnAF (E := envBh) Tryz.func78 Tryz.ntmps78 ?_
      refine agow ?_; (try with_reducible exact True.intro)
      unfold boxW
      rw [List.append_assoc]
    · refine seal_nil (sealOk_no fun h => hl h.2) ?_
      have hn : (p.length : Int) > 200 := by omega
      clear hl
      refine fnAF (E := envBh) Tryz.func78 Tryz.ntmps78 ?_
      refine agow ?_; (try with_reducible exact True.intro)
  · refine seal_nil (sealOk_no fun h => hy h.1) ?_
    have hy := Bool.eq_false_iff.2 hy
    refine fnAF (E := envBh) Tryz.func78 Tryz.ntmps78 ?_
    refine agow ?_; (try with_reducible exact True.intro)
set_option maxHeartbeats 1000000 in
theorem rseal_fn (y : Int) (d p : List UInt8) (hp : p.length ≤ 1000000) : FnFO 47 [.v (.int .i64 y), .agg [.bytes 32 d], .row p.length [.bytes p.length p]] (.t (sealR y (scal d) p)) := by
  by_cases hy : isI y = true
  · by_cases hl : p.length ≤ 200
    · have hn : ¬ (p.length : Int) > 200 := by omega
      have hb := scal_bd d
      have hb0 : 0 ≤ scal d := by omega
      have hb1 : scal d < 1073741789 := hb.2
      have e := boxW_length y (scal d) p
      have hx := xorW_length (shW y (scal d)) p
      have ht := tagW_length (shW y (scal d)) (fourB (powI 4 (scal d))) (xorW (shW y (scal d)) p)
      have hf : (fourB (powI 4 (scal d))).length = 4 := by unfold fourB; rfl
      obtain ⟨e1, e2⟩ := seal_yes (x := scal d) hy hl
      unfold sealR
      rw [e1, e2]
      clear e1 e2
      refine fnAF (E := envBh) Tryz.func47 Tryz.ntmps47 ?_
      refine agow ?_; (try with_reducible exact True.intro)
      unfold boxW
      rw [List.append_assoc]
    · refine seal_nil (sealOk_no fun h => hl h.2) ?_
      have hn : (p.length : Int) > 200 := by omega
      clear hl
      refine fnAF (E := envBh) Tryz.func47 Tryz.ntmps47 ?_
      refine agow ?_; (try with_reducible exact True.intro)
  · refine seal_nil (sealOk_no fun h => hy h.1) ?_
    have hy := Bool.eq_false_iff.2 hy
    refine fnAF (E := envBh) Tryz.func47 Tryz.ntmps47 ?_
    refine agow ?_; (try with_reducible exact True.intro)
def sealS : List A → (Res → Prop) → Prop
  | [.v (.int .i64 y), .agg [.bytes 32 d], x], K => rowK x fun p => p.length ≤ 1000000 ∧ K (.t (sealR y (scal d) p))
  | _, _ => False
theorem sealS_of {f : FuncId} (hx : ∀ y d p, p.length ≤ 1000000 → FnFO f [.v (.int .i64 y), .agg [.bytes 32 d], .row p.length [.bytes p.length p]] (.t (sealR y (scal d) p))) : ∀ args K, sealS args K → ∃ r, FnO f args r ∧ FnFO f args r ∧ K r := by
  intro args K h
  unfold sealS at h
  split at h
  · obtain ⟨p, ⟨h1, h⟩, hp⟩ := rowK_row h
    refine ⟨_, fun S w vs hG ha => ?_, fun S w vs hG ha => ?_, h⟩
    · obtain ⟨v1, v2, v3, rfl, k1, k2, k3⟩ := ra_three ha
      exact FnF.okT (hx _ _ p h1) S w _ hG (.cons k1 (.cons k2 (.cons (hp k3) .nil)))
    · obtain ⟨v1, v2, v3, rfl, k1, k2, k3⟩ := ra_three ha
      exact hx _ _ p h1 S w _ hG (.cons k1 (.cons k2 (.cons (hp k3) .nil)))
  · exact h.elim
noncomputable def envBi : EnvX := envBh.addF 78 sealS (sealS_of seal_fn) ⟨_, Tryz.func78, by kernel_rfl, by kernel_rfl⟩
noncomputable def envBj : EnvX := envBi.addF 47 sealS (sealS_of rseal_fn) ⟨_, Tryz.func47, by kernel_rfl, by kernel_rfl⟩
end Go.Proofs.YtegjkfaokpjojaaGreatDoor

/-
  Boxes, as the machine without memory reckons them: opened.
-/
namespace Go.Proofs.YtegjkfaokpjojaaGreatDoor
set_option maxRecDepth 100000
open Go.RowKit Pm
set_option linter.unusedVariables false
set_option linter.unusedSimpArgs false
attribute [local irreducible] condK LoopA regA powI scal mulI isI fourB deriveW numB xorW tagW shW

noncomputable def envBk : EnvX := envBj
noncomputable def envBl : EnvX := envBk
noncomputable def envBm : EnvX := envBl
noncomputable def envBn : EnvX := envBm
end Go.Proofs.YtegjkfaokpjojaaGreatDoor
