/-
  The document's parties: what they hold is told by what the program's hold. Mathematics; no function is named here.
-/
import Derived.Test.YtegjkfaokpjojaaGreatDoorJ35
import Derived.Test.YtegjkfaokpjojaaGreatDoorJ39
namespace Go.Proofs.YtegjkfaokpjojaaGreatDoor
set_option maxRecDepth 100000
open Go.RowKit Pm
set_option linter.unusedVariables false
set_option linter.unusedSimpArgs false

/-- the i-th of fifteen sums, written -/
def sPut (s : List UInt8) (i : Nat) (h : List UInt8) : List UInt8 := s.take (i * 32) ++ (h ++ s.drop (i * 32 + 32))
/-- the i-th of fifteen sums -/
def blk (s : List UInt8) (i : Nat) : List UInt8 := (s.drop (i * 32)).take 32
theorem z480_len : z480.length = 480 := by unfold z480; simp
theorem z480_blk {j : Nat} (hj : j < 15) : blk z480 j = zB 32 := by
  unfold blk z480
  rw [List.drop_replicate, List.take_replicate, show min 32 (480 - j * 32) = 32 by omega]
theorem sPut_len {s h : List UInt8} {i : Nat} (hs : s.length = 480) (hh : h.length = 32) (hi : i < 15) : (sPut s i h).length = 480 := by
  unfold sPut; simp; omega
theorem sPut_blk {s h : List UInt8} {i j : Nat} (hs : s.length = 480) (hh : h.length = 32) (hi : i < 15) (hj : j < 15) : blk (sPut s i h) j = if j = i then h else blk s j := by
  unfold blk sPut
  have h1 : (s.take (i * 32)).length = i * 32 := by simp; omega
  by_cases e : j = i
  · subst e
    rw [if_pos rfl, List.drop_append_of_le_length (by omega), List.drop_eq_nil_of_le (by omega), List.nil_append, List.take_append_of_le_length (by omega), List.take_of_length_le (by omega)]
  · rw [if_neg e]
    rcases Nat.lt_or_ge j i with h2 | h2
    · rw [List.drop_append_of_le_length (by omega), List.take_append_of_le_length (by simp; omega), List.drop_take, List.take_take, show min 32 (i * 32 - j * 32) = 32 by omega]
    · rw [List.drop_append, List.drop_eq_nil_of_le (by omega), List.nil_append, h1, List.drop_append, List.drop_eq_nil_of_le (by omega), List.nil_append, List.drop_drop, hh]
      congr 2
      omega
/-- fifteen sums are told one by one -/
theorem blk_ext {s t : List UInt8} (hs : s.length = 480) (ht : t.length = 480) (h : ∀ j, j < 15 → blk s j = blk t j) : s = t := by
  apply List.ext_getElem (by omega)
  intro n h1 h2
  have k := h (n / 32) (by omega)
  unfold blk at k
  have k2 := congrArg (fun l => l[n % 32]?) k
  simp only [List.getElem?_take, List.getElem?_drop, if_pos (Nat.mod_lt n (show 32 > 0 by decide))] at k2
  rw [show n / 32 * 32 + n % 32 = n by omega, List.getElem?_eq_getElem h1, List.getElem?_eq_getElem h2] at k2
  exact Option.some.inj k2
theorem sPut_same {s h : List UInt8} {i : Nat} (hs : s.length = 480) (hh : h.length = 32) (hi : i < 15) (e : blk s i = h) : sPut s i h = s := by
  refine blk_ext (sPut_len hs hh hi) hs fun j hj => ?_
  rw [sPut_blk hs hh hi hj]
  split
  · next e2 => rw [e2, e]
  · rfl
def sP (p : PS) : List UInt8 := sPut (sPut (sPut (sPut z480 (2 * p.lf).toNat p.sc) (n1 p.lf) (abK p.ab 0)) (n2 p.lf) (abK p.ab 1)) 7 (abK p.ab 2)
abbrev F15 : List Bool := List.replicate 15 false
def hasP (lf : Int) (a b c : Bool) : List Bool := (((F15.set (2 * lf).toNat true).set (n1 lf) a).set (n2 lf) b).set 7 c
def hasZ (p : PS) : List Bool := hasP p.lf (nodeK p.zs (16 + n1 p.lf)) (nodeK p.zs (16 + n2 p.lf)) (nodeK p.zs 23)
/-- what such a party holds -/
structure XS where
  e : Int
  zs : List Int
  ad : List Bool
  k : Int
  ch : List UInt8
  lf : Int
  x : Int
  y : Int
  s : List UInt8
  has : List Bool
  ep : List UInt8
  ini : List UInt8
/-- the document's party that is alike -/
def xOf (p : PS) : XS := ⟨p.e, p.zs, p.ad, p.k, p.ch, p.lf, scal p.sg, powI 4 (scal p.sg), sP p, hasZ p, p.ep, p.ini⟩
theorem ns_lt {lf : Int} (h0 : 0 ≤ lf) (h1 : lf < 8) : (2 * lf).toNat < 15 ∧ n1 lf < 15 ∧ n2 lf < 15 ∧ (2 * lf).toNat ≠ n1 lf ∧ (2 * lf).toNat ≠ n2 lf ∧ (2 * lf).toNat ≠ 7 ∧ n1 lf ≠ n2 lf ∧ n1 lf ≠ 7 ∧ n2 lf ≠ 7 := by
  unfold n1 n2; omega
theorem sP_blk {p : PS} (h : PInv p) {j : Nat} (hj : j < 15) : blk (sP p) j = if j = 7 then abK p.ab 2 else if j = n2 p.lf then abK p.ab 1 else if j = n1 p.lf then abK p.ab 0 else if j = (2 * p.lf).toNat then p.sc else zB 32 := by
  obtain ⟨k1, k2, k3, _⟩ := ns_lt h.lf0 h.lf1
  have l0 := sPut_len z480_len h.sl k1
  have l1 := sPut_len l0 (abK_len h.bl (show 0 < 3 by decide)) k2
  have l2 := sPut_len l1 (abK_len h.bl (show 1 < 3 by decide)) k3
  unfold sP
  rw [sPut_blk l2 (abK_len h.bl (by decide)) (by decide) hj, sPut_blk l1 (abK_len h.bl (by decide)) k3 hj, sPut_blk l0 (abK_len h.bl (by decide)) k2 hj, sPut_blk z480_len h.sl k1 hj, z480_blk hj]
end Go.Proofs.YtegjkfaokpjojaaGreatDoor

/-
  The document's parties: what they hold; how one begins, exports, enters an epoch.
-/
namespace Go.Proofs.YtegjkfaokpjojaaGreatDoor
set_option maxRecDepth 100000
open Go.RowKit Pm
set_option linter.unusedVariables false
set_option linter.unusedSimpArgs false
attribute [local irreducible] condK LoopA regA powI scal mulI isI fourB deriveW numB numsB bodyB nodeW nextW viewHV doR chkV planL sealB boxD keyZ helD commonI placeI apE doP comE comP nextP joinP upW z480

abbrev xSegs (p : XS) : List Seg := [.ints .i64 1 [p.e], .ints .i64 31 p.zs, .bools 8 p.ad, .ints .i64 1 [p.k], .bytes 32 p.ch, .ints .i64 1 [p.lf], .ints .i64 2 [p.x, p.y], .bytes 480 p.s, .bools 15 p.has, .bytes 32 p.ep, .bytes 32 p.ini]
def enterX (p : XS) (e : Int) (zs : List Int) (ad : List Bool) (k : Int) (ch : List UInt8) (j : List UInt8) : XS :=
  { p with e := e, zs := zs, ad := ad, k := k, ch := ch, ep := epoW j (viewHV e zs ad k ch), ini := iniW (epoW j (viewHV e zs ad k ch)) }
def xK : A → (XS → Prop) → Prop
  | .sref [.ints .i64 1 [e], .ints .i64 31 zs, .bools 8 ad, .ints .i64 1 [k], .bytes 32 ch, .ints .i64 1 [lf], .ints .i64 2 [x, y], .bytes 480 s, .bools 15 has, .bytes 32 ep, .bytes 32 ini] 0, K => K ⟨e, zs, ad, k, ch, lf, x, y, s, has, ep, ini⟩
  | _, _ => False
theorem xK_eq {x : A} {K : XS → Prop} (h : xK x K) : ∃ p, x = .sref (xSegs p) 0 ∧ K p := by
  unfold xK at h
  split at h
  · exact ⟨_, rfl, h⟩
  · exact h.elim
def xM : Bk → (XS → Prop) → Prop
  | .var [.ints .i64 1 [e], .ints .i64 31 zs, .bools 8 ad, .ints .i64 1 [k], .bytes 32 ch, .ints .i64 1 [lf], .ints .i64 2 [x, y], .bytes 480 s, .bools 15 has, .bytes 32 ep, .bytes 32 ini], K => K ⟨e, zs, ad, k, ch, lf, x, y, s, has, ep, ini⟩
  | _, _ => False
theorem xM_eq {x : Bk} {K : XS → Prop} (h : xM x K) : ∃ p, x = .var (xSegs p) ∧ K p := by
  unfold xM at h
  split at h
  · exact ⟨_, rfl, h⟩
  · exact h.elim
theorem xderive_fn (h : List UInt8) (l : ByteArray) (hl : l.size ≤ 1000000) : FnO 26 [.agg [.bytes 32 h], .v (.string l)] (.d (.agg [.bytes 32 (deriveW h (sb l) [])])) := by
  refine fnA (E := envR1) Tryz.func26 Tryz.ntmps26 ?_
  refine agow ?_; (try with_reducible exact True.intro)
def xderS : List A → (Res → Prop) → Prop
  | [.agg [.bytes 32 h], .v (.string l)], K => l.size ≤ 1000000 ∧ K (.d (.agg [.bytes 32 (deriveW h (sb l) [])]))
  | _, _ => False
theorem xderS_ok : ∀ args K, xderS args K → ∃ r, FnO 26 args r ∧ K r := by
  intro args K h
  unfold xderS at h
  split at h
  · exact ⟨_, xderive_fn _ _ h.1, h.2⟩
  · exact h.elim
noncomputable def envX0 : EnvX := envR1.add 26 xderS xderS_ok ⟨_, Tryz.func26, by kernel_rfl, by kernel_rfl⟩
theorem xsigner_fn (h : List UInt8) : FnO 25 [.agg [.bytes 32 h]] (.d (.agg [.ints .i64 2 [scal (sgnW h), powI 4 (scal (sgnW h))]])) := by
  refine fnA (E := envX0) Tryz.func25 Tryz.ntmps25 ?_
  refine agow ?_; (try with_reducible exact True.intro)
  try rfl
/-- of a sum: unknown but for equations -/
def xsignS : List A → (Res → Prop) → Prop
  | [.agg [.bytes 32 h]], K => ∀ x y, x = scal (sgnW h) → y = powI 4 (scal (sgnW h)) → K (.d (.agg [.ints .i64 2 [x, y]]))
  | _, _ => False
theorem xsignS_ok : ∀ args K, xsignS args K → ∃ r, FnO 25 args r ∧ K r := by
  intro args K h
  unfold xsignS at h
  split at h
  · exact ⟨_, xsigner_fn _, h _ _ rfl rfl⟩
  · exact h.elim
noncomputable def envX1 : EnvX := envX0.add 25 xsignS xsignS_ok ⟨_, Tryz.func25, by kernel_rfl, by kernel_rfl⟩
theorem xleaf_fn (h : List UInt8) : FnO 19 [.agg [.bytes 32 h]] (.d (.agg [.ints .i64 2 (leafZ h)])) := by
  refine fnA (E := envX1) Tryz.func19 Tryz.ntmps19 ?_
  refine agow ?_; (try with_reducible exact True.intro)
  intro x y hx hy
  refine agow ?_; (try with_reducible exact True.intro)
  rw [hy]
  try rfl
def xleafS : List A → (Res → Prop) → Prop
  | [.agg [.bytes 32 h]], K => ∀ L, L = leafZ h → K (.d (.agg [.ints .i64 2 L]))
  | _, _ => False
theorem xleafS_ok : ∀ args K, xleafS args K → ∃ r, FnO 19 args r ∧ K r := by
  intro args K h
  unfold xleafS at h
  split at h
  · exact ⟨_, xleaf_fn _, h _ rfl⟩
  · exact h.elim
noncomputable def envX2 : EnvX := envX1.add 19 xleafS xleafS_ok ⟨_, Tryz.func19, by kernel_rfl, by kernel_rfl⟩
theorem create_s {sc : List UInt8} (hs : sc.length = 32) : sPut (sPut (sPut (sPut z480 0 sc) 1 (zB 32)) 3 (zB 32)) 7 (zB 32) = sPut z480 0 sc := by
  have l0 := sPut_len z480_len hs (show 0 < 15 by decide)
  have b1 : ∀ j, j < 15 → j ≠ 0 → blk (sPut z480 0 sc) j = zB 32 := fun j hj hn => by rw [sPut_blk z480_len hs (by decide) hj, if_neg hn, z480_blk hj]
  rw [sPut_same l0 (by simp) (by decide) (b1 1 (by decide) (by decide)), sPut_same l0 (by simp) (by decide) (b1 3 (by decide) (by decide)), sPut_same l0 (by simp) (by decide) (b1 7 (by decide) (by decide))]
theorem abK_zero {k : Nat} (hk : k < 3) : abK (zB 96) k = zB 32 := by
  unfold abK
  rw [List.drop_replicate, List.take_replicate, show min 32 (96 - k * 32) = 32 by omega]
theorem create_xs {p : PS} {a b : Int} (hz : p.zs = [a, b] ++ List.replicate 29 0) (hl : p.lf = 0) (hb : p.ab = zB 96) (hs : p.sc.length = 32) : sP p = sPut z480 0 p.sc ∧ hasZ p = F15.set 0 true := by
  constructor
  · unfold sP
    rw [hl, hb, abK_zero (by decide), abK_zero (by decide), abK_zero (by decide)]
    exact create_s hs
  · unfold hasZ
    rw [hl, hz]
    rfl
/-- one who begins, as its cells stand -/
theorem create_xof (h : List UInt8) : xOf (createP h) = ⟨0, leafZ h ++ List.replicate 29 0, [true, false, false, false, false, false, false, false], 1, zB 32, 0, scal (sgnW h), powI 4 (scal (sgnW h)), sPut z480 0 (lefW h), F15.set 0 true, fstW (lefW h), iniW (fstW (lefW h))⟩ := by
  obtain ⟨h1, h2⟩ := create_xs (p := createP h) (a := powI 4 (scal (sgnW h))) (b := nodeY (lefW h)) rfl rfl rfl (lefW_len h)
  unfold xOf
  rw [h1, h2]
  rfl
set_option maxHeartbeats 1000000 in
theorem xcreate_fn (h : List UInt8) : FnO 8 [.agg [.bytes 32 h]] (.p (.var (xSegs (xOf (createP h))))) := by
  refine fnA (E := envX2) Tryz.func8 Tryz.ntmps8 ?_
  refine agow ?_; (try with_reducible exact True.intro)
  intro x y hx hy
  refine agow ?_; (try with_reducible exact True.intro)
  intro L hL
  refine agow ?_; (try with_reducible exact True.intro)
  have e : ∀ z : List UInt8, List.take 32 (deriveW h (sb ⟨#[108, 101, 97, 102]⟩) [] ++ z) = deriveW h (sb ⟨#[108, 101, 97, 102]⟩) [] := fun z => List.take_left' (lefW_len h)
  simp only [e]
  rw [hx, hy, hL, create_xof]
  unfold sPut
  rfl
theorem xexport_fn (p : XS) (l : ByteArray) (hl : l.size ≤ 1000000) : FnO 63 [.sref (xSegs p) 0, .v (.string l)] (.d (.agg [.bytes 32 (expW p.ep (sb l))])) := by
  refine fnA (E := envX2) Tryz.func63 Tryz.ntmps63 ?_
  refine agow ?_; (try with_reducible exact True.intro)
  try rfl
set_option maxHeartbeats 1000000 in
theorem xenter_fn (p : XS) (e : Int) (zs : List Int) (ad : List Bool) (k : Int) (ch j : List UInt8) : FnMO 52 0 (.var (xSegs p)) [.agg (vSegs e zs ad k ch), .agg [.bytes 32 j]]
    (.d (.agg [.bytes 32 (tagE (epoW j (viewHV e zs ad k ch)))])) (.var (xSegs (enterX p e zs ad k ch j))) := by
  refine fnMA (E := envX2) Tryz.func52 Tryz.ntmps52 ?_
  have hv : (viewHV e zs ad k ch).length = 32 := viewHV_len _ _ _ _ _
  refine agow ?_; (try with_reducible exact True.intro)
  try rfl
end Go.Proofs.YtegjkfaokpjojaaGreatDoor

/-
  The document's parties: whom a new secret is for.
-/
namespace Go.Proofs.YtegjkfaokpjojaaGreatDoor
set_option maxRecDepth 100000
open Go.RowKit Pm
set_option linter.unusedVariables false
set_option linter.unusedSimpArgs false
attribute [local irreducible] condK LoopA regA powI scal mulI isI fourB deriveW numB numsB bodyB nodeW nextW viewHV doR chkV sealB boxD helD commonI placeI apE doP comE comP nextP joinP upW z480

noncomputable def envX3 : EnvX := envX2.add 103 (resS 3) (resS_ok fun zs n _ => rres_ok zs n) ⟨_, Tryz.func103, by kernel_rfl, by kernel_rfl⟩
theorem xside_ok (x : Int) : FnO 102 [.v (.int .i64 x)] (.d (.agg [.ints .i64 3 (sideL x)])) := by
  refine fnA (E := env2) Tryz.func102 Tryz.ntmps102 ?_
  cases h : leafB x with
  | false =>
    refine ago ?_; (try with_reducible exact True.intro)
    simp [sideL, h]
  | true =>
    have h' := leafB_t h
    refine ago ?_; (try with_reducible exact True.intro)
    simp [sideL, h]
    have : x = 0 ∨ x = 1 ∨ x = 2 ∨ x = 3 ∨ x = 4 ∨ x = 5 ∨ x = 6 ∨ x = 7 := by omega
    rcases this with rfl | rfl | rfl | rfl | rfl | rfl | rfl | rfl <;> decide
theorem xsideLS_ok : ∀ args K, sideLS args K → ∃ r, FnO 102 args r ∧ K r := by
  intro args K h
  unfold sideLS at h
  split at h
  · exact ⟨_, xside_ok _, h⟩
  · exact h.elim

noncomputable def envX4 : EnvX := envX3.add 102 sideLS xsideLS_ok ⟨_, Tryz.func102, by kernel_rfl, by kernel_rfl⟩
theorem par15 {m : Int} (h0 : 0 ≤ m) (h1 : m < 15) : (bits BinOp.and IntKind.i64 m 1 == 1) = !decide (m.tmod 2 = 0) ∧ 0 ≤ m.tdiv 2 ∧ m.tdiv 2 < 8 := by
  rcases fifteenI ⟨h0, h1⟩ with rfl | rfl | rfl | rfl | rfl | rfl | rfl | rfl | rfl | rfl | rfl | rfl | rfl | rfl | rfl <;> exact ⟨by decide, by decide, by decide⟩
set_option maxHeartbeats 16000000 in
theorem xplan_ok (zs : List Int) (x : Int) (bt : List Bool) (hx : leafB x = true) : FnO 46 [.agg [.ints .i64 31 zs], .v (.int .i64 x), .agg [.bools 8 bt]] (.o 112 2 (planL zs x bt).length [.ints .i64 ((planL zs x bt).length * 2) (flat2 (planL zs x bt))]) := by
  have e : planL zs x bt = planTo zs bt x 3 := if_pos hx
  rw [e]
  clear e
  obtain ⟨hx0, hx1⟩ := leafB_t hx
  refine fnA (E := envX4) Tryz.func46 Tryz.ntmps46 ?_
  clear hx
  refine agom ?_; (try with_reducible exact True.intro)
  refine StopL.mk (loop_nil [1, 3, 5, 7, 8, 9] 3 7 112 2 [.ints .i64 0 []] (fun s => ∃ k : Nat, k ≤ 3 ∧ s = ⟨[.dead, .d (.v (.int .i64 x)), .dead, .ptr 0 0, .dead, .ptr 1 0, .dead, .own 3 (planTo zs bt x k).length, .ptr 2 0, .d (.v (.int .i64 (k : Nat))), .dead, .dead, .dead, .dead, .dead, .dead, .dead, .dead, .dead, .dead, .dead, .dead, .dead, .dead, .dead, .dead, .dead, .dead, .dead, .dead, .dead, .dead, .dead, .dead, .dead, .dead, .dead, .dead, .dead, .dead, .dead, .dead, .dead, .dead, .dead, .dead, .dead, .dead, .dead, .dead, .dead, .dead, .dead, .dead, .dead, .dead, .dead, .dead, .dead, .dead, .dead, .dead, .dead], [some (.var [.ints .i64 31 zs]), some (.var [.bools 8 bt]), some (.var [.ints .i64 3 (sideL x)]), some (.sl 112 2 (planTo zs bt x k).length [.ints .i64 ((planTo zs bt x k).length * 2) (flat2 (planTo zs bt x k))])]⟩) (fun s => 3 - intAt s 9) rfl rfl rfl rfl ⟨0, by omega, rfl⟩ ?_)
  rintro s ⟨k, hk, rfl⟩
  have hw : IntKind.i64.wrap ((k : Int) + 1) = ((k + 1 : Nat) : Int) := by rw [wrapS (by omega) (by omega)]; omega
  by_cases hk3 : k < 3
  · have O : okD 3 ((sideL x).getD k 0) = true := by simp [okD]
    have L := Nat.le_trans (resF_len zs 3 ((sideL x).getD k 0)) (show 2 ^ 3 ≤ 8 by decide)
    have P := planTo_len zs bt x k
    refine agom ?_; (try with_reducible exact True.intro)
    have hnode : ∀ m ∈ resF 3 zs ((sideL x).getD k 0), 0 ≤ m ∧ m < 15 := fun m => resF_node zs 3 _ m
    generalize hr : resF 3 zs ((sideL x).getD k 0) = r at *
    refine StopL.mk (loop_inv [1, 3, 5, 7, 8, 9, 10, 11] 5 (fun s => ∃ j : Nat, j ≤ r.length ∧ s = ⟨[.dead, .d (.v (.int .i64 x)), .dead, .ptr 0 0, .dead, .ptr 1 0, .dead, .own 3 (planTo zs bt x k ++ pairsK bt k (r.take j)).length, .ptr 2 0, .d (.v (.int .i64 (k : Nat))), .own 4 r.length, .d (.v (.int .i64 (j : Nat))), .dead, .dead, .dead, .dead, .dead, .dead, .dead, .dead, .dead, .dead, .dead, .dead, .dead, .dead, .dead, .dead, .dead, .dead, .dead, .dead, .dead, .dead, .dead, .dead, .dead, .dead, .dead, .dead, .dead, .dead, .dead, .dead, .dead, .dead, .dead, .dead, .dead, .dead, .dead, .dead, .dead, .dead, .dead, .dead, .dead, .dead, .dead, .dead, .dead, .dead, .dead], [some (.var [.ints .i64 31 zs]), some (.var [.bools 8 bt]), some (.var [.ints .i64 3 (sideL x)]), some (.sl 112 2 (planTo zs bt x k ++ pairsK bt k (r.take j)).length [.ints .i64 ((planTo zs bt x k ++ pairsK bt k (r.take j)).length * 2) (flat2 (planTo zs bt x k ++ pairsK bt k (r.take j)))]), some (.sl 3 1 r.length [.ints .i64 r.length r])]⟩) (fun s => r.length - intAt s 11) rfl ⟨0, by omega, by rw [List.take_zero, show pairsK bt k [] = [] from rfl, List.append_nil]; rfl⟩ ?_)
    rintro s ⟨j, hj, rfl⟩
    have hwj : IntKind.i64.wrap ((j : Int) + 1) = ((j + 1 : Nat) : Int) := by rw [wrapS (by omega) (by omega)]; omega
    by_cases hj2 : j < r.length
    · have hs := pairsK_step bt k r j hj2
      obtain ⟨n0, n1⟩ := hnode (r.getD j 0) (by rw [List.getD_eq_getElem?_getD, List.getElem?_eq_getElem hj2]; simp)
      have hl : (planTo zs bt x k ++ pairsK bt k (r.take j)).length ≤ 100 := by
        have := pairsK_len bt k (r.take j)
        rw [List.length_append]; rw [List.length_take] at this; omega
      obtain ⟨p0, p1, p2⟩ := par15 n0 n1
      clear hnode P
      cases hd : decide ((r.getD j 0).tmod 2 = 0) with
      | false =>
        have hu : skipB bt (r.getD j 0) = false := by unfold skipB; rw [hd]; rfl
        rw [hd] at p0
        rw [hu, if_neg (by simp)] at hs
        rw [← List.append_cancel_left_eq (planTo zs bt x k), ← List.append_assoc] at hs
        generalize planTo zs bt x k ++ pairsK bt k (r.take j) = q at *
        clear hu hd
        have p0 : (bits BinOp.and IntKind.i64 (r.getD j 0) 1 == 1) = true := p0
        refine agom ?_; (try with_reducible exact True.intro)
        refine ⟨⟨j + 1, by omega, by rw [hs, flat2_append, List.length_append, Nat.add_mul, ← hwj]; rfl⟩, ?_⟩
        show r.length - (IntKind.i64.wrap ((j : Int) + 1)).toNat < r.length - (j : Int).toNat
        rw [hwj]; omega
      | true =>
        rw [hd] at p0
        have p0 : (bits BinOp.and IntKind.i64 (r.getD j 0) 1 == 1) = false := p0
        have hwq : IntKind.i64.wrap ((r.getD j 0).tdiv 2) = (r.getD j 0).tdiv 2 := wrapS (by omega) (by omega)
        have q0 : 0 ≤ IntKind.i64.wrap ((r.getD j 0).tdiv 2) := by rw [hwq]; exact p1
        have q1 : IntKind.i64.wrap ((r.getD j 0).tdiv 2) < 8 := by rw [hwq]; exact p2
        clear p1 p2
        cases hb : bt.getD (IntKind.i64.wrap ((r.getD j 0).tdiv 2)).toNat false with
        | true =>
          have hu : skipB bt (r.getD j 0) = true := by unfold skipB; rw [hd, ← hwq, hb]; rfl
          rw [hu, if_pos rfl, List.append_nil] at hs
          clear hu hd hwq
          refine agom ?_; (try with_reducible exact True.intro)
          refine ⟨⟨j + 1, by omega, by rw [hs, ← hwj]; rfl⟩, ?_⟩
          show r.length - (IntKind.i64.wrap ((j : Int) + 1)).toNat < r.length - (j : Int).toNat
          rw [hwj]; omega
        | false =>
          have hu : skipB bt (r.getD j 0) = false := by unfold skipB; rw [hd, ← hwq, hb]; rfl
          rw [hu, if_neg (by simp)] at hs
          rw [← List.append_cancel_left_eq (planTo zs bt x k), ← List.append_assoc] at hs
          generalize planTo zs bt x k ++ pairsK bt k (r.take j) = q at *
          clear hu hd hwq
          refine agom ?_; (try with_reducible exact True.intro)
          refine ⟨⟨j + 1, by omega, by rw [hs, flat2_append, List.length_append, Nat.add_mul, ← hwj]; rfl⟩, ?_⟩
          show r.length - (IntKind.i64.wrap ((j : Int) + 1)).toNat < r.length - (j : Int).toNat
          rw [hwj]; omega
    · have hj3 : r.take j = r := List.take_of_length_le (by omega)
      rw [hj3]
      have hs : planTo zs bt x (k + 1) = planTo zs bt x k ++ pairsK bt k r := by rw [planTo, hr]
      rw [← hs]
      clear hnode P
      refine agom ?_; (try with_reducible exact True.intro)
      refine ⟨⟨k + 1, by omega, by rw [← hw]; rfl⟩, ?_⟩
      show 3 - (IntKind.i64.wrap ((k : Int) + 1)).toNat < 3 - (k : Int).toNat
      rw [hw]; omega
  · obtain rfl : k = 3 := by omega
    refine agom ?_; (try with_reducible exact True.intro)
end Go.Proofs.YtegjkfaokpjojaaGreatDoor

/-
  The document's parties: views behind commits.
-/
namespace Go.Proofs.YtegjkfaokpjojaaGreatDoor
set_option maxRecDepth 100000
open Go.RowKit Pm
set_option linter.unusedVariables false
set_option linter.unusedSimpArgs false
attribute [local irreducible] condK LoopA regA powI scal mulI isI fourB deriveW numB numsB bodyB nodeW nextW viewHV doR chkV sealB boxD helD placeI apE doP comE comP nextP joinP upW z480
set_option maxHeartbeats 4000000 in
theorem xcommon_ok (a b : Int) : FnO 55 [.v (.int .i64 a), .v (.int .i64 b)] (.d (.v (.int .i64 (commonI a b)))) := by
  refine fnA (E := envL3) Tryz.func55 Tryz.ntmps55 ?_
  cases h : leafB a with
  | false =>
    refine ago ?_; (try with_reducible exact True.intro)
    simp [commonI, h]
  | true =>
    have h' := leafB_t h
    have e1 : IntKind.i64.wrap (2 * a) = 2 * a := wrapS (by omega) (by omega)
    cases g : leafB b with
    | false =>
      refine ago ?_; (try with_reducible exact True.intro)
      simp [commonI, g]
    | true =>
      have g' := leafB_t g
      by_cases c : a = b
      · subst c
        refine ago ?_; (try with_reducible exact True.intro)
        simp [commonI, h, e1]
      · by_cases c1 : a / 2 = b / 2
        · have u1 : underB (a / 2 * 4 + 1) b = true := by simp [underB, g, c1]
          have u1' : underB (b / 2 * 4 + 1) b = true := by simp [underB, g]
          refine ago ?_; (try with_reducible exact True.intro)
          refine StopL.mk (loop_unroll 4 ?_)
          refine ago ?_; (try with_reducible exact True.intro)
          simp [commonI, h, g, c, c1]
        · have u1 : underB (a / 2 * 4 + 1) b = false := by simp [underB, g] <;> omega
          by_cases c2 : a / 4 = b / 4
          · have u2 : underB (a / 4 * 8 + 3) b = true := by simp [underB, g, c2]
            have u2' : underB (b / 4 * 8 + 3) b = true := by simp [underB, g]
            refine ago ?_; (try with_reducible exact True.intro)
            refine StopL.mk (loop_unroll 4 ?_)
            refine ago ?_; (try with_reducible exact True.intro)
            simp [commonI, h, g, c, c1, c2]
          · have u2 : underB (a / 4 * 8 + 3) b = false := by simp [underB, g] <;> omega
            have u3 : underB 7 b = true := by simp [underB, g]
            refine ago ?_; (try with_reducible exact True.intro)
            refine StopL.mk (loop_unroll 4 ?_)
            refine ago ?_; (try with_reducible exact True.intro)
            simp [commonI, h, g, c, c1, c2]

noncomputable def envX5 : EnvX := envX4.add 55 commonS (commonS_ok xcommon_ok) ⟨_, Tryz.func55, by kernel_rfl, by kernel_rfl⟩
def xplanS : List A → (Res → Prop) → Prop
  | [.agg [.ints .i64 31 zs], .v (.int .i64 x), .agg [.bools 8 bt]], K => leafB x = true ∧ ∀ N L, N = (planL zs x bt).length → L = flat2 (planL zs x bt) → K (.o 112 2 N [.ints .i64 (N * 2) L])
  | _, _ => False
theorem xplanS_ok : ∀ args K, xplanS args K → ∃ r, FnO 46 args r ∧ K r := by
  intro args K h
  unfold xplanS at h
  split at h
  · exact ⟨_, xplan_ok _ _ _ h.1, h.2 _ _ rfl rfl⟩
  · exact h.elim
noncomputable def envX6 : EnvX := envX5.add 46 xplanS xplanS_ok ⟨_, Tryz.func46, by kernel_rfl, by kernel_rfl⟩
noncomputable def envX7 : EnvX := envX6.add 48 keyTS (keyTS_ok rkey_ok) ⟨_, Tryz.func48, by kernel_rfl, by kernel_rfl⟩
set_option maxHeartbeats 2000000 in
theorem xnext_fn (p : XS) (e : Int) (zs : List Int) (ad : List Bool) (k : Int) (ch : List UInt8) (c : CS) (hc : CSok c) (ht : c.tag.length = 32) (u : List UInt8) (he : -4611686018427387904 ≤ p.e ∧ p.e ≤ 4611686018427387904) :
    FnO 51 [.sref (xSegs p) 0, .agg (vSegs e zs ad k ch), .agg (cSegs c), .agg [.bytes 32 u]] (.t [.agg (vSegs (p.e + 1) zs ad k (chnW p.ch (bodyB c))), .agg [.bytes 32 (joiW p.ini u)]]) := by
  refine fn_lens fun hL => ?_
  have hu : u.length ≤ 100000000 := by have : u.length = 32 := hL.2.2.1.1; omega
  clear hL
  refine fnA (E := envX7) Tryz.func51 Tryz.ntmps51 ?_
  obtain ⟨h1, h2, h3, h4, h5, h6⟩ := id hc
  obtain ⟨he0, he1⟩ := he
  have hb0 := bodyN_le hc
  have hb : (bodyB c).length ≤ 100000000 := by rw [body_length hc]; omega
  clear hb0
  refine agow ?_; (try with_reducible exact True.intro)
  refine Or.inr ?_
  refine agow ?_; (try with_reducible exact True.intro)
  rfl
def xnextS : List A → (Res → Prop) → Prop
  | [x, .agg [.ints .i64 1 [e], .ints .i64 31 zs, .bools 8 ad, .ints .i64 1 [k], .bytes 32 ch], y, .agg [.bytes 32 u]], K =>
    xK x fun p => cArgK y fun c => -4611686018427387904 ≤ p.e ∧ p.e ≤ 4611686018427387904 ∧ K (.t [.agg (vSegs (p.e + 1) zs ad k (chnW p.ch (bodyB c))), .agg [.bytes 32 (joiW p.ini u)]])
  | _, _ => False
theorem xnextS_ok : ∀ args K, xnextS args K → ∃ r, FnO 51 args r ∧ K r := by
  intro args K h
  unfold xnextS at h
  split at h
  · obtain ⟨p, rfl, h⟩ := xK_eq h
    obtain ⟨c, ⟨h1, h2, h⟩, hc⟩ := cArgK_spec h
    refine ⟨_, fun S w vs' hG ha => ?_, h⟩
    obtain ⟨v1, v2, v3, v4, rfl, k1, k2, k3, k4⟩ := ra_four ha
    obtain ⟨q1, q2, q3⟩ := hc k3
    exact xnext_fn p _ _ _ _ _ c q2 q3 _ ⟨h1, h2⟩ S w _ hG (.cons k1 (.cons k2 (.cons q1 (.cons k4 .nil))))
  · exact h.elim
def xentM : Nat → Bk → List A → (Res → Bk → Prop) → Prop
  | 0, b, [.agg [.ints .i64 1 [e], .ints .i64 31 zs, .bools 8 ad, .ints .i64 1 [k], .bytes 32 ch], .agg [.bytes 32 j]], K => xM b fun p => K (.d (.agg [.bytes 32 (tagE (epoW j (viewHV e zs ad k ch)))])) (.var (xSegs (enterX p e zs ad k ch j)))
  | _, _, _, _ => False
theorem xentM_ok : ∀ pos x args K, xentM pos x args K → ∃ r x', FnMO 52 pos x args r x' ∧ K r x' := by
  intro pos x args K h
  unfold xentM at h
  split at h
  · obtain ⟨p, rfl, h⟩ := xM_eq h
    exact ⟨_, _, xenter_fn p _ _ _ _ _ _, h⟩
  · exact h.elim
end Go.Proofs.YtegjkfaokpjojaaGreatDoor

/-
  The document's parties: a commit; what it calls, in a table of its own.
-/
namespace Go.Proofs.YtegjkfaokpjojaaGreatDoor
set_option maxRecDepth 100000
open Go.RowKit Pm
set_option linter.unusedVariables false
set_option linter.unusedSimpArgs false
attribute [local irreducible] condK LoopA regA powI scal mulI isI deriveW numB numsB bodyB nodeW nextW viewHV doR chkV planL sealB boxD helD commonI keyZ placeI apE doP comE comP nextP joinP upW z480

theorem flat2_get : ∀ (l : List (Int × Int)) (k : Nat), (flat2 l).getD (k * 2) 0 = (l.getD k (0, 0)).1 ∧ (flat2 l).getD (k * 2 + 1) 0 = (l.getD k (0, 0)).2
  | [], k => by simp [flat2]
  | p :: l, 0 => by simp [flat2]
  | p :: l, k + 1 => by
    have := flat2_get l k
    rw [show (k + 1) * 2 = k * 2 + 2 by omega]
    simpa [flat2] using this
/-- operations that are checked: the answer unknown but for an equation -/
def chkU : List A → (Res → Prop) → Prop
  | [.agg [.ints .i64 1 [e], .ints .i64 31 zs, .bools 8 ad, .ints .i64 1 [k], .bytes 32 ch], .v (.int .i64 fr), x, y], K => opsK x fun n ops => votK y fun m vs => ∀ er, er = chkV e zs ad k ch fr ops n vs m → K (.d (.v (.int .i64 er)))
  | _, _ => False
theorem chkU_of {f : FuncId} (hx : ∀ e zs ad k ch fr ops n, n ≤ 1000000 → ∀ vs m, m ≤ 1000000 → vs.length = m * 3 → FnO f [.agg (vSegs e zs ad k ch), .v (.int .i64 fr), .row n [.ints .i64 (n * 5) ops], .row m [.ints .i64 (m * 3) vs]] (.d (.v (.int .i64 (chkV e zs ad k ch fr ops n vs m))))) : ∀ args K, chkU args K → ∃ r, FnO f args r ∧ K r := by
  intro args K h
  unfold chkU at h
  split at h
  · obtain ⟨n, ops, hn, h, hp⟩ := opsK_spec h
    obtain ⟨m, vs, hm, h, hq⟩ := votK_spec h
    refine ⟨_, fun S w vs' hG ha => ?_, h _ rfl⟩
    obtain ⟨v1, v2, v3, v4, rfl, k1, k2, k3, k4⟩ := ra_four ha
    have k5 := hq k4
    have hl : vs.length = m * 3 := by cases k5 with | row k6 _ _ _ _ => exact k6.toInts.1
    exact hx _ _ _ _ _ _ _ _ hn _ _ hm hl S w _ hG (.cons k1 (.cons k2 (.cons (hp k3) (.cons k5 .nil))))
  · exact h.elim
/-- operations that are done: the answer unknown but for an equation -/
def appU : List A → (Res → Prop) → Prop
  | [.agg [.ints .i64 1 [e], .ints .i64 31 zs, .bools 8 ad, .ints .i64 1 [k], .bytes 32 ch], .v (.int .i64 fr), x], K =>
    opsK x fun n ops => ∀ er, er = (doR e ⟨zs, ad, k, F8, F8⟩ fr ops n).1 → StopC (condK (decide (er = 0))
      (∀ s, s = (doR e ⟨zs, ad, k, F8, F8⟩ fr ops n).2 → K (.t [.agg [.ints .i64 1 [e], .ints .i64 31 s.zs, .bools 8 s.ad, .ints .i64 1 [s.k], .bytes 32 ch], .agg [.bools 8 s.ng], .agg [.bools 8 s.gn], .v (.int .i64 0)]))
      (K (.t [.agg vZero, .agg [.bools 8 F8], .agg [.bools 8 F8], .v (.int .i64 er)])))
  | _, _ => False
theorem appU_of {f : FuncId} (hx : ∀ e zs ad k ch fr ops n, n ≤ 1000000 → FnO f [.agg (vSegs e zs ad k ch), .v (.int .i64 fr), .row n [.ints .i64 (n * 5) ops]] (.t (appR e zs ad k ch fr ops n))) : ∀ args K, appU args K → ∃ r, FnO f args r ∧ K r := by
  intro args K h
  unfold appU at h
  split at h
  · next e zs ad k ch fr x =>
    obtain ⟨n, ops, hn, h, hv⟩ := opsK_spec h
    have h := (h _ rfl).out
    refine ⟨.t (appR e zs ad k ch fr ops n), fun S w vs hG ha => ?_, ?_⟩
    · obtain ⟨v1, v2, v3, rfl, h1, h2, h3⟩ := ra_three ha
      exact hx e zs ad k ch fr ops n hn S w _ hG (.cons h1 (.cons h2 (.cons (hv h3) .nil)))
    · unfold appR
      by_cases he : (doR e ⟨zs, ad, k, F8, F8⟩ fr ops n).1 = 0
      · rw [decide_eq_true he, condK_true] at h
        rw [if_pos he]
        exact h _ rfl
      · rw [decide_eq_false he, condK_false] at h
        rw [if_neg he]
        exact h
  · exact h.elim
/-- a sum by a label: unknown but for an equation -/
def xderU : List A → (Res → Prop) → Prop
  | [.agg [.bytes 32 h], .v (.string l)], K => l.size ≤ 1000000 ∧ ∀ u, u = deriveW h (sb l) [] → K (.d (.agg [.bytes 32 u]))
  | _, _ => False
theorem xderU_ok : ∀ args K, xderU args K → ∃ r, FnO 26 args r ∧ K r := by
  intro args K h
  unfold xderU at h
  split at h
  · exact ⟨_, xderive_fn _ _ h.1, h.2 _ rfl⟩
  · exact h.elim
/-- secrets up a path: unknown but for equations -/
def xupU : List A → (Res → Prop) → Prop
  | [.agg [.bytes 32 h]], K => ∀ U T, U = upW h → T = topW h → K (.t [.agg [.bytes 96 U], .agg [.bytes 32 T]])
  | _, _ => False
theorem xupU_ok : ∀ args K, xupU args K → ∃ r, FnO 43 args r ∧ K r := by
  intro args K h
  unfold xupU at h
  split at h
  · exact rupS8_ok _ _ (h _ _ rfl rfl)
  · exact h.elim
noncomputable def envZ0 : EnvX := envB0.add 41 chkU (chkU_of rcheck_fn) ⟨_, Tryz.func41, by kernel_rfl, by kernel_rfl⟩
noncomputable def envZ1 : EnvX := envZ0.add 42 appU (appU_of rapply_ok) ⟨_, Tryz.func42, by kernel_rfl, by kernel_rfl⟩
noncomputable def envZ2 : EnvX := envZ1.add 26 xderU xderU_ok ⟨_, Tryz.func26, by kernel_rfl, by kernel_rfl⟩
noncomputable def envZ3 : EnvX := envZ2.add 43 xupU xupU_ok ⟨_, Tryz.func43, by kernel_rfl, by kernel_rfl⟩
noncomputable def envZ4 : EnvX := envZ3.add 44 pathQ (pathQ_of rpath_ok) ⟨_, Tryz.func44, by kernel_rfl, by kernel_rfl⟩
noncomputable def envZ5 : EnvX := envZ4.add 45 rnodeS8 rnodeS8_ok ⟨_, Tryz.func45, by kernel_rfl, by kernel_rfl⟩
noncomputable def envZ6 : EnvX := envZ5.add 46 xplanS xplanS_ok ⟨_, Tryz.func46, by kernel_rfl, by kernel_rfl⟩
noncomputable def envZ7 : EnvX := envZ6.add 48 keyTS (keyTS_ok rkey_ok) ⟨_, Tryz.func48, by kernel_rfl, by kernel_rfl⟩
noncomputable def envZ8 : EnvX := envZ7.add 50 numS (numS_of rnum_fn) ⟨_, Tryz.func50, by kernel_rfl, by kernel_rfl⟩
noncomputable def envZ9 : EnvX := envZ8.add 49 rderiveS rderiveS_ok ⟨_, Tryz.func49, by kernel_rfl, by kernel_rfl⟩
noncomputable def envZa : EnvX := envZ9.addF 47 sealS (sealS_of rseal_fn) ⟨_, Tryz.func47, by kernel_rfl, by kernel_rfl⟩
noncomputable def envZb : EnvX := envZa.add 51 xnextS xnextS_ok ⟨_, Tryz.func51, by kernel_rfl, by kernel_rfl⟩
noncomputable def envZc : EnvX := envZb.addM 52 xentM xentM_ok ⟨_, Tryz.func52, by kernel_rfl, by kernel_rfl⟩
noncomputable def envZd : EnvX := envZc.add 54 (comS signedR) (comS_of paper_fn13) ⟨_, Tryz.func54, by kernel_rfl, by kernel_rfl⟩
noncomputable def envZe : EnvX := envZd.add 53 rsignS rsignS_ok ⟨_, Tryz.func53, by kernel_rfl, by kernel_rfl⟩
noncomputable def envZf : EnvX := envZe.add 55 commonS (commonS_ok xcommon_ok) ⟨_, Tryz.func55, by kernel_rfl, by kernel_rfl⟩
noncomputable def envZg : EnvX := envZf.add 56 joinS' joinS_ok ⟨_, Tryz.func56, by kernel_rfl, by kernel_rfl⟩
end Go.Proofs.YtegjkfaokpjojaaGreatDoor
