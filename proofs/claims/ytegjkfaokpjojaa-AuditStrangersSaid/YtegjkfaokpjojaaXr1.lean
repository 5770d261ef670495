/-
  The document's parties: what they hold; how one begins, exports, enters an epoch.
-/
import Derived.Test.YtegjkfaokpjojaaXr0
namespace Go.Proofs.Ytegjkfaokpjojaa
set_option maxRecDepth 100000
open Go.RowKit Pm
set_option linter.unusedVariables false
set_option linter.unusedSimpArgs false
attribute [local irreducible] condK LoopA regA powI scal mulI isI fourB deriveW numB numsB bodyB nodeW nextW viewHV doR chkV planL sealB boxD keyZ helD commonI placeI apE doP comE comP nextP joinP upW z480

abbrev xSegs (p : XS) : List Seg := [.ints .i64 1 [p.e], .ints .i64 31 p.zs, .bools 8 p.ad, .ints .i64 1 [p.k], .bytes 32 p.ch, .ints .i64 1 [p.lf], .ints .i64 2 [p.x, p.y], .bytes 480 p.s, .bools 15 p.has, .bytes 32 p.ep, .bytes 32 p.ini]
def enterX (p : XS) (e : Int) (zs : List Int) (ad : List Bool) (k : Int) (ch : List UInt8) (j : List UInt8) : XS :=
  { p with e := e, zs := zs, ad := ad, k := k, ch := ch, ep := epoW j (viewHV e zs ad k ch), ini := iniW (epoW j (viewHV e zs ad k ch)) }
def xK : A → (XS → Prop) → Prop
  | .sref [.ints .i64 1 [e], .ints .i64 31 zs, .bools 8 ad, .ints .i64 1 [k], .bytes 32 ch, .ints .i64 1 [lf], .ints .i64 2 [x, y], .bytes 480 s, .bools 15 has, .bytes 32 ep, .bytes 32 ini] 0, K => K ⟨e, zs, ad, k, ch, lf, x, y, s, has, ep, ini⟩
  | _, _ => False
theorem xK_eq {x : A} {K : XS → Prop} (h : xK x K) : ∃ p, x = .sref (xSegs p) 0 ∧ K p := by
  unfold xK at h
  split at h
  · exact ⟨_, rfl, h⟩
  · exact h.elim
def xM : Bk → (XS → Prop) → Prop
  | .var [.ints .i64 1 [e], .ints .i64 31 zs, .bools 8 ad, .ints .i64 1 [k], .bytes 32 ch, .ints .i64 1 [lf], .ints .i64 2 [x, y], .bytes 480 s, .bools 15 has, .bytes 32 ep, .bytes 32 ini], K => K ⟨e, zs, ad, k, ch, lf, x, y, s, has, ep, ini⟩
  | _, _ => False
theorem xM_eq {x : Bk} {K : XS → Prop} (h : xM x K) : ∃ p, x = .var (xSegs p) ∧ K p := by
  unfold xM at h
  split at h
  · exact ⟨_, rfl, h⟩
  · exact h.elim
theorem xderive_fn (h : List UInt8) (l : ByteArray) (hl : l.size ≤ 1000000) : FnO 16 [.agg [.bytes 32 h], .v (.string l)] (.d (.agg [.bytes 32 (deriveW h (sb l) [])])) := by
  refine fnA (E := envR1) Try.func16 Try.ntmps16 ?_
  refine agow ?_; (try with_reducible exact True.intro)
def xderS : List A → (Res → Prop) → Prop
  | [.agg [.bytes 32 h], .v (.string l)], K => l.size ≤ 1000000 ∧ K (.d (.agg [.bytes 32 (deriveW h (sb l) [])]))
  | _, _ => False
theorem xderS_ok : ∀ args K, xderS args K → ∃ r, FnO 16 args r ∧ K r := by
  intro args K h
  unfold xderS at h
  split at h
  · exact ⟨_, xderive_fn _ _ h.1, h.2⟩
  · exact h.elim
noncomputable def envX0 : EnvX := envR1.add 16 xderS xderS_ok ⟨_, Try.func16, by kernel_rfl, by kernel_rfl⟩
theorem xsigner_fn (h : List UInt8) : FnO 14 [.agg [.bytes 32 h]] (.d (.agg [.ints .i64 2 [scal (sgnW h), powI 4 (scal (sgnW h))]])) := by
  refine fnA (E := envX0) Try.func14 Try.ntmps14 ?_
  refine agow ?_; (try with_reducible exact True.intro)
  try rfl
/-- of a sum: unknown but for equations -/
def xsignS : List A → (Res → Prop) → Prop
  | [.agg [.bytes 32 h]], K => ∀ x y, x = scal (sgnW h) → y = powI 4 (scal (sgnW h)) → K (.d (.agg [.ints .i64 2 [x, y]]))
  | _, _ => False
theorem xsignS_ok : ∀ args K, xsignS args K → ∃ r, FnO 14 args r ∧ K r := by
  intro args K h
  unfold xsignS at h
  split at h
  · exact ⟨_, xsigner_fn _, h _ _ rfl rfl⟩
  · exact h.elim
noncomputable def envX1 : EnvX := envX0.add 14 xsignS xsignS_ok ⟨_, Try.func14, by kernel_rfl, by kernel_rfl⟩
theorem xleaf_fn (h : List UInt8) : FnO 15 [.agg [.bytes 32 h]] (.d (.agg [.ints .i64 2 (leafZ h)])) := by
  refine fnA (E := envX1) Try.func15 Try.ntmps15 ?_
  refine agow ?_; (try with_reducible exact True.intro)
  intro x y hx hy
  refine agow ?_; (try with_reducible exact True.intro)
  rw [hy]
  try rfl
def xleafS : List A → (Res → Prop) → Prop
  | [.agg [.bytes 32 h]], K => ∀ L, L = leafZ h → K (.d (.agg [.ints .i64 2 L]))
  | _, _ => False
theorem xleafS_ok : ∀ args K, xleafS args K → ∃ r, FnO 15 args r ∧ K r := by
  intro args K h
  unfold xleafS at h
  split at h
  · exact ⟨_, xleaf_fn _, h _ rfl⟩
  · exact h.elim
noncomputable def envX2 : EnvX := envX1.add 15 xleafS xleafS_ok ⟨_, Try.func15, by kernel_rfl, by kernel_rfl⟩
theorem create_s {sc : List UInt8} (hs : sc.length = 32) : sPut (sPut (sPut (sPut z480 0 sc) 1 (zB 32)) 3 (zB 32)) 7 (zB 32) = sPut z480 0 sc := by
  have l0 := sPut_len z480_len hs (show 0 < 15 by decide)
  have b1 : ∀ j, j < 15 → j ≠ 0 → blk (sPut z480 0 sc) j = zB 32 := fun j hj hn => by rw [sPut_blk z480_len hs (by decide) hj, if_neg hn, z480_blk hj]
  rw [sPut_same l0 (by simp) (by decide) (b1 1 (by decide) (by decide)), sPut_same l0 (by simp) (by decide) (b1 3 (by decide) (by decide)), sPut_same l0 (by simp) (by decide) (b1 7 (by decide) (by decide))]
theorem abK_zero {k : Nat} (hk : k < 3) : abK (zB 96) k = zB 32 := by
  unfold abK
  rw [List.drop_replicate, List.take_replicate, show min 32 (96 - k * 32) = 32 by omega]
theorem create_xs {p : PS} {a b : Int} (hz : p.zs = [a, b] ++ List.replicate 29 0) (hl : p.lf = 0) (hb : p.ab = zB 96) (hs : p.sc.length = 32) : sP p = sPut z480 0 p.sc ∧ hasZ p = F15.set 0 true := by
  constructor
  · unfold sP
    rw [hl, hb, abK_zero (by decide), abK_zero (by decide), abK_zero (by decide)]
    exact create_s hs
  · unfold hasZ
    rw [hl, hz]
    rfl
/-- one who begins, as its cells stand -/
theorem create_xof (h : List UInt8) : xOf (createP h) = ⟨0, leafZ h ++ List.replicate 29 0, [true, false, false, false, false, false, false, false], 1, zB 32, 0, scal (sgnW h), powI 4 (scal (sgnW h)), sPut z480 0 (lefW h), F15.set 0 true, fstW (lefW h), iniW (fstW (lefW h))⟩ := by
  obtain ⟨h1, h2⟩ := create_xs (p := createP h) (a := powI 4 (scal (sgnW h))) (b := nodeY (lefW h)) rfl rfl rfl (lefW_len h)
  unfold xOf
  rw [h1, h2]
  rfl
set_option maxHeartbeats 1000000 in
theorem xcreate_fn (h : List UInt8) : FnO 6 [.agg [.bytes 32 h]] (.p (.var (xSegs (xOf (createP h))))) := by
  refine fnA (E := envX2) Try.func6 Try.ntmps6 ?_
  refine agow ?_; (try with_reducible exact True.intro)
  intro x y hx hy
  refine agow ?_; (try with_reducible exact True.intro)
  intro L hL
  refine agow ?_; (try with_reducible exact True.intro)
  have e : ∀ z : List UInt8, List.take 32 (deriveW h (sb ⟨#[108, 101, 97, 102]⟩) [] ++ z) = deriveW h (sb ⟨#[108, 101, 97, 102]⟩) [] := fun z => List.take_left' (lefW_len h)
  simp only [e]
  rw [hx, hy, hL, create_xof]
  unfold sPut
  rfl
theorem xexport_fn (p : XS) (l : ByteArray) (hl : l.size ≤ 1000000) : FnO 19 [.sref (xSegs p) 0, .v (.string l)] (.d (.agg [.bytes 32 (expW p.ep (sb l))])) := by
  refine fnA (E := envX2) Try.func19 Try.ntmps19 ?_
  refine agow ?_; (try with_reducible exact True.intro)
  try rfl
end Go.Proofs.Ytegjkfaokpjojaa
