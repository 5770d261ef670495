/-
  Commits as bytes: numbers, boxes.
-/
import Derived.Test.YtegjkfaokpjojaaJ26
import Derived.Test.YtegjkfaokpjojaaJ27
import Derived.Test.YtegjkfaokpjojaaJ29
import Derived.Test.YtegjkfaokpjojaaJ14
import Derived.Test.YtegjkfaokpjojaaJ15
import Derived.Test.YtegjkfaokpjojaaJ11
import Derived.Test.YtegjkfaokpjojaaJ13
import Derived.Test.YtegjkfaokpjojaaJ18
import Derived.Test.YtegjkfaokpjojaaJ28
import Derived.Test.YtegjkfaokpjojaaJ20
import Derived.Test.YtegjkfaokpjojaaJ6
import Derived.Lib.AppendZeros
namespace Go.Proofs.Ytegjkfaokpjojaa
set_option maxRecDepth 100000
open Go.RowKit Pm
set_option linter.unusedVariables false
set_option linter.unusedSimpArgs false
attribute [local irreducible] condK LoopA regA numB numsB

noncomputable def envC0 : EnvX := envK9.withY yTab2 yOK2 yEq2
def opsCS : List A → (Res → Prop) → Prop
  | [.row n [.ints .i64 m zs]], K => m = n * 5 ∧ n ≤ 1000000 ∧ zs.length = n * 5 ∧ K (.o 5 1 (n * 40) [.bytes (n * 40) (numsB zs)])
  | _, _ => False
theorem opsCS_of {f : FuncId} (h : ∀ (zs : List Int) (n : Nat), zs.length = n * 5 → n ≤ 1000000 → FnO f [.row n [.ints .i64 (n * 5) zs]] (.o 5 1 (n * 40) [.bytes (n * 40) (numsB zs)])) : ∀ args K, opsCS args K → ∃ r, FnO f args r ∧ K r := by
  intro args K hd
  unfold opsCS at hd
  split at hd
  · obtain ⟨rfl, h1, h2, h3⟩ := hd
    exact ⟨_, h _ _ h2 h1, h3⟩
  · exact hd.elim
noncomputable def envC1 : EnvX := envC0
noncomputable def envC2 : EnvX := envC1
noncomputable def envC3 : EnvX := envC2
/-- a box with its length ahead -/
def boxB (bs : List UInt8) : List UInt8 := numsB [(bs.length : Int)] ++ bs
def boxS : List A → (Res → Prop) → Prop
  | [.row n [.bytes m bs]], K => n = bs.length ∧ m = bs.length ∧ bs.length ≤ 1000000 ∧ K (.o 5 1 (8 + bs.length) [.bytes (8 + bs.length) (boxB bs)])
  | _, _ => False
noncomputable def envC4 : EnvX := envC3
/-- a commit's numbers, rows, boxes -/
structure CS where
  e : Int
  fr : Int
  n : Nat
  ops : List Int
  m : Nat
  vs : List Int
  sl : Int
  p0 : Int
  p1 : Int
  p2 : Int
  k : Nat
  bx : Nat → List UInt8
  tag : List UInt8
  sE : Int
  sS : Int
def boxF (bx : Nat → List UInt8) (j : Nat) : List Seg := [.gen 1 [.row (bx j).length [.bytes (bx j).length (bx j)]]]
def cSegs (c : CS) : List Seg := [.ints .i64 2 [c.e, c.fr], .gen 2 [.row c.n [.ints .i64 (c.n * 5) c.ops], .row c.m [.ints .i64 (c.m * 3) c.vs]], .ints .i64 4 [c.sl, c.p0, c.p1, c.p2], .gen 1 [.recs c.k 1 (boxF c.bx)], .bytes 32 c.tag, .ints .i64 2 [c.sE, c.sS]]
/-- what may be handed in -/
structure CSok (c : CS) : Prop where
  n : c.n ≤ 3000
  m : c.m ≤ 3000
  k : c.k ≤ 3000
  ops : c.ops.length = c.n * 5
  vs : c.vs.length = c.m * 3
  bx : ∀ j, j < c.k → (c.bx j).length ≤ 6000
/-- so many bytes have the first boxes -/
def bxN (bx : Nat → List UInt8) : Nat → Nat
  | 0 => 0
  | j + 1 => bxN bx j + (8 + (bx j).length)
def bxB (bx : Nat → List UInt8) : Nat → List UInt8
  | 0 => []
  | j + 1 => bxB bx j ++ boxB (bx j)
def bodyHead (c : CS) : List UInt8 := (numsB [c.e, c.fr, (c.n : Int)] ++ numsB c.ops) ++ numsB [(c.m : Int)]
def bodyMid (c : CS) : List UInt8 := (bodyHead c ++ numsB c.vs) ++ numsB [c.sl, c.p0, c.p1, c.p2, (c.k : Int)]
def bodyB (c : CS) : List UInt8 := bodyMid c ++ bxB c.bx c.k
def bodyN (c : CS) : Nat := 24 + c.n * 40 + 8 + c.m * 24 + 40 + bxN c.bx c.k
theorem bxN_le {bx : Nat → List UInt8} : ∀ {k : Nat}, (∀ j, j < k → (bx j).length ≤ 6000) → bxN bx k ≤ k * 6008
  | 0, _ => Nat.zero_le _
  | k + 1, h => by
    have h1 := bxN_le (k := k) fun j hj => h j (by omega)
    have h2 := h k (by omega)
    show bxN bx k + (8 + (bx k).length) ≤ _
    omega
theorem three_eqC {o : List Int} (h : o.length = 3) : o = [o.getD 0 0, o.getD 1 0, o.getD 2 0] := by
  rcases o with _ | ⟨a, _ | ⟨b, _ | ⟨c, _ | ⟨d, l⟩⟩⟩⟩ <;> first | (simp at h; done) | rfl
theorem numsB_three (zs : List Int) {i : Nat} (h : i + 3 ≤ zs.length) : numsB (zs.take (i + 3)) = numsB (zs.take i) ++ numsB [((zs.drop i).take 3).getD 0 0, ((zs.drop i).take 3).getD 1 0, ((zs.drop i).take 3).getD 2 0] := by
  rw [← three_eqC (o := (zs.drop i).take 3) (by simp; omega), ← numsB_append, List.take_add]
attribute [local irreducible] boxB
end Go.Proofs.Ytegjkfaokpjojaa

/-
  Two keys: the arithmetic.
-/
namespace Go.Proofs.Ytegjkfaokpjojaa
set_option maxRecDepth 100000
open Go.RowKit Pm
set_option linter.unusedVariables false
set_option linter.unusedSimpArgs false
attribute [local go_sem] eqh_guard key_y key_x

theorem raised (r s : Int) (hr : 0 ≤ r ∧ r < 1073741789) (hs : 0 ≤ s ∧ s < 1073741789) : powI (powI 4 r) s = powI (powI 4 s) r := by
  obtain ⟨m, rfl⟩ := Int.eq_ofNat_of_zero_le hr.1
  obtain ⟨n, rfl⟩ := Int.eq_ofNat_of_zero_le hs.1
  have h1 : powI 4 (m : Int) = (pw 4 m : Int) := powI_nat 4 m (by decide) (by omega)
  have h2 : powI 4 (n : Int) = (pw 4 n : Int) := powI_nat 4 n (by decide) (by omega)
  rw [h1, h2, powI_nat (pw 4 m) n (pw_lt _ _) (by omega), powI_nat (pw 4 n) m (pw_lt _ _) (by omega), pw_pw, pw_pw, Nat.mul_comm]
theorem isI_pub (s : Int) (hs : 1 ≤ s ∧ s < 1073741789) : isI (powI 4 s) = true := by
  obtain ⟨n, rfl⟩ := Int.eq_ofNat_of_zero_le (show 0 ≤ s by omega)
  rw [show powI 4 (n : Int) = (pw 4 n : Int) from powI_nat 4 n (by decide) (by omega)]
  exact isI_four n (by omega) (by omega)
theorem isI_raised (s r : Int) (hs : 1 ≤ s ∧ s < 1073741789) (hr : 1 ≤ r ∧ r < 1073741789) : isI (powI (powI 4 s) r) = true := by
  obtain ⟨n, rfl⟩ := Int.eq_ofNat_of_zero_le (show 0 ≤ s by omega)
  obtain ⟨m, rfl⟩ := Int.eq_ofNat_of_zero_le (show 0 ≤ r by omega)
  have h1 : powI 4 (n : Int) = (pw 4 n : Int) := powI_nat 4 n (by decide) (by omega)
  rw [h1, powI_nat (pw 4 n) m (pw_lt _ _) (by omega), pw_pw, isI_nat _ (pw_lt _ _)]
  have h3 : pw 4 (n * m) ≠ 1 := by
    intro h
    have h4 := pw_gcd 4 (n * m) 1073741789 h four_Q
    have h5 : Nat.gcd (n * m) 1073741789 = 1 := Nat.Coprime.mul_left (coprime_Q n (by omega) (by omega)) (coprime_Q m (by omega) (by omega))
    rw [h5, pw_one _ (by decide)] at h4
    exact absurd h4 (by decide)
  have h6 := of_Q_pos _ (four_all (n * m))
  exact decide_eq_true ⟨by omega, four_all _⟩
end Go.Proofs.Ytegjkfaokpjojaa

/-
  Boxes as bytes. No function is named here.
-/
namespace Go.Proofs.Ytegjkfaokpjojaa
set_option maxRecDepth 100000
open Go.RowKit Pm
set_option linter.unusedVariables false

/-- a stretch of a secret's stream -/
def streamW (s : List UInt8) (j : Nat) : List UInt8 := deriveW s (sb ⟨#[115, 116, 114, 101, 97, 109]⟩) (fourB (j : Int))
theorem streamW_length (s : List UInt8) (j : Nat) : (streamW s j).length = 32 := sumW_length _
/-- bytes xored with the stream -/
def xorW (s p : List UInt8) : List UInt8 := p.mapIdx fun i c => c ^^^ (streamW s (i / 32)).getD (i % 32) 0
theorem xorW_length (s p : List UInt8) : (xorW s p).length = p.length := by simp [xorW]
theorem xorW_get (s p : List UInt8) (i : Nat) (h : i < p.length) : (xorW s p)[i]? = some (p[i] ^^^ (streamW s (i / 32)).getD (i % 32) 0) := by
  simp [xorW, List.getElem?_mapIdx, List.getElem?_eq_getElem h]
theorem xorW_back (s p : List UInt8) : xorW s (xorW s p) = p := by
  refine List.ext_getElem? fun i => ?_
  by_cases h : i < p.length
  · have h2 : i < (xorW s p).length := by rw [xorW_length]; exact h
    rw [xorW_get s (xorW s p) i h2, List.getElem?_eq_getElem h]
    have h3 : (xorW s p)[i] = p[i] ^^^ (streamW s (i / 32)).getD (i % 32) 0 := by
      have h4 := xorW_get s p i h
      rw [List.getElem?_eq_getElem h2] at h4
      exact Option.some.inj h4
    rw [h3, UInt8.xor_assoc, UInt8.xor_self, UInt8.xor_zero]
  · rw [List.getElem?_eq_none (by rw [xorW_length, xorW_length]; omega), List.getElem?_eq_none (by omega)]
/-- what the loop has laid behind so many steps -/
def partX (s p : List UInt8) (k : Nat) : List UInt8 := (xorW s p).take k ++ List.replicate (p.length - k) 0
theorem partX_zero (s p : List UInt8) : partX s p 0 = List.replicate p.length 0 := by simp [partX]
theorem partX_all (s p : List UInt8) : partX s p p.length = xorW s p := by simp [partX, List.take_of_length_le (Nat.le_of_eq (xorW_length s p))]
theorem partX_length (s p : List UInt8) (k : Nat) (h : k ≤ p.length) : (partX s p k).length = p.length := by simp [partX, xorW_length]; omega
theorem partX_set (s p : List UInt8) (k : Nat) (h : k < p.length) : (partX s p k).set k (p[k] ^^^ (streamW s (k / 32)).getD (k % 32) 0) = partX s p (k + 1) := by
  refine List.ext_getElem? fun i => ?_
  have hl : (xorW s p).length = p.length := xorW_length s p
  rw [List.getElem?_set]
  unfold partX
  by_cases hik : k = i
  · subst hik
    rw [if_pos rfl, if_pos (by simp [hl]; omega)]
    rw [List.getElem?_append_left (by simp [hl]; omega), List.getElem?_take, if_pos (by omega), xorW_get s p k h]
  · rw [if_neg hik]
    by_cases h1 : i < k
    · rw [List.getElem?_append_left (by simp [hl]; omega), List.getElem?_append_left (by simp [hl]; omega), List.getElem?_take, List.getElem?_take, if_pos h1, if_pos (by omega)]
    · rw [List.getElem?_append_right (by simp [hl]; omega), List.getElem?_append_right (by simp [hl]; omega)]
      have e1 : (List.take k (xorW s p)).length = k := by simp [hl]; omega
      have e2 : (List.take (k + 1) (xorW s p)).length = k + 1 := by simp [hl]; omega
      rw [e1, e2, List.getElem?_replicate, List.getElem?_replicate]
      by_cases h2 : i < p.length
      · rw [if_pos (by omega), if_pos (by omega)]
      · rw [if_neg (by omega), if_neg (by omega)]
theorem Bt_xor (a b : UInt8) : bits .xor .u8 (Bt a) (Bt b) = Bt (a ^^^ b) := by
  show IntKind.u8.wrap ((BitVec.ofInt 8 (a.toNat : Int) ^^^ BitVec.ofInt 8 (b.toNat : Int)).toNat : Int) = _
  rw [BitVec.ofInt_natCast, BitVec.ofInt_natCast]
  unfold Bt
  rw [UInt8.toNat_xor, BitVec.toNat_xor, BitVec.toNat_ofNat, BitVec.toNat_ofNat, IntKind.wrap_u8]
  have ha := UInt8.toNat_lt a
  have hb := UInt8.toNat_lt b
  rw [Nat.mod_eq_of_lt (by omega), Nat.mod_eq_of_lt (by omega)]
  have hx : a.toNat ^^^ b.toNat < 2 ^ 8 := Nat.xor_lt_two_pow (by omega) (by omega)
  omega
/-- a box's tag -/
def tagW (s own body : List UInt8) : List UInt8 := (deriveW s (sb ⟨#[116, 97, 103]⟩) (own ++ body)).take 8
theorem tagW_length (s own body : List UInt8) : (tagW s own body).length = 8 := by
  unfold tagW
  rw [List.length_take, show (deriveW s (sb ⟨#[116, 97, 103]⟩) (own ++ body)).length = 32 from sumW_length _]
  rfl
end Go.Proofs.Ytegjkfaokpjojaa

/-
  Parties: what they hold, and what comes of each of their acts. Mathematics; no function is named here.
-/
namespace Go.Proofs.Ytegjkfaokpjojaa
set_option maxRecDepth 100000
open Go.RowKit Pm
set_option linter.unusedVariables false
set_option linter.unusedSimpArgs false

/-- what a party holds -/
structure PS where
  e : Int
  zs : List Int
  ad : List Bool
  k : Int
  ch : List UInt8
  lf : Int
  sg : List UInt8
  sc : List UInt8
  ab : List UInt8
  ep : List UInt8
  ini : List UInt8
abbrev pSegs (p : PS) : List Seg := [.ints .i64 1 [p.e], .ints .i64 31 p.zs, .bools 8 p.ad, .ints .i64 1 [p.k], .bytes 32 p.ch, .ints .i64 1 [p.lf], .bytes 32 p.sg, .bytes 32 p.sc, .bytes 96 p.ab, .bytes 32 p.ep, .bytes 32 p.ini]
def sgnW (h : List UInt8) : List UInt8 := deriveW h (sb ⟨#[115, 105, 103, 110]⟩) []
def lefW (h : List UInt8) : List UInt8 := deriveW h (sb ⟨#[108, 101, 97, 102]⟩) []
def fstW (h : List UInt8) : List UInt8 := deriveW h (sb ⟨#[102, 105, 114, 115, 116]⟩) []
def iniW (h : List UInt8) : List UInt8 := deriveW h (sb ⟨#[105, 110, 105, 116]⟩) []
def tagE (h : List UInt8) : List UInt8 := deriveW h (sb ⟨#[116, 97, 103]⟩) []
def epoW (j h : List UInt8) : List UInt8 := deriveW j (sb ⟨#[101, 112, 111, 99, 104]⟩) h
def joiW (i u : List UInt8) : List UInt8 := deriveW i (sb ⟨#[106, 111, 105, 110, 116]⟩) u
def chnW (c b : List UInt8) : List UInt8 := deriveW c (sb ⟨#[99, 104, 97, 105, 110]⟩) b
def boxD (d : List UInt8) (n : Int) : List UInt8 := deriveW d (sb ⟨#[98, 111, 120]⟩) (numB n)
def helD (d : List UInt8) (n : Int) : List UInt8 := deriveW d (sb ⟨#[104, 101, 108, 108, 111]⟩) (numB n)
def expW (e l : List UInt8) : List UInt8 := deriveW e (sb ⟨#[101, 120, 112, 111, 114, 116]⟩) l
theorem sgnW_len (h : List UInt8) : (sgnW h).length = 32 := sumW_length _
theorem lefW_len (h : List UInt8) : (lefW h).length = 32 := sumW_length _
theorem fstW_len (h : List UInt8) : (fstW h).length = 32 := sumW_length _
theorem iniW_len (h : List UInt8) : (iniW h).length = 32 := sumW_length _
theorem tagE_len (h : List UInt8) : (tagE h).length = 32 := sumW_length _
theorem epoW_len (j h : List UInt8) : (epoW j h).length = 32 := sumW_length _
theorem joiW_len (j h : List UInt8) : (joiW j h).length = 32 := sumW_length _
theorem chnW_len (j h : List UInt8) : (chnW j h).length = 32 := sumW_length _
theorem boxD_len (j : List UInt8) (h : Int) : (boxD j h).length = 32 := sumW_length _
theorem helD_len (j : List UInt8) (h : Int) : (helD j h).length = 32 := sumW_length _
theorem expW_len (j h : List UInt8) : (expW j h).length = 32 := sumW_length _
theorem viewHV_len (e : Int) (zs : List Int) (ad : List Bool) (k : Int) (ch : List UInt8) : (viewHV e zs ad k ch).length = 32 := sumW_length _
theorem upW_len (h : List UInt8) : (upW h).length = 96 := by simp [upW, nextW_len]
/-- the public number of a secret's key -/
def nodeY (h : List UInt8) : Int := powI 4 (scal (nodeW h))
def leafZ (seed : List UInt8) : List Int := [powI 4 (scal (sgnW seed)), nodeY (lefW seed)]
abbrev zB (n : Nat) : List UInt8 := List.replicate n 0
def by0 (seed : List UInt8) : PS := ⟨0, List.replicate 31 0, F8, 0, zB 32, 0, sgnW seed, lefW seed, zB 96, zB 32, zB 32⟩
def enterP (p : PS) (ep : List UInt8) : PS := { p with ep := ep, ini := iniW ep }
def reachP (p : PS) (joint : List UInt8) : PS := enterP p (epoW joint (viewHV p.e p.zs p.ad p.k p.ch))
def createP (seed : List UInt8) : PS := enterP ⟨0, leafZ seed ++ List.replicate 29 0, [true, false, false, false, false, false, false, false], 1, zB 32, 0, sgnW seed, lefW seed, zB 96, zB 32, zB 32⟩ (fstW (lefW seed))
def renewP (p : PS) (draw : List UInt8) : PS := { p with sc := lefW draw, ab := upW (lefW draw) }
def topW (h : List UInt8) : List UInt8 := nextW (nextW (nextW (nextW h)))
/-- the k-th of the secrets above -/
def abK (ab : List UInt8) (k : Nat) : List UInt8 := (ab.drop (k * 32)).take 32
/-- new keys in a tree -/
def behZ (zs : List Int) (fr sl a b c : Int) : List Int :=
  (((zs.set (fr.toNat * 2 + 1) sl).set (16 + (fr / 2 * 4 + 1).toNat) a).set (16 + (fr / 4 * 8 + 3).toNat) b).set 23 c
/-- a box: to the number y, by the secret x -/
def boxW (y x : Int) (p : List UInt8) : List UInt8 :=
  fourB (powI 4 x) ++ tagW (shW y x) (fourB (powI 4 x)) (xorW (shW y x) p) ++ xorW (shW y x) p
def sealOk (y : Int) (p : List UInt8) : Bool := isI y && decide (p.length ≤ 200)
def sealB (y x : Int) (p : List UInt8) : List UInt8 := if sealOk y p then boxW y x p else []
def sealE (y : Int) (p : List UInt8) : Int := if sealOk y p then 0 else 1
/-- the box of the j-th of a plan -/
def boxOf (zs : List Int) (up draw : List UInt8) (j : Nat) (x : Int × Int) : List UInt8 := sealB (keyZ zs x.2) (scal (boxD draw j)) (abK up x.1.toNat)
def boxesP (zs : List Int) (lf : Int) (ng : List Bool) (up draw : List UInt8) (j : Nat) : List UInt8 := boxOf zs up draw j ((planL zs lf ng).getD j (0, 0))
/-- what a commit holds ahead of its tag -/
def com0 (p : PS) (s : Vw) (n : Nat) (ops : List Int) (m : Nat) (vs : List Int) (draw : List UInt8) : CS :=
  { e := p.e, fr := p.lf, n := n, ops := ops, m := m, vs := vs, sl := nodeY (lefW draw), p0 := nodeY (nextW (lefW draw)), p1 := nodeY (nextW (nextW (lefW draw))), p2 := nodeY (nextW (nextW (nextW (lefW draw)))),
    k := (planL s.zs p.lf s.ng).length, bx := boxesP s.zs p.lf s.ng (upW (lefW draw)) draw, tag := zB 32, sE := 0, sS := 0 }
/-- the view behind a commit -/
def behP (p : PS) (s : Vw) (c : CS) : PS := { p with e := p.e + 1, zs := behZ s.zs c.fr c.sl c.p0 c.p1 c.p2, ad := s.ad, k := s.k, ch := chnW p.ch (bodyB c) }
/-- who has committed, and what it tells -/
def joinP (p : PS) (draw : List UInt8) : List UInt8 := joiW p.ini (topW (lefW draw))
def nextP (p : PS) (s : Vw) (n : Nat) (ops : List Int) (m : Nat) (vs : List Int) (draw : List UInt8) : PS :=
  reachP (behP (renewP p draw) s (com0 p s n ops m vs draw)) (joinP p draw)
def comP (p : PS) (s : Vw) (n : Nat) (ops : List Int) (m : Nat) (vs : List Int) (draw : List UInt8) : CS :=
  let c := com0 p s n ops m vs draw
  let tg := tagE (nextP p s n ops m vs draw).ep
  { c with tag := tg, sE := sigE (scal p.sg) (bodyB c ++ tg), sS := sigS (scal p.sg) (bodyB c ++ tg) }
/-- what a commit errs by -/
def comE (p : PS) (n : Nat) (ops : List Int) (m : Nat) (vs : List Int) : Int :=
  if chkV p.e p.zs p.ad p.k p.ch p.lf ops n vs m ≠ 0 then chkV p.e p.zs p.ad p.k p.ch p.lf ops n vs m else
  if (doR p.e ⟨p.zs, p.ad, p.k, F8, F8⟩ p.lf ops n).1 ≠ 0 then (doR p.e ⟨p.zs, p.ad, p.k, F8, F8⟩ p.lf ops n).1 else if p.e ≥ 1099511627776 then 12 else 0
/-- at which place of a leaf's path a node stands -/
def placeI (lf node : Int) : Int := idx3 (lf / 2 * 4 + 1) (lf / 4 * 8 + 3) 7 node
/-- the welcome of the one at leaf j -/
def welBox (q : PS) (ab joint draw : List UInt8) (j : Nat) : List UInt8 :=
  sealB (q.zs.getD (j * 2 + 1) 0) (scal (helD draw j)) (joint ++ abK ab (placeI q.lf (commonI j q.lf)).toNat)
def welSegs (q : PS) (ab joint tag draw : List UInt8) (j : Nat) : List Seg :=
  [.ints .i64 2 [(j : Int), q.lf], .ints .i64 1 [q.e], .ints .i64 31 q.zs, .bools 8 q.ad, .ints .i64 1 [q.k], .bytes 32 q.ch, .gen 1 [.row (welBox q ab joint draw j).length [.bytes (welBox q ab joint draw j).length (welBox q ab joint draw j)]], .bytes 32 tag]
def welN (ng : List Bool) : Nat → Nat
  | 0 => 0
  | j + 1 => if ng.getD j false = true then welN ng j + 1 else welN ng j
def welTo (f : Nat → List Seg) (ng : List Bool) : Nat → List Seg
  | 0 => []
  | j + 1 => if ng.getD j false = true then welTo f ng j ++ f j else welTo f ng j
end Go.Proofs.Ytegjkfaokpjojaa

/-
  Commits: what may be.
-/
namespace Go.Proofs.Ytegjkfaokpjojaa
set_option maxRecDepth 100000
open Go.RowKit Pm
set_option linter.unusedVariables false
set_option linter.unusedSimpArgs false
attribute [local irreducible] condK LoopA regA numB numsB boxB

/-- the first of so many -/
theorem first_P0 (p : Nat → Bool) : ∀ (n : Nat), ∃ N, N ≤ n ∧ (∀ j, j < N → p j = false) ∧ (N = n ∨ (N < n ∧ p N = true))
  | 0 => ⟨0, Nat.le_refl _, fun j hj => absurd hj (by omega), .inl rfl⟩
  | n + 1 => by
    obtain ⟨N, h1, h2, h3⟩ := first_P0 p n
    rcases h3 with rfl | ⟨h3, h4⟩
    · cases h : p N with
      | false =>
        exact ⟨N + 1, Nat.le_refl _, fun j hj => by
          rcases Nat.lt_or_ge j N with h5 | h5
          · exact h2 j h5
          · exact (show j = N by omega) ▸ h, .inl rfl⟩
      | true => exact ⟨N, by omega, h2, .inr ⟨by omega, h⟩⟩
    · exact ⟨N, by omega, h2, .inr ⟨by omega, h4⟩⟩
theorem first_P (p : Nat → Bool) (n : Nat) : ∃ N, N ≤ n ∧ (∀ j, j < N → p j = false) ∧ (N = n ∧ idxP p n = -1 ∨ N < n ∧ p N = true ∧ idxP p n = (N : Int)) := by
  obtain ⟨N, h1, h2, h3⟩ := first_P0 p n
  refine ⟨N, h1, h2, ?_⟩
  rcases h3 with rfl | ⟨h3, h4⟩
  · exact .inl ⟨rfl, idxP_none h2⟩
  · exact .inr ⟨h3, h4, idxP_at h3 h4 h2⟩
def anyP (p : Nat → Bool) (n : Nat) : Bool := decide (idxP p n ≥ 0)
theorem idxP_anyP (p : Nat → Bool) (n : Nat) : decide (idxP p n ≥ 0) = anyP p n := rfl
theorem anyP_iff (p : Nat → Bool) (n : Nat) : anyP p n = true ↔ ∃ j, j < n ∧ p j = true := by
  unfold anyP
  rw [decide_eq_true_iff]
  obtain ⟨N, h1, h2, h3⟩ := first_P p n
  rcases h3 with ⟨h3, h4⟩ | ⟨h3, h4, h5⟩
  · rw [h4]
    constructor
    · intro h; omega
    · rintro ⟨j, hj, hp⟩; rw [h2 j (by omega)] at hp; cases hp
  · rw [h5]
    exact ⟨fun _ => ⟨N, h3, h4⟩, fun _ => by omega⟩
attribute [local irreducible] anyP idxP
def withinB (n m : Int) : Bool := decide (n ≥ 0) && decide (n ≤ m)
def withinS : List A → (Res → Prop) → Prop
  | [.v (.int .i64 n), .v (.int .i64 m)], K => K (.d (.v (.bool (withinB n m))))
  | _, _ => False
attribute [local irreducible] withinB
noncomputable def envC5 : EnvX := envC4
def isLeafS : List A → (Res → Prop) → Prop
  | [.v (.int .i64 n)], K => K (.d (.v (.bool (withinB n 7))))
  | _, _ => False
noncomputable def envC6 : EnvX := envC5
def sigB (e s : Int) : Bool := withinB e 1073741788 && withinB s 1073741788
/-- two numbers -/
def sigSp : List A → (Res → Prop) → Prop
  | [.agg [.ints .i64 2 o]], K => K (.d (.v (.bool (sigB (o.getD 0 0) (o.getD 1 0)))))
  | _, _ => False
attribute [local irreducible] sigB
noncomputable def envC7 : EnvX := envC6
def oddOpB (o : List Int) : Bool := o.any fun z => !withinB z 1099511627776
def oddOpS : List A → (Res → Prop) → Prop
  | [.agg [.ints .i64 5 o]], K => K (.d (.v (.bool (oddOpB o))))
  | _, _ => False
attribute [local irreducible] oddOpB
noncomputable def envC8 : EnvX := envC7
def oddVoteB (o : List Int) : Bool := !withinB (o.getD 0 0) 7 || !sigB (o.getD 1 0) (o.getD 2 0)
def oddVoteS : List A → (Res → Prop) → Prop
  | [.agg [.ints .i64 3 o]], K => K (.d (.v (.bool (oddVoteB o))))
  | _, _ => False
attribute [local irreducible] oddVoteB
noncomputable def envC9 : EnvX := envC8
def oddBoxS : List A → (Res → Prop) → Prop
  | [.row n [.bytes m bs]], K => m = n ∧ K (.d (.v (.bool (decide ((n : Int) > 300)))))
  | _, _ => False
noncomputable def envCa : EnvX := envC9
/-- the j-th of records of so many numbers -/
def atK (K : Nat) (zs : List Int) (j : Nat) : List Int := (zs.drop (j * K)).take K

noncomputable def envCb : EnvX := envCa
noncomputable def envCc : EnvX := envCb

noncomputable def envCd : EnvX := envCc
noncomputable def envCe : EnvX := envCd

noncomputable def envCf : EnvX := envCe
noncomputable def envCg : EnvX := envCf
end Go.Proofs.Ytegjkfaokpjojaa

/-
  Commits: whether one may be.
-/
namespace Go.Proofs.Ytegjkfaokpjojaa
set_option maxRecDepth 100000
open Go.RowKit Pm
set_option linter.unusedVariables false
set_option linter.unusedSimpArgs false
attribute [local irreducible] condK LoopA regA numB numsB boxB anyP idxP withinB sigB oddOpB oddVoteB

/-- may a commit be? -/
def mayB (c : CS) : Bool := withinB c.e 1099511627776 && (withinB c.fr 7 && (sigB c.sE c.sS && (withinB c.sl 2147483579 && (withinB c.p0 2147483579 && (withinB c.p1 2147483579 && (withinB c.p2 2147483579 && (decide ((c.n : Int) ≤ 4) && ((!anyP (fun i => oddOpB (atK 5 c.ops i)) c.n) && (decide ((c.m : Int) ≤ 8) && ((!anyP (fun i => oddVoteB (atK 3 c.vs i)) c.m) && (decide ((c.k : Int) ≤ 16) && ((!anyP (fun i => decide (((c.bx i).length : Int) > 300)) c.k)))))))))))))
end Go.Proofs.Ytegjkfaokpjojaa

/-
  The library's slices.Concat and slices.Grow at bytes.
-/
namespace Go.Proofs.Ytegjkfaokpjojaa
set_option maxRecDepth 100000
open Go.RowKit
set_option linter.unusedVariables false
set_option linter.unusedSimpArgs false

theorem cat_flat (L : List (List UInt8)) (k : Nat) (h : k < L.length) : (L.take (k + 1)).flatten = (L.take k).flatten ++ L[k] := by
  rw [List.take_succ_eq_append_getElem h, List.flatten_append]; simp
theorem cat_le (L : List (List UInt8)) (k : Nat) : (L.take k).flatten.length ≤ L.flatten.length := by
  have h : (L.take k ++ L.drop k).flatten.length = L.flatten.length := by rw [List.take_append_drop]
  simp only [List.flatten_append, List.length_append] at h
  omega
theorem zeroCells8 (n : Nat) : Builtin.zeroCells (Value.int .u8 0).cells n = HC (List.replicate n 0) := by
  refine Array.toList_inj.1 (List.ext_getElem? fun i => ?_)
  rw [HC_toList]
  simp only [Builtin.zeroCells, HL, Value.cells, List.getElem?_map, List.getElem?_replicate]
  by_cases h : i < n
  · simp [h, Bt, Nat.mod_one]
  · simp [h]
theorem HC_append (a b : List UInt8) : HC a ++ HC b = HC (a ++ b) := by simp [HC]

end Go.Proofs.Ytegjkfaokpjojaa

/-
  Commits as bytes.
-/
namespace Go.Proofs.Ytegjkfaokpjojaa
set_option maxRecDepth 100000
open Go.RowKit Pm
set_option linter.unusedVariables false
set_option linter.unusedSimpArgs false
attribute [local irreducible] condK LoopA regA numB numsB boxB anyP idxP withinB sigB oddOpB oddVoteB

def cOkS (k : CS → Res → (Res → Prop) → Prop) : List A → (Res → Prop) → Prop
  | [.agg l], K => ∃ c, l = cSegs c ∧ CSok c ∧ k c (.d (.v undef)) K
  | _, _ => False
/-- a commit handed in: what comes of it -/
def cS (res : CS → Res) : List A → (Res → Prop) → Prop
  | [.agg l], K => ∃ c, l = cSegs c ∧ CSok c ∧ K (res c)
  | _, _ => False
theorem cS_of {f : FuncId} {res : CS → Res} (h : ∀ c, CSok c → FnO f [.agg (cSegs c)] (res c)) : ∀ args K, cS res args K → ∃ r, FnO f args r ∧ K r := by
  intro args K hd
  unfold cS at hd
  split at hd
  · obtain ⟨c, rfl, h1, h2⟩ := hd
    exact ⟨_, h c h1, h2⟩
  · exact hd.elim
noncomputable def envCh : EnvX := envCg
noncomputable def envCi : EnvX := envCh
noncomputable def envCj : EnvX := envCi
def commitB (c : CS) : List UInt8 := [1] ++ (bodyB c ++ (c.tag ++ numsB [c.sE, c.sS]))
def commitN (c : CS) : Nat := 1 + (bodyN c + (32 + 16))
def commitR (c : CS) : Res := if mayB c = true then .t [.row (commitN c) [.bytes (commitN c) (commitB c)], .v (.int .i64 0)] else .t [.v (.slice none 0 0), .v (.int .i64 1)]
theorem boxB_length (bs : List UInt8) : (boxB bs).length = 8 + bs.length := by
  unfold boxB; rw [List.length_append, numsB_length]; rfl
theorem bxB_length (bx : Nat → List UInt8) : ∀ k, (bxB bx k).length = bxN bx k
  | 0 => rfl
  | k + 1 => by
    show (bxB bx k ++ boxB (bx k)).length = bxN bx k + (8 + (bx k).length)
    rw [List.length_append, bxB_length bx k, boxB_length]
theorem body_length {c : CS} (hc : CSok c) : (bodyB c).length = bodyN c := by
  unfold bodyB bodyMid bodyHead bodyN
  simp only [List.length_append, numsB_length, bxB_length, hc.ops, hc.vs, List.length_cons, List.length_nil]
  omega
attribute [local irreducible] mayB bodyB
def commitS : List A → (Res → Prop) → Prop
  | [.agg l], K => ∃ c, l = cSegs c ∧ CSok c ∧ c.tag.length = 32 ∧ K (commitR c)
  | _, _ => False
theorem commitS_of {f : FuncId} (h : ∀ c, CSok c → c.tag.length = 32 → FnO f [.agg (cSegs c)] (commitR c)) : ∀ args K, commitS args K → ∃ r, FnO f args r ∧ K r := by
  intro args K hd
  unfold commitS at hd
  split at hd
  · obtain ⟨c, rfl, h1, h2, h3⟩ := hd
    exact ⟨_, h c h1 h2, h3⟩
  · exact hd.elim
noncomputable def envCk : EnvX := envCj
end Go.Proofs.Ytegjkfaokpjojaa
