/-
  The document's parties: a commit, its welcomes told one by one.
-/
import Derived.Test.YtegjkfaokpjojaaGreatDoorJ44
import Derived.Test.YtegjkfaokpjojaaGreatDoorJ40
import Derived.Test.YtegjkfaokpjojaaGreatDoorJ37
import Derived.Test.YtegjkfaokpjojaaGreatDoorJ39
import Derived.Test.YtegjkfaokpjojaaGreatDoorJ35
namespace Go.Proofs.YtegjkfaokpjojaaGreatDoor
set_option maxRecDepth 100000
open Go.RowKit Pm
set_option linter.unusedVariables false
set_option linter.unusedSimpArgs false
attribute [local irreducible] condK LoopA regA powI scal mulI isI deriveW numB numsB bodyB nodeW nextW viewHV doR chkV planL sealB boxD helD commonI keyZ placeI apE doP comE comP nextP joinP upW z480

def comQ (p : XS) (n : Nat) (ops : List Int) (m : Nat) (vs : List Int) (d : List UInt8) (s : Vw) (own U T : List UInt8) (Z : List Int) (SS : List UInt8) (HH : List Bool) : List A :=
  let pl := planL Z p.lf s.ng
  let bx : Nat → List UInt8 := fun j => sealB (keyZ Z (pl.getD j (0, 0)).2) (scal (boxD d (j : Nat))) (abK U (pl.getD j (0, 0)).1.toNat)
  let ch1 := cch p n ops m vs own U pl bx
  let tg := ctg p s ch1 T Z
  let q := cq p s ch1 T Z SS HH
  [.agg (cSegs2 (cC p n ops m vs own U pl bx tg)), .recs (welN s.ng 8) 108 (welF (cW p Z s ch1 tg (cB p d Z (joiW p.ini T) q)) s.ng 8), .sref (xSegs q) 0, .v (.int .i64 0)]
/-- what a commit answers, its welcomes told one by one -/
def xcomQ (p : XS) (n : Nat) (ops : List Int) (m : Nat) (vs : List Int) (d : List UInt8) : List A :=
  if chkV p.e p.zs p.ad p.k p.ch p.lf ops n vs m = 0 then
    if (doR p.e ⟨p.zs, p.ad, p.k, F8, F8⟩ p.lf ops n).1 = 0 then
      if p.e ≥ 1099511627776 then [.agg cSZ, .v (.slice none 0 0), .v (.pointer none), .v (.int .i64 12)]
      else comQ p n ops m vs d (doR p.e ⟨p.zs, p.ad, p.k, F8, F8⟩ p.lf ops n).2 (deriveW d (sb ⟨#[108, 101, 97, 102]⟩) []) (upW (deriveW d (sb ⟨#[108, 101, 97, 102]⟩) [])) (topW (deriveW d (sb ⟨#[108, 101, 97, 102]⟩) []))
        (comZ p (doR p.e ⟨p.zs, p.ad, p.k, F8, F8⟩ p.lf ops n).2 (deriveW d (sb ⟨#[108, 101, 97, 102]⟩) []) (upW (deriveW d (sb ⟨#[108, 101, 97, 102]⟩) []))) (comSS p (deriveW d (sb ⟨#[108, 101, 97, 102]⟩) []) (upW (deriveW d (sb ⟨#[108, 101, 97, 102]⟩) []))) (comHH p)
    else [.agg cSZ, .v (.slice none 0 0), .v (.pointer none), .v (.int .i64 (doR p.e ⟨p.zs, p.ad, p.k, F8, F8⟩ p.lf ops n).1)]
  else [.agg cSZ, .v (.slice none 0 0), .v (.pointer none), .v (.int .i64 (chkV p.e p.zs p.ad p.k p.ch p.lf ops n vs m))]
theorem fn_t2 {P : Program} {G : Nat → Option (List Seg)} {f : FuncId} {args l l' : List A} (h : ∀ {S : Nat → Prop} {w : World} {vs : List Value}, RAs S w l vs → RAs S w l' vs) (hx : FnOK P G f args (.t l)) : FnOK P G f args (.t l') := by
  intro S w vs hG ha
  refine (hx S w vs hG ha).mono ?_
  rintro e w' ⟨v, h1, ⟨vs', h2, h3⟩, h4⟩
  exact ⟨v, h1, ⟨vs', h2, h h3⟩, h4⟩
theorem xcommitQ_fn (p : XS) (n : Nat) (ops : List Int) (hn : n ≤ 3000) (m : Nat) (vs : List Int) (hm : m ≤ 3000) (d : List UInt8) (hf : leafB p.lf = true) (he : -4611686018427387904 ≤ p.e ∧ p.e ≤ 4611686018427387904) (hx0 : 1 ≤ p.x) (hx1 : p.x < 1073741789) (hy : p.y = powI 4 p.x)
    (hng : (doR p.e ⟨p.zs, p.ad, p.k, F8, F8⟩ p.lf ops n).1 = 0 → ∀ j : Nat, (doR p.e ⟨p.zs, p.ad, p.k, F8, F8⟩ p.lf ops n).2.ng.getD j false = true → (j : Int) ≠ p.lf) :
    FnO 11 [.sref (xSegs p) 0, .row n [.ints .i64 (n * 5) ops], .row m [.ints .i64 (m * 3) vs], .agg [.bytes 32 d]] (.t (xcomQ p n ops m vs d)) := by
  refine fn_t2 (fun {S w v} h => ?_) (xcommit_fn p n ops hn m vs hm d hf he hx0 hx1 hy hng)
  unfold xcomR at h
  unfold xcomQ
  by_cases h1 : chkV p.e p.zs p.ad p.k p.ch p.lf ops n vs m = 0
  · rw [if_pos h1] at h ⊢
    by_cases h2 : (doR p.e ⟨p.zs, p.ad, p.k, F8, F8⟩ p.lf ops n).1 = 0
    · rw [if_pos h2] at h ⊢
      by_cases h3 : p.e ≥ 1099511627776
      · rw [if_pos h3] at h ⊢; exact h
      · rw [if_neg h3] at h ⊢
        unfold comA at h
        unfold comQ
        cases h with
        | cons k1 k => cases k with
          | cons k2 k => exact .cons k1 (.cons (ra_wel (fun _ => rfl) k2) k)
    · rw [if_neg h2] at h ⊢; exact h
  · rw [if_neg h1] at h ⊢; exact h
end Go.Proofs.YtegjkfaokpjojaaGreatDoor

/-
  The document's parties: where a welcome's secret lies. Mathematics.
-/
namespace Go.Proofs.YtegjkfaokpjojaaGreatDoor
set_option maxRecDepth 100000
open Go.RowKit Pm
set_option linter.unusedVariables false
set_option linter.unusedSimpArgs false

/-- the welcomes hang on those alone who are new -/
theorem welF_congr {W W' : Nat → List Seg} {ng : List Bool} (h : ∀ j, ng.getD j false = true → W j = W' j) : ∀ k i, welF W ng k i = welF W' ng k i
  | 0, _ => rfl
  | k + 1, i => by
    rw [welF, welF]
    by_cases hb : ng.getD k false = true
    · rw [if_pos hb, if_pos hb, h k hb, welF_congr h k i]
    · rw [if_neg hb, if_neg hb, welF_congr h k i]
theorem common_at : ∀ a : Nat, a < 8 → ∀ b : Nat, b < 8 → a ≠ b → (commonI (a : Int) b = (b : Int) / 2 * 4 + 1 ∧ placeI b (commonI a b) = 0) ∨ (commonI (a : Int) b = (b : Int) / 4 * 8 + 3 ∧ placeI b (commonI a b) = 1) ∨ (commonI (a : Int) b = 7 ∧ placeI b (commonI a b) = 2) := by
  unfold commonI placeI
  decide +kernel
theorem blk_common {p : PS} (h : PInv p) {j : Nat} (hj : j < 8) (hne : (j : Int) ≠ p.lf) : blk (sP p) (commonI (j : Nat) p.lf).toNat = abK p.ab (placeI p.lf (commonI (j : Nat) p.lf)).toNat := by
  obtain ⟨k1, k2, k3, k4, k5, k6, k7, k8, k9⟩ := ns_lt h.lf0 h.lf1
  have hl0 := h.lf0
  have hl1 := h.lf1
  obtain ⟨n, hn⟩ := Int.eq_ofNat_of_zero_le hl0
  have hc := common_at j hj n (by omega) (by omega)
  rw [← hn] at hc
  rcases hc with ⟨c, e⟩ | ⟨c, e⟩ | ⟨c, e⟩
  · have c1 : (commonI (j : Nat) p.lf).toNat = n1 p.lf := by rw [c]; try rfl
    rw [e, c1, sP_blk h k2, if_neg k8, if_neg k7, if_pos rfl]; rfl
  · have c1 : (commonI (j : Nat) p.lf).toNat = n2 p.lf := by rw [c]; try rfl
    rw [e, c1, sP_blk h k3, if_neg k9, if_pos rfl]; rfl
  · have c1 : (commonI (j : Nat) p.lf).toNat = 7 := by rw [c]; rfl
    rw [e, c1, sP_blk h (by decide), if_pos rfl]; rfl
end Go.Proofs.YtegjkfaokpjojaaGreatDoor

/-
  The document's parties: what a commit holds, told by the program's next party. Mathematics.
-/
namespace Go.Proofs.YtegjkfaokpjojaaGreatDoor
set_option maxRecDepth 100000
open Go.RowKit Pm
set_option linter.unusedVariables false
set_option linter.unusedSimpArgs false

theorem comZ_eq (p : PS) (s : Vw) (d : List UInt8) : comZ (xOf p) s (lefW d) (upW (lefW d)) = behZ s.zs p.lf (nodeY (lefW d)) (nodeY (nextW (lefW d))) (nodeY (nextW (nextW (lefW d)))) (nodeY (nextW (nextW (nextW (lefW d))))) := by
  unfold comZ behZ nodeY
  rw [up_one, up_two, up_three]
  dsimp only [xOf]
theorem comSS_eq {p q : PS} {d : List UInt8} (hl : q.lf = p.lf) (hs : q.sc = lefW d) (ha : q.ab = upW (lefW d)) : comSS (xOf p) (lefW d) (upW (lefW d)) = sP q := by
  unfold comSS sP abK n1 n2
  rw [hl, hs, ha]
  dsimp only [xOf]
  rw [show 0 * 32 = 0 from rfl, show 1 * 32 = 32 from rfl, show 2 * 32 = 64 from rfl, List.drop_zero]
theorem comHH_eq {p q : PS} (hl : q.lf = p.lf) (h1 : nodeK q.zs (16 + n1 q.lf) = true) (h2 : nodeK q.zs (16 + n2 q.lf) = true) (h3 : nodeK q.zs 23 = true) : comHH (xOf p) = hasZ q := by
  unfold comHH hasZ hasP
  rw [h1, h2, h3, hl]
  unfold n1 n2
  dsimp only [xOf]
theorem bxB_congr {f g : Nat → List UInt8} : ∀ {k : Nat}, (∀ j, j < k → f j = g j) → bxB f k = bxB g k
  | 0, _ => rfl
  | k + 1, h => by
    have h1 := bxB_congr (k := k) fun j hj => h j (by omega)
    have h2 := h k (by omega)
    rw [bxB, bxB, h1, h2]
theorem rowsF_congr {f g : Nat → List UInt8} : ∀ {k : Nat}, (∀ j, j < k → f j = g j) → rowsF f k = rowsF g k
  | 0, _ => rfl
  | k + 1, h => by
    rw [rowsF_succ, rowsF_succ, rowsF_congr (k := k) fun j hj => h j (by omega), h k (by omega)]
/-- the boxes are the program's -/
theorem box_eq {p : PS} (f0 : 0 ≤ p.lf) (f1 : p.lf < 8) (s : Vw) (d : List UInt8) {Z : List Int} (hZ : Z = comZ (xOf p) s (lefW d) (upW (lefW d))) :
    planL Z p.lf s.ng = planL s.zs p.lf s.ng ∧ ∀ j, j < (planL s.zs p.lf s.ng).length → sealB (keyZ Z ((planL Z p.lf s.ng).getD j (0, 0)).2) (scal (boxD d (j : Nat))) (abK (upW (lefW d)) ((planL Z p.lf s.ng).getD j (0, 0)).1.toNat) = boxesP s.zs p.lf s.ng (upW (lefW d)) d j := by
  rw [comZ_eq] at hZ
  have h := plan_beh f0 f1 s.zs (nodeY (lefW d)) (nodeY (nextW (lefW d))) (nodeY (nextW (nextW (lefW d)))) (nodeY (nextW (nextW (nextW (lefW d))))) s.ng
  rw [← hZ] at h
  refine ⟨h, fun j hj => ?_⟩
  have hm : (planL s.zs p.lf s.ng).getD j (0, 0) ∈ planL s.zs p.lf s.ng := by rw [List.getD_eq_getElem?_getD, List.getElem?_eq_getElem hj]; exact List.getElem_mem hj
  have hk := plan_key f0 f1 s.zs (nodeY (lefW d)) (nodeY (nextW (lefW d))) (nodeY (nextW (nextW (lefW d)))) (nodeY (nextW (nextW (nextW (lefW d))))) hm
  rw [← hZ] at hk
  rw [h, hk]
  unfold boxesP boxOf
  rfl
/-- the body hangs on the boxes below their number alone, and on neither tag nor signature -/
theorem bodyB_like {c c' : CS} (he : c.e = c'.e) (hf : c.fr = c'.fr) (hn : c.n = c'.n) (ho : c.ops = c'.ops) (hm : c.m = c'.m) (hv : c.vs = c'.vs) (h0 : c.sl = c'.sl) (h1 : c.p0 = c'.p0) (h2 : c.p1 = c'.p1) (h3 : c.p2 = c'.p2) (hk : c.k = c'.k) (hb : ∀ j, j < c'.k → c.bx j = c'.bx j) : bodyB c = bodyB c' := by
  unfold bodyB bodyMid bodyHead
  rw [he, hf, hn, ho, hm, hv, h0, h1, h2, h3, hk, bxB_congr hb]
/-- the document's body is the program's -/
theorem body_eq {p : PS} (f0 : 0 ≤ p.lf) (f1 : p.lf < 8) (s : Vw) (n : Nat) (ops : List Int) (m : Nat) (vs : List Int) (d : List UInt8) {Z : List Int} (hZ : Z = comZ (xOf p) s (lefW d) (upW (lefW d))) (tag : List UInt8) (sE sS : Int) :
    bodyB (cc0 (xOf p) n ops m vs (lefW d) (upW (lefW d)) (planL Z p.lf s.ng) (fun j => sealB (keyZ Z ((planL Z p.lf s.ng).getD j (0, 0)).2) (scal (boxD d (j : Nat))) (abK (upW (lefW d)) ((planL Z p.lf s.ng).getD j (0, 0)).1.toNat)) tag sE sS) = bodyB (com0 p s n ops m vs d) := by
  obtain ⟨k1, k2⟩ := box_eq f0 f1 s d hZ
  refine bodyB_like rfl rfl rfl rfl rfl rfl rfl ?_ ?_ ?_ ?_ ?_
  · dsimp only [cc0, com0]; rw [up_one]; rfl
  · dsimp only [cc0, com0]; rw [up_two]; rfl
  · dsimp only [cc0, com0]; rw [up_three]; rfl
  · dsimp only [cc0, com0]; rw [k1]
  · dsimp only [cc0, com0]; exact k2
/-- the document's next party is alike to the program's -/
theorem q_eq {p : PS} {s : Vw} {n : Nat} {ops : List Int} {m : Nat} {vs : List Int} {d ch1 SS : List UInt8} {Z : List Int} {HH : List Bool} (hZ : Z = comZ (xOf p) s (lefW d) (upW (lefW d))) (hc : ch1 = chnW p.ch (bodyB (com0 p s n ops m vs d))) (hS : SS = sP (nextP p s n ops m vs d)) (hH : HH = hasZ (nextP p s n ops m vs d)) :
    cq (xOf p) s ch1 (topW (lefW d)) Z SS HH = xOf (nextP p s n ops m vs d) := by
  rw [comZ_eq] at hZ
  obtain ⟨b, hb⟩ : ∃ b, b = bodyB (com0 p s n ops m vs d) := ⟨_, rfl⟩
  unfold xOf
  rw [← hS, ← hH]
  unfold nextP reachP behP
  rw [← hb] at hc ⊢
  rw [hZ, hc]
  dsimp only [cq, enterX, xOf, renewP, enterP, com0, joinP]
theorem tg_eq {p : PS} {s : Vw} {n : Nat} {ops : List Int} {m : Nat} {vs : List Int} {d ch1 : List UInt8} {Z : List Int} (hZ : Z = comZ (xOf p) s (lefW d) (upW (lefW d))) (hc : ch1 = chnW p.ch (bodyB (com0 p s n ops m vs d))) :
    ctg (xOf p) s ch1 (topW (lefW d)) Z = tagE (nextP p s n ops m vs d).ep := by
  rw [comZ_eq] at hZ
  obtain ⟨b, hb⟩ : ∃ b, b = bodyB (com0 p s n ops m vs d) := ⟨_, rfl⟩
  unfold nextP reachP behP
  rw [← hb] at hc ⊢
  rw [hZ, hc]
  dsimp only [ctg, xOf, renewP, enterP, com0, joinP]
/-- the document's commit is the program's -/
theorem c_eq {p : PS} (f0 : 0 ≤ p.lf) (f1 : p.lf < 8) {s : Vw} {n : Nat} {ops : List Int} {m : Nat} {vs : List Int} {d tg : List UInt8} {Z : List Int} (hZ : Z = comZ (xOf p) s (lefW d) (upW (lefW d))) (ht : tg = tagE (nextP p s n ops m vs d).ep) :
    cSegs2 (cC (xOf p) n ops m vs (lefW d) (upW (lefW d)) (planL Z p.lf s.ng) (fun j => sealB (keyZ Z ((planL Z p.lf s.ng).getD j (0, 0)).2) (scal (boxD d (j : Nat))) (abK (upW (lefW d)) ((planL Z p.lf s.ng).getD j (0, 0)).1.toNat)) tg) = cSegs2 (comP p s n ops m vs d) := by
  obtain ⟨k1, k2⟩ := box_eq f0 f1 s d hZ
  have hb := body_eq f0 f1 s n ops m vs d hZ tg 0 0
  obtain ⟨b, hb2⟩ : ∃ b, b = bodyB (com0 p s n ops m vs d) := ⟨_, rfl⟩
  unfold cC
  rw [hb, ← hb2]
  unfold comP
  dsimp only
  rw [← ht, ← hb2]
  unfold cSegs2
  dsimp only [cc0, com0]
  rw [k1] at k2
  have hr := rowsF_congr k2
  rw [up_one, up_two, up_three, k1, hr]
  rfl
/-- the document's welcomes are the program's -/
theorem w_eq {p Q : PS} {s : Vw} {d ch1 tg : List UInt8} {Z : List Int} (hQ : PInv Q) (hl : Q.lf = p.lf) (he : Q.e = p.e + 1) (hz : Q.zs = Z) (ha : Q.ad = s.ad) (hk : Q.k = s.k) (hc : Q.ch = ch1) (hab : Q.ab = upW (lefW d)) (ht : tg = tagE Q.ep) {j : Nat} (hj : j < 8) (hne : (j : Int) ≠ p.lf) :
    cW (xOf p) Z s ch1 tg (cB (xOf p) d Z (joiW p.ini (topW (lefW d))) (xOf Q)) j = welSegs Q (upW (lefW d)) (joinP p d) (tagE Q.ep) d j := by
  have hB : cB (xOf p) d Z (joiW p.ini (topW (lefW d))) (xOf Q) j = welBox Q (upW (lefW d)) (joinP p d) d j := by
    have hb := blk_common hQ hj (by rw [hl]; exact hne)
    unfold welBox joinP
    rw [hz, ← hab, ← hb, hl]
    rfl
  unfold cW welSegs
  rw [hB, he, hz, ha, hk, hc, hl, ht]
  rfl
/-- what the document's commit answers is alike to what the program's does -/
theorem comQ_eq {p : PS} (f0 : 0 ≤ p.lf) (f1 : p.lf < 8) (s : Vw) (n : Nat) (ops : List Int) (m : Nat) (vs : List Int) (d : List UInt8) (hQ : PInv (nextP p s n ops m vs d))
    (h1 : nodeK (nextP p s n ops m vs d).zs (16 + n1 (nextP p s n ops m vs d).lf) = true) (h2 : nodeK (nextP p s n ops m vs d).zs (16 + n2 (nextP p s n ops m vs d).lf) = true) (h3 : nodeK (nextP p s n ops m vs d).zs 23 = true)
    (hng : ∀ j : Nat, s.ng.getD j false = true → j < 8 ∧ (j : Int) ≠ p.lf) :
    comQ (xOf p) n ops m vs d s (lefW d) (upW (lefW d)) (topW (lefW d)) (comZ (xOf p) s (lefW d) (upW (lefW d))) (comSS (xOf p) (lefW d) (upW (lefW d))) (comHH (xOf p))
      = [.agg (cSegs2 (comP p s n ops m vs d)), .recs (welN s.ng 8) 108 (welF (welSegs (nextP p s n ops m vs d) (upW (lefW d)) (joinP p d) (tagE (nextP p s n ops m vs d).ep) d) s.ng 8), .sref (xSegs (xOf (nextP p s n ops m vs d))) 0, .v (.int .i64 0)] := by
  have hl : (nextP p s n ops m vs d).lf = p.lf := by dsimp only [nextP, reachP, behP, renewP, enterP]
  have hs : (nextP p s n ops m vs d).sc = lefW d := by dsimp only [nextP, reachP, behP, renewP, enterP]
  have ha : (nextP p s n ops m vs d).ab = upW (lefW d) := by dsimp only [nextP, reachP, behP, renewP, enterP]
  have he : (nextP p s n ops m vs d).e = p.e + 1 := by dsimp only [nextP, reachP, behP, renewP, enterP]
  have had : (nextP p s n ops m vs d).ad = s.ad := by dsimp only [nextP, reachP, behP, renewP, enterP]
  have hk : (nextP p s n ops m vs d).k = s.k := by dsimp only [nextP, reachP, behP, renewP, enterP]
  have hch : (nextP p s n ops m vs d).ch = chnW p.ch (bodyB (com0 p s n ops m vs d)) := by dsimp only [nextP, reachP, behP, renewP, enterP]
  have hzs : (nextP p s n ops m vs d).zs = comZ (xOf p) s (lefW d) (upW (lefW d)) := by rw [comZ_eq]; dsimp only [nextP, reachP, behP, renewP, enterP, com0]
  rw [comSS_eq hl hs ha, comHH_eq hl h1 h2 h3]
  obtain ⟨Z, hZ⟩ : ∃ Z, Z = comZ (xOf p) s (lefW d) (upW (lefW d)) := ⟨_, rfl⟩
  rw [← hZ] at hzs ⊢
  have hb := fun t => body_eq f0 f1 s n ops m vs d hZ t 0 0
  have hc : cch (xOf p) n ops m vs (lefW d) (upW (lefW d)) (planL Z p.lf s.ng) (fun j => sealB (keyZ Z ((planL Z p.lf s.ng).getD j (0, 0)).2) (scal (boxD d (j : Nat))) (abK (upW (lefW d)) ((planL Z p.lf s.ng).getD j (0, 0)).1.toNat)) = chnW p.ch (bodyB (com0 p s n ops m vs d)) := congrArg (chnW p.ch) (hb _)
  have ht := tg_eq hZ hc
  have hq := q_eq hZ hc rfl rfl
  unfold comQ
  dsimp only
  rw [show (xOf p).lf = p.lf from rfl, show (xOf p).ini = p.ini from rfl, hq, ht, c_eq f0 f1 hZ rfl]
  refine congrArg (fun W => [A.agg (cSegs2 (comP p s n ops m vs d)), A.recs (welN s.ng 8) 108 W, A.sref (xSegs (xOf (nextP p s n ops m vs d))) 0, A.v (.int .i64 0)]) ?_
  funext i
  refine welF_congr (fun j hj => ?_) 8 i
  obtain ⟨j1, j2⟩ := hng j hj
  exact w_eq hQ hl he hzs had hk (hch.trans hc.symm) ha rfl j1 j2
end Go.Proofs.YtegjkfaokpjojaaGreatDoor

/-
  The document's parties: a commit by one whose keys are its own, told by the program's next party.
-/
namespace Go.Proofs.YtegjkfaokpjojaaGreatDoor
set_option maxRecDepth 100000
open Go.RowKit Pm
set_option linter.unusedVariables false
set_option linter.unusedSimpArgs false

theorem create_fields (h : List UInt8) : (createP h).e = 0 ∧ (createP h).zs = [powI 4 (scal (sgnW h)), nodeY (lefW h)] ++ List.replicate 29 0 ∧ (createP h).ad = [true, false, false, false, false, false, false, false] ∧ (createP h).k = 1 ∧ (createP h).ch = zB 32 ∧ (createP h).lf = 0 ∧
    (createP h).sg = sgnW h ∧ (createP h).sc = lefW h ∧ (createP h).ab = zB 96 ∧ (createP h).ep = fstW (lefW h) ∧ (createP h).ini = iniW (fstW (lefW h)) := by
  unfold createP enterP leafZ
  exact ⟨rfl, rfl, rfl, rfl, rfl, rfl, rfl, rfl, rfl, rfl, rfl⟩
theorem own_of {p : PS} {x y : Int} (h1 : p.zs = [x, y] ++ List.replicate 29 0) (h2 : p.ad.length = 8) (h3 : p.ch.length = 32) (h4 : p.lf = 0) (h5 : p.sg.length = 32) (h6 : p.sc.length = 32) (h7 : p.ab = zB 96) (h8 : p.ep.length = 32) (h9 : p.ini.length = 32) (hm : mayV p.e p.zs p.ad p.k = true) (hx : x = powI 4 (scal p.sg)) (hy : y = nodeY p.sc) : Own p := by
  have z : ∀ k, k < 3 → abK (zB 96) k = zB 32 := fun k hk => by
    unfold abK
    rw [List.drop_replicate, List.take_replicate, show min 32 (96 - k * 32) = 32 by omega]
  have n : ∀ j : Nat, 2 ≤ j → j < 31 → p.zs.getD j 0 = 0 := fun j hj hj2 => by
    rw [h1, List.getD_eq_getElem?_getD, List.getElem?_append_right (by simp; omega), List.getElem?_replicate, if_pos (by simp; omega)]
    rfl
  have k1 : nodeK p.zs (16 + n1 p.lf) = false := (nodeK_not _ _).2 (n _ (by unfold n1; omega) (by rw [h4]; decide))
  have k2 : nodeK p.zs (16 + n2 p.lf) = false := (nodeK_not _ _).2 (n _ (by unfold n2; omega) (by rw [h4]; decide))
  have k3 : nodeK p.zs 23 = false := (nodeK_not _ _).2 (n _ (by decide) (by decide))
  refine ⟨⟨by omega, by omega, by rw [h1]; simp, h2, h3, h5, h6, by rw [h7]; simp, h8, h9, fun _ => by rw [h7]; exact z 0 (by decide), fun _ => by rw [h7]; exact z 1 (by decide), fun _ => by rw [h7]; exact z 2 (by decide)⟩, hm, ?_, fun h => by (rw [k1] at h; cases h), fun h => by (rw [k2] at h; cases h), fun h => by (rw [k3] at h; cases h)⟩
  rw [h4, h1, hx, hy]
  rfl
theorem create_own (h : List UInt8) : Own (createP h) := by
  obtain ⟨_, k2, k3, _, k5, k6, k7, k8, k9, k10, k11⟩ := create_fields h
  exact own_of k2 (by rw [k3]; rfl) (by rw [k5]; simp) k6 (by rw [k7]; exact sgnW_len _) (by rw [k8]; exact lefW_len _) k9 (by rw [k10]; exact fstW_len _) (by rw [k11]; exact iniW_len _) (create_may h) (by rw [k7]) (by rw [k8])
/-- the nodes above who has committed have keys -/
theorem com_nodes {q : PS} (hq : Own q) {n : Nat} {ops : List Int} {m : Nat} {vs : List Int} (hc : comE q n ops m vs = 0) (d : List UInt8) :
    nodeK (nextP q (doP q q.lf n ops) n ops m vs d).zs (16 + n1 q.lf) = true ∧ nodeK (nextP q (doP q q.lf n ops) n ops m vs d).zs (16 + n2 q.lf) = true ∧ nodeK (nextP q (doP q q.lf n ops) n ops m vs d).zs 23 = true := by
  obtain ⟨h1, h2, h3⟩ := comE_0 hc
  obtain ⟨g, gk, gm, _⟩ := goes_of hq.inv.zl hq.inv.al h2
  have l0 := hq.inv.lf0
  have l1 := hq.inv.lf1
  have hg : Goes q.zs (doP q q.lf n ops) := g
  rw [nextP_zs]
  generalize doP q q.lf n ops = s at hg
  have get := behZ_get hg.zl l0 l1 (nodeY (lefW d)) (nodeY (nextW (lefW d))) (nodeY (nextW (nextW (lefW d)))) (nodeY (nextW (nextW (nextW (lefW d)))))
  have yes : ∀ {k : Nat} {x : List UInt8}, (behZ s.zs q.lf (nodeY (lefW d)) (nodeY (nextW (lefW d))) (nodeY (nextW (nextW (lefW d)))) (nodeY (nextW (nextW (nextW (lefW d)))))).getD k 0 = nodeY x → nodeK (behZ s.zs q.lf (nodeY (lefW d)) (nodeY (nextW (lefW d))) (nodeY (nextW (nextW (lefW d)))) (nodeY (nextW (nextW (nextW (lefW d)))))) k = true := fun {k x} e => by
    cases hk : nodeK (behZ s.zs q.lf (nodeY (lefW d)) (nodeY (nextW (lefW d))) (nodeY (nextW (nextW (lefW d)))) (nodeY (nextW (nextW (nextW (lefW d)))))) k with
    | true => rfl
    | false => exact ((nodeY_ne _) (e.symm.trans ((nodeK_not _ _).1 hk))).elim
  refine ⟨yes (x := nextW (lefW d)) ?_, yes (x := nextW (nextW (lefW d))) ?_, yes (x := nextW (nextW (nextW (lefW d)))) ?_⟩
  · rw [get]; unfold n1 n2; rw [if_neg (by omega), if_neg (by omega), if_pos rfl]
  · rw [get]; unfold n2; rw [if_neg (by omega), if_pos rfl]
  · rw [get, if_pos rfl]
theorem own_ng {q : PS} (hq : Own q) {n : Nat} {ops : List Int} (h2 : (doR q.e ⟨q.zs, q.ad, q.k, F8, F8⟩ q.lf ops n).1 = 0) : ∀ j : Nat, (doR q.e ⟨q.zs, q.ad, q.k, F8, F8⟩ q.lf ops n).2.ng.getD j false = true → j < 8 ∧ (j : Int) ≠ q.lf := by
  have l0 := hq.inv.lf0
  have e : ((q.lf.toNat : Nat) : Int) = q.lf := by omega
  have hst : Stay q.zs q.lf.toNat (doR q.e ⟨q.zs, q.ad, q.k, F8, F8⟩ q.lf ops n).2 := by
    have h2' := h2
    rw [← e] at h2'
    have := (stay_of hq.inv.zl hq.inv.al h2').2
    rw [e] at this
    exact this
  intro j hj
  refine ⟨?_, fun he => ?_⟩
  · rcases Nat.lt_or_ge j 8 with h | h
    · exact h
    · rw [List.getD_eq_getElem?_getD, List.getElem?_eq_none (by rw [hst.nl]; omega)] at hj
      cases hj
  · have : j = q.lf.toNat := by omega
    rw [this, hst.ng] at hj
    cases hj
def xcomP (p : PS) (n : Nat) (ops : List Int) (m : Nat) (vs : List Int) (d : List UInt8) : List A :=
  if comE p n ops m vs = 0 then [.agg (cSegs2 (comP p (doP p p.lf n ops) n ops m vs d)), .recs (welN (doP p p.lf n ops).ng 8) 108 (welF (welSegs (nextP p (doP p p.lf n ops) n ops m vs d) (upW (lefW d)) (joinP p d) (tagE (nextP p (doP p p.lf n ops) n ops m vs d).ep) d) (doP p p.lf n ops).ng 8), .sref (xSegs (xOf (nextP p (doP p p.lf n ops) n ops m vs d))) 0, .v (.int .i64 0)]
  else [.agg cSZ, .v (.slice none 0 0), .v (.pointer none), .v (.int .i64 (comE p n ops m vs))]
theorem xcom_eq {p : PS} (hp : Own p) (n : Nat) (ops : List Int) (m : Nat) (vs : List Int) (d : List UInt8) : xcomQ (xOf p) n ops m vs d = xcomP p n ops m vs d := by
  unfold xcomQ xcomP
  by_cases hc : comE p n ops m vs = 0
  · obtain ⟨h1, h2, h3⟩ := comE_0 hc
    obtain ⟨k1, k2, k3⟩ := com_nodes hp hc d
    rw [if_pos hc, if_pos (show chkV (xOf p).e (xOf p).zs (xOf p).ad (xOf p).k (xOf p).ch (xOf p).lf ops n vs m = 0 from h1), if_pos (show (doR (xOf p).e ⟨(xOf p).zs, (xOf p).ad, (xOf p).k, F8, F8⟩ (xOf p).lf ops n).1 = 0 from h2), if_neg (show ¬ (xOf p).e ≥ 1099511627776 from by show ¬ p.e ≥ _; omega)]
    exact comQ_eq hp.inv.lf0 hp.inv.lf1 (doP p p.lf n ops) n ops m vs d (com_own hp hc d).inv k1 k2 k3 (own_ng hp h2)
  · rw [if_neg hc]
    unfold comE at hc
    by_cases h1 : chkV p.e p.zs p.ad p.k p.ch p.lf ops n vs m = 0
    · rw [if_pos (show chkV (xOf p).e (xOf p).zs (xOf p).ad (xOf p).k (xOf p).ch (xOf p).lf ops n vs m = 0 from h1)]
      have e1 : comE p n ops m vs = if (doR p.e ⟨p.zs, p.ad, p.k, F8, F8⟩ p.lf ops n).1 ≠ 0 then (doR p.e ⟨p.zs, p.ad, p.k, F8, F8⟩ p.lf ops n).1 else if p.e ≥ 1099511627776 then 12 else 0 := by unfold comE; rw [if_neg (fun x => x h1)]
      by_cases h2 : (doR p.e ⟨p.zs, p.ad, p.k, F8, F8⟩ p.lf ops n).1 = 0
      · rw [if_pos (show (doR (xOf p).e ⟨(xOf p).zs, (xOf p).ad, (xOf p).k, F8, F8⟩ (xOf p).lf ops n).1 = 0 from h2)]
        rw [if_neg (fun x => x h2)] at e1
        rw [if_neg (fun x => x h1), if_neg (fun x => x h2)] at hc
        have h3 : p.e ≥ 1099511627776 := by
          by_cases h3 : p.e ≥ 1099511627776
          · exact h3
          · rw [if_neg h3] at hc; exact (hc rfl).elim
        rw [if_pos (show (xOf p).e ≥ 1099511627776 from h3), e1, if_pos h3]
      · rw [if_neg (show ¬ (doR (xOf p).e ⟨(xOf p).zs, (xOf p).ad, (xOf p).k, F8, F8⟩ (xOf p).lf ops n).1 = 0 from h2), e1, if_pos h2]
        rfl
    · have e1 : comE p n ops m vs = chkV p.e p.zs p.ad p.k p.ch p.lf ops n vs m := by unfold comE; rw [if_pos h1]
      rw [if_neg (show ¬ chkV (xOf p).e (xOf p).zs (xOf p).ad (xOf p).k (xOf p).ch (xOf p).lf ops n vs m = 0 from h1), e1]
      rfl
theorem xOf_y (p : PS) : (xOf p).y = powI 4 (xOf p).x := by dsimp only [xOf]
theorem xcom_own (p : PS) (hp : Own p) (n : Nat) (ops : List Int) (hn : n ≤ 3000) (m : Nat) (vs : List Int) (hm : m ≤ 3000) (d : List UInt8) :
    FnO 11 [.sref (xSegs (xOf p)) 0, .row n [.ints .i64 (n * 5) ops], .row m [.ints .i64 (m * 3) vs], .agg [.bytes 32 d]] (.t (xcomP p n ops m vs d)) := by
  rw [← xcom_eq hp]
  obtain ⟨e0, e1, _⟩ := mayV_parts.1 hp.may
  have hs := scal_bd p.sg
  have l0 := hp.inv.lf0
  have l1 := hp.inv.lf1
  exact xcommitQ_fn (xOf p) n ops hn m vs hm d (by show leafB p.lf = true; simp [leafB, l0, l1]) (by show -4611686018427387904 ≤ p.e ∧ p.e ≤ 4611686018427387904; omega) (by show 1 ≤ scal p.sg; omega) (by show scal p.sg < 1073741789; omega) (xOf_y p)
    (fun h j hj => (own_ng hp h j hj).2)
end Go.Proofs.YtegjkfaokpjojaaGreatDoor
