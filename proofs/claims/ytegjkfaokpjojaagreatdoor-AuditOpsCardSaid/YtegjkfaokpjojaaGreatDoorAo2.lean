/-
  Audits: the law of operations.
-/
import Derived.Test.YtegjkfaokpjojaaGreatDoorAo1
import Derived.Lib.Hide
namespace Go.Proofs.YtegjkfaokpjojaaGreatDoor
set_option maxRecDepth 100000
set_option pp.deepTerms true
set_option pp.maxSteps 1000000
open Go.RowKit Pm
set_option linter.unusedVariables false
set_option linter.unusedSimpArgs false

theorem next_oo2 {p : PS} {x y a b : Int} {w : Nat} (hw : w < 4) (hd : doP p p.lf (cntO w) (opsO a b w) = endO x y a b w) (hz : p.zs = Zo x y) (ha : p.ad = Ao) (hk : p.k = 1) (hl : p.lf = 0) (hx : isI x = true) (hI : isI a = true) (vs : List Int) (d : List UInt8) :
    changeB p.k p.ad p.zs (nextP p (doP p p.lf (cntO w) (opsO a b w)) (cntO w) (opsO a b w) 1 vs d).k (nextP p (doP p p.lf (cntO w) (opsO a b w)) (cntO w) (opsO a b w) 1 vs d).ad (nextP p (doP p p.lf (cntO w) (opsO a b w)) (cntO w) (opsO a b w) 1 vs d).zs = decide (w ≤ 1) := by
  have e1 : ∀ s : Vw, (nextP p s (cntO w) (opsO a b w) 1 vs d).k = s.k := fun s => by dsimp only [nextP, reachP, behP, renewP, enterP]
  have e2 : ∀ s : Vw, (nextP p s (cntO w) (opsO a b w) 1 vs d).ad = s.ad := fun s => by dsimp only [nextP, reachP, behP, renewP, enterP]
  rw [e1, e2, nextP_zs, hd, hz, ha, hk, hl]
  exact change_oo hx hI (nodeY_ne _) hw
/-- all of it, for one who begins -/
theorem ops_all {p : PS} {s1 s3 : List UInt8} {a b : Int} (hp : p = createP s1) (h1 : s1 = seedU 3) (h3 : s3 = seedU 4) (ha : a = powI 4 (scal (sgnW s3))) (hb : b = nodeY (lefW s3)) {w : Nat} (hw : w < 4) :
    appE p.e p.zs p.ad p.k p.lf (scal p.sg) p.lf (opsO a b w) (cntO w) = 0 ∧
    (∀ E S, E = sigE (scal p.sg) (paperV p.e p.zs p.ad p.k p.ch p.lf (opsO a b w)) → S = sigS (scal p.sg) (paperV p.e p.zs p.ad p.k p.ch p.lf (opsO a b w)) → comE p (cntO w) (opsO a b w) 1 [p.lf, E, S] = 0) ∧
    (∀ vs d q, q = nextP p (doP p p.lf (cntO w) (opsO a b w)) (cntO w) (opsO a b w) 1 vs d → changeB p.k p.ad p.zs q.k q.ad q.zs = decide (w ≤ 1)) ∧ leafB p.lf = true := by
  obtain ⟨f1, f2, f3, f4, f5, f6, f7, _⟩ := create_fields s1
  have hm := create_may s1
  rw [← hp] at f1 f2 f3 f4 f5 f6 f7 hm
  have ia : isI a = true := by rw [ha]; exact powI_isI _
  have ib : isI b = true := by rw [hb]; exact nodeY_isI _
  have ix : isI (powI 4 (scal (sgnW s1))) = true := powI_isI _
  have hne : a ≠ powI 4 (scal (sgnW s1)) := by rw [ha, h1, h3]; exact leaf_apart
  have hm2 : mayV p.e (Zo (powI 4 (scal (sgnW s1))) (nodeY (lefW s1))) Ao 1 = true := by
    have := hm
    rw [f2, f3, f4] at this
    exact this
  have hd := do_oo (y := nodeY (lefW s1)) ix ia ib hne hm2 hw
  have hd2 : doR p.e ⟨p.zs, p.ad, p.k, F8, F8⟩ p.lf (opsO a b w) (cntO w) = (0, endO (powI 4 (scal (sgnW s1))) (nodeY (lefW s1)) a b w) := by rw [f2, f3, f4, f6]; exact hd
  have hn : cntO w ≠ 0 := by
    have : w = 0 ∨ w = 1 ∨ w = 2 ∨ w = 3 := by omega
    rcases this with rfl | rfl | rfl | rfl <;> decide
  obtain ⟨c1, c2⟩ := com_one (x := powI 4 (scal (sgnW s1))) hn (by rw [hd2]) f2 f3 f4 f6 f1 (by rw [f7])
  refine ⟨c1, fun E S hE hS => by rw [hE, hS, f6] at *; rw [f6] at c2; exact c2, fun vs d q hq => ?_, by rw [f6]; rfl⟩
  rw [hq]
  exact next_oo2 hw (by unfold doP; rw [hd2]) f2 f3 f4 f6 ix ia vs d
attribute [local irreducible] condK LoopA regA powI scal mulI isI fourB deriveW numB numsB bodyB nodeW nextW viewHV doR chkV planL sealB boxD keyZ helD commonI placeI apE doP comE comP nextP joinP upW lefW tagE expW memTo createP enterP getM hasM putM mapG z480 xOf sgL leafZ sgnW welSegs welF changeB seedU agreeB agreeX appE sigE sigS paperV
/-- a leaf: unknown but for equations -/
def xleafE : List A → (Res → Prop) → Prop
  | [.agg [.bytes 32 h]], K => ∀ a b, a = powI 4 (scal (sgnW h)) → b = nodeY (lefW h) → K (.d (.agg [.ints .i64 2 [a, b]]))
  | _, _ => False
theorem xleafE_ok : ∀ args K, xleafE args K → ∃ r, FnO 19 args r ∧ K r := by
  intro args K h
  unfold xleafE at h
  split at h
  · have e := xleaf_fn ‹_›
    unfold leafZ at e
    exact ⟨_, e, h _ _ rfl rfl⟩
  · exact h.elim
def rappE : List A → (Res → Prop) → Prop
  | [.agg [.ints .i64 1 [e], .ints .i64 31 zs, .bools 8 ad, .ints .i64 1 [k], .bytes 32 ch], .v (.int .i64 who), .agg [.ints .i64 2 [s, y]], .v (.int .i64 fr), o], K => y = powI 4 s ∧ 1 ≤ s ∧ s < 1073741789 ∧ opsK o fun n ops => appE e zs ad k who s fr ops n = 0 ∧ ∀ E S, E = sigE s (paperV e zs ad k ch fr ops) → S = sigS s (paperV e zs ad k ch fr ops) → K (.t [.agg [.ints .i64 3 [who, E, S]], .v (.int .i64 0)])
  | _, _ => False
theorem ra_five {S : Nat → Prop} {w : World} {a b c d e : A} {vs : List Value} (h : RAs S w [a, b, c, d, e] vs) : ∃ x y z u v, vs = [x, y, z, u, v] ∧ RA S w a x ∧ RA S w b y ∧ RA S w c z ∧ RA S w d u ∧ RA S w e v := by
  cases h with | cons h r => cases r with | cons h2 r => cases r with | cons h3 r => cases r with | cons h4 r => cases r with | cons h5 r => cases r; exact ⟨_, _, _, _, _, rfl, h, h2, h3, h4, h5⟩
theorem rappE_ok : ∀ args K, rappE args K → ∃ r, FnO 64 args r ∧ K r := by
  intro args K h
  unfold rappE at h
  split at h
  · obtain ⟨rfl, h0, h1, h⟩ := h
    obtain ⟨n, ops, hn, ⟨he, h⟩, ho⟩ := opsK_spec h
    refine ⟨_, fun S w vs' hG ha => ?_, h _ _ rfl rfl⟩
    obtain ⟨v1, v2, v3, v4, v5, rfl, k1, k2, k3, k4, k5⟩ := ra_five ha
    have := rapprove_fn _ _ _ _ _ _ _ ⟨h0, h1⟩ _ ops n hn S w _ hG (.cons k1 (.cons k2 (.cons k3 (.cons k4 (.cons (ho k5) .nil)))))
    unfold appS at this
    rw [if_pos he] at this
    exact this
  · exact h.elim
noncomputable def envAv0 : EnvX := envAuf.add 64 rappE rappE_ok ⟨_, Tryz.func64, by kernel_rfl, by kernel_rfl⟩
noncomputable def envAv1 : EnvX := envAv0.add 19 xleafE xleafE_ok ⟨_, Tryz.func19, by kernel_rfl, by kernel_rfl⟩
set_option maxHeartbeats 2000000 in
theorem approvals_fn (p : PS) (n : Nat) (ops : List Int) (hn : n ≤ 1000000) (ha : appE p.e p.zs p.ad p.k p.lf (scal p.sg) p.lf ops n = 0) :
    FnO 20 [.sref (xSegs (xOf p)) 0, .row n [.ints .i64 (n * 5) ops]] (.d (.row 1 [.ints .i64 3 [p.lf, sigE (scal p.sg) (paperV p.e p.zs p.ad p.k p.ch p.lf ops), sigS (scal p.sg) (paperV p.e p.zs p.ad p.k p.ch p.lf ops)]])) := by
  refine fn_row (e := 90) (sz := 3) ?_
  refine fnA (E := envAv1) Tryz.func20 Tryz.ntmps20 ?_
  obtain ⟨s0, s1⟩ := scal_bd p.sg
  have hy : (xOf p).y = powI 4 (xOf p).x := by unfold xOf; rfl
  have hs0 : 1 ≤ (xOf p).x := by unfold xOf; exact s0
  have hs1 : (xOf p).x < 1073741789 := by unfold xOf; exact s1
  have ha2 : appE (xOf p).e (xOf p).zs (xOf p).ad (xOf p).k (xOf p).lf (xOf p).x (xOf p).lf ops n = 0 := by unfold xOf; exact ha
  clear ha s0 s1
  refine agow ?_; (try with_reducible exact True.intro)
  intro E S hE hS
  refine agow ?_; (try with_reducible exact True.intro)
  rw [hE, hS]
  unfold xOf
  rfl
def apprS : List A → (Res → Prop) → Prop
  | [x, o], K => xK x fun X => ∃ p, X = xOf p ∧ opsK o fun n ops => appE p.e p.zs p.ad p.k p.lf (scal p.sg) p.lf ops n = 0 ∧ ∀ E S, E = sigE (scal p.sg) (paperV p.e p.zs p.ad p.k p.ch p.lf ops) → S = sigS (scal p.sg) (paperV p.e p.zs p.ad p.k p.ch p.lf ops) → K (.d (.row 1 [.ints .i64 3 [p.lf, E, S]]))
  | _, _ => False
theorem apprS_ok : ∀ args K, apprS args K → ∃ r, FnO 20 args r ∧ K r := by
  intro args K h
  unfold apprS at h
  split at h
  · obtain ⟨X, rfl, p, rfl, h1⟩ := xK_eq h
    obtain ⟨n, ops, hn, ⟨he, h2⟩, ho⟩ := opsK_spec h1
    refine ⟨_, fun S w vs' hG ha => ?_, h2 _ _ rfl rfl⟩
    obtain ⟨v1, v2, rfl, k1, k2⟩ := ra_two ha
    exact approvals_fn p n ops hn he S w _ hG (.cons k1 (.cons (ho k2) .nil))
  · exact h.elim
noncomputable def envAv2 : EnvX := envAv1.add 20 apprS apprS_ok ⟨_, Tryz.func20, by kernel_rfl, by kernel_rfl⟩
def yTab6 (t0 : TypeId) : Option TI :=
  match t0 with
  | 68 => some (tiSl 42 1)
  | _ => yTab5 t0
set_option maxRecDepth 100000 in
theorem yOK6 : ∀ t i, yTab6 t = some i → TyOK Tryz.prog t i := by
  intro t i h
  unfold yTab6 at h
  split at h <;> first | (cases h; exact tyB_spec (by kernel_rfl)) | exact yOK5 _ _ h
set_option maxRecDepth 100000 in
theorem yEq6 : ∀ t i, yTab6 t = some i → i.eq = true → EqT Tryz.prog t i := by
  intro t i h
  unfold yTab6 at h
  split at h <;> first | (cases h; intro he; cases he; done) | (cases h; intro _; exact eqB_spec (by kernel_rfl)) | exact yEq5 _ _ h
noncomputable def envAv3 : EnvX := { envAv2.withY yTab6 yOK6 yEq6 with fz := true }
set_option maxHeartbeats 8000000 in
theorem auditOps_ok (way : Int) : FnO 5 [.v (.int .i64 way)] (.d (.v (.bool true))) := by
  refine fnA (E := envAv3) Tryz.func5 Tryz.ntmps5 ?_
  by_cases h1 : way < 0
  · refine agow ?_; (try with_reducible exact True.intro)
  by_cases h2 : way > 3
  · refine agow ?_; (try with_reducible exact True.intro)
  refine agow ?_; (try with_reducible exact True.intro)
  intro s1 hs1
  refine agow ?_; (try with_reducible exact True.intro)
  intro p hp
  refine agow ?_; (try with_reducible exact True.intro)
  intro s2 hs2
  refine agow ?_; (try with_reducible exact True.intro)
  intro x hx
  obtain rfl : x = xOf p := by rw [hx, hp, hs1, hs2]
  obtain ⟨f1, f2, f3, f4, f5, f6, f7, _⟩ := create_fields s1
  rw [← hp] at f1 f2 f3 f4 f5 f6 f7
  have hm := create_may s1
  rw [← hp] at hm
  clear hx hs2
  have hway : way = 0 ∨ way = 1 ∨ way = 2 ∨ way = 3 := by omega
  rcases hway with rfl | rfl | rfl | rfl
  · refine agow ?_; (try with_reducible exact True.intro)
    intro s3 hs3
    refine agow ?_; (try with_reducible exact True.intro)
    intro a b ha hb
    obtain ⟨A, C, H, L⟩ := ops_all (w := 0) hp hs1 hs3 ha hb (by decide)
    have HA := Lib.hid A
    have HC := Lib.hid C
    have HH := Lib.hid H
    clear A C H hp hs1 hs3 ha hb f1 f2 f3 f4 f5 f6 f7 hm
    refine agow ?_; (try with_reducible exact True.intro)
    intro E S hE hS
    have hC : comE p 1 [1, 0, 0, a, b] 1 [p.lf, E, S] = 0 := HC.out E S hE hS
    have HC2 := Lib.hid hC
    clear hC hE hS HA HC
    refine agow ?_; (try with_reducible exact True.intro)
    intro e he
    have hc0 : decide (e = 0) = true := by rw [he, HC2.out]; rfl
    clear he
    refine agow ?_; (try with_reducible exact True.intro)
    intro s c q N W hs hc hq hN hW
    have hch : changeB p.k p.ad p.zs q.k q.ad q.zs = true := HH.out [p.lf, E, S] _ q (by rw [hq, hs]; rfl)
    clear hs hc hq hN hW hc0 HC2 HH
    refine agow ?_; (try with_reducible exact True.intro)
  · refine agow ?_; (try with_reducible exact True.intro)
    intro s3 hs3
    refine agow ?_; (try with_reducible exact True.intro)
    intro a b ha hb
    obtain ⟨A, C, H, L⟩ := ops_all (w := 1) hp hs1 hs3 ha hb (by decide)
    have HA := Lib.hid A
    have HC := Lib.hid C
    have HH := Lib.hid H
    clear A C H hp hs1 hs3 ha hb f1 f2 f3 f4 f5 f6 f7 hm
    refine agow ?_; (try with_reducible exact True.intro)
    intro E S hE hS
    have hC : comE p 2 [1, 0, 0, a, b, 3, 1, 0, 0, 0] 1 [p.lf, E, S] = 0 := HC.out E S hE hS
    have HC2 := Lib.hid hC
    clear hC hE hS HA HC
    refine agow ?_; (try with_reducible exact True.intro)
    intro e he
    have hc0 : decide (e = 0) = true := by rw [he, HC2.out]; rfl
    clear he
    refine agow ?_; (try with_reducible exact True.intro)
    intro s c q N W hs hc hq hN hW
    have hch : changeB p.k p.ad p.zs q.k q.ad q.zs = true := HH.out [p.lf, E, S] _ q (by rw [hq, hs]; rfl)
    clear hs hc hq hN hW hc0 HC2 HH
    refine agow ?_; (try with_reducible exact True.intro)
  · refine agow ?_; (try with_reducible exact True.intro)
    intro s3 hs3
    refine agow ?_; (try with_reducible exact True.intro)
    intro a b ha hb
    obtain ⟨A, C, H, L⟩ := ops_all (w := 2) hp hs1 hs3 ha hb (by decide)
    have HA := Lib.hid A
    have HC := Lib.hid C
    have HH := Lib.hid H
    clear A C H hp hs1 hs3 ha hb f1 f2 f3 f4 f5 f6 f7 hm
    refine agow ?_; (try with_reducible exact True.intro)
    intro E S hE hS
    have hC : comE p 2 [1, 0, 0, a, b, 2, 1, 0, 0, 0] 1 [p.lf, E, S] = 0 := HC.out E S hE hS
    have HC2 := Lib.hid hC
    clear hC hE hS HA HC
    refine agow ?_; (try with_reducible exact True.intro)
    intro e he
    have hc0 : decide (e = 0) = true := by rw [he, HC2.out]; rfl
    clear he
    refine agow ?_; (try with_reducible exact True.intro)
    intro s c q N W hs hc hq hN hW
    have hch : changeB p.k p.ad p.zs q.k q.ad q.zs = false := HH.out [p.lf, E, S] _ q (by rw [hq, hs]; rfl)
    clear hs hc hq hN hW hc0 HC2 HH
    refine agow ?_; (try with_reducible exact True.intro)
  · refine agow ?_; (try with_reducible exact True.intro)
    intro s3 hs3
    refine agow ?_; (try with_reducible exact True.intro)
    intro a b ha hb
    obtain ⟨A, C, H, L⟩ := ops_all (w := 3) hp hs1 hs3 ha hb (by decide)
    have HA := Lib.hid A
    have HC := Lib.hid C
    have HH := Lib.hid H
    clear A C H hp hs1 hs3 ha hb f1 f2 f3 f4 f5 f6 f7 hm
    refine agow ?_; (try with_reducible exact True.intro)
    intro E S hE hS
    have hC : comE p 1 [5, 0, 1, 0, 0] 1 [p.lf, E, S] = 0 := HC.out E S hE hS
    have HC2 := Lib.hid hC
    clear hC hE hS HA HC
    refine agow ?_; (try with_reducible exact True.intro)
    intro e he
    have hc0 : decide (e = 0) = true := by rw [he, HC2.out]; rfl
    clear he
    refine agow ?_; (try with_reducible exact True.intro)
    intro s c q N W hs hc hq hN hW
    have hch : changeB p.k p.ad p.zs q.k q.ad q.zs = false := HH.out [p.lf, E, S] _ q (by rw [hq, hs]; rfl)
    clear hs hc hq hN hW hc0 HC2 HH
    refine agow ?_; (try with_reducible exact True.intro)
theorem auditOps_walk (n : Int) (hn : (Lit.int .i64 n).wf = true) {w : World} (hG : GOK gTab (fun _ => True) w) :
    Calls Tryz.prog 5 #[.int .i64 n] w fun e w' => e = .returned (.bool true) ∧ Below w.heap.size w w' :=
  law_of_fnU (auditOps_ok n) hG (.cons (.v _) .nil)
end Go.Proofs.YtegjkfaokpjojaaGreatDoor
