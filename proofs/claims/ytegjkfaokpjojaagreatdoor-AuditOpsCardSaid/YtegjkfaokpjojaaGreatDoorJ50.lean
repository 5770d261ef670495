/-
  Audits: one alone; the law of strangers.
-/
import Derived.Test.YtegjkfaokpjojaaGreatDoorJ49
import Derived.Test.YtegjkfaokpjojaaGreatDoorJ31
import Derived.Test.YtegjkfaokpjojaaGreatDoorJ45
import Derived.Test.YtegjkfaokpjojaaGreatDoorJ46
namespace Go.Proofs.YtegjkfaokpjojaaGreatDoor
set_option maxRecDepth 100000
set_option pp.deepTerms true
set_option pp.maxSteps 1000000
open Go.RowKit Pm
set_option linter.unusedVariables false
set_option linter.unusedSimpArgs false

theorem create_keys (h : List UInt8) : (createP h).lf = 0 ∧ (createP h).sg = sgnW h ∧ (createP h).zs = leafZ h ++ List.replicate 29 0 := by unfold createP enterP; exact ⟨rfl, rfl, rfl⟩
theorem isI_nz {x : Int} (h : isI x = true) : x ≠ 0 := by
  rintro rfl
  revert h
  decide
theorem keys_of {p : PS} {a b : Int} {r : List Int} (hl : p.lf = 0) (hz : p.zs = a :: b :: r) (ha : a ≠ 0) (hk : powI 4 (scal p.sg) = a) : KeysP p := by
  refine ⟨by omega, by omega, ?_, ?_⟩
  · rw [hl, hz]
    simp [memB, leafB, memL, leafP, ha]
  · rw [hl, hz, hk]
    rfl
theorem powI_isI (h : List UInt8) : isI (powI 4 (scal h)) = true := by
  have h1 := scal_bd h
  obtain ⟨m, hm⟩ := Int.eq_ofNat_of_zero_le (show 0 ≤ scal h by omega)
  rw [hm] at h1 ⊢
  rw [show powI 4 (m : Int) = (pw 4 m : Int) from powI_nat 4 m (by decide) (by omega)]
  exact isI_four m (by omega) (by omega)
attribute [local irreducible] condK LoopA regA powI scal mulI isI fourB deriveW numB numsB bodyB nodeW nextW viewHV doR chkV planL sealB boxD keyZ helD commonI placeI apE doP comE comP nextP joinP upW lefW tagE expW memTo createP enterP getM hasM putM mapG z480 xOf sgL leafZ sgnW
theorem create_keysP {h : List UInt8} {p : PS} (hp : p = createP h) : KeysP p := by
  obtain ⟨h1, h2, h3⟩ := create_keys h
  rw [← hp] at h1 h2 h3
  refine keys_of (a := powI 4 (scal (sgnW h))) (b := nodeY (lefW h)) (r := List.replicate 29 0) h1 ?_ (isI_nz (powI_isI _)) (by rw [h2])
  rw [h3]
  unfold leafZ
  rfl
def keysS : List A → (Res → Prop) → Prop
  | [.v (.pointer none)], K => K (.d (.v (.bool false)))
  | [x], K => prK x fun p => KeysP p ∧ K (.d (.v (.bool true)))
  | _, _ => False
theorem keysS_ok : ∀ args K, keysS args K → ∃ r, FnO 13 args r ∧ K r := by
  intro args K h
  unfold keysS at h
  split at h
  · exact ⟨_, keys0_fn, h⟩
  · obtain ⟨p, rfl, hk, h⟩ := prK_eq h
    exact ⟨_, keys_fn p hk, h⟩
  · exact h.elim
def changeS : List A → (Res → Prop) → Prop
  | [.agg [.ints .i64 1 [e], .ints .i64 31 zs, .bools 8 ad, .ints .i64 1 [k], .bytes 32 ch], .agg [.ints .i64 1 [e'], .ints .i64 31 zs', .bools 8 ad', .ints .i64 1 [k'], .bytes 32 ch']], K => K (.d (.v (.bool (changeB k ad zs k' ad' zs'))))
  | _, _ => False
theorem changeS_ok : ∀ args K, changeS args K → ∃ r, FnO 12 args r ∧ K r := by
  intro args K h
  unfold changeS at h
  split at h
  · exact ⟨_, change_fn _ _ _ _ _ _ _ _ _ _, h⟩
  · exact h.elim
/-- pointers to parties, one by one -/
def opK : List A → (List (Option PS) → Prop) → Prop
  | [], K => K []
  | .v (.pointer none) :: r, K => opK r fun l => K (none :: l)
  | x :: r, K => prK x fun p => opK r fun l => K (some p :: l)
theorem opK_eq : ∀ {l : List A} {K : List (Option PS) → Prop}, opK l K → ∃ G, l = G.map optP ∧ K G
  | [], K, h => ⟨[], rfl, h⟩
  | x :: r, K, h => by
    unfold opK at h
    split at h
    · next e => cases e
    · next e =>
      cases e
      obtain ⟨G, rfl, h2⟩ := opK_eq h
      exact ⟨none :: G, rfl, h2⟩
    · next e =>
      cases e
      obtain ⟨p, rfl, h1⟩ := prK_eq h
      obtain ⟨G, rfl, h2⟩ := opK_eq h1
      exact ⟨some p :: G, rfl, h2⟩
def oxK : List A → (List (Option XS) → Prop) → Prop
  | [], K => K []
  | .v (.pointer none) :: r, K => oxK r fun l => K (none :: l)
  | x :: r, K => xK x fun p => oxK r fun l => K (some p :: l)
theorem oxK_eq : ∀ {l : List A} {K : List (Option XS) → Prop}, oxK l K → ∃ G, l = G.map optX ∧ K G
  | [], K, h => ⟨[], rfl, h⟩
  | x :: r, K, h => by
    unfold oxK at h
    split at h
    · next e => cases e
    · next e =>
      cases e
      obtain ⟨G, rfl, h2⟩ := oxK_eq h
      exact ⟨none :: G, rfl, h2⟩
    · next e =>
      cases e
      obtain ⟨p, rfl, h1⟩ := xK_eq h
      obtain ⟨G, rfl, h2⟩ := oxK_eq h1
      exact ⟨some p :: G, rfl, h2⟩
def agreeS : List A → (Res → Prop) → Prop
  | [.row n [.gen n' l]], K => n' = n ∧ n ≤ 1000000 ∧ opK l fun G => G.length = n ∧ ∀ b, b = agreeB G → K (.d (.v (.bool b)))
  | _, _ => False
theorem agreeS_ok : ∀ args K, agreeS args K → ∃ r, FnO 16 args r ∧ K r := by
  intro args K h
  unfold agreeS at h
  split at h
  · obtain ⟨rfl, h1, h⟩ := h
    obtain ⟨G, rfl, h2, h⟩ := opK_eq h
    exact ⟨_, agree_fn G _ h2 h1, h _ rfl⟩
  · exact h.elim
def xagreeS : List A → (Res → Prop) → Prop
  | [.row n [.gen n' l]], K => n' = n ∧ n ≤ 1000000 ∧ oxK l fun G => G.length = n ∧ ∀ b, b = agreeX G → K (.d (.v (.bool b)))
  | _, _ => False
theorem xagreeS_ok : ∀ args K, xagreeS args K → ∃ r, FnO 17 args r ∧ K r := by
  intro args K h
  unfold xagreeS at h
  split at h
  · obtain ⟨rfl, h1, h⟩ := h
    obtain ⟨G, rfl, h2, h⟩ := oxK_eq h
    exact ⟨_, xagree_fn G _ h2 h1, h _ rfl⟩
  · exact h.elim
def seedU (n : Int) : List UInt8 := UInt8.ofNat (IntKind.u8.wrap n).toNat :: 13 :: List.replicate 30 0
theorem u8_rng (n : Int) : 0 ≤ IntKind.u8.wrap n ∧ IntKind.u8.wrap n < 256 := by
  have e1 : (2 : Int) ^ 8 = 256 := by decide
  simp only [IntKind.wrap, IntKind.signed, IntKind.bits, Bool.false_and, e1]
  simp
  omega
theorem seedU_fn (n : Int) : FnO 7 [.v (.int .i64 n)] (.d (.agg [.bytes 32 (seedU n)])) := by
  refine fnA (E := envAu7) Tryz.func7 Tryz.ntmps7 ?_
  obtain ⟨hw0, hw1⟩ := u8_rng n
  refine agow ?_; (try with_reducible exact True.intro)
  try rfl
def seedUS : List A → (Res → Prop) → Prop
  | [.v (.int .i64 n)], K => ∀ h, h = seedU n → K (.d (.agg [.bytes 32 h]))
  | _, _ => False
theorem seedUS_ok : ∀ args K, seedUS args K → ∃ r, FnO 7 args r ∧ K r := by
  intro args K h
  unfold seedUS at h
  split at h
  · exact ⟨_, seedU_fn _, h _ rfl⟩
  · exact h.elim
/-- the document's one who begins -/
def xcreateE : List A → (Res → Prop) → Prop
  | [.agg [.bytes 32 h]], K => ∀ x, x = xOf (createP h) → K (.d (.sref (xSegs x) 0))
  | _, _ => False
theorem xcreateE_ok : ∀ args K, xcreateE args K → ∃ r, FnO 8 args r ∧ K r := by
  intro args K h
  unfold xcreateE at h
  split at h
  · exact ⟨_, fn_sref (xcreate_fn _), h _ rfl⟩
  · exact h.elim
noncomputable def envAu8 : EnvX := envAu7.add 13 keysS keysS_ok ⟨_, Tryz.func13, by kernel_rfl, by kernel_rfl⟩
noncomputable def envAu9 : EnvX := envAu8.add 12 changeS changeS_ok ⟨_, Tryz.func12, by kernel_rfl, by kernel_rfl⟩
noncomputable def envAua : EnvX := envAu9.add 16 agreeS agreeS_ok ⟨_, Tryz.func16, by kernel_rfl, by kernel_rfl⟩
noncomputable def envAub : EnvX := envAua.add 17 xagreeS xagreeS_ok ⟨_, Tryz.func17, by kernel_rfl, by kernel_rfl⟩
noncomputable def envAuc : EnvX := envAub.add 7 seedUS seedUS_ok ⟨_, Tryz.func7, by kernel_rfl, by kernel_rfl⟩
noncomputable def envAud : EnvX := envAuc.add 8 xcreateE xcreateE_ok ⟨_, Tryz.func8, by kernel_rfl, by kernel_rfl⟩
theorem agree_three (p : PS) : agreeB [some p, none, some p] = true := by
  rw [← agree_eq]
  have h : pairX (some (xOf p)) (some (xOf p)) = true := pair_own.2 fun _ => rfl
  simp only [agreeX, rowX, List.map, Option.map, atG, List.length, List.all_eq_true, List.mem_range]
  intro i hi k hk
  have e1 : i = 0 ∨ i = 1 ∨ i = 2 := by omega
  rcases e1 with rfl | rfl | rfl
  · omega
  · rfl
  · have e2 : k = 0 ∨ k = 1 := by omega
    rcases e2 with rfl | rfl
    · exact h
    · rfl
theorem change_self (k : Int) (ad : List Bool) (zs : List Int) : changeB k ad zs k ad zs = false := by simp [changeB, eqSegs, sgnB, sameU]
set_option maxHeartbeats 4000000 in
theorem aknown_fn : FnO 18 [] (.d (.v (.bool true))) := by
  refine fnA (E := envAud) Tryz.func18 Tryz.ntmps18 ?_
  refine agow ?_; (try with_reducible exact True.intro)
  intro h hh
  refine agow ?_; (try with_reducible exact True.intro)
  intro p hp
  have hk := create_keysP hp
  clear hp hh
  have e1 := agree_three p
  have e2 := change_self p.k p.ad p.zs
  refine agow ?_; (try with_reducible exact True.intro)
  intro b hb
  have hb : b = true := hb.trans e1
  subst hb
  clear e1
  refine agow ?_; (try with_reducible exact True.intro)
  rw [e2]
  rfl
def aknownS : List A → (Res → Prop) → Prop
  | [], K => K (.d (.v (.bool true)))
  | _, _ => False
theorem aknownS_ok : ∀ args K, aknownS args K → ∃ r, FnO 18 args r ∧ K r := by
  intro args K h
  unfold aknownS at h
  split at h
  · exact ⟨_, aknown_fn, h⟩
  · exact h.elim
noncomputable def envAue : EnvX := envAud.add 18 aknownS aknownS_ok ⟨_, Tryz.func18, by kernel_rfl, by kernel_rfl⟩
end Go.Proofs.YtegjkfaokpjojaaGreatDoor

/-
  Audits: commits of both, as a law meets them.
-/
namespace Go.Proofs.YtegjkfaokpjojaaGreatDoor
set_option maxRecDepth 100000
set_option pp.deepTerms true
set_option pp.maxSteps 1000000
open Go.RowKit Pm
set_option linter.unusedVariables false
set_option linter.unusedSimpArgs false

theorem memTo_congr {zs ys : List Int} : ∀ {n : Nat}, (∀ k, k < n → memL zs k = memL ys k) → memTo zs n = memTo ys n
  | 0, _ => rfl
  | n + 1, h => by rw [memTo, memTo, memTo_congr fun k hk => h k (by omega), h n (by omega)]
theorem sgL_congr {zs ys : List Int} : ∀ {l : List Int}, (∀ m ∈ l, zs.getD (m.toNat * 2) 0 = ys.getD (m.toNat * 2) 0) → sgL zs l = sgL ys l
  | [], _ => rfl
  | m :: r, h => by rw [sgL, sgL, h m (by simp), sgL_congr fun x hx => h x (by simp [hx])]
theorem own_keys {p : PS} (h : Own p) : KeysP p := by
  have h1 := h.lf
  have z := h.inv.zl
  have l0 := h.inv.lf0
  have l1 := h.inv.lf1
  rw [leafP_two (by omega) (by omega)] at h1
  exact ⟨l0, l1, h.memB, (List.cons.inj h1).1.symm⟩
theorem com_nil {p : PS} (h : Own p) (he : p.e < 1099511627776) : comE p 0 [] 0 [] = 0 ∧ doP p p.lf 0 [] = ⟨p.zs, p.ad, p.k, F8, F8⟩ := by
  have hd := doR_none (e := p.e) (s := ⟨p.zs, p.ad, p.k, F8, F8⟩) (fr := p.lf) h.may h.memB
  refine ⟨?_, ?_⟩
  · have hc : chkV p.e p.zs p.ad p.k p.ch p.lf [] 0 [] 0 = 0 := by unfold chkV; rw [if_pos rfl, if_pos rfl]
    unfold comE
    rw [if_neg (fun h => h hc), hd, if_neg (fun h => h rfl), if_neg (by omega)]
  · unfold doP; rw [hd]
theorem next_nil {p : PS} (h : Own p) (he : p.e < 1099511627776) (d : List UInt8) : Own (nextP p (doP p p.lf 0 []) 0 [] 0 [] d) ∧ (nextP p (doP p p.lf 0 []) 0 [] 0 [] d).e = p.e + 1 :=
  ⟨com_own h (com_nil h he).1 d, nextP_e _ _ _ _ _ _ _⟩
attribute [local irreducible] condK LoopA regA powI scal mulI isI fourB deriveW numB numsB bodyB nodeW nextW viewHV doR chkV planL sealB boxD keyZ helD commonI placeI apE doP comE comP nextP joinP upW lefW tagE expW memTo createP enterP getM hasM putM mapG z480 xOf sgL leafZ sgnW welSegs welF
/-- a law's call, out of its contract -/
theorem law_of_fnU {P : Program} {G : Nat → Option (List Seg)} {f : FuncId} {args : List A} {vs : List Value} {w : World} (h : FnOK P G f args (.d (.v (.bool true)))) (hG : GOK G (fun _ => True) w) (ha : RAs (fun _ => True) w args vs) :
    Calls P f vs.toArray w fun e w' => e = .returned (.bool true) ∧ Below w.heap.size w w' := by
  refine (h _ w vs hG ha).mono ?_
  rintro e w' ⟨v, rfl, h1, h2⟩
  rw [RA.plain h1]
  exact ⟨rfl, h2⟩
/-- the document's commit: either way -/
def xcomK (p : PS) (n : Nat) (ops : List Int) (m : Nat) (vs : List Int) (d : List UInt8) (K : List A → Prop) : Prop :=
  ∀ e, e = comE p n ops m vs → StopC (condK (decide (e = 0))
    (∀ s c q N W, s = doP p p.lf n ops → c = comP p s n ops m vs d → q = nextP p s n ops m vs d → N = welN s.ng 8 → W = welF (welSegs q (upW (lefW d)) (joinP p d) (tagE q.ep) d) s.ng 8 → K [.agg (cSegs2 c), .recs N 108 W, .sref (xSegs (xOf q)) 0, .v (.int .i64 0)])
    (K [.agg cSZ, .v (.slice none 0 0), .v (.pointer none), .v (.int .i64 e)]))
def xcomS : List A → (Res → Prop) → Prop
  | [x, o, v, .agg [.bytes 32 d]], K => xK x fun X => ∃ p, X = xOf p ∧ Own p ∧ opsK o fun n ops => votK v fun m vs => n ≤ 3000 ∧ m ≤ 3000 ∧ xcomK p n ops m vs d fun l => K (.t l)
  | _, _ => False
theorem xcomS_ok : ∀ args K, xcomS args K → ∃ r, FnO 11 args r ∧ K r := by
  intro args K h
  unfold xcomS at h
  split at h
  · next x o v d =>
    obtain ⟨X, rfl, p, rfl, hp, h⟩ := xK_eq h
    obtain ⟨n, ops, _, h, ho⟩ := opsK_spec h
    obtain ⟨m, vs, _, ⟨hn, hm, h⟩, hv⟩ := votK_spec h
    have h := (h _ rfl).out
    refine ⟨.t (xcomP p n ops m vs d), fun S w vs' hG ha => ?_, ?_⟩
    · obtain ⟨v1, v2, v3, v4, rfl, k1, k2, k3, k4⟩ := ra_four ha
      exact xcom_own p hp n ops hn m vs hm _ S w _ hG (.cons k1 (.cons (ho k2) (.cons (hv k3) (.cons k4 .nil))))
    · unfold xcomP
      by_cases he : comE p n ops m vs = 0
      · rw [decide_eq_true he, condK_true] at h
        rw [if_pos he]
        exact h _ _ _ _ _ rfl rfl rfl rfl rfl
      · rw [decide_eq_false he, condK_false] at h
        rw [if_neg he]
        exact h
  · exact h.elim
noncomputable def envAuf : EnvX := envAue.add 11 xcomS xcomS_ok ⟨_, Tryz.func11, by kernel_rfl, by kernel_rfl⟩
theorem agree_two (p : PS) : agreeB [some p, some p] = true := by
  rw [← agree_eq]
  have h : pairX (some (xOf p)) (some (xOf p)) = true := pair_own.2 fun _ => rfl
  simp only [agreeX, rowX, List.map, Option.map, atG, List.length, List.all_eq_true, List.mem_range]
  intro i hi k hk
  have e1 : i = 1 ∧ k = 0 := by omega
  obtain ⟨rfl, rfl⟩ := e1
  exact h
def byteU (n : Int) : List UInt8 := UInt8.ofNat (IntKind.u8.wrap n).toNat :: List.replicate 31 0
end Go.Proofs.YtegjkfaokpjojaaGreatDoor
