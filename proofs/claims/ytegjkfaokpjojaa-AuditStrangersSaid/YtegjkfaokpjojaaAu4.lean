/-
  Audits: one alone; the law of strangers.
-/
import Derived.Test.YtegjkfaokpjojaaAu3
import Derived.Test.YtegjkfaokpjojaaJ31
namespace Go.Proofs.Ytegjkfaokpjojaa
set_option maxRecDepth 100000
open Go.RowKit Pm
set_option linter.unusedVariables false
set_option linter.unusedSimpArgs false

theorem create_keys (h : List UInt8) : (createP h).lf = 0 ∧ (createP h).sg = sgnW h ∧ (createP h).zs = leafZ h ++ List.replicate 29 0 := by unfold createP enterP; exact ⟨rfl, rfl, rfl⟩
theorem isI_nz {x : Int} (h : isI x = true) : x ≠ 0 := by
  rintro rfl
  revert h
  decide
theorem keys_of {p : PS} {a b : Int} {r : List Int} (hl : p.lf = 0) (hz : p.zs = a :: b :: r) (ha : a ≠ 0) (hk : powI 4 (scal p.sg) = a) : KeysP p := by
  refine ⟨by omega, by omega, ?_, ?_⟩
  · rw [hl, hz]
    simp [memB, leafB, memL, leafP, ha]
  · rw [hl, hz, hk]
    rfl
theorem powI_isI (h : List UInt8) : isI (powI 4 (scal h)) = true := by
  have h1 := scal_bd h
  obtain ⟨m, hm⟩ := Int.eq_ofNat_of_zero_le (show 0 ≤ scal h by omega)
  rw [hm] at h1 ⊢
  rw [show powI 4 (m : Int) = (pw 4 m : Int) from powI_nat 4 m (by decide) (by omega)]
  exact isI_four m (by omega) (by omega)
attribute [local irreducible] condK LoopA regA powI scal mulI isI fourB deriveW numB numsB bodyB nodeW nextW viewHV doR chkV planL sealB boxD keyZ helD commonI placeI apE doP comE comP nextP joinP upW lefW tagE expW memTo createP enterP getM hasM putM mapG z480 xOf sgL leafZ sgnW
theorem create_keysP {h : List UInt8} {p : PS} (hp : p = createP h) : KeysP p := by
  obtain ⟨h1, h2, h3⟩ := create_keys h
  rw [← hp] at h1 h2 h3
  refine keys_of (a := powI 4 (scal (sgnW h))) (b := nodeY (lefW h)) (r := List.replicate 29 0) h1 ?_ (isI_nz (powI_isI _)) (by rw [h2])
  rw [h3]
  unfold leafZ
  rfl
def keysS : List A → (Res → Prop) → Prop
  | [.v (.pointer none)], K => K (.d (.v (.bool false)))
  | [x], K => prK x fun p => KeysP p ∧ K (.d (.v (.bool true)))
  | _, _ => False
theorem keysS_ok : ∀ args K, keysS args K → ∃ r, FnO 20 args r ∧ K r := by
  intro args K h
  unfold keysS at h
  split at h
  · exact ⟨_, keys0_fn, h⟩
  · obtain ⟨p, rfl, hk, h⟩ := prK_eq h
    exact ⟨_, keys_fn p hk, h⟩
  · exact h.elim
def changeS : List A → (Res → Prop) → Prop
  | [.agg [.ints .i64 1 [e], .ints .i64 31 zs, .bools 8 ad, .ints .i64 1 [k], .bytes 32 ch], .agg [.ints .i64 1 [e'], .ints .i64 31 zs', .bools 8 ad', .ints .i64 1 [k'], .bytes 32 ch']], K => K (.d (.v (.bool (changeB k ad zs k' ad' zs'))))
  | _, _ => False
theorem changeS_ok : ∀ args K, changeS args K → ∃ r, FnO 21 args r ∧ K r := by
  intro args K h
  unfold changeS at h
  split at h
  · exact ⟨_, change_fn _ _ _ _ _ _ _ _ _ _, h⟩
  · exact h.elim
/-- pointers to parties, one by one -/
def opK : List A → (List (Option PS) → Prop) → Prop
  | [], K => K []
  | .v (.pointer none) :: r, K => opK r fun l => K (none :: l)
  | x :: r, K => prK x fun p => opK r fun l => K (some p :: l)
theorem opK_eq : ∀ {l : List A} {K : List (Option PS) → Prop}, opK l K → ∃ G, l = G.map optP ∧ K G
  | [], K, h => ⟨[], rfl, h⟩
  | x :: r, K, h => by
    unfold opK at h
    split at h
    · next e => cases e
    · next e =>
      cases e
      obtain ⟨G, rfl, h2⟩ := opK_eq h
      exact ⟨none :: G, rfl, h2⟩
    · next e =>
      cases e
      obtain ⟨p, rfl, h1⟩ := prK_eq h
      obtain ⟨G, rfl, h2⟩ := opK_eq h1
      exact ⟨some p :: G, rfl, h2⟩
def oxK : List A → (List (Option XS) → Prop) → Prop
  | [], K => K []
  | .v (.pointer none) :: r, K => oxK r fun l => K (none :: l)
  | x :: r, K => xK x fun p => oxK r fun l => K (some p :: l)
theorem oxK_eq : ∀ {l : List A} {K : List (Option XS) → Prop}, oxK l K → ∃ G, l = G.map optX ∧ K G
  | [], K, h => ⟨[], rfl, h⟩
  | x :: r, K, h => by
    unfold oxK at h
    split at h
    · next e => cases e
    · next e =>
      cases e
      obtain ⟨G, rfl, h2⟩ := oxK_eq h
      exact ⟨none :: G, rfl, h2⟩
    · next e =>
      cases e
      obtain ⟨p, rfl, h1⟩ := xK_eq h
      obtain ⟨G, rfl, h2⟩ := oxK_eq h1
      exact ⟨some p :: G, rfl, h2⟩
def agreeS : List A → (Res → Prop) → Prop
  | [.row n [.gen n' l]], K => n' = n ∧ n ≤ 1000000 ∧ opK l fun G => G.length = n ∧ ∀ b, b = agreeB G → K (.d (.v (.bool b)))
  | _, _ => False
theorem agreeS_ok : ∀ args K, agreeS args K → ∃ r, FnO 7 args r ∧ K r := by
  intro args K h
  unfold agreeS at h
  split at h
  · obtain ⟨rfl, h1, h⟩ := h
    obtain ⟨G, rfl, h2, h⟩ := opK_eq h
    exact ⟨_, agree_fn G _ h2 h1, h _ rfl⟩
  · exact h.elim
def xagreeS : List A → (Res → Prop) → Prop
  | [.row n [.gen n' l]], K => n' = n ∧ n ≤ 1000000 ∧ oxK l fun G => G.length = n ∧ ∀ b, b = agreeX G → K (.d (.v (.bool b)))
  | _, _ => False
theorem xagreeS_ok : ∀ args K, xagreeS args K → ∃ r, FnO 8 args r ∧ K r := by
  intro args K h
  unfold xagreeS at h
  split at h
  · obtain ⟨rfl, h1, h⟩ := h
    obtain ⟨G, rfl, h2, h⟩ := oxK_eq h
    exact ⟨_, xagree_fn G _ h2 h1, h _ rfl⟩
  · exact h.elim
def seedU (n : Int) : List UInt8 := UInt8.ofNat (IntKind.u8.wrap n).toNat :: 13 :: List.replicate 30 0
theorem u8_rng (n : Int) : 0 ≤ IntKind.u8.wrap n ∧ IntKind.u8.wrap n < 256 := by
  have e1 : (2 : Int) ^ 8 = 256 := by decide
  simp only [IntKind.wrap, IntKind.signed, IntKind.bits, Bool.false_and, e1]
  simp
  omega
theorem seedU_fn (n : Int) : FnO 5 [.v (.int .i64 n)] (.d (.agg [.bytes 32 (seedU n)])) := by
  refine fnA (E := envAu7) Try.func5 Try.ntmps5 ?_
  obtain ⟨hw0, hw1⟩ := u8_rng n
  refine agow ?_; (try with_reducible exact True.intro)
  try rfl
def seedUS : List A → (Res → Prop) → Prop
  | [.v (.int .i64 n)], K => ∀ h, h = seedU n → K (.d (.agg [.bytes 32 h]))
  | _, _ => False
theorem seedUS_ok : ∀ args K, seedUS args K → ∃ r, FnO 5 args r ∧ K r := by
  intro args K h
  unfold seedUS at h
  split at h
  · exact ⟨_, seedU_fn _, h _ rfl⟩
  · exact h.elim
/-- the document's one who begins -/
def xcreateE : List A → (Res → Prop) → Prop
  | [.agg [.bytes 32 h]], K => ∀ x, x = xOf (createP h) → K (.d (.sref (xSegs x) 0))
  | _, _ => False
theorem xcreateE_ok : ∀ args K, xcreateE args K → ∃ r, FnO 6 args r ∧ K r := by
  intro args K h
  unfold xcreateE at h
  split at h
  · exact ⟨_, fn_sref (xcreate_fn _), h _ rfl⟩
  · exact h.elim
noncomputable def envAu8 : EnvX := envAu7.add 20 keysS keysS_ok ⟨_, Try.func20, by kernel_rfl, by kernel_rfl⟩
noncomputable def envAu9 : EnvX := envAu8.add 21 changeS changeS_ok ⟨_, Try.func21, by kernel_rfl, by kernel_rfl⟩
noncomputable def envAua : EnvX := envAu9.add 7 agreeS agreeS_ok ⟨_, Try.func7, by kernel_rfl, by kernel_rfl⟩
noncomputable def envAub : EnvX := envAua.add 8 xagreeS xagreeS_ok ⟨_, Try.func8, by kernel_rfl, by kernel_rfl⟩
noncomputable def envAuc : EnvX := envAub.add 5 seedUS seedUS_ok ⟨_, Try.func5, by kernel_rfl, by kernel_rfl⟩
noncomputable def envAud : EnvX := envAuc.add 6 xcreateE xcreateE_ok ⟨_, Try.func6, by kernel_rfl, by kernel_rfl⟩
theorem agree_three (p : PS) : agreeB [some p, none, some p] = true := by
  rw [← agree_eq]
  have h : pairX (some (xOf p)) (some (xOf p)) = true := pair_own.2 fun _ => rfl
  simp only [agreeX, rowX, List.map, Option.map, atG, List.length, List.all_eq_true, List.mem_range]
  intro i hi k hk
  have e1 : i = 0 ∨ i = 1 ∨ i = 2 := by omega
  rcases e1 with rfl | rfl | rfl
  · omega
  · rfl
  · have e2 : k = 0 ∨ k = 1 := by omega
    rcases e2 with rfl | rfl
    · exact h
    · rfl
theorem change_self (k : Int) (ad : List Bool) (zs : List Int) : changeB k ad zs k ad zs = false := by simp [changeB, eqSegs, sgnB, sameU]
set_option maxHeartbeats 4000000 in
theorem aknown_fn : FnO 9 [] (.d (.v (.bool true))) := by
  refine fnA (E := envAud) Try.func9 Try.ntmps9 ?_
  refine agow ?_; (try with_reducible exact True.intro)
  intro h hh
  refine agow ?_; (try with_reducible exact True.intro)
  intro p hp
  have hk := create_keysP hp
  clear hp hh
  have e1 := agree_three p
  have e2 := change_self p.k p.ad p.zs
  refine agow ?_; (try with_reducible exact True.intro)
  intro b hb
  have hb : b = true := hb.trans e1
  subst hb
  clear e1
  refine agow ?_; (try with_reducible exact True.intro)
  rw [e2]
  rfl
theorem strange_eq (p q : PS) : agreeB [some p, some q] = agreeX [some (xOf p), some (xOf q)] := (agree_eq [some p, some q]).symm
def aknownS : List A → (Res → Prop) → Prop
  | [], K => K (.d (.v (.bool true)))
  | _, _ => False
theorem aknownS_ok : ∀ args K, aknownS args K → ∃ r, FnO 9 args r ∧ K r := by
  intro args K h
  unfold aknownS at h
  split at h
  · exact ⟨_, aknown_fn, h⟩
  · exact h.elim
noncomputable def envAue : EnvX := envAud.add 9 aknownS aknownS_ok ⟨_, Try.func9, by kernel_rfl, by kernel_rfl⟩
set_option maxHeartbeats 4000000 in
theorem auditStrangers_ok (a b : Int) : FnO 3 [.v (.int .i64 a), .v (.int .i64 b)] (.d (.v (.bool true))) := by
  refine fnA (E := envAue) Try.func3 Try.ntmps3 ?_
  by_cases h1 : a < 0
  · refine agow ?_; (try with_reducible exact True.intro)
  by_cases h2 : a > 200
  · refine agow ?_; (try with_reducible exact True.intro)
  by_cases h3 : b < 0
  · refine agow ?_; (try with_reducible exact True.intro)
  by_cases h4 : b > 200
  · refine agow ?_; (try with_reducible exact True.intro)
  refine agow ?_; (try with_reducible exact True.intro)
  intro s1 hs1
  refine agow ?_; (try with_reducible exact True.intro)
  intro p hp
  refine agow ?_; (try with_reducible exact True.intro)
  intro s2 hs2
  refine agow ?_; (try with_reducible exact True.intro)
  intro q hq
  refine agow ?_; (try with_reducible exact True.intro)
  intro s3 hs3
  refine agow ?_; (try with_reducible exact True.intro)
  intro x hx
  refine agow ?_; (try with_reducible exact True.intro)
  intro s4 hs4
  refine agow ?_; (try with_reducible exact True.intro)
  intro y hy
  obtain rfl : x = xOf p := by rw [hx, hp, hs1, hs3]
  obtain rfl : y = xOf q := by rw [hy, hq, hs2, hs4]
  clear hp hq hx hy hs1 hs2 hs3 hs4
  have e := strange_eq p q
  refine agow ?_; (try with_reducible exact True.intro)
  intro c hc
  have hc : c = agreeB [some p, some q] := hc
  refine agow ?_; (try with_reducible exact True.intro)
  intro d hd
  have hd : d = c := hd.trans ((e.symm).trans hc.symm)
  subst hd
  clear hc e
  refine agow ?_; (try with_reducible exact True.intro)
theorem gok_none15 {w : World} : GOK gTab (fun _ => True) w := fun q l h => by cases h
theorem auditStrangers_walk (a : Int) (ha : (Lit.int .i64 a).wf = true) (b : Int) (hb : (Lit.int .i64 b).wf = true) {w : World} :
    Calls Try.prog 3 #[.int .i64 a, .int .i64 b] w fun e w' => e = .returned (.bool true) ∧ Below w.heap.size w w' :=
  law_of_fn (auditStrangers_ok a b) gok_none15 (.cons (.v _) (.cons (.v _) .nil))
end Go.Proofs.Ytegjkfaokpjojaa
