/-
  Audits: the law of steps.
-/
import Derived.Test.YtegjkfaokpjojaaGreatDoorJ50
import Derived.Test.YtegjkfaokpjojaaGreatDoorJ38
import Derived.Lib.Hide
namespace Go.Proofs.YtegjkfaokpjojaaGreatDoor
set_option maxRecDepth 100000
set_option pp.deepTerms true
set_option pp.maxSteps 1000000
open Go.RowKit Pm
set_option linter.unusedVariables false
set_option linter.unusedSimpArgs false

theorem sgnB_same {zs ys : List Int} (h1 : ∀ k, k < 8 → memL zs k = memL ys k) (h2 : ∀ k, k < 8 → zs.getD (k * 2) 0 = ys.getD (k * 2) 0) : sgnB zs ys = true := by
  have e1 := memTo_congr (n := 8) h1
  have e2 : sgL zs (memTo ys 8) = sgL ys (memTo ys 8) := sgL_congr fun m hm => by
    have := (memTo_mem ys 8 m).1 hm
    exact h2 m.toNat (by omega)
  unfold sgnB sameU
  rw [e1, e2]
  simp
/-- a step without operations changes no member, no key to sign -/
theorem next_same {q : PS} (h : Own q) (he : q.e < 1099511627776) (d : List UInt8) :
    changeB q.k q.ad q.zs (nextP q (doP q q.lf 0 []) 0 [] 0 [] d).k (nextP q (doP q q.lf 0 []) 0 [] 0 [] d).ad (nextP q (doP q q.lf 0 []) 0 [] 0 [] d).zs = false := by
  have hd := (com_nil h he).2
  have hk : (nextP q (doP q q.lf 0 []) 0 [] 0 [] d).k = q.k := by rw [hd]; dsimp only [nextP, reachP, behP, renewP, enterP]
  have ha : (nextP q (doP q q.lf 0 []) 0 [] 0 [] d).ad = q.ad := by rw [hd]; dsimp only [nextP, reachP, behP, renewP, enterP]
  have hz := nextP_zs q (doP q q.lf 0 []) 0 [] 0 [] d
  rw [hk, ha, hz, hd]
  have l0 := h.inv.lf0
  have l1 := h.inv.lf1
  have zl := h.inv.zl
  have get := behZ_get zl l0 l1 (nodeY (lefW d)) (nodeY (nextW (lefW d))) (nodeY (nextW (nextW (lefW d)))) (nodeY (nextW (nextW (nextW (lefW d)))))
  have two : ∀ k, k < 8 → (behZ q.zs q.lf (nodeY (lefW d)) (nodeY (nextW (lefW d))) (nodeY (nextW (nextW (lefW d)))) (nodeY (nextW (nextW (nextW (lefW d)))))).getD (k * 2) 0 = q.zs.getD (k * 2) 0 := fun k hk => by
    rw [get, if_neg (by omega), if_neg (by omega), if_neg (by omega), if_neg (by omega)]
  have hs : sgnB q.zs (behZ q.zs q.lf (nodeY (lefW d)) (nodeY (nextW (lefW d))) (nodeY (nextW (nextW (lefW d)))) (nodeY (nextW (nextW (nextW (lefW d)))))) = true := by
    refine sgnB_same (fun k hk => ?_) (fun k hk => (two k hk).symm)
    by_cases hm : memL q.zs k = true
    · rw [hm, memL_beh zl l0 l1 _ _ _ _ hk (nodeY_ne _) hm]
    · have hne : k ≠ q.lf.toNat := fun e => hm (e ▸ h.mem)
      unfold memL
      rw [leafP_beh zl l0 l1 _ _ _ _ hk, if_neg hne]
  unfold changeB
  dsimp only
  rw [hs]
  simp [eqSegs]
/-- parties, one behind the other -/
def pJ (s : List UInt8) (zs : List Int) : Nat → PS
  | 0 => createP s
  | j + 1 => nextP (pJ s zs j) (doP (pJ s zs j) (pJ s zs j).lf 0 []) 0 [] 0 [] (byteU (zs.getD j 0))
def GJ (s : List UInt8) (zs : List Int) : Nat → List (Option PS)
  | 0 => [some (pJ s zs 0)]
  | j + 1 => GJ s zs j ++ [some (pJ s zs (j + 1)), some (pJ s zs (j + 1))]
theorem pJ_zero (s : List UInt8) (zs : List Int) : pJ s zs 0 = createP s := rfl
theorem pJ_next (s : List UInt8) (zs : List Int) (j : Nat) : pJ s zs (j + 1) = nextP (pJ s zs j) (doP (pJ s zs j) (pJ s zs j).lf 0 []) 0 [] 0 [] (byteU (zs.getD j 0)) := rfl
theorem GJ_len (s : List UInt8) (zs : List Int) : ∀ j, (GJ s zs j).length = j * 2 + 1
  | 0 => rfl
  | j + 1 => by rw [GJ, List.length_append, GJ_len s zs j]; simp; omega
theorem pJ_own (s : List UInt8) (zs : List Int) : ∀ j : Nat, j ≤ 1000 → Own (pJ s zs j) ∧ (pJ s zs j).e = j
  | 0, _ => ⟨create_own s, (create_fields s).1⟩
  | j + 1, h => by
    obtain ⟨h1, h2⟩ := pJ_own s zs j (by omega)
    obtain ⟨h3, h4⟩ := next_nil h1 (by rw [h2]; omega) (byteU (zs.getD j 0))
    rw [pJ_next]
    exact ⟨h3, by rw [h4, h2]; omega⟩
theorem GJ_zp (s : List UInt8) (zs : List Int) : (GJ s zs 0).map optP = [.sref (pSegs (pJ s zs 0)) 0] := rfl
theorem GJ_zx (s : List UInt8) (zs : List Int) : ((GJ s zs 0).map (Option.map xOf)).map optX = [.sref (xSegs (xOf (pJ s zs 0))) 0] := rfl
theorem GJ_p (s : List UInt8) (zs : List Int) (j : Nat) : (GJ s zs (j + 1)).map optP = (GJ s zs j).map optP ++ [.sref (pSegs (pJ s zs (j + 1))) 0, .sref (pSegs (pJ s zs (j + 1))) 0] := by rw [GJ, List.map_append]; rfl
theorem GJ_x (s : List UInt8) (zs : List Int) (j : Nat) : ((GJ s zs (j + 1)).map (Option.map xOf)).map optX = ((GJ s zs j).map (Option.map xOf)).map optX ++ [.sref (xSegs (xOf (pJ s zs (j + 1)))) 0, .sref (xSegs (xOf (pJ s zs (j + 1)))) 0] := by rw [GJ, List.map_append, List.map_append]; rfl
attribute [local irreducible] condK LoopA regA powI scal mulI isI fourB deriveW numB numsB bodyB nodeW nextW viewHV doR chkV planL sealB boxD keyZ helD commonI placeI apE doP comE comP nextP joinP upW lefW tagE expW memTo createP enterP getM hasM putM mapG z480 xOf sgL leafZ sgnW welSegs welF changeB pJ GJ seedU agreeB agreeX
theorem xcopy_fn (p : XS) : FnO 15 [.sref (xSegs p) 0] (.p (.var (xSegs p))) := by
  refine fnA (E := envAuf) Tryz.func15 Tryz.ntmps15 ?_
  refine agow ?_; (try with_reducible exact True.intro)
def xcopyE : List A → (Res → Prop) → Prop
  | [x], K => xK x fun p => K (.d (.sref (xSegs p) 0))
  | _, _ => False
theorem xcopyE_ok : ∀ args K, xcopyE args K → ∃ r, FnO 15 args r ∧ K r := by
  intro args K h
  unfold xcopyE at h
  split at h
  · obtain ⟨p, rfl, h⟩ := xK_eq h
    exact ⟨_, fn_sref (xcopy_fn p), h⟩
  · exact h.elim
def copyE : List A → (Res → Prop) → Prop
  | [x], K => prK x fun p => K (.d (.sref (pSegs p) 0))
  | _, _ => False
theorem copyE_ok : ∀ args K, copyE args K → ∃ r, FnO 14 args r ∧ K r := by
  intro args K h
  unfold copyE at h
  split at h
  · obtain ⟨p, rfl, h⟩ := prK_eq h
    exact ⟨_, fn_sref (copy_fn p), h⟩
  · exact h.elim
/-- pointers to parties, however many -/
def agreeT : List A → (Res → Prop) → Prop
  | [.row n [.gen n' l]], K => n' = n ∧ n ≤ 1000000 ∧ ∃ G : List (Option PS), l = G.map optP ∧ G.length = n ∧ ∀ b, b = agreeB G → K (.d (.v (.bool b)))
  | _, _ => False
theorem agreeT_ok : ∀ args K, agreeT args K → ∃ r, FnO 16 args r ∧ K r := by
  intro args K h
  unfold agreeT at h
  split at h
  · obtain ⟨rfl, h1, G, rfl, h2, h⟩ := h
    exact ⟨_, agree_fn G _ h2 h1, h _ rfl⟩
  · exact h.elim
def xagreeT : List A → (Res → Prop) → Prop
  | [.row n [.gen n' l]], K => n' = n ∧ n ≤ 1000000 ∧ ∃ G : List (Option XS), l = G.map optX ∧ G.length = n ∧ ∀ b, b = agreeX G → K (.d (.v (.bool b)))
  | _, _ => False
theorem xagreeT_ok : ∀ args K, xagreeT args K → ∃ r, FnO 17 args r ∧ K r := by
  intro args K h
  unfold xagreeT at h
  split at h
  · obtain ⟨rfl, h1, G, rfl, h2, h⟩ := h
    exact ⟨_, xagree_fn G _ h2 h1, h _ rfl⟩
  · exact h.elim
noncomputable def envAug : EnvX := envAuf.add 15 xcopyE xcopyE_ok ⟨_, Tryz.func15, by kernel_rfl, by kernel_rfl⟩
noncomputable def envAuh : EnvX := envAug.add 14 copyE copyE_ok ⟨_, Tryz.func14, by kernel_rfl, by kernel_rfl⟩
noncomputable def envAui : EnvX := envAuh.add 16 agreeT agreeT_ok ⟨_, Tryz.func16, by kernel_rfl, by kernel_rfl⟩
noncomputable def envAuj : EnvX := envAui.add 17 xagreeT xagreeT_ok ⟨_, Tryz.func17, by kernel_rfl, by kernel_rfl⟩
set_option maxHeartbeats 8000000 in
theorem auditSteps_ok (n : Int) (k : Nat) (zs : List Int) : FnO 3 [.v (.int .i64 n), .row k [.ints .i64 (k * 1) zs]] (.d (.v (.bool true))) := by
  refine fnA (E := envAuj) Tryz.func3 Tryz.ntmps3 ?_
  by_cases h1 : n < 1
  · refine agow ?_; (try with_reducible exact True.intro)
  by_cases h2 : n > 5
  · refine agow ?_; (try with_reducible exact True.intro)
  by_cases h3 : (k : Int) > 5
  · refine agow ?_; (try with_reducible exact True.intro)
  refine agow ?_; (try with_reducible exact True.intro)
  intro s1 hs1
  refine agow ?_; (try with_reducible exact True.intro)
  intro p hp
  refine agow ?_; (try with_reducible exact True.intro)
  intro s2 hs2
  refine agow ?_; (try with_reducible exact True.intro)
  intro x hx
  obtain rfl : p = pJ s1 zs 0 := by rw [hp, pJ_zero]
  obtain rfl : x = xOf (pJ s1 zs 0) := by rw [hx, pJ_zero, hs2, hs1]
  clear hp hx hs2 hs1
  refine agow ?_; (try with_reducible exact True.intro)
  refine StopL.mk (loop_forG [1, 5, 6, 7, 8, 9] [0, 1] k (fun j => ⟨[.dead, .d (.row k [.ints .i64 k zs]), .dead, .dead, .dead, .d (.sref (pSegs (pJ s1 zs j)) 0), .d (.sref (xSegs (xOf (pJ s1 zs j))) 0), .own 0 (j * 2 + 1), .own 1 (j * 2 + 1), .d (.v (.int .i64 (j : Nat))), .dead, .dead, .dead, .dead, .dead, .dead, .dead, .dead, .dead, .dead, .dead, .dead, .dead, .dead, .dead, .dead, .dead, .dead, .dead, .dead, .dead, .dead, .dead, .dead, .dead, .dead, .dead, .dead, .dead, .dead, .dead, .dead, .dead, .dead, .dead, .dead, .dead, .dead, .dead, .dead, .dead, .dead, .dead, .dead, .dead, .dead, .dead, .dead, .dead, .dead, .dead, .dead, .dead, .dead, .dead, .dead, .dead, .dead, .dead, .dead, .dead, .dead, .dead, .dead, .dead, .dead, .dead, .dead, .dead, .dead, .dead, .dead, .dead, .dead, .dead, .dead, .dead, .dead, .dead, .dead, .dead, .dead, .dead, .dead, .dead, .dead, .dead, .dead, .dead, .dead, .dead, .dead, .dead, .dead, .dead, .dead, .dead, .dead, .dead, .dead, .dead, .dead, .dead, .dead, .dead, .dead, .dead, .dead, .dead, .dead, .dead, .dead, .dead, .dead, .dead, .dead, .dead, .dead], [some (.sl 23 1 (j * 2 + 1) [.gen (j * 2 + 1) ((GJ s1 zs j).map optP)]), some (.sl 28 1 (j * 2 + 1) [.gen (j * 2 + 1) (((GJ s1 zs j).map (Option.map xOf)).map optX)])]⟩) ?_ (h2 := by rw [GJ_zp, GJ_zx]; exact rfl))
  intro j hj hl
  obtain ⟨hO, he⟩ := pJ_own s1 zs j (by omega)
  by_cases h : j < k
  · have h4 : (j : Int) < k := by omega
    obtain ⟨c1, c2⟩ := com_nil hO (by rw [he]; omega)
    have hch := next_same hO (by rw [he]; omega) (byteU (zs.getD j 0))
    have hn := pJ_next s1 zs j
    have hp2 := GJ_p s1 zs j
    have hx2 := GJ_x s1 zs j
    obtain ⟨hO2, _⟩ := pJ_own s1 zs (j + 1) (by omega)
    have hk := own_keys hO2
    rw [← hn] at hch
    obtain ⟨u0, u1⟩ := u8_rng (zs.getD j 0)
    have hlf : leafB (pJ s1 zs j).lf = true := by have a := hO.inv.lf0; have b := hO.inv.lf1; simp [leafB, a, b]
    have HN := Lib.hid hn
    have HC := Lib.hid c1
    have HP := Lib.hid hp2
    have HX := Lib.hid hx2
    clear hn c1 c2 he hp2 hx2 hO2
    generalize hq1 : pJ s1 zs (j + 1) = q1 at *
    generalize hq0 : pJ s1 zs j = q at *
    have HQ1 := Lib.hid hq1
    clear hq1 hq0
    refine agow ?_; (try with_reducible exact True.intro)
    intro e1 he1
    have hc1 : decide (e1 = 0) = true := by rw [he1, HC.out]; rfl
    clear he1
    refine agow ?_; (try with_reducible exact True.intro)
    intro sA cA qA NA WA hsA hcA hqA hNA hWA
    obtain rfl : qA = q1 := by rw [hqA, hsA, HN.out]; rfl
    clear hsA hcA hqA hNA hWA hc1
    refine agow ?_; (try with_reducible exact True.intro)
    intro e2 he2
    have hc2 : decide (e2 = 0) = true := by rw [he2, HC.out]; rfl
    clear he2
    refine agow ?_; (try with_reducible exact True.intro)
    intro sY cY qY NY WY hsY hcY hqY hNY hWY
    obtain rfl : qY = qA := by rw [hqY, hsY, HN.out]; rfl
    clear hsY hcY hqY hNY hWY hc2 HN HC hO
    refine agow ?_; (try with_reducible exact True.intro)
    refine hl.go h [1, 5, 6, 7, 8, 9] [0, 1] ?_
    show gather _ _ _ = St.mk _ _
    rw [HP.out, HX.out, HQ1.out, Nat.succ_mul]
    rfl
  · obtain rfl : k = j := by omega
    have h4 : ¬ (k : Int) < (k : Int) := by omega
    have hF : agreeX ((GJ s1 zs k).map (Option.map xOf)) = agreeB (GJ s1 zs k) := agree_eq _
    have hG := GJ_len s1 zs k
    have hG2 : ((GJ s1 zs k).map (Option.map xOf)).length = k * 2 + 1 := by rw [List.length_map]; exact hG
    have ht := agree_two (pJ s1 zs k)
    have HF := Lib.hid hF
    have HT := Lib.hid ht
    clear hF ht hl hO he
    refine agow ?_; (try with_reducible exact True.intro)
    intro c hc
    refine agow ?_; (try with_reducible exact True.intro)
    intro d hd
    have hd : d = c := by rw [hd, hc]; exact HF.out
    subst hd
    clear hc
    refine agow ?_; (try with_reducible exact True.intro)
    refine ⟨[some (pJ s1 zs k), some (pJ s1 zs k)], rfl, rfl, ?_⟩
    intro g hg
    have hg : g = true := hg.trans HT.out
    subst hg
    refine agow ?_; (try with_reducible exact True.intro)
theorem auditSteps_walk (n : Int) (hn : (Lit.int .i64 n).wf = true) (l : Value) (k : Nat) (zs : List Int) (hk : k ≤ 140737488351232) {w : World} (hl : RA (fun _ => True) w (.row k [.ints .i64 (k * 1) zs]) l) (hG : GOK gTab (fun _ => True) w) :
    Calls Tryz.prog 3 #[.int .i64 n, l] w fun e w' => e = .returned (.bool true) ∧ Below w.heap.size w w' :=
  law_of_fnU (auditSteps_ok n k zs) hG (.cons (.v _) (.cons hl .nil))
end Go.Proofs.YtegjkfaokpjojaaGreatDoor
