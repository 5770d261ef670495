/-
  Welcomes as bytes: the program.
-/
import Derived.Test.YtodlghgmgnhncaaI15
namespace Go.Proofs.Ytodlghgmgnhncaa
set_option maxRecDepth 100000
open Go.RowKit Pm
set_option linter.unusedVariables false
set_option linter.unusedSimpArgs false

/-- a view's bytes -/
def viewB (e : Int) (zs : List Int) (ad : List Bool) (k : Int) (ch : List UInt8) : List UInt8 := ((numsB [e, k] ++ flagsB ad) ++ ch) ++ (numsB (zs.take 16) ++ numsB ((zs.drop 16).take 15))
theorem flags_step (ad : List Bool) {j : Nat} (h : j < ad.length) : flagsB (ad.take (j + 1)) = flagsB (ad.take j) ++ [if ad.getD j false = true then 1 else 0] := by
  unfold flagsB
  rw [List.take_add_one, List.map_append, List.getElem?_eq_getElem h, List.getD_eq_getElem?_getD, List.getElem?_eq_getElem h]
  rfl
theorem flags_nil (ad : List Bool) : flagsB (ad.take 0) = [] := rfl
attribute [local irreducible] condK LoopA regA numB numsB flagsB boxB anyP idxP mayB
set_option maxHeartbeats 8000000 in
theorem viewBytes_ok (e : Int) (zs : List Int) (ad : List Bool) (k : Int) (ch : List UInt8) : FnO 56 [.agg (vSegs e zs ad k ch)] (.o 5 1 304 [.bytes 304 (viewB e zs ad k ch)]) := by
  refine fn_lens fun hl => ?_
  have hz : zs.length = 31 := hl.1.2.1
  have ha : ad.length = 8 := hl.1.2.2.1
  have hch : ch.length = 32 := hl.1.2.2.2.2.1
  clear hl
  refine fnA (E := envCq) Try.func56 Try.ntmps56 ?_
  refine agow ?_; (try with_reducible exact True.intro)
  refine StopL.mk (loop_forG [1, 3, 15, 16] [0, 2] 8 (fun j => ⟨[.dead, .ptr 0 0, .dead, .own 1 (16 + j), .dead, .dead, .dead, .dead, .dead, .dead, .dead, .dead, .dead, .dead, .dead, .d (.agg [.bools 8 ad]), .d (.v (.int .i64 (j : Nat))), .dead, .dead, .dead, .dead, .dead, .dead, .dead, .dead, .dead, .dead, .dead, .dead, .dead, .dead, .dead, .dead, .dead, .dead, .dead, .dead, .dead, .dead, .dead, .dead, .dead, .dead, .dead, .dead, .dead, .dead, .dead, .dead, .dead, .dead, .dead], [some (.var (vSegs e zs ad k ch)), some (.sl 5 1 (16 + j) [.bytes (16 + j) (numsB [e, k] ++ flagsB (ad.take j))])]⟩) ?_ (h2 := by rw [flags_nil, List.append_nil]; exact rfl))
  intro j hj hl
  by_cases h : j < 8
  · have h1 : (j : Int) < 8 := by omega
    cases hb : ad.getD j false with
    | true =>
      refine agow ?_; (try with_reducible exact True.intro)
      refine hl.go h [1, 3, 15, 16] [0, 1] ?_
      rw [flags_step ad (by omega), hb, if_pos rfl, ← List.append_assoc]
      rfl
    | false =>
      refine agow ?_; (try with_reducible exact True.intro)
      refine hl.go h [1, 3, 15, 16] [0, 1] ?_
      rw [flags_step ad (by omega), hb, if_neg (by decide), ← List.append_assoc]
      rfl
  obtain rfl : j = 8 := by omega
  rw [List.take_of_length_le (show ad.length ≤ 8 by omega)]
  clear hl h hj
  refine agow ?_; (try with_reducible exact True.intro)
  have hL : (zs.take 16).length = 16 := by simp [hz]
  have hD : ((zs.drop 16).take 15).length = 15 := by simp [hz]
  refine StopL.mk (loop_forG [1, 3, 33, 34] [0, 1] 8 (fun j => ⟨[.dead, .ptr 0 0, .dead, .own 1 (56 + j * 16), .dead, .dead, .dead, .dead, .dead, .dead, .dead, .dead, .dead, .dead, .dead, .dead, .dead, .dead, .dead, .dead, .dead, .dead, .dead, .dead, .dead, .dead, .dead, .dead, .dead, .dead, .dead, .dead, .dead, .d (.agg [.ints .i64 16 (zs.take 16)]), .d (.v (.int .i64 (j : Nat))), .dead, .dead, .dead, .dead, .dead, .dead, .dead, .dead, .dead, .dead, .dead, .dead, .dead, .dead, .dead, .dead, .dead], [some (.var (vSegs e zs ad k ch)), some (.sl 5 1 (56 + j * 16) [.bytes (56 + j * 16) (((numsB [e, k] ++ flagsB ad) ++ ch) ++ numsB ((zs.take 16).take (j * 2)))])]⟩) ?_ (h2 := by rw [Nat.zero_mul, List.take_zero, numsB_nil, List.append_nil]; exact rfl))
  intro j hj hl
  by_cases h : j < 8
  · have h1 : (j : Int) < 8 := by omega
    refine agow ?_; (try with_reducible exact True.intro)
    refine hl.go h [1, 3, 33, 34] [0, 1] ?_
    rw [show (j + 1) * 2 = j * 2 + 2 by omega, numsB_two _ (by omega), show (j + 1) * 16 = j * 16 + 16 by omega, ← List.append_assoc, ← Nat.add_assoc, ← two_get _ (j * 2) 1 (by omega), show ∀ (L : List Int), L.getD (j * 2) 0 = L.getD (j * 2 + 0) 0 from fun _ => rfl, ← two_get _ (j * 2) 0 (by omega), show ∀ a b : Int, numB a ++ numB b = numsB [a, b] from fun a b => by rw [numsB_cons, numsB_one]]
    rfl
  obtain rfl : j = 8 := by omega
  rw [show (zs.take 16).take (8 * 2) = zs.take 16 from List.take_of_length_le (by omega)]
  clear hl h hj
  refine agow ?_; (try with_reducible exact True.intro)
  rw [hD]
  unfold viewB
  rw [← List.append_assoc ((numsB [e, k] ++ flagsB ad) ++ ch)]
def viewBS : List A → (Res → Prop) → Prop
  | [.agg [.ints .i64 1 [e], .ints .i64 31 zs, .bools 8 ad, .ints .i64 1 [k], .bytes 32 ch]], K => K (.o 5 1 304 [.bytes 304 (viewB e zs ad k ch)])
  | _, _ => False
theorem viewBS_ok : ∀ args K, viewBS args K → ∃ r, FnO 56 args r ∧ K r := by
  intro args K h
  unfold viewBS at h
  split at h
  · exact ⟨_, viewBytes_ok _ _ _ _ _, h⟩
  · exact h.elim
/-- a welcome's numbers, view, box, tag -/
structure WS where
  leaf : Int
  fr : Int
  e : Int
  zs : List Int
  ad : List Bool
  k : Int
  ch : List UInt8
  box : List UInt8
  tag : List UInt8
def wlSegs (w : WS) : List Seg := [.ints .i64 2 [w.leaf, w.fr], .ints .i64 1 [w.e], .ints .i64 31 w.zs, .bools 8 w.ad, .ints .i64 1 [w.k], .bytes 32 w.ch, .gen 1 [.row w.box.length [.bytes w.box.length w.box]], .bytes 32 w.tag]
structure WSok (w : WS) : Prop where
  zs : w.zs.length = 31
  ad : w.ad.length = 8
  ch : w.ch.length = 32
  tag : w.tag.length = 32
  box : w.box.length ≤ 6000
def mayW (w : WS) : Bool := withinB w.leaf 7 && (withinB w.fr 7 && (mayV w.e w.zs w.ad w.k && decide ((w.box.length : Int) ≤ 300)))
def wlB (w : WS) : List UInt8 := ([2] ++ numsB [w.leaf, w.fr]) ++ (viewB w.e w.zs w.ad w.k w.ch ++ (boxB w.box ++ w.tag))
def wlN (w : WS) : Nat := 17 + (304 + ((8 + w.box.length) + 32))
def wlR (w : WS) : Res := if mayW w = true then .t [.row (wlN w) [.bytes (wlN w) (wlB w)], .v (.int .i64 0)] else .t [.v (.slice none 0 0), .v (.int .i64 1)]
theorem viewB_length {e : Int} {zs : List Int} {ad : List Bool} {k : Int} {ch : List UInt8} (h1 : zs.length = 31) (h2 : ad.length = 8) (h3 : ch.length = 32) : (viewB e zs ad k ch).length = 304 := by
  have h4 : (flagsB ad).length = 8 := by unfold flagsB; rw [List.length_map]; exact h2
  unfold viewB
  simp only [List.length_append, numsB_length, h3, h4, List.length_take, List.length_drop, h1, List.length_cons, List.length_nil]
  rfl
theorem wlB_length {w : WS} (h : WSok w) : (wlB w).length = wlN w := by
  unfold wlB wlN
  simp only [List.length_append, numsB_length, viewB_length h.zs h.ad h.ch, boxB_length, h.tag, List.length_cons, List.length_nil]
noncomputable def envWa : EnvX := envCq.add 89 vIsS (vIsS_of vIs_ok) ⟨_, Try.func89, by kernel_rfl, by kernel_rfl⟩
noncomputable def envWb : EnvX := envWa.add 30 vIsS (vIsS_of rvIs_ok) ⟨_, Try.func30, by kernel_rfl, by kernel_rfl⟩
noncomputable def envWc : EnvX := envWb.add 56 viewBS viewBS_ok ⟨_, Try.func56, by kernel_rfl, by kernel_rfl⟩
attribute [local irreducible] viewB withinB mayV
set_option maxHeartbeats 4000000 in
theorem mayWelcome_ok (w : WS) (hw : WSok w) : FnO 49 [.agg (wlSegs w)] (.d (.v (.bool (mayW w)))) := by
  refine fnA (E := envWc) Try.func49 Try.ntmps49 ?_
  cases h1 : withinB w.leaf 7
  case false =>
    have e1 : mayW w = false := by simp [mayW, h1]
    rw [e1]
    clear e1
    refine agow ?_; (try with_reducible exact True.intro)
  cases h2 : withinB w.fr 7
  case false =>
    have e1 : mayW w = false := by simp [mayW, h2]
    rw [e1]
    clear e1
    refine agow ?_; (try with_reducible exact True.intro)
  cases h3 : mayV w.e w.zs w.ad w.k
  case false =>
    have e1 : mayW w = false := by simp [mayW, h3]
    rw [e1]
    clear e1
    refine agow ?_; (try with_reducible exact True.intro)
  have e1 : mayW w = !decide ((w.box.length : Int) > 300) := by
    simp only [mayW, h1, h2, h3, Bool.true_and]
    rw [Bool.eq_iff_iff]; simp
  rw [e1]
  clear e1
  refine agow ?_; (try with_reducible exact True.intro)
theorem rmayWelcome_ok (w : WS) (hw : WSok w) : FnO 57 [.agg (wlSegs w)] (.d (.v (.bool (mayW w)))) := by
  refine fnA (E := envWc) Try.func57 Try.ntmps57 ?_
  cases h1 : withinB w.leaf 7
  case false =>
    have e1 : mayW w = false := by simp [mayW, h1]
    rw [e1]
    clear e1
    refine agow ?_; (try with_reducible exact True.intro)
  cases h2 : withinB w.fr 7
  case false =>
    have e1 : mayW w = false := by simp [mayW, h2]
    rw [e1]
    clear e1
    refine agow ?_; (try with_reducible exact True.intro)
  cases h3 : mayV w.e w.zs w.ad w.k
  case false =>
    have e1 : mayW w = false := by simp [mayW, h3]
    rw [e1]
    clear e1
    refine agow ?_; (try with_reducible exact True.intro)
  have e1 : mayW w = decide ((w.box.length : Int) ≤ 300) := by
    simp only [mayW, h1, h2, h3, Bool.true_and]
  rw [e1]
  clear e1
  refine agow ?_; (try with_reducible exact True.intro)
/-- a welcome handed in: what comes of it -/
def wlS (res : WS → Res) : List A → (Res → Prop) → Prop
  | [.agg l], K => ∃ w, l = wlSegs w ∧ WSok w ∧ K (res w)
  | _, _ => False
theorem wlS_of {f : FuncId} {res : WS → Res} (h : ∀ w, WSok w → FnO f [.agg (wlSegs w)] (res w)) : ∀ args K, wlS res args K → ∃ r, FnO f args r ∧ K r := by
  intro args K hd
  unfold wlS at hd
  split at hd
  · obtain ⟨w, rfl, h1, hd⟩ := hd; exact ⟨_, h _ h1, hd⟩
  · exact hd.elim
noncomputable def envWd : EnvX := envWc.add 49 (wlS fun w => .d (.v (.bool (mayW w)))) (wlS_of mayWelcome_ok) ⟨_, Try.func49, by kernel_rfl, by kernel_rfl⟩
noncomputable def envWe : EnvX := envWd.add 57 (wlS fun w => .d (.v (.bool (mayW w)))) (wlS_of rmayWelcome_ok) ⟨_, Try.func57, by kernel_rfl, by kernel_rfl⟩
attribute [local irreducible] mayW
set_option maxHeartbeats 8000000 in
theorem wwelcome_ok (w : WS) (hw : WSok w) : FnO 27 [.agg (wlSegs w)] (wlR w) := by
  refine fnA (E := envWe) Try.func27 Try.ntmps27 ?_
  have hl := wlB_length hw
  have hb := hw.box
  have hv := viewB_length (e := w.e) (k := w.k) hw.zs hw.ad hw.ch
  have htg := hw.tag
  have hn2 : (numsB [w.leaf, w.fr]).length = 16 := by rw [numsB_length]; rfl
  have hbx := boxB_length w.box
  unfold wlR
  cases hm : mayW w with
  | false =>
    refine agow ?_; (try with_reducible exact True.intro)
    rfl
  | true =>
    refine agow ?_; (try with_reducible exact True.intro)
    generalize hp : ptsOf _ _ _ = o
    obtain rfl : o = some [.own 1 17, .own 4 304, .own 5 (8 + w.box.length), .win 0 76 32] := hp.symm.trans (ptsOf_cons rfl (ptOf_own rfl rfl) (ptsOf_cons rfl (ptOf_own rfl rfl) (ptsOf_cons rfl (ptOf_own rfl rfl) (ptsOf_cons rfl rfl ptsOf_nil))))
    clear hp
    refine agow ?_; (try with_reducible exact True.intro)
    have e : (numsB [w.leaf, w.fr] ++ (viewB w.e w.zs w.ad w.k w.ch ++ (boxB w.box ++ w.tag))).length + 1 = wlN w := by
      simp only [List.length_append, hn2, hv, hbx, htg, wlN]; omega
    rw [e, if_pos rfl]
    rfl
attribute [local irreducible] wlR
/-- a welcome, told cell by cell -/
def wlX : List A → (Res → Prop) → Prop
  | [.agg [.ints .i64 2 [leaf, fr], .ints .i64 1 [e], .ints .i64 31 zs, .bools 8 ad, .ints .i64 1 [k], .bytes 32 ch, .gen 1 [.row n [.bytes m box]], .bytes 32 tag]], K =>
    n = box.length ∧ m = box.length ∧ zs.length = 31 ∧ ad.length = 8 ∧ ch.length = 32 ∧ tag.length = 32 ∧ box.length ≤ 6000 ∧ K (wlR ⟨leaf, fr, e, zs, ad, k, ch, box, tag⟩)
  | _, _ => False
theorem wlX_of {f : FuncId} (h : ∀ w, WSok w → FnO f [.agg (wlSegs w)] (wlR w)) : ∀ args K, wlX args K → ∃ r, FnO f args r ∧ K r := by
  intro args K hd
  unfold wlX at hd
  split at hd
  · next leaf fr e zs ad k ch n m box tag =>
    obtain ⟨rfl, rfl, h1, h2, h3, h4, h5, hd⟩ := hd
    exact ⟨_, h ⟨leaf, fr, e, zs, ad, k, ch, box, tag⟩ ⟨h1, h2, h3, h4, h5⟩, hd⟩
  · exact hd.elim
end Go.Proofs.Ytodlghgmgnhncaa
