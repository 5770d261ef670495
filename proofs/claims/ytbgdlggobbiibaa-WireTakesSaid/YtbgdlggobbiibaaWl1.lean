/-
  Welcomes as bytes: the program.
-/
import Derived.Test.YtbgdlggobbiibaaI15
namespace Go.Proofs.Ytbgdlggobbiibaa
set_option maxRecDepth 100000
open Go.RowKit Pm
set_option linter.unusedVariables false
set_option linter.unusedSimpArgs false

/-- a view's bytes -/
def viewB (e : Int) (zs : List Int) (ad : List Bool) (k : Int) (ch : List UInt8) : List UInt8 := ((numsB [e, k] ++ flagsB ad) ++ ch) ++ (numsB (zs.take 16) ++ numsB ((zs.drop 16).take 15))
theorem flags_step (ad : List Bool) {j : Nat} (h : j < ad.length) : flagsB (ad.take (j + 1)) = flagsB (ad.take j) ++ [if ad.getD j false = true then 1 else 0] := by
  unfold flagsB
  rw [List.take_add_one, List.map_append, List.getElem?_eq_getElem h, List.getD_eq_getElem?_getD, List.getElem?_eq_getElem h]
  rfl
theorem flags_nil (ad : List Bool) : flagsB (ad.take 0) = [] := rfl
attribute [local irreducible] condK LoopA regA numB numsB flagsB boxB anyP idxP mayB
def viewBS : List A → (Res → Prop) → Prop
  | [.agg [.ints .i64 1 [e], .ints .i64 31 zs, .bools 8 ad, .ints .i64 1 [k], .bytes 32 ch]], K => K (.o 5 1 304 [.bytes 304 (viewB e zs ad k ch)])
  | _, _ => False
/-- a welcome's numbers, view, box, tag -/
structure WS where
  leaf : Int
  fr : Int
  e : Int
  zs : List Int
  ad : List Bool
  k : Int
  ch : List UInt8
  box : List UInt8
  tag : List UInt8
def wlSegs (w : WS) : List Seg := [.ints .i64 2 [w.leaf, w.fr], .ints .i64 1 [w.e], .ints .i64 31 w.zs, .bools 8 w.ad, .ints .i64 1 [w.k], .bytes 32 w.ch, .gen 1 [.row w.box.length [.bytes w.box.length w.box]], .bytes 32 w.tag]
structure WSok (w : WS) : Prop where
  zs : w.zs.length = 31
  ad : w.ad.length = 8
  ch : w.ch.length = 32
  tag : w.tag.length = 32
  box : w.box.length ≤ 6000
def mayW (w : WS) : Bool := withinB w.leaf 7 && (withinB w.fr 7 && (mayV w.e w.zs w.ad w.k && decide ((w.box.length : Int) ≤ 300)))
def wlB (w : WS) : List UInt8 := ([2] ++ numsB [w.leaf, w.fr]) ++ (viewB w.e w.zs w.ad w.k w.ch ++ (boxB w.box ++ w.tag))
def wlN (w : WS) : Nat := 17 + (304 + ((8 + w.box.length) + 32))
def wlR (w : WS) : Res := if mayW w = true then .t [.row (wlN w) [.bytes (wlN w) (wlB w)], .v (.int .i64 0)] else .t [.v (.slice none 0 0), .v (.int .i64 1)]
theorem viewB_length {e : Int} {zs : List Int} {ad : List Bool} {k : Int} {ch : List UInt8} (h1 : zs.length = 31) (h2 : ad.length = 8) (h3 : ch.length = 32) : (viewB e zs ad k ch).length = 304 := by
  have h4 : (flagsB ad).length = 8 := by unfold flagsB; rw [List.length_map]; exact h2
  unfold viewB
  simp only [List.length_append, numsB_length, h3, h4, List.length_take, List.length_drop, h1, List.length_cons, List.length_nil]
  rfl
theorem wlB_length {w : WS} (h : WSok w) : (wlB w).length = wlN w := by
  unfold wlB wlN
  simp only [List.length_append, numsB_length, viewB_length h.zs h.ad h.ch, boxB_length, h.tag, List.length_cons, List.length_nil]
noncomputable def envWa : EnvX := envCq.add 53 vIsS (vIsS_of vIs_ok) ⟨_, Try.func53, by kernel_rfl, by kernel_rfl⟩
noncomputable def envWb : EnvX := envWa.add 76 vIsS (vIsS_of rvIs_ok) ⟨_, Try.func76, by kernel_rfl, by kernel_rfl⟩
noncomputable def envWc : EnvX := envWb
attribute [local irreducible] viewB withinB mayV
set_option maxHeartbeats 4000000 in
theorem mayWelcome_ok (w : WS) (hw : WSok w) : FnO 22 [.agg (wlSegs w)] (.d (.v (.bool (mayW w)))) := by
  refine fnA (E := envWc) Try.func22 Try.ntmps22 ?_
  cases h1 : withinB w.leaf 7
  case false =>
    have e1 : mayW w = false := by simp [mayW, h1]
    rw [e1]
    clear e1
    refine agow ?_; (try with_reducible exact True.intro)
  cases h2 : withinB w.fr 7
  case false =>
    have e1 : mayW w = false := by simp [mayW, h2]
    rw [e1]
    clear e1
    refine agow ?_; (try with_reducible exact True.intro)
  cases h3 : mayV w.e w.zs w.ad w.k
  case false =>
    have e1 : mayW w = false := by simp [mayW, h3]
    rw [e1]
    clear e1
    refine agow ?_; (try with_reducible exact True.intro)
  have e1 : mayW w = !decide ((w.box.length : Int) > 300) := by
    simp only [mayW, h1, h2, h3, Bool.true_and]
    rw [Bool.eq_iff_iff]; simp
  rw [e1]
  clear e1
  refine agow ?_; (try with_reducible exact True.intro)
theorem rmayWelcome_ok (w : WS) (hw : WSok w) : FnO 54 [.agg (wlSegs w)] (.d (.v (.bool (mayW w)))) := by
  refine fnA (E := envWc) Try.func54 Try.ntmps54 ?_
  cases h1 : withinB w.leaf 7
  case false =>
    have e1 : mayW w = false := by simp [mayW, h1]
    rw [e1]
    clear e1
    refine agow ?_; (try with_reducible exact True.intro)
  cases h2 : withinB w.fr 7
  case false =>
    have e1 : mayW w = false := by simp [mayW, h2]
    rw [e1]
    clear e1
    refine agow ?_; (try with_reducible exact True.intro)
  cases h3 : mayV w.e w.zs w.ad w.k
  case false =>
    have e1 : mayW w = false := by simp [mayW, h3]
    rw [e1]
    clear e1
    refine agow ?_; (try with_reducible exact True.intro)
  have e1 : mayW w = decide ((w.box.length : Int) ≤ 300) := by
    simp only [mayW, h1, h2, h3, Bool.true_and]
  rw [e1]
  clear e1
  refine agow ?_; (try with_reducible exact True.intro)
/-- a welcome handed in: what comes of it -/
def wlS (res : WS → Res) : List A → (Res → Prop) → Prop
  | [.agg l], K => ∃ w, l = wlSegs w ∧ WSok w ∧ K (res w)
  | _, _ => False
theorem wlS_of {f : FuncId} {res : WS → Res} (h : ∀ w, WSok w → FnO f [.agg (wlSegs w)] (res w)) : ∀ args K, wlS res args K → ∃ r, FnO f args r ∧ K r := by
  intro args K hd
  unfold wlS at hd
  split at hd
  · obtain ⟨w, rfl, h1, hd⟩ := hd; exact ⟨_, h _ h1, hd⟩
  · exact hd.elim
noncomputable def envWd : EnvX := envWc.add 22 (wlS fun w => .d (.v (.bool (mayW w)))) (wlS_of mayWelcome_ok) ⟨_, Try.func22, by kernel_rfl, by kernel_rfl⟩
noncomputable def envWe : EnvX := envWd.add 54 (wlS fun w => .d (.v (.bool (mayW w)))) (wlS_of rmayWelcome_ok) ⟨_, Try.func54, by kernel_rfl, by kernel_rfl⟩
attribute [local irreducible] mayW
attribute [local irreducible] wlR
/-- a welcome, told cell by cell -/
def wlX : List A → (Res → Prop) → Prop
  | [.agg [.ints .i64 2 [leaf, fr], .ints .i64 1 [e], .ints .i64 31 zs, .bools 8 ad, .ints .i64 1 [k], .bytes 32 ch, .gen 1 [.row n [.bytes m box]], .bytes 32 tag]], K =>
    n = box.length ∧ m = box.length ∧ zs.length = 31 ∧ ad.length = 8 ∧ ch.length = 32 ∧ tag.length = 32 ∧ box.length ≤ 6000 ∧ K (wlR ⟨leaf, fr, e, zs, ad, k, ch, box, tag⟩)
  | _, _ => False
theorem wlX_of {f : FuncId} (h : ∀ w, WSok w → FnO f [.agg (wlSegs w)] (wlR w)) : ∀ args K, wlX args K → ∃ r, FnO f args r ∧ K r := by
  intro args K hd
  unfold wlX at hd
  split at hd
  · next leaf fr e zs ad k ch n m box tag =>
    obtain ⟨rfl, rfl, h1, h2, h3, h4, h5, hd⟩ := hd
    exact ⟨_, h ⟨leaf, fr, e, zs, ad, k, ch, box, tag⟩ ⟨h1, h2, h3, h4, h5⟩, hd⟩
  · exact hd.elim
end Go.Proofs.Ytbgdlggobbiibaa
