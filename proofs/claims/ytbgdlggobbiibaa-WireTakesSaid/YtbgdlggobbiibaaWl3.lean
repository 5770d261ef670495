/-
  A law's welcome, opened.
-/
import Derived.Test.YtbgdlggobbiibaaWl1
import Derived.Test.YtbgdlggobbiibaaQ8
import Derived.Test.YtbgdlggobbiibaaI16
namespace Go.Proofs.Ytbgdlggobbiibaa
set_option maxRecDepth 100000
open Go.RowKit Pm Go.ChangeShapes
set_option linter.unusedVariables false
set_option linter.unusedSimpArgs false

/-- what holds of every welcome -/
structure WSall (w : WS) : Prop where
  zs : w.zs.length = 31
  ad : w.ad.length = 8
  ch : w.ch.length = 32
  tag : w.tag.length = 32
  box : w.box.length ≤ 140737488351232
set_option maxHeartbeats 1000000 in
theorem open_welcome {H : Type} {enc : TypeId × Value → H} {w : World} {base b0 : Nat} {held : Bool} {r : Reach} {v : Value} {d : DataW H} {ps : List MemPlace}
    (hval : Value.okWide Try.prog w r b0 48 v) (h : DataW.Trod enc Try.prog w base (fun _ => true) held 48 v d ps) (hlt : ∀ n ∈ d.weights Try.prog 48, n ≤ 140737488351232) :
    ∃ c : WS, WSall c ∧ RA (fun _ => True) w (.agg (wlSegs c)) v := by
  unfold Value.okWide at hval
  rw [Try.underlying48] at hval
  obtain ⟨ar, rfl, hsz, hok⟩ := hval
  rw [show Try.prog.cellsOf 48 = 108 by kernel_rfl] at hsz
  obtain ⟨cs, rfl⟩ : ∃ l : List Value, ar = l.toArray := ⟨ar.toList, by simp⟩
  obtain ⟨fuel, hf⟩ := h
  have hlen : cs.length = 108 := by simpa using hsz
  rw [show (Value.agg cs.toArray).cells.toList = cs by simp [Value.cells]] at hf
  have hN : (Try.prog.cellTypes Try.prog.depth 48).map (·.length) = some 108 := by kernel_rfl
  obtain ⟨k0, w0⟩ := fld_kinds hf hlt (i := 0) (off := 0) (n := 1) (u := 3) (sg := List.replicate 1 (some .i64)) (by kernel_rfl) (by kernel_rfl) (by kernel_rfl) rfl (by omega)
  obtain ⟨k1, w1⟩ := fld_kinds hf hlt (i := 1) (off := 1) (n := 1) (u := 3) (sg := List.replicate 1 (some .i64)) (by kernel_rfl) (by kernel_rfl) (by kernel_rfl) rfl (by omega)
  obtain ⟨kV, wV⟩ := fld_kinds hf hlt (i := 2) (off := 2) (n := 73) (u := 46) (sg := sigView) (by kernel_rfl) (by kernel_rfl) (by kernel_rfl) rfl (by omega)
  obtain ⟨k7, w7⟩ := fld_kinds hf hlt (i := 4) (off := 76) (n := 32) (u := 28) (sg := List.replicate 32 (some .u8)) (by kernel_rfl) (by kernel_rfl) (by kernel_rfl) rfl (by omega)
  obtain ⟨v8, hv8⟩ : ∃ v, cs[75]? = some v := ⟨_, List.getElem?_eq_getElem (by omega)⟩
  obtain ⟨o8, d8, q8, t8, g8⟩ := fld_slice hf hlt hok hN (i := 3) (off := 75) (by omega) hv8 (u := 22) (by kernel_rfl) (by kernel_rfl) (by kernel_rfl) Try.underlying22
  obtain ⟨a8, l8, c8, box, rfl, r8⟩ := open_bytes Try.underlying22 Try.underlying5 (by kernel_rfl) (by kernel_rfl) o8 t8 g8
  obtain ⟨z0, y0, l0, _⟩ := kinds_ints k0 w0
  obtain ⟨z1, y1, l1, _⟩ := kinds_ints k1 w1
  obtain ⟨bs, y7, l7⟩ := kinds_bytes k7 w7
  have sp : ∀ a b, cs.drop a = (cs.drop a).take b ++ cs.drop (a + b) := fun a b => by rw [← List.drop_drop, List.take_append_drop]
  have l76 : cs.drop 76 = (cs.drop 76).take 32 := (List.take_of_length_le (by simp [hlen])).symm
  have e : cs = (cs.drop 0).take 1 ++ ((cs.drop 1).take 1 ++ ((cs.drop 2).take 73 ++ ((cs.drop 75).take 1 ++ (cs.drop 76).take 32))) := by
    rw [← l76, ← sp 75 1, ← sp 2 73, ← sp 1 1, ← sp 0 1]
    rfl
  obtain ⟨dv, hdv⟩ : ∃ l, (cs.drop 2).take 73 = l := ⟨_, rfl⟩
  rw [y0, y1, y7, oneV hv8, hdv] at e
  rw [hdv] at kV wV
  clear hdv
  unfold sigView at kV
  obtain ⟨c1, dv, rfl, j1, kV, x1, wV⟩ := kinds_split kV wV
  obtain ⟨c2, dv, rfl, j2, kV, x2, wV⟩ := kinds_split kV wV
  obtain ⟨c3, dv, rfl, j3, kV, x3, wV⟩ := kinds_split kV wV
  obtain ⟨c4, c5, rfl, j4, j5, x4, x5⟩ := kinds_split kV wV
  obtain ⟨u1, rfl, m1, _⟩ := kinds_ints j1 x1
  obtain ⟨zs, rfl, m2, _⟩ := kinds_ints j2 x2
  obtain ⟨ad, rfl, m3⟩ := kinds_bools j3
  obtain ⟨u4, rfl, m4, _⟩ := kinds_ints j4 x4
  obtain ⟨ch, rfl, m5⟩ := kinds_bytes j5 x5
  obtain ⟨ep, rfl⟩ := one_of m1
  obtain ⟨k, rfl⟩ := one_of m4
  obtain ⟨e0, rfl⟩ := one_of l0
  obtain ⟨e1, rfl⟩ := one_of l1
  refine ⟨⟨e0, e1, ep, zs, ad, k, ch, box, bs⟩, ⟨m2, m3, m5, l7, ?_⟩, ?_⟩
  · show box.length ≤ _
    rw [← r8.row.len_eq]
    have := r8.le; have := r8.small; omega
  · rw [e]
    have r9 := ra_arg8 r8
    simp only [List.append_assoc]
    exact .agg (.ints (zs := [e0, e1]) rfl (.ints m1 (.ints m2 (.bools m3 (.ints m4 (.bytes m5 (.gen (vs := [_]) (.cons r9 rfl .nil) rfl (.ofBytes l7 rfl))))))))
end Go.Proofs.Ytbgdlggobbiibaa
