/-
  The document's book: what writes it.
-/
import Derived.Test.YtanpamcecaoanaaHX1
import Derived.Laws.AppendOwnNone
namespace Go.Proofs.Ytanpamcecaoanaa
set_option maxRecDepth 100000
open Go.RowKit
set_option linter.unusedVariables false
set_option linter.unusedSimpArgs false
attribute [local go_sem] eqh_guard
set_option maxRecDepth 100000 in
theorem xflush_walk (w : World) (r : Nat) (t : TypeId) (v : Value) (L : List Ln) (s : Int) (h : XW w r t v L s) :
    Calls Try.prog 8 #[.pointer (some ⟨r, 0, none⟩)] w fun x w' => x = .returned (.tuple #[]) ∧ Blk w' r (XC v L.length) t ∧ w.grownBy w' (some r) := by
  obtain ⟨ad, c, rfl⟩ := xrun_len h.own
  have c0 := h.blk.cell 0
  have c1 := h.blk.cell 1
  have f1 := h.blk.frozen 1
  have HH := Lib.hid h
  clear h
  go_enter Try.func8, Try.ntmps8
  go_wp2
  go_end0
  exact ⟨rfl, (HH.out.blk.set 1 _).copy rfl, grown_setCell (grown_refl w _) 1 _⟩
theorem XW.line {w : World} {r : Nat} {t : TypeId} {ad : Option Addr} {c : Nat} {L : List Ln} {s : Int} (h : XW w r t (.slice ad L.length c) L s) {j : Nat} (hj : j < L.length) : ∃ q, ad = some ⟨q, 0, none⟩ ∧ w.cell? ⟨q, j * 33, none⟩ = some (.int .i64 (L.getD j (0, [])).1) := by
  rcases h.own.2 with ⟨_, e2⟩ | ⟨q, cap, cur, e1, _, h5, h6, h7, h8, h9⟩
  · omega
  · cases e1
    refine ⟨q, rfl, ?_⟩
    have hn := lnC_length L h.len
    rw [cell_of_row w q (j * 33) cur _ (0, 0) h5]
    have : (cur.toList.take (L.length * 33))[j * 33 + 0]? = (lnC L)[j * 33 + 0]? := by rw [h9]
    rw [List.getElem?_take, if_pos (by omega), Array.getElem?_toList, lnC_at L h.len j 0 hj (by decide)] at this
    rw [Nat.add_zero] at this
    rw [this]; rfl
theorem XW.lt {w : World} {r : Nat} {t : TypeId} {v : Value} {L : List Ln} {s : Int} (h : XW w r t v L s) : ∀ q, v.ownBlock = some q → q < w.heap.size := fun q hq => by
  rcases h.own.2 with ⟨e1, _⟩ | ⟨q', cap, cur, e1, _, h5, _⟩ <;> rw [e1] at hq <;> cases hq
  exact (Array.getElem?_eq_some_iff.1 h5).1
theorem no_at {L : List Ln} {e : Int} (h : hasV L e = false) {j : Nat} (hj : j < L.length) : ((L.getD j (0, [])).1 == e) = false := by
  unfold hasV at h
  rw [List.any_eq_false] at h
  have := h (L.getD j (0, [])) (by rw [List.getD_eq_getElem?_getD, List.getElem?_eq_getElem hj]; exact List.getElem_mem hj)
  simpa using this
theorem line_no {w : World} {r : Nat} {t : TypeId} {ad : Option Addr} {c : Nat} {L : List Ln} {s e : Int} (h : XW w r t (.slice ad L.length c) L s) {j : Nat} (hj : j < L.length) (hn : hasV L e = false) : ∃ q z, ad = some ⟨q, 0, none⟩ ∧ w.cell? ⟨q, j * 33, none⟩ = some (.int .i64 z) ∧ (z == e) = false := by
  obtain ⟨q, h1, h2⟩ := h.line hj
  exact ⟨q, _, h1, h2, no_at hn hj⟩
set_option maxRecDepth 100000 in
set_option maxHeartbeats 2000000 in
theorem xwrite_new (w : World) (r : Nat) (t : TypeId) (v : Value) (L : List Ln) (s e : Int) (p : List UInt8) (hp : p.length = 32) (h0 : 0 ≤ e) (h1 : e ≤ 1099511627776) (hL : L.length ≤ 1000000) (hh : hasV L e = false) (hfull : L.length < 100) (h : XW w r t v L s) :
    Calls Try.prog 6 #[.pointer (some ⟨r, 0, none⟩), .int .i64 e, .agg (HC p)] w fun x w' => x = .returned (.int .i64 0) ∧ ∃ v', XW w' r t v' (L ++ [(e, p)]) s ∧ (v'.ownBlock = v.ownBlock ∨ ∃ q, v'.ownBlock = some q ∧ w.heap.size ≤ q) ∧ GrownX (fun k => k = r ∨ v.ownBlock = some k) w w' := by
  have hsz3 : (Try.prog.info? 30).map (·.size) = some (HC p).size := by rw [HC_size, hp]; kernel_rfl
  have hb := h.blk
  have he2 : ¬ e < 0 := by omega
  have he3 : ¬ e > 1099511627776 := by omega
  obtain ⟨ad, c, rfl⟩ := xrun_len h.own
  have hge : ¬ (L.length : Int) ≥ 100 := by omega
  have S3 := Lib.hid hsz3; have HP := Lib.hid hp; have HF := Lib.hid hfull
  have HH := Lib.hid h; have HLL := Lib.hid hL; have HV := Lib.hid hh
  clear h hL hsz3 h0 h1 hp hfull hb hh
  go_enter Try.func6, Try.ntmps6
  go_wp2_with fail
  rename_i K ha
  have HAA := Lib.hid ha
  clear ha
  obtain ⟨wA, hwA⟩ : ∃ wA, wA = w.alloc (.cells (HC p) 30) := ⟨_, rfl⟩
  have hxA : XW wA r t (.slice ad L.length c) L s := by rw [hwA]; exact HH.out.next ((HH.out.blk).alloc _) (grown_alloc w _ _)
  have hpA : Blk wA w.heap.size (HC p) 30 := by rw [hwA]; exact Blk.newAt _ _ rfl
  have hgA : w.grownBy wA none := by rw [hwA]; exact grown_alloc w _ _
  have cA : wA.cell? ⟨r, 0, none⟩ = some (.slice ad L.length c) := hxA.blk.cell 0
  rw [← hwA]
  have XA := Lib.hid hxA; have PA := Lib.hid hpA; have GA := Lib.hid hgA
  clear hwA hxA hpA hgA
  refine wp_loop (fun a w' => ∃ (j : Nat) (x14 x15 x16 x17 x18 x19 x20 x21 x22 x23 x24 x25 x26 x27 x28 x29 x30 x31 x32 : Value), j ≤ L.length ∧ w' = wA ∧ a = ⟨#[.pointer (some ⟨r, 0, none⟩), .int .i64 e, .agg (HC p), undef, undef, .pointer (some ⟨w.heap.size, 0, none⟩), .int .i64 0, .int .i64 (j : Nat), .int .i64 e, .bool false, .bool false, .int .i64 e, .bool false, .bool false, x14, x15, x16, x17, x18, x19, x20, x21, x22, x23, x24, x25, x26, x27, x28, x29, x30, x31, x32, undef, undef, undef, undef, undef, undef, undef, undef, undef, undef, undef, undef, undef, undef, undef, undef, undef, undef, undef, undef, undef, undef, undef, undef, undef, undef, undef, undef], []⟩)
    (fun a w' => L.length - (intOf (a.tmps.getD 7 undef)).toNat) ⟨0, undef, undef, undef, undef, undef, undef, undef, undef, undef, undef, undef, undef, undef, undef, undef, undef, undef, undef, undef, Nat.zero_le _, rfl, rfl⟩ ?_
  rintro a w1 ⟨j, x14, x15, x16, x17, x18, x19, x20, x21, x22, x23, x24, x25, x26, x27, x28, x29, x30, x31, x32, hj, rfl, rfl⟩
  by_cases hj2 : j < L.length
  · obtain ⟨q, z, rfl, hce, hne⟩ := line_no XA.out hj2 HV.out
    have i1 : (j : Int) < (L.length : Int) := by omega
    have wj : IntKind.i64.wrap ((j : Int) + 1) = (j : Int) + 1 := wrapS (by omega) (by have := HLL.out; omega)
    go_wp2_with fail
    refine ⟨⟨j + 1, _, _, _, _, _, _, _, _, _, _, _, _, _, _, _, _, _, _, _, by omega, trivial, rfl⟩, ?_⟩
    show L.length - ((j : Int) + 1).toNat < L.length - (j : Int).toNat
    omega
  · have i1 : ¬ (j : Int) < (L.length : Int) := by omega
    go_wp2_with fail
    refine HAA.out _ _ ?_
    clear HAA
    go_wp2_with fail
    have hs12 : ∀ {S : Nat → Bool}, (∀ k, S k = true → ∀ j ∈ ([[], [], [1], [2], [3], [], [], [5, 6], [7], [4, 8], [0, 9], [10], [11, 9]] : List (List Nat)).getD k [], S j = true) → S 9 = false → S 12 = false := fun {S} hcl h9 => by
      cases h : S 12 with
      | false => rfl
      | true => have := hcl 12 h 9 (by simp); rw [h9] at this; cases this
    have hA0 : w.heap.size ≠ r := by have := HH.out.blk.lt; omega
    have hV1 : (Value.slice ad L.length c).ownBlock ≠ some r := XA.out.sep
    have hV2 : (Value.slice ad L.length c).ownBlock ≠ some w.heap.size := fun e => by have h := HH.out.own.2; rcases h with ⟨e1, _⟩ | ⟨q, cap, cur, e1, _, h5, _⟩ <;> rw [e1] at e <;> cases e; exact absurd (Array.getElem?_eq_some_iff.1 h5).1 (Nat.lt_irrefl _)
    have hV3 := XA.out.lt
    have hr3 : r < w1.heap.size := XA.out.blk.lt
    refine region_inv (JX w1 r w.heap.size t (.slice ad L.length c) L s e p) [[], [], [1], [2], [3], [], [], [5, 6], [7], [4, 8], [0, 9], [10], [11, 9]] (by kernel_rfl) (by kernel_rfl) (by kernel_rfl)
      ⟨⟨rfl, rfl, rfl, Nat.le_refl _, fun _ _ _ => rfl⟩, PA.out.drew, (fun k x hk => Bool.noConfusion hk), (fun hk => Bool.noConfusion hk), (fun _ => XA.out.own), (fun hk => Bool.noConfusion hk), (fun _ => XA.out.blk.drew), (fun hk => Bool.noConfusion hk), (fun hk => Bool.noConfusion hk)⟩ ?_ ?_
    · refine ⟨?_, ?_, ?_, ?_, ?_, ?_, ?_, ?_, ?_, ?_, ?_, ?_, ?_, trivial⟩
      · intro S vals wj hJ hSi hD hcl
        refine opv rfl ?_ (hJ.pure (i := 0) rfl)
        simp [execOp, putAll, Act.put, Act.eval, Instr.fieldAt, go_sem]
      · intro S vals wj hJ hSi hD hcl
        refine opv rfl ?_ (hJ.pure (i := 1) rfl)
        simp [execOp, putAll, Act.put, Act.eval, Instr.fieldAt, go_sem]
      · intro S vals wj hJ hSi hD hcl
        have d1 := hJ.val 1 _ (hD 1 (by simp)) rfl
        refine opv rfl ?_ (hJ.pure (i := 2) rfl)
        simp [execOp, putAll, Act.put, Act.eval, Instr.fieldAt, go_sem, d1]
      · intro S vals wj hJ hSi hD hcl
        have d2 := hJ.val 2 _ (hD 2 (by simp)) rfl
        refine opv rfl ?_ (hJ.pure (i := 3) rfl)
        simp [execOp, putAll, Act.put, Act.eval, Instr.fieldAt, go_sem, d2]
      · intro S vals wj hJ hSi hD hcl
        have d3 := hJ.val 3 _ (hD 3 (by simp)) rfl
        have h9 : S 9 = false := by cases h : S 9 with | false => rfl | true => have := hcl 9 h 4 (by simp); rw [hSi] at this; cases this
        have c9 : wj.cell? ⟨r, 0, none⟩ = some (.slice ad L.length c) := (hJ.blk0 (hs12 hcl h9)).cell 0
        refine opv rfl ?_ (hJ.pure (i := 4) rfl)
        simp [execOp, putAll, Act.put, Act.eval, go_sem, d3, c9]
      · intro S vals wj hJ hSi hD hcl
        refine opv rfl ?_ (hJ.pure (i := 5) rfl)
        simp [execOp, putAll, Act.put, Act.eval, Instr.fieldAt, go_sem]
      · intro S vals wj hJ hSi hD hcl
        have := run_loadVar_row (P := Try.prog) wj w.heap.size 30 30 (HC p) (0, 0) _ hJ.paper Try.underlying30 rfl S3.out
        exact opv rfl (exec_load rfl (by simp [putAll, Act.put, Act.eval]) this) (hJ.pure (i := 6) rfl)
      · intro S vals wj hJ hSi hD hcl
        have d5 := hJ.val 5 _ (hD 5 (by simp)) rfl
        have d6 := hJ.val 6 _ (hD 6 (by simp)) rfl
        refine opv rfl ?_ (hJ.pure (i := 7) rfl)
        have := run_build wj 60 _ _ (xbuilt_line e HP.out)
        simp [execOp, putAll, Act.put, Act.eval, d5, d6, this, Sem.run_bind]
      · intro S vals wj hJ hSi hD hcl
        have d7 := hJ.val 7 _ (hD 7 (by simp)) rfl
        have h9 : S 9 = false := by cases h : S 9 with | false => rfl | true => have := hcl 9 h 8 (by simp); rw [hSi] at this; cases this
        refine opv rfl ?_ (hJ.alloc h9 (hs12 hcl h9))
        have := xslice_line wj e HP.out
        simp [execOp, putAll, Act.put, Act.eval, d7, this, Sem.run_bind]
      · intro S vals wj hJ hSi hD hcl
        have d4 := hJ.val 4 _ (hD 4 (by simp)) rfl
        obtain ⟨g, k1, k2, k3⟩ := hJ.x8 (hD 8 (by simp))
        obtain ⟨v', wn, k4, k5, k6, k7⟩ := xappend_line wj e HP.out 26 (by have := HF.out; omega) (hJ.old hSi) k2
        refine opv rfl ?_ (hJ.app hSi (hs12 hcl hSi) k5 k6 k7 hV1 hV2 hV3)
        simp [execOp, putAll, Act.put, Act.eval, d4, k1, resolve, invoke, builtin, k4, Sem.run_bind]
      · intro S vals wj hJ hSi hD hcl
        have d0 := hJ.val 0 _ (hD 0 (by simp)) rfl
        refine opv rfl ?_ (hJ.pure (i := 10) rfl)
        simp [execOp, putAll, Act.put, Act.eval, Instr.fieldAt, go_sem, d0]
      · intro S vals wj hJ hSi hD hcl
        have d10 := hJ.val 10 _ (hD 10 (by simp)) rfl
        refine opv rfl ?_ (hJ.pure (i := 11) rfl)
        simp [execOp, putAll, Act.put, Act.eval, Instr.fieldAt, go_sem, d10]
      · intro S vals wj hJ hSi hD hcl
        have d11 := hJ.val 11 _ (hD 11 (by simp)) rfl
        have z9 := (hJ.blk0 hSi).frozen 0
        have z8 : wj.cell? ⟨r, 0, none⟩ = some (.slice ad L.length c) := (hJ.blk0 hSi).cell 0
        obtain ⟨ad9, c9, hv9⟩ := xrun_len (hJ.new (hD 9 (by simp))).1
        refine ops_ rfl ?_ (hJ.store (hD 9 (by simp)) hSi hA0 hr3 hV1 undef)
        simp [execOp, putAll, Act.put, Act.eval, go_sem, d11, z9, z8, hv9]
    · intro vals wz hJ
      have e0 := hJ.val 0 _ rfl rfl
      have e1 := hJ.val 1 _ rfl rfl
      have e2 := hJ.val 2 _ rfl rfl
      have e3 := hJ.val 3 _ rfl rfl
      have e4 := hJ.val 4 _ rfl rfl
      have e5 := hJ.val 5 _ rfl rfl
      have e6 := hJ.val 6 _ rfl rfl
      have e7 := hJ.val 7 _ rfl rfl
      have e10 := hJ.val 10 _ rfl rfl
      have e11 := hJ.val 11 _ rfl rfl
      obtain ⟨n1, n2⟩ := hJ.new rfl
      have n3 := hJ.blk1 rfl
      have n4 := hJ.grown
      have hlen2 : (L ++ [(e, p)]).length = L.length + 1 := by simp
      have hok : ∀ x ∈ L ++ [(e, p)], x.2.length = 32 := by
        intro x hx
        rcases List.mem_append.1 hx with hx | hx
        · exact HH.out.len x hx
        · rcases List.mem_cons.1 hx with rfl | hx
          · exact HP.out
          · cases hx
      generalize hV9 : vals 9 = V9 at n1 n2 n3
      have N1 := Lib.hid n1; have N2 := Lib.hid n2; have N3 := Lib.hid n3; have N4 := Lib.hid n4; have HOK := Lib.hid hok; have H1 := Lib.hid hV1
      clear n1 n2 n3 n4 hok hJ hV1 hV2 hV3 hr3 hA0 hs12 hlen2
      simp [putAll, List.range, List.range.loop, Act.put, e0, e1, e2, e3, e4, e5, e6, e7, e10, e11, hV9]
      clear hV9 e0 e1 e2 e3 e4 e5 e6 e7 e10 e11
      go_wp2_with fail
      have hr3 : r < w1.heap.size := XA.out.blk.lt
      have hsep : V9.ownBlock ≠ some r := fun e1 => by
        rcases N2.out with e2 | ⟨q, e2, e3⟩
        · rw [e2] at e1; exact H1.out e1
        · rw [e2] at e1; cases e1; omega
      go_ret
      refine ⟨rfl, V9, ⟨N3.out, ?_, hsep, HOK.out⟩, N2.out.imp id fun ⟨q, e2, e3⟩ => ⟨q, e2, Nat.le_trans GA.out.size e3⟩, GrownX.trans ⟨GA.out.os, GA.out.tape, GA.out.output, GA.out.size, fun k hk _ => GA.out.block k hk (by simp)⟩ N4.out⟩
      have e1 : (L ++ [(e, p)]).length = L.length + 1 := by simp
      rw [e1]
      exact N1.out
end Go.Proofs.Ytanpamcecaoanaa

/-
  The document's book: what is left behind a crash.
-/
namespace Go.Proofs.Ytanpamcecaoanaa
set_option maxRecDepth 100000
open Go.RowKit
set_option linter.unusedVariables false
set_option linter.unusedSimpArgs false
/-- what the region comes to that reckons it -/
def xcstC (r : Nat) (V : Value) (n s : Nat) (keep : Int) : Nat → Option Value
  | 0 => some (.pointer (some ⟨r, 0, none⟩))
  | 1 => some (.pointer (some ⟨r, 0, none⟩))
  | 2 => some (.pointer (some ⟨r, 1, none⟩))
  | 3 => some (.int .i64 s)
  | 4 => some (.int .i64 keep)
  | 5 => some (.int .i64 (max keep 0))
  | 6 => some (.pointer (some ⟨r, 0, none⟩))
  | 7 => some (.pointer (some ⟨r, 0, none⟩))
  | 8 => some (.pointer (some ⟨r, 0, none⟩))
  | 9 => some V
  | 10 => some (.int .i64 n)
  | 11 => some (.pointer (some ⟨r, 0, none⟩))
  | 12 => some (.pointer (some ⟨r, 0, none⟩))
  | 13 => some (.pointer (some ⟨r, 1, none⟩))
  | 14 => some (.int .i64 s)
  | 15 => some (.int .i64 ((n : Int) - s))
  | 16 => some (.int .i64 (min (max keep 0) ((n : Int) - s)))
  | 17 => some (.int .i64 (leftN n s keep))
  | 18 => some (.int .i64 (leftN n s keep))
  | _ => none
structure JY (w0 : World) (r : Nat) (V : Value) (n s : Nat) (keep : Int) (S : Nat → Bool) (vals : Nat → Value) (w : World) : Prop where
  w : w = w0
  val : ∀ k x, S k = true → xcstC r V n s keep k = some x → vals k = x
theorem JY.pure {w0 : World} {r : Nat} {V : Value} {n s : Nat} {keep : Int} {S : Nat → Bool} {vals : Nat → Value} {w : World} (h : JY w0 r V n s keep S vals w) {i : Nat} {x : Value} (hc : xcstC r V n s keep i = some x) : JY w0 r V n s keep (add1 S i) (fun j => if j = i then x else vals j) w := by
  refine ⟨h.w, fun k y hk hy => ?_⟩
  by_cases e1 : k = i
  · subst e1; rw [hc] at hy; cases hy; exact if_pos rfl
  · rw [add1_other S e1] at hk; show (if k = i then x else vals k) = y; rw [if_neg e1]; exact h.val k y hk hy
theorem built_xbook {v : Value} (hv : v.oneCell' = true) (z : Int) : Try.prog.built 28 [(0, v), (1, .int .i64 z)] = some (XC v z) := by
  obtain ⟨i, hY, ha, he, hpl, hz⟩ : ∃ i, env0.Y 28 = some i ∧ i.agg = true ∧ i.esz = 0 ∧ i.plc = [(0, 1), (1, 1)] ∧ i.zero = [.gen 1 [.v (.slice none 0 0)], .ints .i64 1 [0]] := ⟨_, rfl, rfl, rfl, rfl, rfl⟩
  obtain ⟨f, z0, h1, h2, _, h3, h4⟩ := (env0.hY _ i hY).info
  obtain ⟨fs, k1, k2⟩ := (env0.hY _ i hY).plc ha he
  rw [hz] at h4
  obtain ⟨l', rfl, hf⟩ := fillA_spec (off := fun q => i.plc[q]?) (s := ⟨[.d (.v v), .d (.v (.int .i64 z))], []⟩) (parts := [(0, .tmp 0), (1, .tmp 1)]) (l := [.gen 1 [.v (.slice none 0 0)], .ints .i64 1 [0]]) (K := fun l => l = [.gen 1 [.v v], .ints .i64 1 [z]]) (by rw [hpl]; exact ⟨by decide, rfl, hv, by decide, rfl, rfl, rfl⟩)
  obtain ⟨cs', h5, h6⟩ := hf (D := fun _ => True) (w := default) (ρ := fun _ => none) (fun x => match x with | .tmp 0 => v | _ => .int .i64 z) z0.cells (fun q hq => by
    rcases List.mem_cons.1 hq with rfl | hq
    · exact .v _
    · rcases List.mem_cons.1 hq with rfl | hq
      · exact .v _
      · cases hq) (zeroB_spec h4)
  have h9 : cs' = XC v z := by
    obtain ⟨c1, d1, e1, g1, r1, _⟩ := h6.head
    obtain ⟨_, g3⟩ := g1.toGen
    obtain ⟨_, rfl⟩ := r1.toInts
    cases g3 with
    | cons g4 _ g5 =>
      cases g5; cases g4
      apply Array.toList_inj.1
      rw [e1]; rfl
  subst h9
  have h1' : Try.prog.info? 28 = some f := h1
  have k1' : Try.prog.underlying 28 = some (.struct fs) := k1
  have k2' : fs.toList.mapM (fun f => (Try.prog.info? f.type).map fun j => (f.offset, j.size)) = some i.plc := k2
  unfold Program.built
  simp only [h1', k1', h3, k2']
  have e9 : (fun x : Nat => i.plc.toArray[x]?) = fun q : Nat => i.plc[q]? := by funext q; simp
  rw [e9]
  exact h5
theorem bel_to {B : Nat} {a b c : World} (h : Below B a b) (k : Below b.heap.size b c) (hB : B ≤ b.heap.size) : Below B a c :=
  ⟨k.os.trans h.os, k.tape.trans h.tape, k.output.trans h.output, Nat.le_trans h.size k.size, fun z hz => (k.block z (Nat.lt_of_lt_of_le hz hB)).trans (h.block z hz)⟩
theorem lnC_app (L M : List Ln) : lnC (L ++ M) = lnC L ++ lnC M := by simp [lnC]
theorem xappend_many (w : World) {g q n c : Nat} {cur : Array Value} {L : List Ln} (ty : TypeId) (hg : Blk w g #[] 60) (hq : Blk w q cur 60) (hn : n ≤ L.length) (hL : L.length ≤ 1000) (hlen : ∀ x ∈ L, x.2.length = 32) (hcur : cur.toList.take (L.length * 33) = lnC L) :
    ∃ v' w', (Builtin.append_ #[26, 26] ty #[.slice (some ⟨g, 0, none⟩) 0 0, .slice (some ⟨q, 0, none⟩) n c]).run Try.prog w = .ok v' w' ∧ w'.ownsRow 0 60 33 v' n (lnC (L.take n)) ∧ w.grownBy w' (some g) ∧ (v'.ownBlock = some g ∨ v'.ownBlock = some w.heap.size) := by
  obtain ⟨i, hY, ha, he, hpl, hz, hsz, hby⟩ := xline_ty
  obtain ⟨f, z, h1, h2, h2b, h3, h4⟩ := (env0.hY _ i hY).info
  have hfs : f.size = 33 := h2.trans hsz
  rw [hz] at h4
  have hzr := zeroB_spec (S := fun _ => True) (w := w) h4
  have hzl : z.cells.size = 33 := by have := hzr.len; simpa [segN, Seg.n] using this
  have hsp : lnC L = lnC (L.take n) ++ lnC (L.drop n) := by rw [← lnC_app, List.take_append_drop]
  have htl : ∀ x ∈ L.take n, x.2.length = 32 := fun x hx => hlen x (List.mem_of_mem_take hx)
  have hl : (lnC (L.take n)).length = n * 33 := by rw [lnC_length _ htl, List.length_take, Nat.min_eq_left hn]
  have own0 : w.ownsRow 0 60 33 (.slice (some ⟨g, 0, none⟩) 0 0) 0 [] := ⟨rfl, .inr ⟨g, 0, #[], rfl, Nat.zero_le _, hg, Nat.le_refl _, Nat.zero_le _, rfl, rfl⟩⟩
  have hone : ∀ u ∈ lnC (L.take n), u.oneCell' = true := by
    intro u hu
    unfold lnC at hu
    obtain ⟨x, _, hx⟩ := List.mem_flatMap.1 hu
    rcases List.mem_cons.1 hx with rfl | hx
    · rfl
    · unfold HL at hx
      obtain ⟨b, _, rfl⟩ := List.mem_map.1 hx
      rfl
  obtain ⟨v', w', k1, k2, k3, _, k5⟩ := run_append_own_at (P := Try.prog) w 0 26 ty 60 f z 33 40 Try.underlying26 h1 h3 hfs (h2b.trans hby) hzl (by decide) _ 0 [] own0 ⟨q, 0, none⟩ n c (lnC (L.take n)) hl (fun j u hu => by
      have hj : j < n * 33 := by rw [← hl]; exact (List.getElem?_eq_some_iff.1 hu).1
      rw [add_at, Nat.zero_add, hq.cell j, ← Array.getElem?_toList]
      have e1 : (cur.toList.take (L.length * 33))[j]? = some u := by rw [hcur, hsp, List.getElem?_append_left (by omega)]; exact hu
      rw [List.getElem?_take] at e1
      split at e1
      · exact e1
      · cases e1) hone (by unfold maxLen; omega) (by omega) (Nat.zero_le _)
  rw [Nat.zero_add, List.nil_append] at k2
  exact ⟨v', w', k1, k2, k3, k5⟩
set_option maxRecDepth 100000 in
set_option maxHeartbeats 1000000 in
theorem xcrash_walk (w : World) (r : Nat) (t : TypeId) (v : Value) (L : List Ln) (s : Nat) (keep : Int) (hs : s ≤ L.length) (hL : L.length ≤ 1000) (hk : -9223372036854775808 ≤ keep ∧ keep ≤ 9223372036854775807) (h : XW w r t v L s) :
    Calls Try.prog 11 #[.pointer (some ⟨r, 0, none⟩), .int .i64 keep] w fun x w' => ∃ g v', x = .returned (.pointer (some ⟨g, 0, none⟩)) ∧ XW w' g 28 v' (L.take (leftN L.length s keep)) (leftN L.length s keep : Nat) ∧ w.heap.size ≤ g ∧ (∀ z, v'.ownBlock = some z → w.heap.size ≤ z) ∧ Below w.heap.size w w' := by
  obtain ⟨ad, c, rfl⟩ := xrun_len h.own
  have c2 : w.cell? ⟨r, 0, none⟩ = some (.slice ad L.length c) := h.blk.cell 0
  have c3 : w.cell? ⟨r, 1, none⟩ = some (.int .i64 s) := h.blk.cell 1
  have HH := Lib.hid h; have HS := Lib.hid hs; have HL := Lib.hid hL; have HK := Lib.hid hk
  clear h hs hL hk
  go_enter Try.func11, Try.ntmps11
  go_wp2_with fail
  have hle := leftN_le HS.out keep
  have hw1 : IntKind.i64.wrap ((L.length : Int) - s) = (L.length : Int) - s := wrapS (by have := HS.out; have := HL.out; omega) (by have := HS.out; have := HL.out; omega)
  have hw2 : IntKind.i64.wrap ((s : Int) + min (max keep 0) ((L.length : Int) - s)) = (leftN L.length s keep : Nat) := by rw [left_int HS.out]; exact wrapS (by omega) (by have := HL.out; omega)
  have W1 := Lib.hid hw1; have W2 := Lib.hid hw2; have C2 := Lib.hid c2; have C3 := Lib.hid c3
  clear hw1 hw2 hle c2 c3
  refine region_inv (JY w.drew r (.slice ad L.length c) L.length s keep) [[], [0], [1], [2], [], [4], [], [6], [7], [8], [9], [], [11], [12], [13], [10, 14], [5, 15], [3, 16], [17]] (by kernel_rfl) (by kernel_rfl) (by kernel_rfl) ⟨rfl, fun k x hk => Bool.noConfusion hk⟩ ?_ ?_
  · refine ⟨?_, ?_, ?_, ?_, ?_, ?_, ?_, ?_, ?_, ?_, ?_, ?_, ?_, ?_, ?_, ?_, ?_, ?_, ?_, trivial⟩
    · intro S vals wj hJ hSi hD hcl
      obtain ⟨rfl, _⟩ := id hJ
      refine opv rfl ?_ (hJ.pure (i := 0) rfl)
      simp [execOp, putAll, Act.put, Act.eval, Instr.fieldAt, go_sem]
    · intro S vals wj hJ hSi hD hcl
      obtain ⟨rfl, _⟩ := id hJ
      have d0 := hJ.val 0 _ (hD 0 (by simp)) rfl
      refine opv rfl ?_ (hJ.pure (i := 1) rfl)
      simp [execOp, putAll, Act.put, Act.eval, Instr.fieldAt, go_sem, d0]
    · intro S vals wj hJ hSi hD hcl
      obtain ⟨rfl, _⟩ := id hJ
      have d1 := hJ.val 1 _ (hD 1 (by simp)) rfl
      refine opv rfl ?_ (hJ.pure (i := 2) rfl)
      simp [execOp, putAll, Act.put, Act.eval, Instr.fieldAt, go_sem, d1]
    · intro S vals wj hJ hSi hD hcl
      obtain ⟨rfl, _⟩ := id hJ
      have d2 := hJ.val 2 _ (hD 2 (by simp)) rfl
      refine opv rfl ?_ (hJ.pure (i := 3) rfl)
      simp [execOp, putAll, Act.put, Act.eval, Instr.fieldAt, go_sem, d2, C3.out]
    · intro S vals wj hJ hSi hD hcl
      obtain ⟨rfl, _⟩ := id hJ
      refine opv rfl ?_ (hJ.pure (i := 4) rfl)
      simp [execOp, putAll, Act.put, Act.eval, Instr.fieldAt, go_sem]
    · intro S vals wj hJ hSi hD hcl
      obtain ⟨rfl, _⟩ := id hJ
      have d4 := hJ.val 4 _ (hD 4 (by simp)) rfl
      refine opv rfl ?_ (hJ.pure (i := 5) rfl)
      simp [execOp, putAll, Act.put, Act.eval, Instr.fieldAt, go_sem, d4, resolve, invoke, builtin]
      omega
    · intro S vals wj hJ hSi hD hcl
      obtain ⟨rfl, _⟩ := id hJ
      refine opv rfl ?_ (hJ.pure (i := 6) rfl)
      simp [execOp, putAll, Act.put, Act.eval, Instr.fieldAt, go_sem]
    · intro S vals wj hJ hSi hD hcl
      obtain ⟨rfl, _⟩ := id hJ
      have d6 := hJ.val 6 _ (hD 6 (by simp)) rfl
      refine opv rfl ?_ (hJ.pure (i := 7) rfl)
      simp [execOp, putAll, Act.put, Act.eval, Instr.fieldAt, go_sem, d6]
    · intro S vals wj hJ hSi hD hcl
      obtain ⟨rfl, _⟩ := id hJ
      have d7 := hJ.val 7 _ (hD 7 (by simp)) rfl
      refine opv rfl ?_ (hJ.pure (i := 8) rfl)
      simp [execOp, putAll, Act.put, Act.eval, Instr.fieldAt, go_sem, d7]
    · intro S vals wj hJ hSi hD hcl
      obtain ⟨rfl, _⟩ := id hJ
      have d8 := hJ.val 8 _ (hD 8 (by simp)) rfl
      refine opv rfl ?_ (hJ.pure (i := 9) rfl)
      simp [execOp, putAll, Act.put, Act.eval, Instr.fieldAt, go_sem, d8, C2.out]
    · intro S vals wj hJ hSi hD hcl
      obtain ⟨rfl, _⟩ := id hJ
      have d9 := hJ.val 9 _ (hD 9 (by simp)) rfl
      refine opv rfl ?_ (hJ.pure (i := 10) rfl)
      simp [execOp, putAll, Act.put, Act.eval, Instr.fieldAt, go_sem, d9, resolve, invoke, builtin]
    · intro S vals wj hJ hSi hD hcl
      obtain ⟨rfl, _⟩ := id hJ
      refine opv rfl ?_ (hJ.pure (i := 11) rfl)
      simp [execOp, putAll, Act.put, Act.eval, Instr.fieldAt, go_sem]
    · intro S vals wj hJ hSi hD hcl
      obtain ⟨rfl, _⟩ := id hJ
      have d11 := hJ.val 11 _ (hD 11 (by simp)) rfl
      refine opv rfl ?_ (hJ.pure (i := 12) rfl)
      simp [execOp, putAll, Act.put, Act.eval, Instr.fieldAt, go_sem, d11]
    · intro S vals wj hJ hSi hD hcl
      obtain ⟨rfl, _⟩ := id hJ
      have d12 := hJ.val 12 _ (hD 12 (by simp)) rfl
      refine opv rfl ?_ (hJ.pure (i := 13) rfl)
      simp [execOp, putAll, Act.put, Act.eval, Instr.fieldAt, go_sem, d12]
    · intro S vals wj hJ hSi hD hcl
      obtain ⟨rfl, _⟩ := id hJ
      have d13 := hJ.val 13 _ (hD 13 (by simp)) rfl
      refine opv rfl ?_ (hJ.pure (i := 14) rfl)
      simp [execOp, putAll, Act.put, Act.eval, Instr.fieldAt, go_sem, d13, C3.out]
    · intro S vals wj hJ hSi hD hcl
      obtain ⟨rfl, _⟩ := id hJ
      have d10 := hJ.val 10 _ (hD 10 (by simp)) rfl
      have d14 := hJ.val 14 _ (hD 14 (by simp)) rfl
      refine opv rfl ?_ (hJ.pure (i := 15) rfl)
      simp [execOp, putAll, Act.put, Act.eval, Instr.fieldAt, go_sem, d10, d14, W1.out]
    · intro S vals wj hJ hSi hD hcl
      obtain ⟨rfl, _⟩ := id hJ
      have d5 := hJ.val 5 _ (hD 5 (by simp)) rfl
      have d15 := hJ.val 15 _ (hD 15 (by simp)) rfl
      refine opv rfl ?_ (hJ.pure (i := 16) rfl)
      simp [execOp, putAll, Act.put, Act.eval, Instr.fieldAt, go_sem, d5, d15, resolve, invoke, builtin]
      omega
    · intro S vals wj hJ hSi hD hcl
      obtain ⟨rfl, _⟩ := id hJ
      have d3 := hJ.val 3 _ (hD 3 (by simp)) rfl
      have d16 := hJ.val 16 _ (hD 16 (by simp)) rfl
      refine opv rfl ?_ (hJ.pure (i := 17) rfl)
      simp [execOp, putAll, Act.put, Act.eval, Instr.fieldAt, go_sem, d3, d16, W2.out]
    · intro S vals wj hJ hSi hD hcl
      obtain ⟨rfl, _⟩ := id hJ
      have d17 := hJ.val 17 _ (hD 17 (by simp)) rfl
      refine opv rfl ?_ (hJ.pure (i := 18) rfl)
      simp [execOp, putAll, Act.put, Act.eval, Instr.fieldAt, go_sem, d17]
  · intro vals wz hJ
    obtain ⟨rfl, _⟩ := id hJ
    have e0 := hJ.val 0 _ rfl rfl
    have e1 := hJ.val 1 _ rfl rfl
    have e2 := hJ.val 2 _ rfl rfl
    have e3 := hJ.val 3 _ rfl rfl
    have e4 := hJ.val 4 _ rfl rfl
    have e5 := hJ.val 5 _ rfl rfl
    have e6 := hJ.val 6 _ rfl rfl
    have e7 := hJ.val 7 _ rfl rfl
    have e8 := hJ.val 8 _ rfl rfl
    have e9 := hJ.val 9 _ rfl rfl
    have e10 := hJ.val 10 _ rfl rfl
    have e11 := hJ.val 11 _ rfl rfl
    have e12 := hJ.val 12 _ rfl rfl
    have e13 := hJ.val 13 _ rfl rfl
    have e14 := hJ.val 14 _ rfl rfl
    have e15 := hJ.val 15 _ rfl rfl
    have e16 := hJ.val 16 _ rfl rfl
    have e17 := hJ.val 17 _ rfl rfl
    have e18 := hJ.val 18 _ rfl rfl
    simp [putAll, List.range, List.range.loop, Act.put, e0, e1, e2, e3, e4, e5, e6, e7, e8, e9, e10, e11, e12, e13, e14, e15, e16, e17, e18]
    clear e0 e1 e2 e3 e4 e5 e6 e7 e8 e9 e10 e11 e12 e13 e14 e15 e16 e17 e18 hJ
    obtain ⟨wd, hwd⟩ : ∃ wd, wd = w.drew := ⟨_, rfl⟩
    have HH2 : XW wd r t (.slice ad L.length c) L s := by rw [hwd]; exact ⟨HH.out.blk.drew, HH.out.own, HH.out.sep, HH.out.len⟩
    have HB2 : Below w.heap.size w wd := by rw [hwd]; exact ⟨rfl, rfl, rfl, Nat.le_refl _, fun _ _ => rfl⟩
    have hsz : wd.heap.size = w.heap.size := by rw [hwd]; rfl
    have c0 : wd.cell? ⟨r, 0, none⟩ = some (.slice ad L.length c) := HH2.blk.cell 0
    rw [← hwd]
    clear hwd
    have XH := Lib.hid HH2; have BH := Lib.hid HB2; have ZH := Lib.hid hsz
    clear HH2 HB2 hsz C2 C3 W1 W2
    have bB : Blk (wd.alloc (.cells #[] 60)) wd.heap.size #[] 60 := Blk.newAt _ _ rfl
    have cB : (wd.alloc (.cells #[] 60)).cell? ⟨r, 0, none⟩ = some (.slice ad L.length c) := (XH.out.blk.alloc _).cell 0
    have KB := Lib.hid bB
    clear bB c0
    rcases XH.out.own.2 with ⟨e1, e2⟩ | ⟨q, cap, cur, e1, e3, e4, e5, e6, e7, e8⟩
    · simp only [Value.slice.injEq] at e1
      obtain ⟨rfl, _, rfl⟩ := e1
      obtain rfl : L = [] := List.length_eq_zero_iff.1 e2
      have hm : leftN ([] : List Ln).length s keep = 0 := Nat.le_zero.1 (leftN_le HS.out keep)
      rw [hm]
      go_wp2_with fail
      go_ret
      rw [hm]
      have hz := ZH.out
      refine ⟨_, _, rfl, ⟨Blk.newAt _ _ (size_alloc _ _).symm, ?_, ?_, fun x hx => by simp at hx⟩, by omega, fun z hz2 => ?_, ?_⟩
      · exact ⟨rfl, .inr ⟨wd.heap.size, 0, #[], rfl, Nat.zero_le _, Blk.alloc KB.out _, Nat.le_refl _, Nat.zero_le _, rfl, rfl⟩⟩
      · intro e1
        have e1 : some wd.heap.size = some (wd.heap.size + 1) := e1
        have := Option.some.inj e1
        omega
      · have e1 : some wd.heap.size = some z := hz2
        have := Option.some.inj e1
        omega
      · exact bel_to BH.out ((Below.refl _ _).alloc (Nat.le_refl _) _ |>.alloc (by rw [size_alloc]; omega) _) (by omega)
    · cases e1
      have had : (⟨q, 0, none⟩ : Addr).add 0 = ⟨q, 0, none⟩ := add_at q 0 0
      obtain ⟨n, hn⟩ : ∃ n, n = leftN L.length s keep := ⟨_, rfl⟩
      have hnl : n ≤ L.length := by rw [hn]; exact leftN_le HS.out keep
      have hnc : (n : Int) ≤ (c : Int) := by omega
      rw [← hn]
      have hqr : q ≠ r := fun e1 => XH.out.sep (by rw [e1]; rfl)
      obtain ⟨v', w2, k1, k2, k3, k4⟩ := xappend_many (wd.alloc (.cells #[] 60)) (c := c) 26 KB.out (Blk.alloc (show Blk wd q cur 60 from e4) _) hnl HL.out XH.out.len e8
      have hv1 : v'.oneCell' = true := by obtain ⟨a9, c9, rfl⟩ := xrun_len k2; rfl
      have kb := run_build (P := Try.prog) w2 28 _ _ (built_xbook hv1 (n : Nat))
      have HN := Lib.hid hn
      have HNL := Lib.hid hnl
      have RUN := Lib.hid k1; have KO := Lib.hid k2; have KG := Lib.hid k3; have KZ := Lib.hid k4; have KBD := Lib.hid kb
      clear hn hnl k1 k2 k3 k4 kb hv1 hqr e3 e4 e5 e6 e7 e8
      go_wp2_with (first | (refine wpList_run (v := v') (w2 := w2) rfl ?_ ?_; (focus (simp [execOp, Act.eval, resolve, invoke, builtin, RUN.out, Sem.run_bind]; done))) | (refine wpList_run (v := .agg (XC v' (n : Nat))) (w2 := w2) rfl ?_ ?_; (focus (simp [execOp, Act.eval, KBD.out, Sem.run_bind]; done))))
      go_ret
      have hz := ZH.out
      have hbel : Below wd.heap.size wd (w2.alloc (.cells (XC v' (n : Nat)) 28)) := by
        have h1 := KG.out
        refine ⟨h1.os, h1.tape, h1.output, by rw [size_alloc]; have := h1.size; rw [size_alloc] at this; omega, fun z hz => ?_⟩
        have := h1.size; rw [size_alloc] at this
        rw [Below.heap_alloc w2 _ z (by omega), h1.block z (by rw [size_alloc]; omega) (fun e => by cases e; omega)]
        exact Below.heap_alloc wd _ z hz
      have hvz : ∀ z, v'.ownBlock = some z → wd.heap.size ≤ z ∧ z < w2.heap.size := fun z e1 => by
        refine ⟨?_, ?_⟩
        · rcases KZ.out with e2 | e2 <;> rw [e2] at e1 <;> cases e1
          · exact Nat.le_refl _
          · rw [size_alloc]; omega
        · rcases KO.out.2 with ⟨e2, _⟩ | ⟨q', cap, cur, e2, _, h5, _⟩ <;> rw [e2] at e1 <;> cases e1
          exact (Array.getElem?_eq_some_iff.1 h5).1
      have hs2 : wd.heap.size ≤ w2.heap.size := by have := KG.out.size; rw [size_alloc] at this; omega
      refine ⟨_, v', rfl, ⟨by rw [← HN.out]; exact Blk.newAt _ _ rfl, ?_, ?_, fun x hx => XH.out.len x (List.mem_of_mem_take hx)⟩, by omega, fun z e1 => by have := (hvz z e1).1; omega, bel_to BH.out hbel (by omega)⟩
      · have e1 : (L.take (leftN L.length s keep)).length = n := by rw [List.length_take, ← HN.out]; exact Nat.min_eq_left HNL.out
        rw [e1, ← HN.out]
        exact xrow_keep KO.out fun q _ hq => Below.heap_alloc _ _ _ hq
      · intro e1
        have := (hvz _ e1).2
        omega
end Go.Proofs.Ytanpamcecaoanaa

/-
  The document's book: contracts; a function to which an object is lent, shown by the machine.
-/
namespace Go.Proofs.Ytanpamcecaoanaa
set_option maxRecDepth 100000
open Go.RowKit
set_option linter.unusedVariables false
set_option linter.unusedSimpArgs false

theorem XW.ofQ {w : World} {r : Nat} {F : List Nat} {x : BS} (h : (xkP x).p (fun _ => False) w (r :: F) r) : ∃ t v, XW w r t v x.L x.s ∧ (∀ q, v.ownBlock = some q → q ∈ F) ∧ x.s ≤ x.L.length ∧ x.L.length ≤ 100 := by
  obtain ⟨_, h1, h2, h3⟩ := h
  obtain ⟨t, v, k1, k2⟩ := XW.of h1
  exact ⟨t, v, k1, k2, h2, h3⟩
theorem XW.toQ {w : World} {r : Nat} {F : List Nat} {t : TypeId} {v : Value} {x : BS} (h : XW w r t v x.L x.s) (hF : ∀ q, v.ownBlock = some q → q ∈ F) (h1 : x.s ≤ x.L.length) (h2 : x.L.length ≤ 100) (D : Nat → Prop) : (xkP x).p D w (r :: F) r :=
  ⟨by simp, h.to hF, h1, h2⟩
theorem xflushB_ok (x : BS) : FnB Try.prog gTab 8 0 (xkP x) [] (.t []) (xkP (flushB x)) := by
  intro S w r F vs hG hlt hp hA hS
  obtain ⟨t, v, hb, hF, h1, h2⟩ := XW.ofQ hp
  obtain rfl := args0 hA
  refine (xflush_walk w r t v x.L x.s hb).mono ?_
  rintro y w' ⟨rfl, k1, k2⟩
  exact ⟨_, F, [], rfl, fun q hq => .inl (by simp [hq]), fun q hq => Nat.lt_of_lt_of_le (hlt q hq) k2.size, XW.toQ (x := flushB x) (hb.next k1 k2) hF (Nat.le_refl _) h2 _, ⟨[], rfl, .nil⟩, ⟨k2.os, k2.tape, k2.output, k2.size, fun k hk hn => k2.block k hk (fun e => hn (by cases e; simp))⟩⟩
theorem xcrashB_ok (x : BS) (keep : Int) (hk : -9223372036854775808 ≤ keep ∧ keep ≤ 9223372036854775807) : FnB Try.prog gTab 11 0 (xkP x) [.v (.int .i64 keep)] (.ob (xkP (crashB x keep))) (xkP x) := by
  intro S w r F vs hG hlt hp hA hS
  have hp0 := hp
  obtain ⟨t, v, hb, hF, h1, h2⟩ := XW.ofQ hp
  obtain rfl := args1 hA
  refine (xcrash_walk w r t v x.L x.s keep h1 (by omega) hk hb).mono ?_
  rintro y w' ⟨g, v', rfl, k2, k3, k4, k5⟩
  have hle := leftN_le h1 keep
  have hcl : (x.L.take (leftN x.L.length x.s keep)).length = leftN x.L.length x.s keep := by rw [List.length_take]; exact Nat.min_eq_left hle
  refine ⟨_, F, g :: (match v'.ownBlock with | some q => [q] | none => []), rfl, fun q hq => .inl (by simp [hq]), fun q hq => Nat.lt_of_lt_of_le (hlt q hq) k5.size, (xkP x).up ⟨k5.size, fun z hz hd => hd.elim⟩ (fun q hq => k5.block q (hlt q hq)) (show (xkP x).p (fun _ => False) w (r :: F) r from hp0), ⟨g, match v'.ownBlock with | some q => [q] | none => [], rfl, rfl, fun q hq => ?_, XW.toQ (x := crashB x keep) k2 (fun q hq => by rw [hq]; simp) (Nat.le_of_eq hcl.symm) (by show (x.L.take (leftN x.L.length x.s keep)).length ≤ 100; omega) _⟩, ⟨k5.os, k5.tape, k5.output, k5.size, fun k hk hn => k5.block k hk⟩⟩
  have hq2 : w.heap.size ≤ q ∧ q < w'.heap.size := by
    rcases List.mem_cons.1 hq with rfl | hq
    · exact ⟨k3, k2.blk.lt⟩
    · cases hv : v'.ownBlock with
      | none => rw [hv] at hq; cases hq
      | some q' =>
        rw [hv] at hq
        simp at hq; subst hq
        exact ⟨k4 _ hv, k2.lt _ hv⟩
  exact ⟨hq2.1, hq2.2, fun hm => by have := hlt q hm; omega⟩
theorem xwriteB_ok (x : BS) (e : Int) (p : List UInt8) : FnB Try.prog gTab 6 0 (xkP x) [.v (.int .i64 e), .agg [.bytes 32 p]] (.d (.v (.int .i64 (writeE x e p)))) (xkP (writeB x e p)) := by
  intro S w r F vs hG hlt hp hA hS
  have hp0 := hp
  obtain ⟨t, v, hb, hF, h1, h2⟩ := XW.ofQ hp
  by_cases hc : (e < 0 ∨ e > 1099511627776) ∨ hasV x.L e = true ∨ 100 ≤ x.L.length
  · have hx : writeB x e p = x := by
      unfold writeB
      split
      · rfl
      · next a1 =>
        split
        · rfl
        · next a2 =>
          split
          · rfl
          · next a3 => exact (hc.elim a1 fun h => h.elim a2 a3).elim
    rw [hx]
    have kS : Keeps S w (fun z => S z ∨ z ∈ r :: F) w := toKeeps fun z hz => .inl hz
    refine (xwrite_fn x.L x.s x.f e p (by omega) hc (fun z => S z ∨ z ∈ r :: F) w (.pointer (some ⟨r, 0, none⟩) :: vs) (hG.up kS) (.cons ((xkP x).hdv _ rfl hp) (RAs.up kS hA))).mono ?_
    rintro y w' ⟨v2, rfl, k1, k2⟩
    cases k1
    exact ⟨_, F, [], rfl, fun q hq => .inl (by simp [hq]), fun q hq => Nat.lt_of_lt_of_le (hlt q hq) k2.size, (xkP x).up ⟨k2.size, fun z hz hd => hd.elim⟩ (fun q hq => k2.block q (hlt q hq)) (show (xkP x).p (fun _ => False) w (r :: F) r from hp0), .v _, ⟨k2.os, k2.tape, k2.output, k2.size, fun k hk hn => k2.block k hk⟩⟩
  · have c1 : ¬ (e < 0 ∨ e > 1099511627776) := fun h => hc (.inl h)
    have c2 : ¬ hasV x.L e = true := fun h => hc (.inr (.inl h))
    have c3 : ¬ 100 ≤ x.L.length := fun h => hc (.inr (.inr h))
    unfold writeE writeB
    rw [if_neg c1, if_neg c1, if_neg c2, if_neg c2, if_neg c3, if_neg c3]
    obtain ⟨rfl, hl⟩ := args2 hA
    refine (xwrite_new w r t v x.L x.s e p hl (by omega) (by omega) (by omega) (by simpa using c2) (by omega) hb).mono ?_
    rintro y w' ⟨rfl, v', k1, k2, k3⟩
    have hin : ∀ q, v.ownBlock = some q → q ∈ r :: F := fun q hq => by simp [hF q hq]
    refine ⟨_, match v'.ownBlock with | some q => [q] | none => [], [], rfl, fun q hq => ?_, fun q hq => ?_, XW.toQ (x := ⟨x.L ++ [(e, p)], x.s, x.f⟩) k1 (fun q hq => by rw [hq]; simp) (by simp; omega) (by simp; omega) _, .v _, ⟨k3.os, k3.tape, k3.output, k3.size, fun k hk hn => k3.block k hk (fun e => hn (by rcases e with e | e; simp [e]; exact hin k e))⟩⟩
    · cases hv : v'.ownBlock with
      | none => rw [hv] at hq; cases hq
      | some q' =>
        rw [hv] at hq
        simp at hq; subst hq
        rcases k2 with k2 | ⟨q2, k2, k4⟩
        · exact .inl (hin q (by rw [← k2]; exact hv))
        · rw [hv] at k2; cases k2; exact .inr k4
    · rcases List.mem_cons.1 hq with rfl | hq
      · exact Nat.lt_of_lt_of_le (hlt _ (by simp)) k3.size
      · cases hv : v'.ownBlock with
        | none => rw [hv] at hq; cases hq
        | some q' =>
          rw [hv] at hq
          simp at hq; subst hq
          exact k1.lt _ hv
/-- an object whose beginning is told -/
def rootP (z : Nat) (p : OP) (hf : p.fl = true) : OP := { p := fun D w F r => r = z ∧ p.p D w F r, up := fun k e h => ⟨h.1, p.up k e h.2⟩, fl := true, hfl := by intro _ D D' w F r h; exact ⟨h.1, p.hfl hf h.2⟩ }
theorem FnB.root {P : Program} {G : Nat → Option (List Seg)} {f : FuncId} {pos : Nat} {p p' : OP} {args : List A} {res : Res} (hf : p.fl = true) (hf' : p'.fl = true) (z : Nat) (h : FnB P G f pos p args res p') : FnB P G f pos (rootP z p hf) args res (rootP z p' hf') := by
  intro S w r F vs hG hlt hp ha hS
  obtain ⟨rfl, hp⟩ := hp
  refine (h S w r F vs hG hlt hp ha hS).mono ?_
  rintro e w' ⟨v, F', N, rfl, k1, k2, k3, k4, k5⟩
  exact ⟨v, F', N, rfl, k1, k2, ⟨rfl, k3⟩, k4, k5⟩
theorem ras_slots {D : Nat → Prop} {ρ : Nat → Option Value} {w : World} : ∀ {args : List A} {vs : List Value}, RAs D w args vs → ∀ (m i : Nat), i < args.length + m → RT D ρ w ((args.map T.d ++ List.replicate m (T.d (.v undef))).getD i .dead) ((vs ++ List.replicate m undef).getD i undef) ∧ ((args.map T.d ++ List.replicate m (T.d (.v undef))).getD i .dead).refs = []
  | _, _, .nil, m, i, hi => by
    have hi : i < m := by simpa using hi
    simp only [List.map_nil, List.nil_append, List.getD_eq_getElem?_getD, List.getElem?_replicate, if_pos hi]
    exact ⟨.v _, rfl⟩
  | _, _, .cons h r, m, 0, hi => ⟨h, rfl⟩
  | _, _, .cons h r, m, i + 1, hi => by
    have := ras_slots (ρ := ρ) r m i (by simp at hi; omega)
    simpa using this
theorem ras_len {D : Nat → Prop} {w : World} : ∀ {args : List A} {vs : List Value}, RAs D w args vs → vs.length = args.length
  | _, _, .nil => rfl
  | _, _, .cons _ r => by simp [ras_len r]
/-- what a function begins with to which an object is lent -/
theorem begin_obj {E : EnvX} {S : Nat → Prop} {w : World} {q : Nat} {F : List Nat} {args : List A} {vs : List Value} {p : OP} (nt : Nat) (hn : args.length + 1 ≤ nt) (hG : GOK E.G S w) (hlt : ∀ z ∈ q :: F, z < w.heap.size) (hp : p.p S w (q :: F) q) (hv : RAs S w args vs) (hS : ∀ z, S z → z ∉ q :: F) :
    Good S w.heap.size (⟨w, fun r => r ∈ q :: F, none, []⟩ : W0 E.G) ⟨T.ob 0 :: (args.map T.d ++ List.replicate (nt - (args.length + 1)) (T.d (.v undef))), [some (.abs p)]⟩ (fun b => if b = 0 then some (fpv (q :: F)) else none)
      { tmps := (.pointer (some ⟨q, 0, none⟩) :: vs).toArray ++ Array.replicate (nt - (.pointer (some ⟨q, 0, none⟩) :: vs).toArray.size) undef, defers := [] } w := by
  have hl := ras_len hv
  have hρ : ∀ b u, (if b = 0 then some (fpv (q :: F)) else none) = some u → b = 0 ∧ u = fpv (q :: F) := fun b u h => by
    split at h
    · next e => cases h; exact ⟨e, rfl⟩
    · cases h
  have D : Keeps S w (Dt S w.heap.size fun b => if b = 0 then some (fpv (q :: F)) else none) w := ⟨Nat.le_refl _, fun r _ hs => ⟨⟨.inl hs, fun b u hb hu => by
    obtain ⟨_, rfl⟩ := hρ b u hb
    exact hS r hs (rl_fpv.1 hu)⟩, fun _ => rfl⟩⟩
  have hvD := RAs.up D hv
  have tm : ((.pointer (some ⟨q, 0, none⟩) :: vs).toArray ++ Array.replicate (nt - (.pointer (some ⟨q, 0, none⟩) :: vs).toArray.size) undef) = (.pointer (some ⟨q, 0, none⟩) :: (vs ++ List.replicate (nt - (args.length + 1)) undef)).toArray := by
    apply Array.toList_inj.1
    simp [hl]
  rw [tm]
  refine ⟨by simp [hl], fun i hi => ?_, fun b => ?_, fun i b hb => ?_, fun b b' u u' r h1 h2 _ _ => (hρ b u h1).1.trans (hρ b' u' h2).1.symm, fun b u r h1 h2 => ?_, BelX.refl _ _ _, hG.up D, fun z hz => (by cases hz), Nat.le_refl _, rfl⟩
  · cases i with
    | zero =>
      intro u hu
      obtain ⟨_, rfl⟩ := hρ 0 u hu
      exact ⟨q, F, rfl, rfl⟩
    | succ i =>
      have := (ras_slots (ρ := fun b => if b = 0 then some (fpv (q :: F)) else none) hvD (nt - (args.length + 1)) i (by simp [hl] at hi; omega)).1
      simpa [St.sl, Array.getD_eq_getD_getElem?, List.getD_eq_getElem?_getD] using this
  · by_cases hb : b = 0
    · subst hb
      exact ⟨q, F, rfl, hlt, p.up D (fun _ _ => rfl) hp⟩
    · have : St.bk ⟨T.ob 0 :: (args.map T.d ++ List.replicate (nt - (args.length + 1)) (T.d (.v undef))), [some (.abs p)]⟩ b = none := by
        cases b with
        | zero => exact absurd rfl hb
        | succ b => simp [St.bk]
      rw [this]
      exact if_neg hb
  · cases i with
    | zero =>
      have : b = 0 := by simpa [St.sl, T.refs] using hb
      subst this
      simp [St.bk]
    | succ i =>
      exfalso
      have e1 : St.sl ⟨T.ob 0 :: (args.map T.d ++ List.replicate (nt - (args.length + 1)) (T.d (.v undef))), [some (.abs p)]⟩ (i + 1) = (args.map T.d ++ List.replicate (nt - (args.length + 1)) (T.d (.v undef))).getD i .dead := rfl
      rw [e1] at hb
      by_cases hi : i < args.length + (nt - (args.length + 1))
      · rw [(ras_slots (ρ := fun b => if b = 0 then some (fpv (q :: F)) else none) hvD _ i hi).2] at hb; cases hb
      · rw [List.getD_eq_getElem?_getD, List.getElem?_eq_none (by simp; omega)] at hb; simp [T.refs] at hb
  · obtain ⟨_, rfl⟩ := hρ b u h1
    have := rl_fpv.1 h2
    exact ⟨.inr this, hlt r this⟩
/-- a function to which an object is lent, and that answers plainly -/
theorem fnB_of_wpA {E : EnvX} {f : FuncId} {fn : Func} {c : Code} {args : List A} {p p' : OP} {x : Value} {n tm : Nat} {t : List T} (hf : E.P.funcs[f]? = some fn) (hnt : fn.ntmps = n) (hb : fn.body = some c) (hfl : p.fl = true) (hfl' : p'.fl = true) (hres : fn.results = #[.tmp tm]) (hn : args.length + 1 ≤ n)
    (ht : T.ob 0 :: (args.map T.d ++ List.replicate (n - (args.length + 1)) (T.d (.v undef))) = t)
    (h : ∀ z, wpA E c ⟨t, [some (.abs (rootP z p hfl))]⟩ fun e s => (e = .normal ∨ e = .ret) ∧ s.bk 0 = some (.abs (rootP z p' hfl')) ∧ s.sl tm = .d (.v x)) : FnB E.P E.G f 0 p args (.d (.v x)) p' := by
  subst hnt; subst ht
  intro S w q F vs hG hlt hp hv hS
  refine calls_of_wp hf hb ?_
  have g := begin_obj (E := E) (p := rootP q p hfl) fn.ntmps hn hG hlt ⟨rfl, hp⟩ hv hS
  refine wp_mono (wpA_sound c (h q) g) ?_
  rintro e a' w' ⟨s', ρ', ⟨he, hk, hr⟩, hg⟩
  have hB := hg.b 0
  rw [hk] at hB
  obtain ⟨r', F', k1, k2, rfl, k4⟩ := hB
  have hd : Ending.returned x = .returned x ∧ True := ⟨rfl, trivial⟩
  have hv1 : a'.tmps.getD tm undef = x := by
    have h1 := hg.ev (.tmp tm)
    rw [show s'.ev (.tmp tm) = .d (.v x) from hr] at h1
    exact RA.plain h1
  have hF : ∀ z ∈ F', z ∈ r' :: F ∨ w.heap.size ≤ z := fun z hz => (hg.low 0 _ z k1 (rl_fpv.2 (by simp [hz]))).1.symm
  have hfin : ∃ v F2 N, Ending.returned x = .returned v ∧ (∀ z ∈ F2, z ∈ r' :: F ∨ w.heap.size ≤ z) ∧ (∀ z ∈ r' :: F2, z < w'.heap.size) ∧ p'.p (fun z => ((S z ∨ w.heap.size ≤ z) ∧ z ∉ r' :: F2) ∧ z ∉ N) w' (r' :: F2) r' ∧ RRb S w w' (r' :: F2) N (.d (.v x)) v ∧ GrownX (fun z => z ∈ r' :: F) w w' :=
    ⟨x, F', [], rfl, hF, k2, p'.hfl hfl' k4, .v _, ⟨hg.bel.os, hg.bel.tape, hg.bel.output, hg.bel.size, fun k hk hne => hg.bel.block k hk hne⟩⟩
  have hrun : (results fn a'.tmps).run E.P w' = .ok x w' := by rw [← hv1]; exact run_results1 hres rfl
  rcases he with rfl | rfl
  · exact ⟨hg.defs, x, hrun, hfin⟩
  · exact ⟨hg.defs, x, hrun, hfin⟩
end Go.Proofs.Ytanpamcecaoanaa
