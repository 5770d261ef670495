/-
  Books: what is written of an epoch, the lock held.
-/
import Derived.Test.YtcfdlffjghlghaaB2
namespace Go.Proofs.Ytcfdlffjghlghaa
set_option maxRecDepth 100000
open Go.RowKit
set_option linter.unusedVariables false
set_option linter.unusedSimpArgs false

theorem lnC_at (L : List Ln) (h : ∀ x ∈ L, x.2.length = 32) : ∀ (j i : Nat), j < L.length → i < 33 → (lnC L)[j * 33 + i]? = (Value.int .i64 (L.getD j (0, [])).1 :: HL (L.getD j (0, [])).2)[i]? := by
  induction L with
  | nil => intro j i hj; simp at hj
  | cons x L ih =>
    intro j i hj hi
    have h1 := h x (by simp)
    have hl : (Value.int .i64 x.1 :: HL x.2).length = 33 := by simp [HL_length, h1]
    have e : lnC (x :: L) = (Value.int .i64 x.1 :: HL x.2) ++ lnC L := rfl
    rw [e]
    cases j with
    | zero => rw [Nat.zero_mul, Nat.zero_add, List.getElem?_append_left (by omega)]; rfl
    | succ j =>
      rw [List.getElem?_append_right (by omega), hl, show (j + 1) * 33 + i - 33 = j * 33 + i by omega, ih (fun y hy => h y (by simp [hy])) j i (by simpa using hj) hi]
      simp
theorem bookRA {w : World} {r : Nat} {t : TypeId} {v : Value} {mu s f : Int} {L : List Ln} (hb : Blk w r (BC mu v s f) t) (ho : w.ownsRow 0 65 33 v L.length (lnC L)) (hl : ∀ x ∈ L, x.2.length = 32) :
    RA (fun _ => True) w (.sref (bookSegs mu L s f) 0) (.pointer (some ⟨r, 0, none⟩)) := by
  have hv : RA (fun _ => True) w (.recs L.length 33 (lineF L)) v := by
    rcases ho.2 with ⟨e1, e2⟩ | ⟨q, cap, cur, rfl, _, h5, h6, h7, h8, h9⟩
    · rw [e1, e2]
      exact .recs (cs := fun _ => []) (fun j hj => absurd hj (by omega)) (Nat.le_refl _) (Nat.zero_le _) (fun _ => rfl) (.inl rfl)
    · refine .recs (cs := fun j => .int .i64 (L.getD j (0, [])).1 :: HL (L.getD j (0, [])).2) (fun j hj => ?_) h6 h7 (fun e => by cases e) (.inr ⟨q, 0, rfl, fun j hj => .inr ⟨q, 0 + j * 33, rfl, trivial, (Array.getElem?_eq_some_iff.1 h5).1, fun i hi => ?_⟩⟩)
      · have hm : L.getD j (0, []) ∈ L := by rw [List.getD_eq_getElem?_getD, List.getElem?_eq_getElem hj]; exact List.getElem_mem hj
        have := RL.append (.ofInts (k := .i64) (n := 1) (zs := [(L.getD j (0, [])).1]) rfl rfl) (RL.ofBytes (S := fun _ => True) (w := w) (hl _ hm) rfl)
        exact this
      · have hm : L.getD j (0, []) ∈ L := by rw [List.getD_eq_getElem?_getD, List.getElem?_eq_getElem hj]; exact List.getElem_mem hj
        have hi2 : i < 33 := by rw [List.length_cons, HL_length, hl _ hm] at hi; exact hi
        have hn := lnC_length L hl
        rw [cell_of_row w q (0 + j * 33 + i) cur _ (0, 0) h5, Nat.zero_add]
        have : (cur.toList.take (L.length * 33))[j * 33 + i]? = (lnC L)[j * 33 + i]? := by rw [h9]
        rw [List.getElem?_take, if_pos (by omega), Array.getElem?_toList, lnC_at L hl j i hj hi2] at this
        rw [this, List.getElem?_eq_getElem hi]
  have hv1 : v.oneCell' = true := by obtain ⟨ad, c, rfl⟩ := run_len_any ho; rfl
  have hR : RL (fun _ => True) w (bookSegs mu L s f) (BC mu v s f).toList := by
    have h1 := RL.append (.ofInts (k := .i32) (n := 1) (zs := [mu]) rfl rfl) (RL.append (.ofInts (k := .u32) (n := 1) (zs := [0]) rfl rfl) (RL.append (.ofGen (n := 1) rfl (.cons hv hv1 .nil)) (RL.ofInts (S := fun _ => True) (w := w) (k := .i64) (n := 2) (zs := [s, f]) rfl rfl)))
    exact h1
  refine .sref (off := 0) hR (.inr ⟨r, 0, rfl, trivial, (Array.getElem?_eq_some_iff.1 hb).1, fun i hi => ?_⟩)
  rw [Nat.zero_add, cells_of hb i, List.getElem?_eq_getElem hi]
theorem ra_agg32 {S : Nat → Prop} {w : World} {p : List UInt8} {v : Value} (h : RA S w (.agg [.bytes 32 p]) v) : v = .agg (HL p).toArray ∧ p.length = 32 := by
  cases h with | agg k => obtain ⟨h1, rfl⟩ := k.toBytes; exact ⟨rfl, h1⟩
theorem find_any {w : World} {r : Nat} {t : TypeId} {v : Value} {mu s f : Int} {L : List Ln} (e : Int) (hL : L.length ≤ 1000000) (hb : Blk w r (BC mu v s f) t) (ho : w.ownsRow 0 65 33 v L.length (lnC L)) (hl : ∀ x ∈ L, x.2.length = 32) :
    Calls Try.prog 26 #[.pointer (some ⟨r, 0, none⟩), .int .i64 e] w fun x w' => x = .returned (.tuple #[HV (getV L e), .bool (hasV L e)]) ∧ Below w.heap.size w w' := by
  refine (find_ok mu L s f e hL (fun _ => True) w [.pointer (some ⟨r, 0, none⟩), .int .i64 e] (fun q l h => by cases h) (.cons (bookRA hb ho hl) (.cons (.v _) .nil))).mono ?_
  rintro x w' ⟨v', rfl, ⟨vs, rfl, h2⟩, h3⟩
  cases h2 with
  | cons h2 h4 => cases h4 with
    | cons h4 h5 => cases h5; obtain ⟨rfl, _⟩ := ra_agg32 h2; cases h4; exact ⟨rfl, h3⟩
theorem getV_len (L : List Ln) (h : ∀ x ∈ L, x.2.length = 32) (e : Int) : (getV L e).length = 32 := by
  unfold getV
  split
  · next x hx => exact h x (List.mem_of_find?_eq_some hx)
  · rfl
theorem grownB {w w' : World} {row : Option Nat} (h : Below w.heap.size w w') : w.grownBy w' row := ⟨h.os, h.tape, h.output, h.size, fun k hk _ => h.block k hk⟩
theorem grown_alloc (w : World) (o : Obj) (row : Option Nat) : w.grownBy (w.alloc o) row := ⟨rfl, rfl, rfl, by rw [size_alloc]; omega, fun k hk _ => Below.heap_alloc _ _ _ hk⟩
theorem BookW.grow {w w' : World} {r : Nat} {t : TypeId} {v : Value} {L : List Ln} {s f : Int} (h : BookW w r t v L s f) (hg : w.grownBy w' none) : BookW w' r t v L s f := by
  have hb : Blk w' r (BC 0 v s f) t := (hg.block r h.blk.lt (by simp)).trans h.blk
  exact h.next hb ⟨hg.os, hg.tape, hg.output, hg.size, fun k hk hne => hg.block k hk (by simp)⟩
/-- the book, its lock held -/
structure BookL (w : World) (r : Nat) (t : TypeId) (v : Value) (L : List Ln) (s f : Int) : Prop where
  blk : Blk w r (BC 1 v s f) t
  own : w.ownsRow 0 65 33 v L.length (lnC L)
  sep : v.ownBlock ≠ some r
  len : ∀ x ∈ L, x.2.length = 32
theorem BookL.of {w : World} {r : Nat} {t : TypeId} {v : Value} {L : List Ln} {s f : Int} (h : BookW w r t v L s f) : BookL (w.setCell ⟨r, 0, none⟩ (.int .i32 1)) r t v L s f := by
  have hb : Blk (w.setCell ⟨r, 0, none⟩ (.int .i32 1)) r (BC 1 v s f) t := (h.blk.set 0 _).copy rfl
  have hg : w.grownBy (w.setCell ⟨r, 0, none⟩ (.int .i32 1)) (some r) := grown_setCell (grown_refl w _) 0 _
  refine ⟨hb, ⟨h.own.1, ?_⟩, h.sep, h.len⟩
  rcases h.own.2 with h1 | ⟨q, cap, cur, e, h2, h3, h4⟩
  · exact .inl h1
  · refine .inr ⟨q, cap, cur, e, h2, ?_, h4⟩
    rw [hg.block q (Array.getElem?_eq_some_iff.1 h3).1 (fun e2 => h.sep (by rw [e]; cases e2; rfl))]
    exact h3
theorem BookL.grow {w w' : World} {r : Nat} {t : TypeId} {v : Value} {L : List Ln} {s f : Int} (h : BookL w r t v L s f) (hg : w.grownBy w' none) : BookL w' r t v L s f := by
  refine ⟨(hg.block r h.blk.lt (by simp)).trans h.blk, ⟨h.own.1, ?_⟩, h.sep, h.len⟩
  rcases h.own.2 with h1 | ⟨q, cap, cur, e, h2, h3, h4⟩
  · exact .inl h1
  · exact .inr ⟨q, cap, cur, e, h2, (hg.block q (Array.getElem?_eq_some_iff.1 h3).1 (by simp)).trans h3, h4⟩
theorem BookL.setNew {w : World} {r g : Nat} {t : TypeId} {v : Value} {L : List Ln} {s f : Int} (h : BookL w r t v L s f) (hg : g ≠ r) (hv : v.ownBlock ≠ some g) (cs : Array Value) : BookL (w.setRow g cs) r t v L s f := by
  refine ⟨(setRow_other _ _ _ _ (Ne.symm hg)).trans h.blk, ⟨h.own.1, ?_⟩, h.sep, h.len⟩
  rcases h.own.2 with h1 | ⟨q, cap, cur, e, h2, h3, h4⟩
  · exact .inl h1
  · exact .inr ⟨q, cap, cur, e, h2, (setRow_other _ _ _ _ (fun e2 => hv (by rw [e, ← e2]; rfl))).trans h3, h4⟩
theorem BookL.lt {w : World} {r : Nat} {t : TypeId} {v : Value} {L : List Ln} {s f : Int} (h : BookL w r t v L s f) : ∀ q, v.ownBlock = some q → q < w.heap.size := by
  intro q hq
  rcases h.own.2 with ⟨e1, e2⟩ | ⟨q', cap, cur, e, h2, h3, h4⟩
  · rw [e1] at hq; cases hq
  · rw [e] at hq; cases hq; exact (Array.getElem?_eq_some_iff.1 h3).1
theorem BookL.find {w : World} {r : Nat} {t : TypeId} {v : Value} {L : List Ln} {s f : Int} (h : BookL w r t v L s f) (hL : L.length ≤ 1000000) (e : Int) :
    Calls Try.prog 26 #[.pointer (some ⟨r, 0, none⟩), .int .i64 e] w fun x w' => x = .returned (.tuple #[HV (getV L e), .bool (hasV L e)]) ∧ Below w.heap.size w w' := find_any e hL h.blk h.own h.len
theorem run_tuple2 {fn : Func} {p q : Tmp} {ty : TypeId} (h : fn.results = #[.cell p ty, .tmp q]) (tmps : Array Value) (w : World) (g : Nat) (t : TypeId) (cs : Array Value) (y : Value) (n : Nat) (el : TypeId)
    (hp : tmps.getD p undef = .pointer (some ⟨g, 0, none⟩)) (hq : tmps.getD q undef = y) (hg : w.heap[g]? = some (.cells cs t (0, 0)))
    (hu : Try.prog.underlying ty = some (.array n el)) (hi : (Try.prog.info? ty).map (·.size) = some cs.size) :
    (results fn tmps).run Try.prog w = .ok (.tuple #[.agg cs, y]) w := by
  have h1 := run_loadVar_row (P := Try.prog) w g t ty cs (0, 0) _ hg hu rfl hi
  have h2 : fn.results.toList = [.cell p ty, .tmp q] := by rw [h]
  have h3 : fn.results = [ResultVar.cell p ty, ResultVar.tmp q].toArray := by rw [h]
  rw [results_eq, h3, List.mapM_toArray]
  simp only [List.mapM_cons, List.mapM_nil, resOf, Sem.run_bind, Sem.run_pure, Result.andThen_ok, hp, hq, asAddr, h1]
  simp [Sem.run_bind, hp, hq, asAddr, h1]
set_option maxRecDepth 100000 in
set_option maxHeartbeats 1000000 in
theorem holds_walk (w : World) (r : Nat) (t : TypeId) (v : Value) (L : List Ln) (s f e : Int) (hL : L.length ≤ 1000000) (h : BookW w r t v L s f) :
    Calls Try.prog 21 #[.pointer (some ⟨r, 0, none⟩), .int .i64 e] w fun x w' => x = .returned (.tuple #[HV (getV L e), .bool (hasV L e)]) ∧ Blk w' r (BC 0 v s f) t ∧ w.grownBy w' (some r) := by
  have hlen := getV_len L h.len e
  have hsz : (Try.prog.info? 30).map (·.size) = some (HC (getV L e)).size := by rw [HC_size, hlen]; kernel_rfl
  have hsz2 : (HC (List.replicate 32 (0 : UInt8))).size = (HC (getV L e)).size := by rw [HC_size, HC_size, hlen]; rfl
  have S1 := Lib.hid hsz; have S2 := Lib.hid hsz2
  have HH := Lib.hid h; have HLL := Lib.hid hL
  clear h hL hlen hsz hsz2
  go_enter_defers Try.func21, Try.ntmps21
  go_wp2_with fail
  go_at_call 24
  have hA := HH.out.grow (grown_alloc w (.cells (HC (List.replicate 32 (0 : UInt8))) 30) none)
  refine (lock_free ⟨r, 0, none⟩ _ (hA.blk.cell 0) (hA.blk.frozen 0)).mono ?_
  rintro x1 w1 ⟨rfl, hw1⟩
  have hL1 : BookL w1 r t v L s f := by rw [hw1]; exact BookL.of hA
  have hR1 : Blk w1 w.heap.size (HC (List.replicate 32 (0 : UInt8))) 30 := by
    rw [hw1]
    exact (Blk.newAt _ _ rfl).other _ _ (by have := HH.out.blk.lt; show w.heap.size ≠ r; omega)
  have hG1 : w.grownBy w1 (some r) := by rw [hw1]; exact grown_setCell (grown_alloc w _ _) 0 _
  have HL1 := Lib.hid hL1; have HR1 := Lib.hid hR1; have HG1 := Lib.hid hG1
  clear hw1 hA hL1 hR1 hG1
  go_wp2_with fail
  go_at_call 26
  refine (HL1.out.find HLL.out e).mono ?_
  rintro x2 w2 ⟨rfl, hb2⟩
  have hL2 := HL1.out.grow (grownB hb2)
  have hR2 : Blk w2 w.heap.size (HC (List.replicate 32 (0 : UInt8))) 30 := HR1.out.keep hb2
  have hG2 : w.grownBy w2 (some r) := grown_trans HG1.out (grownB hb2)
  have hne : w.heap.size ≠ r := by have := HH.out.blk.lt; omega
  have hvn : v.ownBlock ≠ some w.heap.size := fun e => by have h := HH.out.own.2; rcases h with ⟨e1, _⟩ | ⟨q, cap, cur, e1, _, h5, _⟩ <;> rw [e1] at e <;> cases e; exact absurd (Array.getElem?_eq_some_iff.1 h5).1 (Nat.lt_irrefl _)
  have HL2 := Lib.hid hL2; have HR2 := Lib.hid hR2; have HG2 := Lib.hid hG2; have HNE := Lib.hid hne; have HVN := Lib.hid hvn
  clear hb2 hL2 hR2 hG2 hne hvn
  go_wp2_with (refine wpList_store_row rfl 30 _ _ rfl w.heap.size (HC (getV L e)) rfl rfl 30 (HC (List.replicate 32 0)) HR2.out S1.out S2.out (HC_one _) ?_)
  have hb3 := HL2.out.setNew HNE.out HVN.out (HC (getV L e))
  have hg3 : w.grownBy (w2.setRow w.heap.size (HC (getV L e))) (some r) := grown_setRow HG2.out _ (.inl (Nat.le_refl _))
  have hr3 := HR2.out.setRow (HC (getV L e))
  refine leaves_cons (f := 25) (args := #[.pointer (some ⟨r, 0, none⟩)]) (by simp) (by simp [go_sem]) ?_
  refine (unlock_deferred ⟨r, 0, none⟩ _ _ (hb3.blk.cell 0) (hb3.blk.frozen 0)).mono ?_
  rintro x4 u' w4 ⟨rfl, rfl, hw4⟩
  have hk4 : Blk w4 r (BC 0 v s f) t := by rw [hw4]; exact (hb3.blk.set 0 _).copy rfl
  have hg4 : w.grownBy w4 (some r) := by rw [hw4]; exact grown_setCell hg3 0 _
  have hr4 : Blk w4 w.heap.size (HC (getV L e)) 30 := by rw [hw4]; exact hr3.other _ _ (by show w.heap.size ≠ r; exact HNE.out)
  clear hw4
  exact ⟨_, run_tuple2 rfl _ w4 w.heap.size _ _ _ _ _ rfl rfl hr4 Try.underlying30 S1.out, rfl, hk4, hg4⟩
end Go.Proofs.Ytcfdlffjghlghaa
