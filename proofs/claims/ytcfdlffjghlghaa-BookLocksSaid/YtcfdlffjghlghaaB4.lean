/-
  Books: writing.
-/
import Derived.Test.YtcfdlffjghlghaaB3
import Derived.Test.YtcfdlffjghlghaaEqH
namespace Go.Proofs.Ytcfdlffjghlghaa
set_option maxRecDepth 100000
set_option pp.deepTerms true
set_option pp.maxSteps 1000000
open Go.RowKit
set_option linter.unusedVariables false
set_option linter.unusedSimpArgs false

theorem BookL.grownX {w w' : World} {r : Nat} {t : TypeId} {v : Value} {L : List Ln} {s f : Int} (h : BookL w r t v L s f) (hb : Below w.heap.size w w') : BookL w' r t v L s f := h.grow (grownB hb)
set_option maxRecDepth 100000 in
set_option maxHeartbeats 1000000 in
theorem write_arg (w : World) (r : Nat) (t : TypeId) (v : Value) (L : List Ln) (s f e : Int) (p : List UInt8) (hp : p.length = 32) (he : e < 0 ∨ e > 1099511627776) (h : BookW w r t v L s f) :
    Calls Try.prog 13 #[.pointer (some ⟨r, 0, none⟩), .int .i64 e, .agg (HC p)] w fun x w' => x = .returned (.int .i64 1) ∧ Blk w' r (BC 0 v s f) t ∧ w.grownBy w' (some r) := by
  have hA := h.grow (grown_alloc w (.cells (HC p) 30) none)
  have HA := Lib.hid hA.blk; have HG := Lib.hid (grown_alloc w (.cells (HC p) 30) (some r))
  clear h hA hp
  rcases he with he | he
  · go_enter Try.func13, Try.ntmps13
    go_wp2
    go_ret
    exact ⟨rfl, HA.out, HG.out⟩
  · have he2 : ¬ e < 0 := by omega
    go_enter Try.func13, Try.ntmps13
    go_wp2
    go_ret
    exact ⟨rfl, HA.out, HG.out⟩
theorem wpl_gen {P : Program} {ops : Array Oper} {rest : List Oper} {Q : Exit → Act → World → Prop} {a : Act} {w : World} (h : ∀ w1, w1 = w → wpList P ops Q rest a w1) : wpList P ops Q rest a w := h w rfl
attribute [local go_sem] eqh_guard
set_option maxRecDepth 100000 in
set_option maxHeartbeats 2000000 in
theorem write_walk (w : World) (r : Nat) (t : TypeId) (v : Value) (L : List Ln) (s f e : Int) (p : List UInt8) (hp : p.length = 32) (h0 : 0 ≤ e) (h1 : e ≤ 1099511627776) (hL : L.length ≤ 1000000) (hh : hasV L e = true) (b : Bool) (hy : (getV L e == p) = b) (h : BookW w r t v L s f) :
    Calls Try.prog 13 #[.pointer (some ⟨r, 0, none⟩), .int .i64 e, .agg (HC p)] w fun x w' => x = .returned (.int .i64 (if b = true then 0 else 9)) ∧ Blk w' r (BC 0 v s f) t ∧ w.grownBy w' (some r) := by
  have hlen := getV_len L h.len e
  have hsz : (Try.prog.info? 30).map (·.size) = some (HC (getV L e)).size := by rw [HC_size, hlen]; kernel_rfl
  have hsz2 : (HC (List.replicate 32 (0 : UInt8))).size = (HC (getV L e)).size := by rw [HC_size, HC_size, hlen]; rfl
  have hsz3 : (Try.prog.info? 30).map (·.size) = some (HC p).size := by rw [HC_size, hp]; kernel_rfl
  have hA := h.grow (grown_alloc w (.cells (HC p) 30) none)
  have he2 : ¬ e < 0 := by omega
  have he3 : ¬ e > 1099511627776 := by omega
  obtain ⟨ie, hie⟩ := infoe8
  have kE := fun w1 => equal_hash (P := Try.prog) w1 Try.underlying30 Try.underlying5 hie (by kernel_rfl) (getV L e) p hlen hp
  rw [hy] at kE
  have S1 := Lib.hid hsz; have S2 := Lib.hid hsz2; have S3 := Lib.hid hsz3
  have HH := Lib.hid h; have HLL := Lib.hid hL; have HA := Lib.hid hA
  clear h hL hlen hsz hsz2 hsz3 h0 h1 hp hA hy
  go_enter_defers Try.func13, Try.ntmps13
  go_wp2_with fail
  go_at_call 24
  refine (lock_free ⟨r, 0, none⟩ _ (HA.out.blk.cell 0) (HA.out.blk.frozen 0)).mono ?_
  rintro x1 w1 ⟨rfl, hw1⟩
  have hL1 : BookL w1 r t v L s f := by rw [hw1]; exact BookL.of HA.out
  have hR1 : Blk w1 w.heap.size (HC p) 30 := by
    rw [hw1]
    exact (Blk.newAt _ _ rfl).other _ _ (by have := HH.out.blk.lt; show w.heap.size ≠ r; omega)
  have hG1 : w.grownBy w1 (some r) := by rw [hw1]; exact grown_setCell (grown_alloc w _ _) 0 _
  have HL1 := Lib.hid hL1; have HR1 := Lib.hid hR1; have HG1 := Lib.hid hG1
  clear hw1 hL1 hR1 hG1
  go_wp2_with fail
  go_at_call 26
  refine (HL1.out.find HLL.out e).mono ?_
  rintro x2 w2 ⟨rfl, hb2⟩
  have hL2 := (HL1.out.grow (grownB hb2)).grow (grown_alloc w2 (.cells (HC (List.replicate 32 (0 : UInt8))) 30) none)
  have hR2 : Blk (w2.alloc (.cells (HC (List.replicate 32 (0 : UInt8))) 30)) w.heap.size (HC p) 30 := (HR1.out.keep hb2).keep ((Below.refl _ _).alloc (Nat.le_refl _) _)
  have hR3 : Blk (w2.alloc (.cells (HC (List.replicate 32 (0 : UInt8))) 30)) w2.heap.size (HC (List.replicate 32 (0 : UInt8))) 30 := Blk.newAt _ _ rfl
  have hG2 : w.grownBy (w2.alloc (.cells (HC (List.replicate 32 (0 : UInt8))) 30)) (some r) := grown_trans (grown_trans HG1.out (grownB hb2)) (grown_alloc w2 _ _)
  have hn1 : w.heap.size < w2.heap.size := Nat.lt_of_lt_of_le HR1.out.lt hb2.size
  have hn2 : r < w.heap.size := HH.out.blk.lt
  have hvn : v.ownBlock ≠ some w2.heap.size := fun e => by have := (HL1.out.grow (grownB hb2)).lt _ e; omega
  have HL2 := Lib.hid hL2; have HR2 := Lib.hid hR2; have HR3 := Lib.hid hR3; have HG2 := Lib.hid hG2; have HN1 := Lib.hid hn1; have HN2 := Lib.hid hn2; have HVN := Lib.hid hvn
  clear hb2 hL2 hR2 hR3 hG2 hn1 hn2 hvn
  cases b
  case false =>
    go_wp2_with (first
      | (refine wpList_store_row rfl 30 _ _ rfl w2.heap.size (HC (getV L e)) rfl rfl 30 (HC (List.replicate 32 0)) HR3.out S1.out S2.out (HC_one _) ?_
         refine wpl_gen (fun w3 hw3 => ?_)
         have hL3 : BookL w3 r t v L s f := by rw [hw3]; exact HL2.out.setNew (by have := HN1.out; have := HN2.out; omega) HVN.out (HC (getV L e))
         have hR4 : Blk w3 w.heap.size (HC p) 30 := by rw [hw3]; exact (setRow_other _ _ _ _ (by have := HN1.out; omega)).trans HR2.out
         have hR5 : Blk w3 w2.heap.size (HC (getV L e)) 30 := by rw [hw3]; exact HR3.out.setRow _
         have hG3 : w.grownBy w3 (some r) := by rw [hw3]; exact grown_setRow HG2.out _ (.inl (Nat.le_of_lt HN1.out))
         have HL3 := Lib.hid hL3; have HR4 := Lib.hid hR4; have HR5 := Lib.hid hR5; have HG3 := Lib.hid hG3
         clear hw3 hL3 hR4 hR5 hG3)
      | (refine list_wanted rfl ?_; refine wpList_load_row rfl 30 _ rfl w2.heap.size rfl 30 (HC (getV L e)) (0, 0) _ HR5.out Try.underlying30 rfl S1.out ?_)
      | (refine list_wanted rfl ?_; refine wpList_load_row rfl 30 _ rfl w.heap.size rfl 30 (HC p) (0, 0) _ HR4.out Try.underlying30 rfl S3.out ?_))
    refine leaves_cons (f := 25) (args := #[.pointer (some ⟨r, 0, none⟩)]) (by simp) (by simp [go_sem]) ?_
    refine (unlock_deferred ⟨r, 0, none⟩ _ _ (HL3.out.blk.cell 0) (HL3.out.blk.frozen 0)).mono ?_
    rintro x4 u' w4 ⟨rfl, rfl, hw4⟩
    have hk4 : Blk w4 r (BC 0 v s f) t := by rw [hw4]; exact (HL3.out.blk.set 0 _).copy rfl
    have hg4 : w.grownBy w4 (some r) := by rw [hw4]; exact grown_setCell HG3.out 0 _
    clear hw4
    simp [Leaves, settle, results, Try.results13]
    exact ⟨hk4, hg4⟩
  case true =>
    go_wp2_with (first
      | (refine wpList_store_row rfl 30 _ _ rfl w2.heap.size (HC (getV L e)) rfl rfl 30 (HC (List.replicate 32 0)) HR3.out S1.out S2.out (HC_one _) ?_
         refine wpl_gen (fun w3 hw3 => ?_)
         have hL3 : BookL w3 r t v L s f := by rw [hw3]; exact HL2.out.setNew (by have := HN1.out; have := HN2.out; omega) HVN.out (HC (getV L e))
         have hR4 : Blk w3 w.heap.size (HC p) 30 := by rw [hw3]; exact (setRow_other _ _ _ _ (by have := HN1.out; omega)).trans HR2.out
         have hR5 : Blk w3 w2.heap.size (HC (getV L e)) 30 := by rw [hw3]; exact HR3.out.setRow _
         have hG3 : w.grownBy w3 (some r) := by rw [hw3]; exact grown_setRow HG2.out _ (.inl (Nat.le_of_lt HN1.out))
         have HL3 := Lib.hid hL3; have HR4 := Lib.hid hR4; have HR5 := Lib.hid hR5; have HG3 := Lib.hid hG3
         clear hw3 hL3 hR4 hR5 hG3)
      | (refine list_wanted rfl ?_; refine wpList_load_row rfl 30 _ rfl w2.heap.size rfl 30 (HC (getV L e)) (0, 0) _ HR5.out Try.underlying30 rfl S1.out ?_)
      | (refine list_wanted rfl ?_; refine wpList_load_row rfl 30 _ rfl w.heap.size rfl 30 (HC p) (0, 0) _ HR4.out Try.underlying30 rfl S3.out ?_))
    refine leaves_cons (f := 25) (args := #[.pointer (some ⟨r, 0, none⟩)]) (by simp) (by simp [go_sem]) ?_
    refine (unlock_deferred ⟨r, 0, none⟩ _ _ (HL3.out.blk.cell 0) (HL3.out.blk.frozen 0)).mono ?_
    rintro x4 u' w4 ⟨rfl, rfl, hw4⟩
    have hk4 : Blk w4 r (BC 0 v s f) t := by rw [hw4]; exact (HL3.out.blk.set 0 _).copy rfl
    have hg4 : w.grownBy w4 (some r) := by rw [hw4]; exact grown_setCell HG3.out 0 _
    clear hw4
    simp [Leaves, settle, results, Try.results13]
    exact ⟨hk4, hg4⟩
set_option maxRecDepth 100000 in
set_option maxHeartbeats 2000000 in
theorem write_full (w : World) (r : Nat) (t : TypeId) (v : Value) (L : List Ln) (s f e : Int) (p : List UInt8) (hp : p.length = 32) (h0 : 0 ≤ e) (h1 : e ≤ 1099511627776) (hL : L.length ≤ 1000000) (hh : hasV L e = false) (hfull : 100 ≤ L.length) (h : BookW w r t v L s f) :
    Calls Try.prog 13 #[.pointer (some ⟨r, 0, none⟩), .int .i64 e, .agg (HC p)] w fun x w' => x = .returned (.int .i64 12) ∧ Blk w' r (BC 0 v s f) t ∧ w.grownBy w' (some r) := by
  have hlen := getV_len L h.len e
  have hsz : (Try.prog.info? 30).map (·.size) = some (HC (getV L e)).size := by rw [HC_size, hlen]; kernel_rfl
  have hsz2 : (HC (List.replicate 32 (0 : UInt8))).size = (HC (getV L e)).size := by rw [HC_size, HC_size, hlen]; rfl
  have hsz3 : (Try.prog.info? 30).map (·.size) = some (HC p).size := by rw [HC_size, hp]; kernel_rfl
  have hA := h.grow (grown_alloc w (.cells (HC p) 30) none)
  have he2 : ¬ e < 0 := by omega
  have he3 : ¬ e > 1099511627776 := by omega
  obtain ⟨ad, c, rfl⟩ := run_len_any h.own
  have hge : (100 : Int) ≤ (L.length : Int) := by omega
  have S1 := Lib.hid hsz; have S2 := Lib.hid hsz2; have S3 := Lib.hid hsz3
  have HH := Lib.hid h; have HLL := Lib.hid hL; have HA := Lib.hid hA
  clear h hL hlen hsz hsz2 hsz3 h0 h1 hp hA hfull
  go_enter_defers Try.func13, Try.ntmps13
  go_wp2_with fail
  go_at_call 24
  refine (lock_free ⟨r, 0, none⟩ _ (HA.out.blk.cell 0) (HA.out.blk.frozen 0)).mono ?_
  rintro x1 w1 ⟨rfl, hw1⟩
  have hL1 : BookL w1 r t (.slice ad L.length c) L s f := by rw [hw1]; exact BookL.of HA.out
  have hR1 : Blk w1 w.heap.size (HC p) 30 := by
    rw [hw1]
    exact (Blk.newAt _ _ rfl).other _ _ (by have := HH.out.blk.lt; show w.heap.size ≠ r; omega)
  have hG1 : w.grownBy w1 (some r) := by rw [hw1]; exact grown_setCell (grown_alloc w _ _) 0 _
  have HL1 := Lib.hid hL1; have HR1 := Lib.hid hR1; have HG1 := Lib.hid hG1
  clear hw1 hL1 hR1 hG1
  go_wp2_with fail
  go_at_call 26
  refine (HL1.out.find HLL.out e).mono ?_
  rintro x2 w2 ⟨rfl, hb2⟩
  have hL2 := (HL1.out.grow (grownB hb2)).grow (grown_alloc w2 (.cells (HC (List.replicate 32 (0 : UInt8))) 30) none)
  have hR2 : Blk (w2.alloc (.cells (HC (List.replicate 32 (0 : UInt8))) 30)) w.heap.size (HC p) 30 := (HR1.out.keep hb2).keep ((Below.refl _ _).alloc (Nat.le_refl _) _)
  have hR3 : Blk (w2.alloc (.cells (HC (List.replicate 32 (0 : UInt8))) 30)) w2.heap.size (HC (List.replicate 32 (0 : UInt8))) 30 := Blk.newAt _ _ rfl
  have hG2 : w.grownBy (w2.alloc (.cells (HC (List.replicate 32 (0 : UInt8))) 30)) (some r) := grown_trans (grown_trans HG1.out (grownB hb2)) (grown_alloc w2 _ _)
  have hn1 : w.heap.size < w2.heap.size := Nat.lt_of_lt_of_le HR1.out.lt hb2.size
  have hn2 : r < w.heap.size := HH.out.blk.lt
  have hvn : (Value.slice ad L.length c).ownBlock ≠ some w2.heap.size := fun e => by have := (HL1.out.grow (grownB hb2)).lt _ e; omega
  have HL2 := Lib.hid hL2; have HR2 := Lib.hid hR2; have HR3 := Lib.hid hR3; have HG2 := Lib.hid hG2; have HN1 := Lib.hid hn1; have HN2 := Lib.hid hn2; have HVN := Lib.hid hvn
  clear hb2 hL2 hR2 hR3 hG2 hn1 hn2 hvn
  go_wp2_with (first
    | (refine wpList_store_row rfl 30 _ _ rfl w2.heap.size (HC (getV L e)) rfl rfl 30 (HC (List.replicate 32 0)) HR3.out S1.out S2.out (HC_one _) ?_
       refine wpl_gen (fun w3 hw3 => ?_)
       have hL3 : BookL w3 r t (.slice ad L.length c) L s f := by rw [hw3]; exact HL2.out.setNew (by have := HN1.out; have := HN2.out; omega) HVN.out (HC (getV L e))
       have hR4 : Blk w3 w.heap.size (HC p) 30 := by rw [hw3]; exact (setRow_other _ _ _ _ (by have := HN1.out; omega)).trans HR2.out
       have hR5 : Blk w3 w2.heap.size (HC (getV L e)) 30 := by rw [hw3]; exact HR3.out.setRow _
       have hG3 : w.grownBy w3 (some r) := by rw [hw3]; exact grown_setRow HG2.out _ (.inl (Nat.le_of_lt HN1.out))
       have c2 : w3.cell? ⟨r, 2, none⟩ = some (.slice ad L.length c) := hL3.blk.cell 2
       have HL3 := Lib.hid hL3; have HR4 := Lib.hid hR4; have HR5 := Lib.hid hR5; have HG3 := Lib.hid hG3
       clear hw3 hL3 hR4 hR5 hG3)
    | (refine list_wanted rfl ?_; refine wpList_load_row rfl 30 _ rfl w2.heap.size rfl 30 (HC (getV L e)) (0, 0) _ HR5.out Try.underlying30 rfl S1.out ?_)
    | (refine list_wanted rfl ?_; refine wpList_load_row rfl 30 _ rfl w.heap.size rfl 30 (HC p) (0, 0) _ HR4.out Try.underlying30 rfl S3.out ?_))
  refine leaves_cons (f := 25) (args := #[.pointer (some ⟨r, 0, none⟩)]) (by simp) (by simp [go_sem]) ?_
  refine (unlock_deferred ⟨r, 0, none⟩ _ _ (HL3.out.blk.cell 0) (HL3.out.blk.frozen 0)).mono ?_
  rintro x4 u' w4 ⟨rfl, rfl, hw4⟩
  have hk4 : Blk w4 r (BC 0 (.slice ad L.length c) s f) t := by rw [hw4]; exact (HL3.out.blk.set 0 _).copy rfl
  have hg4 : w.grownBy w4 (some r) := by rw [hw4]; exact grown_setCell HG3.out 0 _
  clear hw4
  simp [Leaves, settle, results, Try.results13]
  exact ⟨hk4, hg4⟩
end Go.Proofs.Ytcfdlffjghlghaa
