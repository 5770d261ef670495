/-
  Books: the lock; the contracts of what reads a book, or counts.
-/
import Derived.Test.YtcfdlffjghlghaaB1
import Derived.Test.YtcfdlffjghlghaaZero
import Derived.Tactics2
import Derived.RegionTactic
import Derived.ChangeAlike
namespace Go.Proofs.Ytcfdlffjghlghaa
set_option maxRecDepth 100000
open Go.RowKit
set_option linter.unusedVariables false
set_option linter.unusedSimpArgs false

theorem disable (w : World) : (callFunc 35 #[]).run Try.prog w = .ok (.value (.tuple #[])) w := run_call_mark0 Try.func35 (by kernel_rfl) (by kernel_rfl) (by kernel_rfl) .disable (by kernel_rfl) w
theorem enable (w : World) : (callFunc 37 #[]).run Try.prog w = .ok (.value (.tuple #[])) w := run_call_mark0 Try.func37 (by kernel_rfl) (by kernel_rfl) (by kernel_rfl) .enable (by kernel_rfl) w
theorem acquire (a : Addr) (w : World) : (callFunc 38 #[.pointer (some a)]).run Try.prog w = .ok (.value (.tuple #[])) w := run_call_marked Try.func38 (by kernel_rfl) (by kernel_rfl) (by kernel_rfl) .acquire (by kernel_rfl) a w
theorem releaseMerge (a : Addr) (w : World) : (callFunc 40 #[.pointer (some a)]).run Try.prog w = .ok (.value (.tuple #[])) w := run_call_marked Try.func40 (by kernel_rfl) (by kernel_rfl) (by kernel_rfl) .releaseMerge (by kernel_rfl) a w
set_option maxHeartbeats 800000 in
set_option maxRecDepth 100000 in
theorem unlock_deferred (a : Addr) (u : FrameMode) (w : World) (hc : w.cell? a = some (.int .i32 1)) (hz : w.frozen? a = false) :
    CallsD Try.prog 25 #[.pointer (some a)] u w fun e u' w' => u' = u ∧ (e = .returned (.tuple #[]) ∧ w' = w.setCell a (.int .i32 0)) := by
  have hd := disable
  have he := enable
  have hr := releaseMerge
  have hadd := run_call_add (P := Try.prog) Try.func41 (by kernel_rfl) (by kernel_rfl) (by kernel_rfl) .i32 (by kernel_rfl) (y := -1) (s := 0) hc hz (by simp [go_sem]; rfl)
  have hcv := run_convert_to_unsafe (P := Try.prog) (src := 76) (dst := 80) Try.underlying76 Try.underlying80 (by kernel_rfl) hc
  go_enter_d Try.func25, Try.ntmps25
  go_wp2
  go_end0
  go_wp2
  go_end0
  exact ⟨rfl, rfl⟩
set_option maxHeartbeats 800000 in
set_option maxRecDepth 100000 in
theorem lock_free (a : Addr) (w : World) (hc : w.cell? a = some (.int .i32 0)) (hz : w.frozen? a = false) :
    Calls Try.prog 24 #[.pointer (some a)] w fun e w' => e = .returned (.tuple #[]) ∧ w' = w.setCell a (.int .i32 1) := by
  have hd := disable
  have he := enable
  have ha := acquire
  have hcas := run_call_cas_hit (P := Try.prog) Try.func36 (by kernel_rfl) (by kernel_rfl) (by kernel_rfl) .i32 (by kernel_rfl) (y := 1) hc hz
  have hc' : (w.setCell a (.int .i32 1)).cell? a = some (.int .i32 1) := World.cell?_setCell_same w a _ hc
  have hcv := run_convert_to_unsafe (P := Try.prog) (src := 76) (dst := 80) Try.underlying76 Try.underlying80 (by kernel_rfl) hc'
  go_enter Try.func24, Try.ntmps24
  go_wp2
  first | go_end0 | (simp only [Exit.inBlock, Exit.then]; refine bodyPost_ret (results_none rfl _ _ _) rfl ?_) | refine bodyPost_ret (results_none rfl _ _ _) rfl ?_
  go_wp2
  go_end0
  exact ⟨rfl, rfl⟩

/-- a book's cells -/
abbrev BC (mu : Int) (v : Value) (s f : Int) : Array Value := #[.int .i32 mu, .int .u32 0, v, .int .i64 s, .int .i64 f]
/-- the cells of lines -/
def lnC (L : List Ln) : List Value := L.flatMap fun x => .int .i64 x.1 :: HL x.2
/-- a book, as the memory at its blocks tells it -/
def bookP (L : List Ln) (s f : Int) : OP := fun h r => ∃ t v, h r = some (.cells (BC 0 v s f) t (0, 0)) ∧ (v = .slice none 0 0 ∧ L.length = 0 ∨ ∃ q cap cur, v = .slice (some ⟨q, 0, none⟩) L.length cap ∧ q ≠ r ∧ h q = some (.cells cur 65 (0, 0)) ∧ L.length ≤ cap ∧ cap ≤ maxLen ∧ cur.size = cap * 33 ∧ cur.toList.take (L.length * 33) = lnC L) ∧ ∀ x ∈ L, x.2.length = 32
theorem lnC_length (L : List Ln) (h : ∀ x ∈ L, x.2.length = 32) : (lnC L).length = L.length * 33 := by
  induction L with
  | nil => rfl
  | cons x L ih =>
    have h1 := h x (by simp)
    have h2 := ih fun y hy => h y (by simp [hy])
    unfold lnC at h2 ⊢
    simp only [List.flatMap_cons, List.length_append, List.length_cons, h2, HL_length, h1]
    omega
/-- the same in a world -/
structure BookW (w : World) (r : Nat) (t : TypeId) (v : Value) (L : List Ln) (s f : Int) : Prop where
  blk : Blk w r (BC 0 v s f) t
  own : w.ownsRow 0 65 33 v L.length (lnC L)
  sep : v.ownBlock ≠ some r
  len : ∀ x ∈ L, x.2.length = 32
theorem BookW.of {w : World} {r : Nat} {F : List Nat} {L : List Ln} {s f : Int} (h : bookP L s f (hres w (r :: F)) r) : ∃ t v, BookW w r t v L s f ∧ ∀ q, v.ownBlock = some q → q ∈ F := by
  obtain ⟨t, v, h1, h2, h3⟩ := h
  have hr : w.heap[r]? = some (.cells (BC 0 v s f) t (0, 0)) := by unfold hres at h1; rw [if_pos (by simp)] at h1; exact h1
  rcases h2 with ⟨rfl, h4⟩ | ⟨q, cap, cur, rfl, h4, h5, h6⟩
  · have hL : L = [] := List.length_eq_zero_iff.1 h4
    subst hL
    exact ⟨t, _, ⟨hr, ⟨rfl, .inl ⟨rfl, rfl⟩⟩, by simp [Value.ownBlock], h3⟩, by simp [Value.ownBlock]⟩
  · have hq : q ∈ r :: F := by
      apply Decidable.byContradiction
      intro hn
      unfold hres at h5; rw [if_neg hn] at h5; cases h5
    have hq2 : w.heap[q]? = some (.cells cur 65 (0, 0)) := by unfold hres at h5; rw [if_pos hq] at h5; exact h5
    refine ⟨t, _, ⟨hr, ⟨lnC_length L h3, .inr ⟨q, cap, cur, rfl, Nat.zero_le _, hq2, h6⟩⟩, by simp [Value.ownBlock]; exact h4, h3⟩, fun q' e => ?_⟩
    simp [Value.ownBlock] at e; subst e
    rcases List.mem_cons.1 hq with h | h
    · exact (h4 h).elim
    · exact h
theorem BookW.to {w : World} {r : Nat} {F : List Nat} {t : TypeId} {v : Value} {L : List Ln} {s f : Int} (h : BookW w r t v L s f) (hF : ∀ q, v.ownBlock = some q → q ∈ F) : bookP L s f (hres w (r :: F)) r := by
  refine ⟨t, v, ?_, ?_, h.len⟩
  · unfold hres; rw [if_pos (by simp)]; exact h.blk
  · rcases h.own.2 with ⟨e1, e2⟩ | ⟨q, cap, cur, rfl, _, h5, h6⟩
    · exact .inl ⟨e1, e2⟩
    · have h7 := hF q rfl
      refine .inr ⟨q, cap, cur, rfl, fun e => h.sep (by rw [← e]; rfl), ?_, h6⟩
      unfold hres; rw [if_pos (by simp [h7])]; exact h5
/-- a book of which only its first block was written -/
theorem BookW.next {w w' : World} {r : Nat} {t : TypeId} {v : Value} {L : List Ln} {s f s' f' : Int} (h : BookW w r t v L s f) (hb : Blk w' r (BC 0 v s' f') t) (hg : w.grownBy w' (some r)) : BookW w' r t v L s' f' := by
  refine ⟨hb, ⟨h.own.1, ?_⟩, h.sep, h.len⟩
  rcases h.own.2 with h1 | ⟨q, cap, cur, e, h2, h3, h4⟩
  · exact .inl h1
  · refine .inr ⟨q, cap, cur, e, h2, ?_, h4⟩
    rw [hg.block q (Array.getElem?_eq_some_iff.1 h3).1 (fun e2 => h.sep (by rw [e]; cases e2; rfl))]
    exact h3
/-- a contract out of a walk, where no line is written -/
theorem fnB_of {f : FuncId} {L : List Ln} {s c s' c' : Int} {args : List A} {vs0 : List Value} {x : A} {y : Value} (hargs : ∀ {S : Nat → Prop} {w : World} {vs : List Value}, RAs S w args vs → vs = vs0) (hx : flatA x = true) (hy : ∀ w, RA (fun _ => False) w x y)
    (h : ∀ (w : World) (r : Nat) (t : TypeId) (v : Value), BookW w r t v L s c → Calls Try.prog f (.pointer (some ⟨r, 0, none⟩) :: vs0).toArray w fun e w' => e = .returned y ∧ Blk w' r (BC 0 v s' c') t ∧ w.grownBy w' (some r)) :
    FnB Try.prog gTab f 0 (bookP L s c) args (.d x) (bookP L s' c') := by
  intro S w r F vs hG hlt hp ha hS
  rw [hargs ha]
  obtain ⟨t, v, hw, hF⟩ := BookW.of hp
  refine (h w r t v hw).mono ?_
  rintro e w' ⟨rfl, h1, h2⟩
  exact ⟨y, F, rfl, fun q hq => .inl (by simp [hq]), fun q hq => Nat.lt_of_lt_of_le (hlt q hq) h2.size, (hw.next h1 h2).to hF, ⟨hx, hy w'⟩, ⟨h2.os, h2.tape, h2.output, h2.size, fun k hk hn => h2.block k hk (fun e => hn (by cases e; simp))⟩⟩
theorem run_len_any {v : Value} {n : Nat} {w : World} {xs : List Value} (h : w.ownsRow 0 65 33 v n xs) : ∃ ad c, v = .slice ad n c := by
  rcases h.2 with ⟨e1, e2⟩ | ⟨q, cap, cur, e1, _⟩
  · exact ⟨_, _, by rw [e1, e2]⟩
  · exact ⟨_, _, e1⟩
set_option maxRecDepth 100000 in
set_option maxHeartbeats 1000000 in
theorem len_walk (w : World) (r : Nat) (t : TypeId) (v : Value) (L : List Ln) (s f : Int) (h : BookW w r t v L s f) :
    Calls Try.prog 22 #[.pointer (some ⟨r, 0, none⟩)] w fun e w' => e = .returned (.int .i64 L.length) ∧ Blk w' r (BC 0 v s f) t ∧ w.grownBy w' (some r) := by
  have hb := h.blk
  obtain ⟨ad, c, rfl⟩ := run_len_any h.own
  have hb1 : Blk (w.setCell ⟨r, 0, none⟩ (.int .i32 1)) r (BC 1 (.slice ad L.length c) s f) t := (hb.set 0 _).copy rfl
  have hg1 : w.grownBy (w.setCell ⟨r, 0, none⟩ (.int .i32 1)) (some r) := grown_setCell (grown_refl w _) 0 _
  have c2 : (w.setCell ⟨r, 0, none⟩ (.int .i32 1)).cell? ⟨r, 2, none⟩ = some (.slice ad L.length c) := hb1.cell 2
  have HB := Lib.hid hb; have HB1 := Lib.hid hb1; have HG1 := Lib.hid hg1
  clear hb hb1 hg1 h
  go_enter_defers Try.func22, Try.ntmps22
  go_wp2_with (go_at_call 24; refine (lock_free ⟨r, 0, none⟩ _ (HB.out.cell 0) (HB.out.frozen 0)).mono ?_; rintro e w' ⟨rfl, rfl⟩)
  refine leaves_cons (f := 25) (args := #[.pointer (some ⟨r, 0, none⟩)]) (by simp) (by simp [go_sem]) ?_
  refine (unlock_deferred ⟨r, 0, none⟩ _ _ (HB1.out.cell 0) (HB1.out.frozen 0)).mono ?_
  rintro e u' w4 ⟨rfl, rfl, hw4⟩
  have hk4 : Blk w4 r (BC 0 (.slice ad L.length c) s f) t := by rw [hw4]; exact (HB1.out.set 0 _).copy rfl
  have hg4 : w.grownBy w4 (some r) := by rw [hw4]; exact grown_setCell HG1.out 0 _
  clear hw4
  simp [Leaves, settle, results, Try.results22]
  exact ⟨hk4, hg4⟩
/-- counting: atomic numbers -/
theorem aload_any (a : Addr) (x : Int) (w : World) (hc : w.cell? a = some (.int .i64 x)) :
    Calls Try.prog 30 #[.pointer (some a)] w fun e w' => e = .returned (.int .i64 x) ∧ w = w' := by
  have hl := run_call_load (P := Try.prog) Try.func34 (by kernel_rfl) (by kernel_rfl) (by kernel_rfl) .i64 (by kernel_rfl) hc
  go_enter Try.func30, Try.ntmps30
  go_wp2
  go_ret
  exact ⟨rfl, rfl⟩
theorem aadd_any (a : Addr) (x : Int) (hx : 0 ≤ x ∧ x ≤ 1000000) (w : World) (hc : w.cell? a = some (.int .i64 x)) (hz : w.frozen? a = false) :
    Calls Try.prog 27 #[.pointer (some a), .int .i64 1] w fun e w' => (∃ y, e = .returned y) ∧ w' = w.setCell a (.int .i64 (x + 1)) := by
  have hwr : RowKit.wrap64 (x + 1) = x + 1 := IntWalk.wrap64_in _ (by omega)
  have hwi : IntKind.i64.wrap (x + 1) = x + 1 := wrapS (by omega) (by omega)
  clear hx
  have hadd := run_call_add (P := Try.prog) Try.func33 (by kernel_rfl) (by kernel_rfl) (by kernel_rfl) .i64 (by kernel_rfl) (y := 1) (s := x + 1) hc hz (by simp [go_sem, hwr, hwi])
  go_enter Try.func27, Try.ntmps27
  go_wp2
  go_ret
  exact ⟨⟨_, rfl⟩, rfl⟩
set_option maxRecDepth 100000 in
theorem flushes_walk (w : World) (r : Nat) (t : TypeId) (v : Value) (L : List Ln) (s f : Int) (h : BookW w r t v L s f) (hf : 0 ≤ f ∧ f ≤ 1000000) :
    Calls Try.prog 23 #[.pointer (some ⟨r, 0, none⟩)] w fun e w' => e = .returned (.int .i64 f) ∧ Blk w' r (BC 0 v s f) t ∧ w.grownBy w' (some r) := by
  have hb := h.blk
  have HB := Lib.hid hb
  have hw : IntKind.i64.wrap f = f := wrapS (by omega) (by omega)
  clear hb h hf
  go_enter Try.func23, Try.ntmps23
  go_wp2_with (go_at_call 30; refine (aload_any ⟨r, 4, none⟩ f _ (HB.out.cell 4)).mono ?_; rintro e w' ⟨rfl, rfl⟩)
  go_ret
  exact ⟨rfl, HB.out, grown_refl w _⟩
set_option maxRecDepth 100000 in
set_option maxHeartbeats 1000000 in
theorem flush_walk (w : World) (r : Nat) (t : TypeId) (v : Value) (L : List Ln) (s f : Int) (h : BookW w r t v L s f) (hf : 0 ≤ f ∧ f ≤ 1000000) :
    Calls Try.prog 15 #[.pointer (some ⟨r, 0, none⟩)] w fun e w' => e = .returned (.tuple #[]) ∧ Blk w' r (BC 0 v L.length (f + 1)) t ∧ w.grownBy w' (some r) := by
  have hb := h.blk
  obtain ⟨ad, c, rfl⟩ := run_len_any h.own
  have hw : IntKind.i64.wrap (f + 1) = f + 1 := wrapS (by omega) (by omega)
  have hb1 : Blk (w.setCell ⟨r, 4, none⟩ (.int .i64 (f + 1))) r (BC 0 (.slice ad L.length c) s (f + 1)) t := (hb.set 4 _).copy rfl
  have hg1 : w.grownBy (w.setCell ⟨r, 4, none⟩ (.int .i64 (f + 1))) (some r) := grown_setCell (grown_refl w _) 4 _
  have hb2 : Blk ((w.setCell ⟨r, 4, none⟩ (.int .i64 (f + 1))).setCell ⟨r, 0, none⟩ (.int .i32 1)) r (BC 1 (.slice ad L.length c) s (f + 1)) t := (hb1.set 0 _).copy rfl
  have hg2 : w.grownBy ((w.setCell ⟨r, 4, none⟩ (.int .i64 (f + 1))).setCell ⟨r, 0, none⟩ (.int .i32 1)) (some r) := grown_setCell hg1 0 _
  have c2 : ((w.setCell ⟨r, 4, none⟩ (.int .i64 (f + 1))).setCell ⟨r, 0, none⟩ (.int .i32 1)).cell? ⟨r, 2, none⟩ = some (.slice ad L.length c) := hb2.cell 2
  have c3 : ((w.setCell ⟨r, 4, none⟩ (.int .i64 (f + 1))).setCell ⟨r, 0, none⟩ (.int .i32 1)).cell? ⟨r, 3, none⟩ = some (.int .i64 s) := hb2.cell 3
  have z3 : ((w.setCell ⟨r, 4, none⟩ (.int .i64 (f + 1))).setCell ⟨r, 0, none⟩ (.int .i32 1)).frozen? ⟨r, 3, none⟩ = false := hb2.frozen 3
  have HB := Lib.hid hb; have HB1 := Lib.hid hb1; have HB2 := Lib.hid hb2; have HG2 := Lib.hid hg2; have HW := Lib.hid hw; have HF := Lib.hid hf
  clear hb hb1 hg1 hb2 hg2 h hf hw
  go_enter_defers Try.func15, Try.ntmps15
  go_wp2_with (first | (go_at_call 27; refine (aadd_any ⟨r, 4, none⟩ f HF.out _ (HB.out.cell 4) (HB.out.frozen 4)).mono ?_; rintro e w' ⟨⟨y, rfl⟩, rfl⟩) | (go_at_call 24; refine (lock_free ⟨r, 0, none⟩ _ (HB1.out.cell 0) (HB1.out.frozen 0)).mono ?_; rintro e w' ⟨rfl, rfl⟩))
  have hb3 : Blk (((w.setCell ⟨r, 4, none⟩ (.int .i64 (f + 1))).setCell ⟨r, 0, none⟩ (.int .i32 1)).setCell ⟨r, 3, none⟩ (.int .i64 L.length)) r (BC 1 (.slice ad L.length c) L.length (f + 1)) t := (HB2.out.set 3 _).copy rfl
  have hg3 : w.grownBy (((w.setCell ⟨r, 4, none⟩ (.int .i64 (f + 1))).setCell ⟨r, 0, none⟩ (.int .i32 1)).setCell ⟨r, 3, none⟩ (.int .i64 L.length)) (some r) := grown_setCell HG2.out 3 _
  refine leaves_cons (f := 25) (args := #[.pointer (some ⟨r, 0, none⟩)]) (by simp) (by simp [go_sem]) ?_
  refine (unlock_deferred ⟨r, 0, none⟩ _ _ (hb3.cell 0) (hb3.frozen 0)).mono ?_
  rintro e u' w4 ⟨rfl, rfl, hw4⟩
  have hk4 : Blk w4 r (BC 0 (.slice ad L.length c) L.length (f + 1)) t := by rw [hw4]; exact (hb3.set 0 _).copy rfl
  have hg4 : w.grownBy w4 (some r) := by rw [hw4]; exact grown_setCell hg3 0 _
  clear hw4
  simp [Leaves, settle, results, Try.results15]
  exact ⟨hk4, hg4⟩
end Go.Proofs.Ytcfdlffjghlghaa
