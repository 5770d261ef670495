/-
  Books: what is written of an epoch, as a book's lines tell it.
-/
import Derived.Test.YtanpamcecaoanaaHA3
import Derived.Test.YtanpamcecaoanaaHY
import Derived.Test.YtanpamcecaoanaaHBase
import Derived.Tactics2
import Derived.RegionTactic
import Derived.ChangeAlike
namespace Go.Proofs.Ytanpamcecaoanaa
set_option maxRecDepth 100000
open Go.RowKit
set_option linter.unusedVariables false
set_option linter.unusedSimpArgs false
attribute [local irreducible] condK LoopA regA

/-- a line: an epoch, what is written of it -/
abbrev Ln := Int × List UInt8
def lineF (L : List Ln) (j : Nat) : List Seg := [.ints .i64 1 [(L.getD j (0, [])).1], .bytes 32 (L.getD j (0, [])).2]
def bookSegs (mu : Int) (L : List Ln) (s f : Int) : List Seg := [.ints .i32 1 [mu], .ints .u32 1 [0], .gen 1 [.recs L.length 33 (lineF L)], .ints .i64 2 [s, f]]
def H0 : List UInt8 := [0, 0, 0, 0, 0, 0, 0, 0, 0, 0, 0, 0, 0, 0, 0, 0, 0, 0, 0, 0, 0, 0, 0, 0, 0, 0, 0, 0, 0, 0, 0, 0]
/-- is something written of an epoch, and what? -/
def hasV (L : List Ln) (e : Int) : Bool := L.any fun x => x.1 == e
def getV (L : List Ln) (e : Int) : List UInt8 := match L.find? (fun x => x.1 == e) with | some x => x.2 | none => H0
/-- the first line of an epoch -/
theorem first_ln (L : List Ln) (e : Int) : ∃ N, N ≤ L.length ∧ (∀ j, j < N → ¬ (L.getD j (0, [])).1 = e) ∧ (N = L.length ∧ hasV L e = false ∧ getV L e = H0 ∨ (N < L.length ∧ (L.getD N (0, [])).1 = e ∧ hasV L e = true ∧ getV L e = (L.getD N (0, [])).2)) := by
  induction L with
  | nil => exact ⟨0, Nat.le_refl _, fun j hj => absurd hj (by omega), .inl ⟨rfl, rfl, rfl⟩⟩
  | cons x L ih =>
    by_cases h : x.1 = e
    · exact ⟨0, Nat.zero_le _, fun j hj => absurd hj (by omega), .inr ⟨by simp, by simpa using h, by simp [hasV, h], by simp [getV, List.find?, h]⟩⟩
    · obtain ⟨N, h1, h2, h3⟩ := ih
      have hb : (x.1 == e) = false := by simpa using h
      refine ⟨N + 1, by simpa using h1, fun j hj => ?_, ?_⟩
      · cases j with
        | zero => simpa using h
        | succ j => simpa using h2 j (by omega)
      · have e1 : hasV (x :: L) e = hasV L e := by simp [hasV, hb]
        have e2 : getV (x :: L) e = getV L e := by simp [getV, List.find?, hb]
        rw [e1, e2]
        rcases h3 with ⟨h3, h4, h5⟩ | ⟨h3, h4, h5, h6⟩
        · exact .inl ⟨by simp [h3], h4, h5⟩
        · exact .inr ⟨by simpa using h3, by simpa using h4, h5, by simpa using h6⟩
attribute [local irreducible] hasV getV
set_option maxHeartbeats 1000000 in
/-- what a function comes to that looks at no variable of a package -/
noncomputable def envN : EnvX := { P := Try.prog, Y := yTab, G := fun _ => none, C := fun _ _ _ => False, M := fun _ _ _ _ _ => False, hY := yOK, hC := fun _ _ _ h => h.elim, hMu := fun _ _ _ _ _ h => h.elim, hF := fun _ _ _ h => h.elim, hE := yEq, hM := by kernel_rfl }
theorem find_ok (mu : Int) (L : List Ln) (s f e : Int) (hL : L.length ≤ 1000000) :
    FnOK Try.prog (fun _ => none) 15 [.sref (bookSegs mu L s f) 0, .v (.int .i64 e)] (.t [.agg [.bytes 32 (getV L e)], .v (.bool (hasV L e))]) := by
  refine fnA (E := envN) Try.func15 Try.ntmps15 ?_
  obtain ⟨N, hN, hno, hend⟩ := first_ln L e
  refine agow ?_; (try with_reducible exact True.intro)
  refine StopL.mk (loop_forG [0, 1, 4, 5, 11, 12, 13] [0] N (fun j => ⟨[.d (.sref (bookSegs mu L s f) 0), .d (.v (.int .i64 e)), .dead, .dead, .ptr 0 0, .d (.v (.bool false)), .dead, .dead, .dead, .dead, .dead, .d (.recs L.length 33 (lineF L)), .d (.v (.int .i64 L.length)), .d (.v (.int .i64 (j : Nat))), .dead, .dead, .dead, .dead, .dead, .dead, .dead, .dead, .dead, .dead, .dead], [some (.var [.bytes 32 H0])]⟩) ?_)
  intro j hj hl
  by_cases h : j < N
  · have h1 : (j : Int) < (L.length : Int) := by omega
    have h2 : ((L.getD j (0, [])).1 == e) = false := by simpa using hno j h
    clear hend hno
    refine agow ?_; (try with_reducible exact True.intro)
    refine hl.go h [0, 1, 4, 5, 11, 12, 13] [0] ?_
    rfl
  · obtain rfl : j = N := by omega
    rcases hend with ⟨rfl, h4, h5⟩ | ⟨h3, h4, h5, h6⟩
    · have h1 : ¬ (L.length : Int) < (L.length : Int) := by omega
      rw [h4, h5]
      clear h4 h5 hno
      refine agow ?_; (try with_reducible exact True.intro)
      rfl
    · have h1 : (j : Int) < (L.length : Int) := by omega
      have h2 : ((L.getD j (0, [])).1 == e) = true := by simpa using h4
      rw [h5, h6]
      clear h4 h5 h6 hno
      refine agow ?_; (try with_reducible exact True.intro)
end Go.Proofs.Ytanpamcecaoanaa

/-
  Books: the lock; the contracts of what reads a book, or counts.
-/
namespace Go.Proofs.Ytanpamcecaoanaa
set_option maxRecDepth 100000
open Go.RowKit
set_option linter.unusedVariables false
set_option linter.unusedSimpArgs false

theorem disable (w : World) : (callFunc 24 #[]).run Try.prog w = .ok (.value (.tuple #[])) w := run_call_mark0 Try.func24 (by kernel_rfl) (by kernel_rfl) (by kernel_rfl) .disable (by kernel_rfl) w
theorem enable (w : World) : (callFunc 26 #[]).run Try.prog w = .ok (.value (.tuple #[])) w := run_call_mark0 Try.func26 (by kernel_rfl) (by kernel_rfl) (by kernel_rfl) .enable (by kernel_rfl) w
theorem acquire (a : Addr) (w : World) : (callFunc 27 #[.pointer (some a)]).run Try.prog w = .ok (.value (.tuple #[])) w := run_call_marked Try.func27 (by kernel_rfl) (by kernel_rfl) (by kernel_rfl) .acquire (by kernel_rfl) a w
theorem releaseMerge (a : Addr) (w : World) : (callFunc 29 #[.pointer (some a)]).run Try.prog w = .ok (.value (.tuple #[])) w := run_call_marked Try.func29 (by kernel_rfl) (by kernel_rfl) (by kernel_rfl) .releaseMerge (by kernel_rfl) a w
set_option maxHeartbeats 800000 in
set_option maxRecDepth 100000 in
theorem unlock_deferred (a : Addr) (u : FrameMode) (w : World) (hc : w.cell? a = some (.int .i32 1)) (hz : w.frozen? a = false) :
    CallsD Try.prog 14 #[.pointer (some a)] u w fun e u' w' => u' = u ∧ (e = .returned (.tuple #[]) ∧ w' = w.setCell a (.int .i32 0)) := by
  have hd := disable
  have he := enable
  have hr := releaseMerge
  have hadd := run_call_add (P := Try.prog) Try.func30 (by kernel_rfl) (by kernel_rfl) (by kernel_rfl) .i32 (by kernel_rfl) (y := -1) (s := 0) hc hz (by simp [go_sem]; rfl)
  have hcv := run_convert_to_unsafe (P := Try.prog) (src := 68) (dst := 72) Try.underlying68 Try.underlying72 (by kernel_rfl) hc
  go_enter_d Try.func14, Try.ntmps14
  go_wp2
  go_end0
  go_wp2
  go_end0
  exact ⟨rfl, rfl⟩
set_option maxHeartbeats 800000 in
set_option maxRecDepth 100000 in
theorem lock_free (a : Addr) (w : World) (hc : w.cell? a = some (.int .i32 0)) (hz : w.frozen? a = false) :
    Calls Try.prog 13 #[.pointer (some a)] w fun e w' => e = .returned (.tuple #[]) ∧ w' = w.setCell a (.int .i32 1) := by
  have hd := disable
  have he := enable
  have ha := acquire
  have hcas := run_call_cas_hit (P := Try.prog) Try.func25 (by kernel_rfl) (by kernel_rfl) (by kernel_rfl) .i32 (by kernel_rfl) (y := 1) hc hz
  have hc' : (w.setCell a (.int .i32 1)).cell? a = some (.int .i32 1) := World.cell?_setCell_same w a _ hc
  have hcv := run_convert_to_unsafe (P := Try.prog) (src := 68) (dst := 72) Try.underlying68 Try.underlying72 (by kernel_rfl) hc'
  go_enter Try.func13, Try.ntmps13
  go_wp2
  first | go_end0 | (simp only [Exit.inBlock, Exit.then]; refine bodyPost_ret (results_none rfl _ _ _) rfl ?_) | refine bodyPost_ret (results_none rfl _ _ _) rfl ?_
  go_wp2
  go_end0
  exact ⟨rfl, rfl⟩

/-- a book's cells -/
abbrev BC (mu : Int) (v : Value) (s f : Int) : Array Value := #[.int .i32 mu, .int .u32 0, v, .int .i64 s, .int .i64 f]
/-- the cells of lines -/
def lnC (L : List Ln) : List Value := L.flatMap fun x => .int .i64 x.1 :: HL x.2
/-- a book, as the memory at its blocks tells it -/
def bookP (L : List Ln) (s f : Int) : (Nat → Option Obj) → Nat → Prop := fun h r => ∃ t v, h r = some (.cells (BC 0 v s f) t (0, 0)) ∧ (v = .slice none 0 0 ∧ L.length = 0 ∨ ∃ q cap cur, v = .slice (some ⟨q, 0, none⟩) L.length cap ∧ q ≠ r ∧ h q = some (.cells cur 58 (0, 0)) ∧ L.length ≤ cap ∧ cap ≤ maxLen ∧ cur.size = cap * 33 ∧ cur.toList.take (L.length * 33) = lnC L) ∧ ∀ x ∈ L, x.2.length = 32
theorem lnC_length (L : List Ln) (h : ∀ x ∈ L, x.2.length = 32) : (lnC L).length = L.length * 33 := by
  induction L with
  | nil => rfl
  | cons x L ih =>
    have h1 := h x (by simp)
    have h2 := ih fun y hy => h y (by simp [hy])
    unfold lnC at h2 ⊢
    simp only [List.flatMap_cons, List.length_append, List.length_cons, h2, HL_length, h1]
    omega
/-- the same in a world -/
structure BookW (w : World) (r : Nat) (t : TypeId) (v : Value) (L : List Ln) (s f : Int) : Prop where
  blk : Blk w r (BC 0 v s f) t
  own : w.ownsRow 0 58 33 v L.length (lnC L)
  sep : v.ownBlock ≠ some r
  len : ∀ x ∈ L, x.2.length = 32
theorem BookW.of {w : World} {r : Nat} {F : List Nat} {L : List Ln} {s f : Int} (h : bookP L s f (hres w (r :: F)) r) : ∃ t v, BookW w r t v L s f ∧ ∀ q, v.ownBlock = some q → q ∈ F := by
  obtain ⟨t, v, h1, h2, h3⟩ := h
  have hr : w.heap[r]? = some (.cells (BC 0 v s f) t (0, 0)) := by unfold hres at h1; rw [if_pos (by simp)] at h1; exact h1
  rcases h2 with ⟨rfl, h4⟩ | ⟨q, cap, cur, rfl, h4, h5, h6⟩
  · have hL : L = [] := List.length_eq_zero_iff.1 h4
    subst hL
    exact ⟨t, _, ⟨hr, ⟨rfl, .inl ⟨rfl, rfl⟩⟩, by simp [Value.ownBlock], h3⟩, by simp [Value.ownBlock]⟩
  · have hq : q ∈ r :: F := by
      apply Decidable.byContradiction
      intro hn
      unfold hres at h5; rw [if_neg hn] at h5; cases h5
    have hq2 : w.heap[q]? = some (.cells cur 58 (0, 0)) := by unfold hres at h5; rw [if_pos hq] at h5; exact h5
    refine ⟨t, _, ⟨hr, ⟨lnC_length L h3, .inr ⟨q, cap, cur, rfl, Nat.zero_le _, hq2, h6⟩⟩, by simp [Value.ownBlock]; exact h4, h3⟩, fun q' e => ?_⟩
    simp [Value.ownBlock] at e; subst e
    rcases List.mem_cons.1 hq with h | h
    · exact (h4 h).elim
    · exact h
theorem BookW.to {w : World} {r : Nat} {F : List Nat} {t : TypeId} {v : Value} {L : List Ln} {s f : Int} (h : BookW w r t v L s f) (hF : ∀ q, v.ownBlock = some q → q ∈ F) : bookP L s f (hres w (r :: F)) r := by
  refine ⟨t, v, ?_, ?_, h.len⟩
  · unfold hres; rw [if_pos (by simp)]; exact h.blk
  · rcases h.own.2 with ⟨e1, e2⟩ | ⟨q, cap, cur, rfl, _, h5, h6⟩
    · exact .inl ⟨e1, e2⟩
    · have h7 := hF q rfl
      refine .inr ⟨q, cap, cur, rfl, fun e => h.sep (by rw [← e]; rfl), ?_, h6⟩
      unfold hres; rw [if_pos (by simp [h7])]; exact h5
/-- a book of which only its first block was written -/
theorem BookW.next {w w' : World} {r : Nat} {t : TypeId} {v : Value} {L : List Ln} {s f s' f' : Int} (h : BookW w r t v L s f) (hb : Blk w' r (BC 0 v s' f') t) (hg : w.grownBy w' (some r)) : BookW w' r t v L s' f' := by
  refine ⟨hb, ⟨h.own.1, ?_⟩, h.sep, h.len⟩
  rcases h.own.2 with h1 | ⟨q, cap, cur, e, h2, h3, h4⟩
  · exact .inl h1
  · refine .inr ⟨q, cap, cur, e, h2, ?_, h4⟩
    rw [hg.block q (Array.getElem?_eq_some_iff.1 h3).1 (fun e2 => h.sep (by rw [e]; cases e2; rfl))]
    exact h3
/-- a contract out of a walk, where no line is written -/
theorem fnB_of {f : FuncId} {L : List Ln} {s c s' c' : Int} {args : List A} {vs0 : List Value} {x : A} {y : Value} (hargs : ∀ {S : Nat → Prop} {w : World} {vs : List Value}, RAs S w args vs → vs = vs0) (hx : flatA x = true) (hy : ∀ w, RA (fun _ => False) w x y)
    (h : ∀ (w : World) (r : Nat) (t : TypeId) (v : Value), BookW w r t v L s c → Calls Try.prog f (.pointer (some ⟨r, 0, none⟩) :: vs0).toArray w fun e w' => e = .returned y ∧ Blk w' r (BC 0 v s' c') t ∧ w.grownBy w' (some r)) :
    FnB Try.prog gTab f 0 (.of (bookP L s c)) args (.d x) (.of (bookP L s' c')) := by
  intro S w r F vs hG hlt hp ha hS
  rw [hargs ha]
  obtain ⟨t, v, hw, hF⟩ := BookW.of hp
  refine (h w r t v hw).mono ?_
  rintro e w' ⟨rfl, h1, h2⟩
  exact ⟨y, F, [], rfl, fun q hq => .inl (by simp [hq]), fun q hq => Nat.lt_of_lt_of_le (hlt q hq) h2.size, (hw.next h1 h2).to hF, flat_RA hx (hy w'), ⟨h2.os, h2.tape, h2.output, h2.size, fun k hk hn => h2.block k hk (fun e => hn (by cases e; simp))⟩⟩
theorem run_len_any {v : Value} {n : Nat} {w : World} {xs : List Value} (h : w.ownsRow 0 58 33 v n xs) : ∃ ad c, v = .slice ad n c := by
  rcases h.2 with ⟨e1, e2⟩ | ⟨q, cap, cur, e1, _⟩
  · exact ⟨_, _, by rw [e1, e2]⟩
  · exact ⟨_, _, e1⟩
set_option maxRecDepth 100000 in
set_option maxHeartbeats 1000000 in
theorem len_walk (w : World) (r : Nat) (t : TypeId) (v : Value) (L : List Ln) (s f : Int) (h : BookW w r t v L s f) :
    Calls Try.prog 18 #[.pointer (some ⟨r, 0, none⟩)] w fun e w' => e = .returned (.int .i64 L.length) ∧ Blk w' r (BC 0 v s f) t ∧ w.grownBy w' (some r) := by
  have hb := h.blk
  obtain ⟨ad, c, rfl⟩ := run_len_any h.own
  have hb1 : Blk (w.setCell ⟨r, 0, none⟩ (.int .i32 1)) r (BC 1 (.slice ad L.length c) s f) t := (hb.set 0 _).copy rfl
  have hg1 : w.grownBy (w.setCell ⟨r, 0, none⟩ (.int .i32 1)) (some r) := grown_setCell (grown_refl w _) 0 _
  have c2 : (w.setCell ⟨r, 0, none⟩ (.int .i32 1)).cell? ⟨r, 2, none⟩ = some (.slice ad L.length c) := hb1.cell 2
  have HB := Lib.hid hb; have HB1 := Lib.hid hb1; have HG1 := Lib.hid hg1
  clear hb hb1 hg1 h
  go_enter_defers Try.func18, Try.ntmps18
  go_wp2_with (go_at_call 13; refine (lock_free ⟨r, 0, none⟩ _ (HB.out.cell 0) (HB.out.frozen 0)).mono ?_; rintro e w' ⟨rfl, rfl⟩)
  refine leaves_cons (f := 14) (args := #[.pointer (some ⟨r, 0, none⟩)]) (by simp) (by simp [go_sem]) ?_
  refine (unlock_deferred ⟨r, 0, none⟩ _ _ (HB1.out.cell 0) (HB1.out.frozen 0)).mono ?_
  rintro e u' w4 ⟨rfl, rfl, hw4⟩
  have hk4 : Blk w4 r (BC 0 (.slice ad L.length c) s f) t := by rw [hw4]; exact (HB1.out.set 0 _).copy rfl
  have hg4 : w.grownBy w4 (some r) := by rw [hw4]; exact grown_setCell HG1.out 0 _
  clear hw4
  simp [Leaves, settle, results, Try.results18]
  exact ⟨hk4, hg4⟩
theorem aadd_any (a : Addr) (x : Int) (hx : 0 ≤ x ∧ x ≤ 1000000) (w : World) (hc : w.cell? a = some (.int .i64 x)) (hz : w.frozen? a = false) :
    Calls Try.prog 16 #[.pointer (some a), .int .i64 1] w fun e w' => (∃ y, e = .returned y) ∧ w' = w.setCell a (.int .i64 (x + 1)) := by
  have hwr : RowKit.wrap64 (x + 1) = x + 1 := IntWalk.wrap64_in _ (by omega)
  have hwi : IntKind.i64.wrap (x + 1) = x + 1 := wrapS (by omega) (by omega)
  clear hx
  have hadd := run_call_add (P := Try.prog) Try.func23 (by kernel_rfl) (by kernel_rfl) (by kernel_rfl) .i64 (by kernel_rfl) (y := 1) (s := x + 1) hc hz (by simp [go_sem, hwr, hwi])
  go_enter Try.func16, Try.ntmps16
  go_wp2
  go_ret
  exact ⟨⟨_, rfl⟩, rfl⟩
set_option maxRecDepth 100000 in
set_option maxHeartbeats 1000000 in
theorem flush_walk (w : World) (r : Nat) (t : TypeId) (v : Value) (L : List Ln) (s f : Int) (h : BookW w r t v L s f) (hf : 0 ≤ f ∧ f ≤ 1000000) :
    Calls Try.prog 7 #[.pointer (some ⟨r, 0, none⟩)] w fun e w' => e = .returned (.tuple #[]) ∧ Blk w' r (BC 0 v L.length (f + 1)) t ∧ w.grownBy w' (some r) := by
  have hb := h.blk
  obtain ⟨ad, c, rfl⟩ := run_len_any h.own
  have hw : IntKind.i64.wrap (f + 1) = f + 1 := wrapS (by omega) (by omega)
  have hb1 : Blk (w.setCell ⟨r, 4, none⟩ (.int .i64 (f + 1))) r (BC 0 (.slice ad L.length c) s (f + 1)) t := (hb.set 4 _).copy rfl
  have hg1 : w.grownBy (w.setCell ⟨r, 4, none⟩ (.int .i64 (f + 1))) (some r) := grown_setCell (grown_refl w _) 4 _
  have hb2 : Blk ((w.setCell ⟨r, 4, none⟩ (.int .i64 (f + 1))).setCell ⟨r, 0, none⟩ (.int .i32 1)) r (BC 1 (.slice ad L.length c) s (f + 1)) t := (hb1.set 0 _).copy rfl
  have hg2 : w.grownBy ((w.setCell ⟨r, 4, none⟩ (.int .i64 (f + 1))).setCell ⟨r, 0, none⟩ (.int .i32 1)) (some r) := grown_setCell hg1 0 _
  have c2 : ((w.setCell ⟨r, 4, none⟩ (.int .i64 (f + 1))).setCell ⟨r, 0, none⟩ (.int .i32 1)).cell? ⟨r, 2, none⟩ = some (.slice ad L.length c) := hb2.cell 2
  have c3 : ((w.setCell ⟨r, 4, none⟩ (.int .i64 (f + 1))).setCell ⟨r, 0, none⟩ (.int .i32 1)).cell? ⟨r, 3, none⟩ = some (.int .i64 s) := hb2.cell 3
  have z3 : ((w.setCell ⟨r, 4, none⟩ (.int .i64 (f + 1))).setCell ⟨r, 0, none⟩ (.int .i32 1)).frozen? ⟨r, 3, none⟩ = false := hb2.frozen 3
  have HB := Lib.hid hb; have HB1 := Lib.hid hb1; have HB2 := Lib.hid hb2; have HG2 := Lib.hid hg2; have HW := Lib.hid hw; have HF := Lib.hid hf
  clear hb hb1 hg1 hb2 hg2 h hf hw
  go_enter_defers Try.func7, Try.ntmps7
  go_wp2_with (first | (go_at_call 16; refine (aadd_any ⟨r, 4, none⟩ f HF.out _ (HB.out.cell 4) (HB.out.frozen 4)).mono ?_; rintro e w' ⟨⟨y, rfl⟩, rfl⟩) | (go_at_call 13; refine (lock_free ⟨r, 0, none⟩ _ (HB1.out.cell 0) (HB1.out.frozen 0)).mono ?_; rintro e w' ⟨rfl, rfl⟩))
  have hb3 : Blk (((w.setCell ⟨r, 4, none⟩ (.int .i64 (f + 1))).setCell ⟨r, 0, none⟩ (.int .i32 1)).setCell ⟨r, 3, none⟩ (.int .i64 L.length)) r (BC 1 (.slice ad L.length c) L.length (f + 1)) t := (HB2.out.set 3 _).copy rfl
  have hg3 : w.grownBy (((w.setCell ⟨r, 4, none⟩ (.int .i64 (f + 1))).setCell ⟨r, 0, none⟩ (.int .i32 1)).setCell ⟨r, 3, none⟩ (.int .i64 L.length)) (some r) := grown_setCell HG2.out 3 _
  refine leaves_cons (f := 14) (args := #[.pointer (some ⟨r, 0, none⟩)]) (by simp) (by simp [go_sem]) ?_
  refine (unlock_deferred ⟨r, 0, none⟩ _ _ (hb3.cell 0) (hb3.frozen 0)).mono ?_
  rintro e u' w4 ⟨rfl, rfl, hw4⟩
  have hk4 : Blk w4 r (BC 0 (.slice ad L.length c) L.length (f + 1)) t := by rw [hw4]; exact (hb3.set 0 _).copy rfl
  have hg4 : w.grownBy w4 (some r) := by rw [hw4]; exact grown_setCell hg3 0 _
  clear hw4
  simp [Leaves, settle, results, Try.results7]
  exact ⟨hk4, hg4⟩
end Go.Proofs.Ytanpamcecaoanaa

/-
  Books: what is written of an epoch, the lock held.
-/
namespace Go.Proofs.Ytanpamcecaoanaa
set_option maxRecDepth 100000
open Go.RowKit
set_option linter.unusedVariables false
set_option linter.unusedSimpArgs false

theorem lnC_at (L : List Ln) (h : ∀ x ∈ L, x.2.length = 32) : ∀ (j i : Nat), j < L.length → i < 33 → (lnC L)[j * 33 + i]? = (Value.int .i64 (L.getD j (0, [])).1 :: HL (L.getD j (0, [])).2)[i]? := by
  induction L with
  | nil => intro j i hj; simp at hj
  | cons x L ih =>
    intro j i hj hi
    have h1 := h x (by simp)
    have hl : (Value.int .i64 x.1 :: HL x.2).length = 33 := by simp [HL_length, h1]
    have e : lnC (x :: L) = (Value.int .i64 x.1 :: HL x.2) ++ lnC L := rfl
    rw [e]
    cases j with
    | zero => rw [Nat.zero_mul, Nat.zero_add, List.getElem?_append_left (by omega)]; rfl
    | succ j =>
      rw [List.getElem?_append_right (by omega), hl, show (j + 1) * 33 + i - 33 = j * 33 + i by omega, ih (fun y hy => h y (by simp [hy])) j i (by simpa using hj) hi]
      simp
theorem bookRA {w : World} {r : Nat} {t : TypeId} {v : Value} {mu s f : Int} {L : List Ln} (hb : Blk w r (BC mu v s f) t) (ho : w.ownsRow 0 58 33 v L.length (lnC L)) (hl : ∀ x ∈ L, x.2.length = 32) :
    RA (fun _ => True) w (.sref (bookSegs mu L s f) 0) (.pointer (some ⟨r, 0, none⟩)) := by
  have hv : RA (fun _ => True) w (.recs L.length 33 (lineF L)) v := by
    rcases ho.2 with ⟨e1, e2⟩ | ⟨q, cap, cur, rfl, _, h5, h6, h7, h8, h9⟩
    · rw [e1, e2]
      exact .recs (cs := fun _ => []) (fun j hj => absurd hj (by omega)) (Nat.le_refl _) (Nat.zero_le _) (fun _ => rfl) (.inl rfl)
    · refine .recs (cs := fun j => .int .i64 (L.getD j (0, [])).1 :: HL (L.getD j (0, [])).2) (fun j hj => ?_) h6 h7 (fun e => by cases e) (.inr ⟨q, 0, rfl, fun j hj => .inr ⟨q, 0 + j * 33, rfl, trivial, (Array.getElem?_eq_some_iff.1 h5).1, fun i hi => ?_⟩⟩)
      · have hm : L.getD j (0, []) ∈ L := by rw [List.getD_eq_getElem?_getD, List.getElem?_eq_getElem hj]; exact List.getElem_mem hj
        have := RL.append (.ofInts (k := .i64) (n := 1) (zs := [(L.getD j (0, [])).1]) rfl rfl) (RL.ofBytes (S := fun _ => True) (w := w) (hl _ hm) rfl)
        exact this
      · have hm : L.getD j (0, []) ∈ L := by rw [List.getD_eq_getElem?_getD, List.getElem?_eq_getElem hj]; exact List.getElem_mem hj
        have hi2 : i < 33 := by rw [List.length_cons, HL_length, hl _ hm] at hi; exact hi
        have hn := lnC_length L hl
        rw [cell_of_row w q (0 + j * 33 + i) cur _ (0, 0) h5, Nat.zero_add]
        have : (cur.toList.take (L.length * 33))[j * 33 + i]? = (lnC L)[j * 33 + i]? := by rw [h9]
        rw [List.getElem?_take, if_pos (by omega), Array.getElem?_toList, lnC_at L hl j i hj hi2] at this
        rw [this, List.getElem?_eq_getElem hi]
  have hv1 : v.oneCell' = true := by obtain ⟨ad, c, rfl⟩ := run_len_any ho; rfl
  have hR : RL (fun _ => True) w (bookSegs mu L s f) (BC mu v s f).toList := by
    have h1 := RL.append (.ofInts (k := .i32) (n := 1) (zs := [mu]) rfl rfl) (RL.append (.ofInts (k := .u32) (n := 1) (zs := [0]) rfl rfl) (RL.append (.ofGen (n := 1) rfl (.cons hv hv1 .nil)) (RL.ofInts (S := fun _ => True) (w := w) (k := .i64) (n := 2) (zs := [s, f]) rfl rfl)))
    exact h1
  refine .sref (off := 0) hR (.inr ⟨r, 0, rfl, trivial, (Array.getElem?_eq_some_iff.1 hb).1, fun i hi => ?_⟩)
  rw [Nat.zero_add, cells_of hb i, List.getElem?_eq_getElem hi]
theorem ra_agg32 {S : Nat → Prop} {w : World} {p : List UInt8} {v : Value} (h : RA S w (.agg [.bytes 32 p]) v) : v = .agg (HL p).toArray ∧ p.length = 32 := by
  cases h with | agg k => obtain ⟨h1, rfl⟩ := k.toBytes; exact ⟨rfl, h1⟩
theorem find_any {w : World} {r : Nat} {t : TypeId} {v : Value} {mu s f : Int} {L : List Ln} (e : Int) (hL : L.length ≤ 1000000) (hb : Blk w r (BC mu v s f) t) (ho : w.ownsRow 0 58 33 v L.length (lnC L)) (hl : ∀ x ∈ L, x.2.length = 32) :
    Calls Try.prog 15 #[.pointer (some ⟨r, 0, none⟩), .int .i64 e] w fun x w' => x = .returned (.tuple #[HV (getV L e), .bool (hasV L e)]) ∧ Below w.heap.size w w' := by
  refine (find_ok mu L s f e hL (fun _ => True) w [.pointer (some ⟨r, 0, none⟩), .int .i64 e] (fun q l h => by cases h) (.cons (bookRA hb ho hl) (.cons (.v _) .nil))).mono ?_
  rintro x w' ⟨v', rfl, ⟨vs, rfl, h2⟩, h3⟩
  cases h2 with
  | cons h2 h4 => cases h4 with
    | cons h4 h5 => cases h5; obtain ⟨rfl, _⟩ := ra_agg32 h2; cases h4; exact ⟨rfl, h3⟩
theorem getV_len (L : List Ln) (h : ∀ x ∈ L, x.2.length = 32) (e : Int) : (getV L e).length = 32 := by
  unfold getV
  split
  · next x hx => exact h x (List.mem_of_find?_eq_some hx)
  · rfl
theorem grownB {w w' : World} {row : Option Nat} (h : Below w.heap.size w w') : w.grownBy w' row := ⟨h.os, h.tape, h.output, h.size, fun k hk _ => h.block k hk⟩
theorem grown_alloc (w : World) (o : Obj) (row : Option Nat) : w.grownBy (w.alloc o) row := ⟨rfl, rfl, rfl, by rw [size_alloc]; omega, fun k hk _ => Below.heap_alloc _ _ _ hk⟩
theorem BookW.grow {w w' : World} {r : Nat} {t : TypeId} {v : Value} {L : List Ln} {s f : Int} (h : BookW w r t v L s f) (hg : w.grownBy w' none) : BookW w' r t v L s f := by
  have hb : Blk w' r (BC 0 v s f) t := (hg.block r h.blk.lt (by simp)).trans h.blk
  exact h.next hb ⟨hg.os, hg.tape, hg.output, hg.size, fun k hk hne => hg.block k hk (by simp)⟩
/-- the book, its lock held -/
structure BookL (w : World) (r : Nat) (t : TypeId) (v : Value) (L : List Ln) (s f : Int) : Prop where
  blk : Blk w r (BC 1 v s f) t
  own : w.ownsRow 0 58 33 v L.length (lnC L)
  sep : v.ownBlock ≠ some r
  len : ∀ x ∈ L, x.2.length = 32
theorem BookL.of {w : World} {r : Nat} {t : TypeId} {v : Value} {L : List Ln} {s f : Int} (h : BookW w r t v L s f) : BookL (w.setCell ⟨r, 0, none⟩ (.int .i32 1)) r t v L s f := by
  have hb : Blk (w.setCell ⟨r, 0, none⟩ (.int .i32 1)) r (BC 1 v s f) t := (h.blk.set 0 _).copy rfl
  have hg : w.grownBy (w.setCell ⟨r, 0, none⟩ (.int .i32 1)) (some r) := grown_setCell (grown_refl w _) 0 _
  refine ⟨hb, ⟨h.own.1, ?_⟩, h.sep, h.len⟩
  rcases h.own.2 with h1 | ⟨q, cap, cur, e, h2, h3, h4⟩
  · exact .inl h1
  · refine .inr ⟨q, cap, cur, e, h2, ?_, h4⟩
    rw [hg.block q (Array.getElem?_eq_some_iff.1 h3).1 (fun e2 => h.sep (by rw [e]; cases e2; rfl))]
    exact h3
theorem BookL.grow {w w' : World} {r : Nat} {t : TypeId} {v : Value} {L : List Ln} {s f : Int} (h : BookL w r t v L s f) (hg : w.grownBy w' none) : BookL w' r t v L s f := by
  refine ⟨(hg.block r h.blk.lt (by simp)).trans h.blk, ⟨h.own.1, ?_⟩, h.sep, h.len⟩
  rcases h.own.2 with h1 | ⟨q, cap, cur, e, h2, h3, h4⟩
  · exact .inl h1
  · exact .inr ⟨q, cap, cur, e, h2, (hg.block q (Array.getElem?_eq_some_iff.1 h3).1 (by simp)).trans h3, h4⟩
theorem BookL.setNew {w : World} {r g : Nat} {t : TypeId} {v : Value} {L : List Ln} {s f : Int} (h : BookL w r t v L s f) (hg : g ≠ r) (hv : v.ownBlock ≠ some g) (cs : Array Value) : BookL (w.setRow g cs) r t v L s f := by
  refine ⟨(setRow_other _ _ _ _ (Ne.symm hg)).trans h.blk, ⟨h.own.1, ?_⟩, h.sep, h.len⟩
  rcases h.own.2 with h1 | ⟨q, cap, cur, e, h2, h3, h4⟩
  · exact .inl h1
  · exact .inr ⟨q, cap, cur, e, h2, (setRow_other _ _ _ _ (fun e2 => hv (by rw [e, ← e2]; rfl))).trans h3, h4⟩
theorem BookL.lt {w : World} {r : Nat} {t : TypeId} {v : Value} {L : List Ln} {s f : Int} (h : BookL w r t v L s f) : ∀ q, v.ownBlock = some q → q < w.heap.size := by
  intro q hq
  rcases h.own.2 with ⟨e1, e2⟩ | ⟨q', cap, cur, e, h2, h3, h4⟩
  · rw [e1] at hq; cases hq
  · rw [e] at hq; cases hq; exact (Array.getElem?_eq_some_iff.1 h3).1
theorem BookL.find {w : World} {r : Nat} {t : TypeId} {v : Value} {L : List Ln} {s f : Int} (h : BookL w r t v L s f) (hL : L.length ≤ 1000000) (e : Int) :
    Calls Try.prog 15 #[.pointer (some ⟨r, 0, none⟩), .int .i64 e] w fun x w' => x = .returned (.tuple #[HV (getV L e), .bool (hasV L e)]) ∧ Below w.heap.size w w' := find_any e hL h.blk h.own h.len
theorem run_tuple2 {fn : Func} {p q : Tmp} {ty : TypeId} (h : fn.results = #[.cell p ty, .tmp q]) (tmps : Array Value) (w : World) (g : Nat) (t : TypeId) (cs : Array Value) (y : Value) (n : Nat) (el : TypeId)
    (hp : tmps.getD p undef = .pointer (some ⟨g, 0, none⟩)) (hq : tmps.getD q undef = y) (hg : w.heap[g]? = some (.cells cs t (0, 0)))
    (hu : Try.prog.underlying ty = some (.array n el)) (hi : (Try.prog.info? ty).map (·.size) = some cs.size) :
    (results fn tmps).run Try.prog w = .ok (.tuple #[.agg cs, y]) w := by
  have h1 := run_loadVar_row (P := Try.prog) w g t ty cs (0, 0) _ hg hu rfl hi
  have h2 : fn.results.toList = [.cell p ty, .tmp q] := by rw [h]
  have h3 : fn.results = [ResultVar.cell p ty, ResultVar.tmp q].toArray := by rw [h]
  rw [results_eq, h3, List.mapM_toArray]
  simp only [List.mapM_cons, List.mapM_nil, resOf, Sem.run_bind, Sem.run_pure, Result.andThen_ok, hp, hq, asAddr, h1]
  simp [Sem.run_bind, hp, hq, asAddr, h1]
set_option maxRecDepth 100000 in
set_option maxHeartbeats 1000000 in
theorem holds_walk (w : World) (r : Nat) (t : TypeId) (v : Value) (L : List Ln) (s f e : Int) (hL : L.length ≤ 1000000) (h : BookW w r t v L s f) :
    Calls Try.prog 19 #[.pointer (some ⟨r, 0, none⟩), .int .i64 e] w fun x w' => x = .returned (.tuple #[HV (getV L e), .bool (hasV L e)]) ∧ Blk w' r (BC 0 v s f) t ∧ w.grownBy w' (some r) := by
  have hlen := getV_len L h.len e
  have hsz : (Try.prog.info? 30).map (·.size) = some (HC (getV L e)).size := by rw [HC_size, hlen]; kernel_rfl
  have hsz2 : (HC (List.replicate 32 (0 : UInt8))).size = (HC (getV L e)).size := by rw [HC_size, HC_size, hlen]; rfl
  have S1 := Lib.hid hsz; have S2 := Lib.hid hsz2
  have HH := Lib.hid h; have HLL := Lib.hid hL
  clear h hL hlen hsz hsz2
  go_enter_defers Try.func19, Try.ntmps19
  go_wp2_with fail
  go_at_call 13
  have hA := HH.out.grow (grown_alloc w (.cells (HC (List.replicate 32 (0 : UInt8))) 30) none)
  refine (lock_free ⟨r, 0, none⟩ _ (hA.blk.cell 0) (hA.blk.frozen 0)).mono ?_
  rintro x1 w1 ⟨rfl, hw1⟩
  have hL1 : BookL w1 r t v L s f := by rw [hw1]; exact BookL.of hA
  have hR1 : Blk w1 w.heap.size (HC (List.replicate 32 (0 : UInt8))) 30 := by
    rw [hw1]
    exact (Blk.newAt _ _ rfl).other _ _ (by have := HH.out.blk.lt; show w.heap.size ≠ r; omega)
  have hG1 : w.grownBy w1 (some r) := by rw [hw1]; exact grown_setCell (grown_alloc w _ _) 0 _
  have HL1 := Lib.hid hL1; have HR1 := Lib.hid hR1; have HG1 := Lib.hid hG1
  clear hw1 hA hL1 hR1 hG1
  go_wp2_with fail
  go_at_call 15
  refine (HL1.out.find HLL.out e).mono ?_
  rintro x2 w2 ⟨rfl, hb2⟩
  have hL2 := HL1.out.grow (grownB hb2)
  have hR2 : Blk w2 w.heap.size (HC (List.replicate 32 (0 : UInt8))) 30 := HR1.out.keep hb2
  have hG2 : w.grownBy w2 (some r) := grown_trans HG1.out (grownB hb2)
  have hne : w.heap.size ≠ r := by have := HH.out.blk.lt; omega
  have hvn : v.ownBlock ≠ some w.heap.size := fun e => by have h := HH.out.own.2; rcases h with ⟨e1, _⟩ | ⟨q, cap, cur, e1, _, h5, _⟩ <;> rw [e1] at e <;> cases e; exact absurd (Array.getElem?_eq_some_iff.1 h5).1 (Nat.lt_irrefl _)
  have HL2 := Lib.hid hL2; have HR2 := Lib.hid hR2; have HG2 := Lib.hid hG2; have HNE := Lib.hid hne; have HVN := Lib.hid hvn
  clear hb2 hL2 hR2 hG2 hne hvn
  go_wp2_with (refine wpList_store_row rfl 30 _ _ rfl w.heap.size (HC (getV L e)) rfl rfl 30 (HC (List.replicate 32 0)) HR2.out S1.out S2.out (HC_one _) ?_)
  have hb3 := HL2.out.setNew HNE.out HVN.out (HC (getV L e))
  have hg3 : w.grownBy (w2.setRow w.heap.size (HC (getV L e))) (some r) := grown_setRow HG2.out _ (.inl (Nat.le_refl _))
  have hr3 := HR2.out.setRow (HC (getV L e))
  refine leaves_cons (f := 14) (args := #[.pointer (some ⟨r, 0, none⟩)]) (by simp) (by simp [go_sem]) ?_
  refine (unlock_deferred ⟨r, 0, none⟩ _ _ (hb3.blk.cell 0) (hb3.blk.frozen 0)).mono ?_
  rintro x4 u' w4 ⟨rfl, rfl, hw4⟩
  have hk4 : Blk w4 r (BC 0 v s f) t := by rw [hw4]; exact (hb3.blk.set 0 _).copy rfl
  have hg4 : w.grownBy w4 (some r) := by rw [hw4]; exact grown_setCell hg3 0 _
  have hr4 : Blk w4 w.heap.size (HC (getV L e)) 30 := by rw [hw4]; exact hr3.other _ _ (by show w.heap.size ≠ r; exact HNE.out)
  clear hw4
  exact ⟨_, run_tuple2 rfl _ w4 w.heap.size _ _ _ _ _ rfl rfl hr4 Try.underlying30 S1.out, rfl, hk4, hg4⟩
end Go.Proofs.Ytanpamcecaoanaa

/-
  Books: writing.
-/
namespace Go.Proofs.Ytanpamcecaoanaa
set_option maxRecDepth 100000
open Go.RowKit
set_option linter.unusedVariables false
set_option linter.unusedSimpArgs false

theorem BookL.grownX {w w' : World} {r : Nat} {t : TypeId} {v : Value} {L : List Ln} {s f : Int} (h : BookL w r t v L s f) (hb : Below w.heap.size w w') : BookL w' r t v L s f := h.grow (grownB hb)
set_option maxRecDepth 100000 in
set_option maxHeartbeats 1000000 in
theorem write_arg (w : World) (r : Nat) (t : TypeId) (v : Value) (L : List Ln) (s f e : Int) (p : List UInt8) (hp : p.length = 32) (he : e < 0 ∨ e > 1099511627776) (h : BookW w r t v L s f) :
    Calls Try.prog 5 #[.pointer (some ⟨r, 0, none⟩), .int .i64 e, .agg (HC p)] w fun x w' => x = .returned (.int .i64 1) ∧ Blk w' r (BC 0 v s f) t ∧ w.grownBy w' (some r) := by
  have hA := h.grow (grown_alloc w (.cells (HC p) 30) none)
  have HA := Lib.hid hA.blk; have HG := Lib.hid (grown_alloc w (.cells (HC p) 30) (some r))
  clear h hA hp
  rcases he with he | he
  · go_enter Try.func5, Try.ntmps5
    go_wp2
    go_ret
    exact ⟨rfl, HA.out, HG.out⟩
  · have he2 : ¬ e < 0 := by omega
    go_enter Try.func5, Try.ntmps5
    go_wp2
    go_ret
    exact ⟨rfl, HA.out, HG.out⟩
theorem wplB_gen {P : Program} {ops : Array Oper} {rest : List Oper} {Q : Exit → Act → World → Prop} {a : Act} {w : World} (h : ∀ w1, w1 = w → wpList P ops Q rest a w1) : wpList P ops Q rest a w := h w rfl
attribute [local go_sem] eqh_guard
set_option maxRecDepth 100000 in
set_option maxHeartbeats 2000000 in
theorem write_walk (w : World) (r : Nat) (t : TypeId) (v : Value) (L : List Ln) (s f e : Int) (p : List UInt8) (hp : p.length = 32) (h0 : 0 ≤ e) (h1 : e ≤ 1099511627776) (hL : L.length ≤ 1000000) (hh : hasV L e = true) (b : Bool) (hy : (getV L e == p) = b) (h : BookW w r t v L s f) :
    Calls Try.prog 5 #[.pointer (some ⟨r, 0, none⟩), .int .i64 e, .agg (HC p)] w fun x w' => x = .returned (.int .i64 (if b = true then 0 else 9)) ∧ Blk w' r (BC 0 v s f) t ∧ w.grownBy w' (some r) := by
  have hlen := getV_len L h.len e
  have hsz : (Try.prog.info? 30).map (·.size) = some (HC (getV L e)).size := by rw [HC_size, hlen]; kernel_rfl
  have hsz2 : (HC (List.replicate 32 (0 : UInt8))).size = (HC (getV L e)).size := by rw [HC_size, HC_size, hlen]; rfl
  have hsz3 : (Try.prog.info? 30).map (·.size) = some (HC p).size := by rw [HC_size, hp]; kernel_rfl
  have hA := h.grow (grown_alloc w (.cells (HC p) 30) none)
  have he2 : ¬ e < 0 := by omega
  have he3 : ¬ e > 1099511627776 := by omega
  obtain ⟨ie, hie⟩ := infoe8
  have kE := fun w1 => equal_hash (P := Try.prog) w1 Try.underlying30 Try.underlying5 hie (by kernel_rfl) (getV L e) p hlen hp
  rw [hy] at kE
  have S1 := Lib.hid hsz; have S2 := Lib.hid hsz2; have S3 := Lib.hid hsz3
  have HH := Lib.hid h; have HLL := Lib.hid hL; have HA := Lib.hid hA
  clear h hL hlen hsz hsz2 hsz3 h0 h1 hp hA hy
  go_enter_defers Try.func5, Try.ntmps5
  go_wp2_with fail
  go_at_call 13
  refine (lock_free ⟨r, 0, none⟩ _ (HA.out.blk.cell 0) (HA.out.blk.frozen 0)).mono ?_
  rintro x1 w1 ⟨rfl, hw1⟩
  have hL1 : BookL w1 r t v L s f := by rw [hw1]; exact BookL.of HA.out
  have hR1 : Blk w1 w.heap.size (HC p) 30 := by
    rw [hw1]
    exact (Blk.newAt _ _ rfl).other _ _ (by have := HH.out.blk.lt; show w.heap.size ≠ r; omega)
  have hG1 : w.grownBy w1 (some r) := by rw [hw1]; exact grown_setCell (grown_alloc w _ _) 0 _
  have HL1 := Lib.hid hL1; have HR1 := Lib.hid hR1; have HG1 := Lib.hid hG1
  clear hw1 hL1 hR1 hG1
  go_wp2_with fail
  go_at_call 15
  refine (HL1.out.find HLL.out e).mono ?_
  rintro x2 w2 ⟨rfl, hb2⟩
  have hL2 := (HL1.out.grow (grownB hb2)).grow (grown_alloc w2 (.cells (HC (List.replicate 32 (0 : UInt8))) 30) none)
  have hR2 : Blk (w2.alloc (.cells (HC (List.replicate 32 (0 : UInt8))) 30)) w.heap.size (HC p) 30 := (HR1.out.keep hb2).keep ((Below.refl _ _).alloc (Nat.le_refl _) _)
  have hR3 : Blk (w2.alloc (.cells (HC (List.replicate 32 (0 : UInt8))) 30)) w2.heap.size (HC (List.replicate 32 (0 : UInt8))) 30 := Blk.newAt _ _ rfl
  have hG2 : w.grownBy (w2.alloc (.cells (HC (List.replicate 32 (0 : UInt8))) 30)) (some r) := grown_trans (grown_trans HG1.out (grownB hb2)) (grown_alloc w2 _ _)
  have hn1 : w.heap.size < w2.heap.size := Nat.lt_of_lt_of_le HR1.out.lt hb2.size
  have hn2 : r < w.heap.size := HH.out.blk.lt
  have hvn : v.ownBlock ≠ some w2.heap.size := fun e => by have := (HL1.out.grow (grownB hb2)).lt _ e; omega
  have HL2 := Lib.hid hL2; have HR2 := Lib.hid hR2; have HR3 := Lib.hid hR3; have HG2 := Lib.hid hG2; have HN1 := Lib.hid hn1; have HN2 := Lib.hid hn2; have HVN := Lib.hid hvn
  clear hb2 hL2 hR2 hR3 hG2 hn1 hn2 hvn
  cases b
  case false =>
    go_wp2_with (first
      | (refine wpList_store_row rfl 30 _ _ rfl w2.heap.size (HC (getV L e)) rfl rfl 30 (HC (List.replicate 32 0)) HR3.out S1.out S2.out (HC_one _) ?_
         refine wplB_gen (fun w3 hw3 => ?_)
         have hL3 : BookL w3 r t v L s f := by rw [hw3]; exact HL2.out.setNew (by have := HN1.out; have := HN2.out; omega) HVN.out (HC (getV L e))
         have hR4 : Blk w3 w.heap.size (HC p) 30 := by rw [hw3]; exact (setRow_other _ _ _ _ (by have := HN1.out; omega)).trans HR2.out
         have hR5 : Blk w3 w2.heap.size (HC (getV L e)) 30 := by rw [hw3]; exact HR3.out.setRow _
         have hG3 : w.grownBy w3 (some r) := by rw [hw3]; exact grown_setRow HG2.out _ (.inl (Nat.le_of_lt HN1.out))
         have HL3 := Lib.hid hL3; have HR4 := Lib.hid hR4; have HR5 := Lib.hid hR5; have HG3 := Lib.hid hG3
         clear hw3 hL3 hR4 hR5 hG3)
      | (refine list_wanted rfl ?_; refine wpList_load_row rfl 30 _ rfl w2.heap.size rfl 30 (HC (getV L e)) (0, 0) _ HR5.out Try.underlying30 rfl S1.out ?_)
      | (refine list_wanted rfl ?_; refine wpList_load_row rfl 30 _ rfl w.heap.size rfl 30 (HC p) (0, 0) _ HR4.out Try.underlying30 rfl S3.out ?_))
    refine leaves_cons (f := 14) (args := #[.pointer (some ⟨r, 0, none⟩)]) (by simp) (by simp [go_sem]) ?_
    refine (unlock_deferred ⟨r, 0, none⟩ _ _ (HL3.out.blk.cell 0) (HL3.out.blk.frozen 0)).mono ?_
    rintro x4 u' w4 ⟨rfl, rfl, hw4⟩
    have hk4 : Blk w4 r (BC 0 v s f) t := by rw [hw4]; exact (HL3.out.blk.set 0 _).copy rfl
    have hg4 : w.grownBy w4 (some r) := by rw [hw4]; exact grown_setCell HG3.out 0 _
    clear hw4
    simp [Leaves, settle, results, Try.results5]
    exact ⟨hk4, hg4⟩
  case true =>
    go_wp2_with (first
      | (refine wpList_store_row rfl 30 _ _ rfl w2.heap.size (HC (getV L e)) rfl rfl 30 (HC (List.replicate 32 0)) HR3.out S1.out S2.out (HC_one _) ?_
         refine wplB_gen (fun w3 hw3 => ?_)
         have hL3 : BookL w3 r t v L s f := by rw [hw3]; exact HL2.out.setNew (by have := HN1.out; have := HN2.out; omega) HVN.out (HC (getV L e))
         have hR4 : Blk w3 w.heap.size (HC p) 30 := by rw [hw3]; exact (setRow_other _ _ _ _ (by have := HN1.out; omega)).trans HR2.out
         have hR5 : Blk w3 w2.heap.size (HC (getV L e)) 30 := by rw [hw3]; exact HR3.out.setRow _
         have hG3 : w.grownBy w3 (some r) := by rw [hw3]; exact grown_setRow HG2.out _ (.inl (Nat.le_of_lt HN1.out))
         have HL3 := Lib.hid hL3; have HR4 := Lib.hid hR4; have HR5 := Lib.hid hR5; have HG3 := Lib.hid hG3
         clear hw3 hL3 hR4 hR5 hG3)
      | (refine list_wanted rfl ?_; refine wpList_load_row rfl 30 _ rfl w2.heap.size rfl 30 (HC (getV L e)) (0, 0) _ HR5.out Try.underlying30 rfl S1.out ?_)
      | (refine list_wanted rfl ?_; refine wpList_load_row rfl 30 _ rfl w.heap.size rfl 30 (HC p) (0, 0) _ HR4.out Try.underlying30 rfl S3.out ?_))
    refine leaves_cons (f := 14) (args := #[.pointer (some ⟨r, 0, none⟩)]) (by simp) (by simp [go_sem]) ?_
    refine (unlock_deferred ⟨r, 0, none⟩ _ _ (HL3.out.blk.cell 0) (HL3.out.blk.frozen 0)).mono ?_
    rintro x4 u' w4 ⟨rfl, rfl, hw4⟩
    have hk4 : Blk w4 r (BC 0 v s f) t := by rw [hw4]; exact (HL3.out.blk.set 0 _).copy rfl
    have hg4 : w.grownBy w4 (some r) := by rw [hw4]; exact grown_setCell HG3.out 0 _
    clear hw4
    simp [Leaves, settle, results, Try.results5]
    exact ⟨hk4, hg4⟩
set_option maxRecDepth 100000 in
set_option maxHeartbeats 2000000 in
theorem write_full (w : World) (r : Nat) (t : TypeId) (v : Value) (L : List Ln) (s f e : Int) (p : List UInt8) (hp : p.length = 32) (h0 : 0 ≤ e) (h1 : e ≤ 1099511627776) (hL : L.length ≤ 1000000) (hh : hasV L e = false) (hfull : 100 ≤ L.length) (h : BookW w r t v L s f) :
    Calls Try.prog 5 #[.pointer (some ⟨r, 0, none⟩), .int .i64 e, .agg (HC p)] w fun x w' => x = .returned (.int .i64 12) ∧ Blk w' r (BC 0 v s f) t ∧ w.grownBy w' (some r) := by
  have hlen := getV_len L h.len e
  have hsz : (Try.prog.info? 30).map (·.size) = some (HC (getV L e)).size := by rw [HC_size, hlen]; kernel_rfl
  have hsz2 : (HC (List.replicate 32 (0 : UInt8))).size = (HC (getV L e)).size := by rw [HC_size, HC_size, hlen]; rfl
  have hsz3 : (Try.prog.info? 30).map (·.size) = some (HC p).size := by rw [HC_size, hp]; kernel_rfl
  have hA := h.grow (grown_alloc w (.cells (HC p) 30) none)
  have he2 : ¬ e < 0 := by omega
  have he3 : ¬ e > 1099511627776 := by omega
  obtain ⟨ad, c, rfl⟩ := run_len_any h.own
  have hge : (100 : Int) ≤ (L.length : Int) := by omega
  have S1 := Lib.hid hsz; have S2 := Lib.hid hsz2; have S3 := Lib.hid hsz3
  have HH := Lib.hid h; have HLL := Lib.hid hL; have HA := Lib.hid hA
  clear h hL hlen hsz hsz2 hsz3 h0 h1 hp hA hfull
  go_enter_defers Try.func5, Try.ntmps5
  go_wp2_with fail
  go_at_call 13
  refine (lock_free ⟨r, 0, none⟩ _ (HA.out.blk.cell 0) (HA.out.blk.frozen 0)).mono ?_
  rintro x1 w1 ⟨rfl, hw1⟩
  have hL1 : BookL w1 r t (.slice ad L.length c) L s f := by rw [hw1]; exact BookL.of HA.out
  have hR1 : Blk w1 w.heap.size (HC p) 30 := by
    rw [hw1]
    exact (Blk.newAt _ _ rfl).other _ _ (by have := HH.out.blk.lt; show w.heap.size ≠ r; omega)
  have hG1 : w.grownBy w1 (some r) := by rw [hw1]; exact grown_setCell (grown_alloc w _ _) 0 _
  have HL1 := Lib.hid hL1; have HR1 := Lib.hid hR1; have HG1 := Lib.hid hG1
  clear hw1 hL1 hR1 hG1
  go_wp2_with fail
  go_at_call 15
  refine (HL1.out.find HLL.out e).mono ?_
  rintro x2 w2 ⟨rfl, hb2⟩
  have hL2 := (HL1.out.grow (grownB hb2)).grow (grown_alloc w2 (.cells (HC (List.replicate 32 (0 : UInt8))) 30) none)
  have hR2 : Blk (w2.alloc (.cells (HC (List.replicate 32 (0 : UInt8))) 30)) w.heap.size (HC p) 30 := (HR1.out.keep hb2).keep ((Below.refl _ _).alloc (Nat.le_refl _) _)
  have hR3 : Blk (w2.alloc (.cells (HC (List.replicate 32 (0 : UInt8))) 30)) w2.heap.size (HC (List.replicate 32 (0 : UInt8))) 30 := Blk.newAt _ _ rfl
  have hG2 : w.grownBy (w2.alloc (.cells (HC (List.replicate 32 (0 : UInt8))) 30)) (some r) := grown_trans (grown_trans HG1.out (grownB hb2)) (grown_alloc w2 _ _)
  have hn1 : w.heap.size < w2.heap.size := Nat.lt_of_lt_of_le HR1.out.lt hb2.size
  have hn2 : r < w.heap.size := HH.out.blk.lt
  have hvn : (Value.slice ad L.length c).ownBlock ≠ some w2.heap.size := fun e => by have := (HL1.out.grow (grownB hb2)).lt _ e; omega
  have HL2 := Lib.hid hL2; have HR2 := Lib.hid hR2; have HR3 := Lib.hid hR3; have HG2 := Lib.hid hG2; have HN1 := Lib.hid hn1; have HN2 := Lib.hid hn2; have HVN := Lib.hid hvn
  clear hb2 hL2 hR2 hR3 hG2 hn1 hn2 hvn
  go_wp2_with (first
    | (refine wpList_store_row rfl 30 _ _ rfl w2.heap.size (HC (getV L e)) rfl rfl 30 (HC (List.replicate 32 0)) HR3.out S1.out S2.out (HC_one _) ?_
       refine wplB_gen (fun w3 hw3 => ?_)
       have hL3 : BookL w3 r t (.slice ad L.length c) L s f := by rw [hw3]; exact HL2.out.setNew (by have := HN1.out; have := HN2.out; omega) HVN.out (HC (getV L e))
       have hR4 : Blk w3 w.heap.size (HC p) 30 := by rw [hw3]; exact (setRow_other _ _ _ _ (by have := HN1.out; omega)).trans HR2.out
       have hR5 : Blk w3 w2.heap.size (HC (getV L e)) 30 := by rw [hw3]; exact HR3.out.setRow _
       have hG3 : w.grownBy w3 (some r) := by rw [hw3]; exact grown_setRow HG2.out _ (.inl (Nat.le_of_lt HN1.out))
       have c2 : w3.cell? ⟨r, 2, none⟩ = some (.slice ad L.length c) := hL3.blk.cell 2
       have HL3 := Lib.hid hL3; have HR4 := Lib.hid hR4; have HR5 := Lib.hid hR5; have HG3 := Lib.hid hG3
       clear hw3 hL3 hR4 hR5 hG3)
    | (refine list_wanted rfl ?_; refine wpList_load_row rfl 30 _ rfl w2.heap.size rfl 30 (HC (getV L e)) (0, 0) _ HR5.out Try.underlying30 rfl S1.out ?_)
    | (refine list_wanted rfl ?_; refine wpList_load_row rfl 30 _ rfl w.heap.size rfl 30 (HC p) (0, 0) _ HR4.out Try.underlying30 rfl S3.out ?_))
  refine leaves_cons (f := 14) (args := #[.pointer (some ⟨r, 0, none⟩)]) (by simp) (by simp [go_sem]) ?_
  refine (unlock_deferred ⟨r, 0, none⟩ _ _ (HL3.out.blk.cell 0) (HL3.out.blk.frozen 0)).mono ?_
  rintro x4 u' w4 ⟨rfl, rfl, hw4⟩
  have hk4 : Blk w4 r (BC 0 (.slice ad L.length c) s f) t := by rw [hw4]; exact (HL3.out.blk.set 0 _).copy rfl
  have hg4 : w.grownBy w4 (some r) := by rw [hw4]; exact grown_setCell HG3.out 0 _
  clear hw4
  simp [Leaves, settle, results, Try.results5]
  exact ⟨hk4, hg4⟩
end Go.Proofs.Ytanpamcecaoanaa

/-
  Books: a new line, put together and laid behind the others.
-/
namespace Go.Proofs.Ytanpamcecaoanaa
set_option maxRecDepth 100000
open Go.RowKit
set_option linter.unusedVariables false
set_option linter.unusedSimpArgs false

/-- a line's cells -/
def lineC (e : Int) (p : List UInt8) : Array Value := (Value.int .i64 e :: HL p).toArray
theorem lineC_size (e : Int) (p : List UInt8) (hp : p.length = 32) : (lineC e p).size = 33 := by simp [lineC, HL_length, hp]
theorem rl_line {D : Nat → Prop} {w : World} {e : Int} {p : List UInt8} {cs : Array Value} (h : RL D w [.ints .i64 1 [e], .bytes 32 p] cs.toList) : cs = lineC e p := by
  obtain ⟨c, d, h1, h2, h3, _⟩ := h.head
  obtain ⟨_, rfl⟩ := h2.toInts
  obtain ⟨_, rfl⟩ := h3.toBytes
  apply Array.toList_inj.1
  rw [h1]; rfl
theorem rl_of_line {D : Nat → Prop} {w : World} (e : Int) {p : List UInt8} (hp : p.length = 32) : RL D w [.ints .i64 1 [e], .bytes 32 p] (lineC e p).toList :=
  RL.append (.ofInts (k := .i64) (n := 1) (zs := [e]) rfl rfl) (RL.ofBytes hp rfl)
theorem line_ty : ∃ i, env0.Y 58 = some i ∧ i.agg = true ∧ i.esz = 0 ∧ i.plc = [(0, 1), (1, 32)] ∧ i.zero = [.ints .i64 1 [0], .bytes 32 (List.replicate 32 0)] ∧ i.sz = 33 ∧ i.bytes = 40 := ⟨_, rfl, rfl, rfl, rfl, rfl, rfl, rfl⟩
theorem built_line (e : Int) {p : List UInt8} (hp : p.length = 32) : Try.prog.built 58 [(0, .int .i64 e), (1, .agg (HC p))] = some (lineC e p) := by
  obtain ⟨i, hY, ha, he, hpl, hz, _⟩ := line_ty
  obtain ⟨f, z, h1, h2, _, h3, h4⟩ := (env0.hY _ i hY).info
  obtain ⟨fs, k1, k2⟩ := (env0.hY _ i hY).plc ha he
  rw [hz] at h4
  obtain ⟨l', rfl, hf⟩ := fillA_spec (off := fun q => i.plc[q]?) (s := ⟨[.d (.v (.int .i64 e)), .d (.agg [.bytes 32 p])], []⟩) (parts := [(0, .tmp 0), (1, .tmp 1)]) (l := [.ints .i64 1 [0], .bytes 32 (List.replicate 32 0)]) (K := fun l => l = [.ints .i64 1 [e], .bytes 32 p]) (by rw [hpl]; exact ⟨by decide, rfl, rfl, by decide, rfl, rfl⟩)
  obtain ⟨cs', h5, h6⟩ := hf (D := fun _ => True) (w := default) (ρ := fun _ => none) (fun x => match x with | .tmp 0 => .int .i64 e | _ => .agg (HC p)) z.cells (fun q hq => by
    rcases List.mem_cons.1 hq with rfl | hq
    · exact .v _
    · rcases List.mem_cons.1 hq with rfl | hq
      · exact .agg (.ofBytes hp rfl)
      · cases hq) (zeroB_spec h4)
  rw [← rl_line h6]
  have h1' : Try.prog.info? 58 = some f := h1
  have k1' : Try.prog.underlying 58 = some (.struct fs) := k1
  have k2' : fs.toList.mapM (fun f => (Try.prog.info? f.type).map fun j => (f.offset, j.size)) = some i.plc := k2
  unfold Program.built
  simp only [h1', k1', h3, k2']
  have e9 : (fun x : Nat => i.plc.toArray[x]?) = fun q : Nat => i.plc[q]? := by funext q; simp
  rw [e9]
  exact h5
theorem slice_line (w : World) (e : Int) {p : List UInt8} (hp : p.length = 32) : (Instr.buildSlice 48 1 #[(0, .agg (lineC e p))]).run Try.prog w = .ok (.slice (some ⟨w.heap.size, 0, none⟩) 1 1) (w.alloc (.cells (lineC e p) 58)) := by
  obtain ⟨i, hY, ha, he, hpl, hz, hsz, _⟩ := line_ty
  obtain ⟨f, z, h1, h2, _, h3, h4⟩ := (env0.hY _ i hY).info
  have hfs : f.size = 33 := h2.trans hsz
  rw [hz] at h4
  have hzr := zeroB_spec (S := fun _ => True) (w := w) h4
  have hzl : z.cells.size = 33 := by have := hzr.len; simpa [segN, Seg.n] using this
  have hc := many_cells z.cells (by omega) 1
  obtain ⟨l', rfl, hf⟩ := fillA_spec (off := fun q => some (q * 33, 33)) (s := ⟨[.d (.agg [.ints .i64 1 [e], .bytes 32 p])], []⟩) (parts := [(0, .tmp 0)]) (l := [.ints .i64 1 [0], .bytes 32 (List.replicate 32 0)]) (K := fun l => l = [.ints .i64 1 [e], .bytes 32 p]) ⟨by decide, rfl, rfl⟩
  obtain ⟨cs', h5, h6⟩ := hf (D := fun _ => True) (w := w) (ρ := fun _ => none) (fun x => .agg (lineC e p)) ((Array.range (1 * f.size)).map (z.cells[· % z.cells.size]!)) (fun q hq => by
    rcases List.mem_cons.1 hq with rfl | hq
    · have := RA.agg (rl_of_line (D := fun _ => True) (w := w) e hp); exact this
    · cases hq) (by rw [hfs, ← hzl, hc]; simpa using hzr)
  rw [rl_line h6] at h5
  have hu : Try.prog.underlying 48 = some (.slice 58) := Try.underlying48
  exact run_buildSlice (P := Try.prog) w 48 58 1 #[(0, .agg (lineC e p))] (lineC e p) f z hu h1 h3 (by rw [hfs]; decide) (by rw [hfs]; decide) (by rw [← hfs] at h5; exact h5)
theorem append_line (w : World) {v : Value} {L : List Ln} {g : Nat} (e : Int) {p : List UInt8} (hp : p.length = 32) (ty : TypeId) (hL : L.length ≤ 1000) (ho : w.ownsRow 0 58 33 v L.length (lnC L)) (hg : Blk w g (lineC e p) 58) :
    ∃ v' w', (Builtin.append_ #[48, 48] ty #[v, .slice (some ⟨g, 0, none⟩) 1 1]).run Try.prog w = .ok v' w' ∧ w'.ownsRow 0 58 33 v' (L.length + 1) (lnC (L ++ [(e, p)])) ∧ w.grownBy w' v.ownBlock ∧ (v'.ownBlock = v.ownBlock ∨ v'.ownBlock = some w.heap.size) := by
  obtain ⟨i, hY, ha, he, hpl, hz, hsz, hby⟩ := line_ty
  obtain ⟨f, z, h1, h2, h2b, h3, h4⟩ := (env0.hY _ i hY).info
  have hfs : f.size = 33 := h2.trans hsz
  rw [hz] at h4
  have hzr := zeroB_spec (S := fun _ => True) (w := w) h4
  have hzl : z.cells.size = 33 := by have := hzr.len; simpa [segN, Seg.n] using this
  obtain ⟨v', w', k1, k2, k3, _, k5⟩ := run_append_own_at (P := Try.prog) w 0 48 ty 58 f z 33 40 Try.underlying48 h1 h3 hfs (h2b.trans hby) hzl (by decide) v L.length (lnC L) ho ⟨g, 0, none⟩ 1 1 (lineC e p).toList (by rw [Array.length_toList, lineC_size e p hp]) (fun j u hu => by
      rw [add_at, Nat.zero_add, hg.cell j, ← Array.getElem?_toList]; exact hu) (rl_of_line (D := fun _ => True) (w := w) e hp).one (by unfold maxLen; omega) (by omega) (Nat.zero_le _)
  refine ⟨v', w', k1, ?_, k3, k5⟩
  have : lnC (L ++ [(e, p)]) = lnC L ++ (lineC e p).toList := by simp [lnC, lineC]
  rw [this]; exact k2
end Go.Proofs.Ytanpamcecaoanaa

/-
  Books: the region that lays a new line, in whatever order.
-/
namespace Go.Proofs.Ytanpamcecaoanaa
set_option maxRecDepth 100000
open Go.RowKit
set_option linter.unusedVariables false
set_option linter.unusedSimpArgs false

/-- what the operations come to that only reckon -/
def cstB (r : Nat) (V : Value) (e : Int) (p : List UInt8) : Nat → Option Value
  | 0 => some (.pointer (some ⟨r, 0, none⟩))
  | 1 => some (.pointer (some ⟨r, 0, none⟩))
  | 2 => some (.pointer (some ⟨r, 0, none⟩))
  | 3 => some (.pointer (some ⟨r, 2, none⟩))
  | 4 => some V
  | 5 => some (.int .i64 e)
  | 6 => some (.agg (HC p))
  | 7 => some (.agg (lineC e p))
  | 10 => some (.pointer (some ⟨r, 0, none⟩))
  | 11 => some (.pointer (some ⟨r, 2, none⟩))
  | _ => none
structure JB (w3 : World) (r A0 : Nat) (t : TypeId) (V : Value) (L : List Ln) (s f e : Int) (p : List UInt8) (S : Nat → Bool) (vals : Nat → Value) (w : World) : Prop where
  grown : GrownX (fun k => k = r ∨ V.ownBlock = some k) w3 w
  paper : Blk w A0 (HC p) 30
  val : ∀ k x, S k = true → cstB r V e p k = some x → vals k = x
  x8 : S 8 = true → ∃ g, vals 8 = .slice (some ⟨g, 0, none⟩) 1 1 ∧ Blk w g (lineC e p) 58 ∧ w3.heap.size ≤ g
  old : S 9 = false → w.ownsRow 0 58 33 V L.length (lnC L)
  new : S 9 = true → w.ownsRow 0 58 33 (vals 9) (L.length + 1) (lnC (L ++ [(e, p)])) ∧ ((vals 9).ownBlock = V.ownBlock ∨ ∃ q, (vals 9).ownBlock = some q ∧ w3.heap.size ≤ q)
  blk0 : S 12 = false → Blk w r (BC 1 V s f) t
  blk1 : S 12 = true → Blk w r (BC 1 (vals 9) s f) t
  seq : S 12 = true → S 9 = true
section
variable {w3 : World} {r A0 : Nat} {t : TypeId} {V : Value} {L : List Ln} {s f e : Int} {p : List UInt8} {S : Nat → Bool} {vals : Nat → Value} {w : World}
theorem updV (vals : Nat → Value) (i : Nat) (x : Value) {k : Nat} (h : k ≠ i) : (if k = i then x else vals k) = vals k := if_neg h
theorem JB.pure (h : JB w3 r A0 t V L s f e p S vals w) {i : Nat} {x : Value} (hc : cstB r V e p i = some x) : JB w3 r A0 t V L s f e p (add1 S i) (fun j => if j = i then x else vals j) w := by
  have n8 : 8 ≠ i := by rintro rfl; cases hc
  have n9 : 9 ≠ i := by rintro rfl; cases hc
  have n12 : 12 ≠ i := by rintro rfl; cases hc
  have s8 := add1_other S n8; have s9 := add1_other S n9; have s12 := add1_other S n12
  have v8 := updV vals i x n8; have v9 := updV vals i x n9
  refine ⟨h.grown, h.paper, fun k y hk hy => ?_, fun hk => ?_, fun hk => ?_, fun hk => ?_, fun hk => ?_, fun hk => ?_, fun hk => ?_⟩
  · by_cases e1 : k = i
    · subst e1; rw [hc] at hy; cases hy; exact if_pos rfl
    · rw [add1_other S e1] at hk; rw [updV vals i x e1]; exact h.val k y hk hy
  · rw [s8] at hk; rw [v8]; exact h.x8 hk
  · rw [s9] at hk; exact h.old hk
  · rw [s9] at hk; rw [v9]; exact h.new hk
  · rw [s12] at hk; exact h.blk0 hk
  · rw [s12] at hk; rw [v9]; exact h.blk1 hk
  · rw [s12] at hk; rw [s9]; exact h.seq hk
theorem ownsRow_keep {w w' : World} {v : Value} {n : Nat} {xs : List Value} (h : w.ownsRow 0 58 33 v n xs) (hk : ∀ q, v.ownBlock = some q → q < w.heap.size → w'.heap[q]? = w.heap[q]?) : w'.ownsRow 0 58 33 v n xs := by
  refine ⟨h.1, ?_⟩
  rcases h.2 with h1 | ⟨q, cap, cur, e, h2, h3, h4⟩
  · exact .inl h1
  · exact .inr ⟨q, cap, cur, e, h2, (hk q (by rw [e]; rfl) (Array.getElem?_eq_some_iff.1 h3).1).trans h3, h4⟩
theorem JB.alloc (h : JB w3 r A0 t V L s f e p S vals w) (h9 : S 9 = false) (h12 : S 12 = false) : JB w3 r A0 t V L s f e p (add1 S 8) (fun j => if j = 8 then .slice (some ⟨w.heap.size, 0, none⟩) 1 1 else vals j) (w.alloc (.cells (lineC e p) 58)) := by
  have s9 := add1_other S (show 9 ≠ 8 by decide); have s12 := add1_other S (show 12 ≠ 8 by decide)
  have ka : ∀ q, q < w.heap.size → (w.alloc (.cells (lineC e p) 58)).heap[q]? = w.heap[q]? := fun q hq => Below.heap_alloc _ _ _ hq
  refine ⟨⟨h.grown.os, h.grown.tape, h.grown.output, by rw [size_alloc]; have := h.grown.size; omega, fun k hk hn => (ka k (Nat.lt_of_lt_of_le hk h.grown.size)).trans (h.grown.block k hk hn)⟩, (ka _ h.paper.lt).trans h.paper, fun k y hk hy => ?_, fun _ => ⟨w.heap.size, if_pos rfl, heap_alloc_new _ _, h.grown.size⟩, fun hk => ownsRow_keep (h.old h9) fun q _ hq => ka q hq, fun hk => ?_, fun hk => (ka _ (h.blk0 h12).lt).trans (h.blk0 h12), fun hk => ?_, fun hk => ?_⟩
  · have e1 : k ≠ 8 := by rintro rfl; cases hy
    rw [add1_other S e1] at hk; rw [updV vals 8 _ e1]; exact h.val k y hk hy
  · rw [s9, h9] at hk; cases hk
  · rw [s12, h12] at hk; cases hk
  · rw [s12, h12] at hk; cases hk
theorem JB.app (h : JB w3 r A0 t V L s f e p S vals w) (h9 : S 9 = false) (h12 : S 12 = false) {v' : Value} {w' : World} (hown : w'.ownsRow 0 58 33 v' (L.length + 1) (lnC (L ++ [(e, p)]))) (hg : w.grownBy w' V.ownBlock) (hv : v'.ownBlock = V.ownBlock ∨ v'.ownBlock = some w.heap.size) (h1 : V.ownBlock ≠ some r) (h2 : V.ownBlock ≠ some A0) (h3 : ∀ q, V.ownBlock = some q → q < w3.heap.size) :
    JB w3 r A0 t V L s f e p (add1 S 9) (fun j => if j = 9 then v' else vals j) w' := by
  have s8 := add1_other S (show 8 ≠ 9 by decide); have s12 := add1_other S (show 12 ≠ 9 by decide)
  have ka : ∀ q, q < w.heap.size → V.ownBlock ≠ some q → w'.heap[q]? = w.heap[q]? := fun q hq hn => hg.block q hq (fun e => hn e.symm)
  have hm : ∀ q, V.ownBlock = some q → q < w3.heap.size := h3
  refine ⟨⟨hg.os.trans h.grown.os, hg.tape.trans h.grown.tape, hg.output.trans h.grown.output, Nat.le_trans h.grown.size hg.size, fun k hk hn => (ka k (Nat.lt_of_lt_of_le hk h.grown.size) (fun e => hn (.inr e))).trans (h.grown.block k hk hn)⟩, (ka _ h.paper.lt h2).trans h.paper, fun k y hk hy => ?_, fun hk => ?_, fun hk => ?_, fun _ => ?_, fun hk => (ka _ (h.blk0 h12).lt h1).trans (h.blk0 h12), fun hk => ?_, fun _ => add1_same S 9⟩
  · have e1 : k ≠ 9 := by rintro rfl; cases hy
    rw [add1_other S e1] at hk; rw [updV vals 9 _ e1]; exact h.val k y hk hy
  · rw [s8] at hk
    obtain ⟨g, k1, k2, k3⟩ := h.x8 hk
    refine ⟨g, by rw [updV vals 9 _ (show 8 ≠ 9 by decide)]; exact k1, (ka g k2.lt (fun e => ?_)).trans k2, k3⟩
    have := hm g e; omega
  · rw [add1_same] at hk; cases hk
  · show World.ownsRow w' 0 _ 33 v' _ _ ∧ (v'.ownBlock = V.ownBlock ∨ _)
    refine ⟨hown, hv.imp id fun e => ⟨_, e, h.grown.size⟩⟩
  · rw [s12, h12] at hk; cases hk
theorem JB.store (h : JB w3 r A0 t V L s f e p S vals w) (h9 : S 9 = true) (h12 : S 12 = false) (hA : A0 ≠ r) (hr : r < w3.heap.size) (h1 : V.ownBlock ≠ some r) (x : Value) : JB w3 r A0 t V L s f e p (add1 S 12) (fun j => if j = 12 then x else vals j) (w.setCell ⟨r, 2, none⟩ (vals 9)) := by
  have s8 := add1_other S (show 8 ≠ 12 by decide); have s9 := add1_other S (show 9 ≠ 12 by decide)
  have v8 := updV vals 12 x (show 8 ≠ 12 by decide); have v9 := updV vals 12 x (show 9 ≠ 12 by decide)
  have ka : ∀ q, q ≠ r → (w.setCell ⟨r, 2, none⟩ (vals 9)).heap[q]? = w.heap[q]? := fun q hq => heap_setCell_other w ⟨r, 2, none⟩ q _ hq
  have hs : (w.setCell ⟨r, 2, none⟩ (vals 9)).heap.size = w.heap.size := by simp [World.setCell]
  have hb : Blk (w.setCell ⟨r, 2, none⟩ (vals 9)) r (BC 1 (vals 9) s f) t := ((h.blk0 h12).set 2 _).copy rfl
  obtain ⟨n1, n2⟩ := h.new h9
  have hnr : ∀ q, (vals 9).ownBlock = some q → q ≠ r := fun q hq e1 => by
    subst e1
    rcases n2 with n2 | ⟨q', n2, n3⟩
    · rw [n2] at hq; exact h1 hq
    · rw [n2] at hq; cases hq; omega
  refine ⟨⟨h.grown.os, h.grown.tape, h.grown.output, by rw [hs]; exact h.grown.size, fun k hk hn => (ka k (fun e => hn (.inl e))).trans (h.grown.block k hk hn)⟩, (ka _ hA).trans h.paper, fun k y hk hy => ?_, fun hk => ?_, fun hk => ?_, fun _ => ?_, fun hk => ?_, fun _ => by rw [v9]; exact hb, fun _ => by rw [s9]; exact h9⟩
  · have e1 : k ≠ 12 := by rintro rfl; cases hy
    rw [add1_other S e1] at hk; rw [updV vals 12 _ e1]; exact h.val k y hk hy
  · rw [s8] at hk
    obtain ⟨g, k1, k2, k3⟩ := h.x8 hk
    exact ⟨g, by rw [v8]; exact k1, (ka g (by omega)).trans k2, k3⟩
  · rw [s9, h9] at hk; cases hk
  · rw [v9]
    exact ⟨ownsRow_keep n1 fun q hq _ => ka q (hnr q hq), n2⟩
  · rw [add1_same] at hk; cases hk
end
end Go.Proofs.Ytanpamcecaoanaa

/-
  Books: writing a new line.
-/
namespace Go.Proofs.Ytanpamcecaoanaa
set_option maxRecDepth 100000
open Go.RowKit
set_option linter.unusedVariables false
set_option linter.unusedSimpArgs false
attribute [local go_sem] eqh_guard
theorem opv {P : Program} {ops : Array Oper} {o : Oper} {a : Act} {w w2 : World} {v : Value} {F : Value → World → Prop} (hg : o.guard = none) (h : (execOp a.eval o).run P w = .ok (.value v) w2) (hF : F (keeps o.dst v) w2) : opRuns P ops (fun _ _ => True) o a w F := by
  unfold opRuns
  simp only [Region.wanted, hg, h, if_true]
  exact ⟨trivial, hF⟩
theorem ops_ {P : Program} {ops : Array Oper} {o : Oper} {a : Act} {w w2 : World} {F : Value → World → Prop} (hg : o.guard = none) (h : (execOp a.eval o).run P w = .ok .skip w2) (hF : F undef w2) : opRuns P ops (fun _ _ => True) o a w F := by
  unfold opRuns
  simp only [Region.wanted, hg, h, if_true]
  exact ⟨trivial, hF⟩
theorem GrownX.trans {X : Nat → Prop} {a b c : World} (h : GrownX X a b) (k : GrownX X b c) : GrownX X a c := ⟨k.os.trans h.os, k.tape.trans h.tape, k.output.trans h.output, Nat.le_trans h.size k.size, fun q hq hn => (k.block q (Nat.lt_of_lt_of_le hq h.size) hn).trans (h.block q hq hn)⟩
theorem GrownX.ofBy {X : Nat → Prop} {r : Nat} {a b : World} (h : a.grownBy b (some r)) (hr : X r) : GrownX X a b := ⟨h.os, h.tape, h.output, h.size, fun k hk hn => h.block k hk (fun e => hn (by cases e; exact hr))⟩
set_option maxRecDepth 100000 in
set_option maxHeartbeats 2000000 in
theorem write_new (w : World) (r : Nat) (t : TypeId) (v : Value) (L : List Ln) (s f e : Int) (p : List UInt8) (hp : p.length = 32) (h0 : 0 ≤ e) (h1 : e ≤ 1099511627776) (hL : L.length ≤ 1000000) (hh : hasV L e = false) (hfull : L.length < 100) (h : BookW w r t v L s f) :
    Calls Try.prog 5 #[.pointer (some ⟨r, 0, none⟩), .int .i64 e, .agg (HC p)] w fun x w' => x = .returned (.int .i64 0) ∧ ∃ v', BookW w' r t v' (L ++ [(e, p)]) s f ∧ (v'.ownBlock = v.ownBlock ∨ ∃ q, v'.ownBlock = some q ∧ w.heap.size ≤ q) ∧ GrownX (fun k => k = r ∨ v.ownBlock = some k) w w' := by
  have hlen := getV_len L h.len e
  have hsz : (Try.prog.info? 30).map (·.size) = some (HC (getV L e)).size := by rw [HC_size, hlen]; kernel_rfl
  have hsz2 : (HC (List.replicate 32 (0 : UInt8))).size = (HC (getV L e)).size := by rw [HC_size, HC_size, hlen]; rfl
  have hsz3 : (Try.prog.info? 30).map (·.size) = some (HC p).size := by rw [HC_size, hp]; kernel_rfl
  have hA := h.grow (grown_alloc w (.cells (HC p) 30) none)
  have he2 : ¬ e < 0 := by omega
  have he3 : ¬ e > 1099511627776 := by omega
  obtain ⟨ad, c, rfl⟩ := run_len_any h.own
  have hge : (L.length : Int) < 100 := by omega
  have S1 := Lib.hid hsz; have S2 := Lib.hid hsz2; have S3 := Lib.hid hsz3; have HP := Lib.hid hp; have HF := Lib.hid hfull
  have HH := Lib.hid h; have HLL := Lib.hid hL; have HA := Lib.hid hA
  clear h hL hlen hsz hsz2 hsz3 h0 h1 hp hA hfull
  go_enter_defers Try.func5, Try.ntmps5
  go_wp2_with fail
  go_at_call 13
  refine (lock_free ⟨r, 0, none⟩ _ (HA.out.blk.cell 0) (HA.out.blk.frozen 0)).mono ?_
  rintro x1 w1 ⟨rfl, hw1⟩
  have hL1 : BookL w1 r t (.slice ad L.length c) L s f := by rw [hw1]; exact BookL.of HA.out
  have hR1 : Blk w1 w.heap.size (HC p) 30 := by
    rw [hw1]
    exact (Blk.newAt _ _ rfl).other _ _ (by have := HH.out.blk.lt; show w.heap.size ≠ r; omega)
  have hG1 : w.grownBy w1 (some r) := by rw [hw1]; exact grown_setCell (grown_alloc w _ _) 0 _
  have HL1 := Lib.hid hL1; have HR1 := Lib.hid hR1; have HG1 := Lib.hid hG1
  clear hw1 hL1 hR1 hG1
  go_wp2_with fail
  go_at_call 15
  refine (HL1.out.find HLL.out e).mono ?_
  rintro x2 w2 ⟨rfl, hb2⟩
  have hL2 := (HL1.out.grow (grownB hb2)).grow (grown_alloc w2 (.cells (HC (List.replicate 32 (0 : UInt8))) 30) none)
  have hR2 : Blk (w2.alloc (.cells (HC (List.replicate 32 (0 : UInt8))) 30)) w.heap.size (HC p) 30 := (HR1.out.keep hb2).keep ((Below.refl _ _).alloc (Nat.le_refl _) _)
  have hR3 : Blk (w2.alloc (.cells (HC (List.replicate 32 (0 : UInt8))) 30)) w2.heap.size (HC (List.replicate 32 (0 : UInt8))) 30 := Blk.newAt _ _ rfl
  have hG2 : w.grownBy (w2.alloc (.cells (HC (List.replicate 32 (0 : UInt8))) 30)) (some r) := grown_trans (grown_trans HG1.out (grownB hb2)) (grown_alloc w2 _ _)
  have hn1 : w.heap.size < w2.heap.size := Nat.lt_of_lt_of_le HR1.out.lt hb2.size
  have hn2 : r < w.heap.size := HH.out.blk.lt
  have hvn : (Value.slice ad L.length c).ownBlock ≠ some w2.heap.size := fun e => by have := (HL1.out.grow (grownB hb2)).lt _ e; omega
  have HL2 := Lib.hid hL2; have HR2 := Lib.hid hR2; have HR3 := Lib.hid hR3; have HG2 := Lib.hid hG2; have HN1 := Lib.hid hn1; have HN2 := Lib.hid hn2; have HVN := Lib.hid hvn
  clear hb2 hL2 hR2 hR3 hG2 hn1 hn2 hvn
  go_wp2_with (first
    | (refine wpList_store_row rfl 30 _ _ rfl w2.heap.size (HC (getV L e)) rfl rfl 30 (HC (List.replicate 32 0)) HR3.out S1.out S2.out (HC_one _) ?_
       refine wplB_gen (fun w3 hw3 => ?_)
       have hL3 : BookL w3 r t (.slice ad L.length c) L s f := by rw [hw3]; exact HL2.out.setNew (by have := HN1.out; have := HN2.out; omega) HVN.out (HC (getV L e))
       have hR4 : Blk w3 w.heap.size (HC p) 30 := by rw [hw3]; exact (setRow_other _ _ _ _ (by have := HN1.out; omega)).trans HR2.out
       have hR5 : Blk w3 w2.heap.size (HC (getV L e)) 30 := by rw [hw3]; exact HR3.out.setRow _
       have hG3 : w.grownBy w3 (some r) := by rw [hw3]; exact grown_setRow HG2.out _ (.inl (Nat.le_of_lt HN1.out))
       have c2 : w3.cell? ⟨r, 2, none⟩ = some (.slice ad L.length c) := hL3.blk.cell 2
       have HL3 := Lib.hid hL3; have HR4 := Lib.hid hR4; have HR5 := Lib.hid hR5; have HG3 := Lib.hid hG3
       clear hw3 hL3 hR4 hR5 hG3)
    | (refine list_wanted rfl ?_; refine wpList_load_row rfl 30 _ rfl w2.heap.size rfl 30 (HC (getV L e)) (0, 0) _ HR5.out Try.underlying30 rfl S1.out ?_)
    | (refine list_wanted rfl ?_; refine wpList_load_row rfl 30 _ rfl w.heap.size rfl 30 (HC p) (0, 0) _ HR4.out Try.underlying30 rfl S3.out ?_))
  have hs12 : ∀ {S : Nat → Bool}, (∀ k, S k = true → ∀ j ∈ ([[], [], [1], [2], [3], [], [], [5, 6], [7], [4, 8], [0, 9], [10], [11, 9]] : List (List Nat)).getD k [], S j = true) → S 9 = false → S 12 = false := fun {S} hcl h9 => by
    cases h : S 12 with
    | false => rfl
    | true => have := hcl 12 h 9 (by simp); rw [h9] at this; cases this
  have hA0 : w.heap.size ≠ r := by have := HN2.out; omega
  have hV1 : (Value.slice ad L.length c).ownBlock ≠ some r := HL3.out.sep
  have hV2 : (Value.slice ad L.length c).ownBlock ≠ some w.heap.size := fun e => by have h := HH.out.own.2; rcases h with ⟨e1, _⟩ | ⟨q, cap, cur, e1, _, h5, _⟩ <;> rw [e1] at e <;> cases e; exact absurd (Array.getElem?_eq_some_iff.1 h5).1 (Nat.lt_irrefl _)
  have hV3 := HL3.out.lt
  have hr3 : r < w3.heap.size := HL3.out.blk.lt
  refine region_inv (JB w3 r w.heap.size t (.slice ad L.length c) L s f e p) [[], [], [1], [2], [3], [], [], [5, 6], [7], [4, 8], [0, 9], [10], [11, 9]] (by kernel_rfl) (by kernel_rfl) (by kernel_rfl)
    ⟨⟨rfl, rfl, rfl, Nat.le_refl _, fun _ _ _ => rfl⟩, HR4.out.drew, (fun k x hk => Bool.noConfusion hk), (fun hk => Bool.noConfusion hk), (fun _ => HL3.out.own), (fun hk => Bool.noConfusion hk), (fun _ => HL3.out.blk.drew), (fun hk => Bool.noConfusion hk), (fun hk => Bool.noConfusion hk)⟩ ?_ ?_
  · refine ⟨?_, ?_, ?_, ?_, ?_, ?_, ?_, ?_, ?_, ?_, ?_, ?_, ?_, trivial⟩
    · intro S vals wj hJ hSi hD hcl
      refine opv rfl ?_ (hJ.pure (i := 0) rfl)
      simp [execOp, putAll, Act.put, Act.eval, Instr.fieldAt, go_sem]
    · intro S vals wj hJ hSi hD hcl
      refine opv rfl ?_ (hJ.pure (i := 1) rfl)
      simp [execOp, putAll, Act.put, Act.eval, Instr.fieldAt, go_sem]
    · intro S vals wj hJ hSi hD hcl
      have d1 := hJ.val 1 _ (hD 1 (by simp)) rfl
      refine opv rfl ?_ (hJ.pure (i := 2) rfl)
      simp [execOp, putAll, Act.put, Act.eval, Instr.fieldAt, go_sem, d1]
    · intro S vals wj hJ hSi hD hcl
      have d2 := hJ.val 2 _ (hD 2 (by simp)) rfl
      refine opv rfl ?_ (hJ.pure (i := 3) rfl)
      simp [execOp, putAll, Act.put, Act.eval, Instr.fieldAt, go_sem, d2]
    · intro S vals wj hJ hSi hD hcl
      have d3 := hJ.val 3 _ (hD 3 (by simp)) rfl
      have h9 : S 9 = false := by cases h : S 9 with | false => rfl | true => have := hcl 9 h 4 (by simp); rw [hSi] at this; cases this
      have c9 : wj.cell? ⟨r, 2, none⟩ = some (.slice ad L.length c) := (hJ.blk0 (hs12 hcl h9)).cell 2
      refine opv rfl ?_ (hJ.pure (i := 4) rfl)
      simp [execOp, putAll, Act.put, Act.eval, go_sem, d3, c9]
    · intro S vals wj hJ hSi hD hcl
      refine opv rfl ?_ (hJ.pure (i := 5) rfl)
      simp [execOp, putAll, Act.put, Act.eval, Instr.fieldAt, go_sem]
    · intro S vals wj hJ hSi hD hcl
      have := run_loadVar_row (P := Try.prog) wj w.heap.size 30 30 (HC p) (0, 0) _ hJ.paper Try.underlying30 rfl S3.out
      exact opv rfl (exec_load rfl (by simp [putAll, Act.put, Act.eval]) this) (hJ.pure (i := 6) rfl)
    · intro S vals wj hJ hSi hD hcl
      have d5 := hJ.val 5 _ (hD 5 (by simp)) rfl
      have d6 := hJ.val 6 _ (hD 6 (by simp)) rfl
      refine opv rfl ?_ (hJ.pure (i := 7) rfl)
      have := run_build wj 58 _ _ (built_line e HP.out)
      simp [execOp, putAll, Act.put, Act.eval, d5, d6, this, Sem.run_bind]
    · intro S vals wj hJ hSi hD hcl
      have d7 := hJ.val 7 _ (hD 7 (by simp)) rfl
      have h9 : S 9 = false := by cases h : S 9 with | false => rfl | true => have := hcl 9 h 8 (by simp); rw [hSi] at this; cases this
      refine opv rfl ?_ (hJ.alloc h9 (hs12 hcl h9))
      have := slice_line wj e HP.out
      simp [execOp, putAll, Act.put, Act.eval, d7, this, Sem.run_bind]
    · intro S vals wj hJ hSi hD hcl
      have d4 := hJ.val 4 _ (hD 4 (by simp)) rfl
      obtain ⟨g, k1, k2, k3⟩ := hJ.x8 (hD 8 (by simp))
      obtain ⟨v', wn, k4, k5, k6, k7⟩ := append_line wj e HP.out 48 (by have := HF.out; omega) (hJ.old hSi) k2
      refine opv rfl ?_ (hJ.app hSi (hs12 hcl hSi) k5 k6 k7 hV1 hV2 hV3)
      simp [execOp, putAll, Act.put, Act.eval, d4, k1, resolve, invoke, builtin, k4, Sem.run_bind]
    · intro S vals wj hJ hSi hD hcl
      have d0 := hJ.val 0 _ (hD 0 (by simp)) rfl
      refine opv rfl ?_ (hJ.pure (i := 10) rfl)
      simp [execOp, putAll, Act.put, Act.eval, Instr.fieldAt, go_sem, d0]
    · intro S vals wj hJ hSi hD hcl
      have d10 := hJ.val 10 _ (hD 10 (by simp)) rfl
      refine opv rfl ?_ (hJ.pure (i := 11) rfl)
      simp [execOp, putAll, Act.put, Act.eval, Instr.fieldAt, go_sem, d10]
    · intro S vals wj hJ hSi hD hcl
      have d11 := hJ.val 11 _ (hD 11 (by simp)) rfl
      have z9 := (hJ.blk0 hSi).frozen 2
      have z8 : wj.cell? ⟨r, 2, none⟩ = some (.slice ad L.length c) := (hJ.blk0 hSi).cell 2
      obtain ⟨ad9, c9, hv9⟩ := run_len_any (hJ.new (hD 9 (by simp))).1
      refine ops_ rfl ?_ (hJ.store (hD 9 (by simp)) hSi hA0 hr3 hV1 undef)
      simp [execOp, putAll, Act.put, Act.eval, go_sem, d11, z9, z8, hv9]
  · intro vals wz hJ
    have e0 := hJ.val 0 _ rfl rfl
    have e1 := hJ.val 1 _ rfl rfl
    have e2 := hJ.val 2 _ rfl rfl
    have e3 := hJ.val 3 _ rfl rfl
    have e4 := hJ.val 4 _ rfl rfl
    have e5 := hJ.val 5 _ rfl rfl
    have e6 := hJ.val 6 _ rfl rfl
    have e7 := hJ.val 7 _ rfl rfl
    have e10 := hJ.val 10 _ rfl rfl
    have e11 := hJ.val 11 _ rfl rfl
    obtain ⟨n1, n2⟩ := hJ.new rfl
    have n3 := hJ.blk1 rfl
    have n4 := hJ.grown
    have hlen2 : (L ++ [(e, p)]).length = L.length + 1 := by simp
    have hok : ∀ x ∈ L ++ [(e, p)], x.2.length = 32 := by
      intro x hx
      rcases List.mem_append.1 hx with hx | hx
      · exact HH.out.len x hx
      · rcases List.mem_cons.1 hx with rfl | hx
        · exact HP.out
        · cases hx
    generalize hV9 : vals 9 = V9 at n1 n2 n3
    have N1 := Lib.hid n1; have N2 := Lib.hid n2; have N3 := Lib.hid n3; have N4 := Lib.hid n4; have HOK := Lib.hid hok; have H1 := Lib.hid hV1
    clear n1 n2 n3 n4 hok hJ hV1 hV2 hV3 hr3 hA0 hs12 hlen2
    simp [putAll, List.range, List.range.loop, Act.put, e0, e1, e2, e3, e4, e5, e6, e7, e10, e11, hV9]
    clear hV9 e0 e1 e2 e3 e4 e5 e6 e7 e10 e11
    go_wp2_with fail
    refine leaves_cons (f := 14) (args := #[.pointer (some ⟨r, 0, none⟩)]) (by simp) (by simp [go_sem]) ?_
    refine (unlock_deferred ⟨r, 0, none⟩ _ _ (N3.out.cell 0) (N3.out.frozen 0)).mono ?_
    rintro x4 u' w4 ⟨rfl, rfl, hw4⟩
    have hr3 : r < w3.heap.size := HL3.out.blk.lt
    have hk4 : Blk w4 r (BC 0 V9 s f) t := by rw [hw4]; exact (N3.out.set 0 _).copy rfl
    have hg4 : wz.grownBy w4 (some r) := by rw [hw4]; exact grown_setCell (grown_refl wz _) 0 _
    have hsep : V9.ownBlock ≠ some r := fun e1 => by
      rcases N2.out with e2 | ⟨q, e2, e3⟩
      · rw [e2] at e1; exact H1.out e1
      · rw [e2] at e1; cases e1; omega
    have hbw : BookW w4 r t V9 (L ++ [(e, p)]) s f := by
      refine ⟨hk4, ?_, hsep, HOK.out⟩
      have e1 : (L ++ [(e, p)]).length = L.length + 1 := by simp
      rw [e1]
      exact ownsRow_keep N1.out fun q hq hlt => hg4.block q hlt (fun e2 => hsep (by cases e2; exact hq))
    have hgw : GrownX (fun k => k = r ∨ (Value.slice ad L.length c).ownBlock = some k) w w4 := ((GrownX.ofBy HG3.out (.inl rfl)).trans N4.out).trans (.ofBy hg4 (.inl rfl))
    have hnb : V9.ownBlock = (Value.slice ad L.length c).ownBlock ∨ ∃ q, V9.ownBlock = some q ∧ w.heap.size ≤ q := N2.out.imp id fun ⟨q, e2, e3⟩ => ⟨q, e2, Nat.le_trans HG3.out.size e3⟩
    clear hw4
    simp [Leaves, settle, results, Try.results5]
    exact ⟨V9, hbw, hnb, hgw⟩
end Go.Proofs.Ytanpamcecaoanaa
