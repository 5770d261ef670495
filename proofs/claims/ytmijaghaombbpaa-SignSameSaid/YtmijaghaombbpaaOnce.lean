/-
  sync.Once's slow road, in the run of one goroutine: contracts of its parts.
-/
import Derived.Test.YtmijaghaombbpaaPair
import Derived.Tactics2
import Derived.RegionTactic
import Derived.ChangeAlike
namespace Go.Proofs.Ytmijaghaombbpaa
set_option maxRecDepth 100000
open Go.RowKit Pm
set_option linter.unusedVariables false
set_option linter.unusedSimpArgs false

theorem disable (w : World) : (callFunc 65 #[]).run Try.prog w = .ok (.value (.tuple #[])) w := run_call_mark0 Try.func65 (by kernel_rfl) (by kernel_rfl) (by kernel_rfl) .disable (by kernel_rfl) w
theorem enable (w : World) : (callFunc 67 #[]).run Try.prog w = .ok (.value (.tuple #[])) w := run_call_mark0 Try.func67 (by kernel_rfl) (by kernel_rfl) (by kernel_rfl) .enable (by kernel_rfl) w
theorem acquire (a : Addr) (w : World) : (callFunc 68 #[.pointer (some a)]).run Try.prog w = .ok (.value (.tuple #[])) w := run_call_marked Try.func68 (by kernel_rfl) (by kernel_rfl) (by kernel_rfl) .acquire (by kernel_rfl) a w
theorem releaseMerge (a : Addr) (w : World) : (callFunc 70 #[.pointer (some a)]).run Try.prog w = .ok (.value (.tuple #[])) w := run_call_marked Try.func70 (by kernel_rfl) (by kernel_rfl) (by kernel_rfl) .releaseMerge (by kernel_rfl) a w

theorem bstore_deferred (a : Addr) (x : Value) (u : FrameMode) (w : World) (hc : w.cell? a = some x) (hz : w.frozen? a = false) :
    CallsD Try.prog 46 #[.pointer (some a), .bool true] u w fun e u' w' => u' = u ∧ (e = .returned (.tuple #[]) ∧ w' = w.drew.setCell a (.int .u32 1)) := by
  have hc' : w.drew.cell? a = some x := by go_simp
  have hz' : w.drew.frozen? a = false := by go_simp
  have hst := run_call_store (P := Try.prog) Try.func52 (by kernel_rfl) (by kernel_rfl) (by kernel_rfl) (by kernel_rfl) (k := .u32) (y := 1) hc' hz'
  go_enter_d Try.func46, Try.ntmps46
  go_wp2
  go_region_calls
  all_goals (go_end0; exact ⟨rfl, rfl⟩)
theorem bstore_any (a : Addr) (x : Value) (w : World) (hc : w.cell? a = some x) (hz : w.frozen? a = false) :
    Calls Try.prog 46 #[.pointer (some a), .bool true] w fun e w' => e = .returned (.tuple #[]) ∧ w' = w.drew.setCell a (.int .u32 1) := by
  have hc' : w.drew.cell? a = some x := by go_simp
  have hz' : w.drew.frozen? a = false := by go_simp
  have hst := run_call_store (P := Try.prog) Try.func52 (by kernel_rfl) (by kernel_rfl) (by kernel_rfl) (by kernel_rfl) (k := .u32) (y := 1) hc' hz'
  go_enter Try.func46, Try.ntmps46
  go_wp2
  go_region_calls
  all_goals (go_end0; exact ⟨rfl, rfl⟩)

set_option maxHeartbeats 800000 in
set_option maxRecDepth 100000 in
theorem unlock_deferred (a : Addr) (u : FrameMode) (w : World) (hc : w.cell? a = some (.int .i32 1)) (hz : w.frozen? a = false) :
    CallsD Try.prog 59 #[.pointer (some a)] u w fun e u' w' => u' = u ∧ (e = .returned (.tuple #[]) ∧ w' = w.setCell a (.int .i32 0)) := by
  have hd := disable
  have he := enable
  have hr := releaseMerge
  have hadd := run_call_add (P := Try.prog) Try.func71 (by kernel_rfl) (by kernel_rfl) (by kernel_rfl) .i32 (by kernel_rfl) (y := -1) (s := 0) hc hz (by simp [go_sem]; rfl)
  have hcv := run_convert_to_unsafe (P := Try.prog) (src := 93) (dst := 97) Try.underlying93 Try.underlying97 (by kernel_rfl) hc
  go_enter_d Try.func59, Try.ntmps59
  go_wp2
  go_end0
  go_wp2
  go_end0
  exact ⟨rfl, rfl⟩

set_option maxHeartbeats 800000 in
set_option maxRecDepth 100000 in
theorem lock_free (a : Addr) (w : World) (hc : w.cell? a = some (.int .i32 0)) (hz : w.frozen? a = false) :
    Calls Try.prog 58 #[.pointer (some a)] w fun e w' => e = .returned (.tuple #[]) ∧ w' = w.setCell a (.int .i32 1) := by
  have hd := disable
  have he := enable
  have ha := acquire
  have hcas := run_call_cas_hit (P := Try.prog) Try.func66 (by kernel_rfl) (by kernel_rfl) (by kernel_rfl) .i32 (by kernel_rfl) (y := 1) hc hz
  have hc' : (w.setCell a (.int .i32 1)).cell? a = some (.int .i32 1) := World.cell?_setCell_same w a _ hc
  have hcv := run_convert_to_unsafe (P := Try.prog) (src := 93) (dst := 97) Try.underlying93 Try.underlying97 (by kernel_rfl) hc'
  go_enter Try.func58, Try.ntmps58
  go_wp2
  first | go_end0 | (simp only [Exit.inBlock, Exit.then]; refine bodyPost_ret (results_none rfl _ _ _) rfl ?_) | refine bodyPost_ret (results_none rfl _ _ _) rfl ?_
  go_wp2
  go_end0
  exact ⟨rfl, rfl⟩

theorem bload_any (a : Addr) (x : Int) (w : World) (hc : w.cell? a = some (.int .u32 x)) :
    Calls Try.prog 50 #[.pointer (some a)] w fun e w' => e = .returned (.bool (x != 0)) ∧ w = w' := by
  have hl := run_call_load (P := Try.prog) Try.func57 (by kernel_rfl) (by kernel_rfl) (by kernel_rfl) .u32 (by kernel_rfl) hc
  go_enter Try.func50, Try.ntmps50
  go_wp2
  go_ret
  exact ⟨rfl, rfl⟩

/-- a key while it is locked, or not -/
abbrev KC (s dn mu pub md us : Int) : Array Value := #[.int .i64 s, .int .u32 dn, .int .i32 mu, .int .u32 0, .int .i64 pub, .int .u32 md, .int .i64 us]
theorem Blk.kc {w : World} {g : Nat} {t : TypeId} {s dn mu pub md us : Int} (h : Blk w g (KC s dn mu pub md us) t) :
    w.cell? ⟨g, 0, none⟩ = some (.int .i64 s) ∧ w.cell? ⟨g, 1, none⟩ = some (.int .u32 dn) ∧ w.cell? ⟨g, 2, none⟩ = some (.int .i32 mu) ∧ w.cell? ⟨g, 4, none⟩ = some (.int .i64 pub) ∧ w.cell? ⟨g, 5, none⟩ = some (.int .u32 md) ∧ w.cell? ⟨g, 6, none⟩ = some (.int .i64 us) :=
  ⟨h.cell 0, h.cell 1, h.cell 2, h.cell 4, h.cell 5, h.cell 6⟩

set_option maxRecDepth 100000 in
theorem public1_any (p g : Nat) (t : TypeId) (s dn mu pub md us : Int) (hs : 0 ≤ s ∧ s < 1073741789) (w : World) (hp : w.cell? ⟨p, 0, none⟩ = some (.pointer (some ⟨g, 0, none⟩))) (hne : p ≠ g) (hk : Blk w g (KC s dn mu pub md us) t) :
    Calls Try.prog 45 #[.pointer (some ⟨p, 0, none⟩)] w fun e w' => e = .returned (.tuple #[]) ∧ Blk w' g (KC s dn mu (powI 4 s) 1 us) t ∧ w.grownBy w' (some g) := by
  obtain ⟨c0, c1, c2, c4, c5, c6⟩ := hk.kc
  have hk1 : Blk (w.drew.setCell ⟨g, 4, none⟩ (.int .i64 (powI 4 s))) g (KC s dn mu (powI 4 s) md us) t := (hk.drew.set 4 _).copy rfl
  have hg1 : w.grownBy (w.drew.setCell ⟨g, 4, none⟩ (.int .i64 (powI 4 s))) (some g) := grown_setCell (grown_drew (grown_refl w _)) 4 _
  have hp1 : (w.drew.setCell ⟨g, 4, none⟩ (.int .i64 (powI 4 s))).cell? ⟨p, 0, none⟩ = some (.pointer (some ⟨g, 0, none⟩)) := (World.cell?_setCell_other _ ⟨g, 4, none⟩ ⟨p, 0, none⟩ _ (fun h => hne (congrArg Addr.block h).symm)).trans hp
  have f4 := hk.frozen 4
  have HK := Lib.hid hk1; have HG := Lib.hid hg1
  clear hk hk1 hg1
  go_enter Try.func45, Try.ntmps45
  go_wp2_with fail
  refine region_tail 8 (by kernel_rfl) (by kernel_rfl) ?_
  still_step
  still_step
  still_step
  still_step
  still_step
  still_call (pow_any 4 s _).mono (fun e w' h => ⟨h.1, h.2.symm⟩)
  still_step
  still_step
  refine wpStill_nil ?_
  go_wp2_with (go_at_call 46; refine (bstore_any ⟨g, 5, none⟩ (.int .u32 md) _ (HK.out.cell 5) (HK.out.frozen 5)).mono ?_; rintro e w' ⟨rfl, rfl⟩)
  go_end0
  exact ⟨rfl, (HK.out.drew.set 5 _).copy rfl, grown_setCell (grown_drew HG.out) 5 _⟩

set_option maxRecDepth 100000 in
set_option maxHeartbeats 1600000 in
theorem slow_any (p g : Nat) (t : TypeId) (s us : Int) (hs : 0 ≤ s ∧ s < 1073741789) (w : World) (hp : w.cell? ⟨p, 0, none⟩ = some (.pointer (some ⟨g, 0, none⟩))) (hne : p ≠ g) (hk : Blk w g (KC s 0 0 0 0 us) t) :
    Calls Try.prog 51 #[.pointer (some ⟨g, 1, none⟩), .func (.func 45) #[] #[.pointer (some ⟨p, 0, none⟩)]] w fun e w' => e = .returned (.tuple #[]) ∧ Blk w' g (KC s 1 0 (powI 4 s) 1 us) t ∧ w.grownBy w' (some g) := by
  have hk1 : Blk (w.setCell ⟨g, 2, none⟩ (.int .i32 1)) g (KC s 0 1 0 0 us) t := (hk.set 2 _).copy rfl
  have hg1 : w.grownBy (w.setCell ⟨g, 2, none⟩ (.int .i32 1)) (some g) := grown_setCell (grown_refl w _) 2 _
  have hp1 : (w.setCell ⟨g, 2, none⟩ (.int .i32 1)).cell? ⟨p, 0, none⟩ = some (.pointer (some ⟨g, 0, none⟩)) := (World.cell?_setCell_other _ ⟨g, 2, none⟩ ⟨p, 0, none⟩ _ (fun h => hne (congrArg Addr.block h).symm)).trans hp
  have hnot : ∀ (x : Bool) (w : World), (Op.unary .not (.bool x)).run Try.prog w = .ok (.bool (!x)) w := fun _ _ => rfl
  have HK := Lib.hid hk; have HK1 := Lib.hid hk1; have HG1 := Lib.hid hg1; have HP1 := Lib.hid hp1; have HS := Lib.hid hs
  clear hk hk1 hg1 hp1 hp hs
  go_enter_defers Try.func51, Try.ntmps51
  go_wp2_with (first
    | (go_at_call 58; refine (lock_free ⟨g, 2, none⟩ _ (HK.out.cell 2) (HK.out.frozen 2)).mono ?_; rintro e w' ⟨rfl, rfl⟩)
    | (go_at_call 50; refine (bload_any ⟨g, 1, none⟩ 0 _ (HK1.out.cell 1)).mono ?_; rintro e w' ⟨rfl, rfl⟩)
    | (go_at_call 45; refine (public1_any p g t s 0 1 0 0 us HS.out _ HP1.out hne HK1.out).mono ?_; rintro e w2 ⟨rfl, hk2, hg2⟩))
  refine leaves_cons (f := 46) (args := #[.pointer (some ⟨g, 1, none⟩), .bool true]) (by simp) (by simp [go_sem]) ?_
  refine (bstore_deferred ⟨g, 1, none⟩ (.int .u32 0) .returning _ (hk2.cell 1) (hk2.frozen 1)).mono ?_
  rintro e u' w3 ⟨rfl, rfl, hw3⟩
  have hk3 : Blk w3 g (KC s 1 1 (powI 4 s) 1 us) t := by rw [hw3]; exact (hk2.drew.set 1 _).copy rfl
  have hg3 : w.grownBy w3 (some g) := by rw [hw3]; exact grown_setCell (grown_drew (grown_trans HG1.out hg2)) 1 _
  clear hw3 hk2 hg2
  refine leaves_cons (f := 59) (args := #[.pointer (some ⟨g, 2, none⟩)]) (by simp [settle]) (by simp [go_sem]) ?_
  refine (unlock_deferred ⟨g, 2, none⟩ _ _ (hk3.cell 2) (hk3.frozen 2)).mono ?_
  rintro e u' w4 ⟨rfl, rfl, hw4⟩
  have hk4 : Blk w4 g (KC s 1 0 (powI 4 s) 1 us) t := by rw [hw4]; exact (hk3.set 2 _).copy rfl
  have hg4 : w.grownBy w4 (some g) := by rw [hw4]; exact grown_setCell hg3 2 _
  clear hw4 hk3 hg3
  simp [Leaves, settle, results, Try.results51]
  exact ⟨hk4, hg4⟩

/-- '(*sync.Once).Do', not yet done, the lock free -/
theorem do_first (p g : Nat) (t : TypeId) (s us : Int) (hs : 0 ≤ s ∧ s < 1073741789) (w : World) (hp : w.cell? ⟨p, 0, none⟩ = some (.pointer (some ⟨g, 0, none⟩))) (hne : p ≠ g) (hk : Blk w g (KC s 0 0 0 0 us) t) :
    Calls Try.prog 44 #[.pointer (some ⟨g, 1, none⟩), .func (.func 45) #[] #[.pointer (some ⟨p, 0, none⟩)]] w fun e w' => e = .returned (.tuple #[]) ∧ Blk w' g (KC s 1 0 (powI 4 s) 1 us) t ∧ w.grownBy w' (some g) := by
  have hnot : ∀ (x : Bool) (w : World), (Op.unary .not (.bool x)).run Try.prog w = .ok (.bool (!x)) w := fun _ _ => rfl
  have HK := Lib.hid hk; have HP := Lib.hid hp; have HS := Lib.hid hs
  clear hk hp hs
  go_enter Try.func44, Try.ntmps44
  go_wp2_with (first
    | (go_at_call 50; refine (bload_any ⟨g, 1, none⟩ 0 _ (HK.out.cell 1)).mono ?_; rintro e w' ⟨rfl, rfl⟩)
    | (go_at_call 51; refine (slow_any p g t s us HS.out _ HP.out hne HK.out).mono ?_; rintro e w2 ⟨rfl, hk2, hg2⟩))
  go_end0
  exact ⟨rfl, hk2, hg2⟩

/-- '(*sync.Once).Do', done already: the function is not called -/
theorem do_done (g : Nat) (t : TypeId) (fv : Value) (s mu pub md us : Int) (w : World) (hk : Blk w g (KC s 1 mu pub md us) t) :
    Calls Try.prog 44 #[.pointer (some ⟨g, 1, none⟩), fv] w fun e w' => e = .returned (.tuple #[]) ∧ w = w' := by
  have hnot : ∀ (x : Bool) (w : World), (Op.unary .not (.bool x)).run Try.prog w = .ok (.bool (!x)) w := fun _ _ => rfl
  have HK := Lib.hid hk
  clear hk
  go_enter Try.func44, Try.ntmps44
  go_wp2_with (go_at_call 50; refine (bload_any ⟨g, 1, none⟩ 1 _ (HK.out.cell 1)).mono ?_; rintro e w' ⟨rfl, rfl⟩)
  go_end0
  exact ⟨rfl, rfl⟩

/-- the public number, the first time -/
theorem public_first (g : Nat) (s us : Int) (hs : 0 ≤ s ∧ s < 1073741789) (w : World) (hk : Blk w g (CK s 0 0 0 us) 59) :
    Calls Try.prog 27 #[.pointer (some ⟨g, 0, none⟩)] w fun e w' => e = .returned (.int .i64 (powI 4 s)) ∧ Blk w' g (CK s 1 (powI 4 s) 1 us) 59 ∧ w.grownBy w' (some g) := by
  have hmf : ∀ (fn : Fn) (first cap : Array Value) (w : World), (Instr.makeFunc fn first cap).run Try.prog w = .ok (.func fn first cap) w := fun _ _ _ _ => rfl
  have hlt := hk.lt
  have hp0 : Blk (w.alloc (.cells #[.pointer (some ⟨g, 0, none⟩)] 25)) w.heap.size #[.pointer (some ⟨g, 0, none⟩)] 25 := Blk.new w _ _
  have hk0 := hk.alloc (.cells #[.pointer (some ⟨g, 0, none⟩)] 25)
  have hg0 : w.grownBy (w.alloc (.cells #[.pointer (some ⟨g, 0, none⟩)] 25)) (some g) := grown_below (grown_refl w _) ((Below.refl _ w).next (Nat.le_refl _) _)
  have HK := Lib.hid hk0; have HP := Lib.hid hp0; have HG := Lib.hid hg0; have HS := Lib.hid hs
  clear hk hk0 hp0 hg0 hs
  go_enter Try.func27, Try.ntmps27
  go_wp2_with (go_at_call 44; refine (do_first w.heap.size g _ s us HS.out _ (HP.out.cell 0) (by omega) HK.out).mono ?_; rintro e w2 ⟨rfl, hk2, hg2⟩; have hp2 := HP.out.grown hg2 (by omega); have c0 := hp2.cell 0; have c4 := hk2.cell 4; clear hp2)
  go_ret
  exact ⟨rfl, hk2, grown_trans HG.out hg2⟩

/-- the public number, again -/
theorem public_again (g : Nat) (s pub md us : Int) (w : World) (hk : Blk w g (CK s 1 pub md us) 59) :
    Calls Try.prog 27 #[.pointer (some ⟨g, 0, none⟩)] w fun e w' => e = .returned (.int .i64 pub) ∧ Below w.heap.size w w' := by
  have hmf : ∀ (fn : Fn) (first cap : Array Value) (w : World), (Instr.makeFunc fn first cap).run Try.prog w = .ok (.func fn first cap) w := fun _ _ _ _ => rfl
  have hp0 : Blk (w.alloc (.cells #[.pointer (some ⟨g, 0, none⟩)] 25)) w.heap.size #[.pointer (some ⟨g, 0, none⟩)] 25 := Blk.new w _ _
  have hk0 := hk.alloc (.cells #[.pointer (some ⟨g, 0, none⟩)] 25)
  have c0 := hp0.cell 0
  have c4 := hk0.cell 4
  have HK := Lib.hid hk0
  clear hk hk0 hp0
  go_enter Try.func27, Try.ntmps27
  go_wp2_with (go_at_call 44; refine (do_done g _ _ s 0 pub md us _ HK.out).mono ?_; rintro e w2 ⟨rfl, rfl⟩)
  go_ret
  exact ⟨rfl, (Below.refl _ w).next (Nat.le_refl _) _⟩
end Go.Proofs.Ytmijaghaombbpaa
