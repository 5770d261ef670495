/-
  Keys as the program keeps them: the walks of From, Made, Secret, Uses.
-/
import Derived.Test.YtpemaphgmfaioaaGreatHBase
import Derived.Test.YtpemaphgmfaioaaGreatHPow
import Derived.Laws.LoneSync
import Derived.RegionCalls
import Derived.Defers
import Derived.Tactics2
import Derived.RegionTactic
import Derived.ChangeAlike
import Derived.Test.YtpemaphgmfaioaaGreatHSumR
import Derived.Laws.ResultCell
import Derived.Test.YtpemaphgmfaioaaGreatHSum
namespace Go.Proofs.YtpemaphgmfaioaaGreat
set_option maxRecDepth 100000
open Go.RowKit
set_option linter.unusedVariables false
set_option linter.unusedSimpArgs false

/-- a key: its secret number, whether it is done, its public number, whether that was worked out, its uses -/
abbrev CK (s dn pub md us : Int) : Array Value := #[.int .i64 s, .int .u32 dn, .int .i32 0, .int .u32 0, .int .i64 pub, .int .u32 md, .int .i64 us]
theorem Blk.key {w : World} {g : Nat} {t : TypeId} {s dn pub md us : Int} (h : Blk w g (CK s dn pub md us) t) :
    w.cell? ⟨g, 0, none⟩ = some (.int .i64 s) ∧ w.cell? ⟨g, 1, none⟩ = some (.int .u32 dn) ∧ w.cell? ⟨g, 2, none⟩ = some (.int .i32 0) ∧ w.cell? ⟨g, 3, none⟩ = some (.int .u32 0) ∧ w.cell? ⟨g, 4, none⟩ = some (.int .i64 pub) ∧ w.cell? ⟨g, 5, none⟩ = some (.int .u32 md) ∧ w.cell? ⟨g, 6, none⟩ = some (.int .i64 us) :=
  ⟨h.cell 0, h.cell 1, h.cell 2, h.cell 3, h.cell 4, h.cell 5, h.cell 6⟩

theorem from_any (h : List UInt8) (hh : h.length = 32) (w : World) :
    Calls Tryz.prog 10 #[HV h] w fun e w' => ∃ g, e = .returned (.pointer (some ⟨g, 0, none⟩)) ∧ w.heap.size ≤ g ∧ Blk w' g (CK (U (numN h 8) % 1073741788 + 1) 0 0 0 0) 88 ∧ Below w.heap.size w w' := by
  have hB := Blk.new w (HC h) 30
  have hsz : (Tryz.prog.info? 30).map (·.size) = some (HC h).size := by rw [HC_size, hh]; kernel_rfl
  have HB := Lib.hid hB; have S1 := Lib.hid hsz; have HH := Lib.hid hh
  clear hB hsz hh
  unfold HV
  go_enter Tryz.func10, Tryz.ntmps10
  go_wp2_with (first
    | (refine wpList_load_row rfl 30 _ rfl w.heap.size rfl 30 (HC h) (0, 0) _ HB.out Tryz.underlying30 rfl S1.out ?_)
    | (go_at_call 25; refine (pscalar_any h HH.out _).mono ?_; rintro e w1 ⟨rfl, hb1⟩))
  have hB1 := ((Below.refl _ w).next (Nat.le_refl _) _).later hb1 (Nat.le_refl _)
  go_ret
  exact ⟨w1.heap.size, rfl, hB1.size, Blk.new _ _ _, hB1.next (Nat.le_refl _) _⟩

theorem secret_any (g : Nat) (s dn pub md us : Int) (w : World) (hk : Blk w g (CK s dn pub md us) 88) :
    Calls Tryz.prog 53 #[.pointer (some ⟨g, 0, none⟩)] w fun e w' => e = .returned (.int .i64 s) ∧ w = w' := by
  obtain ⟨c0, c1, c2, c3, c4, c5, c6⟩ := hk.key
  clear hk
  go_enter Tryz.func53, Tryz.ntmps53
  go_wp2
  go_ret
  exact ⟨rfl, rfl⟩

end Go.Proofs.YtpemaphgmfaioaaGreat

/-
  sync.Once's slow road, in the run of one goroutine: contracts of its parts.
-/
namespace Go.Proofs.YtpemaphgmfaioaaGreat
set_option maxRecDepth 100000
open Go.RowKit Pm
set_option linter.unusedVariables false
set_option linter.unusedSimpArgs false

theorem disable (w : World) : (callFunc 117 #[]).run Tryz.prog w = .ok (.value (.tuple #[])) w := run_call_mark0 Tryz.func117 (by kernel_rfl) (by kernel_rfl) (by kernel_rfl) .disable (by kernel_rfl) w
theorem enable (w : World) : (callFunc 119 #[]).run Tryz.prog w = .ok (.value (.tuple #[])) w := run_call_mark0 Tryz.func119 (by kernel_rfl) (by kernel_rfl) (by kernel_rfl) .enable (by kernel_rfl) w
theorem acquire (a : Addr) (w : World) : (callFunc 120 #[.pointer (some a)]).run Tryz.prog w = .ok (.value (.tuple #[])) w := run_call_marked Tryz.func120 (by kernel_rfl) (by kernel_rfl) (by kernel_rfl) .acquire (by kernel_rfl) a w
theorem releaseMerge (a : Addr) (w : World) : (callFunc 122 #[.pointer (some a)]).run Tryz.prog w = .ok (.value (.tuple #[])) w := run_call_marked Tryz.func122 (by kernel_rfl) (by kernel_rfl) (by kernel_rfl) .releaseMerge (by kernel_rfl) a w

theorem bstore_deferred (a : Addr) (x : Value) (u : FrameMode) (w : World) (hc : w.cell? a = some x) (hz : w.frozen? a = false) :
    CallsD Tryz.prog 52 #[.pointer (some a), .bool true] u w fun e u' w' => u' = u ∧ (e = .returned (.tuple #[]) ∧ w' = w.drew.setCell a (.int .u32 1)) := by
  have hc' : w.drew.cell? a = some x := by go_simp
  have hz' : w.drew.frozen? a = false := by go_simp
  have hst := run_call_store (P := Tryz.prog) Tryz.func85 (by kernel_rfl) (by kernel_rfl) (by kernel_rfl) (by kernel_rfl) (k := .u32) (y := 1) hc' hz'
  go_enter_d Tryz.func52, Tryz.ntmps52
  go_wp2
  go_region_calls
  all_goals (go_end0; exact ⟨rfl, rfl⟩)
theorem bstore_any (a : Addr) (x : Value) (w : World) (hc : w.cell? a = some x) (hz : w.frozen? a = false) :
    Calls Tryz.prog 52 #[.pointer (some a), .bool true] w fun e w' => e = .returned (.tuple #[]) ∧ w' = w.drew.setCell a (.int .u32 1) := by
  have hc' : w.drew.cell? a = some x := by go_simp
  have hz' : w.drew.frozen? a = false := by go_simp
  have hst := run_call_store (P := Tryz.prog) Tryz.func85 (by kernel_rfl) (by kernel_rfl) (by kernel_rfl) (by kernel_rfl) (k := .u32) (y := 1) hc' hz'
  go_enter Tryz.func52, Tryz.ntmps52
  go_wp2
  go_region_calls
  all_goals (go_end0; exact ⟨rfl, rfl⟩)

set_option maxHeartbeats 800000 in
set_option maxRecDepth 100000 in
theorem unlock_deferred (a : Addr) (u : FrameMode) (w : World) (hc : w.cell? a = some (.int .i32 1)) (hz : w.frozen? a = false) :
    CallsD Tryz.prog 105 #[.pointer (some a)] u w fun e u' w' => u' = u ∧ (e = .returned (.tuple #[]) ∧ w' = w.setCell a (.int .i32 0)) := by
  have hd := disable
  have he := enable
  have hr := releaseMerge
  have hadd := run_call_add (P := Tryz.prog) Tryz.func123 (by kernel_rfl) (by kernel_rfl) (by kernel_rfl) .i32 (by kernel_rfl) (y := -1) (s := 0) hc hz (by simp [go_sem]; rfl)
  have hcv := run_convert_to_unsafe (P := Tryz.prog) (src := 158) (dst := 162) Tryz.underlying158 Tryz.underlying162 (by kernel_rfl) hc
  go_enter_d Tryz.func105, Tryz.ntmps105
  go_wp2
  go_end0
  go_wp2
  go_end0
  exact ⟨rfl, rfl⟩

set_option maxHeartbeats 800000 in
set_option maxRecDepth 100000 in
theorem lock_free (a : Addr) (w : World) (hc : w.cell? a = some (.int .i32 0)) (hz : w.frozen? a = false) :
    Calls Tryz.prog 104 #[.pointer (some a)] w fun e w' => e = .returned (.tuple #[]) ∧ w' = w.setCell a (.int .i32 1) := by
  have hd := disable
  have he := enable
  have ha := acquire
  have hcas := run_call_cas_hit (P := Tryz.prog) Tryz.func118 (by kernel_rfl) (by kernel_rfl) (by kernel_rfl) .i32 (by kernel_rfl) (y := 1) hc hz
  have hc' : (w.setCell a (.int .i32 1)).cell? a = some (.int .i32 1) := World.cell?_setCell_same w a _ hc
  have hcv := run_convert_to_unsafe (P := Tryz.prog) (src := 158) (dst := 162) Tryz.underlying158 Tryz.underlying162 (by kernel_rfl) hc'
  go_enter Tryz.func104, Tryz.ntmps104
  go_wp2
  first | go_end0 | (simp only [Exit.inBlock, Exit.then]; refine bodyPost_ret (results_none rfl _ _ _) rfl ?_) | refine bodyPost_ret (results_none rfl _ _ _) rfl ?_
  go_wp2
  go_end0
  exact ⟨rfl, rfl⟩

theorem bload_any (a : Addr) (x : Int) (w : World) (hc : w.cell? a = some (.int .u32 x)) :
    Calls Tryz.prog 82 #[.pointer (some a)] w fun e w' => e = .returned (.bool (x != 0)) ∧ w = w' := by
  have hl := run_call_load (P := Tryz.prog) Tryz.func103 (by kernel_rfl) (by kernel_rfl) (by kernel_rfl) .u32 (by kernel_rfl) hc
  go_enter Tryz.func82, Tryz.ntmps82
  go_wp2
  go_ret
  exact ⟨rfl, rfl⟩

/-- a key while it is locked, or not -/
abbrev KC (s dn mu pub md us : Int) : Array Value := #[.int .i64 s, .int .u32 dn, .int .i32 mu, .int .u32 0, .int .i64 pub, .int .u32 md, .int .i64 us]
theorem Blk.kc {w : World} {g : Nat} {t : TypeId} {s dn mu pub md us : Int} (h : Blk w g (KC s dn mu pub md us) t) :
    w.cell? ⟨g, 0, none⟩ = some (.int .i64 s) ∧ w.cell? ⟨g, 1, none⟩ = some (.int .u32 dn) ∧ w.cell? ⟨g, 2, none⟩ = some (.int .i32 mu) ∧ w.cell? ⟨g, 4, none⟩ = some (.int .i64 pub) ∧ w.cell? ⟨g, 5, none⟩ = some (.int .u32 md) ∧ w.cell? ⟨g, 6, none⟩ = some (.int .i64 us) :=
  ⟨h.cell 0, h.cell 1, h.cell 2, h.cell 4, h.cell 5, h.cell 6⟩

set_option maxRecDepth 100000 in
theorem public1_any (p g : Nat) (t : TypeId) (s dn mu pub md us : Int) (hs : 0 ≤ s ∧ s < 1073741789) (w : World) (hp : w.cell? ⟨p, 0, none⟩ = some (.pointer (some ⟨g, 0, none⟩))) (hne : p ≠ g) (hk : Blk w g (KC s dn mu pub md us) t) :
    Calls Tryz.prog 50 #[.pointer (some ⟨p, 0, none⟩)] w fun e w' => e = .returned (.tuple #[]) ∧ Blk w' g (KC s dn mu (powI 4 s) 1 us) t ∧ w.grownBy w' (some g) := by
  obtain ⟨c0, c1, c2, c4, c5, c6⟩ := hk.kc
  have hk1 : Blk (w.drew.setCell ⟨g, 4, none⟩ (.int .i64 (powI 4 s))) g (KC s dn mu (powI 4 s) md us) t := (hk.drew.set 4 _).copy rfl
  have hg1 : w.grownBy (w.drew.setCell ⟨g, 4, none⟩ (.int .i64 (powI 4 s))) (some g) := grown_setCell (grown_drew (grown_refl w _)) 4 _
  have hp1 : (w.drew.setCell ⟨g, 4, none⟩ (.int .i64 (powI 4 s))).cell? ⟨p, 0, none⟩ = some (.pointer (some ⟨g, 0, none⟩)) := (World.cell?_setCell_other _ ⟨g, 4, none⟩ ⟨p, 0, none⟩ _ (fun h => hne (congrArg Addr.block h).symm)).trans hp
  have f4 := hk.frozen 4
  have HK := Lib.hid hk1; have HG := Lib.hid hg1
  clear hk hk1 hg1
  go_enter Tryz.func50, Tryz.ntmps50
  go_wp2_with fail
  refine region_tail 8 (by kernel_rfl) (by kernel_rfl) ?_
  still_step
  still_step
  still_step
  still_step
  still_step
  still_call (pow_any 4 s _).mono (fun e w' h => ⟨h.1, h.2.symm⟩)
  still_step
  still_step
  refine wpStill_nil ?_
  go_wp2_with (go_at_call 52; refine (bstore_any ⟨g, 5, none⟩ (.int .u32 md) _ (HK.out.cell 5) (HK.out.frozen 5)).mono ?_; rintro e w' ⟨rfl, rfl⟩)
  go_end0
  exact ⟨rfl, (HK.out.drew.set 5 _).copy rfl, grown_setCell (grown_drew HG.out) 5 _⟩

set_option maxRecDepth 100000 in
set_option maxHeartbeats 1600000 in
theorem slow_any (p g : Nat) (t : TypeId) (s us : Int) (hs : 0 ≤ s ∧ s < 1073741789) (w : World) (hp : w.cell? ⟨p, 0, none⟩ = some (.pointer (some ⟨g, 0, none⟩))) (hne : p ≠ g) (hk : Blk w g (KC s 0 0 0 0 us) t) :
    Calls Tryz.prog 83 #[.pointer (some ⟨g, 1, none⟩), .func (.func 50) #[] #[.pointer (some ⟨p, 0, none⟩)]] w fun e w' => e = .returned (.tuple #[]) ∧ Blk w' g (KC s 1 0 (powI 4 s) 1 us) t ∧ w.grownBy w' (some g) := by
  have hk1 : Blk (w.setCell ⟨g, 2, none⟩ (.int .i32 1)) g (KC s 0 1 0 0 us) t := (hk.set 2 _).copy rfl
  have hg1 : w.grownBy (w.setCell ⟨g, 2, none⟩ (.int .i32 1)) (some g) := grown_setCell (grown_refl w _) 2 _
  have hp1 : (w.setCell ⟨g, 2, none⟩ (.int .i32 1)).cell? ⟨p, 0, none⟩ = some (.pointer (some ⟨g, 0, none⟩)) := (World.cell?_setCell_other _ ⟨g, 2, none⟩ ⟨p, 0, none⟩ _ (fun h => hne (congrArg Addr.block h).symm)).trans hp
  have hnot : ∀ (x : Bool) (w : World), (Op.unary .not (.bool x)).run Tryz.prog w = .ok (.bool (!x)) w := fun _ _ => rfl
  have HK := Lib.hid hk; have HK1 := Lib.hid hk1; have HG1 := Lib.hid hg1; have HP1 := Lib.hid hp1; have HS := Lib.hid hs
  clear hk hk1 hg1 hp1 hp hs
  go_enter_defers Tryz.func83, Tryz.ntmps83
  go_wp2_with (first
    | (go_at_call 104; refine (lock_free ⟨g, 2, none⟩ _ (HK.out.cell 2) (HK.out.frozen 2)).mono ?_; rintro e w' ⟨rfl, rfl⟩)
    | (go_at_call 82; refine (bload_any ⟨g, 1, none⟩ 0 _ (HK1.out.cell 1)).mono ?_; rintro e w' ⟨rfl, rfl⟩)
    | (go_at_call 50; refine (public1_any p g t s 0 1 0 0 us HS.out _ HP1.out hne HK1.out).mono ?_; rintro e w2 ⟨rfl, hk2, hg2⟩))
  refine leaves_cons (f := 52) (args := #[.pointer (some ⟨g, 1, none⟩), .bool true]) (by simp) (by simp [go_sem]) ?_
  refine (bstore_deferred ⟨g, 1, none⟩ (.int .u32 0) .returning _ (hk2.cell 1) (hk2.frozen 1)).mono ?_
  rintro e u' w3 ⟨rfl, rfl, hw3⟩
  have hk3 : Blk w3 g (KC s 1 1 (powI 4 s) 1 us) t := by rw [hw3]; exact (hk2.drew.set 1 _).copy rfl
  have hg3 : w.grownBy w3 (some g) := by rw [hw3]; exact grown_setCell (grown_drew (grown_trans HG1.out hg2)) 1 _
  clear hw3 hk2 hg2
  refine leaves_cons (f := 105) (args := #[.pointer (some ⟨g, 2, none⟩)]) (by simp [settle]) (by simp [go_sem]) ?_
  refine (unlock_deferred ⟨g, 2, none⟩ _ _ (hk3.cell 2) (hk3.frozen 2)).mono ?_
  rintro e u' w4 ⟨rfl, rfl, hw4⟩
  have hk4 : Blk w4 g (KC s 1 0 (powI 4 s) 1 us) t := by rw [hw4]; exact (hk3.set 2 _).copy rfl
  have hg4 : w.grownBy w4 (some g) := by rw [hw4]; exact grown_setCell hg3 2 _
  clear hw4 hk3 hg3
  simp [Leaves, settle, results, Tryz.results83]
  exact ⟨hk4, hg4⟩

/-- '(*sync.Once).Do', not yet done, the lock free -/
theorem do_first (p g : Nat) (t : TypeId) (s us : Int) (hs : 0 ≤ s ∧ s < 1073741789) (w : World) (hp : w.cell? ⟨p, 0, none⟩ = some (.pointer (some ⟨g, 0, none⟩))) (hne : p ≠ g) (hk : Blk w g (KC s 0 0 0 0 us) t) :
    Calls Tryz.prog 49 #[.pointer (some ⟨g, 1, none⟩), .func (.func 50) #[] #[.pointer (some ⟨p, 0, none⟩)]] w fun e w' => e = .returned (.tuple #[]) ∧ Blk w' g (KC s 1 0 (powI 4 s) 1 us) t ∧ w.grownBy w' (some g) := by
  have hnot : ∀ (x : Bool) (w : World), (Op.unary .not (.bool x)).run Tryz.prog w = .ok (.bool (!x)) w := fun _ _ => rfl
  have HK := Lib.hid hk; have HP := Lib.hid hp; have HS := Lib.hid hs
  clear hk hp hs
  go_enter Tryz.func49, Tryz.ntmps49
  go_wp2_with (first
    | (go_at_call 82; refine (bload_any ⟨g, 1, none⟩ 0 _ (HK.out.cell 1)).mono ?_; rintro e w' ⟨rfl, rfl⟩)
    | (go_at_call 83; refine (slow_any p g t s us HS.out _ HP.out hne HK.out).mono ?_; rintro e w2 ⟨rfl, hk2, hg2⟩))
  go_end0
  exact ⟨rfl, hk2, hg2⟩

/-- '(*sync.Once).Do', done already: the function is not called -/
theorem do_done (g : Nat) (t : TypeId) (fv : Value) (s mu pub md us : Int) (w : World) (hk : Blk w g (KC s 1 mu pub md us) t) :
    Calls Tryz.prog 49 #[.pointer (some ⟨g, 1, none⟩), fv] w fun e w' => e = .returned (.tuple #[]) ∧ w = w' := by
  have hnot : ∀ (x : Bool) (w : World), (Op.unary .not (.bool x)).run Tryz.prog w = .ok (.bool (!x)) w := fun _ _ => rfl
  have HK := Lib.hid hk
  clear hk
  go_enter Tryz.func49, Tryz.ntmps49
  go_wp2_with (go_at_call 82; refine (bload_any ⟨g, 1, none⟩ 1 _ (HK.out.cell 1)).mono ?_; rintro e w' ⟨rfl, rfl⟩)
  go_end0
  exact ⟨rfl, rfl⟩

/-- the public number, the first time -/
theorem public_first (g : Nat) (s us : Int) (hs : 0 ≤ s ∧ s < 1073741789) (w : World) (hk : Blk w g (CK s 0 0 0 us) 88) :
    Calls Tryz.prog 23 #[.pointer (some ⟨g, 0, none⟩)] w fun e w' => e = .returned (.int .i64 (powI 4 s)) ∧ Blk w' g (CK s 1 (powI 4 s) 1 us) 88 ∧ w.grownBy w' (some g) := by
  have hmf : ∀ (fn : Fn) (first cap : Array Value) (w : World), (Instr.makeFunc fn first cap).run Tryz.prog w = .ok (.func fn first cap) w := fun _ _ _ _ => rfl
  have hlt := hk.lt
  have hp0 : Blk (w.alloc (.cells #[.pointer (some ⟨g, 0, none⟩)] 43)) w.heap.size #[.pointer (some ⟨g, 0, none⟩)] 43 := Blk.new w _ _
  have hk0 := hk.alloc (.cells #[.pointer (some ⟨g, 0, none⟩)] 43)
  have hg0 : w.grownBy (w.alloc (.cells #[.pointer (some ⟨g, 0, none⟩)] 43)) (some g) := grown_below (grown_refl w _) ((Below.refl _ w).next (Nat.le_refl _) _)
  have HK := Lib.hid hk0; have HP := Lib.hid hp0; have HG := Lib.hid hg0; have HS := Lib.hid hs
  clear hk hk0 hp0 hg0 hs
  go_enter Tryz.func23, Tryz.ntmps23
  go_wp2_with (go_at_call 49; refine (do_first w.heap.size g _ s us HS.out _ (HP.out.cell 0) (by omega) HK.out).mono ?_; rintro e w2 ⟨rfl, hk2, hg2⟩; have hp2 := HP.out.grown hg2 (by omega); have c0 := hp2.cell 0; have c4 := hk2.cell 4; clear hp2)
  go_ret
  exact ⟨rfl, hk2, grown_trans HG.out hg2⟩

/-- the public number, again -/
theorem public_again (g : Nat) (s pub md us : Int) (w : World) (hk : Blk w g (CK s 1 pub md us) 88) :
    Calls Tryz.prog 23 #[.pointer (some ⟨g, 0, none⟩)] w fun e w' => e = .returned (.int .i64 pub) ∧ Below w.heap.size w w' := by
  have hmf : ∀ (fn : Fn) (first cap : Array Value) (w : World), (Instr.makeFunc fn first cap).run Tryz.prog w = .ok (.func fn first cap) w := fun _ _ _ _ => rfl
  have hp0 : Blk (w.alloc (.cells #[.pointer (some ⟨g, 0, none⟩)] 43)) w.heap.size #[.pointer (some ⟨g, 0, none⟩)] 43 := Blk.new w _ _
  have hk0 := hk.alloc (.cells #[.pointer (some ⟨g, 0, none⟩)] 43)
  have c0 := hp0.cell 0
  have c4 := hk0.cell 4
  have HK := Lib.hid hk0
  clear hk hk0 hp0
  go_enter Tryz.func23, Tryz.ntmps23
  go_wp2_with (go_at_call 49; refine (do_done g _ _ s 0 pub md us _ HK.out).mono ?_; rintro e w2 ⟨rfl, rfl⟩)
  go_ret
  exact ⟨rfl, (Below.refl _ w).next (Nat.le_refl _) _⟩
end Go.Proofs.YtpemaphgmfaioaaGreat

/-
  Keys: what two keys share, the program's and the document's; the document's keys.
-/
namespace Go.Proofs.YtpemaphgmfaioaaGreat
set_option maxRecDepth 100000
open Go.RowKit Pm
set_option linter.unusedVariables false
set_option linter.unusedSimpArgs false

theorem results_row_tmp {P : Program} {fn : Func} {p u : Tmp} {ty : TypeId} (h : fn.results = #[.cell p ty, .tmp u]) (tmps : Array Value) (w : World) (g : Nat) (t : TypeId) (cs : Array Value) (fr : Nat × Nat) (d : TypeDesc) (v2 : Value) (hv2 : tmps.getD u undef = v2)
    (hp : tmps.getD p undef = .pointer (some ⟨g, 0, none⟩)) (hg : w.heap[g]? = some (.cells cs t fr))
    (hu : P.underlying ty = some d) (hd : (match d with | .struct _ | .array _ _ => true | _ => false) = true) (hi : (P.info? ty).map (·.size) = some cs.size) :
    (results fn tmps).run P w = .ok (.tuple #[.agg cs, v2]) w := by
  rw [results_cell_tmp h, hp, hv2]
  simp [asAddr, run_loadVar_row w g t ty cs fr d hg hu hd hi, Result.andThen]

/-- what a number and a secret share -/
def shareW (p s : Int) : List UInt8 := deriveW (List.replicate 32 0) (sb ⟨#[115, 104, 97, 114, 101]⟩) (fourB (powI p s))
theorem derive_share (p s : Int) (g : Nat) (w : World) (t q : TypeId) (hF : Blk w g (HC (fourB (powI p s))) t) :
    Calls Tryz.prog 30 #[.agg zeros32, .string ⟨#[115, 104, 97, 114, 101]⟩, .slice (some ⟨w.heap.size, 0, none⟩) 1 1] (w.alloc (.cells #[.slice (some ⟨g, 0, none⟩) 4 4] q)) fun e w' => e = .returned (HV (shareW p s)) ∧ Below (w.alloc (.cells #[.slice (some ⟨g, 0, none⟩) 4 4] q)).heap.size (w.alloc (.cells #[.slice (some ⟨g, 0, none⟩) 4 4] q)) w' := by
  have e1 : [fourB (powI p s)].flatten = fourB (powI p s) := by simp
  have hr : Row8 w (some ⟨g, 0, none⟩) 4 (fourB (powI p s)) := Row8.ofBlk hF (by simp [maxLen, fourB]) 4 rfl
  have hR : RowR (w.alloc (.cells #[.slice (some ⟨g, 0, none⟩) 4 4] q)) (some ⟨w.heap.size, 0, none⟩) 1 [fourB (powI p s)] := RowR.one hr
  have h := derive_zero ⟨#[115, 104, 97, 114, 101]⟩ (by decide) _ 1 1 [fourB (powI p s)] _ hR
  rw [e1] at h
  exact h
theorem shareW_length (p s : Int) : (shareW p s).length = 32 := sumW_length _

/-- the document's keys -/
theorem rfrom_any (h : List UInt8) (hh : h.length = 32) (w : World) :
    Calls Tryz.prog 12 #[HV h] w fun e w' => e = .returned (.agg #[.int .i64 (U (numN h 8) % 1073741788 + 1), .int .i64 (powI 4 (U (numN h 8) % 1073741788 + 1))]) ∧ Below w.heap.size w w' := by
  obtain ⟨x, hx⟩ : ∃ x, U (numN h 8) % 1073741788 + 1 = x := ⟨_, rfl⟩
  have hB := Blk.new w (HC h) 30
  have hsz : (Tryz.prog.info? 30).map (·.size) = some (HC h).size := by rw [HC_size, hh]; kernel_rfl
  have HB := Lib.hid hB; have S1 := Lib.hid hsz; have HH := Lib.hid hh; have HX := Lib.hid hx
  rw [hx]
  clear hB hsz hh hx
  unfold HV
  go_enter Tryz.func12, Tryz.ntmps12
  go_wp2_with (first
    | (refine wpList_load_row rfl 30 _ rfl w.heap.size rfl 30 (HC h) (0, 0) _ (HB.out.alloc _) Tryz.underlying30 rfl S1.out ?_)
    | (go_at_call 28; refine (rscalar_any h HH.out _).mono ?_; rintro e w1 ⟨rfl, hb1⟩; rw [HX.out]
       have hK1 : Blk w1 (w.heap.size + 1) #[.int .i64 0, .int .i64 0] 48 := (Blk.newAt _ _ (by simp)).keep hb1
       have c0 : w1.cell? ⟨w.heap.size + 1, 0, none⟩ = some (.int .i64 0) := hK1.cell 0
       have c1 : w1.cell? ⟨w.heap.size + 1, 1, none⟩ = some (.int .i64 0) := hK1.cell 1
       have f0 := hK1.frozen 0
       have f1 := hK1.frozen 1
       have HB1 := Lib.hid ((((Below.refl _ w).next (Nat.le_refl _) _).next (Nat.le_refl _) _).later hb1 (Nat.le_refl _))
       have HK1 := Lib.hid hK1
       clear hK1 hb1)
    | (go_at_call 29; refine (rpow_any 4 x _).mono ?_; rintro e w' ⟨rfl, rfl⟩))
  have hK2 : Blk ((w1.setCell ⟨w.heap.size + 1, 0, none⟩ (.int .i64 x)).setCell ⟨w.heap.size + 1, 1, none⟩ (.int .i64 (powI 4 x))) (w.heap.size + 1) #[.int .i64 x, .int .i64 (powI 4 x)] 48 := ((HK1.out.set 0 _).set 1 _).copy rfl
  have hg2 : w1.grownBy ((w1.setCell ⟨w.heap.size + 1, 0, none⟩ (.int .i64 x)).setCell ⟨w.heap.size + 1, 1, none⟩ (.int .i64 (powI 4 x))) (some (w.heap.size + 1)) := grown_setCell (grown_setCell (grown_refl _ _) 0 _) 1 _
  have hs1 := HB1.out.size
  exact bodyPost_ret (v := .agg #[.int .i64 x, .int .i64 (powI 4 x)]) (results_cell_row rfl _ _ (w.heap.size + 1) _ #[.int .i64 x, .int .i64 (powI 4 x)] (0, 0) _ rfl hK2 Tryz.underlying48 rfl (by kernel_rfl)) rfl
    ⟨rfl, below_grown HB1.out hg2 (by omega) hs1⟩

theorem rderive_share (p s : Int) (g : Nat) (w : World) (t : TypeId) (hF : Blk w g (HC (fourB (powI p s))) t) :
    Calls Tryz.prog 34 #[.agg zeros32, .string ⟨#[115, 104, 97, 114, 101]⟩, .slice (some ⟨g, 0, none⟩) 4 4] w fun e w' => e = .returned (HV (shareW p s)) ∧ Below w.heap.size w w' :=
  rderive_any (List.replicate 32 0) rfl ⟨#[115, 104, 97, 114, 101]⟩ _ 4 4 (fourB (powI p s)) w (Row8.ofBlk hF (by simp [maxLen, fourB]) 4 rfl) (fun h => by cases h) (by simp [fourB]; decide)

end Go.Proofs.YtpemaphgmfaioaaGreat

/-
  The laws over package pair: keys' numbers, what the laws take for known.
-/
namespace Go.Proofs.YtpemaphgmfaioaaGreat
set_option maxRecDepth 100000
open Go.RowKit Pm
set_option linter.unusedVariables false
set_option linter.unusedSimpArgs false
attribute [local go_sem] eqh_guard

/-- a sum's secret number -/
def keyS (h : List UInt8) : Int := U (numN h 8) % 1073741788 + 1
theorem keyS_bd (h : List UInt8) : 1 ≤ keyS h ∧ keyS h < 1073741789 := by
  have hbd := U_bd (numN h 8)
  unfold keyS
  omega
theorem from_k (h : List UInt8) (hh : h.length = 32) (w : World) :
    Calls Tryz.prog 10 #[HV h] w fun e w' => ∃ g, e = .returned (.pointer (some ⟨g, 0, none⟩)) ∧ w.heap.size ≤ g ∧ Blk w' g (CK (keyS h) 0 0 0 0) 88 ∧ Below w.heap.size w w' := from_any h hh w
theorem rfrom_k (h : List UInt8) (hh : h.length = 32) (w : World) :
    Calls Tryz.prog 12 #[HV h] w fun e w' => e = .returned (.agg #[.int .i64 (keyS h), .int .i64 (powI 4 (keyS h))]) ∧ Below w.heap.size w w' := rfrom_any h hh w

/-- one, and thirty-one noughts -/
def one32 : Array Value := #[.int .u8 1, .int .u8 0, .int .u8 0, .int .u8 0, .int .u8 0, .int .u8 0, .int .u8 0, .int .u8 0, .int .u8 0, .int .u8 0, .int .u8 0, .int .u8 0, .int .u8 0, .int .u8 0, .int .u8 0, .int .u8 0, .int .u8 0,
  .int .u8 0, .int .u8 0, .int .u8 0, .int .u8 0, .int .u8 0, .int .u8 0, .int .u8 0, .int .u8 0, .int .u8 0, .int .u8 0, .int .u8 0, .int .u8 0, .int .u8 0, .int .u8 0, .int .u8 0]
def ones : List UInt8 := 1 :: List.replicate 31 0
theorem one32_HC : one32 = HC ones := by rfl
theorem from_one (w : World) :
    Calls Tryz.prog 10 #[.agg one32] w fun e w' => ∃ g, e = .returned (.pointer (some ⟨g, 0, none⟩)) ∧ w.heap.size ≤ g ∧ Blk w' g (CK (keyS ones) 0 0 0 0) 88 ∧ Below w.heap.size w w' := by
  rw [one32_HC]; exact from_k ones rfl w
theorem rfrom_one (w : World) :
    Calls Tryz.prog 12 #[.agg one32] w fun e w' => e = .returned (.agg #[.int .i64 (keyS ones), .int .i64 (powI 4 (keyS ones))]) ∧ Below w.heap.size w w' := by
  rw [one32_HC]; exact rfrom_k ones rfl w

theorem key_y (a b : Int) (w : World) : (Instr.field 48 (.agg #[.int .i64 a, .int .i64 b]) 1).run Tryz.prog w = .ok (.int .i64 b) w := by
  simp [Instr.field, asAgg, go_sem, Tryz.underlying48, Tryz.underlying3]
theorem key_x (a b : Int) (w : World) : (Instr.field 48 (.agg #[.int .i64 a, .int .i64 b]) 0).run Tryz.prog w = .ok (.int .i64 a) w := by
  simp [Instr.field, asAgg, go_sem, Tryz.underlying48, Tryz.underlying3]
attribute [local go_sem] key_y key_x

end Go.Proofs.YtpemaphgmfaioaaGreat

/-
  Keys in whichever state: what each method does to it, in one contract each.
-/
namespace Go.Proofs.YtpemaphgmfaioaaGreat
set_option maxRecDepth 100000
open Go.RowKit Pm
set_option linter.unusedVariables false
set_option linter.unusedSimpArgs false

/-- a key: its secret number, whether its public number was worked out, its uses -/
def CD (s : Int) (d : Bool) (us : Int) : Array Value := CK s (if d then 1 else 0) (if d then powI 4 s else 0) (if d then 1 else 0) us
/-- what is shared, or noughts -/
def shW (p s : Int) : List UInt8 := if isI p then shareW p s else List.replicate 32 0
theorem shW_length (p s : Int) : (shW p s).length = 32 := by
  unfold shW
  split
  · exact shareW_length _ _
  · rfl
def cnt (b : Bool) : Int := if b then 1 else 0
theorem cnt_bd (b : Bool) : 0 ≤ cnt b ∧ cnt b ≤ 1 := by cases b <;> simp [cnt]

theorem public_st (g : Nat) (s us : Int) (d : Bool) (hs : 0 ≤ s ∧ s < 1073741789) (w : World) (hk : Blk w g (CD s d us) 88) :
    Calls Tryz.prog 23 #[.pointer (some ⟨g, 0, none⟩)] w fun e w' => e = .returned (.int .i64 (powI 4 s)) ∧ Blk w' g (CD s true us) 88 ∧ w.grownBy w' (some g) := by
  cases d with
  | false => exact public_first g s us hs w hk
  | true =>
    refine (public_again g s (powI 4 s) 1 us w hk).mono ?_
    rintro e w' ⟨rfl, hb⟩
    exact ⟨rfl, Blk.keep hk hb, grown_below (grown_refl w _) hb⟩
theorem public_done (g : Nat) (s us : Int) (w : World) (hk : Blk w g (CD s true us) 88) :
    Calls Tryz.prog 23 #[.pointer (some ⟨g, 0, none⟩)] w fun e w' => e = .returned (.int .i64 (powI 4 s)) ∧ Below w.heap.size w w' := public_again g s (powI 4 s) 1 us w hk
end Go.Proofs.YtpemaphgmfaioaaGreat

/-
  Signatures as numbers. No program is named here.
-/
namespace Go.Proofs.YtpemaphgmfaioaaGreat
set_option maxRecDepth 100000
open Go.RowKit Pm
set_option linter.unusedVariables false

/-- what a signature has to answer -/
def askW (b y : Int) (p : List UInt8) : Int := U (numN (deriveW (List.replicate 32 0) (sb ⟨#[115, 105, 103, 110]⟩) [fourB b, fourB y, p].flatten) 8) % 1073741789
/-- the number that nobody may know -/
def nonceW (x : Int) (p : List UInt8) : Int := U (numN (deriveW (List.replicate 32 0) (sb ⟨#[110, 111, 110, 99, 101]⟩) [fourB x, p].flatten) 8) % 1073741788 + 1
def sigE (s : Int) (p : List UInt8) : Int := askW (powI 4 (nonceW s p)) (powI 4 s) p
def sigS (s : Int) (p : List UInt8) : Int := (nonceW s p + sigE s p * s) % 1073741789
/-- whether a signature holds -/
def verW (y : Int) (p : List UInt8) (e s : Int) : Bool := isI y && decide (0 ≤ e ∧ e < 1073741789) && decide (0 ≤ s ∧ s < 1073741789) && (e == askW (mulI (powI 4 s) (powI y (1073741789 - e))) y p)

theorem askW_bd (b y : Int) (p : List UInt8) : 0 ≤ askW b y p ∧ askW b y p < 1073741789 := by
  unfold askW
  omega
theorem nonceW_bd (x : Int) (p : List UInt8) : 1 ≤ nonceW x p ∧ nonceW x p < 1073741789 := by
  unfold nonceW
  omega
theorem sigE_bd (s : Int) (p : List UInt8) : 0 ≤ sigE s p ∧ sigE s p < 1073741789 := askW_bd _ _ _
theorem sigS_bd (s : Int) (p : List UInt8) : 0 ≤ sigS s p ∧ sigS s p < 1073741789 := by
  unfold sigS
  omega

theorem pw_round (m k : Nat) : pw 4 (m + 1073741789 * k) = pw 4 m := by
  rw [← pw_add, ← pw_pw, four_Q, pw_one_base, Nat.mul_one, Nat.mod_eq_of_lt (pw_lt _ _)]
theorem pw_mod (m : Nat) : pw 4 (m % 1073741789) = pw 4 m := by
  have h := pw_round (m % 1073741789) (m / 1073741789)
  rw [Nat.mod_add_div] at h
  exact h.symm
/-- the point that a signature began with -/
theorem begun (x r e : Int) (hx : 0 ≤ x ∧ x < 1073741789) (hr : 0 ≤ r ∧ r < 1073741789) (he : 0 ≤ e ∧ e < 1073741789) :
    mulI (powI 4 ((r + e * x) % 1073741789)) (powI (powI 4 x) (1073741789 - e)) = powI 4 r := by
  obtain ⟨x, rfl⟩ := Int.eq_ofNat_of_zero_le hx.1
  obtain ⟨r, rfl⟩ := Int.eq_ofNat_of_zero_le hr.1
  obtain ⟨e, rfl⟩ := Int.eq_ofNat_of_zero_le he.1
  have e1 : ((r : Int) + e * x) % 1073741789 = (((r + e * x) % 1073741789 : Nat) : Int) := by
    have hm : ((e * x : Nat) : Int) = (e : Int) * x := Int.natCast_mul e x
    rw [← hm]
    generalize e * x = m
    omega
  have e2 : (1073741789 - (e : Int)) = ((1073741789 - e : Nat) : Int) := by omega
  have h1 : powI 4 (((r + e * x) % 1073741789 : Nat) : Int) = (pw 4 ((r + e * x) % 1073741789) : Int) := powI_nat 4 _ (by decide) (by omega)
  have h2 : powI 4 (x : Int) = (pw 4 x : Int) := powI_nat 4 x (by decide) (by omega)
  have h3 : powI 4 (r : Int) = (pw 4 r : Int) := powI_nat 4 r (by decide) (by omega)
  rw [e1, e2, h1, h2, h3, powI_nat (pw 4 x) (1073741789 - e) (pw_lt _ _) (by omega), pw_pw, pw_mod, mulI_nat _ _ (pw_lt _ _) (pw_lt _ _), pw_add]
  have e3 : r + e * x + x * (1073741789 - e) = r + 1073741789 * x := by
    have h4 : x * (1073741789 - e) + x * e = x * 1073741789 := by rw [← Nat.mul_add, Nat.sub_add_cancel (by omega)]
    have h5 : e * x = x * e := Nat.mul_comm _ _
    have h6 : 1073741789 * x = x * 1073741789 := Nat.mul_comm _ _
    omega
  rw [e3, pw_round]
theorem isI_pubS (s : Int) (hs : 1 ≤ s ∧ s < 1073741789) : isI (powI 4 s) = true := by
  obtain ⟨n, rfl⟩ := Int.eq_ofNat_of_zero_le (show 0 ≤ s by omega)
  rw [show powI 4 (n : Int) = (pw 4 n : Int) from powI_nat 4 n (by decide) (by omega)]
  exact isI_four n (by omega) (by omega)
theorem verW_own (s : Int) (p : List UInt8) (hs : 1 ≤ s ∧ s < 1073741789) : verW (powI 4 s) p (sigE s p) (sigS s p) = true := by
  have hn := nonceW_bd s p
  have hE := sigE_bd s p
  unfold verW
  rw [isI_pubS s hs, decide_eq_true hE, decide_eq_true (sigS_bd s p)]
  have h := begun s (nonceW s p) (sigE s p) ⟨by omega, hs.2⟩ ⟨by omega, hn.2⟩ hE
  have h2 : sigS s p = (nonceW s p + sigE s p * s) % 1073741789 := rfl
  rw [h2, h]
  simp [sigE]
end Go.Proofs.YtpemaphgmfaioaaGreat
