/-
  Keys as the program keeps them: the walks of From, Made, Secret, Uses.
-/
import Derived.Test.YtmijaghaombbpaaPairF
import Derived.Test.YtmijaghaombbpaaPowFirst
import Derived.Test.YtmijaghaombbpaaPower
import Derived.Laws.LoneSync
import Derived.RegionCalls
import Derived.Defers
namespace Go.Proofs.Ytmijaghaombbpaa
set_option maxRecDepth 100000
open Go.RowKit
set_option linter.unusedVariables false
set_option linter.unusedSimpArgs false

/-- a key: its secret number, whether it is done, its public number, whether that was worked out, its uses -/
abbrev CK (s dn pub md us : Int) : Array Value := #[.int .i64 s, .int .u32 dn, .int .i32 0, .int .u32 0, .int .i64 pub, .int .u32 md, .int .i64 us]
theorem Blk.key {w : World} {g : Nat} {t : TypeId} {s dn pub md us : Int} (h : Blk w g (CK s dn pub md us) t) :
    w.cell? ⟨g, 0, none⟩ = some (.int .i64 s) ∧ w.cell? ⟨g, 1, none⟩ = some (.int .u32 dn) ∧ w.cell? ⟨g, 2, none⟩ = some (.int .i32 0) ∧ w.cell? ⟨g, 3, none⟩ = some (.int .u32 0) ∧ w.cell? ⟨g, 4, none⟩ = some (.int .i64 pub) ∧ w.cell? ⟨g, 5, none⟩ = some (.int .u32 md) ∧ w.cell? ⟨g, 6, none⟩ = some (.int .i64 us) :=
  ⟨h.cell 0, h.cell 1, h.cell 2, h.cell 3, h.cell 4, h.cell 5, h.cell 6⟩

theorem from_any (h : List UInt8) (hh : h.length = 32) (w : World) :
    Calls Try.prog 11 #[HV h] w fun e w' => ∃ g, e = .returned (.pointer (some ⟨g, 0, none⟩)) ∧ w.heap.size ≤ g ∧ Blk w' g (CK (U (numN h 8) % 1073741788 + 1) 0 0 0 0) 59 ∧ Below w.heap.size w w' := by
  have hB := Blk.new w (HC h) 23
  have hsz : (Try.prog.info? 23).map (·.size) = some (HC h).size := by rw [HC_size, hh]; kernel_rfl
  have HB := Lib.hid hB; have S1 := Lib.hid hsz; have HH := Lib.hid hh
  clear hB hsz hh
  unfold HV
  go_enter Try.func11, Try.ntmps11
  go_wp2_with (first
    | (refine wpList_load_row rfl 23 _ rfl w.heap.size rfl 23 (HC h) (0, 0) _ HB.out Try.underlying23 rfl S1.out ?_)
    | (go_at_call 20; refine (pscalar_any h HH.out _).mono ?_; rintro e w1 ⟨rfl, hb1⟩))
  have hB1 := ((Below.refl _ w).next (Nat.le_refl _) _).later hb1 (Nat.le_refl _)
  go_ret
  exact ⟨w1.heap.size, rfl, hB1.size, Blk.new _ _ _, hB1.next (Nat.le_refl _) _⟩

theorem secret_any (g : Nat) (s dn pub md us : Int) (w : World) (hk : Blk w g (CK s dn pub md us) 59) :
    Calls Try.prog 22 #[.pointer (some ⟨g, 0, none⟩)] w fun e w' => e = .returned (.int .i64 s) ∧ w = w' := by
  obtain ⟨c0, c1, c2, c3, c4, c5, c6⟩ := hk.key
  clear hk
  go_enter Try.func22, Try.ntmps22
  go_wp2
  go_ret
  exact ⟨rfl, rfl⟩

end Go.Proofs.Ytmijaghaombbpaa
