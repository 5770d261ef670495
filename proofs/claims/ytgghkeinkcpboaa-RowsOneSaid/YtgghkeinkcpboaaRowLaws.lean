/-
  The laws over package rows: what they take for known.
-/
import Derived.Test.YtgghkeinkcpboaaPack
import Derived.Test.YtgghkeinkcpboaaMuts2
namespace Go.Proofs.Ytgghkeinkcpboaa
set_option maxRecDepth 100000
open Go.RowKit
set_option linter.unusedVariables false
set_option linter.unusedSimpArgs false

set_option maxHeartbeats 2000000 in
theorem known_rows (w : World) : Calls Try.prog 14 #[] w fun e w' => e = .returned (.bool true) ∧ Below w.heap.size w w' := by
  have kc := run_convert_mark (P := Try.prog) (w.alloc (.cells #[.int .u8 97] 5)) 24 5 w.heap.size 1 1 #[.int .u8 97] 5 (0, 0) Try.underlying24 Try.underlying5 (Blk.new _ _ _)
  obtain ⟨hbl, frp, hpl⟩ := lit_mark w [97] #[.int .u8 97] rfl 5 1
  go_enter Try.func14, Try.ntmps14
  go_wp2_with fail
  refine calls_gen (fun w1 hw1 => ?_)
  have hargs : ArgR w1 (some ⟨((w.alloc (.cells #[.int .u8 97] 5)).freeze ⟨w.heap.size, 1, none⟩ 1).heap.size, 0, none⟩) 2 2 [[97], []] := by
    rw [hw1]
    exact ArgR.two (Arg8.ofCells (n := 1) hpl rfl (by decide)) (⟨Row8.nil _ _, fun _ => rfl, Nat.le_refl _, Nat.zero_le _⟩ : Arg8 _ none 0 0 [])
  have hb1 : Below w.heap.size w w1 := by rw [hw1]; exact hbl.next (Nat.le_refl _) _
  have HA := Lib.hid hargs; have HB1 := Lib.hid hb1
  clear hw1 hargs hb1 hbl hpl kc
  refine (pack_any _ 2 2 [[97], []] _ HA.out).mono ?_
  rintro e w2 ⟨hok, _, hb2⟩
  obtain ⟨v, rfl, hown⟩ := hok (by decide)
  obtain ⟨a', c', rfl, hr, hn⟩ := hown.forms (by decide)
  have HB2 := Lib.hid (HB1.out.later hb2 (Nat.le_refl _))
  have kS : (convert 24 9 (.slice a' 6 c')).run Try.prog w2 = .ok (.string ⟨#[2, 0, 1, 97, 0, 0]⟩) w2 := hr.str (P := Try.prog) 24 9 5 c' Try.underlying24 Try.underlying5 Try.underlying9
  have hlen : (packW [[97], []]).length = 6 := by decide
  rw [hlen]
  clear hok hown hr hn hb2 hlen
  go_wp2_with (go_at_call 20
               refine (num_any 258 _).mono ?_
               rintro e w3 ⟨Q, rfl, hQ0, hQ, hb3⟩
               have kN : (convert 24 9 (.slice (some ⟨Q, 0, none⟩) 8 8)).run Try.prog w3 = .ok (.string ⟨#[0, 0, 0, 0, 0, 0, 1, 2]⟩) w3 := (Row8.ofBlk hQ (by decide) 8 rfl).str (P := Try.prog) 24 9 5 8 Try.underlying24 Try.underlying5 Try.underlying9
               have HB3 := Lib.hid (HB2.out.later hb3 (Nat.le_refl _))
               clear hQ0 hQ hb3)
  go_ret
  exact ⟨rfl, HB3.out⟩
end Go.Proofs.Ytgghkeinkcpboaa
