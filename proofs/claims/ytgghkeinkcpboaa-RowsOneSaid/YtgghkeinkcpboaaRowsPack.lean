/-
  The law RowsPack, walked.
-/
import Derived.Test.YtgghkeinkcpboaaPackR
import Derived.Test.YtgghkeinkcpboaaRowLaws
namespace Go.Proofs.Ytgghkeinkcpboaa
set_option maxRecDepth 100000
open Go.RowKit
set_option linter.unusedVariables false
set_option linter.unusedSimpArgs false

theorem own_le {w : World} {base : Nat} {e : TypeId} {v : Value} {bs : List UInt8} (h : Own8 w base e v bs) : bs.length ≤ maxLen := by
  rcases h.2 with ⟨_, h1⟩ | ⟨g, cap, cur, _, _, _, h3, h4, _, _⟩
  · rw [h1]; exact Nat.zero_le _
  · exact Nat.le_trans h3 h4

set_option maxHeartbeats 2000000 in
theorem rowsPack_walk {w : World} (a : Option Addr) (l c : Nat) (L : List (List UInt8)) (hp : ArgR w a l c L) :
    Calls Try.prog 3 #[.slice a l c] w fun e w' => e = .returned (.bool true) ∧ Below w.heap.size w w' := by
  have HP := Lib.hid hp
  clear hp
  go_enter Try.func3, Try.ntmps3
  go_wp2_with fail
  refine (long_any a l c L _ HP.out).mono ?_
  rintro e w' ⟨z, rfl, rfl⟩
  cases z with
  | true =>
    go_wp2
    go_ret
    exact ⟨rfl, Below.refl _ _⟩
  | false =>
    go_wp2_with fail
    refine (pack_any a l c L _ HP.out).mono ?_
    rintro e w1 ⟨hok, hno, hb1⟩
    have HP1 := Lib.hid (HP.out.below hb1); have HB1 := Lib.hid hb1
    rcases hk : okRows L with _ | _
    · obtain rfl := hno hk
      clear hok hno hb1
      go_wp2_with fail
      refine (rpack_any a l c L _ HP1.out).mono ?_
      rintro e w2 ⟨hok2, hno2, hb2⟩
      obtain rfl := hno2 hk
      have HB2 := Lib.hid (HB1.out.later hb2 (Nat.le_refl _))
      have kS := (Row8.nil w2 none).str (P := Try.prog) 24 9 5 0 Try.underlying24 Try.underlying5 Try.underlying9
      generalize strB [] = str at kS
      clear hok2 hno2 hb2 hk
      go_wp2_with (go_at_call 14; refine (known_rows _).mono ?_; rintro e w9 ⟨rfl, hb9⟩)
      go_ret
      exact ⟨rfl, HB2.out.later hb9 (Nat.le_refl _)⟩
    · obtain ⟨v, rfl, hown⟩ := hok hk
      obtain ⟨a1, c1, rfl, hr1, hn1⟩ := hown.forms (own_le hown)
      have HR1 := Lib.hid hr1
      clear hok hno hb1 hown hr1 hn1
      go_wp2_with fail
      refine (rpack_any a l c L _ HP1.out).mono ?_
      rintro e w2 ⟨hok2, hno2, hb2⟩
      obtain ⟨v2, rfl, hown2⟩ := hok2 hk
      obtain ⟨a2, c2, rfl, hr2, hn2⟩ := hown2.forms (own_le hown2)
      have HB2 := Lib.hid (HB1.out.later hb2 (Nat.le_refl _))
      have kS1 := (HR1.out.below hb2).str (P := Try.prog) 24 9 5 c1 Try.underlying24 Try.underlying5 Try.underlying9
      have kS2 := hr2.str (P := Try.prog) 24 9 5 c2 Try.underlying24 Try.underlying5 Try.underlying9
      generalize strB (packW L) = str at kS1 kS2
      clear hok2 hno2 hb2 hk hown2 hr2 hn2
      go_wp2_with (go_at_call 14; refine (known_rows _).mono ?_; rintro e w9 ⟨rfl, hb9⟩)
      go_ret
      exact ⟨rfl, HB2.out.later hb9 (Nat.le_refl _)⟩
end Go.Proofs.Ytgghkeinkcpboaa
