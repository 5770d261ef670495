/-
  The law RowsOne, walked.
-/
import Derived.Test.YtgghkeinkcpboaaRowsTake
import Derived.Test.YtgghkeinkcpboaaPackN
namespace Go.Proofs.Ytgghkeinkcpboaa
set_option maxRecDepth 100000
open Go.RowKit
set_option linter.unusedVariables false
set_option linter.unusedSimpArgs false

set_option maxRecDepth 100000 in
set_option maxHeartbeats 4000000 in
theorem rowsOne_walk {w : World} (a : Option Addr) (l c : Nat) (bs : List UInt8) (hp : Arg8 w a l c bs) :
    Calls Try.prog 8 #[.slice a l c] w fun e w' => e = .returned (.bool true) ∧ Below w.heap.size w w' := by
  have hl := hp.row.len_eq
  by_cases h5 : l > 3000
  · have h5i : (l : Int) > 3000 := by omega
    clear h5
    go_enter Try.func8, Try.ntmps8
    go_wp2
    go_ret
    exact ⟨rfl, Below.refl _ _⟩
  have h5i : ¬ (l : Int) > 3000 := by omega
  have hs : bs.length ≤ 3000 := by omega
  have HP := Lib.hid hp; have HS := Lib.hid hs; have HL := Lib.hid hl
  clear hp hl hs h5
  go_enter Try.func8, Try.ntmps8
  go_wp2_with fail
  refine (unpack_any a l c bs _ HP.out.toC HP.out.le (by have := HS.out; omega)).mono ?_
  rintro e w3 ⟨v3, rfl, hO3, hb3⟩
  have HB3 := Lib.hid hb3
  rcases hu : unpackW bs with _ | L
  · rw [(unpack_none hu).1]
    clear hO3 hb3
    go_wp2_with fail
    refine (runpack_any a l c bs _ (HP.out.toC.below HB3.out) HP.out.le (by have := HS.out; omega)).mono ?_
    rintro e w4 ⟨v4, rfl, hO4, hb4⟩
    rw [(unpack_none hu).1]
    have HB4 := Lib.hid (HB3.out.later hb4 (Nat.le_refl _))
    clear hO4 hb4 hu
    go_wp2_with (go_at_call 14; refine (known_rows _).mono ?_; rintro e w9 ⟨rfl, hb9⟩)
    go_ret
    exact ⟨rfl, HB4.out.later hb9 (Nat.le_refl _)⟩
  · have hLL := unpackL_len bs
    rw [(unpack_some hu).2] at hLL hO3
    rw [(unpack_some hu).1]
    obtain ⟨a3, c3, rfl, hn3, _, _⟩ := hO3.toN hLL
    have HN3 := Lib.hid hn3
    obtain ⟨hokr, hpk⟩ := unpack_back hu
    have HOK := Lib.hid hokr; have HPK := Lib.hid hpk
    clear hO3 hb3 hn3 hokr hpk hu hLL
    go_wp2_with fail
    refine (pack_n _ _ _ L _ HN3.out).mono ?_
    rintro e w4 ⟨hok, hno, hb4⟩
    obtain ⟨v, rfl, hown⟩ := hok HOK.out
    rw [HPK.out] at hown
    obtain ⟨a4, c4, rfl, hr4, hn4⟩ := hown.forms (own_le hown)
    have HB4 := Lib.hid (HB3.out.later hb4 (Nat.le_refl _))
    have kS1 := hr4.str (P := Try.prog) 24 9 5 c4 Try.underlying24 Try.underlying5 Try.underlying9
    have kS2 := (HP.out.row.below HB4.out).str (P := Try.prog) 24 9 5 c Try.underlying24 Try.underlying5 Try.underlying9
    generalize strB bs = str at kS1 kS2
    clear hok hno hb4 hown hr4 hn4
    go_wp2_with (go_at_call 14; refine (known_rows _).mono ?_; rintro e w9 ⟨rfl, hb9⟩)
    go_ret
    exact ⟨rfl, HB4.out.later hb9 (Nat.le_refl _)⟩
end Go.Proofs.Ytgghkeinkcpboaa
