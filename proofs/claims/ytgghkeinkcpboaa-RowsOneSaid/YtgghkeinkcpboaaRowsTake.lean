/-
  The law RowsTake, walked.
-/
import Derived.Test.YtgghkeinkcpboaaRowsBack
import Derived.Test.YtgghkeinkcpboaaUnpackR
namespace Go.Proofs.Ytgghkeinkcpboaa
set_option maxRecDepth 100000
open Go.RowKit
set_option linter.unusedVariables false
set_option linter.unusedSimpArgs false

theorem takeR_rows {r r1 : List UInt8} {L : List (List UInt8)} {k : Nat} (h : takeR r k = some (L, r1)) : L.length = k := takeR_len h
theorem unpackL_len (b : List UInt8) : (unpackL b).length ≤ 1000000 := by
  unfold unpackL
  cases b with
  | nil => simp [unpackW]
  | cons x r =>
    simp only [unpackW]
    split
    · rename_i h60
      cases h : takeR r x.toNat with
      | none => simp
      | some q =>
        obtain ⟨L, r1⟩ := q
        have hl := takeR_len h
        have := UInt8.toNat_lt x
        cases r1 <;> simp <;> omega
    · simp
set_option maxRecDepth 100000 in
set_option maxHeartbeats 4000000 in
theorem rowsTake_walk {w : World} (a : Option Addr) (l c : Nat) (bs : List UInt8) (hp : Arg8 w a l c bs) :
    Calls Try.prog 4 #[.slice a l c] w fun e w' => e = .returned (.bool true) ∧ Below w.heap.size w w' := by
  have hl := hp.row.len_eq
  by_cases h5 : l > 5000
  · have h5i : (l : Int) > 5000 := by omega
    clear h5
    go_enter Try.func4, Try.ntmps4
    go_wp2
    go_ret
    exact ⟨rfl, Below.refl _ _⟩
  have h5i : ¬ (l : Int) > 5000 := by omega
  have hs : bs.length ≤ 5000 := by omega
  have HP := Lib.hid hp; have HS := Lib.hid hs; have HL := Lib.hid hl
  clear hp hl hs h5
  go_enter Try.func4, Try.ntmps4
  go_wp2_with (at_builtin
               refine wpList_append8 rfl (.tmp 11) (.tmp 12) 24 rfl w.heap.size 5 Try.underlying24 info8 (.slice (some ⟨w.heap.size, 0, none⟩) 0 0) [] rfl (Own8.litAt [] _ rfl rfl rfl (Nat.le_refl _) (small8 _ (by simp))) _ _ _ bs rfl (HP.out.row.below ((Below.refl _ _).next (Nat.le_refl _) _)) HP.out.nil (by have := HS.out; simp only [List.length_nil]; omega) (by simp) ?_
               intro v2 w2 hown hg hb
               rw [List.nil_append] at hown
               have hb2 := ((Below.refl _ w).next (Nat.le_refl _) (.cells #[] 5)).trans hb
               obtain ⟨a2, c2, rfl, h1, hlc⟩ := hown.toL (by have := HS.out; omega)
               have HO := Lib.hid h1; have HB := Lib.hid hb2; have HLC := Lib.hid hlc
               clear hown hg hb hb2 h1 hlc)
  refine (unpack_any _ _ _ bs _ HO.out HLC.out (by have := HS.out; omega)).mono ?_
  rintro e w3 ⟨v3, rfl, hO3, hb3⟩
  have HB3 := Lib.hid (HB.out.later hb3 (Nat.le_refl _))
  obtain ⟨a3, c3, rfl, hn3, _, _⟩ := hO3.toN (unpackL_len bs)
  have HN3 := Lib.hid hn3
  clear hO3 hb3 hn3
  go_wp2_with fail
  refine (runpack_any a l c bs _ (HP.out.toC.below HB3.out) HP.out.le (by have := HS.out; omega)).mono ?_
  rintro e w4 ⟨v4, rfl, hO4, hb4⟩
  have HB4 := Lib.hid (HB3.out.later hb4 (Nat.le_refl _))
  obtain ⟨a4, c4, rfl, hn4, _, _⟩ := hO4.toN (unpackL_len bs)
  have HN4 := Lib.hid hn4; have HN3b := Lib.hid (HN3.out.below hb4)
  clear hO4 hb4 hn4
  go_wp2_with (first
    | (go_at_call 17; refine (same_any _ _ _ _ _ _ (unpackL bs) (unpackL bs) _ HN3b.out HN4.out).mono ?_; rintro e w8 ⟨rfl, hb8⟩; rw [decide_eq_true rfl])
    | (go_at_call 14; refine (known_rows _).mono ?_; rintro e w9 ⟨rfl, hb9⟩))
  go_ret
  exact ⟨rfl, (HB4.out.later hb8 (Nat.le_refl _)).later hb9 (Nat.le_refl _)⟩
end Go.Proofs.Ytgghkeinkcpboaa
