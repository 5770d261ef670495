/-
  The walks of the document's Derive and Join.
-/
import Derived.Test.YtmijaghaombbpaaSumR
import Derived.Test.YtmijaghaombbpaaDerive
import Derived.Test.YtmijaghaombbpaaOpen
import Derived.Test.YtmijaghaombbpaaExt2
import Derived.Lib.ConvBytes
namespace Go.Proofs.Ytmijaghaombbpaa
set_option maxRecDepth 100000
open Go.RowKit
set_option linter.unusedVariables false

set_option maxRecDepth 100000 in
set_option maxHeartbeats 2000000 in
theorem rderive_any (key : List UInt8) (hh : key.length = 32) (s : ByteArray) (a : Option Addr) (l c : Nat) (bs : List UInt8) (w : World) (hp : Row8 w a l bs) (hnil : a = none → c = 0) (hs : s.size + bs.length ≤ 140737488354000) :
    Calls Try.prog 28 #[HV key, .string s, .slice a l c] w fun e w' => e = .returned (HV (deriveW key (sb s) bs)) ∧ Below w.heap.size w w' := by
  have hsm : s.size ≤ maxLen := by simp only [maxLen]; omega
  have hsl := sb_length s
  obtain ⟨out, hout⟩ : ∃ out, deriveW key (sb s) bs = out := ⟨_, rfl⟩
  have hol : out.length = 32 := by rw [← hout]; exact sumW_length _
  have hsz : (Try.prog.info? 23).map (·.size) = some (HC out).size := by rw [HC_size, hol]; kernel_rfl
  have hsz2 : zeros32.size = (HC out).size := by rw [HC_size, hol]; rfl
  have hwl := wrap_len s.size
  have HP := Lib.hid hp; have HN := Lib.hid hnil; have HO := Lib.hid hout; have S1 := Lib.hid hsz; have S2 := Lib.hid hsz2; have HSM := Lib.hid hsm; have HSL := Lib.hid hsl; have HH := Lib.hid hh; have HS := Lib.hid hs
  clear hp hnil hout hsz hsz2 hsm hsl hh hs hol
  unfold HV
  go_enter Try.func28, Try.ntmps28
  have kc := fun w' => Lib.run_convert_string_bytes (P := Try.prog) w' 9 24 5 s Try.underlying9 Try.underlying24 Try.underlying5
  go_wp2_with (first
    | (at_builtin
       refine wpList_append8 rfl (.tmp 8) (.tmp 9) 24 rfl (w.heap.size + 2) 5 Try.underlying24 info8 (.slice (some ⟨w.heap.size + 2, 0, none⟩) 0 0) [] rfl ?c1 _ _ _ key rfl ?c2 ?c3 ?c4 ?c5 ?_
       case c1 => exact Own8.litAt [] _ rfl (by simp) rfl (by simp) (small8 _ (by simp))
       case c2 => exact Row8.ofBlk (t := 23) (((Blk.new w _ _).alloc _).alloc _) (by rw [HH.out]; decide) 32 HH.out.symm
       case c3 => exact fun e => by cases e
       case c4 => rw [HH.out]; decide
       case c5 => simp
       intro v1 w1 hown1 hg1 hb1
       have hR1 : Blk w1 (w.heap.size + 1) zeros32 23 := (((Blk.newAt (w := w.alloc _) zeros32 23 (by simp)).alloc _)).below hb1 (by omega)
       have hB1 : Below w.heap.size w w1 := ((((Below.refl _ _).next (Nat.le_refl _) _).next (Nat.le_refl _) _).next (Nat.le_refl _) _).trans (hb1.mono (by omega))
       have hz1 : w.heap.size + 2 ≤ w1.heap.size := by have := hg1.size; simp at this; omega
       have HO1 := Lib.hid hown1; have HR1 := Lib.hid hR1; have HB1 := Lib.hid hB1; have HZ1 := Lib.hid hz1
       clear hown1 hg1 hb1 hR1 hB1 hz1)
    | (at_builtin
       refine wpList_append8 rfl (.tmp 10) (.tmp 14) 24 rfl (w.heap.size + 2) 5 Try.underlying24 info8 v1 ([] ++ key) rfl ?d1 _ _ _ [UInt8.ofNat s.size] rfl ?d2 ?d3 ?d4 ?d5 ?_
       case d1 => exact HO1.out.below ((Below.refl _ _).next (Nat.le_refl _) _)
       case d2 => exact Row8.litAt [UInt8.ofNat s.size] _ rfl rfl rfl (small8 _ (by simp))
       case d3 => exact fun e => by cases e
       case d4 => simp [HH.out]
       case d5 => have := HZ1.out; simp; omega
       intro v2 w2 hown2 hg2 hb2
       have hR2 : Blk w2 (w.heap.size + 1) zeros32 23 := (HR1.out.alloc _).below hb2 (by omega)
       have hB2 : Below w.heap.size w w2 := (HB1.out.next (Nat.le_refl _) _).trans (hb2.mono (by omega))
       have hz2 : w.heap.size + 2 ≤ w2.heap.size := by have h1 := hg2.size; rw [size_alloc] at h1; have := HZ1.out; omega
       have HO2 := Lib.hid hown2; have HR2 := Lib.hid hR2; have HB2 := Lib.hid hB2; have HZ2 := Lib.hid hz2
       clear hown2 hg2 hb2 hR2 hB2 hz2)
    | (at_builtin
       refine wpList_append8 rfl (.tmp 16) (.tmp 18) 24 rfl (w.heap.size + 2) 5 Try.underlying24 info8 v2 ([] ++ key ++ [UInt8.ofNat s.size]) rfl ?e1 _ _ _ (sb s) rfl ?e2 ?e3 ?e4 ?e5 ?_
       case e1 => exact HO2.out.below (below_bytes _ _ _)
       case e2 => exact Row8.ofBytes _ _ _ HSM.out
       case e3 => exact fun e => by cases e
       case e4 => have := HS.out; simp [HH.out, HSL.out]; omega
       case e5 => have := HZ2.out; rw [Lib.bytesWorld_size]; omega
       intro v3 w3 hown3 hg3 hb3
       have hR3 : Blk w3 (w.heap.size + 1) zeros32 23 := (HR2.out.keep (below_bytes _ _ _)).below hb3 (by omega)
       have hB3 : Below w.heap.size w w3 := (HB2.out.later (below_bytes _ _ _) (Nat.le_refl _)).trans (hb3.mono (by omega))
       have hz3 : w.heap.size + 2 ≤ w3.heap.size := by have h1 := hg3.size; rw [Lib.bytesWorld_size] at h1; have := HZ2.out; omega
       have HO3 := Lib.hid hown3; have HR3 := Lib.hid hR3; have HB3 := Lib.hid hB3; have HZ3 := Lib.hid hz3
       clear hown3 hg3 hb3 hR3 hB3 hz3)
    | (at_builtin
       refine wpList_append8 rfl (.tmp 19) (.tmp 20) 24 rfl (w.heap.size + 2) 5 Try.underlying24 info8 v3 ([] ++ key ++ [UInt8.ofNat s.size] ++ sb s) rfl ?f1 _ _ _ bs rfl ?f2 ?f3 ?f4 ?f5 ?_
       case f1 => exact HO3.out
       case f2 => exact HP.out.below HB3.out
       case f3 => exact HN.out
       case f4 => have := HS.out; simp [HH.out, HSL.out]; omega
       case f5 => exact HZ3.out
       intro v4 w4 hown4 hg4 hb4
       have hR4 : Blk w4 (w.heap.size + 1) zeros32 23 := HR3.out.below hb4 (by omega)
       have hB4 : Below w.heap.size w w4 := HB3.out.trans (hb4.mono (by omega))
       have hlen : (((([] ++ key) ++ [UInt8.ofNat s.size]) ++ sb s) ++ bs).length = 33 + s.size + bs.length := by simp [HH.out, HSL.out]; omega
       obtain ⟨g4, cap4, e4, _, _, _, _⟩ := hown4.hasN (33 + s.size + bs.length) hlen.symm (by omega)
       subst e4
       have hrow : Row8 w4 (some ⟨g4, 0, none⟩) (33 + s.size + bs.length) (((([] ++ key) ++ [UInt8.ofNat s.size]) ++ sb s) ++ bs) := hown4.row (by have := HS.out; rw [hlen]; simp only [maxLen]; omega) hlen.symm
       have heq : sumW (((([] ++ key) ++ [UInt8.ofNat s.size]) ++ sb s) ++ bs) = out := by rw [← HO.out]; unfold deriveW; rw [HSL.out]; simp
       have HRW := Lib.hid hrow; have HR4 := Lib.hid hR4; have HB4 := Lib.hid hB4; have HLN := Lib.hid hlen; have HEQ := Lib.hid heq
       clear hrow hR4 hB4 hlen heq hown4 hg4 hb4)
    | (go_at_call 47; refine (rsum_any _ _ cap4 _ _ HRW.out (fun e => by cases e) (by have := HLN.out; have := HS.out; omega)).mono ?_; rintro e w5 ⟨rfl, hb5⟩
       rw [HEQ.out]
       have hR5 := HR4.out.keep hb5
       have hB5 := HB4.out.later hb5 (Nat.le_refl _)
       have HR5 := Lib.hid hR5; have HB5 := Lib.hid hB5
       clear hb5 hR5 hB5)
    | (refine wpList_store_row rfl 23 _ _ rfl (w.heap.size + 1) (HC out) rfl rfl 23 zeros32 HR5.out S1.out S2.out (HC_one _) ?_))
  exact bodyPost_ret (v := HV out) (results_cell_row rfl _ _ (w.heap.size + 1) _ _ (0, 0) _ rfl (HR5.out.setRow _) Try.underlying23 rfl S1.out) rfl
    ⟨by rw [HO.out]; rfl, below_setRow HB5.out _ (by omega)⟩

theorem rderive_zero (s : ByteArray) (a : Option Addr) (l c : Nat) (bs : List UInt8) (w : World) (hp : Row8 w a l bs) (hnil : a = none → c = 0) (hs : s.size + bs.length ≤ 140737488354000) :
    Calls Try.prog 28 #[.agg zeros32, .string s, .slice a l c] w fun e w' => e = .returned (HV (deriveW (List.replicate 32 0) (sb s) bs)) ∧ Below w.heap.size w w' := by
  rw [zeros32_HC]
  exact rderive_any (List.replicate 32 0) rfl s a l c bs w hp hnil hs

theorem take_flat (L : List (List UInt8)) (k : Nat) (h : k < L.length) : (L.take (k + 1)).flatten = (L.take k).flatten ++ L[k] := by
  rw [List.take_succ_eq_append_getElem h, List.flatten_append]; simp
theorem take_flat_le (L : List (List UInt8)) (k : Nat) : (L.take k).flatten.length ≤ L.flatten.length := by
  have h := congrArg (fun l => l.flatten.length) (List.take_append_drop k L)
  simp only [List.flatten_append, List.length_append] at h
  omega
/-- what own bytes look like from outside -/
theorem Own8.forms {w : World} {base : Nat} {e : TypeId} {v : Value} {bs : List UInt8} (h : Own8 w base e v bs) (hm : bs.length ≤ maxLen) : ∃ a c, v = .slice a bs.length c ∧ Row8 w a bs.length bs ∧ (a = none → c = 0) := by
  by_cases hb : bs = []
  · subst hb
    rcases h.2 with ⟨h1, _⟩ | ⟨g, cap, cur, h1, _⟩
    · exact ⟨none, 0, h1, Row8.nil _ _, fun _ => rfl⟩
    · exact ⟨_, cap, h1, Row8.nil _ _, fun e => by cases e⟩
  · obtain ⟨g, cap, rfl, _, _, _, _⟩ := h.has hb
    exact ⟨_, cap, rfl, h.row hm rfl, fun e => by cases e⟩

set_option maxRecDepth 100000 in
set_option maxHeartbeats 2000000 in
theorem rjoin_any (a : Option Addr) (len cap : Nat) (L : List (List UInt8)) (w : World) (hp : ArgR w a len cap L) (hbound : L.flatten.length ≤ 140737488354000) :
    Calls Try.prog 29 #[.slice a len cap] w fun e w' => (∃ a' c', e = .returned (.slice a' L.flatten.length c') ∧ Row8 w' a' L.flatten.length L.flatten ∧ (a' = none → c' = 0)) ∧ Below w.heap.size w w' := by
  have hlen := hp.len_eq
  have hsm := hp.row.small
  unfold maxLen at hsm
  subst hlen
  have HP := Lib.hid hp; have HBD := Lib.hid hbound
  clear hp hbound
  go_enter Try.func29, Try.ntmps29
  go_wp2
  go_loopw [3, 4] (fun b i wr => ∃ k : Nat, k ≤ L.length ∧ i = .int .i64 k ∧ Own8 wr w.heap.size 5 b (L.take k).flatten ∧ Below w.heap.size w wr) (fun _ i _ => L.length - (intOf i).toNat)
  case atStart => exact ⟨0, Nat.zero_le _, rfl, World.ownsRow_nil _ _ _ _, Below.refl _ _⟩
  case round =>
    obtain ⟨k, hk, rfl, hO, hB⟩ := hrel
    by_cases hlt : k < L.length
    · obtain ⟨b, off, rfl, a', l', c', hcell, hrow⟩ : ∃ b off, a = some ⟨b, off, none⟩ ∧ ∃ a' l' c', wr.cell? ⟨b, off + k, none⟩ = some (.slice a' l' c') ∧ Arg8 w a' l' c' L[k] := by
        rcases HP.out.cells with h1 | ⟨b, off, rfl, hc⟩
        · simp [h1] at hlt
        · obtain ⟨a', l', c', h2, h3⟩ := hc k hlt
          exact ⟨b, off, rfl, a', l', c', (hB.cell (block_lt_of_cell h2)).trans h2, h3⟩
      have hrow2 := hrow.row.below hB
      have hle : (L.take k).flatten.length + L[k].length ≤ 140737488355328 := by
        have h1 := take_flat_le L (k + 1)
        rw [take_flat L k hlt, List.length_append] at h1
        have := HBD.out; omega
      have HO := Lib.hid hO; have HB := Lib.hid hB; have HW := Lib.hid hrow2; have HN := Lib.hid hrow.nil; have HLE := Lib.hid hle
      clear hO hB hrow hrow2 hle
      go_wp2_with (at_builtin
                   refine wpList_append8 rfl (.tmp 11) (.tmp 15) 24 rfl w.heap.size 5 Try.underlying24 info8 _ (L.take k).flatten rfl HO.out _ _ _ L[k] rfl HW.out HN.out HLE.out HB.out.size ?_
                   intro v3 w3 hown3 hg3 hb3
                   have HO3 := Lib.hid hown3; have HB3 := Lib.hid hb3
                   clear hown3 hg3 hb3)
      go_roundw
      case rel =>
        refine ⟨k + 1, by omega, by go_num, ?_, HB.out.trans HB3.out⟩
        rw [take_flat L k hlt]; exact HO3.out
      case measure => simp [intOf]; omega
    · rw [List.take_of_length_le (by omega)] at hO
      obtain ⟨a', c', rfl, hr, hn⟩ := hO.forms (by have := HBD.out; simp only [maxLen]; omega)
      have HO := Lib.hid hr; have HB := Lib.hid hB; have HN := Lib.hid hn
      clear hO hB hr hn
      go_wp2
      go_ret
      exact ⟨⟨a', c', rfl, HO.out, HN.out⟩, HB.out⟩
end Go.Proofs.Ytmijaghaombbpaa
