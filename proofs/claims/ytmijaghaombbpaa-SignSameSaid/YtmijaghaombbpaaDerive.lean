/-
  The walk of sponge.Derive.
-/
import Derived.Test.YtmijaghaombbpaaSum
import Derived.Test.YtmijaghaombbpaaZero
import Derived.Lib.ConvBytes
namespace Go.Proofs.Ytmijaghaombbpaa
set_option maxRecDepth 100000
open Go.RowKit

/-- a string as bytes -/
def sb (s : ByteArray) : List UInt8 := s.data.toList

theorem sb_length (s : ByteArray) : (sb s).length = s.size := by simp [sb]
theorem Row8.ofBlk {w : World} {g : Nat} {bs : List UInt8} {t : TypeId} (h : Blk w g (HC bs) t) (hs : bs.length ≤ maxLen) (n : Nat) (hn : n = bs.length) : Row8 w (some ⟨g, 0, none⟩) n bs :=
  ⟨hn, hs, .inr ⟨g, 0, rfl, fun i hi => by rw [Nat.zero_add]; exact (h.cell i).trans (HC_get_lt bs i hi)⟩⟩
theorem wrap_len (n : Nat) : IntKind.u8.wrap (n : Int) = Bt (UInt8.ofNat n) := by
  rw [IntKind.wrap_u8]; unfold Bt; rw [UInt8.toNat_ofNat']; rfl

theorem below_bytes (w : World) (e : TypeId) (s : ByteArray) : Below w.heap.size w (Lib.bytesWorld w e s) :=
  ⟨rfl, rfl, rfl, by rw [Lib.bytesWorld_size]; omega, fun k hk => Lib.bytesWorld_at_old w e s k hk⟩
theorem Row8.ofBytes (w : World) (e : TypeId) (s : ByteArray) (hs : s.size ≤ maxLen) : Row8 (Lib.bytesWorld w e s) (some ⟨w.heap.size, 0, none⟩) s.size (sb s) := by
  refine ⟨(sb_length s).symm, by rw [sb_length]; exact hs, .inr ⟨w.heap.size, 0, rfl, fun i hi => ?_⟩⟩
  have h1 : i < s.size := by rw [sb_length] at hi; exact hi
  rw [Nat.zero_add, Lib.bytesWorld_cell w e s i h1]
  congr 2
  unfold Bt sb
  rw [List.getD_eq_getElem?_getD, List.getElem?_eq_getElem (by simpa [sb] using hi)]
  rfl

set_option maxRecDepth 100000 in
set_option maxHeartbeats 2000000 in
theorem derive_any (h : List UInt8) (hh : h.length = 32) (label : ByteArray) (hl : label.size ≤ maxLen) (a : Option Addr) (len cap : Nat) (L : List (List UInt8)) (w : World) (hp : RowR w a len L) :
    Calls Try.prog 23 #[HV h, .string label, .slice a len cap] w fun e w' => e = .returned (HV (deriveW h (sb label) L.flatten)) ∧ Below w.heap.size w w' := by
  have hlen := hp.len_eq
  have hsm := hp.small
  unfold maxLen at hsm hl
  subst hlen
  have HP := Lib.hid hp
  clear hp
  unfold HV
  go_enter Try.func23, Try.ntmps23
  go_wp2_with fail
  refine (begin_any _).mono ?_
  rintro e w1 ⟨rfl, b1⟩
  have hI1 := ((Blk.newAt (w := w) (g := w.heap.size) (HC h) 23 rfl).alloc (.cells (HC (List.replicate 32 0)) 23)).keep b1
  have hR1 := ((Blk.newAt (w := w.alloc (.cells (HC h) 23)) (g := w.heap.size + 1) (HC (List.replicate 32 0)) 23 (by simp))).keep b1
  have hB1 := (((Below.refl w.heap.size w).alloc (Nat.le_refl _) (.cells (HC h) 23)).alloc (by simp) (.cells (HC (List.replicate 32 0)) 23)).lift b1 (by simp; omega)
  have hs1 : w.heap.size + 2 ≤ w1.heap.size := by have := b1.size; rw [size_alloc, size_alloc] at this; exact this
  have HI1 := Lib.hid hI1; have HR1 := Lib.hid hR1; have HB1 := Lib.hid hB1
  clear hI1 hR1 hB1 b1
  go_wp2_with fail
  have hX2 := Blk.new w1 (C6 beginW) 74
  have hI2 := HI1.out.alloc (.cells (C6 beginW) 74)
  have hR2 := HR1.out.alloc (.cells (C6 beginW) 74)
  have hB2 := HB1.out.alloc (by omega) (.cells (C6 beginW) 74)
  have hz2 := size_alloc w1 (.cells (C6 beginW) 74)
  clear HI1 HR1 HB1
  generalize w1.alloc (.cells (C6 beginW) 74) = w2 at *
  generalize w1.heap.size = g at *
  refine (take_any g beginW (some ⟨w.heap.size, 0, none⟩) 32 32 h w2 hX2 (by decide) (Row8.ofBlk hI2 (by rw [hh]; decide) 32 hh.symm) (fun x hx _ => by injection hx with hx; subst hx; simp; omega)).mono ?_
  rintro e w3 ⟨rfl, hX3, hG3⟩
  have hR3 := hR2.grown hG3 (by omega)
  have hB3 := below_grown hB2 hG3 (by omega) (by omega)
  have hz3 := hG3.size
  have hwl := wrap_len label.size
  have HX3 := Lib.hid hX3; have HR3 := Lib.hid hR3; have HB3 := Lib.hid hB3; have HZ := Lib.hid hz2
  clear hX2 hI2 hR2 hB2 hX3 hR3 hB3 hG3 hz2
  go_wp2_with fail
  have hat3 := takes_at h beginW (by decide)
  have hX4 := HX3.out.alloc (.cells (HC [UInt8.ofNat label.size]) 5)
  have hI4 := Blk.new w3 (HC [UInt8.ofNat label.size]) 5
  have hR4 := HR3.out.alloc (.cells (HC [UInt8.ofNat label.size]) 5)
  have hB4 := HB3.out.alloc (by have := HZ.out; omega) (.cells (HC [UInt8.ofNat label.size]) 5)
  have hz4 := size_alloc w3 (.cells (HC [UInt8.ofNat label.size]) 5)
  have hg3 := HX3.out.lt
  clear HX3 HR3 HB3 HZ hwl
  change Calls _ _ _ (w3.alloc (.cells (HC [UInt8.ofNat label.size]) 5)) _
  generalize w3.alloc (.cells (HC [UInt8.ofNat label.size]) 5) = w4 at *
  generalize w3.heap.size = i4 at *
  refine (take_any g _ (some ⟨i4, 0, none⟩) 1 1 [UInt8.ofNat label.size] w4 hX4 hat3 (Row8.ofBlk hI4 (by simp [maxLen]) 1 rfl) (fun x hx _ => by injection hx with hx; subst hx; simp; omega)).mono ?_
  rintro e w5 ⟨rfl, hX5, hG5⟩
  have hat5 := takes_at [UInt8.ofNat label.size] _ hat3
  have hR5 := hR4.grown hG5 (by omega)
  have hB5 := below_grown hB4 hG5 (by omega) (by omega)
  have hz5 := hG5.size
  have HX5 := Lib.hid hX5; have HR5 := Lib.hid hR5; have HB5 := Lib.hid hB5; have HZ := Lib.hid hz4; have HA5 := Lib.hid hat5
  clear hX4 hI4 hR4 hB4 hX5 hR5 hB5 hG5 hz4 hat3 hat5
  have hcv := Lib.run_convert_string_bytes (P := Try.prog) w5 9 24 5 label Try.underlying9 Try.underlying24 Try.underlying5
  go_wp2_with fail
  have hb6 := below_bytes w5 5 label
  have hI6 := Row8.ofBytes w5 5 label (by unfold maxLen; exact hl)
  clear hcv
  generalize Lib.bytesWorld w5 5 label = w6 at *
  have hX6 := HX5.out.keep hb6
  have hR6 := HR5.out.keep hb6
  have hB6 := HB5.out.lift hb6 (by have := HZ.out; omega)
  have hg6 := HX5.out.lt
  have hz6 := hb6.size
  generalize grownCap w5 label.size 0 5 = cap6
  refine (take_any g _ (some ⟨w5.heap.size, 0, none⟩) label.size cap6 (sb label) w6 hX6 HA5.out hI6 (fun x hx _ => by injection hx with hx; subst hx; simp; omega)).mono ?_
  rintro e w7 ⟨rfl, hX7, hG7⟩
  have hat7 := takes_at (sb label) _ HA5.out
  have hR7 := hR6.grown hG7 (by omega)
  have hB7 := below_grown hB6 hG7 (by omega) (by have := HZ.out; omega)
  have hz7 := hG7.size
  have hfin : ∀ l, endW (takes (takes (takes (takes beginW h) [UInt8.ofNat label.size]) (sb label)) l) = deriveW h (sb label) l := by
    intro l
    unfold deriveW sumW
    rw [sb_length, ← takes_append, ← takes_append, ← takes_append]
    congr 2
    simp
  generalize takes (takes (takes beginW h) [UInt8.ofNat label.size]) (sb label) = s0 at *
  have hw7 : w.heap.size + 2 ≤ w7.heap.size := by have := HZ.out; omega
  have HX7 := Lib.hid hX7; have HR7 := Lib.hid hR7; have HB7 := Lib.hid hB7; have HA7 := Lib.hid hat7; have HF := Lib.hid hfin
  clear hX6 hR6 hB6 hI6 hb6 hX7 hR7 hB7 hG7 hat7 hfin HX5 HR5 HB5 HA5 hz3 hg3 hz5 hg6 hz6 hz7 HZ
  go_wp2_with fail
  go_loopw [9, 23] (fun _ i wr => ∃ k : Nat, k ≤ L.length ∧ i = .int .i64 k ∧ Blk wr g (C6 (takes s0 (L.take k).flatten)) 74 ∧ Blk wr (w.heap.size + 1) (HC (List.replicate 32 0)) 23 ∧ Below w.heap.size w wr) (fun _ i _ => L.length - (intOf i).toNat)
  case atStart => exact ⟨0, Nat.zero_le _, rfl, HX7.out, HR7.out, HB7.out⟩
  case round =>
    obtain ⟨k, hk, rfl, hX, hR, hB⟩ := hrel
    clear HX7 HR7 HB7
    have hat := takes_at (L.take k).flatten s0 HA7.out
    by_cases hlt : k < L.length
    · obtain ⟨b, off, rfl, a', l', c', hcell, hrow⟩ : ∃ b off, a = some ⟨b, off, none⟩ ∧ ∃ a' l' c', wr.cell? ⟨b, off + k, none⟩ = some (.slice a' l' c') ∧ Row8 w a' l' L[k] := by
        rcases HP.out.cells with h1 | ⟨b, off, rfl, hc⟩
        · simp [h1] at hlt
        · obtain ⟨a', l', c', h2, h3⟩ := hc k hlt
          exact ⟨b, off, rfl, a', l', c', (hB.cell (block_lt_of_cell h2)).trans h2, h3⟩
      have hlr := hrow.lt
      have hrow2 := hrow.below hB
      have HX := Lib.hid hX; have HR := Lib.hid hR; have HB := Lib.hid hB
      have HL := Lib.hid hlr; have HW := Lib.hid hrow2; have HA := Lib.hid hat
      clear hX hR hB hrow hlr hrow2 hat
      go_wp2_with fail
      refine (take_any g _ a' l' c' L[k] _ HX.out HA.out HW.out (fun x hx hn => by have := HL.out x hx hn; omega)).mono ?_
      rintro e w8 ⟨rfl, hX8, hG8⟩
      have hs8 : w.heap.size + 1 < wr.heap.size := HR.out.lt
      have hR8 := HR.out.grown hG8 (by omega)
      have hB8 := below_grown HB.out hG8 (by omega) (by omega)
      have HX8 := Lib.hid hX8; have HR8 := Lib.hid hR8; have HB8 := Lib.hid hB8
      clear hX8 hR8 hB8 hG8 HX HR HB HL HW HA
      go_wp2
      go_roundw
      case rel =>
        refine ⟨k + 1, by omega, by go_num, ?_, HR8.out, HB8.out⟩
        rw [List.take_succ_eq_append_getElem hlt, List.flatten_append, takes_append]
        simpa using HX8.out
      case measure => simp [intOf]; omega
    · have HX := Lib.hid hX; have HR := Lib.hid hR; have HB := Lib.hid hB; have HA := Lib.hid hat
      have hs8 : w.heap.size + 1 < wr.heap.size := hR.lt
      clear hX hR hB hat
      go_wp2_with fail
      refine (end_any g _ _ HX.out HA.out).mono ?_
      rintro e w8 ⟨rfl, hG8⟩
      have hR8 := HR.out.grown hG8 (by omega)
      have hB8 := below_grown HB.out hG8 (by omega) (by omega)
      rw [List.take_of_length_le (by omega), HF.out]
      have hlen : (deriveW h (sb label) L.flatten).length = 32 := sumW_length _
      have hsz : (Try.prog.info? 23).map (·.size) = some (HC (deriveW h (sb label) L.flatten)).size := by
        rw [HC_size, hlen]; kernel_rfl
      have hsz2 : (HC (List.replicate 32 0)).size = (HC (deriveW h (sb label) L.flatten)).size := by rw [HC_size, HC_size, hlen]; rfl
      generalize hout : deriveW h (sb label) L.flatten = out at *
      have HO := Lib.hid hout; clear hout
      have HR8 := Lib.hid hR8; have HB8 := Lib.hid hB8; have S1 := Lib.hid hsz; have S2 := Lib.hid hsz2
      clear hR8 hB8 hG8 hsz hsz2 hlen HX HR HB HA
      go_wp2_with (refine wpList_store_row rfl 23 _ _ rfl (w.heap.size + 1) (HC out) rfl rfl 23 (HC (List.replicate 32 0)) HR8.out S1.out S2.out (HC_one _) ?_)
      exact bodyPost_ret (v := HV out) (results_cell_row rfl _ _ (w.heap.size + 1) _ _ (0, 0) _ rfl (HR8.out.setRow _) Try.underlying23 rfl S1.out) rfl
        ⟨by rw [HO.out]; rfl, below_setRow HB8.out _ (by omega)⟩

theorem derive_zero (s : ByteArray) (hs : s.size ≤ maxLen) (a : Option Addr) (len cap : Nat) (L : List (List UInt8)) (w : World) (hp : RowR w a len L) :
    Calls Try.prog 23 #[.agg zeros32, .string s, .slice a len cap] w fun e w' => e = .returned (HV (deriveW (List.replicate 32 0) (sb s) L.flatten)) ∧ Below w.heap.size w w' := by
  rw [zeros32_HC]
  exact derive_any (List.replicate 32 0) rfl s hs a len cap L w hp
end Go.Proofs.Ytmijaghaombbpaa
