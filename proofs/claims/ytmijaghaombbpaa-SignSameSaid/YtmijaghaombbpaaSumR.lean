/-
  The walk of the document's Sum (curiaref1.Sum).
-/
import Derived.Test.YtmijaghaombbpaaTurnR
import Derived.Test.YtmijaghaombbpaaOwn
import Derived.Test.YtmijaghaombbpaaSum
import Derived.Test.YtmijaghaombbpaaDerive
import Derived.Test.YtmijaghaombbpaaSpEq
import Derived.Deep.DeepMust
import Derived.Test.YtmijaghaombbpaaZero
namespace Go.Proofs.Ytmijaghaombbpaa
set_option maxRecDepth 100000
open Go.RowKit

theorem outs_at (x : W5) (i : Nat) (hi : i < 32) : (outs x)[i]? = some (byteAt (tIter (i / 8 + 1) x).a (i % 8)) := by
  unfold outs
  rw [List.getElem?_map, List.getElem?_range hi]
  rfl
theorem rturn_32 (w : World) : Calls Try.prog 54 #[.agg #[.int .u64 32, .int .u64 0, .int .u64 0, .int .u64 0, .int .u64 0]] w fun e w' => e = .returned (V5 (turnW ⟨32, 0, 0, 0, 0⟩)) ∧ Below w.heap.size w w' :=
  rturn_any ⟨32, 0, 0, 0, 0⟩ w
theorem rabs_zero (P : List UInt8) : rabs P 0 = turnW ⟨32, 0, 0, 0, 0⟩ := rfl
/-- how long a slice is -/
def lenOf : Value → Nat | .slice _ l _ => l | _ => 0
/-- the padded bytes -/
def padded (l : List UInt8) (n : Nat) : List UInt8 := l ++ [128] ++ List.replicate n 0
theorem padded_length (l : List UInt8) (n : Nat) : (padded l n).length = l.length + 1 + n := by simp [padded]; omega
theorem padded_succ (l : List UInt8) (n : Nat) : padded l n ++ [0] = padded l (n + 1) := by
  unfold padded; rw [List.append_assoc, List.replicate_succ']
theorem padded_zero (l : List UInt8) : padded l 0 = l ++ [128] := by simp [padded]
theorem padded_ne (l : List UInt8) (n : Nat) : padded l n ≠ [] := by simp [padded]

attribute [local go_sem] U_xor U_or8 U_shl8

set_option maxRecDepth 100000 in
set_option maxHeartbeats 4000000 in
theorem rsum_any (a : Option Addr) (len cap : Nat) (bs : List UInt8) (w : World) (hp : Row8 w a len bs) (hnil : a = none → cap = 0) (hbs : bs.length ≤ 140737488355000) :
    Calls Try.prog 47 #[.slice a len cap] w fun e w' => e = .returned (HV (sumW bs)) ∧ Below w.heap.size w w' := by
  have hlen := hp.len_eq
  subst hlen
  have HP := Lib.hid hp; have HNIL := Lib.hid hnil
  clear hp hnil
  go_enter Try.func47, Try.ntmps47
  go_wp2_with (first
    | (at_builtin
       refine wpList_append8 rfl (.tmp 10) (.tmp 11) 24 rfl (w.heap.size + 1) 5 Try.underlying24 info8 (.slice (some ⟨w.heap.size + 1, 0, none⟩) 0 0) [] rfl ?c1 _ _ _ bs rfl ?c2 ?c3 ?c4 ?c5 ?_
       case c1 => exact Own8.litAt [] _ rfl (by simp) rfl (by simp) (small8 _ (by simp))
       case c2 => exact HP.out.below (((Below.refl _ _).alloc (Nat.le_refl _) _).alloc (by simp) _)
       case c3 => exact HNIL.out
       case c4 => simp; omega
       case c5 => simp
       intro v1 w1 hown1 hg1 hb1
       have hsz1 := hg1.size
       have HO1 := Lib.hid hown1; have HB1 := Lib.hid hb1
       clear hown1 hg1 hb1)
    | (at_builtin
       refine wpList_append8 rfl (.tmp 12) (.tmp 13) 24 rfl (w.heap.size + 1) 5 Try.underlying24 info8 v1 bs rfl ?d1 _ _ _ [128] rfl ?d2 ?d3 ?d4 ?d5 ?_
       case d1 => exact HO1.out.below ((Below.refl _ _).alloc (Nat.le_refl _) _)
       case d2 => exact Row8.litAt [128] _ rfl rfl rfl (small8 _ (by simp))
       case d3 => exact fun e => by cases e
       case d4 => simp; omega
       case d5 => simp at hsz1 ⊢; omega
       intro v2 w2 hown2 hg2 hb2
       have hsz2 := hg2.size
       have HO2 := Lib.hid hown2; have HB2 := Lib.hid hb2
       clear hown2 hg2 hb2))
  have hz0 : w.heap.size + 2 ≤ w1.heap.size := by simp at hsz1; omega
  have hb1 := (((Below.refl (w.heap.size + 1) _).alloc (by simp) _).trans HB1.out)
  have hb2 := (hb1.alloc (by omega) _).trans HB2.out
  have hR2 := ((Blk.newAt (w := w) (g := w.heap.size) _ 23 rfl).copy (cs' := HC (List.replicate 32 0)) (by rfl)).below hb2 (by omega)
  have hB2 := ((Below.refl w.heap.size w).alloc (Nat.le_refl _) _).lift hb2 (by omega)
  have hz2 : w.heap.size + 3 ≤ w2.heap.size := by simp at hsz2; omega
  have HR := Lib.hid hR2; have HB := Lib.hid hB2
  clear hb1 hb2 hR2 hB2 HB1 HB2 HO1 hsz1 hsz2 hz0
  obtain ⟨g2, cap2, rfl, hg2a, hg2b, hc2a, hc2b⟩ := HO2.out.hasN (bs.length + 1) (by simp) (by omega)
  go_loopw [3] (fun b wr => ∃ (n N g cp : Nat), b = .slice (some ⟨g, 0, none⟩) N cp ∧ N = bs.length + 1 + n ∧ n ≤ (8 - (bs.length + 1) % 8) % 8 ∧ Own8 wr (w.heap.size + 1) 5 b (padded bs n) ∧
      Blk wr w.heap.size (HC (List.replicate 32 0)) 23 ∧ Below w.heap.size w wr ∧ w.heap.size + 3 ≤ wr.heap.size) (fun b _ => bs.length + 9 - lenOf b)
  case atStart => exact ⟨0, bs.length + 1, g2, cap2, by simp, by omega, by omega, by rw [padded_zero]; exact HO2.out, HR.out, HB.out, hz2⟩
  case round =>
    obtain ⟨n, N, g, cp, rfl, hN, hn, hO, hR, hB, hz⟩ := hrel
    clear HO2 HR HB hz2 hg2a hg2b hc2a hc2b
    have HN := Lib.hid hN
    by_cases h8 : N % 8 = 0
    · have ht : (((N : Nat) : Int) % 8 != 0) = false := by simp; omega
      have HO := Lib.hid hO; have HR := Lib.hid hR; have HB := Lib.hid hB; have H8 := Lib.hid h8
      clear hO hR hB h8 hN
      go_wp2_with fail
      refine (rturn_32 _).mono ?_
      rintro e w3 ⟨rfl, b3⟩
      have hz00 := rabs_zero (padded bs n)
      generalize turnW ⟨32, 0, 0, 0, 0⟩ = z00 at hz00 ⊢
      have hO3 := HO.out.below b3
      have hR3 := HR.out.keep b3
      have hB3 := HB.out.lift b3 (by omega)
      have hz3 := b3.size
      have hK : ∃ K, N = 8 * K := ⟨N / 8, by have := H8.out; omega⟩
      obtain ⟨K, hK⟩ := hK
      have hNb : N ≤ 140737488355010 := by have := HN.out; omega
      have hn7 : n ≤ 7 := by omega
      have hsum : tIter 1 (lastW (takes beginW bs)) = rabs (padded bs n) K := (rabs_sum bs n K (by have := HN.out; omega) hn7).symm
      have HZ00 := Lib.hid hz00; clear hz00
      have hP : (padded bs n).length = N := by rw [padded_length]; have := HN.out; omega
      generalize padded bs n = P at *
      have HO3 := Lib.hid hO3; have HR3 := Lib.hid hR3; have HB3 := Lib.hid hB3; have HS := Lib.hid hsum; have HK := Lib.hid hK; have HP3 := Lib.hid hP
      clear hO3 hR3 hB3 hsum hK hP HO HR HB b3 H8 HN ht
      go_wp2_with fail
      have hgX : g < w3.heap.size := (World.ownsRow.lt HO3.out g rfl).2
      refine wp_gen (fun w4 hw4 => ?_)
      have hX4 : Blk w4 w3.heap.size (C5 (rabs P 0)) 72 := by rw [hw4, HZ00.out]; exact Blk.new _ _ _
      have hO4 : Own8 w4 (w.heap.size + 1) 5 (.slice (some ⟨g, 0, none⟩) N cp) P := by rw [hw4]; exact World.ownsRow.alloc HO3.out _
      have hR4 : Blk w4 w.heap.size (HC (List.replicate 32 0)) 23 := by rw [hw4]; exact HR3.out.alloc _
      have hB4 : Below w.heap.size w w4 := by rw [hw4]; exact HB3.out.alloc (by omega) _
      have hz4 : w.heap.size + 3 ≤ w3.heap.size := by omega
      clear hw4 HO3 HR3 HB3
      generalize w3.heap.size = X at *
      have HX := Lib.hid hX4; have HO := Lib.hid hO4; have HR := Lib.hid hR4; have HB := Lib.hid hB4
      clear hX4 hO4 hR4 hB4
      go_loopw [5, 6, 7] (fun i _ _ wr => ∃ k : Nat, 8 * k ≤ N ∧ i = .int .i64 (8 * (k : Int)) ∧ Blk wr X (C5 (rabs P k)) 72 ∧ Own8 wr (w.heap.size + 1) 5 (.slice (some ⟨g, 0, none⟩) N cp) P ∧
          Blk wr w.heap.size (HC (List.replicate 32 0)) 23 ∧ Below w.heap.size w wr) (fun i _ _ _ => N - (intOf i).toNat)
      case atStart => exact ⟨0, by omega, by simp, HX.out, HO.out, HR.out, HB.out⟩
      case round =>
        obtain ⟨k, hk, rfl, hX, hO, hR, hB⟩ := hrel
        clear HX HO HR HB
        have hzX := hX.lt
        by_cases hlt : 8 * k < N
        · have hle : 8 * k + 8 ≤ N := by have := HK.out; omega
          have hrow := Own8.row hO (by rw [HP3.out]; simp only [maxLen]; omega) HP3.out.symm
          have hcell : ∀ j, j < 8 → ∃ c : UInt8, P[8 * k + j]? = some c ∧ wr.cell? ⟨g, 8 * k + j, none⟩ = some (.int .u8 (Bt c)) := by
            intro j hj
            rcases hrow.cells with h1 | ⟨b, off, h1, h2⟩
            · exfalso; have := HP3.out; rw [h1] at this; simp at this; omega
            · injection h1 with h1
              injection h1 with h1 h3
              subst h1 h3
              have hi : 8 * k + j < P.length := by rw [HP3.out]; omega
              exact ⟨P[8 * k + j], List.getElem?_eq_getElem hi, by have := h2 (8 * k + j) hi; rwa [Nat.zero_add] at this⟩
          have HX := Lib.hid hX; have HO := Lib.hid hO; have HR := Lib.hid hR; have HB := Lib.hid hB; have HC0 := Lib.hid hcell
          clear hX hO hR hB hrow hcell
          go_wp2_with fail
          go_loop [6, 7] (fun x j => ∃ m : Nat, m ≤ 8 ∧ j = .int .i64 m ∧ x = .int .u64 (U (wordN P (8 * k) m))) (fun _ j => 8 - (intOf j).toNat)
          case atStart => exact ⟨0, by omega, rfl, rfl⟩
          case round =>
            obtain ⟨m, hm, rfl, rfl⟩ := hrel
            by_cases hlt8 : m < 8
            · obtain ⟨c, hPc, hcell⟩ := HC0.out m hlt8
              have hw8 : IntKind.u64.wrap (Bt c) = Bt c := IntWalk.u64_in _ (by have := Bt_bd c; omega)
              have HPC := Lib.hid hPc; clear hPc
              go_wp2
              go_round
              case rel => exact ⟨m + 1, by omega, by go_num, by show _ = Value.int .u64 (U ((wordN P (8 * k) m <<< 8) ||| w8 (P[8 * k + m]?.getD 0))); rw [HPC.out]; rfl⟩
              case measure => simp [intOf]; omega
            · obtain rfl : m = 8 := by omega
              obtain ⟨c0, c1, c2, c3, c4⟩ := HX.out.five
              have f := HX.out.frozen
              generalize hw8 : wordN P (8 * k) 8 = wd
              have HWD := Lib.hid hw8; clear hw8
              go_wp2_with fail
              refine (rturn_any { rabs P k with a := (rabs P k).a ^^^ wd } _).mono ?_
              rintro e w5 ⟨rfl, b5⟩
              have hr5 : rabs P (k + 1) = turnW { rabs P k with a := (rabs P k).a ^^^ wd } := by rw [← HWD.out]; rfl
              have hX5 := (HX.out.set 0 (.int .u64 (U ((rabs P k).a ^^^ wd)))).keep b5
              have hg1 : wr.grownBy (wr.setCell ⟨X, 0, none⟩ (.int .u64 (U ((rabs P k).a ^^^ wd)))) (some X) := grown_setCell (grown_refl _ _) _ _
              have hO5 := (Own8.kept HO.out hg1 (.inr (by simp [Value.ownBlock]; omega))).below b5
              have hR5 := (HR.out.other ⟨X, 0, none⟩ (.int .u64 (U ((rabs P k).a ^^^ wd))) (by simp; omega)).keep b5
              have hB5 := (HB.out.setCell (p := ⟨X, 0, none⟩) (by simp; omega) (.int .u64 (U ((rabs P k).a ^^^ wd)))).lift b5 (by simp; omega)
              generalize turnW { rabs P k with a := (rabs P k).a ^^^ wd } = z at *
              have f5 := hX5.frozen
              have d0 := hX5.cell 0
              have d1 := hX5.cell 1
              have d2 := hX5.cell 2
              have d3 := hX5.cell 3
              have d4 := hX5.cell 4
              simp at d0 d1 d2 d3 d4
              have HX5 := Lib.hid hX5; have HO5 := Lib.hid hO5; have HR5 := Lib.hid hR5; have HB5 := Lib.hid hB5; have HR6 := Lib.hid hr5
              clear hX5 hO5 hR5 hB5 hr5 hg1 b5 HX HO HR HB HC0 c0 c1 c2 c3 c4 f HWD
              go_wp2
              go_roundw
              case rel =>
                have gs : w5.grownBy (((((w5.setCell ⟨X, 0, none⟩ (.int .u64 (U z.a))).setCell ⟨X, 1, none⟩ (.int .u64 (U z.b))).setCell ⟨X, 2, none⟩ (.int .u64 (U z.c))).setCell ⟨X, 3, none⟩ (.int .u64 (U z.d))).setCell ⟨X, 4, none⟩ (.int .u64 (U z.e))) (some X) :=
                  grown_setCell (grown_setCell (grown_setCell (grown_setCell (grown_setCell (grown_refl _ _) _ _) _ _) _ _) _ _) _ _
                refine ⟨k + 1, by omega, by go_num, ?_, Own8.kept HO5.out gs (.inr (by simp [Value.ownBlock]; omega)), HR5.out.far5 (by omega) _ _ _ _ _, below_set5 HB5.out (by omega) _ _ _ _ _⟩
                rw [HR6.out]
                exact (((((HX5.out.set 0 _).set 1 _).set 2 _).set 3 _).set 4 _).copy (by simp)
              case measure => simp [intOf]; omega
        · have hkK : k = K := by have := HK.out; omega
          subst hkK
          have HX := Lib.hid hX; have HR := Lib.hid hR; have HB := Lib.hid hB
          clear hX hO hR hB
          go_wp2_with (refine wpList_store_row rfl 23 _ _ rfl wr.heap.size zeros32 rfl rfl 23 zeros32 (Blk.newAt _ _ rfl) zsize rfl zone ?_)
          refine wp_gen (fun w6 hw6 => ?_)
          have hX6 : Blk w6 X (C5 (tIter (0 / 8 + 1) (lastW (takes beginW bs)))) 72 := by
            rw [hw6, show 0 / 8 + 1 = 1 from rfl, HS.out]; exact (HX.out.alloc _).otherRow _ (by omega)
          have hR6 : Blk w6 w.heap.size (HC (List.replicate 32 0)) 23 := by
            rw [hw6]; exact (HR.out.alloc _).otherRow _ (by omega)
          have hB6 : Below w.heap.size w w6 := by
            rw [hw6]; exact below_setRow (HB.out.alloc (by omega) _) _ (by omega)
          have hH6 : Blk w6 wr.heap.size (HC (front (sumW bs) 0)) 23 := by
            rw [hw6]; exact ((Blk.new _ _ _).setRow zeros32).copy (by rw [front_zero, zeros32_HC])
          clear hw6 HX HR HB
          have hXH : X ≠ wr.heap.size := by omega
          generalize wr.heap.size = H at *
          have HX := Lib.hid hX6; have HR := Lib.hid hR6; have HB := Lib.hid hB6; have HH := Lib.hid hH6
          clear hX6 hR6 hB6 hH6
          generalize hL : lastW (takes beginW bs) = L at *
          have hsumL : sumW bs = outs L := by unfold sumW endW; rw [hL]
          have HL := Lib.hid hL; have HSL := Lib.hid hsumL
          clear hL hsumL
          go_loopw [9] (fun i wr => ∃ q : Nat, q ≤ 32 ∧ i = .int .i64 q ∧ Blk wr X (C5 (tIter (q / 8 + 1) L)) 72 ∧ Blk wr H (HC (front (sumW bs) q)) 23 ∧
              Blk wr w.heap.size (HC (List.replicate 32 0)) 23 ∧ Below w.heap.size w wr) (fun i _ => 32 - (intOf i).toNat)
          case atStart => exact ⟨0, by omega, rfl, HX.out, HH.out, HR.out, HB.out⟩
          case round =>
            obtain ⟨q, hq, rfl, hX, hH, hR, hB⟩ := hrel
            clear HX HH HR HB
            have hzH := hH.lt
            by_cases hlt : q < 32
            · obtain ⟨m, hm⟩ : ∃ m : Nat, m = q % 8 := ⟨_, rfl⟩
              have hm7 : m ≤ 7 := by omega
              have hqm : ((q : Nat) : Int) % 8 = (m : Int) := by omega
              obtain ⟨s1, s2, s3, s4, s5⟩ := shift_facts m hm7
              have hget := outs_at L q hlt
              rw [← hm] at hget
              have hfs := front_set (sumW bs) q (sumW_length _) hlt _ (by rw [HSL.out]; exact hget)
              obtain ⟨ov, hov⟩ := cell_front hH (sumW_length _) hlt
              have fH := hH.frozen
              generalize hy : tIter (q / 8 + 1) L = y at *
              have hwb := wrap_byteAt y.a m
              have hw64 : IntKind.u64.wrap (56 - 8 * (m : Int)) = 56 - 8 * (m : Int) := IntWalk.u64_in _ (by omega)
              obtain ⟨c0, c1, c2, c3, c4⟩ := hX.five
              have HX := Lib.hid hX; have HH := Lib.hid hH; have HR := Lib.hid hR; have HB := Lib.hid hB
              have HF := Lib.hid hfs; have HY := Lib.hid hy; have HM := Lib.hid hm
              clear hX hH hR hB hfs hy hm hget
              by_cases h7 : m = 7
              · have ht7 : ((m : Int) == 7) = true := by rw [h7]; rfl
                have H7 := Lib.hid h7; clear h7
                go_wp2_with fail
                refine (rturn_any y _).mono ?_
                rintro e w7 ⟨rfl, b7⟩
                have hX7 := (HX.out.other ⟨H, q, none⟩ (.int .u8 (Bt (byteAt y.a m))) hXH).keep b7
                have hH7 := ((HH.out.set q (.int .u8 (Bt (byteAt y.a m)))).keep b7).copy (cs' := HC (front (sumW bs) (q + 1))) (by rw [HC_set, HF.out])
                have hR7 := (HR.out.other ⟨H, q, none⟩ (.int .u8 (Bt (byteAt y.a m))) (by simp; omega)).keep b7
                have hB7 := (HB.out.setCell (p := ⟨H, q, none⟩) (by simp; omega) (.int .u8 (Bt (byteAt y.a m)))).lift b7 (by simp; omega)
                have hy7 : tIter ((q + 1) / 8 + 1) L = turnW y := by
                  have := HM.out; have := H7.out
                  rw [show (q + 1) / 8 + 1 = (q / 8 + 1) + 1 by omega]
                  show turnW (tIter (q / 8 + 1) L) = _
                  rw [HY.out]
                generalize turnW y = z at *
                have f7 := hX7.frozen
                have d0 := hX7.cell 0
                have d1 := hX7.cell 1
                have d2 := hX7.cell 2
                have d3 := hX7.cell 3
                have d4 := hX7.cell 4
                simp at d0 d1 d2 d3 d4
                have HX7 := Lib.hid hX7; have HH7 := Lib.hid hH7; have HR7 := Lib.hid hR7; have HB7 := Lib.hid hB7; have HY7 := Lib.hid hy7
                clear hX7 hH7 hR7 hB7 hy7 b7 HX HH HR HB HF HY HM H7 c0 c1 c2 c3 c4 fH hov hwb s1 s2 s3 s4 s5 hw64
                go_wp2
                go_roundw
                case rel =>
                  refine ⟨q + 1, by omega, by go_num, ?_, HH7.out.far5 (Ne.symm hXH) _ _ _ _ _, HR7.out.far5 (by omega) _ _ _ _ _, below_set5 HB7.out (by omega) _ _ _ _ _⟩
                  rw [HY7.out]
                  exact (((((HX7.out.set 0 _).set 1 _).set 2 _).set 3 _).set 4 _).copy (by simp)
                case measure => simp [intOf]; omega
              · have ht7 : ((m : Int) == 7) = false := by rw [beq_eq_false_iff_ne]; omega
                have H7 := Lib.hid h7; clear h7
                go_wp2
                go_roundw
                case rel =>
                  refine ⟨q + 1, by omega, by go_num, ?_, (HH.out.set _ _).copy (by rw [HC_set, HF.out]), HR.out.other _ _ (by simp; omega), HB.out.setCell (by simp; omega) _⟩
                  have hy7 : tIter ((q + 1) / 8 + 1) L = y := by
                    have := HM.out; have := H7.out
                    rw [show (q + 1) / 8 + 1 = q / 8 + 1 by omega]
                    exact HY.out
                  rw [hy7]
                  exact HX.out.other _ _ hXH
                case measure => simp [intOf]; omega
            · obtain rfl : q = 32 := by omega
              have hH' : Blk wr H (HC (sumW bs)) 23 := hH.copy (by rw [front_all _ (sumW_length _)])
              have hsz : (Try.prog.info? 23).map (·.size) = some (HC (sumW bs)).size := by rw [HC_size, sumW_length]; kernel_rfl
              have hsz2 : (HC (List.replicate 32 0)).size = (HC (sumW bs)).size := by rw [HC_size, HC_size, sumW_length]; rfl
              generalize hout : sumW bs = out at *
              have HO := Lib.hid hout
              have HH := Lib.hid hH'; have HR := Lib.hid hR; have HB := Lib.hid hB; have S1 := Lib.hid hsz; have S2 := Lib.hid hsz2
              clear hX hH hH' hR hB hsz hsz2 hout
              go_wp2_with (first
                | (refine wpList_load_row rfl 23 _ rfl H rfl 23 (HC out) (0, 0) _ HH.out Try.underlying23 rfl S1.out ?_)
                | (refine wpList_store_row rfl 23 _ _ rfl w.heap.size (HC out) rfl rfl 23 (HC (List.replicate 32 0)) HR.out S1.out S2.out (HC_one _) ?_))
              exact bodyPost_ret (v := HV out) (results_cell_row rfl _ _ w.heap.size _ _ (0, 0) _ rfl (HR.out.setRow _) Try.underlying23 rfl S1.out) rfl
                ⟨by rw [HO.out], below_setRow HB.out _ (Nat.le_refl _)⟩
    · have ht : (((N : Nat) : Int) % 8 != 0) = true := by simp; omega
      have HO := Lib.hid hO; have HR := Lib.hid hR; have HB := Lib.hid hB; have H8 := Lib.hid h8
      clear hO hR hB h8 hN
      go_wp2_with (at_builtin
                   refine wpList_append8 rfl (.tmp 19) (.tmp 20) 24 rfl (w.heap.size + 1) 5 Try.underlying24 info8 (.slice (some ⟨g, 0, none⟩) N cp) (padded bs n) rfl ?e1 _ _ _ [0] rfl ?e2 ?e3 ?e4 ?e5 ?_
                   case e1 => exact HO.out.below ((Below.refl _ _).alloc (Nat.le_refl _) _)
                   case e2 => exact Row8.litAt [0] _ rfl rfl rfl (small8 _ (by simp))
                   case e3 => exact fun e => by cases e
                   case e4 => rw [padded_length]; simp; omega
                   case e5 => simp; omega
                   intro v3 w3 hown3 hg3 hb3
                   have hsz3 := hg3.size
                   have HO3 := Lib.hid hown3; have HB3 := Lib.hid hb3
                   clear hown3 hg3 hb3)
      go_roundw
      case rel =>
        obtain ⟨g3, cap3, rfl, hg3a, hg3b, hc3a, hc3b⟩ := HO3.out.hasN (N + 1) (by simp [padded_length]; have := HN.out; omega) (by omega)
        refine ⟨n + 1, N + 1, g3, cap3, rfl, by have := HN.out; omega, by have := HN.out; have := H8.out; omega, ?_, (HR.out.alloc _).below HB3.out (by omega), (HB.out.alloc (by omega) _).lift HB3.out (by omega), ?_⟩
        · rw [← padded_succ]; exact HO3.out
        · simp at hsz3; omega
      case measure =>
        obtain ⟨g3, cap3, rfl, hg3a, hg3b, hc3a, hc3b⟩ := HO3.out.hasN (N + 1) (by simp [padded_length]; have := HN.out; omega) (by omega)
        have := HN.out; have := H8.out
        simp [lenOf]
        omega
end Go.Proofs.Ytmijaghaombbpaa
