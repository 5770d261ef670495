/-
  Bytes as rows: the walk of the document's Unpack.
-/
import Derived.Test.YtgghkeinkcpboaaSame
namespace Go.Proofs.Ytgghkeinkcpboaa
set_option maxRecDepth 100000
open Go.RowKit
set_option linter.unusedVariables false
set_option linter.unusedSimpArgs false

set_option maxRecDepth 100000 in
set_option maxHeartbeats 4000000 in
theorem runpack_any (a : Option Addr) (l c : Nat) (b : List UInt8) (w : World) (hp : RowC w a l c b) (hlc : l ≤ c) (hs : b.length ≤ 100000) :
    Calls Try.prog 16 #[.slice a l c] w fun e w' => ∃ v, e = .returned (.tuple #[v, .int .i64 (unpackE b)]) ∧ OwnR w' w.heap.size 24 v (unpackL b) ∧ Below w.heap.size w w' := by
  have hl := hp.row.len_eq
  subst hl
  match b, hp, hlc, hs with
  | [], hp, hlc, hs =>
    obtain ⟨h1, h2⟩ := unpack_none (b := []) rfl
    rw [h1, h2]
    clear hp
    go_enter Try.func16, Try.ntmps16
    go_wp2
    refine bodyPost_ret (results_tmp2 rfl _ _ _) rfl ?_
    exact ⟨_, rfl, OwnR.nil _ _ _, Below.refl _ _⟩
  | x :: r, hp, hlc, hs =>
    obtain ⟨b0, off, rfl, hc⟩ : ∃ b0 off, a = some ⟨b0, off, none⟩ ∧ ∀ (i : Nat) (h : i < (x :: r).length), w.cell? ⟨b0, off + i, none⟩ = some (.int .u8 (Bt (x :: r)[i])) := by
      rcases hp.row.cells with h1 | h1
      · cases h1
      · exact h1
    have c0 : w.cell? ⟨b0, off, none⟩ = some (.int .u8 (Bt x)) := hc 0 (by simp)
    obtain ⟨n, hn⟩ : ∃ n, (x :: r).length = n := ⟨_, rfl⟩
    have hn1 : n = r.length + 1 := by rw [← hn]; rfl
    rw [hn] at hp hlc hs ⊢
    have j0 : ¬ (n : Int) < 1 := by omega
    have j1 : (0 : Int) < (n : Int) := by omega
    have j2 : 0 < n := by omega
    obtain ⟨X, hX⟩ : ∃ X, x.toNat = X := ⟨_, rfl⟩
    have hXb : Bt x = (X : Int) := by unfold Bt; rw [hX]
    have hX256 : X < 256 := by rw [← hX]; exact UInt8.toNat_lt x
    rw [hXb] at c0
    obtain ⟨hwX, _, _⟩ := wraps3 X X hX256 hX256
    by_cases h60 : ¬ X ≤ 60
    · obtain ⟨h1, h2⟩ := unpack_none (b := x :: r) (by simp only [unpackW]; rw [hX, if_neg h60])
      rw [h1, h2]
      have hgt : (X : Int) > 60 := by omega
      clear hp hc h1 h2
      go_enter Try.func16, Try.ntmps16
      go_wp2
      refine bodyPost_ret (results_tmp2 rfl _ _ _) rfl ?_
      exact ⟨_, rfl, OwnR.nil _ _ _, Below.refl _ _⟩
    have h60 : X ≤ 60 := Decidable.not_not.1 h60
    have hgt : ¬ (X : Int) > 60 := by omega
    obtain ⟨iE, hiE, hcE⟩ := elemI
    have HP := Lib.hid hp; have HLC := Lib.hid hlc; have HX := Lib.hid hX; have HNN := Lib.hid hn; have HSM := Lib.hid hs; have HCC := Lib.hid hc
    clear hp hc hlc hX hXb hn1 hs hn
    go_enter Try.func16, Try.ntmps16
    go_wp2
    go_loopw [4, 5, 6, 7] (fun u4 at_ i _ wr => ∃ (k : Nat) (L : List (List UInt8)) (r1 : List UInt8) (A : Nat), k ≤ X ∧ i = .int .i64 k ∧ takeR r k = some (L, r1) ∧ at_ = .int .i64 A ∧ A + r1.length = n ∧ (x :: r).drop A = r1 ∧ 1 ≤ A ∧ OwnR wr w.heap.size 24 u4 L ∧ Below w.heap.size w wr) (fun _ _ i _ _ => X - (intOf i).toNat)
    case atStart =>
      exact ⟨0, [], r, 1, Nat.zero_le _, rfl, rfl, rfl, by have h := HNN.out; simp at h; omega, rfl, Nat.le_refl _, OwnR.nil _ _ _, Below.refl _ _⟩
    case round =>
      obtain ⟨k, L, r1, A, hk, rfl, htk, rfl, hA, hdr, hA1, hO, hB⟩ := hrel
      have cX := (hB.cell (block_lt_of_cell c0)).trans c0
      have hAn : A ≤ n := by omega
      have hq : n - A = r1.length := by omega
      have hs0 := subs n A (by have := HSM.out; omega) hAn
      rw [hq] at hs0
      have HS0 := Lib.hid hs0
      clear hs0
      by_cases hlt : k < X
      · have hr1 : r1.length ≤ 100000 := by have := HSM.out; omega
        by_cases h2 : r1.length < 2
        · obtain ⟨e1, e2⟩ := unpack_none (unpack_stop (c := x) (by rw [HX.out]; exact hlt) htk (stepR_short h2))
          have hlt2 : (r1.length : Int) < 2 := by omega
          have hkX : (k : Int) < (X : Int) := by omega
          have HB := Lib.hid hB; have HE := Lib.hid (And.intro e1 e2)
          clear hB hO e1 e2 hdr htk
          obtain ⟨hs1, hs2⟩ := HS0.out
          go_wp2
          refine bodyPost_ret (results_tmp2 rfl _ _ _) rfl ?_
          rw [HE.out.1, HE.out.2]
          exact ⟨_, rfl, OwnR.nil _ _ _, HB.out⟩
        obtain ⟨hb, lb, r2, rfl⟩ : ∃ hb lb r2, r1 = hb :: lb :: r2 := by
          match r1, h2 with
          | [], h => exact absurd (by simp) h
          | [_], h => exact absurd (by simp) h
          | x :: y :: z, _ => exact ⟨x, y, z, rfl⟩
        obtain ⟨m, hm⟩ : ∃ m, (hb :: lb :: r2).length = m := ⟨_, rfl⟩
        have hm2 : m = r2.length + 2 := by rw [← hm]; rfl
        rw [hm] at hA HS0 h2
        have g0 : (x :: r)[A]? = some hb := by
          have h := congrArg (fun l => l[0]?) hdr
          simp only [List.getElem?_drop, Nat.add_zero] at h; exact h
        have g1 : (x :: r)[A + 1]? = some lb := by
          have h := congrArg (fun l => l[1]?) hdr
          simp only [List.getElem?_drop] at h; exact h
        have d0 : w.cell? ⟨b0, off + A, none⟩ = some (.int .u8 (Bt hb)) := by
          have h := HCC.out A (by rw [HNN.out]; omega)
          rw [List.getElem?_eq_getElem (by rw [HNN.out]; omega)] at g0
          rw [Option.some.inj g0] at h; exact h
        have d1 : w.cell? ⟨b0, off + (A + 1), none⟩ = some (.int .u8 (Bt lb)) := by
          have h := HCC.out (A + 1) (by rw [HNN.out]; omega)
          rw [List.getElem?_eq_getElem (by rw [HNN.out]; omega)] at g1
          rw [Option.some.inj g1] at h; exact h
        have cd0 := ((below_drew1 hB).cell (block_lt_of_cell d0)).trans d0
        have cd1 := ((below_drew1 hB).cell (block_lt_of_cell d1)).trans d1
        obtain ⟨H, hH⟩ : ∃ H, hb.toNat = H := ⟨_, rfl⟩
        obtain ⟨W, hW⟩ : ∃ H, lb.toNat = H := ⟨_, rfl⟩
        have hH256 : H < 256 := by rw [← hH]; exact UInt8.toNat_lt hb
        have hW256 : W < 256 := by rw [← hW]; exact UInt8.toNat_lt lb
        have eH : Bt hb = (H : Int) := by unfold Bt; rw [hH]
        have eW : Bt lb = (W : Int) := by unfold Bt; rw [hW]
        rw [eH] at cd0
        rw [eW] at cd1
        have hkX : (k : Int) < (X : Int) := by omega
        have hlt2 : ¬ (m : Int) < 2 := by omega
        have an : (A : Int) < (n : Int) := by omega
        have an2 : A < n := by omega
        obtain ⟨T, hT⟩ : ∃ T, H * 256 + W = T := ⟨_, rfl⟩
        have hT64 : T < 65536 := by omega
        have hst : stepR (hb :: lb :: r2) = if T ≤ 2000 ∧ T ≤ r2.length then some (r2.take T, r2.drop T) else none := by simp only [stepR]; rw [hH, hW, hT]
        obtain ⟨p, hp⟩ : ∃ p, r2.take T = p := ⟨_, rfl⟩
        have hd2 : (x :: r).drop (A + 2) = r2 := by
          have h := congrArg (List.drop 2) hdr
          rw [List.drop_drop] at h; exact h
        obtain ⟨A1, hA1e⟩ : ∃ q, A + 1 = q := ⟨_, rfl⟩
        obtain ⟨A2, hA2e⟩ : ∃ q, A + 2 = q := ⟨_, rfl⟩
        obtain ⟨A3, hA3e⟩ : ∃ q, A2 + T = q := ⟨_, rfl⟩
        rw [hA1e] at cd1
        have an3 : (A1 : Int) < (n : Int) := by omega
        have an4 : A1 < n := by omega
        rw [hA2e] at hd2
        have HSW := Lib.hid (show IntKind.i64.wrap ((A : Int) + 1) = ((A + 1 : Nat) : Int) ∧ RowKit.wrap64 ((A : Int) + 1) = ((A + 1 : Nat) : Int) from sums A 1 (by have := HSM.out; omega) (by omega)); have HSW2 := Lib.hid (show IntKind.i64.wrap ((A : Int) + 2) = ((A + 2 : Nat) : Int) ∧ RowKit.wrap64 ((A : Int) + 2) = ((A + 2 : Nat) : Int) from sums A 2 (by have := HSM.out; omega) (by omega)); have HSW3 := Lib.hid (sums A2 T (by have := HSM.out; omega) (by omega)); have HSB := Lib.hid (subs n A2 (by have := HSM.out; omega) (by omega))
        have hor : bits .or .i64 ((H : Int) * 256) (W : Int) = (T : Int) := by rw [or_join H W hW256 (by omega), hT]
        have HTK := Lib.hid htk; have HO := Lib.hid hO; have HB := Lib.hid hB; have HST := Lib.hid hst; have HM2 := Lib.hid hm2; have HPT0 := Lib.hid hp; have HD2 := Lib.hid hd2; have HA2E := Lib.hid hA2e; have HA3E := Lib.hid hA3e; have HAM := Lib.hid hA; have HA1E := Lib.hid hA1e; have HW3 := Lib.hid (wraps3 H W hH256 hW256); have HT64 := Lib.hid hT64; have HHA1 := Lib.hid hA1
        clear htk hO hB hst hm2 hr1 d0 d1 eH eW hH hW h2 hT hT64 g0 g1 hdr hd2 hA2e hA3e hA hA1e hm hq hp hA1 hH256 hW256
        by_cases hT2 : T > 2000
        · have hTi : (T : Int) > 2000 := by omega
          have HE := Lib.hid (unpack_none (unpack_stop (c := x) (by rw [HX.out]; exact hlt) HTK.out (by rw [HST.out, if_neg (by omega)])))
          obtain ⟨hw1, hw2, hw3⟩ := HW3.out
          obtain ⟨hs1, hs2⟩ := HS0.out
          obtain ⟨hsw1, hsw2⟩ := HSW.out
          rw [HA1E.out] at hsw1 hsw2
          obtain ⟨hsx1, hsx2⟩ := HSW2.out
          rw [HA2E.out] at hsx1 hsx2
          clear hs2 hsw2 hsx2
          go_wp2_with fail
          refine region_tail 13 (by kernel_rfl) (by kernel_rfl) ?_
          simp only [List.take_succ_cons, List.take_zero, List.drop_succ_cons, List.drop_zero]
          still_step
          still_step
          still_step
          still_step
          still_step
          still_step
          still_step
          still_step
          still_step
          still_step
          still_step
          still_step
          still_step
          refine wpStill_nil ?_
          go_wp2
          refine bodyPost_ret (results_tmp2 rfl _ _ _) rfl ?_
          rw [HE.out.1, HE.out.2]
          exact ⟨_, rfl, OwnR.nil _ _ _, below_drew1 HB.out⟩
        have hTi : ¬ (T : Int) > 2000 := by omega
        obtain ⟨q, hqq⟩ : ∃ q, n - A2 = q := ⟨_, rfl⟩
        have hqr : q = r2.length := by have h1 := HAM.out; have h2 := HM2.out; have h3 := HA2E.out; omega
        rw [hqq] at HSB
        have HQR := Lib.hid hqr
        clear hqq hqr
        by_cases hTr : T > q
        · have hTj : (T : Int) > (q : Int) := by omega
          have HE := Lib.hid (unpack_none (unpack_stop (c := x) (by rw [HX.out]; exact hlt) HTK.out (by rw [HST.out, if_neg (by have := HQR.out; omega)])))
          obtain ⟨hw1, hw2, hw3⟩ := HW3.out
          obtain ⟨hs1, hs2⟩ := HS0.out
          obtain ⟨hsw1, hsw2⟩ := HSW.out
          rw [HA1E.out] at hsw1 hsw2
          obtain ⟨hsx1, hsx2⟩ := HSW2.out
          rw [HA2E.out] at hsx1 hsx2
          clear hs2 hsw2 hsx2
          obtain ⟨hsb1, hsb2⟩ := HSB.out
          clear hsb2
          go_wp2_with fail
          refine region_tail 13 (by kernel_rfl) (by kernel_rfl) ?_
          simp only [List.take_succ_cons, List.take_zero, List.drop_succ_cons, List.drop_zero]
          still_step
          still_step
          still_step
          still_step
          still_step
          still_step
          still_step
          still_step
          still_step
          still_step
          still_step
          still_step
          still_step
          refine wpStill_nil ?_
          go_wp2
          refine bodyPost_ret (results_tmp2 rfl _ _ _) rfl ?_
          rw [HE.out.1, HE.out.2]
          exact ⟨_, rfl, OwnR.nil _ _ _, below_drew1 HB.out⟩
        · have hTj : ¬ (T : Int) > (q : Int) := by omega
          have HNX := Lib.hid (takeR_succ HTK.out (by rw [HST.out, if_pos (by have := HQR.out; omega)]))
          have HPT : Hid (p.length = T) := Lib.hid (by rw [← HPT0.out, List.length_take]; have := HQR.out; omega)
          have HPS : Hid (p.length ≤ 2000) := Lib.hid (by rw [HPT.out]; omega)
          have HLL : Hid (L.length ≤ 1000000) := Lib.hid (by rw [takeR_len HTK.out]; omega)
          have HA3 : Hid (A2 ≤ A3 ∧ A3 ≤ n ∧ A3 - A2 = T ∧ ((x :: r).drop A2).take T = p) := Lib.hid ⟨by have := HA3E.out; omega, by have h1 := HA3E.out; have h2 := HQR.out; have h3 := HAM.out; have h4 := HM2.out; have h5 := HA2E.out; omega, by have := HA3E.out; omega, by rw [HD2.out]; exact HPT0.out⟩
          obtain ⟨hw1, hw2, hw3⟩ := HW3.out
          obtain ⟨hs1, hs2⟩ := HS0.out
          obtain ⟨hsw1, hsw2⟩ := HSW.out
          rw [HA1E.out] at hsw1 hsw2
          obtain ⟨hsx1, hsx2⟩ := HSW2.out
          rw [HA2E.out] at hsx1 hsx2
          clear hs2 hsw2 hsx2
          obtain ⟨hsb1, hsb2⟩ := HSB.out
          clear hsb2
          go_wp2_with fail
          refine region_tail 13 (by kernel_rfl) (by kernel_rfl) ?_
          simp only [List.take_succ_cons, List.take_zero, List.drop_succ_cons, List.drop_zero]
          still_step
          still_step
          still_step
          still_step
          still_step
          still_step
          still_step
          still_step
          still_step
          still_step
          still_step
          still_step
          still_step
          refine wpStill_nil ?_
          clear hw1 hw2 hw3 hs1 hsw1 hor cd0 cd1 cX
          obtain ⟨hsy1, hsy2⟩ := HSW3.out
          rw [HA3E.out] at hsy1 hsy2
          clear hsy2
          go_wp2_with (first
            | (refine wpl_gen (fun w2 hw2 => ?_)
               have hb2 : Below wr.heap.size wr w2 := by rw [hw2]; exact (below_drew1 (Below.refl _ _)).next (Nat.le_refl _) _
               have hown : Own8 w2 wr.heap.size 5 (.slice (some ⟨wr.heap.size, 0, none⟩) 0 0) [] := by rw [hw2]; exact Own8.litAt [] _ rfl rfl rfl (Nat.le_refl _) (small8 _ (by simp))
               refine wpList_cut rfl (.tmp 58) (.tmp 59) (.tmp 62) 24 rfl elemB hiE hcE rfl HP.out HLC.out A2 A3 rfl rfl HA3.out.1 HA3.out.2.1 ?_
               intro a3 h3 _
               rw [HA3.out.2.2.1] at h3 ⊢
               rw [HA3.out.2.2.2] at h3
               obtain ⟨c3, hc3⟩ : ∃ q, c - A2 = q := ⟨_, rfl⟩
               rw [hc3] at h3 ⊢
               have HR3 := Lib.hid h3; have HB2 := Lib.hid hb2; have HE8 := Lib.hid hown
               clear hw2 hb2 hown h3 hc3)
            | (at_builtin
               refine wpList_append8 rfl (.tmp 57) (.tmp 63) 24 rfl wr.heap.size 5 Try.underlying24 info8 _ [] rfl HE8.out a3 T c3 p rfl (HR3.out.below (HB.out.later HB2.out (Nat.le_refl _))).row HR3.out.nil (by have := HPS.out; simp only [List.length_nil]; omega) HB2.out.size ?_
               intro v4 w4 hO4 hg4 hb4
               rw [List.nil_append] at hO4
               obtain ⟨a4, c4, rfl, hr4⟩ := hO4.toRow0 (by have := HPS.out; omega)
               rw [HPT.out] at hr4 ⊢
               have hb5 := HB2.out.trans hb4
               have HO4 := Lib.hid (HO.out.below hb5); have HB4 := Lib.hid (HB.out.later hb5 (Nat.le_refl _)); have HR4 := Lib.hid (hr4.base HB.out.size)
               clear hO4 hg4 hb4 hr4 hb5 HO HB HB2 HR3 HE8)
            | (at_builtin
               refine wpList_appendR rfl (.tmp 56) (.tmp 65) 22 rfl w.heap.size 24 Try.underlying22 infoR u4 L rfl (HO4.out.below ((Below.refl _ _).next (Nat.le_refl _) _)) w4.heap.size a4 T c4 p rfl (by first | exact (Blk.new w4 #[.slice a4 T c4] _).cell 0 | rfl) (HR4.out.below ((Below.refl _ _).next (Nat.le_refl _) _)) HLL.out (((Below.refl _ _).next (Nat.le_refl _) _ : Below w4.heap.size w4 _).size |> Nat.le_trans HB4.out.size) ?_
               intro v5 w5 hO5 hg5 hb5
               have hb6 : Below w.heap.size w w5 := (HB4.out.next (Nat.le_refl _) (.cells #[.slice a4 T c4] 24)).trans hb5
               have HO5 := Lib.hid hO5; have HB5 := Lib.hid hb6
               clear hO5 hg5 hb5 hb6 HO4 HB4 HR4))
          go_roundw
          case rel =>
            refine ⟨k + 1, L ++ [p], r2.drop T, A3, by omega, by go_num, ?_, rfl, ?_, ?_, ?_, HO5.out, HB5.out⟩
            · rw [← HPT0.out]; exact HNX.out
            · rw [List.length_drop]; have h1 := HA3E.out; have h2 := HQR.out; have h3 := HAM.out; have h4 := HM2.out; have h5 := HA2E.out; omega
            · rw [← HA3E.out, ← List.drop_drop, HD2.out]
            · have h1 := HA3E.out; have h5 := HA2E.out; omega
          case measure => simp [intOf]; omega
      · have hkX : k = X := by omega
        subst hkX
        have HO := Lib.hid hO; have HB := Lib.hid hB; have HTK := Lib.hid htk
        have hkk : ¬ (k : Int) < (k : Int) := by omega
        clear hO hB htk hdr
        by_cases hr1 : r1 = []
        · subst hr1
          have HE := Lib.hid (unpack_some (b := x :: r) (L := L) (by simp only [unpackW]; rw [HX.out, if_pos h60, HTK.out]; rfl))
          have hAn : A = n := by simp at hA; exact hA
          subst hAn
          go_wp2
          refine bodyPost_ret (results_tmp2 rfl _ _ _) rfl ?_
          rw [HE.out.1, HE.out.2]
          exact ⟨_, rfl, HO.out, HB.out⟩
        · have HE := Lib.hid (unpack_none (b := x :: r) (by simp only [unpackW]; rw [HX.out, if_pos h60, HTK.out]; simp [hr1]))
          have hne : ¬ (A : Int) = (n : Int) := by have := List.length_pos_iff.2 hr1; omega
          go_wp2
          refine bodyPost_ret (results_tmp2 rfl _ _ _) rfl ?_
          rw [HE.out.1, HE.out.2]
          exact ⟨_, rfl, OwnR.nil _ _ _, HB.out⟩
end Go.Proofs.Ytgghkeinkcpboaa
