/-
  Bytes as rows: the walks of bytes.Clone, of Unpack, the program's and the document's, and of Same.
-/
import Derived.Test.YtgghkeinkcpboaaTakeMath
import Derived.Test.YtgghkeinkcpboaaPackN
import Derived.Test.YtgghkeinkcpboaaDrew
import Derived.WalkSpells
namespace Go.Proofs.Ytgghkeinkcpboaa
set_option maxRecDepth 100000
open Go.RowKit
set_option linter.unusedVariables false
set_option linter.unusedSimpArgs false

theorem infoR : (Try.prog.info? 24).map (fun i => (i.zero, i.size, i.bytes)) = some (some (.slice none 0 0), 1, 24) := by kernel_rfl
theorem elemB : Try.prog.underlying 24 = some (.slice (Try.prog.elem 24)) := by kernel_rfl
theorem elemI : ∃ i, Try.prog.info? (Try.prog.elem 24) = some i ∧ Try.prog.cellsOf (Try.prog.elem 24) = 1 := by
  obtain ⟨i, hi, _, _, _⟩ := info_parts info8
  exact ⟨i, by rw [show Try.prog.elem 24 = 5 by kernel_rfl]; exact hi, by kernel_rfl⟩
theorem wraps3 (H W : Nat) (h : H < 256) (k : W < 256) : IntKind.i64.wrap (H : Int) = (H : Int) ∧ IntKind.i64.wrap (W : Int) = (W : Int) ∧ IntKind.i64.wrap ((H : Int) * 256) = (H : Int) * 256 := ⟨IntWalk.i64_in _ (by omega), IntWalk.i64_in _ (by omega), IntWalk.i64_in _ (by omega)⟩
theorem clone_any (a : Option Addr) (n c : Nat) (bs : List UInt8) (w : World) (hp : RowC w a n c bs) (hs : bs.length ≤ 1000000) :
    Calls Try.prog 22 #[.slice a n c] w fun e w' => ∃ a' c', e = .returned (.slice a' n c') ∧ Row0 w' w.heap.size a' n c' bs ∧ Below w.heap.size w w' := by
  have qT : ∀ (w : World) (a : Option Addr) (n c : Nat), (binOp .eql 24 (.slice a n c) (.slice none 0 0)).run Try.prog w = .ok (.bool a.isNone) w := fun w a n c => Lib.run_eql_slice_nil w _ _ a n c 0 0 Try.underlying24
  rcases ha : a.isNone with _ | _
  · have hn := hp.row.len_eq
    subst hn
    have hnn : a = none → False := fun h => by rw [h] at ha; cases ha
    have HP := Lib.hid hp; have HS := Lib.hid hs; have HN := Lib.hid hnn
    clear hp hs hnn
    go_enter Try.func22, Try.ntmps22
    go_wp2_with (at_builtin
                 refine wpList_append8 rfl (.tmp 5) (.tmp 6) 24 rfl w.heap.size 5 Try.underlying24 info8 (.slice (some ⟨w.heap.size, 0, none⟩) 0 0) [] rfl (Own8.litAt [] _ rfl rfl rfl (Nat.le_refl _) (small8 _ (by simp))) _ _ _ bs rfl (HP.out.row.below ((Below.refl _ _).next (Nat.le_refl _) _)) (fun e => (HN.out e).elim) (by have := HS.out; simp only [List.length_nil]; omega) (by simp) ?_
                 intro v2 w2 hown hg hb
                 rw [List.nil_append] at hown
                 have hb2 := ((Below.refl _ w).next (Nat.le_refl _) (.cells #[] 5)).trans hb
                 obtain ⟨a', c', e1, h1⟩ := hown.toRow0 HS.out
                 subst e1
                 have HO := Lib.hid h1; have HB := Lib.hid hb2
                 clear hown hg hb hb2 h1)
    go_ret
    exact ⟨_, _, rfl, HO.out, HB.out⟩
  · have hnn : a = none := by cases a with
      | none => rfl
      | some x => cases ha
    have hb : bs = [] := by
      rcases hp.row.cells with h1 | ⟨b, off, h1, _⟩
      · exact h1
      · rw [hnn] at h1; cases h1
    have hn : n = 0 := by rw [hp.row.len_eq, hb]; rfl
    subst hn
    have HB := Lib.hid hb
    clear hp hnn hb hs
    go_enter Try.func22, Try.ntmps22
    go_wp2
    go_ret
    exact ⟨none, 0, rfl, ⟨⟨by rw [HB.out]; exact Row8.nil _ _, fun _ => rfl⟩, fun h => absurd HB.out h⟩, Below.refl _ _⟩

set_option maxRecDepth 100000 in
set_option maxHeartbeats 2000000 in
theorem unpack_any (a : Option Addr) (l c : Nat) (b : List UInt8) (w : World) (hp : RowC w a l c b) (hlc : l ≤ c) (hs : b.length ≤ 200000) :
    Calls Try.prog 15 #[.slice a l c] w fun e w' => ∃ v, e = .returned (.tuple #[v, .int .i64 (unpackE b)]) ∧ OwnR w' w.heap.size 24 v (unpackL b) ∧ Below w.heap.size w w' := by
  have hl := hp.row.len_eq
  subst hl
  match b, hp, hlc, hs with
  | [], hp, hlc, hs =>
    obtain ⟨h1, h2⟩ := unpack_none (b := []) rfl
    rw [h1, h2]
    clear hp
    go_enter Try.func15, Try.ntmps15
    go_wp2
    refine bodyPost_ret (results_tmp2 rfl _ _ _) rfl ?_
    exact ⟨_, rfl, OwnR.nil _ _ _, Below.refl _ _⟩
  | x :: r, hp, hlc, hs =>
    obtain ⟨b0, off, rfl, hc⟩ : ∃ b0 off, a = some ⟨b0, off, none⟩ ∧ ∀ (i : Nat) (h : i < (x :: r).length), w.cell? ⟨b0, off + i, none⟩ = some (.int .u8 (Bt (x :: r)[i])) := by
      rcases hp.row.cells with h1 | h1
      · cases h1
      · exact h1
    have c0 : w.cell? ⟨b0, off, none⟩ = some (.int .u8 (Bt x)) := hc 0 (by simp)
    obtain ⟨n, hn⟩ : ∃ n, (x :: r).length = n := ⟨_, rfl⟩
    have hn1 : n = r.length + 1 := by rw [← hn]; rfl
    rw [hn] at hp hlc ⊢
    have j0 : ¬ (n : Int) = 0 := by omega
    have j1 : (0 : Int) < (n : Int) := by omega
    have j2 : ¬ n = 0 := by omega
    obtain ⟨X, hX⟩ : ∃ X, x.toNat = X := ⟨_, rfl⟩
    have hXb : Bt x = (X : Int) := by unfold Bt; rw [hX]
    have hX256 : X < 256 := by rw [← hX]; exact UInt8.toNat_lt x
    rw [hXb] at c0
    by_cases h60 : ¬ X ≤ 60
    · obtain ⟨h1, h2⟩ := unpack_none (b := x :: r) (by simp only [unpackW]; rw [hX, if_neg h60])
      rw [h1, h2]
      have hgt : (X : Int) > 60 := by omega
      clear hp hc h1 h2
      go_enter Try.func15, Try.ntmps15
      go_wp2
      refine bodyPost_ret (results_tmp2 rfl _ _ _) rfl ?_
      exact ⟨_, rfl, OwnR.nil _ _ _, Below.refl _ _⟩
    have h60 : X ≤ 60 := Decidable.not_not.1 h60
    have hgt : ¬ (X : Int) > 60 := by omega
    obtain ⟨iE, hiE, hcE⟩ := elemI
    have HP := Lib.hid hp; have HLC := Lib.hid hlc; have HX := Lib.hid hX; have HR := Lib.hid hn1; have HSM := Lib.hid hs
    clear hp hc hlc hX hXb hn1 hs hn
    go_enter Try.func15, Try.ntmps15
    go_wp2_with (first
      | (refine wpList_from rfl (.tmp 16) (.const (.int .i64 1)) 24 rfl elemB hiE hcE rfl HP.out HLC.out 1 rfl (by have := HR.out; omega) ?_
         intro a1 h1 _
         have HR1 := Lib.hid h1
         clear h1))
    go_loopw [4, 5, 6, 21] (fun u5 rest _ i wr => ∃ (k : Nat) (L : List (List UInt8)) (r1 : List UInt8) (a' : Option Addr) (c' : Nat), k ≤ X ∧ i = .int .u8 k ∧ takeR r k = some (L, r1) ∧ rest = .slice a' r1.length c' ∧ RowC w a' r1.length c' r1 ∧ r1.length ≤ c' ∧ OwnR wr w.heap.size 24 u5 L ∧ Below w.heap.size w wr) (fun _ _ _ i _ => X - (intOf i).toNat)
    case atStart =>
      have h1 := HR1.out
      have h2 := HR.out
      refine ⟨0, [], r, a1, c - 1, Nat.zero_le _, rfl, rfl, ?_, ?_, ?_, OwnR.nil _ _ _, Below.refl _ _⟩
      · rw [show n - 1 = r.length by omega]
      · rw [show n - 1 = r.length by omega] at h1; exact h1
      · have := HLC.out; omega
    case round =>
      obtain ⟨k, L, r1, a', c', hk, rfl, htk, rfl, hrow, hrc, hO, hB⟩ := hrel
      have cX := (hB.cell (block_lt_of_cell c0)).trans c0
      by_cases hlt : k < X
      · have hr1 : r1.length ≤ 200000 := by
          have := (takeR_back htk).1
          have h3 := congrArg List.length this
          rw [List.length_append] at h3
          have := HSM.out; simp at this; omega
        by_cases h2 : r1.length < 2
        · obtain ⟨e1, e2⟩ := unpack_none (unpack_stop (c := x) (by rw [HX.out]; exact hlt) htk (stepR_short h2))
          have hlt2 : (r1.length : Int) < 2 := by omega
          have hkX : (k : Int) < (X : Int) := by omega
          have HB := Lib.hid hB; have HE := Lib.hid (And.intro e1 e2)
          clear hB hO hrow e1 e2
          go_wp2
          refine bodyPost_ret (results_tmp2 rfl _ _ _) rfl ?_
          rw [HE.out.1, HE.out.2]
          exact ⟨_, rfl, OwnR.nil _ _ _, HB.out⟩
        obtain ⟨hb, lb, r2, rfl⟩ : ∃ hb lb r2, r1 = hb :: lb :: r2 := by
          match r1, h2 with
          | [], h => exact absurd (by simp) h
          | [_], h => exact absurd (by simp) h
          | x :: y :: z, _ => exact ⟨x, y, z, rfl⟩
        obtain ⟨bA, oA, rfl, hcA⟩ : ∃ b0 off, a' = some ⟨b0, off, none⟩ ∧ ∀ (i : Nat) (h : i < (hb :: lb :: r2).length), w.cell? ⟨b0, off + i, none⟩ = some (.int .u8 (Bt (hb :: lb :: r2)[i])) := by
          rcases hrow.row.cells with h1 | h1
          · cases h1
          · exact h1
        have d0 : w.cell? ⟨bA, oA, none⟩ = some (.int .u8 (Bt hb)) := hcA 0 (by simp)
        have d1 : w.cell? ⟨bA, oA + 1, none⟩ = some (.int .u8 (Bt lb)) := hcA 1 (by simp)
        have cd0 := ((below_drew1 hB).cell (block_lt_of_cell d0)).trans d0
        have cd1 := ((below_drew1 hB).cell (block_lt_of_cell d1)).trans d1
        obtain ⟨H, hH⟩ : ∃ H, hb.toNat = H := ⟨_, rfl⟩
        obtain ⟨W, hW⟩ : ∃ H, lb.toNat = H := ⟨_, rfl⟩
        have hH256 : H < 256 := by rw [← hH]; exact UInt8.toNat_lt hb
        have hW256 : W < 256 := by rw [← hW]; exact UInt8.toNat_lt lb
        have eH : Bt hb = (H : Int) := by unfold Bt; rw [hH]
        have eW : Bt lb = (W : Int) := by unfold Bt; rw [hW]
        rw [eH] at cd0
        rw [eW] at cd1
        obtain ⟨m, hm⟩ : ∃ m, (hb :: lb :: r2).length = m := ⟨_, rfl⟩
        have hm2 : m = r2.length + 2 := by rw [← hm]; rfl
        rw [hm] at hrow hrc
        have hlt2 : ¬ (m : Int) < 2 := by omega
        have m0 : (0 : Int) < (m : Int) := by omega
        have m1 : (1 : Int) < (m : Int) := by omega
        have n0 : 0 < m := by omega
        have n1 : 1 < m := by omega
        have hkX : (k : Int) < (X : Int) := by omega
        obtain ⟨T, hT⟩ : ∃ T, H * 256 + W = T := ⟨_, rfl⟩
        have hT64 : T < 65536 := by omega
        have hor : bits .or .i64 ((H : Int) * 256) (W : Int) = (T : Int) := by rw [or_join H W hW256 (by omega), hT]
        have hst : stepR (hb :: lb :: r2) = if T ≤ 2000 ∧ T ≤ r2.length then some (r2.take T, r2.drop T) else none := by simp only [stepR]; rw [hH, hW, hT]
        have HTK := Lib.hid htk; have HROW := Lib.hid hrow; have HRC := Lib.hid hrc; have HO := Lib.hid hO; have HB := Lib.hid hB; have HST := Lib.hid hst; have HM2 := Lib.hid hm2; have HR1 := Lib.hid hr1
        obtain ⟨hw1, hw2, hw3⟩ := wraps3 H W (by omega) (by omega)
        clear htk hrow hrc hO hB hst hm2 hr1 hcA d0 d1 eH eW hH hW h2 hT hT64
        by_cases hT2 : T > 2000
        · have hTi : (T : Int) > 2000 := by omega
          have HE := Lib.hid (And.intro (unpack_none (unpack_stop (c := x) (by rw [HX.out]; exact hlt) HTK.out (by rw [HST.out, if_neg (by omega)]))).1 (unpack_none (unpack_stop (c := x) (by rw [HX.out]; exact hlt) HTK.out (by rw [HST.out, if_neg (by omega)]))).2)
          go_wp2_with fail
          refine region_tail 10 (by kernel_rfl) (by kernel_rfl) ?_
          simp only [List.take_succ_cons, List.take_zero, List.drop_succ_cons, List.drop_zero]
          still_step
          still_step
          still_step
          still_step
          still_step
          still_step
          still_step
          still_step
          still_step
          still_step
          refine wpStill_nil ?_
          go_wp2_with (first
            | (refine wpl_gen (fun w2 hw2 => ?_)
               have hb2 : Below wr.heap.size wr w2 := by rw [hw2]; exact below_drew1 (Below.refl _ _)
               have HO2 := Lib.hid (HO.out.below hb2); have HB2 := Lib.hid (HB.out.later hb2 (Nat.le_refl _))
               refine wpList_from rfl (.tmp 36) (.const (.int .i64 2)) 24 rfl elemB hiE hcE rfl HROW.out HRC.out 2 rfl (by omega) ?_
               intro a2 h2 _
               obtain ⟨q, hq⟩ : ∃ q, m - 2 = q := ⟨_, rfl⟩
               obtain ⟨c2, hc2⟩ : ∃ q, c' - 2 = q := ⟨_, rfl⟩
               rw [hq, hc2] at h2 ⊢
               have hqr : q = r2.length := by have := HM2.out; omega
               have hqc : q ≤ c2 := by have := HRC.out; omega
               have HR2 := Lib.hid h2; have HQR := Lib.hid hqr; have HQC := Lib.hid hqc
               clear hw2 hb2 HO HB h2 hq hc2 hqr hqc))
          refine bodyPost_ret (results_tmp2 rfl _ _ _) rfl ?_
          rw [HE.out.1, HE.out.2]
          exact ⟨_, rfl, OwnR.nil _ _ _, HB2.out⟩
        by_cases hTr : T > r2.length
        · have hTi : ¬ (T : Int) > 2000 := by omega
          have HE := Lib.hid (And.intro (unpack_none (unpack_stop (c := x) (by rw [HX.out]; exact hlt) HTK.out (by rw [HST.out, if_neg (by omega)]))).1 (unpack_none (unpack_stop (c := x) (by rw [HX.out]; exact hlt) HTK.out (by rw [HST.out, if_neg (by omega)]))).2)
          go_wp2_with fail
          refine region_tail 10 (by kernel_rfl) (by kernel_rfl) ?_
          simp only [List.take_succ_cons, List.take_zero, List.drop_succ_cons, List.drop_zero]
          still_step
          still_step
          still_step
          still_step
          still_step
          still_step
          still_step
          still_step
          still_step
          still_step
          refine wpStill_nil ?_
          go_wp2_with (first
            | (refine wpl_gen (fun w2 hw2 => ?_)
               have hb2 : Below wr.heap.size wr w2 := by rw [hw2]; exact below_drew1 (Below.refl _ _)
               have HO2 := Lib.hid (HO.out.below hb2); have HB2 := Lib.hid (HB.out.later hb2 (Nat.le_refl _))
               refine wpList_from rfl (.tmp 36) (.const (.int .i64 2)) 24 rfl elemB hiE hcE rfl HROW.out HRC.out 2 rfl (by omega) ?_
               intro a2 h2 _
               obtain ⟨q, hq⟩ : ∃ q, m - 2 = q := ⟨_, rfl⟩
               obtain ⟨c2, hc2⟩ : ∃ q, c' - 2 = q := ⟨_, rfl⟩
               rw [hq, hc2] at h2 ⊢
               have hqr : q = r2.length := by have := HM2.out; omega
               have hqc : q ≤ c2 := by have := HRC.out; omega
               have hTj : (T : Int) > (q : Int) := by omega
               have HR2 := Lib.hid h2; have HQR := Lib.hid hqr; have HQC := Lib.hid hqc
               clear hw2 hb2 HO HB h2 hq hc2 hqr hqc))
          refine bodyPost_ret (results_tmp2 rfl _ _ _) rfl ?_
          rw [HE.out.1, HE.out.2]
          exact ⟨_, rfl, OwnR.nil _ _ _, HB2.out⟩
        · have hTi : ¬ (T : Int) > 2000 := by omega
          have HNX := Lib.hid (takeR_succ HTK.out (by rw [HST.out, if_pos (by omega)]))
          have HTL : Hid ((r2.take T).length ≤ 1000000) := Lib.hid (by rw [List.length_take]; omega)
          have HLL : Hid (L.length ≤ 1000000) := Lib.hid (by rw [takeR_len HTK.out]; omega)
          go_wp2_with fail
          refine region_tail 10 (by kernel_rfl) (by kernel_rfl) ?_
          simp only [List.take_succ_cons, List.take_zero, List.drop_succ_cons, List.drop_zero]
          still_step
          still_step
          still_step
          still_step
          still_step
          still_step
          still_step
          still_step
          still_step
          still_step
          refine wpStill_nil ?_
          go_wp2_with (first
            | (refine wpl_gen (fun w2 hw2 => ?_)
               have hb2 : Below wr.heap.size wr w2 := by rw [hw2]; exact below_drew1 (Below.refl _ _)
               have HO2 := Lib.hid (HO.out.below hb2); have HB2 := Lib.hid (HB.out.later hb2 (Nat.le_refl _))
               refine wpList_from rfl (.tmp 36) (.const (.int .i64 2)) 24 rfl elemB hiE hcE rfl HROW.out HRC.out 2 rfl (by omega) ?_
               intro a2 h2 _
               obtain ⟨q, hq⟩ : ∃ q, m - 2 = q := ⟨_, rfl⟩
               obtain ⟨c2, hc2⟩ : ∃ q, c' - 2 = q := ⟨_, rfl⟩
               rw [hq, hc2] at h2 ⊢
               have hqr : q = r2.length := by have := HM2.out; omega
               have hqc : q ≤ c2 := by have := HRC.out; omega
               have hTj : ¬ (T : Int) > (q : Int) := by omega
               have HTQ : Hid (T ≤ q) := Lib.hid (by omega)
               have HR2 := Lib.hid h2; have HQR := Lib.hid hqr; have HQC := Lib.hid hqc
               clear hw2 hb2 HO HB h2 hq hc2 hqr hqc)
            | (refine wpList_upto rfl (.tmp 47) (.tmp 48) 24 rfl elemB hiE hcE rfl HR2.out HQC.out T rfl HTQ.out ?_
               intro a3 h3 _
               have HR3 := Lib.hid h3
               clear h3)
            | (go_at_call 22
               refine (clone_any a3 T c2 (r2.take T) _ (HR3.out.below HB2.out) HTL.out).mono ?_
               rintro e w4 ⟨a4, c4, rfl, hr4, hb4⟩
               have HO4 := Lib.hid (HO2.out.below hb4); have HB4 := Lib.hid (HB2.out.later hb4 (Nat.le_refl _)); have HR4 := Lib.hid (hr4.base HB2.out.size)
               clear hr4 hb4 HO2 HB2 HR3)
            | (at_builtin
               refine wpList_appendR rfl (.tmp 46) (.tmp 51) 22 rfl w.heap.size 24 Try.underlying22 infoR u4 L rfl (HO4.out.below ((Below.refl _ _).next (Nat.le_refl _) _)) w4.heap.size a4 T c4 (r2.take T) rfl (by first | exact (Blk.new w4 #[.slice a4 T c4] _).cell 0 | rfl) (HR4.out.below ((Below.refl _ _).next (Nat.le_refl _) _)) HLL.out (((Below.refl _ _).next (Nat.le_refl _) _ : Below w4.heap.size w4 _).size |> Nat.le_trans HB4.out.size) ?_
               intro v5 w5 hO5 hg5 hb5
               have hb6 : Below w.heap.size w w5 := (HB4.out.next (Nat.le_refl _) (.cells #[.slice a4 T c4] 24)).trans hb5
               have HO5 := Lib.hid hO5; have HB5 := Lib.hid hb6
               clear hO5 hg5 hb5 hb6 HO4 HB4 HR4)
            | (refine wpList_from rfl (.tmp 53) (.tmp 54) 24 rfl elemB hiE hcE rfl HR2.out HQC.out T rfl HTQ.out ?_
               intro a6 h6 _
               have HR6 := Lib.hid h6
               clear h6))
          go_roundw
          case rel =>
            have h6 := HR6.out
            have hdl : q - T = (r2.drop T).length := by rw [List.length_drop, HQR.out]
            rw [hdl] at h6 ⊢
            exact ⟨k + 1, L ++ [r2.take T], r2.drop T, a6, c2 - T, by omega, by go_num, HNX.out, rfl, h6, by have h1 := HQC.out; omega, HO5.out, HB5.out⟩
          case measure => simp [intOf]; omega
      · have hkX : k = X := by omega
        subst hkX
        have HO := Lib.hid hO; have HB := Lib.hid hB; have HTK := Lib.hid htk
        have hkk : ¬ (k : Int) < (k : Int) := by omega
        clear hO hB htk hrow
        by_cases hr1 : r1 = []
        · subst hr1
          have HE := Lib.hid (unpack_some (b := x :: r) (L := L) (by simp only [unpackW]; rw [HX.out, if_pos h60, HTK.out]; rfl))
          go_wp2
          refine bodyPost_ret (results_tmp2 rfl _ _ _) rfl ?_
          rw [HE.out.1, HE.out.2]
          exact ⟨_, rfl, HO.out, HB.out⟩
        · have HE := Lib.hid (unpack_none (b := x :: r) (by simp only [unpackW]; rw [HX.out, if_pos h60, HTK.out]; simp [hr1]))
          have hpos : (r1.length : Int) > 0 := by have := List.length_pos_iff.2 hr1; omega
          go_wp2
          refine bodyPost_ret (results_tmp2 rfl _ _ _) rfl ?_
          rw [HE.out.1, HE.out.2]
          exact ⟨_, rfl, OwnR.nil _ _ _, HB.out⟩
end Go.Proofs.Ytgghkeinkcpboaa
