/-
  The walk of a law.
-/
import Derived.Test.YtaaidjncbcildaaGSeal
import Derived.Test.YtaaidjncbcildaaGBase
namespace Go.Proofs.Ytaaidjncbcildaa
set_option maxRecDepth 100000
open Go.RowKit Pm
set_option linter.unusedVariables false
set_option linter.unusedSimpArgs false

set_option maxRecDepth 100000 in
set_option maxHeartbeats 4000000 in
theorem sealTurned_walk {w : World} (a : List UInt8) (ha : a.length = 32) (d : List UInt8) (hd : d.length = 32) (lp : Option Addr) (lpl lpc : Nat) (p : List UInt8) (hp : Arg8 w lp lpl lpc p) (at_ : Int) (wat_ : (Lit.int .i64 at_).wf = true) (by_ : Int) (wby_ : (Lit.int .u8 by_).wf = true) (way : Int) (wway : (Lit.int .i64 way).wf = true) :
    Calls Try.prog 6 #[HV a, HV d, .slice lp lpl lpc, .int .i64 at_, .int .u8 by_, .int .i64 way] w fun e w' => e = .returned (.bool true) ∧ Below w.heap.size w w' := by
  have hle := hp.le
  have hsm := hp.small
  have hlen := hp.row.len_eq
  clear wway
  by_cases h1 : (lpl : Int) > 150
  · go_enter Try.func6, Try.ntmps6
    go_wp2
    go_ret
    exact ⟨rfl, ((Below.refl _ _).next (Nat.le_refl _) _).next (Nat.le_refl _) _⟩
  by_cases h2 : way < 0
  · go_enter Try.func6, Try.ntmps6
    go_wp2
    go_ret
    exact ⟨rfl, ((Below.refl _ _).next (Nat.le_refl _) _).next (Nat.le_refl _) _⟩
  by_cases h3 : way > 2
  · go_enter Try.func6, Try.ntmps6
    go_wp2
    go_ret
    exact ⟨rfl, ((Below.refl _ _).next (Nat.le_refl _) _).next (Nat.le_refl _) _⟩
  have hpl : p.length ≤ 150 := by omega
  obtain ⟨x, hx⟩ : ∃ x, keyS a = x := ⟨_, rfl⟩
  obtain ⟨dk, hdk⟩ : ∃ dk, keyS d = dk := ⟨_, rfl⟩
  have hxb := keyS_bd a
  have hdb := keyS_bd d
  rw [hx] at hxb
  rw [hdk] at hdb
  have hse := sealE_pub x hxb p (by omega) dk
  have hop := seal_back x dk hxb hdb p (by omega)
  obtain ⟨M, hM⟩ : ∃ M, boxW (powI 4 x) dk p = M := ⟨_, rfl⟩
  obtain ⟨N, hN⟩ : ∃ N, M.length = N := ⟨_, rfl⟩
  have hNl : N = 12 + p.length := by rw [← hN, ← hM]; exact boxW_length _ _ _
  rw [hM] at hop hse
  have HX := Lib.hid hx; have HDK := Lib.hid hdk; have BX := Lib.hid hxb; have SE := Lib.hid hse; have OE := Lib.hid hop; have HN := Lib.hid hN; have HNL := Lib.hid hNl
  obtain ⟨y, hy⟩ : ∃ y : UInt8, Bt y = by_ := ⟨_, Bt_of wby_⟩
  subst hy
  have hand := low16 at_ wat_
  have hA0 : 0 ≤ at_ % 65536 := Int.emod_nonneg _ (by decide)
  obtain ⟨A, hA⟩ : ∃ A : Nat, at_ % 65536 = A := ⟨(at_ % 65536).toNat, by omega⟩
  rw [hA] at hand
  have hA1 : A < 65536 := by omega
  have hN0 : ¬ N = 0 := by omega
  have hN00 : ¬ (N : Int) = 0 := by omega
  obtain ⟨K, hK⟩ : ∃ K, A % N = K := ⟨_, rfl⟩
  have hKN : K < N := by rw [← hK]; exact Nat.mod_lt _ (by omega)
  have hrem : Int.tmod (A : Int) (N : Int) = (K : Int) := by rw [Int.tmod_eq_emod_of_nonneg (by omega), ← hK]; simp
  obtain ⟨hwK, hwK2⟩ := small_wrap K (by omega)
  have HKN := Lib.hid hKN
  clear hx hdk hxb hdb hse hop hM hN hNl wby_ wat_ hA hA0 hA1 hK hN0 hKN
  have HP0 := Lib.hid hp.toC; have HPL := Lib.hid hpl; have HLN := Lib.hid hlen
  clear hp hle hsm hlen hpl
  have hsza : (Try.prog.info? 23).map (·.size) = some (HC a).size := by rw [HC_size, ha]; kernel_rfl
  have Sa := Lib.hid hsza; have Ha := Lib.hid ha
  clear hsza ha
  have hszd : (Try.prog.info? 23).map (·.size) = some (HC d).size := by rw [HC_size, hd]; kernel_rfl
  have Sd := Lib.hid hszd; have Hd := Lib.hid hd
  clear hszd hd
  have hXa : Blk ((w.alloc (.cells (HC a) 23)).alloc (.cells (HC d) 23)) (w.heap.size) (HC a) 23 := (Blk.new _ _ _).alloc _
  have hXd : Blk ((w.alloc (.cells (HC a) 23)).alloc (.cells (HC d) 23)) (w.heap.size + 1) (HC d) 23 := Blk.newAt _ _ (by simp)
  have HXa := Lib.hid hXa; have HXd := Lib.hid hXd
  clear hXa hXd
  unfold HV
  by_cases hw0 : way = 0
  · subst hw0
    go_enter Try.func6, Try.ntmps6
    go_wp2_with (first
      | (refine wpList_load_row rfl 23 _ rfl w.heap.size rfl 23 (HC a) (0, 0) _ HXa.out Try.underlying23 rfl Sa.out ?_))
    refine calls_gen (fun w1 hw1 => ?_)
    have hb1 : Below w.heap.size w w1 := by rw [hw1]; (first | exact Below.refl _ _ | exact (Below.refl _ _).next (Nat.le_refl _) _ | exact ((Below.refl _ _).next (Nat.le_refl _) _).next (Nat.le_refl _) _ | exact (((Below.refl _ _).next (Nat.le_refl _) _).next (Nat.le_refl _) _).next (Nat.le_refl _) _ | exact ((((Below.refl _ _).next (Nat.le_refl _) _).next (Nat.le_refl _) _).next (Nat.le_refl _) _).next (Nat.le_refl _) _ | exact below_drew1 (Below.refl _ _) | exact below_drew1 ((Below.refl _ _).next (Nat.le_refl _) _) | exact below_drew1 (((Below.refl _ _).next (Nat.le_refl _) _).next (Nat.le_refl _) _))
    have FXa1 : Hid (Blk w1 w.heap.size (HC a) 23) := Lib.hid (by rw [hw1]; exact HXa.out)
    have FXd1 : Hid (Blk w1 (w.heap.size + 1) (HC d) 23) := Lib.hid (by rw [hw1]; exact HXd.out)
    have FP1 : Hid (RowC w1 lp lpl lpc p) := Lib.hid (HP0.out.below hb1)
    have HB1 : Hid (Below w.heap.size w w1) := Lib.hid (hb1)
    clear HP0
    clear hb1 hw1
    refine (rfrom_k a Ha.out _).mono ?_
    rintro e w2 ⟨rfl, hb2⟩
    rw [HX.out]
    have FP2 : Hid (RowC w2 lp lpl lpc p) := Lib.hid (FP1.out.below hb2)
    have FXa2 : Hid (Blk w2 w.heap.size (HC a) 23) := Lib.hid (FXa1.out.keep hb2)
    have FXd2 : Hid (Blk w2 (w.heap.size + 1) (HC d) 23) := Lib.hid (FXd1.out.keep hb2)
    have HB2 : Hid (Below w.heap.size w w2) := Lib.hid (HB1.out.later hb2 (Nat.le_refl _))
    clear FP1 FXa1 FXd1 HB1
    clear hb2
    have cE1 : (w2.alloc (.cells #[.int .i64 x, .int .i64 (powI 4 x)] 37)).cell? ⟨w2.heap.size, 1, none⟩ = some (.int .i64 (powI 4 x)) := (Blk.new w2 _ _).cell 1
    have hXd2 := FXd2.out.alloc (.cells #[.int .i64 x, .int .i64 (powI 4 x)] 37)
    go_wp2_with (first
      | (refine wpList_load_row rfl 23 _ rfl (w.heap.size + 1) rfl 23 (HC d) (0, 0) _ hXd2 Try.underlying23 rfl Sd.out ?_))
    refine calls_gen (fun w3 hw3 => ?_)
    have hb3 : Below w2.heap.size w2 w3 := by rw [hw3]; (first | exact Below.refl _ _ | exact (Below.refl _ _).next (Nat.le_refl _) _ | exact ((Below.refl _ _).next (Nat.le_refl _) _).next (Nat.le_refl _) _ | exact (((Below.refl _ _).next (Nat.le_refl _) _).next (Nat.le_refl _) _).next (Nat.le_refl _) _ | exact ((((Below.refl _ _).next (Nat.le_refl _) _).next (Nat.le_refl _) _).next (Nat.le_refl _) _).next (Nat.le_refl _) _ | exact below_drew1 (Below.refl _ _) | exact below_drew1 ((Below.refl _ _).next (Nat.le_refl _) _) | exact below_drew1 (((Below.refl _ _).next (Nat.le_refl _) _).next (Nat.le_refl _) _))
    have FE3 : Hid (Blk w3 w2.heap.size #[.int .i64 x, .int .i64 (powI 4 x)] 37) := Lib.hid (by rw [hw3]; exact Blk.new _ _ _)
    have FP3 : Hid (RowC w3 lp lpl lpc p) := Lib.hid (FP2.out.below hb3)
    have FXa3 : Hid (Blk w3 w.heap.size (HC a) 23) := Lib.hid (FXa2.out.keep hb3)
    have FXd3 : Hid (Blk w3 (w.heap.size + 1) (HC d) 23) := Lib.hid (FXd2.out.keep hb3)
    have HB3 : Hid (Below w.heap.size w w3) := Lib.hid (HB2.out.later hb3 (Nat.le_refl _))
    clear FP2 FXa2 FXd2 HB2
    clear hb3 hw3
    clear cE1 hXd2
    have HEW := Lib.hid FE3.out.lt; have HXW := Lib.hid FXd3.out.lt
    refine (rseal_any (powI 4 x) d Hd.out lp lpl lpc p _ FP3.out (by have := HPL.out; omega)).mono ?_
    rintro e w4 ⟨v4, rfl, hO4, hb4⟩
    rw [SE.out.1]
    rw [HDK.out, SE.out.2] at hO4
    obtain ⟨gb, cb, rfl, hgb, hgl, hLb, hcm⟩ := hO4.hasN N HN.out.symm (by rw [HNL.out]; omega)
    have HLB := Lib.hid hLb; have HGB := Lib.hid hgb; have HCM := Lib.hid hcm
    have FP4 : Hid (RowC w4 lp lpl lpc p) := Lib.hid (FP3.out.below hb4)
    have FXa4 : Hid (Blk w4 w.heap.size (HC a) 23) := Lib.hid (FXa3.out.keep hb4)
    have FXd4 : Hid (Blk w4 (w.heap.size + 1) (HC d) 23) := Lib.hid (FXd3.out.keep hb4)
    have FE4 : Hid (Blk w4 w2.heap.size #[.int .i64 x, .int .i64 (powI 4 x)] 37) := Lib.hid (FE3.out.keep hb4)
    have HB4 : Hid (Below w.heap.size w w4) := Lib.hid (HB3.out.later hb4 (Nat.le_refl _))
    clear FP3 FXa3 FXd3 FE3 HB3
    clear hb4
    have FM4 : Hid (Own8 w4 w3.heap.size 5 (.slice (some ⟨gb, 0, none⟩) N cb) M) := Lib.hid (hO4)
    clear hO4 hgb hgl hLb hcm
    have HGBA : Hid (w.heap.size ≠ gb ∧ w.heap.size + 1 ≠ gb ∧ w2.heap.size ≠ gb ∧ w.heap.size ≤ gb) := Lib.hid (by have h1 := HXW.out; have h2 := HEW.out; have h3 := HGB.out; omega)
    clear FP4
    have hM0 := FM4.out
    have fQ : w4.frozen? ⟨gb, K, none⟩ = false := by obtain ⟨cur, hc⟩ := hM0.ofBlkAny; exact hc.frozen K
    have cQ : w4.cell? ⟨gb, K, none⟩ = some (.int .u8 (Bt (M[K]'(by rw [HN.out]; exact HKN.out)))) := by
      have h := World.ownsRow.cells hM0 (g := gb) rfl K (.int .u8 (Bt (M[K]'(by rw [HN.out]; exact HKN.out)))) (by rw [HL_get, List.getElem?_eq_getElem (by rw [HN.out]; exact HKN.out)]; rfl)
      have hadd : (⟨gb, 0, none⟩ : Addr).add K = ⟨gb, K, none⟩ := by unfold Addr.add; split <;> simp_all
      rwa [hadd] at h
    have jK : (K : Int) < (N : Int) := by have := HKN.out; omega
    have jK0 : ¬ (K : Int) < 0 := by omega
    obtain ⟨m, hm⟩ : ∃ m, M[K]'(by rw [HN.out]; exact HKN.out) = m := ⟨_, rfl⟩
    rw [hm] at cQ
    have hx := Bt_xor m y
    clear hM0 hm
    have hxs := fun v => (FXa4.out).other ⟨gb, K, none⟩ v HGBA.out.1
    go_wp2_with (first
      | (refine wpList_load_row rfl 23 _ rfl w.heap.size rfl 23 (HC a) (0, 0) _ (hxs _) Try.underlying23 rfl Sa.out ?_))
    clear hxs fQ cQ hx
    refine calls_gen (fun w5 hw5 => ?_)
    have hgw : w4.grownBy w5 (some gb) := by rw [hw5]; exact grown_setCell (grown_refl _ _) K _
    have FT5 : Hid (Own8 w5 w3.heap.size 5 (.slice (some ⟨gb, 0, none⟩) N cb) (M.set K (m ^^^ y))) := Lib.hid (by rw [hw5]; exact FM4.out.set HN.out.symm _)
    have FXa5 : Hid (Blk w5 w.heap.size (HC a) 23) := Lib.hid (FXa4.out.grown hgw HGBA.out.1)
    have FXd5 : Hid (Blk w5 (w.heap.size + 1) (HC d) 23) := Lib.hid (FXd4.out.grown hgw HGBA.out.2.1)
    have FE5 : Hid (Blk w5 w2.heap.size #[.int .i64 x, .int .i64 (powI 4 x)] 37) := Lib.hid (FE4.out.grown hgw HGBA.out.2.2.1)
    have HB5 : Hid (Below w.heap.size w w5) := Lib.hid (below_grown HB4.out hgw HGBA.out.2.2.2 HB4.out.size)
    clear hgw hw5 FXa4 FXd4 FE4 FM4 HB4
    have HNT : Hid ((M.set K (m ^^^ y)).length = N) := Lib.hid (by rw [List.length_set]; exact HN.out)
    have FTT : Hid (RowC w5 (some ⟨gb, 0, none⟩) N cb (M.set K (m ^^^ y))) := Lib.hid ⟨FT5.out.row (by rw [HNT.out, HNL.out]; have := HPL.out; simp only [maxLen]; omega) HNT.out.symm, fun e => by cases e⟩
    clear FT5
    obtain ⟨T, hT⟩ : ∃ T, M.set K (m ^^^ y) = T := ⟨_, rfl⟩
    rw [hT] at FTT HNT
    clear hT
    obtain ⟨Qq, hQ⟩ : ∃ Q, openB x (T) = Q := ⟨_, rfl⟩
    obtain ⟨Ee, hE⟩ : ∃ E, openE x (T) = E := ⟨_, rfl⟩
    have hQl : Qq.length ≤ 1000 := by
      rw [← hQ]
      unfold openB
      split
      · rw [xorW_length, List.length_drop, HNT.out]; have := HNL.out; have := HPL.out; have := HKN.out; omega
      · decide
    obtain ⟨L, hL⟩ : ∃ L, Qq.length = L := ⟨_, rfl⟩
    rw [hL] at hQl
    have HQ := Lib.hid hQ; have HE := Lib.hid hE; have HQL := Lib.hid hQl; have HL := Lib.hid hL
    clear hQ hE hQl hL
    refine (from_k a Ha.out _).mono ?_
    rintro e w6 ⟨g6, rfl, hgl6, hk6, hb6⟩
    rw [HX.out] at hk6
    have HGL : Hid (w.heap.size ≤ g6) := Lib.hid (Nat.le_trans HB5.out.size hgl6)
    have HGX : Hid (w.heap.size ≠ g6 ∧ w.heap.size + 1 ≠ g6 ∧ w2.heap.size ≠ g6) := Lib.hid (by have h1 := FXd5.out.lt; have h2 := FE5.out.lt; omega)
    clear hgl6
    have FXa6 : Hid (Blk w6 w.heap.size (HC a) 23) := Lib.hid (FXa5.out.keep hb6)
    have FXd6 : Hid (Blk w6 (w.heap.size + 1) (HC d) 23) := Lib.hid (FXd5.out.keep hb6)
    have FE6 : Hid (Blk w6 w2.heap.size #[.int .i64 x, .int .i64 (powI 4 x)] 37) := Lib.hid (FE5.out.keep hb6)
    have FT6 : Hid (RowC w6 (some ⟨gb, 0, none⟩) N cb T) := Lib.hid (FTT.out.below hb6)
    have HB6 : Hid (Below w.heap.size w w6) := Lib.hid (HB5.out.later hb6 (Nat.le_refl _))
    clear FXa5 FXd5 FE5 FTT HB5
    clear hb6
    have FK6 : Hid (Blk w6 g6 (CD x false 0) 72) := Lib.hid (hk6)
    go_wp2_with fail
    refine calls_gen (fun w7 hw7 => ?_)
    have hb7 : Below w6.heap.size w6 w7 := by rw [hw7]; (first | exact Below.refl _ _ | exact (Below.refl _ _).next (Nat.le_refl _) _ | exact ((Below.refl _ _).next (Nat.le_refl _) _).next (Nat.le_refl _) _ | exact (((Below.refl _ _).next (Nat.le_refl _) _).next (Nat.le_refl _) _).next (Nat.le_refl _) _ | exact ((((Below.refl _ _).next (Nat.le_refl _) _).next (Nat.le_refl _) _).next (Nat.le_refl _) _).next (Nat.le_refl _) _ | exact below_drew1 (Below.refl _ _) | exact below_drew1 ((Below.refl _ _).next (Nat.le_refl _) _) | exact below_drew1 (((Below.refl _ _).next (Nat.le_refl _) _).next (Nat.le_refl _) _))
    have FXa7 : Hid (Blk w7 w.heap.size (HC a) 23) := Lib.hid (FXa6.out.keep hb7)
    have FXd7 : Hid (Blk w7 (w.heap.size + 1) (HC d) 23) := Lib.hid (FXd6.out.keep hb7)
    have FE7 : Hid (Blk w7 w2.heap.size #[.int .i64 x, .int .i64 (powI 4 x)] 37) := Lib.hid (FE6.out.keep hb7)
    have FT7 : Hid (RowC w7 (some ⟨gb, 0, none⟩) N cb T) := Lib.hid (FT6.out.below hb7)
    have FK7 : Hid (Blk w7 g6 (CD x false 0) 72) := Lib.hid (FK6.out.keep hb7)
    have HB7 : Hid (Below w.heap.size w w7) := Lib.hid (HB6.out.later hb7 (Nat.le_refl _))
    clear FXa6 FXd6 FE6 FT6 FK6 HB6
    clear hb7 hw7
    refine (open_any g6 x 0 false (by decide) _ N _ (T) _ FK7.out FT7.out HLB.out (by rw [HNT.out]; have := HNL.out; have := HPL.out; have := HKN.out; omega)).mono ?_
    rintro e w8 ⟨v8, rfl, hO8, hg8, us, hk8, hu1, hu2⟩
    rw [HE.out]
    rw [HQ.out] at hO8
    obtain ⟨a8, c8, rfl, hC8, hL8⟩ := hO8.toL (by rw [HL.out]; have := HQL.out; omega)
    rw [HL.out] at hC8 hL8 ⊢
    clear hL8
    clear hu1 hu2
    have FXa8 : Hid (Blk w8 w.heap.size (HC a) 23) := Lib.hid (FXa7.out.grown hg8 HGX.out.1)
    have FXd8 : Hid (Blk w8 (w.heap.size + 1) (HC d) 23) := Lib.hid (FXd7.out.grown hg8 HGX.out.2.1)
    have FE8 : Hid (Blk w8 w2.heap.size #[.int .i64 x, .int .i64 (powI 4 x)] 37) := Lib.hid (FE7.out.grown hg8 HGX.out.2.2)
    have FT8 : Hid (RowC w8 (some ⟨gb, 0, none⟩) N cb T) := Lib.hid (FT7.out.key FK7.out hg8)
    have FK8 : Hid (Blk w8 g6 (CD x false us) 72) := Lib.hid hk8
    have HB8 : Hid (Below w.heap.size w w8) := Lib.hid (below_grown HB7.out hg8 HGL.out HB7.out.size)
    clear FXa7 FXd7 FE7 FT7 FK7 HB7 hk8 hg8
    have FQ18 : Hid (RowC w8 a8 L c8 Qq) := Lib.hid (hC8)
    clear FK8
    have cE0 := FE8.out.cell 0
    have cE1 := FE8.out.cell 1
    go_wp2_with fail
    clear cE0 cE1
    refine (ropen_any x (powI 4 x) _ N _ (T) _ FT8.out HLB.out (by rw [HNT.out]; have := HNL.out; have := HPL.out; have := HKN.out; omega)).mono ?_
    rintro e w9 ⟨v9, rfl, hO9, hb9⟩
    rw [HE.out]
    rw [HQ.out] at hO9
    obtain ⟨a9, c9, rfl, hC9, hL9⟩ := hO9.toL (by rw [HL.out]; have := HQL.out; omega)
    rw [HL.out] at hC9 hL9 ⊢
    clear hL9
    have FXa9 : Hid (Blk w9 w.heap.size (HC a) 23) := Lib.hid (FXa8.out.keep hb9)
    have FXd9 : Hid (Blk w9 (w.heap.size + 1) (HC d) 23) := Lib.hid (FXd8.out.keep hb9)
    have FE9 : Hid (Blk w9 w2.heap.size #[.int .i64 x, .int .i64 (powI 4 x)] 37) := Lib.hid (FE8.out.keep hb9)
    have FT9 : Hid (RowC w9 (some ⟨gb, 0, none⟩) N cb T) := Lib.hid (FT8.out.below hb9)
    have FQ19 : Hid (RowC w9 a8 L c8 Qq) := Lib.hid (FQ18.out.below hb9)
    have HB9 : Hid (Below w.heap.size w w9) := Lib.hid (HB8.out.later hb9 (Nat.le_refl _))
    clear FXa8 FXd8 FE8 FT8 FQ18 HB8
    clear hb9
    have FQ29 : Hid (RowC w9 a9 L c9 Qq) := Lib.hid (hC9)
    have kS1 := FQ19.out.row.str (P := Try.prog) 24 9 5 c8 Try.underlying24 Try.underlying5 Try.underlying9
    have kS2 := FQ29.out.row.str (P := Try.prog) 24 9 5 c9 Try.underlying24 Try.underlying5 Try.underlying9
    go_wp2_with (first
      | (go_at_call 14; with_reducible refine (known_seal _).mono ?_; rintro e w9 ⟨rfl, hb9⟩))
    go_ret
    exact ⟨rfl, HB9.out.later hb9 (Nat.le_refl _)⟩
  by_cases hw1 : way = 1
  · subst hw1
    go_enter Try.func6, Try.ntmps6
    go_wp2_with (first
      | (refine wpList_load_row rfl 23 _ rfl w.heap.size rfl 23 (HC a) (0, 0) _ HXa.out Try.underlying23 rfl Sa.out ?_))
    refine calls_gen (fun w1 hw1 => ?_)
    have hb1 : Below w.heap.size w w1 := by rw [hw1]; (first | exact Below.refl _ _ | exact (Below.refl _ _).next (Nat.le_refl _) _ | exact ((Below.refl _ _).next (Nat.le_refl _) _).next (Nat.le_refl _) _ | exact (((Below.refl _ _).next (Nat.le_refl _) _).next (Nat.le_refl _) _).next (Nat.le_refl _) _ | exact ((((Below.refl _ _).next (Nat.le_refl _) _).next (Nat.le_refl _) _).next (Nat.le_refl _) _).next (Nat.le_refl _) _ | exact below_drew1 (Below.refl _ _) | exact below_drew1 ((Below.refl _ _).next (Nat.le_refl _) _) | exact below_drew1 (((Below.refl _ _).next (Nat.le_refl _) _).next (Nat.le_refl _) _))
    have FXa1 : Hid (Blk w1 w.heap.size (HC a) 23) := Lib.hid (by rw [hw1]; exact HXa.out)
    have FXd1 : Hid (Blk w1 (w.heap.size + 1) (HC d) 23) := Lib.hid (by rw [hw1]; exact HXd.out)
    have FP1 : Hid (RowC w1 lp lpl lpc p) := Lib.hid (HP0.out.below hb1)
    have HB1 : Hid (Below w.heap.size w w1) := Lib.hid (hb1)
    clear HP0
    clear hb1 hw1
    refine (rfrom_k a Ha.out _).mono ?_
    rintro e w2 ⟨rfl, hb2⟩
    rw [HX.out]
    have FP2 : Hid (RowC w2 lp lpl lpc p) := Lib.hid (FP1.out.below hb2)
    have FXa2 : Hid (Blk w2 w.heap.size (HC a) 23) := Lib.hid (FXa1.out.keep hb2)
    have FXd2 : Hid (Blk w2 (w.heap.size + 1) (HC d) 23) := Lib.hid (FXd1.out.keep hb2)
    have HB2 : Hid (Below w.heap.size w w2) := Lib.hid (HB1.out.later hb2 (Nat.le_refl _))
    clear FP1 FXa1 FXd1 HB1
    clear hb2
    have cE1 : (w2.alloc (.cells #[.int .i64 x, .int .i64 (powI 4 x)] 37)).cell? ⟨w2.heap.size, 1, none⟩ = some (.int .i64 (powI 4 x)) := (Blk.new w2 _ _).cell 1
    have hXd2 := FXd2.out.alloc (.cells #[.int .i64 x, .int .i64 (powI 4 x)] 37)
    go_wp2_with (first
      | (refine wpList_load_row rfl 23 _ rfl (w.heap.size + 1) rfl 23 (HC d) (0, 0) _ hXd2 Try.underlying23 rfl Sd.out ?_))
    refine calls_gen (fun w3 hw3 => ?_)
    have hb3 : Below w2.heap.size w2 w3 := by rw [hw3]; (first | exact Below.refl _ _ | exact (Below.refl _ _).next (Nat.le_refl _) _ | exact ((Below.refl _ _).next (Nat.le_refl _) _).next (Nat.le_refl _) _ | exact (((Below.refl _ _).next (Nat.le_refl _) _).next (Nat.le_refl _) _).next (Nat.le_refl _) _ | exact ((((Below.refl _ _).next (Nat.le_refl _) _).next (Nat.le_refl _) _).next (Nat.le_refl _) _).next (Nat.le_refl _) _ | exact below_drew1 (Below.refl _ _) | exact below_drew1 ((Below.refl _ _).next (Nat.le_refl _) _) | exact below_drew1 (((Below.refl _ _).next (Nat.le_refl _) _).next (Nat.le_refl _) _))
    have FE3 : Hid (Blk w3 w2.heap.size #[.int .i64 x, .int .i64 (powI 4 x)] 37) := Lib.hid (by rw [hw3]; exact Blk.new _ _ _)
    have FP3 : Hid (RowC w3 lp lpl lpc p) := Lib.hid (FP2.out.below hb3)
    have FXa3 : Hid (Blk w3 w.heap.size (HC a) 23) := Lib.hid (FXa2.out.keep hb3)
    have FXd3 : Hid (Blk w3 (w.heap.size + 1) (HC d) 23) := Lib.hid (FXd2.out.keep hb3)
    have HB3 : Hid (Below w.heap.size w w3) := Lib.hid (HB2.out.later hb3 (Nat.le_refl _))
    clear FP2 FXa2 FXd2 HB2
    clear hb3 hw3
    clear cE1 hXd2
    have HEW := Lib.hid FE3.out.lt; have HXW := Lib.hid FXd3.out.lt
    refine (rseal_any (powI 4 x) d Hd.out lp lpl lpc p _ FP3.out (by have := HPL.out; omega)).mono ?_
    rintro e w4 ⟨v4, rfl, hO4, hb4⟩
    rw [SE.out.1]
    rw [HDK.out, SE.out.2] at hO4
    obtain ⟨gb, cb, rfl, hgb, hgl, hLb, hcm⟩ := hO4.hasN N HN.out.symm (by rw [HNL.out]; omega)
    have HLB := Lib.hid hLb; have HGB := Lib.hid hgb; have HCM := Lib.hid hcm
    have FP4 : Hid (RowC w4 lp lpl lpc p) := Lib.hid (FP3.out.below hb4)
    have FXa4 : Hid (Blk w4 w.heap.size (HC a) 23) := Lib.hid (FXa3.out.keep hb4)
    have FXd4 : Hid (Blk w4 (w.heap.size + 1) (HC d) 23) := Lib.hid (FXd3.out.keep hb4)
    have FE4 : Hid (Blk w4 w2.heap.size #[.int .i64 x, .int .i64 (powI 4 x)] 37) := Lib.hid (FE3.out.keep hb4)
    have HB4 : Hid (Below w.heap.size w w4) := Lib.hid (HB3.out.later hb4 (Nat.le_refl _))
    clear FP3 FXa3 FXd3 FE3 HB3
    clear hb4
    have FM4 : Hid (Own8 w4 w3.heap.size 5 (.slice (some ⟨gb, 0, none⟩) N cb) M) := Lib.hid (hO4)
    clear hO4 hgb hgl hLb hcm
    have HGBA : Hid (w.heap.size ≠ gb ∧ w.heap.size + 1 ≠ gb ∧ w2.heap.size ≠ gb ∧ w.heap.size ≤ gb) := Lib.hid (by have h1 := HXW.out; have h2 := HEW.out; have h3 := HGB.out; omega)
    clear FP4
    have jc : (K : Int) ≤ (cb : Int) := by have := HKN.out; have := HLB.out; omega
    have jK0 : ¬ (K : Int) < 0 := by omega
    have jK1 : (0 : Int) ≤ (K : Int) := by omega
    go_wp2_with (first
      | (refine wpList_load_row rfl 23 _ rfl w.heap.size rfl 23 (HC a) (0, 0) _ FXa4.out Try.underlying23 rfl Sa.out ?_))
    refine calls_gen (fun w5 hw5 => ?_)
    have hb5 : Below w4.heap.size w4 w5 := by rw [hw5]; (first | exact Below.refl _ _ | exact (Below.refl _ _).next (Nat.le_refl _) _ | exact ((Below.refl _ _).next (Nat.le_refl _) _).next (Nat.le_refl _) _ | exact (((Below.refl _ _).next (Nat.le_refl _) _).next (Nat.le_refl _) _).next (Nat.le_refl _) _ | exact ((((Below.refl _ _).next (Nat.le_refl _) _).next (Nat.le_refl _) _).next (Nat.le_refl _) _).next (Nat.le_refl _) _ | exact below_drew1 (Below.refl _ _) | exact below_drew1 ((Below.refl _ _).next (Nat.le_refl _) _) | exact below_drew1 (((Below.refl _ _).next (Nat.le_refl _) _).next (Nat.le_refl _) _))
    have FXa5 : Hid (Blk w5 w.heap.size (HC a) 23) := Lib.hid (FXa4.out.keep hb5)
    have FXd5 : Hid (Blk w5 (w.heap.size + 1) (HC d) 23) := Lib.hid (FXd4.out.keep hb5)
    have FE5 : Hid (Blk w5 w2.heap.size #[.int .i64 x, .int .i64 (powI 4 x)] 37) := Lib.hid (FE4.out.keep hb5)
    have FM5 : Hid (Own8 w5 w3.heap.size 5 (.slice (some ⟨gb, 0, none⟩) N cb) M) := Lib.hid (FM4.out.below hb5)
    have HB5 : Hid (Below w.heap.size w w5) := Lib.hid (HB4.out.later hb5 (Nat.le_refl _))
    clear FXa4 FXd4 FE4 FM4 HB4
    clear hb5 hw5
    obtain ⟨T, hT⟩ : ∃ T, M.take K = T := ⟨_, rfl⟩
    have HNT : Hid (T.length = K) := Lib.hid (by rw [← hT, List.length_take, HN.out]; have := HKN.out; omega)
    have FTT : Hid (RowC w5 (some ⟨gb, 0, none⟩) K cb T) := Lib.hid ⟨by have h := (FM5.out.row (by rw [HN.out, HNL.out]; have := HPL.out; simp only [maxLen]; omega) HN.out.symm).sub 0 K (by rw [HN.out]; have := HKN.out; omega); rw [List.drop_zero, hT] at h; exact h, fun e => by cases e⟩
    have HLK : Hid (K ≤ cb) := Lib.hid (by have := HKN.out; have := HLB.out; omega)
    clear hT
    clear FM5
    obtain ⟨Qq, hQ⟩ : ∃ Q, openB x (T) = Q := ⟨_, rfl⟩
    obtain ⟨Ee, hE⟩ : ∃ E, openE x (T) = E := ⟨_, rfl⟩
    have hQl : Qq.length ≤ 1000 := by
      rw [← hQ]
      unfold openB
      split
      · rw [xorW_length, List.length_drop, HNT.out]; have := HNL.out; have := HPL.out; have := HKN.out; omega
      · decide
    obtain ⟨L, hL⟩ : ∃ L, Qq.length = L := ⟨_, rfl⟩
    rw [hL] at hQl
    have HQ := Lib.hid hQ; have HE := Lib.hid hE; have HQL := Lib.hid hQl; have HL := Lib.hid hL
    clear hQ hE hQl hL
    refine (from_k a Ha.out _).mono ?_
    rintro e w6 ⟨g6, rfl, hgl6, hk6, hb6⟩
    rw [HX.out] at hk6
    have HGL : Hid (w.heap.size ≤ g6) := Lib.hid (Nat.le_trans HB5.out.size hgl6)
    have HGX : Hid (w.heap.size ≠ g6 ∧ w.heap.size + 1 ≠ g6 ∧ w2.heap.size ≠ g6) := Lib.hid (by have h1 := FXd5.out.lt; have h2 := FE5.out.lt; omega)
    clear hgl6
    have FXa6 : Hid (Blk w6 w.heap.size (HC a) 23) := Lib.hid (FXa5.out.keep hb6)
    have FXd6 : Hid (Blk w6 (w.heap.size + 1) (HC d) 23) := Lib.hid (FXd5.out.keep hb6)
    have FE6 : Hid (Blk w6 w2.heap.size #[.int .i64 x, .int .i64 (powI 4 x)] 37) := Lib.hid (FE5.out.keep hb6)
    have FT6 : Hid (RowC w6 (some ⟨gb, 0, none⟩) K cb T) := Lib.hid (FTT.out.below hb6)
    have HB6 : Hid (Below w.heap.size w w6) := Lib.hid (HB5.out.later hb6 (Nat.le_refl _))
    clear FXa5 FXd5 FE5 FTT HB5
    clear hb6
    have FK6 : Hid (Blk w6 g6 (CD x false 0) 72) := Lib.hid (hk6)
    go_wp2_with fail
    refine calls_gen (fun w7 hw7 => ?_)
    have hb7 : Below w6.heap.size w6 w7 := by rw [hw7]; (first | exact Below.refl _ _ | exact (Below.refl _ _).next (Nat.le_refl _) _ | exact ((Below.refl _ _).next (Nat.le_refl _) _).next (Nat.le_refl _) _ | exact (((Below.refl _ _).next (Nat.le_refl _) _).next (Nat.le_refl _) _).next (Nat.le_refl _) _ | exact ((((Below.refl _ _).next (Nat.le_refl _) _).next (Nat.le_refl _) _).next (Nat.le_refl _) _).next (Nat.le_refl _) _ | exact below_drew1 (Below.refl _ _) | exact below_drew1 ((Below.refl _ _).next (Nat.le_refl _) _) | exact below_drew1 (((Below.refl _ _).next (Nat.le_refl _) _).next (Nat.le_refl _) _))
    have FXa7 : Hid (Blk w7 w.heap.size (HC a) 23) := Lib.hid (FXa6.out.keep hb7)
    have FXd7 : Hid (Blk w7 (w.heap.size + 1) (HC d) 23) := Lib.hid (FXd6.out.keep hb7)
    have FE7 : Hid (Blk w7 w2.heap.size #[.int .i64 x, .int .i64 (powI 4 x)] 37) := Lib.hid (FE6.out.keep hb7)
    have FT7 : Hid (RowC w7 (some ⟨gb, 0, none⟩) K cb T) := Lib.hid (FT6.out.below hb7)
    have FK7 : Hid (Blk w7 g6 (CD x false 0) 72) := Lib.hid (FK6.out.keep hb7)
    have HB7 : Hid (Below w.heap.size w w7) := Lib.hid (HB6.out.later hb7 (Nat.le_refl _))
    clear FXa6 FXd6 FE6 FT6 FK6 HB6
    clear hb7 hw7
    refine (open_any g6 x 0 false (by decide) _ K _ (T) _ FK7.out FT7.out HLK.out (by rw [HNT.out]; have := HNL.out; have := HPL.out; have := HKN.out; omega)).mono ?_
    rintro e w8 ⟨v8, rfl, hO8, hg8, us, hk8, hu1, hu2⟩
    rw [HE.out]
    rw [HQ.out] at hO8
    obtain ⟨a8, c8, rfl, hC8, hL8⟩ := hO8.toL (by rw [HL.out]; have := HQL.out; omega)
    rw [HL.out] at hC8 hL8 ⊢
    clear hL8
    clear hu1 hu2
    have FXa8 : Hid (Blk w8 w.heap.size (HC a) 23) := Lib.hid (FXa7.out.grown hg8 HGX.out.1)
    have FXd8 : Hid (Blk w8 (w.heap.size + 1) (HC d) 23) := Lib.hid (FXd7.out.grown hg8 HGX.out.2.1)
    have FE8 : Hid (Blk w8 w2.heap.size #[.int .i64 x, .int .i64 (powI 4 x)] 37) := Lib.hid (FE7.out.grown hg8 HGX.out.2.2)
    have FT8 : Hid (RowC w8 (some ⟨gb, 0, none⟩) K cb T) := Lib.hid (FT7.out.key FK7.out hg8)
    have FK8 : Hid (Blk w8 g6 (CD x false us) 72) := Lib.hid hk8
    have HB8 : Hid (Below w.heap.size w w8) := Lib.hid (below_grown HB7.out hg8 HGL.out HB7.out.size)
    clear FXa7 FXd7 FE7 FT7 FK7 HB7 hk8 hg8
    have FQ18 : Hid (RowC w8 a8 L c8 Qq) := Lib.hid (hC8)
    clear FK8
    have cE0 := FE8.out.cell 0
    have cE1 := FE8.out.cell 1
    go_wp2_with fail
    clear cE0 cE1
    refine (ropen_any x (powI 4 x) _ K _ (T) _ FT8.out HLK.out (by rw [HNT.out]; have := HNL.out; have := HPL.out; have := HKN.out; omega)).mono ?_
    rintro e w9 ⟨v9, rfl, hO9, hb9⟩
    rw [HE.out]
    rw [HQ.out] at hO9
    obtain ⟨a9, c9, rfl, hC9, hL9⟩ := hO9.toL (by rw [HL.out]; have := HQL.out; omega)
    rw [HL.out] at hC9 hL9 ⊢
    clear hL9
    have FXa9 : Hid (Blk w9 w.heap.size (HC a) 23) := Lib.hid (FXa8.out.keep hb9)
    have FXd9 : Hid (Blk w9 (w.heap.size + 1) (HC d) 23) := Lib.hid (FXd8.out.keep hb9)
    have FE9 : Hid (Blk w9 w2.heap.size #[.int .i64 x, .int .i64 (powI 4 x)] 37) := Lib.hid (FE8.out.keep hb9)
    have FT9 : Hid (RowC w9 (some ⟨gb, 0, none⟩) K cb T) := Lib.hid (FT8.out.below hb9)
    have FQ19 : Hid (RowC w9 a8 L c8 Qq) := Lib.hid (FQ18.out.below hb9)
    have HB9 : Hid (Below w.heap.size w w9) := Lib.hid (HB8.out.later hb9 (Nat.le_refl _))
    clear FXa8 FXd8 FE8 FT8 FQ18 HB8
    clear hb9
    have FQ29 : Hid (RowC w9 a9 L c9 Qq) := Lib.hid (hC9)
    have kS1 := FQ19.out.row.str (P := Try.prog) 24 9 5 c8 Try.underlying24 Try.underlying5 Try.underlying9
    have kS2 := FQ29.out.row.str (P := Try.prog) 24 9 5 c9 Try.underlying24 Try.underlying5 Try.underlying9
    go_wp2_with (first
      | (go_at_call 14; with_reducible refine (known_seal _).mono ?_; rintro e w9 ⟨rfl, hb9⟩))
    go_ret
    exact ⟨rfl, HB9.out.later hb9 (Nat.le_refl _)⟩
  · have hw2 : way = 2 := by omega
    subst hw2
    go_enter Try.func6, Try.ntmps6
    go_wp2_with (first
      | (refine wpList_load_row rfl 23 _ rfl w.heap.size rfl 23 (HC a) (0, 0) _ HXa.out Try.underlying23 rfl Sa.out ?_))
    refine calls_gen (fun w1 hw1 => ?_)
    have hb1 : Below w.heap.size w w1 := by rw [hw1]; (first | exact Below.refl _ _ | exact (Below.refl _ _).next (Nat.le_refl _) _ | exact ((Below.refl _ _).next (Nat.le_refl _) _).next (Nat.le_refl _) _ | exact (((Below.refl _ _).next (Nat.le_refl _) _).next (Nat.le_refl _) _).next (Nat.le_refl _) _ | exact ((((Below.refl _ _).next (Nat.le_refl _) _).next (Nat.le_refl _) _).next (Nat.le_refl _) _).next (Nat.le_refl _) _ | exact below_drew1 (Below.refl _ _) | exact below_drew1 ((Below.refl _ _).next (Nat.le_refl _) _) | exact below_drew1 (((Below.refl _ _).next (Nat.le_refl _) _).next (Nat.le_refl _) _))
    have FXa1 : Hid (Blk w1 w.heap.size (HC a) 23) := Lib.hid (by rw [hw1]; exact HXa.out)
    have FXd1 : Hid (Blk w1 (w.heap.size + 1) (HC d) 23) := Lib.hid (by rw [hw1]; exact HXd.out)
    have FP1 : Hid (RowC w1 lp lpl lpc p) := Lib.hid (HP0.out.below hb1)
    have HB1 : Hid (Below w.heap.size w w1) := Lib.hid (hb1)
    clear HP0
    clear hb1 hw1
    refine (rfrom_k a Ha.out _).mono ?_
    rintro e w2 ⟨rfl, hb2⟩
    rw [HX.out]
    have FP2 : Hid (RowC w2 lp lpl lpc p) := Lib.hid (FP1.out.below hb2)
    have FXa2 : Hid (Blk w2 w.heap.size (HC a) 23) := Lib.hid (FXa1.out.keep hb2)
    have FXd2 : Hid (Blk w2 (w.heap.size + 1) (HC d) 23) := Lib.hid (FXd1.out.keep hb2)
    have HB2 : Hid (Below w.heap.size w w2) := Lib.hid (HB1.out.later hb2 (Nat.le_refl _))
    clear FP1 FXa1 FXd1 HB1
    clear hb2
    have cE1 : (w2.alloc (.cells #[.int .i64 x, .int .i64 (powI 4 x)] 37)).cell? ⟨w2.heap.size, 1, none⟩ = some (.int .i64 (powI 4 x)) := (Blk.new w2 _ _).cell 1
    have hXd2 := FXd2.out.alloc (.cells #[.int .i64 x, .int .i64 (powI 4 x)] 37)
    go_wp2_with (first
      | (refine wpList_load_row rfl 23 _ rfl (w.heap.size + 1) rfl 23 (HC d) (0, 0) _ hXd2 Try.underlying23 rfl Sd.out ?_))
    refine calls_gen (fun w3 hw3 => ?_)
    have hb3 : Below w2.heap.size w2 w3 := by rw [hw3]; (first | exact Below.refl _ _ | exact (Below.refl _ _).next (Nat.le_refl _) _ | exact ((Below.refl _ _).next (Nat.le_refl _) _).next (Nat.le_refl _) _ | exact (((Below.refl _ _).next (Nat.le_refl _) _).next (Nat.le_refl _) _).next (Nat.le_refl _) _ | exact ((((Below.refl _ _).next (Nat.le_refl _) _).next (Nat.le_refl _) _).next (Nat.le_refl _) _).next (Nat.le_refl _) _ | exact below_drew1 (Below.refl _ _) | exact below_drew1 ((Below.refl _ _).next (Nat.le_refl _) _) | exact below_drew1 (((Below.refl _ _).next (Nat.le_refl _) _).next (Nat.le_refl _) _))
    have FE3 : Hid (Blk w3 w2.heap.size #[.int .i64 x, .int .i64 (powI 4 x)] 37) := Lib.hid (by rw [hw3]; exact Blk.new _ _ _)
    have FP3 : Hid (RowC w3 lp lpl lpc p) := Lib.hid (FP2.out.below hb3)
    have FXa3 : Hid (Blk w3 w.heap.size (HC a) 23) := Lib.hid (FXa2.out.keep hb3)
    have FXd3 : Hid (Blk w3 (w.heap.size + 1) (HC d) 23) := Lib.hid (FXd2.out.keep hb3)
    have HB3 : Hid (Below w.heap.size w w3) := Lib.hid (HB2.out.later hb3 (Nat.le_refl _))
    clear FP2 FXa2 FXd2 HB2
    clear hb3 hw3
    clear cE1 hXd2
    have HEW := Lib.hid FE3.out.lt; have HXW := Lib.hid FXd3.out.lt
    refine (rseal_any (powI 4 x) d Hd.out lp lpl lpc p _ FP3.out (by have := HPL.out; omega)).mono ?_
    rintro e w4 ⟨v4, rfl, hO4, hb4⟩
    rw [SE.out.1]
    rw [HDK.out, SE.out.2] at hO4
    obtain ⟨gb, cb, rfl, hgb, hgl, hLb, hcm⟩ := hO4.hasN N HN.out.symm (by rw [HNL.out]; omega)
    have HLB := Lib.hid hLb; have HGB := Lib.hid hgb; have HCM := Lib.hid hcm
    have FP4 : Hid (RowC w4 lp lpl lpc p) := Lib.hid (FP3.out.below hb4)
    have FXa4 : Hid (Blk w4 w.heap.size (HC a) 23) := Lib.hid (FXa3.out.keep hb4)
    have FXd4 : Hid (Blk w4 (w.heap.size + 1) (HC d) 23) := Lib.hid (FXd3.out.keep hb4)
    have FE4 : Hid (Blk w4 w2.heap.size #[.int .i64 x, .int .i64 (powI 4 x)] 37) := Lib.hid (FE3.out.keep hb4)
    have HB4 : Hid (Below w.heap.size w w4) := Lib.hid (HB3.out.later hb4 (Nat.le_refl _))
    clear FP3 FXa3 FXd3 FE3 HB3
    clear hb4
    have FM4 : Hid (Own8 w4 w3.heap.size 5 (.slice (some ⟨gb, 0, none⟩) N cb) M) := Lib.hid (hO4)
    clear hO4 hgb hgl hLb hcm
    have HGBA : Hid (w.heap.size ≠ gb ∧ w.heap.size + 1 ≠ gb ∧ w2.heap.size ≠ gb ∧ w.heap.size ≤ gb) := Lib.hid (by have h1 := HXW.out; have h2 := HEW.out; have h3 := HGB.out; omega)
    clear FP4
    go_wp2_with (first
      | (at_builtin
         refine wpList_append8 rfl (.tmp 48) (.tmp 50) 24 rfl w3.heap.size 5 Try.underlying24 info8 (.slice (some ⟨gb, 0, none⟩) N cb) M rfl ?c1 _ _ _ [y] rfl ?c2 ?c3 ?c4 ?c5 ?_
         case c1 => exact FM4.out.below ((Below.refl _ _).next (Nat.le_refl _) _)
         case c2 => exact Row8.litAt [y] _ rfl rfl rfl (by simp [maxLen])
         case c3 => exact fun e => by cases e
         case c4 => rw [HN.out, HNL.out]; have := HPL.out; simp only [List.length_cons, List.length_nil]; omega
         case c5 => have h1 := HGB.out; have h2 := FM4.out.ofBlkAny; obtain ⟨cur, h2⟩ := h2; have h3 := h2.lt; rw [size_alloc]; omega
         intro v5 w5 hown5 hg5 hb5
         have hb5 : Below w3.heap.size w4 w5 := (((Below.refl w3.heap.size w4).next (by have h1 := HGB.out; obtain ⟨cur, h2⟩ := FM4.out.ofBlkAny; have h3 := h2.lt; omega) _).trans hb5)
         have FXa5 : Hid (Blk w5 w.heap.size (HC a) 23) := Lib.hid (FXa4.out.below hb5 (by have := HXW.out; omega))
         have FXd5 : Hid (Blk w5 (w.heap.size + 1) (HC d) 23) := Lib.hid (FXd4.out.below hb5 HXW.out)
         have FE5 : Hid (Blk w5 w2.heap.size #[.int .i64 x, .int .i64 (powI 4 x)] 37) := Lib.hid (FE4.out.below hb5 HEW.out)
         have HB5 : Hid (Below w.heap.size w w5) := Lib.hid (HB4.out.trans (hb5.mono (by have := HXW.out; omega)))
         have FT5 := Lib.hid hown5
         clear hown5 hg5 hb5 FXa4 FXd4 FE4 FM4 HB4)
      | (refine wpList_load_row rfl 23 _ rfl w.heap.size rfl 23 (HC a) (0, 0) _ FXa5.out Try.underlying23 rfl Sa.out ?_))
    have HNT : Hid ((M ++ [y]).length = N + 1) := Lib.hid (by rw [List.length_append, HN.out]; rfl)
    obtain ⟨T, hT⟩ : ∃ T, M ++ [y] = T := ⟨_, rfl⟩
    rw [hT] at HNT FT5
    clear hT
    obtain ⟨at__, ct, hve, hct, hlt⟩ := FT5.out.toL (by rw [HNT.out, HNL.out]; have := HPL.out; omega)
    subst hve
    rw [HNT.out] at hct hlt ⊢
    have FTT := Lib.hid hct; have HLK := Lib.hid hlt
    clear hct hlt FT5
    obtain ⟨Qq, hQ⟩ : ∃ Q, openB x (T) = Q := ⟨_, rfl⟩
    obtain ⟨Ee, hE⟩ : ∃ E, openE x (T) = E := ⟨_, rfl⟩
    have hQl : Qq.length ≤ 1000 := by
      rw [← hQ]
      unfold openB
      split
      · rw [xorW_length, List.length_drop, HNT.out]; have := HNL.out; have := HPL.out; have := HKN.out; omega
      · decide
    obtain ⟨L, hL⟩ : ∃ L, Qq.length = L := ⟨_, rfl⟩
    rw [hL] at hQl
    have HQ := Lib.hid hQ; have HE := Lib.hid hE; have HQL := Lib.hid hQl; have HL := Lib.hid hL
    clear hQ hE hQl hL
    refine (from_k a Ha.out _).mono ?_
    rintro e w6 ⟨g6, rfl, hgl6, hk6, hb6⟩
    rw [HX.out] at hk6
    have HGL : Hid (w.heap.size ≤ g6) := Lib.hid (Nat.le_trans HB5.out.size hgl6)
    have HGX : Hid (w.heap.size ≠ g6 ∧ w.heap.size + 1 ≠ g6 ∧ w2.heap.size ≠ g6) := Lib.hid (by have h1 := FXd5.out.lt; have h2 := FE5.out.lt; omega)
    clear hgl6
    have FXa6 : Hid (Blk w6 w.heap.size (HC a) 23) := Lib.hid (FXa5.out.keep hb6)
    have FXd6 : Hid (Blk w6 (w.heap.size + 1) (HC d) 23) := Lib.hid (FXd5.out.keep hb6)
    have FE6 : Hid (Blk w6 w2.heap.size #[.int .i64 x, .int .i64 (powI 4 x)] 37) := Lib.hid (FE5.out.keep hb6)
    have FT6 : Hid (RowC w6 at__ (N + 1) ct T) := Lib.hid (FTT.out.below hb6)
    have HB6 : Hid (Below w.heap.size w w6) := Lib.hid (HB5.out.later hb6 (Nat.le_refl _))
    clear FXa5 FXd5 FE5 FTT HB5
    clear hb6
    have FK6 : Hid (Blk w6 g6 (CD x false 0) 72) := Lib.hid (hk6)
    go_wp2_with fail
    refine calls_gen (fun w7 hw7 => ?_)
    have hb7 : Below w6.heap.size w6 w7 := by rw [hw7]; (first | exact Below.refl _ _ | exact (Below.refl _ _).next (Nat.le_refl _) _ | exact ((Below.refl _ _).next (Nat.le_refl _) _).next (Nat.le_refl _) _ | exact (((Below.refl _ _).next (Nat.le_refl _) _).next (Nat.le_refl _) _).next (Nat.le_refl _) _ | exact ((((Below.refl _ _).next (Nat.le_refl _) _).next (Nat.le_refl _) _).next (Nat.le_refl _) _).next (Nat.le_refl _) _ | exact below_drew1 (Below.refl _ _) | exact below_drew1 ((Below.refl _ _).next (Nat.le_refl _) _) | exact below_drew1 (((Below.refl _ _).next (Nat.le_refl _) _).next (Nat.le_refl _) _))
    have FXa7 : Hid (Blk w7 w.heap.size (HC a) 23) := Lib.hid (FXa6.out.keep hb7)
    have FXd7 : Hid (Blk w7 (w.heap.size + 1) (HC d) 23) := Lib.hid (FXd6.out.keep hb7)
    have FE7 : Hid (Blk w7 w2.heap.size #[.int .i64 x, .int .i64 (powI 4 x)] 37) := Lib.hid (FE6.out.keep hb7)
    have FT7 : Hid (RowC w7 at__ (N + 1) ct T) := Lib.hid (FT6.out.below hb7)
    have FK7 : Hid (Blk w7 g6 (CD x false 0) 72) := Lib.hid (FK6.out.keep hb7)
    have HB7 : Hid (Below w.heap.size w w7) := Lib.hid (HB6.out.later hb7 (Nat.le_refl _))
    clear FXa6 FXd6 FE6 FT6 FK6 HB6
    clear hb7 hw7
    refine (open_any g6 x 0 false (by decide) _ (N + 1) _ (T) _ FK7.out FT7.out HLK.out (by rw [HNT.out]; have := HNL.out; have := HPL.out; have := HKN.out; omega)).mono ?_
    rintro e w8 ⟨v8, rfl, hO8, hg8, us, hk8, hu1, hu2⟩
    rw [HE.out]
    rw [HQ.out] at hO8
    obtain ⟨a8, c8, rfl, hC8, hL8⟩ := hO8.toL (by rw [HL.out]; have := HQL.out; omega)
    rw [HL.out] at hC8 hL8 ⊢
    clear hL8
    clear hu1 hu2
    have FXa8 : Hid (Blk w8 w.heap.size (HC a) 23) := Lib.hid (FXa7.out.grown hg8 HGX.out.1)
    have FXd8 : Hid (Blk w8 (w.heap.size + 1) (HC d) 23) := Lib.hid (FXd7.out.grown hg8 HGX.out.2.1)
    have FE8 : Hid (Blk w8 w2.heap.size #[.int .i64 x, .int .i64 (powI 4 x)] 37) := Lib.hid (FE7.out.grown hg8 HGX.out.2.2)
    have FT8 : Hid (RowC w8 at__ (N + 1) ct T) := Lib.hid (FT7.out.key FK7.out hg8)
    have FK8 : Hid (Blk w8 g6 (CD x false us) 72) := Lib.hid hk8
    have HB8 : Hid (Below w.heap.size w w8) := Lib.hid (below_grown HB7.out hg8 HGL.out HB7.out.size)
    clear FXa7 FXd7 FE7 FT7 FK7 HB7 hk8 hg8
    have FQ18 : Hid (RowC w8 a8 L c8 Qq) := Lib.hid (hC8)
    clear FK8
    have cE0 := FE8.out.cell 0
    have cE1 := FE8.out.cell 1
    go_wp2_with fail
    clear cE0 cE1
    refine (ropen_any x (powI 4 x) _ (N + 1) _ (T) _ FT8.out HLK.out (by rw [HNT.out]; have := HNL.out; have := HPL.out; have := HKN.out; omega)).mono ?_
    rintro e w9 ⟨v9, rfl, hO9, hb9⟩
    rw [HE.out]
    rw [HQ.out] at hO9
    obtain ⟨a9, c9, rfl, hC9, hL9⟩ := hO9.toL (by rw [HL.out]; have := HQL.out; omega)
    rw [HL.out] at hC9 hL9 ⊢
    clear hL9
    have FXa9 : Hid (Blk w9 w.heap.size (HC a) 23) := Lib.hid (FXa8.out.keep hb9)
    have FXd9 : Hid (Blk w9 (w.heap.size + 1) (HC d) 23) := Lib.hid (FXd8.out.keep hb9)
    have FE9 : Hid (Blk w9 w2.heap.size #[.int .i64 x, .int .i64 (powI 4 x)] 37) := Lib.hid (FE8.out.keep hb9)
    have FT9 : Hid (RowC w9 at__ (N + 1) ct T) := Lib.hid (FT8.out.below hb9)
    have FQ19 : Hid (RowC w9 a8 L c8 Qq) := Lib.hid (FQ18.out.below hb9)
    have HB9 : Hid (Below w.heap.size w w9) := Lib.hid (HB8.out.later hb9 (Nat.le_refl _))
    clear FXa8 FXd8 FE8 FT8 FQ18 HB8
    clear hb9
    have FQ29 : Hid (RowC w9 a9 L c9 Qq) := Lib.hid (hC9)
    have kS1 := FQ19.out.row.str (P := Try.prog) 24 9 5 c8 Try.underlying24 Try.underlying5 Try.underlying9
    have kS2 := FQ29.out.row.str (P := Try.prog) 24 9 5 c9 Try.underlying24 Try.underlying5 Try.underlying9
    go_wp2_with (first
      | (go_at_call 14; with_reducible refine (known_seal _).mono ?_; rintro e w9 ⟨rfl, hb9⟩))
    go_ret
    exact ⟨rfl, HB9.out.later hb9 (Nat.le_refl _)⟩
end Go.Proofs.Ytaaidjncbcildaa
