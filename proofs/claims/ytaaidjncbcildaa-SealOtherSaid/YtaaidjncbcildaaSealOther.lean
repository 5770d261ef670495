/-
  The walk of a law.
-/
import Derived.Test.YtaaidjncbcildaaGSeal
import Derived.Test.YtaaidjncbcildaaGBase
namespace Go.Proofs.Ytaaidjncbcildaa
set_option maxRecDepth 100000
open Go.RowKit Pm
set_option linter.unusedVariables false
set_option linter.unusedSimpArgs false
attribute [local go_sem] key_y key_x

set_option maxRecDepth 100000 in
set_option maxHeartbeats 4000000 in
theorem sealOther_walk {w : World} (a : List UInt8) (ha : a.length = 32) (b : List UInt8) (hb : b.length = 32) (d : List UInt8) (hd : d.length = 32) (lp : Option Addr) (lpl lpc : Nat) (p : List UInt8) (hp : Arg8 w lp lpl lpc p) :
    Calls Try.prog 10 #[HV a, HV b, HV d, .slice lp lpl lpc] w fun e w' => e = .returned (.bool true) ∧ Below w.heap.size w w' := by
  have hle := hp.le
  have hsm := hp.small
  have hlen := hp.row.len_eq
  by_cases h1 : (lpl : Int) > 200
  · go_enter Try.func10, Try.ntmps10
    go_wp2
    go_ret
    exact ⟨rfl, (((Below.refl _ _).next (Nat.le_refl _) _).next (Nat.le_refl _) _).next (Nat.le_refl _) _⟩
  have hpl : p.length ≤ 200 := by omega
  obtain ⟨y, hy⟩ : ∃ y, keyS a = y := ⟨_, rfl⟩
  obtain ⟨x, hx⟩ : ∃ x, keyS b = x := ⟨_, rfl⟩
  obtain ⟨M, hM⟩ : ∃ M, sealB (powI 4 y) (keyS d) p = M := ⟨_, rfl⟩
  obtain ⟨E, hE⟩ : ∃ E, sealE (powI 4 y) p = E := ⟨_, rfl⟩
  have hMl : M.length ≤ 1000 := by
    rw [← hM]
    unfold sealB
    split
    · rw [boxW_length]; omega
    · decide
  obtain ⟨N, hN⟩ : ∃ N, M.length = N := ⟨_, rfl⟩
  obtain ⟨Q, hQ⟩ : ∃ Q, openB x M = Q := ⟨_, rfl⟩
  obtain ⟨E2, hE2⟩ : ∃ E, openE x M = E := ⟨_, rfl⟩
  have hQl : Q.length ≤ 1000 := by
    rw [← hQ]
    unfold openB
    split
    · rw [xorW_length, List.length_drop]; omega
    · decide
  obtain ⟨L, hL⟩ : ∃ L, Q.length = L := ⟨_, rfl⟩
  rw [hN] at hMl
  rw [hL] at hQl
  have HM := Lib.hid hM; have HE := Lib.hid hE; have HML := Lib.hid hMl; have HN := Lib.hid hN; have HQ := Lib.hid hQ; have HE2 := Lib.hid hE2; have HQL := Lib.hid hQl; have HL := Lib.hid hL; have HX := Lib.hid hx; have HY := Lib.hid hy
  clear hM hE hMl hN hQ hE2 hQl hL hx hy
  have HP0 := Lib.hid hp.toC; have HPL := Lib.hid hpl
  clear hp hle hsm hlen hpl
  have hsza : (Try.prog.info? 23).map (·.size) = some (HC a).size := by rw [HC_size, ha]; kernel_rfl
  have Sa := Lib.hid hsza; have Ha := Lib.hid ha
  clear hsza ha
  have hszb : (Try.prog.info? 23).map (·.size) = some (HC b).size := by rw [HC_size, hb]; kernel_rfl
  have Sb := Lib.hid hszb; have Hb := Lib.hid hb
  clear hszb hb
  have hszd : (Try.prog.info? 23).map (·.size) = some (HC d).size := by rw [HC_size, hd]; kernel_rfl
  have Sd := Lib.hid hszd; have Hd := Lib.hid hd
  clear hszd hd
  have hXa : Blk (((w.alloc (.cells (HC a) 23)).alloc (.cells (HC b) 23)).alloc (.cells (HC d) 23)) (w.heap.size) (HC a) 23 := ((Blk.new _ _ _).alloc _).alloc _
  have hXb : Blk (((w.alloc (.cells (HC a) 23)).alloc (.cells (HC b) 23)).alloc (.cells (HC d) 23)) (w.heap.size + 1) (HC b) 23 := (Blk.newAt _ _ (by simp)).alloc _
  have hXd : Blk (((w.alloc (.cells (HC a) 23)).alloc (.cells (HC b) 23)).alloc (.cells (HC d) 23)) (w.heap.size + 2) (HC d) 23 := Blk.newAt _ _ (by simp)
  have HXa := Lib.hid hXa; have HXb := Lib.hid hXb; have HXd := Lib.hid hXd
  clear hXa hXb hXd
  unfold HV
  go_enter Try.func10, Try.ntmps10
  go_wp2_with fail
  refine wp_gen (fun w1 hw1 => ?_)
  have hb1 : Below w.heap.size w w1 := by rw [hw1]; (first | exact Below.refl _ _ | exact (Below.refl _ _).next (Nat.le_refl _) _ | exact ((Below.refl _ _).next (Nat.le_refl _) _).next (Nat.le_refl _) _ | exact (((Below.refl _ _).next (Nat.le_refl _) _).next (Nat.le_refl _) _).next (Nat.le_refl _) _ | exact ((((Below.refl _ _).next (Nat.le_refl _) _).next (Nat.le_refl _) _).next (Nat.le_refl _) _).next (Nat.le_refl _) _ | exact below_drew1 (Below.refl _ _) | exact below_drew1 ((Below.refl _ _).next (Nat.le_refl _) _) | exact below_drew1 (((Below.refl _ _).next (Nat.le_refl _) _).next (Nat.le_refl _) _))
  have FXa1 : Hid (Blk w1 w.heap.size (HC a) 23) := Lib.hid (by rw [hw1]; exact HXa.out)
  have FXb1 : Hid (Blk w1 (w.heap.size + 1) (HC b) 23) := Lib.hid (by rw [hw1]; exact HXb.out)
  have FXd1 : Hid (Blk w1 (w.heap.size + 2) (HC d) 23) := Lib.hid (by rw [hw1]; exact HXd.out)
  have FP1 : Hid (RowC w1 lp lpl lpc p) := Lib.hid (HP0.out.below hb1)
  have HB1 : Hid (Below w.heap.size w w1) := Lib.hid (hb1)
  clear HP0
  clear hb1 hw1
  have hB0 := HB1.out
  refine region_muts [] _ (Nat.le_refl _) (fun S vals wG => hasF 5 (isTup w1.heap.size 5 E (M)) S vals wG ∧ hasF 7 (isOwn w1.heap.size 5 (M)) S vals wG) [isV 0 (HV a), isV 1 (.agg #[.int .i64 y, .int .i64 (powI 4 y)]), isV 2 (.int .i64 (powI 4 y)), isV 3 (HV d), isV 4 (.slice lp lpl lpc), anyV, asV 6 5, anyV, isV 8 (.int .i64 E), asV 9 7, isV 10 (.int .i64 E)]
    [[], [0], [1], [], [], [2, 3, 4], [5], [6], [6], [7], [8]] [some 19, some 20, some 21, some 22, some 23, some 24, some 18, some 25, some 26, some 9, some 10] _ (by kernel_rfl) (by kernel_rfl) (by kernel_rfl) (by kernel_rfl) (by kernel_rfl) rfl ?_ ?_ ?_ ?_
  · repeat (first | exact stT_nil | refine stT_cons (by first | exact stT_is _ _ | exact stT_as _ _ | exact stT_any | exact stT_lit _ _ _ _ _ (by decide) | exact stT_rowOf _ _ _ _ (by decide) (by decide)) ?_)
  · exact ⟨hasF.start _ _ _ _, hasF.start _ _ _ _⟩
  · intro hgz
    refine ⟨?_, ?_, ?_, ?_, ?_, ?_, ?_, ?_, ?_, ?_, ?_, trivial⟩ <;> intro S_ vals wi hb hSi hdn hcl hG hf <;> obtain ⟨hb, hz⟩ := hgz wi hb <;> simp [leans, factsOf, phi, sel_lit, sel_rowOf, isV, asV, anyV, sel] at hf <;> simp [putD, phi, Act.put]
    · -- 0 load 
      refine wpList_load_row rfl 23 _ rfl _ rfl 23 (HC a) (0, 0) _ (FXa1.out.keep hb.below) Try.underlying23 rfl Sa.out ?_
      exact ⟨rfl, rfl, .refl _ _ _, mk_is rfl, ⟨hG.1.keep (bm_tup _ _ _ _) _ 0 (by decide) (Below.refl _ _), hG.2.keep (bm_own _ _ _) _ 0 (by decide) (Below.refl _ _)⟩⟩
    · -- 1 call curia/curiaref3.From 
      simp only [hf]; clear hf
      go_wp2_with (first | (go_at_call 18; refine (rfrom_k a Ha.out _).mono ?_; rintro e w' ⟨rfl, hb'⟩; rw [HY.out]))
      exact ⟨rfl, rfl, GrowsT.of hb' hz, mk_is rfl, ⟨hG.1.keep (bm_tup _ _ _ _) _ 1 (by decide) hb', hG.2.keep (bm_own _ _ _) _ 1 (by decide) hb'⟩⟩
    · -- 2 field 
      simp only [hf]; clear hf
      go_wp2
      exact ⟨rfl, rfl, .refl _ _ _, mk_is rfl, ⟨hG.1.keep (bm_tup _ _ _ _) _ 2 (by decide) (Below.refl _ _), hG.2.keep (bm_own _ _ _) _ 2 (by decide) (Below.refl _ _)⟩⟩
    · -- 3 load 
      refine wpList_load_row rfl 23 _ rfl _ rfl 23 (HC d) (0, 0) _ (FXd1.out.keep hb.below) Try.underlying23 rfl Sd.out ?_
      exact ⟨rfl, rfl, .refl _ _ _, mk_is rfl, ⟨hG.1.keep (bm_tup _ _ _ _) _ 3 (by decide) (Below.refl _ _), hG.2.keep (bm_own _ _ _) _ 3 (by decide) (Below.refl _ _)⟩⟩
    · -- 4 move 
      go_wp2
      exact ⟨rfl, rfl, .refl _ _ _, mk_is rfl, ⟨hG.1.keep (bm_tup _ _ _ _) _ 4 (by decide) (Below.refl _ _), hG.2.keep (bm_own _ _ _) _ 4 (by decide) (Below.refl _ _)⟩⟩
    · -- 5 call curia/curiaref5.Seal 
      simp only [hf]; clear hf
      go_wp2_with (first | (go_at_call 13; refine (rseal_any (powI 4 y) d Hd.out lp lpl lpc p _ (FP1.out.below hb.below) (by have := HPL.out; omega)).mono ?_; rintro e w' ⟨v_, rfl, ho_, hb'⟩; rw [HE.out]; rw [HM.out] at ho_))
      exact ⟨rfl, rfl, GrowsT.of hb' hz, mk_any, ⟨hasF.new (⟨_, rfl, ho_.base hz⟩), hG.2.keep (bm_own _ _ _) _ 5 (by decide) hb'⟩⟩
    · -- 6 move 
      go_wp2
      exact ⟨rfl, rfl, .refl _ _ _, mk_as rfl (by decide) (by decide), ⟨hG.1.keep (bm_tup _ _ _ _) _ 6 (by decide) (Below.refl _ _), hG.2.keep (bm_own _ _ _) _ 6 (by decide) (Below.refl _ _)⟩⟩
    · -- 7 extract 
      obtain ⟨v5, hv5, ho5⟩ := hG.1.get (way_done hcl [] 6 5 (by decide) (hdn 6 (by decide)))
      simp only [hf, hv5]
      go_wp2
      exact ⟨rfl, rfl, .refl _ _ _, mk_any, ⟨hG.1.keep (bm_tup _ _ _ _) _ 7 (by decide) (Below.refl _ _), hasF.new (ho5)⟩⟩
    · -- 8 extract 
      obtain ⟨v5, hv5, ho5⟩ := hG.1.get (way_done hcl [] 6 5 (by decide) (hdn 6 (by decide)))
      simp only [hf, hv5]
      go_wp2
      exact ⟨rfl, rfl, .refl _ _ _, mk_is rfl, ⟨hG.1.keep (bm_tup _ _ _ _) _ 8 (by decide) (Below.refl _ _), hG.2.keep (bm_own _ _ _) _ 8 (by decide) (Below.refl _ _)⟩⟩
    · -- 9 assign 
      go_wp2
      exact ⟨rfl, rfl, .refl _ _ _, mk_as rfl (by decide) (by decide), ⟨hG.1.keep (bm_tup _ _ _ _) _ 9 (by decide) (Below.refl _ _), hG.2.keep (bm_own _ _ _) _ 9 (by decide) (Below.refl _ _)⟩⟩
    · -- 10 assign 
      simp only [hf]; clear hf
      go_wp2
      exact ⟨rfl, rfl, .refl _ _ _, mk_is rfl, ⟨hG.1.keep (bm_tup _ _ _ _) _ 10 (by decide) (Below.refl _ _), hG.2.keep (bm_own _ _ _) _ 10 (by decide) (Below.refl _ _)⟩⟩
  · intro vals wi hb hG hf; simp [leans, List.range, List.range.loop, factsOf, phi, sel_lit, sel_rowOf, isV, asV, anyV, sel] at hf; simp [putD, List.range, List.range.loop, Act.put, hf]
    have ho6 := hG.2.get (by simp)
    generalize vals 7 = v6 at ho6 ⊢
    obtain ⟨a6, c6, rfl, hC6, hL6⟩ := ho6.toL (by rw [HN.out]; have := HML.out; omega)
    rw [HN.out] at hC6 hL6 ⊢
    have hbi := hb.below
    clear hG hf hb hB0 ho6
    have FP20 : Hid (RowC wi lp lpl lpc p) := Lib.hid (FP1.out.below hbi)
    have FXa20 : Hid (Blk wi w.heap.size (HC a) 23) := Lib.hid (FXa1.out.keep hbi)
    have FXb20 : Hid (Blk wi (w.heap.size + 1) (HC b) 23) := Lib.hid (FXb1.out.keep hbi)
    have FXd20 : Hid (Blk wi (w.heap.size + 2) (HC d) 23) := Lib.hid (FXd1.out.keep hbi)
    have HB20 : Hid (Below w.heap.size w wi) := Lib.hid (HB1.out.later hbi (Nat.le_refl _))
    clear FP1 FXa1 FXb1 FXd1 HB1
    have HL6 := Lib.hid hL6; have HC6 := Lib.hid hC6
    clear hbi hL6 hC6
    go_wp2_with (first
      | (refine wpList_load_row rfl 23 _ rfl (w.heap.size + 1) rfl 23 (HC b) (0, 0) _ FXb20.out Try.underlying23 rfl Sb.out ?_))
    refine calls_gen (fun w21 hw21 => ?_)
    have hb21 : Below wi.heap.size wi w21 := by rw [hw21]; (first | exact Below.refl _ _ | exact (Below.refl _ _).next (Nat.le_refl _) _ | exact ((Below.refl _ _).next (Nat.le_refl _) _).next (Nat.le_refl _) _ | exact (((Below.refl _ _).next (Nat.le_refl _) _).next (Nat.le_refl _) _).next (Nat.le_refl _) _ | exact ((((Below.refl _ _).next (Nat.le_refl _) _).next (Nat.le_refl _) _).next (Nat.le_refl _) _).next (Nat.le_refl _) _ | exact below_drew1 (Below.refl _ _) | exact below_drew1 ((Below.refl _ _).next (Nat.le_refl _) _) | exact below_drew1 (((Below.refl _ _).next (Nat.le_refl _) _).next (Nat.le_refl _) _))
    have FP21 : Hid (RowC w21 lp lpl lpc p) := Lib.hid (FP20.out.below hb21)
    have FXa21 : Hid (Blk w21 w.heap.size (HC a) 23) := Lib.hid (FXa20.out.keep hb21)
    have FXb21 : Hid (Blk w21 (w.heap.size + 1) (HC b) 23) := Lib.hid (FXb20.out.keep hb21)
    have FXd21 : Hid (Blk w21 (w.heap.size + 2) (HC d) 23) := Lib.hid (FXd20.out.keep hb21)
    have FM21 : Hid (RowC w21 a6 N c6 M) := Lib.hid (HC6.out.below hb21)
    have HB21 : Hid (Below w.heap.size w w21) := Lib.hid (HB20.out.later hb21 (Nat.le_refl _))
    clear FP20 FXa20 FXb20 FXd20 HC6 HB20
    clear hb21 hw21
    refine (from_k b Hb.out _).mono ?_
    rintro e w22 ⟨g22, rfl, hgl22, hk22, hb22⟩
    rw [HX.out] at hk22
    have HZ_ := HB21.out.size
    have HGL : Hid (w.heap.size ≤ g22) := Lib.hid (by omega)
    have HGX : Hid (w.heap.size ≠ g22 ∧ w.heap.size + 1 ≠ g22 ∧ w.heap.size + 2 ≠ g22) := Lib.hid (by have h1 := FXd21.out.lt; omega)
    clear hgl22 HZ_
    have FP22 : Hid (RowC w22 lp lpl lpc p) := Lib.hid (FP21.out.below hb22)
    have FXa22 : Hid (Blk w22 w.heap.size (HC a) 23) := Lib.hid (FXa21.out.keep hb22)
    have FXb22 : Hid (Blk w22 (w.heap.size + 1) (HC b) 23) := Lib.hid (FXb21.out.keep hb22)
    have FXd22 : Hid (Blk w22 (w.heap.size + 2) (HC d) 23) := Lib.hid (FXd21.out.keep hb22)
    have FM22 : Hid (RowC w22 a6 N c6 M) := Lib.hid (FM21.out.below hb22)
    have HB22 : Hid (Below w.heap.size w w22) := Lib.hid (HB21.out.later hb22 (Nat.le_refl _))
    clear FP21 FXa21 FXb21 FXd21 FM21 HB21
    clear hb22
    have FK22 : Hid (Blk w22 g22 (CD x false 0) 72) := Lib.hid (hk22)
    go_wp2_with fail
    refine calls_gen (fun w23 hw23 => ?_)
    have hb23 : Below w22.heap.size w22 w23 := by rw [hw23]; (first | exact Below.refl _ _ | exact (Below.refl _ _).next (Nat.le_refl _) _ | exact ((Below.refl _ _).next (Nat.le_refl _) _).next (Nat.le_refl _) _ | exact (((Below.refl _ _).next (Nat.le_refl _) _).next (Nat.le_refl _) _).next (Nat.le_refl _) _ | exact ((((Below.refl _ _).next (Nat.le_refl _) _).next (Nat.le_refl _) _).next (Nat.le_refl _) _).next (Nat.le_refl _) _ | exact below_drew1 (Below.refl _ _) | exact below_drew1 ((Below.refl _ _).next (Nat.le_refl _) _) | exact below_drew1 (((Below.refl _ _).next (Nat.le_refl _) _).next (Nat.le_refl _) _))
    have FP23 : Hid (RowC w23 lp lpl lpc p) := Lib.hid (FP22.out.below hb23)
    have FXa23 : Hid (Blk w23 w.heap.size (HC a) 23) := Lib.hid (FXa22.out.keep hb23)
    have FXb23 : Hid (Blk w23 (w.heap.size + 1) (HC b) 23) := Lib.hid (FXb22.out.keep hb23)
    have FXd23 : Hid (Blk w23 (w.heap.size + 2) (HC d) 23) := Lib.hid (FXd22.out.keep hb23)
    have FM23 : Hid (RowC w23 a6 N c6 M) := Lib.hid (FM22.out.below hb23)
    have FK23 : Hid (Blk w23 g22 (CD x false 0) 72) := Lib.hid (FK22.out.keep hb23)
    have HB23 : Hid (Below w.heap.size w w23) := Lib.hid (HB22.out.later hb23 (Nat.le_refl _))
    clear FP22 FXa22 FXb22 FXd22 FM22 FK22 HB22
    clear hb23 hw23
    refine (open_any g22 x 0 false (by decide) a6 N c6 M _ FK23.out FM23.out HL6.out (by rw [HN.out]; have := HML.out; omega)).mono ?_
    rintro e w24 ⟨v24, rfl, hO24, hg24, us, hk24, hu1, hu2⟩
    rw [HE2.out]
    rw [HQ.out] at hO24
    obtain ⟨a24, c24, rfl, hC24, hL24⟩ := hO24.toL (by rw [HL.out]; have := HQL.out; omega)
    rw [HL.out] at hC24 hL24 ⊢
    clear hL24
    clear hu1 hu2
    have FP24 : Hid (RowC w24 lp lpl lpc p) := Lib.hid (FP23.out.key FK23.out hg24)
    have FXa24 : Hid (Blk w24 w.heap.size (HC a) 23) := Lib.hid (FXa23.out.grown hg24 HGX.out.1)
    have FXb24 : Hid (Blk w24 (w.heap.size + 1) (HC b) 23) := Lib.hid (FXb23.out.grown hg24 HGX.out.2.1)
    have FXd24 : Hid (Blk w24 (w.heap.size + 2) (HC d) 23) := Lib.hid (FXd23.out.grown hg24 HGX.out.2.2)
    have FM24 : Hid (RowC w24 a6 N c6 M) := Lib.hid (FM23.out.key FK23.out hg24)
    have FK24 : Hid (Blk w24 g22 (CD x false us) 72) := Lib.hid hk24
    have HB24 : Hid (Below w.heap.size w w24) := Lib.hid (below_grown HB23.out hg24 HGL.out HB23.out.size)
    clear FP23 FXa23 FXb23 FXd23 FM23 FK23 HB23 hk24 hg24
    have FQ124 : Hid (RowC w24 a24 L c24 Q) := Lib.hid (hC24)
    clear FK24
    go_wp2_with (first
      | (refine wpList_load_row rfl 23 _ rfl (w.heap.size + 1) rfl 23 (HC b) (0, 0) _ FXb24.out Try.underlying23 rfl Sb.out ?_))
    refine calls_gen (fun w25 hw25 => ?_)
    have hb25 : Below w24.heap.size w24 w25 := by rw [hw25]; (first | exact Below.refl _ _ | exact (Below.refl _ _).next (Nat.le_refl _) _ | exact ((Below.refl _ _).next (Nat.le_refl _) _).next (Nat.le_refl _) _ | exact (((Below.refl _ _).next (Nat.le_refl _) _).next (Nat.le_refl _) _).next (Nat.le_refl _) _ | exact ((((Below.refl _ _).next (Nat.le_refl _) _).next (Nat.le_refl _) _).next (Nat.le_refl _) _).next (Nat.le_refl _) _ | exact below_drew1 (Below.refl _ _) | exact below_drew1 ((Below.refl _ _).next (Nat.le_refl _) _) | exact below_drew1 (((Below.refl _ _).next (Nat.le_refl _) _).next (Nat.le_refl _) _))
    have FP25 : Hid (RowC w25 lp lpl lpc p) := Lib.hid (FP24.out.below hb25)
    have FXa25 : Hid (Blk w25 w.heap.size (HC a) 23) := Lib.hid (FXa24.out.keep hb25)
    have FXb25 : Hid (Blk w25 (w.heap.size + 1) (HC b) 23) := Lib.hid (FXb24.out.keep hb25)
    have FXd25 : Hid (Blk w25 (w.heap.size + 2) (HC d) 23) := Lib.hid (FXd24.out.keep hb25)
    have FM25 : Hid (RowC w25 a6 N c6 M) := Lib.hid (FM24.out.below hb25)
    have FQ125 : Hid (RowC w25 a24 L c24 Q) := Lib.hid (FQ124.out.below hb25)
    have HB25 : Hid (Below w.heap.size w w25) := Lib.hid (HB24.out.later hb25 (Nat.le_refl _))
    clear FP24 FXa24 FXb24 FXd24 FM24 FQ124 HB24
    clear hb25 hw25
    refine (rfrom_k b Hb.out _).mono ?_
    rintro e w26 ⟨rfl, hb26⟩
    rw [HX.out]
    have FP26 : Hid (RowC w26 lp lpl lpc p) := Lib.hid (FP25.out.below hb26)
    have FXa26 : Hid (Blk w26 w.heap.size (HC a) 23) := Lib.hid (FXa25.out.keep hb26)
    have FXb26 : Hid (Blk w26 (w.heap.size + 1) (HC b) 23) := Lib.hid (FXb25.out.keep hb26)
    have FXd26 : Hid (Blk w26 (w.heap.size + 2) (HC d) 23) := Lib.hid (FXd25.out.keep hb26)
    have FM26 : Hid (RowC w26 a6 N c6 M) := Lib.hid (FM25.out.below hb26)
    have FQ126 : Hid (RowC w26 a24 L c24 Q) := Lib.hid (FQ125.out.below hb26)
    have HB26 : Hid (Below w.heap.size w w26) := Lib.hid (HB25.out.later hb26 (Nat.le_refl _))
    clear FP25 FXa25 FXb25 FXd25 FM25 FQ125 HB25
    clear hb26
    go_wp2_with fail
    refine calls_gen (fun w27 hw27 => ?_)
    have hb27 : Below w26.heap.size w26 w27 := by rw [hw27]; (first | exact Below.refl _ _ | exact (Below.refl _ _).next (Nat.le_refl _) _ | exact ((Below.refl _ _).next (Nat.le_refl _) _).next (Nat.le_refl _) _ | exact (((Below.refl _ _).next (Nat.le_refl _) _).next (Nat.le_refl _) _).next (Nat.le_refl _) _ | exact ((((Below.refl _ _).next (Nat.le_refl _) _).next (Nat.le_refl _) _).next (Nat.le_refl _) _).next (Nat.le_refl _) _ | exact below_drew1 (Below.refl _ _) | exact below_drew1 ((Below.refl _ _).next (Nat.le_refl _) _) | exact below_drew1 (((Below.refl _ _).next (Nat.le_refl _) _).next (Nat.le_refl _) _))
    have FP27 : Hid (RowC w27 lp lpl lpc p) := Lib.hid (FP26.out.below hb27)
    have FXa27 : Hid (Blk w27 w.heap.size (HC a) 23) := Lib.hid (FXa26.out.keep hb27)
    have FXb27 : Hid (Blk w27 (w.heap.size + 1) (HC b) 23) := Lib.hid (FXb26.out.keep hb27)
    have FXd27 : Hid (Blk w27 (w.heap.size + 2) (HC d) 23) := Lib.hid (FXd26.out.keep hb27)
    have FM27 : Hid (RowC w27 a6 N c6 M) := Lib.hid (FM26.out.below hb27)
    have FQ127 : Hid (RowC w27 a24 L c24 Q) := Lib.hid (FQ126.out.below hb27)
    have HB27 : Hid (Below w.heap.size w w27) := Lib.hid (HB26.out.later hb27 (Nat.le_refl _))
    clear FP26 FXa26 FXb26 FXd26 FM26 FQ126 HB26
    clear hb27 hw27
    refine (ropen_any x (powI 4 x) a6 N c6 M _ FM27.out HL6.out (by rw [HN.out]; have := HML.out; omega)).mono ?_
    rintro e w28 ⟨v28, rfl, hO28, hb28⟩
    rw [HE2.out]
    rw [HQ.out] at hO28
    obtain ⟨a28, c28, rfl, hC28, hL28⟩ := hO28.toL (by rw [HL.out]; have := HQL.out; omega)
    rw [HL.out] at hC28 hL28 ⊢
    clear hL28
    have FP28 : Hid (RowC w28 lp lpl lpc p) := Lib.hid (FP27.out.below hb28)
    have FXa28 : Hid (Blk w28 w.heap.size (HC a) 23) := Lib.hid (FXa27.out.keep hb28)
    have FXb28 : Hid (Blk w28 (w.heap.size + 1) (HC b) 23) := Lib.hid (FXb27.out.keep hb28)
    have FXd28 : Hid (Blk w28 (w.heap.size + 2) (HC d) 23) := Lib.hid (FXd27.out.keep hb28)
    have FM28 : Hid (RowC w28 a6 N c6 M) := Lib.hid (FM27.out.below hb28)
    have FQ128 : Hid (RowC w28 a24 L c24 Q) := Lib.hid (FQ127.out.below hb28)
    have HB28 : Hid (Below w.heap.size w w28) := Lib.hid (HB27.out.later hb28 (Nat.le_refl _))
    clear FP27 FXa27 FXb27 FXd27 FM27 FQ127 HB27
    clear hb28
    have FQ228 : Hid (RowC w28 a28 L c28 Q) := Lib.hid (hC28)
    have kS1 := FQ128.out.row.str (P := Try.prog) 24 9 5 c24 Try.underlying24 Try.underlying5 Try.underlying9
    have kS2 := FQ228.out.row.str (P := Try.prog) 24 9 5 c28 Try.underlying24 Try.underlying5 Try.underlying9
    go_wp2_with (first
      | (go_at_call 14; with_reducible refine (known_seal _).mono ?_; rintro e w9 ⟨rfl, hb9⟩))
    go_ret
    exact ⟨rfl, HB28.out.later hb9 (Nat.le_refl _)⟩
end Go.Proofs.Ytaaidjncbcildaa
