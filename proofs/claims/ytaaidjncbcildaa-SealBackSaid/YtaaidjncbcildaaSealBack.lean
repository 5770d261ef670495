/-
  The walk of a law.
-/
import Derived.Test.YtaaidjncbcildaaGSeal
import Derived.Test.YtaaidjncbcildaaGBase
namespace Go.Proofs.Ytaaidjncbcildaa
set_option maxRecDepth 100000
open Go.RowKit Pm
set_option linter.unusedVariables false
set_option linter.unusedSimpArgs false

set_option maxRecDepth 100000 in
set_option maxHeartbeats 4000000 in
theorem sealBack_walk {w : World} (a : List UInt8) (ha : a.length = 32) (d : List UInt8) (hd : d.length = 32) (lp : Option Addr) (lpl lpc : Nat) (p : List UInt8) (hp : Arg8 w lp lpl lpc p) :
    Calls Try.prog 5 #[HV a, HV d, .slice lp lpl lpc] w fun e w' => e = .returned (.bool true) ∧ Below w.heap.size w w' := by
  have hle := hp.le
  have hsm := hp.small
  have hlen := hp.row.len_eq
  by_cases h1 : (lpl : Int) > 200
  · go_enter Try.func5, Try.ntmps5
    go_wp2
    go_ret
    exact ⟨rfl, ((Below.refl _ _).next (Nat.le_refl _) _).next (Nat.le_refl _) _⟩
  have hpl : p.length ≤ 200 := by omega
  obtain ⟨x, hx⟩ : ∃ x, keyS a = x := ⟨_, rfl⟩
  obtain ⟨dk, hdk⟩ : ∃ dk, keyS d = dk := ⟨_, rfl⟩
  have hxb := keyS_bd a
  have hdb := keyS_bd d
  rw [hx] at hxb
  rw [hdk] at hdb
  have hse := sealE_pub x hxb p (by omega) dk
  have hop := seal_back x dk hxb hdb p (by omega)
  obtain ⟨M, hM⟩ : ∃ M, boxW (powI 4 x) dk p = M := ⟨_, rfl⟩
  obtain ⟨N, hN⟩ : ∃ N, M.length = N := ⟨_, rfl⟩
  have hNl : N = 12 + p.length := by rw [← hN, ← hM]; exact boxW_length _ _ _
  rw [hM] at hop hse
  have HX := Lib.hid hx; have HDK := Lib.hid hdk; have BX := Lib.hid hxb; have SE := Lib.hid hse; have OE := Lib.hid hop; have HN := Lib.hid hN; have HNL := Lib.hid hNl
  have hNi : IntKind.i64.wrap (12 + (lpl : Int)) = (N : Int) := by rw [IntWalk.i64_in _ (by omega)]; omega
  have hNj : RowKit.wrap64 (12 + (lpl : Int)) = (N : Int) := by rw [IntWalk.wrap64_in _ (by omega)]; omega
  clear hx hdk hxb hdb hse hop hM hN hNl
  have HPW := Lib.hid hp.toC; have HPL := Lib.hid hpl; have HLN := Lib.hid hlen
  clear hp hle hsm hlen hpl
  have hsza : (Try.prog.info? 23).map (·.size) = some (HC a).size := by rw [HC_size, ha]; kernel_rfl
  have Sa := Lib.hid hsza; have Ha := Lib.hid ha
  clear hsza ha
  have hszd : (Try.prog.info? 23).map (·.size) = some (HC d).size := by rw [HC_size, hd]; kernel_rfl
  have Sd := Lib.hid hszd; have Hd := Lib.hid hd
  clear hszd hd
  have hXa : Blk ((w.alloc (.cells (HC a) 23)).alloc (.cells (HC d) 23)) (w.heap.size) (HC a) 23 := (Blk.new _ _ _).alloc _
  have hXd : Blk ((w.alloc (.cells (HC a) 23)).alloc (.cells (HC d) 23)) (w.heap.size + 1) (HC d) 23 := Blk.newAt _ _ (by simp)
  have HXa := Lib.hid hXa; have HXd := Lib.hid hXd
  clear hXa hXd
  unfold HV
  go_enter Try.func5, Try.ntmps5
  go_wp2_with (first
    | (refine wpList_load_row rfl 23 _ rfl w.heap.size rfl 23 (HC a) (0, 0) _ HXa.out Try.underlying23 rfl Sa.out ?_))
  refine calls_gen (fun w1 hw1 => ?_)
  have hb1 : Below w.heap.size w w1 := by rw [hw1]; (first | exact Below.refl _ _ | exact (Below.refl _ _).next (Nat.le_refl _) _ | exact ((Below.refl _ _).next (Nat.le_refl _) _).next (Nat.le_refl _) _ | exact (((Below.refl _ _).next (Nat.le_refl _) _).next (Nat.le_refl _) _).next (Nat.le_refl _) _ | exact ((((Below.refl _ _).next (Nat.le_refl _) _).next (Nat.le_refl _) _).next (Nat.le_refl _) _).next (Nat.le_refl _) _ | exact below_drew1 (Below.refl _ _) | exact below_drew1 ((Below.refl _ _).next (Nat.le_refl _) _) | exact below_drew1 (((Below.refl _ _).next (Nat.le_refl _) _).next (Nat.le_refl _) _))
  have FXa1 : Hid (Blk w1 w.heap.size (HC a) 23) := Lib.hid (by rw [hw1]; exact HXa.out)
  have FXd1 : Hid (Blk w1 (w.heap.size + 1) (HC d) 23) := Lib.hid (by rw [hw1]; exact HXd.out)
  have HB1 : Hid (Below w.heap.size w w1) := Lib.hid (hb1)
  clear hb1 hw1
  refine (from_k a Ha.out _).mono ?_
  rintro e w2 ⟨g2, rfl, hgl2, hk2, hb2⟩
  rw [HX.out] at hk2
  have HGL : Hid (w.heap.size + 2 ≤ g2) := Lib.hid (by have h1 := FXd1.out.lt; omega)
  clear hgl2
  have FXa2 : Hid (Blk w2 w.heap.size (HC a) 23) := Lib.hid (FXa1.out.keep hb2)
  have FXd2 : Hid (Blk w2 (w.heap.size + 1) (HC d) 23) := Lib.hid (FXd1.out.keep hb2)
  have HB2 : Hid (Below w.heap.size w w2) := Lib.hid (HB1.out.later hb2 (Nat.le_refl _))
  clear FXa1 FXd1 HB1
  clear hb2
  have FK2 : Hid (Blk w2 g2 (CD x false 0) 72) := Lib.hid (hk2)
  go_wp2_with fail
  refine wp_gen (fun wr hwr => ?_)
  have HRK : Hid (Blk wr g2 (CD x false 0) 72) := Lib.hid (by rw [hwr]; exact FK2.out)
  have HRX : Hid (Blk wr (w.heap.size + 1) (HC d) 23) := Lib.hid (by rw [hwr]; exact FXd2.out)
  have hB0 : Below w.heap.size w wr := by rw [hwr]; exact HB2.out
  have HRZ : Hid (w.heap.size + 2 ≤ wr.heap.size) := Lib.hid (by have h1 := HRX.out.lt; omega)
  clear hwr FXa2 FXd2 FK2 HB2
  refine region_muts [72] (w.heap.size + 2) HRZ.out (fun S vals wG => hasF 4 (isTup (w.heap.size + 2) 5 0 (M)) S vals wG ∧ hasF 6 (isOwn (w.heap.size + 2) 5 (M)) S vals wG ∧ keyMut g2 72 1 (CD x false 0) (CD x true 0) S wG) [isV 0 (.pointer (some ⟨g2, 0, none⟩)), isV 1 (.int .i64 (powI 4 x)), isV 2 (HV d), isV 3 (.slice lp lpl lpc), anyV, asV 5 4, anyV, isV 7 (.int .i64 0), asV 8 6, isV 9 (.int .i64 0)]
    [[], [0], [], [], [1, 2, 3], [4], [5], [5], [6], [7]] [some 20, some 21, some 22, some 23, some 24, some 19, some 25, some 26, some 8, some 9] _ (by kernel_rfl) (by kernel_rfl) (by kernel_rfl) (by kernel_rfl) (by kernel_rfl) rfl ?_ ?_ ?_ ?_
  · repeat (first | exact stT_nil | refine stT_cons (by first | exact stT_is _ _ | exact stT_as _ _ | exact stT_any | exact stT_lit _ _ _ _ _ (by decide) | exact stT_rowOf _ _ _ _ (by decide) (by decide)) ?_)
  · exact ⟨hasF.start _ _ _ _, hasF.start _ _ _ _, keyMut.start HRK.out⟩
  · intro hgz
    refine ⟨?_, ?_, ?_, ?_, ?_, ?_, ?_, ?_, ?_, ?_, trivial⟩ <;> intro S_ vals w1 hb hSi hdn hcl hG hf <;> obtain ⟨hb, hz⟩ := hgz w1 hb <;> simp [leans, factsOf, phi, sel_lit, sel_rowOf, isV, asV, anyV, sel] at hf <;> simp [putD, phi, Act.put]
    · -- 0 move 
      go_wp2
      exact ⟨rfl, rfl, .refl _ _ _, mk_is rfl, ⟨hG.1.keep (bm_tup _ _ _ _) _ 0 (by decide) (Below.refl _ _), hG.2.1.keep (bm_own _ _ _) _ 0 (by decide) (Below.refl _ _), hG.2.2.keep 0 (by decide) (Below.refl _ _)⟩⟩
    · -- 1 call (*curia/pair.Key).Public 
      simp only [hf]; clear hf
      have hkm := hG.2.2.ahead hSi
      go_wp2_with (first | (go_at_call 19; refine (public_st g2 x 0 false ⟨by have := BX.out; omega, BX.out.2⟩ _ hkm).mono ?_; rintro e w' ⟨rfl, hk', hg'⟩))
      have hgr : GrowsT [72] (w.heap.size + 2) w1 w' := GrowsT.grown hkm (by decide) hg' HGL.out hz
      exact ⟨rfl, rfl, hgr, mk_is rfl, ⟨hasF.never (way_not hcl [] 4 1 (by decide) hSi) (by decide), hasF.never (way_not hcl [5, 4] 6 1 (by decide) hSi) (by decide), keyMut.mark hk'⟩⟩
    · -- 2 load 
      refine wpList_load_row rfl 23 _ rfl _ rfl 23 (HC d) (0, 0) _ (HRX.out.below hb.below (by omega)) Try.underlying23 rfl Sd.out ?_
      exact ⟨rfl, rfl, .refl _ _ _, mk_is rfl, ⟨hG.1.keep (bm_tup _ _ _ _) _ 2 (by decide) (Below.refl _ _), hG.2.1.keep (bm_own _ _ _) _ 2 (by decide) (Below.refl _ _), hG.2.2.keep 2 (by decide) (Below.refl _ _)⟩⟩
    · -- 3 move 
      go_wp2
      exact ⟨rfl, rfl, .refl _ _ _, mk_is rfl, ⟨hG.1.keep (bm_tup _ _ _ _) _ 3 (by decide) (Below.refl _ _), hG.2.1.keep (bm_own _ _ _) _ 3 (by decide) (Below.refl _ _), hG.2.2.keep 3 (by decide) (Below.refl _ _)⟩⟩
    · -- 4 call curia/seal.Seal 
      simp only [hf]; clear hf
      go_wp2_with (first | (go_at_call 12; refine (seal_any (powI 4 x) d Hd.out _ _ _ p _ (HPW.out.below (hB0.trans (hb.below.mono (by omega)))) (by have := HPL.out; omega)).mono ?_; rintro e w' ⟨v_, rfl, ho_, hb'⟩; rw [SE.out.1]; rw [HDK.out, SE.out.2] at ho_))
      exact ⟨rfl, rfl, GrowsT.of hb' hz, mk_any, ⟨hasF.new (⟨_, rfl, ho_.base hz⟩), hG.2.1.keep (bm_own _ _ _) _ 4 (by decide) hb', hG.2.2.keep 4 (by decide) hb'⟩⟩
    · -- 5 move 
      go_wp2
      exact ⟨rfl, rfl, .refl _ _ _, mk_as rfl (by decide) (by decide), ⟨hG.1.keep (bm_tup _ _ _ _) _ 5 (by decide) (Below.refl _ _), hG.2.1.keep (bm_own _ _ _) _ 5 (by decide) (Below.refl _ _), hG.2.2.keep 5 (by decide) (Below.refl _ _)⟩⟩
    · -- 6 extract 
      obtain ⟨v4, hv4, ho4⟩ := hG.1.get (way_done hcl [] 5 4 (by decide) (hdn 5 (by decide)))
      simp only [hf, hv4]
      go_wp2
      exact ⟨rfl, rfl, .refl _ _ _, mk_any, ⟨hG.1.keep (bm_tup _ _ _ _) _ 6 (by decide) (Below.refl _ _), hasF.new (ho4), hG.2.2.keep 6 (by decide) (Below.refl _ _)⟩⟩
    · -- 7 extract 
      obtain ⟨v4, hv4, ho4⟩ := hG.1.get (way_done hcl [] 5 4 (by decide) (hdn 5 (by decide)))
      simp only [hf, hv4]
      go_wp2
      exact ⟨rfl, rfl, .refl _ _ _, mk_is rfl, ⟨hG.1.keep (bm_tup _ _ _ _) _ 7 (by decide) (Below.refl _ _), hG.2.1.keep (bm_own _ _ _) _ 7 (by decide) (Below.refl _ _), hG.2.2.keep 7 (by decide) (Below.refl _ _)⟩⟩
    · -- 8 assign 
      go_wp2
      exact ⟨rfl, rfl, .refl _ _ _, mk_as rfl (by decide) (by decide), ⟨hG.1.keep (bm_tup _ _ _ _) _ 8 (by decide) (Below.refl _ _), hG.2.1.keep (bm_own _ _ _) _ 8 (by decide) (Below.refl _ _), hG.2.2.keep 8 (by decide) (Below.refl _ _)⟩⟩
    · -- 9 assign 
      simp only [hf]; clear hf
      go_wp2
      exact ⟨rfl, rfl, .refl _ _ _, mk_is rfl, ⟨hG.1.keep (bm_tup _ _ _ _) _ 9 (by decide) (Below.refl _ _), hG.2.1.keep (bm_own _ _ _) _ 9 (by decide) (Below.refl _ _), hG.2.2.keep 9 (by decide) (Below.refl _ _)⟩⟩
  · intro vals w1 hb hG hf; simp [leans, List.range, List.range.loop, factsOf, phi, sel_lit, sel_rowOf, isV, asV, anyV, sel] at hf; simp [putD, List.range, List.range.loop, Act.put, hf]
    have hk6 := hG.2.2.behind (by simp)
    have ho6 := hG.2.1.get (by simp)
    generalize vals 6 = v6 at ho6 ⊢
    obtain ⟨a6, c6, rfl, hC6, hL6⟩ := ho6.toL (by rw [HN.out, HNL.out]; have := HPL.out; omega)
    rw [HN.out] at hC6 hL6 ⊢
    have HB6 : Hid (Below w.heap.size w w1) := Lib.hid (hB0.trans (hb.below.mono (by omega)))
    have HK6 := Lib.hid hk6; have HC6 := Lib.hid hC6; have HL6 := Lib.hid hL6
    clear hk6 ho6 hC6 hL6 hG hb hf hB0 HRK HRX HRZ
    go_wp2_with fail
    refine calls_gen (fun w11 hw11 => ?_)
    have hb11 : Below w1.heap.size w1 w11 := by rw [hw11]; (first | exact Below.refl _ _ | exact (Below.refl _ _).next (Nat.le_refl _) _ | exact ((Below.refl _ _).next (Nat.le_refl _) _).next (Nat.le_refl _) _ | exact (((Below.refl _ _).next (Nat.le_refl _) _).next (Nat.le_refl _) _).next (Nat.le_refl _) _ | exact ((((Below.refl _ _).next (Nat.le_refl _) _).next (Nat.le_refl _) _).next (Nat.le_refl _) _).next (Nat.le_refl _) _ | exact below_drew1 (Below.refl _ _) | exact below_drew1 ((Below.refl _ _).next (Nat.le_refl _) _) | exact below_drew1 (((Below.refl _ _).next (Nat.le_refl _) _).next (Nat.le_refl _) _))
    have FK11 : Hid (Blk w11 g2 (CD x true 0) 72) := Lib.hid (HK6.out.keep hb11)
    have FM11 : Hid (RowC w11 a6 N c6 M) := Lib.hid (HC6.out.below hb11)
    have HB11 : Hid (Below w.heap.size w w11) := Lib.hid (HB6.out.later hb11 (Nat.le_refl _))
    clear HK6 HC6 HB6
    clear hb11 hw11
    refine (open_any g2 x 0 true (by decide) a6 N c6 M _ FK11.out FM11.out HL6.out (by rw [HN.out, HNL.out]; have := HPL.out; omega)).mono ?_
    rintro e w12 ⟨v12, rfl, hO12, hg12, us, hk12, hu1, hu2⟩
    rw [OE.out.1]
    rw [OE.out.2] at hO12
    obtain ⟨aq, cq, rfl, hC12, hL12⟩ := hO12.toL (by have := HPL.out; omega)
    rw [← HLN.out] at hC12 ⊢
    clear hL12 hu1 hu2
    have FK12 : Hid (Blk w12 g2 (CD x true us) 72) := Lib.hid hk12
    have FM12 : Hid (RowC w12 a6 N c6 M) := Lib.hid (FM11.out.key FK11.out hg12)
    have HB12 : Hid (Below w.heap.size w w12) := Lib.hid (below_grown HB11.out hg12 (by have := HGL.out; omega) HB11.out.size)
    clear FM11 FK11 HB11 hk12 hg12
    have FQ12 : Hid (RowC w12 aq lpl cq p) := Lib.hid (hC12)
    have hpw := HPW.out.below HB12.out
    have kS1 := FQ12.out.row.str (P := Try.prog) 24 9 5 cq Try.underlying24 Try.underlying5 Try.underlying9
    have kS2 := hpw.row.str (P := Try.prog) 24 9 5 lpc Try.underlying24 Try.underlying5 Try.underlying9
    clear hpw
    go_wp2_with (first
      | (go_at_call 14; with_reducible refine (known_seal _).mono ?_; rintro e w9 ⟨rfl, hb9⟩))
    go_ret
    exact ⟨rfl, HB12.out.later hb9 (Nat.le_refl _)⟩
end Go.Proofs.Ytaaidjncbcildaa
