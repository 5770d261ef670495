/-
  The walk of a law.
-/
import Derived.Test.YtaaidjncbcildaaGSeal
import Derived.Test.YtaaidjncbcildaaGBase
namespace Go.Proofs.Ytaaidjncbcildaa
set_option maxRecDepth 100000
open Go.RowKit Pm
set_option linter.unusedVariables false
set_option linter.unusedSimpArgs false

theorem Row8.grownR {w w' : World} {a : Option Addr} {l c g : Nat} {bs : List UInt8} (h : RowC w a l c bs) (hn : bs ≠ []) (k : w.grownBy w' (some g)) (hg : ∀ x : Addr, a = some x → x.block ≠ g) : RowC w' a l c bs := ⟨h.row.grown k hg, h.nil⟩
set_option maxRecDepth 100000 in
set_option maxHeartbeats 4000000 in
theorem sealOwn_walk {w : World} (a : List UInt8) (ha : a.length = 32) (d : List UInt8) (hd : d.length = 32) (lp : Option Addr) (lpl lpc : Nat) (p : List UInt8) (hp : Arg8 w lp lpl lpc p) :
    Calls Try.prog 8 #[HV a, HV d, .slice lp lpl lpc] w fun e w' => e = .returned (.bool true) ∧ Below w.heap.size w w' := by
  have hle := hp.le
  have hsm := hp.small
  have hlen := hp.row.len_eq
  by_cases h1 : (lpl : Int) > 200
  · go_enter Try.func8, Try.ntmps8
    go_wp2
    go_ret
    exact ⟨rfl, ((Below.refl _ _).next (Nat.le_refl _) _).next (Nat.le_refl _) _⟩
  by_cases h2 : (lpl : Int) < 1
  · go_enter Try.func8, Try.ntmps8
    go_wp2
    go_ret
    exact ⟨rfl, ((Below.refl _ _).next (Nat.le_refl _) _).next (Nat.le_refl _) _⟩
  have hpl : p.length ≤ 200 := by omega
  have hp1 : 1 ≤ p.length := by omega
  obtain ⟨x, hx⟩ : ∃ x, keyS a = x := ⟨_, rfl⟩
  obtain ⟨dk, hdk⟩ : ∃ dk, keyS d = dk := ⟨_, rfl⟩
  have hxb := keyS_bd a
  have hdb := keyS_bd d
  rw [hx] at hxb
  rw [hdk] at hdb
  have hse := sealE_pub x hxb p (by omega) dk
  have hop := seal_back x dk hxb hdb p (by omega)
  obtain ⟨M, hM⟩ : ∃ M, boxW (powI 4 x) dk p = M := ⟨_, rfl⟩
  obtain ⟨N, hN⟩ : ∃ N, M.length = N := ⟨_, rfl⟩
  have hNl : N = 12 + p.length := by rw [← hN, ← hM]; exact boxW_length _ _ _
  rw [hM] at hop hse
  have HX := Lib.hid hx; have HDK := Lib.hid hdk; have BX := Lib.hid hxb; have SE := Lib.hid hse; have OE := Lib.hid hop; have HN := Lib.hid hN; have HNL := Lib.hid hNl
  clear hx hdk hxb hdb hse hop hM hN hNl
  have HP0 := Lib.hid hp.toC; have HPL := Lib.hid hpl; have HP1 := Lib.hid hp1; have HLN := Lib.hid hlen
  clear hp hle hsm hlen hpl hp1
  have hsza : (Try.prog.info? 23).map (·.size) = some (HC a).size := by rw [HC_size, ha]; kernel_rfl
  have Sa := Lib.hid hsza; have Ha := Lib.hid ha
  clear hsza ha
  have hszd : (Try.prog.info? 23).map (·.size) = some (HC d).size := by rw [HC_size, hd]; kernel_rfl
  have Sd := Lib.hid hszd; have Hd := Lib.hid hd
  clear hszd hd
  have hXa : Blk ((w.alloc (.cells (HC a) 23)).alloc (.cells (HC d) 23)) (w.heap.size) (HC a) 23 := (Blk.new _ _ _).alloc _
  have hXd : Blk ((w.alloc (.cells (HC a) 23)).alloc (.cells (HC d) 23)) (w.heap.size + 1) (HC d) 23 := Blk.newAt _ _ (by simp)
  have HXa := Lib.hid hXa; have HXd := Lib.hid hXd
  clear hXa hXd
  unfold HV
  go_enter Try.func8, Try.ntmps8
  have HB0 : Hid (Below w.heap.size w ((w.alloc (.cells (HC a) 23)).alloc (.cells (HC d) 23))) := Lib.hid (((Below.refl _ _).next (Nat.le_refl _) _).next (Nat.le_refl _) _)
  have FP0 := Lib.hid (HP0.out.below HB0.out)
  go_wp2_with (first
    | (at_builtin
       refine wpList_append8 rfl (.tmp 22) (.tmp 23) 24 rfl (w.heap.size + 2) 5 Try.underlying24 info8 (.slice (some ⟨w.heap.size + 2, 0, none⟩) 0 0) [] rfl ?c1 _ _ _ (p) rfl ?c2 ?c3 ?c4 ?c5 ?_
       case c1 => exact Own8.litAt [] _ rfl (by simp) rfl (by simp) (small8 _ (by simp))
       case c2 => exact (FP0.out.row).below ((Below.refl _ _).next (Nat.le_refl _) _)
       case c3 => exact FP0.out.nil
       case c4 => have := HPL.out; simp only [List.length_nil]; omega
       case c5 => simp
       intro v1 w1 hown1 hg1 hb1
       rw [List.nil_append] at hown1
       have hbe : ((w.alloc (.cells (HC a) 23)).alloc (.cells (HC d) 23)).heap.size = w.heap.size + 2 := by simp
       rw [← hbe] at hb1
       have hb1 : Below ((w.alloc (.cells (HC a) 23)).alloc (.cells (HC d) 23)).heap.size ((w.alloc (.cells (HC a) 23)).alloc (.cells (HC d) 23)) w1 := ((Below.refl _ _).next (Nat.le_refl _) _).trans hb1
       have FP1 : Hid (RowC w1 lp lpl lpc p) := Lib.hid (FP0.out.below hb1)
       have FXa1 : Hid (Blk w1 w.heap.size (HC a) 23) := Lib.hid (HXa.out.keep hb1)
       have FXd1 : Hid (Blk w1 (w.heap.size + 1) (HC d) 23) := Lib.hid (HXd.out.keep hb1)
       have HB1 : Hid (Below w.heap.size w w1) := Lib.hid (HB0.out.later hb1 (Nat.le_refl _))
       clear FP0 HXa HXd HB0
       have FC1 : Hid (Own8 w1 (w.heap.size + 2) 5 v1 (p)) := Lib.hid (hown1)
       clear hown1 hg1 hb1 hbe)
    | (refine wpList_load_row rfl 23 _ rfl w.heap.size rfl 23 (HC a) (0, 0) _ FXa1.out Try.underlying23 rfl Sa.out ?_))
  refine calls_gen (fun w2 hw2 => ?_)
  have hb2 : Below w1.heap.size w1 w2 := by rw [hw2]; (first | exact Below.refl _ _ | exact (Below.refl _ _).next (Nat.le_refl _) _ | exact ((Below.refl _ _).next (Nat.le_refl _) _).next (Nat.le_refl _) _ | exact (((Below.refl _ _).next (Nat.le_refl _) _).next (Nat.le_refl _) _).next (Nat.le_refl _) _ | exact ((((Below.refl _ _).next (Nat.le_refl _) _).next (Nat.le_refl _) _).next (Nat.le_refl _) _).next (Nat.le_refl _) _ | exact below_drew1 (Below.refl _ _) | exact below_drew1 ((Below.refl _ _).next (Nat.le_refl _) _) | exact below_drew1 (((Below.refl _ _).next (Nat.le_refl _) _).next (Nat.le_refl _) _))
  have FP2 : Hid (RowC w2 lp lpl lpc p) := Lib.hid (FP1.out.below hb2)
  have FXa2 : Hid (Blk w2 w.heap.size (HC a) 23) := Lib.hid (FXa1.out.keep hb2)
  have FXd2 : Hid (Blk w2 (w.heap.size + 1) (HC d) 23) := Lib.hid (FXd1.out.keep hb2)
  have FC2 : Hid (Own8 w2 (w.heap.size + 2) 5 v1 (p)) := Lib.hid (FC1.out.below hb2)
  have HB2 : Hid (Below w.heap.size w w2) := Lib.hid (HB1.out.later hb2 (Nat.le_refl _))
  clear FP1 FXa1 FXd1 FC1 HB1
  clear hb2 hw2
  obtain ⟨gc, cc, hve, hgc0, hgc, hcc, _⟩ := FC2.out.hasN lpl HLN.out (by have := HP1.out; have := HLN.out; omega)
  subst hve
  have hxl := FXd2.out.lt
  have HC2 : Hid (RowC w2 (some ⟨gc, 0, none⟩) lpl cc p) := Lib.hid ⟨FC2.out.row (by have := HPL.out; simp only [maxLen]; omega) HLN.out, fun e => by cases e⟩
  have HGC := Lib.hid hgc; have HXL := Lib.hid hxl; have HBW := HB2; have HX2 := FXd2; have FXa := FXa2
  clear hgc0 hgc hcc hxl
  refine (from_k a Ha.out _).mono ?_
  rintro e w3 ⟨g3, rfl, hgl3, hk3, hb3⟩
  rw [HX.out] at hk3
  have HGL : Hid (w2.heap.size ≤ g3) := Lib.hid hgl3
  clear hgl3
  have FXa3 : Hid (Blk w3 w.heap.size (HC a) 23) := Lib.hid (FXa.out.keep hb3)
  have HB3 : Hid (Below w2.heap.size w2 w3) := Lib.hid (hb3)
  clear FXa
  clear hb3
  have FK3 : Hid (Blk w3 g3 (CD x false 0) 72) := Lib.hid (hk3)
  go_wp2_with fail
  refine wp_gen (fun wr hwr => ?_)
  have HRK : Hid (Blk wr g3 (CD x false 0) 72) := Lib.hid (by rw [hwr]; exact FK3.out)
  have hB0 : Below w2.heap.size w2 wr := by rw [hwr]; exact HB3.out
  have HRX : Hid (Blk wr (w.heap.size + 1) (HC d) 23) := Lib.hid (HX2.out.keep hB0)
  have HRZ : Hid (w2.heap.size ≤ wr.heap.size) := Lib.hid hB0.size
  have hxl := HXL.out
  clear hwr FXa3 FK3 HB3
  refine region_muts [72] w2.heap.size HRZ.out (fun S vals wG => hasF 4 (isTup w2.heap.size 5 0 (M)) S vals wG ∧ hasF 6 (isOwn w2.heap.size 5 (M)) S vals wG ∧ keyMut g3 72 1 (CD x false 0) (CD x true 0) S wG) [isV 0 (.pointer (some ⟨g3, 0, none⟩)), isV 1 (.int .i64 (powI 4 x)), isV 2 (HV d), isV 3 (.slice (some ⟨gc, 0, none⟩) lpl cc), anyV, asV 5 4, anyV, isV 7 (.int .i64 0), asV 8 6, isV 9 (.int .i64 0)]
    [[], [0], [], [], [1, 2, 3], [4], [5], [5], [6], [7]] [some 30, some 31, some 32, some 33, some 34, some 29, some 35, some 36, some 9, some 10] _ (by kernel_rfl) (by kernel_rfl) (by kernel_rfl) (by kernel_rfl) (by kernel_rfl) rfl ?_ ?_ ?_ ?_
  · repeat (first | exact stT_nil | refine stT_cons (by first | exact stT_is _ _ | exact stT_as _ _ | exact stT_any | exact stT_lit _ _ _ _ _ (by decide) | exact stT_rowOf _ _ _ _ (by decide) (by decide)) ?_)
  · exact ⟨hasF.start _ _ _ _, hasF.start _ _ _ _, keyMut.start HRK.out⟩
  · intro hgz
    refine ⟨?_, ?_, ?_, ?_, ?_, ?_, ?_, ?_, ?_, ?_, trivial⟩ <;> intro S_ vals wi hb hSi hdn hcl hG hf <;> obtain ⟨hb, hz⟩ := hgz wi hb <;> simp [leans, factsOf, phi, sel_lit, sel_rowOf, isV, asV, anyV, sel] at hf <;> simp [putD, phi, Act.put]
    · -- 0 move 
      go_wp2
      exact ⟨rfl, rfl, .refl _ _ _, mk_is rfl, ⟨hG.1.keep (bm_tup _ _ _ _) _ 0 (by decide) (Below.refl _ _), hG.2.1.keep (bm_own _ _ _) _ 0 (by decide) (Below.refl _ _), hG.2.2.keep 0 (by decide) (Below.refl _ _)⟩⟩
    · -- 1 call (*curia/pair.Key).Public 
      simp only [hf]; clear hf
      have hkm := hG.2.2.ahead hSi
      go_wp2_with (first | (go_at_call 19; refine (public_st g3 x 0 false ⟨by have := BX.out; omega, BX.out.2⟩ _ hkm).mono ?_; rintro e w' ⟨rfl, hk', hg'⟩))
      have hgr : GrowsT [72] w2.heap.size wi w' := GrowsT.grown hkm (by decide) hg' HGL.out hz
      exact ⟨rfl, rfl, hgr, mk_is rfl, ⟨hasF.never (way_not hcl [] 4 1 (by decide) hSi) (by decide), hasF.never (way_not hcl [5, 4] 6 1 (by decide) hSi) (by decide), keyMut.mark hk'⟩⟩
    · -- 2 load 
      refine wpList_load_row rfl 23 _ rfl _ rfl 23 (HC d) (0, 0) _ (HRX.out.below hb.below (by omega)) Try.underlying23 rfl Sd.out ?_
      exact ⟨rfl, rfl, .refl _ _ _, mk_is rfl, ⟨hG.1.keep (bm_tup _ _ _ _) _ 2 (by decide) (Below.refl _ _), hG.2.1.keep (bm_own _ _ _) _ 2 (by decide) (Below.refl _ _), hG.2.2.keep 2 (by decide) (Below.refl _ _)⟩⟩
    · -- 3 move 
      go_wp2
      exact ⟨rfl, rfl, .refl _ _ _, mk_is rfl, ⟨hG.1.keep (bm_tup _ _ _ _) _ 3 (by decide) (Below.refl _ _), hG.2.1.keep (bm_own _ _ _) _ 3 (by decide) (Below.refl _ _), hG.2.2.keep 3 (by decide) (Below.refl _ _)⟩⟩
    · -- 4 call curia/seal.Seal 
      simp only [hf]; clear hf
      go_wp2_with (first | (go_at_call 12; refine (seal_any (powI 4 x) d Hd.out _ _ _ p _ (HC2.out.below (hB0.trans hb.below)) (by have := HPL.out; omega)).mono ?_; rintro e w' ⟨v_, rfl, ho_, hb'⟩; rw [SE.out.1]; rw [HDK.out, SE.out.2] at ho_))
      exact ⟨rfl, rfl, GrowsT.of hb' hz, mk_any, ⟨hasF.new (⟨_, rfl, ho_.base hz⟩), hG.2.1.keep (bm_own _ _ _) _ 4 (by decide) hb', hG.2.2.keep 4 (by decide) hb'⟩⟩
    · -- 5 move 
      go_wp2
      exact ⟨rfl, rfl, .refl _ _ _, mk_as rfl (by decide) (by decide), ⟨hG.1.keep (bm_tup _ _ _ _) _ 5 (by decide) (Below.refl _ _), hG.2.1.keep (bm_own _ _ _) _ 5 (by decide) (Below.refl _ _), hG.2.2.keep 5 (by decide) (Below.refl _ _)⟩⟩
    · -- 6 extract 
      obtain ⟨v4, hv4, ho4⟩ := hG.1.get (way_done hcl [] 5 4 (by decide) (hdn 5 (by decide)))
      simp only [hf, hv4]
      go_wp2
      exact ⟨rfl, rfl, .refl _ _ _, mk_any, ⟨hG.1.keep (bm_tup _ _ _ _) _ 6 (by decide) (Below.refl _ _), hasF.new (ho4), hG.2.2.keep 6 (by decide) (Below.refl _ _)⟩⟩
    · -- 7 extract 
      obtain ⟨v4, hv4, ho4⟩ := hG.1.get (way_done hcl [] 5 4 (by decide) (hdn 5 (by decide)))
      simp only [hf, hv4]
      go_wp2
      exact ⟨rfl, rfl, .refl _ _ _, mk_is rfl, ⟨hG.1.keep (bm_tup _ _ _ _) _ 7 (by decide) (Below.refl _ _), hG.2.1.keep (bm_own _ _ _) _ 7 (by decide) (Below.refl _ _), hG.2.2.keep 7 (by decide) (Below.refl _ _)⟩⟩
    · -- 8 assign 
      go_wp2
      exact ⟨rfl, rfl, .refl _ _ _, mk_as rfl (by decide) (by decide), ⟨hG.1.keep (bm_tup _ _ _ _) _ 8 (by decide) (Below.refl _ _), hG.2.1.keep (bm_own _ _ _) _ 8 (by decide) (Below.refl _ _), hG.2.2.keep 8 (by decide) (Below.refl _ _)⟩⟩
    · -- 9 assign 
      simp only [hf]; clear hf
      go_wp2
      exact ⟨rfl, rfl, .refl _ _ _, mk_is rfl, ⟨hG.1.keep (bm_tup _ _ _ _) _ 9 (by decide) (Below.refl _ _), hG.2.1.keep (bm_own _ _ _) _ 9 (by decide) (Below.refl _ _), hG.2.2.keep 9 (by decide) (Below.refl _ _)⟩⟩
  · intro vals wi hb hG hf; simp [leans, List.range, List.range.loop, factsOf, phi, sel_lit, sel_rowOf, isV, asV, anyV, sel] at hf; simp [putD, List.range, List.range.loop, Act.put, hf]
    have hk6 := hG.2.2.behind (by simp)
    have ho6 := hG.2.1.get (by simp)
    generalize vals 6 = v6 at ho6 ⊢
    obtain ⟨g6, c6, rfl, hg60, hg6, hL6, _⟩ := ho6.hasN N HN.out.symm (by rw [HNL.out]; omega)
    have hC6 : RowC wi (some ⟨g6, 0, none⟩) N c6 M := ⟨ho6.row (by rw [HN.out, HNL.out]; have := HPL.out; simp only [maxLen]; omega) HN.out.symm, fun e => by cases e⟩
    have HBI : Hid (Below w2.heap.size w2 wi) := Lib.hid (hB0.trans hb.below)
    have HK6 := Lib.hid hk6; have HC6 := Lib.hid hC6; have HL6 := Lib.hid hL6; have HG6 := Lib.hid hg6
    clear hk6 ho6 hC6 hL6 hG hb hf hB0 HRK HRX HRZ hxl hg60 hg6
    have kS := HC6.out.row.str (P := Try.prog) 24 9 5 c6 Try.underlying24 Try.underlying5 Try.underlying9
    go_wp2_with fail
    clear kS
    have HBI0 := Lib.hid HBI.out.size
    refine (open_any g3 x 0 true (by decide) (some ⟨g6, 0, none⟩) N c6 M _ HK6.out HC6.out HL6.out (by rw [HN.out, HNL.out]; have := HPL.out; omega)).mono ?_
    rintro e w11 ⟨v11, rfl, hO11, hg11, us, hk11, hu1, hu2⟩
    rw [OE.out.1]
    rw [OE.out.2] at hO11
    clear hu1 hu2
    have FK11 : Hid (Blk w11 g3 (CD x true us) 72) := Lib.hid hk11
    have FM11 : Hid (RowC w11 (some ⟨g6, 0, none⟩) N c6 M) := Lib.hid (HC6.out.key HK6.out hg11)
    have HB11 : Hid (Below w2.heap.size w2 w11) := Lib.hid (below_grown HBI.out hg11 HGL.out HBI.out.size)
    clear HC6 HK6 HBI hk11 hg11
    obtain ⟨gq, cq, hve, hq0, hq1, hq2, _⟩ := hO11.hasN lpl HLN.out (by have := HP1.out; have := HLN.out; omega)
    subst hve
    have hqk : ∃ cur, Blk w11 gq cur 5 := by
      rcases hO11.2 with ⟨h1, _⟩ | ⟨g', cap', cur, h1, _, h2, _⟩
      · cases h1
      · injection h1 with h1 _ _; injection h1 with h1; injection h1 with h1; subst h1; exact ⟨cur, h2⟩
    obtain ⟨cur, hqk⟩ := hqk
    have hf0 := hqk.frozen 0
    have hc0 : w11.cell? ⟨gq, 0, none⟩ = some (.int .u8 (Bt (p[0]'(by have := HP1.out; omega)))) := World.ownsRow.cells hO11 (g := gq) rfl 0 (.int .u8 (Bt (p[0]'(by have := HP1.out; omega)))) (by rw [HL_get, List.getElem?_eq_getElem (by have := HP1.out; omega)]; rfl)
    have HQ0 := Lib.hid hq0
    clear hO11 hqk hq0 hq1 hq2
    obtain ⟨p0, hp0⟩ : ∃ p0, p[0]'(by have := HP1.out; omega) = p0 := ⟨_, rfl⟩
    rw [hp0] at hc0
    clear hp0
    have i1 : (0 : Int) < (lpl : Int) := by have := HP1.out; have := HLN.out; omega
    have i0 : ¬ (lpl : Int) = 0 := by omega
    have FC5 := Lib.hid (HC2.out.below HB11.out)
    have FP5 := Lib.hid (HP0.out.below (HBW.out.trans (HB11.out.mono HBW.out.size)))
    have hpn : p ≠ [] := fun h => by have := HP1.out; rw [h] at this; simp at this
    have hMn : M ≠ [] := fun h => by have h1 := congrArg List.length h; rw [HN.out, HNL.out, List.length_nil] at h1; omega
    have hnp : ∀ x : Addr, lp = some x → x.block ≠ gq := fun x hx => by have h1 := HP0.out.row.lt x hx hpn; have h2 := HBW.out.size; have h3 := HBI0.out; have h4 := HQ0.out; omega
    have hnc : ∀ x : Addr, some (⟨gc, 0, none⟩ : Addr) = some x → x.block ≠ gq := fun x hx => by injection hx with hx; subst hx; have h2 := HGC.out; have h3 := HBI0.out; have h4 := HQ0.out; show gc ≠ gq; omega
    have hnm : ∀ x : Addr, some (⟨g6, 0, none⟩ : Addr) = some x → x.block ≠ gq := fun x hx => by injection hx with hx; subst hx; have h2 := HG6.out; have h4 := HQ0.out; show g6 ≠ gq; omega
    have hw := fun v => grown_setCell (grown_refl w11 (some gq)) 0 v
    have kS1 := fun v => (Row8.grownR FC5.out hpn (hw v) hnc).row.str (P := Try.prog) 24 9 5 cc Try.underlying24 Try.underlying5 Try.underlying9
    have kS2 := fun v => (Row8.grownR FP5.out hpn (hw v) hnp).row.str (P := Try.prog) 24 9 5 lpc Try.underlying24 Try.underlying5 Try.underlying9
    have kS3 := fun v => (Row8.grownR FM11.out hMn (hw v) hnm).row.str (P := Try.prog) 24 9 5 c6 Try.underlying24 Try.underlying5 Try.underlying9
    clear hnp hnc hnm hw hpn hMn
    go_wp2_with (first
      | (go_at_call 14; with_reducible refine (known_seal _).mono ?_; rintro e w9 ⟨rfl, hb9⟩))
    go_ret
    refine ⟨rfl, Below.later (Below.setCell (HBW.out.trans (HB11.out.mono HBW.out.size)) (by have h2 := HBW.out.size; have h3 := HBI0.out; have h4 := HQ0.out; show w.heap.size ≤ gq; omega) _) hb9 (Nat.le_refl _)⟩
end Go.Proofs.Ytaaidjncbcildaa
