/-
  The walk of a law.
-/
import Derived.Test.YtaaidjncbcildaaGSeal
import Derived.Test.YtaaidjncbcildaaGBase
namespace Go.Proofs.Ytaaidjncbcildaa
set_option maxRecDepth 100000
open Go.RowKit Pm
set_option linter.unusedVariables false
set_option linter.unusedSimpArgs false
attribute [local go_sem] key_y key_x

theorem sum12 (n N : Nat) (h : 12 + n = N) (hs : n ≤ 1000) : IntKind.i64.wrap (12 + (n : Int)) = (N : Int) ∧ RowKit.wrap64 (12 + (n : Int)) = (N : Int) := by
  rw [IntWalk.i64_in _ (by omega), IntWalk.wrap64_in _ (by omega)]
  omega
theorem min_both (a b n : Nat) (h : min a b = n) : n ≤ a ∧ n ≤ b ∧ min (a : Int) (b : Int) = (n : Int) := by omega
theorem box_at (y x : Int) (p : List UInt8) (k : Nat) (hk : k < p.length) : (boxW y x p)[12 + k]'(by rw [boxW_length]; omega) = p[k] ^^^ (streamW (shW y x) (k / 32)).getD (k % 32) 0 := by
  have h := (box_parts y x p).2.2
  have h1 := congrArg (fun l => l[k]?) h
  simp only [List.getElem?_drop] at h1
  rw [xorW_get _ _ _ hk, List.getElem?_eq_getElem (by rw [boxW_length]; omega)] at h1
  exact Option.some.inj h1
theorem xor_twice (a b s : UInt8) : (a ^^^ s) ^^^ (b ^^^ s) = a ^^^ b := by
  rw [UInt8.xor_assoc, ← UInt8.xor_assoc s b s, UInt8.xor_comm s b, UInt8.xor_assoc b s s, UInt8.xor_self, UInt8.xor_zero]
theorem RowC.cut {w : World} {a : Option Addr} {l c n : Nat} {p : List UInt8} (h : RowC w a l c p) (hn : n ≤ p.length) : RowC w a n c (p.take n) := by
  have hl : (p.take n).length = n := by rw [List.length_take]; omega
  refine ⟨⟨hl.symm, by have := h.row.small; rw [hl]; omega, ?_⟩, h.nil⟩
  rcases h.row.cells with h1 | ⟨b, off, h1, hc⟩
  · subst h1; left; simp
  · refine .inr ⟨b, off, h1, fun i hi => ?_⟩
    rw [hl] at hi
    rw [List.getElem_take]; exact hc i (by omega)
set_option maxRecDepth 100000 in
set_option maxHeartbeats 4000000 in
theorem sealStream_walk {w : World} (a : List UInt8) (ha : a.length = 32) (d : List UInt8) (hd : d.length = 32) (lp : Option Addr) (lpl lpc : Nat) (p : List UInt8) (hp : Arg8 w lp lpl lpc p) (lq : Option Addr) (lql lqc : Nat) (q : List UInt8) (hq : Arg8 w lq lql lqc q) :
    Calls Try.prog 11 #[HV a, HV d, .slice lp lpl lpc, .slice lq lql lqc] w fun e w' => e = .returned (.bool true) ∧ Below w.heap.size w w' := by
  have hle := hp.le
  have hsm := hp.small
  have hlen := hp.row.len_eq
  have hle2 := hq.le
  have hsm2 := hq.small
  have hlen2 := hq.row.len_eq
  obtain ⟨n, hn⟩ : ∃ n : Nat, min lpl lql = n := ⟨_, rfl⟩
  obtain ⟨hn1, hn2, hmin⟩ := min_both lpl lql n hn
  clear hn
  by_cases hord : lql < lpl
  · have hm := hmin
    clear hmin
    obtain rfl : lql = n := by omega
    clear hn1 hn2 hm
    have hn1 : lql ≤ lpl := by omega
    have hn2 : lql ≤ lql := Nat.le_refl _
    by_cases h1 : (lql : Int) > 200
    · go_enter Try.func11, Try.ntmps11
      go_wp2
      go_ret
      exact ⟨rfl, ((Below.refl _ _).next (Nat.le_refl _) _).next (Nat.le_refl _) _⟩
    have hn200 : lql ≤ 200 := by omega
    obtain ⟨P, hP⟩ : ∃ P, p.take lql = P := ⟨_, rfl⟩
    obtain ⟨Q, hQ⟩ : ∃ Q, q.take lql = Q := ⟨_, rfl⟩
    have hPl : P.length = lql := by rw [← hP, List.length_take]; omega
    have hQl : Q.length = lql := by rw [← hQ, List.length_take]; omega
    have hpr := hp.toC.cut (show lql ≤ _ by omega)
    have hqr := hq.toC.cut (show lql ≤ _ by omega)
    rw [hP] at hpr
    rw [hQ] at hqr
    obtain ⟨x, hx⟩ : ∃ x, keyS a = x := ⟨_, rfl⟩
    obtain ⟨dk, hdk⟩ : ∃ dk, keyS d = dk := ⟨_, rfl⟩
    have hxb := keyS_bd a
    rw [hx] at hxb
    have hse := sealE_pub x hxb P (by omega) dk
    have hse2 := sealE_pub x hxb Q (by omega) dk
    obtain ⟨M, hM⟩ : ∃ M, boxW (powI 4 x) dk P = M := ⟨_, rfl⟩
    obtain ⟨M2, hM2⟩ : ∃ M, boxW (powI 4 x) dk Q = M := ⟨_, rfl⟩
    obtain ⟨N, hN⟩ : ∃ N, 12 + lql = N := ⟨_, rfl⟩
    have hMl : M.length = N := by rw [← hM, boxW_length]; omega
    have hMl2 : M2.length = N := by rw [← hM2, boxW_length]; omega
    have hat : ∀ (k : Nat) (m1 m2 u1 u2 : UInt8), k < lql → M[12 + k]? = some m1 → M2[12 + k]? = some m2 → P[k]? = some u1 → Q[k]? = some u2 → m1 ^^^ m2 = u1 ^^^ u2 := by
      intro k m1 m2 u1 u2 hk e1 e2 e3 e4
      have f1 := box_at (powI 4 x) dk P k (by omega)
      have f2 := box_at (powI 4 x) dk Q k (by omega)
      have g1 := List.getElem?_eq_getElem (l := boxW (powI 4 x) dk P) (i := 12 + k) (by rw [boxW_length]; omega)
      have g2 := List.getElem?_eq_getElem (l := boxW (powI 4 x) dk Q) (i := 12 + k) (by rw [boxW_length]; omega)
      rw [f1, hM, e1] at g1
      rw [f2, hM2, e2] at g2
      rw [List.getElem?_eq_getElem (by omega)] at e3 e4
      rw [Option.some.inj g1, Option.some.inj g2, Option.some.inj e3, Option.some.inj e4]
      exact xor_twice _ _ _
    have HNW := Lib.hid (sum12 lql N hN (by omega))
    rw [hM] at hse
    rw [hM2] at hse2
    have i1 : (lql : Int) ≤ (lpc : Int) := by omega
    have i2 : (lql : Int) ≤ (lqc : Int) := by omega
    have hnp : lp = none → lpc = 0 ∧ lql = 0 := fun h => by have := hp.nil h; omega
    have hnq : lq = none → lqc = 0 ∧ lql = 0 := fun h => by have := hq.nil h; omega
    have HX := Lib.hid hx; have HDK := Lib.hid hdk; have SE := Lib.hid hse; have SE2 := Lib.hid hse2; have HN := Lib.hid hN; have HML := Lib.hid hMl; have HML2 := Lib.hid hMl2; have HAT := Lib.hid hat; have HPL := Lib.hid hPl; have HQL := Lib.hid hQl; have HN200 := Lib.hid hn200; have HPR := Lib.hid hpr; have HQR := Lib.hid hqr; have HNP := Lib.hid hnp; have HNQ := Lib.hid hnq
    clear hx hdk hxb hse hse2 hM hM2 hN hMl hMl2 hat hP hQ hPl hQl hn200 hpr hqr hnp hnq hp hq hle hsm hlen hle2 hsm2 hlen2 hn1 hn2
    have hsza : (Try.prog.info? 23).map (·.size) = some (HC a).size := by rw [HC_size, ha]; kernel_rfl
    have Sa := Lib.hid hsza; have Ha := Lib.hid ha
    clear hsza ha
    have hszd : (Try.prog.info? 23).map (·.size) = some (HC d).size := by rw [HC_size, hd]; kernel_rfl
    have Sd := Lib.hid hszd; have Hd := Lib.hid hd
    clear hszd hd
    have hXa : Blk ((w.alloc (.cells (HC a) 23)).alloc (.cells (HC d) 23)) (w.heap.size) (HC a) 23 := (Blk.new _ _ _).alloc _
    have hXd : Blk ((w.alloc (.cells (HC a) 23)).alloc (.cells (HC d) 23)) (w.heap.size + 1) (HC d) 23 := Blk.newAt _ _ (by simp)
    have HXa := Lib.hid hXa; have HXd := Lib.hid hXd
    clear hXa hXd
    unfold HV
    obtain ⟨hNi, hNj⟩ := HNW.out
    go_enter Try.func11, Try.ntmps11
    go_wp2_with (first
      | (refine wpList_load_row rfl 23 _ rfl w.heap.size rfl 23 (HC a) (0, 0) _ HXa.out Try.underlying23 rfl Sa.out ?_))
    refine calls_gen (fun w1 hw1 => ?_)
    have hb1 : Below w.heap.size w w1 := by rw [hw1]; (first | exact Below.refl _ _ | exact (Below.refl _ _).next (Nat.le_refl _) _ | exact ((Below.refl _ _).next (Nat.le_refl _) _).next (Nat.le_refl _) _ | exact (((Below.refl _ _).next (Nat.le_refl _) _).next (Nat.le_refl _) _).next (Nat.le_refl _) _ | exact ((((Below.refl _ _).next (Nat.le_refl _) _).next (Nat.le_refl _) _).next (Nat.le_refl _) _).next (Nat.le_refl _) _ | exact below_drew1 (Below.refl _ _) | exact below_drew1 ((Below.refl _ _).next (Nat.le_refl _) _) | exact below_drew1 (((Below.refl _ _).next (Nat.le_refl _) _).next (Nat.le_refl _) _))
    have FXa1 : Hid (Blk w1 w.heap.size (HC a) 23) := Lib.hid (by rw [hw1]; exact HXa.out)
    have FXd1 : Hid (Blk w1 (w.heap.size + 1) (HC d) 23) := Lib.hid (by rw [hw1]; exact HXd.out)
    have FP1 : Hid (RowC w1 lp lql lpc P) := Lib.hid (HPR.out.below hb1)
    have FQ1 : Hid (RowC w1 lq lql lqc Q) := Lib.hid (HQR.out.below hb1)
    have HB1 : Hid (Below w.heap.size w w1) := Lib.hid (hb1)
    clear HPR HQR
    clear hb1 hw1
    refine (rfrom_k a Ha.out _).mono ?_
    rintro e w2 ⟨rfl, hb2⟩
    rw [HX.out]
    have FP2 : Hid (RowC w2 lp lql lpc P) := Lib.hid (FP1.out.below hb2)
    have FQ2 : Hid (RowC w2 lq lql lqc Q) := Lib.hid (FQ1.out.below hb2)
    have FXa2 : Hid (Blk w2 w.heap.size (HC a) 23) := Lib.hid (FXa1.out.keep hb2)
    have FXd2 : Hid (Blk w2 (w.heap.size + 1) (HC d) 23) := Lib.hid (FXd1.out.keep hb2)
    have HB2 : Hid (Below w.heap.size w w2) := Lib.hid (HB1.out.later hb2 (Nat.le_refl _))
    clear FP1 FQ1 FXa1 FXd1 HB1
    clear hb2
    go_wp2_with fail
    refine wp_gen (fun w3 hw3 => ?_)
    have hb3 : Below w2.heap.size w2 w3 := by rw [hw3]; (first | exact Below.refl _ _ | exact (Below.refl _ _).next (Nat.le_refl _) _ | exact ((Below.refl _ _).next (Nat.le_refl _) _).next (Nat.le_refl _) _ | exact (((Below.refl _ _).next (Nat.le_refl _) _).next (Nat.le_refl _) _).next (Nat.le_refl _) _ | exact ((((Below.refl _ _).next (Nat.le_refl _) _).next (Nat.le_refl _) _).next (Nat.le_refl _) _).next (Nat.le_refl _) _ | exact below_drew1 (Below.refl _ _) | exact below_drew1 ((Below.refl _ _).next (Nat.le_refl _) _) | exact below_drew1 (((Below.refl _ _).next (Nat.le_refl _) _).next (Nat.le_refl _) _))
    have FP3 : Hid (RowC w3 lp lql lpc P) := Lib.hid (FP2.out.below hb3)
    have FQ3 : Hid (RowC w3 lq lql lqc Q) := Lib.hid (FQ2.out.below hb3)
    have FXa3 : Hid (Blk w3 w.heap.size (HC a) 23) := Lib.hid (FXa2.out.keep hb3)
    have FXd3 : Hid (Blk w3 (w.heap.size + 1) (HC d) 23) := Lib.hid (FXd2.out.keep hb3)
    have HB3 : Hid (Below w.heap.size w w3) := Lib.hid (HB2.out.later hb3 (Nat.le_refl _))
    clear FP2 FQ2 FXa2 FXd2 HB2
    clear hb3 hw3
    have hB0 := HB3.out
    refine region_muts [] _ (Nat.le_refl _) (fun S vals wG => hasF 5 (isTup w3.heap.size 5 0 (M)) S vals wG ∧ hasF 7 (isOwn w3.heap.size 5 (M)) S vals wG) [isV 0 (.int .i64 (powI 4 x)), isV 1 (HV d), isV 2 (.slice lp lpl lpc), isV 3 (.int .i64 lql), isV 4 (.slice lp lql lpc), anyV, asV 6 5, anyV, isV 8 (.int .i64 0), asV 9 7, isV 10 (.int .i64 0)]
      [[], [], [], [], [2, 3], [0, 1, 4], [5], [6], [6], [7], [8]] [some 27, some 28, some 29, some 30, some 31, some 32, some 26, some 33, some 34, some 11, some 12] _ (by kernel_rfl) (by kernel_rfl) (by kernel_rfl) (by kernel_rfl) (by kernel_rfl) rfl ?_ ?_ ?_ ?_
    · repeat (first | exact stT_nil | refine stT_cons (by first | exact stT_is _ _ | exact stT_as _ _ | exact stT_any | exact stT_lit _ _ _ _ _ (by decide) | exact stT_rowOf _ _ _ _ (by decide) (by decide)) ?_)
    · exact ⟨hasF.start _ _ _ _, hasF.start _ _ _ _⟩
    · intro hgz
      refine ⟨?_, ?_, ?_, ?_, ?_, ?_, ?_, ?_, ?_, ?_, ?_, trivial⟩ <;> intro S_ vals wi hb hSi hdn hcl hG hf <;> obtain ⟨hb, hz⟩ := hgz wi hb <;> simp [leans, factsOf, phi, sel_lit, sel_rowOf, isV, asV, anyV, sel] at hf <;> simp [putD, phi, Act.put]
      · -- 0 move 
        go_wp2
        exact ⟨rfl, rfl, .refl _ _ _, mk_is rfl, ⟨hG.1.keep (bm_tup _ _ _ _) _ 0 (by decide) (Below.refl _ _), hG.2.keep (bm_own _ _ _) _ 0 (by decide) (Below.refl _ _)⟩⟩
      · -- 1 load 
        refine wpList_load_row rfl 23 _ rfl _ rfl 23 (HC d) (0, 0) _ (FXd3.out.keep hb.below) Try.underlying23 rfl Sd.out ?_
        exact ⟨rfl, rfl, .refl _ _ _, mk_is rfl, ⟨hG.1.keep (bm_tup _ _ _ _) _ 1 (by decide) (Below.refl _ _), hG.2.keep (bm_own _ _ _) _ 1 (by decide) (Below.refl _ _)⟩⟩
      · -- 2 move 
        go_wp2
        exact ⟨rfl, rfl, .refl _ _ _, mk_is rfl, ⟨hG.1.keep (bm_tup _ _ _ _) _ 2 (by decide) (Below.refl _ _), hG.2.keep (bm_own _ _ _) _ 2 (by decide) (Below.refl _ _)⟩⟩
      · -- 3 move 
        go_wp2
        exact ⟨rfl, rfl, .refl _ _ _, mk_is rfl, ⟨hG.1.keep (bm_tup _ _ _ _) _ 3 (by decide) (Below.refl _ _), hG.2.keep (bm_own _ _ _) _ 3 (by decide) (Below.refl _ _)⟩⟩
      · -- 4 slice 
        simp only [hf]; clear hf
        rcases lp with _ | xa
        · obtain ⟨z1, z2⟩ := HNP.out rfl
          subst z1; subst z2
          go_wp2
          exact ⟨rfl, rfl, .refl _ _ _, mk_is rfl, ⟨hG.1.keep (bm_tup _ _ _ _) _ 4 (by decide) (Below.refl _ _), hG.2.keep (bm_own _ _ _) _ 4 (by decide) (Below.refl _ _)⟩⟩
        · go_wp2
          exact ⟨rfl, rfl, .refl _ _ _, mk_is rfl, ⟨hG.1.keep (bm_tup _ _ _ _) _ 4 (by decide) (Below.refl _ _), hG.2.keep (bm_own _ _ _) _ 4 (by decide) (Below.refl _ _)⟩⟩
      · -- 5 call curia/seal.Seal 
        simp only [hf]; clear hf
        go_wp2_with (first | (go_at_call 12; refine (seal_any (powI 4 x) d Hd.out lp lql lpc P _ (FP3.out.below hb.below) (by rw [HPL.out]; have := HN200.out; omega)).mono ?_; rintro e w' ⟨v_, rfl, ho_, hb'⟩; rw [SE.out.1]; rw [HDK.out, SE.out.2] at ho_))
        exact ⟨rfl, rfl, GrowsT.of hb' hz, mk_any, ⟨hasF.new (⟨_, rfl, ho_.base hz⟩), hG.2.keep (bm_own _ _ _) _ 5 (by decide) hb'⟩⟩
      · -- 6 move 
        go_wp2
        exact ⟨rfl, rfl, .refl _ _ _, mk_as rfl (by decide) (by decide), ⟨hG.1.keep (bm_tup _ _ _ _) _ 6 (by decide) (Below.refl _ _), hG.2.keep (bm_own _ _ _) _ 6 (by decide) (Below.refl _ _)⟩⟩
      · -- 7 extract 
        obtain ⟨v5, hv5, ho5⟩ := hG.1.get (way_done hcl [] 6 5 (by decide) (hdn 6 (by decide)))
        simp only [hf, hv5]
        go_wp2
        exact ⟨rfl, rfl, .refl _ _ _, mk_any, ⟨hG.1.keep (bm_tup _ _ _ _) _ 7 (by decide) (Below.refl _ _), hasF.new (ho5)⟩⟩
      · -- 8 extract 
        obtain ⟨v5, hv5, ho5⟩ := hG.1.get (way_done hcl [] 6 5 (by decide) (hdn 6 (by decide)))
        simp only [hf, hv5]
        go_wp2
        exact ⟨rfl, rfl, .refl _ _ _, mk_is rfl, ⟨hG.1.keep (bm_tup _ _ _ _) _ 8 (by decide) (Below.refl _ _), hG.2.keep (bm_own _ _ _) _ 8 (by decide) (Below.refl _ _)⟩⟩
      · -- 9 assign 
        go_wp2
        exact ⟨rfl, rfl, .refl _ _ _, mk_as rfl (by decide) (by decide), ⟨hG.1.keep (bm_tup _ _ _ _) _ 9 (by decide) (Below.refl _ _), hG.2.keep (bm_own _ _ _) _ 9 (by decide) (Below.refl _ _)⟩⟩
      · -- 10 assign 
        simp only [hf]; clear hf
        go_wp2
        exact ⟨rfl, rfl, .refl _ _ _, mk_is rfl, ⟨hG.1.keep (bm_tup _ _ _ _) _ 10 (by decide) (Below.refl _ _), hG.2.keep (bm_own _ _ _) _ 10 (by decide) (Below.refl _ _)⟩⟩
    · intro vals wi hb hG hf; simp [leans, List.range, List.range.loop, factsOf, phi, sel_lit, sel_rowOf, isV, asV, anyV, sel] at hf; simp [putD, List.range, List.range.loop, Act.put, hf]
      have ho6 := hG.2.get (by simp)
      generalize vals 7 = v6 at ho6 ⊢
      obtain ⟨ga, cga, rfl, _, _, _, _⟩ := ho6.hasN N HML.out.symm (by have := HN.out; omega)
      have hC6 : Row8 wi (some ⟨ga, 0, none⟩) N M := ho6.row (by rw [HML.out]; have := HN.out; have := HN200.out; simp only [maxLen]; omega) HML.out.symm
      have hbi := hb.below
      clear hG hf hb hB0 ho6
      have FP4 : Hid (RowC wi lp lql lpc P) := Lib.hid (FP3.out.below hbi)
      have FQ4 : Hid (RowC wi lq lql lqc Q) := Lib.hid (FQ3.out.below hbi)
      have FXa4 : Hid (Blk wi w.heap.size (HC a) 23) := Lib.hid (FXa3.out.keep hbi)
      have FXd4 : Hid (Blk wi (w.heap.size + 1) (HC d) 23) := Lib.hid (FXd3.out.keep hbi)
      have HB4 : Hid (Below w.heap.size w wi) := Lib.hid (HB3.out.later hbi (Nat.le_refl _))
      clear FP3 FQ3 FXa3 FXd3 HB3
      clear hbi
      have FM15 := Lib.hid hC6
      clear hC6
      go_wp2_with fail
      refine wp_gen (fun w6 hw6 => ?_)
      have hb6 : Below wi.heap.size wi w6 := by rw [hw6]; (first | exact Below.refl _ _ | exact (Below.refl _ _).next (Nat.le_refl _) _ | exact ((Below.refl _ _).next (Nat.le_refl _) _).next (Nat.le_refl _) _ | exact (((Below.refl _ _).next (Nat.le_refl _) _).next (Nat.le_refl _) _).next (Nat.le_refl _) _ | exact ((((Below.refl _ _).next (Nat.le_refl _) _).next (Nat.le_refl _) _).next (Nat.le_refl _) _).next (Nat.le_refl _) _ | exact below_drew1 (Below.refl _ _) | exact below_drew1 ((Below.refl _ _).next (Nat.le_refl _) _) | exact below_drew1 (((Below.refl _ _).next (Nat.le_refl _) _).next (Nat.le_refl _) _))
      have FP6 : Hid (RowC w6 lp lql lpc P) := Lib.hid (FP4.out.below hb6)
      have FQ6 : Hid (RowC w6 lq lql lqc Q) := Lib.hid (FQ4.out.below hb6)
      have FXa6 : Hid (Blk w6 w.heap.size (HC a) 23) := Lib.hid (FXa4.out.keep hb6)
      have FXd6 : Hid (Blk w6 (w.heap.size + 1) (HC d) 23) := Lib.hid (FXd4.out.keep hb6)
      have FM16 : Hid (Row8 w6 (some ⟨ga, 0, none⟩) N M) := Lib.hid (FM15.out.below hb6)
      have HB6 : Hid (Below w.heap.size w w6) := Lib.hid (HB4.out.later hb6 (Nat.le_refl _))
      clear FP4 FQ4 FXa4 FXd4 FM15 HB4
      clear hb6 hw6
      have hB0 := HB6.out
      refine region_muts [] _ (Nat.le_refl _) (fun S vals wG => hasF 5 (isTup w6.heap.size 5 0 (M2)) S vals wG ∧ hasF 7 (isOwn w6.heap.size 5 (M2)) S vals wG) [isV 0 (.int .i64 (powI 4 x)), isV 1 (HV d), isV 2 (.slice lq lql lqc), isV 3 (.int .i64 lql), isV 4 (.slice lq lql lqc), anyV, asV 6 5, anyV, isV 8 (.int .i64 0), asV 9 7, isV 10 (.int .i64 0)]
        [[], [], [], [], [2, 3], [0, 1, 4], [5], [6], [6], [7], [8]] [some 36, some 37, some 38, some 39, some 40, some 41, some 35, some 42, some 43, some 13, some 14] _ (by kernel_rfl) (by kernel_rfl) (by kernel_rfl) (by kernel_rfl) (by kernel_rfl) rfl ?_ ?_ ?_ ?_
      · repeat (first | exact stT_nil | refine stT_cons (by first | exact stT_is _ _ | exact stT_as _ _ | exact stT_any | exact stT_lit _ _ _ _ _ (by decide) | exact stT_rowOf _ _ _ _ (by decide) (by decide)) ?_)
      · exact ⟨hasF.start _ _ _ _, hasF.start _ _ _ _⟩
      · intro hgz
        refine ⟨?_, ?_, ?_, ?_, ?_, ?_, ?_, ?_, ?_, ?_, ?_, trivial⟩ <;> intro S_ vals wi hb hSi hdn hcl hG hf <;> obtain ⟨hb, hz⟩ := hgz wi hb <;> simp [leans, factsOf, phi, sel_lit, sel_rowOf, isV, asV, anyV, sel] at hf <;> simp [putD, phi, Act.put]
        · -- 0 move 
          go_wp2
          exact ⟨rfl, rfl, .refl _ _ _, mk_is rfl, ⟨hG.1.keep (bm_tup _ _ _ _) _ 0 (by decide) (Below.refl _ _), hG.2.keep (bm_own _ _ _) _ 0 (by decide) (Below.refl _ _)⟩⟩
        · -- 1 load 
          refine wpList_load_row rfl 23 _ rfl _ rfl 23 (HC d) (0, 0) _ (FXd6.out.keep hb.below) Try.underlying23 rfl Sd.out ?_
          exact ⟨rfl, rfl, .refl _ _ _, mk_is rfl, ⟨hG.1.keep (bm_tup _ _ _ _) _ 1 (by decide) (Below.refl _ _), hG.2.keep (bm_own _ _ _) _ 1 (by decide) (Below.refl _ _)⟩⟩
        · -- 2 move 
          go_wp2
          exact ⟨rfl, rfl, .refl _ _ _, mk_is rfl, ⟨hG.1.keep (bm_tup _ _ _ _) _ 2 (by decide) (Below.refl _ _), hG.2.keep (bm_own _ _ _) _ 2 (by decide) (Below.refl _ _)⟩⟩
        · -- 3 move 
          go_wp2
          exact ⟨rfl, rfl, .refl _ _ _, mk_is rfl, ⟨hG.1.keep (bm_tup _ _ _ _) _ 3 (by decide) (Below.refl _ _), hG.2.keep (bm_own _ _ _) _ 3 (by decide) (Below.refl _ _)⟩⟩
        · -- 4 slice 
          simp only [hf]; clear hf
          rcases lq with _ | xa
          · obtain ⟨z1, z2⟩ := HNQ.out rfl
            subst z1; subst z2
            go_wp2
            exact ⟨rfl, rfl, .refl _ _ _, mk_is rfl, ⟨hG.1.keep (bm_tup _ _ _ _) _ 4 (by decide) (Below.refl _ _), hG.2.keep (bm_own _ _ _) _ 4 (by decide) (Below.refl _ _)⟩⟩
          · go_wp2
            exact ⟨rfl, rfl, .refl _ _ _, mk_is rfl, ⟨hG.1.keep (bm_tup _ _ _ _) _ 4 (by decide) (Below.refl _ _), hG.2.keep (bm_own _ _ _) _ 4 (by decide) (Below.refl _ _)⟩⟩
        · -- 5 call curia/seal.Seal 
          simp only [hf]; clear hf
          go_wp2_with (first | (go_at_call 12; refine (seal_any (powI 4 x) d Hd.out lq lql lqc Q _ (FQ6.out.below hb.below) (by rw [HQL.out]; have := HN200.out; omega)).mono ?_; rintro e w' ⟨v_, rfl, ho_, hb'⟩; rw [SE2.out.1]; rw [HDK.out, SE2.out.2] at ho_))
          exact ⟨rfl, rfl, GrowsT.of hb' hz, mk_any, ⟨hasF.new (⟨_, rfl, ho_.base hz⟩), hG.2.keep (bm_own _ _ _) _ 5 (by decide) hb'⟩⟩
        · -- 6 move 
          go_wp2
          exact ⟨rfl, rfl, .refl _ _ _, mk_as rfl (by decide) (by decide), ⟨hG.1.keep (bm_tup _ _ _ _) _ 6 (by decide) (Below.refl _ _), hG.2.keep (bm_own _ _ _) _ 6 (by decide) (Below.refl _ _)⟩⟩
        · -- 7 extract 
          obtain ⟨v5, hv5, ho5⟩ := hG.1.get (way_done hcl [] 6 5 (by decide) (hdn 6 (by decide)))
          simp only [hf, hv5]
          go_wp2
          exact ⟨rfl, rfl, .refl _ _ _, mk_any, ⟨hG.1.keep (bm_tup _ _ _ _) _ 7 (by decide) (Below.refl _ _), hasF.new (ho5)⟩⟩
        · -- 8 extract 
          obtain ⟨v5, hv5, ho5⟩ := hG.1.get (way_done hcl [] 6 5 (by decide) (hdn 6 (by decide)))
          simp only [hf, hv5]
          go_wp2
          exact ⟨rfl, rfl, .refl _ _ _, mk_is rfl, ⟨hG.1.keep (bm_tup _ _ _ _) _ 8 (by decide) (Below.refl _ _), hG.2.keep (bm_own _ _ _) _ 8 (by decide) (Below.refl _ _)⟩⟩
        · -- 9 assign 
          go_wp2
          exact ⟨rfl, rfl, .refl _ _ _, mk_as rfl (by decide) (by decide), ⟨hG.1.keep (bm_tup _ _ _ _) _ 9 (by decide) (Below.refl _ _), hG.2.keep (bm_own _ _ _) _ 9 (by decide) (Below.refl _ _)⟩⟩
        · -- 10 assign 
          simp only [hf]; clear hf
          go_wp2
          exact ⟨rfl, rfl, .refl _ _ _, mk_is rfl, ⟨hG.1.keep (bm_tup _ _ _ _) _ 10 (by decide) (Below.refl _ _), hG.2.keep (bm_own _ _ _) _ 10 (by decide) (Below.refl _ _)⟩⟩
      · intro vals wi hb hG hf; simp [leans, List.range, List.range.loop, factsOf, phi, sel_lit, sel_rowOf, isV, asV, anyV, sel] at hf; simp [putD, List.range, List.range.loop, Act.put, hf]
        have ho6 := hG.2.get (by simp)
        generalize vals 7 = v6 at ho6 ⊢
        obtain ⟨gc, cgc, rfl, _, _, _, _⟩ := ho6.hasN N HML2.out.symm (by have := HN.out; omega)
        have hC6 : Row8 wi (some ⟨gc, 0, none⟩) N M2 := ho6.row (by rw [HML2.out]; have := HN.out; have := HN200.out; simp only [maxLen]; omega) HML2.out.symm
        have hbi := hb.below
        clear hG hf hb hB0 ho6
        have FP7 : Hid (RowC wi lp lql lpc P) := Lib.hid (FP6.out.below hbi)
        have FQ7 : Hid (RowC wi lq lql lqc Q) := Lib.hid (FQ6.out.below hbi)
        have FXa7 : Hid (Blk wi w.heap.size (HC a) 23) := Lib.hid (FXa6.out.keep hbi)
        have FXd7 : Hid (Blk wi (w.heap.size + 1) (HC d) 23) := Lib.hid (FXd6.out.keep hbi)
        have FM17 : Hid (Row8 wi (some ⟨ga, 0, none⟩) N M) := Lib.hid (FM16.out.below hbi)
        have HB7 : Hid (Below w.heap.size w wi) := Lib.hid (HB6.out.later hbi (Nat.le_refl _))
        clear FP6 FQ6 FXa6 FXd6 FM16 HB6
        clear hbi
        have FM28 := Lib.hid hC6
        clear hC6
        go_wp2_with fail
        refine wp_gen (fun w9 hw9 => ?_)
        have hb9 : Below wi.heap.size wi w9 := by rw [hw9]; (first | exact Below.refl _ _ | exact (Below.refl _ _).next (Nat.le_refl _) _ | exact ((Below.refl _ _).next (Nat.le_refl _) _).next (Nat.le_refl _) _ | exact (((Below.refl _ _).next (Nat.le_refl _) _).next (Nat.le_refl _) _).next (Nat.le_refl _) _ | exact ((((Below.refl _ _).next (Nat.le_refl _) _).next (Nat.le_refl _) _).next (Nat.le_refl _) _).next (Nat.le_refl _) _ | exact below_drew1 (Below.refl _ _) | exact below_drew1 ((Below.refl _ _).next (Nat.le_refl _) _) | exact below_drew1 (((Below.refl _ _).next (Nat.le_refl _) _).next (Nat.le_refl _) _))
        have FP9 : Hid (RowC w9 lp lql lpc P) := Lib.hid (FP7.out.below hb9)
        have FQ9 : Hid (RowC w9 lq lql lqc Q) := Lib.hid (FQ7.out.below hb9)
        have FXa9 : Hid (Blk w9 w.heap.size (HC a) 23) := Lib.hid (FXa7.out.keep hb9)
        have FXd9 : Hid (Blk w9 (w.heap.size + 1) (HC d) 23) := Lib.hid (FXd7.out.keep hb9)
        have FM19 : Hid (Row8 w9 (some ⟨ga, 0, none⟩) N M) := Lib.hid (FM17.out.below hb9)
        have FM29 : Hid (Row8 w9 (some ⟨gc, 0, none⟩) N M2) := Lib.hid (FM28.out.below hb9)
        have HB9 : Hid (Below w.heap.size w w9) := Lib.hid (HB7.out.later hb9 (Nat.le_refl _))
        clear FP7 FQ7 FXa7 FXd7 FM17 FM28 HB7
        clear hb9 hw9
        go_loopw [15] (fun i wr => ∃ k : Nat, k ≤ lql ∧ i = .int .i64 k ∧ Below w9.heap.size w9 wr) (fun i _ => lql - (intOf i).toNat)
        case atStart => exact ⟨0, Nat.zero_le _, rfl, Below.refl _ _⟩
        case round =>
          obtain ⟨k, hk, rfl, hBk⟩ := hrel
          by_cases hlt : k < lql
          · obtain ⟨bp, op, rfl, hcp⟩ : ∃ bp op, lp = some ⟨bp, op, none⟩ ∧ w9.cell? ⟨bp, op + k, none⟩ = some (.int .u8 (Bt (P[k]'(by have := HPL.out; omega)))) := by
              rcases FP9.out.row.cells with h1 | ⟨bp, op, h1, hc⟩
              · have := HPL.out; rw [h1] at this; simp at this; omega
              · exact ⟨bp, op, h1, hc k (by have := HPL.out; omega)⟩
            obtain ⟨bq, oq, rfl, hcq⟩ : ∃ bq oq, lq = some ⟨bq, oq, none⟩ ∧ w9.cell? ⟨bq, oq + k, none⟩ = some (.int .u8 (Bt (Q[k]'(by have := HQL.out; omega)))) := by
              rcases FQ9.out.row.cells with h1 | ⟨bp, op, h1, hc⟩
              · have := HQL.out; rw [h1] at this; simp at this; omega
              · exact ⟨bp, op, h1, hc k (by have := HQL.out; omega)⟩
            clear hNi hNj
            obtain ⟨j, hj⟩ : ∃ j, 12 + k = j := ⟨_, rfl⟩
            have hjN : j < N := by have := HN.out; omega
            have hcm : w9.cell? ⟨ga, j, none⟩ = some (.int .u8 (Bt (M[j]'(by rw [HML.out]; exact hjN)))) := by
              rcases FM19.out.cells with h1 | ⟨bp, op, h1, hc⟩
              · have := HML.out; rw [h1] at this; simp at this; omega
              · injection h1 with h1; injection h1 with h2 h3; subst h2; subst h3
                have h4 := hc j (by rw [HML.out]; exact hjN)
                rwa [Nat.zero_add] at h4
            have hcm2 : w9.cell? ⟨gc, j, none⟩ = some (.int .u8 (Bt (M2[j]'(by rw [HML2.out]; exact hjN)))) := by
              rcases FM29.out.cells with h1 | ⟨bp, op, h1, hc⟩
              · have := HML2.out; rw [h1] at this; simp at this; omega
              · injection h1 with h1; injection h1 with h2 h3; subst h2; subst h3
                have h4 := hc j (by rw [HML2.out]; exact hjN)
                rwa [Nat.zero_add] at h4
            obtain ⟨m1, hm1⟩ : ∃ m, M[j]'(by rw [HML.out]; exact hjN) = m := ⟨_, rfl⟩
            obtain ⟨m2, hm2⟩ : ∃ m, M2[j]'(by rw [HML2.out]; exact hjN) = m := ⟨_, rfl⟩
            obtain ⟨pk, hpk⟩ : ∃ m, P[k]'(by have := HPL.out; omega) = m := ⟨_, rfl⟩
            obtain ⟨qk, hqk⟩ : ∃ m, Q[k]'(by have := HQL.out; omega) = m := ⟨_, rfl⟩
            have hatk := HAT.out k m1 m2 pk qk hlt (by rw [hj, List.getElem?_eq_getElem (by rw [HML.out]; exact hjN), hm1]) (by rw [hj, List.getElem?_eq_getElem (by rw [HML2.out]; exact hjN), hm2]) (by rw [List.getElem?_eq_getElem (by have := HPL.out; omega), hpk]) (by rw [List.getElem?_eq_getElem (by have := HQL.out; omega), hqk])
            rw [hm1] at hcm
            rw [hm2] at hcm2
            rw [hpk] at hcp
            rw [hqk] at hcq
            have hx1 := Bt_xor m1 m2
            have hx2 := Bt_xor pk qk
            rw [hatk] at hx1
            obtain ⟨c, hc⟩ : ∃ c, Bt (pk ^^^ qk) = c := ⟨_, rfl⟩
            rw [hc] at hx1 hx2
            have cm := ((below_drew1 hBk).cell (block_lt_of_cell hcm)).trans hcm
            have cm2 := ((below_drew1 hBk).cell (block_lt_of_cell hcm2)).trans hcm2
            have cp := ((below_drew1 hBk).cell (block_lt_of_cell hcp)).trans hcp
            have cq := ((below_drew1 hBk).cell (block_lt_of_cell hcq)).trans hcq
            have j1 : (j : Int) < (N : Int) := by omega
            have j2 : ¬ (j : Int) < 0 := by omega
            have k1 : (k : Int) < (lpl : Int) := by omega
            have k2 : (k : Int) < (lql : Int) := by omega
            have k3 : ¬ (k : Int) < 0 := by omega
            have HBK := Lib.hid hBk
            obtain ⟨hji, hjj⟩ := sum12 k j hj (by have := HN200.out; omega)
            clear hBk hm1 hm2 hpk hqk hatk hcm hcm2 hcp hcq hj hc
            go_wp2_with fail
            refine region_tail 20 (by kernel_rfl) (by kernel_rfl) ?_
            simp only [List.take_succ_cons, List.take_zero, List.drop_succ_cons, List.drop_zero]
            still_step
            still_step
            still_step
            still_step
            still_step
            still_step
            still_step
            still_step
            still_step
            still_step
            still_step
            still_step
            still_step
            still_step
            still_step
            still_step
            still_step
            still_step
            still_step
            still_step
            refine wpStill_nil ?_
            go_wp2
            go_roundw
            case rel => exact ⟨k + 1, by omega, by go_num, below_drew1 HBK.out⟩
            case measure => simp [intOf]; omega
          · have HBK := Lib.hid (HB9.out.later hBk (Nat.le_refl _))
            clear hBk
            go_wp2_with (go_at_call 14; with_reducible refine (known_seal _).mono ?_; rintro e w9 ⟨rfl, hb9⟩)
            go_ret
            exact ⟨rfl, HBK.out.later hb9 (Nat.le_refl _)⟩
  · have hm := hmin
    clear hmin
    obtain rfl : lpl = n := by omega
    clear hn1 hn2 hm
    have hn1 : lpl ≤ lpl := Nat.le_refl _
    have hn2 : lpl ≤ lql := by omega
    by_cases h1 : (lpl : Int) > 200
    · go_enter Try.func11, Try.ntmps11
      go_wp2
      go_ret
      exact ⟨rfl, ((Below.refl _ _).next (Nat.le_refl _) _).next (Nat.le_refl _) _⟩
    have hn200 : lpl ≤ 200 := by omega
    obtain ⟨P, hP⟩ : ∃ P, p.take lpl = P := ⟨_, rfl⟩
    obtain ⟨Q, hQ⟩ : ∃ Q, q.take lpl = Q := ⟨_, rfl⟩
    have hPl : P.length = lpl := by rw [← hP, List.length_take]; omega
    have hQl : Q.length = lpl := by rw [← hQ, List.length_take]; omega
    have hpr := hp.toC.cut (show lpl ≤ _ by omega)
    have hqr := hq.toC.cut (show lpl ≤ _ by omega)
    rw [hP] at hpr
    rw [hQ] at hqr
    obtain ⟨x, hx⟩ : ∃ x, keyS a = x := ⟨_, rfl⟩
    obtain ⟨dk, hdk⟩ : ∃ dk, keyS d = dk := ⟨_, rfl⟩
    have hxb := keyS_bd a
    rw [hx] at hxb
    have hse := sealE_pub x hxb P (by omega) dk
    have hse2 := sealE_pub x hxb Q (by omega) dk
    obtain ⟨M, hM⟩ : ∃ M, boxW (powI 4 x) dk P = M := ⟨_, rfl⟩
    obtain ⟨M2, hM2⟩ : ∃ M, boxW (powI 4 x) dk Q = M := ⟨_, rfl⟩
    obtain ⟨N, hN⟩ : ∃ N, 12 + lpl = N := ⟨_, rfl⟩
    have hMl : M.length = N := by rw [← hM, boxW_length]; omega
    have hMl2 : M2.length = N := by rw [← hM2, boxW_length]; omega
    have hat : ∀ (k : Nat) (m1 m2 u1 u2 : UInt8), k < lpl → M[12 + k]? = some m1 → M2[12 + k]? = some m2 → P[k]? = some u1 → Q[k]? = some u2 → m1 ^^^ m2 = u1 ^^^ u2 := by
      intro k m1 m2 u1 u2 hk e1 e2 e3 e4
      have f1 := box_at (powI 4 x) dk P k (by omega)
      have f2 := box_at (powI 4 x) dk Q k (by omega)
      have g1 := List.getElem?_eq_getElem (l := boxW (powI 4 x) dk P) (i := 12 + k) (by rw [boxW_length]; omega)
      have g2 := List.getElem?_eq_getElem (l := boxW (powI 4 x) dk Q) (i := 12 + k) (by rw [boxW_length]; omega)
      rw [f1, hM, e1] at g1
      rw [f2, hM2, e2] at g2
      rw [List.getElem?_eq_getElem (by omega)] at e3 e4
      rw [Option.some.inj g1, Option.some.inj g2, Option.some.inj e3, Option.some.inj e4]
      exact xor_twice _ _ _
    have HNW := Lib.hid (sum12 lpl N hN (by omega))
    rw [hM] at hse
    rw [hM2] at hse2
    have i1 : (lpl : Int) ≤ (lpc : Int) := by omega
    have i2 : (lpl : Int) ≤ (lqc : Int) := by omega
    have hnp : lp = none → lpc = 0 ∧ lpl = 0 := fun h => by have := hp.nil h; omega
    have hnq : lq = none → lqc = 0 ∧ lpl = 0 := fun h => by have := hq.nil h; omega
    have HX := Lib.hid hx; have HDK := Lib.hid hdk; have SE := Lib.hid hse; have SE2 := Lib.hid hse2; have HN := Lib.hid hN; have HML := Lib.hid hMl; have HML2 := Lib.hid hMl2; have HAT := Lib.hid hat; have HPL := Lib.hid hPl; have HQL := Lib.hid hQl; have HN200 := Lib.hid hn200; have HPR := Lib.hid hpr; have HQR := Lib.hid hqr; have HNP := Lib.hid hnp; have HNQ := Lib.hid hnq
    clear hx hdk hxb hse hse2 hM hM2 hN hMl hMl2 hat hP hQ hPl hQl hn200 hpr hqr hnp hnq hp hq hle hsm hlen hle2 hsm2 hlen2 hn1 hn2
    have hsza : (Try.prog.info? 23).map (·.size) = some (HC a).size := by rw [HC_size, ha]; kernel_rfl
    have Sa := Lib.hid hsza; have Ha := Lib.hid ha
    clear hsza ha
    have hszd : (Try.prog.info? 23).map (·.size) = some (HC d).size := by rw [HC_size, hd]; kernel_rfl
    have Sd := Lib.hid hszd; have Hd := Lib.hid hd
    clear hszd hd
    have hXa : Blk ((w.alloc (.cells (HC a) 23)).alloc (.cells (HC d) 23)) (w.heap.size) (HC a) 23 := (Blk.new _ _ _).alloc _
    have hXd : Blk ((w.alloc (.cells (HC a) 23)).alloc (.cells (HC d) 23)) (w.heap.size + 1) (HC d) 23 := Blk.newAt _ _ (by simp)
    have HXa := Lib.hid hXa; have HXd := Lib.hid hXd
    clear hXa hXd
    unfold HV
    obtain ⟨hNi, hNj⟩ := HNW.out
    go_enter Try.func11, Try.ntmps11
    go_wp2_with (first
      | (refine wpList_load_row rfl 23 _ rfl w.heap.size rfl 23 (HC a) (0, 0) _ HXa.out Try.underlying23 rfl Sa.out ?_))
    refine calls_gen (fun w1 hw1 => ?_)
    have hb1 : Below w.heap.size w w1 := by rw [hw1]; (first | exact Below.refl _ _ | exact (Below.refl _ _).next (Nat.le_refl _) _ | exact ((Below.refl _ _).next (Nat.le_refl _) _).next (Nat.le_refl _) _ | exact (((Below.refl _ _).next (Nat.le_refl _) _).next (Nat.le_refl _) _).next (Nat.le_refl _) _ | exact ((((Below.refl _ _).next (Nat.le_refl _) _).next (Nat.le_refl _) _).next (Nat.le_refl _) _).next (Nat.le_refl _) _ | exact below_drew1 (Below.refl _ _) | exact below_drew1 ((Below.refl _ _).next (Nat.le_refl _) _) | exact below_drew1 (((Below.refl _ _).next (Nat.le_refl _) _).next (Nat.le_refl _) _))
    have FXa1 : Hid (Blk w1 w.heap.size (HC a) 23) := Lib.hid (by rw [hw1]; exact HXa.out)
    have FXd1 : Hid (Blk w1 (w.heap.size + 1) (HC d) 23) := Lib.hid (by rw [hw1]; exact HXd.out)
    have FP1 : Hid (RowC w1 lp lpl lpc P) := Lib.hid (HPR.out.below hb1)
    have FQ1 : Hid (RowC w1 lq lpl lqc Q) := Lib.hid (HQR.out.below hb1)
    have HB1 : Hid (Below w.heap.size w w1) := Lib.hid (hb1)
    clear HPR HQR
    clear hb1 hw1
    refine (rfrom_k a Ha.out _).mono ?_
    rintro e w2 ⟨rfl, hb2⟩
    rw [HX.out]
    have FP2 : Hid (RowC w2 lp lpl lpc P) := Lib.hid (FP1.out.below hb2)
    have FQ2 : Hid (RowC w2 lq lpl lqc Q) := Lib.hid (FQ1.out.below hb2)
    have FXa2 : Hid (Blk w2 w.heap.size (HC a) 23) := Lib.hid (FXa1.out.keep hb2)
    have FXd2 : Hid (Blk w2 (w.heap.size + 1) (HC d) 23) := Lib.hid (FXd1.out.keep hb2)
    have HB2 : Hid (Below w.heap.size w w2) := Lib.hid (HB1.out.later hb2 (Nat.le_refl _))
    clear FP1 FQ1 FXa1 FXd1 HB1
    clear hb2
    go_wp2_with fail
    refine wp_gen (fun w3 hw3 => ?_)
    have hb3 : Below w2.heap.size w2 w3 := by rw [hw3]; (first | exact Below.refl _ _ | exact (Below.refl _ _).next (Nat.le_refl _) _ | exact ((Below.refl _ _).next (Nat.le_refl _) _).next (Nat.le_refl _) _ | exact (((Below.refl _ _).next (Nat.le_refl _) _).next (Nat.le_refl _) _).next (Nat.le_refl _) _ | exact ((((Below.refl _ _).next (Nat.le_refl _) _).next (Nat.le_refl _) _).next (Nat.le_refl _) _).next (Nat.le_refl _) _ | exact below_drew1 (Below.refl _ _) | exact below_drew1 ((Below.refl _ _).next (Nat.le_refl _) _) | exact below_drew1 (((Below.refl _ _).next (Nat.le_refl _) _).next (Nat.le_refl _) _))
    have FP3 : Hid (RowC w3 lp lpl lpc P) := Lib.hid (FP2.out.below hb3)
    have FQ3 : Hid (RowC w3 lq lpl lqc Q) := Lib.hid (FQ2.out.below hb3)
    have FXa3 : Hid (Blk w3 w.heap.size (HC a) 23) := Lib.hid (FXa2.out.keep hb3)
    have FXd3 : Hid (Blk w3 (w.heap.size + 1) (HC d) 23) := Lib.hid (FXd2.out.keep hb3)
    have HB3 : Hid (Below w.heap.size w w3) := Lib.hid (HB2.out.later hb3 (Nat.le_refl _))
    clear FP2 FQ2 FXa2 FXd2 HB2
    clear hb3 hw3
    have hB0 := HB3.out
    refine region_muts [] _ (Nat.le_refl _) (fun S vals wG => hasF 5 (isTup w3.heap.size 5 0 (M)) S vals wG ∧ hasF 7 (isOwn w3.heap.size 5 (M)) S vals wG) [isV 0 (.int .i64 (powI 4 x)), isV 1 (HV d), isV 2 (.slice lp lpl lpc), isV 3 (.int .i64 lpl), isV 4 (.slice lp lpl lpc), anyV, asV 6 5, anyV, isV 8 (.int .i64 0), asV 9 7, isV 10 (.int .i64 0)]
      [[], [], [], [], [2, 3], [0, 1, 4], [5], [6], [6], [7], [8]] [some 27, some 28, some 29, some 30, some 31, some 32, some 26, some 33, some 34, some 11, some 12] _ (by kernel_rfl) (by kernel_rfl) (by kernel_rfl) (by kernel_rfl) (by kernel_rfl) rfl ?_ ?_ ?_ ?_
    · repeat (first | exact stT_nil | refine stT_cons (by first | exact stT_is _ _ | exact stT_as _ _ | exact stT_any | exact stT_lit _ _ _ _ _ (by decide) | exact stT_rowOf _ _ _ _ (by decide) (by decide)) ?_)
    · exact ⟨hasF.start _ _ _ _, hasF.start _ _ _ _⟩
    · intro hgz
      refine ⟨?_, ?_, ?_, ?_, ?_, ?_, ?_, ?_, ?_, ?_, ?_, trivial⟩ <;> intro S_ vals wi hb hSi hdn hcl hG hf <;> obtain ⟨hb, hz⟩ := hgz wi hb <;> simp [leans, factsOf, phi, sel_lit, sel_rowOf, isV, asV, anyV, sel] at hf <;> simp [putD, phi, Act.put]
      · -- 0 move 
        go_wp2
        exact ⟨rfl, rfl, .refl _ _ _, mk_is rfl, ⟨hG.1.keep (bm_tup _ _ _ _) _ 0 (by decide) (Below.refl _ _), hG.2.keep (bm_own _ _ _) _ 0 (by decide) (Below.refl _ _)⟩⟩
      · -- 1 load 
        refine wpList_load_row rfl 23 _ rfl _ rfl 23 (HC d) (0, 0) _ (FXd3.out.keep hb.below) Try.underlying23 rfl Sd.out ?_
        exact ⟨rfl, rfl, .refl _ _ _, mk_is rfl, ⟨hG.1.keep (bm_tup _ _ _ _) _ 1 (by decide) (Below.refl _ _), hG.2.keep (bm_own _ _ _) _ 1 (by decide) (Below.refl _ _)⟩⟩
      · -- 2 move 
        go_wp2
        exact ⟨rfl, rfl, .refl _ _ _, mk_is rfl, ⟨hG.1.keep (bm_tup _ _ _ _) _ 2 (by decide) (Below.refl _ _), hG.2.keep (bm_own _ _ _) _ 2 (by decide) (Below.refl _ _)⟩⟩
      · -- 3 move 
        go_wp2
        exact ⟨rfl, rfl, .refl _ _ _, mk_is rfl, ⟨hG.1.keep (bm_tup _ _ _ _) _ 3 (by decide) (Below.refl _ _), hG.2.keep (bm_own _ _ _) _ 3 (by decide) (Below.refl _ _)⟩⟩
      · -- 4 slice 
        simp only [hf]; clear hf
        rcases lp with _ | xa
        · obtain ⟨z1, z2⟩ := HNP.out rfl
          subst z1; subst z2
          go_wp2
          exact ⟨rfl, rfl, .refl _ _ _, mk_is rfl, ⟨hG.1.keep (bm_tup _ _ _ _) _ 4 (by decide) (Below.refl _ _), hG.2.keep (bm_own _ _ _) _ 4 (by decide) (Below.refl _ _)⟩⟩
        · go_wp2
          exact ⟨rfl, rfl, .refl _ _ _, mk_is rfl, ⟨hG.1.keep (bm_tup _ _ _ _) _ 4 (by decide) (Below.refl _ _), hG.2.keep (bm_own _ _ _) _ 4 (by decide) (Below.refl _ _)⟩⟩
      · -- 5 call curia/seal.Seal 
        simp only [hf]; clear hf
        go_wp2_with (first | (go_at_call 12; refine (seal_any (powI 4 x) d Hd.out lp lpl lpc P _ (FP3.out.below hb.below) (by rw [HPL.out]; have := HN200.out; omega)).mono ?_; rintro e w' ⟨v_, rfl, ho_, hb'⟩; rw [SE.out.1]; rw [HDK.out, SE.out.2] at ho_))
        exact ⟨rfl, rfl, GrowsT.of hb' hz, mk_any, ⟨hasF.new (⟨_, rfl, ho_.base hz⟩), hG.2.keep (bm_own _ _ _) _ 5 (by decide) hb'⟩⟩
      · -- 6 move 
        go_wp2
        exact ⟨rfl, rfl, .refl _ _ _, mk_as rfl (by decide) (by decide), ⟨hG.1.keep (bm_tup _ _ _ _) _ 6 (by decide) (Below.refl _ _), hG.2.keep (bm_own _ _ _) _ 6 (by decide) (Below.refl _ _)⟩⟩
      · -- 7 extract 
        obtain ⟨v5, hv5, ho5⟩ := hG.1.get (way_done hcl [] 6 5 (by decide) (hdn 6 (by decide)))
        simp only [hf, hv5]
        go_wp2
        exact ⟨rfl, rfl, .refl _ _ _, mk_any, ⟨hG.1.keep (bm_tup _ _ _ _) _ 7 (by decide) (Below.refl _ _), hasF.new (ho5)⟩⟩
      · -- 8 extract 
        obtain ⟨v5, hv5, ho5⟩ := hG.1.get (way_done hcl [] 6 5 (by decide) (hdn 6 (by decide)))
        simp only [hf, hv5]
        go_wp2
        exact ⟨rfl, rfl, .refl _ _ _, mk_is rfl, ⟨hG.1.keep (bm_tup _ _ _ _) _ 8 (by decide) (Below.refl _ _), hG.2.keep (bm_own _ _ _) _ 8 (by decide) (Below.refl _ _)⟩⟩
      · -- 9 assign 
        go_wp2
        exact ⟨rfl, rfl, .refl _ _ _, mk_as rfl (by decide) (by decide), ⟨hG.1.keep (bm_tup _ _ _ _) _ 9 (by decide) (Below.refl _ _), hG.2.keep (bm_own _ _ _) _ 9 (by decide) (Below.refl _ _)⟩⟩
      · -- 10 assign 
        simp only [hf]; clear hf
        go_wp2
        exact ⟨rfl, rfl, .refl _ _ _, mk_is rfl, ⟨hG.1.keep (bm_tup _ _ _ _) _ 10 (by decide) (Below.refl _ _), hG.2.keep (bm_own _ _ _) _ 10 (by decide) (Below.refl _ _)⟩⟩
    · intro vals wi hb hG hf; simp [leans, List.range, List.range.loop, factsOf, phi, sel_lit, sel_rowOf, isV, asV, anyV, sel] at hf; simp [putD, List.range, List.range.loop, Act.put, hf]
      have ho6 := hG.2.get (by simp)
      generalize vals 7 = v6 at ho6 ⊢
      obtain ⟨ga, cga, rfl, _, _, _, _⟩ := ho6.hasN N HML.out.symm (by have := HN.out; omega)
      have hC6 : Row8 wi (some ⟨ga, 0, none⟩) N M := ho6.row (by rw [HML.out]; have := HN.out; have := HN200.out; simp only [maxLen]; omega) HML.out.symm
      have hbi := hb.below
      clear hG hf hb hB0 ho6
      have FP4 : Hid (RowC wi lp lpl lpc P) := Lib.hid (FP3.out.below hbi)
      have FQ4 : Hid (RowC wi lq lpl lqc Q) := Lib.hid (FQ3.out.below hbi)
      have FXa4 : Hid (Blk wi w.heap.size (HC a) 23) := Lib.hid (FXa3.out.keep hbi)
      have FXd4 : Hid (Blk wi (w.heap.size + 1) (HC d) 23) := Lib.hid (FXd3.out.keep hbi)
      have HB4 : Hid (Below w.heap.size w wi) := Lib.hid (HB3.out.later hbi (Nat.le_refl _))
      clear FP3 FQ3 FXa3 FXd3 HB3
      clear hbi
      have FM15 := Lib.hid hC6
      clear hC6
      go_wp2_with fail
      refine wp_gen (fun w6 hw6 => ?_)
      have hb6 : Below wi.heap.size wi w6 := by rw [hw6]; (first | exact Below.refl _ _ | exact (Below.refl _ _).next (Nat.le_refl _) _ | exact ((Below.refl _ _).next (Nat.le_refl _) _).next (Nat.le_refl _) _ | exact (((Below.refl _ _).next (Nat.le_refl _) _).next (Nat.le_refl _) _).next (Nat.le_refl _) _ | exact ((((Below.refl _ _).next (Nat.le_refl _) _).next (Nat.le_refl _) _).next (Nat.le_refl _) _).next (Nat.le_refl _) _ | exact below_drew1 (Below.refl _ _) | exact below_drew1 ((Below.refl _ _).next (Nat.le_refl _) _) | exact below_drew1 (((Below.refl _ _).next (Nat.le_refl _) _).next (Nat.le_refl _) _))
      have FP6 : Hid (RowC w6 lp lpl lpc P) := Lib.hid (FP4.out.below hb6)
      have FQ6 : Hid (RowC w6 lq lpl lqc Q) := Lib.hid (FQ4.out.below hb6)
      have FXa6 : Hid (Blk w6 w.heap.size (HC a) 23) := Lib.hid (FXa4.out.keep hb6)
      have FXd6 : Hid (Blk w6 (w.heap.size + 1) (HC d) 23) := Lib.hid (FXd4.out.keep hb6)
      have FM16 : Hid (Row8 w6 (some ⟨ga, 0, none⟩) N M) := Lib.hid (FM15.out.below hb6)
      have HB6 : Hid (Below w.heap.size w w6) := Lib.hid (HB4.out.later hb6 (Nat.le_refl _))
      clear FP4 FQ4 FXa4 FXd4 FM15 HB4
      clear hb6 hw6
      have hB0 := HB6.out
      refine region_muts [] _ (Nat.le_refl _) (fun S vals wG => hasF 5 (isTup w6.heap.size 5 0 (M2)) S vals wG ∧ hasF 7 (isOwn w6.heap.size 5 (M2)) S vals wG) [isV 0 (.int .i64 (powI 4 x)), isV 1 (HV d), isV 2 (.slice lq lql lqc), isV 3 (.int .i64 lpl), isV 4 (.slice lq lpl lqc), anyV, asV 6 5, anyV, isV 8 (.int .i64 0), asV 9 7, isV 10 (.int .i64 0)]
        [[], [], [], [], [2, 3], [0, 1, 4], [5], [6], [6], [7], [8]] [some 36, some 37, some 38, some 39, some 40, some 41, some 35, some 42, some 43, some 13, some 14] _ (by kernel_rfl) (by kernel_rfl) (by kernel_rfl) (by kernel_rfl) (by kernel_rfl) rfl ?_ ?_ ?_ ?_
      · repeat (first | exact stT_nil | refine stT_cons (by first | exact stT_is _ _ | exact stT_as _ _ | exact stT_any | exact stT_lit _ _ _ _ _ (by decide) | exact stT_rowOf _ _ _ _ (by decide) (by decide)) ?_)
      · exact ⟨hasF.start _ _ _ _, hasF.start _ _ _ _⟩
      · intro hgz
        refine ⟨?_, ?_, ?_, ?_, ?_, ?_, ?_, ?_, ?_, ?_, ?_, trivial⟩ <;> intro S_ vals wi hb hSi hdn hcl hG hf <;> obtain ⟨hb, hz⟩ := hgz wi hb <;> simp [leans, factsOf, phi, sel_lit, sel_rowOf, isV, asV, anyV, sel] at hf <;> simp [putD, phi, Act.put]
        · -- 0 move 
          go_wp2
          exact ⟨rfl, rfl, .refl _ _ _, mk_is rfl, ⟨hG.1.keep (bm_tup _ _ _ _) _ 0 (by decide) (Below.refl _ _), hG.2.keep (bm_own _ _ _) _ 0 (by decide) (Below.refl _ _)⟩⟩
        · -- 1 load 
          refine wpList_load_row rfl 23 _ rfl _ rfl 23 (HC d) (0, 0) _ (FXd6.out.keep hb.below) Try.underlying23 rfl Sd.out ?_
          exact ⟨rfl, rfl, .refl _ _ _, mk_is rfl, ⟨hG.1.keep (bm_tup _ _ _ _) _ 1 (by decide) (Below.refl _ _), hG.2.keep (bm_own _ _ _) _ 1 (by decide) (Below.refl _ _)⟩⟩
        · -- 2 move 
          go_wp2
          exact ⟨rfl, rfl, .refl _ _ _, mk_is rfl, ⟨hG.1.keep (bm_tup _ _ _ _) _ 2 (by decide) (Below.refl _ _), hG.2.keep (bm_own _ _ _) _ 2 (by decide) (Below.refl _ _)⟩⟩
        · -- 3 move 
          go_wp2
          exact ⟨rfl, rfl, .refl _ _ _, mk_is rfl, ⟨hG.1.keep (bm_tup _ _ _ _) _ 3 (by decide) (Below.refl _ _), hG.2.keep (bm_own _ _ _) _ 3 (by decide) (Below.refl _ _)⟩⟩
        · -- 4 slice 
          simp only [hf]; clear hf
          rcases lq with _ | xa
          · obtain ⟨z1, z2⟩ := HNQ.out rfl
            subst z1; subst z2
            go_wp2
            exact ⟨rfl, rfl, .refl _ _ _, mk_is rfl, ⟨hG.1.keep (bm_tup _ _ _ _) _ 4 (by decide) (Below.refl _ _), hG.2.keep (bm_own _ _ _) _ 4 (by decide) (Below.refl _ _)⟩⟩
          · go_wp2
            exact ⟨rfl, rfl, .refl _ _ _, mk_is rfl, ⟨hG.1.keep (bm_tup _ _ _ _) _ 4 (by decide) (Below.refl _ _), hG.2.keep (bm_own _ _ _) _ 4 (by decide) (Below.refl _ _)⟩⟩
        · -- 5 call curia/seal.Seal 
          simp only [hf]; clear hf
          go_wp2_with (first | (go_at_call 12; refine (seal_any (powI 4 x) d Hd.out lq lpl lqc Q _ (FQ6.out.below hb.below) (by rw [HQL.out]; have := HN200.out; omega)).mono ?_; rintro e w' ⟨v_, rfl, ho_, hb'⟩; rw [SE2.out.1]; rw [HDK.out, SE2.out.2] at ho_))
          exact ⟨rfl, rfl, GrowsT.of hb' hz, mk_any, ⟨hasF.new (⟨_, rfl, ho_.base hz⟩), hG.2.keep (bm_own _ _ _) _ 5 (by decide) hb'⟩⟩
        · -- 6 move 
          go_wp2
          exact ⟨rfl, rfl, .refl _ _ _, mk_as rfl (by decide) (by decide), ⟨hG.1.keep (bm_tup _ _ _ _) _ 6 (by decide) (Below.refl _ _), hG.2.keep (bm_own _ _ _) _ 6 (by decide) (Below.refl _ _)⟩⟩
        · -- 7 extract 
          obtain ⟨v5, hv5, ho5⟩ := hG.1.get (way_done hcl [] 6 5 (by decide) (hdn 6 (by decide)))
          simp only [hf, hv5]
          go_wp2
          exact ⟨rfl, rfl, .refl _ _ _, mk_any, ⟨hG.1.keep (bm_tup _ _ _ _) _ 7 (by decide) (Below.refl _ _), hasF.new (ho5)⟩⟩
        · -- 8 extract 
          obtain ⟨v5, hv5, ho5⟩ := hG.1.get (way_done hcl [] 6 5 (by decide) (hdn 6 (by decide)))
          simp only [hf, hv5]
          go_wp2
          exact ⟨rfl, rfl, .refl _ _ _, mk_is rfl, ⟨hG.1.keep (bm_tup _ _ _ _) _ 8 (by decide) (Below.refl _ _), hG.2.keep (bm_own _ _ _) _ 8 (by decide) (Below.refl _ _)⟩⟩
        · -- 9 assign 
          go_wp2
          exact ⟨rfl, rfl, .refl _ _ _, mk_as rfl (by decide) (by decide), ⟨hG.1.keep (bm_tup _ _ _ _) _ 9 (by decide) (Below.refl _ _), hG.2.keep (bm_own _ _ _) _ 9 (by decide) (Below.refl _ _)⟩⟩
        · -- 10 assign 
          simp only [hf]; clear hf
          go_wp2
          exact ⟨rfl, rfl, .refl _ _ _, mk_is rfl, ⟨hG.1.keep (bm_tup _ _ _ _) _ 10 (by decide) (Below.refl _ _), hG.2.keep (bm_own _ _ _) _ 10 (by decide) (Below.refl _ _)⟩⟩
      · intro vals wi hb hG hf; simp [leans, List.range, List.range.loop, factsOf, phi, sel_lit, sel_rowOf, isV, asV, anyV, sel] at hf; simp [putD, List.range, List.range.loop, Act.put, hf]
        have ho6 := hG.2.get (by simp)
        generalize vals 7 = v6 at ho6 ⊢
        obtain ⟨gc, cgc, rfl, _, _, _, _⟩ := ho6.hasN N HML2.out.symm (by have := HN.out; omega)
        have hC6 : Row8 wi (some ⟨gc, 0, none⟩) N M2 := ho6.row (by rw [HML2.out]; have := HN.out; have := HN200.out; simp only [maxLen]; omega) HML2.out.symm
        have hbi := hb.below
        clear hG hf hb hB0 ho6
        have FP7 : Hid (RowC wi lp lpl lpc P) := Lib.hid (FP6.out.below hbi)
        have FQ7 : Hid (RowC wi lq lpl lqc Q) := Lib.hid (FQ6.out.below hbi)
        have FXa7 : Hid (Blk wi w.heap.size (HC a) 23) := Lib.hid (FXa6.out.keep hbi)
        have FXd7 : Hid (Blk wi (w.heap.size + 1) (HC d) 23) := Lib.hid (FXd6.out.keep hbi)
        have FM17 : Hid (Row8 wi (some ⟨ga, 0, none⟩) N M) := Lib.hid (FM16.out.below hbi)
        have HB7 : Hid (Below w.heap.size w wi) := Lib.hid (HB6.out.later hbi (Nat.le_refl _))
        clear FP6 FQ6 FXa6 FXd6 FM16 HB6
        clear hbi
        have FM28 := Lib.hid hC6
        clear hC6
        go_wp2_with fail
        refine wp_gen (fun w9 hw9 => ?_)
        have hb9 : Below wi.heap.size wi w9 := by rw [hw9]; (first | exact Below.refl _ _ | exact (Below.refl _ _).next (Nat.le_refl _) _ | exact ((Below.refl _ _).next (Nat.le_refl _) _).next (Nat.le_refl _) _ | exact (((Below.refl _ _).next (Nat.le_refl _) _).next (Nat.le_refl _) _).next (Nat.le_refl _) _ | exact ((((Below.refl _ _).next (Nat.le_refl _) _).next (Nat.le_refl _) _).next (Nat.le_refl _) _).next (Nat.le_refl _) _ | exact below_drew1 (Below.refl _ _) | exact below_drew1 ((Below.refl _ _).next (Nat.le_refl _) _) | exact below_drew1 (((Below.refl _ _).next (Nat.le_refl _) _).next (Nat.le_refl _) _))
        have FP9 : Hid (RowC w9 lp lpl lpc P) := Lib.hid (FP7.out.below hb9)
        have FQ9 : Hid (RowC w9 lq lpl lqc Q) := Lib.hid (FQ7.out.below hb9)
        have FXa9 : Hid (Blk w9 w.heap.size (HC a) 23) := Lib.hid (FXa7.out.keep hb9)
        have FXd9 : Hid (Blk w9 (w.heap.size + 1) (HC d) 23) := Lib.hid (FXd7.out.keep hb9)
        have FM19 : Hid (Row8 w9 (some ⟨ga, 0, none⟩) N M) := Lib.hid (FM17.out.below hb9)
        have FM29 : Hid (Row8 w9 (some ⟨gc, 0, none⟩) N M2) := Lib.hid (FM28.out.below hb9)
        have HB9 : Hid (Below w.heap.size w w9) := Lib.hid (HB7.out.later hb9 (Nat.le_refl _))
        clear FP7 FQ7 FXa7 FXd7 FM17 FM28 HB7
        clear hb9 hw9
        go_loopw [15] (fun i wr => ∃ k : Nat, k ≤ lpl ∧ i = .int .i64 k ∧ Below w9.heap.size w9 wr) (fun i _ => lpl - (intOf i).toNat)
        case atStart => exact ⟨0, Nat.zero_le _, rfl, Below.refl _ _⟩
        case round =>
          obtain ⟨k, hk, rfl, hBk⟩ := hrel
          by_cases hlt : k < lpl
          · obtain ⟨bp, op, rfl, hcp⟩ : ∃ bp op, lp = some ⟨bp, op, none⟩ ∧ w9.cell? ⟨bp, op + k, none⟩ = some (.int .u8 (Bt (P[k]'(by have := HPL.out; omega)))) := by
              rcases FP9.out.row.cells with h1 | ⟨bp, op, h1, hc⟩
              · have := HPL.out; rw [h1] at this; simp at this; omega
              · exact ⟨bp, op, h1, hc k (by have := HPL.out; omega)⟩
            obtain ⟨bq, oq, rfl, hcq⟩ : ∃ bq oq, lq = some ⟨bq, oq, none⟩ ∧ w9.cell? ⟨bq, oq + k, none⟩ = some (.int .u8 (Bt (Q[k]'(by have := HQL.out; omega)))) := by
              rcases FQ9.out.row.cells with h1 | ⟨bp, op, h1, hc⟩
              · have := HQL.out; rw [h1] at this; simp at this; omega
              · exact ⟨bp, op, h1, hc k (by have := HQL.out; omega)⟩
            clear hNi hNj
            obtain ⟨j, hj⟩ : ∃ j, 12 + k = j := ⟨_, rfl⟩
            have hjN : j < N := by have := HN.out; omega
            have hcm : w9.cell? ⟨ga, j, none⟩ = some (.int .u8 (Bt (M[j]'(by rw [HML.out]; exact hjN)))) := by
              rcases FM19.out.cells with h1 | ⟨bp, op, h1, hc⟩
              · have := HML.out; rw [h1] at this; simp at this; omega
              · injection h1 with h1; injection h1 with h2 h3; subst h2; subst h3
                have h4 := hc j (by rw [HML.out]; exact hjN)
                rwa [Nat.zero_add] at h4
            have hcm2 : w9.cell? ⟨gc, j, none⟩ = some (.int .u8 (Bt (M2[j]'(by rw [HML2.out]; exact hjN)))) := by
              rcases FM29.out.cells with h1 | ⟨bp, op, h1, hc⟩
              · have := HML2.out; rw [h1] at this; simp at this; omega
              · injection h1 with h1; injection h1 with h2 h3; subst h2; subst h3
                have h4 := hc j (by rw [HML2.out]; exact hjN)
                rwa [Nat.zero_add] at h4
            obtain ⟨m1, hm1⟩ : ∃ m, M[j]'(by rw [HML.out]; exact hjN) = m := ⟨_, rfl⟩
            obtain ⟨m2, hm2⟩ : ∃ m, M2[j]'(by rw [HML2.out]; exact hjN) = m := ⟨_, rfl⟩
            obtain ⟨pk, hpk⟩ : ∃ m, P[k]'(by have := HPL.out; omega) = m := ⟨_, rfl⟩
            obtain ⟨qk, hqk⟩ : ∃ m, Q[k]'(by have := HQL.out; omega) = m := ⟨_, rfl⟩
            have hatk := HAT.out k m1 m2 pk qk hlt (by rw [hj, List.getElem?_eq_getElem (by rw [HML.out]; exact hjN), hm1]) (by rw [hj, List.getElem?_eq_getElem (by rw [HML2.out]; exact hjN), hm2]) (by rw [List.getElem?_eq_getElem (by have := HPL.out; omega), hpk]) (by rw [List.getElem?_eq_getElem (by have := HQL.out; omega), hqk])
            rw [hm1] at hcm
            rw [hm2] at hcm2
            rw [hpk] at hcp
            rw [hqk] at hcq
            have hx1 := Bt_xor m1 m2
            have hx2 := Bt_xor pk qk
            rw [hatk] at hx1
            obtain ⟨c, hc⟩ : ∃ c, Bt (pk ^^^ qk) = c := ⟨_, rfl⟩
            rw [hc] at hx1 hx2
            have cm := ((below_drew1 hBk).cell (block_lt_of_cell hcm)).trans hcm
            have cm2 := ((below_drew1 hBk).cell (block_lt_of_cell hcm2)).trans hcm2
            have cp := ((below_drew1 hBk).cell (block_lt_of_cell hcp)).trans hcp
            have cq := ((below_drew1 hBk).cell (block_lt_of_cell hcq)).trans hcq
            have j1 : (j : Int) < (N : Int) := by omega
            have j2 : ¬ (j : Int) < 0 := by omega
            have k1 : (k : Int) < (lpl : Int) := by omega
            have k2 : (k : Int) < (lql : Int) := by omega
            have k3 : ¬ (k : Int) < 0 := by omega
            have HBK := Lib.hid hBk
            obtain ⟨hji, hjj⟩ := sum12 k j hj (by have := HN200.out; omega)
            clear hBk hm1 hm2 hpk hqk hatk hcm hcm2 hcp hcq hj hc
            go_wp2_with fail
            refine region_tail 20 (by kernel_rfl) (by kernel_rfl) ?_
            simp only [List.take_succ_cons, List.take_zero, List.drop_succ_cons, List.drop_zero]
            still_step
            still_step
            still_step
            still_step
            still_step
            still_step
            still_step
            still_step
            still_step
            still_step
            still_step
            still_step
            still_step
            still_step
            still_step
            still_step
            still_step
            still_step
            still_step
            still_step
            refine wpStill_nil ?_
            go_wp2
            go_roundw
            case rel => exact ⟨k + 1, by omega, by go_num, below_drew1 HBK.out⟩
            case measure => simp [intOf]; omega
          · have HBK := Lib.hid (HB9.out.later hBk (Nat.le_refl _))
            clear hBk
            go_wp2_with (go_at_call 14; with_reducible refine (known_seal _).mono ?_; rintro e w9 ⟨rfl, hb9⟩)
            go_ret
            exact ⟨rfl, HBK.out.later hb9 (Nat.le_refl _)⟩
end Go.Proofs.Ytaaidjncbcildaa
