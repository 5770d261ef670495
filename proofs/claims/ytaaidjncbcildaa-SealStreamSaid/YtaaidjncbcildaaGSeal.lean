/-
  Boxes as bytes. No function is named here.
-/
import Derived.Test.YtaaidjncbcildaaGBase
import Derived.Test.YtaaidjncbcildaaGSum
import Derived.Test.YtaaidjncbcildaaGPair
import Derived.Test.YtaaidjncbcildaaGSign
import Derived.Test.YtaaidjncbcildaaGSumR
import Derived.Laws.OwnMore
namespace Go.Proofs.Ytaaidjncbcildaa
set_option maxRecDepth 100000
open Go.RowKit Pm
set_option linter.unusedVariables false

/-- a stretch of a secret's stream -/
def streamW (s : List UInt8) (j : Nat) : List UInt8 := deriveW s (sb ⟨#[115, 116, 114, 101, 97, 109]⟩) (fourB (j : Int))
theorem streamW_length (s : List UInt8) (j : Nat) : (streamW s j).length = 32 := sumW_length _
/-- bytes xored with the stream -/
def xorW (s p : List UInt8) : List UInt8 := p.mapIdx fun i c => c ^^^ (streamW s (i / 32)).getD (i % 32) 0
theorem xorW_length (s p : List UInt8) : (xorW s p).length = p.length := by simp [xorW]
theorem xorW_get (s p : List UInt8) (i : Nat) (h : i < p.length) : (xorW s p)[i]? = some (p[i] ^^^ (streamW s (i / 32)).getD (i % 32) 0) := by
  simp [xorW, List.getElem?_mapIdx, List.getElem?_eq_getElem h]
theorem xorW_back (s p : List UInt8) : xorW s (xorW s p) = p := by
  refine List.ext_getElem? fun i => ?_
  by_cases h : i < p.length
  · have h2 : i < (xorW s p).length := by rw [xorW_length]; exact h
    rw [xorW_get s (xorW s p) i h2, List.getElem?_eq_getElem h]
    have h3 : (xorW s p)[i] = p[i] ^^^ (streamW s (i / 32)).getD (i % 32) 0 := by
      have h4 := xorW_get s p i h
      rw [List.getElem?_eq_getElem h2] at h4
      exact Option.some.inj h4
    rw [h3, UInt8.xor_assoc, UInt8.xor_self, UInt8.xor_zero]
  · rw [List.getElem?_eq_none (by rw [xorW_length, xorW_length]; omega), List.getElem?_eq_none (by omega)]
/-- what the loop has laid behind so many steps -/
def partX (s p : List UInt8) (k : Nat) : List UInt8 := (xorW s p).take k ++ List.replicate (p.length - k) 0
theorem partX_zero (s p : List UInt8) : partX s p 0 = List.replicate p.length 0 := by simp [partX]
theorem partX_all (s p : List UInt8) : partX s p p.length = xorW s p := by simp [partX, List.take_of_length_le (Nat.le_of_eq (xorW_length s p))]
theorem partX_length (s p : List UInt8) (k : Nat) (h : k ≤ p.length) : (partX s p k).length = p.length := by simp [partX, xorW_length]; omega
theorem partX_set (s p : List UInt8) (k : Nat) (h : k < p.length) : (partX s p k).set k (p[k] ^^^ (streamW s (k / 32)).getD (k % 32) 0) = partX s p (k + 1) := by
  refine List.ext_getElem? fun i => ?_
  have hl : (xorW s p).length = p.length := xorW_length s p
  rw [List.getElem?_set]
  unfold partX
  by_cases hik : k = i
  · subst hik
    rw [if_pos rfl, if_pos (by simp [hl]; omega)]
    rw [List.getElem?_append_left (by simp [hl]; omega), List.getElem?_take, if_pos (by omega), xorW_get s p k h]
  · rw [if_neg hik]
    by_cases h1 : i < k
    · rw [List.getElem?_append_left (by simp [hl]; omega), List.getElem?_append_left (by simp [hl]; omega), List.getElem?_take, List.getElem?_take, if_pos h1, if_pos (by omega)]
    · rw [List.getElem?_append_right (by simp [hl]; omega), List.getElem?_append_right (by simp [hl]; omega)]
      have e1 : (List.take k (xorW s p)).length = k := by simp [hl]; omega
      have e2 : (List.take (k + 1) (xorW s p)).length = k + 1 := by simp [hl]; omega
      rw [e1, e2, List.getElem?_replicate, List.getElem?_replicate]
      by_cases h2 : i < p.length
      · rw [if_pos (by omega), if_pos (by omega)]
      · rw [if_neg (by omega), if_neg (by omega)]
theorem Bt_xor (a b : UInt8) : bits .xor .u8 (Bt a) (Bt b) = Bt (a ^^^ b) := by
  show IntKind.u8.wrap ((BitVec.ofInt 8 (a.toNat : Int) ^^^ BitVec.ofInt 8 (b.toNat : Int)).toNat : Int) = _
  rw [BitVec.ofInt_natCast, BitVec.ofInt_natCast]
  unfold Bt
  rw [UInt8.toNat_xor, BitVec.toNat_xor, BitVec.toNat_ofNat, BitVec.toNat_ofNat, IntKind.wrap_u8]
  have ha := UInt8.toNat_lt a
  have hb := UInt8.toNat_lt b
  rw [Nat.mod_eq_of_lt (by omega), Nat.mod_eq_of_lt (by omega)]
  have hx : a.toNat ^^^ b.toNat < 2 ^ 8 := Nat.xor_lt_two_pow (by omega) (by omega)
  omega
/-- a box's tag -/
def tagW (s own body : List UInt8) : List UInt8 := (deriveW s (sb ⟨#[116, 97, 103]⟩) (own ++ body)).take 8
theorem tagW_length (s own body : List UInt8) : (tagW s own body).length = 8 := by
  unfold tagW
  rw [List.length_take, show (deriveW s (sb ⟨#[116, 97, 103]⟩) (own ++ body)).length = 32 from sumW_length _]
  rfl
end Go.Proofs.Ytaaidjncbcildaa

/-
  Boxes: the walk of veil.
-/
namespace Go.Proofs.Ytaaidjncbcildaa
set_option maxRecDepth 100000
open Go.RowKit Pm
set_option linter.unusedVariables false
set_option linter.unusedSimpArgs false

/-- the stretch that the loop holds behind so many steps -/
def heldW (s : List UInt8) (k : Nat) : List UInt8 := if k = 0 then List.replicate 32 0 else streamW s ((k - 1) / 32)
theorem heldW_length (s : List UInt8) (k : Nat) : (heldW s k).length = 32 := by
  unfold heldW
  split
  · rfl
  · exact streamW_length _ _
theorem heldW_same (s : List UInt8) (k : Nat) (h : ¬ k % 32 = 0) : heldW s k = streamW s (k / 32) := by
  unfold heldW
  rw [if_neg (by omega), show (k - 1) / 32 = k / 32 by omega]
theorem heldW_next (s : List UInt8) (k : Nat) : heldW s (k + 1) = streamW s (k / 32) := by
  unfold heldW
  rw [if_neg (by omega), Nat.add_sub_cancel]

theorem derive_stream (s : List UInt8) (hs : s.length = 32) (j : Nat) (g : Nat) (w : World) (t q : TypeId) (hF : Blk w g (HC (fourB (j : Int))) t) :
    Calls Try.prog 42 #[HV s, .string ⟨#[115, 116, 114, 101, 97, 109]⟩, .slice (some ⟨w.heap.size, 0, none⟩) 1 1] (w.alloc (.cells #[.slice (some ⟨g, 0, none⟩) 4 4] q)) fun e w' => e = .returned (HV (streamW s j)) ∧ Below (w.alloc (.cells #[.slice (some ⟨g, 0, none⟩) 4 4] q)).heap.size (w.alloc (.cells #[.slice (some ⟨g, 0, none⟩) 4 4] q)) w' := by
  have e1 : [fourB (j : Int)].flatten = fourB (j : Int) := by simp
  have hr : Row8 w (some ⟨g, 0, none⟩) 4 (fourB (j : Int)) := Row8.ofBlk hF (by simp [maxLen, fourB]) 4 rfl
  have hR : RowR (w.alloc (.cells #[.slice (some ⟨g, 0, none⟩) 4 4] q)) (some ⟨w.heap.size, 0, none⟩) 1 [fourB (j : Int)] := RowR.one hr
  have h := derive_any s hs ⟨#[115, 116, 114, 101, 97, 109]⟩ (by decide) _ 1 1 [fourB (j : Int)] _ hR
  rw [e1] at h
  exact h

theorem tdiv32 (k : Nat) : Int.tdiv (k : Int) 32 = ((k / 32 : Nat) : Int) := by rw [Int.tdiv_eq_ediv_of_nonneg (by omega)]; omega
theorem tmod32 (k : Nat) : Int.tmod (k : Int) 32 = ((k % 32 : Nat) : Int) := by rw [Int.tmod_eq_emod_of_nonneg (by omega)]; omega
theorem derive_row (s : List UInt8) (hs : s.length = 32) (j : Nat) (g : Nat) (w : World) (hR : RowR w (some ⟨g, 0, none⟩) 1 [fourB (j : Int)]) :
    Calls Try.prog 42 #[HV s, .string ⟨#[115, 116, 114, 101, 97, 109]⟩, .slice (some ⟨g, 0, none⟩) 1 1] w fun e w' => e = .returned (HV (streamW s j)) ∧ Below w.heap.size w w' := by
  have e1 : [fourB (j : Int)].flatten = fourB (j : Int) := by simp
  have h := derive_any s hs ⟨#[115, 116, 114, 101, 97, 109]⟩ (by decide) _ 1 1 [fourB (j : Int)] _ hR
  rw [e1] at h
  exact h

set_option maxHeartbeats 2000000 in
theorem veil_any (s : List UInt8) (hs : s.length = 32) (a : Option Addr) (l c : Nat) (p : List UInt8) (w : World) (hp : Row8 w a l p) (hsm : p.length ≤ 100000) :
    Calls Try.prog 25 #[HV s, .slice a l c] w fun e w' => ∃ Q, e = .returned (.slice (some ⟨Q, 0, none⟩) p.length p.length) ∧ w.heap.size ≤ Q ∧ Blk w' Q (HC (xorW s p)) 5 ∧ Below w.heap.size w w' := by
  obtain ⟨i8, hi8, hz8, hs8, hb8⟩ := info_parts info8
  have hlen := hp.len_eq
  subst hlen
  have hsz : (Try.prog.info? 23).map (·.size) = some (HC s).size := by rw [HC_size, hs]; kernel_rfl
  have HP := Lib.hid hp; have HH := Lib.hid hs; have S1 := Lib.hid hsz
  clear hp hs hsz
  unfold HV
  go_enter Try.func25, Try.ntmps25
  have hX0 : Blk (w.alloc (.cells (HC s) 23)) w.heap.size (HC s) 23 := Blk.new w _ _
  have HX0 := Lib.hid hX0
  clear hX0
  go_wp2_with (at_make
               refine wpList_make_full _ rfl _ _ 24 rfl (w.heap.size + 1) 5 i8 (.int .u8 0) 1 Try.underlying24 hi8 hz8 hs8 _ _ _ _ p.length rfl rfl rfl rfl ?m1 ?m2 ?m3 ?_
               case m1 => rw [hb8]; omega
               case m2 => simp only [maxLen]; omega
               case m3 => simp
               intro w1 hown hg1
               rw [made8] at hown
               have hX1 := blk_of_own hown
               rw [size_alloc] at hX1
               have hB1 : Below w.heap.size w w1 := ((Below.refl _ w).next (Nat.le_refl _) _).grown hg1 (by simp) (fun k hk => by cases hk)
               have hS1 : Blk w1 w.heap.size (HC s) 23 := (hg1.block w.heap.size (by simp) (fun h => by cases h)).trans HX0.out
               have HQ1 := Lib.hid hX1; have HB1 := Lib.hid hB1; have HS1 := Lib.hid hS1; have HP1 := Lib.hid (HP.out.below hB1)
               clear hown hg1 hX1 hB1 hS1)
  have hZ2 : Blk (w1.alloc (.cells zeros32 23)) w1.heap.size (HC (heldW s 0)) 23 := Blk.new w1 _ _
  have hQ2 := HQ1.out.alloc (.cells zeros32 23)
  have hS2 := HS1.out.alloc (.cells zeros32 23)
  have hB2 := HB1.out.next (Nat.le_refl _) (.cells zeros32 23)
  have hltQ := HQ1.out.lt
  generalize hz : w1.heap.size = Z at hZ2 hltQ ⊢
  have HZ2 := Lib.hid hZ2; have HQ2 := Lib.hid hQ2; have HS2_ := Lib.hid hS2; have HB2 := Lib.hid hB2
  clear hZ2 hQ2 hS2 hB2
  go_loopw [7, 8, 14] (fun _ _ i wr => ∃ k : Nat, k ≤ p.length ∧ i = .int .i64 k ∧ Blk wr (w.heap.size + 1) (HC (partX s p k)) 5 ∧ Blk wr Z (HC (heldW s k)) 23 ∧ Blk wr w.heap.size (HC s) 23 ∧ Below w.heap.size w wr) (fun _ _ i _ => p.length - (intOf i).toNat)
  case atStart => exact ⟨0, Nat.zero_le _, rfl, by rw [partX_zero]; exact HQ2.out, HZ2.out, HS2_.out, HB2.out⟩
  case round =>
    obtain ⟨k, hk, rfl, hQ, hZ, hS, hB⟩ := hrel
    by_cases hlt : k < p.length
    · obtain ⟨b0, off, rfl, hcell⟩ : ∃ b0 off, a = some ⟨b0, off, none⟩ ∧ w.cell? ⟨b0, off + k, none⟩ = some (.int .u8 (Bt p[k])) := by
        rcases HP.out.cells with h1 | ⟨b0, off, rfl, hc⟩
        · subst h1; simp at hlt
        · exact ⟨b0, off, rfl, hc k hlt⟩
      obtain ⟨J, hJ⟩ : ∃ J, k / 32 = J := ⟨_, rfl⟩
      obtain ⟨R, hR⟩ : ∃ R, k % 32 = R := ⟨_, rfl⟩
      obtain ⟨st, hst⟩ : ∃ st, streamW s J = st := ⟨_, rfl⟩
      have hstl : st.length = 32 := by rw [← hst]; exact streamW_length _ _
      have hR32 : R < 32 := by omega
      have hquo : Int.tdiv (k : Int) 32 = (J : Int) := by rw [tdiv32, hJ]
      have hwJ : RowKit.wrap64 (J : Int) = (J : Int) := IntWalk.wrap64_in _ (by omega)
      have hrem : Int.tmod (k : Int) 32 = (R : Int) := by rw [tmod32, hR]
      have hs1 : (Try.prog.info? 23).map (·.size) = some (HC st).size := by rw [HC_size, hstl]; kernel_rfl
      have hs2 : (HC (heldW s k)).size = (HC st).size := by rw [HC_size, HC_size, hstl, heldW_length]
      have hS2 : w.heap.size + 2 ≤ wr.heap.size := by have := hZ.lt; omega
      have HE := Lib.hid hcell; have HST := Lib.hid hst; have HSTL := Lib.hid hstl; have ST1 := Lib.hid hs1; have ST2 := Lib.hid hs2; have HS2 := Lib.hid hS2; have HJJ := Lib.hid hJ; have HRM := Lib.hid hR
      have HQ := Lib.hid hQ; have HZ := Lib.hid hZ; have HS := Lib.hid hS; have HB := Lib.hid hB
      have cE0 := (hB.cell (block_lt_of_cell hcell)).trans hcell
      clear hQ hZ hS hB hcell hst hstl hs1 hs2 hS2 hJ hR HQ1 HB1 HS1 HP1 HQ2 HZ2 HS2_ HB2 HX0
      by_cases hm : R = 0
      · subst hm
        go_wp2_with fail
        refine region_muts [23] (w.heap.size + 2) HS2.out (fun S vals w' => keyMut Z 23 6 (HC (heldW s k)) (HC st) S w') [isV 0 (HV s), isV 1 (.int .i64 k), isV 2 (.int .i64 J), litV (w.heap.size + 2) 3 4 (fourB J) 5, rowOf 4 (fourB J) 5 24, isV 5 (HV st), isV 6 undef]
          [[], [], [1], [2], [3], [0, 4], [5]] [some 22, some 23, some 24, some 25, some 26, some 27, none] _ (by kernel_rfl) (by kernel_rfl) (by kernel_rfl) (by kernel_rfl) (by kernel_rfl) rfl ?_ ?_ ?_ ?_
        · repeat (first | exact stT_nil | refine stT_cons (by first | exact stT_is _ _ | exact stT_as _ _ | exact stT_any | exact stT_lit _ _ _ _ _ (by decide) | exact stT_rowOf _ _ _ _ (by decide) (by decide)) ?_)
        · exact keyMut.start HZ.out
        · intro hgz
          refine ⟨?_, ?_, ?_, ?_, ?_, ?_, ?_, trivial⟩ <;> intro S vals w1 hb hSi hdn hcl hG hf <;> obtain ⟨hb, hz⟩ := hgz w1 hb <;> simp [leans, factsOf, phi, sel_lit, sel_rowOf, isV, asV, anyV, sel] at hf <;> simp [putD, phi, Act.put]
          · -- 0 load 
            refine wpList_load_row rfl 23 _ rfl _ rfl 23 (HC s) (0, 0) _ (HS.out.below hb.below (by omega)) Try.underlying23 rfl S1.out ?_
            exact ⟨rfl, rfl, .refl _ _ _, mk_is rfl, hG.keep 0 (by decide) (Below.refl _ _)⟩
          · -- 1 move 
            go_wp2
            exact ⟨rfl, rfl, .refl _ _ _, mk_is rfl, hG.keep 1 (by decide) (Below.refl _ _)⟩
          · -- 2 binOp 
            simp only [hf]; clear hf
            go_wp2
            exact ⟨rfl, rfl, .refl _ _ _, mk_is (congrArg (Value.int .i64) hwJ), hG.keep 2 (by decide) (Below.refl _ _)⟩
          · -- 3 call curia/pair.Four 
            simp only [hf]; clear hf
            go_wp2_with (first | (go_at_call 24; refine (four_any J _).mono ?_; rintro e w' ⟨rfl, hw'⟩; have hb' : Below w1.heap.size w1 w' := (by rw [hw']; exact (Below.refl _ _).next (Nat.le_refl _) _); have hl' := Lib.hid (show w'.heap[w1.heap.size]? = some (.cells (HC (fourB J)) 5 (0, 0)) from (by rw [hw']; exact heap_alloc_new _ _)); clear hw'))
            exact ⟨rfl, rfl, GrowsT.of hb' hz, mk_lit w1.heap.size (0, 0) hz rfl hl'.out, hG.keep 3 (by decide) hb'⟩
          · -- 4 buildSlice 
            obtain ⟨g3, fr3, hg3, e3, hblk3⟩ := hf
            simp only [e3]
            have HBL := Lib.hid hblk3
            clear hblk3
            go_wp2
            have hgr : Below w1.heap.size w1 (w1.alloc (.cells #[.slice (some ⟨g3, 0, none⟩) 4 4] 24)) := (Below.refl _ _).next (Nat.le_refl _) _
            exact ⟨rfl, rfl, GrowsT.of hgr hz, mk_rowOf w1.heap.size g3 (0, 0) fr3 rfl (heap_alloc_new _ _) ((hgr.block g3 (Array.getElem?_eq_some_iff.1 HBL.out).1).trans HBL.out), hG.keep 4 (by decide) hgr⟩
          · -- 5 call curia/sponge.Derive 
            obtain ⟨e0, g4, q4, fr4, fq4, e4, hbl4, hrw4⟩ := hf
            simp only [e0, e4]
            have HRW := Lib.hid (rowOf.rows hbl4 rfl hrw4 (by simp [fourB]))
            clear hbl4 hrw4
            go_wp2_with (first | (go_at_call 42; refine (derive_row s HH.out J _ _ HRW.out).mono ?_; rintro e w' ⟨rfl, hb'⟩; rw [HST.out]))
            exact ⟨rfl, rfl, GrowsT.of hb' hz, mk_is rfl, hG.keep 5 (by decide) hb'⟩
          · -- 6 store
            simp only [hf]
            have HZ4 := Lib.hid (hG.ahead hSi)
            refine wpList_store_row rfl 23 _ _ rfl Z (HC st) rfl rfl 23 (HC (heldW s k)) HZ4.out ST1.out ST2.out (HC_one _) ?_
            have hgr : GrowsT [23] (w.heap.size + 2) w1 (w1.setRow Z (HC st)) := GrowsT.grown HZ4.out (by decide) (grown_setRow (grown_refl w1 _) _ (.inr rfl)) (by omega) hz
            exact ⟨rfl, rfl, hgr, rfl, keyMut.mark (HZ4.out.setRow _)⟩
        · intro vals w1 hb hG hf; simp [leans, List.range, List.range.loop, factsOf, phi, sel_lit, sel_rowOf, isV, asV, anyV, sel] at hf; simp [putD, List.range, List.range.loop, Act.put, hf]
          have hZ3 := hG.behind (by simp)
          have HZ3 := Lib.hid hZ3; have HQ3 := Lib.hid (HQ.out.below hb.below (by omega)); have HS3 := Lib.hid (HS.out.below hb.below (by omega)); have HB3 := Lib.hid (HB.out.trans (hb.below.mono (by omega)))
          clear hG hb hf hZ3 cE0
          obtain ⟨x, hxe⟩ : ∃ x, st.getD 0 0 = x := ⟨_, rfl⟩
          have cE := (HB3.out.cell (block_lt_of_cell HE.out)).trans HE.out
          have cZ : w1.cell? ⟨Z, 0, none⟩ = some (.int .u8 (Bt x)) := by
            have h := (HZ3.out.cell 0).trans (HC_get_lt st 0 (by rw [HSTL.out]; omega))
            rw [h, ← hxe, List.getD_eq_getElem?_getD, List.getElem?_eq_getElem (by rw [HSTL.out]; omega)]; rfl
          have cQ : ∃ v, w1.cell? ⟨w.heap.size + 1, k, none⟩ = some v := ⟨_, (HQ3.out.cell k).trans (HC_get_lt _ k (by rw [partX_length _ _ _ hk]; exact hlt))⟩
          obtain ⟨vq, cQ⟩ := cQ
          have fQ := HQ3.out.frozen k
          have hx := Bt_xor p[k] x
          have HXE := Lib.hid hxe
          clear hxe
          go_wp2
          go_roundw
          case rel =>
            refine ⟨k + 1, by omega, by go_num, ?_, ?_, HS3.out.other _ _ (by simp), HB3.out.setCell (by simp) _⟩
            · refine (HQ3.out.set k _).copy ?_
              rw [HC_set, ← HXE.out, ← HST.out, ← HJJ.out]
              rw [show (0 : Nat) = k % 32 from HRM.out.symm, partX_set s p k hlt]
            · rw [heldW_next, HJJ.out, HST.out]; exact HZ3.out.other _ _ (by simp; omega)
          case measure => simp [intOf]; omega
      · have hm' : ¬ (R : Int) = 0 := by omega
        have hZ3 : Blk wr Z (HC st) 23 := by
          have h := HZ.out
          rw [heldW_same s k (by have := HRM.out; omega), HJJ.out, HST.out] at h
          exact h
        have HZ3 := Lib.hid hZ3
        clear hZ3 cE0
        obtain ⟨x, hxe⟩ : ∃ x, st.getD R 0 = x := ⟨_, rfl⟩
        have cE := (HB.out.cell (block_lt_of_cell HE.out)).trans HE.out
        have cZ : wr.cell? ⟨Z, R, none⟩ = some (.int .u8 (Bt x)) := by
          have h := (HZ3.out.cell R).trans (HC_get_lt st R (by rw [HSTL.out]; omega))
          rw [h, ← hxe, List.getD_eq_getElem?_getD, List.getElem?_eq_getElem (by rw [HSTL.out]; omega)]; rfl
        have cQ : ∃ v, wr.cell? ⟨w.heap.size + 1, k, none⟩ = some v := ⟨_, (HQ.out.cell k).trans (HC_get_lt _ k (by rw [partX_length _ _ _ hk]; exact hlt))⟩
        obtain ⟨vq, cQ⟩ := cQ
        have fQ := HQ.out.frozen k
        have hx := Bt_xor p[k] x
        have HXE := Lib.hid hxe
        clear hxe
        go_wp2
        go_roundw
        case rel =>
          refine ⟨k + 1, by omega, by go_num, ?_, ?_, HS.out.other _ _ (by simp), HB.out.setCell (by simp) _⟩
          · refine (HQ.out.set k _).copy ?_
            rw [HC_set, ← HXE.out, ← HST.out, ← HJJ.out]
            rw [show R = k % 32 from HRM.out.symm, partX_set s p k hlt]
          · rw [heldW_next, HJJ.out, HST.out]; exact HZ3.out.other _ _ (by simp; omega)
        case measure => simp [intOf]; omega
    · have hkl : k = p.length := by omega
      subst hkl
      rw [partX_all] at hQ
      have HQ := Lib.hid hQ; have HB := Lib.hid hB
      clear hQ hZ hS hB HQ1 HB1 HS1 HP1 HQ2 HZ2 HS2_ HB2 HX0
      go_wp2
      go_ret
      exact ⟨w.heap.size + 1, rfl, by omega, HQ.out, HB.out⟩
end Go.Proofs.Ytaaidjncbcildaa

/-
  Boxes: the walk of the document's mix.
-/
namespace Go.Proofs.Ytaaidjncbcildaa
set_option maxRecDepth 100000
open Go.RowKit Pm
set_option linter.unusedVariables false
set_option linter.unusedSimpArgs false

theorem rderive_stream (s : List UInt8) (hs : s.length = 32) (j : Nat) (g : Nat) (w : World) (hR : Row8 w (some ⟨g, 0, none⟩) 4 (fourB (j : Int))) :
    Calls Try.prog 44 #[HV s, .string ⟨#[115, 116, 114, 101, 97, 109]⟩, .slice (some ⟨g, 0, none⟩) 4 4] w fun e w' => e = .returned (HV (streamW s j)) ∧ Below w.heap.size w w' :=
  rderive_any s hs ⟨#[115, 116, 114, 101, 97, 109]⟩ _ 4 4 (fourB (j : Int)) w hR (fun h => by cases h) (by simp [fourB, ByteArray.size])
theorem take_xorW (s p : List UInt8) (k : Nat) (h : k < p.length) : (xorW s p).take (k + 1) = (xorW s p).take k ++ [p[k] ^^^ (streamW s (k / 32)).getD (k % 32) 0] := by
  have h2 : k < (xorW s p).length := by rw [xorW_length]; exact h
  rw [List.take_succ_eq_append_getElem h2]
  have h4 := xorW_get s p k h
  rw [List.getElem?_eq_getElem h2] at h4
  rw [Option.some.inj h4]
set_option maxRecDepth 100000 in
set_option maxHeartbeats 2000000 in
theorem rmix_any (s : List UInt8) (hs : s.length = 32) (a : Option Addr) (l c : Nat) (p : List UInt8) (w : World) (hp : Row8 w a l p) (hsm : p.length ≤ 100000) :
    Calls Try.prog 29 #[HV s, .slice a l c] w fun e w' => ∃ v, e = .returned v ∧ Own8 w' w.heap.size 5 v (xorW s p) ∧ Below w.heap.size w w' := by
  have hlen := hp.len_eq
  subst hlen
  have hsz : (Try.prog.info? 23).map (·.size) = some (HC s).size := by rw [HC_size, hs]; kernel_rfl
  have hX0 : Blk ((w.alloc (.cells (HC s) 23)).alloc (.cells zeros32 23)) w.heap.size (HC s) 23 := (Blk.new w _ _).alloc _
  have hZ0 : Blk ((w.alloc (.cells (HC s) 23)).alloc (.cells zeros32 23)) (w.heap.size + 1) (HC (heldW s 0)) 23 := Blk.newAt _ _ (by simp)
  have hB0 : Below w.heap.size w ((w.alloc (.cells (HC s) 23)).alloc (.cells zeros32 23)) := ((Below.refl _ _).next (Nat.le_refl _) _).next (Nat.le_refl _) _
  have HP := Lib.hid hp; have HH := Lib.hid hs; have S1 := Lib.hid hsz; have HX0 := Lib.hid hX0; have HZ0 := Lib.hid hZ0; have HB0 := Lib.hid hB0
  clear hp hs hsz hX0 hZ0 hB0
  unfold HV
  go_enter Try.func29, Try.ntmps29
  go_wp2_with (refine wpList_store_row rfl 23 _ _ rfl (w.heap.size + 1) zeros32 rfl rfl 23 zeros32 HZ0.out zsize rfl zone ?_
               refine wpl_gen (fun w1 hw1 => ?_)
               have hX1 : Blk w1 w.heap.size (HC s) 23 := by rw [hw1]; exact HX0.out.otherRow _ (by simp)
               have hZ1 : Blk w1 (w.heap.size + 1) (HC (heldW s 0)) 23 := by rw [hw1]; exact HZ0.out.setRow _
               have hB1 : Below w.heap.size w w1 := by rw [hw1]; exact below_setRow HB0.out _ (by omega)
               have HX1 := Lib.hid hX1; have HZ1 := Lib.hid hZ1; have HB1 := Lib.hid hB1
               clear hw1 hX1 hZ1 hB1 HX0 HZ0 HB0)
  go_loopw [5, 7] (fun u i wr => ∃ k : Nat, k ≤ p.length ∧ i = .int .i64 k ∧ Own8 wr (w.heap.size + 2) 5 u ((xorW s p).take k) ∧ Blk wr (w.heap.size + 1) (HC (heldW s k)) 23 ∧ Blk wr w.heap.size (HC s) 23 ∧ Below w.heap.size w wr) (fun _ i _ => p.length - (intOf i).toNat)
  case atStart => exact ⟨0, Nat.zero_le _, rfl, World.ownsRow_nil _ _ _ _, HZ1.out, HX1.out, HB1.out⟩
  case round =>
    obtain ⟨k, hk, rfl, hO, hZ, hS, hB⟩ := hrel
    obtain ⟨Z, hzz⟩ : ∃ Z, w.heap.size + 1 = Z := ⟨_, rfl⟩
    rw [hzz] at hZ
    rw [show (w.heap.size + 1 : Nat) = Z from hzz]
    have hZB : Z < w.heap.size + 2 := by omega
    by_cases hlt : k < p.length
    · skip
      obtain ⟨b0, off, rfl, hcell⟩ : ∃ b0 off, a = some ⟨b0, off, none⟩ ∧ w.cell? ⟨b0, off + k, none⟩ = some (.int .u8 (Bt p[k])) := by
        rcases HP.out.cells with h1 | ⟨b0, off, rfl, hc⟩
        · subst h1; simp at hlt
        · exact ⟨b0, off, rfl, hc k hlt⟩
      obtain ⟨J, hJ⟩ : ∃ J, k / 32 = J := ⟨_, rfl⟩
      obtain ⟨R, hR⟩ : ∃ R, k % 32 = R := ⟨_, rfl⟩
      obtain ⟨st, hst⟩ : ∃ st, streamW s J = st := ⟨_, rfl⟩
      have hstl : st.length = 32 := by rw [← hst]; exact streamW_length _ _
      have hR32 : R < 32 := by omega
      have hquo : Int.tdiv (k : Int) 32 = (J : Int) := by rw [tdiv32, hJ]
      have hwJ : RowKit.wrap64 (J : Int) = (J : Int) := IntWalk.wrap64_in _ (by omega)
      have hrem : Int.tmod (k : Int) 32 = (R : Int) := by rw [tmod32, hR]
      have hs1 : (Try.prog.info? 23).map (·.size) = some (HC st).size := by rw [HC_size, hstl]; kernel_rfl
      have hs2 : (HC (heldW s k)).size = (HC st).size := by rw [HC_size, HC_size, hstl, heldW_length]
      have hS2 : w.heap.size + 1 ≤ wr.heap.size := by have := hZ.lt; omega
      have HE := Lib.hid hcell; have HST := Lib.hid hst; have HSTL := Lib.hid hstl; have ST1 := Lib.hid hs1; have ST2 := Lib.hid hs2; have HS2 := Lib.hid hS2; have HJJ := Lib.hid hJ; have HRM := Lib.hid hR
      have HO := Lib.hid hO; have HZ := Lib.hid hZ; have HS := Lib.hid hS; have HB := Lib.hid hB
      clear hO hZ hS hB hcell hst hstl hs1 hs2 hS2 hJ hR
      by_cases hm : R = 0
      · have hrem0 : Int.tmod (k : Int) 32 = 0 := by rw [hrem, hm]; rfl
        have HM0 := Lib.hid hm
        clear hrem hm
        go_wp2_with fail
        refine region_muts [23] (w.heap.size + 1) HS2.out (fun S vals w' => keyMut Z 23 5 (HC (heldW s k)) (HC st) S w' ∧ Own8 w' (w.heap.size + 2) 5 u5 ((xorW s p).take k)) [isV 0 (HV s), isV 1 (.int .i64 k), isV 2 (.int .i64 J), litV (w.heap.size + 1) 3 4 (fourB J) 5, isV 4 (HV st), isV 5 undef]
          [[], [], [1], [2], [0, 3], [4]] [some 18, some 19, some 20, some 21, some 22, none] _ (by kernel_rfl) (by kernel_rfl) (by kernel_rfl) (by kernel_rfl) (by kernel_rfl) rfl ?_ ?_ ?_ ?_
        · repeat (first | exact stT_nil | refine stT_cons (by first | exact stT_is _ _ | exact stT_as _ _ | exact stT_any | exact stT_lit _ _ _ _ _ (by decide) | exact stT_rowOf _ _ _ _ (by decide) (by decide)) ?_)
        · exact ⟨keyMut.start HZ.out, HO.out⟩
        · intro hgz
          refine ⟨?_, ?_, ?_, ?_, ?_, ?_, trivial⟩ <;> intro S vals w1 hb hSi hdn hcl hG hf <;> obtain ⟨hb, hz⟩ := hgz w1 hb <;> simp [leans, factsOf, phi, sel_lit, sel_rowOf, isV, asV, anyV, sel] at hf <;> simp [putD, phi, Act.put]
          · -- 0 load 
            refine wpList_load_row rfl 23 _ rfl _ rfl 23 (HC s) (0, 0) _ (HS.out.below hb.below (by omega)) Try.underlying23 rfl S1.out ?_
            exact ⟨rfl, rfl, .refl _ _ _, mk_is rfl, ⟨hG.1.keep 0 (by decide) (Below.refl _ _), hG.2.below (Below.refl _ _)⟩⟩
          · -- 1 move 
            go_wp2
            exact ⟨rfl, rfl, .refl _ _ _, mk_is rfl, ⟨hG.1.keep 1 (by decide) (Below.refl _ _), hG.2.below (Below.refl _ _)⟩⟩
          · -- 2 binOp 
            simp only [hf]; clear hf
            go_wp2
            exact ⟨rfl, rfl, .refl _ _ _, mk_is (congrArg (Value.int .i64) hwJ), ⟨hG.1.keep 2 (by decide) (Below.refl _ _), hG.2.below (Below.refl _ _)⟩⟩
          · -- 3 call curia/curiaref3.Four 
            simp only [hf]; clear hf
            go_wp2_with (first | (go_at_call 21; refine (rfour_any J _).mono ?_; rintro e w' ⟨rfl, hw'⟩; have hb' : Below w1.heap.size w1 w' := (by rw [hw']; exact (Below.refl _ _).next (Nat.le_refl _) _); have hl' := Lib.hid (show w'.heap[w1.heap.size]? = some (.cells (HC (fourB J)) 5 (0, 0)) from (by rw [hw']; exact heap_alloc_new _ _)); clear hw'))
            exact ⟨rfl, rfl, GrowsT.of hb' hz, mk_lit w1.heap.size (0, 0) hz rfl hl'.out, ⟨hG.1.keep 3 (by decide) hb', hG.2.below hb'⟩⟩
          · -- 4 call curia/curiaref1.Derive 
            obtain ⟨e0, g3, fr3, hg3, e3, hblk3⟩ := hf
            simp only [e0, e3]
            have HRW := Lib.hid (Row8.ofCells hblk3 rfl (by simp [fourB, maxLen]))
            clear hblk3
            go_wp2_with (first | (go_at_call 44; refine (rderive_stream s HH.out J _ _ HRW.out).mono ?_; rintro e w' ⟨rfl, hb'⟩; rw [HST.out]))
            exact ⟨rfl, rfl, GrowsT.of hb' hz, mk_is rfl, ⟨hG.1.keep 4 (by decide) hb', hG.2.below hb'⟩⟩
          · -- 5 store
            simp only [hf]
            have HZ4 := Lib.hid (hG.1.ahead hSi)
            refine wpList_store_row rfl 23 _ _ rfl Z (HC st) rfl rfl 23 (HC (heldW s k)) HZ4.out ST1.out ST2.out (HC_one _) ?_
            have hgr : GrowsT [23] (w.heap.size + 1) w1 (w1.setRow Z (HC st)) := GrowsT.grown HZ4.out (by decide) (grown_setRow (grown_refl w1 _) _ (.inr rfl)) (by omega) hz
            exact ⟨rfl, rfl, hgr, rfl, ⟨keyMut.mark (HZ4.out.setRow _), hG.2.kept (grown_setRow (grown_refl w1 _) _ (.inr rfl)) (hG.2.apart (by omega))⟩⟩
        · intro vals w1 hb hG hf; simp [leans, List.range, List.range.loop, factsOf, phi, sel_lit, sel_rowOf, isV, asV, anyV, sel] at hf; simp [putD, List.range, List.range.loop, Act.put, hf]
          have hZ3 := hG.1.behind (by simp)
          have hO3 := hG.2
          have hrem : Int.tmod (k : Int) 32 = (R : Int) := by rw [HM0.out, hrem0]; rfl
          clear hrem0
          have HZ3 := Lib.hid hZ3; have HO := Lib.hid hO3; have HS3_ := Lib.hid (HS.out.below hb.below (by omega)); have HB3 := Lib.hid (HB.out.trans (hb.below.mono (by omega)))
          clear hG hb hf hZ3 hO3
          obtain ⟨x, hxe⟩ : ∃ x, st.getD R 0 = x := ⟨_, rfl⟩
          have hxr : (HC st)[R]? = some (.int .u8 (Bt x)) := by
            rw [HC_get_lt st R (by rw [HSTL.out]; omega), ← hxe, List.getD_eq_getElem?_getD, List.getElem?_eq_getElem (by rw [HSTL.out]; omega)]; rfl
          have hx := Bt_xor p[k] x
          have hs3 : w.heap.size + 2 ≤ w1.heap.size := by have := HZ3.out.lt; omega
          have HXR := Lib.hid hxr; have HXE := Lib.hid hxe; have HS3 := Lib.hid hs3
          clear hxr hxe hs3
          go_wp2_with fail
          refine region_muts [5] (w.heap.size + 2) HS3.out (fun S vals w' => ownAt (w.heap.size + 2) 5 11 u5 ((xorW s p).take k) ((xorW s p).take k ++ [p[k] ^^^ x]) S vals w' ∧ tmpAt 10 11 1 [p[k] ^^^ x] S vals w') [isV 0 u5, isV 1 (.slice (some ⟨b0, off, none⟩) p.length c), isV 2 (.int .i64 k), isV 3 (.pointer (some ⟨b0, off + k, none⟩)), isV 4 (.int .u8 (Bt p[k])), isV 5 (.int .i64 k), isV 6 (.int .i64 R), isV 7 (.pointer (some ⟨Z, R, none⟩)), isV 8 (.int .u8 (Bt x)), isV 9 (.int .u8 (Bt (p[k] ^^^ x))), anyV, anyV, asV 12 11]
            [[], [], [], [1, 2], [3], [], [5], [6], [7], [4, 8], [9], [0, 10], [0, 11]] [some 23, some 24, some 25, some 26, some 27, some 28, some 29, some 30, some 31, some 32, some 33, some 34, some 5] _ (by kernel_rfl) (by kernel_rfl) (by kernel_rfl) (by kernel_rfl) (by kernel_rfl) rfl ?_ ?_ ?_ ?_
          · repeat (first | exact stT_nil | refine stT_cons (by first | exact stT_is _ _ | exact stT_as _ _ | exact stT_any | exact stT_lit _ _ _ _ _ (by decide) | exact stT_rowOf _ _ _ _ (by decide) (by decide)) ?_)
          · exact ⟨ownAt.start HO.out, tmpAt.start _ _ _ _ _ _⟩
          · intro hgz
            refine ⟨?_, ?_, ?_, ?_, ?_, ?_, ?_, ?_, ?_, ?_, ?_, ?_, ?_, trivial⟩ <;> intro S vals w1 hb hSi hdn hcl hG hf <;> obtain ⟨hb, hz⟩ := hgz w1 hb <;> simp [leans, factsOf, phi, sel_lit, sel_rowOf, isV, asV, anyV, sel] at hf <;> simp [putD, phi, Act.put]
            · -- 0 move 
              go_wp2
              exact ⟨rfl, rfl, .refl _ _ _, mk_is rfl, ⟨hG.1.keep _ 0 (by decide) (Below.refl _ _), hG.2.keep _ 0 (by decide) (by decide) (Below.refl _ _)⟩⟩
            · -- 1 move 
              go_wp2
              exact ⟨rfl, rfl, .refl _ _ _, mk_is rfl, ⟨hG.1.keep _ 1 (by decide) (Below.refl _ _), hG.2.keep _ 1 (by decide) (by decide) (Below.refl _ _)⟩⟩
            · -- 2 move 
              go_wp2
              exact ⟨rfl, rfl, .refl _ _ _, mk_is rfl, ⟨hG.1.keep _ 2 (by decide) (Below.refl _ _), hG.2.keep _ 2 (by decide) (by decide) (Below.refl _ _)⟩⟩
            · -- 3 indexAddr 
              simp only [hf]; clear hf
              go_wp2
              exact ⟨rfl, rfl, .refl _ _ _, mk_is rfl, ⟨hG.1.keep _ 3 (by decide) (Below.refl _ _), hG.2.keep _ 3 (by decide) (by decide) (Below.refl _ _)⟩⟩
            · -- 4 load 
              simp only [hf]; clear hf
              have c4 := ((HB3.out.trans (hb.below.mono (by omega))).cell (block_lt_of_cell HE.out)).trans HE.out
              go_wp2
              exact ⟨rfl, rfl, .refl _ _ _, mk_is rfl, ⟨hG.1.keep _ 4 (by decide) (Below.refl _ _), hG.2.keep _ 4 (by decide) (by decide) (Below.refl _ _)⟩⟩
            · -- 5 move 
              go_wp2
              exact ⟨rfl, rfl, .refl _ _ _, mk_is rfl, ⟨hG.1.keep _ 5 (by decide) (Below.refl _ _), hG.2.keep _ 5 (by decide) (by decide) (Below.refl _ _)⟩⟩
            · -- 6 binOp 
              simp only [hf]; clear hf
              go_wp2
              exact ⟨rfl, rfl, .refl _ _ _, mk_is rfl, ⟨hG.1.keep _ 6 (by decide) (Below.refl _ _), hG.2.keep _ 6 (by decide) (by decide) (Below.refl _ _)⟩⟩
            · -- 7 indexAddr 
              simp only [hf]; clear hf
              go_wp2
              exact ⟨rfl, rfl, .refl _ _ _, mk_is rfl, ⟨hG.1.keep _ 7 (by decide) (Below.refl _ _), hG.2.keep _ 7 (by decide) (by decide) (Below.refl _ _)⟩⟩
            · -- 8 load 
              simp only [hf]; clear hf
              have c8 := ((HZ3.out.below hb.below (by omega)).cell R).trans HXR.out
              go_wp2
              exact ⟨rfl, rfl, .refl _ _ _, mk_is rfl, ⟨hG.1.keep _ 8 (by decide) (Below.refl _ _), hG.2.keep _ 8 (by decide) (by decide) (Below.refl _ _)⟩⟩
            · -- 9 binOp 
              simp only [hf]; clear hf
              go_wp2
              exact ⟨rfl, rfl, .refl _ _ _, mk_is rfl, ⟨hG.1.keep _ 9 (by decide) (Below.refl _ _), hG.2.keep _ 9 (by decide) (by decide) (Below.refl _ _)⟩⟩
            · -- 10 buildSlice
              simp only [hf]; clear hf
              go_wp2
              have hgr : Below w1.heap.size w1 (w1.alloc (.cells (HC [p[k] ^^^ x]) 5)) := (Below.refl _ _).next (Nat.le_refl _) _
              exact ⟨rfl, rfl, GrowsT.of hgr hz, mk_any, ⟨hG.1.keep _ 10 (by decide) hgr, tmpAt.new w1.heap.size (Row8.litAt [p[k] ^^^ x] _ rfl rfl rfl (by simp [maxLen]))⟩⟩
            · -- 11 append
              have hown := hG.1.1 hSi
              obtain ⟨g, hv10, hrw⟩ := hG.2 (hdn 10 (by decide)) hSi
              simp only [hf, hv10]
              refine wpList_append8 rfl (.tmp 23) (.tmp 33) 24 rfl (w.heap.size + 2) 5 Try.underlying24 info8 u5 ((xorW s p).take k) rfl hown _ _ _ [p[k] ^^^ x] rfl hrw (fun h => by cases h) (by rw [List.length_take]; simp only [List.length_cons, List.length_nil]; omega) hz ?_
              intro v3 w3 hown3 hg3 hb3
              exact ⟨rfl, rfl, GrowsT.append hown (by decide) hg3 hb3, mk_any, ⟨ownAt.mark hown3, tmpAt.done _⟩⟩
            · -- 12 assign 
              go_wp2
              exact ⟨rfl, rfl, .refl _ _ _, mk_as rfl (by decide) (by decide), ⟨hG.1.keep _ 12 (by decide) (Below.refl _ _), hG.2.keep _ 12 (by decide) (by decide) (Below.refl _ _)⟩⟩
          · intro vals w1 hb hG hf; simp [leans, List.range, List.range.loop, factsOf, phi, sel_lit, sel_rowOf, isV, asV, anyV, sel] at hf; simp [putD, List.range, List.range.loop, Act.put, hf]
            have hown := hG.1.2 (by simp)
            generalize vals 11 = u2 at hown ⊢
            have HO3 := Lib.hid hown; have HZ5 := Lib.hid (HZ3.out.below hb.below (by omega)); have HS5 := Lib.hid (HS3_.out.below hb.below (by omega)); have HB5 := Lib.hid (HB3.out.trans (hb.below.mono (by omega)))
            clear hown hG hb hf
            go_wp2
            go_roundw
            case rel =>
              refine ⟨k + 1, by omega, by go_num, ?_, ?_, HS5.out, HB5.out⟩
              · rw [take_xorW s p k hlt, HJJ.out, HST.out, HRM.out, HXE.out]; exact HO3.out
              · rw [heldW_next, HJJ.out, HST.out]; exact HZ5.out
            case measure => simp [intOf]; omega
      · have hm' : ¬ (R : Int) = 0 := by omega
        have hZ3 : Blk wr Z (HC st) 23 := by
          have h := HZ.out
          rw [heldW_same s k (by have := HRM.out; omega), HJJ.out, HST.out] at h
          exact h
        have HZ3 := Lib.hid hZ3
        clear hZ3
        obtain ⟨x, hxe⟩ : ∃ x, st.getD R 0 = x := ⟨_, rfl⟩
        have hxr : (HC st)[R]? = some (.int .u8 (Bt x)) := by
          rw [HC_get_lt st R (by rw [HSTL.out]; omega), ← hxe, List.getD_eq_getElem?_getD, List.getElem?_eq_getElem (by rw [HSTL.out]; omega)]; rfl
        have hx := Bt_xor p[k] x
        have hs3 : w.heap.size + 2 ≤ wr.heap.size := by have := HZ3.out.lt; omega
        have HXR := Lib.hid hxr; have HXE := Lib.hid hxe; have HS3 := Lib.hid hs3
        clear hxr hxe hs3
        go_wp2_with fail
        refine region_muts [5] (w.heap.size + 2) HS3.out (fun S vals w' => ownAt (w.heap.size + 2) 5 11 u5 ((xorW s p).take k) ((xorW s p).take k ++ [p[k] ^^^ x]) S vals w' ∧ tmpAt 10 11 1 [p[k] ^^^ x] S vals w') [isV 0 u5, isV 1 (.slice (some ⟨b0, off, none⟩) p.length c), isV 2 (.int .i64 k), isV 3 (.pointer (some ⟨b0, off + k, none⟩)), isV 4 (.int .u8 (Bt p[k])), isV 5 (.int .i64 k), isV 6 (.int .i64 R), isV 7 (.pointer (some ⟨Z, R, none⟩)), isV 8 (.int .u8 (Bt x)), isV 9 (.int .u8 (Bt (p[k] ^^^ x))), anyV, anyV, asV 12 11]
          [[], [], [], [1, 2], [3], [], [5], [6], [7], [4, 8], [9], [0, 10], [0, 11]] [some 23, some 24, some 25, some 26, some 27, some 28, some 29, some 30, some 31, some 32, some 33, some 34, some 5] _ (by kernel_rfl) (by kernel_rfl) (by kernel_rfl) (by kernel_rfl) (by kernel_rfl) rfl ?_ ?_ ?_ ?_
        · repeat (first | exact stT_nil | refine stT_cons (by first | exact stT_is _ _ | exact stT_as _ _ | exact stT_any | exact stT_lit _ _ _ _ _ (by decide) | exact stT_rowOf _ _ _ _ (by decide) (by decide)) ?_)
        · exact ⟨ownAt.start HO.out, tmpAt.start _ _ _ _ _ _⟩
        · intro hgz
          refine ⟨?_, ?_, ?_, ?_, ?_, ?_, ?_, ?_, ?_, ?_, ?_, ?_, ?_, trivial⟩ <;> intro S vals w1 hb hSi hdn hcl hG hf <;> obtain ⟨hb, hz⟩ := hgz w1 hb <;> simp [leans, factsOf, phi, sel_lit, sel_rowOf, isV, asV, anyV, sel] at hf <;> simp [putD, phi, Act.put]
          · -- 0 move 
            go_wp2
            exact ⟨rfl, rfl, .refl _ _ _, mk_is rfl, ⟨hG.1.keep _ 0 (by decide) (Below.refl _ _), hG.2.keep _ 0 (by decide) (by decide) (Below.refl _ _)⟩⟩
          · -- 1 move 
            go_wp2
            exact ⟨rfl, rfl, .refl _ _ _, mk_is rfl, ⟨hG.1.keep _ 1 (by decide) (Below.refl _ _), hG.2.keep _ 1 (by decide) (by decide) (Below.refl _ _)⟩⟩
          · -- 2 move 
            go_wp2
            exact ⟨rfl, rfl, .refl _ _ _, mk_is rfl, ⟨hG.1.keep _ 2 (by decide) (Below.refl _ _), hG.2.keep _ 2 (by decide) (by decide) (Below.refl _ _)⟩⟩
          · -- 3 indexAddr 
            simp only [hf]; clear hf
            go_wp2
            exact ⟨rfl, rfl, .refl _ _ _, mk_is rfl, ⟨hG.1.keep _ 3 (by decide) (Below.refl _ _), hG.2.keep _ 3 (by decide) (by decide) (Below.refl _ _)⟩⟩
          · -- 4 load 
            simp only [hf]; clear hf
            have c4 := ((HB.out.trans (hb.below.mono (by omega))).cell (block_lt_of_cell HE.out)).trans HE.out
            go_wp2
            exact ⟨rfl, rfl, .refl _ _ _, mk_is rfl, ⟨hG.1.keep _ 4 (by decide) (Below.refl _ _), hG.2.keep _ 4 (by decide) (by decide) (Below.refl _ _)⟩⟩
          · -- 5 move 
            go_wp2
            exact ⟨rfl, rfl, .refl _ _ _, mk_is rfl, ⟨hG.1.keep _ 5 (by decide) (Below.refl _ _), hG.2.keep _ 5 (by decide) (by decide) (Below.refl _ _)⟩⟩
          · -- 6 binOp 
            simp only [hf]; clear hf
            go_wp2
            exact ⟨rfl, rfl, .refl _ _ _, mk_is rfl, ⟨hG.1.keep _ 6 (by decide) (Below.refl _ _), hG.2.keep _ 6 (by decide) (by decide) (Below.refl _ _)⟩⟩
          · -- 7 indexAddr 
            simp only [hf]; clear hf
            go_wp2
            exact ⟨rfl, rfl, .refl _ _ _, mk_is rfl, ⟨hG.1.keep _ 7 (by decide) (Below.refl _ _), hG.2.keep _ 7 (by decide) (by decide) (Below.refl _ _)⟩⟩
          · -- 8 load 
            simp only [hf]; clear hf
            have c8 := ((HZ3.out.below hb.below (by omega)).cell R).trans HXR.out
            go_wp2
            exact ⟨rfl, rfl, .refl _ _ _, mk_is rfl, ⟨hG.1.keep _ 8 (by decide) (Below.refl _ _), hG.2.keep _ 8 (by decide) (by decide) (Below.refl _ _)⟩⟩
          · -- 9 binOp 
            simp only [hf]; clear hf
            go_wp2
            exact ⟨rfl, rfl, .refl _ _ _, mk_is rfl, ⟨hG.1.keep _ 9 (by decide) (Below.refl _ _), hG.2.keep _ 9 (by decide) (by decide) (Below.refl _ _)⟩⟩
          · -- 10 buildSlice
            simp only [hf]; clear hf
            go_wp2
            have hgr : Below w1.heap.size w1 (w1.alloc (.cells (HC [p[k] ^^^ x]) 5)) := (Below.refl _ _).next (Nat.le_refl _) _
            exact ⟨rfl, rfl, GrowsT.of hgr hz, mk_any, ⟨hG.1.keep _ 10 (by decide) hgr, tmpAt.new w1.heap.size (Row8.litAt [p[k] ^^^ x] _ rfl rfl rfl (by simp [maxLen]))⟩⟩
          · -- 11 append
            have hown := hG.1.1 hSi
            obtain ⟨g, hv10, hrw⟩ := hG.2 (hdn 10 (by decide)) hSi
            simp only [hf, hv10]
            refine wpList_append8 rfl (.tmp 23) (.tmp 33) 24 rfl (w.heap.size + 2) 5 Try.underlying24 info8 u5 ((xorW s p).take k) rfl hown _ _ _ [p[k] ^^^ x] rfl hrw (fun h => by cases h) (by rw [List.length_take]; simp only [List.length_cons, List.length_nil]; omega) hz ?_
            intro v3 w3 hown3 hg3 hb3
            exact ⟨rfl, rfl, GrowsT.append hown (by decide) hg3 hb3, mk_any, ⟨ownAt.mark hown3, tmpAt.done _⟩⟩
          · -- 12 assign 
            go_wp2
            exact ⟨rfl, rfl, .refl _ _ _, mk_as rfl (by decide) (by decide), ⟨hG.1.keep _ 12 (by decide) (Below.refl _ _), hG.2.keep _ 12 (by decide) (by decide) (Below.refl _ _)⟩⟩
        · intro vals w1 hb hG hf; simp [leans, List.range, List.range.loop, factsOf, phi, sel_lit, sel_rowOf, isV, asV, anyV, sel] at hf; simp [putD, List.range, List.range.loop, Act.put, hf]
          have hown := hG.1.2 (by simp)
          generalize vals 11 = u2 at hown ⊢
          have HO3 := Lib.hid hown; have HZ5 := Lib.hid (HZ3.out.below hb.below (by omega)); have HS5 := Lib.hid (HS.out.below hb.below (by omega)); have HB5 := Lib.hid (HB.out.trans (hb.below.mono (by omega)))
          clear hown hG hb hf
          go_wp2
          go_roundw
          case rel =>
            refine ⟨k + 1, by omega, by go_num, ?_, ?_, HS5.out, HB5.out⟩
            · rw [take_xorW s p k hlt, HJJ.out, HST.out, HRM.out, HXE.out]; exact HO3.out
            · rw [heldW_next, HJJ.out, HST.out]; exact HZ5.out
          case measure => simp [intOf]; omega
    · have hkl : k = p.length := by omega
      subst hkl
      rw [List.take_of_length_le (Nat.le_of_eq (xorW_length s p))] at hO
      have HO := Lib.hid hO; have HB := Lib.hid hB
      clear hO hZ hS hB
      go_wp2
      go_ret
      exact ⟨_, rfl, HO.out.base (by omega), HB.out⟩
end Go.Proofs.Ytaaidjncbcildaa

/-
  Boxes: the walks of tag, number, bytes.Equal.
-/
namespace Go.Proofs.Ytaaidjncbcildaa
set_option maxRecDepth 100000
open Go.RowKit Pm
set_option linter.unusedVariables false
set_option linter.unusedSimpArgs false

theorem equal_any (a : Option Addr) (l c : Nat) (p : List UInt8) (a2 : Option Addr) (l2 c2 : Nat) (q : List UInt8) (w : World) (hp : Row8 w a l p) (hq : Row8 w a2 l2 q) :
    Calls Try.prog 33 #[.slice a l c, .slice a2 l2 c2] w fun e w' => e = .returned (.bool (p == q)) ∧ w = w' := by
  have kS1 := hp.str (P := Try.prog) 24 9 5 c Try.underlying24 Try.underlying5 Try.underlying9
  have kS2 := hq.str (P := Try.prog) 24 9 5 c2 Try.underlying24 Try.underlying5 Try.underlying9
  have e1 : (strB p).toList = p := ByteArray.toList_mk p
  have e2 : (strB q).toList = q := ByteArray.toList_mk q
  clear hp hq
  go_enter Try.func33, Try.ntmps33
  go_wp2
  go_ret
  exact ⟨rfl, rfl⟩

set_option maxHeartbeats 2000000 in
theorem tag_any (s : List UInt8) (hs : s.length = 32) (a : Option Addr) (l c : Nat) (own : List UInt8) (a2 : Option Addr) (l2 c2 : Nat) (body : List UInt8) (w : World) (hp : Row8 w a l own) (hq : Row8 w a2 l2 body) :
    Calls Try.prog 27 #[HV s, .slice a l c, .slice a2 l2 c2] w fun e w' => ∃ Q, e = .returned (.slice (some ⟨Q, 0, none⟩) 8 32) ∧ w.heap.size ≤ Q ∧ Row8 w' (some ⟨Q, 0, none⟩) 8 (tagW s own body) ∧ Below w.heap.size w w' := by
  obtain ⟨d, hd⟩ : ∃ d, deriveW s (sb ⟨#[116, 97, 103]⟩) [own, body].flatten = d := ⟨_, rfl⟩
  have hdl : d.length = 32 := by rw [← hd]; exact sumW_length _
  have htag : tagW s own body = d.take 8 := by unfold tagW; rw [← hd]; simp
  have hsz : (Try.prog.info? 23).map (·.size) = some (HC s).size := by rw [HC_size, hs]; kernel_rfl
  have hsz1 : (Try.prog.info? 23).map (·.size) = some (HC d).size := by rw [HC_size, hdl]; kernel_rfl
  have hsz2 : zeros32.size = (HC d).size := by rw [HC_size, hdl]; rfl
  have hX0 : Blk (w.alloc (.cells (HC s) 23)) w.heap.size (HC s) 23 := Blk.new w _ _
  have hb0 : Below w.heap.size w (w.alloc (.cells (HC s) 23)) := (Below.refl _ _).next (Nat.le_refl _) _
  rw [htag]
  have HX0 := Lib.hid hX0; have HB0 := Lib.hid hb0; have HD := Lib.hid hd; have HDL := Lib.hid hdl; have HH := Lib.hid hs; have S1 := Lib.hid hsz; have SD := Lib.hid hsz1; have SD2 := Lib.hid hsz2; have HP := Lib.hid (hp.below hb0); have HQ := Lib.hid (hq.below hb0)
  clear hX0 hb0 hd hdl hs hsz hsz1 hsz2 hp hq htag
  unfold HV
  go_enter Try.func27, Try.ntmps27
  go_wp2_with (first
    | (refine wpList_load_row rfl 23 _ rfl w.heap.size rfl 23 (HC s) (0, 0) _ HX0.out Try.underlying23 rfl S1.out ?_)
    | (go_at_call 42; refine (derive_any s HH.out ⟨#[116, 97, 103]⟩ (by decide) _ 2 2 [own, body] _ (RowR.twoAt (by simp) HP.out HQ.out)).mono ?_; rintro e w1 ⟨rfl, hb1⟩; rw [HD.out]
       have HB1 := Lib.hid ((HB0.out.next (Nat.le_refl _) _).later hb1 (Nat.le_refl _))
       clear hb1)
    | (refine wpList_store_row rfl 23 _ _ rfl w1.heap.size (HC d) rfl rfl 23 zeros32 (Blk.newAt _ _ rfl) SD.out SD2.out (HC_one _) ?_
       refine wpl_gen (fun w2 hw2 => ?_)
       have hD2 : Blk w2 w1.heap.size (HC d) 23 := by rw [hw2]; exact (Blk.newAt _ _ rfl).setRow _
       have hB2 : Below w.heap.size w w2 := by rw [hw2]; exact below_setRow (HB1.out.next (Nat.le_refl _) _) _ HB1.out.size
       have HD2 := Lib.hid hD2; have HB2 := Lib.hid hB2
       clear hw2 hD2 hB2))
  go_ret
  refine ⟨w1.heap.size, rfl, HB1.out.size, ⟨?_, ?_, .inr ⟨w1.heap.size, 0, rfl, fun i hi => ?_⟩⟩, HB2.out⟩
  · rw [List.length_take, HDL.out]; rfl
  · rw [List.length_take, HDL.out]; decide
  · rw [List.length_take, HDL.out] at hi
    rw [Nat.zero_add, List.getElem_take]
    exact (HD2.out.cell i).trans (HC_get_lt d i (by rw [HDL.out]; omega))
end Go.Proofs.Ytaaidjncbcildaa

/-
  Boxes: the walks of the document's tag, of number, and of Seal, the program's and the document's.
-/
namespace Go.Proofs.Ytaaidjncbcildaa
set_option maxRecDepth 100000
open Go.RowKit Pm
set_option linter.unusedVariables false
set_option linter.unusedSimpArgs false

set_option maxRecDepth 100000 in
set_option maxHeartbeats 2000000 in
theorem rtag_any (s : List UInt8) (hs : s.length = 32) (a : Option Addr) (l c : Nat) (own : List UInt8) (a2 : Option Addr) (l2 c2 : Nat) (body : List UInt8) (w : World) (hp : RowC w a l c own) (hq : RowC w a2 l2 c2 body) (hl : own.length + body.length ≤ 100000) :
    Calls Try.prog 31 #[HV s, .slice a l c, .slice a2 l2 c2] w fun e w' => ∃ v, e = .returned v ∧ Own8 w' w.heap.size 5 v (tagW s own body) ∧ Below w.heap.size w w' := by
  obtain ⟨d, hd⟩ : ∃ d, deriveW s (sb ⟨#[116, 97, 103]⟩) (own ++ body) = d := ⟨_, rfl⟩
  have hdl : d.length = 32 := by rw [← hd]; exact sumW_length _
  have htag : tagW s own body = d.take 8 := by unfold tagW; rw [← hd]
  have hje : [own, body].flatten = own ++ body := by simp
  obtain ⟨m, hm⟩ : ∃ m, own ++ body = m := ⟨_, rfl⟩
  have hjl : [own, body].flatten.length ≤ 140737488354000 := by simp; omega
  have hjs : (⟨#[116, 97, 103]⟩ : ByteArray).size + m.length ≤ 140737488354000 := by rw [← hm, List.length_append]; show 3 + _ ≤ _; omega
  have hsz : (Try.prog.info? 23).map (·.size) = some (HC s).size := by rw [HC_size, hs]; kernel_rfl
  have hsz1 : (Try.prog.info? 23).map (·.size) = some (HC d).size := by rw [HC_size, hdl]; kernel_rfl
  have hsz2 : zeros32.size = (HC d).size := by rw [HC_size, hdl]; rfl
  rw [htag]
  rw [hm] at hd hje
  have hjm : m.length ≤ 1000000 := by rw [← hm, List.length_append]; omega
  have HJM := Lib.hid hjm
  clear hjm
  have HD := Lib.hid hd; have HDL := Lib.hid hdl; have HH := Lib.hid hs; have S1 := Lib.hid hsz; have SD := Lib.hid hsz1; have SD2 := Lib.hid hsz2; have HJE := Lib.hid hje; have HJL := Lib.hid hjl; have HJS := Lib.hid hjs
  clear hd hdl hs hsz hsz1 hsz2 htag hje hjl hjs hl hm
  unfold HV
  go_enter Try.func31, Try.ntmps31
  go_wp2_with fail
  refine wp_gen (fun wr hwr => ?_)
  have hB0 : Below w.heap.size w wr := by rw [hwr]; exact (Below.refl _ _).next (Nat.le_refl _) _
  have hx0 : Blk wr w.heap.size (HC s) 23 := by rw [hwr]; exact Blk.new _ _ _
  have HX0 := Lib.hid hx0; have HP := Lib.hid (hp.below hB0); have HQ := Lib.hid (hq.below hB0)
  clear hwr hx0 hp hq
  refine region_muts [23] _ (Nat.le_refl _) (fun S vals w => tmpF 3 7 (isRowN 2 [own, body]) S vals w ∧ tmpF 4 7 (isBytes m.length (m)) S vals w ∧ newAt wr.heap.size 23 6 7 zeros32 (HC d) S vals w) [isV 0 (HV s), isV 1 (.slice a l c), isV 2 (.slice a2 l2 c2), anyV, anyV, isV 5 (HV d), anyV, isV 7 undef]
    [[], [], [], [1, 2], [3], [0, 4], [], [5, 6]] [some 8, some 9, some 10, some 11, some 12, some 13, some 7, none] _ (by kernel_rfl) (by kernel_rfl) (by kernel_rfl) (by kernel_rfl) (by kernel_rfl) rfl ?_ ?_ ?_ ?_
  · repeat (first | exact stT_nil | refine stT_cons (by first | exact stT_is _ _ | exact stT_as _ _ | exact stT_any | exact stT_lit _ _ _ _ _ (by decide) | exact stT_rowOf _ _ _ _ (by decide) (by decide)) ?_)
  · exact ⟨tmpF.start _ _ _ _ _, tmpF.start _ _ _ _ _, newAt.start _ _ _ _ _ _ _ _⟩
  · intro hgz
    refine ⟨?_, ?_, ?_, ?_, ?_, ?_, ?_, ?_, trivial⟩ <;> intro S vals w1 hb hSi hdn hcl hG hf <;> obtain ⟨hb, hz⟩ := hgz w1 hb <;> simp [leans, factsOf, phi, sel_lit, sel_rowOf, isV, asV, anyV, sel] at hf <;> simp [putD, phi, Act.put]
    · -- 0 load 
      refine wpList_load_row rfl 23 _ rfl _ rfl 23 (HC s) (0, 0) _ (HX0.out.keep hb.below) Try.underlying23 rfl S1.out ?_
      exact ⟨rfl, rfl, .refl _ _ _, mk_is rfl, ⟨hG.1.keep (bm_rowN _ _) _ 0 (by decide) (by decide) (Below.refl _ _), hG.2.1.keep (bm_bytes _ _) _ 0 (by decide) (by decide) (Below.refl _ _), hG.2.2.keep _ 0 (by decide) (by decide) (Below.refl _ _)⟩⟩
    · -- 1 move 
      go_wp2
      exact ⟨rfl, rfl, .refl _ _ _, mk_is rfl, ⟨hG.1.keep (bm_rowN _ _) _ 1 (by decide) (by decide) (Below.refl _ _), hG.2.1.keep (bm_bytes _ _) _ 1 (by decide) (by decide) (Below.refl _ _), hG.2.2.keep _ 1 (by decide) (by decide) (Below.refl _ _)⟩⟩
    · -- 2 move 
      go_wp2
      exact ⟨rfl, rfl, .refl _ _ _, mk_is rfl, ⟨hG.1.keep (bm_rowN _ _) _ 2 (by decide) (by decide) (Below.refl _ _), hG.2.1.keep (bm_bytes _ _) _ 2 (by decide) (by decide) (Below.refl _ _), hG.2.2.keep _ 2 (by decide) (by decide) (Below.refl _ _)⟩⟩
    · -- 3 buildSlice 
      simp only [hf]; clear hf
      go_wp2
      have hb' : Below w1.heap.size w1 (w1.alloc (.cells #[.slice a l c, .slice a2 l2 c2] 24)) := (Below.refl _ _).next (Nat.le_refl _) _
      exact ⟨rfl, rfl, GrowsT.of hb' hz, mk_any, ⟨tmpF.new (⟨_, _, rfl, RowN.two rfl (HP.out.below hb.below) (HQ.out.below hb.below)⟩), hG.2.1.keep (bm_bytes _ _) _ 3 (by decide) (by decide) hb', hG.2.2.keep _ 3 (by decide) (by decide) hb'⟩⟩
    · -- 4 call curia/curiaref1.Join 
      obtain ⟨a3, c3, hv3, hr3⟩ := hG.1.get (hdn 3 (by decide)) (way_not hcl [5] 7 4 (by decide) hSi)
      simp only [hv3]
      have HR3 := Lib.hid hr3; clear hr3
      go_wp2_with (first | (go_at_call 30; refine (rjoin_n _ _ _ [own, body] _ HR3.out HJL.out).mono ?_; rintro e w' ⟨v4, rfl, ho4, hb'⟩; rw [HJE.out] at ho4; obtain ⟨a4, c4, rfl, hc4⟩ := ho4.toC HJM.out; have hr4 := hc4.row; have hn4 := hc4.nil))
      exact ⟨rfl, rfl, GrowsT.of hb' hz, mk_any, ⟨hG.1.keep (bm_rowN _ _) _ 4 (by decide) (by decide) hb', tmpF.new (⟨_, _, rfl, hr4, hn4⟩), hG.2.2.keep _ 4 (by decide) (by decide) hb'⟩⟩
    · -- 5 call curia/curiaref1.Derive 
      obtain ⟨a4, c4, hv4, hr4, hn4⟩ := hG.2.1.get (hdn 4 (by decide)) (way_not hcl [] 7 5 (by decide) hSi)
      simp only [hf, hv4]
      have HR4 := Lib.hid hr4; clear hr4
      go_wp2_with (first | (go_at_call 44; refine (rderive_any s HH.out ⟨#[116, 97, 103]⟩ _ _ _ m _ HR4.out hn4 HJS.out).mono ?_; rintro e w' ⟨rfl, hb'⟩; rw [HD.out]))
      exact ⟨rfl, rfl, GrowsT.of hb' hz, mk_is rfl, ⟨hG.1.keep (bm_rowN _ _) _ 5 (by decide) (by decide) hb', hG.2.1.keep (bm_bytes _ _) _ 5 (by decide) (by decide) hb', hG.2.2.keep _ 5 (by decide) (by decide) hb'⟩⟩
    · -- 6 alloc 
      go_wp2
      have hgr : Below w1.heap.size w1 (w1.alloc (.cells zeros32 23)) := (Below.refl _ _).next (Nat.le_refl _) _
      exact ⟨rfl, rfl, GrowsT.of hgr hz, mk_any, ⟨hG.1.keep (bm_rowN _ _) _ 6 (by decide) (by decide) hgr, hG.2.1.keep (bm_bytes _ _) _ 6 (by decide) (by decide) hgr, newAt.new w1.heap.size (by decide) (way_not hcl [] 7 6 (by decide) hSi) hz (Blk.new _ _ _)⟩⟩
    · -- 7 store 
      obtain ⟨q', hv4, hq', hb4⟩ := hG.2.2.ahead (hdn 6 (by decide)) hSi
      simp only [hf, hv4]
      have hgr : GrowsT [23] wr.heap.size w1 (w1.setRow q' (HC d)) := GrowsT.grown hb4 (by decide) (grown_setRow (grown_refl w1 _) _ (.inr rfl)) hq' hz
      have hk2 : Blk (w1.setRow q' (HC d)) q' (HC d) 23 := hb4.setRow _
      have HK2 := Lib.hid hk2; have HGR := Lib.hid hgr; have HB4 := Lib.hid hb4
      clear hk2 hgr hb4
      refine wpList_store_row rfl 23 _ _ rfl q' (HC d) rfl rfl 23 zeros32 HB4.out SD.out SD2.out (HC_one _) ?_
      exact ⟨rfl, rfl, HGR.out, rfl, ⟨tmpF.done _, tmpF.done _, newAt.store _ q' (by decide) hv4 hq' HK2.out⟩⟩
  · intro vals w1 hb hG hf; simp [leans, List.range, List.range.loop, factsOf, phi, sel_lit, sel_rowOf, isV, asV, anyV, sel] at hf; simp [putD, List.range, List.range.loop, Act.put, hf]
    obtain ⟨q, hv6, hq0, hq⟩ := hG.2.2.behind (by simp) (by simp)
    simp only [hv6]
    have hB1 := hB0.lift hb.below hB0.size
    have HQK := Lib.hid hq; have HB1 := Lib.hid hB1
    have hrw : Row8 w1 (some ⟨q, 0, none⟩) 8 (d.take 8) := by
      refine ⟨by rw [List.length_take, HDL.out]; rfl, by rw [List.length_take, HDL.out]; decide, .inr ⟨q, 0, rfl, fun i hi => ?_⟩⟩
      rw [List.length_take, HDL.out] at hi
      rw [Nat.zero_add, List.getElem_take]
      exact (hq.cell i).trans (HC_get_lt d i (by rw [HDL.out]; omega))
    have HRW := Lib.hid hrw
    clear hq hB1 hG hb hf hv6 hrw
    go_wp2_with (at_builtin
                 refine wpList_append8 rfl (.tmp 14) (.tmp 15) 24 rfl w1.heap.size 5 Try.underlying24 info8 (.slice (some ⟨w1.heap.size, 0, none⟩) 0 0) [] rfl (Own8.litAt [] _ rfl rfl rfl (Nat.le_refl _) (small8 _ (by simp))) _ _ _ (d.take 8) rfl (HRW.out.below ((Below.refl _ _).next (Nat.le_refl _) _)) (fun e => by cases e) (by rw [List.length_take]; simp; omega) (by simp) ?_
                 intro v2 w2 hown hg hb2
                 have hb3 := ((Below.refl _ w1).next (Nat.le_refl _) (.cells #[] 5)).trans hb2
                 have HO2 := Lib.hid hown; have HB2 := Lib.hid (HB1.out.later hb3 (Nat.le_refl _))
                 clear hown hg hb2 hb3)
    go_ret
    exact ⟨_, rfl, HO2.out.base HB1.out.size, HB2.out⟩

/-- the number that four bytes are -/
def num4 (b : List UInt8) : Int := (numK b : Nat)
theorem numK_four (b : List UInt8) (k : Nat) (hk : k ≤ 4) (hl : b.length = 4) : numK (b.take k) < 256 ^ k := by
  induction k with
  | zero => rw [numK_zero]; decide
  | succ k ih =>
    have h1 := ih (by omega)
    rw [numK_succ b k (by omega)]
    have h2 := UInt8.toNat_lt (b[k]'(by omega))
    have e : (256 : Nat) ^ (k + 1) = 256 ^ k * 256 := Nat.pow_succ ..
    rw [e]
    omega
theorem number_any (a : Option Addr) (l c : Nat) (b : List UInt8) (h4 : b.length = 4) (w : World) (hp : Row8 w a l b) :
    Calls Try.prog 32 #[.slice a l c] w fun e w' => e = .returned (.int .i64 (num4 b)) ∧ w = w' := by
  have hlen := hp.len_eq
  rw [h4] at hlen
  subst hlen
  obtain ⟨g, off, rfl, hc⟩ : ∃ g off, a = some ⟨g, off, none⟩ ∧ ∀ (i : Nat) (h : i < b.length), w.cell? ⟨g, off + i, none⟩ = some (.int .u8 (Bt b[i])) := by
    rcases hp.cells with h1 | h1
    · rw [h1] at h4; cases h4
    · exact h1
  clear hp
  have ht : num4 b = (numK (b.take 4) : Int) := by unfold num4; rw [List.take_of_length_le (by omega)]
  rw [ht]
  have HC0 := Lib.hid hc; have H4 := Lib.hid h4
  clear hc ht
  go_enter Try.func32, Try.ntmps32
  go_wp2
  go_loopw [3, 5, 8] (fun n _ i wr => ∃ k : Nat, k ≤ 4 ∧ i = .int .i64 k ∧ n = .int .i64 (numK (b.take k) : Int) ∧ wr = w) (fun _ _ i _ => 4 - (intOf i).toNat)
  case atStart => exact ⟨0, Nat.zero_le _, rfl, by rw [numK_zero]; rfl, rfl⟩
  case round =>
    obtain ⟨k, hk, rfl, rfl, rfl⟩ := hrel
    by_cases hlt : k < 4
    · obtain ⟨x, hx⟩ : ∃ x, b[k]'(by have := H4.out; omega) = x := ⟨_, rfl⟩
      have cK := HC0.out k (by have := H4.out; omega)
      rw [hx] at cK
      have hlim := numK_four b k (by omega) H4.out
      have hp4 : 256 ^ k ≤ 256 ^ 3 := Nat.pow_le_pow_right (by decide) (by omega)
      have e3 : (256 : Nat) ^ 3 = 16777216 := by decide
      rw [e3] at hp4
      obtain ⟨N, hN⟩ : ∃ N, numK (b.take k) = N := ⟨_, rfl⟩
      rw [hN] at hlim ⊢
      have hN2 : N < 16777216 := by omega
      have hxb := UInt8.toNat_lt x
      have hor : bits .or .i64 ((N : Int) * 256) (Bt x) = ((N * 256 + x.toNat : Nat) : Int) := or_join N x.toNat hxb (by omega)
      have hsucc : numK (b.take (k + 1)) = N * 256 + x.toNat := by rw [numK_succ b k (by have := H4.out; omega), hN, hx]
      have hw1 : IntKind.i64.wrap ((N : Int) * 256) = (N : Int) * 256 := IntWalk.i64_in _ (by omega)
      have hxb2 := Bt_bd x
      have hw2 : IntKind.i64.wrap (Bt x) = Bt x := IntWalk.i64_in _ (by omega)
      have HSC := Lib.hid hsucc
      clear hx hN hsucc e3 hp4 hlim
      go_wp2
      go_roundw
      case rel => exact ⟨k + 1, by omega, by go_num, by rw [HSC.out]; go_num, by first | trivial | rfl⟩
      case measure => simp [intOf]; omega
    · have hkl : k = 4 := by omega
      subst hkl
      go_wp2
      go_ret
      exact ⟨rfl, rfl⟩

theorem RowC.key {w w' : World} {a : Option Addr} {l c g : Nat} {bs : List UInt8} {s us : Int} {d : Bool} (h : RowC w a l c bs) (hk : Blk w g (CD s d us) 72) (hg : w.grownBy w' (some g)) : RowC w' a l c bs := ⟨h.row.key hk hg, h.nil⟩
/-- a box: to the number y, by the secret x -/
def boxW (y x : Int) (p : List UInt8) : List UInt8 :=
  fourB (powI 4 x) ++ tagW (shW y x) (fourB (powI 4 x)) (xorW (shW y x) p) ++ xorW (shW y x) p
theorem boxW_length (y x : Int) (p : List UInt8) : (boxW y x p).length = 12 + p.length := by
  unfold boxW
  rw [List.length_append, List.length_append, tagW_length, xorW_length]
  show 4 + 8 + _ = _
  omega
def sealOk (y : Int) (p : List UInt8) : Bool := isI y && decide (p.length ≤ 200)
def sealB (y x : Int) (p : List UInt8) : List UInt8 := if sealOk y p then boxW y x p else []
def sealE (y : Int) (p : List UInt8) : Int := if sealOk y p then 0 else 1

set_option maxRecDepth 100000 in
set_option maxHeartbeats 4000000 in
theorem seal_any (y : Int) (dr : List UInt8) (hd : dr.length = 32) (a : Option Addr) (l c : Nat) (p : List UInt8) (w : World) (hp : RowC w a l c p) (hlen : p.length ≤ 140737488351232) :
    Calls Try.prog 12 #[.int .i64 y, HV dr, .slice a l c] w fun e w' => ∃ v, e = .returned (.tuple #[v, .int .i64 (sealE y p)]) ∧ Own8 w' w.heap.size 5 v (sealB y (keyS dr) p) ∧ Below w.heap.size w w' := by
  obtain ⟨x, hx⟩ : ∃ x, keyS dr = x := ⟨_, rfl⟩
  have hxb := keyS_bd dr
  rw [hx] at hxb ⊢
  have hl := hp.row.len_eq
  subst hl
  rcases hy : isI y with _ | _
  · have h1 : sealOk y p = false := by unfold sealOk; rw [hy]; rfl
    have h2 : sealE y p = 1 := by unfold sealE; rw [h1]; rfl
    have h3 : sealB y x p = [] := by unfold sealB; rw [h1]; rfl
    rw [h2, h3]
    have HY := Lib.hid hy
    clear hy h1 h2 h3 hp hx hxb
    go_enter Try.func12, Try.ntmps12
    go_wp2_with (go_at_call 22; with_reducible refine (is_any y _).mono ?_; rintro e' w' ⟨rfl, rfl⟩; rw [HY.out])
    refine bodyPost_ret (results_tmp2 rfl _ _ _) rfl ?_
    exact ⟨_, rfl, World.ownsRow_nil _ _ _ _, (Below.refl _ _).next (Nat.le_refl _) _⟩
  by_cases h200 : ¬ p.length ≤ 200
  · have h1 : sealOk y p = false := by unfold sealOk; rw [decide_eq_false h200, Bool.and_false]
    have h2 : sealE y p = 1 := by unfold sealE; rw [h1]; rfl
    have h3 : sealB y x p = [] := by unfold sealB; rw [h1]; rfl
    rw [h2, h3]
    have hgt : (p.length : Int) > 200 := by omega
    have HY := Lib.hid hy
    clear hy h1 h2 h3 hp hx hxb
    go_enter Try.func12, Try.ntmps12
    go_wp2_with (go_at_call 22; with_reducible refine (is_any y _).mono ?_; rintro e' w' ⟨rfl, rfl⟩; rw [HY.out])
    refine bodyPost_ret (results_tmp2 rfl _ _ _) rfl ?_
    exact ⟨_, rfl, World.ownsRow_nil _ _ _ _, (Below.refl _ _).next (Nat.le_refl _) _⟩
  have h200 : p.length ≤ 200 := Decidable.not_not.1 h200
  have h1 : sealOk y p = true := by unfold sealOk; rw [hy, decide_eq_true h200]; rfl
  have h2 : sealE y p = 0 := by unfold sealE; rw [h1]; rfl
  have h3 : sealB y x p = boxW y x p := by unfold sealB; rw [h1]; rfl
  rw [h2, h3]
  have hle : ¬ ((p.length : Int) > 200) := by omega
  obtain ⟨S, hS⟩ : ∃ S, shW y x = S := ⟨_, rfl⟩
  have hSl : S.length = 32 := by rw [← hS]; exact shW_length _ _
  obtain ⟨B, hB⟩ : ∃ B, xorW S p = B := ⟨_, rfl⟩
  have hBl : B.length = p.length := by rw [← hB]; exact xorW_length _ _
  obtain ⟨F, hF⟩ : ∃ F, fourB (powI 4 x) = F := ⟨_, rfl⟩
  have hFl : F.length = 4 := by rw [← hF]; rfl
  obtain ⟨T, hT⟩ : ∃ T, tagW S F B = T := ⟨_, rfl⟩
  have hTl : T.length = 8 := by rw [← hT]; exact tagW_length _ _ _
  have hbox : boxW y x p = [F, T, B].flatten := by unfold boxW; rw [hS, hF, hB, hT]; simp
  have hfl : [F, T, B].flatten.length ≤ 140737488354000 := by simp [hFl, hTl, hBl]; omega
  have hszd : (Try.prog.info? 23).map (·.size) = some (HC dr).size := by rw [HC_size, hd]; kernel_rfl
  have hszS : (Try.prog.info? 23).map (·.size) = some (HC S).size := by rw [HC_size, hSl]; kernel_rfl
  have hszS2 : zeros32.size = (HC S).size := by rw [HC_size, hSl]; rfl
  rw [hbox]
  have HY := Lib.hid hy; have HX := Lib.hid hx; have HXB := Lib.hid hxb; have HS := Lib.hid hS; have HSL := Lib.hid hSl; have HB_ := Lib.hid hB; have HBL := Lib.hid hBl; have HF := Lib.hid hF; have HFL := Lib.hid hFl; have HT := Lib.hid hT; have HTL := Lib.hid hTl; have HFL2 := Lib.hid hfl; have SD := Lib.hid hszd; have S1 := Lib.hid hszS; have S2 := Lib.hid hszS2; have HD := Lib.hid hd; have H200 := Lib.hid h200
  clear hy hx hxb hS hSl hB hBl hF hFl hT hTl hbox hfl hszd hszS hszS2 hd h1 h2 h3
  have hX0 : Blk (w.alloc (.cells (HC dr) 23)) w.heap.size (HC dr) 23 := Blk.new w _ _
  have HX0 := Lib.hid hX0
  have HP := Lib.hid hp
  clear hX0 hp
  unfold HV
  go_enter Try.func12, Try.ntmps12
  go_wp2_with (first
    | (go_at_call 22; with_reducible refine (is_any y _).mono ?_; rintro e' w' ⟨rfl, rfl⟩; rw [HY.out])
    | (refine wpList_load_row rfl 23 _ rfl w.heap.size rfl 23 (HC dr) (0, 0) _ HX0.out Try.underlying23 rfl SD.out ?_))
  refine calls_gen (fun w1 hw1 => ?_)
  have hb1 : Below w.heap.size w w1 := by rw [hw1]; (first | exact Below.refl _ _ | exact (Below.refl _ _).next (Nat.le_refl _) _ | exact ((Below.refl _ _).next (Nat.le_refl _) _).next (Nat.le_refl _) _ | exact (((Below.refl _ _).next (Nat.le_refl _) _).next (Nat.le_refl _) _).next (Nat.le_refl _) _ | exact ((((Below.refl _ _).next (Nat.le_refl _) _).next (Nat.le_refl _) _).next (Nat.le_refl _) _).next (Nat.le_refl _) _ | exact below_drew1 (Below.refl _ _) | exact below_drew1 ((Below.refl _ _).next (Nat.le_refl _) _) | exact below_drew1 (((Below.refl _ _).next (Nat.le_refl _) _).next (Nat.le_refl _) _))
  have FP1 : Hid (RowC w1 a p.length c p) := Lib.hid (HP.out.below hb1)
  have HB1 : Hid (Below w.heap.size w w1) := Lib.hid (hb1)
  clear HP
  clear hb1 hw1
  have HZ1 : Hid (w.heap.size ≤ w1.heap.size) := Lib.hid HB1.out.size
  refine (from_k dr HD.out _).mono ?_
  rintro e w2 ⟨g2, rfl, hgl2, hk2, hb2⟩
  rw [HX.out] at hk2
  have FP2 : Hid (RowC w2 a p.length c p) := Lib.hid (FP1.out.below hb2)
  have HB2 : Hid (Below w.heap.size w w2) := Lib.hid (HB1.out.later hb2 (Nat.le_refl _))
  clear FP1 HB1
  clear hb2
  have FK2 : Hid (Blk w2 g2 (CD x false 0) 72) := Lib.hid (hk2)
  have HGL : Hid (w.heap.size ≤ g2) := Lib.hid (Nat.le_trans HZ1.out hgl2)
  clear hk2 hgl2 HZ1
  go_wp2_with fail
  refine calls_gen (fun w3 hw3 => ?_)
  have hb3 : Below w2.heap.size w2 w3 := by rw [hw3]; (first | exact Below.refl _ _ | exact (Below.refl _ _).next (Nat.le_refl _) _ | exact ((Below.refl _ _).next (Nat.le_refl _) _).next (Nat.le_refl _) _ | exact (((Below.refl _ _).next (Nat.le_refl _) _).next (Nat.le_refl _) _).next (Nat.le_refl _) _ | exact ((((Below.refl _ _).next (Nat.le_refl _) _).next (Nat.le_refl _) _).next (Nat.le_refl _) _).next (Nat.le_refl _) _ | exact below_drew1 (Below.refl _ _) | exact below_drew1 ((Below.refl _ _).next (Nat.le_refl _) _) | exact below_drew1 (((Below.refl _ _).next (Nat.le_refl _) _).next (Nat.le_refl _) _))
  have FP3 : Hid (RowC w3 a p.length c p) := Lib.hid (FP2.out.below hb3)
  have FK3 : Hid (Blk w3 g2 (CD x false 0) 72) := Lib.hid (FK2.out.keep hb3)
  have HB3 : Hid (Below w.heap.size w w3) := Lib.hid (HB2.out.later hb3 (Nat.le_refl _))
  clear FP2 FK2 HB2
  clear hb3 hw3
  refine (shared_st g2 x 0 y false (by decide) _ FK3.out).mono ?_
  rintro e w4 ⟨rfl, hk4, hg4⟩
  rw [HS.out, HY.out]
  have FP4 : Hid (RowC w4 a p.length c p) := Lib.hid (FP3.out.key FK3.out hg4)
  have FK4 : Hid (Blk w4 g2 (CD x false (0 + cnt (isI y))) 72) := Lib.hid hk4
  have HB4 : Hid (Below w.heap.size w w4) := Lib.hid (below_grown HB3.out hg4 HGL.out HB3.out.size)
  clear FP3 FK3 HB3 hk4 hg4
  have HKL := Lib.hid FK4.out.lt
  go_wp2_with (first
    | (refine wpList_store_row rfl 23 _ _ rfl (w4.heap.size) (HC S) rfl rfl 23 zeros32 (Blk.newAt _ _ rfl) S1.out S2.out (HC_one _) ?_
       refine wpl_gen (fun w5 hw5 => ?_)
       have hb5 : Below w4.heap.size w4 w5 := by rw [hw5]; exact below_setRow ((Below.refl _ _).next (Nat.le_refl _) _) _ (Nat.le_refl _)
       have hq5 : Blk w5 (w4.heap.size) (HC S) 23 := by rw [hw5]; exact (Blk.newAt _ _ rfl).setRow _
       clear hw5
       have FP5 : Hid (RowC w5 a p.length c p) := Lib.hid (FP4.out.below hb5)
       have FK5 : Hid (Blk w5 g2 (CD x false (0 + cnt (isI y))) 72) := Lib.hid (FK4.out.keep hb5)
       have HB5 : Hid (Below w.heap.size w w5) := Lib.hid (HB4.out.later hb5 (Nat.le_refl _))
       clear FP4 FK4 HB4
       have FS5 : Hid (Blk w5 (w4.heap.size) (HC S) 23) := Lib.hid (hq5)
       clear hb5 hq5))
  have HNE : Hid (w4.heap.size ≠ g2) := Lib.hid (by have := HKL.out; omega)
  go_wp2_with fail
  refine calls_gen (fun w6 hw6 => ?_)
  have hb6 : Below w5.heap.size w5 w6 := by rw [hw6]; (first | exact Below.refl _ _ | exact (Below.refl _ _).next (Nat.le_refl _) _ | exact ((Below.refl _ _).next (Nat.le_refl _) _).next (Nat.le_refl _) _ | exact (((Below.refl _ _).next (Nat.le_refl _) _).next (Nat.le_refl _) _).next (Nat.le_refl _) _ | exact ((((Below.refl _ _).next (Nat.le_refl _) _).next (Nat.le_refl _) _).next (Nat.le_refl _) _).next (Nat.le_refl _) _ | exact below_drew1 (Below.refl _ _) | exact below_drew1 ((Below.refl _ _).next (Nat.le_refl _) _) | exact below_drew1 (((Below.refl _ _).next (Nat.le_refl _) _).next (Nat.le_refl _) _))
  have FP6 : Hid (RowC w6 a p.length c p) := Lib.hid (FP5.out.below hb6)
  have FK6 : Hid (Blk w6 g2 (CD x false (0 + cnt (isI y))) 72) := Lib.hid (FK5.out.keep hb6)
  have FS6 : Hid (Blk w6 (w4.heap.size) (HC S) 23) := Lib.hid (FS5.out.keep hb6)
  have HB6 : Hid (Below w.heap.size w w6) := Lib.hid (HB5.out.later hb6 (Nat.le_refl _))
  clear FP5 FK5 FS5 HB5
  clear hb6 hw6
  refine (public_st g2 x (0 + cnt (isI y)) false ⟨by have := HXB.out; omega, HXB.out.2⟩ _ FK6.out).mono ?_
  rintro e w7 ⟨rfl, hk7, hg7⟩
  have FP7 : Hid (RowC w7 a p.length c p) := Lib.hid (FP6.out.key FK6.out hg7)
  have FK7 : Hid (Blk w7 g2 (CD x true (0 + cnt (isI y))) 72) := Lib.hid hk7
  have FS7 : Hid (Blk w7 (w4.heap.size) (HC S) 23) := Lib.hid (FS6.out.grown hg7 HNE.out)
  have HB7 : Hid (Below w.heap.size w w7) := Lib.hid (below_grown HB6.out hg7 HGL.out HB6.out.size)
  clear FP6 FS6 FK6 HB6 hk7 hg7
  go_wp2_with fail
  refine calls_gen (fun w8 hw8 => ?_)
  have hb8 : Below w7.heap.size w7 w8 := by rw [hw8]; (first | exact Below.refl _ _ | exact (Below.refl _ _).next (Nat.le_refl _) _ | exact ((Below.refl _ _).next (Nat.le_refl _) _).next (Nat.le_refl _) _ | exact (((Below.refl _ _).next (Nat.le_refl _) _).next (Nat.le_refl _) _).next (Nat.le_refl _) _ | exact ((((Below.refl _ _).next (Nat.le_refl _) _).next (Nat.le_refl _) _).next (Nat.le_refl _) _).next (Nat.le_refl _) _ | exact below_drew1 (Below.refl _ _) | exact below_drew1 ((Below.refl _ _).next (Nat.le_refl _) _) | exact below_drew1 (((Below.refl _ _).next (Nat.le_refl _) _).next (Nat.le_refl _) _))
  have FP8 : Hid (RowC w8 a p.length c p) := Lib.hid (FP7.out.below hb8)
  have FK8 : Hid (Blk w8 g2 (CD x true (0 + cnt (isI y))) 72) := Lib.hid (FK7.out.keep hb8)
  have FS8 : Hid (Blk w8 (w4.heap.size) (HC S) 23) := Lib.hid (FS7.out.keep hb8)
  have HB8 : Hid (Below w.heap.size w w8) := Lib.hid (HB7.out.later hb8 (Nat.le_refl _))
  clear FP7 FK7 FS7 HB7
  clear hb8 hw8
  refine (four_b (powI 4 x) _).mono ?_
  rintro e w9 ⟨rfl, hF9, hb9⟩
  rw [HF.out] at hF9
  have FP9 : Hid (RowC w9 a p.length c p) := Lib.hid (FP8.out.below hb9)
  have FK9 : Hid (Blk w9 g2 (CD x true (0 + cnt (isI y))) 72) := Lib.hid (FK8.out.keep hb9)
  have FS9 : Hid (Blk w9 (w4.heap.size) (HC S) 23) := Lib.hid (FS8.out.keep hb9)
  have HB9 : Hid (Below w.heap.size w w9) := Lib.hid (HB8.out.later hb9 (Nat.le_refl _))
  clear FP8 FK8 FS8 HB8
  clear hb9
  have FF9 : Hid (Blk w9 w8.heap.size (HC F) 5) := Lib.hid (hF9)
  go_wp2_with (first
    | (refine wpList_load_row rfl 23 _ rfl w4.heap.size rfl 23 (HC S) (0, 0) _ FS9.out Try.underlying23 rfl S1.out ?_))
  refine calls_gen (fun w10 hw10 => ?_)
  have hb10 : Below w9.heap.size w9 w10 := by rw [hw10]; (first | exact Below.refl _ _ | exact (Below.refl _ _).next (Nat.le_refl _) _ | exact ((Below.refl _ _).next (Nat.le_refl _) _).next (Nat.le_refl _) _ | exact (((Below.refl _ _).next (Nat.le_refl _) _).next (Nat.le_refl _) _).next (Nat.le_refl _) _ | exact ((((Below.refl _ _).next (Nat.le_refl _) _).next (Nat.le_refl _) _).next (Nat.le_refl _) _).next (Nat.le_refl _) _ | exact below_drew1 (Below.refl _ _) | exact below_drew1 ((Below.refl _ _).next (Nat.le_refl _) _) | exact below_drew1 (((Below.refl _ _).next (Nat.le_refl _) _).next (Nat.le_refl _) _))
  have FP10 : Hid (RowC w10 a p.length c p) := Lib.hid (FP9.out.below hb10)
  have FK10 : Hid (Blk w10 g2 (CD x true (0 + cnt (isI y))) 72) := Lib.hid (FK9.out.keep hb10)
  have FS10 : Hid (Blk w10 (w4.heap.size) (HC S) 23) := Lib.hid (FS9.out.keep hb10)
  have FF10 : Hid (Blk w10 w8.heap.size (HC F) 5) := Lib.hid (FF9.out.keep hb10)
  have HB10 : Hid (Below w.heap.size w w10) := Lib.hid (HB9.out.later hb10 (Nat.le_refl _))
  clear FP9 FK9 FS9 FF9 HB9
  clear hb10 hw10
  refine (veil_any S HSL.out a p.length c p _ FP10.out.row (by have := H200.out; omega)).mono ?_
  rintro e w11 ⟨Q11, rfl, hQ11, hk11, hb11⟩
  rw [HB_.out] at hk11
  have FP11 : Hid (RowC w11 a p.length c p) := Lib.hid (FP10.out.below hb11)
  have FK11 : Hid (Blk w11 g2 (CD x true (0 + cnt (isI y))) 72) := Lib.hid (FK10.out.keep hb11)
  have FS11 : Hid (Blk w11 (w4.heap.size) (HC S) 23) := Lib.hid (FS10.out.keep hb11)
  have FF11 : Hid (Blk w11 w8.heap.size (HC F) 5) := Lib.hid (FF10.out.keep hb11)
  have HB11 : Hid (Below w.heap.size w w11) := Lib.hid (HB10.out.later hb11 (Nat.le_refl _))
  clear FP10 FK10 FS10 FF10 HB10
  clear hb11
  have FB11 : Hid (Blk w11 Q11 (HC B) 5) := Lib.hid (hk11)
  go_wp2_with (first
    | (refine wpList_load_row rfl 23 _ rfl w4.heap.size rfl 23 (HC S) (0, 0) _ FS11.out Try.underlying23 rfl S1.out ?_))
  refine calls_gen (fun w12 hw12 => ?_)
  have hb12 : Below w11.heap.size w11 w12 := by rw [hw12]; (first | exact Below.refl _ _ | exact (Below.refl _ _).next (Nat.le_refl _) _ | exact ((Below.refl _ _).next (Nat.le_refl _) _).next (Nat.le_refl _) _ | exact (((Below.refl _ _).next (Nat.le_refl _) _).next (Nat.le_refl _) _).next (Nat.le_refl _) _ | exact ((((Below.refl _ _).next (Nat.le_refl _) _).next (Nat.le_refl _) _).next (Nat.le_refl _) _).next (Nat.le_refl _) _ | exact below_drew1 (Below.refl _ _) | exact below_drew1 ((Below.refl _ _).next (Nat.le_refl _) _) | exact below_drew1 (((Below.refl _ _).next (Nat.le_refl _) _).next (Nat.le_refl _) _))
  have FP12 : Hid (RowC w12 a p.length c p) := Lib.hid (FP11.out.below hb12)
  have FK12 : Hid (Blk w12 g2 (CD x true (0 + cnt (isI y))) 72) := Lib.hid (FK11.out.keep hb12)
  have FS12 : Hid (Blk w12 (w4.heap.size) (HC S) 23) := Lib.hid (FS11.out.keep hb12)
  have FF12 : Hid (Blk w12 w8.heap.size (HC F) 5) := Lib.hid (FF11.out.keep hb12)
  have FB12 : Hid (Blk w12 Q11 (HC B) 5) := Lib.hid (FB11.out.keep hb12)
  have HB12 : Hid (Below w.heap.size w w12) := Lib.hid (HB11.out.later hb12 (Nat.le_refl _))
  clear FP11 FK11 FS11 FF11 FB11 HB11
  clear hb12 hw12
  refine (tag_any S HSL.out _ 4 4 F _ p.length p.length B _ (Row8.ofBlk FF12.out (by rw [HFL.out]; decide) 4 HFL.out.symm) (Row8.ofBlk FB12.out (by rw [HBL.out]; have := H200.out; simp only [maxLen]; omega) p.length HBL.out.symm)).mono ?_
  rintro e w13 ⟨Q13, rfl, hQ13, hr13, hb13⟩
  rw [HT.out] at hr13
  have FP13 : Hid (RowC w13 a p.length c p) := Lib.hid (FP12.out.below hb13)
  have FK13 : Hid (Blk w13 g2 (CD x true (0 + cnt (isI y))) 72) := Lib.hid (FK12.out.keep hb13)
  have FS13 : Hid (Blk w13 (w4.heap.size) (HC S) 23) := Lib.hid (FS12.out.keep hb13)
  have FF13 : Hid (Blk w13 w8.heap.size (HC F) 5) := Lib.hid (FF12.out.keep hb13)
  have FB13 : Hid (Blk w13 Q11 (HC B) 5) := Lib.hid (FB12.out.keep hb13)
  have HB13 : Hid (Below w.heap.size w w13) := Lib.hid (HB12.out.later hb13 (Nat.le_refl _))
  clear FP12 FK12 FS12 FF12 FB12 HB12
  clear hb13
  have FT13 : Hid (RowC w13 (some ⟨Q13, 0, none⟩) 8 32 T) := Lib.hid (⟨hr13, fun e => by cases e⟩)
  go_wp2_with fail
  refine calls_gen (fun w14 hw14 => ?_)
  have hb14 : Below w13.heap.size w13 w14 := by rw [hw14]; (first | exact Below.refl _ _ | exact (Below.refl _ _).next (Nat.le_refl _) _ | exact ((Below.refl _ _).next (Nat.le_refl _) _).next (Nat.le_refl _) _ | exact (((Below.refl _ _).next (Nat.le_refl _) _).next (Nat.le_refl _) _).next (Nat.le_refl _) _ | exact ((((Below.refl _ _).next (Nat.le_refl _) _).next (Nat.le_refl _) _).next (Nat.le_refl _) _).next (Nat.le_refl _) _ | exact below_drew1 (Below.refl _ _) | exact below_drew1 ((Below.refl _ _).next (Nat.le_refl _) _) | exact below_drew1 (((Below.refl _ _).next (Nat.le_refl _) _).next (Nat.le_refl _) _))
  have FR14 : Hid (RowN w14 (some ⟨w13.heap.size, 0, none⟩) 3 [F, T, B]) := Lib.hid (by rw [hw14]; exact RowN.three rfl (RowC.blk FF13.out HFL.out.symm (by rw [HFL.out]; decide)) FT13.out (RowC.blk FB13.out HBL.out.symm (by rw [HBL.out]; have := H200.out; omega)))
  have FP14 : Hid (RowC w14 a p.length c p) := Lib.hid (FP13.out.below hb14)
  have FK14 : Hid (Blk w14 g2 (CD x true (0 + cnt (isI y))) 72) := Lib.hid (FK13.out.keep hb14)
  have FS14 : Hid (Blk w14 (w4.heap.size) (HC S) 23) := Lib.hid (FS13.out.keep hb14)
  have FF14 : Hid (Blk w14 w8.heap.size (HC F) 5) := Lib.hid (FF13.out.keep hb14)
  have FB14 : Hid (Blk w14 Q11 (HC B) 5) := Lib.hid (FB13.out.keep hb14)
  have FT14 : Hid (RowC w14 (some ⟨Q13, 0, none⟩) 8 32 T) := Lib.hid (FT13.out.below hb14)
  have HB14 : Hid (Below w.heap.size w w14) := Lib.hid (HB13.out.later hb14 (Nat.le_refl _))
  clear FP13 FK13 FS13 FF13 FB13 FT13 HB13
  clear hb14 hw14
  have HZL : Hid (w.heap.size ≤ w14.heap.size) := Lib.hid HB14.out.size
  refine (concat_any _ 3 3 [F, T, B] _ FR14.out HFL2.out).mono ?_
  rintro e w15 ⟨v15, rfl, hO15, hb15⟩
  have FP15 : Hid (RowC w15 a p.length c p) := Lib.hid (FP14.out.below hb15)
  have FK15 : Hid (Blk w15 g2 (CD x true (0 + cnt (isI y))) 72) := Lib.hid (FK14.out.keep hb15)
  have FS15 : Hid (Blk w15 (w4.heap.size) (HC S) 23) := Lib.hid (FS14.out.keep hb15)
  have FF15 : Hid (Blk w15 w8.heap.size (HC F) 5) := Lib.hid (FF14.out.keep hb15)
  have FB15 : Hid (Blk w15 Q11 (HC B) 5) := Lib.hid (FB14.out.keep hb15)
  have FT15 : Hid (RowC w15 (some ⟨Q13, 0, none⟩) 8 32 T) := Lib.hid (FT14.out.below hb15)
  have FR15 : Hid (RowN w15 (some ⟨w13.heap.size, 0, none⟩) 3 [F, T, B]) := Lib.hid (FR14.out.below hb15)
  have HB15 : Hid (Below w.heap.size w w15) := Lib.hid (HB14.out.later hb15 (Nat.le_refl _))
  clear FP14 FK14 FS14 FF14 FB14 FT14 FR14 HB14
  clear hb15
  have FO15 : Hid (Own8 w15 w14.heap.size 5 v15 [F, T, B].flatten) := Lib.hid (hO15)
  go_wp2_with fail
  refine bodyPost_ret (results_tmp2 rfl _ _ _) rfl ?_
  exact ⟨_, rfl, FO15.out.base (by have := HZL.out; omega), HB15.out⟩

set_option maxRecDepth 100000 in
set_option maxHeartbeats 4000000 in
theorem rseal_any (y : Int) (dr : List UInt8) (hd : dr.length = 32) (a : Option Addr) (l c : Nat) (p : List UInt8) (w : World) (hp : RowC w a l c p) (hlen : p.length ≤ 140737488351232) :
    Calls Try.prog 13 #[.int .i64 y, HV dr, .slice a l c] w fun e w' => ∃ v, e = .returned (.tuple #[v, .int .i64 (sealE y p)]) ∧ Own8 w' w.heap.size 5 v (sealB y (keyS dr) p) ∧ Below w.heap.size w w' := by
  obtain ⟨x, hx⟩ : ∃ x, keyS dr = x := ⟨_, rfl⟩
  have hxb := keyS_bd dr
  rw [hx] at hxb ⊢
  have hl := hp.row.len_eq
  subst hl
  rcases hy : isI y with _ | _
  · have h1 : sealOk y p = false := by unfold sealOk; rw [hy]; rfl
    have h2 : sealE y p = 1 := by unfold sealE; rw [h1]; rfl
    have h3 : sealB y x p = [] := by unfold sealB; rw [h1]; rfl
    rw [h2, h3]
    have HY := Lib.hid hy
    clear hy h1 h2 h3 hp hx hxb
    go_enter Try.func13, Try.ntmps13
    go_wp2_with (go_at_call 20; with_reducible refine (ris_any y _).mono ?_; rintro e' w' ⟨rfl, rfl⟩; rw [HY.out])
    refine bodyPost_ret (results_tmp2 rfl _ _ _) rfl ?_
    exact ⟨_, rfl, World.ownsRow_nil _ _ _ _, (Below.refl _ _).next (Nat.le_refl _) _⟩
  by_cases h200 : ¬ p.length ≤ 200
  · have h1 : sealOk y p = false := by unfold sealOk; rw [decide_eq_false h200, Bool.and_false]
    have h2 : sealE y p = 1 := by unfold sealE; rw [h1]; rfl
    have h3 : sealB y x p = [] := by unfold sealB; rw [h1]; rfl
    rw [h2, h3]
    have hgt : (p.length : Int) > 200 := by omega
    have HY := Lib.hid hy
    clear hy h1 h2 h3 hp hx hxb
    go_enter Try.func13, Try.ntmps13
    go_wp2_with (go_at_call 20; with_reducible refine (ris_any y _).mono ?_; rintro e' w' ⟨rfl, rfl⟩; rw [HY.out])
    refine bodyPost_ret (results_tmp2 rfl _ _ _) rfl ?_
    exact ⟨_, rfl, World.ownsRow_nil _ _ _ _, (Below.refl _ _).next (Nat.le_refl _) _⟩
  have h200 : p.length ≤ 200 := Decidable.not_not.1 h200
  have h1 : sealOk y p = true := by unfold sealOk; rw [hy, decide_eq_true h200]; rfl
  have h2 : sealE y p = 0 := by unfold sealE; rw [h1]; rfl
  have h3 : sealB y x p = boxW y x p := by unfold sealB; rw [h1]; rfl
  rw [h2, h3]
  have hle : ¬ ((p.length : Int) > 200) := by omega
  obtain ⟨S, hS⟩ : ∃ S, shW y x = S := ⟨_, rfl⟩
  have hSl : S.length = 32 := by rw [← hS]; exact shW_length _ _
  obtain ⟨B, hB⟩ : ∃ B, xorW S p = B := ⟨_, rfl⟩
  have hBl : B.length = p.length := by rw [← hB]; exact xorW_length _ _
  obtain ⟨F, hF⟩ : ∃ F, fourB (powI 4 x) = F := ⟨_, rfl⟩
  have hFl : F.length = 4 := by rw [← hF]; rfl
  obtain ⟨T, hT⟩ : ∃ T, tagW S F B = T := ⟨_, rfl⟩
  have hTl : T.length = 8 := by rw [← hT]; exact tagW_length _ _ _
  have hbox : boxW y x p = [F, T, B].flatten := by unfold boxW; rw [hS, hF, hB, hT]; simp
  have hfl : [F, T, B].flatten.length ≤ 140737488354000 := by simp [hFl, hTl, hBl]; omega
  have hszd : (Try.prog.info? 23).map (·.size) = some (HC dr).size := by rw [HC_size, hd]; kernel_rfl
  have hszS : (Try.prog.info? 23).map (·.size) = some (HC S).size := by rw [HC_size, hSl]; kernel_rfl
  have hszS2 : zeros32.size = (HC S).size := by rw [HC_size, hSl]; rfl
  rw [hbox]
  have HY := Lib.hid hy; have HX := Lib.hid hx; have HXB := Lib.hid hxb; have HS := Lib.hid hS; have HSL := Lib.hid hSl; have HB_ := Lib.hid hB; have HBL := Lib.hid hBl; have HF := Lib.hid hF; have HFL := Lib.hid hFl; have HT := Lib.hid hT; have HTL := Lib.hid hTl; have HFL2 := Lib.hid hfl; have SD := Lib.hid hszd; have S1 := Lib.hid hszS; have S2 := Lib.hid hszS2; have HD := Lib.hid hd; have H200 := Lib.hid h200
  clear hy hx hxb hS hSl hB hBl hF hFl hT hTl hbox hfl hszd hszS hszS2 hd h1 h2 h3
  have hX0 : Blk (w.alloc (.cells (HC dr) 23)) w.heap.size (HC dr) 23 := Blk.new w _ _
  have HX0 := Lib.hid hX0
  have HP := Lib.hid hp
  clear hX0 hp
  unfold HV
  go_enter Try.func13, Try.ntmps13
  go_wp2_with (first
    | (go_at_call 20; with_reducible refine (ris_any y _).mono ?_; rintro e' w' ⟨rfl, rfl⟩; rw [HY.out])
    | (refine wpList_load_row rfl 23 _ rfl w.heap.size rfl 23 (HC dr) (0, 0) _ HX0.out Try.underlying23 rfl SD.out ?_))
  refine calls_gen (fun w1 hw1 => ?_)
  have hb1 : Below w.heap.size w w1 := by rw [hw1]; (first | exact Below.refl _ _ | exact (Below.refl _ _).next (Nat.le_refl _) _ | exact ((Below.refl _ _).next (Nat.le_refl _) _).next (Nat.le_refl _) _ | exact (((Below.refl _ _).next (Nat.le_refl _) _).next (Nat.le_refl _) _).next (Nat.le_refl _) _ | exact ((((Below.refl _ _).next (Nat.le_refl _) _).next (Nat.le_refl _) _).next (Nat.le_refl _) _).next (Nat.le_refl _) _ | exact below_drew1 (Below.refl _ _) | exact below_drew1 ((Below.refl _ _).next (Nat.le_refl _) _) | exact below_drew1 (((Below.refl _ _).next (Nat.le_refl _) _).next (Nat.le_refl _) _))
  have FP1 : Hid (RowC w1 a p.length c p) := Lib.hid (HP.out.below hb1)
  have HB1 : Hid (Below w.heap.size w w1) := Lib.hid (hb1)
  clear HP
  clear hb1 hw1
  refine (rfrom_k dr HD.out _).mono ?_
  rintro e w2 ⟨rfl, hb2⟩
  rw [HX.out]
  have FP2 : Hid (RowC w2 a p.length c p) := Lib.hid (FP1.out.below hb2)
  have HB2 : Hid (Below w.heap.size w w2) := Lib.hid (HB1.out.later hb2 (Nat.le_refl _))
  clear FP1 HB1
  clear hb2
  go_wp2_with fail
  refine calls_gen (fun w3 hw3 => ?_)
  have hb3 : Below w2.heap.size w2 w3 := by rw [hw3]; (first | exact Below.refl _ _ | exact (Below.refl _ _).next (Nat.le_refl _) _ | exact ((Below.refl _ _).next (Nat.le_refl _) _).next (Nat.le_refl _) _ | exact (((Below.refl _ _).next (Nat.le_refl _) _).next (Nat.le_refl _) _).next (Nat.le_refl _) _ | exact ((((Below.refl _ _).next (Nat.le_refl _) _).next (Nat.le_refl _) _).next (Nat.le_refl _) _).next (Nat.le_refl _) _ | exact below_drew1 (Below.refl _ _) | exact below_drew1 ((Below.refl _ _).next (Nat.le_refl _) _) | exact below_drew1 (((Below.refl _ _).next (Nat.le_refl _) _).next (Nat.le_refl _) _))
  have FE3 : Hid (Blk w3 w2.heap.size #[.int .i64 x, .int .i64 (powI 4 x)] 37) := Lib.hid (by rw [hw3]; exact Blk.new _ _ _)
  have FP3 : Hid (RowC w3 a p.length c p) := Lib.hid (FP2.out.below hb3)
  have HB3 : Hid (Below w.heap.size w w3) := Lib.hid (HB2.out.later hb3 (Nat.le_refl _))
  clear FP2 HB2
  clear hb3 hw3
  refine (rshared_st x (powI 4 x) y _).mono ?_
  rintro e w4 ⟨rfl, hb4⟩
  rw [HS.out, HY.out]
  have FP4 : Hid (RowC w4 a p.length c p) := Lib.hid (FP3.out.below hb4)
  have FE4 : Hid (Blk w4 w2.heap.size #[.int .i64 x, .int .i64 (powI 4 x)] 37) := Lib.hid (FE3.out.keep hb4)
  have HB4 : Hid (Below w.heap.size w w4) := Lib.hid (HB3.out.later hb4 (Nat.le_refl _))
  clear FP3 FE3 HB3
  clear hb4
  go_wp2_with (first
    | (refine wpList_store_row rfl 23 _ _ rfl (w4.heap.size) (HC S) rfl rfl 23 zeros32 (Blk.newAt _ _ rfl) S1.out S2.out (HC_one _) ?_
       refine wpl_gen (fun w5 hw5 => ?_)
       have hb5 : Below w4.heap.size w4 w5 := by rw [hw5]; exact below_setRow ((Below.refl _ _).next (Nat.le_refl _) _) _ (Nat.le_refl _)
       have hq5 : Blk w5 (w4.heap.size) (HC S) 23 := by rw [hw5]; exact (Blk.newAt _ _ rfl).setRow _
       clear hw5
       have FP5 : Hid (RowC w5 a p.length c p) := Lib.hid (FP4.out.below hb5)
       have FE5 : Hid (Blk w5 w2.heap.size #[.int .i64 x, .int .i64 (powI 4 x)] 37) := Lib.hid (FE4.out.keep hb5)
       have HB5 : Hid (Below w.heap.size w w5) := Lib.hid (HB4.out.later hb5 (Nat.le_refl _))
       clear FP4 FE4 HB4
       have FS5 : Hid (Blk w5 (w4.heap.size) (HC S) 23) := Lib.hid (hq5)
       clear hb5 hq5)
    | (refine wpList_load_row rfl 23 _ rfl w4.heap.size rfl 23 (HC S) (0, 0) _ FS5.out Try.underlying23 rfl S1.out ?_))
  refine calls_gen (fun w6 hw6 => ?_)
  have hb6 : Below w5.heap.size w5 w6 := by rw [hw6]; (first | exact Below.refl _ _ | exact (Below.refl _ _).next (Nat.le_refl _) _ | exact ((Below.refl _ _).next (Nat.le_refl _) _).next (Nat.le_refl _) _ | exact (((Below.refl _ _).next (Nat.le_refl _) _).next (Nat.le_refl _) _).next (Nat.le_refl _) _ | exact ((((Below.refl _ _).next (Nat.le_refl _) _).next (Nat.le_refl _) _).next (Nat.le_refl _) _).next (Nat.le_refl _) _ | exact below_drew1 (Below.refl _ _) | exact below_drew1 ((Below.refl _ _).next (Nat.le_refl _) _) | exact below_drew1 (((Below.refl _ _).next (Nat.le_refl _) _).next (Nat.le_refl _) _))
  have FP6 : Hid (RowC w6 a p.length c p) := Lib.hid (FP5.out.below hb6)
  have FE6 : Hid (Blk w6 w2.heap.size #[.int .i64 x, .int .i64 (powI 4 x)] 37) := Lib.hid (FE5.out.keep hb6)
  have FS6 : Hid (Blk w6 (w4.heap.size) (HC S) 23) := Lib.hid (FS5.out.keep hb6)
  have HB6 : Hid (Below w.heap.size w w6) := Lib.hid (HB5.out.later hb6 (Nat.le_refl _))
  clear FP5 FE5 FS5 HB5
  clear hb6 hw6
  refine (rmix_any S HSL.out a p.length c p _ FP6.out.row (by have := H200.out; omega)).mono ?_
  rintro e w7 ⟨v7, rfl, hO7, hb7⟩
  rw [HB_.out] at hO7
  obtain ⟨aB, cB, rfl, hC7⟩ := hO7.toC (by rw [HBL.out]; have := H200.out; omega)
  rw [HBL.out] at hC7 ⊢
  have FP7 : Hid (RowC w7 a p.length c p) := Lib.hid (FP6.out.below hb7)
  have FE7 : Hid (Blk w7 w2.heap.size #[.int .i64 x, .int .i64 (powI 4 x)] 37) := Lib.hid (FE6.out.keep hb7)
  have FS7 : Hid (Blk w7 (w4.heap.size) (HC S) 23) := Lib.hid (FS6.out.keep hb7)
  have HB7 : Hid (Below w.heap.size w w7) := Lib.hid (HB6.out.later hb7 (Nat.le_refl _))
  clear FP6 FE6 FS6 HB6
  clear hb7
  have FB7 : Hid (RowC w7 aB p.length cB B) := Lib.hid (hC7)
  have c1 := FE7.out.cell 1
  go_wp2_with fail
  refine calls_gen (fun w8 hw8 => ?_)
  have hb8 : Below w7.heap.size w7 w8 := by rw [hw8]; (first | exact Below.refl _ _ | exact (Below.refl _ _).next (Nat.le_refl _) _ | exact ((Below.refl _ _).next (Nat.le_refl _) _).next (Nat.le_refl _) _ | exact (((Below.refl _ _).next (Nat.le_refl _) _).next (Nat.le_refl _) _).next (Nat.le_refl _) _ | exact ((((Below.refl _ _).next (Nat.le_refl _) _).next (Nat.le_refl _) _).next (Nat.le_refl _) _).next (Nat.le_refl _) _ | exact below_drew1 (Below.refl _ _) | exact below_drew1 ((Below.refl _ _).next (Nat.le_refl _) _) | exact below_drew1 (((Below.refl _ _).next (Nat.le_refl _) _).next (Nat.le_refl _) _))
  have FP8 : Hid (RowC w8 a p.length c p) := Lib.hid (FP7.out.below hb8)
  have FE8 : Hid (Blk w8 w2.heap.size #[.int .i64 x, .int .i64 (powI 4 x)] 37) := Lib.hid (FE7.out.keep hb8)
  have FS8 : Hid (Blk w8 (w4.heap.size) (HC S) 23) := Lib.hid (FS7.out.keep hb8)
  have FB8 : Hid (RowC w8 aB p.length cB B) := Lib.hid (FB7.out.below hb8)
  have HB8 : Hid (Below w.heap.size w w8) := Lib.hid (HB7.out.later hb8 (Nat.le_refl _))
  clear FP7 FE7 FS7 FB7 HB7
  clear hb8 hw8
  refine (rfour_b (powI 4 x) _).mono ?_
  rintro e w9 ⟨rfl, hF9, hb9⟩
  rw [HF.out] at hF9
  have FP9 : Hid (RowC w9 a p.length c p) := Lib.hid (FP8.out.below hb9)
  have FE9 : Hid (Blk w9 w2.heap.size #[.int .i64 x, .int .i64 (powI 4 x)] 37) := Lib.hid (FE8.out.keep hb9)
  have FS9 : Hid (Blk w9 (w4.heap.size) (HC S) 23) := Lib.hid (FS8.out.keep hb9)
  have FB9 : Hid (RowC w9 aB p.length cB B) := Lib.hid (FB8.out.below hb9)
  have HB9 : Hid (Below w.heap.size w w9) := Lib.hid (HB8.out.later hb9 (Nat.le_refl _))
  clear FP8 FE8 FS8 FB8 HB8
  clear hb9
  have FF9 : Hid (Blk w9 w8.heap.size (HC F) 5) := Lib.hid (hF9)
  clear c1
  go_wp2_with (first
    | (refine wpList_load_row rfl 23 _ rfl w4.heap.size rfl 23 (HC S) (0, 0) _ FS9.out Try.underlying23 rfl S1.out ?_))
  refine calls_gen (fun w10 hw10 => ?_)
  have hb10 : Below w9.heap.size w9 w10 := by rw [hw10]; (first | exact Below.refl _ _ | exact (Below.refl _ _).next (Nat.le_refl _) _ | exact ((Below.refl _ _).next (Nat.le_refl _) _).next (Nat.le_refl _) _ | exact (((Below.refl _ _).next (Nat.le_refl _) _).next (Nat.le_refl _) _).next (Nat.le_refl _) _ | exact ((((Below.refl _ _).next (Nat.le_refl _) _).next (Nat.le_refl _) _).next (Nat.le_refl _) _).next (Nat.le_refl _) _ | exact below_drew1 (Below.refl _ _) | exact below_drew1 ((Below.refl _ _).next (Nat.le_refl _) _) | exact below_drew1 (((Below.refl _ _).next (Nat.le_refl _) _).next (Nat.le_refl _) _))
  have FP10 : Hid (RowC w10 a p.length c p) := Lib.hid (FP9.out.below hb10)
  have FE10 : Hid (Blk w10 w2.heap.size #[.int .i64 x, .int .i64 (powI 4 x)] 37) := Lib.hid (FE9.out.keep hb10)
  have FS10 : Hid (Blk w10 (w4.heap.size) (HC S) 23) := Lib.hid (FS9.out.keep hb10)
  have FB10 : Hid (RowC w10 aB p.length cB B) := Lib.hid (FB9.out.below hb10)
  have FF10 : Hid (Blk w10 w8.heap.size (HC F) 5) := Lib.hid (FF9.out.keep hb10)
  have HB10 : Hid (Below w.heap.size w w10) := Lib.hid (HB9.out.later hb10 (Nat.le_refl _))
  clear FP9 FE9 FS9 FB9 FF9 HB9
  clear hb10 hw10
  refine (rtag_any S HSL.out _ 4 4 F _ p.length cB B _ (RowC.blk FF10.out HFL.out.symm (by rw [HFL.out]; decide)) FB10.out (by rw [HFL.out, HBL.out]; have := H200.out; omega)).mono ?_
  rintro e w11 ⟨v11, rfl, hO11, hb11⟩
  rw [HT.out] at hO11
  obtain ⟨aT, cT, rfl, hC11⟩ := hO11.toC (by rw [HTL.out]; decide)
  rw [HTL.out] at hC11 ⊢
  have FP11 : Hid (RowC w11 a p.length c p) := Lib.hid (FP10.out.below hb11)
  have FE11 : Hid (Blk w11 w2.heap.size #[.int .i64 x, .int .i64 (powI 4 x)] 37) := Lib.hid (FE10.out.keep hb11)
  have FS11 : Hid (Blk w11 (w4.heap.size) (HC S) 23) := Lib.hid (FS10.out.keep hb11)
  have FB11 : Hid (RowC w11 aB p.length cB B) := Lib.hid (FB10.out.below hb11)
  have FF11 : Hid (Blk w11 w8.heap.size (HC F) 5) := Lib.hid (FF10.out.keep hb11)
  have HB11 : Hid (Below w.heap.size w w11) := Lib.hid (HB10.out.later hb11 (Nat.le_refl _))
  clear FP10 FE10 FS10 FB10 FF10 HB10
  clear hb11
  have FT11 : Hid (RowC w11 aT 8 cT T) := Lib.hid (hC11)
  go_wp2_with fail
  refine calls_gen (fun w12 hw12 => ?_)
  have hb12 : Below w11.heap.size w11 w12 := by rw [hw12]; (first | exact Below.refl _ _ | exact (Below.refl _ _).next (Nat.le_refl _) _ | exact ((Below.refl _ _).next (Nat.le_refl _) _).next (Nat.le_refl _) _ | exact (((Below.refl _ _).next (Nat.le_refl _) _).next (Nat.le_refl _) _).next (Nat.le_refl _) _ | exact ((((Below.refl _ _).next (Nat.le_refl _) _).next (Nat.le_refl _) _).next (Nat.le_refl _) _).next (Nat.le_refl _) _ | exact below_drew1 (Below.refl _ _) | exact below_drew1 ((Below.refl _ _).next (Nat.le_refl _) _) | exact below_drew1 (((Below.refl _ _).next (Nat.le_refl _) _).next (Nat.le_refl _) _))
  have FR12 : Hid (RowN w12 (some ⟨w11.heap.size, 0, none⟩) 3 [F, T, B]) := Lib.hid (by rw [hw12]; exact RowN.three rfl (RowC.blk FF11.out HFL.out.symm (by rw [HFL.out]; decide)) FT11.out FB11.out)
  have FP12 : Hid (RowC w12 a p.length c p) := Lib.hid (FP11.out.below hb12)
  have FE12 : Hid (Blk w12 w2.heap.size #[.int .i64 x, .int .i64 (powI 4 x)] 37) := Lib.hid (FE11.out.keep hb12)
  have FS12 : Hid (Blk w12 (w4.heap.size) (HC S) 23) := Lib.hid (FS11.out.keep hb12)
  have FB12 : Hid (RowC w12 aB p.length cB B) := Lib.hid (FB11.out.below hb12)
  have FF12 : Hid (Blk w12 w8.heap.size (HC F) 5) := Lib.hid (FF11.out.keep hb12)
  have FT12 : Hid (RowC w12 aT 8 cT T) := Lib.hid (FT11.out.below hb12)
  have HB12 : Hid (Below w.heap.size w w12) := Lib.hid (HB11.out.later hb12 (Nat.le_refl _))
  clear FP11 FE11 FS11 FB11 FF11 FT11 HB11
  clear hb12 hw12
  have HZL : Hid (w.heap.size ≤ w12.heap.size) := Lib.hid HB12.out.size
  refine (rjoin_n _ 3 3 [F, T, B] _ FR12.out HFL2.out).mono ?_
  rintro e w13 ⟨v13, rfl, hO13, hb13⟩
  have FP13 : Hid (RowC w13 a p.length c p) := Lib.hid (FP12.out.below hb13)
  have FE13 : Hid (Blk w13 w2.heap.size #[.int .i64 x, .int .i64 (powI 4 x)] 37) := Lib.hid (FE12.out.keep hb13)
  have FS13 : Hid (Blk w13 (w4.heap.size) (HC S) 23) := Lib.hid (FS12.out.keep hb13)
  have FB13 : Hid (RowC w13 aB p.length cB B) := Lib.hid (FB12.out.below hb13)
  have FF13 : Hid (Blk w13 w8.heap.size (HC F) 5) := Lib.hid (FF12.out.keep hb13)
  have FT13 : Hid (RowC w13 aT 8 cT T) := Lib.hid (FT12.out.below hb13)
  have FR13 : Hid (RowN w13 (some ⟨w11.heap.size, 0, none⟩) 3 [F, T, B]) := Lib.hid (FR12.out.below hb13)
  have HB13 : Hid (Below w.heap.size w w13) := Lib.hid (HB12.out.later hb13 (Nat.le_refl _))
  clear FP12 FE12 FS12 FB12 FF12 FT12 FR12 HB12
  clear hb13
  have FO13 : Hid (Own8 w13 w12.heap.size 5 v13 [F, T, B].flatten) := Lib.hid (hO13)
  go_wp2_with fail
  refine bodyPost_ret (results_tmp2 rfl _ _ _) rfl ?_
  exact ⟨_, rfl, FO13.out.base (by have := HZL.out; omega), HB13.out⟩
end Go.Proofs.Ytaaidjncbcildaa

/-
  Boxes: the walks of Open, the program's and the document's.
-/
namespace Go.Proofs.Ytaaidjncbcildaa
set_option maxRecDepth 100000
open Go.RowKit Pm
set_option linter.unusedVariables false
set_option linter.unusedSimpArgs false

theorem Row8.sub {w : World} {b off l : Nat} {p : List UInt8} (h : Row8 w (some ⟨b, off, none⟩) l p) (i n : Nat) (hn : i + n ≤ p.length) : Row8 w (some ⟨b, off + i, none⟩) n ((p.drop i).take n) := by
  have hl : ((p.drop i).take n).length = n := by rw [List.length_take, List.length_drop]; omega
  refine ⟨hl.symm, by have := h.small; rw [hl]; omega, .inr ⟨b, off + i, rfl, fun j hj => ?_⟩⟩
  rw [hl] at hj
  rcases h.cells with h1 | ⟨b', off', h1, hc⟩
  · subst h1; simp at hn; omega
  · injection h1 with h1; injection h1 with h2 h3; subst h2; subst h3
    have h4 := hc (i + j) (by omega)
    rw [List.getElem_take, List.getElem_drop, Nat.add_assoc]
    exact h4
theorem Row8.from {w : World} {b off l : Nat} {p : List UInt8} (h : Row8 w (some ⟨b, off, none⟩) l p) (i : Nat) (hi : i ≤ p.length) : Row8 w (some ⟨b, off + i, none⟩) (l - i) (p.drop i) := by
  have h1 := h.sub i (p.length - i) (by omega)
  rw [List.take_of_length_le (by rw [List.length_drop]; omega)] at h1
  rw [h.len_eq]; exact h1
theorem Own8.ofBlk {w : World} {B Q n : Nat} {e : TypeId} {bs : List UInt8} (h : Blk w Q (HC bs) e) (hB : B ≤ Q) (hn : n = bs.length) (hm : bs.length ≤ maxLen) : Own8 w B e (.slice (some ⟨Q, 0, none⟩) n n) bs := by
  subst hn
  refine ⟨by rw [HL_length, Nat.mul_one], .inr ⟨Q, bs.length, HC bs, rfl, hB, h, Nat.le_refl _, hm, by rw [HC_size, Nat.mul_one], ?_⟩⟩
  rw [HC_toList, Nat.mul_one]; exact List.take_of_length_le (by rw [HL_length]; exact Nat.le_refl _)

def boxY (b : List UInt8) : Int := num4 (b.take 4)
def inLen (b : List UInt8) : Bool := decide (12 ≤ b.length) && decide (b.length ≤ 212)
def openOk (x : Int) (b : List UInt8) : Bool := isI (boxY b) && (b.drop 4).take 8 == tagW (shW (boxY b) x) (b.take 4) (b.drop 12)
def openE (x : Int) (b : List UInt8) : Int := if inLen b then (if openOk x b then 0 else 3) else 2
def openB (x : Int) (b : List UInt8) : List UInt8 := if inLen b && openOk x b then xorW (shW (boxY b) x) (b.drop 12) else []
theorem inLen_no {b : List UInt8} (h : ¬ (12 ≤ b.length ∧ b.length ≤ 212)) : inLen b = false := by
  unfold inLen
  rw [Bool.and_eq_false_iff, decide_eq_false_iff_not, decide_eq_false_iff_not]
  omega
theorem inLen_yes {b : List UInt8} (h : 12 ≤ b.length) (h2 : b.length ≤ 212) : inLen b = true := by unfold inLen; rw [decide_eq_true h, decide_eq_true h2]; rfl
theorem open_short {x : Int} {b : List UInt8} (h : inLen b = false) : openE x b = 2 ∧ openB x b = [] := by unfold openE openB; rw [h]; exact ⟨rfl, rfl⟩
theorem open_no {x : Int} {b : List UInt8} (h : inLen b = true) (h2 : openOk x b = false) : openE x b = 3 ∧ openB x b = [] := by unfold openE openB; rw [h, h2]; exact ⟨rfl, rfl⟩
theorem open_yes {x : Int} {b : List UInt8} (h : inLen b = true) (h2 : openOk x b = true) : openE x b = 0 ∧ openB x b = xorW (shW (boxY b) x) (b.drop 12) := by unfold openE openB; rw [h, h2]; exact ⟨rfl, rfl⟩

set_option maxRecDepth 100000 in
set_option maxHeartbeats 4000000 in
theorem open_any (g : Nat) (x us : Int) (d : Bool) (hu : 0 ≤ us ∧ us < 1000000) (a : Option Addr) (l c : Nat) (b : List UInt8) (w : World) (hk : Blk w g (CD x d us) 72) (hp : RowC w a l c b) (hlc : l ≤ c) (hlen : b.length ≤ 140737488351232) :
    Calls Try.prog 15 #[.pointer (some ⟨g, 0, none⟩), .slice a l c] w fun e w' => ∃ v, e = .returned (.tuple #[v, .int .i64 (openE x b)]) ∧ Own8 w' w.heap.size 5 v (openB x b) ∧ w.grownBy w' (some g) ∧ ∃ us', Blk w' g (CD x d us') 72 ∧ us ≤ us' ∧ us' ≤ us + 1 := by
  have hl := hp.row.len_eq
  subst hl
  by_cases h12 : b.length < 12
  · obtain ⟨h1, h2⟩ := open_short (x := x) (inLen_no (b := b) (by omega))
    rw [h1, h2]
    have hlt : (b.length : Int) < 12 := by omega
    clear hp h1 h2
    go_enter Try.func15, Try.ntmps15
    go_wp2
    refine bodyPost_ret (results_tmp2 rfl _ _ _) rfl ?_
    exact ⟨_, rfl, World.ownsRow_nil _ _ _ _, grown_refl _ _, us, hk, by omega, by omega⟩
  by_cases h212 : b.length > 212
  · obtain ⟨h1, h2⟩ := open_short (x := x) (inLen_no (b := b) (by omega))
    rw [h1, h2]
    have hlt : ¬ (b.length : Int) < 12 := by omega
    have hgt : (b.length : Int) > 212 := by omega
    clear hp h1 h2
    go_enter Try.func15, Try.ntmps15
    go_wp2
    refine bodyPost_ret (results_tmp2 rfl _ _ _) rfl ?_
    exact ⟨_, rfl, World.ownsRow_nil _ _ _ _, grown_refl _ _, us, hk, by omega, by omega⟩
  have hin := inLen_yes (b := b) (by omega) (by omega)
  obtain ⟨b0, off, rfl⟩ : ∃ b0 off, a = some ⟨b0, off, none⟩ := by
    rcases hp.row.cells with h1 | ⟨b0, off, h1, _⟩
    · subst h1; simp at h12
    · exact ⟨b0, off, h1⟩
  obtain ⟨Y, hY⟩ : ∃ Y, boxY b = Y := ⟨_, rfl⟩
  obtain ⟨O, hO⟩ : ∃ O, b.take 4 = O := ⟨_, rfl⟩
  obtain ⟨D, hD⟩ : ∃ D, (b.drop 4).take 8 = D := ⟨_, rfl⟩
  obtain ⟨B, hB⟩ : ∃ B, b.drop 12 = B := ⟨_, rfl⟩
  obtain ⟨S, hS⟩ : ∃ S, shW Y x = S := ⟨_, rfl⟩
  have hOl : O.length = 4 := by rw [← hO, List.length_take]; omega
  have hDl : D.length = 8 := by rw [← hD, List.length_take, List.length_drop]; omega
  have hBl : B.length = b.length - 12 := by rw [← hB, List.length_drop]
  have hSl : S.length = 32 := by rw [← hS]; exact shW_length _ _
  have hnY : num4 O = Y := by rw [← hY, ← hO]; rfl
  obtain ⟨T, hT⟩ : ∃ T, tagW S O B = T := ⟨_, rfl⟩
  have hTl : T.length = 8 := by rw [← hT]; exact tagW_length _ _ _
  obtain ⟨X, hX⟩ : ∃ X, xorW S B = X := ⟨_, rfl⟩
  have hXl : X.length = b.length - 12 := by rw [← hX, xorW_length]; exact hBl
  have hok : openOk x b = (isI Y && D == T) := by unfold openOk; rw [hY, hO, hD, hB, hS, hT]
  have hxor : xorW (shW (boxY b) x) (b.drop 12) = X := by rw [hY, hS, hB, hX]
  have r1 : Row8 w (some ⟨b0, off, none⟩) 4 O := by
    have h := hp.row.sub 0 4 (by omega)
    rw [List.drop_zero, hO] at h; exact h
  have r2 : Row8 w (some ⟨b0, off + 4, none⟩) 8 D := by
    have h := hp.row.sub 4 8 (by omega)
    rw [hD] at h; exact h
  have r3 : Row8 w (some (if c = 12 then ⟨b0, off, none⟩ else ⟨b0, off + 12, none⟩)) (b.length - 12) B := by
    have h := hp.row.from 12 (by omega)
    rw [hB] at h
    by_cases hc : c = 12
    · have h0 : b.length - 12 = 0 := by omega
      have hB0 : B = [] := List.length_eq_zero_iff.1 (by omega)
      rw [if_pos hc, h0, hB0]; exact Row8.nil _ _
    · rw [if_neg hc]; exact h
  obtain ⟨a12, ha12⟩ : ∃ a12, (if c = 12 then (⟨b0, off, none⟩ : Addr) else ⟨b0, off + 12, none⟩) = a12 := ⟨_, rfl⟩
  rw [ha12] at r3
  have i1 : (4 : Int) ≤ (c : Int) := by omega
  have i2 : (12 : Int) ≤ (c : Int) := by omega
  have i3 : ¬ (c : Int) = 4 := by omega
  have i4 : ¬ c = 4 := by omega
  have i5 : (12 : Int) ≤ (b.length : Int) := by omega
  have i6 : (b.length : Int) ≤ (c : Int) := by omega
  have i7 : ¬ (b.length : Int) < 12 := by omega
  have i8 : ¬ (b.length : Int) > 212 := by omega
  have hszS : (Try.prog.info? 23).map (·.size) = some (HC S).size := by rw [HC_size, hSl]; kernel_rfl
  have hszS2 : zeros32.size = (HC S).size := by rw [HC_size, hSl]; rfl
  have hN212 : b.length ≤ 212 := by omega
  obtain ⟨N, hN⟩ : ∃ N, b.length = N := ⟨_, rfl⟩
  rw [hN] at i5 i6 i7 i8 r3 hBl hXl hN212 ⊢
  have HIN := Lib.hid hin; have HOL := Lib.hid hOl; have HDL := Lib.hid hDl; have HBL := Lib.hid hBl; have HSL := Lib.hid hSl; have HNY := Lib.hid hnY; have HS := Lib.hid hS; have HT := Lib.hid hT; have HTL := Lib.hid hTl; have HX := Lib.hid hX; have HXL := Lib.hid hXl; have HOK := Lib.hid hok; have HXR := Lib.hid hxor; have R1 := Lib.hid r1; have R2 := Lib.hid r2; have R3 := Lib.hid r3; have S1 := Lib.hid hszS; have S2 := Lib.hid hszS2; have H212 := Lib.hid hN212
  clear hin hOl hDl hBl hSl hnY hS hT hTl hX hXl hok hxor r1 r2 r3 hszS hszS2 hN212 hp hlen h12 h212 hN hY hO hD hB hlc
  have HK := Lib.hid hk
  clear hk
  rcases hy : isI Y with _ | _
  · obtain ⟨h1, h2⟩ := open_no (x := x) HIN.out (by rw [HOK.out, hy]; rfl)
    rw [h1, h2]
    have HY := Lib.hid hy
    clear h1 h2 hy
    go_enter Try.func15, Try.ntmps15
    go_wp2_with fail
    refine region_grows _ (Nat.le_refl _) [isV 0 (.slice (some ⟨b0, off, none⟩) N c), isV 1 (.slice (some ⟨b0, off, none⟩) 4 c), isV 2 (.slice (some ⟨b0, off, none⟩) N c), isV 3 (.slice (some ⟨b0, off + 4, none⟩) 8 (c - 4)), isV 4 (.slice (some ⟨b0, off, none⟩) N c), isV 5 (.slice (some a12) (N - 12) (c - 12)), isV 6 (.slice (some ⟨b0, off, none⟩) 4 c), isV 7 (.slice (some ⟨b0, off + 4, none⟩) 8 (c - 4)), isV 8 (.slice (some a12) (N - 12) (c - 12))]
      [[], [0], [], [2], [], [4], [1], [3], [5]] [some 19, some 20, some 21, some 22, some 23, some 24, some 6, some 7, some 8] _ (by kernel_rfl) (by kernel_rfl) (by kernel_rfl) (by kernel_rfl) (by kernel_rfl) rfl ?_ ?_ ?_
    · repeat (first | exact st_nil | refine st_cons (by first | exact st_is _ _ | exact st_as _ _ | exact st_row _ _ _ | exact st_rows _ _ _ | exact st_lit _ _ _ _ _ | exact st_args _ _ _ | exact st_bytes _ _) ?_)
    · intro hgz
      refine ⟨?_, ?_, ?_, ?_, ?_, ?_, ?_, ?_, ?_, trivial⟩ <;> intro vals w1 hb hf <;> obtain ⟨hb, hz⟩ := hgz w1 hb <;> simp [leans, factsOf, phi, sel_lit, sel_row, sel_rows, sel_args, sel_bytes, isV, asV, sel] at hf <;> simp [putD, phi, Act.put]
      · -- 0 move 
        go_wp2
        exact ⟨rfl, rfl, .refl _ _, mk_is rfl⟩
      · -- 1 slice 
        simp only [hf]; clear hf
        go_wp2
        exact ⟨rfl, rfl, .refl _ _, mk_is rfl⟩
      · -- 2 move 
        go_wp2
        exact ⟨rfl, rfl, .refl _ _, mk_is rfl⟩
      · -- 3 slice 
        simp only [hf]; clear hf
        go_wp2
        exact ⟨rfl, rfl, .refl _ _, mk_is rfl⟩
      · -- 4 move 
        go_wp2
        exact ⟨rfl, rfl, .refl _ _, mk_is rfl⟩
      · -- 5 slice 
        simp only [hf]; clear hf
        go_wp2
        all_goals refine ⟨rfl, rfl, .refl _ _, mk_is ?_⟩
        all_goals first | (rw [← ha12, if_pos rfl]; rfl) | (rw [← ha12, if_pos (by assumption)]; rfl) | (rw [← ha12, if_neg (by assumption)]; rfl) | (rw [← ha12, if_neg (by omega)]; rfl)
      · -- 6 assign 
        simp only [hf]; clear hf
        go_wp2
        exact ⟨rfl, rfl, .refl _ _, mk_is rfl⟩
      · -- 7 assign 
        simp only [hf]; clear hf
        go_wp2
        exact ⟨rfl, rfl, .refl _ _, mk_is rfl⟩
      · -- 8 assign 
        simp only [hf]; clear hf
        go_wp2
        exact ⟨rfl, rfl, .refl _ _, mk_is rfl⟩
    · intro vals w1 hb hf; simp [leans, List.range, List.range.loop, factsOf, phi, sel_lit, sel_row, sel_rows, sel_args, sel_bytes, isV, asV, sel] at hf; simp [putD, List.range, List.range.loop, Act.put, hf]
      clear hf
      have FO1 := Lib.hid (R1.out.below (hb.below.mono (Nat.le_refl _)))
      have FD1 := Lib.hid (R2.out.below (hb.below.mono (Nat.le_refl _)))
      have FB1 := Lib.hid (R3.out.below (hb.below.mono (Nat.le_refl _)))
      have FK1 := Lib.hid (HK.out.keep hb.below)
      have HB1 : Hid (Below w.heap.size w w1) := Lib.hid hb.below
      clear hb R1 R2 R3 HK
      have HG1 : Hid (w.grownBy w1 (some g)) := Lib.hid (grown_below (grown_refl w _) HB1.out)
      go_wp2_with fail
      refine (number_any _ 4 _ O HOL.out _ FO1.out).mono ?_
      rintro e w_ ⟨rfl, rfl⟩
      rw [HNY.out]
      go_wp2_with fail
      refine (shared_st g x us Y d hu _ FK1.out).mono ?_
      rintro e w2 ⟨rfl, hk2, hg2⟩
      rw [HS.out, HY.out]
      have FO2 := Lib.hid (FO1.out.key FK1.out hg2)
      have FD2 := Lib.hid (FD1.out.key FK1.out hg2)
      have FB2 := Lib.hid (FB1.out.key FK1.out hg2)
      have FK2 := Lib.hid hk2; have HG2 := Lib.hid (grown_trans HG1.out hg2)
      clear hk2 hg2 HG1 HB1 FK1 FO1 FD1 FB1
      go_wp2_with (first
        | (refine wpList_store_row rfl 23 _ _ rfl (w2.heap.size) (HC S) rfl rfl 23 zeros32 (Blk.newAt _ _ rfl) S1.out S2.out (HC_one _) ?_
           refine wpl_gen (fun w3 hw3 => ?_)
           have hb3 : Below w2.heap.size w2 w3 := by rw [hw3]; exact below_setRow ((Below.refl _ _).next (Nat.le_refl _) _) _ (Nat.le_refl _)
           have hq3 : Blk w3 (w2.heap.size) (HC S) 23 := by rw [hw3]; exact (Blk.newAt _ _ rfl).setRow _
           clear hw3
           have FO3 : Hid (Row8 w3 (some ⟨b0, off, none⟩) 4 O) := Lib.hid (FO2.out.below hb3)
           have FD3 : Hid (Row8 w3 (some ⟨b0, off + 4, none⟩) 8 D) := Lib.hid (FD2.out.below hb3)
           have FB3 : Hid (Row8 w3 (some a12) (N - 12) B) := Lib.hid (FB2.out.below hb3)
           have FK3 : Hid (Blk w3 g (CD x d (us + cnt (isI Y))) 72) := Lib.hid (FK2.out.keep hb3)
           have HB3 : Hid (Below w2.heap.size w2 w3) := Lib.hid (hb3)
           clear FO2 FD2 FB2 FK2
           have FS3 : Hid (Blk w3 (w2.heap.size) (HC S) 23) := Lib.hid (hq3)
           clear hb3 hq3))
      refine bodyPost_ret (results_tmp2 rfl _ _ _) rfl ?_
      exact ⟨_, rfl, World.ownsRow_nil _ _ _ _, grown_below HG2.out HB3.out, _, FK3.out, by have := cnt_bd (isI Y); omega, by have := cnt_bd (isI Y); omega⟩
  rcases hdt : (D == T) with _ | _
  · obtain ⟨h1, h2⟩ := open_no (x := x) HIN.out (by rw [HOK.out, hy, hdt]; rfl)
    rw [h1, h2]
    have HDT := Lib.hid hdt; have HY := Lib.hid hy
    clear h1 h2 hdt hy
    go_enter Try.func15, Try.ntmps15
    go_wp2_with fail
    refine region_grows _ (Nat.le_refl _) [isV 0 (.slice (some ⟨b0, off, none⟩) N c), isV 1 (.slice (some ⟨b0, off, none⟩) 4 c), isV 2 (.slice (some ⟨b0, off, none⟩) N c), isV 3 (.slice (some ⟨b0, off + 4, none⟩) 8 (c - 4)), isV 4 (.slice (some ⟨b0, off, none⟩) N c), isV 5 (.slice (some a12) (N - 12) (c - 12)), isV 6 (.slice (some ⟨b0, off, none⟩) 4 c), isV 7 (.slice (some ⟨b0, off + 4, none⟩) 8 (c - 4)), isV 8 (.slice (some a12) (N - 12) (c - 12))]
      [[], [0], [], [2], [], [4], [1], [3], [5]] [some 19, some 20, some 21, some 22, some 23, some 24, some 6, some 7, some 8] _ (by kernel_rfl) (by kernel_rfl) (by kernel_rfl) (by kernel_rfl) (by kernel_rfl) rfl ?_ ?_ ?_
    · repeat (first | exact st_nil | refine st_cons (by first | exact st_is _ _ | exact st_as _ _ | exact st_row _ _ _ | exact st_rows _ _ _ | exact st_lit _ _ _ _ _ | exact st_args _ _ _ | exact st_bytes _ _) ?_)
    · intro hgz
      refine ⟨?_, ?_, ?_, ?_, ?_, ?_, ?_, ?_, ?_, trivial⟩ <;> intro vals w1 hb hf <;> obtain ⟨hb, hz⟩ := hgz w1 hb <;> simp [leans, factsOf, phi, sel_lit, sel_row, sel_rows, sel_args, sel_bytes, isV, asV, sel] at hf <;> simp [putD, phi, Act.put]
      · -- 0 move 
        go_wp2
        exact ⟨rfl, rfl, .refl _ _, mk_is rfl⟩
      · -- 1 slice 
        simp only [hf]; clear hf
        go_wp2
        exact ⟨rfl, rfl, .refl _ _, mk_is rfl⟩
      · -- 2 move 
        go_wp2
        exact ⟨rfl, rfl, .refl _ _, mk_is rfl⟩
      · -- 3 slice 
        simp only [hf]; clear hf
        go_wp2
        exact ⟨rfl, rfl, .refl _ _, mk_is rfl⟩
      · -- 4 move 
        go_wp2
        exact ⟨rfl, rfl, .refl _ _, mk_is rfl⟩
      · -- 5 slice 
        simp only [hf]; clear hf
        go_wp2
        all_goals refine ⟨rfl, rfl, .refl _ _, mk_is ?_⟩
        all_goals first | (rw [← ha12, if_pos rfl]; rfl) | (rw [← ha12, if_pos (by assumption)]; rfl) | (rw [← ha12, if_neg (by assumption)]; rfl) | (rw [← ha12, if_neg (by omega)]; rfl)
      · -- 6 assign 
        simp only [hf]; clear hf
        go_wp2
        exact ⟨rfl, rfl, .refl _ _, mk_is rfl⟩
      · -- 7 assign 
        simp only [hf]; clear hf
        go_wp2
        exact ⟨rfl, rfl, .refl _ _, mk_is rfl⟩
      · -- 8 assign 
        simp only [hf]; clear hf
        go_wp2
        exact ⟨rfl, rfl, .refl _ _, mk_is rfl⟩
    · intro vals w1 hb hf; simp [leans, List.range, List.range.loop, factsOf, phi, sel_lit, sel_row, sel_rows, sel_args, sel_bytes, isV, asV, sel] at hf; simp [putD, List.range, List.range.loop, Act.put, hf]
      clear hf
      have FO1 := Lib.hid (R1.out.below (hb.below.mono (Nat.le_refl _)))
      have FD1 := Lib.hid (R2.out.below (hb.below.mono (Nat.le_refl _)))
      have FB1 := Lib.hid (R3.out.below (hb.below.mono (Nat.le_refl _)))
      have FK1 := Lib.hid (HK.out.keep hb.below)
      have HB1 : Hid (Below w.heap.size w w1) := Lib.hid hb.below
      clear hb R1 R2 R3 HK
      have HG1 : Hid (w.grownBy w1 (some g)) := Lib.hid (grown_below (grown_refl w _) HB1.out)
      go_wp2_with fail
      refine (number_any _ 4 _ O HOL.out _ FO1.out).mono ?_
      rintro e w_ ⟨rfl, rfl⟩
      rw [HNY.out]
      go_wp2_with fail
      refine (shared_st g x us Y d hu _ FK1.out).mono ?_
      rintro e w2 ⟨rfl, hk2, hg2⟩
      rw [HS.out, HY.out]
      have FO2 := Lib.hid (FO1.out.key FK1.out hg2)
      have FD2 := Lib.hid (FD1.out.key FK1.out hg2)
      have FB2 := Lib.hid (FB1.out.key FK1.out hg2)
      have FK2 := Lib.hid hk2; have HG2 := Lib.hid (grown_trans HG1.out hg2)
      clear hk2 hg2 HG1 HB1 FK1 FO1 FD1 FB1
      go_wp2_with (first
        | (refine wpList_store_row rfl 23 _ _ rfl (w2.heap.size) (HC S) rfl rfl 23 zeros32 (Blk.newAt _ _ rfl) S1.out S2.out (HC_one _) ?_
           refine wpl_gen (fun w3 hw3 => ?_)
           have hb3 : Below w2.heap.size w2 w3 := by rw [hw3]; exact below_setRow ((Below.refl _ _).next (Nat.le_refl _) _) _ (Nat.le_refl _)
           have hq3 : Blk w3 (w2.heap.size) (HC S) 23 := by rw [hw3]; exact (Blk.newAt _ _ rfl).setRow _
           clear hw3
           have FO3 : Hid (Row8 w3 (some ⟨b0, off, none⟩) 4 O) := Lib.hid (FO2.out.below hb3)
           have FD3 : Hid (Row8 w3 (some ⟨b0, off + 4, none⟩) 8 D) := Lib.hid (FD2.out.below hb3)
           have FB3 : Hid (Row8 w3 (some a12) (N - 12) B) := Lib.hid (FB2.out.below hb3)
           have FK3 : Hid (Blk w3 g (CD x d (us + cnt (isI Y))) 72) := Lib.hid (FK2.out.keep hb3)
           have HB3 : Hid (Below w2.heap.size w2 w3) := Lib.hid (hb3)
           clear FO2 FD2 FB2 FK2
           have FS3 : Hid (Blk w3 (w2.heap.size) (HC S) 23) := Lib.hid (hq3)
           clear hb3 hq3)
        | (refine list_wanted rfl ?_; refine wpList_load_row rfl 23 _ rfl w2.heap.size rfl 23 (HC S) (0, 0) _ FS3.out Try.underlying23 rfl S1.out ?_)
        | (refine wpList_load_row rfl 23 _ rfl w2.heap.size rfl 23 (HC S) (0, 0) _ FS3.out Try.underlying23 rfl S1.out ?_))
      refine calls_gen (fun w4 hw4 => ?_)
      have hb4 : Below w3.heap.size w3 w4 := by rw [hw4]; (first | exact Below.refl _ _ | exact (Below.refl _ _).next (Nat.le_refl _) _ | exact ((Below.refl _ _).next (Nat.le_refl _) _).next (Nat.le_refl _) _ | exact (((Below.refl _ _).next (Nat.le_refl _) _).next (Nat.le_refl _) _).next (Nat.le_refl _) _ | exact ((((Below.refl _ _).next (Nat.le_refl _) _).next (Nat.le_refl _) _).next (Nat.le_refl _) _).next (Nat.le_refl _) _ | exact below_drew1 (Below.refl _ _) | exact below_drew1 ((Below.refl _ _).next (Nat.le_refl _) _) | exact below_drew1 (((Below.refl _ _).next (Nat.le_refl _) _).next (Nat.le_refl _) _))
      have FO4 : Hid (Row8 w4 (some ⟨b0, off, none⟩) 4 O) := Lib.hid (FO3.out.below hb4)
      have FD4 : Hid (Row8 w4 (some ⟨b0, off + 4, none⟩) 8 D) := Lib.hid (FD3.out.below hb4)
      have FB4 : Hid (Row8 w4 (some a12) (N - 12) B) := Lib.hid (FB3.out.below hb4)
      have FK4 : Hid (Blk w4 g (CD x d (us + cnt (isI Y))) 72) := Lib.hid (FK3.out.keep hb4)
      have FS4 : Hid (Blk w4 (w2.heap.size) (HC S) 23) := Lib.hid (FS3.out.keep hb4)
      have HB4 : Hid (Below w2.heap.size w2 w4) := Lib.hid (HB3.out.later hb4 (Nat.le_refl _))
      clear FO3 FD3 FB3 FK3 FS3 HB3
      clear hb4 hw4
      refine (tag_any S HSL.out _ _ _ O _ _ _ B _ FO4.out FB4.out).mono ?_
      rintro e w5 ⟨Q5, rfl, hQ5, hr5, hb5⟩
      rw [HT.out] at hr5
      have FO5 : Hid (Row8 w5 (some ⟨b0, off, none⟩) 4 O) := Lib.hid (FO4.out.below hb5)
      have FD5 : Hid (Row8 w5 (some ⟨b0, off + 4, none⟩) 8 D) := Lib.hid (FD4.out.below hb5)
      have FB5 : Hid (Row8 w5 (some a12) (N - 12) B) := Lib.hid (FB4.out.below hb5)
      have FK5 : Hid (Blk w5 g (CD x d (us + cnt (isI Y))) 72) := Lib.hid (FK4.out.keep hb5)
      have FS5 : Hid (Blk w5 (w2.heap.size) (HC S) 23) := Lib.hid (FS4.out.keep hb5)
      have HB5 : Hid (Below w2.heap.size w2 w5) := Lib.hid (HB4.out.later hb5 (Nat.le_refl _))
      clear FO4 FD4 FB4 FK4 FS4 HB4
      clear hb5
      have FT5 : Hid (Row8 w5 (some ⟨Q5, 0, none⟩) 8 T) := Lib.hid (hr5)
      go_wp2_with fail
      refine (equal_any _ _ _ D _ _ _ T _ FD5.out FT5.out).mono ?_
      rintro e w_ ⟨rfl, rfl⟩
      rw [HDT.out]
      go_wp2_with fail
      refine bodyPost_ret (results_tmp2 rfl _ _ _) rfl ?_
      exact ⟨_, rfl, World.ownsRow_nil _ _ _ _, grown_below HG2.out HB5.out, _, FK5.out, by have := cnt_bd (isI Y); omega, by have := cnt_bd (isI Y); omega⟩
  · obtain ⟨h1, h2⟩ := open_yes (x := x) HIN.out (by rw [HOK.out, hy, hdt]; rfl)
    rw [h1, h2, HXR.out]
    have HDT := Lib.hid hdt; have HY := Lib.hid hy
    clear h1 h2 hdt hy
    go_enter Try.func15, Try.ntmps15
    go_wp2_with fail
    refine region_grows _ (Nat.le_refl _) [isV 0 (.slice (some ⟨b0, off, none⟩) N c), isV 1 (.slice (some ⟨b0, off, none⟩) 4 c), isV 2 (.slice (some ⟨b0, off, none⟩) N c), isV 3 (.slice (some ⟨b0, off + 4, none⟩) 8 (c - 4)), isV 4 (.slice (some ⟨b0, off, none⟩) N c), isV 5 (.slice (some a12) (N - 12) (c - 12)), isV 6 (.slice (some ⟨b0, off, none⟩) 4 c), isV 7 (.slice (some ⟨b0, off + 4, none⟩) 8 (c - 4)), isV 8 (.slice (some a12) (N - 12) (c - 12))]
      [[], [0], [], [2], [], [4], [1], [3], [5]] [some 19, some 20, some 21, some 22, some 23, some 24, some 6, some 7, some 8] _ (by kernel_rfl) (by kernel_rfl) (by kernel_rfl) (by kernel_rfl) (by kernel_rfl) rfl ?_ ?_ ?_
    · repeat (first | exact st_nil | refine st_cons (by first | exact st_is _ _ | exact st_as _ _ | exact st_row _ _ _ | exact st_rows _ _ _ | exact st_lit _ _ _ _ _ | exact st_args _ _ _ | exact st_bytes _ _) ?_)
    · intro hgz
      refine ⟨?_, ?_, ?_, ?_, ?_, ?_, ?_, ?_, ?_, trivial⟩ <;> intro vals w1 hb hf <;> obtain ⟨hb, hz⟩ := hgz w1 hb <;> simp [leans, factsOf, phi, sel_lit, sel_row, sel_rows, sel_args, sel_bytes, isV, asV, sel] at hf <;> simp [putD, phi, Act.put]
      · -- 0 move 
        go_wp2
        exact ⟨rfl, rfl, .refl _ _, mk_is rfl⟩
      · -- 1 slice 
        simp only [hf]; clear hf
        go_wp2
        exact ⟨rfl, rfl, .refl _ _, mk_is rfl⟩
      · -- 2 move 
        go_wp2
        exact ⟨rfl, rfl, .refl _ _, mk_is rfl⟩
      · -- 3 slice 
        simp only [hf]; clear hf
        go_wp2
        exact ⟨rfl, rfl, .refl _ _, mk_is rfl⟩
      · -- 4 move 
        go_wp2
        exact ⟨rfl, rfl, .refl _ _, mk_is rfl⟩
      · -- 5 slice 
        simp only [hf]; clear hf
        go_wp2
        all_goals refine ⟨rfl, rfl, .refl _ _, mk_is ?_⟩
        all_goals first | (rw [← ha12, if_pos rfl]; rfl) | (rw [← ha12, if_pos (by assumption)]; rfl) | (rw [← ha12, if_neg (by assumption)]; rfl) | (rw [← ha12, if_neg (by omega)]; rfl)
      · -- 6 assign 
        simp only [hf]; clear hf
        go_wp2
        exact ⟨rfl, rfl, .refl _ _, mk_is rfl⟩
      · -- 7 assign 
        simp only [hf]; clear hf
        go_wp2
        exact ⟨rfl, rfl, .refl _ _, mk_is rfl⟩
      · -- 8 assign 
        simp only [hf]; clear hf
        go_wp2
        exact ⟨rfl, rfl, .refl _ _, mk_is rfl⟩
    · intro vals w1 hb hf; simp [leans, List.range, List.range.loop, factsOf, phi, sel_lit, sel_row, sel_rows, sel_args, sel_bytes, isV, asV, sel] at hf; simp [putD, List.range, List.range.loop, Act.put, hf]
      clear hf
      have FO1 := Lib.hid (R1.out.below (hb.below.mono (Nat.le_refl _)))
      have FD1 := Lib.hid (R2.out.below (hb.below.mono (Nat.le_refl _)))
      have FB1 := Lib.hid (R3.out.below (hb.below.mono (Nat.le_refl _)))
      have FK1 := Lib.hid (HK.out.keep hb.below)
      have HB1 : Hid (Below w.heap.size w w1) := Lib.hid hb.below
      clear hb R1 R2 R3 HK
      have HG1 : Hid (w.grownBy w1 (some g)) := Lib.hid (grown_below (grown_refl w _) HB1.out)
      go_wp2_with fail
      refine (number_any _ 4 _ O HOL.out _ FO1.out).mono ?_
      rintro e w_ ⟨rfl, rfl⟩
      rw [HNY.out]
      go_wp2_with fail
      refine (shared_st g x us Y d hu _ FK1.out).mono ?_
      rintro e w2 ⟨rfl, hk2, hg2⟩
      rw [HS.out, HY.out]
      have FO2 := Lib.hid (FO1.out.key FK1.out hg2)
      have FD2 := Lib.hid (FD1.out.key FK1.out hg2)
      have FB2 := Lib.hid (FB1.out.key FK1.out hg2)
      have FK2 := Lib.hid hk2; have HG2 := Lib.hid (grown_trans HG1.out hg2)
      clear hk2 hg2 HG1 HB1 FK1 FO1 FD1 FB1
      go_wp2_with (first
        | (refine wpList_store_row rfl 23 _ _ rfl (w2.heap.size) (HC S) rfl rfl 23 zeros32 (Blk.newAt _ _ rfl) S1.out S2.out (HC_one _) ?_
           refine wpl_gen (fun w3 hw3 => ?_)
           have hb3 : Below w2.heap.size w2 w3 := by rw [hw3]; exact below_setRow ((Below.refl _ _).next (Nat.le_refl _) _) _ (Nat.le_refl _)
           have hq3 : Blk w3 (w2.heap.size) (HC S) 23 := by rw [hw3]; exact (Blk.newAt _ _ rfl).setRow _
           clear hw3
           have FO3 : Hid (Row8 w3 (some ⟨b0, off, none⟩) 4 O) := Lib.hid (FO2.out.below hb3)
           have FD3 : Hid (Row8 w3 (some ⟨b0, off + 4, none⟩) 8 D) := Lib.hid (FD2.out.below hb3)
           have FB3 : Hid (Row8 w3 (some a12) (N - 12) B) := Lib.hid (FB2.out.below hb3)
           have FK3 : Hid (Blk w3 g (CD x d (us + cnt (isI Y))) 72) := Lib.hid (FK2.out.keep hb3)
           have HB3 : Hid (Below w2.heap.size w2 w3) := Lib.hid (hb3)
           clear FO2 FD2 FB2 FK2
           have FS3 : Hid (Blk w3 (w2.heap.size) (HC S) 23) := Lib.hid (hq3)
           clear hb3 hq3)
        | (refine list_wanted rfl ?_; refine wpList_load_row rfl 23 _ rfl w2.heap.size rfl 23 (HC S) (0, 0) _ FS3.out Try.underlying23 rfl S1.out ?_)
        | (refine wpList_load_row rfl 23 _ rfl w2.heap.size rfl 23 (HC S) (0, 0) _ FS3.out Try.underlying23 rfl S1.out ?_))
      refine calls_gen (fun w4 hw4 => ?_)
      have hb4 : Below w3.heap.size w3 w4 := by rw [hw4]; (first | exact Below.refl _ _ | exact (Below.refl _ _).next (Nat.le_refl _) _ | exact ((Below.refl _ _).next (Nat.le_refl _) _).next (Nat.le_refl _) _ | exact (((Below.refl _ _).next (Nat.le_refl _) _).next (Nat.le_refl _) _).next (Nat.le_refl _) _ | exact ((((Below.refl _ _).next (Nat.le_refl _) _).next (Nat.le_refl _) _).next (Nat.le_refl _) _).next (Nat.le_refl _) _ | exact below_drew1 (Below.refl _ _) | exact below_drew1 ((Below.refl _ _).next (Nat.le_refl _) _) | exact below_drew1 (((Below.refl _ _).next (Nat.le_refl _) _).next (Nat.le_refl _) _))
      have FO4 : Hid (Row8 w4 (some ⟨b0, off, none⟩) 4 O) := Lib.hid (FO3.out.below hb4)
      have FD4 : Hid (Row8 w4 (some ⟨b0, off + 4, none⟩) 8 D) := Lib.hid (FD3.out.below hb4)
      have FB4 : Hid (Row8 w4 (some a12) (N - 12) B) := Lib.hid (FB3.out.below hb4)
      have FK4 : Hid (Blk w4 g (CD x d (us + cnt (isI Y))) 72) := Lib.hid (FK3.out.keep hb4)
      have FS4 : Hid (Blk w4 (w2.heap.size) (HC S) 23) := Lib.hid (FS3.out.keep hb4)
      have HB4 : Hid (Below w2.heap.size w2 w4) := Lib.hid (HB3.out.later hb4 (Nat.le_refl _))
      clear FO3 FD3 FB3 FK3 FS3 HB3
      clear hb4 hw4
      refine (tag_any S HSL.out _ _ _ O _ _ _ B _ FO4.out FB4.out).mono ?_
      rintro e w5 ⟨Q5, rfl, hQ5, hr5, hb5⟩
      rw [HT.out] at hr5
      have FO5 : Hid (Row8 w5 (some ⟨b0, off, none⟩) 4 O) := Lib.hid (FO4.out.below hb5)
      have FD5 : Hid (Row8 w5 (some ⟨b0, off + 4, none⟩) 8 D) := Lib.hid (FD4.out.below hb5)
      have FB5 : Hid (Row8 w5 (some a12) (N - 12) B) := Lib.hid (FB4.out.below hb5)
      have FK5 : Hid (Blk w5 g (CD x d (us + cnt (isI Y))) 72) := Lib.hid (FK4.out.keep hb5)
      have FS5 : Hid (Blk w5 (w2.heap.size) (HC S) 23) := Lib.hid (FS4.out.keep hb5)
      have HB5 : Hid (Below w2.heap.size w2 w5) := Lib.hid (HB4.out.later hb5 (Nat.le_refl _))
      clear FO4 FD4 FB4 FK4 FS4 HB4
      clear hb5
      have FT5 : Hid (Row8 w5 (some ⟨Q5, 0, none⟩) 8 T) := Lib.hid (hr5)
      go_wp2_with fail
      refine (equal_any _ _ _ D _ _ _ T _ FD5.out FT5.out).mono ?_
      rintro e w_ ⟨rfl, rfl⟩
      rw [HDT.out]
      go_wp2_with (first
        | (refine wpList_load_row rfl 23 _ rfl w2.heap.size rfl 23 (HC S) (0, 0) _ FS5.out Try.underlying23 rfl S1.out ?_))
      refine calls_gen (fun w6 hw6 => ?_)
      have hb6 : Below w5.heap.size w5 w6 := by rw [hw6]; (first | exact Below.refl _ _ | exact (Below.refl _ _).next (Nat.le_refl _) _ | exact ((Below.refl _ _).next (Nat.le_refl _) _).next (Nat.le_refl _) _ | exact (((Below.refl _ _).next (Nat.le_refl _) _).next (Nat.le_refl _) _).next (Nat.le_refl _) _ | exact ((((Below.refl _ _).next (Nat.le_refl _) _).next (Nat.le_refl _) _).next (Nat.le_refl _) _).next (Nat.le_refl _) _ | exact below_drew1 (Below.refl _ _) | exact below_drew1 ((Below.refl _ _).next (Nat.le_refl _) _) | exact below_drew1 (((Below.refl _ _).next (Nat.le_refl _) _).next (Nat.le_refl _) _))
      have FO6 : Hid (Row8 w6 (some ⟨b0, off, none⟩) 4 O) := Lib.hid (FO5.out.below hb6)
      have FD6 : Hid (Row8 w6 (some ⟨b0, off + 4, none⟩) 8 D) := Lib.hid (FD5.out.below hb6)
      have FB6 : Hid (Row8 w6 (some a12) (N - 12) B) := Lib.hid (FB5.out.below hb6)
      have FK6 : Hid (Blk w6 g (CD x d (us + cnt (isI Y))) 72) := Lib.hid (FK5.out.keep hb6)
      have FS6 : Hid (Blk w6 (w2.heap.size) (HC S) 23) := Lib.hid (FS5.out.keep hb6)
      have FT6 : Hid (Row8 w6 (some ⟨Q5, 0, none⟩) 8 T) := Lib.hid (FT5.out.below hb6)
      have HB6 : Hid (Below w2.heap.size w2 w6) := Lib.hid (HB5.out.later hb6 (Nat.le_refl _))
      clear FO5 FD5 FB5 FK5 FS5 FT5 HB5
      clear hb6 hw6
      refine (veil_any S HSL.out (some a12) (N - 12) _ B _ FB6.out (by rw [HBL.out]; have := H212.out; omega)).mono ?_
      rintro e w7 ⟨Q7, rfl, hQ7, hk7, hb7⟩
      rw [HX.out] at hk7
      have HQL : Hid (w.heap.size ≤ Q7) := Lib.hid (by have h1 := HG2.out.size; have h2 := HB6.out.size; omega)
      have FO7 : Hid (Row8 w7 (some ⟨b0, off, none⟩) 4 O) := Lib.hid (FO6.out.below hb7)
      have FD7 : Hid (Row8 w7 (some ⟨b0, off + 4, none⟩) 8 D) := Lib.hid (FD6.out.below hb7)
      have FB7 : Hid (Row8 w7 (some a12) (N - 12) B) := Lib.hid (FB6.out.below hb7)
      have FK7 : Hid (Blk w7 g (CD x d (us + cnt (isI Y))) 72) := Lib.hid (FK6.out.keep hb7)
      have FS7 : Hid (Blk w7 (w2.heap.size) (HC S) 23) := Lib.hid (FS6.out.keep hb7)
      have FT7 : Hid (Row8 w7 (some ⟨Q5, 0, none⟩) 8 T) := Lib.hid (FT6.out.below hb7)
      have HB7 : Hid (Below w2.heap.size w2 w7) := Lib.hid (HB6.out.later hb7 (Nat.le_refl _))
      clear FO6 FD6 FB6 FK6 FS6 FT6 HB6
      clear hb7
      have FX7 : Hid (Blk w7 Q7 (HC X) 5) := Lib.hid (hk7)
      go_wp2_with fail
      refine bodyPost_ret (results_tmp2 rfl _ _ _) rfl ?_
      exact ⟨_, rfl, Own8.ofBlk FX7.out HQL.out (by rw [HBL.out, HXL.out]) (by rw [HXL.out]; have := H212.out; simp only [maxLen]; omega), grown_below HG2.out HB7.out, _, FK7.out, by have := cnt_bd (isI Y); omega, by have := cnt_bd (isI Y); omega⟩
end Go.Proofs.Ytaaidjncbcildaa

/-
  Bytes of one's own: written at a place.
-/
namespace Go.Proofs.Ytaaidjncbcildaa
set_option maxRecDepth 100000
open Go.RowKit Pm
set_option linter.unusedVariables false
set_option linter.unusedSimpArgs false
theorem low16 (n : Int) (h : (Lit.int .i64 n).wf = true) : bits .and .i64 n 65535 = n % 65536 := by
  show IntKind.i64.wrap ((BitVec.ofInt 64 n &&& BitVec.ofInt 64 (65535 : Int)).toNat : Int) = _
  have e : (BitVec.ofInt 64 (65535 : Int)).toNat = 2 ^ 16 - 1 := by decide
  rw [BitVec.toNat_and, e, Nat.and_two_pow_sub_one_eq_mod, BitVec.toNat_ofInt, IntWalk.i64_in _ (by omega)]
  omega
theorem Own8.set {w : World} {B g n cap i : Nat} {e : TypeId} {bs : List UInt8} (h : Own8 w B e (.slice (some ⟨g, 0, none⟩) n cap) bs) (hn : n = bs.length) (b : UInt8) : Own8 (w.setCell ⟨g, i, none⟩ (.int .u8 (Bt b))) B e (.slice (some ⟨g, 0, none⟩) n cap) (bs.set i b) := by
  subst hn
  have h1 := (World.ownsRow.stored h i (.int .u8 (Bt b))).1
  unfold Own8
  rw [List.length_set, show HL (bs.set i b) = (HL bs).set i (.int .u8 (Bt b)) by simp [HL, List.map_set]]
  exact h1
theorem small_wrap (K : Nat) (h : K ≤ 100000) : RowKit.wrap64 (K : Int) = (K : Int) ∧ IntKind.i64.wrap (K : Int) = (K : Int) := ⟨IntWalk.wrap64_in _ (by omega), IntWalk.i64_in _ (by omega)⟩
theorem Own8.ofBlkAny {w : World} {B g n cap : Nat} {e : TypeId} {bs : List UInt8} (h : Own8 w B e (.slice (some ⟨g, 0, none⟩) n cap) bs) : ∃ cur, Blk w g cur e := by
  rcases h.2 with ⟨h1, _⟩ | ⟨g', cap', cur, h1, _, h2, _⟩
  · cases h1
  · injection h1 with h1 _ _; injection h1 with h1; injection h1 with h1; subst h1; exact ⟨cur, h2⟩
end Go.Proofs.Ytaaidjncbcildaa

/-
  Boxes: the walk of the document's Open.
-/
namespace Go.Proofs.Ytaaidjncbcildaa
set_option maxRecDepth 100000
open Go.RowKit Pm
set_option linter.unusedVariables false
set_option linter.unusedSimpArgs false

theorem or_at (a b i : Nat) (hb : b < 2 ^ i) (hs : a * 2 ^ i + b < 9223372036854775808) : bits .or .i64 ((a * 2 ^ i : Nat) : Int) (b : Int) = ((a * 2 ^ i + b : Nat) : Int) := by
  show IntKind.i64.wrap ((BitVec.ofInt 64 ((a * 2 ^ i : Nat) : Int) ||| BitVec.ofInt 64 (b : Int)).toNat : Int) = _
  rw [BitVec.ofInt_natCast, BitVec.ofInt_natCast, BitVec.toNat_or, BitVec.toNat_ofNat, BitVec.toNat_ofNat, Nat.mod_eq_of_lt (by omega), Nat.mod_eq_of_lt (by omega)]
  have h := Nat.shiftLeft_add_eq_or_of_lt hb a
  rw [Nat.shiftLeft_eq] at h
  rw [← h, IntWalk.i64_in _ (by omega)]
theorem num4_four (O : List UInt8) (h : O.length = 4) : num4 O = ((((O[0]'(by omega)).toNat * 256 + (O[1]'(by omega)).toNat) * 256 + (O[2]'(by omega)).toNat) * 256 + (O[3]'(by omega)).toNat : Nat) := by
  match O, h with
  | [a, b, c, d], _ => simp [num4, numK]

set_option maxRecDepth 100000 in
set_option maxHeartbeats 4000000 in
theorem ropen_any (x yk : Int) (a : Option Addr) (l c : Nat) (b : List UInt8) (w : World) (hp : RowC w a l c b) (hlc : l ≤ c) (hlen : b.length ≤ 140737488351232) :
    Calls Try.prog 17 #[.agg #[.int .i64 x, .int .i64 yk], .slice a l c] w fun e w' => ∃ v, e = .returned (.tuple #[v, .int .i64 (openE x b)]) ∧ Own8 w' w.heap.size 5 v (openB x b) ∧ Below w.heap.size w w' := by
  have hl := hp.row.len_eq
  subst hl
  by_cases h12 : b.length < 12
  · obtain ⟨h1, h2⟩ := open_short (x := x) (inLen_no (b := b) (by omega))
    rw [h1, h2]
    have hlt : (b.length : Int) < 12 := by omega
    clear hp h1 h2
    go_enter Try.func17, Try.ntmps17
    go_wp2
    refine bodyPost_ret (results_tmp2 rfl _ _ _) rfl ?_
    exact ⟨_, rfl, World.ownsRow_nil _ _ _ _, (Below.refl _ _).next (Nat.le_refl _) _⟩
  by_cases h212 : b.length > 212
  · obtain ⟨h1, h2⟩ := open_short (x := x) (inLen_no (b := b) (by omega))
    rw [h1, h2]
    have hlt : ¬ (b.length : Int) < 12 := by omega
    have hgt : (b.length : Int) > 212 := by omega
    clear hp h1 h2
    go_enter Try.func17, Try.ntmps17
    go_wp2
    refine bodyPost_ret (results_tmp2 rfl _ _ _) rfl ?_
    exact ⟨_, rfl, World.ownsRow_nil _ _ _ _, (Below.refl _ _).next (Nat.le_refl _) _⟩
  have hin := inLen_yes (b := b) (by omega) (by omega)
  obtain ⟨b0, off, rfl⟩ : ∃ b0 off, a = some ⟨b0, off, none⟩ := by
    rcases hp.row.cells with h1 | ⟨b0, off, h1, _⟩
    · subst h1; simp at h12
    · exact ⟨b0, off, h1⟩
  obtain ⟨Y, hY⟩ : ∃ Y, boxY b = Y := ⟨_, rfl⟩
  obtain ⟨O, hO⟩ : ∃ O, b.take 4 = O := ⟨_, rfl⟩
  obtain ⟨D, hD⟩ : ∃ D, (b.drop 4).take 8 = D := ⟨_, rfl⟩
  obtain ⟨B, hB⟩ : ∃ B, b.drop 12 = B := ⟨_, rfl⟩
  obtain ⟨S, hS⟩ : ∃ S, shW Y x = S := ⟨_, rfl⟩
  have hOl : O.length = 4 := by rw [← hO, List.length_take]; omega
  have hDl : D.length = 8 := by rw [← hD, List.length_take, List.length_drop]; omega
  have hBl : B.length = b.length - 12 := by rw [← hB, List.length_drop]
  have hSl : S.length = 32 := by rw [← hS]; exact shW_length _ _
  have hnY : num4 O = Y := by rw [← hY, ← hO]; rfl
  obtain ⟨T, hT⟩ : ∃ T, tagW S O B = T := ⟨_, rfl⟩
  have hTl : T.length = 8 := by rw [← hT]; exact tagW_length _ _ _
  obtain ⟨X, hX⟩ : ∃ X, xorW S B = X := ⟨_, rfl⟩
  have hXl : X.length = b.length - 12 := by rw [← hX, xorW_length]; exact hBl
  have hok : openOk x b = (isI Y && D == T) := by unfold openOk; rw [hY, hO, hD, hB, hS, hT]
  have hxor : xorW (shW (boxY b) x) (b.drop 12) = X := by rw [hY, hS, hB, hX]
  have r1 : Row8 w (some ⟨b0, off, none⟩) 4 O := by
    have h := hp.row.sub 0 4 (by omega)
    rw [List.drop_zero, hO] at h; exact h
  have r2 : Row8 w (some ⟨b0, off + 4, none⟩) 8 D := by
    have h := hp.row.sub 4 8 (by omega)
    rw [hD] at h; exact h
  have r3 : Row8 w (some (if c = 12 then ⟨b0, off, none⟩ else ⟨b0, off + 12, none⟩)) (b.length - 12) B := by
    have h := hp.row.from 12 (by omega)
    rw [hB] at h
    by_cases hc : c = 12
    · have h0 : b.length - 12 = 0 := by omega
      have hB0 : B = [] := List.length_eq_zero_iff.1 (by omega)
      rw [if_pos hc, h0, hB0]; exact Row8.nil _ _
    · rw [if_neg hc]; exact h
  obtain ⟨a12, ha12⟩ : ∃ a12, (if c = 12 then (⟨b0, off, none⟩ : Addr) else ⟨b0, off + 12, none⟩) = a12 := ⟨_, rfl⟩
  rw [ha12] at r3
  have i1 : (4 : Int) ≤ (c : Int) := by omega
  have i2 : (12 : Int) ≤ (c : Int) := by omega
  have i3 : ¬ (c : Int) = 4 := by omega
  have i4 : ¬ c = 4 := by omega
  have i5 : (12 : Int) ≤ (b.length : Int) := by omega
  have i6 : (b.length : Int) ≤ (c : Int) := by omega
  have i7 : ¬ (b.length : Int) < 12 := by omega
  have i8 : ¬ (b.length : Int) > 212 := by omega
  have hszS : (Try.prog.info? 23).map (·.size) = some (HC S).size := by rw [HC_size, hSl]; kernel_rfl
  have hszS2 : zeros32.size = (HC S).size := by rw [HC_size, hSl]; rfl
  have hN212 : b.length ≤ 212 := by omega
  obtain ⟨N, hN⟩ : ∃ N, b.length = N := ⟨_, rfl⟩
  rw [hN] at i5 i6 i7 i8 r3 hBl hXl hN212 ⊢
  have HIN := Lib.hid hin; have HOL := Lib.hid hOl; have HDL := Lib.hid hDl; have HBL := Lib.hid hBl; have HSL := Lib.hid hSl; have HNY := Lib.hid hnY; have HS := Lib.hid hS; have HT := Lib.hid hT; have HTL := Lib.hid hTl; have HX := Lib.hid hX; have HXL := Lib.hid hXl; have HOK := Lib.hid hok; have HXR := Lib.hid hxor; have R1 := Lib.hid r1; have R2 := Lib.hid r2; have R3 := Lib.hid r3; have S1 := Lib.hid hszS; have S2 := Lib.hid hszS2; have H212 := Lib.hid hN212
  clear hin hOl hDl hBl hSl hnY hS hT hTl hX hXl hok hxor r1 r2 r3 hszS hszS2 hN212 hp hlen h12 h212 hN hY hO hD hB hlc
  have h4 := num4_four O HOL.out
  rw [HNY.out] at h4
  obtain ⟨n0, hn0⟩ : ∃ n : Nat, (O[0]'(by have := HOL.out; omega)).toNat = n := ⟨_, rfl⟩
  obtain ⟨n1, hn1⟩ : ∃ n : Nat, (O[1]'(by have := HOL.out; omega)).toNat = n := ⟨_, rfl⟩
  obtain ⟨n2, hn2⟩ : ∃ n : Nat, (O[2]'(by have := HOL.out; omega)).toNat = n := ⟨_, rfl⟩
  obtain ⟨n3, hn3⟩ : ∃ n : Nat, (O[3]'(by have := HOL.out; omega)).toNat = n := ⟨_, rfl⟩
  have hb0 : n0 < 256 := by rw [← hn0]; exact UInt8.toNat_lt _
  have hb1 : n1 < 256 := by rw [← hn1]; exact UInt8.toNat_lt _
  have hb2 : n2 < 256 := by rw [← hn2]; exact UInt8.toNat_lt _
  have hb3 : n3 < 256 := by rw [← hn3]; exact UInt8.toNat_lt _
  rw [hn0, hn1, hn2, hn3] at h4
  obtain ⟨hcell⟩ : Nonempty (∀ (i : Nat) (h : i < O.length), w.cell? ⟨b0, off + i, none⟩ = some (.int .u8 (Bt O[i]))) := by
    rcases R1.out.cells with h1 | ⟨b', off', h1, hc⟩
    · have := HOL.out; rw [h1] at this; cases this
    · injection h1 with h1; injection h1 with h2 h3; subst h2; subst h3; exact ⟨hc⟩
  have hc0 : w.cell? ⟨b0, off, none⟩ = some (.int .u8 (n0 : Int)) := by rw [← hn0]; exact hcell 0 (by have := HOL.out; omega)
  have hc1 : w.cell? ⟨b0, off + 1, none⟩ = some (.int .u8 (n1 : Int)) := by rw [← hn1]; exact hcell 1 (by have := HOL.out; omega)
  have hc2 : w.cell? ⟨b0, off + 2, none⟩ = some (.int .u8 (n2 : Int)) := by rw [← hn2]; exact hcell 2 (by have := HOL.out; omega)
  have hc3 : w.cell? ⟨b0, off + 3, none⟩ = some (.int .u8 (n3 : Int)) := by rw [← hn3]; exact hcell 3 (by have := HOL.out; omega)
  obtain ⟨Z1, hZ1⟩ : ∃ z : Int, ((n0 * 16777216 + n1 * 65536 : Nat) : Int) = z := ⟨_, rfl⟩
  obtain ⟨Z2, hZ2⟩ : ∃ z : Int, ((n0 * 16777216 + n1 * 65536 + n2 * 256 : Nat) : Int) = z := ⟨_, rfl⟩
  have hor1 : bits .or .i64 ((n0 : Int) * 16777216) ((n1 : Int) * 65536) = Z1 := by
    have h := or_at n0 (n1 * 65536) 24 (by omega) (by omega)
    rw [show (2 : Nat) ^ 24 = 16777216 from rfl] at h
    rw [← hZ1, ← h]; simp
  have hor2 : bits .or .i64 Z1 ((n2 : Int) * 256) = Z2 := by
    have h := or_at (n0 * 256 + n1) (n2 * 256) 16 (by omega) (by omega)
    rw [show (2 : Nat) ^ 16 = 65536 from rfl, show (n0 * 256 + n1) * 65536 = n0 * 16777216 + n1 * 65536 by omega] at h
    rw [← hZ1, ← hZ2, ← h]; simp
  have hor3 : bits .or .i64 Z2 (n3 : Int) = Y := by
    have h := or_at (n0 * 65536 + n1 * 256 + n2) n3 8 (by omega) (by omega)
    rw [show (2 : Nat) ^ 8 = 256 from rfl, show (n0 * 65536 + n1 * 256 + n2) * 256 = n0 * 16777216 + n1 * 65536 + n2 * 256 by omega] at h
    rw [← hZ2, h, h4]; congr 1; omega
  have hwa : IntKind.i64.wrap (n0 : Int) = n0 := IntWalk.i64_in _ (by omega)
  have hwb : IntKind.i64.wrap (n1 : Int) = n1 := IntWalk.i64_in _ (by omega)
  have hwc : IntKind.i64.wrap (n2 : Int) = n2 := IntWalk.i64_in _ (by omega)
  have hwd : IntKind.i64.wrap (n3 : Int) = n3 := IntWalk.i64_in _ (by omega)
  have hwe : IntKind.i64.wrap ((n0 : Int) * 16777216) = (n0 : Int) * 16777216 := IntWalk.i64_in _ (by omega)
  have hwf : IntKind.i64.wrap ((n1 : Int) * 65536) = (n1 : Int) * 65536 := IntWalk.i64_in _ (by omega)
  have hwg : IntKind.i64.wrap ((n2 : Int) * 256) = (n2 : Int) * 256 := IntWalk.i64_in _ (by omega)
  have j1 : (1 : Int) < (N : Int) := by omega
  have j2 : (2 : Int) < (N : Int) := by omega
  have j3 : (3 : Int) < (N : Int) := by omega
  have j0 : (0 : Int) < (N : Int) := by omega
  have HC0 := Lib.hid hc0; have HC1 := Lib.hid hc1; have HC2 := Lib.hid hc2; have HC3 := Lib.hid hc3
  clear hc0 hc1 hc2 hc3 hcell hn0 hn1 hn2 hn3 h4 hZ1 hZ2 hb0 hb1 hb2 hb3
  rcases hy : isI Y with _ | _
  · obtain ⟨h1, h2⟩ := open_no (x := x) HIN.out (by rw [HOK.out, hy]; rfl)
    rw [h1, h2]
    have HY := Lib.hid hy
    clear h1 h2 hy
    go_enter Try.func17, Try.ntmps17
    go_wp2_with fail
    refine wp_gen (fun wr hwr => ?_)
    have hB0 : Below w.heap.size w wr := by rw [hwr]; exact (Below.refl _ _).next (Nat.le_refl _) _
    have hk0 : Blk wr w.heap.size #[.int .i64 x, .int .i64 yk] 37 := by rw [hwr]; exact Blk.new _ _ _
    have HKR := Lib.hid hk0
    clear hwr hk0
    refine region_grows _ (Nat.le_refl _) [isV 0 (.slice (some ⟨b0, off, none⟩) N c), isV 1 (.pointer (some ⟨b0, off, none⟩)), isV 2 (.int .u8 (n0 : Int)), isV 3 (.int .i64 (n0 : Int)), isV 4 (.int .i64 ((n0 : Int) * 16777216)), isV 5 (.slice (some ⟨b0, off, none⟩) N c), isV 6 (.pointer (some ⟨b0, off + 1, none⟩)), isV 7 (.int .u8 (n1 : Int)), isV 8 (.int .i64 (n1 : Int)), isV 9 (.int .i64 ((n1 : Int) * 65536)), isV 10 (.int .i64 Z1), isV 11 (.slice (some ⟨b0, off, none⟩) N c), isV 12 (.pointer (some ⟨b0, off + 2, none⟩)), isV 13 (.int .u8 (n2 : Int)), isV 14 (.int .i64 (n2 : Int)), isV 15 (.int .i64 ((n2 : Int) * 256)), isV 16 (.int .i64 Z2), isV 17 (.slice (some ⟨b0, off, none⟩) N c), isV 18 (.pointer (some ⟨b0, off + 3, none⟩)), isV 19 (.int .u8 (n3 : Int)), isV 20 (.int .i64 (n3 : Int)), isV 21 (.int .i64 Y), isV 22 (.int .i64 Y)]
      [[], [0], [1], [2], [3], [], [5], [6], [7], [8], [4, 9], [], [11], [12], [13], [14], [10, 15], [], [17], [18], [19], [16, 20], [21]] [some 17, some 18, some 19, some 20, some 21, some 22, some 23, some 24, some 25, some 26, some 27, some 28, some 29, some 30, some 31, some 32, some 33, some 34, some 35, some 36, some 37, some 38, some 6] _ (by kernel_rfl) (by kernel_rfl) (by kernel_rfl) (by kernel_rfl) (by kernel_rfl) rfl ?_ ?_ ?_
    · repeat (first | exact st_nil | refine st_cons (by first | exact st_is _ _ | exact st_as _ _ | exact st_row _ _ _ | exact st_rows _ _ _ | exact st_lit _ _ _ _ _ | exact st_args _ _ _ | exact st_bytes _ _) ?_)
    · intro hgz
      refine ⟨?_, ?_, ?_, ?_, ?_, ?_, ?_, ?_, ?_, ?_, ?_, ?_, ?_, ?_, ?_, ?_, ?_, ?_, ?_, ?_, ?_, ?_, ?_, trivial⟩ <;> intro vals w1 hb hf <;> obtain ⟨hb, hz⟩ := hgz w1 hb <;> simp [leans, factsOf, phi, sel_lit, sel_row, sel_rows, sel_args, sel_bytes, isV, asV, sel] at hf <;> simp [putD, phi, Act.put]
      · -- 0 move 
        go_wp2
        exact ⟨rfl, rfl, .refl _ _, mk_is rfl⟩
      · -- 1 indexAddr 
        simp only [hf]; clear hf
        go_wp2
        exact ⟨rfl, rfl, .refl _ _, mk_is rfl⟩
      · -- 2 load 
        simp only [hf]; clear hf
        have cL := ((hB0.trans (hb.below.mono hB0.size)).cell (block_lt_of_cell HC0.out)).trans HC0.out
        go_wp2
        exact ⟨rfl, rfl, .refl _ _, mk_is rfl⟩
      · -- 3 convert 
        simp only [hf]; clear hf
        go_wp2
        exact ⟨rfl, rfl, .refl _ _, mk_is rfl⟩
      · -- 4 binOp 
        simp only [hf]; clear hf
        go_wp2
        exact ⟨rfl, rfl, .refl _ _, mk_is rfl⟩
      · -- 5 move 
        go_wp2
        exact ⟨rfl, rfl, .refl _ _, mk_is rfl⟩
      · -- 6 indexAddr 
        simp only [hf]; clear hf
        go_wp2
        exact ⟨rfl, rfl, .refl _ _, mk_is rfl⟩
      · -- 7 load 
        simp only [hf]; clear hf
        have cL := ((hB0.trans (hb.below.mono hB0.size)).cell (block_lt_of_cell HC1.out)).trans HC1.out
        go_wp2
        exact ⟨rfl, rfl, .refl _ _, mk_is rfl⟩
      · -- 8 convert 
        simp only [hf]; clear hf
        go_wp2
        exact ⟨rfl, rfl, .refl _ _, mk_is rfl⟩
      · -- 9 binOp 
        simp only [hf]; clear hf
        go_wp2
        exact ⟨rfl, rfl, .refl _ _, mk_is rfl⟩
      · -- 10 binOp 
        simp only [hf]; clear hf
        go_wp2
        exact ⟨rfl, rfl, .refl _ _, mk_is rfl⟩
      · -- 11 move 
        go_wp2
        exact ⟨rfl, rfl, .refl _ _, mk_is rfl⟩
      · -- 12 indexAddr 
        simp only [hf]; clear hf
        go_wp2
        exact ⟨rfl, rfl, .refl _ _, mk_is rfl⟩
      · -- 13 load 
        simp only [hf]; clear hf
        have cL := ((hB0.trans (hb.below.mono hB0.size)).cell (block_lt_of_cell HC2.out)).trans HC2.out
        go_wp2
        exact ⟨rfl, rfl, .refl _ _, mk_is rfl⟩
      · -- 14 convert 
        simp only [hf]; clear hf
        go_wp2
        exact ⟨rfl, rfl, .refl _ _, mk_is rfl⟩
      · -- 15 binOp 
        simp only [hf]; clear hf
        go_wp2
        exact ⟨rfl, rfl, .refl _ _, mk_is rfl⟩
      · -- 16 binOp 
        simp only [hf]; clear hf
        go_wp2
        exact ⟨rfl, rfl, .refl _ _, mk_is rfl⟩
      · -- 17 move 
        go_wp2
        exact ⟨rfl, rfl, .refl _ _, mk_is rfl⟩
      · -- 18 indexAddr 
        simp only [hf]; clear hf
        go_wp2
        exact ⟨rfl, rfl, .refl _ _, mk_is rfl⟩
      · -- 19 load 
        simp only [hf]; clear hf
        have cL := ((hB0.trans (hb.below.mono hB0.size)).cell (block_lt_of_cell HC3.out)).trans HC3.out
        go_wp2
        exact ⟨rfl, rfl, .refl _ _, mk_is rfl⟩
      · -- 20 convert 
        simp only [hf]; clear hf
        go_wp2
        exact ⟨rfl, rfl, .refl _ _, mk_is rfl⟩
      · -- 21 binOp 
        simp only [hf]; clear hf
        go_wp2
        exact ⟨rfl, rfl, .refl _ _, mk_is rfl⟩
      · -- 22 assign 
        simp only [hf]; clear hf
        go_wp2
        exact ⟨rfl, rfl, .refl _ _, mk_is rfl⟩
    · intro vals w1 hb hf; simp [leans, List.range, List.range.loop, factsOf, phi, sel_lit, sel_row, sel_rows, sel_args, sel_bytes, isV, asV, sel] at hf; simp [putD, List.range, List.range.loop, Act.put, hf]
      clear hf
      have hb1 := hB0.later (hb.below.mono (Nat.le_refl _)) (Nat.le_refl _)
      have FO1 := Lib.hid (R1.out.below hb1)
      have FD1 := Lib.hid (R2.out.below hb1)
      have FB1 := Lib.hid (R3.out.below hb1)
      have FK1 := Lib.hid (HKR.out.keep hb.below); have HB1 : Hid (Below w.heap.size w w1) := Lib.hid hb1
      clear hb hb1 HKR hB0 R1 R2 R3
      have cK0 := FK1.out.cell 0
      have cK1 := FK1.out.cell 1
      go_wp2_with fail
      clear cK0 cK1
      refine (rshared_st x yk Y _).mono ?_
      rintro e w2 ⟨rfl, hb2⟩
      rw [HS.out, HY.out]
      have FO2 : Hid (Row8 w2 (some ⟨b0, off, none⟩) 4 O) := Lib.hid (FO1.out.below hb2)
      have FD2 : Hid (Row8 w2 (some ⟨b0, off + 4, none⟩) 8 D) := Lib.hid (FD1.out.below hb2)
      have FB2 : Hid (Row8 w2 (some a12) (N - 12) B) := Lib.hid (FB1.out.below hb2)
      have FK2 : Hid (Blk w2 w.heap.size #[.int .i64 x, .int .i64 yk] 37) := Lib.hid (FK1.out.keep hb2)
      have HB2 : Hid (Below w.heap.size w w2) := Lib.hid (HB1.out.later hb2 (Nat.le_refl _))
      clear FO1 FD1 FB1 FK1 HB1
      clear hb2
      go_wp2_with (first
        | (refine wpList_store_row rfl 23 _ _ rfl (w2.heap.size) (HC S) rfl rfl 23 zeros32 (Blk.newAt _ _ rfl) S1.out S2.out (HC_one _) ?_
           refine wpl_gen (fun w3 hw3 => ?_)
           have hb3 : Below w2.heap.size w2 w3 := by rw [hw3]; exact below_setRow ((Below.refl _ _).next (Nat.le_refl _) _) _ (Nat.le_refl _)
           have hq3 : Blk w3 (w2.heap.size) (HC S) 23 := by rw [hw3]; exact (Blk.newAt _ _ rfl).setRow _
           clear hw3
           have FO3 : Hid (Row8 w3 (some ⟨b0, off, none⟩) 4 O) := Lib.hid (FO2.out.below hb3)
           have FD3 : Hid (Row8 w3 (some ⟨b0, off + 4, none⟩) 8 D) := Lib.hid (FD2.out.below hb3)
           have FB3 : Hid (Row8 w3 (some a12) (N - 12) B) := Lib.hid (FB2.out.below hb3)
           have FK3 : Hid (Blk w3 w.heap.size #[.int .i64 x, .int .i64 yk] 37) := Lib.hid (FK2.out.keep hb3)
           have HB3 : Hid (Below w.heap.size w w3) := Lib.hid (HB2.out.later hb3 (Nat.le_refl _))
           clear FO2 FD2 FB2 FK2 HB2
           have FS3 : Hid (Blk w3 (w2.heap.size) (HC S) 23) := Lib.hid (hq3)
           clear hb3 hq3))
      refine wp_gen (fun wr hwr => ?_)
      have FOr : Hid (Row8 wr (some ⟨b0, off, none⟩) 4 O) := Lib.hid (by rw [hwr]; exact FO3.out)
      have FDr : Hid (Row8 wr (some ⟨b0, off + 4, none⟩) 8 D) := Lib.hid (by rw [hwr]; exact FD3.out)
      have FBr : Hid (Row8 wr (some a12) (N - 12) B) := Lib.hid (by rw [hwr]; exact FB3.out)
      have FSr : Hid (Blk wr (w2.heap.size) (HC S) 23) := Lib.hid (by rw [hwr]; exact FS3.out)
      have hB0 : Below w.heap.size w wr := by rw [hwr]; exact HB3.out
      clear hwr
      refine region_grows _ (Nat.le_refl _) [isV 0 (.bool false), isV 1 (.bool true), isV 2 (.bool true), isV 3 undef, isV 4 undef, isV 5 undef, isV 6 undef, isV 7 undef, isV 8 undef, isV 9 undef, isV 10 undef, isV 11 undef, isV 12 undef, isV 13 undef, isV 14 (.bool true)]
        [[], [0], [1], [2], [2], [2, 4], [2], [2, 6], [2, 3, 5, 7], [2, 8], [2], [2, 10], [2, 11], [2, 9, 12], [2, 13]] [some 45, some 46, some 47, some 48, some 49, some 50, some 51, some 52, some 53, some 54, some 55, some 56, some 57, some 58, some 59] _ (by kernel_rfl) (by kernel_rfl) (by kernel_rfl) (by kernel_rfl) (by kernel_rfl) rfl ?_ ?_ ?_
      · repeat (first | exact st_nil | refine st_cons (by first | exact st_is _ _ | exact st_as _ _ | exact st_row _ _ _ | exact st_rows _ _ _ | exact st_lit _ _ _ _ _ | exact st_args _ _ _ | exact st_bytes _ _) ?_)
      · intro hgz
        refine ⟨?_, ?_, ?_, ?_, ?_, ?_, ?_, ?_, ?_, ?_, ?_, ?_, ?_, ?_, ?_, trivial⟩ <;> intro vals w1 hb hf <;> obtain ⟨hb, hz⟩ := hgz w1 hb <;> simp [leans, factsOf, phi, sel_lit, sel_row, sel_rows, sel_args, sel_bytes, isV, asV, sel] at hf <;> simp [putD, phi, Act.put]
        · -- 0 move 
          go_wp2
          exact ⟨rfl, rfl, .refl _ _, mk_is rfl⟩
        · -- 1 unOp 
          simp only [hf]; clear hf
          go_wp2
          exact ⟨rfl, rfl, .refl _ _, mk_is rfl⟩
        · -- 2 move 
          simp only [hf]; clear hf
          go_wp2
          exact ⟨rfl, rfl, .refl _ _, mk_is rfl⟩
        · -- 3 load if some (2, false)
          simp only [hf]; clear hf
          go_wp2
          exact ⟨rfl, rfl, .refl _ _, mk_is rfl⟩
        · -- 4 move if some (2, false)
          simp only [hf]; clear hf
          go_wp2
          exact ⟨rfl, rfl, .refl _ _, mk_is rfl⟩
        · -- 5 slice if some (2, false)
          simp only [hf]; clear hf
          go_wp2
          exact ⟨rfl, rfl, .refl _ _, mk_is rfl⟩
        · -- 6 move if some (2, false)
          simp only [hf]; clear hf
          go_wp2
          exact ⟨rfl, rfl, .refl _ _, mk_is rfl⟩
        · -- 7 slice if some (2, false)
          simp only [hf]; clear hf
          go_wp2
          exact ⟨rfl, rfl, .refl _ _, mk_is rfl⟩
        · -- 8 call curia/curiaref5.tag if some (2, false)
          simp only [hf]; clear hf
          go_wp2
          exact ⟨rfl, rfl, .refl _ _, mk_is rfl⟩
        · -- 9 convert if some (2, false)
          simp only [hf]; clear hf
          go_wp2
          exact ⟨rfl, rfl, .refl _ _, mk_is rfl⟩
        · -- 10 move if some (2, false)
          simp only [hf]; clear hf
          go_wp2
          exact ⟨rfl, rfl, .refl _ _, mk_is rfl⟩
        · -- 11 slice if some (2, false)
          simp only [hf]; clear hf
          go_wp2
          exact ⟨rfl, rfl, .refl _ _, mk_is rfl⟩
        · -- 12 convert if some (2, false)
          simp only [hf]; clear hf
          go_wp2
          exact ⟨rfl, rfl, .refl _ _, mk_is rfl⟩
        · -- 13 binOp if some (2, false)
          simp only [hf]; clear hf
          go_wp2
          exact ⟨rfl, rfl, .refl _ _, mk_is rfl⟩
        · -- 14 pick 
          simp only [hf]; clear hf
          go_wp2
          exact ⟨rfl, rfl, .refl _ _, mk_is rfl⟩
      · intro vals w1 hb hf; simp [leans, List.range, List.range.loop, factsOf, phi, sel_lit, sel_row, sel_rows, sel_args, sel_bytes, isV, asV, sel] at hf; simp [putD, List.range, List.range.loop, Act.put, hf]
        have HBL := Lib.hid (hB0.later (hb.below.mono (Nat.le_refl _)) (Nat.le_refl _))
        clear hb hf hB0
        go_wp2
        refine bodyPost_ret (results_tmp2 rfl _ _ _) rfl ?_
        exact ⟨_, rfl, World.ownsRow_nil _ _ _ _, HBL.out⟩
  rcases hdt : (D == T) with _ | _
  · obtain ⟨h1, h2⟩ := open_no (x := x) HIN.out (by rw [HOK.out, hy, hdt]; rfl)
    rw [h1, h2]
    have HTD := Lib.hid (show (T == D) = false by rw [← hdt]; exact BEq.comm); have HY := Lib.hid hy
    clear h1 h2 hdt hy
    go_enter Try.func17, Try.ntmps17
    go_wp2_with fail
    refine wp_gen (fun wr hwr => ?_)
    have hB0 : Below w.heap.size w wr := by rw [hwr]; exact (Below.refl _ _).next (Nat.le_refl _) _
    have hk0 : Blk wr w.heap.size #[.int .i64 x, .int .i64 yk] 37 := by rw [hwr]; exact Blk.new _ _ _
    have HKR := Lib.hid hk0
    clear hwr hk0
    refine region_grows _ (Nat.le_refl _) [isV 0 (.slice (some ⟨b0, off, none⟩) N c), isV 1 (.pointer (some ⟨b0, off, none⟩)), isV 2 (.int .u8 (n0 : Int)), isV 3 (.int .i64 (n0 : Int)), isV 4 (.int .i64 ((n0 : Int) * 16777216)), isV 5 (.slice (some ⟨b0, off, none⟩) N c), isV 6 (.pointer (some ⟨b0, off + 1, none⟩)), isV 7 (.int .u8 (n1 : Int)), isV 8 (.int .i64 (n1 : Int)), isV 9 (.int .i64 ((n1 : Int) * 65536)), isV 10 (.int .i64 Z1), isV 11 (.slice (some ⟨b0, off, none⟩) N c), isV 12 (.pointer (some ⟨b0, off + 2, none⟩)), isV 13 (.int .u8 (n2 : Int)), isV 14 (.int .i64 (n2 : Int)), isV 15 (.int .i64 ((n2 : Int) * 256)), isV 16 (.int .i64 Z2), isV 17 (.slice (some ⟨b0, off, none⟩) N c), isV 18 (.pointer (some ⟨b0, off + 3, none⟩)), isV 19 (.int .u8 (n3 : Int)), isV 20 (.int .i64 (n3 : Int)), isV 21 (.int .i64 Y), isV 22 (.int .i64 Y)]
      [[], [0], [1], [2], [3], [], [5], [6], [7], [8], [4, 9], [], [11], [12], [13], [14], [10, 15], [], [17], [18], [19], [16, 20], [21]] [some 17, some 18, some 19, some 20, some 21, some 22, some 23, some 24, some 25, some 26, some 27, some 28, some 29, some 30, some 31, some 32, some 33, some 34, some 35, some 36, some 37, some 38, some 6] _ (by kernel_rfl) (by kernel_rfl) (by kernel_rfl) (by kernel_rfl) (by kernel_rfl) rfl ?_ ?_ ?_
    · repeat (first | exact st_nil | refine st_cons (by first | exact st_is _ _ | exact st_as _ _ | exact st_row _ _ _ | exact st_rows _ _ _ | exact st_lit _ _ _ _ _ | exact st_args _ _ _ | exact st_bytes _ _) ?_)
    · intro hgz
      refine ⟨?_, ?_, ?_, ?_, ?_, ?_, ?_, ?_, ?_, ?_, ?_, ?_, ?_, ?_, ?_, ?_, ?_, ?_, ?_, ?_, ?_, ?_, ?_, trivial⟩ <;> intro vals w1 hb hf <;> obtain ⟨hb, hz⟩ := hgz w1 hb <;> simp [leans, factsOf, phi, sel_lit, sel_row, sel_rows, sel_args, sel_bytes, isV, asV, sel] at hf <;> simp [putD, phi, Act.put]
      · -- 0 move 
        go_wp2
        exact ⟨rfl, rfl, .refl _ _, mk_is rfl⟩
      · -- 1 indexAddr 
        simp only [hf]; clear hf
        go_wp2
        exact ⟨rfl, rfl, .refl _ _, mk_is rfl⟩
      · -- 2 load 
        simp only [hf]; clear hf
        have cL := ((hB0.trans (hb.below.mono hB0.size)).cell (block_lt_of_cell HC0.out)).trans HC0.out
        go_wp2
        exact ⟨rfl, rfl, .refl _ _, mk_is rfl⟩
      · -- 3 convert 
        simp only [hf]; clear hf
        go_wp2
        exact ⟨rfl, rfl, .refl _ _, mk_is rfl⟩
      · -- 4 binOp 
        simp only [hf]; clear hf
        go_wp2
        exact ⟨rfl, rfl, .refl _ _, mk_is rfl⟩
      · -- 5 move 
        go_wp2
        exact ⟨rfl, rfl, .refl _ _, mk_is rfl⟩
      · -- 6 indexAddr 
        simp only [hf]; clear hf
        go_wp2
        exact ⟨rfl, rfl, .refl _ _, mk_is rfl⟩
      · -- 7 load 
        simp only [hf]; clear hf
        have cL := ((hB0.trans (hb.below.mono hB0.size)).cell (block_lt_of_cell HC1.out)).trans HC1.out
        go_wp2
        exact ⟨rfl, rfl, .refl _ _, mk_is rfl⟩
      · -- 8 convert 
        simp only [hf]; clear hf
        go_wp2
        exact ⟨rfl, rfl, .refl _ _, mk_is rfl⟩
      · -- 9 binOp 
        simp only [hf]; clear hf
        go_wp2
        exact ⟨rfl, rfl, .refl _ _, mk_is rfl⟩
      · -- 10 binOp 
        simp only [hf]; clear hf
        go_wp2
        exact ⟨rfl, rfl, .refl _ _, mk_is rfl⟩
      · -- 11 move 
        go_wp2
        exact ⟨rfl, rfl, .refl _ _, mk_is rfl⟩
      · -- 12 indexAddr 
        simp only [hf]; clear hf
        go_wp2
        exact ⟨rfl, rfl, .refl _ _, mk_is rfl⟩
      · -- 13 load 
        simp only [hf]; clear hf
        have cL := ((hB0.trans (hb.below.mono hB0.size)).cell (block_lt_of_cell HC2.out)).trans HC2.out
        go_wp2
        exact ⟨rfl, rfl, .refl _ _, mk_is rfl⟩
      · -- 14 convert 
        simp only [hf]; clear hf
        go_wp2
        exact ⟨rfl, rfl, .refl _ _, mk_is rfl⟩
      · -- 15 binOp 
        simp only [hf]; clear hf
        go_wp2
        exact ⟨rfl, rfl, .refl _ _, mk_is rfl⟩
      · -- 16 binOp 
        simp only [hf]; clear hf
        go_wp2
        exact ⟨rfl, rfl, .refl _ _, mk_is rfl⟩
      · -- 17 move 
        go_wp2
        exact ⟨rfl, rfl, .refl _ _, mk_is rfl⟩
      · -- 18 indexAddr 
        simp only [hf]; clear hf
        go_wp2
        exact ⟨rfl, rfl, .refl _ _, mk_is rfl⟩
      · -- 19 load 
        simp only [hf]; clear hf
        have cL := ((hB0.trans (hb.below.mono hB0.size)).cell (block_lt_of_cell HC3.out)).trans HC3.out
        go_wp2
        exact ⟨rfl, rfl, .refl _ _, mk_is rfl⟩
      · -- 20 convert 
        simp only [hf]; clear hf
        go_wp2
        exact ⟨rfl, rfl, .refl _ _, mk_is rfl⟩
      · -- 21 binOp 
        simp only [hf]; clear hf
        go_wp2
        exact ⟨rfl, rfl, .refl _ _, mk_is rfl⟩
      · -- 22 assign 
        simp only [hf]; clear hf
        go_wp2
        exact ⟨rfl, rfl, .refl _ _, mk_is rfl⟩
    · intro vals w1 hb hf; simp [leans, List.range, List.range.loop, factsOf, phi, sel_lit, sel_row, sel_rows, sel_args, sel_bytes, isV, asV, sel] at hf; simp [putD, List.range, List.range.loop, Act.put, hf]
      clear hf
      have hb1 := hB0.later (hb.below.mono (Nat.le_refl _)) (Nat.le_refl _)
      have FO1 := Lib.hid (R1.out.below hb1)
      have FD1 := Lib.hid (R2.out.below hb1)
      have FB1 := Lib.hid (R3.out.below hb1)
      have FK1 := Lib.hid (HKR.out.keep hb.below); have HB1 : Hid (Below w.heap.size w w1) := Lib.hid hb1
      clear hb hb1 HKR hB0 R1 R2 R3
      have cK0 := FK1.out.cell 0
      have cK1 := FK1.out.cell 1
      go_wp2_with fail
      clear cK0 cK1
      refine (rshared_st x yk Y _).mono ?_
      rintro e w2 ⟨rfl, hb2⟩
      rw [HS.out, HY.out]
      have FO2 : Hid (Row8 w2 (some ⟨b0, off, none⟩) 4 O) := Lib.hid (FO1.out.below hb2)
      have FD2 : Hid (Row8 w2 (some ⟨b0, off + 4, none⟩) 8 D) := Lib.hid (FD1.out.below hb2)
      have FB2 : Hid (Row8 w2 (some a12) (N - 12) B) := Lib.hid (FB1.out.below hb2)
      have FK2 : Hid (Blk w2 w.heap.size #[.int .i64 x, .int .i64 yk] 37) := Lib.hid (FK1.out.keep hb2)
      have HB2 : Hid (Below w.heap.size w w2) := Lib.hid (HB1.out.later hb2 (Nat.le_refl _))
      clear FO1 FD1 FB1 FK1 HB1
      clear hb2
      go_wp2_with (first
        | (refine wpList_store_row rfl 23 _ _ rfl (w2.heap.size) (HC S) rfl rfl 23 zeros32 (Blk.newAt _ _ rfl) S1.out S2.out (HC_one _) ?_
           refine wpl_gen (fun w3 hw3 => ?_)
           have hb3 : Below w2.heap.size w2 w3 := by rw [hw3]; exact below_setRow ((Below.refl _ _).next (Nat.le_refl _) _) _ (Nat.le_refl _)
           have hq3 : Blk w3 (w2.heap.size) (HC S) 23 := by rw [hw3]; exact (Blk.newAt _ _ rfl).setRow _
           clear hw3
           have FO3 : Hid (Row8 w3 (some ⟨b0, off, none⟩) 4 O) := Lib.hid (FO2.out.below hb3)
           have FD3 : Hid (Row8 w3 (some ⟨b0, off + 4, none⟩) 8 D) := Lib.hid (FD2.out.below hb3)
           have FB3 : Hid (Row8 w3 (some a12) (N - 12) B) := Lib.hid (FB2.out.below hb3)
           have FK3 : Hid (Blk w3 w.heap.size #[.int .i64 x, .int .i64 yk] 37) := Lib.hid (FK2.out.keep hb3)
           have HB3 : Hid (Below w.heap.size w w3) := Lib.hid (HB2.out.later hb3 (Nat.le_refl _))
           clear FO2 FD2 FB2 FK2 HB2
           have FS3 : Hid (Blk w3 (w2.heap.size) (HC S) 23) := Lib.hid (hq3)
           clear hb3 hq3))
      refine wp_gen (fun wr hwr => ?_)
      have FOr : Hid (Row8 wr (some ⟨b0, off, none⟩) 4 O) := Lib.hid (by rw [hwr]; exact FO3.out)
      have FDr : Hid (Row8 wr (some ⟨b0, off + 4, none⟩) 8 D) := Lib.hid (by rw [hwr]; exact FD3.out)
      have FBr : Hid (Row8 wr (some a12) (N - 12) B) := Lib.hid (by rw [hwr]; exact FB3.out)
      have FSr : Hid (Blk wr (w2.heap.size) (HC S) 23) := Lib.hid (by rw [hwr]; exact FS3.out)
      have hB0 : Below w.heap.size w wr := by rw [hwr]; exact HB3.out
      clear hwr
      refine region_muts [] _ (Nat.le_refl _) (fun S vals w => hasF 8 (isBytes 8 (T)) S vals w) [isV 0 (.bool true), isV 1 (.bool false), isV 2 (.bool false), isV 3 (HV S), isV 4 (.slice (some ⟨b0, off, none⟩) N c), isV 5 (.slice (some ⟨b0, off, none⟩) 4 c), isV 6 (.slice (some ⟨b0, off, none⟩) N c), isV 7 (.slice (some a12) (N - 12) (c - 12)), anyV, isV 9 (.string (strB T)), isV 10 (.slice (some ⟨b0, off, none⟩) N c), isV 11 (.slice (some ⟨b0, off + 4, none⟩) 8 (c - 4)), isV 12 (.string (strB D)), isV 13 (.bool true), isV 14 (.bool true)]
        [[], [0], [1], [2], [2], [2, 4], [2], [2, 6], [2, 3, 5, 7], [2, 8], [2], [2, 10], [2, 11], [2, 9, 12], [2, 13]] [some 45, some 46, some 47, some 48, some 49, some 50, some 51, some 52, some 53, some 54, some 55, some 56, some 57, some 58, some 59] _ (by kernel_rfl) (by kernel_rfl) (by kernel_rfl) (by kernel_rfl) (by kernel_rfl) rfl ?_ ?_ ?_ ?_
      · repeat (first | exact stT_nil | refine stT_cons (by first | exact stT_is _ _ | exact stT_as _ _ | exact stT_any | exact stT_lit _ _ _ _ _ (by decide) | exact stT_rowOf _ _ _ _ (by decide) (by decide)) ?_)
      · exact hasF.start _ _ _ _
      · intro hgz
        refine ⟨?_, ?_, ?_, ?_, ?_, ?_, ?_, ?_, ?_, ?_, ?_, ?_, ?_, ?_, ?_, trivial⟩ <;> intro S_ vals w1 hb hSi hdn hcl hG hf <;> obtain ⟨hb, hz⟩ := hgz w1 hb <;> simp [leans, factsOf, phi, sel_lit, sel_rowOf, isV, asV, anyV, sel] at hf <;> simp [putD, phi, Act.put]
        · -- 0 move 
          go_wp2
          exact ⟨rfl, rfl, .refl _ _ _, mk_is rfl, hG.keep (bm_bytes _ _) _ 0 (by decide) (Below.refl _ _)⟩
        · -- 1 unOp 
          simp only [hf]; clear hf
          go_wp2
          exact ⟨rfl, rfl, .refl _ _ _, mk_is rfl, hG.keep (bm_bytes _ _) _ 1 (by decide) (Below.refl _ _)⟩
        · -- 2 move 
          simp only [hf]; clear hf
          go_wp2
          exact ⟨rfl, rfl, .refl _ _ _, mk_is rfl, hG.keep (bm_bytes _ _) _ 2 (by decide) (Below.refl _ _)⟩
        · -- 3 load if some (2, false)
          simp only [hf]; clear hf
          refine one_wanted rfl ?_
          refine wpList_load_row rfl 23 _ rfl _ rfl 23 (HC S) (0, 0) _ (FSr.out.keep hb.below) Try.underlying23 rfl S1.out ?_
          exact ⟨rfl, rfl, .refl _ _ _, mk_is rfl, hG.keep (bm_bytes _ _) _ 3 (by decide) (Below.refl _ _)⟩
        · -- 4 move if some (2, false)
          simp only [hf]; clear hf
          go_wp2
          exact ⟨rfl, rfl, .refl _ _ _, mk_is rfl, hG.keep (bm_bytes _ _) _ 4 (by decide) (Below.refl _ _)⟩
        · -- 5 slice if some (2, false)
          simp only [hf]; clear hf
          go_wp2
          exact ⟨rfl, rfl, .refl _ _ _, mk_is rfl, hG.keep (bm_bytes _ _) _ 5 (by decide) (Below.refl _ _)⟩
        · -- 6 move if some (2, false)
          simp only [hf]; clear hf
          go_wp2
          exact ⟨rfl, rfl, .refl _ _ _, mk_is rfl, hG.keep (bm_bytes _ _) _ 6 (by decide) (Below.refl _ _)⟩
        · -- 7 slice if some (2, false)
          simp only [hf]; clear hf
          go_wp2
          all_goals refine ⟨rfl, rfl, .refl _ _ _, mk_is ?_, hG.keep (bm_bytes _ _) _ 7 (by decide) (Below.refl _ _)⟩
          all_goals first | (rw [← ha12, if_pos rfl]; rfl) | (rw [← ha12, if_pos (by assumption)]; rfl) | (rw [← ha12, if_neg (by assumption)]; rfl) | (rw [← ha12, if_neg (by omega)]; rfl)
        · -- 8 call curia/curiaref5.tag if some (2, false)
          simp only [hf]; clear hf
          go_wp2_with (first | (go_at_call 31; refine (rtag_any S HSL.out _ _ _ O _ _ _ B _ ⟨FOr.out.below hb.below, fun e => by cases e⟩ ⟨FBr.out.below hb.below, fun e => by cases e⟩ (by rw [HOL.out, HBL.out]; have := H212.out; omega)).mono ?_; rintro e w' ⟨v8, rfl, ho8, hb'⟩; rw [HT.out] at ho8; obtain ⟨a8, c8, rfl, hc8⟩ := ho8.toC (by rw [HTL.out]; decide); rw [HTL.out] at hc8 ⊢))
          exact ⟨rfl, rfl, GrowsT.of hb' hz, mk_any, hasF.new (⟨_, _, rfl, hc8.row, hc8.nil⟩)⟩
        · -- 9 convert if some (2, false)
          obtain ⟨a8, c8, hv8, hr8, hn8⟩ := hG.get (hdn 8 (by decide))
          simp only [hf, hv8]
          have HR8 := Lib.hid hr8; clear hr8
          have kS := HR8.out.str (P := Try.prog) 24 9 5 c8 Try.underlying24 Try.underlying5 Try.underlying9
          go_wp2
          exact ⟨rfl, rfl, .refl _ _ _, mk_is rfl, hG.keep (bm_bytes _ _) _ 9 (by decide) (Below.refl _ _)⟩
        · -- 10 move if some (2, false)
          simp only [hf]; clear hf
          go_wp2
          exact ⟨rfl, rfl, .refl _ _ _, mk_is rfl, hG.keep (bm_bytes _ _) _ 10 (by decide) (Below.refl _ _)⟩
        · -- 11 slice if some (2, false)
          simp only [hf]; clear hf
          go_wp2
          exact ⟨rfl, rfl, .refl _ _ _, mk_is rfl, hG.keep (bm_bytes _ _) _ 11 (by decide) (Below.refl _ _)⟩
        · -- 12 convert if some (2, false)
          simp only [hf]; clear hf
          have kS := (FDr.out.below hb.below).str (P := Try.prog) 24 9 5 (c - 4) Try.underlying24 Try.underlying5 Try.underlying9
          go_wp2
          exact ⟨rfl, rfl, .refl _ _ _, mk_is rfl, hG.keep (bm_bytes _ _) _ 12 (by decide) (Below.refl _ _)⟩
        · -- 13 binOp if some (2, false)
          simp only [hf]; clear hf
          have e1 : (strB T).toList = T := ByteArray.toList_mk T
          have e2 : (strB D).toList = D := ByteArray.toList_mk D
          have e3 : (T == D) = false := HTD.out
          have e4 : (T != D) = true := by rw [bne, e3]; rfl
          go_wp2
          exact ⟨rfl, rfl, .refl _ _ _, mk_is rfl, hG.keep (bm_bytes _ _) _ 13 (by decide) (Below.refl _ _)⟩
        · -- 14 pick 
          simp only [hf]; clear hf
          go_wp2
          exact ⟨rfl, rfl, .refl _ _ _, mk_is rfl, hG.keep (bm_bytes _ _) _ 14 (by decide) (Below.refl _ _)⟩
      · intro vals w1 hb hG hf; simp [leans, List.range, List.range.loop, factsOf, phi, sel_lit, sel_rowOf, isV, asV, anyV, sel] at hf; simp [putD, List.range, List.range.loop, Act.put, hf]
        have HBL2 := Lib.hid (hB0.later (hb.below.mono (Nat.le_refl _)) (Nat.le_refl _))
        clear hG hb hf hB0
        go_wp2
        refine bodyPost_ret (results_tmp2 rfl _ _ _) rfl ?_
        exact ⟨_, rfl, World.ownsRow_nil _ _ _ _, HBL2.out⟩
  · obtain ⟨h1, h2⟩ := open_yes (x := x) HIN.out (by rw [HOK.out, hy, hdt]; rfl)
    rw [h1, h2, HXR.out]
    have HTD := Lib.hid (show (T == D) = true by rw [← hdt]; exact BEq.comm); have HY := Lib.hid hy
    clear h1 h2 hdt hy
    go_enter Try.func17, Try.ntmps17
    go_wp2_with fail
    refine wp_gen (fun wr hwr => ?_)
    have hB0 : Below w.heap.size w wr := by rw [hwr]; exact (Below.refl _ _).next (Nat.le_refl _) _
    have hk0 : Blk wr w.heap.size #[.int .i64 x, .int .i64 yk] 37 := by rw [hwr]; exact Blk.new _ _ _
    have HKR := Lib.hid hk0
    clear hwr hk0
    refine region_grows _ (Nat.le_refl _) [isV 0 (.slice (some ⟨b0, off, none⟩) N c), isV 1 (.pointer (some ⟨b0, off, none⟩)), isV 2 (.int .u8 (n0 : Int)), isV 3 (.int .i64 (n0 : Int)), isV 4 (.int .i64 ((n0 : Int) * 16777216)), isV 5 (.slice (some ⟨b0, off, none⟩) N c), isV 6 (.pointer (some ⟨b0, off + 1, none⟩)), isV 7 (.int .u8 (n1 : Int)), isV 8 (.int .i64 (n1 : Int)), isV 9 (.int .i64 ((n1 : Int) * 65536)), isV 10 (.int .i64 Z1), isV 11 (.slice (some ⟨b0, off, none⟩) N c), isV 12 (.pointer (some ⟨b0, off + 2, none⟩)), isV 13 (.int .u8 (n2 : Int)), isV 14 (.int .i64 (n2 : Int)), isV 15 (.int .i64 ((n2 : Int) * 256)), isV 16 (.int .i64 Z2), isV 17 (.slice (some ⟨b0, off, none⟩) N c), isV 18 (.pointer (some ⟨b0, off + 3, none⟩)), isV 19 (.int .u8 (n3 : Int)), isV 20 (.int .i64 (n3 : Int)), isV 21 (.int .i64 Y), isV 22 (.int .i64 Y)]
      [[], [0], [1], [2], [3], [], [5], [6], [7], [8], [4, 9], [], [11], [12], [13], [14], [10, 15], [], [17], [18], [19], [16, 20], [21]] [some 17, some 18, some 19, some 20, some 21, some 22, some 23, some 24, some 25, some 26, some 27, some 28, some 29, some 30, some 31, some 32, some 33, some 34, some 35, some 36, some 37, some 38, some 6] _ (by kernel_rfl) (by kernel_rfl) (by kernel_rfl) (by kernel_rfl) (by kernel_rfl) rfl ?_ ?_ ?_
    · repeat (first | exact st_nil | refine st_cons (by first | exact st_is _ _ | exact st_as _ _ | exact st_row _ _ _ | exact st_rows _ _ _ | exact st_lit _ _ _ _ _ | exact st_args _ _ _ | exact st_bytes _ _) ?_)
    · intro hgz
      refine ⟨?_, ?_, ?_, ?_, ?_, ?_, ?_, ?_, ?_, ?_, ?_, ?_, ?_, ?_, ?_, ?_, ?_, ?_, ?_, ?_, ?_, ?_, ?_, trivial⟩ <;> intro vals w1 hb hf <;> obtain ⟨hb, hz⟩ := hgz w1 hb <;> simp [leans, factsOf, phi, sel_lit, sel_row, sel_rows, sel_args, sel_bytes, isV, asV, sel] at hf <;> simp [putD, phi, Act.put]
      · -- 0 move 
        go_wp2
        exact ⟨rfl, rfl, .refl _ _, mk_is rfl⟩
      · -- 1 indexAddr 
        simp only [hf]; clear hf
        go_wp2
        exact ⟨rfl, rfl, .refl _ _, mk_is rfl⟩
      · -- 2 load 
        simp only [hf]; clear hf
        have cL := ((hB0.trans (hb.below.mono hB0.size)).cell (block_lt_of_cell HC0.out)).trans HC0.out
        go_wp2
        exact ⟨rfl, rfl, .refl _ _, mk_is rfl⟩
      · -- 3 convert 
        simp only [hf]; clear hf
        go_wp2
        exact ⟨rfl, rfl, .refl _ _, mk_is rfl⟩
      · -- 4 binOp 
        simp only [hf]; clear hf
        go_wp2
        exact ⟨rfl, rfl, .refl _ _, mk_is rfl⟩
      · -- 5 move 
        go_wp2
        exact ⟨rfl, rfl, .refl _ _, mk_is rfl⟩
      · -- 6 indexAddr 
        simp only [hf]; clear hf
        go_wp2
        exact ⟨rfl, rfl, .refl _ _, mk_is rfl⟩
      · -- 7 load 
        simp only [hf]; clear hf
        have cL := ((hB0.trans (hb.below.mono hB0.size)).cell (block_lt_of_cell HC1.out)).trans HC1.out
        go_wp2
        exact ⟨rfl, rfl, .refl _ _, mk_is rfl⟩
      · -- 8 convert 
        simp only [hf]; clear hf
        go_wp2
        exact ⟨rfl, rfl, .refl _ _, mk_is rfl⟩
      · -- 9 binOp 
        simp only [hf]; clear hf
        go_wp2
        exact ⟨rfl, rfl, .refl _ _, mk_is rfl⟩
      · -- 10 binOp 
        simp only [hf]; clear hf
        go_wp2
        exact ⟨rfl, rfl, .refl _ _, mk_is rfl⟩
      · -- 11 move 
        go_wp2
        exact ⟨rfl, rfl, .refl _ _, mk_is rfl⟩
      · -- 12 indexAddr 
        simp only [hf]; clear hf
        go_wp2
        exact ⟨rfl, rfl, .refl _ _, mk_is rfl⟩
      · -- 13 load 
        simp only [hf]; clear hf
        have cL := ((hB0.trans (hb.below.mono hB0.size)).cell (block_lt_of_cell HC2.out)).trans HC2.out
        go_wp2
        exact ⟨rfl, rfl, .refl _ _, mk_is rfl⟩
      · -- 14 convert 
        simp only [hf]; clear hf
        go_wp2
        exact ⟨rfl, rfl, .refl _ _, mk_is rfl⟩
      · -- 15 binOp 
        simp only [hf]; clear hf
        go_wp2
        exact ⟨rfl, rfl, .refl _ _, mk_is rfl⟩
      · -- 16 binOp 
        simp only [hf]; clear hf
        go_wp2
        exact ⟨rfl, rfl, .refl _ _, mk_is rfl⟩
      · -- 17 move 
        go_wp2
        exact ⟨rfl, rfl, .refl _ _, mk_is rfl⟩
      · -- 18 indexAddr 
        simp only [hf]; clear hf
        go_wp2
        exact ⟨rfl, rfl, .refl _ _, mk_is rfl⟩
      · -- 19 load 
        simp only [hf]; clear hf
        have cL := ((hB0.trans (hb.below.mono hB0.size)).cell (block_lt_of_cell HC3.out)).trans HC3.out
        go_wp2
        exact ⟨rfl, rfl, .refl _ _, mk_is rfl⟩
      · -- 20 convert 
        simp only [hf]; clear hf
        go_wp2
        exact ⟨rfl, rfl, .refl _ _, mk_is rfl⟩
      · -- 21 binOp 
        simp only [hf]; clear hf
        go_wp2
        exact ⟨rfl, rfl, .refl _ _, mk_is rfl⟩
      · -- 22 assign 
        simp only [hf]; clear hf
        go_wp2
        exact ⟨rfl, rfl, .refl _ _, mk_is rfl⟩
    · intro vals w1 hb hf; simp [leans, List.range, List.range.loop, factsOf, phi, sel_lit, sel_row, sel_rows, sel_args, sel_bytes, isV, asV, sel] at hf; simp [putD, List.range, List.range.loop, Act.put, hf]
      clear hf
      have hb1 := hB0.later (hb.below.mono (Nat.le_refl _)) (Nat.le_refl _)
      have FO1 := Lib.hid (R1.out.below hb1)
      have FD1 := Lib.hid (R2.out.below hb1)
      have FB1 := Lib.hid (R3.out.below hb1)
      have FK1 := Lib.hid (HKR.out.keep hb.below); have HB1 : Hid (Below w.heap.size w w1) := Lib.hid hb1
      clear hb hb1 HKR hB0 R1 R2 R3
      have cK0 := FK1.out.cell 0
      have cK1 := FK1.out.cell 1
      go_wp2_with fail
      clear cK0 cK1
      refine (rshared_st x yk Y _).mono ?_
      rintro e w2 ⟨rfl, hb2⟩
      rw [HS.out, HY.out]
      have FO2 : Hid (Row8 w2 (some ⟨b0, off, none⟩) 4 O) := Lib.hid (FO1.out.below hb2)
      have FD2 : Hid (Row8 w2 (some ⟨b0, off + 4, none⟩) 8 D) := Lib.hid (FD1.out.below hb2)
      have FB2 : Hid (Row8 w2 (some a12) (N - 12) B) := Lib.hid (FB1.out.below hb2)
      have FK2 : Hid (Blk w2 w.heap.size #[.int .i64 x, .int .i64 yk] 37) := Lib.hid (FK1.out.keep hb2)
      have HB2 : Hid (Below w.heap.size w w2) := Lib.hid (HB1.out.later hb2 (Nat.le_refl _))
      clear FO1 FD1 FB1 FK1 HB1
      clear hb2
      go_wp2_with (first
        | (refine wpList_store_row rfl 23 _ _ rfl (w2.heap.size) (HC S) rfl rfl 23 zeros32 (Blk.newAt _ _ rfl) S1.out S2.out (HC_one _) ?_
           refine wpl_gen (fun w3 hw3 => ?_)
           have hb3 : Below w2.heap.size w2 w3 := by rw [hw3]; exact below_setRow ((Below.refl _ _).next (Nat.le_refl _) _) _ (Nat.le_refl _)
           have hq3 : Blk w3 (w2.heap.size) (HC S) 23 := by rw [hw3]; exact (Blk.newAt _ _ rfl).setRow _
           clear hw3
           have FO3 : Hid (Row8 w3 (some ⟨b0, off, none⟩) 4 O) := Lib.hid (FO2.out.below hb3)
           have FD3 : Hid (Row8 w3 (some ⟨b0, off + 4, none⟩) 8 D) := Lib.hid (FD2.out.below hb3)
           have FB3 : Hid (Row8 w3 (some a12) (N - 12) B) := Lib.hid (FB2.out.below hb3)
           have FK3 : Hid (Blk w3 w.heap.size #[.int .i64 x, .int .i64 yk] 37) := Lib.hid (FK2.out.keep hb3)
           have HB3 : Hid (Below w.heap.size w w3) := Lib.hid (HB2.out.later hb3 (Nat.le_refl _))
           clear FO2 FD2 FB2 FK2 HB2
           have FS3 : Hid (Blk w3 (w2.heap.size) (HC S) 23) := Lib.hid (hq3)
           clear hb3 hq3))
      refine wp_gen (fun wr hwr => ?_)
      have FOr : Hid (Row8 wr (some ⟨b0, off, none⟩) 4 O) := Lib.hid (by rw [hwr]; exact FO3.out)
      have FDr : Hid (Row8 wr (some ⟨b0, off + 4, none⟩) 8 D) := Lib.hid (by rw [hwr]; exact FD3.out)
      have FBr : Hid (Row8 wr (some a12) (N - 12) B) := Lib.hid (by rw [hwr]; exact FB3.out)
      have FSr : Hid (Blk wr (w2.heap.size) (HC S) 23) := Lib.hid (by rw [hwr]; exact FS3.out)
      have hB0 : Below w.heap.size w wr := by rw [hwr]; exact HB3.out
      clear hwr
      refine region_muts [] _ (Nat.le_refl _) (fun S vals w => hasF 8 (isBytes 8 (T)) S vals w) [isV 0 (.bool true), isV 1 (.bool false), isV 2 (.bool false), isV 3 (HV S), isV 4 (.slice (some ⟨b0, off, none⟩) N c), isV 5 (.slice (some ⟨b0, off, none⟩) 4 c), isV 6 (.slice (some ⟨b0, off, none⟩) N c), isV 7 (.slice (some a12) (N - 12) (c - 12)), anyV, isV 9 (.string (strB T)), isV 10 (.slice (some ⟨b0, off, none⟩) N c), isV 11 (.slice (some ⟨b0, off + 4, none⟩) 8 (c - 4)), isV 12 (.string (strB D)), isV 13 (.bool false), isV 14 (.bool false)]
        [[], [0], [1], [2], [2], [2, 4], [2], [2, 6], [2, 3, 5, 7], [2, 8], [2], [2, 10], [2, 11], [2, 9, 12], [2, 13]] [some 45, some 46, some 47, some 48, some 49, some 50, some 51, some 52, some 53, some 54, some 55, some 56, some 57, some 58, some 59] _ (by kernel_rfl) (by kernel_rfl) (by kernel_rfl) (by kernel_rfl) (by kernel_rfl) rfl ?_ ?_ ?_ ?_
      · repeat (first | exact stT_nil | refine stT_cons (by first | exact stT_is _ _ | exact stT_as _ _ | exact stT_any | exact stT_lit _ _ _ _ _ (by decide) | exact stT_rowOf _ _ _ _ (by decide) (by decide)) ?_)
      · exact hasF.start _ _ _ _
      · intro hgz
        refine ⟨?_, ?_, ?_, ?_, ?_, ?_, ?_, ?_, ?_, ?_, ?_, ?_, ?_, ?_, ?_, trivial⟩ <;> intro S_ vals w1 hb hSi hdn hcl hG hf <;> obtain ⟨hb, hz⟩ := hgz w1 hb <;> simp [leans, factsOf, phi, sel_lit, sel_rowOf, isV, asV, anyV, sel] at hf <;> simp [putD, phi, Act.put]
        · -- 0 move 
          go_wp2
          exact ⟨rfl, rfl, .refl _ _ _, mk_is rfl, hG.keep (bm_bytes _ _) _ 0 (by decide) (Below.refl _ _)⟩
        · -- 1 unOp 
          simp only [hf]; clear hf
          go_wp2
          exact ⟨rfl, rfl, .refl _ _ _, mk_is rfl, hG.keep (bm_bytes _ _) _ 1 (by decide) (Below.refl _ _)⟩
        · -- 2 move 
          simp only [hf]; clear hf
          go_wp2
          exact ⟨rfl, rfl, .refl _ _ _, mk_is rfl, hG.keep (bm_bytes _ _) _ 2 (by decide) (Below.refl _ _)⟩
        · -- 3 load if some (2, false)
          simp only [hf]; clear hf
          refine one_wanted rfl ?_
          refine wpList_load_row rfl 23 _ rfl _ rfl 23 (HC S) (0, 0) _ (FSr.out.keep hb.below) Try.underlying23 rfl S1.out ?_
          exact ⟨rfl, rfl, .refl _ _ _, mk_is rfl, hG.keep (bm_bytes _ _) _ 3 (by decide) (Below.refl _ _)⟩
        · -- 4 move if some (2, false)
          simp only [hf]; clear hf
          go_wp2
          exact ⟨rfl, rfl, .refl _ _ _, mk_is rfl, hG.keep (bm_bytes _ _) _ 4 (by decide) (Below.refl _ _)⟩
        · -- 5 slice if some (2, false)
          simp only [hf]; clear hf
          go_wp2
          exact ⟨rfl, rfl, .refl _ _ _, mk_is rfl, hG.keep (bm_bytes _ _) _ 5 (by decide) (Below.refl _ _)⟩
        · -- 6 move if some (2, false)
          simp only [hf]; clear hf
          go_wp2
          exact ⟨rfl, rfl, .refl _ _ _, mk_is rfl, hG.keep (bm_bytes _ _) _ 6 (by decide) (Below.refl _ _)⟩
        · -- 7 slice if some (2, false)
          simp only [hf]; clear hf
          go_wp2
          all_goals refine ⟨rfl, rfl, .refl _ _ _, mk_is ?_, hG.keep (bm_bytes _ _) _ 7 (by decide) (Below.refl _ _)⟩
          all_goals first | (rw [← ha12, if_pos rfl]; rfl) | (rw [← ha12, if_pos (by assumption)]; rfl) | (rw [← ha12, if_neg (by assumption)]; rfl) | (rw [← ha12, if_neg (by omega)]; rfl)
        · -- 8 call curia/curiaref5.tag if some (2, false)
          simp only [hf]; clear hf
          go_wp2_with (first | (go_at_call 31; refine (rtag_any S HSL.out _ _ _ O _ _ _ B _ ⟨FOr.out.below hb.below, fun e => by cases e⟩ ⟨FBr.out.below hb.below, fun e => by cases e⟩ (by rw [HOL.out, HBL.out]; have := H212.out; omega)).mono ?_; rintro e w' ⟨v8, rfl, ho8, hb'⟩; rw [HT.out] at ho8; obtain ⟨a8, c8, rfl, hc8⟩ := ho8.toC (by rw [HTL.out]; decide); rw [HTL.out] at hc8 ⊢))
          exact ⟨rfl, rfl, GrowsT.of hb' hz, mk_any, hasF.new (⟨_, _, rfl, hc8.row, hc8.nil⟩)⟩
        · -- 9 convert if some (2, false)
          obtain ⟨a8, c8, hv8, hr8, hn8⟩ := hG.get (hdn 8 (by decide))
          simp only [hf, hv8]
          have HR8 := Lib.hid hr8; clear hr8
          have kS := HR8.out.str (P := Try.prog) 24 9 5 c8 Try.underlying24 Try.underlying5 Try.underlying9
          go_wp2
          exact ⟨rfl, rfl, .refl _ _ _, mk_is rfl, hG.keep (bm_bytes _ _) _ 9 (by decide) (Below.refl _ _)⟩
        · -- 10 move if some (2, false)
          simp only [hf]; clear hf
          go_wp2
          exact ⟨rfl, rfl, .refl _ _ _, mk_is rfl, hG.keep (bm_bytes _ _) _ 10 (by decide) (Below.refl _ _)⟩
        · -- 11 slice if some (2, false)
          simp only [hf]; clear hf
          go_wp2
          exact ⟨rfl, rfl, .refl _ _ _, mk_is rfl, hG.keep (bm_bytes _ _) _ 11 (by decide) (Below.refl _ _)⟩
        · -- 12 convert if some (2, false)
          simp only [hf]; clear hf
          have kS := (FDr.out.below hb.below).str (P := Try.prog) 24 9 5 (c - 4) Try.underlying24 Try.underlying5 Try.underlying9
          go_wp2
          exact ⟨rfl, rfl, .refl _ _ _, mk_is rfl, hG.keep (bm_bytes _ _) _ 12 (by decide) (Below.refl _ _)⟩
        · -- 13 binOp if some (2, false)
          simp only [hf]; clear hf
          have e1 : (strB T).toList = T := ByteArray.toList_mk T
          have e2 : (strB D).toList = D := ByteArray.toList_mk D
          have e3 : (T == D) = true := HTD.out
          have e4 : (T != D) = false := by rw [bne, e3]; rfl
          go_wp2
          exact ⟨rfl, rfl, .refl _ _ _, mk_is rfl, hG.keep (bm_bytes _ _) _ 13 (by decide) (Below.refl _ _)⟩
        · -- 14 pick 
          simp only [hf]; clear hf
          go_wp2
          exact ⟨rfl, rfl, .refl _ _ _, mk_is rfl, hG.keep (bm_bytes _ _) _ 14 (by decide) (Below.refl _ _)⟩
      · intro vals w1 hb hG hf; simp [leans, List.range, List.range.loop, factsOf, phi, sel_lit, sel_rowOf, isV, asV, anyV, sel] at hf; simp [putD, List.range, List.range.loop, Act.put, hf]
        have HB5 := Lib.hid (hB0.later (hb.below.mono (Nat.le_refl _)) (Nat.le_refl _)); have FB5 := Lib.hid (FBr.out.below hb.below); have FS5 := Lib.hid (FSr.out.keep hb.below)
        clear hG hb hf hB0
        go_wp2_with fail
        refine wp_gen (fun wq hwq => ?_)
        have FBq : Hid (Row8 wq (some a12) (N - 12) B) := Lib.hid (by rw [hwq]; exact FB5.out)
        have FSq : Hid (Blk wq (w2.heap.size) (HC S) 23) := Lib.hid (by rw [hwq]; exact FS5.out)
        have hB0 : Below w.heap.size w wq := by rw [hwq]; exact HB5.out
        clear hwq
        refine region_muts [] _ (Nat.le_refl _) (fun S vals w => hasF 3 (isOwn wq.heap.size 5 (X)) S vals w) [isV 0 (HV S), isV 1 (.slice (some ⟨b0, off, none⟩) N c), isV 2 (.slice (some a12) (N - 12) (c - 12)), anyV, asV 4 3, isV 5 (.int .i64 0)]
          [[], [], [1], [0, 2], [3], []] [some 60, some 61, some 62, some 63, some 4, some 5] _ (by kernel_rfl) (by kernel_rfl) (by kernel_rfl) (by kernel_rfl) (by kernel_rfl) rfl ?_ ?_ ?_ ?_
        · repeat (first | exact stT_nil | refine stT_cons (by first | exact stT_is _ _ | exact stT_as _ _ | exact stT_any | exact stT_lit _ _ _ _ _ (by decide) | exact stT_rowOf _ _ _ _ (by decide) (by decide)) ?_)
        · exact hasF.start _ _ _ _
        · intro hgz
          refine ⟨?_, ?_, ?_, ?_, ?_, ?_, trivial⟩ <;> intro S_ vals w1 hb hSi hdn hcl hG hf <;> obtain ⟨hb, hz⟩ := hgz w1 hb <;> simp [leans, factsOf, phi, sel_lit, sel_rowOf, isV, asV, anyV, sel] at hf <;> simp [putD, phi, Act.put]
          · -- 0 load 
            refine wpList_load_row rfl 23 _ rfl _ rfl 23 (HC S) (0, 0) _ (FSq.out.keep hb.below) Try.underlying23 rfl S1.out ?_
            exact ⟨rfl, rfl, .refl _ _ _, mk_is rfl, hG.keep (bm_own _ _ _) _ 0 (by decide) (Below.refl _ _)⟩
          · -- 1 move 
            go_wp2
            exact ⟨rfl, rfl, .refl _ _ _, mk_is rfl, hG.keep (bm_own _ _ _) _ 1 (by decide) (Below.refl _ _)⟩
          · -- 2 slice 
            simp only [hf]; clear hf
            go_wp2
            all_goals refine ⟨rfl, rfl, .refl _ _ _, mk_is ?_, hG.keep (bm_own _ _ _) _ 2 (by decide) (Below.refl _ _)⟩
            all_goals first | (rw [← ha12, if_pos rfl]; rfl) | (rw [← ha12, if_pos (by assumption)]; rfl) | (rw [← ha12, if_neg (by assumption)]; rfl) | (rw [← ha12, if_neg (by omega)]; rfl)
          · -- 3 call curia/curiaref5.mix 
            simp only [hf]; clear hf
            go_wp2_with (first | (go_at_call 29; refine (rmix_any S HSL.out _ _ _ B _ (FBq.out.below hb.below) (by rw [HBL.out]; have := H212.out; omega)).mono ?_; rintro e w' ⟨v3, rfl, ho3, hb'⟩; rw [HX.out] at ho3))
            exact ⟨rfl, rfl, GrowsT.of hb' hz, mk_any, hasF.new (ho3.base hz)⟩
          · -- 4 assign 
            go_wp2
            exact ⟨rfl, rfl, .refl _ _ _, mk_as rfl (by decide) (by decide), hG.keep (bm_own _ _ _) _ 4 (by decide) (Below.refl _ _)⟩
          · -- 5 assign 
            go_wp2
            exact ⟨rfl, rfl, .refl _ _ _, mk_is rfl, hG.keep (bm_own _ _ _) _ 5 (by decide) (Below.refl _ _)⟩
        · intro vals w1 hb hG hf; simp [leans, List.range, List.range.loop, factsOf, phi, sel_lit, sel_rowOf, isV, asV, anyV, sel] at hf; simp [putD, List.range, List.range.loop, Act.put, hf]
          have hown := hG.get (by simp)
          have HO7 := Lib.hid hown; have HB7 := Lib.hid (hB0.later (hb.below.mono (Nat.le_refl _)) (Nat.le_refl _)); have HZ7 := Lib.hid hB0.size
          clear hown hG hb hf hB0
          go_wp2
          refine bodyPost_ret (results_tmp2 rfl _ _ _) rfl ?_
          exact ⟨_, rfl, HO7.out.base HZ7.out, HB7.out⟩
end Go.Proofs.Ytaaidjncbcildaa

/-
  The laws over package seal: what is sealed comes back; what they take for known.
-/
namespace Go.Proofs.Ytaaidjncbcildaa
set_option maxRecDepth 100000
open Go.RowKit Pm
set_option linter.unusedVariables false
set_option linter.unusedSimpArgs false

/-- what Seal comes to -/
def isTup (B : Nat) (e : TypeId) (k : Int) (bs : List UInt8) (x : Value) (w : World) : Prop := ∃ v, x = .tuple #[v, .int .i64 k] ∧ Own8 w B e v bs
theorem bm_tup (B : Nat) (e : TypeId) (k : Int) (bs : List UInt8) : BM (isTup B e k bs) := fun _ _ _ hb ⟨v, h1, h2⟩ => ⟨v, h1, h2.below hb⟩
theorem Own8.key {w w' : World} {B g : Nat} {e T : TypeId} {v : Value} {bs : List UInt8} {cs : Array Value} (h : Own8 w B e v bs) (hk : Blk w g cs T) (hg : w.grownBy w' (some g)) (he : e ≠ T) : Own8 w' B e v bs := by
  refine h.kept hg (.inr fun hv => ?_)
  rcases h.2 with ⟨h1, _⟩ | ⟨g', cap, cur, h1, _, h2, _⟩
  · rw [h1] at hv; cases hv
  · rw [h1] at hv
    have hgg : g' = g := by injection hv
    unfold Blk at hk
    rw [hgg, hk] at h2
    have h3 := Option.some.inj h2
    injection h3 with h4 h5
    exact he h5.symm
theorem Own8.toL {w : World} {B : Nat} {e : TypeId} {v : Value} {bs : List UInt8} (h : Own8 w B e v bs) (hs : bs.length ≤ 1000000) : ∃ a c, v = .slice a bs.length c ∧ RowC w a bs.length c bs ∧ bs.length ≤ c := by
  by_cases hb : bs = []
  · subst hb
    obtain ⟨a, c, h1, h2, h3⟩ := h.forms (by simp [maxLen])
    exact ⟨a, c, h1, ⟨h2, h3⟩, Nat.zero_le _⟩
  · obtain ⟨g, cap, rfl, _, _, h4, _⟩ := h.has hb
    exact ⟨_, cap, rfl, ⟨h.row (by simp only [maxLen]; omega) rfl, fun e => by cases e⟩, h4⟩
theorem num4_fourB (n : Int) (h0 : 0 ≤ n) (h1 : n < 4294967296) : num4 (fourB n) = n := by
  obtain ⟨m, rfl⟩ : ∃ m : Nat, n = m := ⟨n.toNat, by omega⟩
  have e : ∀ s, (lowB (m : Int) s).toNat = m / 2 ^ s % 256 := fun s => by
    unfold lowB
    rw [UInt8.toNat_ofNat']
    have : ((m : Int) / 2 ^ s % 256).toNat = m / 2 ^ s % 256 := by
      have h2 : ((m : Int) / 2 ^ s % 256) = ((m / 2 ^ s % 256 : Nat) : Int) := by simp
      rw [h2]; rfl
    rw [this]; omega
  rw [num4_four _ (by rfl)]
  show ((((lowB m 24).toNat * 256 + (lowB m 16).toNat) * 256 + (lowB m 8).toNat) * 256 + (lowB m 0).toNat : Nat) = (m : Int)
  rw [e, e, e, e]
  simp only [Nat.reducePow, Nat.div_one]
  omega
theorem box_parts (y x : Int) (p : List UInt8) : (boxW y x p).take 4 = fourB (powI 4 x) ∧ ((boxW y x p).drop 4).take 8 = tagW (shW y x) (fourB (powI 4 x)) (xorW (shW y x) p) ∧ (boxW y x p).drop 12 = xorW (shW y x) p := by
  have hT := tagW_length (shW y x) (fourB (powI 4 x)) (xorW (shW y x) p)
  unfold boxW
  obtain ⟨T, hTe⟩ : ∃ T, tagW (shW y x) (fourB (powI 4 x)) (xorW (shW y x) p) = T := ⟨_, rfl⟩
  rw [hTe] at hT ⊢
  have hF : (fourB (powI 4 x)).length = 4 := rfl
  obtain ⟨F, hFe⟩ : ∃ F, fourB (powI 4 x) = F := ⟨_, rfl⟩
  rw [hFe] at hF ⊢
  refine ⟨?_, ?_, ?_⟩
  · rw [List.append_assoc, List.take_left' hF]
  · rw [List.append_assoc, List.drop_left' hF, List.take_left' hT]
  · rw [List.drop_left' (by rw [List.length_append, hF, hT])]
theorem shW_both (x d : Int) (hx : 1 ≤ x ∧ x < 1073741789) (hd : 1 ≤ d ∧ d < 1073741789) : shW (powI 4 d) x = shW (powI 4 x) d := by
  unfold shW
  rw [isI_pub d hd, isI_pub x hx]
  unfold shareW
  rw [raised d x ⟨by omega, hd.2⟩ ⟨by omega, hx.2⟩]
theorem seal_back (x d : Int) (hx : 1 ≤ x ∧ x < 1073741789) (hd : 1 ≤ d ∧ d < 1073741789) (p : List UInt8) (hp : p.length ≤ 200) : openE x (boxW (powI 4 x) d p) = 0 ∧ openB x (boxW (powI 4 x) d p) = p := by
  have hl := boxW_length (powI 4 x) d p
  have hin := inLen_yes (b := boxW (powI 4 x) d p) (by omega) (by omega)
  obtain ⟨h1, h2, h3⟩ := box_parts (powI 4 x) d p
  have hb := powI_bd 4 d
  have hY : boxY (boxW (powI 4 x) d p) = powI 4 d := by unfold boxY; rw [h1, num4_fourB _ hb.1 (by omega)]
  have hok : openOk x (boxW (powI 4 x) d p) = true := by
    unfold openOk
    rw [hY, h1, h2, h3, shW_both x d hx hd, isI_pub d hd, beq_self_eq_true]; rfl
  obtain ⟨h4, h5⟩ := open_yes (x := x) hin hok
  rw [h4, h5, hY, h3, shW_both x d hx hd, xorW_back]
  exact ⟨rfl, rfl⟩
theorem sealE_pub (x : Int) (hx : 1 ≤ x ∧ x < 1073741789) (p : List UInt8) (hp : p.length ≤ 200) (d : Int) : sealE (powI 4 x) p = 0 ∧ sealB (powI 4 x) d p = boxW (powI 4 x) d p := by
  unfold sealE sealB sealOk
  rw [isI_pub x hx, decide_eq_true hp]; exact ⟨rfl, rfl⟩
def nin32 : Array Value := #[.int .u8 9, .int .u8 0, .int .u8 0, .int .u8 0, .int .u8 0, .int .u8 0, .int .u8 0, .int .u8 0, .int .u8 0, .int .u8 0, .int .u8 0, .int .u8 0, .int .u8 0, .int .u8 0, .int .u8 0, .int .u8 0, .int .u8 0, .int .u8 0, .int .u8 0, .int .u8 0, .int .u8 0, .int .u8 0, .int .u8 0, .int .u8 0, .int .u8 0, .int .u8 0, .int .u8 0, .int .u8 0, .int .u8 0, .int .u8 0, .int .u8 0, .int .u8 0]
def nins : List UInt8 := 9 :: List.replicate 31 0
theorem nin32_HC : nin32 = HC nins := by rfl
def eig32 : Array Value := #[.int .u8 8, .int .u8 0, .int .u8 0, .int .u8 0, .int .u8 0, .int .u8 0, .int .u8 0, .int .u8 0, .int .u8 0, .int .u8 0, .int .u8 0, .int .u8 0, .int .u8 0, .int .u8 0, .int .u8 0, .int .u8 0, .int .u8 0, .int .u8 0, .int .u8 0, .int .u8 0, .int .u8 0, .int .u8 0, .int .u8 0, .int .u8 0, .int .u8 0, .int .u8 0, .int .u8 0, .int .u8 0, .int .u8 0, .int .u8 0, .int .u8 0, .int .u8 0]
def eigs : List UInt8 := 8 :: List.replicate 31 0
theorem eig32_HC : eig32 = HC eigs := by rfl
def uno32 : Array Value := #[.int .u8 1, .int .u8 0, .int .u8 0, .int .u8 0, .int .u8 0, .int .u8 0, .int .u8 0, .int .u8 0, .int .u8 0, .int .u8 0, .int .u8 0, .int .u8 0, .int .u8 0, .int .u8 0, .int .u8 0, .int .u8 0, .int .u8 0, .int .u8 0, .int .u8 0, .int .u8 0, .int .u8 0, .int .u8 0, .int .u8 0, .int .u8 0, .int .u8 0, .int .u8 0, .int .u8 0, .int .u8 0, .int .u8 0, .int .u8 0, .int .u8 0, .int .u8 0]
def unos : List UInt8 := 1 :: List.replicate 31 0
theorem uno32_HC : uno32 = HC unos := by rfl
theorem from_nin (w : World) :
    Calls Try.prog 16 #[.agg nin32] w fun e w' => ∃ g, e = .returned (.pointer (some ⟨g, 0, none⟩)) ∧ w.heap.size ≤ g ∧ Blk w' g (CD (keyS nins) false 0) 72 ∧ Below w.heap.size w w' := by
  rw [nin32_HC]; exact from_k nins rfl w
theorem seal_eig (y : Int) (a : Option Addr) (l c : Nat) (p : List UInt8) (w : World) (hp : RowC w a l c p) (hlen : p.length ≤ 140737488351232) :
    Calls Try.prog 12 #[.int .i64 y, .agg eig32, .slice a l c] w fun e w' => ∃ v, e = .returned (.tuple #[v, .int .i64 (sealE y p)]) ∧ Own8 w' w.heap.size 5 v (sealB y (keyS eigs) p) ∧ Below w.heap.size w w' := by
  rw [eig32_HC]; exact seal_any y eigs rfl a l c p w hp hlen
theorem seal_uno (y : Int) (a : Option Addr) (l c : Nat) (p : List UInt8) (w : World) (hp : RowC w a l c p) (hlen : p.length ≤ 140737488351232) :
    Calls Try.prog 12 #[.int .i64 y, .agg uno32, .slice a l c] w fun e w' => ∃ v, e = .returned (.tuple #[v, .int .i64 (sealE y p)]) ∧ Own8 w' w.heap.size 5 v (sealB y (keyS unos) p) ∧ Below w.heap.size w w' := by
  rw [uno32_HC]; exact seal_any y unos rfl a l c p w hp hlen

set_option maxRecDepth 100000 in
set_option maxHeartbeats 2000000 in
theorem known_seal (w : World) : Calls Try.prog 14 #[] w fun e w' => e = .returned (.bool true) ∧ Below w.heap.size w w' := by
  obtain ⟨x, hx⟩ : ∃ x, keyS nins = x := ⟨_, rfl⟩
  obtain ⟨d, hd⟩ : ∃ d, keyS eigs = d := ⟨_, rfl⟩
  have hxb := keyS_bd nins
  have hdb := keyS_bd eigs
  rw [hx] at hxb
  rw [hd] at hdb
  have hse := sealE_pub x hxb [104, 101, 108, 108, 111] (by decide) (keyS eigs)
  have hop := seal_back x d hxb hdb [104, 101, 108, 108, 111] (by decide)
  obtain ⟨bx, hbx⟩ : ∃ bx, boxW (powI 4 x) d [104, 101, 108, 108, 111] = bx := ⟨_, rfl⟩
  have hbl : bx.length = 17 := by rw [← hbx, boxW_length]; rfl
  rw [hbx] at hop
  rw [← hd] at hbx
  have HX := Lib.hid hx; have BX := Lib.hid hxb; have SE := Lib.hid hse; have OE := Lib.hid hop; have HBX := Lib.hid hbx; have HBL := Lib.hid hbl
  clear hx hd hxb hdb hse hop hbx hbl
  go_enter Try.func14, Try.ntmps14
  go_wp2_with fail
  refine (from_nin _).mono ?_
  rintro e w1 ⟨g, rfl, hg1, hk1, hb1⟩
  rw [HX.out] at hk1
  have HGL := Lib.hid hg1; have HK1 := Lib.hid hk1; have HB1 : Hid (Below w.heap.size w w1) := Lib.hid hb1
  clear hg1 hk1 hb1
  go_wp2_with fail
  refine calls_gen (fun w2 hw2 => ?_)
  have hb2 : Below w1.heap.size w1 w2 := by rw [hw2]; (first | exact Below.refl _ _ | exact (Below.refl _ _).next (Nat.le_refl _) _ | exact ((Below.refl _ _).next (Nat.le_refl _) _).next (Nat.le_refl _) _ | exact (((Below.refl _ _).next (Nat.le_refl _) _).next (Nat.le_refl _) _).next (Nat.le_refl _) _ | exact ((((Below.refl _ _).next (Nat.le_refl _) _).next (Nat.le_refl _) _).next (Nat.le_refl _) _).next (Nat.le_refl _) _ | exact below_drew1 (Below.refl _ _) | exact below_drew1 ((Below.refl _ _).next (Nat.le_refl _) _) | exact below_drew1 (((Below.refl _ _).next (Nat.le_refl _) _).next (Nat.le_refl _) _))
  have FK2 : Hid (Blk w2 g (CD x false 0) 72) := Lib.hid (HK1.out.keep hb2)
  have HB2 : Hid (Below w.heap.size w w2) := Lib.hid (HB1.out.later hb2 (Nat.le_refl _))
  clear HK1 HB1
  clear hb2 hw2
  refine (public_st g x 0 false ⟨by have := BX.out; omega, BX.out.2⟩ _ FK2.out).mono ?_
  rintro e w3 ⟨rfl, hk3, hg3⟩
  have FK3 : Hid (Blk w3 g (CD x true 0) 72) := Lib.hid hk3
  have HB3 : Hid (Below w.heap.size w w3) := Lib.hid (below_grown HB2.out hg3 HGL.out HB2.out.size)
  clear  FK2 HB2 hk3 hg3
  have kc := run_convert_mark (P := Try.prog) (w3.alloc (.cells #[.int .u8 104, .int .u8 101, .int .u8 108, .int .u8 108, .int .u8 111] 5)) 24 5 w3.heap.size 5 5 #[.int .u8 104, .int .u8 101, .int .u8 108, .int .u8 108, .int .u8 111] 5 (0, 0) Try.underlying24 Try.underlying5 (Blk.new _ _ _)
  obtain ⟨hbl, frp, hpl⟩ := lit_mark w3 [104, 101, 108, 108, 111] #[.int .u8 104, .int .u8 101, .int .u8 108, .int .u8 108, .int .u8 111] rfl 5 5
  go_wp2_with fail
  refine calls_gen (fun w4 hw4 => ?_)
  have hb4 : Below w3.heap.size w3 w4 := by rw [hw4]; exact hbl
  have FP4 : Hid (RowC w4 (some ⟨w3.heap.size, 0, none⟩) 5 5 [104, 101, 108, 108, 111]) := Lib.hid (by rw [hw4]; exact ⟨Row8.ofCells hpl rfl (by decide), fun e => by cases e⟩)
  have FK4 : Hid (Blk w4 g (CD x true 0) 72) := Lib.hid (FK3.out.keep hb4)
  have HB4 : Hid (Below w.heap.size w w4) := Lib.hid (HB3.out.later hb4 (Nat.le_refl _))
  clear FK3 HB3
  clear hb4 hw4
  clear kc hbl hpl
  refine (seal_eig (powI 4 x) _ 5 5 [104, 101, 108, 108, 111] _ FP4.out (by decide)).mono ?_
  rintro e w5 ⟨v5, rfl, hO5, hb5⟩
  rw [SE.out.1]
  rw [SE.out.2, HBX.out] at hO5
  obtain ⟨a5, c5, rfl, hC5, hL5⟩ := hO5.toL (by rw [HBL.out]; decide)
  rw [HBL.out] at hC5 hL5 ⊢
  have HL := Lib.hid hL5
  clear hL5
  have FK5 : Hid (Blk w5 g (CD x true 0) 72) := Lib.hid (FK4.out.keep hb5)
  have FP5 : Hid (RowC w5 (some ⟨w3.heap.size, 0, none⟩) 5 5 [104, 101, 108, 108, 111]) := Lib.hid (FP4.out.below hb5)
  have HB5 : Hid (Below w.heap.size w w5) := Lib.hid (HB4.out.later hb5 (Nat.le_refl _))
  clear FK4 FP4 HB4
  clear hb5
  have FB5 : Hid (RowC w5 a5 17 c5 bx) := Lib.hid (hC5)
  go_wp2_with fail
  refine calls_gen (fun w6 hw6 => ?_)
  have hb6 : Below w5.heap.size w5 w6 := by rw [hw6]; (first | exact Below.refl _ _ | exact (Below.refl _ _).next (Nat.le_refl _) _ | exact ((Below.refl _ _).next (Nat.le_refl _) _).next (Nat.le_refl _) _ | exact (((Below.refl _ _).next (Nat.le_refl _) _).next (Nat.le_refl _) _).next (Nat.le_refl _) _ | exact ((((Below.refl _ _).next (Nat.le_refl _) _).next (Nat.le_refl _) _).next (Nat.le_refl _) _).next (Nat.le_refl _) _ | exact below_drew1 (Below.refl _ _) | exact below_drew1 ((Below.refl _ _).next (Nat.le_refl _) _) | exact below_drew1 (((Below.refl _ _).next (Nat.le_refl _) _).next (Nat.le_refl _) _))
  have FK6 : Hid (Blk w6 g (CD x true 0) 72) := Lib.hid (FK5.out.keep hb6)
  have FP6 : Hid (RowC w6 (some ⟨w3.heap.size, 0, none⟩) 5 5 [104, 101, 108, 108, 111]) := Lib.hid (FP5.out.below hb6)
  have FB6 : Hid (RowC w6 a5 17 c5 bx) := Lib.hid (FB5.out.below hb6)
  have HB6 : Hid (Below w.heap.size w w6) := Lib.hid (HB5.out.later hb6 (Nat.le_refl _))
  clear FK5 FP5 FB5 HB5
  clear hb6 hw6
  refine (open_any g x 0 true (by decide) a5 17 c5 bx _ FK6.out FB6.out HL.out (by rw [HBL.out]; decide)).mono ?_
  rintro e w7 ⟨v7, rfl, hO7, hg7, us, hk7, hu1, hu2⟩
  rw [OE.out.1]
  rw [OE.out.2] at hO7
  obtain ⟨aq, cq, rfl, hC7, hL7⟩ := hO7.toL (by decide)
  clear hL7 hu1 hu2
  have FK7 : Hid (Blk w7 g (CD x true us) 72) := Lib.hid hk7
  have FP7 : Hid (RowC w7 (some ⟨w3.heap.size, 0, none⟩) 5 5 [104, 101, 108, 108, 111]) := Lib.hid (FP6.out.key FK6.out hg7)
  have FB7 : Hid (RowC w7 a5 17 c5 bx) := Lib.hid (FB6.out.key FK6.out hg7)
  have HB7 : Hid (Below w.heap.size w w7) := Lib.hid (below_grown HB6.out hg7 HGL.out HB6.out.size)
  clear FP6 FB6 FK6 HB6 hk7 hg7
  have FQ7 : Hid (RowC w7 aq 5 cq [104, 101, 108, 108, 111]) := Lib.hid (hC7)
  have kS : (convert 24 9 (.slice aq 5 cq)).run Try.prog w7 = .ok (.string ⟨#[104, 101, 108, 108, 111]⟩) w7 := FQ7.out.row.str (P := Try.prog) 24 9 5 cq Try.underlying24 Try.underlying5 Try.underlying9
  go_wp2_with fail
  go_ret
  exact ⟨rfl, HB7.out⟩
end Go.Proofs.Ytaaidjncbcildaa
