/-
  make([]byte, n). No program is named here.
-/
import Derived.Test.YtpemaphgmfaioaaGreatHBase
namespace Go.Proofs.YtpemaphgmfaioaaGreat
set_option maxRecDepth 100000
open Go.RowKit
set_option linter.unusedVariables false
set_option linter.unusedSimpArgs false

theorem made8 (n : Nat) : (madeCells (Value.int .u8 0).cells (n * 1)).toList = HL (List.replicate n 0) := by
  refine List.ext_getElem? fun i => ?_
  simp [madeCells, HL, Value.cells, List.getElem?_replicate]
  by_cases h : i < n
  · simp [h, Bt, Nat.mod_one]
  · simp [h]
theorem blk_of_own {w : World} {base g n : Nat} {e : TypeId} {bs : List UInt8} (h : w.ownsRow base e 1 (.slice (some ⟨g, 0, none⟩) n n) n (HL bs)) : Blk w g (HC bs) e := by
  rcases h.2 with ⟨h1, _⟩ | ⟨g', cap, cur, h1, _, h2, h3, _, h4, h5⟩
  · cases h1
  · injection h1 with h1 _ h6
    injection h1 with h1
    injection h1 with h1
    subst h1; subst h6
    have : cur = HC bs := by
      apply Array.toList_inj.1
      rw [HC_toList, ← h5, List.take_of_length_le (by simp [h4])]
    rw [← this]; exact h2
theorem mod8B (x : Int) : x % 256 = Bt (UInt8.ofNat (x % 256).toNat) := by
  unfold Bt
  rw [UInt8.toNat_ofNat']
  omega
end Go.Proofs.YtpemaphgmfaioaaGreat

/-
  Numbers and rows as bytes. No function is named here.
-/
namespace Go.Proofs.YtpemaphgmfaioaaGreat
set_option maxRecDepth 100000
open Go.RowKit
set_option linter.unusedVariables false

/-- a number's eight bytes -/
def numB (n : Int) : List UInt8 := [lowB n 56, lowB n 48, lowB n 40, lowB n 32, lowB n 24, lowB n 16, lowB n 8, lowB n 0]
theorem numB_length (n : Int) : (numB n).length = 8 := rfl
theorem numB_get (n : Int) (k : Nat) (h : k < 8) : (numB n)[k]? = some (lowB n (56 - 8 * k)) := by
  match k, h with
  | 0, _ => rfl
  | 1, _ => rfl
  | 2, _ => rfl
  | 3, _ => rfl
  | 4, _ => rfl
  | 5, _ => rfl
  | 6, _ => rfl
  | 7, _ => rfl
def partN (n : Int) (k : Nat) : List UInt8 := (numB n).take k ++ List.replicate (8 - k) 0
theorem partN_zero (n : Int) : partN n 0 = List.replicate 8 0 := rfl
theorem partN_all (n : Int) : partN n 8 = numB n := rfl
theorem partN_length (n : Int) (k : Nat) (h : k ≤ 8) : (partN n k).length = 8 := by simp [partN, numB_length]; omega
theorem partN_set (n : Int) (k : Nat) (h : k < 8) : (partN n k).set k (lowB n (56 - 8 * k)) = partN n (k + 1) := by
  match k, h with
  | 0, _ => rfl
  | 1, _ => rfl
  | 2, _ => rfl
  | 3, _ => rfl
  | 4, _ => rfl
  | 5, _ => rfl
  | 6, _ => rfl
  | 7, _ => rfl
theorem shift_factsR (k : Nat) (h : k ≤ 7) : IntKind.i64.wrap (8 * (k : Int)) = 8 * (k : Int) ∧ IntKind.i64.wrap (56 - 8 * (k : Int)) = 56 - 8 * (k : Int) ∧ 0 ≤ 56 - 8 * (k : Int) ∧ (56 - 8 * (k : Int)).toNat = 56 - 8 * k ∧ 56 - 8 * k ≤ 64 :=
  ⟨IntWalk.i64_in _ (by omega), IntWalk.i64_in _ (by omega), by omega, by omega, by omega⟩

/-- a row's length in two bytes -/
def rowHead (n : Nat) : List UInt8 := [UInt8.ofNat (n / 256), UInt8.ofNat n]
/-- rows as bytes, so many of them -/
def packP (L : List (List UInt8)) (k : Nat) : List UInt8 := UInt8.ofNat L.length :: (L.take k).flatMap fun p => rowHead p.length ++ p
def packW (L : List (List UInt8)) : List UInt8 := packP L L.length
def okRows (L : List (List UInt8)) : Bool := decide (L.length ≤ 60) && L.all fun p => decide (p.length ≤ 2000)
theorem packP_zero (L : List (List UInt8)) : packP L 0 = [UInt8.ofNat L.length] := by simp [packP]
theorem packP_succ (L : List (List UInt8)) (k : Nat) (h : k < L.length) : packP L (k + 1) = packP L k ++ rowHead L[k].length ++ L[k] := by
  unfold packP
  rw [List.take_add_one, List.getElem?_eq_getElem h, List.flatMap_append]
  simp
theorem Bt_ofNat (n : Nat) : Bt (UInt8.ofNat n) = (n : Int) % 256 := by
  unfold Bt
  rw [UInt8.toNat_ofNat']
  omega
theorem okRows_many {L : List (List UInt8)} (h : ¬ L.length ≤ 60) : okRows L = false := by unfold okRows; rw [decide_eq_false h]; rfl
theorem okRows_long {L : List (List UInt8)} (k : Nat) (hk : k < L.length) (h : ¬ L[k].length ≤ 2000) : okRows L = false := by
  unfold okRows
  rw [Bool.and_eq_false_iff]
  right
  rw [Bool.eq_false_iff]
  intro hall
  exact h (of_decide_eq_true (List.all_eq_true.1 hall L[k] (List.getElem_mem hk)))
theorem okRows_all {L : List (List UInt8)} (h1 : L.length ≤ 60) (h : ∀ (i : Nat) (hi : i < L.length), L[i].length ≤ 2000) : okRows L = true := by
  unfold okRows
  rw [decide_eq_true h1, Bool.true_and, List.all_eq_true]
  intro p hp
  obtain ⟨i, hi, rfl⟩ := List.getElem_of_mem hp
  exact decide_eq_true (h i hi)

/-- bytes as a number -/
def numK (b : List UInt8) : Nat := b.foldl (fun n c => n * 256 + c.toNat) 0
def isNum (b : List UInt8) : Bool := b.length == 8 && decide ((b.getD 0 0).toNat ≤ 127)
def numT (b : List UInt8) : Int := if isNum b then (numK b : Int) else 0
theorem numK_zero (b : List UInt8) : numK (b.take 0) = 0 := by simp [numK]
theorem numK_succ (b : List UInt8) (k : Nat) (h : k < b.length) : numK (b.take (k + 1)) = numK (b.take k) * 256 + b[k].toNat := by
  unfold numK
  rw [List.take_add_one, List.getElem?_eq_getElem h, List.foldl_append]
  simp
theorem numK_bd (b : List UInt8) (h0 : (b.getD 0 0).toNat ≤ 127) : ∀ (k : Nat), k < b.length → numK (b.take (k + 1)) < 128 * 256 ^ k
  | 0, h => by
    rw [numK_succ b 0 h, numK_zero]
    rw [List.getD_eq_getElem?_getD, List.getElem?_eq_getElem h] at h0
    simp at h0 ⊢
    omega
  | k + 1, h => by
    have ih := numK_bd b h0 k (by omega)
    rw [numK_succ b (k + 1) h]
    have hc := UInt8.toNat_lt b[k + 1]
    have e : 128 * 256 ^ (k + 1) = 128 * 256 ^ k * 256 := by rw [Nat.pow_succ, Nat.mul_assoc]
    rw [e]
    omega
theorem numK_lim (b : List UInt8) (h0 : (b.getD 0 0).toNat ≤ 127) (hl : b.length = 8) (k : Nat) (h : k < 8) : numK (b.take k) * 256 + 255 < 9223372036854775808 := by
  match k, h with
  | 0, _ => rw [numK_zero]; decide
  | k + 1, h =>
    have h1 := numK_bd b h0 k (by omega)
    have h2 : 256 ^ k ≤ 256 ^ 6 := Nat.pow_le_pow_right (by decide) (by omega)
    have e : (256 : Nat) ^ 6 = 281474976710656 := by decide
    rw [e] at h2
    omega
theorem or_join (a b : Nat) (hb : b < 256) (hs : a * 256 + b < 9223372036854775808) : bits .or .i64 ((a : Int) * 256) (b : Int) = ((a * 256 + b : Nat) : Int) := by
  have e1 : (a : Int) * 256 = ((a * 256 : Nat) : Int) := by omega
  rw [e1]
  show IntKind.i64.wrap ((BitVec.ofInt 64 ((a * 256 : Nat) : Int) ||| BitVec.ofInt 64 (b : Int)).toNat : Int) = _
  rw [BitVec.ofInt_natCast, BitVec.ofInt_natCast, BitVec.toNat_or, BitVec.toNat_ofNat, BitVec.toNat_ofNat, Nat.mod_eq_of_lt (by omega), Nat.mod_eq_of_lt (by omega)]
  have h := Nat.shiftLeft_add_eq_or_of_lt (show b < 2 ^ 8 by omega) a
  rw [Nat.shiftLeft_eq] at h
  have h2 : a * 256 ||| b = a * 256 + b := h.symm
  rw [h2, IntWalk.i64_in _ (by omega)]
end Go.Proofs.YtpemaphgmfaioaaGreat

/-
  Numbers as eight bytes: the walks of Num, the program's and the document's.
-/
namespace Go.Proofs.YtpemaphgmfaioaaGreat
set_option maxRecDepth 100000
open Go.RowKit
set_option linter.unusedVariables false
set_option linter.unusedSimpArgs false

theorem num_any (n : Int) (w : World) :
    Calls Tryz.prog 32 #[.int .i64 n] w fun e w' => ∃ Q, e = .returned (.slice (some ⟨Q, 0, none⟩) 8 8) ∧ w.heap.size ≤ Q ∧ Blk w' Q (HC (numB n)) 5 ∧ Below w.heap.size w w' := by
  obtain ⟨i8, hi8, hz8, hs8, hb8⟩ := info_parts info8
  go_enter Tryz.func32, Tryz.ntmps32
  go_wp2_with (at_make
               refine wpList_make_full _ rfl _ _ 70 rfl w.heap.size 5 i8 (.int .u8 0) 1 Tryz.underlying70 hi8 hz8 hs8 _ _ _ _ 8 rfl rfl rfl rfl ?m1 ?m2 ?m3 ?_
               case m1 => rw [hb8]; decide
               case m2 => simp only [maxLen]; decide
               case m3 => exact Nat.le_refl _
               intro w1 hown hg1
               rw [made8] at hown
               have hX1 := blk_of_own hown
               have hB1 : Below w.heap.size w w1 := (Below.refl _ w).grown hg1 (Nat.le_refl _) (fun k hk => by cases hk)
               have HQ1 := Lib.hid hX1; have HB1 := Lib.hid hB1
               clear hown hg1 hX1 hB1)
  go_loopw [4, 8] (fun _ i wr => ∃ k : Nat, k ≤ 8 ∧ i = .int .i64 k ∧ Blk wr w.heap.size (HC (partN n k)) 5 ∧ Below w.heap.size w wr) (fun _ i _ => 8 - (intOf i).toNat)
  case atStart => exact ⟨0, Nat.zero_le _, rfl, by rw [partN_zero]; exact HQ1.out, HB1.out⟩
  case round =>
    obtain ⟨k, hk, rfl, hQ, hB⟩ := hrel
    by_cases hlt : k < 8
    · obtain ⟨vq, cQ⟩ : ∃ v, wr.cell? ⟨w.heap.size, k, none⟩ = some v := ⟨_, (hQ.cell k).trans (HC_get_lt _ k (by rw [partN_length n k hk]; exact hlt))⟩
      have fQ := hQ.frozen k
      have HQ := Lib.hid hQ; have HB := Lib.hid hB
      obtain ⟨hs1, hs2, hs3, hs4⟩ := shift_factsR k (by omega)
      clear hQ hB HQ1 HB1
      go_wp2
      go_roundw
      case rel =>
        refine ⟨k + 1, by omega, by go_num, (HQ.out.set k _).copy ?_, HB.out.setCell (by simp) _⟩
        rw [show n / 2 ^ (56 - 8 * k) % 256 = Bt (lowB n (56 - 8 * k)) from (lowB_eq n (56 - 8 * k)).symm, HC_set, partN_set n k hlt]
      case measure => simp [intOf]; omega
    · have hkl : k = 8 := by omega
      subst hkl
      rw [partN_all] at hQ
      have HQ := Lib.hid hQ; have HB := Lib.hid hB
      clear hQ hB HQ1 HB1
      go_wp2
      go_ret
      exact ⟨w.heap.size, rfl, Nat.le_refl _, HQ.out, HB.out⟩

set_option maxHeartbeats 1000000 in
theorem rnum_own (n : Int) (w : World) :
    Calls Tryz.prog 37 #[.int .i64 n] w fun e w' => ∃ v, e = .returned v ∧ Own8 w' w.heap.size 5 v (numB n) ∧ Below w.heap.size w w' := by
  go_enter Tryz.func37, Tryz.ntmps37
  go_wp2
  go_loopw [3, 4] (fun b i wr => ∃ k : Nat, k ≤ 8 ∧ i = .int .i64 (7 - (k : Int)) ∧ Own8 wr w.heap.size 5 b ((numB n).take k) ∧ Below w.heap.size w wr) (fun _ i _ => (intOf i + 1).toNat)
  case atStart => exact ⟨0, Nat.zero_le _, rfl, World.ownsRow_nil _ _ _ _, Below.refl _ _⟩
  case round =>
    obtain ⟨k, hk, rfl, hO, hB⟩ := hrel
    by_cases hlt : k < 8
    · have hx : n / 2 ^ (56 - 8 * k) % 256 = Bt (lowB n (56 - 8 * k)) := (lowB_eq n (56 - 8 * k)).symm
      have hge : (7 - (k : Int) ≥ 0) := by omega
      have hm1 : IntKind.i64.wrap (8 * (7 - (k : Int))) = 56 - 8 * (k : Int) := by rw [IntWalk.i64_in _ (by omega)]; omega
      have hm2 : IntKind.u64.wrap (56 - 8 * (k : Int)) = 56 - 8 * (k : Int) := IntWalk.u64_in _ (by omega)
      have hm3 : (56 - 8 * (k : Int)).toNat = 56 - 8 * k := by omega
      have hm4 : IntKind.i64.wrap (7 - (k : Int) - 1) = 7 - ((k + 1 : Nat) : Int) := by rw [IntWalk.i64_in _ (by omega)]; omega
      have hge2 : 0 ≤ 56 - 8 * (k : Int) := by omega
      have hle2 : 56 - 8 * k ≤ 64 := by omega
      have HO := Lib.hid hO; have HB := Lib.hid hB
      clear hO hB
      go_wp2_with (at_builtin
                   refine wpList_append8 rfl (.tmp 9) (.tmp 16) 70 rfl w.heap.size 5 Tryz.underlying70 info8 _ ((numB n).take k) rfl ?c1 _ _ _ [lowB n (56 - 8 * k)] rfl ?c2 ?c3 ?c4 ?c5 ?_
                   case c1 => exact HO.out.below ((Below.refl _ _).next (Nat.le_refl _) _)
                   case c2 => exact Row8.litAt [lowB n (56 - 8 * k)] _ rfl rfl rfl (by simp [maxLen])
                   case c3 => exact fun h => by cases h
                   case c4 => simp [numB_length]; omega
                   case c5 => exact (HB.out.next (Nat.le_refl _) _).size
                   intro v3 w3 hown3 hg3 hb3
                   have HO3 := Lib.hid hown3; have HB3 := Lib.hid ((HB.out.next (Nat.le_refl _) _).trans hb3)
                   clear hown3 hg3 hb3)
      go_roundw
      case rel =>
        refine ⟨k + 1, by omega, by go_num, ?_, HB3.out⟩
        have e : (numB n).take (k + 1) = (numB n).take k ++ [lowB n (56 - 8 * k)] := by
          rw [List.take_add_one, numB_get n k hlt]; rfl
        rw [e]; exact HO3.out
      case measure => simp [intOf]; omega
    · have hkl : k = 8 := by omega
      subst hkl
      rw [List.take_of_length_le (by simp [numB_length])] at hO
      obtain ⟨a', c', rfl, hr, hn⟩ := hO.forms (by simp [numB_length, maxLen])
      have HO := Lib.hid hO; have HB := Lib.hid hB
      clear hO hB hr hn
      go_wp2
      go_ret
      exact ⟨_, rfl, HO.out, HB.out⟩
theorem rnum_any (n : Int) (w : World) :
    Calls Tryz.prog 37 #[.int .i64 n] w fun e w' => ∃ a c, e = .returned (.slice a 8 c) ∧ Row8 w' a 8 (numB n) ∧ (a = none → c = 0) ∧ Below w.heap.size w w' := by
  refine (rnum_own n w).mono ?_
  rintro e w' ⟨v, rfl, hO, hB⟩
  obtain ⟨a', c', rfl, hr, hn⟩ := hO.forms (by simp [numB_length, maxLen])
  rw [numB_length] at hr
  exact ⟨a', c', by rw [numB_length], hr, hn, hB⟩
end Go.Proofs.YtpemaphgmfaioaaGreat
