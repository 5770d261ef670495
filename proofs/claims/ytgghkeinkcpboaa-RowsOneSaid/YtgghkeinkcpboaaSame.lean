/-
  Bytes as rows: the walk of Same.
-/
import Derived.Test.YtgghkeinkcpboaaUnpack
namespace Go.Proofs.Ytgghkeinkcpboaa
set_option maxRecDepth 100000
open Go.RowKit
set_option linter.unusedVariables false
set_option linter.unusedSimpArgs false

/-- a row's place: behind what was taken -/
theorem rest_at {x : UInt8} {r r1 : List UInt8} {L : List (List UInt8)} {k : Nat} (h : takeR r k = some (L, r1)) : ∃ at_, at_ + r1.length = (x :: r).length ∧ (x :: r).drop at_ = r1 ∧ 1 ≤ at_ := by
  have h1 := (takeR_back h).1
  refine ⟨1 + (L.flatMap fun p => rowHead p.length ++ p).length, ?_, ?_, by omega⟩
  · have := congrArg List.length h1
    rw [List.length_append] at this
    rw [List.length_cons]; omega
  · rw [Nat.add_comm, List.drop_succ_cons, h1, List.drop_left]
theorem stop_region {P : Program} {id : Nat} {ops : Array Oper} {d : Bool} {Q : Exit → Act → World → Prop} {a : Act} {w : World} (n : Nat) (hid : id = n) (h : (Code.region id ops d).wp P Q a w) : (Code.region id ops d).wp P Q a w := h
theorem sums (a b : Nat) (h : a ≤ 1000000) (k : b ≤ 1000000) : IntKind.i64.wrap ((a : Int) + (b : Int)) = ((a + b : Nat) : Int) ∧ RowKit.wrap64 ((a : Int) + (b : Int)) = ((a + b : Nat) : Int) := by
  rw [IntWalk.i64_in _ (by omega), IntWalk.wrap64_in _ (by omega)]
  omega
theorem subs (a b : Nat) (h : a ≤ 1000000) (k : b ≤ a) : IntKind.i64.wrap ((a : Int) - (b : Int)) = ((a - b : Nat) : Int) ∧ RowKit.wrap64 ((a : Int) - (b : Int)) = ((a - b : Nat) : Int) := by
  rw [IntWalk.i64_in _ (by omega), IntWalk.wrap64_in _ (by omega)]
  omega

set_option maxRecDepth 100000 in
set_option maxHeartbeats 2000000 in
theorem same_any (a a2 : Option Addr) (l c l2 c2 : Nat) (A B : List (List UInt8)) (w : World) (hp : RowN w a l A) (hq : RowN w a2 l2 B) :
    Calls Try.prog 17 #[.slice a l c, .slice a2 l2 c2] w fun e w' => e = .returned (.bool (decide (A = B))) ∧ Below w.heap.size w w' := by
  have hl := hp.len_eq
  have hl2 := hq.len_eq
  subst hl; subst hl2
  by_cases hlen : ¬ A.length = B.length
  · have hne : ¬ (A.length : Int) = (B.length : Int) := by omega
    have hd : decide (A = B) = false := decide_eq_false fun h => hlen (by rw [h])
    rw [hd]
    clear hp hq hd
    go_enter Try.func17, Try.ntmps17
    go_wp2
    go_ret
    exact ⟨rfl, Below.refl _ _⟩
  have hlen : A.length = B.length := Decidable.not_not.1 hlen
  obtain ⟨n, hn⟩ : ∃ n, A.length = n := ⟨_, rfl⟩
  have hsm := hp.small
  unfold maxLen at hsm
  rw [hn] at hlen hp hsm ⊢
  rw [← hlen] at hq ⊢
  have HP := Lib.hid hp; have HQ := Lib.hid hq; have HN := Lib.hid hn; have HN2 := Lib.hid hlen
  clear hp hq hn hlen
  go_enter Try.func17, Try.ntmps17
  go_wp2
  go_loopw [5] (fun i wr => ∃ k : Nat, k ≤ n ∧ i = .int .i64 k ∧ A.take k = B.take k ∧ Below w.heap.size w wr) (fun i _ => n - (intOf i).toNat)
  case atStart => exact ⟨0, Nat.zero_le _, rfl, by simp, Below.refl _ _⟩
  case round =>
    obtain ⟨k, hk, rfl, hab, hB⟩ := hrel
    by_cases hlt : k < n
    · have hkA : k < A.length := by rw [HN.out]; exact hlt
      have hkB : k < B.length := by rw [← HN2.out]; exact hlt
      obtain ⟨b1, o1, rfl, a', l', c', hc1, hr1⟩ : ∃ b off, a = some ⟨b, off, none⟩ ∧ ∃ a' l' c', w.cell? ⟨b, off + k, none⟩ = some (.slice a' l' c') ∧ RowC w a' l' c' A[k] := by
        rcases HP.out.cells with h1 | ⟨b, off, h1, hc⟩
        · rw [h1] at hkA; simp at hkA
        · exact ⟨b, off, h1, hc k hkA⟩
      obtain ⟨b2, o2, rfl, a3, l3, c3, hc2, hr2⟩ : ∃ b off, a2 = some ⟨b, off, none⟩ ∧ ∃ a' l' c', w.cell? ⟨b, off + k, none⟩ = some (.slice a' l' c') ∧ RowC w a' l' c' B[k] := by
        rcases HQ.out.cells with h1 | ⟨b, off, h1, hc⟩
        · rw [h1] at hkB; simp at hkB
        · exact ⟨b, off, h1, hc k hkB⟩
      have hbd := below_drew1 hB
      have cc1 := (hbd.cell (block_lt_of_cell hc1)).trans hc1
      have cc2 := (hbd.cell (block_lt_of_cell hc2)).trans hc2
      have kS1 := (hr1.row.below hbd).str (P := Try.prog) 24 9 5 c' Try.underlying24 Try.underlying5 Try.underlying9
      have kS2 := (hr2.row.below hbd).str (P := Try.prog) 24 9 5 c3 Try.underlying24 Try.underlying5 Try.underlying9
      obtain ⟨p, hp⟩ : ∃ p, A[k] = p := ⟨_, rfl⟩
      obtain ⟨q, hq⟩ : ∃ q, B[k] = q := ⟨_, rfl⟩
      have hp2 : A[k]? = some p := by rw [List.getElem?_eq_getElem hkA, hp]
      have hq2 : B[k]? = some q := by rw [List.getElem?_eq_getElem hkB, hq]
      rw [hp] at kS1
      rw [hq] at kS2
      have e1 : (strB p).toList = p := ByteArray.toList_mk p
      have e2 : (strB q).toList = q := ByteArray.toList_mk q
      have ki : (k : Int) < (n : Int) := by omega
      have k0 : ¬ (k : Int) < 0 := by omega
      have HKN : Hid (k + 1 ≤ n) := Lib.hid hlt; have HB := Lib.hid hbd; have HAB := Lib.hid hab; have HP1 := Lib.hid hp2; have HQ1 := Lib.hid hq2
      clear hB hab hr1 hr2 hc1 hc2 hp hq hp2 hq2 hkA hkB hbd
      by_cases hpq : p = q
      · subst hpq
        go_wp2_with fail
        refine region_tail 10 (by kernel_rfl) (by kernel_rfl) ?_
        simp only [List.take_succ_cons, List.take_zero, List.drop_succ_cons, List.drop_zero]
        still_step
        still_step
        still_step
        still_step
        still_step
        still_step
        still_step
        still_step
        still_step
        still_step
        refine wpStill_nil ?_
        go_wp2
        go_roundw
        case rel =>
          refine ⟨k + 1, HKN.out, by go_num, ?_, HB.out⟩
          rw [List.take_add_one, List.take_add_one, HAB.out, HP1.out, HQ1.out]
        case measure => have := HKN.out; simp [intOf]; omega
      · have hd : decide (A = B) = false := decide_eq_false fun h => hpq (by subst h; exact Option.some.inj (HP1.out.symm.trans HQ1.out))
        have e3 : (p == q) = false := beq_eq_false_iff_ne.2 hpq
        have e4 : (p != q) = true := by rw [bne, e3]; rfl
        have HD := Lib.hid hd
        clear hd
        go_wp2_with fail
        refine region_tail 10 (by kernel_rfl) (by kernel_rfl) ?_
        simp only [List.take_succ_cons, List.take_zero, List.drop_succ_cons, List.drop_zero]
        still_step
        still_step
        still_step
        still_step
        still_step
        still_step
        still_step
        still_step
        still_step
        still_step
        refine wpStill_nil ?_
        go_wp2
        go_ret
        rw [HD.out]
        exact ⟨rfl, HB.out⟩
    · have hkl : k = n := by omega
      subst hkl
      have hd : decide (A = B) = true := decide_eq_true (by rw [List.take_of_length_le (by rw [HN.out]; exact Nat.le_refl _), List.take_of_length_le (by rw [← HN2.out]; exact Nat.le_refl _)] at hab; exact hab)
      have HD := Lib.hid hd; have HB := Lib.hid hB
      clear hd hB hab
      go_wp2
      go_ret
      rw [HD.out]
      exact ⟨rfl, HB.out⟩
end Go.Proofs.Ytgghkeinkcpboaa
