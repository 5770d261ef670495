/-
  Commits: what may be.
-/
import Derived.Test.YtbgdlggobbiibaaI14
import Derived.Test.YtbgdlggobbiibaaI11
import Derived.Test.YtbgdlggobbiibaaI6
import Derived.Test.YtbgdlggobbiibaaI10
import Derived.Test.YtbgdlggobbiibaaI12
import Derived.Lib.AppendZeros
namespace Go.Proofs.Ytbgdlggobbiibaa
set_option maxRecDepth 100000
open Go.RowKit Pm
set_option linter.unusedVariables false
set_option linter.unusedSimpArgs false
attribute [local irreducible] condK LoopA regA numB numsB boxB

/-- the first of so many -/
theorem first_P0 (p : Nat → Bool) : ∀ (n : Nat), ∃ N, N ≤ n ∧ (∀ j, j < N → p j = false) ∧ (N = n ∨ (N < n ∧ p N = true))
  | 0 => ⟨0, Nat.le_refl _, fun j hj => absurd hj (by omega), .inl rfl⟩
  | n + 1 => by
    obtain ⟨N, h1, h2, h3⟩ := first_P0 p n
    rcases h3 with rfl | ⟨h3, h4⟩
    · cases h : p N with
      | false =>
        exact ⟨N + 1, Nat.le_refl _, fun j hj => by
          rcases Nat.lt_or_ge j N with h5 | h5
          · exact h2 j h5
          · exact (show j = N by omega) ▸ h, .inl rfl⟩
      | true => exact ⟨N, by omega, h2, .inr ⟨by omega, h⟩⟩
    · exact ⟨N, by omega, h2, .inr ⟨by omega, h4⟩⟩
theorem first_P (p : Nat → Bool) (n : Nat) : ∃ N, N ≤ n ∧ (∀ j, j < N → p j = false) ∧ (N = n ∧ idxP p n = -1 ∨ N < n ∧ p N = true ∧ idxP p n = (N : Int)) := by
  obtain ⟨N, h1, h2, h3⟩ := first_P0 p n
  refine ⟨N, h1, h2, ?_⟩
  rcases h3 with rfl | ⟨h3, h4⟩
  · exact .inl ⟨rfl, idxP_none h2⟩
  · exact .inr ⟨h3, h4, idxP_at h3 h4 h2⟩
def anyP (p : Nat → Bool) (n : Nat) : Bool := decide (idxP p n ≥ 0)
theorem idxP_anyP (p : Nat → Bool) (n : Nat) : decide (idxP p n ≥ 0) = anyP p n := rfl
theorem anyP_iff (p : Nat → Bool) (n : Nat) : anyP p n = true ↔ ∃ j, j < n ∧ p j = true := by
  unfold anyP
  rw [decide_eq_true_iff]
  obtain ⟨N, h1, h2, h3⟩ := first_P p n
  rcases h3 with ⟨h3, h4⟩ | ⟨h3, h4, h5⟩
  · rw [h4]
    constructor
    · intro h; omega
    · rintro ⟨j, hj, hp⟩; rw [h2 j (by omega)] at hp; cases hp
  · rw [h5]
    exact ⟨fun _ => ⟨N, h3, h4⟩, fun _ => by omega⟩
attribute [local irreducible] anyP idxP
def withinB (n m : Int) : Bool := decide (n ≥ 0) && decide (n ≤ m)
theorem within_ok (n m : Int) : FnO 37 [.v (.int .i64 n), .v (.int .i64 m)] (.d (.v (.bool (withinB n m)))) := by
  refine fnA (E := envC4) Try.func37 Try.ntmps37 ?_
  by_cases h0 : n ≥ 0
  · have e : withinB n m = decide (n ≤ m) := by simp [withinB, h0]
    rw [e]
    clear e
    refine agow ?_; (try with_reducible exact True.intro)
  · have e : withinB n m = false := by simp [withinB, h0]
    rw [e]
    clear e
    refine agow ?_; (try with_reducible exact True.intro)
def withinS : List A → (Res → Prop) → Prop
  | [.v (.int .i64 n), .v (.int .i64 m)], K => K (.d (.v (.bool (withinB n m))))
  | _, _ => False
theorem withinS_ok : ∀ args K, withinS args K → ∃ r, FnO 37 args r ∧ K r := by
  intro args K h
  unfold withinS at h
  split at h
  · exact ⟨_, within_ok _ _, h⟩
  · exact h.elim
attribute [local irreducible] withinB
noncomputable def envC5 : EnvX := envC4.add 37 withinS withinS_ok ⟨_, Try.func37, by kernel_rfl, by kernel_rfl⟩
theorem isLeaf_ok (n : Int) : FnO 38 [.v (.int .i64 n)] (.d (.v (.bool (withinB n 7)))) := by
  refine fnA (E := envC5) Try.func38 Try.ntmps38 ?_
  refine agow ?_; (try with_reducible exact True.intro)
def isLeafS : List A → (Res → Prop) → Prop
  | [.v (.int .i64 n)], K => K (.d (.v (.bool (withinB n 7))))
  | _, _ => False
theorem isLeafS_ok : ∀ args K, isLeafS args K → ∃ r, FnO 38 args r ∧ K r := by
  intro args K h
  unfold isLeafS at h
  split at h
  · exact ⟨_, isLeaf_ok _, h⟩
  · exact h.elim
noncomputable def envC6 : EnvX := envC5.add 38 isLeafS isLeafS_ok ⟨_, Try.func38, by kernel_rfl, by kernel_rfl⟩
def sigB (e s : Int) : Bool := withinB e 1073741788 && withinB s 1073741788
theorem isSig_ok (e s : Int) : FnO 39 [.agg [.ints .i64 2 [e, s]]] (.d (.v (.bool (sigB e s)))) := by
  refine fnA (E := envC6) Try.func39 Try.ntmps39 ?_
  cases h : withinB e 1073741788 with
  | true =>
    have e1 : sigB e s = withinB s 1073741788 := by simp [sigB, h]
    rw [e1]
    clear e1
    refine agow ?_; (try with_reducible exact True.intro)
  | false =>
    have e1 : sigB e s = false := by simp [sigB, h]
    rw [e1]
    clear e1
    refine agow ?_; (try with_reducible exact True.intro)
/-- two numbers -/
def sigSp : List A → (Res → Prop) → Prop
  | [.agg [.ints .i64 2 o]], K => K (.d (.v (.bool (sigB (o.getD 0 0) (o.getD 1 0)))))
  | _, _ => False
theorem sigSp_ok : ∀ args K, sigSp args K → ∃ r, FnO 39 args r ∧ K r := by
  intro args K h
  unfold sigSp at h
  split at h
  · next o =>
    refine ⟨_, fn_lens fun hl => ?_, h⟩
    have hl2 : o.length = 2 := hl.1.1
    match o, hl2 with
    | [a, b], _ => exact isSig_ok a b
  · exact h.elim
attribute [local irreducible] sigB
noncomputable def envC7 : EnvX := envC6.add 39 sigSp sigSp_ok ⟨_, Try.func39, by kernel_rfl, by kernel_rfl⟩
def oddOpB (o : List Int) : Bool := o.any fun z => !withinB z 1099511627776
set_option maxHeartbeats 4000000 in
theorem oddOp_ok (o : List Int) : FnO 41 [.agg [.ints .i64 5 o]] (.d (.v (.bool (oddOpB o)))) := by
  refine fn_lens fun hl => ?_
  have hl5 : o.length = 5 := hl.1.1
  match o, hl5 with
  | [a, b, c, d, e], _ =>
  clear hl
  refine fnA (E := envC7) Try.func41 Try.ntmps41 ?_
  refine agow ?_; (try with_reducible exact True.intro)
  refine StopL.mk (loop_unroll 6 ?_)
  cases ha : withinB a 1099511627776 with
  | false =>
    have e1 : oddOpB [a, b, c, d, e] = true := by simp [oddOpB, ha]
    rw [e1]
    clear e1
    refine agow ?_; (try with_reducible exact True.intro)
  | true =>
  cases hb : withinB b 1099511627776 with
  | false =>
    have e1 : oddOpB [a, b, c, d, e] = true := by simp [oddOpB, hb]
    rw [e1]
    clear e1
    refine agow ?_; (try with_reducible exact True.intro)
  | true =>
  cases hc : withinB c 1099511627776 with
  | false =>
    have e1 : oddOpB [a, b, c, d, e] = true := by simp [oddOpB, hc]
    rw [e1]
    clear e1
    refine agow ?_; (try with_reducible exact True.intro)
  | true =>
  cases hd : withinB d 1099511627776 with
  | false =>
    have e1 : oddOpB [a, b, c, d, e] = true := by simp [oddOpB, hd]
    rw [e1]
    clear e1
    refine agow ?_; (try with_reducible exact True.intro)
  | true =>
  cases he : withinB e 1099511627776 with
  | false =>
    have e1 : oddOpB [a, b, c, d, e] = true := by simp [oddOpB, he]
    rw [e1]
    clear e1
    refine agow ?_; (try with_reducible exact True.intro)
  | true =>
    have e1 : oddOpB [a, b, c, d, e] = false := by simp [oddOpB, ha, hb, hc, hd, he]
    rw [e1]
    clear e1
    refine agow ?_; (try with_reducible exact True.intro)
def oddOpS : List A → (Res → Prop) → Prop
  | [.agg [.ints .i64 5 o]], K => K (.d (.v (.bool (oddOpB o))))
  | _, _ => False
theorem oddOpS_ok : ∀ args K, oddOpS args K → ∃ r, FnO 41 args r ∧ K r := by
  intro args K h
  unfold oddOpS at h
  split at h
  · exact ⟨_, oddOp_ok _, h⟩
  · exact h.elim
attribute [local irreducible] oddOpB
noncomputable def envC8 : EnvX := envC7.add 41 oddOpS oddOpS_ok ⟨_, Try.func41, by kernel_rfl, by kernel_rfl⟩
def oddVoteB (o : List Int) : Bool := !withinB (o.getD 0 0) 7 || !sigB (o.getD 1 0) (o.getD 2 0)
theorem oddVote_ok (o : List Int) : FnO 43 [.agg [.ints .i64 3 o]] (.d (.v (.bool (oddVoteB o)))) := by
  refine fn_lens fun hl => ?_
  have hl3 : o.length = 3 := hl.1.1
  match o, hl3 with
  | [a, b, c], _ =>
  clear hl
  refine fnA (E := envC8) Try.func43 Try.ntmps43 ?_
  cases ha : withinB a 7 with
  | false =>
    have e1 : oddVoteB [a, b, c] = true := by simp [oddVoteB, ha]
    rw [e1]
    clear e1
    refine agow ?_; (try with_reducible exact True.intro)
  | true =>
    have e1 : oddVoteB [a, b, c] = !sigB b c := by simp [oddVoteB, ha]
    rw [e1]
    clear e1
    refine agow ?_; (try with_reducible exact True.intro)
    try rfl
def oddVoteS : List A → (Res → Prop) → Prop
  | [.agg [.ints .i64 3 o]], K => K (.d (.v (.bool (oddVoteB o))))
  | _, _ => False
theorem oddVoteS_ok : ∀ args K, oddVoteS args K → ∃ r, FnO 43 args r ∧ K r := by
  intro args K h
  unfold oddVoteS at h
  split at h
  · exact ⟨_, oddVote_ok _, h⟩
  · exact h.elim
attribute [local irreducible] oddVoteB
noncomputable def envC9 : EnvX := envC8.add 43 oddVoteS oddVoteS_ok ⟨_, Try.func43, by kernel_rfl, by kernel_rfl⟩
theorem oddBox_ok (n : Nat) (bs : List UInt8) : FnO 45 [.row n [.bytes n bs]] (.d (.v (.bool (decide ((n : Int) > 300))))) := by
  refine fnA (E := envC9) Try.func45 Try.ntmps45 ?_
  refine agow ?_; (try with_reducible exact True.intro)
def oddBoxS : List A → (Res → Prop) → Prop
  | [.row n [.bytes m bs]], K => m = n ∧ K (.d (.v (.bool (decide ((n : Int) > 300)))))
  | _, _ => False
theorem oddBoxS_ok : ∀ args K, oddBoxS args K → ∃ r, FnO 45 args r ∧ K r := by
  intro args K h
  unfold oddBoxS at h
  split at h
  · obtain ⟨rfl, h⟩ := h; exact ⟨_, oddBox_ok _ _, h⟩
  · exact h.elim
noncomputable def envCa : EnvX := envC9.add 45 oddBoxS oddBoxS_ok ⟨_, Try.func45, by kernel_rfl, by kernel_rfl⟩
/-- the j-th of records of so many numbers -/
def atK (K : Nat) (zs : List Int) (j : Nat) : List Int := (zs.drop (j * K)).take K

set_option maxHeartbeats 4000000 in
theorem opIdx_ok (zs : List Int) (n : Nat) (hn : n ≤ 3000) : FnO 65 [.row n [.ints .i64 (n * 5) zs], .v (.func (.func 41) #[] #[])] (.d (.v (.int .i64 (idxP (fun i => oddOpB (atK 5 zs i)) n)))) := by
  refine fn_lens fun hl => ?_
  have hz : zs.length = n * 5 := hl.1.1
  clear hl
  refine fnA (E := envCa) Try.func65 Try.ntmps65 ?_
  obtain ⟨N, hN, hno, hend⟩ := first_P (fun i => oddOpB (atK 5 zs i)) n
  refine agow ?_; (try with_reducible exact True.intro)
  refine StopL.mk (loop_forG [0, 1, 7, 8] [0] N (fun j => ⟨[.d (.row n [.ints .i64 (n * 5) zs]), .d (.v (.func (.func 41) #[] #[])), .dead, .dead, .dead, .dead, .dead, .d (.v (.int .i64 n)), .d (.v (.int .i64 (j : Nat))), .dead, .dead, .dead, .dead, .dead, .dead, .dead, .dead, .dead, .dead], [none]⟩) ?_)
  intro j hj hl
  by_cases h : j < N
  · have h1 : (j : Int) < (n : Int) := by omega
    have h2 : oddOpB ((zs.drop (j * 5)).take 5) = false := hno j h
    clear hend hno
    refine agow ?_; (try with_reducible exact True.intro)
    refine hl.go h [0, 1, 7, 8] [0] ?_
    rfl
  · obtain rfl : j = N := by omega
    rcases hend with ⟨rfl, h4⟩ | ⟨h3, h4, h5⟩
    · have h1 : ¬ (j : Int) < (j : Int) := by omega
      rw [h4]
      clear h4 hno
      refine agow ?_; (try with_reducible exact True.intro)
    · have h1 : (j : Int) < (n : Int) := by omega
      have h2 : oddOpB ((zs.drop (j * 5)).take 5) = true := h4
      rw [h5]
      clear h4 h5 hno
      refine agow ?_; (try with_reducible exact True.intro)
def opIdxS : List A → (Res → Prop) → Prop
  | [.row n [.ints .i64 m zs], .v (.func (.func g) a b)], K => m = n * 5 ∧ n ≤ 3000 ∧ g = 41 ∧ a = #[] ∧ b = #[] ∧ K (.d (.v (.int .i64 (idxP (fun i => oddOpB (atK 5 zs i)) n))))
  | _, _ => False
theorem opIdxS_ok : ∀ args K, opIdxS args K → ∃ r, FnO 65 args r ∧ K r := by
  intro args K h
  unfold opIdxS at h
  split at h
  · obtain ⟨rfl, h1, rfl, rfl, rfl, h⟩ := h
    exact ⟨_, opIdx_ok _ _ h1, h⟩
  · exact h.elim
noncomputable def envCb : EnvX := envCa.add 65 opIdxS opIdxS_ok ⟨_, Try.func65, by kernel_rfl, by kernel_rfl⟩
theorem opHas_ok (zs : List Int) (n : Nat) (hn : n ≤ 3000) : FnO 40 [.row n [.ints .i64 (n * 5) zs], .v (.func (.func 41) #[] #[])] (.d (.v (.bool (anyP (fun i => oddOpB (atK 5 zs i)) n)))) := by
  refine fnA (E := envCb) Try.func40 Try.ntmps40 ?_
  refine agow ?_; (try with_reducible exact True.intro)
  rw [idxP_anyP]
def opHasS : List A → (Res → Prop) → Prop
  | [.row n [.ints .i64 m zs], .v (.func (.func g) a b)], K => m = n * 5 ∧ n ≤ 3000 ∧ g = 41 ∧ a = #[] ∧ b = #[] ∧ K (.d (.v (.bool (anyP (fun i => oddOpB (atK 5 zs i)) n))))
  | _, _ => False
theorem opHasS_ok : ∀ args K, opHasS args K → ∃ r, FnO 40 args r ∧ K r := by
  intro args K h
  unfold opHasS at h
  split at h
  · obtain ⟨rfl, h1, rfl, rfl, rfl, h⟩ := h
    exact ⟨_, opHas_ok _ _ h1, h⟩
  · exact h.elim
noncomputable def envCc : EnvX := envCb.add 40 opHasS opHasS_ok ⟨_, Try.func40, by kernel_rfl, by kernel_rfl⟩

set_option maxHeartbeats 4000000 in
theorem voteIdx_ok (zs : List Int) (n : Nat) (hn : n ≤ 3000) : FnO 66 [.row n [.ints .i64 (n * 3) zs], .v (.func (.func 43) #[] #[])] (.d (.v (.int .i64 (idxP (fun i => oddVoteB (atK 3 zs i)) n)))) := by
  refine fn_lens fun hl => ?_
  have hz : zs.length = n * 3 := hl.1.1
  clear hl
  refine fnA (E := envCc) Try.func66 Try.ntmps66 ?_
  obtain ⟨N, hN, hno, hend⟩ := first_P (fun i => oddVoteB (atK 3 zs i)) n
  refine agow ?_; (try with_reducible exact True.intro)
  refine StopL.mk (loop_forG [0, 1, 7, 8] [0] N (fun j => ⟨[.d (.row n [.ints .i64 (n * 3) zs]), .d (.v (.func (.func 43) #[] #[])), .dead, .dead, .dead, .dead, .dead, .d (.v (.int .i64 n)), .d (.v (.int .i64 (j : Nat))), .dead, .dead, .dead, .dead, .dead, .dead, .dead, .dead, .dead, .dead], [none]⟩) ?_)
  intro j hj hl
  by_cases h : j < N
  · have h1 : (j : Int) < (n : Int) := by omega
    have h2 : oddVoteB ((zs.drop (j * 3)).take 3) = false := hno j h
    clear hend hno
    refine agow ?_; (try with_reducible exact True.intro)
    refine hl.go h [0, 1, 7, 8] [0] ?_
    rfl
  · obtain rfl : j = N := by omega
    rcases hend with ⟨rfl, h4⟩ | ⟨h3, h4, h5⟩
    · have h1 : ¬ (j : Int) < (j : Int) := by omega
      rw [h4]
      clear h4 hno
      refine agow ?_; (try with_reducible exact True.intro)
    · have h1 : (j : Int) < (n : Int) := by omega
      have h2 : oddVoteB ((zs.drop (j * 3)).take 3) = true := h4
      rw [h5]
      clear h4 h5 hno
      refine agow ?_; (try with_reducible exact True.intro)
def voteIdxS : List A → (Res → Prop) → Prop
  | [.row n [.ints .i64 m zs], .v (.func (.func g) a b)], K => m = n * 3 ∧ n ≤ 3000 ∧ g = 43 ∧ a = #[] ∧ b = #[] ∧ K (.d (.v (.int .i64 (idxP (fun i => oddVoteB (atK 3 zs i)) n))))
  | _, _ => False
theorem voteIdxS_ok : ∀ args K, voteIdxS args K → ∃ r, FnO 66 args r ∧ K r := by
  intro args K h
  unfold voteIdxS at h
  split at h
  · obtain ⟨rfl, h1, rfl, rfl, rfl, h⟩ := h
    exact ⟨_, voteIdx_ok _ _ h1, h⟩
  · exact h.elim
noncomputable def envCd : EnvX := envCc.add 66 voteIdxS voteIdxS_ok ⟨_, Try.func66, by kernel_rfl, by kernel_rfl⟩
theorem voteHas_ok (zs : List Int) (n : Nat) (hn : n ≤ 3000) : FnO 42 [.row n [.ints .i64 (n * 3) zs], .v (.func (.func 43) #[] #[])] (.d (.v (.bool (anyP (fun i => oddVoteB (atK 3 zs i)) n)))) := by
  refine fnA (E := envCd) Try.func42 Try.ntmps42 ?_
  refine agow ?_; (try with_reducible exact True.intro)
  rw [idxP_anyP]
def voteHasS : List A → (Res → Prop) → Prop
  | [.row n [.ints .i64 m zs], .v (.func (.func g) a b)], K => m = n * 3 ∧ n ≤ 3000 ∧ g = 43 ∧ a = #[] ∧ b = #[] ∧ K (.d (.v (.bool (anyP (fun i => oddVoteB (atK 3 zs i)) n))))
  | _, _ => False
theorem voteHasS_ok : ∀ args K, voteHasS args K → ∃ r, FnO 42 args r ∧ K r := by
  intro args K h
  unfold voteHasS at h
  split at h
  · obtain ⟨rfl, h1, rfl, rfl, rfl, h⟩ := h
    exact ⟨_, voteHas_ok _ _ h1, h⟩
  · exact h.elim
noncomputable def envCe : EnvX := envCd.add 42 voteHasS voteHasS_ok ⟨_, Try.func42, by kernel_rfl, by kernel_rfl⟩

set_option maxHeartbeats 4000000 in
theorem boxIdx_ok (bx : Nat → List UInt8) (n : Nat) (hn : n ≤ 3000) : FnO 67 [.recs n 1 (boxF bx), .v (.func (.func 45) #[] #[])] (.d (.v (.int .i64 (idxP (fun i => decide (((bx i).length : Int) > 300)) n)))) := by
  skip
  refine fnA (E := envCe) Try.func67 Try.ntmps67 ?_
  obtain ⟨N, hN, hno, hend⟩ := first_P (fun i => decide (((bx i).length : Int) > 300)) n
  refine agow ?_; (try with_reducible exact True.intro)
  refine StopL.mk (loop_forG [0, 1, 7, 8] [0] N (fun j => ⟨[.d (.recs n 1 (boxF bx)), .d (.v (.func (.func 45) #[] #[])), .dead, .dead, .dead, .dead, .dead, .d (.v (.int .i64 n)), .d (.v (.int .i64 (j : Nat))), .dead, .dead, .dead, .dead, .dead, .dead, .dead, .dead, .dead, .dead], [none]⟩) ?_)
  intro j hj hl
  by_cases h : j < N
  · have h1 : (j : Int) < (n : Int) := by omega
    have h2 : decide (((bx j).length : Int) > 300) = false := hno j h
    clear hend hno
    refine agow ?_; (try with_reducible exact True.intro)
    refine hl.go h [0, 1, 7, 8] [0] ?_
    rfl
  · obtain rfl : j = N := by omega
    rcases hend with ⟨rfl, h4⟩ | ⟨h3, h4, h5⟩
    · have h1 : ¬ (j : Int) < (j : Int) := by omega
      rw [h4]
      clear h4 hno
      refine agow ?_; (try with_reducible exact True.intro)
    · have h1 : (j : Int) < (n : Int) := by omega
      have h2 : decide (((bx j).length : Int) > 300) = true := h4
      rw [h5]
      clear h4 h5 hno
      refine agow ?_; (try with_reducible exact True.intro)
def boxIdxS : List A → (Res → Prop) → Prop
  | [.recs n s f, .v (.func (.func g) a b)], K => s = 1 ∧ n ≤ 3000 ∧ ∃ bx, f = boxF bx ∧ g = 45 ∧ a = #[] ∧ b = #[] ∧ K (.d (.v (.int .i64 (idxP (fun i => decide (((bx i).length : Int) > 300)) n))))
  | _, _ => False
theorem boxIdxS_ok : ∀ args K, boxIdxS args K → ∃ r, FnO 67 args r ∧ K r := by
  intro args K h
  unfold boxIdxS at h
  split at h
  · obtain ⟨rfl, h1, bx, rfl, rfl, rfl, rfl, h⟩ := h
    exact ⟨_, boxIdx_ok _ _ h1, h⟩
  · exact h.elim
noncomputable def envCf : EnvX := envCe.add 67 boxIdxS boxIdxS_ok ⟨_, Try.func67, by kernel_rfl, by kernel_rfl⟩
theorem boxHas_ok (bx : Nat → List UInt8) (n : Nat) (hn : n ≤ 3000) : FnO 44 [.recs n 1 (boxF bx), .v (.func (.func 45) #[] #[])] (.d (.v (.bool (anyP (fun i => decide (((bx i).length : Int) > 300)) n)))) := by
  refine fnA (E := envCf) Try.func44 Try.ntmps44 ?_
  refine agow ?_; (try with_reducible exact True.intro)
  rw [idxP_anyP]
def boxHasS : List A → (Res → Prop) → Prop
  | [.recs n s f, .v (.func (.func g) a b)], K => s = 1 ∧ n ≤ 3000 ∧ ∃ bx, f = boxF bx ∧ g = 45 ∧ a = #[] ∧ b = #[] ∧ K (.d (.v (.bool (anyP (fun i => decide (((bx i).length : Int) > 300)) n))))
  | _, _ => False
theorem boxHasS_ok : ∀ args K, boxHasS args K → ∃ r, FnO 44 args r ∧ K r := by
  intro args K h
  unfold boxHasS at h
  split at h
  · obtain ⟨rfl, h1, bx, rfl, rfl, rfl, rfl, h⟩ := h
    exact ⟨_, boxHas_ok _ _ h1, h⟩
  · exact h.elim
noncomputable def envCg : EnvX := envCf.add 44 boxHasS boxHasS_ok ⟨_, Try.func44, by kernel_rfl, by kernel_rfl⟩
end Go.Proofs.Ytbgdlggobbiibaa

/-
  Commits: whether one may be.
-/
namespace Go.Proofs.Ytbgdlggobbiibaa
set_option maxRecDepth 100000
open Go.RowKit Pm
set_option linter.unusedVariables false
set_option linter.unusedSimpArgs false
attribute [local irreducible] condK LoopA regA numB numsB boxB anyP idxP withinB sigB oddOpB oddVoteB

/-- may a commit be? -/
def mayB (c : CS) : Bool := withinB c.e 1099511627776 && (withinB c.fr 7 && (sigB c.sE c.sS && (withinB c.sl 2147483579 && (withinB c.p0 2147483579 && (withinB c.p1 2147483579 && (withinB c.p2 2147483579 && (decide ((c.n : Int) ≤ 4) && ((!anyP (fun i => oddOpB (atK 5 c.ops i)) c.n) && (decide ((c.m : Int) ≤ 8) && ((!anyP (fun i => oddVoteB (atK 3 c.vs i)) c.m) && (decide ((c.k : Int) ≤ 16) && ((!anyP (fun i => decide (((c.bx i).length : Int) > 300)) c.k)))))))))))))
set_option maxHeartbeats 8000000 in
theorem mayBe_ok (c : CS) (hc : CSok c) : FnO 14 [.agg (cSegs c)] (.d (.v (.bool (mayB c)))) := by
  refine fnA (E := envCg) Try.func14 Try.ntmps14 ?_
  obtain ⟨b1, b2, b3, b4, b5, b6⟩ := hc
  cases h1 : withinB c.e 1099511627776
  case false =>
    have e1 : mayB c = false := by simp [mayB, h1]
    rw [e1]
    clear e1
    refine agow ?_; (try with_reducible exact True.intro)
  cases h2 : withinB c.fr 7
  case false =>
    have e1 : mayB c = false := by simp [mayB, h2]
    rw [e1]
    clear e1
    refine agow ?_; (try with_reducible exact True.intro)
  cases h3 : sigB c.sE c.sS
  case false =>
    have e1 : mayB c = false := by simp [mayB, h3]
    rw [e1]
    clear e1
    refine agow ?_; (try with_reducible exact True.intro)
  cases h4 : withinB c.sl 2147483579
  case false =>
    have e1 : mayB c = false := by simp [mayB, h4]
    rw [e1]
    clear e1
    refine agow ?_; (try with_reducible exact True.intro)
  cases h5 : withinB c.p0 2147483579
  case false =>
    have e1 : mayB c = false := by simp [mayB, h5]
    rw [e1]
    clear e1
    refine agow ?_; (try with_reducible exact True.intro)
    refine StopL.mk (loop_unroll 4 ?_)
    refine agow ?_; (try with_reducible exact True.intro)
  cases h6 : withinB c.p1 2147483579
  case false =>
    have e1 : mayB c = false := by simp [mayB, h6]
    rw [e1]
    clear e1
    refine agow ?_; (try with_reducible exact True.intro)
    refine StopL.mk (loop_unroll 4 ?_)
    refine agow ?_; (try with_reducible exact True.intro)
  cases h7 : withinB c.p2 2147483579
  case false =>
    have e1 : mayB c = false := by simp [mayB, h7]
    rw [e1]
    clear e1
    refine agow ?_; (try with_reducible exact True.intro)
    refine StopL.mk (loop_unroll 4 ?_)
    refine agow ?_; (try with_reducible exact True.intro)
  by_cases h8 : ((c.n : Int) ≤ 4)
  case neg =>
    have e1 : mayB c = false := by simp [mayB, h8]
    rw [e1]
    clear e1
    refine agow ?_; (try with_reducible exact True.intro)
    refine StopL.mk (loop_unroll 4 ?_)
    refine agow ?_; (try with_reducible exact True.intro)
  cases h9 : anyP (fun i => oddOpB (atK 5 c.ops i)) c.n
  case true =>
    have e1 : mayB c = false := by simp [mayB, h9]
    rw [e1]
    clear e1
    refine agow ?_; (try with_reducible exact True.intro)
    refine StopL.mk (loop_unroll 4 ?_)
    refine agow ?_; (try with_reducible exact True.intro)
  by_cases ha : ((c.m : Int) ≤ 8)
  case neg =>
    have e1 : mayB c = false := by simp [mayB, ha]
    rw [e1]
    clear e1
    refine agow ?_; (try with_reducible exact True.intro)
    refine StopL.mk (loop_unroll 4 ?_)
    refine agow ?_; (try with_reducible exact True.intro)
  cases hb : anyP (fun i => oddVoteB (atK 3 c.vs i)) c.m
  case true =>
    have e1 : mayB c = false := by simp [mayB, hb]
    rw [e1]
    clear e1
    refine agow ?_; (try with_reducible exact True.intro)
    refine StopL.mk (loop_unroll 4 ?_)
    refine agow ?_; (try with_reducible exact True.intro)
  by_cases hc : ((c.k : Int) ≤ 16)
  case neg =>
    have e1 : mayB c = false := by simp [mayB, hc]
    rw [e1]
    clear e1
    refine agow ?_; (try with_reducible exact True.intro)
    refine StopL.mk (loop_unroll 4 ?_)
    refine agow ?_; (try with_reducible exact True.intro)
  cases hd : anyP (fun i => decide (((c.bx i).length : Int) > 300)) c.k
  case true =>
    have e1 : mayB c = false := by simp [mayB, hd]
    rw [e1]
    clear e1
    refine agow ?_; (try with_reducible exact True.intro)
    refine StopL.mk (loop_unroll 4 ?_)
    refine agow ?_; (try with_reducible exact True.intro)
    rw [hd]; rfl
  have e1 : mayB c = true := by simp [mayB, h1, h2, h3, h4, h5, h6, h7, h8, h9, ha, hb, hc, hd]
  rw [e1]
  clear e1
  refine agow ?_; (try with_reducible exact True.intro)
  refine StopL.mk (loop_unroll 4 ?_)
  refine agow ?_; (try with_reducible exact True.intro)
  rw [hd]; rfl
end Go.Proofs.Ytbgdlggobbiibaa

/-
  The library's slices.Concat and slices.Grow at bytes.
-/
namespace Go.Proofs.Ytbgdlggobbiibaa
set_option maxRecDepth 100000
open Go.RowKit
set_option linter.unusedVariables false
set_option linter.unusedSimpArgs false

theorem cat_flat (L : List (List UInt8)) (k : Nat) (h : k < L.length) : (L.take (k + 1)).flatten = (L.take k).flatten ++ L[k] := by
  rw [List.take_succ_eq_append_getElem h, List.flatten_append]; simp
theorem cat_le (L : List (List UInt8)) (k : Nat) : (L.take k).flatten.length ≤ L.flatten.length := by
  have h : (L.take k ++ L.drop k).flatten.length = L.flatten.length := by rw [List.take_append_drop]
  simp only [List.flatten_append, List.length_append] at h
  omega
theorem zeroCells8 (n : Nat) : Builtin.zeroCells (Value.int .u8 0).cells n = HC (List.replicate n 0) := by
  refine Array.toList_inj.1 (List.ext_getElem? fun i => ?_)
  rw [HC_toList]
  simp only [Builtin.zeroCells, HL, Value.cells, List.getElem?_map, List.getElem?_replicate]
  by_cases h : i < n
  · simp [h, Bt, Nat.mod_one]
  · simp [h]
theorem HC_append (a b : List UInt8) : HC a ++ HC b = HC (a ++ b) := by simp [HC]

set_option maxHeartbeats 2000000 in
theorem grow_any (n : Nat) (hn : n ≤ 140737488354000) (w : World) :
    Calls Try.prog 77 #[.slice none 0 0, .int .i64 n] w fun e w' => ∃ v, e = .returned v ∧ Own8 w' w.heap.size 5 v [] ∧ Below w.heap.size w w' := by
  by_cases h0 : n = 0
  · subst h0
    go_enter Try.func77, Try.ntmps77
    go_wp2
    go_ret
    exact ⟨_, rfl, World.ownsRow_nil _ _ _ _, Below.refl _ _⟩
  obtain ⟨i0, hi, hz0, hz1, hz2⟩ := info_parts info8
  have hr : ∀ ty, (Builtin.append_ #[22, 3] ty #[.slice none 0 0, .int .i64 n]).run Try.prog w = _ := fun ty =>
    Lib.run_append_nil_zeros w 22 3 ty 5 i0 (.int .u8 0) .i64 .i64 Try.underlying22 Try.underlying3 hi hz0 n (by omega) (by omega) (by omega) (by rw [hz2]; omega)
  have hG1 := grownCap_ge w n 0 5
  have hG2 := grownCap_le_maxLen w n 0 5 (by unfold maxLen; omega)
  obtain ⟨G, hG⟩ : ∃ G, G = grownCap w n 0 5 := ⟨_, rfl⟩
  rw [← hG] at hr hG1 hG2
  have hG0 : List.replicate n (0 : UInt8) ++ List.replicate (G - n) 0 = List.replicate G 0 := by rw [List.replicate_append_replicate]; congr 1; omega
  rw [zeroCells8, zeroCells8, HC_append, hG0] at hr
  clear hG
  have hG63 : G ≤ 9223372036854775807 := by unfold maxLen at hG2; omega
  have h4 : (n : Int) > 0 := by omega
  have H1 := Lib.hid hG1; have H2 := Lib.hid hG2
  clear hG2
  go_enter Try.func77, Try.ntmps77
  go_wp2_with (at_builtin; refine Lib.wpList_append_run _ rfl _ _ _ _ rfl _ _ rfl rfl _ _ (hr _) ?_)
  go_ret
  refine ⟨_, rfl, ⟨rfl, .inr ⟨w.heap.size, G, HC (List.replicate G 0), rfl, Nat.le_refl _, ?_, Nat.zero_le _, H2.out, ?_, ?_⟩⟩, ((Below.refl _ _).next (Nat.le_refl _) _).drew⟩
  · exact heap_alloc_new w _
  · rw [HC_size]; simp
  · simp [HL]

set_option maxRecDepth 100000 in
set_option maxHeartbeats 2000000 in
theorem concat_any (a : Option Addr) (len cap : Nat) (L : List (List UInt8)) (w : World) (hp : RowN w a len L) (hbound : L.flatten.length ≤ 140737488354000) :
    Calls Try.prog 58 #[.slice a len cap] w fun e w' => ∃ v, e = .returned v ∧ Own8 w' w.heap.size 5 v L.flatten ∧ Below w.heap.size w w' := by
  have hlen := hp.len_eq
  have hsm := hp.small
  unfold maxLen at hsm
  subst hlen
  have hcells : ∀ (k : Nat) (hlt : k < L.length) (wr : World), Below w.heap.size w wr → ∃ b off, a = some ⟨b, off, none⟩ ∧ ∃ a' l' c', wr.cell? ⟨b, off + k, none⟩ = some (.slice a' l' c') ∧ RowC w a' l' c' L[k] := by
    intro k hlt wr hB
    rcases hp.cells with h1 | ⟨b, off, rfl, hc⟩
    · simp [h1] at hlt
    · obtain ⟨a', l', c', h2, h3⟩ := hc k hlt
      exact ⟨b, off, rfl, a', l', c', (hB.cell (block_lt_of_cell h2)).trans h2, h3⟩
  have HP := Lib.hid hcells; have HBD := Lib.hid hbound
  clear hp hbound hcells
  go_enter Try.func58, Try.ntmps58
  go_wp2
  go_loopw [3, 5, 11] (fun z s i wr => ∃ k : Nat, k ≤ L.length ∧ i = .int .i64 k ∧ z = .int .i64 ((L.take k).flatten.length : Nat) ∧ w = wr) (fun _ _ i _ => L.length - (intOf i).toNat)
  case atStart => exact ⟨0, Nat.zero_le _, rfl, rfl, rfl⟩
  case round =>
    obtain ⟨k, hk, rfl, rfl, rfl⟩ := hrel
    by_cases hlt : k < L.length
    · obtain ⟨b, off, rfl, a', l', c', hcell, hrow⟩ := HP.out k hlt w (Below.refl _ _)
      have hl' := hrow.row.len_eq
      subst hl'
      have hle : (L.take k).flatten.length + L[k].length ≤ 140737488354000 := by
        have h1 := cat_le L (k + 1)
        rw [cat_flat L k hlt, List.length_append] at h1
        have := HBD.out; omega
      clear hrow
      obtain ⟨m, hm⟩ : ∃ m, (L.take k).flatten.length = m := ⟨_, rfl⟩
      obtain ⟨m2, hm2⟩ : ∃ m, L[k].length = m := ⟨_, rfl⟩
      rw [hm, hm2] at hle
      rw [hm] 
      rw [hm2] at hcell
      have HM := Lib.hid hm; have HM2 := Lib.hid hm2
      clear hm hm2
      have hw : RowKit.wrap64 ((m : Int) + (m2 : Int)) = ((m + m2 : Nat) : Int) := by rw [IntWalk.wrap64_in _ (by omega)]; omega
      have hn : ¬ (((m + m2 : Nat) : Int) < 0) := by omega
      go_wp2
      go_roundw
      case rel =>
        refine ⟨k + 1, by omega, by go_num, ?_, by first | trivial | rfl⟩
        rw [cat_flat L k hlt, List.length_append, HM.out, HM2.out, Int.natCast_add]
      case measure => simp [intOf]; omega
    · have hkl : k = L.length := by omega
      subst hkl
      rw [List.take_length]
      obtain ⟨m, hm⟩ : ∃ m, L.flatten.length = m := ⟨_, rfl⟩
      rw [hm]
      have hmb : m ≤ 140737488354000 := by have := HBD.out; omega
      have HM := Lib.hid hm
      clear hm
      go_wp2_with (go_at_call 77; refine (grow_any m (by omega) _).mono ?_; rintro e w1 ⟨v1, rfl, hO1, hB1⟩
                   have HO1 := Lib.hid hO1; have HB1 := Lib.hid hB1
                   clear hO1 hB1)
      go_loopw [6, 8, 27] (fun b s i w2 => ∃ k : Nat, k ≤ L.length ∧ i = .int .i64 k ∧ Own8 w2 w.heap.size 5 b (L.take k).flatten ∧ Below w.heap.size w w2) (fun _ _ i _ => L.length - (intOf i).toNat)
      case atStart => exact ⟨0, Nat.zero_le _, rfl, HO1.out, HB1.out⟩
      case round =>
        obtain ⟨k, hk, rfl, hO, hB⟩ := hrel
        by_cases hlt : k < L.length
        · obtain ⟨b, off, rfl, a', l', c', hcell, hrow⟩ := HP.out k hlt _ hB
          have hrow2 := hrow.row.below hB
          have hle : (L.take k).flatten.length + L[k].length ≤ 140737488355328 := by
            have h1 := cat_le L (k + 1)
            rw [cat_flat L k hlt, List.length_append] at h1
            have := HBD.out; omega
          have HO := Lib.hid hO; have HB := Lib.hid hB; have HW := Lib.hid hrow2; have HN := Lib.hid hrow.nil; have HLE := Lib.hid hle
          clear hO hB hrow hrow2 hle
          go_wp2_with (at_builtin
                       refine wpList_append8 rfl (.tmp 31) (.tmp 32) 22 rfl w.heap.size 5 Try.underlying22 info8 _ (L.take k).flatten rfl HO.out _ _ _ L[k] rfl HW.out HN.out HLE.out HB.out.size ?_
                       intro v3 w3 hown3 hg3 hb3
                       have HO3 := Lib.hid hown3; have HB3 := Lib.hid hb3
                       clear hown3 hg3 hb3)
          go_roundw
          case rel =>
            refine ⟨k + 1, by omega, by go_num, ?_, HB.out.trans HB3.out⟩
            rw [cat_flat L k hlt]; exact HO3.out
          case measure => simp [intOf]; omega
        · rw [List.take_of_length_le (by omega)] at hO
          have HO := Lib.hid hO; have HB := Lib.hid hB
          clear hO hB
          go_wp2
          go_ret
          exact ⟨_, rfl, HO.out, HB.out⟩
end Go.Proofs.Ytbgdlggobbiibaa

/-
  Commits as bytes.
-/
namespace Go.Proofs.Ytbgdlggobbiibaa
set_option maxRecDepth 100000
open Go.RowKit Pm
set_option linter.unusedVariables false
set_option linter.unusedSimpArgs false
attribute [local irreducible] condK LoopA regA numB numsB boxB anyP idxP withinB sigB oddOpB oddVoteB

theorem concatS_ok : ∀ args K, joinS' args K → ∃ r, FnO 58 args r ∧ K r := by
  intro args K hd
  unfold joinS' at hd
  split at hd
  · next x =>
    obtain ⟨L, ⟨hb, hK⟩, hL⟩ := rowsOfK_spec hd
    refine ⟨_, fn_own8 (f := 58) (args := [x]) (bs := L.flatten) fun S w vs ha => ?_, hK⟩
    obtain ⟨v, rfl, h1⟩ := ra_one ha
    obtain ⟨a, n, c, rfl, h2, h3, h4⟩ := hL h1
    refine concat_any a n c L w ⟨h2.len_eq, h2.small, ?_⟩ (by omega)
    rcases h4 with h4 | ⟨b, off, h5, h6⟩
    · exact .inl h4
    · refine .inr ⟨b, off, h5, fun i hi => ?_⟩
      obtain ⟨a', l', c', e1, e2, e3⟩ := h6 i hi
      exact ⟨a', l', c', e1, ⟨e2, e3⟩⟩
  · exact hd.elim
def cOkS (k : CS → Res → (Res → Prop) → Prop) : List A → (Res → Prop) → Prop
  | [.agg l], K => ∃ c, l = cSegs c ∧ CSok c ∧ k c (.d (.v undef)) K
  | _, _ => False
/-- a commit handed in: what comes of it -/
def cS (res : CS → Res) : List A → (Res → Prop) → Prop
  | [.agg l], K => ∃ c, l = cSegs c ∧ CSok c ∧ K (res c)
  | _, _ => False
theorem cS_of {f : FuncId} {res : CS → Res} (h : ∀ c, CSok c → FnO f [.agg (cSegs c)] (res c)) : ∀ args K, cS res args K → ∃ r, FnO f args r ∧ K r := by
  intro args K hd
  unfold cS at hd
  split at hd
  · obtain ⟨c, rfl, h1, h2⟩ := hd
    exact ⟨_, h c h1, h2⟩
  · exact hd.elim
noncomputable def envCh : EnvX := envCg.add 58 joinS' concatS_ok ⟨_, Try.func58, by kernel_rfl, by kernel_rfl⟩
noncomputable def envCi : EnvX := envCh.add 14 (cS fun c => .d (.v (.bool (mayB c)))) (cS_of mayBe_ok) ⟨_, Try.func14, by kernel_rfl, by kernel_rfl⟩
noncomputable def envCj : EnvX := envCi.add 28 (cS fun c => .o 5 1 (bodyN c) [.bytes (bodyN c) (bodyB c)]) (cS_of wbody_ok) ⟨_, Try.func28, by kernel_rfl, by kernel_rfl⟩
def commitB (c : CS) : List UInt8 := [1] ++ (bodyB c ++ (c.tag ++ numsB [c.sE, c.sS]))
def commitN (c : CS) : Nat := 1 + (bodyN c + (32 + 16))
def commitR (c : CS) : Res := if mayB c = true then .t [.row (commitN c) [.bytes (commitN c) (commitB c)], .v (.int .i64 0)] else .t [.v (.slice none 0 0), .v (.int .i64 1)]
theorem boxB_length (bs : List UInt8) : (boxB bs).length = 8 + bs.length := by
  unfold boxB; rw [List.length_append, numsB_length]; rfl
theorem bxB_length (bx : Nat → List UInt8) : ∀ k, (bxB bx k).length = bxN bx k
  | 0 => rfl
  | k + 1 => by
    show (bxB bx k ++ boxB (bx k)).length = bxN bx k + (8 + (bx k).length)
    rw [List.length_append, bxB_length bx k, boxB_length]
theorem body_length {c : CS} (hc : CSok c) : (bodyB c).length = bodyN c := by
  unfold bodyB bodyMid bodyHead bodyN
  simp only [List.length_append, numsB_length, bxB_length, hc.ops, hc.vs, List.length_cons, List.length_nil]
  omega
attribute [local irreducible] mayB bodyB
set_option maxHeartbeats 8000000 in
theorem wcommit_ok (c : CS) (hc : CSok c) (ht : c.tag.length = 32) : FnO 27 [.agg (cSegs c)] (commitR c) := by
  refine fnA (E := envCj) Try.func27 Try.ntmps27 ?_
  have hl := body_length hc
  have hbn : bodyN c ≤ 20000000 := by
    have := bxN_le (bx := c.bx) (k := c.k) hc.bx
    have h1 := hc.n; have h2 := hc.m; have h3 := hc.k
    unfold bodyN; omega
  have hnl : (numsB [c.sE, c.sS]).length = 16 := by rw [numsB_length]; rfl
  unfold commitR
  cases hm : mayB c with
  | false =>
    refine agow ?_; (try with_reducible exact True.intro)
    rfl
  | true =>
    refine agow ?_; (try with_reducible exact True.intro)
    generalize hp : ptsOf _ _ _ = o
    obtain rfl : o = some [.own 1 1, .own 2 (bodyN c), .win 0 9 32, .own 4 16] := hp.symm.trans (ptsOf_cons rfl (ptOf_own rfl rfl) (ptsOf_cons rfl (ptOf_own rfl rfl) (ptsOf_cons rfl rfl (ptsOf_cons rfl (ptOf_own rfl rfl) ptsOf_nil))))
    clear hp
    refine agow ?_; (try with_reducible exact True.intro)
    have e : (bodyB c ++ (c.tag ++ numsB [c.sE, c.sS])).length + 1 = commitN c := by
      rw [List.length_append, List.length_append, hl, ht, hnl, commitN]; omega
    rw [e, if_pos rfl]
    rfl
def commitS : List A → (Res → Prop) → Prop
  | [.agg l], K => ∃ c, l = cSegs c ∧ CSok c ∧ c.tag.length = 32 ∧ K (commitR c)
  | _, _ => False
theorem commitS_of {f : FuncId} (h : ∀ c, CSok c → c.tag.length = 32 → FnO f [.agg (cSegs c)] (commitR c)) : ∀ args K, commitS args K → ∃ r, FnO f args r ∧ K r := by
  intro args K hd
  unfold commitS at hd
  split at hd
  · obtain ⟨c, rfl, h1, h2, h3⟩ := hd
    exact ⟨_, h c h1 h2, h3⟩
  · exact hd.elim
noncomputable def envCk : EnvX := envCj.add 27 commitS (commitS_of wcommit_ok) ⟨_, Try.func27, by kernel_rfl, by kernel_rfl⟩
end Go.Proofs.Ytbgdlggobbiibaa

/-
  Commits: whether one may be, the other program.
-/
namespace Go.Proofs.Ytbgdlggobbiibaa
set_option maxRecDepth 100000
open Go.RowKit Pm
set_option linter.unusedVariables false
set_option linter.unusedSimpArgs false
attribute [local irreducible] condK LoopA regA numB numsB boxB anyP idxP mayB bodyB
theorem in_ok (n m : Int) : FnO 68 [.v (.int .i64 n), .v (.int .i64 0), .v (.int .i64 m)] (.d (.v (.bool (withinB n m)))) := by
  refine fnA (E := envCk) Try.func68 Try.ntmps68 ?_
  by_cases h0 : n ≥ 0
  · have e : withinB n m = decide (n ≤ m) := by simp [withinB, h0]
    rw [e]
    clear e
    refine agow ?_; (try with_reducible exact True.intro)
  · have e : withinB n m = false := by simp [withinB, h0]
    rw [e]
    clear e
    refine agow ?_; (try with_reducible exact True.intro)
def inS : List A → (Res → Prop) → Prop
  | [.v (.int .i64 n), .v (.int .i64 a), .v (.int .i64 m)], K => a = 0 ∧ K (.d (.v (.bool (withinB n m))))
  | _, _ => False
theorem inS_ok : ∀ args K, inS args K → ∃ r, FnO 68 args r ∧ K r := by
  intro args K h
  unfold inS at h
  split at h
  · obtain ⟨rfl, h⟩ := h
    exact ⟨_, in_ok _ _, h⟩
  · exact h.elim
attribute [local irreducible] withinB
noncomputable def envCl : EnvX := envCk.add 68 inS inS_ok ⟨_, Try.func68, by kernel_rfl, by kernel_rfl⟩
theorem rsig_ok (e s : Int) : FnO 69 [.agg [.ints .i64 2 [e, s]]] (.d (.v (.bool (sigB e s)))) := by
  refine fnA (E := envCl) Try.func69 Try.ntmps69 ?_
  cases h : withinB e 1073741788 with
  | true =>
    have e1 : sigB e s = withinB s 1073741788 := by simp [sigB, h]
    rw [e1]
    clear e1
    refine agow ?_; (try with_reducible exact True.intro)
  | false =>
    have e1 : sigB e s = false := by simp [sigB, h]
    rw [e1]
    clear e1
    refine agow ?_; (try with_reducible exact True.intro)
theorem rsigSp_ok : ∀ args K, sigSp args K → ∃ r, FnO 69 args r ∧ K r := by
  intro args K h
  unfold sigSp at h
  split at h
  · next o =>
    refine ⟨_, fn_lens fun hl => ?_, h⟩
    have hl2 : o.length = 2 := hl.1.1
    match o, hl2 with
    | [a, b], _ => exact rsig_ok a b
  · exact h.elim
attribute [local irreducible] sigB
noncomputable def envCm : EnvX := envCl.add 69 sigSp rsigSp_ok ⟨_, Try.func69, by kernel_rfl, by kernel_rfl⟩
theorem oddOp5 {o : List Int} (h : o.length = 5) : oddOpB o = !(withinB (o.getD 0 0) 1099511627776 && (withinB (o.getD 1 0) 1099511627776 && (withinB (o.getD 2 0) 1099511627776 && (withinB (o.getD 3 0) 1099511627776 && withinB (o.getD 4 0) 1099511627776)))) := by
  rcases o with _ | ⟨a, _ | ⟨b, _ | ⟨c, _ | ⟨d, _ | ⟨e, _ | ⟨f, l⟩⟩⟩⟩⟩⟩ <;> first | (simp at h; done) | skip
  simp only [oddOpB, List.any_cons, List.any_nil, List.getD_cons_zero, List.getD_cons_succ, Bool.not_and, Bool.or_false]
attribute [local irreducible] oddOpB
def opsMayB (zs : List Int) (n : Nat) : Bool := !anyP (fun i => oddOpB (atK 5 zs i)) n && decide ((n : Int) ≤ 4)
theorem anyP_no {p : Nat → Bool} {n : Nat} (h : ∀ j, j < n → p j = false) : anyP p n = false := by
  cases e : anyP p n with
  | false => rfl
  | true => obtain ⟨j, h1, h2⟩ := (anyP_iff p n).1 e; rw [h j h1] at h2; cases h2
theorem anyP_at {p : Nat → Bool} {n N : Nat} (h1 : N < n) (h2 : p N = true) : anyP p n = true := (anyP_iff p n).2 ⟨N, h1, h2⟩
theorem first_A (p : Nat → Bool) (n : Nat) : ∃ N, N ≤ n ∧ (∀ j, j < N → p j = false) ∧ (N = n ∧ anyP p n = false ∨ N < n ∧ p N = true ∧ anyP p n = true) := by
  obtain ⟨N, h1, h2, h3⟩ := first_P p n
  refine ⟨N, h1, h2, ?_⟩
  rcases h3 with ⟨h3, _⟩ | ⟨h3, h4, _⟩
  · exact .inl ⟨h3, anyP_no (h3 ▸ h2)⟩
  · exact .inr ⟨h3, h4, anyP_at h3 h4⟩
set_option maxHeartbeats 8000000 in
theorem rops12_ok (zs : List Int) (n : Nat) (hz : zs.length = n * 5) (hn : n ≤ 3000) : FnO 70 [.row n [.ints .i64 (n * 5) zs]] (.d (.v (.bool (opsMayB zs n)))) := by
  refine fnA (E := envCm) Try.func70 Try.ntmps70 ?_
  obtain ⟨N, hN, hno, hend⟩ := first_A (fun i => oddOpB (atK 5 zs i)) n
  refine agow ?_; (try with_reducible exact True.intro)
  refine StopL.mk (loop_forG [0, 3] [0] N (fun j => ⟨[.d (.row n [.ints .i64 (n * 5) zs]), .dead, .dead, .d (.v (.int .i64 (j : Nat))), .dead, .dead, .dead, .dead, .dead, .dead, .dead, .dead, .dead, .dead, .dead, .dead, .dead, .dead, .dead, .dead, .dead, .dead, .dead, .dead, .dead, .dead, .dead, .dead, .dead, .dead, .dead, .dead, .dead, .dead, .dead, .dead, .dead, .dead, .dead, .dead, .dead, .dead, .dead, .dead, .dead, .dead, .dead, .dead], [none]⟩) ?_)
  intro j hj hl
  by_cases h : j < N
  · have h1 : (j : Int) < (n : Int) := by omega
    have h2 := hno j h
    rw [oddOp5 (by simp only [atK, List.length_take, List.length_drop]; omega), Bool.not_eq_false', Bool.and_eq_true, Bool.and_eq_true, Bool.and_eq_true, Bool.and_eq_true] at h2
    obtain ⟨w0, w1, w2, w3, w4⟩ := h2
    unfold atK at w0 w1 w2 w3 w4
    clear hend hno
    refine agow ?_; (try with_reducible exact True.intro)
    refine hl.go h [0, 3] [0] ?_
    rfl
  · obtain rfl : j = N := by omega
    rcases hend with ⟨rfl, h4⟩ | ⟨h3, h4, h5⟩
    · have h1 : ¬ (j : Int) < (j : Int) := by omega
      have e1 : opsMayB zs j = decide ((j : Int) ≤ 4) := by unfold opsMayB; rw [h4]; rfl
      rw [e1]
      clear h4 hno e1
      refine agow ?_; (try with_reducible exact True.intro)
    · have h1 : (j : Int) < (n : Int) := by omega
      have e1 : opsMayB zs n = false := by unfold opsMayB; rw [h5]; rfl
      rw [e1]
      clear h5 hno e1
      rw [oddOp5 (by simp only [atK, List.length_take, List.length_drop]; omega)] at h4
      unfold atK at h4
      cases w0 : withinB (((zs.drop (j * 5)).take 5).getD 0 0) 1099511627776
      case false =>
        clear h4
        refine agow ?_; (try with_reducible exact True.intro)
      cases w1 : withinB (((zs.drop (j * 5)).take 5).getD 1 0) 1099511627776
      case false =>
        clear h4
        refine agow ?_; (try with_reducible exact True.intro)
      cases w2 : withinB (((zs.drop (j * 5)).take 5).getD 2 0) 1099511627776
      case false =>
        clear h4
        refine agow ?_; (try with_reducible exact True.intro)
      cases w3 : withinB (((zs.drop (j * 5)).take 5).getD 3 0) 1099511627776
      case false =>
        clear h4
        refine agow ?_; (try with_reducible exact True.intro)
      cases w4 : withinB (((zs.drop (j * 5)).take 5).getD 4 0) 1099511627776
      case false =>
        clear h4
        refine agow ?_; (try with_reducible exact True.intro)
      rw [w0, w1, w2, w3, w4] at h4
      cases h4
def opsMayS : List A → (Res → Prop) → Prop
  | [.row n [.ints .i64 m zs]], K => m = n * 5 ∧ n ≤ 3000 ∧ zs.length = n * 5 ∧ K (.d (.v (.bool (opsMayB zs n))))
  | _, _ => False
theorem opsMayS_ok : ∀ args K, opsMayS args K → ∃ r, FnO 70 args r ∧ K r := by
  intro args K h
  unfold opsMayS at h
  split at h
  · obtain ⟨rfl, h1, h2, h⟩ := h; exact ⟨_, rops12_ok _ _ h2 h1, h⟩
  · exact h.elim
attribute [local irreducible] opsMayB
noncomputable def envCn : EnvX := envCm.add 70 opsMayS opsMayS_ok ⟨_, Try.func70, by kernel_rfl, by kernel_rfl⟩
theorem mayB_alt (c : CS) : mayB c = (!anyP (fun i => oddVoteB (atK 3 c.vs i)) c.m && (!anyP (fun i => decide (((c.bx i).length : Int) > 300)) c.k && (withinB c.sl 2147483579 && (withinB c.p0 2147483579 && (withinB c.p1 2147483579 && (withinB c.p2 2147483579 && (withinB c.e 1099511627776 && (withinB c.fr 7 && (opsMayB c.ops c.n && (decide ((c.m : Int) ≤ 8) && (decide ((c.k : Int) ≤ 16) && sigB c.sE c.sS))))))))))) := by
  unfold mayB opsMayB
  simp only [Bool.and_assoc]
  ac_rfl
theorem oddVote3 (o : List Int) : oddVoteB o = !(withinB (o.getD 0 0) 7 && sigB (o.getD 1 0) (o.getD 2 0)) := by
  unfold oddVoteB; rw [Bool.not_and]
attribute [local irreducible] oddVoteB
theorem atK_getD (zs : List Int) (j : Nat) {K i : Nat} (h : i < K) : (atK K zs j).getD i 0 = zs.getD (j * K + i) 0 := by
  simp only [atK, List.getD_eq_getElem?_getD, List.getElem?_take, h, if_true, List.getElem?_drop]
theorem voteAt (zs : List Int) (j : Nat) : oddVoteB (atK 3 zs j) = !(withinB (zs.getD (j * 3) 0) 7 && sigB ((List.take 2 (List.drop (j * 3 + 1) zs)).getD 0 0) ((List.take 2 (List.drop (j * 3 + 1) zs)).getD 1 0)) := by
  have e1 : (List.take 2 (List.drop (j * 3 + 1) zs)).getD 0 0 = zs.getD (j * 3 + 1) 0 := by
    simp [List.getD_eq_getElem?_getD, List.getElem?_take, List.getElem?_drop]
  have e2 : (List.take 2 (List.drop (j * 3 + 1) zs)).getD 1 0 = zs.getD (j * 3 + 2) 0 := by
    simp [List.getD_eq_getElem?_getD, List.getElem?_take, List.getElem?_drop]
  rw [oddVote3, atK_getD _ _ (by omega), atK_getD _ _ (by omega), atK_getD _ _ (by omega), e1, e2]; rfl
set_option maxHeartbeats 8000000 in
theorem rmay_ok (c : CS) (hc : CSok c) : FnO 48 [.agg (cSegs c)] (.d (.v (.bool (mayB c)))) := by
  refine fnA (E := envCn) Try.func48 Try.ntmps48 ?_
  obtain ⟨b1, b2, b3, b4, b5, b6⟩ := hc
  rw [mayB_alt]
  obtain ⟨N, hN, hno, hend⟩ := first_A (fun i => oddVoteB (atK 3 c.vs i)) c.m
  refine agow ?_; (try with_reducible exact True.intro)
  refine StopL.mk (loop_forG [1, 3] [0] N (fun j => ⟨[.dead, .ptr 0 0, .dead, .d (.v (.int .i64 (j : Nat))), .dead, .dead, .dead, .dead, .dead, .dead, .dead, .dead, .dead, .dead, .dead, .dead, .dead, .dead, .dead, .dead, .dead, .dead, .dead, .dead, .dead, .dead, .dead, .dead, .dead, .dead, .dead, .dead, .dead, .dead, .dead, .dead, .dead, .dead, .dead, .dead, .dead, .dead, .dead, .dead, .dead, .dead, .dead, .dead, .dead, .dead, .dead, .dead, .dead, .dead, .dead, .dead, .dead, .dead, .dead, .dead, .dead, .dead, .dead, .dead, .dead, .dead, .dead, .dead, .dead, .dead, .dead, .dead, .dead, .dead, .dead, .dead, .dead, .dead, .dead, .dead, .dead, .dead, .dead, .dead, .dead, .dead, .dead, .dead, .dead, .dead, .dead, .dead, .dead, .dead, .dead, .dead, .dead, .dead, .dead], [some (.var (cSegs c))]⟩) ?_)
  intro j hj hl
  have ev := voteAt c.vs j
  by_cases h : j < N
  · have h1 : (j : Int) < (c.m : Int) := by omega
    have h2 := hno j h
    rw [ev, Bool.not_eq_false', Bool.and_eq_true] at h2
    obtain ⟨w0, w1⟩ := h2
    clear hend hno ev
    refine agow ?_; (try with_reducible exact True.intro)
    refine hl.go h [1, 3] [0] ?_
    rfl
  · obtain rfl : j = N := by omega
    rcases hend with ⟨rfl, h4⟩ | ⟨h3, h4, h5⟩
    · have h1 : ¬ (c.m : Int) < (c.m : Int) := by omega
      rw [h4, Bool.not_false, Bool.true_and]
      clear h4 hno ev hl h
      obtain ⟨N, hN, hno, hend⟩ := first_A (fun i => decide (((c.bx i).length : Int) > 300)) c.k
      refine agow ?_; (try with_reducible exact True.intro)
      refine StopL.mk (loop_forG [1, 4] [0] N (fun j => ⟨[.dead, .ptr 0 0, .dead, .dead, .d (.v (.int .i64 (j : Nat))), .dead, .dead, .dead, .dead, .dead, .dead, .dead, .dead, .dead, .dead, .dead, .dead, .dead, .dead, .dead, .dead, .dead, .dead, .dead, .dead, .dead, .dead, .dead, .dead, .dead, .dead, .dead, .dead, .dead, .dead, .dead, .dead, .dead, .dead, .dead, .dead, .dead, .dead, .dead, .dead, .dead, .dead, .dead, .dead, .dead, .dead, .dead, .dead, .dead, .dead, .dead, .dead, .dead, .dead, .dead, .dead, .dead, .dead, .dead, .dead, .dead, .dead, .dead, .dead, .dead, .dead, .dead, .dead, .dead, .dead, .dead, .dead, .dead, .dead, .dead, .dead, .dead, .dead, .dead, .dead, .dead, .dead, .dead, .dead, .dead, .dead, .dead, .dead, .dead, .dead, .dead, .dead, .dead, .dead], [some (.var (cSegs c))]⟩) ?_)
      intro j hj hl
      by_cases h : j < N
      · have h1 : (j : Int) < (c.k : Int) := by omega
        have h2 : decide (((c.bx j).length : Int) > 300) = false := hno j h
        clear hend hno
        refine agow ?_; (try with_reducible exact True.intro)
        refine hl.go h [1, 4] [0] ?_
        rfl
      · obtain rfl : j = N := by omega
        rcases hend with ⟨rfl, h4⟩ | ⟨h3, h4, h5⟩
        · have h1 : ¬ (c.k : Int) < (c.k : Int) := by omega
          rw [h4, Bool.not_false, Bool.true_and]
          clear h4 hno hl h
          cases v1 : withinB c.sl 2147483579
          case false =>
            rw [Bool.false_and]
            refine agow ?_; (try with_reducible exact True.intro)
          cases v2 : withinB c.p0 2147483579
          case false =>
            rw [Bool.false_and, Bool.and_false]
            refine agow ?_; (try with_reducible exact True.intro)
          cases v3 : withinB c.p1 2147483579
          case false =>
            rw [Bool.false_and, Bool.and_false, Bool.and_false]
            refine agow ?_; (try with_reducible exact True.intro)
          cases v4 : withinB c.p2 2147483579
          case false =>
            rw [Bool.false_and, Bool.and_false, Bool.and_false, Bool.and_false]
            refine agow ?_; (try with_reducible exact True.intro)
          rw [Bool.true_and, Bool.true_and, Bool.true_and, Bool.true_and]
          cases v5 : withinB c.e 1099511627776
          case false =>
            rw [Bool.false_and]
            refine agow ?_; (try with_reducible exact True.intro)
          cases v6 : withinB c.fr 7
          case false =>
            rw [Bool.false_and, Bool.and_false]
            refine agow ?_; (try with_reducible exact True.intro)
          cases v7 : opsMayB c.ops c.n
          case false =>
            rw [Bool.false_and, Bool.and_false, Bool.and_false]
            refine agow ?_; (try with_reducible exact True.intro)
          rw [Bool.true_and, Bool.true_and, Bool.true_and]
          by_cases v8 : (c.m : Int) ≤ 8
          case neg =>
            rw [decide_eq_false v8, Bool.false_and]
            refine agow ?_; (try with_reducible exact True.intro)
          by_cases v9 : (c.k : Int) ≤ 16
          case neg =>
            rw [decide_eq_false v9, Bool.false_and, Bool.and_false]
            refine agow ?_; (try with_reducible exact True.intro)
          rw [decide_eq_true v8, decide_eq_true v9, Bool.true_and, Bool.true_and]
          refine agow ?_; (try with_reducible exact True.intro)
        · have h1 : (j : Int) < (c.k : Int) := by omega
          have h2 : decide (((c.bx j).length : Int) > 300) = true := h4
          rw [h5, Bool.not_true, Bool.false_and]
          clear h5 h4 hno
          refine agow ?_; (try with_reducible exact True.intro)
    · have h1 : (j : Int) < (c.m : Int) := by omega
      rw [h5, Bool.not_true, Bool.false_and]
      rw [ev] at h4
      clear h5 hno ev
      cases w0 : withinB (c.vs.getD (j * 3) 0) 7
      case false =>
        clear h4
        refine agow ?_; (try with_reducible exact True.intro)
      cases w1 : sigB ((List.take 2 (List.drop (j * 3 + 1) c.vs)).getD 0 0) ((List.take 2 (List.drop (j * 3 + 1) c.vs)).getD 1 0)
      case false =>
        clear h4
        refine agow ?_; (try with_reducible exact True.intro)
      rw [w0, w1] at h4
      cases h4
noncomputable def envCo : EnvX := envCn.add 48 (cS fun c => .d (.v (.bool (mayB c)))) (cS_of rmay_ok) ⟨_, Try.func48, by kernel_rfl, by kernel_rfl⟩
end Go.Proofs.Ytbgdlggobbiibaa

/-
  Commits as bytes, the other program.
-/
namespace Go.Proofs.Ytbgdlggobbiibaa
set_option maxRecDepth 100000
open Go.RowKit Pm
set_option linter.unusedVariables false
set_option linter.unusedSimpArgs false
attribute [local irreducible] condK LoopA regA numB numsB boxB anyP idxP mayB withinB sigB oddOpB oddVoteB
theorem numsB_three' (zs : List Int) {i : Nat} (h : i + 3 ≤ zs.length) : numsB (zs.take (i + 3)) = numsB (zs.take i) ++ numsB [zs.getD i 0, zs.getD (i + 1) 0, zs.getD (i + 2) 0] := by
  rw [numsB_three zs h]
  simp [List.getD_eq_getElem?_getD, List.getElem?_take, List.getElem?_drop]
set_option maxHeartbeats 8000000 in
theorem rbody_ok (c : CS) (hc : CSok c) : FnO 50 [.agg (cSegs c)] (.o 5 1 (bodyN c) [.bytes (bodyN c) (bodyB c)]) := by
  refine fnA (E := envC4) Try.func50 Try.ntmps50 ?_
  obtain ⟨h1, h2, h3, h4, h5, h6⟩ := hc
  refine agow ?_; (try with_reducible exact True.intro)
  generalize hp : ptsOf _ _ _ = o
  obtain rfl : o = some [.own 3 24, .own 4 (c.n * 40), .own 6 8] := hp.symm.trans (ptsOf_cons rfl (ptOf_own rfl rfl) (ptsOf_cons rfl (ptOf_own rfl rfl) (ptsOf_cons rfl (ptOf_own rfl rfl) ptsOf_nil)))
  clear hp
  have g1 : (numsB [c.e, c.fr, (c.n : Int)]).length = 24 := numsB_length _
  have g2 : (numsB c.ops).length = c.n * 40 := by rw [numsB_length, h4]; omega
  have g3 : (numB (c.m : Int)).length = 8 := numB_length _
  refine agow ?_; (try with_reducible exact True.intro)
  have k1 : (numsB [c.e, c.fr, (c.n : Int)] ++ (numsB c.ops ++ numB (c.m : Int))).length = 24 + c.n * 40 + 8 := by
    rw [List.length_append, List.length_append, g1, g2, g3]; omega
  have k2 : numsB [c.e, c.fr, (c.n : Int)] ++ (numsB c.ops ++ numB (c.m : Int)) = bodyHead c := by
    unfold bodyHead; rw [numsB_one, List.append_assoc]
  rw [k1, k2]
  clear k1 k2 g1 g2 g3
  refine StopL.mk (loop_forG [1, 3, 4] [0, 8] c.m (fun j => ⟨[.dead, .ptr 0 0, .dead, .own 1 (24 + c.n * 40 + 8 + j * 24), .d (.v (.int .i64 (j : Nat))), .dead, .dead, .dead, .dead, .dead, .dead, .dead, .dead, .dead, .dead, .dead, .dead, .dead, .dead, .dead, .dead, .dead, .dead, .dead, .dead, .dead, .dead, .dead, .dead, .dead, .dead, .dead, .dead, .dead, .dead, .dead, .dead, .dead, .dead, .dead, .dead, .dead, .dead, .dead, .dead, .dead, .dead, .dead, .dead, .dead, .dead, .dead, .dead, .dead, .dead, .dead, .dead, .dead, .dead, .dead, .dead, .dead, .dead, .dead, .dead, .dead, .dead, .dead, .dead, .dead, .dead, .dead, .dead, .dead, .dead, .dead, .dead, .dead, .dead, .dead, .dead, .dead, .dead, .dead, .dead, .dead, .dead, .dead, .dead, .dead, .dead, .dead, .dead, .dead, .dead, .dead], [some (.var (cSegs c)), some (.sl 5 1 (24 + c.n * 40 + 8 + j * 24) [.bytes (24 + c.n * 40 + 8 + j * 24) (bodyHead c ++ numsB (c.vs.take (j * 3)))])]⟩) ?_ (h2 := by simp only [Nat.zero_mul, List.take_zero, numsB_nil, List.append_nil, Nat.add_zero]; exact rfl))
  intro j hj hl
  by_cases hjm : j < c.m
  · have g1 : (j : Int) < (c.m : Int) := by omega
    refine agow ?_; (try with_reducible exact True.intro)
    refine hl.go hjm [1, 3, 4] [0, 1] ?_
    rw [show (j + 1) * 3 = j * 3 + 3 by omega, numsB_three' c.vs (by omega), show (j + 1) * 24 = j * 24 + 24 by omega, ← List.append_assoc, ← Nat.add_assoc]
    rfl
  · obtain rfl : j = c.m := by omega
    have g1 : ¬ (c.m : Int) < (c.m : Int) := by omega
    rw [show c.vs.take (c.m * 3) = c.vs from List.take_of_length_le (by omega)]
    refine agow ?_; (try with_reducible exact True.intro)
    refine StopL.mk (loop_forG [1, 3, 5] [0, 1] c.k (fun j => ⟨[.dead, .ptr 0 0, .dead, .own 1 (24 + c.n * 40 + 8 + c.m * 24 + 40 + bxN c.bx j), .dead, .d (.v (.int .i64 (j : Nat))), .dead, .dead, .dead, .dead, .dead, .dead, .dead, .dead, .dead, .dead, .dead, .dead, .dead, .dead, .dead, .dead, .dead, .dead, .dead, .dead, .dead, .dead, .dead, .dead, .dead, .dead, .dead, .dead, .dead, .dead, .dead, .dead, .dead, .dead, .dead, .dead, .dead, .dead, .dead, .dead, .dead, .dead, .dead, .dead, .dead, .dead, .dead, .dead, .dead, .dead, .dead, .dead, .dead, .dead, .dead, .dead, .dead, .dead, .dead, .dead, .dead, .dead, .dead, .dead, .dead, .dead, .dead, .dead, .dead, .dead, .dead, .dead, .dead, .dead, .dead, .dead, .dead, .dead, .dead, .dead, .dead, .dead, .dead, .dead, .dead, .dead, .dead, .dead, .dead, .dead], [some (.var (cSegs c)), some (.sl 5 1 (24 + c.n * 40 + 8 + c.m * 24 + 40 + bxN c.bx j) [.bytes (24 + c.n * 40 + 8 + c.m * 24 + 40 + bxN c.bx j) (bodyMid c ++ bxB c.bx j)])]⟩) ?_ (h2 := by simp only [bxN, bxB, List.append_nil, Nat.add_zero]; exact rfl))
    intro i hi hl2
    by_cases hik : i < c.k
    · have g2 : (i : Int) < (c.k : Int) := by omega
      have g3 := h6 i hik
      have g4 : (c.bx i).length ≤ 1000000 := by omega
      have g5 : bxN c.bx i ≤ 18030000 := by have := bxN_le (bx := c.bx) (k := i) (fun j hj => h6 j (by omega)); omega
      refine agow ?_; (try with_reducible exact True.intro)
      refine hl2.go hik [1, 3, 5] [0, 1] ?_
      have e1 : 24 + c.n * 40 + 8 + c.m * 24 + 40 + bxN c.bx (i + 1) = 24 + c.n * 40 + 8 + c.m * 24 + 40 + bxN c.bx i + 8 + (c.bx i).length := by
        show _ + (bxN c.bx i + (8 + (c.bx i).length)) = _
        omega
      have e2 : bodyMid c ++ bxB c.bx (i + 1) = ((bodyMid c ++ bxB c.bx i) ++ numB ((c.bx i).length : Int)) ++ c.bx i := by
        show bodyMid c ++ (bxB c.bx i ++ boxB (c.bx i)) = _
        rw [boxB, numsB_one]; simp only [List.append_assoc]
      rw [e1, e2]
      rfl
    · obtain rfl : i = c.k := by omega
      have g2 : ¬ (c.k : Int) < (c.k : Int) := by omega
      refine agow ?_; (try with_reducible exact True.intro)
      rfl
noncomputable def envCp : EnvX := envCo.add 50 (cS fun c => .o 5 1 (bodyN c) [.bytes (bodyN c) (bodyB c)]) (cS_of rbody_ok) ⟨_, Try.func50, by kernel_rfl, by kernel_rfl⟩
attribute [local irreducible] bodyB
set_option maxHeartbeats 8000000 in
theorem rcommit_ok (c : CS) (hc : CSok c) (ht : c.tag.length = 32) : FnO 20 [.agg (cSegs c)] (commitR c) := by
  refine fnA (E := envCp) Try.func20 Try.ntmps20 ?_
  have hl := body_length hc
  have hbn : bodyN c ≤ 20000000 := by
    have := bxN_le (bx := c.bx) (k := c.k) hc.bx
    have h1 := hc.n; have h2 := hc.m; have h3 := hc.k
    unfold bodyN; omega
  have hnl : (numsB [c.sE, c.sS]).length = 16 := by rw [numsB_length]; rfl
  unfold commitR
  cases hm : mayB c with
  | false =>
    refine agow ?_; (try with_reducible exact True.intro)
    rfl
  | true =>
    refine agow ?_; (try with_reducible exact True.intro)
    generalize hp : ptsOf _ _ _ = o
    obtain rfl : o = some [.own 1 1, .own 2 (bodyN c), .win 0 9 32, .own 4 16] := hp.symm.trans (ptsOf_cons rfl (ptOf_own rfl rfl) (ptsOf_cons rfl (ptOf_own rfl rfl) (ptsOf_cons rfl rfl (ptsOf_cons rfl (ptOf_own rfl rfl) ptsOf_nil))))
    clear hp
    refine agow ?_; (try with_reducible exact True.intro)
    have e : (bodyB c ++ (c.tag ++ numsB [c.sE, c.sS])).length + 1 = commitN c := by
      rw [List.length_append, List.length_append, hl, ht, hnl, commitN]; omega
    rw [e, if_pos rfl]
    rfl
noncomputable def envCq : EnvX := envCp.add 20 commitS (commitS_of rcommit_ok) ⟨_, Try.func20, by kernel_rfl, by kernel_rfl⟩
end Go.Proofs.Ytbgdlggobbiibaa

/-
  Readers that are bad: all that they read is nought.
-/
namespace Go.Proofs.Ytbgdlggobbiibaa
set_option maxRecDepth 100000
open Go.RowKit Pm
set_option linter.unusedVariables false
set_option linter.unusedSimpArgs false
attribute [local irreducible] condK LoopA regA numB numsB boxB anyP idxP mayB withinB sigB oddOpB oddVoteB bodyB

/-- a reader: what is left, is it bad? -/
abbrev rdS (a : A) (bad : Bool) : List Seg := [.gen 1 [a], .bools 1 [bad]]
abbrev nilA : A := .v (.slice none 0 0)
def badM1 (res : Res) : Nat → Bk → List A → (Res → Bk → Prop) → Prop
  | 0, .var [.gen 1 [a], .bools 1 [true]], [.v (.int .i64 _)], K => K res (.var (rdS a true))
  | _, _, _, _ => False
theorem badM1_of {f : FuncId} {res : Res} (h : ∀ a n, FnMO f 0 (.var (rdS a true)) [.v (.int .i64 n)] res (.var (rdS a true))) : ∀ pos x args K, badM1 res pos x args K → ∃ r x', FnMO f pos x args r x' ∧ K r x' := by
  intro pos x args K hd
  unfold badM1 at hd
  split at hd
  · exact ⟨_, _, h _ _, hd⟩
  · exact hd.elim
def badM0 (res : Res) : Nat → Bk → List A → (Res → Bk → Prop) → Prop
  | 0, .var [.gen 1 [a], .bools 1 [true]], [], K => K res (.var (rdS a true))
  | _, _, _, _ => False
theorem badM0_of {f : FuncId} {res : Res} (h : ∀ a, FnMO f 0 (.var (rdS a true)) [] res (.var (rdS a true))) : ∀ pos x args K, badM0 res pos x args K → ∃ r x', FnMO f pos x args r x' ∧ K r x' := by
  intro pos x args K hd
  unfold badM0 at hd
  split at hd
  · exact ⟨_, _, h _, hd⟩
  · exact hd.elim
theorem btake_ok (a : A) (n : Int) : FnMO 29 0 (.var (rdS a true)) [.v (.int .i64 n)] (.d nilA) (.var (rdS a true)) := by
  refine fnMA (E := envCq) Try.func29 Try.ntmps29 ?_
  refine agow ?_; (try with_reducible exact True.intro)
theorem rbtake_ok (a : A) (n : Int) : FnMO 15 0 (.var (rdS a true)) [.v (.int .i64 n)] (.d nilA) (.var (rdS a true)) := by
  refine fnMA (E := envCq) Try.func15 Try.ntmps15 ?_
  refine agow ?_; (try with_reducible exact True.intro)
theorem gtake_ok (b : UInt8) : FnMO 29 0 (.var (rdS (.row 1 [.bytes 1 [b]]) false)) [.v (.int .i64 1)] (.d (.row 1 [.bytes 1 [b]])) (.var (rdS (.row 0 [.bytes 0 []]) false)) := by
  refine fnMA (E := envCq) Try.func29 Try.ntmps29 ?_
  refine agow ?_; (try with_reducible exact True.intro)
def takeM : Nat → Bk → List A → (Res → Bk → Prop) → Prop
  | 0, .var [.gen 1 [a], .bools 1 [true]], [.v (.int .i64 _)], K => K (.d nilA) (.var (rdS a true))
  | 0, .var [.gen 1 [.row 1 [.bytes 1 [b]]], .bools 1 [false]], [.v (.int .i64 1)], K => K (.d (.row 1 [.bytes 1 [b]])) (.var (rdS (.row 0 [.bytes 0 []]) false))
  | _, _, _, _ => False
theorem takeM_ok : ∀ pos x args K, takeM pos x args K → ∃ r x', FnMO 29 pos x args r x' ∧ K r x' := by
  intro pos x args K hd
  unfold takeM at hd
  split at hd
  · exact ⟨_, _, btake_ok _ _, hd⟩
  · exact ⟨_, _, gtake_ok _, hd⟩
  · exact hd.elim
noncomputable def envD0 : EnvX := envCq.addM 29 takeM takeM_ok ⟨_, Try.func29, by kernel_rfl, by kernel_rfl⟩
noncomputable def envD1 : EnvX := envD0.addM 15 (badM1 (.d nilA)) (badM1_of rbtake_ok) ⟨_, Try.func15, by kernel_rfl, by kernel_rfl⟩
theorem tonum0_ok : FnO 62 [nilA] (.t [.v (.int .i64 0), .v (.bool false)]) := by
  refine fnA (E := envD1) Try.func62 Try.ntmps62 ?_
  refine agow ?_; (try with_reducible exact True.intro)
theorem rtonum0_ok : FnO 46 [nilA] (.t [.v (.int .i64 0), .v (.bool false)]) := by
  refine fnA (E := envD1) Try.func46 Try.ntmps46 ?_
  refine agow ?_; (try with_reducible exact True.intro)
def nilS (res : Res) : List A → (Res → Prop) → Prop
  | [.v (.slice none 0 0)], K => K res
  | _, _ => False
theorem nilS_of {f : FuncId} {res : Res} (h : FnO f [nilA] res) : ∀ args K, nilS res args K → ∃ r, FnO f args r ∧ K r := by
  intro args K hd
  unfold nilS at hd
  split at hd
  · exact ⟨_, h, hd⟩
  · exact hd.elim
noncomputable def envD2 : EnvX := envD1.add 62 (nilS (.t [.v (.int .i64 0), .v (.bool false)])) (nilS_of tonum0_ok) ⟨_, Try.func62, by kernel_rfl, by kernel_rfl⟩
noncomputable def envD3 : EnvX := envD2.add 46 (nilS (.t [.v (.int .i64 0), .v (.bool false)])) (nilS_of rtonum0_ok) ⟨_, Try.func46, by kernel_rfl, by kernel_rfl⟩
theorem bcount_ok (a : A) (n : Int) : FnMO 31 0 (.var (rdS a true)) [.v (.int .i64 n)] (.d (.v (.int .i64 0))) (.var (rdS a true)) := by
  refine fnMA (E := envD3) Try.func31 Try.ntmps31 ?_
  refine agow ?_; (try with_reducible exact True.intro)
noncomputable def envD4 : EnvX := envD3.addM 31 (badM1 (.d (.v (.int .i64 0)))) (badM1_of bcount_ok) ⟨_, Try.func31, by kernel_rfl, by kernel_rfl⟩
theorem bnum_ok (a : A) : FnMO 30 0 (.var (rdS a true)) [] (.d (.v (.int .i64 0))) (.var (rdS a true)) := by
  refine fnMA (E := envD4) Try.func30 Try.ntmps30 ?_
  refine agow ?_; (try with_reducible exact True.intro)
noncomputable def envD5 : EnvX := envD4.addM 30 (badM0 (.d (.v (.int .i64 0)))) (badM0_of bnum_ok) ⟨_, Try.func30, by kernel_rfl, by kernel_rfl⟩
theorem rbnum_ok (a : A) : FnMO 16 0 (.var (rdS a true)) [] (.d (.v (.int .i64 0))) (.var (rdS a true)) := by
  refine fnMA (E := envD5) Try.func16 Try.ntmps16 ?_
  refine agow ?_; (try with_reducible exact True.intro)
noncomputable def envD6 : EnvX := envD5.addM 16 (badM0 (.d (.v (.int .i64 0)))) (badM0_of rbnum_ok) ⟨_, Try.func16, by kernel_rfl, by kernel_rfl⟩
end Go.Proofs.Ytbgdlggobbiibaa

/-
  Readers that are bad, on: hash (its call of take stands in a drawn region: opA knows no lent variable), the commit, ToCommit([2]).
-/
namespace Go.Proofs.Ytbgdlggobbiibaa
set_option maxRecDepth 100000
open Go.RowKit Pm
set_option linter.unusedVariables false
set_option linter.unusedSimpArgs false
attribute [local irreducible] condK LoopA regA numB numsB boxB anyP idxP mayB withinB sigB oddOpB oddVoteB bodyB

abbrev hash0 : A := .agg [.bytes 32 (List.replicate 32 0)]
theorem bhash_ok (a : A) : FnMO 35 0 (.var (rdS a true)) [] (.d hash0) (.var (rdS a true)) := by
  refine fnMA (E := envD6) Try.func35 Try.ntmps35 ?_
  refine agow ?_; (try with_reducible exact True.intro)
  rfl
noncomputable def envD7 : EnvX := envD6.addM 35 (badM0 (.d hash0)) (badM0_of bhash_ok) ⟨_, Try.func35, by kernel_rfl, by kernel_rfl⟩
theorem bsig_ok (a : A) : FnMO 36 0 (.var (rdS a true)) [] (.d (.agg [.ints .i64 2 [0, 0]])) (.var (rdS a true)) := by
  refine fnMA (E := envD7) Try.func36 Try.ntmps36 ?_
  refine agow ?_; (try with_reducible exact True.intro)
noncomputable def envD8 : EnvX := envD7.addM 36 (badM0 (.d (.agg [.ints .i64 2 [0, 0]]))) (badM0_of bsig_ok) ⟨_, Try.func36, by kernel_rfl, by kernel_rfl⟩
abbrev commit0 : A := .agg [.ints .i64 2 [0, 0], .gen 2 [nilA, nilA], .ints .i64 4 [0, 0, 0, 0], .gen 1 [nilA], .bytes 32 (List.replicate 32 0), .ints .i64 2 [0, 0]]
theorem bcommit_ok (a : A) : FnMO 12 0 (.var (rdS a true)) [] (.d commit0) (.var (rdS a true)) := by
  refine fnMA (E := envD8) Try.func12 Try.ntmps12 ?_
  refine agow ?_; (try with_reducible exact True.intro)
  refine StopL.mk (loop_unroll 1 ?_)
  refine agow ?_; (try with_reducible exact True.intro)
  refine StopL.mk (loop_unroll 1 ?_)
  refine agow ?_; (try with_reducible exact True.intro)
  refine StopL.mk (loop_unroll 4 ?_)
  refine agow ?_; (try with_reducible exact True.intro)
  refine StopL.mk (loop_unroll 1 ?_)
  refine agow ?_; (try with_reducible exact True.intro)
  rfl
noncomputable def envD9 : EnvX := envD8.addM 12 (badM0 (.d commit0)) (badM0_of bcommit_ok) ⟨_, Try.func12, by kernel_rfl, by kernel_rfl⟩
theorem bended_ok (a : A) : FnMO 13 0 (.var (rdS a true)) [] (.d (.v (.bool false))) (.var (rdS a true)) := by
  refine fnMA (E := envD9) Try.func13 Try.ntmps13 ?_
  refine agow ?_; (try with_reducible exact True.intro)
noncomputable def envDa : EnvX := envD9.addM 13 (badM0 (.d (.v (.bool false)))) (badM0_of bended_ok) ⟨_, Try.func13, by kernel_rfl, by kernel_rfl⟩
theorem bkind_ok : FnMO 11 0 (.var (rdS (.row 1 [.bytes 1 [2]]) false)) [.v (.int .u8 1)] (.t []) (.var (rdS (.row 0 [.bytes 0 []]) true)) := by
  refine fnMA (E := envDa) Try.func11 Try.ntmps11 ?_
  refine agow ?_; (try with_reducible exact True.intro)
def kindM : Nat → Bk → List A → (Res → Bk → Prop) → Prop
  | 0, .var [.gen 1 [.row 1 [.bytes 1 [b]]], .bools 1 [false]], [.v (.int .u8 1)], K => b = 2 ∧ K (.t []) (.var (rdS (.row 0 [.bytes 0 []]) true))
  | _, _, _, _ => False
theorem kindM_ok : ∀ pos x args K, kindM pos x args K → ∃ r x', FnMO 11 pos x args r x' ∧ K r x' := by
  intro pos x args K hd
  unfold kindM at hd
  split at hd
  · obtain ⟨rfl, hd⟩ := hd; exact ⟨_, _, bkind_ok, hd⟩
  · exact hd.elim
noncomputable def envDb : EnvX := envDa.addM 11 kindM kindM_ok ⟨_, Try.func11, by kernel_rfl, by kernel_rfl⟩
set_option maxHeartbeats 2000000 in
theorem btoCommit_ok : FnO 4 [.row 1 [.bytes 1 [2]]] (.t [commit0, .v (.int .i64 2)]) := by
  refine fnA (E := envDb) Try.func4 Try.ntmps4 ?_
  refine agow ?_; (try with_reducible exact True.intro)
  rfl
def toC2S : List A → (Res → Prop) → Prop
  | [.row 1 [.bytes 1 [b]]], K => b = 2 ∧ K (.t [commit0, .v (.int .i64 2)])
  | _, _ => False
theorem toC2S_ok : ∀ args K, toC2S args K → ∃ r, FnO 4 args r ∧ K r := by
  intro args K hd
  unfold toC2S at hd
  split at hd
  · obtain ⟨rfl, hd⟩ := hd; exact ⟨_, btoCommit_ok, hd⟩
  · exact hd.elim
end Go.Proofs.Ytbgdlggobbiibaa

/-
  What is known of wire: the first byte.
-/
namespace Go.Proofs.Ytbgdlggobbiibaa
set_option maxRecDepth 100000
open Go.RowKit Pm
set_option linter.unusedVariables false
set_option linter.unusedSimpArgs false
attribute [local irreducible] condK LoopA regA anyP idxP

/-- a commit of nothing -/
def cs0 : CS := ⟨0, 0, 0, [], 0, [], 0, 0, 0, 0, 0, fun _ => [], List.replicate 32 0, 0, 0⟩
theorem cs0_ok : CSok cs0 := ⟨Nat.zero_le _, Nat.zero_le _, Nat.zero_le _, rfl, rfl, fun j hj => absurd hj (Nat.not_lt_zero _)⟩
theorem nil_row {S : Nat → Prop} {w : World} {l : List Seg} (h : RL S w l []) : RA S w (.row 0 l) (.slice none 0 0) := .row h (Nat.le_refl _) (Nat.zero_le _) (fun _ => rfl) (.inl rfl)
theorem body_cs0 : bodyB cs0 = List.replicate 72 0 := by
  unfold bodyB bodyMid bodyHead cs0
  simp only [bxB, List.append_nil, numsB_nil]
  rfl
theorem may_cs0 : mayB cs0 = true := by
  unfold mayB
  simp [cs0, withinB, sigB, anyP_no]
theorem commit_cs0 : commitR cs0 = .t [.row 121 [.bytes 121 (1 :: (List.replicate 72 0 ++ (List.replicate 32 0 ++ numsB [0, 0])))], .v (.int .i64 0)] := by
  unfold commitR
  rw [may_cs0, if_pos rfl]
  unfold commitB
  rw [body_cs0]
  rfl
theorem commit0_up {S : Nat → Prop} {w : World} {v : Value} (h : RA S w commit0 v) : RA S w (.agg (cSegs cs0)) v := by
  cases h with
  | agg h =>
  cases h with
  | ints h1 r1 =>
  cases r1 with
  | gen g1 h2 r2 =>
  cases r2 with
  | ints h3 r3 =>
  cases r3 with
  | gen g2 h4 r4 =>
  refine .agg (.ints h1 (.gen ?_ rfl (.ints h3 (.gen ?_ rfl r4))))
  · cases g1 with
    | cons a1 b1 r =>
    cases r with
    | cons a2 b2 r' =>
    cases a1; cases a2
    exact .cons (nil_row (.ints rfl .nil)) b1 (.cons (nil_row (.ints rfl .nil)) b2 r')
  · cases g2 with
    | cons a1 b1 r =>
    cases a1
    exact .cons (.recs (cs := fun _ => []) (fun j hj => absurd hj (Nat.not_lt_zero _)) (Nat.le_refl _) (Nat.zero_le _) (fun _ => rfl) (.inl rfl)) b1 r
theorem fn_commit0 {f : FuncId} {res : Res} (h : FnO f [.agg (cSegs cs0)] res) : FnO f [commit0] res := by
  intro S w vs hG ha
  refine h S w vs hG ?_
  cases ha with
  | cons a1 r => exact .cons (commit0_up a1) r
def zC (res : Res) : List A → (Res → Prop) → Prop
  | [.agg [.ints .i64 2 [0, 0], .gen 2 [.v (.slice none 0 0), .v (.slice none 0 0)], .ints .i64 4 [0, 0, 0, 0], .gen 1 [.v (.slice none 0 0)], .bytes 32 t, .ints .i64 2 [0, 0]]], K => t = List.replicate 32 0 ∧ K res
  | _, _ => False
theorem zC_of {f : FuncId} {res : Res} (h : FnO f [.agg (cSegs cs0)] res) : ∀ args K, zC res args K → ∃ r, FnO f args r ∧ K r := by
  intro args K hd
  unfold zC at hd
  split at hd
  · obtain ⟨rfl, hd⟩ := hd; exact ⟨_, fn_commit0 h, hd⟩
  · exact hd.elim
noncomputable def envE0 : EnvX := envDb.add 4 toC2S toC2S_ok ⟨_, Try.func4, by kernel_rfl, by kernel_rfl⟩
noncomputable def envE1 : EnvX := envE0.add 27 (zC (.t [.row 121 [.bytes 121 (1 :: (List.replicate 72 0 ++ (List.replicate 32 0 ++ numsB [0, 0])))], .v (.int .i64 0)])) (zC_of (commit_cs0 ▸ wcommit_ok cs0 cs0_ok rfl)) ⟨_, Try.func27, by kernel_rfl, by kernel_rfl⟩
noncomputable def envE2 : EnvX := envE1.add 28 (zC (.o 5 1 72 [.bytes 72 (List.replicate 72 0)])) (zC_of (body_cs0 ▸ wbody_ok cs0 cs0_ok)) ⟨_, Try.func28, by kernel_rfl, by kernel_rfl⟩
theorem wknown_ok : FnO 10 [] (.d (.v (.bool true))) := by
  refine fnA (E := envE2) Try.func10 Try.ntmps10 ?_
  refine agow ?_; (try with_reducible exact True.intro)
  first | rw [beq_self_eq_true] | simp
end Go.Proofs.Ytbgdlggobbiibaa

/-
  A struct that is handed in: each field for itself. No program is named here.
-/
namespace Go.Proofs.Ytbgdlggobbiibaa
set_option maxRecDepth 100000
open Go.RowKit Go.ChangeShapes
set_option linter.unusedVariables false
set_option linter.unusedSimpArgs false

theorem weights_each {H : Type} {P : Program} {B : Nat} : ∀ (ts : List TypeId) (ds : List (DataW H)), (∀ n ∈ DataW.weightsEach P ts ds, n ≤ B) → ∀ (i : Nat) (t : TypeId) (d : DataW H), ts[i]? = some t → ds[i]? = some d → ∀ n ∈ d.weights P t, n ≤ B
  | [], _, _, i, t, d, h, _ => by simp at h
  | _ :: _, [], _, i, t, d, _, h => by simp at h
  | u :: ts, c :: ds, hw, 0, t, d, h1, h2 => by
    simp only [List.getElem?_cons_zero, Option.some.injEq] at h1 h2
    subst h1; subst h2
    intro n hn
    exact hw n (by rw [DataW.weightsEach]; exact List.mem_append_left _ hn)
  | u :: ts, c :: ds, hw, i + 1, t, d, h1, h2 => by
    simp only [List.getElem?_cons_succ] at h1 h2
    exact weights_each ts ds (fun n hn => hw n (by rw [DataW.weightsEach]; exact List.mem_append_right _ hn)) i t d h1 h2
/-- a struct's field: its cells, its weight -/
theorem struct_field {H : Type} {enc : TypeId × Value → H} {P : Program} {w : World} {base : Nat} {spare : Nat → Bool} {held : Bool} {t : TypeId} {fs : Array Field} {fuel B : Nat} {cs : List Value} {x : DataW H × List MemPlace}
    (ht : P.underlying t = some (.struct fs)) (h : DataW.trod enc P w base spare held fuel t cs = some x) (hw : ∀ n ∈ x.1.weights P t, n ≤ B) {i : Nat} {f : Field} (hi : fs[i]? = some f) :
    ∃ n y, DataW.trod enc P w base spare held n f.type ((cs.drop f.offset).take (P.cellsOf f.type)) = some y ∧ ∀ m ∈ y.1.weights P f.type, m ≤ B := by
  obtain ⟨xs, n, _, rfl, _, hlen, hf⟩ := DataW.trod_struct ht h
  have hlt : i < fs.size := (Array.getElem?_eq_some_iff.1 hi).1
  have hx : i < xs.length := by omega
  refine ⟨n, xs[i], ?_, ?_⟩
  · have := hf i f hi
    simpa [List.getElem?_eq_getElem hx] using this
  · simp only [DataW.weights, ht] at hw
    refine weights_each _ _ hw i f.type _ ?_ ?_
    · rw [List.getElem?_map, Array.getElem?_toList, hi]; rfl
    · rw [List.getElem?_map, List.getElem?_eq_getElem hx]; rfl
end Go.Proofs.Ytbgdlggobbiibaa
