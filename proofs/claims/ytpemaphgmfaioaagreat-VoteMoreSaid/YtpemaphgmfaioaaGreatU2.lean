/-
  Approvals: some view.
-/
import Derived.Test.YtpemaphgmfaioaaGreatU1
import Derived.Test.YtpemaphgmfaioaaGreatHA2
namespace Go.Proofs.YtpemaphgmfaioaaGreat
set_option maxRecDepth 100000
open Go.RowKit Pm
set_option linter.unusedVariables false
set_option linter.unusedSimpArgs false
attribute [local irreducible] condK LoopA regA powI scal

/-- so many members -/
def someZ : Nat → List Int
  | 0 => List.replicate 31 0
  | i + 1 => (someZ i).take (i * 2) ++ ([keyV (i : Nat), keyV ((i : Nat) + 20)] ++ (someZ i).drop (i * 2 + 2))
def someA (a : Int) : Nat → List Bool
  | 0 => List.replicate 8 false
  | i + 1 => (someA a i).set i (decide ((i : Int) < a))
abbrev Z32 : List UInt8 := List.replicate 32 0
abbrev someS (m a k : Int) : List Seg := vSegs 0 (someZ (min m.toNat 8)) (someA a (min m.toNat 8)) k Z32
theorem someZ_len : ∀ i, i ≤ 8 → (someZ i).length = 31
  | 0, _ => rfl
  | i + 1, h => by
    have := someZ_len i (by omega)
    simp [someZ, this]; omega
theorem someA_len (a : Int) : ∀ i, (someA a i).length = 8
  | 0 => rfl
  | i + 1 => by simp [someA, someA_len a i]
def seedS : List A → (Res → Prop) → Prop
  | [.v (.int .i64 n)], K => K (.d (.agg [.bytes 32 (keyB n)]))
  | _, _ => False
theorem seed_fn (n : Int) : FnO 20 [.v (.int .i64 n)] (.d (.agg [.bytes 32 (keyB n)])) := by
  refine fnA (E := envW1) Tryz.func20 Tryz.ntmps20 ?_
  obtain ⟨hw0, hw1⟩ := u8_bd n
  refine ago ?_; (try with_reducible exact True.intro)
  rfl
theorem seedS_ok : ∀ args K, seedS args K → ∃ r, FnO 20 args r ∧ K r := by
  intro args K h
  unfold seedS at h
  split at h
  · exact ⟨_, seed_fn _, h⟩
  · exact h.elim
noncomputable def envU2 : EnvX := envW1.add 20 seedS seedS_ok ⟨_, Tryz.func20, by kernel_rfl, by kernel_rfl⟩
attribute [local irreducible] someZ someA keyB
theorem keyV_eq (n : Int) : powI 4 (scal (keyB n)) = keyV n := by rw [keyV]
theorem someZ_0 : someZ 0 = List.replicate 31 0 := by rw [someZ]
theorem someA_0 (a : Int) : someA a 0 = List.replicate 8 false := by rw [someA]
set_option maxHeartbeats 1000000 in
theorem some_ok (m a k : Int) : FnO 18 [.v (.int .i64 m), .v (.int .i64 a), .v (.int .i64 k)] (.d (.agg (someS m a k))) := by
  refine fnA (E := envU2) Tryz.func18 Tryz.ntmps18 ?_
  have z0 := someZ_0
  have a0 := someA_0 a
  refine agow ?_; (try with_reducible exact True.intro)
  refine StopL.mk (loop_forG [0, 1, 6, 7, 8] [0, 1] (min m.toNat 8) (fun j => ⟨[.d (.v (.int .i64 m)), .d (.v (.int .i64 a)), .dead, .dead, .dead, .dead, .ptr 0 0, .ptr 1 0, .d (.v (.int .i64 (j : Nat))), .dead, .dead, .dead, .dead, .dead, .dead, .dead, .dead, .dead, .dead, .dead, .dead, .dead, .dead, .dead, .dead, .dead, .dead, .dead, .dead, .dead, .dead, .dead, .dead, .dead, .dead, .dead, .dead, .dead, .dead, .dead, .dead], [some (.var vZero), some (.var (vSegs 0 (someZ j) (someA a j) k Z32))]⟩) ?_ (h2 := by rw [z0, a0]; rfl))
  clear z0 a0
  intro j hj hl
  by_cases h1 : (j : Int) < m
  · by_cases h2 : j < 8
    · have sz : someZ (j + 1) = (someZ j).take (j * 2) ++ (powI 4 (scal (keyB j)) :: powI 4 (scal (keyB ((j : Int) + 20))) :: (someZ j).drop (j * 2 + 2)) := by rw [keyV_eq, keyV_eq, someZ]; rfl
      have sa : someA a (j + 1) = (someA a j).set j (decide ((j : Int) < a)) := by rw [someA]
      have h3 : j < min m.toNat 8 := by omega
      clear hj
      refine agow ?_; (try with_reducible exact True.intro)
      refine hl.go h3 [0, 1, 6, 7, 8] [0, 1] ?_
      rw [sz, sa]
      rfl
    · have e : min m.toNat 8 = j := by omega
      clear hj
      refine agow ?_; (try with_reducible exact True.intro)
      unfold someS
      rw [e]
      rfl
  · have e : min m.toNat 8 = j := by omega
    clear hj
    refine agow ?_; (try with_reducible exact True.intro)
    unfold someS
    rw [e]
    rfl
def someFS : List A → (Res → Prop) → Prop
  | [.v (.int .i64 m), .v (.int .i64 a), .v (.int .i64 k)], K => K (.d (.agg (someS m a k)))
  | _, _ => False
theorem someFS_ok : ∀ args K, someFS args K → ∃ r, FnO 18 args r ∧ K r := by
  intro args K h
  unfold someFS at h
  split at h
  · exact ⟨_, some_ok _ _ _, h⟩
  · exact h.elim
noncomputable def envU3 : EnvX := envU2.add 18 someFS someFS_ok ⟨_, Tryz.func18, by kernel_rfl, by kernel_rfl⟩
end Go.Proofs.YtpemaphgmfaioaaGreat
