/-
  Views: some view.
-/
import Derived.Test.YtpemaphgmfaioaaW1
namespace Go.Proofs.Ytpemaphgmfaioaa
set_option maxRecDepth 100000
open Go.RowKit Pm
set_option linter.unusedVariables false
set_option linter.unusedSimpArgs false
attribute [local irreducible] condK LoopA regA powI scal keyV

/-- so many members -/
def someZ : Nat → List Int
  | 0 => List.replicate 31 0
  | i + 1 => (someZ i).take (i * 2) ++ ([keyV (i : Nat), keyV ((i : Nat) + 20)] ++ (someZ i).drop (i * 2 + 2))
def someA (a : Int) : Nat → List Bool
  | 0 => List.replicate 8 false
  | i + 1 => (someA a i).set i (decide ((i : Int) < a))
abbrev Z32 : List UInt8 := List.replicate 32 0
abbrev someS (m a k : Int) : List Seg := vSegs 0 (someZ (min m.toNat 8)) (someA a (min m.toNat 8)) k Z32
theorem someZ_len : ∀ i, i ≤ 8 → (someZ i).length = 31
  | 0, _ => rfl
  | i + 1, h => by
    have := someZ_len i (by omega)
    simp [someZ, this]; omega
theorem someA_len (a : Int) : ∀ i, (someA a i).length = 8
  | 0 => rfl
  | i + 1 => by simp [someA, someA_len a i]
attribute [local irreducible] someZ someA
set_option maxHeartbeats 400000 in
theorem some_ok (m a k : Int) : FnO 20 [.v (.int .i64 m), .v (.int .i64 a), .v (.int .i64 k)] (.d (.agg (someS m a k))) := by
  refine fnA (E := envW2) Try.func20 Try.ntmps20 ?_
  have z0 : someZ 0 = List.replicate 31 0 := by unfold someZ; rfl
  have a0 : someA a 0 = List.replicate 8 false := by unfold someA; rfl
  refine agom ?_; (try with_reducible exact True.intro)
  refine StopL.mk (loop_inv [0, 1, 6, 7, 8] 2 (fun st => ∃ i : Nat, i ≤ 8 ∧ i ≤ m.toNat ∧ st = ⟨[.d (.v (.int .i64 m)), .d (.v (.int .i64 a)), .dead, .dead, .dead, .dead, .ptr 0 0, .ptr 1 0, .d (.v (.int .i64 (i : Nat))), .dead, .dead, .dead, .dead, .dead, .dead, .dead, .dead, .dead, .dead, .dead, .dead, .dead, .dead, .dead, .dead, .dead, .dead, .dead, .dead, .dead, .dead, .dead, .dead, .dead, .dead, .dead, .dead], [some (.var vZero), some (.var (vSegs 0 (someZ i) (someA a i) k Z32))]⟩) (fun s => 8 - intAt s 8) rfl ⟨0, by omega, by omega, by rw [z0, a0]; rfl⟩ ?_)
  rintro st ⟨i, hi, hm, rfl⟩
  have hw : IntKind.i64.wrap ((i : Int) + 1) = ((i + 1 : Nat) : Int) := by rw [wrapS (by omega) (by omega)]; omega
  have hw2 : IntKind.i64.wrap ((i : Int) + 20) = (i : Int) + 20 := wrapS (by omega) (by omega)
  by_cases h1 : (i : Int) < m
  · by_cases h2 : i < 8
    · have sz : someZ (i + 1) = (someZ i).take (i * 2) ++ (keyV (i : Nat) :: keyV (IntKind.i64.wrap ((i : Int) + 20)) :: (someZ i).drop (i * 2 + 2)) := by rw [hw2, someZ]; rfl
      have sa : someA a (i + 1) = (someA a i).set i (decide ((i : Int) < a)) := by rw [someA]
      refine agom ?_; (try with_reducible exact True.intro)
      refine ⟨⟨i + 1, by omega, by omega, by rw [sz, sa, ← hw]; rfl⟩, ?_⟩
      show 8 - (IntKind.i64.wrap ((i : Int) + 1)).toNat < 8 - (i : Int).toNat
      rw [hw]; omega
    · have e : min m.toNat 8 = i := by omega
      refine agom ?_; (try with_reducible exact True.intro)
      unfold someS
      rw [e]
      rfl
  · have e : min m.toNat 8 = i := by omega
    refine agom ?_; (try with_reducible exact True.intro)
    unfold someS
    rw [e]
    rfl
def someFS : List A → (Res → Prop) → Prop
  | [.v (.int .i64 m), .v (.int .i64 a), .v (.int .i64 k)], K => K (.d (.agg (someS m a k)))
  | _, _ => False
theorem someFS_ok : ∀ args K, someFS args K → ∃ r, FnO 20 args r ∧ K r := by
  intro args K h
  unfold someFS at h
  split at h
  · exact ⟨_, some_ok _ _ _, h⟩
  · exact h.elim
noncomputable def envW3 : EnvX := envW2.add 20 someFS someFS_ok ⟨_, Try.func20, by kernel_rfl, by kernel_rfl⟩
end Go.Proofs.Ytpemaphgmfaioaa
