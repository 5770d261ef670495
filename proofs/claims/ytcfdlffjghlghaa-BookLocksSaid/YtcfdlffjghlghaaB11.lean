/-
  Books: an environment that knows them; what another one tells.
-/
import Derived.Test.YtcfdlffjghlghaaB10
namespace Go.Proofs.Ytcfdlffjghlghaa
set_option maxRecDepth 100000
set_option pp.deepTerms true
set_option pp.maxSteps 1000000
open Go.RowKit
set_option linter.unusedVariables false
set_option linter.unusedSimpArgs false
attribute [local irreducible] condK LoopA regA

def newS : List A → (Res → Prop) → Prop
  | [], K => K (.ob (bkP ⟨[], 0, 0⟩))
  | _, _ => False
theorem newS_ok : ∀ args K, newS args K → ∃ r, FnO 12 args r ∧ K r := by
  intro args K h
  unfold newS at h
  split at h
  · exact ⟨_, newB_ok, h⟩
  · exact h.elim
def lenS : Nat → OP → List A → (Res → OP → Prop) → Prop
  | 0, q, [], K => ∃ x : BS, q = bkP x ∧ K (.d (.v (.int .i64 x.L.length))) (bkP x)
  | _, _, _, _ => False
theorem lenS_ok : ∀ pos p args K, lenS pos p args K → ∃ r p', FnB Try.prog gTab 22 pos p args r p' ∧ K r p' := by
  intro pos p args K h
  unfold lenS at h
  split at h
  · obtain ⟨x, rfl, h⟩ := h; exact ⟨_, _, lenB_ok x, h⟩
  · exact h.elim
def flushesS : Nat → OP → List A → (Res → OP → Prop) → Prop
  | 0, q, [], K => ∃ x : BS, q = bkP x ∧ x.f ≤ 1000 ∧ K (.d (.v (.int .i64 x.f))) (bkP x)
  | _, _, _, _ => False
theorem flushesS_ok : ∀ pos p args K, flushesS pos p args K → ∃ r p', FnB Try.prog gTab 23 pos p args r p' ∧ K r p' := by
  intro pos p args K h
  unfold flushesS at h
  split at h
  · obtain ⟨x, rfl, hf, h⟩ := h; exact ⟨_, _, flushesB_ok x hf, h⟩
  · exact h.elim
def flushS : Nat → OP → List A → (Res → OP → Prop) → Prop
  | 0, q, [], K => ∃ x : BS, q = bkP x ∧ x.f ≤ 1000 ∧ K (.t []) (bkP (flushB x))
  | _, _, _, _ => False
theorem flushS_ok : ∀ pos p args K, flushS pos p args K → ∃ r p', FnB Try.prog gTab 15 pos p args r p' ∧ K r p' := by
  intro pos p args K h
  unfold flushS at h
  split at h
  · obtain ⟨x, rfl, hf, h⟩ := h; exact ⟨_, _, flushB_ok x hf, h⟩
  · exact h.elim
def holdsS : Nat → OP → List A → (Res → OP → Prop) → Prop
  | 0, q, [.v (.int .i64 e)], K => ∃ x : BS, q = bkP x ∧ K (.t [.agg [.bytes 32 (getV x.L e)], .v (.bool (hasV x.L e))]) (bkP x)
  | _, _, _, _ => False
theorem holdsS_ok : ∀ pos p args K, holdsS pos p args K → ∃ r p', FnB Try.prog gTab 21 pos p args r p' ∧ K r p' := by
  intro pos p args K h
  unfold holdsS at h
  split at h
  · obtain ⟨x, rfl, h⟩ := h; exact ⟨_, _, holdsB_ok x _, h⟩
  · exact h.elim
def writeS : Nat → OP → List A → (Res → OP → Prop) → Prop
  | 0, q, [.v (.int .i64 e), .agg [.bytes 32 p]], K => ∃ x : BS, q = bkP x ∧ K (.d (.v (.int .i64 (writeE x e p)))) (bkP (writeB x e p))
  | _, _, _, _ => False
theorem writeS_ok : ∀ pos p args K, writeS pos p args K → ∃ r p', FnB Try.prog gTab 13 pos p args r p' ∧ K r p' := by
  intro pos p args K h
  unfold writeS at h
  split at h
  · obtain ⟨x, rfl, h⟩ := h; exact ⟨_, _, writeB_ok x _ _, h⟩
  · exact h.elim
def crashS : Nat → OP → List A → (Res → OP → Prop) → Prop
  | 0, q, [.v (.int .i64 k)], K => ∃ x : BS, q = bkP x ∧ (-9223372036854775808 ≤ k ∧ k ≤ 9223372036854775807) ∧ K (.ob (bkP (crashB x k))) (bkP x)
  | _, _, _, _ => False
theorem crashS_ok : ∀ pos p args K, crashS pos p args K → ∃ r p', FnB Try.prog gTab 17 pos p args r p' ∧ K r p' := by
  intro pos p args K h
  unfold crashS at h
  split at h
  · obtain ⟨x, rfl, hk, h⟩ := h; exact ⟨_, _, crashB_ok x _ hk, h⟩
  · exact h.elim
noncomputable def envB1 : EnvX := env0.add 12 newS newS_ok ⟨_, Try.func12, by kernel_rfl, by kernel_rfl⟩
noncomputable def envB2 : EnvX := envB1.addB 22 lenS lenS_ok ⟨_, Try.func22, by kernel_rfl, by kernel_rfl⟩
noncomputable def envB3 : EnvX := envB2.addB 23 flushesS flushesS_ok ⟨_, Try.func23, by kernel_rfl, by kernel_rfl⟩
noncomputable def envB4 : EnvX := envB3.addB 15 flushS flushS_ok ⟨_, Try.func15, by kernel_rfl, by kernel_rfl⟩
noncomputable def envB5 : EnvX := envB4.addB 21 holdsS holdsS_ok ⟨_, Try.func21, by kernel_rfl, by kernel_rfl⟩
noncomputable def envB6 : EnvX := envB5.addB 13 writeS writeS_ok ⟨_, Try.func13, by kernel_rfl, by kernel_rfl⟩
noncomputable def envB7 : EnvX := envB6.addB 17 crashS crashS_ok ⟨_, Try.func17, by kernel_rfl, by kernel_rfl⟩
set_option maxHeartbeats 1000000 in
theorem knownB_ok : FnO 20 [] (.d (.v (.bool true))) := by
  refine fnA (E := envB7) Try.func20 Try.ntmps20 ?_
  refine agow ?_; (try with_reducible exact True.intro)
  rfl
def knownS : List A → (Res → Prop) → Prop
  | [], K => K (.d (.v (.bool true)))
  | _, _ => False
theorem knownS_ok : ∀ args K, knownS args K → ∃ r, FnO 20 args r ∧ K r := by
  intro args K h
  unfold knownS at h
  split at h
  · exact ⟨_, knownB_ok, h⟩
  · exact h.elim
noncomputable def envB8 : EnvX := envB7.add 20 knownS knownS_ok ⟨_, Try.func20, by kernel_rfl, by kernel_rfl⟩
end Go.Proofs.Ytcfdlffjghlghaa
