/-
  Books: a book of nothing.
-/
import Derived.Test.YtcfdlffjghlghaaHB3
namespace Go.Proofs.Ytcfdlffjghlghaa
set_option maxRecDepth 100000
open Go.RowKit
set_option linter.unusedVariables false
set_option linter.unusedSimpArgs false
attribute [local irreducible] condK LoopA regA

theorem nflush_ok : FnO 15 [.v (.pointer none)] (.t []) := by
  refine fnA (E := env0) Try.func15 Try.ntmps15 ?_
  refine agow ?_; (try with_reducible exact True.intro)
theorem nlen_ok : FnO 22 [.v (.pointer none)] (.d (.v (.int .i64 0))) := by
  refine fnA (E := env0) Try.func22 Try.ntmps22 ?_
  refine agow ?_; (try with_reducible exact True.intro)
theorem nflushes_ok : FnO 23 [.v (.pointer none)] (.d (.v (.int .i64 0))) := by
  refine fnA (E := env0) Try.func23 Try.ntmps23 ?_
  refine agow ?_; (try with_reducible exact True.intro)
theorem ncrash_ok (k : Int) : FnO 17 [.v (.pointer none), .v (.int .i64 k)] (.d (.v (.pointer none))) := by
  refine fnA (E := env0) Try.func17 Try.ntmps17 ?_
  refine agow ?_; (try with_reducible exact True.intro)
theorem nholds_ok (e : Int) : FnO 21 [.v (.pointer none), .v (.int .i64 e)] (.t [.agg [.bytes 32 H0], .v (.bool false)]) := by
  refine fnA (E := env0) Try.func21 Try.ntmps21 ?_
  refine agow ?_; (try with_reducible exact True.intro)
  rfl
theorem nwrite_ok (e : Int) (p : List UInt8) : FnO 13 [.v (.pointer none), .v (.int .i64 e), .agg [.bytes 32 p]] (.d (.v (.int .i64 1))) := by
  refine fnA (E := env0) Try.func13 Try.ntmps13 ?_
  refine agow ?_; (try with_reducible exact True.intro)
def nflushS : List A → (Res → Prop) → Prop
  | [.v (.pointer none)], K => K (.t [])
  | _, _ => False
theorem nflushS_ok : ∀ args K, nflushS args K → ∃ r, FnO 15 args r ∧ K r := by
  intro args K h; unfold nflushS at h; split at h; exact ⟨_, nflush_ok, h⟩; exact h.elim
def nzeroS : List A → (Res → Prop) → Prop
  | [.v (.pointer none)], K => K (.d (.v (.int .i64 0)))
  | _, _ => False
theorem nlenS_ok : ∀ args K, nzeroS args K → ∃ r, FnO 22 args r ∧ K r := by
  intro args K h; unfold nzeroS at h; split at h; exact ⟨_, nlen_ok, h⟩; exact h.elim
theorem nflushesS_ok : ∀ args K, nzeroS args K → ∃ r, FnO 23 args r ∧ K r := by
  intro args K h; unfold nzeroS at h; split at h; exact ⟨_, nflushes_ok, h⟩; exact h.elim
def ncrashS : List A → (Res → Prop) → Prop
  | [.v (.pointer none), .v (.int .i64 k)], K => K (.d (.v (.pointer none)))
  | _, _ => False
theorem ncrashS_ok : ∀ args K, ncrashS args K → ∃ r, FnO 17 args r ∧ K r := by
  intro args K h; unfold ncrashS at h; split at h; exact ⟨_, ncrash_ok _, h⟩; exact h.elim
def nholdsS : List A → (Res → Prop) → Prop
  | [.v (.pointer none), .v (.int .i64 k)], K => K (.t [.agg [.bytes 32 H0], .v (.bool false)])
  | _, _ => False
theorem nholdsS_ok : ∀ args K, nholdsS args K → ∃ r, FnO 21 args r ∧ K r := by
  intro args K h; unfold nholdsS at h; split at h; exact ⟨_, nholds_ok _, h⟩; exact h.elim
def nwriteS : List A → (Res → Prop) → Prop
  | [.v (.pointer none), .v (.int .i64 k), .agg [.bytes 32 p]], K => K (.d (.v (.int .i64 1)))
  | _, _ => False
theorem nwriteS_ok : ∀ args K, nwriteS args K → ∃ r, FnO 13 args r ∧ K r := by
  intro args K h; unfold nwriteS at h; split at h; exact ⟨_, nwrite_ok _ _, h⟩; exact h.elim
noncomputable def envN1 : EnvX := envB8.add 15 nflushS nflushS_ok ⟨_, Try.func15, by kernel_rfl, by kernel_rfl⟩
noncomputable def envN2 : EnvX := envN1.add 22 nzeroS nlenS_ok ⟨_, Try.func22, by kernel_rfl, by kernel_rfl⟩
noncomputable def envN3 : EnvX := envN2.add 23 nzeroS nflushesS_ok ⟨_, Try.func23, by kernel_rfl, by kernel_rfl⟩
noncomputable def envN4 : EnvX := envN3.add 17 ncrashS ncrashS_ok ⟨_, Try.func17, by kernel_rfl, by kernel_rfl⟩
noncomputable def envN5 : EnvX := envN4.add 21 nholdsS nholdsS_ok ⟨_, Try.func21, by kernel_rfl, by kernel_rfl⟩
noncomputable def envN6 : EnvX := envN5.add 13 nwriteS nwriteS_ok ⟨_, Try.func13, by kernel_rfl, by kernel_rfl⟩
set_option maxHeartbeats 1000000 in
theorem bookOfNothing_ok (e : Int) (p : List UInt8) : FnO 8 [.v (.int .i64 e), .agg [.bytes 32 p]] (.d (.v (.bool true))) := by
  refine fnA (E := envN6) Try.func8 Try.ntmps8 ?_
  refine agow ?_; (try with_reducible exact True.intro)
theorem bookOfNothing_walk {w : World} (e : Int) (he : (Lit.int .i64 e).wf = true) (h : List UInt8) (hh : h.length = 32) :
    Calls Try.prog 8 #[.int .i64 e, HV h] w fun e w' => e = .returned (.bool true) ∧ Below w.heap.size w w' :=
  law_of_fn (bookOfNothing_ok e h) gok_none11 (.cons (.v _) (.cons (ra_hash32 hh) .nil))
end Go.Proofs.Ytcfdlffjghlghaa
