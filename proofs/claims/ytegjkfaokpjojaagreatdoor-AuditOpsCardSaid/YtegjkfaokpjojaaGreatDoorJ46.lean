/-
  Parties: what a caller is told of a commit; one who is nobody; seeds.
-/
import Derived.Test.YtegjkfaokpjojaaGreatDoorJ37
import Derived.Test.YtegjkfaokpjojaaGreatDoorJ35
import Derived.Test.YtegjkfaokpjojaaGreatDoorJ38
namespace Go.Proofs.YtegjkfaokpjojaaGreatDoor
set_option maxRecDepth 100000
open Go.RowKit Pm
set_option linter.unusedVariables false
set_option linter.unusedSimpArgs false
attribute [local irreducible] condK LoopA regA powI scal mulI isI fourB deriveW numB numsB bodyB nodeW nextW viewHV doR chkV planL sealB boxD keyZ helD commonI placeI apE doP comE comP nextP joinP upW lefW tagE welSegs welF welN createP enterP

/-- a commit: either way -/
def comK (p : PS) (n : Nat) (ops : List Int) (m : Nat) (vs : List Int) (d : List UInt8) (K : List A → Prop) : Prop :=
  ∀ e, e = comE p n ops m vs → StopC (condK (decide (e = 0))
    (∀ s c q N W, s = doP p p.lf n ops → c = comP p s n ops m vs d → q = nextP p s n ops m vs d → N = welN s.ng 8 → W = welF (welSegs q (upW (lefW d)) (joinP p d) (tagE q.ep) d) s.ng 8 → K [.agg (cSegs2 c), .recs N 108 W, .sref (pSegs q) 0, .v (.int .i64 0)])
    (K [.agg cZero, .v (.slice none 0 0), .v (.pointer none), .v (.int .i64 e)]))
def comR (p : PS) (n : Nat) (ops : List Int) (m : Nat) (vs : List Int) (d : List UInt8) : List A :=
  if comE p n ops m vs = 0 then [.agg (cSegs2 (comP p (doP p p.lf n ops) n ops m vs d)), .recs (welN (doP p p.lf n ops).ng 8) 108 (welF (welSegs (nextP p (doP p p.lf n ops) n ops m vs d) (upW (lefW d)) (joinP p d) (tagE (nextP p (doP p p.lf n ops) n ops m vs d).ep) d) (doP p p.lf n ops).ng 8), .sref (pSegs (nextP p (doP p p.lf n ops) n ops m vs d)) 0, .v (.int .i64 0)]
        else [.agg cZero, .v (.slice none 0 0), .v (.pointer none), .v (.int .i64 (comE p n ops m vs))]
def commS : List A → (Res → Prop) → Prop
  | [.v (.pointer none), o, v, .agg [.bytes 32 d]], K => K (.t [.agg cZero, .v (.slice none 0 0), .v (.pointer none), .v (.int .i64 13)])
  | [x, o, v, .agg [.bytes 32 d]], K => prK x fun p => leafB p.lf = true ∧ opsK o fun n ops => votK v fun m vs => n ≤ 3000 ∧ m ≤ 3000 ∧ comK p n ops m vs d fun l => K (.t l)
  | _, _ => False
theorem commS_ok : ∀ args K, commS args K → ∃ r, FnO 10 args r ∧ K r := by
  intro args K h
  unfold commS at h
  split at h
  · exact ⟨_, commit0_fn _ _ _, h⟩
  · next o v d _ =>
    obtain ⟨p, rfl, hf, h⟩ := prK_eq h
    obtain ⟨n, ops, _, h, ho⟩ := opsK_spec h
    obtain ⟨m, vs, _, ⟨hn, hm, h⟩, hv⟩ := votK_spec h
    have h := (h _ rfl).out
    refine ⟨.t (comR p n ops m vs d), fun S w vs' hG ha => ?_, ?_⟩
    · obtain ⟨v1, v2, v3, v4, rfl, k1, k2, k3, k4⟩ := ra_four ha
      exact commit_fn p n ops hn m vs hm _ hf S w _ hG (.cons k1 (.cons (ho k2) (.cons (hv k3) (.cons k4 .nil))))
    · unfold comR
      by_cases he : comE p n ops m vs = 0
      · rw [decide_eq_true he, condK_true] at h
        rw [if_pos he]
        exact h _ _ _ _ _ rfl rfl rfl rfl rfl
      · rw [decide_eq_false he, condK_false] at h
        rw [if_neg he]
        exact h
  · exact h.elim
noncomputable def envPz0 : EnvX := envR9.add 10 commS commS_ok ⟨_, Tryz.func10, by kernel_rfl, by kernel_rfl⟩
noncomputable def envPz1 : EnvX := envPz0
noncomputable def envPz2 : EnvX := envPz1
noncomputable def envPz4 : EnvX := envPz2.add 9 (ofP (fun p => .d (.agg (vSegs p.e p.zs p.ad p.k p.ch))) (.d (.agg vZero))) (ofP_of view0_fn view_fn) ⟨_, Tryz.func9, by kernel_rfl, by kernel_rfl⟩
noncomputable def envPz5 : EnvX := envPz4.add 59 (ofP (fun p => .d (.v (.int .i64 p.lf))) (.d (.v (.int .i64 0)))) (ofP_of pleaf0_fn pleaf_fn) ⟨_, Tryz.func59, by kernel_rfl, by kernel_rfl⟩
def exportS : List A → (Res → Prop) → Prop
  | [.v (.pointer none), .v (.string l)], K => K (.d (.agg [.bytes 32 (zB 32)]))
  | [x, .v (.string l)], K => l.size ≤ 1000000 ∧ prK x fun p => K (.d (.agg [.bytes 32 (expW p.ep (sb l))]))
  | _, _ => False
theorem exportS_ok : ∀ args K, exportS args K → ∃ r, FnO 62 args r ∧ K r := by
  intro args K h
  unfold exportS at h
  split at h
  · exact ⟨_, export0_fn _, h⟩
  · obtain ⟨hl, h⟩ := h
    obtain ⟨p, rfl, h⟩ := prK_eq h
    exact ⟨_, export_fn p _ hl, h⟩
  · exact h.elim
noncomputable def envPz6 : EnvX := envPz5.add 62 exportS exportS_ok ⟨_, Tryz.func62, by kernel_rfl, by kernel_rfl⟩
/-- one who begins: unknown but for an equation -/
def createE : List A → (Res → Prop) → Prop
  | [.agg [.bytes 32 h]], K => ∀ p, p = createP h → K (.d (.sref (pSegs p) 0))
  | _, _ => False
theorem createE_ok : ∀ args K, createE args K → ∃ r, FnO 6 args r ∧ K r := by
  intro args K h
  unfold createE at h
  split at h
  · exact ⟨_, fn_sref (create_fn _), h _ rfl⟩
  · exact h.elim
noncomputable def envPz7 : EnvX := envPz6.add 6 createE createE_ok ⟨_, Tryz.func6, by kernel_rfl, by kernel_rfl⟩
end Go.Proofs.YtegjkfaokpjojaaGreatDoor

/-
  One step; the law of parties that are nothing.
-/
namespace Go.Proofs.YtegjkfaokpjojaaGreatDoor
set_option maxRecDepth 100000
open Go.RowKit Pm
set_option linter.unusedVariables false
set_option linter.unusedSimpArgs false
attribute [local irreducible] condK LoopA regA powI scal mulI isI fourB deriveW numB numsB bodyB nodeW nextW viewHV doR chkV planL sealB boxD keyZ helD commonI placeI apE doP comE comP nextP joinP upW lefW tagE welSegs welF createP enterP

theorem create_lf (h : List UInt8) : (createP h).lf = 0 ∧ (createP h).e = 0 := by unfold createP enterP; exact ⟨rfl, rfl⟩
theorem nextP_e (p : PS) (s : Vw) (n : Nat) (ops : List Int) (m : Nat) (vs : List Int) (d : List UInt8) : (nextP p s n ops m vs d).e = p.e + 1 := by unfold nextP reachP enterP behP renewP; rfl
theorem kn_e {h : List UInt8} {p : PS} (hp : p = createP h) : p.e = 0 := hp ▸ (create_lf h).2
end Go.Proofs.YtegjkfaokpjojaaGreatDoor
