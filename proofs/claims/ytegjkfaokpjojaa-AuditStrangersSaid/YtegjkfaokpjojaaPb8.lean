/-
  Parties: what a caller is told of a commit; one who is nobody; seeds.
-/
import Derived.Test.YtegjkfaokpjojaaJ37
namespace Go.Proofs.Ytegjkfaokpjojaa
set_option maxRecDepth 100000
open Go.RowKit Pm
set_option linter.unusedVariables false
set_option linter.unusedSimpArgs false
attribute [local irreducible] condK LoopA regA powI scal mulI isI fourB deriveW numB numsB bodyB nodeW nextW viewHV doR chkV planL sealB boxD keyZ helD commonI placeI apE doP comE comP nextP joinP upW lefW tagE welSegs welF welN createP enterP

/-- a commit: either way -/
def comK (p : PS) (n : Nat) (ops : List Int) (m : Nat) (vs : List Int) (d : List UInt8) (K : List A → Prop) : Prop :=
  ∀ e, e = comE p n ops m vs → StopC (condK (decide (e = 0))
    (∀ s c q N W, s = doP p p.lf n ops → c = comP p s n ops m vs d → q = nextP p s n ops m vs d → N = welN s.ng 8 → W = welF (welSegs q (upW (lefW d)) (joinP p d) (tagE q.ep) d) s.ng 8 → K [.agg (cSegs2 c), .recs N 108 W, .sref (pSegs q) 0, .v (.int .i64 0)])
    (K [.agg cZero, .v (.slice none 0 0), .v (.pointer none), .v (.int .i64 e)]))
def comR (p : PS) (n : Nat) (ops : List Int) (m : Nat) (vs : List Int) (d : List UInt8) : List A :=
  if comE p n ops m vs = 0 then [.agg (cSegs2 (comP p (doP p p.lf n ops) n ops m vs d)), .recs (welN (doP p p.lf n ops).ng 8) 108 (welF (welSegs (nextP p (doP p p.lf n ops) n ops m vs d) (upW (lefW d)) (joinP p d) (tagE (nextP p (doP p p.lf n ops) n ops m vs d).ep) d) (doP p p.lf n ops).ng 8), .sref (pSegs (nextP p (doP p p.lf n ops) n ops m vs d)) 0, .v (.int .i64 0)]
        else [.agg cZero, .v (.slice none 0 0), .v (.pointer none), .v (.int .i64 (comE p n ops m vs))]
def commS : List A → (Res → Prop) → Prop
  | [.v (.pointer none), o, v, .agg [.bytes 32 d]], K => K (.t [.agg cZero, .v (.slice none 0 0), .v (.pointer none), .v (.int .i64 13)])
  | [x, o, v, .agg [.bytes 32 d]], K => prK x fun p => leafB p.lf = true ∧ opsK o fun n ops => votK v fun m vs => n ≤ 3000 ∧ m ≤ 3000 ∧ comK p n ops m vs d fun l => K (.t l)
  | _, _ => False
noncomputable def envPz0 : EnvX := envR9
def proc0S : List A → (Res → Prop) → Prop
  | [.v (.pointer none), .agg [.ints .i64 2 [0, 0], .gen 2 [.v (.slice none 0 0), .v (.slice none 0 0)], .ints .i64 4 [0, 0, 0, 0], .gen 1 [.v (.slice none 0 0)], .bytes 32 z, .ints .i64 2 [0, 0]]], K => z = zB 32 ∧ K (.t [.v (.pointer none), .v (.int .i64 13)])
  | _, _ => False
noncomputable def envPz1 : EnvX := envPz0
abbrev seed0 : List UInt8 := 0 :: 11 :: List.replicate 30 0
def seed0S : List A → (Res → Prop) → Prop
  | [.v (.int .i64 0)], K => ∀ h, h = seed0 → K (.d (.agg [.bytes 32 h]))
  | _, _ => False
noncomputable def envPz2 : EnvX := envPz1
noncomputable def envPz4 : EnvX := envPz2.add 17 (ofP (fun p => .d (.agg (vSegs p.e p.zs p.ad p.k p.ch))) (.d (.agg vZero))) (ofP_of view0_fn view_fn) ⟨_, Try.func17, by kernel_rfl, by kernel_rfl⟩
noncomputable def envPz5 : EnvX := envPz4.add 31 (ofP (fun p => .d (.v (.int .i64 p.lf))) (.d (.v (.int .i64 0)))) (ofP_of pleaf0_fn pleaf_fn) ⟨_, Try.func31, by kernel_rfl, by kernel_rfl⟩
def exportS : List A → (Res → Prop) → Prop
  | [.v (.pointer none), .v (.string l)], K => K (.d (.agg [.bytes 32 (zB 32)]))
  | [x, .v (.string l)], K => l.size ≤ 1000000 ∧ prK x fun p => K (.d (.agg [.bytes 32 (expW p.ep (sb l))]))
  | _, _ => False
theorem exportS_ok : ∀ args K, exportS args K → ∃ r, FnO 18 args r ∧ K r := by
  intro args K h
  unfold exportS at h
  split at h
  · exact ⟨_, export0_fn _, h⟩
  · obtain ⟨hl, h⟩ := h
    obtain ⟨p, rfl, h⟩ := prK_eq h
    exact ⟨_, export_fn p _ hl, h⟩
  · exact h.elim
noncomputable def envPz6 : EnvX := envPz5.add 18 exportS exportS_ok ⟨_, Try.func18, by kernel_rfl, by kernel_rfl⟩
/-- one who begins: unknown but for an equation -/
def createE : List A → (Res → Prop) → Prop
  | [.agg [.bytes 32 h]], K => ∀ p, p = createP h → K (.d (.sref (pSegs p) 0))
  | _, _ => False
theorem createE_ok : ∀ args K, createE args K → ∃ r, FnO 4 args r ∧ K r := by
  intro args K h
  unfold createE at h
  split at h
  · exact ⟨_, fn_sref (create_fn _), h _ rfl⟩
  · exact h.elim
noncomputable def envPz7 : EnvX := envPz6.add 4 createE createE_ok ⟨_, Try.func4, by kernel_rfl, by kernel_rfl⟩
end Go.Proofs.Ytegjkfaokpjojaa
