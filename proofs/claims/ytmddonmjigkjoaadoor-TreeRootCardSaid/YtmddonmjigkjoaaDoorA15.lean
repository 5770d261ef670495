/-
  The machine without memory: its table of functions grows; rules by which it is reckoned. No program is named here.
-/
import Derived.Test.YtmddonmjigkjoaaDoorA14
namespace Go.Proofs.YtmddonmjigkjoaaDoor
set_option maxRecDepth 100000
open Go.RowKit
set_option linter.unusedVariables false
set_option linter.unusedSimpArgs false

def tiInt (k : IntKind) (bytes : Nat) : TI := ⟨1, false, [.ints k 1 [0]], [], [], 0, 0, false, 0, some k, bytes, false, []⟩
def tiByte : TI := ⟨1, false, [.bytes 1 [0]], [], [], 0, 0, false, 0, some .u8, 1, false, []⟩
def tiBool : TI := ⟨1, false, [.bools 1 [false]], [], [], 0, 0, false, 0, none, 1, false, []⟩
def tiStr' : TI := ⟨1, false, [.gen 1 [.v (.string .empty)]], [], [], 0, 0, false, 0, none, 16, false, []⟩
def tiPtr : TI := ⟨1, false, [.gen 1 [.v (.pointer none)]], [], [], 0, 0, false, 0, none, 8, false, []⟩
def tiSl (elem : TypeId) (esz : Nat) : TI := ⟨1, false, [.gen 1 [.v (.slice none 0 0)]], [], [], esz, 0, true, elem, none, 24, false, []⟩
def tiArr (n : Nat) (elem : TypeId) (esz : Nat) (zero : List Seg) (bytes : Nat) : TI := ⟨n * esz, true, zero, [], [], esz, n, false, elem, none, bytes, true, []⟩
def tiStruct (sz : Nat) (zero : List Seg) (fld : List Nat) (fty : List TypeId) (bytes : Nat) (eq : Bool) (plc : List (Nat × Nat)) : TI := ⟨sz, true, zero, fld, fty, 0, 0, false, 0, none, bytes, eq, plc⟩

structure FnThere (P : Program) (f : FuncId) : Prop where
  out : ∃ fn, P.funcs[f]? = some fn ∧ fn.body.isNone = false ∧ (fn.name == "runtime.NumGoroutine") = false

/-- one function more is known -/
noncomputable def EnvX.add (E : EnvX) (f0 : FuncId) (spec : List A → (Res → Prop) → Prop) (h : ∀ args K, spec args K → ∃ r, FnOK E.P E.G f0 args r ∧ K r) (hf : FnThere E.P f0) : EnvX :=
  { P := E.P, Y := E.Y, G := E.G, C := fun f args K => if f = f0 then spec args K else E.C f args K, M := E.M, hY := E.hY, hMu := E.hMu,
    hC := fun f args K hc => by
      by_cases e : f = f0
      · subst e; rw [if_pos rfl] at hc; exact h args K hc
      · rw [if_neg e] at hc; exact E.hC f args K hc
    hF := fun f args K hc => by
      by_cases e : f = f0
      · subst e; exact hf.out
      · rw [if_neg e] at hc; exact E.hF f args K hc
    hE := E.hE, hM := E.hM }
/-- one function more to which a block is lent -/
noncomputable def EnvX.addM (E : EnvX) (f0 : FuncId) (spec : Nat → Bk → List A → (Res → Bk → Prop) → Prop) (h : ∀ pos x args K, spec pos x args K → ∃ r x', FnM E.P E.G f0 pos x args r x' ∧ K r x') (hf : FnThere E.P f0) : EnvX :=
  { P := E.P, Y := E.Y, G := E.G, C := E.C, M := fun f pos x args K => if f = f0 then spec pos x args K else E.M f pos x args K, hY := E.hY,
    hMu := fun f pos x args K hc => by
      by_cases e : f = f0
      · subst e; rw [if_pos rfl] at hc; exact ⟨h pos x args K hc, hf.out⟩
      · rw [if_neg e] at hc; exact E.hMu f pos x args K hc
    hC := E.hC, hF := E.hF, hE := E.hE, hM := E.hM }

theorem wn1 : IntKind.i64.wrap 1 = 1 := by decide
theorem wn2 : IntKind.i64.wrap 2 = 2 := by decide
theorem wn3 : IntKind.i64.wrap 3 = 3 := by decide
theorem wn4 : IntKind.i64.wrap 4 = 4 := by decide
theorem wn5 : IntKind.i64.wrap 5 = 5 := by decide
theorem wn6 : IntKind.i64.wrap 6 = 6 := by decide
theorem wn7 : IntKind.i64.wrap 7 = 7 := by decide
theorem wn8 : IntKind.i64.wrap 8 = 8 := by decide
theorem wn9 : IntKind.i64.wrap 9 = 9 := by decide
theorem wn10 : IntKind.i64.wrap 10 = 10 := by decide
theorem wn11 : IntKind.i64.wrap 11 = 11 := by decide
theorem wn12 : IntKind.i64.wrap 12 = 12 := by decide
theorem wn13 : IntKind.i64.wrap 13 = 13 := by decide
theorem wn14 : IntKind.i64.wrap 14 = 14 := by decide
theorem wn15 : IntKind.i64.wrap 15 = 15 := by decide
theorem wn16 : IntKind.i64.wrap 16 = 16 := by decide
theorem condK_split {b : Bool} {x y : Prop} (h1 : b = true → x) (h2 : b = false → y) : condK b x y := by cases b; exact h2 rfl; exact h1 rfl
theorem condK_is {b : Bool} {x y : Prop} (h : b = true) (hx : x) : condK b x y := by rw [h]; exact hx
theorem condK_isnt {b : Bool} {x y : Prop} (h : b = false) (hy : y) : condK b x y := by rw [h]; exact hy
theorem regA_nil {E : EnvX} {ops : List Oper} {s : St} {k : St → Prop} (h : k s) : regA E ops [] s k := h
theorem regA_cons {E : EnvX} {ops : List Oper} {o : Oper} {r : List Oper} {s : St} {k : St → Prop} (h : mutK E o s (fun s' => Stop (regA E ops r s' k)) (stepK E ops o s s.h.length fun t blk => Stop (regA E ops r (s.app2 o.dst t blk) k))) : regA E ops (o :: r) s k := h
theorem regDr_intro {E : EnvX} {l : List Oper} {s : St} {k : St → Prop} (n : Nat) (hn : cntAlloc l = n) (h1 : tabOK l = true)
    (h2 : regD E l s.h.length n l 0 ⟨s.t, s.h ++ List.replicate (n + 1) none⟩ [] fun acc s' => chkB (depsL l) s.h.length (s.h.length + n) acc = true ∧ k ⟨s'.t, trimH s'.h⟩) : regDr E l s k := by
  subst hn
  exact ⟨h1, h2⟩
theorem regD_cons {E : EnvX} {ops : List Oper} {n0 tot : Nat} {o : Oper} {r : List Oper} {c : Nat} {s : St} {acc : List Foot} {k : List Foot → St → Prop}
    (h : stepK E ops o s (if isAlloc o = true then n0 + c else n0 + tot) fun t blk =>
      StopD (regD E ops n0 tot r (if isAlloc o = true then c + 1 else c) (s.app o.dst t blk) (acc ++ [(opRefs s o, blk.map (·.1), if isAlloc o = true then n0 + c else n0 + tot)]) k)) : regD E ops n0 tot (o :: r) c s acc k := h
theorem regD_nil {E : EnvX} {ops : List Oper} {n0 tot : Nat} {c : Nat} {s : St} {acc : List Foot} {k : List Foot → St → Prop} (h : k acc s) : regD E ops n0 tot [] c s acc k := h
theorem loop_unroll {body : St → (Exit → St → Prop) → Prop} {s : St} {k : Exit → St → Prop} (n : Nat) (h : LoopU body k n s) : LoopA body s k := .inl ⟨n, h⟩
theorem loop_inv {body : St → (Exit → St → Prop) → Prop} {s : St} {k : Exit → St → Prop} (live : List Nat) (m : Nat) (I : St → Prop) (μ : St → Nat) (h1 : liveOK live m s) (h2 : I (weaken live m s))
    (h3 : ∀ s, I s → body s fun e s' => match e with | .normal => liveOK live m s' ∧ I (weaken live m s') ∧ μ (weaken live m s') < μ s | e => k e s') (h0 : 0 < m := by decide) : LoopA body s k := .inr ⟨live, m, I, μ, h0, h1, h2, h3⟩
end Go.Proofs.YtmddonmjigkjoaaDoor
