/-
  The machine without memory: its table of functions grows; rules by which it is reckoned. No program is named here.
-/
import Derived.Test.YtcfdlffjghlghaaA14
namespace Go.Proofs.Ytcfdlffjghlghaa
set_option maxRecDepth 100000
open Go.RowKit
set_option linter.unusedVariables false
set_option linter.unusedSimpArgs false

def tiInt (k : IntKind) (bytes : Nat) : TI := ⟨1, false, [.ints k 1 [0]], [], [], 0, 0, false, 0, some k, bytes, false, []⟩
def tiByte : TI := ⟨1, false, [.bytes 1 [0]], [], [], 0, 0, false, 0, some .u8, 1, false, []⟩
def tiBool : TI := ⟨1, false, [.bools 1 [false]], [], [], 0, 0, false, 0, none, 1, false, []⟩
def tiStr' : TI := ⟨1, false, [.gen 1 [.v (.string .empty)]], [], [], 0, 0, false, 0, none, 16, false, []⟩
def tiPtr : TI := ⟨1, false, [.gen 1 [.v (.pointer none)]], [], [], 0, 0, false, 0, none, 8, false, []⟩
def tiSl (elem : TypeId) (esz : Nat) : TI := ⟨1, false, [.gen 1 [.v (.slice none 0 0)]], [], [], esz, 0, true, elem, none, 24, false, []⟩
def tiArr (n : Nat) (elem : TypeId) (esz : Nat) (zero : List Seg) (bytes : Nat) : TI := ⟨n * esz, true, zero, [], [], esz, n, false, elem, none, bytes, true, []⟩
def tiStruct (sz : Nat) (zero : List Seg) (fld : List Nat) (fty : List TypeId) (bytes : Nat) (eq : Bool) (plc : List (Nat × Nat)) : TI := ⟨sz, true, zero, fld, fty, 0, 0, false, 0, none, bytes, eq, plc⟩

structure FnThere (P : Program) (f : FuncId) : Prop where
  out : ∃ fn, P.funcs[f]? = some fn ∧ fn.body.isNone = false ∧ (fn.name == "runtime.NumGoroutine") = false

/-- one function more is known -/
noncomputable def EnvX.add (E : EnvX) (f0 : FuncId) (spec : List A → (Res → Prop) → Prop) (h : ∀ args K, spec args K → ∃ r, FnOK E.P E.G f0 args r ∧ K r) (hf : FnThere E.P f0) : EnvX :=
  { P := E.P, Y := E.Y, G := E.G, C := fun f args K => if f = f0 then spec args K else E.C f args K, M := E.M, B := E.B, hY := E.hY, hMu := E.hMu, hB := E.hB,
    hC := fun f args K hc => by
      by_cases e : f = f0
      · subst e; rw [if_pos rfl] at hc; exact h args K hc
      · rw [if_neg e] at hc; exact E.hC f args K hc
    hF := fun f args K hc => by
      by_cases e : f = f0
      · subst e; exact hf.out
      · rw [if_neg e] at hc; exact E.hF f args K hc
    hE := E.hE, hM := E.hM }
/-- one function more to which a block is lent -/
noncomputable def EnvX.addM (E : EnvX) (f0 : FuncId) (spec : Nat → Bk → List A → (Res → Bk → Prop) → Prop) (h : ∀ pos x args K, spec pos x args K → ∃ r x', FnM E.P E.G f0 pos x args r x' ∧ K r x') (hf : FnThere E.P f0) : EnvX :=
  { P := E.P, Y := E.Y, G := E.G, C := E.C, M := fun f pos x args K => if f = f0 then spec pos x args K else E.M f pos x args K, B := E.B, hB := E.hB, hY := E.hY,
    hMu := fun f pos x args K hc => by
      by_cases e : f = f0
      · subst e; rw [if_pos rfl] at hc; exact ⟨h pos x args K hc, hf.out⟩
      · rw [if_neg e] at hc; exact E.hMu f pos x args K hc
    hC := E.hC, hF := E.hF, hE := E.hE, hM := E.hM }

/-- one function more to which an object is lent -/
noncomputable def EnvX.addB (E : EnvX) (f0 : FuncId) (spec : Nat → OP → List A → (Res → OP → Prop) → Prop) (h : ∀ pos p args K, spec pos p args K → ∃ r p', FnB E.P E.G f0 pos p args r p' ∧ K r p') (hf : FnThere E.P f0) : EnvX :=
  { P := E.P, Y := E.Y, G := E.G, C := E.C, M := E.M, B := fun f pos p args K => if f = f0 then spec pos p args K else E.B f pos p args K, hY := E.hY,
    hB := fun f pos p args K hc => by
      by_cases e : f = f0
      · subst e; rw [if_pos rfl] at hc; exact ⟨h pos p args K hc, hf.out⟩
      · rw [if_neg e] at hc; exact E.hB f pos p args K hc
    hMu := E.hMu, hC := E.hC, hF := E.hF, hE := E.hE, hM := E.hM }

theorem leLe {a b : Nat} (h : a ≤ b) : Nat.le a b := h
theorem wn1 : IntKind.i64.wrap 1 = 1 := by decide
theorem wn2 : IntKind.i64.wrap 2 = 2 := by decide
theorem wn3 : IntKind.i64.wrap 3 = 3 := by decide
theorem wn4 : IntKind.i64.wrap 4 = 4 := by decide
theorem wn5 : IntKind.i64.wrap 5 = 5 := by decide
theorem wn6 : IntKind.i64.wrap 6 = 6 := by decide
theorem wn7 : IntKind.i64.wrap 7 = 7 := by decide
theorem wn8 : IntKind.i64.wrap 8 = 8 := by decide
theorem wn9 : IntKind.i64.wrap 9 = 9 := by decide
theorem wn10 : IntKind.i64.wrap 10 = 10 := by decide
theorem wn11 : IntKind.i64.wrap 11 = 11 := by decide
theorem wn12 : IntKind.i64.wrap 12 = 12 := by decide
theorem wn13 : IntKind.i64.wrap 13 = 13 := by decide
theorem wn14 : IntKind.i64.wrap 14 = 14 := by decide
theorem wn15 : IntKind.i64.wrap 15 = 15 := by decide
theorem wn16 : IntKind.i64.wrap 16 = 16 := by decide
theorem condK_split {b : Bool} {x y : Prop} (h1 : b = true → x) (h2 : b = false → y) : condK b x y := by cases b; exact h2 rfl; exact h1 rfl
theorem condK_is {b : Bool} {x y : Prop} (h : b = true) (hx : x) : condK b x y := by rw [h]; exact hx
theorem condK_isnt {b : Bool} {x y : Prop} (h : b = false) (hy : y) : condK b x y := by rw [h]; exact hy
theorem regA_nil {E : EnvX} {ops : List Oper} {s : St} {k : St → Prop} (h : k s) : regA E ops [] s k := h
theorem regA_cons {E : EnvX} {ops : List Oper} {o : Oper} {r : List Oper} {s : St} {k : St → Prop} (h : mutK E o s (fun s' => Stop (regA E ops r s' k)) (stepK E ops o s s.h.length fun t blk => Stop (regA E ops r (s.app2 o.dst t blk) k))) : regA E ops (o :: r) s k := h
theorem regDr_intro {E : EnvX} {l : List Oper} {s : St} {k : St → Prop} (n : Nat) (hn : cntAlloc l = n) (h1 : tabOK l = true)
    (h2 : StopD (regD E l s.h.length n l 0 ⟨s.t, s.h ++ List.replicate (n + 1) none⟩ [] fun acc s' => chkB (depsL l) s.h.length (s.h.length + n) acc = true ∧ k ⟨s'.t, trimH s'.h⟩)) : regDr E l s k := by
  subst hn
  exact ⟨h1, h2.out⟩
/-- what is normalised next -/
def Nrm {α : Type} (f : α → Prop) (x : α) : Prop := f x
theorem toA {E : EnvX} {ops r : List Oper} {s : St} {k : St → Prop} (h : Nrm (fun s => regA E ops r s k) s) : Stop (regA E ops r s k) := ⟨h⟩
theorem ofA {E : EnvX} {ops r : List Oper} {s : St} {k : St → Prop} (h : regA E ops r s k) : Nrm (fun s => regA E ops r s k) s := h
theorem toE {E : EnvX} {l : List Oper} {s : St} {k : St → Prop} (h : Nrm (fun s => regDr E l s k) s) : StopE (regDr E l s k) := ⟨h⟩
theorem ofE {E : EnvX} {l : List Oper} {s : St} {k : St → Prop} (h : regDr E l s k) : Nrm (fun s => regDr E l s k) s := h
theorem toD {E : EnvX} {ops r : List Oper} {n0 tot c : Nat} {s : St} {acc : List Foot} {k : List Foot → St → Prop} (h : Nrm (fun p : Nat × Nat × Nat × St × List Foot => regD E ops p.1 p.2.1 r p.2.2.1 p.2.2.2.1 p.2.2.2.2 k) (n0, tot, c, s, acc)) : StopD (regD E ops n0 tot r c s acc k) := ⟨h⟩
theorem ofD {E : EnvX} {ops r : List Oper} {n0 tot c : Nat} {s : St} {acc : List Foot} {k : List Foot → St → Prop} (h : regD E ops n0 tot r c s acc k) : Nrm (fun p : Nat × Nat × Nat × St × List Foot => regD E ops p.1 p.2.1 r p.2.2.1 p.2.2.2.1 p.2.2.2.2 k) (n0, tot, c, s, acc) := h
theorem regD_cons {E : EnvX} {ops : List Oper} {n0 tot : Nat} {o : Oper} {r : List Oper} {c : Nat} {s : St} {acc : List Foot} {k : List Foot → St → Prop}
    (h : stepK E ops o s (if isAlloc o = true then n0 + c else n0 + tot) fun t blk =>
      StopD (regD E ops n0 tot r (if isAlloc o = true then c + 1 else c) (s.app o.dst t blk) (acc ++ [(opRefs s o, blk.map (·.1), if isAlloc o = true then n0 + c else n0 + tot)]) k)) : regD E ops n0 tot (o :: r) c s acc k := h
theorem regD_nil {E : EnvX} {ops : List Oper} {n0 tot : Nat} {c : Nat} {s : St} {acc : List Foot} {k : List Foot → St → Prop} (h : k acc s) : regD E ops n0 tot [] c s acc k := h
theorem loop_unroll {body : St → (Exit → St → Prop) → Prop} {s : St} {k : Exit → St → Prop} (n : Nat) (h : LoopU body k n s) : LoopA body s k ∨ LoopI body s k := .inl (.inl ⟨n, h⟩)
theorem loop_inv {body : St → (Exit → St → Prop) → Prop} {s : St} {k : Exit → St → Prop} (live : List Nat) (m : Nat) (I : St → Prop) (μ : St → Nat) (h1 : liveOK live m s) (h2 : I (weaken live m s))
    (h3 : ∀ s, I s → body s fun e s' => match e with | .normal => liveOK live m s' ∧ I (weaken live m s') ∧ μ (weaken live m s') < μ s | e => k e s') (h0 : 0 < m := by decide) : LoopA body s k ∨ LoopI body s k := .inl (.inr ⟨s, live, m, I, μ, .refl s, h0, h1, h2, h3⟩)
/-- the same, where a slice that is nil may grow -/
theorem loop_nil {body : St → (Exit → St → Prop) → Prop} {s : St} {k : Exit → St → Prop} (live : List Nat) (m : Nat) (i : Nat) (e : TypeId) (sz : Nat) (l : List Seg) (I : St → Prop) (μ : St → Nat) (h1 : liveOK live m s) (hn : (weaken live m s).sl i = .d (.v (.slice none 0 0))) (hl : l.all segNil = true)
    (h1' : liveOK live (m + 1) (ownNil (weaken live m s) i e sz l)) (h2 : I (weaken live (m + 1) (ownNil (weaken live m s) i e sz l)))
    (h3 : ∀ s, I s → body s fun e s' => match e with | .normal => liveOK live (m + 1) s' ∧ I (weaken live (m + 1) s') ∧ μ (weaken live (m + 1) s') < μ s | e => k e s') (h0 : 0 < m := by decide) : LoopA body s k ∨ LoopI body s k :=
  .inl (.inr ⟨ownNil (weaken live m s) i e sz l, live, m + 1, I, μ, (Ent.weaken h0 h1).trans (.nil hn hl), by omega, h1', h2, h3⟩)
/-- what is left to be shown -/
structure Left (q : Prop) : Prop where
  out : q
structure Isq (q : Prop) : Prop where
  out : True
theorem isqT : Isq True := ⟨trivial⟩
theorem isqA {q : Prop} : Isq q := ⟨trivial⟩
/-- reckoned as far as it goes: what is left is q -/
theorem ago {p q : Prop} (left : q) (h : (Left q → p) ∧ Isq q := by
    refine And.intro ?_ ?_
    · intro left_is
      (conv => whnf); repeat ((first | (refine And.intro ?_ ?_; focus (first | exact rfl | exact Nat.le_of_ble_eq_true rfl | exact Or.inr rfl | exact Or.inl rfl | (intro hx; cases hx <;> fail) | (intro _; rfl) | exact ⟨_, rfl, rfl⟩ | omega | (simp only [Seg.n, segN, tiInt, tiBool, tiSl, tiArr, tiStruct]; omega) | (refine leLe ?_; (try simp only [Seg.n, segN, tiInt, tiBool, tiSl, tiArr, tiStruct]); omega) | assumption | decide | (simp [Seg.n, segN, tiInt, tiBool, tiSl, tiArr, tiStruct, *] <;> omega))) | (refine ⟨_, And.intro rfl ?_⟩) | (refine StopC.mk ?_; first | (refine condK_is ?_ ?_; focus (first | rfl | assumption | (simp only [bne, beq_iff_eq, beq_eq_false_iff_ne, ne_eq, Bool.not_eq_true', Bool.not_eq_false', decide_eq_true_eq, decide_eq_false_iff_not, ge_iff_le, gt_iff_lt, *] <;> omega) | (simp [eqSegs, *] <;> omega))) | (refine condK_isnt ?_ ?_; focus (first | rfl | assumption | (simp only [bne, beq_iff_eq, beq_eq_false_iff_ne, ne_eq, Bool.not_eq_true', Bool.not_eq_false', decide_eq_true_eq, decide_eq_false_iff_not, ge_iff_le, gt_iff_lt, *] <;> omega) | (simp [eqSegs, *] <;> omega)))) | ((first | refine toA ?_ | refine toE ?_ | refine toD ?_); (try (conv => arg 2; simp only [Seg.n, wn1, wn2, wn3, wn4, wn5, wn6, wn7, wn8, wn9, wn10, wn11, wn12, wn13, wn14, wn15, wn16, Int.reduceAdd, Int.zero_add, Seg.cell, Seg.sub, List.set_nil, isAlloc, trimH, List.take_append_drop, St.app, St.app2, St.ev, List.getD_cons_zero, List.getD_cons_succ, List.getD_nil, St.sl, St.bk, tiInt, tiBool, tiSl, tiArr, tiStruct, weaken, keepT, List.set_cons_zero, List.set_cons_succ, List.length_cons, List.length_nil, List.cons_append, List.nil_append, List.append_nil, List.map_cons, List.map_nil, List.replicate_succ, List.replicate_zero, List.take_succ_cons, List.take_zero, List.drop_succ_cons, List.drop_zero, List.take_nil, List.drop_nil, Nat.reduceAdd, Nat.reduceSub, Nat.reduceMul, Nat.reduceEqDiff, Nat.reduceLT, Nat.reduceLeDiff, Nat.zero_add, Nat.add_zero, Nat.sub_self, Nat.sub_zero, Nat.one_mul, Nat.mul_one, Nat.zero_mul, joinS, manyS, List.flatten_cons, List.flatten_nil, eq_self, ite_true, if_true, if_false, ↓reduceIte, reduceCtorEq, Int.reduceToNat, cntAlloc, opRefs])); first | (refine ofA ?_; (conv => arg 3; whnf); first | refine regA_cons ?_ | refine regA_nil ?_) | (refine ofD ?_; (conv => arg 5; whnf); first | refine regD_cons ?_ | refine regD_nil ?_) | (refine ofE ?_; (conv => arg 2; whnf); (refine regDr_intro _ rfl ?_ ?_); focus (kernel_rfl)))); (conv => whnf))
      all_goals exact left_is.out
    · first | with_reducible exact isqT | exact isqA) : p := h.1 ⟨left⟩
theorem agom {p q : Prop} (left : q) (h : (Left q → p) ∧ Isq q := by
    refine And.intro ?_ ?_
    · intro left_is
      (conv => whnf); repeat ((first | (refine And.intro ?_ ?_; focus (first | exact rfl | exact Nat.le_of_ble_eq_true rfl | exact Or.inr rfl | exact Or.inl rfl | (intro hx; cases hx <;> fail) | (intro _; rfl) | exact ⟨_, rfl, rfl⟩ | omega | (simp only [Seg.n, segN, tiInt, tiBool, tiSl, tiArr, tiStruct]; omega) | (refine leLe ?_; (try simp only [Seg.n, segN, tiInt, tiBool, tiSl, tiArr, tiStruct]); omega) | assumption | decide | (simp [Seg.n, segN, tiInt, tiBool, tiSl, tiArr, tiStruct, *] <;> omega))) | (refine ⟨_, And.intro rfl ?_⟩) | (refine StopC.mk ?_; first | (refine condK_is ?_ ?_; focus (first | rfl | assumption | (simp only [bne, beq_iff_eq, beq_eq_false_iff_ne, ne_eq, Bool.not_eq_true', Bool.not_eq_false', decide_eq_true_eq, decide_eq_false_iff_not, ge_iff_le, gt_iff_lt, *] <;> omega) | (simp [eqSegs, *] <;> omega))) | (refine condK_isnt ?_ ?_; focus (first | rfl | assumption | (simp only [bne, beq_iff_eq, beq_eq_false_iff_ne, ne_eq, Bool.not_eq_true', Bool.not_eq_false', decide_eq_true_eq, decide_eq_false_iff_not, ge_iff_le, gt_iff_lt, *] <;> omega) | (simp [eqSegs, *] <;> omega)))) | ((first | refine toA ?_ | refine toE ?_ | refine toD ?_); (try (conv => arg 2; simp only [Int.toNat_natCast, Seg.n, wn1, wn2, wn3, wn4, wn5, wn6, wn7, wn8, wn9, wn10, wn11, wn12, wn13, wn14, wn15, wn16, Int.reduceAdd, Int.zero_add, Seg.cell, Seg.sub, List.set_nil, isAlloc, trimH, List.take_append_drop, St.app, St.app2, St.ev, List.getD_cons_zero, List.getD_cons_succ, List.getD_nil, St.sl, St.bk, tiInt, tiBool, tiSl, tiArr, tiStruct, weaken, keepT, List.set_cons_zero, List.set_cons_succ, List.length_cons, List.length_nil, List.cons_append, List.nil_append, List.append_nil, List.map_cons, List.map_nil, List.replicate_succ, List.replicate_zero, List.take_succ_cons, List.take_zero, List.drop_succ_cons, List.drop_zero, List.take_nil, List.drop_nil, Nat.reduceAdd, Nat.reduceSub, Nat.reduceMul, Nat.reduceEqDiff, Nat.reduceLT, Nat.reduceLeDiff, Nat.zero_add, Nat.add_zero, Nat.sub_self, Nat.sub_zero, Nat.one_mul, Nat.mul_one, Nat.zero_mul, joinS, manyS, List.flatten_cons, List.flatten_nil, eq_self, ite_true, if_true, if_false, ↓reduceIte, reduceCtorEq, Int.reduceToNat, cntAlloc, opRefs])); first | (refine ofA ?_; (conv => arg 3; whnf); first | refine regA_cons ?_ | refine regA_nil ?_) | (refine ofD ?_; (conv => arg 5; whnf); first | refine regD_cons ?_ | refine regD_nil ?_) | (refine ofE ?_; (conv => arg 2; whnf); (refine regDr_intro _ rfl ?_ ?_); focus (kernel_rfl)))); (conv => whnf))
      all_goals exact left_is.out
    · first | with_reducible exact isqT | exact isqA) : p := h.1 ⟨left⟩
/-- a function's contract is begun -/
theorem fnA {E : EnvX} {f : FuncId} {fn : Func} {c : Code} {args : List A} {res : Res} {n : Nat} {t : List T} (hf : E.P.funcs[f]? = some fn) (hnt : fn.ntmps = n)
    (left : wpA E c ⟨t, []⟩ fun e s => (e = .normal ∨ e = .ret) ∧ resK' E s fn.results.toList fun r => r = res) (hb : fn.body = some c := by exact rfl) (hn : args.length ≤ n := by exact Nat.le_of_ble_eq_true rfl)
    (ht : args.map T.d ++ List.replicate (n - args.length) (.d (.v undef)) = t := by (conv => lhs; simp only [Seg.n, wn1, wn2, wn3, wn4, wn5, wn6, wn7, wn8, wn9, wn10, wn11, wn12, wn13, wn14, wn15, wn16, Int.reduceAdd, Int.zero_add, Seg.cell, Seg.sub, List.set_nil, isAlloc, trimH, List.take_append_drop, St.app, St.app2, St.ev, List.getD_cons_zero, List.getD_cons_succ, List.getD_nil, St.sl, St.bk, tiInt, tiBool, tiSl, tiArr, tiStruct, weaken, keepT, List.set_cons_zero, List.set_cons_succ, List.length_cons, List.length_nil, List.cons_append, List.nil_append, List.append_nil, List.map_cons, List.map_nil, List.replicate_succ, List.replicate_zero, List.take_succ_cons, List.take_zero, List.drop_succ_cons, List.drop_zero, List.take_nil, List.drop_nil, Nat.reduceAdd, Nat.reduceSub, Nat.reduceMul, Nat.reduceEqDiff, Nat.reduceLT, Nat.reduceLeDiff, Nat.zero_add, Nat.add_zero, Nat.sub_self, Nat.sub_zero, Nat.one_mul, Nat.mul_one, Nat.zero_mul, joinS, manyS, List.flatten_cons, List.flatten_nil, eq_self, ite_true, if_true, if_false, ↓reduceIte, reduceCtorEq, Int.reduceToNat]); all_goals exact rfl) : FnOK E.P E.G f args res := by
  subst hnt; subst ht; exact fn_of_wpA hf hb hn left
theorem fnMA {E : EnvX} {f : FuncId} {fn : Func} {c : Code} {pos : Nat} {x x' : Bk} {args : List A} {res : Res} {n : Nat} {t : List T} (hf : E.P.funcs[f]? = some fn) (hnt : fn.ntmps = n)
    (left : wpA E c ⟨t, [some x]⟩ fun e s => (e = .normal ∨ e = .ret) ∧ s.bk 0 = some x' ∧ resK' E s fn.results.toList fun r => r = res) (hb : fn.body = some c := by exact rfl) (hn : args.length + 1 ≤ n := by exact Nat.le_of_ble_eq_true rfl) (hp : pos ≤ args.length := by exact Nat.zero_le _)
    (hx : ∀ e sz n l, x ≠ .sl e sz n l := by intro _ _ _ _ h; cases h) (hres : ∀ y, res ≠ .p y := by intro y h; cases h)
    (ht : (args.map T.d).insertIdx pos (.ptr 0 0) ++ List.replicate (n - (args.length + 1)) (.d (.v undef)) = t := by (conv => lhs; simp only [List.insertIdx_zero, Seg.n, wn1, wn2, wn3, wn4, wn5, wn6, wn7, wn8, wn9, wn10, wn11, wn12, wn13, wn14, wn15, wn16, Int.reduceAdd, Int.zero_add, Seg.cell, Seg.sub, List.set_nil, isAlloc, trimH, List.take_append_drop, St.app, St.app2, St.ev, List.getD_cons_zero, List.getD_cons_succ, List.getD_nil, St.sl, St.bk, tiInt, tiBool, tiSl, tiArr, tiStruct, weaken, keepT, List.set_cons_zero, List.set_cons_succ, List.length_cons, List.length_nil, List.cons_append, List.nil_append, List.append_nil, List.map_cons, List.map_nil, List.replicate_succ, List.replicate_zero, List.take_succ_cons, List.take_zero, List.drop_succ_cons, List.drop_zero, List.take_nil, List.drop_nil, Nat.reduceAdd, Nat.reduceSub, Nat.reduceMul, Nat.reduceEqDiff, Nat.reduceLT, Nat.reduceLeDiff, Nat.zero_add, Nat.add_zero, Nat.sub_self, Nat.sub_zero, Nat.one_mul, Nat.mul_one, Nat.zero_mul, joinS, manyS, List.flatten_cons, List.flatten_nil, eq_self, ite_true, if_true, if_false, ↓reduceIte, reduceCtorEq, Int.reduceToNat]); all_goals exact rfl) : FnM E.P E.G f pos x args res x' := by
  subst hnt; subst ht; exact fnM_of_wpA hf hb hn hp hx left hres
end Go.Proofs.Ytcfdlffjghlghaa
