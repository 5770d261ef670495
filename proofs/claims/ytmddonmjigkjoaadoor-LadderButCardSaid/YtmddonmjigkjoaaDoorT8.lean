/-
  Trees: whether one may be.
-/
import Derived.Test.YtmddonmjigkjoaaDoorT6
import Derived.Test.YtmddonmjigkjoaaDoorHPow
namespace Go.Proofs.YtmddonmjigkjoaaDoor
set_option maxRecDepth 100000
open Go.RowKit Pm
set_option linter.unusedVariables false
set_option linter.unusedSimpArgs false
attribute [local irreducible] condK LoopA regA

def isS : List A → (Res → Prop) → Prop
  | [.v (.int .i64 y)], K => K (.d (.v (.bool (isI y))))
  | _, _ => False
theorem isS_ok {f : FuncId} (hx : ∀ y, FnO f [.v (.int .i64 y)] (.d (.v (.bool (isI y))))) : ∀ args K, isS args K → ∃ r, FnO f args r ∧ K r := by
  intro args K h
  unfold isS at h
  split at h
  · exact ⟨_, hx _, h⟩
  · exact h.elim
def ofLeafS : List A → (Res → Prop) → Prop
  | [.v (.int .i64 y)], K => K (.d (.v (.bool (y.tmod 2 == 0))))
  | _, _ => False
theorem ofLeaf_ok (y : Int) : FnO 34 [.v (.int .i64 y)] (.d (.v (.bool (y.tmod 2 == 0)))) := by
  refine fn_of_wpA (E := env0) Tryd.func34 rfl (Nat.le_of_ble_eq_true rfl) ?_
  conv => arg 3; simp only [Tryd.ntmps34, wn1, wn2, wn3, wn4, wn5, wn6, wn7, wn8, wn9, wn10, wn11, wn12, wn13, wn14, wn15, wn16, Int.reduceAdd, Int.zero_add, Seg.cell, Seg.sub, List.set_nil, isAlloc, trimH, List.take_append_drop, St.app, St.app2, St.ev, List.getD_cons_zero, List.getD_cons_succ, List.getD_nil, St.sl, St.bk, tiInt, tiBool, tiSl, tiArr, tiStruct, weaken, keepT, List.set_cons_zero, List.set_cons_succ, List.length_cons, List.length_nil, List.cons_append, List.nil_append, List.append_nil, List.map_cons, List.map_nil, List.replicate_succ, List.replicate_zero, List.take_succ_cons, List.take_zero, List.drop_succ_cons, List.drop_zero, List.take_nil, List.drop_nil, Nat.reduceAdd, Nat.reduceSub, Nat.reduceMul, Nat.reduceEqDiff, Nat.reduceLT, Nat.reduceLeDiff, Nat.zero_add, Nat.add_zero, Nat.sub_self, Nat.sub_zero, Nat.one_mul, Nat.mul_one, Nat.zero_mul, joinS, manyS, List.flatten_cons, List.flatten_nil, eq_self, ite_true, if_true, if_false, ↓reduceIte, reduceCtorEq, Int.reduceToNat]
  (conv => whnf); repeat ((first | (refine And.intro ?_ ?_; focus (first | exact rfl | exact Nat.le_of_ble_eq_true rfl | exact Or.inr rfl | exact Or.inl rfl | (intro hx; cases hx <;> fail) | (intro _; rfl) | exact ⟨_, rfl, rfl⟩ | omega | (simp only [Seg.n, segN, tiInt, tiBool, tiSl, tiArr, tiStruct]; omega) | (refine leLe ?_; (try simp only [Seg.n, segN, tiInt, tiBool, tiSl, tiArr, tiStruct]); omega) | assumption | decide | (simp [Seg.n, segN, tiInt, tiBool, tiSl, tiArr, tiStruct, *] <;> omega))) | (refine ⟨_, And.intro rfl ?_⟩) | (refine StopC.mk ?_; first | (refine condK_is ?_ ?_; focus (first | rfl | assumption | (simp only [bne, beq_iff_eq, beq_eq_false_iff_ne, ne_eq, Bool.not_eq_true', Bool.not_eq_false', decide_eq_true_eq, decide_eq_false_iff_not, ge_iff_le, gt_iff_lt, *] <;> omega) | (simp [eqSegs, *] <;> omega))) | (refine condK_isnt ?_ ?_; focus (first | rfl | assumption | (simp only [bne, beq_iff_eq, beq_eq_false_iff_ne, ne_eq, Bool.not_eq_true', Bool.not_eq_false', decide_eq_true_eq, decide_eq_false_iff_not, ge_iff_le, gt_iff_lt, *] <;> omega) | (simp [eqSegs, *] <;> omega)))) | ((first | refine toA ?_ | refine toE ?_ | refine toD ?_); (try (conv => arg 2; simp only [wn1, wn2, wn3, wn4, wn5, wn6, wn7, wn8, wn9, wn10, wn11, wn12, wn13, wn14, wn15, wn16, Int.reduceAdd, Int.zero_add, Seg.cell, Seg.sub, List.set_nil, isAlloc, trimH, List.take_append_drop, St.app, St.app2, St.ev, List.getD_cons_zero, List.getD_cons_succ, List.getD_nil, St.sl, St.bk, tiInt, tiBool, tiSl, tiArr, tiStruct, weaken, keepT, List.set_cons_zero, List.set_cons_succ, List.length_cons, List.length_nil, List.cons_append, List.nil_append, List.append_nil, List.map_cons, List.map_nil, List.replicate_succ, List.replicate_zero, List.take_succ_cons, List.take_zero, List.drop_succ_cons, List.drop_zero, List.take_nil, List.drop_nil, Nat.reduceAdd, Nat.reduceSub, Nat.reduceMul, Nat.reduceEqDiff, Nat.reduceLT, Nat.reduceLeDiff, Nat.zero_add, Nat.add_zero, Nat.sub_self, Nat.sub_zero, Nat.one_mul, Nat.mul_one, Nat.zero_mul, joinS, manyS, List.flatten_cons, List.flatten_nil, eq_self, ite_true, if_true, if_false, ↓reduceIte, reduceCtorEq, Int.reduceToNat, cntAlloc, opRefs])); first | (refine ofA ?_; (conv => arg 3; whnf); first | refine regA_cons ?_ | refine regA_nil ?_) | (refine ofD ?_; (conv => arg 5; whnf); first | refine regD_cons ?_ | refine regD_nil ?_) | (refine ofE ?_; (conv => arg 2; whnf); (refine regDr_intro _ rfl ?_ ?_); focus (kernel_rfl)))); (conv => whnf))
theorem ofLeafS_ok {f : FuncId} (hx : ∀ y, FnO f [.v (.int .i64 y)] (.d (.v (.bool (y.tmod 2 == 0))))) : ∀ args K, ofLeafS args K → ∃ r, FnO f args r ∧ K r := by
  intro args K h
  unfold ofLeafS at h
  split at h
  · exact ⟨_, hx _, h⟩
  · exact h.elim
noncomputable def env7a : EnvX := env6
noncomputable def env7b : EnvX := env7a.add 42 isS (isS_ok fun y => fn_plain1 fun w => ris_any y w) ⟨_, Tryd.func42, by kernel_rfl, by kernel_rfl⟩
noncomputable def env7 : EnvX := env7b.add 34 ofLeafS (ofLeafS_ok ofLeaf_ok) ⟨_, Tryd.func34, by kernel_rfl, by kernel_rfl⟩

def leafP (zs : List Int) (k : Nat) : List Int := ((zs.take 16).drop (k * 2)).take 2
def leafOK (zs : List Int) (k : Nat) : Bool := decide (leafP zs k = [0, 0]) || (isI ((leafP zs k).getD 0 0) && isI ((leafP zs k).getD 1 0))
def nodeV (zs : List Int) (k : Nat) : Int := ((zs.drop 16).take 15).getD k 0
def nodeOK (zs : List Int) (k : Nat) : Bool := decide (nodeV zs k = 0) || (!((k : Int).tmod 2 == 0) && isI (nodeV zs k))
def isT (zs : List Int) : Bool := (List.range 8).all (leafOK zs) && (List.range 15).all (nodeOK zs)
theorem isT_leaf {zs : List Int} {k : Nat} (hk : k < 8) (h : leafOK zs k = false) : isT zs = false := by
  have : (List.range 8).all (leafOK zs) = false := List.all_eq_false.2 ⟨k, by simpa using hk, by simp [h]⟩
  simp [isT, this]
theorem isT_node {zs : List Int} {k : Nat} (hk : k < 15) (h : nodeOK zs k = false) : isT zs = false := by
  have : (List.range 15).all (nodeOK zs) = false := List.all_eq_false.2 ⟨k, by simpa using hk, by simp [h]⟩
  simp [isT, this]
theorem isT_all {zs : List Int} (h1 : ∀ k < 8, leafOK zs k = true) (h2 : ∀ k < 15, nodeOK zs k = true) : isT zs = true := by
  have e1 : (List.range 8).all (leafOK zs) = true := List.all_eq_true.2 fun k hk => h1 k (by simpa using hk)
  have e2 : (List.range 15).all (nodeOK zs) = true := List.all_eq_true.2 fun k hk => h2 k (by simpa using hk)
  simp only [isT, e1, e2]; rfl
end Go.Proofs.YtmddonmjigkjoaaDoor
