/-
  Views: sums, operations as bytes: the laws.
-/
import Derived.Test.YtkeabmnmeheeiaaHW
import Derived.Test.YtkeabmnmeheeiaaK4
namespace Go.Proofs.Ytkeabmnmeheeiaa
set_option maxRecDepth 100000
set_option pp.deepTerms true
set_option pp.maxSteps 1000000
open Go.RowKit Pm
set_option linter.unusedVariables false
set_option linter.unusedSimpArgs false
attribute [local irreducible] condK LoopA regA powI scal keyV someZ someA isI putL doR mayV numsB viewHV

def opsBS : List A → (Res → Prop) → Prop
  | [x], K => opsK x fun n ops => K (.o 5 1 (n * 40) [.bytes (n * 40) (numsB ops)])
  | _, _ => False
theorem opsBS_of {f : FuncId} (hx : ∀ zs n, zs.length = n * 5 → n ≤ 1000000 → FnO f [.row n [.ints .i64 (n * 5) zs]] (.o 5 1 (n * 40) [.bytes (n * 40) (numsB zs)])) : ∀ args K, opsBS args K → ∃ r, FnO f args r ∧ K r := by
  intro args K h
  unfold opsBS at h
  split at h
  · next x =>
    obtain ⟨n, ops, hn, h, hv⟩ := opsK_spec h
    refine ⟨_, fun S w vs hG ha => ?_, h⟩
    obtain ⟨v, rfl, h1⟩ := ra_one ha
    exact fn_lens (fun hl => hx ops n hl.1.1 hn) S w _ hG (.cons (hv h1) .nil)
  · exact h.elim
noncomputable def envX3 : EnvX := envX2.add 16 vHashS (vHashS_of vHash_ok) ⟨_, Try.func16, by kernel_rfl, by kernel_rfl⟩
noncomputable def envX4 : EnvX := envX3.add 17 vHashS (vHashS_of rvHash_ok) ⟨_, Try.func17, by kernel_rfl, by kernel_rfl⟩
noncomputable def envX5 : EnvX := envX4.add 18 opsBS (opsBS_of ops_ok) ⟨_, Try.func18, by kernel_rfl, by kernel_rfl⟩
noncomputable def envX6 : EnvX := envX5.add 19 opsBS (opsBS_of rops_ok) ⟨_, Try.func19, by kernel_rfl, by kernel_rfl⟩
set_option maxHeartbeats 1000000 in
theorem viewTells_ok (e : Int) (zs : List Int) (ad : List Bool) (k : Int) (ch : List UInt8) (ops : List Int) (n : Nat) (hn : n ≤ 140737488351232) :
    FnO 3 [.agg (vSegs e zs ad k ch), .row n [.ints .i64 (n * 5) ops]] (.d (.v (.bool true))) := by
  refine fn_lens fun hl => ?_
  have hl3 : ops.length = n * 5 := hl.2.1.1
  clear hl
  refine fnA (E := envX6) Try.func3 Try.ntmps3 ?_
  by_cases h5 : (n : Int) > 50
  · refine agow ?_; (try with_reducible exact True.intro)
  have h50 : n ≤ 50 := by omega
  have hs : ByteArray.size ⟨(numsB ops).toArray⟩ = n * 40 := by
    show (numsB ops).toArray.size = n * 40
    rw [List.size_toArray, numsB_length, hl3]; omega
  refine agow ?_; (try with_reducible exact True.intro)
theorem viewTells_walk {w : World} (v : Value) (hv : ∃ (e : Int) (zs : List Int) (ad : List Bool) (k : Int) (ch : List UInt8), RA (fun _ => True) w (.agg (vSegs e zs ad k ch)) v) (l : Value) (n : Nat) (zs : List Int) (hn : n ≤ 140737488351232) (hl : RA (fun _ => True) w (.row n [.ints .i64 (n * 5) zs]) l) :
    Calls Try.prog 3 #[v, l] w fun e w' => e = .returned (.bool true) ∧ Below w.heap.size w w' := by
  obtain ⟨e, ys, ad, k, ch, hv⟩ := hv
  exact law_of_fn (viewTells_ok e ys ad k ch zs n (by omega)) (fun q l e => by cases (show (none : Option (List Seg)) = some l from e)) (.cons hv (.cons hl .nil))
end Go.Proofs.Ytkeabmnmeheeiaa
