/-
  Numbers as bytes, rows joined: as the machine without memory calls them.
-/
import Derived.Test.YtkeabmnmeheeiaaK1
import Derived.Test.YtkeabmnmeheeiaaHNum
import Derived.Test.YtkeabmnmeheeiaaRowN
import Derived.Test.YtkeabmnmeheeiaaA19
namespace Go.Proofs.Ytkeabmnmeheeiaa
set_option maxRecDepth 100000
open Go.RowKit Pm
set_option linter.unusedVariables false
set_option linter.unusedSimpArgs false

theorem fn_own8 {f : FuncId} {args : List A} {bs : List UInt8} (h : ∀ (S : Nat → Prop) (w : World) (vs : List Value), RAs S w args vs → Calls Try.prog f vs.toArray w fun e w' => ∃ v, e = .returned v ∧ Own8 w' w.heap.size 5 v bs ∧ Below w.heap.size w w') :
    FnO f args (.o 5 1 bs.length [.bytes bs.length bs]) := fun S w vs _ ha => by
  refine (h S w vs ha).mono ?_
  rintro e w' ⟨v, rfl, ho, hb⟩
  exact ⟨v, rfl, ⟨_, ho, .ofBytes rfl rfl⟩, hb⟩
def numS : List A → (Res → Prop) → Prop
  | [.v (.int .i64 n)], K => K (.o 5 1 8 [.bytes 8 (numB n)])
  | _, _ => False
theorem numS_of {f : FuncId} (h : ∀ n, FnO f [.v (.int .i64 n)] (.o 5 1 8 [.bytes 8 (numB n)])) : ∀ args K, numS args K → ∃ r, FnO f args r ∧ K r := by
  intro args K hd
  unfold numS at hd
  split at hd
  · exact ⟨_, h _, hd⟩
  · exact hd.elim
theorem num_fn (n : Int) : FnO 33 [.v (.int .i64 n)] (.o 5 1 8 [.bytes 8 (numB n)]) := by
  have h := fn_own8 (f := 33) (args := [.v (.int .i64 n)]) (bs := numB n) fun S w vs ha => by
    obtain ⟨v, rfl, h1⟩ := ra_one ha
    rw [RA.plain h1]
    refine (num_any n w).mono ?_
    rintro e w' ⟨Q, rfl, hQ, hX, hB⟩
    exact ⟨_, rfl, Own8.ofBlk hX hQ (numB_length n).symm (by rw [numB_length]; simp [maxLen]), hB⟩
  rw [numB_length] at h
  exact h
theorem rnum_fn (n : Int) : FnO 54 [.v (.int .i64 n)] (.o 5 1 8 [.bytes 8 (numB n)]) := by
  have h := fn_own8 (f := 54) (args := [.v (.int .i64 n)]) (bs := numB n) fun S w vs ha => by
    obtain ⟨v, rfl, h1⟩ := ra_one ha
    rw [RA.plain h1]
    exact rnum_own n w
  rw [numB_length] at h
  exact h
/-- rows, one behind the other -/
def joinS' : List A → (Res → Prop) → Prop
  | [x], K => rowsOfK x fun L => L.flatten.length ≤ 100000000 ∧ K (.o 5 1 L.flatten.length [.bytes L.flatten.length L.flatten])
  | _, _ => False
theorem joinS_ok : ∀ args K, joinS' args K → ∃ r, FnO 36 args r ∧ K r := by
  intro args K hd
  unfold joinS' at hd
  split at hd
  · next x =>
    obtain ⟨L, ⟨hb, hK⟩, hL⟩ := rowsOfK_spec hd
    refine ⟨_, fn_own8 (f := 36) (args := [x]) (bs := L.flatten) fun S w vs ha => ?_, hK⟩
    obtain ⟨v, rfl, h1⟩ := ra_one ha
    obtain ⟨a, n, c, rfl, h2, h3, h4⟩ := hL h1
    refine rjoin_n a n c L w ⟨h2.len_eq, h2.small, ?_⟩ (by omega)
    rcases h4 with h4 | ⟨b, off, h5, h6⟩
    · exact .inl h4
    · refine .inr ⟨b, off, h5, fun i hi => ?_⟩
      obtain ⟨a', l', c', e1, e2, e3⟩ := h6 i hi
      exact ⟨a', l', c', e1, ⟨e2, e3⟩⟩
  · exact hd.elim
/-- numbers, one behind the other -/
def numsB (zs : List Int) : List UInt8 := zs.flatMap numB
theorem numsB_nil : numsB [] = [] := rfl
theorem numsB_append (a b : List Int) : numsB (a ++ b) = numsB a ++ numsB b := by unfold numsB; rw [List.flatMap_append]
theorem numsB_one (a : Int) : numsB [a] = numB a := by unfold numsB; simp
theorem numsB_cons (a : Int) (l : List Int) : numsB (a :: l) = numB a ++ numsB l := by unfold numsB; simp
theorem numsB_length : ∀ (l : List Int), (numsB l).length = l.length * 8
  | [] => rfl
  | a :: l => by rw [numsB_cons, List.length_append, numB_length, numsB_length l, List.length_cons]; omega
theorem numsB_take (zs : List Int) {j : Nat} (h : j < zs.length) : numsB (zs.take (j + 1)) = numsB (zs.take j) ++ numB (zs.getD j 0) := by
  rw [List.take_add_one, numsB_append, List.getElem?_eq_getElem h, List.getD_eq_getElem?_getD, List.getElem?_eq_getElem h]
  exact congrArg _ (numsB_one _)
noncomputable def envK0 : EnvX := env0.add 33 numS (numS_of num_fn) ⟨_, Try.func33, by kernel_rfl, by kernel_rfl⟩
noncomputable def envK1 : EnvX := envK0.add 54 numS (numS_of rnum_fn) ⟨_, Try.func54, by kernel_rfl, by kernel_rfl⟩
noncomputable def envK2 : EnvX := envK1.add 36 joinS' joinS_ok ⟨_, Try.func36, by kernel_rfl, by kernel_rfl⟩
noncomputable def envK3 : EnvX := envK2.add 32 deriveS deriveS_ok ⟨_, Try.func32, by kernel_rfl, by kernel_rfl⟩
noncomputable def envK4 : EnvX := envK3.add 35 rderiveS rderiveS_ok ⟨_, Try.func35, by kernel_rfl, by kernel_rfl⟩
end Go.Proofs.Ytkeabmnmeheeiaa
