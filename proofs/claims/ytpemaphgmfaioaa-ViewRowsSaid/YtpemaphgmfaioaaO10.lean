/-
  Views: operations behind others are bytes behind others.
-/
import Derived.Test.YtpemaphgmfaioaaO1
import Derived.Test.YtpemaphgmfaioaaW5
import Derived.Test.YtpemaphgmfaioaaY9
import Derived.Test.YtpemaphgmfaioaaW9
namespace Go.Proofs.Ytpemaphgmfaioaa
set_option maxRecDepth 100000
set_option pp.deepTerms true
set_option pp.maxSteps 1000000
open Go.RowKit Pm
set_option linter.unusedVariables false
set_option linter.unusedSimpArgs false
attribute [local irreducible] condK LoopA regA powI scal isI putL doR mayV numsB viewHV numB deriveW fourB mulI askW nonceW sigE sigS

noncomputable def envR0 : EnvX := envO2.add 9 knownS (knownS_ok vknown_ok) ⟨_, Try.func9, by kernel_rfl, by kernel_rfl⟩
set_option maxHeartbeats 1000000 in
theorem viewRows_ok (xs : List Int) (m : Nat) (hm : m ≤ 140737488351232) (ys : List Int) (n : Nat) (hn : n ≤ 140737488351232) (hx : xs.length = m * 5) (hy : ys.length = n * 5) :
    FnO 3 [.row m [.ints .i64 (m * 5) xs], .row n [.ints .i64 (n * 5) ys]] (.d (.v (.bool true))) := by
  refine fnA (E := envR0) Try.func3 Try.ntmps3 ?_
  by_cases h5 : (m : Int) > 20
  · refine agox ?_; (try with_reducible exact True.intro)
  by_cases h6 : (n : Int) > 20
  · refine agox ?_; (try with_reducible exact True.intro)
  have h50 : m ≤ 20 := by omega
  have h60 : n ≤ 20 := by omega
  have hs0 : ∀ (zs : List Int) (q : Nat), zs.length = q * 5 → (ByteArray.mk (numsB zs).toArray).size = q * 40 := fun zs q h => by
    show (numsB zs).toArray.size = _
    rw [List.size_toArray, numsB_length, h]; omega
  have hs1 := hs0 (xs ++ ys) (m + n) (by rw [List.length_append, hx, hy]; omega)
  have hs2 := hs0 xs m hx
  have hs3 := hs0 ys n hy
  clear hs0
  have hcat : ((ByteArray.mk (numsB (xs ++ ys)).toArray).toList == (ByteArray.mk (numsB xs).toArray ++ ByteArray.mk (numsB ys).toArray).toList) = true := by
    have e : ByteArray.mk (numsB (xs ++ ys)).toArray = ByteArray.mk (numsB xs).toArray ++ ByteArray.mk (numsB ys).toArray := by
      apply ByteArray.ext
      rw [ByteArray.data_append, numsB_append]
      simp
    rw [e]
    exact beq_self_eq_true _
  refine agox ?_; (try with_reducible exact True.intro)
  trace_state
theorem viewRows_walk {w : World} (l : Value) (n : Nat) (zs : List Int) (hn : n ≤ 140737488351232) (hl : RA (fun _ => True) w (.row n [.ints .i64 (n * 5) zs]) l) (l' : Value) (n' : Nat) (zs' : List Int) (hn' : n' ≤ 140737488351232) (hl' : RA (fun _ => True) w (.row n' [.ints .i64 (n' * 5) zs']) l') :
    Calls Try.prog 3 #[l, l'] w fun e w' => e = .returned (.bool true) ∧ Below w.heap.size w w' :=
  law_of_fn (fn_lens fun hh => viewRows_ok zs n hn zs' n' hn' hh.1.1 hh.2.1.1) (fun q l e => by cases (show (none : Option (List Seg)) = some l from e)) (.cons hl (.cons hl' .nil))
end Go.Proofs.Ytpemaphgmfaioaa
