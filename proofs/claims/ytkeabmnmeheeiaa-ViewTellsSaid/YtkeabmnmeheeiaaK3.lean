/-
  Numbers in a row as bytes, sums of trees.
-/
import Derived.Test.YtkeabmnmeheeiaaK2
namespace Go.Proofs.Ytkeabmnmeheeiaa
set_option maxRecDepth 100000
set_option pp.deepTerms true
set_option pp.maxSteps 1000000
open Go.RowKit Pm
set_option linter.unusedVariables false
set_option linter.unusedSimpArgs false
attribute [local irreducible] condK LoopA regA numB deriveW numsB

def numsS : List A → (Res → Prop) → Prop
  | [.row n [.ints .i64 m zs]], K => n = zs.length ∧ m = zs.length ∧ zs.length ≤ 1000000 ∧ K (.o 5 1 (zs.length * 8) [.bytes (zs.length * 8) (numsB zs)])
  | _, _ => False
set_option maxHeartbeats 4000000 in
theorem nums_ok (zs : List Int) (hz : zs.length ≤ 1000000) : FnO 37 [.row zs.length [.ints .i64 zs.length zs]] (.o 5 1 (zs.length * 8) [.bytes (zs.length * 8) (numsB zs)]) := by
  refine fnA (E := envK4) Try.func37 Try.ntmps37 ?_
  refine agow ?_; (try with_reducible exact True.intro)
  refine StopL.mk (loop_forN [0, 3, 4] [0] 3 5 1 [.bytes 0 []] zs.length (fun j => ⟨[.d (.row zs.length [.ints .i64 zs.length zs]), .dead, .dead, .own 0 (j * 8), .d (.v (.int .i64 (j : Nat))), .dead, .dead, .dead, .dead, .dead, .dead, .dead, .dead, .dead, .dead, .dead, .dead, .dead, .dead], [some (.sl 5 1 (j * 8) [.bytes (j * 8) (numsB (zs.take j))])]⟩) ?_ (h2 := by rw [List.take_zero, numsB_nil]; exact rfl))
  intro j hj hl
  by_cases hjz : j < zs.length
  · refine agow ?_; (try with_reducible exact True.intro)
    refine hl.go hjz [0, 3, 4] [0] ?_
    rw [numsB_take zs hjz, Nat.add_mul, Nat.one_mul]
    rfl
  · obtain rfl : j = zs.length := by omega
    have e : zs.take zs.length = zs := List.take_length
    rw [e]
    refine agow ?_; (try with_reducible exact True.intro)
theorem numsS_ok : ∀ args K, numsS args K → ∃ r, FnO 37 args r ∧ K r := by
  intro args K h
  unfold numsS at h
  split at h
  · obtain ⟨rfl, rfl, h1, h2⟩ := h
    exact ⟨_, nums_ok _ h1, h2⟩
  · exact h.elim
noncomputable def envK5 : EnvX := envK4.add 37 numsS numsS_ok ⟨_, Try.func37, by kernel_rfl, by kernel_rfl⟩
theorem numsB_two (zs : List Int) {j : Nat} (h : j + 1 < zs.length) : numsB (zs.take (j + 2)) = numsB (zs.take j) ++ (numB (zs.getD j 0) ++ numB (zs.getD (j + 1) 0)) := by
  rw [show j + 2 = (j + 1) + 1 from rfl, numsB_take zs (j := j + 1) h, numsB_take zs (j := j) (by omega), List.append_assoc]
theorem two_get (L : List Int) (i k : Nat) (hk : k < 2) : ((L.drop i).take 2).getD k 0 = L.getD (i + k) 0 := by
  rw [List.getD_eq_getElem?_getD, List.getElem?_take, if_pos hk, List.getElem?_drop, ← List.getD_eq_getElem?_getD]
/-- a tree's sum -/
def treeHV (zs : List Int) : List UInt8 := deriveW (List.replicate 32 0) (sb ⟨#[116, 114, 101, 101]⟩) (numsB zs)
set_option maxHeartbeats 4000000 in
theorem treeHash_ok (zs : List Int) : FnO 31 [.agg [.ints .i64 31 zs]] (.d (.agg [.bytes 32 (treeHV zs)])) := by
  refine fn_lens fun hl => ?_
  replace hl : zs.length = 31 := hl.1.1
  refine fnA (E := envK5) Try.func31 Try.ntmps31 ?_
  refine agow ?_; (try with_reducible exact True.intro)
  have hL : (zs.take 16).length = 16 := by simp [hl]
  refine StopL.mk (loop_forN [1, 2, 3, 9, 10] [0, 1, 2] 3 5 1 [.bytes 0 []] 8 (fun j => ⟨[.dead, .ptr 0 0, .ptr 1 0, .own 2 (j * 16), .dead, .dead, .dead, .dead, .dead, .d (.agg [.ints .i64 16 (zs.take 16)]), .d (.v (.int .i64 (j : Nat))), .dead, .dead, .dead, .dead, .dead, .dead, .dead, .dead, .dead, .dead, .dead, .dead, .dead, .dead, .dead, .dead, .dead, .dead, .dead, .dead, .dead, .dead, .dead, .dead, .dead, .dead, .dead], [some (.var [.ints .i64 31 zs]), some (.var [.bytes 32 (List.replicate 32 0)]), some (.sl 5 1 (j * 16) [.bytes (j * 16) (numsB ((zs.take 16).take (j * 2)))])]⟩) ?_ (h2 := by rw [Nat.zero_mul, List.take_zero, numsB_nil]; exact rfl))
  intro j hj hl8
  by_cases hj8 : j < 8
  · refine agow ?_; (try with_reducible exact True.intro)
    refine hl8.go hj8 [1, 2, 3, 9, 10] [0, 1, 2] ?_
    rw [show (j + 1) * 2 = j * 2 + 2 by omega, numsB_two _ (by omega), show (j + 1) * 16 = j * 16 + 8 + 8 by omega, ← two_get _ (j * 2) 1 (by omega), show ∀ (L : List Int), L.getD (j * 2) 0 = L.getD (j * 2 + 0) 0 from fun _ => rfl, ← two_get _ (j * 2) 0 (by omega), ← List.append_assoc]
    rfl
  · obtain rfl : j = 8 := by omega
    have e : (zs.take 16).take 16 = zs.take 16 := List.take_of_length_le (by omega)
    refine agow ?_; (try with_reducible exact True.intro)
    rw [e]
    refine StopL.mk (loop_forG [1, 2, 3, 25, 26] [0, 1, 2] 15 (fun j => ⟨[.dead, .ptr 0 0, .ptr 1 0, .own 2 (128 + j * 8), .dead, .dead, .dead, .dead, .dead, .dead, .dead, .dead, .dead, .dead, .dead, .dead, .dead, .dead, .dead, .dead, .dead, .dead, .dead, .dead, .dead, .d (.agg [.ints .i64 15 ((zs.drop 16).take 15)]), .d (.v (.int .i64 (j : Nat))), .dead, .dead, .dead, .dead, .dead, .dead, .dead, .dead, .dead, .dead, .dead], [some (.var [.ints .i64 31 zs]), some (.var [.bytes 32 (List.replicate 32 0)]), some (.sl 5 1 (128 + j * 8) [.bytes (128 + j * 8) (numsB (zs.take 16) ++ numsB (((zs.drop 16).take 15).take j))])]⟩) ?_ (h2 := by rw [List.take_zero, numsB_nil, List.append_nil]; exact rfl))
    clear hl8
    intro j hj hl15
    by_cases hj15 : j < 15
    · refine agow ?_; (try with_reducible exact True.intro)
      refine hl15.go hj15 [1, 2, 3, 25, 26] [0, 1, 2] ?_
      rw [numsB_take _ (show j < ((zs.drop 16).take 15).length by simp [hl]; omega), show 128 + (j + 1) * 8 = 128 + j * 8 + 8 by omega, ← List.append_assoc]
      rfl
    · obtain rfl : j = 15 := by omega
      have e2 : numsB (zs.take 16) ++ numsB (((zs.drop 16).take 15).take 15) = numsB zs := by
        rw [← numsB_append, List.take_of_length_le (show ((zs.drop 16).take 15).length ≤ 15 by simp; omega), List.take_of_length_le (show (zs.drop 16).length ≤ 15 by simp [hl]), List.take_append_drop]
      rw [e2]
      refine agow ?_; (try with_reducible exact True.intro)
      rfl
set_option maxHeartbeats 4000000 in
theorem rtreeBytes_ok (zs : List Int) : FnO 52 [.agg [.ints .i64 31 zs]] (.o 5 1 248 [.bytes 248 (numsB zs)]) := by
  refine fn_lens fun hl => ?_
  replace hl : zs.length = 31 := hl.1.1
  refine fnA (E := envK5) Try.func52 Try.ntmps52 ?_
  refine agow ?_; (try with_reducible exact True.intro)
  refine StopL.mk (loop_forN [1, 3, 4] [0, 1] 3 5 1 [.bytes 0 []] 8 (fun j => ⟨[.dead, .ptr 0 0, .dead, .own 1 (j * 16), .d (.v (.int .i64 (j : Nat))), .dead, .dead, .dead, .dead, .dead, .dead, .dead, .dead, .dead, .dead, .dead, .dead, .dead, .dead, .dead, .dead, .dead, .dead, .dead, .dead, .dead, .dead, .dead, .dead, .dead, .dead, .dead, .dead, .dead, .dead, .dead], [some (.var [.ints .i64 31 zs]), some (.sl 5 1 (j * 16) [.bytes (j * 16) (numsB (zs.take (j * 2)))])]⟩) ?_ (h2 := by rw [Nat.zero_mul, List.take_zero, numsB_nil]; exact rfl))
  intro j hj hl8
  by_cases hj8 : j < 8
  · refine agow ?_; (try with_reducible exact True.intro)
    refine hl8.go hj8 [1, 3, 4] [0, 1] ?_
    rw [show (j + 1) * 2 = j * 2 + 2 by omega, numsB_two _ (by omega), show (j + 1) * 16 = j * 16 + 16 by omega, show numB (zs.getD (j * 2) 0) ++ numB (zs.getD (j * 2 + 1) 0) = numsB [zs.getD (j * 2) 0, zs.getD (j * 2 + 1) 0] by rw [numsB_cons, numsB_one]]
    rfl
  · obtain rfl : j = 8 := by omega
    refine agow ?_; (try with_reducible exact True.intro)
    refine StopL.mk (loop_forG [1, 3, 5] [0, 1] 15 (fun j => ⟨[.dead, .ptr 0 0, .dead, .own 1 (128 + j * 8), .dead, .d (.v (.int .i64 (j : Nat))), .dead, .dead, .dead, .dead, .dead, .dead, .dead, .dead, .dead, .dead, .dead, .dead, .dead, .dead, .dead, .dead, .dead, .dead, .dead, .dead, .dead, .dead, .dead, .dead, .dead, .dead, .dead, .dead, .dead, .dead], [some (.var [.ints .i64 31 zs]), some (.sl 5 1 (128 + j * 8) [.bytes (128 + j * 8) (numsB (zs.take (16 + j)))])]⟩) ?_)
    clear hl8
    intro j hj hl15
    by_cases hj15 : j < 15
    · refine agow ?_; (try with_reducible exact True.intro)
      refine hl15.go hj15 [1, 3, 5] [0, 1] ?_
      rw [show 16 + (j + 1) = 16 + j + 1 by omega, numsB_take zs (show 16 + j < zs.length by omega), show 128 + (j + 1) * 8 = 128 + j * 8 + 8 by omega]
      rfl
    · obtain rfl : j = 15 := by omega
      have e2 : zs.take (16 + 15) = zs := List.take_of_length_le (by omega)
      rw [e2]
      refine agow ?_; (try with_reducible exact True.intro)
def rtBytesS : List A → (Res → Prop) → Prop
  | [.agg [.ints .i64 31 zs]], K => K (.o 5 1 248 [.bytes 248 (numsB zs)])
  | _, _ => False
theorem rtBytesS_ok : ∀ args K, rtBytesS args K → ∃ r, FnO 52 args r ∧ K r := by
  intro args K h
  unfold rtBytesS at h
  split at h
  · exact ⟨_, rtreeBytes_ok _, h⟩
  · exact h.elim
noncomputable def envK6 : EnvX := envK5.add 52 rtBytesS rtBytesS_ok ⟨_, Try.func52, by kernel_rfl, by kernel_rfl⟩
theorem rtreeHash_ok (zs : List Int) : FnO 34 [.agg [.ints .i64 31 zs]] (.d (.agg [.bytes 32 (treeHV zs)])) := by
  refine fn_lens fun hl => ?_
  replace hl : zs.length = 31 := hl.1.1
  refine fnA (E := envK6) Try.func34 Try.ntmps34 ?_
  have hb : (numsB zs).length = 248 := by rw [numsB_length, hl]
  refine agow ?_; (try with_reducible exact True.intro)
  rfl
def treeHS : List A → (Res → Prop) → Prop
  | [.agg [.ints .i64 31 zs]], K => K (.d (.agg [.bytes 32 (treeHV zs)]))
  | _, _ => False
theorem treeHS_of {f : FuncId} (hx : ∀ zs, FnO f [.agg [.ints .i64 31 zs]] (.d (.agg [.bytes 32 (treeHV zs)]))) : ∀ args K, treeHS args K → ∃ r, FnO f args r ∧ K r := by
  intro args K h
  unfold treeHS at h
  split at h
  · exact ⟨_, hx _, h⟩
  · exact h.elim
noncomputable def envK7 : EnvX := envK6.add 31 treeHS (treeHS_of treeHash_ok) ⟨_, Try.func31, by kernel_rfl, by kernel_rfl⟩
noncomputable def envK8 : EnvX := envK7.add 34 treeHS (treeHS_of rtreeHash_ok) ⟨_, Try.func34, by kernel_rfl, by kernel_rfl⟩
end Go.Proofs.Ytkeabmnmeheeiaa
