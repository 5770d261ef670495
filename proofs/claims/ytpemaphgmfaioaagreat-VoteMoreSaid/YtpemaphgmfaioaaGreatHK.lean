/-
  Numbers as bytes, rows joined: as the machine without memory calls them.
-/
import Derived.Test.YtpemaphgmfaioaaGreatK1
import Derived.Test.YtpemaphgmfaioaaGreatHNum
import Derived.Test.YtpemaphgmfaioaaGreatRowN
import Derived.Test.YtpemaphgmfaioaaGreatHA2
import Derived.Test.YtpemaphgmfaioaaGreatHV1
namespace Go.Proofs.YtpemaphgmfaioaaGreat
set_option maxRecDepth 100000
open Go.RowKit Pm
set_option linter.unusedVariables false
set_option linter.unusedSimpArgs false

theorem fn_own8 {f : FuncId} {args : List A} {bs : List UInt8} (h : ∀ (S : Nat → Prop) (w : World) (vs : List Value), RAs S w args vs → Calls Tryz.prog f vs.toArray w fun e w' => ∃ v, e = .returned v ∧ Own8 w' w.heap.size 5 v bs ∧ Below w.heap.size w w') :
    FnO f args (.o 5 1 bs.length [.bytes bs.length bs]) := fun S w vs _ ha => by
  refine (h S w vs ha).mono ?_
  rintro e w' ⟨v, rfl, ho, hb⟩
  exact ⟨v, rfl, ⟨_, ho, .ofBytes rfl rfl⟩, hb⟩
def numS : List A → (Res → Prop) → Prop
  | [.v (.int .i64 n)], K => K (.o 5 1 8 [.bytes 8 (numB n)])
  | _, _ => False
theorem numS_of {f : FuncId} (h : ∀ n, FnO f [.v (.int .i64 n)] (.o 5 1 8 [.bytes 8 (numB n)])) : ∀ args K, numS args K → ∃ r, FnO f args r ∧ K r := by
  intro args K hd
  unfold numS at hd
  split at hd
  · exact ⟨_, h _, hd⟩
  · exact hd.elim
theorem num_fn (n : Int) : FnO 32 [.v (.int .i64 n)] (.o 5 1 8 [.bytes 8 (numB n)]) := by
  have h := fn_own8 (f := 32) (args := [.v (.int .i64 n)]) (bs := numB n) fun S w vs ha => by
    obtain ⟨v, rfl, h1⟩ := ra_one ha
    rw [RA.plain h1]
    refine (num_any n w).mono ?_
    rintro e w' ⟨Q, rfl, hQ, hX, hB⟩
    exact ⟨_, rfl, Own8.ofBlk hX hQ (numB_length n).symm (by rw [numB_length]; simp [maxLen]), hB⟩
  rw [numB_length] at h
  exact h
theorem rnum_fn (n : Int) : FnO 37 [.v (.int .i64 n)] (.o 5 1 8 [.bytes 8 (numB n)]) := by
  have h := fn_own8 (f := 37) (args := [.v (.int .i64 n)]) (bs := numB n) fun S w vs ha => by
    obtain ⟨v, rfl, h1⟩ := ra_one ha
    rw [RA.plain h1]
    exact rnum_own n w
  rw [numB_length] at h
  exact h
/-- rows, one behind the other -/
def joinS' : List A → (Res → Prop) → Prop
  | [x], K => rowsOfK x fun L => L.flatten.length ≤ 100000000 ∧ K (.o 5 1 L.flatten.length [.bytes L.flatten.length L.flatten])
  | _, _ => False
theorem joinS_ok : ∀ args K, joinS' args K → ∃ r, FnO 36 args r ∧ K r := by
  intro args K hd
  unfold joinS' at hd
  split at hd
  · next x =>
    obtain ⟨L, ⟨hb, hK⟩, hL⟩ := rowsOfK_spec hd
    refine ⟨_, fn_own8 (f := 36) (args := [x]) (bs := L.flatten) fun S w vs ha => ?_, hK⟩
    obtain ⟨v, rfl, h1⟩ := ra_one ha
    obtain ⟨a, n, c, rfl, h2, h3, h4⟩ := hL h1
    refine rjoin_n a n c L w ⟨h2.len_eq, h2.small, ?_⟩ (by omega)
    rcases h4 with h4 | ⟨b, off, h5, h6⟩
    · exact .inl h4
    · refine .inr ⟨b, off, h5, fun i hi => ?_⟩
      obtain ⟨a', l', c', e1, e2, e3⟩ := h6 i hi
      exact ⟨a', l', c', e1, ⟨e2, e3⟩⟩
  · exact hd.elim
/-- numbers, one behind the other -/
def numsB (zs : List Int) : List UInt8 := zs.flatMap numB
theorem numsB_nil : numsB [] = [] := rfl
theorem numsB_append (a b : List Int) : numsB (a ++ b) = numsB a ++ numsB b := by unfold numsB; rw [List.flatMap_append]
theorem numsB_one (a : Int) : numsB [a] = numB a := by unfold numsB; simp
theorem numsB_cons (a : Int) (l : List Int) : numsB (a :: l) = numB a ++ numsB l := by unfold numsB; simp
theorem numsB_length : ∀ (l : List Int), (numsB l).length = l.length * 8
  | [] => rfl
  | a :: l => by rw [numsB_cons, List.length_append, numB_length, numsB_length l, List.length_cons]; omega
theorem numsB_take (zs : List Int) {j : Nat} (h : j < zs.length) : numsB (zs.take (j + 1)) = numsB (zs.take j) ++ numB (zs.getD j 0) := by
  rw [List.take_add_one, numsB_append, List.getElem?_eq_getElem h, List.getD_eq_getElem?_getD, List.getElem?_eq_getElem h]
  exact congrArg _ (numsB_one _)
noncomputable def envK0 : EnvX := env0.add 32 numS (numS_of num_fn) ⟨_, Tryz.func32, by kernel_rfl, by kernel_rfl⟩
noncomputable def envK1 : EnvX := envK0.add 37 numS (numS_of rnum_fn) ⟨_, Tryz.func37, by kernel_rfl, by kernel_rfl⟩
noncomputable def envK2 : EnvX := envK1.add 36 joinS' joinS_ok ⟨_, Tryz.func36, by kernel_rfl, by kernel_rfl⟩
noncomputable def envK3 : EnvX := envK2.add 30 deriveS deriveS_ok ⟨_, Tryz.func30, by kernel_rfl, by kernel_rfl⟩
noncomputable def envK4 : EnvX := envK3.add 34 rderiveS rderiveS_ok ⟨_, Tryz.func34, by kernel_rfl, by kernel_rfl⟩
end Go.Proofs.YtpemaphgmfaioaaGreat

/-
  Numbers in a row as bytes, sums of trees.
-/
namespace Go.Proofs.YtpemaphgmfaioaaGreat
set_option maxRecDepth 100000
open Go.RowKit Pm
set_option linter.unusedVariables false
set_option linter.unusedSimpArgs false
attribute [local irreducible] condK LoopA regA numB deriveW numsB

def numsS : List A → (Res → Prop) → Prop
  | [.row n [.ints .i64 m zs]], K => n = zs.length ∧ m = zs.length ∧ zs.length ≤ 1000000 ∧ K (.o 5 1 (zs.length * 8) [.bytes (zs.length * 8) (numsB zs)])
  | _, _ => False
set_option maxHeartbeats 4000000 in
theorem nums_ok (zs : List Int) (hz : zs.length ≤ 1000000) : FnO 68 [.row zs.length [.ints .i64 zs.length zs]] (.o 5 1 (zs.length * 8) [.bytes (zs.length * 8) (numsB zs)]) := by
  refine fnA (E := envK4) Tryz.func68 Tryz.ntmps68 ?_
  refine agow ?_; (try with_reducible exact True.intro)
  refine StopL.mk (loop_forN [0, 3, 4] [0] 3 5 1 [.bytes 0 []] zs.length (fun j => ⟨[.d (.row zs.length [.ints .i64 zs.length zs]), .dead, .dead, .own 0 (j * 8), .d (.v (.int .i64 (j : Nat))), .dead, .dead, .dead, .dead, .dead, .dead, .dead, .dead, .dead, .dead, .dead, .dead, .dead, .dead], [some (.sl 5 1 (j * 8) [.bytes (j * 8) (numsB (zs.take j))])]⟩) ?_ (h2 := by rw [List.take_zero, numsB_nil]; exact rfl))
  intro j hj hl
  by_cases hjz : j < zs.length
  · refine agow ?_; (try with_reducible exact True.intro)
    refine hl.go hjz [0, 3, 4] [0] ?_
    rw [numsB_take zs hjz, Nat.add_mul, Nat.one_mul]
    rfl
  · obtain rfl : j = zs.length := by omega
    have e : zs.take zs.length = zs := List.take_length
    rw [e]
    refine agow ?_; (try with_reducible exact True.intro)
theorem numsS_ok : ∀ args K, numsS args K → ∃ r, FnO 68 args r ∧ K r := by
  intro args K h
  unfold numsS at h
  split at h
  · obtain ⟨rfl, rfl, h1, h2⟩ := h
    exact ⟨_, nums_ok _ h1, h2⟩
  · exact h.elim
noncomputable def envK5 : EnvX := envK4.add 68 numsS numsS_ok ⟨_, Tryz.func68, by kernel_rfl, by kernel_rfl⟩
theorem numsB_two (zs : List Int) {j : Nat} (h : j + 1 < zs.length) : numsB (zs.take (j + 2)) = numsB (zs.take j) ++ (numB (zs.getD j 0) ++ numB (zs.getD (j + 1) 0)) := by
  rw [show j + 2 = (j + 1) + 1 from rfl, numsB_take zs (j := j + 1) h, numsB_take zs (j := j) (by omega), List.append_assoc]
theorem two_get (L : List Int) (i k : Nat) (hk : k < 2) : ((L.drop i).take 2).getD k 0 = L.getD (i + k) 0 := by
  rw [List.getD_eq_getElem?_getD, List.getElem?_take, if_pos hk, List.getElem?_drop, ← List.getD_eq_getElem?_getD]
/-- a tree's sum -/
def treeHV (zs : List Int) : List UInt8 := deriveW (List.replicate 32 0) (sb ⟨#[116, 114, 101, 101]⟩) (numsB zs)
set_option maxHeartbeats 4000000 in
theorem treeHash_ok (zs : List Int) : FnO 65 [.agg [.ints .i64 31 zs]] (.d (.agg [.bytes 32 (treeHV zs)])) := by
  refine fn_lens fun hl => ?_
  replace hl : zs.length = 31 := hl.1.1
  refine fnA (E := envK5) Tryz.func65 Tryz.ntmps65 ?_
  refine agow ?_; (try with_reducible exact True.intro)
  have hL : (zs.take 16).length = 16 := by simp [hl]
  refine StopL.mk (loop_forN [1, 2, 3, 9, 10] [0, 1, 2] 3 5 1 [.bytes 0 []] 8 (fun j => ⟨[.dead, .ptr 0 0, .ptr 1 0, .own 2 (j * 16), .dead, .dead, .dead, .dead, .dead, .d (.agg [.ints .i64 16 (zs.take 16)]), .d (.v (.int .i64 (j : Nat))), .dead, .dead, .dead, .dead, .dead, .dead, .dead, .dead, .dead, .dead, .dead, .dead, .dead, .dead, .dead, .dead, .dead, .dead, .dead, .dead, .dead, .dead, .dead, .dead, .dead, .dead, .dead], [some (.var [.ints .i64 31 zs]), some (.var [.bytes 32 (List.replicate 32 0)]), some (.sl 5 1 (j * 16) [.bytes (j * 16) (numsB ((zs.take 16).take (j * 2)))])]⟩) ?_ (h2 := by rw [Nat.zero_mul, List.take_zero, numsB_nil]; exact rfl))
  intro j hj hl8
  by_cases hj8 : j < 8
  · refine agow ?_; (try with_reducible exact True.intro)
    refine hl8.go hj8 [1, 2, 3, 9, 10] [0, 1, 2] ?_
    rw [show (j + 1) * 2 = j * 2 + 2 by omega, numsB_two _ (by omega), show (j + 1) * 16 = j * 16 + 8 + 8 by omega, ← two_get _ (j * 2) 1 (by omega), show ∀ (L : List Int), L.getD (j * 2) 0 = L.getD (j * 2 + 0) 0 from fun _ => rfl, ← two_get _ (j * 2) 0 (by omega), ← List.append_assoc]
    rfl
  · obtain rfl : j = 8 := by omega
    have e : (zs.take 16).take 16 = zs.take 16 := List.take_of_length_le (by omega)
    refine agow ?_; (try with_reducible exact True.intro)
    rw [e]
    refine StopL.mk (loop_forG [1, 2, 3, 25, 26] [0, 1, 2] 15 (fun j => ⟨[.dead, .ptr 0 0, .ptr 1 0, .own 2 (128 + j * 8), .dead, .dead, .dead, .dead, .dead, .dead, .dead, .dead, .dead, .dead, .dead, .dead, .dead, .dead, .dead, .dead, .dead, .dead, .dead, .dead, .dead, .d (.agg [.ints .i64 15 ((zs.drop 16).take 15)]), .d (.v (.int .i64 (j : Nat))), .dead, .dead, .dead, .dead, .dead, .dead, .dead, .dead, .dead, .dead, .dead], [some (.var [.ints .i64 31 zs]), some (.var [.bytes 32 (List.replicate 32 0)]), some (.sl 5 1 (128 + j * 8) [.bytes (128 + j * 8) (numsB (zs.take 16) ++ numsB (((zs.drop 16).take 15).take j))])]⟩) ?_ (h2 := by rw [List.take_zero, numsB_nil, List.append_nil]; exact rfl))
    clear hl8
    intro j hj hl15
    by_cases hj15 : j < 15
    · refine agow ?_; (try with_reducible exact True.intro)
      refine hl15.go hj15 [1, 2, 3, 25, 26] [0, 1, 2] ?_
      rw [numsB_take _ (show j < ((zs.drop 16).take 15).length by simp [hl]; omega), show 128 + (j + 1) * 8 = 128 + j * 8 + 8 by omega, ← List.append_assoc]
      rfl
    · obtain rfl : j = 15 := by omega
      have e2 : numsB (zs.take 16) ++ numsB (((zs.drop 16).take 15).take 15) = numsB zs := by
        rw [← numsB_append, List.take_of_length_le (show ((zs.drop 16).take 15).length ≤ 15 by simp; omega), List.take_of_length_le (show (zs.drop 16).length ≤ 15 by simp [hl]), List.take_append_drop]
      rw [e2]
      refine agow ?_; (try with_reducible exact True.intro)
      rfl
set_option maxHeartbeats 4000000 in
theorem rtreeBytes_ok (zs : List Int) : FnO 91 [.agg [.ints .i64 31 zs]] (.o 5 1 248 [.bytes 248 (numsB zs)]) := by
  refine fn_lens fun hl => ?_
  replace hl : zs.length = 31 := hl.1.1
  refine fnA (E := envK5) Tryz.func91 Tryz.ntmps91 ?_
  refine agow ?_; (try with_reducible exact True.intro)
  refine StopL.mk (loop_forN [1, 3, 4] [0, 1] 3 5 1 [.bytes 0 []] 8 (fun j => ⟨[.dead, .ptr 0 0, .dead, .own 1 (j * 16), .d (.v (.int .i64 (j : Nat))), .dead, .dead, .dead, .dead, .dead, .dead, .dead, .dead, .dead, .dead, .dead, .dead, .dead, .dead, .dead, .dead, .dead, .dead, .dead, .dead, .dead, .dead, .dead, .dead, .dead, .dead, .dead, .dead, .dead, .dead, .dead], [some (.var [.ints .i64 31 zs]), some (.sl 5 1 (j * 16) [.bytes (j * 16) (numsB (zs.take (j * 2)))])]⟩) ?_ (h2 := by rw [Nat.zero_mul, List.take_zero, numsB_nil]; exact rfl))
  intro j hj hl8
  by_cases hj8 : j < 8
  · refine agow ?_; (try with_reducible exact True.intro)
    refine hl8.go hj8 [1, 3, 4] [0, 1] ?_
    rw [show (j + 1) * 2 = j * 2 + 2 by omega, numsB_two _ (by omega), show (j + 1) * 16 = j * 16 + 16 by omega, show numB (zs.getD (j * 2) 0) ++ numB (zs.getD (j * 2 + 1) 0) = numsB [zs.getD (j * 2) 0, zs.getD (j * 2 + 1) 0] by rw [numsB_cons, numsB_one]]
    rfl
  · obtain rfl : j = 8 := by omega
    refine agow ?_; (try with_reducible exact True.intro)
    refine StopL.mk (loop_forG [1, 3, 5] [0, 1] 15 (fun j => ⟨[.dead, .ptr 0 0, .dead, .own 1 (128 + j * 8), .dead, .d (.v (.int .i64 (j : Nat))), .dead, .dead, .dead, .dead, .dead, .dead, .dead, .dead, .dead, .dead, .dead, .dead, .dead, .dead, .dead, .dead, .dead, .dead, .dead, .dead, .dead, .dead, .dead, .dead, .dead, .dead, .dead, .dead, .dead, .dead], [some (.var [.ints .i64 31 zs]), some (.sl 5 1 (128 + j * 8) [.bytes (128 + j * 8) (numsB (zs.take (16 + j)))])]⟩) ?_)
    clear hl8
    intro j hj hl15
    by_cases hj15 : j < 15
    · refine agow ?_; (try with_reducible exact True.intro)
      refine hl15.go hj15 [1, 3, 5] [0, 1] ?_
      rw [show 16 + (j + 1) = 16 + j + 1 by omega, numsB_take zs (show 16 + j < zs.length by omega), show 128 + (j + 1) * 8 = 128 + j * 8 + 8 by omega]
      rfl
    · obtain rfl : j = 15 := by omega
      have e2 : zs.take (16 + 15) = zs := List.take_of_length_le (by omega)
      rw [e2]
      refine agow ?_; (try with_reducible exact True.intro)
def rtBytesS : List A → (Res → Prop) → Prop
  | [.agg [.ints .i64 31 zs]], K => K (.o 5 1 248 [.bytes 248 (numsB zs)])
  | _, _ => False
theorem rtBytesS_ok : ∀ args K, rtBytesS args K → ∃ r, FnO 91 args r ∧ K r := by
  intro args K h
  unfold rtBytesS at h
  split at h
  · exact ⟨_, rtreeBytes_ok _, h⟩
  · exact h.elim
noncomputable def envK6 : EnvX := envK5.add 91 rtBytesS rtBytesS_ok ⟨_, Tryz.func91, by kernel_rfl, by kernel_rfl⟩
theorem rtreeHash_ok (zs : List Int) : FnO 67 [.agg [.ints .i64 31 zs]] (.d (.agg [.bytes 32 (treeHV zs)])) := by
  refine fn_lens fun hl => ?_
  replace hl : zs.length = 31 := hl.1.1
  refine fnA (E := envK6) Tryz.func67 Tryz.ntmps67 ?_
  have hb : (numsB zs).length = 248 := by rw [numsB_length, hl]
  refine agow ?_; (try with_reducible exact True.intro)
  rfl
def treeHS : List A → (Res → Prop) → Prop
  | [.agg [.ints .i64 31 zs]], K => K (.d (.agg [.bytes 32 (treeHV zs)]))
  | _, _ => False
theorem treeHS_of {f : FuncId} (hx : ∀ zs, FnO f [.agg [.ints .i64 31 zs]] (.d (.agg [.bytes 32 (treeHV zs)]))) : ∀ args K, treeHS args K → ∃ r, FnO f args r ∧ K r := by
  intro args K h
  unfold treeHS at h
  split at h
  · exact ⟨_, hx _, h⟩
  · exact h.elim
noncomputable def envK7 : EnvX := envK6.add 65 treeHS (treeHS_of treeHash_ok) ⟨_, Tryz.func65, by kernel_rfl, by kernel_rfl⟩
noncomputable def envK8 : EnvX := envK7.add 67 treeHS (treeHS_of rtreeHash_ok) ⟨_, Tryz.func67, by kernel_rfl, by kernel_rfl⟩
end Go.Proofs.YtpemaphgmfaioaaGreat

/-
  Operations as bytes, sums of views.
-/
namespace Go.Proofs.YtpemaphgmfaioaaGreat
set_option maxRecDepth 100000
open Go.RowKit Pm
set_option linter.unusedVariables false
set_option linter.unusedSimpArgs false
attribute [local irreducible] condK LoopA regA numB deriveW numsB treeHV

/-- a byte for each: one for an admin -/
def flagsB (ad : List Bool) : List UInt8 := ad.map fun b => if b = true then 1 else 0
def flagsT (ad : List Bool) (j : Nat) : List UInt8 := (flagsB ad).take j ++ List.replicate (8 - j) 0
theorem flagsT_8 {ad : List Bool} (h : ad.length = 8) : flagsT ad 8 = flagsB ad := by
  unfold flagsT
  rw [List.take_of_length_le (by simp [flagsB, h]), Nat.sub_self, List.replicate_zero, List.append_nil]
theorem flagsT_get {ad : List Bool} (h : ad.length = 8) {j : Nat} (hj : j < 8) : flagsT ad (j + 1) = (flagsT ad j).set j (if ad.getD j false = true then 1 else 0) := by
  have hl : (flagsB ad).length = 8 := by simp [flagsB, h]
  unfold flagsT
  rw [List.set_append_right _ _ (by simp; omega), List.length_take, hl, Nat.min_eq_left (by omega), Nat.sub_self, show 8 - j = (8 - (j + 1)) + 1 by omega, List.replicate_succ, List.set_cons_zero, List.take_add_one, List.append_assoc]
  congr 1
  rw [List.getElem?_eq_getElem (by omega)]
  simp [flagsB, List.getD_eq_getElem?_getD, List.getElem?_eq_getElem (show j < ad.length by omega)]
theorem flagsT_0 {ad : List Bool} (h : ad.length = 8) {j : Nat} (hj : j < 8) (hb : ad.getD j false = false) : flagsT ad (j + 1) = flagsT ad j := by
  have hl : (flagsB ad).length = 8 := by simp [flagsB, h]
  have h1 := flagsT_get h hj
  rw [hb] at h1
  rw [h1]
  unfold flagsT
  rw [List.set_append_right _ _ (by simp; omega), List.length_take, hl, Nat.min_eq_left (by omega), Nat.sub_self, show 8 - j = (8 - (j + 1)) + 1 by omega, List.replicate_succ, List.set_cons_zero]
  rfl
theorem flagsT_1 {ad : List Bool} (h : ad.length = 8) {j : Nat} (hj : j < 8) (hb : ad.getD j false = true) : flagsT ad (j + 1) = (flagsT ad j).set j 1 := by
  have h1 := flagsT_get h hj
  rw [hb] at h1
  exact h1
attribute [local irreducible] flagsT
theorem flagsT_00 (ad : List Bool) : flagsT ad 0 = [0, 0, 0, 0, 0, 0, 0, 0] := by rw [flagsT]; rfl
set_option maxHeartbeats 4000000 in
theorem flags_ok (ad : List Bool) : FnO 69 [.agg [.bools 8 ad]] (.o 5 1 8 [.bytes 8 (flagsB ad)]) := by
  refine fn_lens fun hl => ?_
  replace hl : ad.length = 8 := hl.1.1
  refine fnA (E := envK8) Tryz.func69 Tryz.ntmps69 ?_
  refine agow ?_; (try with_reducible exact True.intro)
  refine StopL.mk (loop_forG [1, 3, 4] [0, 1] 8 (fun j => ⟨[.dead, .ptr 0 0, .dead, .own 1 8, .d (.v (.int .i64 (j : Nat))), .dead, .dead, .dead, .dead, .dead, .dead, .dead, .dead, .dead, .dead, .dead, .dead], [some (.var [.bools 8 ad]), some (.sl 5 1 8 [.bytes 8 (flagsT ad j)])]⟩) ?_ (h2 := by rw [flagsT_00]; exact rfl))
  intro j hj hl8
  by_cases hj8 : j < 8
  · cases hb : ad.getD j false with
    | true =>
      refine agow ?_; (try with_reducible exact True.intro)
      refine hl8.go hj8 [1, 3, 4] [0, 1] ?_
      rw [flagsT_1 hl hj8 hb]
      rfl
    | false =>
      refine agow ?_; (try with_reducible exact True.intro)
      refine hl8.go hj8 [1, 3, 4] [0, 1] ?_
      rw [flagsT_0 hl hj8 hb]
      rfl
  · obtain rfl : j = 8 := by omega
    rw [flagsT_8 hl]
    refine agow ?_; (try with_reducible exact True.intro)
def viewHV (e : Int) (zs : List Int) (ad : List Bool) (k : Int) (ch : List UInt8) : List UInt8 := deriveW ch (sb ⟨#[118, 105, 101, 119]⟩) (numB e ++ (numB k ++ (flagsB ad ++ treeHV zs)))
set_option maxHeartbeats 4000000 in
theorem vHash_ok (e : Int) (zs : List Int) (ad : List Bool) (k : Int) (ch : List UInt8) : FnO 31 [.agg (vSegs e zs ad k ch)] (.d (.agg [.bytes 32 (viewHV e zs ad k ch)])) := by
  refine fn_lens fun hl => ?_
  have hl1 : zs.length = 31 := hl.1.2.1
  have hl2 : ad.length = 8 := hl.1.2.2.1
  clear hl
  refine fnA (E := envK8) Tryz.func31 Tryz.ntmps31 ?_
  refine agow ?_; (try with_reducible exact True.intro)
  refine StopL.mk (loop_forG [1, 2, 3, 8, 9] [0, 1, 2] 8 (fun j => ⟨[.dead, .ptr 0 0, .ptr 1 0, .ptr 2 0, .dead, .dead, .dead, .dead, .d (.agg [.bools 8 ad]), .d (.v (.int .i64 (j : Nat))), .dead, .dead, .dead, .dead, .dead, .dead, .dead, .dead, .dead, .dead, .dead, .dead, .dead, .dead, .dead, .dead, .dead, .dead, .dead, .dead, .dead, .dead], [some (.var (vSegs e zs ad k ch)), some (.var [.bytes 32 (List.replicate 32 0)]), some (.var [.bytes 8 (flagsT ad j)])]⟩) ?_ (h2 := by rw [flagsT_00]; exact rfl))
  intro j hj hl8
  by_cases hj8 : j < 8
  · cases hb : ad.getD j false with
    | true =>
      refine agow ?_; (try with_reducible exact True.intro)
      refine hl8.go hj8 [1, 2, 3, 8, 9] [0, 1, 2] ?_
      rw [flagsT_1 hl2 hj8 hb]
      rfl
    | false =>
      refine agow ?_; (try with_reducible exact True.intro)
      refine hl8.go hj8 [1, 2, 3, 8, 9] [0, 1, 2] ?_
      rw [flagsT_0 hl2 hj8 hb]
      rfl
  · obtain rfl : j = 8 := by omega
    rw [flagsT_8 hl2]
    refine agow ?_; (try with_reducible exact True.intro)
    rfl
theorem five_get (L : List Int) (i k : Nat) (hk : k < 5) : ((L.drop i).take 5).getD k 0 = L.getD (i + k) 0 := by
  rw [List.getD_eq_getElem?_getD, List.getElem?_take, if_pos hk, List.getElem?_drop, ← List.getD_eq_getElem?_getD]
theorem five_eq {o : List Int} (h : o.length = 5) : o = [o.getD 0 0, o.getD 1 0, o.getD 2 0, o.getD 3 0, o.getD 4 0] := by
  rcases o with _ | ⟨a, _ | ⟨b, _ | ⟨c, _ | ⟨d, _ | ⟨e, _ | ⟨f, l⟩⟩⟩⟩⟩⟩ <;> first | (simp at h; done) | rfl
theorem numsB_five (zs : List Int) {i : Nat} (h : i + 5 ≤ zs.length) : numsB (zs.take (i + 5)) = numsB (zs.take i) ++ numsB [((zs.drop i).take 5).getD 0 0, ((zs.drop i).take 5).getD 1 0, ((zs.drop i).take 5).getD 2 0, ((zs.drop i).take 5).getD 3 0, ((zs.drop i).take 5).getD 4 0] := by
  rw [← five_eq (o := (zs.drop i).take 5) (by simp; omega), ← numsB_append, List.take_add]
set_option maxHeartbeats 4000000 in
theorem ops_ok (zs : List Int) (n : Nat) (hz : zs.length = n * 5) (hn : n ≤ 1000000) : FnO 33 [.row n [.ints .i64 (n * 5) zs]] (.o 5 1 (n * 40) [.bytes (n * 40) (numsB zs)]) := by
  refine fnA (E := envK8) Tryz.func33 Tryz.ntmps33 ?_
  refine agow ?_; (try with_reducible exact True.intro)
  refine StopL.mk (loop_forN [3, 8, 9, 10] [0] 3 5 1 [.bytes 0 []] n (fun j => ⟨[.dead, .dead, .dead, .own 0 (j * 40), .dead, .dead, .dead, .dead, .d (.row n [.ints .i64 (n * 5) zs]), .d (.v (.int .i64 (n : Nat))), .d (.v (.int .i64 (j : Nat))), .dead, .dead, .dead, .dead, .dead, .dead, .dead, .dead, .dead, .dead, .dead, .dead, .dead, .dead, .dead, .dead, .dead, .dead, .dead, .dead, .dead, .dead, .dead, .dead, .dead, .dead], [some (.sl 5 1 (j * 40) [.bytes (j * 40) (numsB (zs.take (j * 5)))])]⟩) ?_ (h2 := by rw [Nat.zero_mul, List.take_zero, numsB_nil]; exact rfl))
  intro j hj hl
  by_cases hjn : j < n
  · refine agow ?_; (try with_reducible exact True.intro)
    refine StopL.mk (loop_unroll 6 ?_)
    refine agow ?_; (try with_reducible exact True.intro)
    refine hl.go hjn [3, 8, 9, 10] [0] ?_
    rw [show (j + 1) * 5 = j * 5 + 5 by omega, numsB_five zs (by omega), show (j + 1) * 40 = j * 40 + 8 + 8 + 8 + 8 + 8 by omega]
    simp only [numsB_cons, numsB_nil, List.append_nil, ← List.append_assoc]
    rfl
  · obtain rfl : j = n := by omega
    rw [show zs.take (j * 5) = zs from List.take_of_length_le (by omega)]
    refine agow ?_; (try with_reducible exact True.intro)
set_option maxHeartbeats 4000000 in
theorem rops_ok (zs : List Int) (n : Nat) (hz : zs.length = n * 5) (hn : n ≤ 1000000) : FnO 38 [.row n [.ints .i64 (n * 5) zs]] (.o 5 1 (n * 40) [.bytes (n * 40) (numsB zs)]) := by
  refine fnA (E := envK8) Tryz.func38 Tryz.ntmps38 ?_
  refine agow ?_; (try with_reducible exact True.intro)
  refine StopL.mk (loop_forN [0, 3, 4] [0] 3 5 1 [.bytes 0 []] n (fun j => ⟨[.d (.row n [.ints .i64 (n * 5) zs]), .dead, .dead, .own 0 (j * 40), .d (.v (.int .i64 (j : Nat))), .dead, .dead, .dead, .dead, .dead, .dead, .dead, .dead, .dead, .dead, .dead, .dead, .dead, .dead, .dead, .dead, .dead, .dead, .dead, .dead, .dead, .dead, .dead, .dead, .dead, .dead, .dead, .dead, .dead, .dead, .dead, .dead, .dead, .dead, .dead, .dead, .dead, .dead], [some (.sl 5 1 (j * 40) [.bytes (j * 40) (numsB (zs.take (j * 5)))])]⟩) ?_ (h2 := by rw [Nat.zero_mul, List.take_zero, numsB_nil]; exact rfl))
  intro j hj hl
  by_cases hjn : j < n
  · refine agow ?_; (try with_reducible exact True.intro)
    refine hl.go hjn [0, 3, 4] [0] ?_
    rw [show (j + 1) * 5 = j * 5 + 5 by omega, numsB_five zs (by omega), show (j + 1) * 40 = j * 40 + 40 by omega, five_get _ _ 0 (by omega), five_get _ _ 1 (by omega), five_get _ _ 2 (by omega), five_get _ _ 3 (by omega), five_get _ _ 4 (by omega)]
    rfl
  · obtain rfl : j = n := by omega
    rw [show zs.take (j * 5) = zs from List.take_of_length_le (by omega)]
    refine agow ?_; (try with_reducible exact True.intro)
def flagsS : List A → (Res → Prop) → Prop
  | [.agg [.bools 8 ad]], K => K (.o 5 1 8 [.bytes 8 (flagsB ad)])
  | _, _ => False
theorem flagsS_ok : ∀ args K, flagsS args K → ∃ r, FnO 69 args r ∧ K r := by
  intro args K h
  unfold flagsS at h
  split at h
  · exact ⟨_, flags_ok _, h⟩
  · exact h.elim
noncomputable def envK9 : EnvX := envK8.add 69 flagsS flagsS_ok ⟨_, Tryz.func69, by kernel_rfl, by kernel_rfl⟩
attribute [local irreducible] flagsB
set_option maxHeartbeats 4000000 in
theorem rvHash_ok (e : Int) (zs : List Int) (ad : List Bool) (k : Int) (ch : List UInt8) : FnO 35 [.agg (vSegs e zs ad k ch)] (.d (.agg [.bytes 32 (viewHV e zs ad k ch)])) := by
  refine fn_lens fun hl => ?_
  have hl1 : zs.length = 31 := hl.1.2.1
  have hl2 : ad.length = 8 := hl.1.2.2.1
  clear hl
  refine fnA (E := envK9) Tryz.func35 Tryz.ntmps35 ?_
  have hb1 : (numsB [e, k]).length = 16 := numsB_length _
  have hb2 : (flagsB ad).length = 8 := by unfold flagsB; simp [hl2]
  have hb3 : (treeHV zs).length = 32 := by unfold treeHV deriveW; exact sumW_length _
  refine agow ?_; (try with_reducible exact True.intro)
  unfold viewHV
  simp only [numsB_cons, numsB_nil, List.append_nil, List.append_assoc]
/-- a view's sum, on both sides -/
def vHashS : List A → (Res → Prop) → Prop
  | [.agg [.ints .i64 1 [e], .ints .i64 31 zs, .bools 8 ad, .ints .i64 1 [k], .bytes 32 ch]], K => K (.d (.agg [.bytes 32 (viewHV e zs ad k ch)]))
  | _, _ => False
theorem vHashS_of {f : FuncId} (hx : ∀ e zs ad k ch, FnO f [.agg (vSegs e zs ad k ch)] (.d (.agg [.bytes 32 (viewHV e zs ad k ch)]))) : ∀ args K, vHashS args K → ∃ r, FnO f args r ∧ K r := by
  intro args K h
  unfold vHashS at h
  split at h
  · exact ⟨_, hx _ _ _ _ _, h⟩
  · exact h.elim
end Go.Proofs.YtpemaphgmfaioaaGreat
