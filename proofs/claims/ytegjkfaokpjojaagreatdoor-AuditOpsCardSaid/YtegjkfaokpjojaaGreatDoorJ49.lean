/-
  Audits: signs, Change, Keys.
-/
import Derived.Test.YtegjkfaokpjojaaGreatDoorJ48
import Derived.Test.YtegjkfaokpjojaaGreatDoorJ30
import Derived.Lib.Hide
namespace Go.Proofs.YtegjkfaokpjojaaGreatDoor
set_option maxRecDepth 100000
open Go.RowKit Pm
set_option linter.unusedVariables false
set_option linter.unusedSimpArgs false

def atU (K : Nat) (l : List Int) (j : Nat) : List Int := (l.drop (j * K)).take K
theorem atU_all {K n : Nat} {zs ys : List Int} (hz : zs.length = n * K) (hy : ys.length = n * K) (hK : 0 < K) (h : ∀ j, j < n → atU K zs j = atU K ys j) : zs = ys := by
  refine List.ext_getElem (by omega) fun i h1 h2 => ?_
  have hi : i / K < n := by rw [Nat.div_lt_iff_lt_mul hK]; omega
  have h3 := h _ hi
  have h4 : ∀ (l : List Int), (atU K l (i / K))[i % K]? = l[i]? := fun l => by
    unfold atU
    rw [List.getElem?_take, if_pos (Nat.mod_lt _ hK), List.getElem?_drop]
    have := Nat.div_add_mod i K
    rw [Nat.mul_comm] at this
    rw [this]
  have h5 := h4 zs
  rw [h3, h4 ys, List.getElem?_eq_getElem h1, List.getElem?_eq_getElem h2] at h5
  exact (Option.some.inj h5).symm
/-- are rows of records one? the first that are not -/
theorem rowsU_first {K n : Nat} {zs ys : List Int} (hz : zs.length = n * K) (hy : ys.length = n * K) (hK : 0 < K) : ∃ N, N ≤ n ∧ (∀ j, j < N → decide ((zs.drop (j * K)).take K = (ys.drop (j * K)).take K) = true) ∧ (N = n ∧ decide (zs = ys) = true ∨ N < n ∧ decide ((zs.drop (N * K)).take K = (ys.drop (N * K)).take K) = false ∧ decide (zs = ys) = false) := by
  obtain ⟨N, h1, h2, h3⟩ := first_P0 (fun j => !decide (atU K zs j = atU K ys j)) n
  have h2' : ∀ j, j < N → atU K zs j = atU K ys j := fun j hj => by
    have := h2 j hj
    simpa using this
  refine ⟨N, h1, fun j hj => decide_eq_true (h2' j hj), ?_⟩
  rcases h3 with rfl | ⟨h3, h4⟩
  · exact .inl ⟨rfl, decide_eq_true (atU_all hz hy hK h2')⟩
  · have h5 : ¬ atU K zs N = atU K ys N := by simpa using h4
    exact .inr ⟨h3, decide_eq_false h5, decide_eq_false fun e => h5 (by rw [e])⟩
def sameU (n : Nat) (zs : List Int) (n' : Nat) (ys : List Int) : Bool := decide (n = n') && decide (zs = ys)
/-- members and their keys -/
def sgL (zs : List Int) : List Int → List Int
  | [] => []
  | m :: r => m :: zs.getD (m.toNat * 2) 0 :: sgL zs r
theorem sgL_nil (zs : List Int) : sgL zs [] = [] := rfl
theorem sgL_app (zs : List Int) : ∀ l m, sgL zs (l ++ m) = sgL zs l ++ sgL zs m
  | [], _ => rfl
  | _ :: l, m => by simp [sgL, sgL_app zs l m]
theorem sgL_next (zs : List Int) {M : List Int} {j : Nat} (hj : j < M.length) : sgL zs (M.take (j + 1)) = sgL zs (M.take j) ++ [M.getD j 0, zs.getD ((M.getD j 0).toNat * 2) 0] := by
  have e : M[j] = M.getD j 0 := by rw [List.getD_eq_getElem?_getD, List.getElem?_eq_getElem hj]; rfl
  rw [List.take_succ_eq_append_getElem hj, sgL_app, e]
  rfl
attribute [local irreducible] condK LoopA regA powI scal mulI isI fourB deriveW numB numsB bodyB nodeW nextW viewHV doR chkV planL sealB boxD keyZ helD commonI placeI apE doP comE comP nextP joinP upW lefW tagE expW memTo createP enterP getM hasM putM mapG z480 xOf sgL
noncomputable def envAu2 : EnvX := envAu1.add 61 membersS membersS_ok ⟨_, Tryz.func61, by kernel_rfl, by kernel_rfl⟩
noncomputable def envAu3 : EnvX := envAu2.add 60 hasGS hasGS_ok ⟨_, Tryz.func60, by kernel_rfl, by kernel_rfl⟩
set_option maxHeartbeats 4000000 in
theorem eqTwo_ok (n n' : Nat) (zs ys : List Int) (hn : n ≤ 6000) (hn' : n' ≤ 6000) : FnO 57 [.row n [.ints .i64 (n * 2) zs], .row n' [.ints .i64 (n' * 2) ys]] (.d (.v (.bool (sameU n zs n' ys)))) := by
  refine fn_lens fun hl => ?_
  have hz : zs.length = n * 2 := hl.1.1
  have hy : ys.length = n' * 2 := hl.2.1.1
  clear hl
  refine fnA (E := envAu3) Tryz.func57 Tryz.ntmps57 ?_
  by_cases e : n = n'
  · subst e
    obtain ⟨N, hN, hno, hend⟩ := rowsU_first (K := 2) hz hy (by decide)
    have e0 : sameU n zs n ys = decide (zs = ys) := by unfold sameU; simp
    rw [e0]
    have hq : (((n : Nat) : Int) != ((n : Nat) : Int)) = false := by simp
    clear e0
    refine agow ?_; (try with_reducible exact True.intro)
    refine StopL.mk (loop_forG [0, 1, 12, 13] [0] N (fun j => ⟨[.d (.row n [.ints .i64 (n * 2) zs]), .d (.row n [.ints .i64 (n * 2) ys]), .dead, .dead, .dead, .dead, .dead, .dead, .dead, .dead, .dead, .dead, .d (.v (.int .i64 n)), .d (.v (.int .i64 (j : Nat))), .dead, .dead, .dead, .dead, .dead, .dead, .dead, .dead, .dead, .dead, .dead, .dead], [none]⟩) ?_)
    intro j hj hl
    by_cases h : j < N
    · have h1 : (j : Int) < (n : Int) := by omega
      have h2 := hno j h
      clear hend hno
      refine agow ?_; (try with_reducible exact True.intro)
      refine hl.go h [0, 1, 12, 13] [0] ?_
      rfl
    · obtain rfl : N = j := by omega
      rcases hend with ⟨e1, e2⟩ | ⟨h1, h2, e2⟩
      · have h1 : ¬ (N : Int) < (n : Int) := by omega
        rw [e2]
        clear e2 e1 hno
        refine agow ?_; (try with_reducible exact True.intro)
      · have h1 : (N : Int) < (n : Int) := by omega
        rw [e2]
        clear e2 hno
        refine agow ?_; (try with_reducible exact True.intro)
  · have e0 : sameU n zs n' ys = false := by unfold sameU; simp [e]
    have hq : (((n : Nat) : Int) != ((n' : Nat) : Int)) = true := by simp; omega
    rw [e0]
    clear e0 e
    refine agow ?_; (try with_reducible exact True.intro)
set_option maxHeartbeats 4000000 in
theorem signs_ok (zs : List Int) : FnO 58 [.agg [.ints .i64 31 zs]] (.o 112 2 (memTo zs 8).length [.ints .i64 ((memTo zs 8).length * 2) (sgL zs (memTo zs 8))]) := by
  refine fnA (E := envAu3) Tryz.func58 Tryz.ntmps58 ?_
  have hb : ∀ j, j < (memTo zs 8).length → 0 ≤ (memTo zs 8).getD j 0 ∧ (memTo zs 8).getD j 0 < 8 := fun j hj => by
    have : (memTo zs 8).getD j 0 ∈ memTo zs 8 := by rw [List.getD_eq_getElem?_getD, List.getElem?_eq_getElem hj]; exact List.getElem_mem _
    have := (memTo_mem zs 8 _).1 this
    exact ⟨this.1, by omega⟩
  have hl8 := memTo_len zs 8
  refine agow ?_; (try with_reducible exact True.intro)
  generalize memTo zs 8 = M at *
  have HB := Lib.hid hb
  clear hb
  refine StopL.mk (loop_forN [1, 3, 7, 8, 9] [0, 1, 2] 3 112 2 [.ints .i64 0 []] M.length (fun j => ⟨[.dead, .ptr 0 0, .dead, .own 2 j, .dead, .dead, .dead, .own 1 M.length, .d (.v (.int .i64 M.length)), .d (.v (.int .i64 (j : Nat))), .dead, .dead, .dead, .dead, .dead, .dead, .dead, .dead, .dead, .dead, .dead, .dead, .dead, .dead, .dead], [some (.var [.ints .i64 31 zs]), some (.sl 3 1 M.length [.ints .i64 M.length M]), some (.sl 112 2 j [.ints .i64 (j * 2) (sgL zs (M.take j))])]⟩) ?_ (h2 := by rw [List.take_zero, sgL_nil, Nat.zero_mul]; exact rfl))
  intro j hj hl
  by_cases h : j < M.length
  · have h1 : (j : Int) < (M.length : Int) := by omega
    obtain ⟨b1, b2⟩ := (show ∀ j, j < M.length → 0 ≤ M.getD j 0 ∧ M.getD j 0 < 8 from HB) j h
    have hs := sgL_next zs h
    refine agow ?_; (try with_reducible exact True.intro)
    refine hl.go h [1, 3, 7, 8, 9] [0, 1, 2] ?_
    show gather _ _ _ = St.mk _ _
    rw [hs, Nat.succ_mul]
    rfl
  · obtain rfl : M.length = j := by omega
    have h1 : ¬ (M.length : Int) < (M.length : Int) := by omega
    have ht : M.take M.length = M := List.take_length
    rw [ht]
    refine agow ?_; (try with_reducible exact True.intro)
def signsS : List A → (Res → Prop) → Prop
  | [.agg [.ints .i64 31 zs]], K => ∀ n L, n = (memTo zs 8).length → L = sgL zs (memTo zs 8) → n ≤ 8 → K (.o 112 2 n [.ints .i64 (n * 2) L])
  | _, _ => False
theorem signsS_ok : ∀ args K, signsS args K → ∃ r, FnO 58 args r ∧ K r := by
  intro args K h
  unfold signsS at h
  split at h
  · exact ⟨_, signs_ok _, h _ _ rfl rfl (memTo_len _ _)⟩
  · exact h.elim
def sameUS : List A → (Res → Prop) → Prop
  | [.row n [.ints .i64 q zs], .row n' [.ints .i64 q' ys]], C => q = n * 2 ∧ q' = n' * 2 ∧ n ≤ 6000 ∧ n' ≤ 6000 ∧ C (.d (.v (.bool (sameU n zs n' ys))))
  | _, _ => False
theorem sameUS_ok : ∀ args K, sameUS args K → ∃ r, FnO 57 args r ∧ K r := by
  intro args K h
  unfold sameUS at h
  split at h
  · obtain ⟨rfl, rfl, h1, h2, h⟩ := h
    exact ⟨_, eqTwo_ok _ _ _ _ h1 h2, h⟩
  · exact h.elim
noncomputable def envAu4 : EnvX := envAu3.add 58 signsS signsS_ok ⟨_, Tryz.func58, by kernel_rfl, by kernel_rfl⟩
noncomputable def envAu5 : EnvX := envAu4.add 57 sameUS sameUS_ok ⟨_, Tryz.func57, by kernel_rfl, by kernel_rfl⟩
/-- are members or their keys others? -/
def sgnB (zs ys : List Int) : Bool := sameU (memTo zs 8).length (sgL zs (memTo zs 8)) (memTo ys 8).length (sgL ys (memTo ys 8))
def changeB (k : Int) (ad : List Bool) (zs : List Int) (k' : Int) (ad' : List Bool) (zs' : List Int) : Bool :=
  k != k' || !(eqSegs [.bools 8 ad] [.bools 8 ad']) || !(sgnB zs zs')
set_option maxHeartbeats 4000000 in
theorem change_fn (e : Int) (zs : List Int) (ad : List Bool) (k : Int) (ch : List UInt8) (e' : Int) (zs' : List Int) (ad' : List Bool) (k' : Int) (ch' : List UInt8) :
    FnO 12 [.agg (vSegs e zs ad k ch), .agg (vSegs e' zs' ad' k' ch')] (.d (.v (.bool (changeB k ad zs k' ad' zs')))) := by
  refine fnA (E := envAu5) Tryz.func12 Tryz.ntmps12 ?_
  unfold changeB
  cases h1 : (k != k') with
  | true =>
    refine agow ?_; (try with_reducible exact True.intro)
    simp
  | false =>
    cases h2 : (!(eqSegs [.bools 8 ad] [.bools 8 ad'])) with
    | true =>
      refine agow ?_; (try with_reducible exact True.intro)
      simp
    | false =>
      refine agow ?_; (try with_reducible exact True.intro)
      intro n L hn hL hn8
      refine agow ?_; (try with_reducible exact True.intro)
      intro n' L' hn' hL' hn8'
      refine agow ?_; (try with_reducible exact True.intro)
      rw [hn, hL, hn', hL', Bool.false_or, Bool.false_or]
      rfl
noncomputable def envAu6 : EnvX := envAu5.add 38 (ofP (fun p => .p (.obj (KeyP (scal p.sg)))) (.d (.v (.pointer none)))) (ofP_of signer0_fn signer_fn) ⟨_, Tryz.func38, by kernel_rfl, by kernel_rfl⟩
noncomputable def envAu7 : EnvX := envAu6.addM 33 publicS publicS_ok ⟨_, Tryz.func33, by kernel_rfl, by kernel_rfl⟩
theorem keys0_fn : FnO 13 [.v (.pointer none)] (.d (.v (.bool false))) := by
  refine fnA (E := envAu7) Tryz.func13 Tryz.ntmps13 ?_
  refine agow ?_; (try with_reducible exact True.intro)
/-- a party among its members, whose key is its leaf's -/
structure KeysP (p : PS) : Prop where
  lf0 : 0 ≤ p.lf
  lf1 : p.lf < 8
  mem : memB p.zs p.lf = true
  key : powI 4 (scal p.sg) = p.zs.getD (p.lf.toNat * 2) 0
set_option maxHeartbeats 4000000 in
theorem keys_fn (p : PS) (h : KeysP p) : FnO 13 [.sref (pSegs p) 0] (.d (.v (.bool true))) := by
  refine fnA (E := envAu7) Tryz.func13 Tryz.ntmps13 ?_
  have h0 := h.lf0
  have h1 := h.lf1
  have h2 : decide (p.lf ∈ memTo p.zs 8) = true := (memB_in p.zs p.lf).trans h.mem
  have h3 := memTo_len p.zs 8
  have h4 := h.key
  obtain ⟨s0, s1⟩ := scal_bd p.sg
  clear h
  refine agow ?_; (try with_reducible exact True.intro)
  rw [h4]
  simp
end Go.Proofs.YtegjkfaokpjojaaGreatDoor
