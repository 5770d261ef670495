/-
  The walk of sponge's Turn.
-/
import Derived.Test.YtpemaphgmfaioaaGreatTurn
import Derived.Test.YtpemaphgmfaioaaGreatHBase
namespace Go.Proofs.YtpemaphgmfaioaaGreat
set_option maxRecDepth 100000
open Go.RowKit

theorem const_xor (c : BitVec 64) (k : Nat) (h : k < 12) : bits .xor .u64 (U c) (240 - 15 * (k : Int)) = U (c ^^^ BitVec.ofNat 64 (240 - 15 * k)) := by
  have e : (240 - 15 * (k : Int)) = U (BitVec.ofNat 64 (240 - 15 * k)) := by
    rw [U_def, BitVec.toNat_ofNat, Nat.mod_eq_of_lt (by omega)]; omega
  rw [e, U_xor]

abbrev C5 (x : W5) : Array Value := #[.int .u64 (U x.a), .int .u64 (U x.b), .int .u64 (U x.c), .int .u64 (U x.d), .int .u64 (U x.e)]

set_option maxHeartbeats 1000000 in
theorem turn_any (x : W5) (w : World) :
    Calls Tryz.prog 89 #[V5 x] w fun e w' => e = .returned (V5 (turnW x)) ∧ Below w.heap.size w w' := by
  go_enter Tryz.func89, Tryz.ntmps89
  go_wp2
  go_loopw [3, 4] (fun _ i wr => ∃ k : Nat, k ≤ 12 ∧ i = .int .u64 k ∧ Blk wr w.heap.size (C5 (turnN k x)) 118 ∧ (∃ z, Blk wr (w.heap.size + 1) #[z, z, z, z, z] 118) ∧ Below w.heap.size w wr) (fun _ i _ => 12 - (intOf i).toNat)
  case atStart =>
    exact ⟨0, by omega, rfl, (Blk.new _ _ _).alloc _, ⟨_, Blk.newAt _ _ (by simp)⟩, ((Below.refl _ _).alloc (Nat.le_refl _) _).alloc (by simp) _⟩
  case round =>
    obtain ⟨k, hk, rfl, hX, ⟨z, hZ⟩, hB⟩ := hrel
    have hs := hX.lt
    have hs2 := hZ.lt
    generalize hy : turnN k x = y at hX
    have HY := Lib.hid hy; clear hy
    by_cases hlt : k < 12
    · have c0 := hX.cell 0
      have c1 := hX.cell 1
      have c2 := hX.cell 2
      have c3 := hX.cell 3
      have c4 := hX.cell 4
      have f := hX.frozen
      have ks := const_xor y.c k hlt
      simp only [List.getElem?_toArray, List.getElem?_cons_zero, List.getElem?_cons_succ] at c0 c1 c2 c3 c4
      have HX := Lib.hid hX; have HZ := Lib.hid hZ; have HB := Lib.hid hB
      clear hX hZ hB
      go_wp2_with fail
      refine (mix_any { y with c := y.c ^^^ BitVec.ofNat 64 (240 - 15 * k) } _).mono ?_
      rintro e w1 ⟨rfl, b1⟩
      go_wp2_with fail
      refine (spread_any (mixW { y with c := y.c ^^^ BitVec.ofNat 64 (240 - 15 * k) }) _).mono ?_
      rintro e w2 ⟨rfl, b2⟩
      have g := ((HX.out.set 2 (.int .u64 (U (y.c ^^^ BitVec.ofNat 64 (240 - 15 * k))))).keep b1).keep b2
      have f2 := g.frozen
      have B2 : Below w.heap.size w w2 := ((HB.out.setCell (p := ⟨w.heap.size, 2, none⟩) (Nat.le_refl _) (.int .u64 (U (y.c ^^^ BitVec.ofNat 64 (240 - 15 * k))))).lift b1 (by simp; omega)).lift b2 (by have := b1.size; simp at this; omega)
      have Z2 := ((HZ.out.other ⟨w.heap.size, 2, none⟩ (.int .u64 (U (y.c ^^^ BitVec.ofNat 64 (240 - 15 * k)))) (by simp)).keep b1).keep b2
      have c5 := g.cell 0
      have c6 := g.cell 1
      have c7 := g.cell 2
      have c8 := g.cell 3
      have c9 := g.cell 4
      simp at c5 c6 c7 c8 c9
      have G := Lib.hid g; have HB2 := Lib.hid B2; have HZ2 := Lib.hid Z2
      clear g B2 Z2 HX HZ HB b1 b2 c0 c1 c2 c3 c4 f ks w1
      go_wp2
      go_roundw
      case rel =>
        refine ⟨k + 1, by omega, by go_num, ?_, ⟨z, ?_⟩, ?_⟩
        · show Blk _ _ (C5 (rndW k (turnN k x))) _
          rw [HY.out]
          exact G.out.set5 _ _ _ _ _
        · exact ((((HZ2.out.other _ _ (by simp)).other _ _ (by simp)).other _ _ (by simp)).other _ _ (by simp)).other _ _ (by simp)
        · exact ((((HB2.out.setCell (Nat.le_refl _) _).setCell (Nat.le_refl _) _).setCell (Nat.le_refl _) _).setCell (Nat.le_refl _) _).setCell (Nat.le_refl _) _
      case measure => simp [intOf]; omega
    · have c0 := hX.cell 0
      have c1 := hX.cell 1
      have c2 := hX.cell 2
      have c3 := hX.cell 3
      have c4 := hX.cell 4
      have f := hZ.frozen
      have d0 := hZ.cell 0
      have d1 := hZ.cell 1
      have d2 := hZ.cell 2
      have d3 := hZ.cell 3
      have d4 := hZ.cell 4
      simp at c0 c1 c2 c3 c4 d0 d1 d2 d3 d4
      have HZ := Lib.hid hZ; have HB := Lib.hid hB
      clear hX hZ hB
      go_wp2
      have hZ := HZ.out.set5 (.int .u64 (U y.a)) (.int .u64 (U y.b)) (.int .u64 (U y.c)) (.int .u64 (U y.d)) (.int .u64 (U y.e))
      have hT : turnW x = y := by rw [← HY.out]; show turnN 12 x = turnN k x; congr 1; omega
      rw [hT]
      exact bodyPost_ret (v := V5 y) (results_cell_row rfl _ _ _ _ _ (0, 0) _ rfl hZ Tryz.underlying118 rfl (by kernel_rfl)) rfl
        ⟨rfl, ((((HB.out.setCell (by simp) _).setCell (by simp) _).setCell (by simp) _).setCell (by simp) _).setCell (by simp) _⟩
end Go.Proofs.YtpemaphgmfaioaaGreat
