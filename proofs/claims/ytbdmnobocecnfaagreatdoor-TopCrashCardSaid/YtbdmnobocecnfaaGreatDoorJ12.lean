/-
  The walk of the document's Turn (curiaref1.Turn).
-/
import Derived.Test.YtbdmnobocecnfaaGreatDoorJ11
namespace Go.Proofs.YtbdmnobocecnfaaGreatDoor
set_option linter.unusedVariables false
set_option linter.unusedSimpArgs false
set_option maxRecDepth 100000
open Go.RowKit
section
theorem rt19(x:BitVec 64)(w:World):Calls Tryz.prog 105 #[.int .u64 (U x),.int .u64 19] w fun e w'=>e=.returned (.int .u64 (U (x.rotateRight 19)))∧w=w':=right_any x 19 (by decide) (by decide) w
theorem rt28(x:BitVec 64)(w:World):Calls Tryz.prog 105 #[.int .u64 (U x),.int .u64 28] w fun e w'=>e=.returned (.int .u64 (U (x.rotateRight 28)))∧w=w':=right_any x 28 (by decide) (by decide) w
theorem rt61(x:BitVec 64)(w:World):Calls Tryz.prog 105 #[.int .u64 (U x),.int .u64 61] w fun e w'=>e=.returned (.int .u64 (U (x.rotateRight 61)))∧w=w':=right_any x 61 (by decide) (by decide) w
theorem rt39(x:BitVec 64)(w:World):Calls Tryz.prog 105 #[.int .u64 (U x),.int .u64 39] w fun e w'=>e=.returned (.int .u64 (U (x.rotateRight 39)))∧w=w':=right_any x 39 (by decide) (by decide) w
theorem rt1(x:BitVec 64)(w:World):Calls Tryz.prog 105 #[.int .u64 (U x),.int .u64 1] w fun e w'=>e=.returned (.int .u64 (U (x.rotateRight 1)))∧w=w':=right_any x 1 (by decide) (by decide) w
theorem rt6(x:BitVec 64)(w:World):Calls Tryz.prog 105 #[.int .u64 (U x),.int .u64 6] w fun e w'=>e=.returned (.int .u64 (U (x.rotateRight 6)))∧w=w':=right_any x 6 (by decide) (by decide) w
theorem rt10(x:BitVec 64)(w:World):Calls Tryz.prog 105 #[.int .u64 (U x),.int .u64 10] w fun e w'=>e=.returned (.int .u64 (U (x.rotateRight 10)))∧w=w':=right_any x 10 (by decide) (by decide) w
theorem rt17(x:BitVec 64)(w:World):Calls Tryz.prog 105 #[.int .u64 (U x),.int .u64 17] w fun e w'=>e=.returned (.int .u64 (U (x.rotateRight 17)))∧w=w':=right_any x 17 (by decide) (by decide) w
theorem rt7(x:BitVec 64)(w:World):Calls Tryz.prog 105 #[.int .u64 (U x),.int .u64 7] w fun e w'=>e=.returned (.int .u64 (U (x.rotateRight 7)))∧w=w':=right_any x 7 (by decide) (by decide) w
theorem rt41(x:BitVec 64)(w:World):Calls Tryz.prog 105 #[.int .u64 (U x),.int .u64 41] w fun e w'=>e=.returned (.int .u64 (U (x.rotateRight 41)))∧w=w':=right_any x 41 (by decide) (by decide) w
attribute [local go_sem] wr1 wr2 wr3 wr4 wr5 tm1 tm2 tm3 tm4 tm5 U_xor U_and U_not
set_option maxRecDepth 100000 in
set_option maxHeartbeats 4000000 in
theorem rturn_any(x:W5)(w:World):
  Calls Tryz.prog 62 #[V5 x] w fun e w'=>e=.returned (V5 (turnW x))∧Below w.heap.size w w':=by
 go_enter Tryz.func62,Tryz.ntmps62
 go_wp2
 go_loopw [3] (fun i wr=>∃k:Nat,k≤12∧i=.int .i64 k∧Blk wr w.heap.size (C5 (turnN k x)) 126∧(∃z,Blk wr (w.heap.size+1) #[z,z,z,z,z] 126)∧Below w.heap.size w wr) (fun i _=>12- (intOf i).toNat)
 case atStart=>
  exact⟨0,by omega,rfl,(Blk.new _ _ _).alloc _,⟨_,Blk.newAt _ _ (by simp)⟩,((Below.refl _ _).alloc (Nat.le_refl _) _).alloc (by simp) _⟩
 case round=>
  obtain⟨k,hk,rfl,hX,⟨z,hZ⟩,hB⟩:=hrel
  have hs:=hX.lt
  have hs2:=hZ.lt
  generalize hy:turnN k x=y at hX
  have HY:=Lib.hid hy;clear hy
  by_cases hlt:k<12
  ·obtain⟨c0,c1,c2,c3,c4⟩:=hX.five
   have f:=hX.frozen
   have ks:=const_xor y.c k hlt
   have HX:=Lib.hid hX;have HZ:=Lib.hid hZ;have HB:=Lib.hid hB
   clear hX hZ hB
   go_wp2_with fail
   refine wp_gen (fun w1 hw1=>?_)
   have hX1:Blk w1 w.heap.size #[.int .u64 (U (y.a^^^y.e)),.int .u64 (U y.b),.int .u64 (U (y.c^^^BitVec.ofNat 64 (240-15*k)^^^y.b)),.int .u64 (U y.d),.int .u64 (U (y.e^^^y.d))] 126:=by
    rw[hw1];exact(((((HX.out.set 2 _).set 0 _).set 4 _).set 2 _).alloc _).copy (by simp)
   have hZ1:Blk w1 (w.heap.size+1) #[z,z,z,z,z] 126:=by
    rw[hw1];exact((((HZ.out.other _ _ (by simp)).other _ _ (by simp)).other _ _ (by simp)).other _ _ (by simp)).alloc _
   have hT1:Blk w1 wr.heap.size #[.int .u64 0,.int .u64 0,.int .u64 0,.int .u64 0,.int .u64 0] 126:=by
    rw[hw1];exact Blk.newAt _ _ (by simp)
   have hB1:Below w.heap.size w w1:=by
    rw[hw1];exact((((HB.out.setCell (by simp) _).setCell (by simp) _).setCell (by simp) _).setCell (by simp) _).alloc (by simp;omega) _
   clear hw1 c0 c1 c2 c3 c4 f ks HX HZ HB
   generalize hn0:y.c^^^BitVec.ofNat 64 (240-15*k)^^^y.b=n2 at*
   generalize hn1:y.a^^^y.e=n0 at*
   generalize hn3:y.e^^^y.d=n4 at*
   generalize wr.heap.size=T at*
   have hne:w.heap.size≠T:=by omega
   have hneZ:w.heap.size+1≠T:=by omega
   clear hs2
   obtain⟨c0,c1,c2,c3,c4⟩:=hX1.five
   obtain⟨d0,d1,d2,d3,d4⟩:=hT1.five
   have fX:=hX1.frozen
   have fT:=hT1.frozen
   have HX:=Lib.hid hX1;have HZ:=Lib.hid hZ1;have HB:=Lib.hid hB1;have HT:=Lib.hid hT1
   clear hX1 hZ1 hB1 hT1
   refine wp_loop_rounds 6 ?_
   iterate 5
    rw[rounds_succ]
    go_wp2
    refine region_tail 12 (by kernel_rfl) (by kernel_rfl) ?_
    simp only[List.take_succ_cons,List.take_zero,List.drop_succ_cons,List.drop_zero]
    repeat still_step
    refine wpStill_nil ?_
    go_wp2
   rw[rounds_succ]
   go_wp2
   refine wp_gen (fun w2 hw2=>?_)
   have hX2:Blk w2 w.heap.size #[.int .u64 (U n0),.int .u64 (U y.b),.int .u64 (U n2),.int .u64 (U y.d),.int .u64 (U n4)] 126:=by
    rw[hw2];exact(HX.out.far5 hne _ _ _ _ _).drew5
   have hZ2:Blk w2 (w.heap.size+1) #[z,z,z,z,z] 126:=by
    rw[hw2];exact(HZ.out.far5 hneZ _ _ _ _ _).drew5
   have hT2:Blk w2 T #[.int .u64 (U (~~~n0&&&y.b)),.int .u64 (U (~~~y.b&&&n2)),.int .u64 (U (~~~n2&&&y.d)),.int .u64 (U (~~~y.d&&&n4)),.int .u64 (U (~~~n4&&&n0))] 126:=by
    rw[hw2];exact(HT.out.set5 _ _ _ _ _).drew5
   have hB2:Below w.heap.size w w2:=by
    rw[hw2];exact below_drew5 (below_set5 HB.out (by omega) _ _ _ _ _)
   clear hw2 c0 c1 c2 c3 c4 d0 d1 d2 d3 d4 fX fT HX HZ HB HT
   obtain⟨c0,c1,c2,c3,c4⟩:=hX2.five
   obtain⟨d0,d1,d2,d3,d4⟩:=hT2.five
   have fX:=hX2.frozen
   have HX:=Lib.hid hX2;have HZ:=Lib.hid hZ2;have HB:=Lib.hid hB2
   clear hX2 hZ2 hB2 hT2
   refine wp_loop_rounds 6 ?_
   iterate 5
    rw[rounds_succ]
    go_wp2
    refine region_tail 11 (by kernel_rfl) (by kernel_rfl) ?_
    simp only[List.take_succ_cons,List.take_zero,List.drop_succ_cons,List.drop_zero]
    repeat still_step
    refine wpStill_nil ?_
    go_wp2
   rw[rounds_succ]
   go_wp2_with fail
   refine wp_gen (fun w3 hw3=>?_)
   have hX3:Blk w3 w.heap.size (C5 (mixW { y with c:=y.c^^^BitVec.ofNat 64 (240-15*k) })) 126:=by
    rw[hw3]
    refine(((((HX.out.set5 _ _ _ _ _).set 1 _).set 0 _).set 3 _).set 2 _).drew5.copy ?_
    subst hn0 hn1 hn3
    rfl
   have hZ3:Blk w3 (w.heap.size+1) #[z,z,z,z,z] 126:=by
    rw[hw3];exact(((((HZ.out.far5 (by omega) _ _ _ _ _).other _ _ (by simp)).other _ _ (by simp)).other _ _ (by simp)).other _ _ (by simp)).drew5
   have hB3:Below w.heap.size w w3:=by
    rw[hw3];exact below_drew5 ((((below_set5 HB.out (Nat.le_refl _) _ _ _ _ _).setCell (by simp) _).setCell (by simp) _).setCell (by simp) _ |>.setCell (by simp) _)
   clear hw3 c0 c1 c2 c3 c4 d0 d1 d2 d3 d4 fX HX HZ HB
   generalize hv:mixW { y with c:=y.c^^^BitVec.ofNat 64 (240-15*k) }=v at*
   obtain⟨c0,c1,c2,c3,c4⟩:=hX3.five
   have fX:=hX3.frozen
   have HX:=Lib.hid hX3;have HZ:=Lib.hid hZ3;have HB:=Lib.hid hB3
   have HV:=Lib.hid hv
   clear hX3 hZ3 hB3 hv hn0 hn1 hn3
   refine region_tail 11 (by kernel_rfl) (by kernel_rfl) ?_
   simp only[List.take_succ_cons,List.take_zero,List.drop_succ_cons,List.drop_zero]
   iterate 4 still_step
   still_call ((rt19 _ _).mono fun _ _ h=>⟨h.1,h.2.symm⟩)
   iterate 3 still_step
   still_call ((rt28 _ _).mono fun _ _ h=>⟨h.1,h.2.symm⟩)
   iterate 2 still_step
   refine wpStill_nil ?_
   go_wp2_with fail
   refine region_tail 11 (by kernel_rfl) (by kernel_rfl) ?_
   simp only[List.take_succ_cons,List.take_zero,List.drop_succ_cons,List.drop_zero]
   iterate 4 still_step
   still_call ((rt61 _ _).mono fun _ _ h=>⟨h.1,h.2.symm⟩)
   iterate 3 still_step
   still_call ((rt39 _ _).mono fun _ _ h=>⟨h.1,h.2.symm⟩)
   iterate 2 still_step
   refine wpStill_nil ?_
   go_wp2_with fail
   refine region_tail 11 (by kernel_rfl) (by kernel_rfl) ?_
   simp only[List.take_succ_cons,List.take_zero,List.drop_succ_cons,List.drop_zero]
   iterate 4 still_step
   still_call ((rt1 _ _).mono fun _ _ h=>⟨h.1,h.2.symm⟩)
   iterate 3 still_step
   still_call ((rt6 _ _).mono fun _ _ h=>⟨h.1,h.2.symm⟩)
   iterate 2 still_step
   refine wpStill_nil ?_
   go_wp2_with fail
   refine region_tail 11 (by kernel_rfl) (by kernel_rfl) ?_
   simp only[List.take_succ_cons,List.take_zero,List.drop_succ_cons,List.drop_zero]
   iterate 4 still_step
   still_call ((rt10 _ _).mono fun _ _ h=>⟨h.1,h.2.symm⟩)
   iterate 3 still_step
   still_call ((rt17 _ _).mono fun _ _ h=>⟨h.1,h.2.symm⟩)
   iterate 2 still_step
   refine wpStill_nil ?_
   go_wp2_with fail
   refine region_tail 11 (by kernel_rfl) (by kernel_rfl) ?_
   simp only[List.take_succ_cons,List.take_zero,List.drop_succ_cons,List.drop_zero]
   iterate 4 still_step
   still_call ((rt7 _ _).mono fun _ _ h=>⟨h.1,h.2.symm⟩)
   iterate 3 still_step
   still_call ((rt41 _ _).mono fun _ _ h=>⟨h.1,h.2.symm⟩)
   iterate 2 still_step
   refine wpStill_nil ?_
   go_wp2_with fail
   go_roundw
   case rel=>
    refine⟨k+1,by omega,by go_num,?_,⟨z,?_⟩,?_⟩
    ·show Blk _ _ (C5 (rndW k (turnN k x))) _
     rw[HY.out]
     show Blk _ _ (C5 (spreadW (mixW _))) _
     rw[HV.out]
     exact(HX.out.set5 _ _ _ _ _).drew5
    ·exact(HZ.out.far5 (by omega) _ _ _ _ _).drew5
    ·exact below_drew5 (below_set5 HB.out (Nat.le_refl _) _ _ _ _ _)
   case measure=>simp[intOf];omega
  ·obtain⟨c0,c1,c2,c3,c4⟩:=hX.five
   obtain⟨d0,d1,d2,d3,d4⟩:=hZ.five
   have f:=hZ.frozen
   have HZ:=Lib.hid hZ;have HB:=Lib.hid hB
   clear hX hZ hB
   go_wp2
   have hZ:=HZ.out.set5 (.int .u64 (U y.a)) (.int .u64 (U y.b)) (.int .u64 (U y.c)) (.int .u64 (U y.d)) (.int .u64 (U y.e))
   have hT:turnW x=y:=by rw[←HY.out];show turnN 12 x=turnN k x;congr 1;omega
   rw[hT]
   exact bodyPost_ret (v:=V5 y) (results_cell_row rfl _ _ _ _ _ (0,0) _ rfl hZ Tryz.underlying126 rfl (by kernel_rfl)) rfl
    ⟨rfl,below_set5 HB.out (by omega) _ _ _ _ _⟩
end
end Go.Proofs.YtbdmnobocecnfaaGreatDoor
