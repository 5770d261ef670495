/- -/
import Derived.Test.YtegalalmamofdaaGreatDoorJ11
namespace Go.Proofs.YtegalalmamofdaaGreatDoor
set_option linter.all false
set_option maxRecDepth 100000
open Go.RowKit
section
theorem cv4(x:BitVec 64)(w:World):Calls Tryz.prog 109 #[.int .u64 (U x),.int .u64 19] w fun e w'=>e=.returned (.int .u64 (U (x.rotateRight 19)))/\w=w':=jM x 19 (by decide) (by decide) w
theorem cv5(x:BitVec 64)(w:World):Calls Tryz.prog 109 #[.int .u64 (U x),.int .u64 28] w fun e w'=>e=.returned (.int .u64 (U (x.rotateRight 28)))/\w=w':=jM x 28 (by decide) (by decide) w
theorem cv8(x:BitVec 64)(w:World):Calls Tryz.prog 109 #[.int .u64 (U x),.int .u64 61] w fun e w'=>e=.returned (.int .u64 (U (x.rotateRight 61)))/\w=w':=jM x 61 (by decide) (by decide) w
theorem cv6(x:BitVec 64)(w:World):Calls Tryz.prog 109 #[.int .u64 (U x),.int .u64 39] w fun e w'=>e=.returned (.int .u64 (U (x.rotateRight 39)))/\w=w':=jM x 39 (by decide) (by decide) w
theorem rt1(x:BitVec 64)(w:World):Calls Tryz.prog 109 #[.int .u64 (U x),.int .u64 1] w fun e w'=>e=.returned (.int .u64 (U (x.rotateRight 1)))/\w=w':=jM x 1 (by decide) (by decide) w
theorem rt6(x:BitVec 64)(w:World):Calls Tryz.prog 109 #[.int .u64 (U x),.int .u64 6] w fun e w'=>e=.returned (.int .u64 (U (x.rotateRight 6)))/\w=w':=jM x 6 (by decide) (by decide) w
theorem cv2(x:BitVec 64)(w:World):Calls Tryz.prog 109 #[.int .u64 (U x),.int .u64 10] w fun e w'=>e=.returned (.int .u64 (U (x.rotateRight 10)))/\w=w':=jM x 10 (by decide) (by decide) w
theorem cv3(x:BitVec 64)(w:World):Calls Tryz.prog 109 #[.int .u64 (U x),.int .u64 17] w fun e w'=>e=.returned (.int .u64 (U (x.rotateRight 17)))/\w=w':=jM x 17 (by decide) (by decide) w
theorem rt7(x:BitVec 64)(w:World):Calls Tryz.prog 109 #[.int .u64 (U x),.int .u64 7] w fun e w'=>e=.returned (.int .u64 (U (x.rotateRight 7)))/\w=w':=jM x 7 (by decide) (by decide) w
theorem cv7(x:BitVec 64)(w:World):Calls Tryz.prog 109 #[.int .u64 (U x),.int .u64 41] w fun e w'=>e=.returned (.int .u64 (U (x.rotateRight 41)))/\w=w':=jM x 41 (by decide) (by decide) w
attribute [local go_sem] wr1 wr2 wr3 wr4 wr5 tm1 tm2 tm3 tm4 tm5 EO be0 be1
set_option maxHeartbeats 4000000 in
theorem Da(x:W5)(w:World):
  Calls Tryz.prog 66 #[V5 x] w fun e w'=>e=.returned (V5 (jy x))/\Below w.heap.size w w':=by
 go_enter Tryz.func66,Tryz.ntmps66
 go_wp2
 go_loopw [3] (fun i wr=>∃k:Nat,k<=12/\i=.int .i64 k/\aM wr w.heap.size (C5 (vQ k x)) 128/\(∃z,aM wr (w.heap.size+1) #[z,z,z,z,z] 128)/\Below w.heap.size w wr) (fun i _=>12- (intOf i).toNat)
 case atStart=>
  exact⟨0,by omega,rfl,(aM.new _ _ _).alloc _,⟨_,aM.newAt _ _ (by simp)⟩,((Below.refl _ _).alloc (Nat.le_refl _) _).alloc (by simp) _⟩
 case round=>
  obtain⟨k,hk,rfl,hX,⟨z,hZ⟩,hB⟩:=hrel
  have hs:=hX.lt
  have hs2:=hZ.lt
  generalize hy:vQ k x=y at hX
  have HY:=Lib.hid hy;clear hy
  by_cases hlt:k<12
  ·obtain⟨c0,c1,c2,c3,c4⟩:=hX.five
   have f:=hX.frozen
   have ks:=Jt y.c k hlt
   have HX:=Lib.hid hX;have HZ:=Lib.hid hZ;have HB:=Lib.hid hB
   clear hX hZ hB
   go_wp2_with fail
   refine zR (fun w1 hw1=>?_)
   have hX1:aM w1 w.heap.size #[.int .u64 (U (y.a^^^y.e)),.int .u64 (U y.b),.int .u64 (U (y.c^^^BitVec.ofNat 64 (240-15*k)^^^y.b)),.int .u64 (U y.d),.int .u64 (U (y.e^^^y.d))] 128:=by
    rw[hw1];exact(((((HX.out.set 2 _).set 0 _).set 4 _).set 2 _).alloc _).copy (by simp)
   have hZ1:aM w1 (w.heap.size+1) #[z,z,z,z,z] 128:=by
    rw[hw1];exact((((HZ.out.other _ _ (by simp)).other _ _ (by simp)).other _ _ (by simp)).other _ _ (by simp)).alloc _
   have hT1:aM w1 wr.heap.size #[.int .u64 0,.int .u64 0,.int .u64 0,.int .u64 0,.int .u64 0] 128:=by
    rw[hw1];exact aM.newAt _ _ (by simp)
   have hB1:Below w.heap.size w w1:=by
    rw[hw1];exact((((HB.out.setCell (by simp) _).setCell (by simp) _).setCell (by simp) _).setCell (by simp) _).alloc (by simp;omega) _
   clear hw1 c0 c1 c2 c3 c4 f ks HX HZ HB
   generalize hn0:y.c^^^BitVec.ofNat 64 (240-15*k)^^^y.b=n2 at*
   generalize hn1:y.a^^^y.e=n0 at*
   generalize hn3:y.e^^^y.d=n4 at*
   generalize wr.heap.size=T at*
   have hne:w.heap.size≠T:=by omega
   have cs8:w.heap.size+1≠T:=by omega
   clear hs2
   obtain⟨c0,c1,c2,c3,c4⟩:=hX1.five
   obtain⟨d0,d1,d2,d3,d4⟩:=hT1.five
   have fX:=hX1.frozen
   have fT:=hT1.frozen
   have HX:=Lib.hid hX1;have HZ:=Lib.hid hZ1;have HB:=Lib.hid hB1;have HT:=Lib.hid hT1
   clear hX1 hZ1 hB1 hT1
   refine wp_loop_rounds 6 ?_
   iterate 5
    rw[rounds_succ]
    go_wp2
    refine dW 12 (by kernel_rfl) (by kernel_rfl) ?_
    simp only[List.take_succ_cons,List.take_zero,List.drop_succ_cons,List.drop_zero]
    repeat still_step
    refine wpStill_nil ?_
    go_wp2
   rw[rounds_succ]
   go_wp2
   refine zR (fun w2 hw2=>?_)
   have hX2:aM w2 w.heap.size #[.int .u64 (U n0),.int .u64 (U y.b),.int .u64 (U n2),.int .u64 (U y.d),.int .u64 (U n4)] 128:=by
    rw[hw2];exact(HX.out.LD hne _ _ _ _ _).Fu
   have hZ2:aM w2 (w.heap.size+1) #[z,z,z,z,z] 128:=by
    rw[hw2];exact(HZ.out.LD cs8 _ _ _ _ _).Fu
   have hT2:aM w2 T #[.int .u64 (U (~~~n0&&&y.b)),.int .u64 (U (~~~y.b&&&n2)),.int .u64 (U (~~~n2&&&y.d)),.int .u64 (U (~~~y.d&&&n4)),.int .u64 (U (~~~n4&&&n0))] 128:=by
    rw[hw2];exact(HT.out.Zb _ _ _ _ _).Fu
   have hB2:Below w.heap.size w w2:=by
    rw[hw2];exact wF (nM HB.out (by omega) _ _ _ _ _)
   clear hw2 c0 c1 c2 c3 c4 d0 d1 d2 d3 d4 fX fT HX HZ HB HT
   obtain⟨c0,c1,c2,c3,c4⟩:=hX2.five
   obtain⟨d0,d1,d2,d3,d4⟩:=hT2.five
   have fX:=hX2.frozen
   have HX:=Lib.hid hX2;have HZ:=Lib.hid hZ2;have HB:=Lib.hid hB2
   clear hX2 hZ2 hB2 hT2
   refine wp_loop_rounds 6 ?_
   iterate 5
    rw[rounds_succ]
    go_wp2
    refine dW 11 (by kernel_rfl) (by kernel_rfl) ?_
    simp only[List.take_succ_cons,List.take_zero,List.drop_succ_cons,List.drop_zero]
    repeat still_step
    refine wpStill_nil ?_
    go_wp2
   rw[rounds_succ]
   go_wp2_with fail
   refine zR (fun w3 hw3=>?_)
   have hX3:aM w3 w.heap.size (C5 (SL { y with c:=y.c^^^BitVec.ofNat 64 (240-15*k) })) 128:=by
    rw[hw3]
    refine(((((HX.out.Zb _ _ _ _ _).set 1 _).set 0 _).set 3 _).set 2 _).Fu.copy ?_
    subst hn0 hn1 hn3
    rfl
   have hZ3:aM w3 (w.heap.size+1) #[z,z,z,z,z] 128:=by
    rw[hw3];exact(((((HZ.out.LD (by omega) _ _ _ _ _).other _ _ (by simp)).other _ _ (by simp)).other _ _ (by simp)).other _ _ (by simp)).Fu
   have hB3:Below w.heap.size w w3:=by
    rw[hw3];exact wF ((((nM HB.out (Nat.le_refl _) _ _ _ _ _).setCell (by simp) _).setCell (by simp) _).setCell (by simp) _ |>.setCell (by simp) _)
   clear hw3 c0 c1 c2 c3 c4 d0 d1 d2 d3 d4 fX HX HZ HB
   generalize hv:SL { y with c:=y.c^^^BitVec.ofNat 64 (240-15*k) }=v at*
   obtain⟨c0,c1,c2,c3,c4⟩:=hX3.five
   have fX:=hX3.frozen
   have HX:=Lib.hid hX3;have HZ:=Lib.hid hZ3;have HB:=Lib.hid hB3
   have HV:=Lib.hid hv
   clear hX3 hZ3 hB3 hv hn0 hn1 hn3
   refine dW 11 (by kernel_rfl) (by kernel_rfl) ?_
   simp only[List.take_succ_cons,List.take_zero,List.drop_succ_cons,List.drop_zero]
   iterate 4 still_step
   still_call ((cv4 _ _).mono fun _ _ h=>⟨h.1,h.2.symm⟩)
   iterate 3 still_step
   still_call ((cv5 _ _).mono fun _ _ h=>⟨h.1,h.2.symm⟩)
   iterate 2 still_step
   refine wpStill_nil ?_
   go_wp2_with fail
   refine dW 11 (by kernel_rfl) (by kernel_rfl) ?_
   simp only[List.take_succ_cons,List.take_zero,List.drop_succ_cons,List.drop_zero]
   iterate 4 still_step
   still_call ((cv8 _ _).mono fun _ _ h=>⟨h.1,h.2.symm⟩)
   iterate 3 still_step
   still_call ((cv6 _ _).mono fun _ _ h=>⟨h.1,h.2.symm⟩)
   iterate 2 still_step
   refine wpStill_nil ?_
   go_wp2_with fail
   refine dW 11 (by kernel_rfl) (by kernel_rfl) ?_
   simp only[List.take_succ_cons,List.take_zero,List.drop_succ_cons,List.drop_zero]
   iterate 4 still_step
   still_call ((rt1 _ _).mono fun _ _ h=>⟨h.1,h.2.symm⟩)
   iterate 3 still_step
   still_call ((rt6 _ _).mono fun _ _ h=>⟨h.1,h.2.symm⟩)
   iterate 2 still_step
   refine wpStill_nil ?_
   go_wp2_with fail
   refine dW 11 (by kernel_rfl) (by kernel_rfl) ?_
   simp only[List.take_succ_cons,List.take_zero,List.drop_succ_cons,List.drop_zero]
   iterate 4 still_step
   still_call ((cv2 _ _).mono fun _ _ h=>⟨h.1,h.2.symm⟩)
   iterate 3 still_step
   still_call ((cv3 _ _).mono fun _ _ h=>⟨h.1,h.2.symm⟩)
   iterate 2 still_step
   refine wpStill_nil ?_
   go_wp2_with fail
   refine dW 11 (by kernel_rfl) (by kernel_rfl) ?_
   simp only[List.take_succ_cons,List.take_zero,List.drop_succ_cons,List.drop_zero]
   iterate 4 still_step
   still_call ((rt7 _ _).mono fun _ _ h=>⟨h.1,h.2.symm⟩)
   iterate 3 still_step
   still_call ((cv7 _ _).mono fun _ _ h=>⟨h.1,h.2.symm⟩)
   iterate 2 still_step
   refine wpStill_nil ?_
   go_wp2_with fail
   go_roundw
   case rel=>
    refine⟨k+1,by omega,by go_num,?_,⟨z,?_⟩,?_⟩
    ·show aM _ _ (C5 (bF5 k (vQ k x))) _
     rw[HY.out]
     show aM _ _ (C5 (ED (SL _))) _
     rw[HV.out]
     exact(HX.out.Zb _ _ _ _ _).Fu
    ·exact(HZ.out.LD (by omega) _ _ _ _ _).Fu
    ·exact wF (nM HB.out (Nat.le_refl _) _ _ _ _ _)
   case measure=>simp[intOf];omega
  ·obtain⟨c0,c1,c2,c3,c4⟩:=hX.five
   obtain⟨d0,d1,d2,d3,d4⟩:=hZ.five
   have f:=hZ.frozen
   have HZ:=Lib.hid hZ;have HB:=Lib.hid hB
   clear hX hZ hB
   go_wp2
   have hZ:=HZ.out.Zb (.int .u64 (U y.a)) (.int .u64 (U y.b)) (.int .u64 (U y.c)) (.int .u64 (U y.d)) (.int .u64 (U y.e))
   have hT:jy x=y:=by rw[<-HY.out];show vQ 12 x=vQ k x;congr 1;omega
   rw[hT]
   exact bodyPost_ret (v:=V5 y) (results_cell_row rfl _ _ _ _ _ (0,0) _ rfl hZ Tryz.underlying128 rfl (by kernel_rfl)) rfl
    ⟨rfl,nM HB.out (by omega) _ _ _ _ _⟩
end
end Go.Proofs.YtegalalmamofdaaGreatDoor
