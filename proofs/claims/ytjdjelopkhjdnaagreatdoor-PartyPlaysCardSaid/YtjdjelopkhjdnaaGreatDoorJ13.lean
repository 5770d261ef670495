/-
  The walk of the sponge's state: take.
-/
import Derived.Test.YtjdjelopkhjdnaaGreatDoorJ12
import Derived.Deep.DeepMust
namespace Go.Proofs.YtjdjelopkhjdnaaGreatDoor
set_option linter.unusedVariables false
set_option linter.unusedSimpArgs false
set_option maxRecDepth 100000
open Go.RowKit
section
theorem qF(k:Nat)(h:k≤7):IntKind.i64.wrap (8*(k:Int))=8*(k:Int)∧IntKind.i64.wrap (56-8*(k:Int))=56-8*(k:Int)∧0≤56-8*(k:Int)∧(56-8*(k:Int)).toNat=56-8*k∧56-8*k≤64:=
 ⟨IntWalk.i64_in _ (by omega),IntWalk.i64_in _ (by omega),by omega,by omega,by omega⟩
attribute [local go_sem] aR9 Cw
set_option maxHeartbeats 2000000 in
theorem zA(g:Nat)(s:Sp)(a:Option Addr)(len cap:Nat)(bs:List UInt8)(w:World)(hs:bK w g (C6 s) 144)(hat:s.at_≤7)(hp:dL w a len bs)
  (hne:∀x:Addr,a=some x→bs≠[]→x.block≠g):
  Calls Tryz.prog 71 #[.pointer (some ⟨g,0,none⟩),.slice a len cap] w fun e w'=>e=.returned (.tuple #[])∧bK w' g (C6 (takes s bs)) 144∧w.grownBy w' (some g):=by
 have hlen:=hp.len_eq
 have hsm:=hp.small
 unfold maxLen at hsm
 subst hlen
 have HP:=Lib.hid hp
 have HS:=Lib.hid hs
 have HN:=Lib.hid hne
 clear hp hs hne
 go_enter Tryz.func71,Tryz.ntmps71
 go_wp2
 go_loopw [5,8] (fun _ i wr=>∃k:Nat,k≤bs.length∧i=.int .i64 k∧bK wr g (C6 (takes s (bs.take k))) 144∧w.grownBy wr (some g)) (fun _ i _=>bs.length- (intOf i).toNat)
 case atStart=>exact⟨0,Nat.zero_le _,rfl,HS.out,fE _ _⟩
 case round=>
  obtain⟨k,hk,rfl,hX,hG⟩:=hrel
  have bm7:=uV (bs.take k) s hat
  generalize hy:takes s (bs.take k)=y at hX bm7
  have HY:=Lib.hid hy;clear hy
  by_cases hlt:k<bs.length
  ·obtain⟨b,off,rfl,hcell⟩:∃b off,a=some ⟨b,off,none⟩∧wr.cell? ⟨b,off+k,none⟩=some (.int .u8 (Bt bs[k])):=by
    rcases HP.out.cells with h1|⟨b,off,rfl,hc⟩
    ·simp[h1]at hlt
    ·exact⟨b,off,rfl,hG.cell (hc k hlt) (fun e=>HN.out _ rfl (by intro h1;simp[h1]at hlt) (by injection e))⟩
   generalize hc:bs[k]=c at hcell
   have HC0:=Lib.hid hc;clear hc
   obtain⟨c0,c1,c2,c3,c4,c5⟩:=hX.six
   have f:=hX.frozen
   obtain⟨s1,s2,s3,s4,s5⟩:=qF y.at_ bm7
   have HX:=Lib.hid hX;have HG:=Lib.hid hG
   clear hX hG
   have hw8:IntKind.u64.wrap (Bt c)=Bt c:=IntWalk.u64_in _ (by have:=QD c;omega)
   go_wp2_with fail
   refine fB 18 (by kernel_rfl) (by kernel_rfl) ?_
   simp only[List.take_succ_cons,List.take_zero,List.drop_succ_cons,List.drop_zero]
   repeat still_step
   refine wpStill_nil ?_
   by_cases h7:y.at_=7
   ·have h7':((y.at_:Int)+1==8)=true:=by rw[h7];rfl
    clear h7
    go_wp2_with fail
    refine(EK { y.x with a:=y.x.a^^^(w8 c<<<(56-8*y.at_)) } _).mono ?_
    rintro e w1 ⟨rfl,b1⟩
    have g0:=((HX.out.set 0 (.int .u64 (U (y.x.a^^^w8 c<<<(56-8*y.at_))))).set 5 (.int .i64 ((y.at_:Int)+1))).drew
    have gg:=mR (aS (aS HG.out 0 (.int .u64 (U (y.x.a^^^w8 c<<<(56-8*y.at_))))) 5 (.int .i64 ((y.at_:Int)+1)))
    have g1:=g0.keep b1
    have gg1:=jV gg b1
    have hyt:takeB y c=⟨jw { y.x with a:=y.x.a^^^(w8 c<<<(56-8*y.at_)) },0⟩:=by unfold takeB;rw[if_pos (by simp at h7';omega)]
    generalize jw { y.x with a:=y.x.a^^^(w8 c<<<(56-8*y.at_)) }=z at hyt
    have HYT:=Lib.hid hyt
    have f1:=g1.frozen
    have d0:=g1.cell 0
    have d1:=g1.cell 1
    have d2:=g1.cell 2
    have d3:=g1.cell 3
    have d4:=g1.cell 4
    have d5:=g1.cell 5
    simp at d0 d1 d2 d3 d4 d5
    have G1:=Lib.hid g1;have GG1:=Lib.hid gg1
    clear g0 gg g1 gg1 b1 hyt c0 c1 c2 c3 c4 c5 f HX HG s1 s2 s3 s4 s5 hw8 hcell h7'
    go_wp2
    go_roundw
    case rel=>
     refine⟨k+1,by omega,by go_num,?_,?_⟩
     ·rw[List.take_succ_eq_append_getElem hlt,EH,HY.out,HC0.out,HYT.out]
      exact((((((G1.out.set 0 _).set 1 _).set 2 _).set 3 _).set 4 _).set 5 _).copy (by simp)
     ·exact aS (aS (aS (aS (aS (aS GG1.out _ _) _ _) _ _) _ _) _ _) _ _
    case measure=>simp[intOf];omega
   ·have h7':((y.at_:Int)+1==8)=false:=by rw[beq_eq_false_iff_ne];omega
    have hyt:takeB y c=⟨{ y.x with a:=y.x.a^^^(w8 c<<<(56-8*y.at_)) },y.at_+1⟩:=by unfold takeB;rw[if_neg h7]
    have HYT:=Lib.hid hyt
    clear h7 hyt
    go_wp2
    go_roundw
    case rel=>
     refine⟨k+1,by omega,by go_num,?_,?_⟩
     ·rw[List.take_succ_eq_append_getElem hlt,EH,HY.out,HC0.out,HYT.out]
      exact((HX.out.set 0 _).set 5 _).drew.copy (by simp)
     ·exact mR (aS (aS HG.out _ _) _ _)
    case measure=>simp[intOf];omega
  ·have HX:=Lib.hid hX;have HG:=Lib.hid hG
   clear hX hG
   go_wp2
   go_end0
   refine⟨rfl,?_,HG.out⟩
   rw[←List.take_of_length_le (i:=k) (l:=bs) (by omega),HY.out]
   exact HX.out
end
section
theorem turn_32(w:World):Calls Tryz.prog 142 #[.agg #[.int .u64 32,.int .u64 0,.int .u64 0,.int .u64 0,.int .u64 0]] w fun e w'=>e=.returned (V5 (jw ⟨32,0,0,0,0⟩))∧Below w.heap.size w w':=
 EK ⟨32,0,0,0,0⟩ w
theorem SN(w:World):Calls Tryz.prog 70 #[] w fun e w'=>e=.returned (.agg (C6 iA))∧Below w.heap.size w w':=by
 go_enter Tryz.func70,Tryz.ntmps70
 go_wp2_with fail
 refine(turn_32 _).mono ?_
 rintro e w1 ⟨rfl,b1⟩
 generalize hz:jw ⟨32,0,0,0,0⟩=z
 have HZ:=Lib.hid hz
 have hb:iA=⟨z,0⟩:=by unfold iA;rw[hz]
 have HB:=Lib.hid hb
 clear hz hb
 have g:=(bK.new w #[.int .u64 0,.int .u64 0,.int .u64 0,.int .u64 0,.int .u64 0,.int .i64 0] 144).keep b1
 have f:=g.frozen
 obtain⟨c0,c1,c2,c3,c4,c5⟩:=g.six
 have B:=((Below.refl w.heap.size w).alloc (Nat.le_refl _) (.cells #[.int .u64 0,.int .u64 0,.int .u64 0,.int .u64 0,.int .u64 0,.int .i64 0] 144)).lift b1 (by simp)
 have G:=Lib.hid g;have HBB:=Lib.hid B
 clear g B b1
 go_wp2
 have g2:=((((((G.out.set 0 (.int .u64 (U z.a))).set 1 (.int .u64 (U z.b))).set 2 (.int .u64 (U z.c))).set 3 (.int .u64 (U z.d))).set 4 (.int .u64 (U z.e))).set 5 (.int .i64 0)).copy (cs':=C6 iA) (by rw[HB.out];simp)
 exact bodyPost_ret (v:=.agg (C6 iA)) (results_cell_row rfl _ _ _ _ _ (0,0) _ rfl g2 Tryz.underlying144 rfl (by kernel_rfl)) rfl
  ⟨rfl,(((((HBB.out.setCell (by simp) _).setCell (by simp) _).setCell (by simp) _).setCell (by simp) _).setCell (by simp) _).setCell (by simp) _⟩
end
section
attribute [local go_sem] Cw
theorem shl_80(n:Nat):IntKind.u64.wrap (128*2^n)=U (0x80#64<<<n):=by
 rw[←JV];rfl
set_option maxRecDepth 100000 in
set_option maxHeartbeats 2000000 in
theorem an4(g:Nat)(s:Sp)(w:World)(hs:bK w g (C6 s) 144)(hat:s.at_≤7):
  Calls Tryz.prog 72 #[.pointer (some ⟨g,0,none⟩)] w fun e w'=>e=.returned (HV (rX s))∧w.grownBy w' (some g):=by
 obtain⟨c0,c1,c2,c3,c4,c5⟩:=hs.six
 have f:=hs.frozen
 have hlt:=hs.lt
 obtain⟨s1,s2,s3,s4,s5⟩:=qF s.at_ hat
 have hsh:=shl_80 (56-8*s.at_)
 have HS:=Lib.hid hs
 clear hs
 go_enter Tryz.func72,Tryz.ntmps72
 go_wp2_with fail
 refine fB 16 (by kernel_rfl) (by kernel_rfl) ?_
 simp only[List.take_succ_cons,List.take_zero,List.drop_succ_cons,List.drop_zero]
 repeat still_step
 refine wpStill_nil ?_
 go_wp2_with fail
 refine xY (fun w1 hw1=>?_)
 have hX1:bK w1 g (C6 ⟨lU 0 (nL s),s.at_⟩) 144:=by
  rw[hw1];exact((((HS.out.set 0 _).alloc _).alloc _).drew).copy (by simp[nL,lU])
 have hH1:bK w1 (w.heap.size+1) (HC (front (rX s) (8*0))) 37:=by
  rw[hw1];exact(bK.newAt _ _ (by simp)).drew.copy (by rw[Dm];rfl)
 have YA:bK w1 w.heap.size (HC (List.replicate 32 0)) 37:=by
  rw[hw1];exact(((bK.newAt _ _ (by simp)).alloc _).drew).copy (by rfl)
 have hG1:w.grownBy w1 (some g):=by
  rw[hw1];exact mR (jW (jW (aS (fE w (some g)) 0 _) (World.grownBy_alloc _ _ _)) (World.grownBy_alloc _ _ _))
 clear hw1 c0 c1 c2 c3 c4 c5 f s1 s2 s3 s4 s5 hsh HS
 generalize hR:w.heap.size=R at*
 have hgR:g≠R:=by omega
 have hgH:g≠R+1:=by omega
 have HX1:=Lib.hid hX1;have HH1:=Lib.hid hH1;have HR1:=Lib.hid YA;have HG1:=Lib.hid hG1;have HRW:=Lib.hid hR
 clear hX1 hH1 YA hG1 hR
 go_loopw [4,5,22] (fun _ _ i wr=>∃k:Nat,k≤4∧i=.int .i64 k∧bK wr g (C6 ⟨lU k (nL s),s.at_⟩) 144∧bK wr (R+1) (HC (front (rX s) (8*k))) 37∧bK wr R (HC (List.replicate 32 0)) 37∧w.grownBy wr (some g)) (fun _ _ i _=>4- (intOf i).toNat)
 case atStart=>exact⟨0,by omega,rfl,HX1.out,HH1.out,HR1.out,HG1.out⟩
 case round=>
  obtain⟨k,hk,rfl,hX,hH,hRR,hG⟩:=hrel
  clear HX1 HH1 HR1 HG1
  by_cases by2:k<4
  ·obtain⟨c0,c1,c2,c3,c4,c5⟩:=hX.six
   have f:=hX.frozen
   have HX:=Lib.hid hX;have HH:=Lib.hid hH;have HR:=Lib.hid hRR;have HG:=Lib.hid hG
   clear hX hH hRR hG
   go_wp2_with fail
   refine(EK (lU k (nL s)) _).mono ?_
   rintro e w2 ⟨rfl,b2⟩
   have hX2:=HX.out.keep b2
   have hH2:=HH.out.keep b2
   have hR2:=HR.out.keep b2
   have hG2:=jV HG.out b2
   clear c0 c1 c2 c3 c4 c5 f HX HH HR HG b2
   obtain⟨c0,c1,c2,c3,c4,c5⟩:=hX2.six
   have f:=hX2.frozen
   have HX:=Lib.hid hX2;have HH:=Lib.hid hH2;have HR:=Lib.hid hR2;have HG:=Lib.hid hG2
   clear hX2 hH2 hR2 hG2
   go_wp2_with fail
   refine xY (fun w3 hw3=>?_)
   have hX3:bK w3 g (C6 ⟨lU (k+1) (nL s),s.at_⟩) 144:=by
    rw[hw3];exact(((((HX.out.set 0 _).set 1 _).set 2 _).set 3 _).set 4 _).copy (by simp[lU])
   have hH3:bK w3 (R+1) (HC (front (rX s) (8*k+0))) 37:=by
    rw[hw3];exact HH.out.Il (Ne.symm hgH) _ _ _ _ _
   have YB:bK w3 R (HC (List.replicate 32 0)) 37:=by
    rw[hw3];exact HR.out.Il (Ne.symm hgR) _ _ _ _ _
   have hG3:w.grownBy w3 (some g):=by
    rw[hw3];exact aS (aS (aS (aS (aS HG.out _ _) _ _) _ _) _ _) _ _
   clear hw3 c0 c1 c2 c3 c4 c5 f HX HH HR HG
   have HX1:=Lib.hid hX3;have HH1:=Lib.hid hH3;have HR1:=Lib.hid YB;have HG1:=Lib.hid hG3
   clear hX3 hH3 YB hG3
   go_loopw [5,33] (fun _ j wr=>∃m:Nat,m≤8∧j=.int .i64 m∧bK wr g (C6 ⟨lU (k+1) (nL s),s.at_⟩) 144∧bK wr (R+1) (HC (front (rX s) (8*k+m))) 37∧bK wr R (HC (List.replicate 32 0)) 37∧w.grownBy wr (some g)) (fun _ j _=>8- (intOf j).toNat)
   case atStart=>exact⟨0,by omega,rfl,HX1.out,HH1.out,HR1.out,HG1.out⟩
   case round=>
    obtain⟨m,hm,rfl,hX,hH,hRR,hG⟩:=hrel
    clear HX1 HH1 HR1 HG1
    by_cases aO1:m<8
    ·obtain⟨c0,c1,c2,c3,c4,c5⟩:=hX.six
     have hget:=ZO (nL s) k m by2 aO1
     have hfs:=FZ (rX s) (8*k+m) (lT _) (by omega) _ hget
     obtain⟨ov,hov⟩:=CG hH (lT _) (show 8*k+m<32 by omega)
     have fH:=hH.frozen
     generalize(lU (k+1) (nL s)).a=za at*
     have hwb:=Bq za m
     obtain⟨s1,s2,s3,s4,s5⟩:=qF m (by omega)
     have HX:=Lib.hid hX;have HH:=Lib.hid hH;have HR:=Lib.hid hRR;have HG:=Lib.hid hG
     have HF:=Lib.hid hfs
     clear hX hH hRR hG hget hfs
     go_wp2
     go_roundw
     case rel=>
      exact⟨m+1,by omega,by go_num,HX.out.other _ _ hgH,(HH.out.set _ _).copy (by rw[Hr,HF.out];rfl),HR.out.other _ _ (by simp),Ip HG.out _ _ (by have:=HRW.out;omega)⟩
     case measure=>simp[intOf];omega
    ·obtain rfl:m=8:=by omega
     have HX:=Lib.hid hX;have HH:=Lib.hid hH;have HR:=Lib.hid hRR;have HG:=Lib.hid hG
     clear hX hH hRR hG
     go_wp2
     go_roundw
     case rel=>exact⟨k+1,by omega,by go_num,HX.out,HH.out.copy (by rw[Nat.mul_succ]),HR.out,HG.out⟩
     case measure=>simp[intOf];omega
  ·obtain rfl:k=4:=by omega
   have KJ:bK wr (R+1) (HC (rX s)) 37:=hH.copy (by rw[show 8*4=32 from rfl,show front (rX s) 32=rX s from FY _ (lT _)])
   have hsz:(Tryz.prog.info? 37).map (·.size)=some (HC (rX s)).size:=by
    rw[eB,show(rX s).length=32 from lT _];kernel_rfl
   have hsz2:(HC (List.replicate 32 0)).size=(HC (rX s)).size:=by rw[eB,eB,show(rX s).length=32 from lT _];rfl
   have HX:=Lib.hid hX;have HH:=Lib.hid KJ;have HR:=Lib.hid hRR;have HG:=Lib.hid hG
   have S1:=Lib.hid hsz;have S2:=Lib.hid hsz2
   clear hX hH KJ hRR hG hsz hsz2
   go_wp2_with (first
    |(refine wpList_load_row rfl 37 _ rfl (R+1) rfl 37 (HC (rX s)) (0,0) _ HH.out Tryz.underlying37 rfl S1.out ?_)
    |(refine wpList_store_row rfl 37 _ _ rfl R (HC (rX s)) rfl rfl 37 (HC (List.replicate 32 0)) HR.out S1.out S2.out (wN _) ?_))
   exact bodyPost_ret (v:=HV (rX s)) (results_cell_row rfl _ _ R _ _ (0,0) _ rfl (HR.out.setRow _) Tryz.underlying37 rfl S1.out) rfl
    ⟨rfl,lZ HG.out _ (.inl (by have:=HRW.out;omega))⟩
end
section
def sb(s:ByteArray):List UInt8:=s.data.toList
theorem rH(s:ByteArray):(sb s).length=s.size:=by simp[sb]
theorem MO(n:Nat):IntKind.u8.wrap (n:Int)=Bt (UInt8.ofNat n):=by
 rw[IntKind.wrap_u8];unfold Bt;rw[UInt8.toNat_ofNat'];rfl
theorem p8(w:World)(e:TypeId)(s:ByteArray):Below w.heap.size w (Lib.bytesWorld w e s):=
 ⟨rfl,rfl,rfl,by rw[Lib.bytesWorld_size];omega,fun k hk=>Lib.bytesWorld_at_old w e s k hk⟩
theorem dL.ofBytes(w:World)(e:TypeId)(s:ByteArray)(hs:s.size≤maxLen):dL (Lib.bytesWorld w e s) (some ⟨w.heap.size,0,none⟩) s.size (sb s):=by
 refine⟨(rH s).symm,by rw[rH];exact hs,.inr ⟨w.heap.size,0,rfl,fun i hi=>?_⟩⟩
 have h1:i<s.size:=by rw[rH]at hi;exact hi
 rw[Nat.zero_add,Lib.bytesWorld_cell w e s i h1]
 congr 2
 unfold Bt sb
 rw[List.getD_eq_getElem?_getD,List.getElem?_eq_getElem (by simpa[sb]using hi)]
 rfl
set_option maxRecDepth 100000 in
set_option maxHeartbeats 2000000 in
theorem CV(h:List UInt8)(hh:h.length=32)(label:ByteArray)(hl:label.size≤maxLen)(a:Option Addr)(len cap:Nat)(L:List (List UInt8))(w:World)(hp:qI w a len L):
  Calls Tryz.prog 23 #[HV h,.string label,.slice a len cap] w fun e w'=>e=.returned (HV (aF h (sb label) L.flatten))∧Below w.heap.size w w':=by
 have hlen:=hp.len_eq
 have hsm:=hp.small
 unfold maxLen at hsm hl
 subst hlen
 have HP:=Lib.hid hp
 clear hp
 unfold HV
 go_enter Tryz.func23,Tryz.ntmps23
 go_wp2_with fail
 refine(SN _).mono ?_
 rintro e w1 ⟨rfl,b1⟩
 have hI1:=((bK.newAt (w:=w) (g:=w.heap.size) (HC h) 37 rfl).alloc (.cells (HC (List.replicate 32 0)) 37)).keep b1
 have YA:=((bK.newAt (w:=w.alloc (.cells (HC h) 37)) (g:=w.heap.size+1) (HC (List.replicate 32 0)) 37 (by simp))).keep b1
 have hB1:=(((Below.refl w.heap.size w).alloc (Nat.le_refl _) (.cells (HC h) 37)).alloc (by simp) (.cells (HC (List.replicate 32 0)) 37)).lift b1 (by simp;omega)
 have hs1:w.heap.size+2≤w1.heap.size:=by have:=b1.size;rw[size_alloc,size_alloc]at this;exact this
 have HI1:=Lib.hid hI1;have HR1:=Lib.hid YA;have HB1:=Lib.hid hB1
 clear hI1 YA hB1 b1
 go_wp2_with fail
 have hX2:=bK.new w1 (C6 iA) 144
 have hI2:=HI1.out.alloc (.cells (C6 iA) 144)
 have hR2:=HR1.out.alloc (.cells (C6 iA) 144)
 have hB2:=HB1.out.alloc (by omega) (.cells (C6 iA) 144)
 have hz2:=size_alloc w1 (.cells (C6 iA) 144)
 clear HI1 HR1 HB1
 generalize w1.alloc (.cells (C6 iA) 144)=w2 at*
 generalize w1.heap.size=g at*
 refine(zA g iA (some ⟨w.heap.size,0,none⟩) 32 32 h w2 hX2 (by decide) (dL.wJ hI2 (by rw[hh];decide) 32 hh.symm) (fun x hx _=>by injection hx with hx;subst hx;simp;omega)).mono ?_
 rintro e w3 ⟨rfl,hX3,hG3⟩
 have YB:=hR2.grown hG3 (by omega)
 have hB3:=below_grown hB2 hG3 (by omega) (by omega)
 have hz3:=hG3.size
 have hwl:=MO label.size
 have HX3:=Lib.hid hX3;have HR3:=Lib.hid YB;have HB3:=Lib.hid hB3;have HZ:=Lib.hid hz2
 clear hX2 hI2 hR2 hB2 hX3 YB hB3 hG3 hz2
 go_wp2_with fail
 have aN6:=uV h iA (by decide)
 have hX4:=HX3.out.alloc (.cells (HC [UInt8.ofNat label.size]) 5)
 have hI4:=bK.new w3 (HC [UInt8.ofNat label.size]) 5
 have hR4:=HR3.out.alloc (.cells (HC [UInt8.ofNat label.size]) 5)
 have hB4:=HB3.out.alloc (by have:=HZ.out;omega) (.cells (HC [UInt8.ofNat label.size]) 5)
 have hz4:=size_alloc w3 (.cells (HC [UInt8.ofNat label.size]) 5)
 have hg3:=HX3.out.lt
 clear HX3 HR3 HB3 HZ hwl
 change Calls _ _ _ (w3.alloc (.cells (HC [UInt8.ofNat label.size]) 5)) _
 generalize w3.alloc (.cells (HC [UInt8.ofNat label.size]) 5)=w4 at*
 generalize w3.heap.size=i4 at*
 refine(zA g _ (some ⟨i4,0,none⟩) 1 1 [UInt8.ofNat label.size] w4 hX4 aN6 (dL.wJ hI4 (by simp[maxLen]) 1 rfl) (fun x hx _=>by injection hx with hx;subst hx;simp;omega)).mono ?_
 rintro e w5 ⟨rfl,YC,hG5⟩
 have bm8:=uV [UInt8.ofNat label.size] _ aN6
 have hR5:=hR4.grown hG5 (by omega)
 have hB5:=below_grown hB4 hG5 (by omega) (by omega)
 have hz5:=hG5.size
 have HX5:=Lib.hid YC;have HR5:=Lib.hid hR5;have HB5:=Lib.hid hB5;have HZ:=Lib.hid hz4;have HA5:=Lib.hid bm8
 clear hX4 hI4 hR4 hB4 YC hR5 hB5 hG5 hz4 aN6 bm8
 have hcv:=Lib.run_convert_string_bytes (P:=Tryz.prog) w5 9 77 5 label Tryz.underlying9 Tryz.underlying77 Tryz.underlying5
 go_wp2_with fail
 have hb6:=p8 w5 5 label
 have hI6:=dL.ofBytes w5 5 label (by unfold maxLen;exact hl)
 clear hcv
 generalize Lib.bytesWorld w5 5 label=w6 at*
 have hX6:=HX5.out.keep hb6
 have hR6:=HR5.out.keep hb6
 have hB6:=HB5.out.lift hb6 (by have:=HZ.out;omega)
 have hg6:=HX5.out.lt
 have hz6:=hb6.size
 generalize grownCap w5 label.size 0 5=cap6
 refine(zA g _ (some ⟨w5.heap.size,0,none⟩) label.size cap6 (sb label) w6 hX6 HA5.out hI6 (fun x hx _=>by injection hx with hx;subst hx;simp;omega)).mono ?_
 rintro e w7 ⟨rfl,YD,hG7⟩
 have bm9:=uV (sb label) _ HA5.out
 have hR7:=hR6.grown hG7 (by omega)
 have hB7:=below_grown hB6 hG7 (by omega) (by have:=HZ.out;omega)
 have hz7:=hG7.size
 have hfin:∀l,rX (takes (takes (takes (takes iA h) [UInt8.ofNat label.size]) (sb label)) l)=aF h (sb label) l:=by
  intro l
  unfold aF xV
  rw[rH,←jA,←jA,←jA]
  congr 2
  simp
 generalize takes (takes (takes iA h) [UInt8.ofNat label.size]) (sb label)=s0 at*
 have hw7:w.heap.size+2≤w7.heap.size:=by have:=HZ.out;omega
 have HX7:=Lib.hid YD;have HR7:=Lib.hid hR7;have HB7:=Lib.hid hB7;have HA7:=Lib.hid bm9;have HF:=Lib.hid hfin
 clear hX6 hR6 hB6 hI6 hb6 YD hR7 hB7 hG7 bm9 hfin HX5 HR5 HB5 HA5 hz3 hg3 hz5 hg6 hz6 hz7 HZ
 go_wp2_with fail
 go_loopw [9,23] (fun _ i wr=>∃k:Nat,k≤L.length∧i=.int .i64 k∧bK wr g (C6 (takes s0 (L.take k).flatten)) 144∧bK wr (w.heap.size+1) (HC (List.replicate 32 0)) 37∧Below w.heap.size w wr) (fun _ i _=>L.length- (intOf i).toNat)
 case atStart=>exact⟨0,Nat.zero_le _,rfl,HX7.out,HR7.out,HB7.out⟩
 case round=>
  obtain⟨k,hk,rfl,hX,hR,hB⟩:=hrel
  clear HX7 HR7 HB7
  have hat:=uV (L.take k).flatten s0 HA7.out
  by_cases hlt:k<L.length
  ·obtain⟨b,off,rfl,a',l',c',hcell,hrow⟩:∃b off,a=some ⟨b,off,none⟩∧∃a' l' c',wr.cell? ⟨b,off+k,none⟩=some (.slice a' l' c')∧dL w a' l' L[k]:=by
    rcases HP.out.cells with h1|⟨b,off,rfl,hc⟩
    ·simp[h1]at hlt
    ·obtain⟨a',l',c',h2,h3⟩:=hc k hlt
     exact⟨b,off,rfl,a',l',c',(hB.cell (block_lt_of_cell h2)).trans h2,h3⟩
   have hlr:=hrow.lt
   have hrow2:=hrow.below hB
   have HX:=Lib.hid hX;have HR:=Lib.hid hR;have HB:=Lib.hid hB
   have HL:=Lib.hid hlr;have HW:=Lib.hid hrow2;have HA:=Lib.hid hat
   clear hX hR hB hrow hlr hrow2 hat
   go_wp2_with fail
   refine(zA g _ a' l' c' L[k] _ HX.out HA.out HW.out (fun x hx hn=>by have:=HL.out x hx hn;omega)).mono ?_
   rintro e w8 ⟨rfl,hX8,hG8⟩
   have hs8:w.heap.size+1<wr.heap.size:=HR.out.lt
   have hR8:=HR.out.grown hG8 (by omega)
   have hB8:=below_grown HB.out hG8 (by omega) (by omega)
   have HX8:=Lib.hid hX8;have HR8:=Lib.hid hR8;have HB8:=Lib.hid hB8
   clear hX8 hR8 hB8 hG8 HX HR HB HL HW HA
   go_wp2
   go_roundw
   case rel=>
    refine⟨k+1,by omega,by go_num,?_,HR8.out,HB8.out⟩
    rw[List.take_succ_eq_append_getElem hlt,List.flatten_append,jA]
    simpa using HX8.out
   case measure=>simp[intOf];omega
  ·have HX:=Lib.hid hX;have HR:=Lib.hid hR;have HB:=Lib.hid hB;have HA:=Lib.hid hat
   have hs8:w.heap.size+1<wr.heap.size:=hR.lt
   clear hX hR hB hat
   go_wp2_with fail
   refine(an4 g _ _ HX.out HA.out).mono ?_
   rintro e w8 ⟨rfl,hG8⟩
   have hR8:=HR.out.grown hG8 (by omega)
   have hB8:=below_grown HB.out hG8 (by omega) (by omega)
   rw[List.take_of_length_le (by omega),HF.out]
   have hlen:(aF h (sb label) L.flatten).length=32:=bM _
   have hsz:(Tryz.prog.info? 37).map (·.size)=some (HC (aF h (sb label) L.flatten)).size:=by
    rw[eB,hlen];kernel_rfl
   have hsz2:(HC (List.replicate 32 0)).size=(HC (aF h (sb label) L.flatten)).size:=by rw[eB,eB,hlen];rfl
   generalize hout:aF h (sb label) L.flatten=out at*
   have HO:=Lib.hid hout;clear hout
   have HR8:=Lib.hid hR8;have HB8:=Lib.hid hB8;have S1:=Lib.hid hsz;have S2:=Lib.hid hsz2
   clear hR8 hB8 hG8 hsz hsz2 hlen HX HR HB HA
   go_wp2_with (refine wpList_store_row rfl 37 _ _ rfl (w.heap.size+1) (HC out) rfl rfl 37 (HC (List.replicate 32 0)) HR8.out S1.out S2.out (wN _) ?_)
   exact bodyPost_ret (v:=HV out) (results_cell_row rfl _ _ (w.heap.size+1) _ _ (0,0) _ rfl (HR8.out.setRow _) Tryz.underlying37 rfl S1.out) rfl
    ⟨by rw[HO.out];rfl,below_setRow HB8.out _ (by omega)⟩
theorem Kj(s:ByteArray)(hs:s.size≤maxLen)(a:Option Addr)(len cap:Nat)(L:List (List UInt8))(w:World)(hp:qI w a len L):
  Calls Tryz.prog 23 #[.agg bU,.string s,.slice a len cap] w fun e w'=>e=.returned (HV (aF (List.replicate 32 0) (sb s) L.flatten))∧Below w.heap.size w w':=by
 rw[xZ]
 exact CV (List.replicate 32 0) rfl s hs a len cap L w hp
end
section
def wM(P:List UInt8)(p:Nat):Nat→BitVec 64
 |0=>0
 |j+1=>(wM P p j<<<8)|||w8 (P[p+j]?.getD 0)
def rD(P:List UInt8):Nat→W5
 |0=>jw ⟨32,0,0,0,0⟩
 |k+1=>jw { rD P k with a:=(rD P k).a^^^wM P (8*k) 8 }
theorem aQ3(x:BitVec 64)(c:UInt8):(x<<<8)|||w8 c=(x<<<8)^^^w8 c:=by
 apply BitVec.eq_of_getLsbD_eq
 intro i hi
 rw[BitVec.getLsbD_or,BitVec.getLsbD_xor]
 by_cases h:i<8
 ·have:(x<<<8).getLsbD i=false:=by simp[h]
  rw[this];simp
 ·have:(w8 c).getLsbD i=false:=by
   unfold w8
   rw[BitVec.getLsbD_ofNat]
   have h1:=c.toNat_lt
   have h2:c.toNat<2^i:=Nat.lt_of_lt_of_le (by omega:c.toNat<2^8) (Nat.pow_le_pow_right (by decide) (by omega))
   rw[Nat.testBit_lt_two_pow h2,Bool.and_false]
  rw[this];simp
theorem bq0(P:List UInt8)(p:Nat):wM P p 8=(w8 (P[p]?.getD 0)<<<56)^^^(w8 (P[p+1]?.getD 0)<<<48)^^^(w8 (P[p+2]?.getD 0)<<<40)^^^(w8 (P[p+3]?.getD 0)<<<32)^^^
  (w8 (P[p+4]?.getD 0)<<<24)^^^(w8 (P[p+5]?.getD 0)<<<16)^^^(w8 (P[p+6]?.getD 0)<<<8)^^^w8 (P[p+7]?.getD 0):=by
 have hs:∀j,wM P p (j+1)=(wM P p j<<<8)^^^w8 (P[p+j]?.getD 0):=fun j=>aQ3 _ _
 have h0:wM P p 0=0#64:=rfl
 rw[hs 7,hs 6,hs 5,hs 4,hs 3,hs 2,hs 1,hs 0,h0,Nat.add_zero]
 simp only[BitVec.shiftLeft_xor_distrib,←BitVec.shiftLeft_add,BitVec.zero_shiftLeft,BitVec.zero_xor]
theorem ME(P:List UInt8)(p:Nat)(x:W5)(h:p+8≤P.length):takes ⟨x,0⟩ ((P.drop p).take 8)=⟨jw { x with a:=x.a^^^wM P p 8 },0⟩:=by
 have e:(P.drop p).take 8=[P[p]?.getD 0,P[p+1]?.getD 0,P[p+2]?.getD 0,P[p+3]?.getD 0,P[p+4]?.getD 0,P[p+5]?.getD 0,P[p+6]?.getD 0,P[p+7]?.getD 0]:=by
  apply List.ext_getElem?
  intro i
  by_cases hi:i<8
  ·rw[List.getElem?_take_of_lt hi,List.getElem?_drop]
   have hg:∀j,j<8→P[p+j]?=some (P[p+j]?.getD 0):=by
    intro j hj;rw[List.getElem?_eq_getElem (by omega)];rfl
   match i,hi with
   |0,_=>exact hg 0 (by decide)
   |1,_=>exact hg 1 (by decide)
   |2,_=>exact hg 2 (by decide)
   |3,_=>exact hg 3 (by decide)
   |4,_=>exact hg 4 (by decide)
   |5,_=>exact hg 5 (by decide)
   |6,_=>exact hg 6 (by decide)
   |7,_=>exact hg 7 (by decide)
   |n+8,h8=>omega
  ·rw[List.getElem?_take,if_neg hi,List.getElem?_eq_none (by simp;omega)]
 rw[e,bq0]
 simp only[takes,List.foldl,takeB]
 simp[BitVec.xor_assoc]
theorem zC(P:List UInt8):∀k,8*k≤P.length→takes iA (P.take (8*k))=⟨rD P k,0⟩
 |0,_=>rfl
 |k+1,h=>by
  have e:P.take (8*(k+1))=P.take (8*k)++(P.drop (8*k)).take 8:=by
   rw[show 8*(k+1)=8*k+8 by omega,List.take_add]
  rw[e,jA,zC P k (by omega),ME P (8*k) _ (by omega)]
  rfl
theorem ay1:w8 0=0#64:=by decide
theorem P8(x:W5)(a:Nat):takeB ⟨x,a⟩ 0=if a=7 then⟨jw x,0⟩else⟨x,a+1⟩:=by
 unfold takeB
 simp only[ay1,BitVec.zero_shiftLeft,BitVec.xor_zero]
theorem Bo:∀(n:Nat) (x:W5) (a:Nat),a+n=8→0<n→takes ⟨x,a⟩ (List.replicate n 0)=⟨jw x,0⟩
 |0,_,_,_,h=>by omega
 |n+1,x,a,h,_=>by
  rw[List.replicate_succ]
  show takes (takeB ⟨x,a⟩ 0) (List.replicate n 0)=_
  rw[P8]
  by_cases h7:a=7
  ·have:n=0:=by omega
   subst this
   rw[if_pos h7];rfl
  ·rw[if_neg h7]
   exact Bo n x (a+1) (by omega) (by omega)
theorem JA(l:List UInt8):∀s:Sp,s.at_≤7→(takes s l).at_=(s.at_+l.length)%8:=by
 induction l with
 |nil=>intro s h;show s.at_=(s.at_+0)%8;omega
 |cons c l ih=>
  intro s h
  show(takes (takeB s c) l).at_=_
  rw[ih _ (MC s c h)]
  have e:(takeB s c).at_=(s.at_+1)%8:=by
   unfold takeB
   by_cases h7:s.at_=7
   ·simp[h7]
   ·simp[h7];omega
  rw[e,List.length_cons]
  omega
theorem aa7(l:List UInt8)(n K:Nat)(h:l.length+1+n=8*K)(hn:n≤7):rD (l++[128]++List.replicate n 0) K=lU 1 (nL (takes iA l)):=by
 have h1:=zC (l++[128]++List.replicate n 0) K (by simp;omega)
 rw[List.take_of_length_le (by simp;omega),jA,jA]at h1
 have hat:=JA l iA (by decide)
 generalize hs:takes iA l=s at*
 have ha:s.at_+n=7:=by
  have:iA.at_=0:=rfl
  rw[this]at hat
  omega
 have e:takes s [128]=takeB s 128:=rfl
 have hl:(⟨(nL s),s.at_+1⟩:Sp)=⟨{ s.x with a:=s.x.a^^^(w8 128<<<(56-8*s.at_)) },s.at_+1⟩:=by
  unfold nL;rw[show w8 128=0x80#64 by decide]
 rw[e]at h1
 unfold takeB at h1
 by_cases h7:s.at_=7
 ·have:n=0:=by omega
  subst this
  rw[if_pos h7]at h1
  have h2:jw { s.x with a:=s.x.a^^^(w8 128<<<(56-8*s.at_)) }=rD (l++[128]++List.replicate 0 0) K:=congrArg Sp.x h1
  rw[←h2]
  show _=jw (nL s)
  unfold nL;rw[show w8 128=0x80#64 by decide]
 ·rw[if_neg h7,←hl,Bo n _ _ (by omega) (by omega)]at h1
  exact(congrArg Sp.x h1).symm
end
section
theorem au0(x:W5)(i:Nat)(hi:i<32):(outs x)[i]?=some (rU (lU (i / 8+1) x).a (i%8)):=by
 unfold outs
 rw[List.getElem?_map,List.getElem?_range hi]
 rfl
theorem rturn_32(w:World):Calls Tryz.prog 173 #[.agg #[.int .u64 32,.int .u64 0,.int .u64 0,.int .u64 0,.int .u64 0]] w fun e w'=>e=.returned (V5 (jw ⟨32,0,0,0,0⟩))∧Below w.heap.size w w':=
 Ao ⟨32,0,0,0,0⟩ w
theorem UW(P:List UInt8):rD P 0=jw ⟨32,0,0,0,0⟩:=rfl
def lenOf:Value→Nat| .slice _ l _=>l|_=>0
def padded(l:List UInt8)(n:Nat):List UInt8:=l++[128]++List.replicate n 0
theorem nG(l:List UInt8)(n:Nat):(padded l n).length=l.length+1+n:=by simp[padded];omega
theorem LB(l:List UInt8)(n:Nat):padded l n++[0]=padded l (n+1):=by
 unfold padded;rw[List.append_assoc,List.replicate_succ']
theorem LC(l:List UInt8):padded l 0=l++[128]:=by simp[padded]
attribute [local go_sem] Cw az6 Wy
set_option maxRecDepth 100000 in
set_option maxHeartbeats 4000000 in
theorem ac3 (a : Option Addr) (len cap : Nat) (bs : List UInt8) (w : World) (hp : dL w a len bs) (hnil : a = none → cap = 0) (hbs : bs.length ≤ 140737488355000) :
    Calls Tryz.prog 111 #[.slice a len cap] w fun e w' => e = .returned (HV (xV bs)) ∧ Below w.heap.size w w' := by
  have hlen := hp.len_eq
  subst hlen
  have HP := Lib.hid hp; have bt7 := Lib.hid hnil
  clear hp hnil
  go_enter Tryz.func111, Tryz.ntmps111
  go_wp2_with (first
    | (at_builtin
       refine eO rfl (.tmp 10) (.tmp 11) 77 rfl (w.heap.size + 1) 5 Tryz.underlying77 info8 (.slice (some ⟨w.heap.size + 1, 0, none⟩) 0 0) [] rfl ?c1 _ _ _ bs rfl ?c2 ?c3 ?c4 ?c5 ?_
       case c1 => exact gP.rC [] _ rfl (by simp) rfl (by simp) (EG _ (by simp))
       case c2 => exact HP.out.below (((Below.refl _ _).alloc (Nat.le_refl _) _).alloc (by simp) _)
       case c3 => exact bt7.out
       case c4 => simp; omega
       case c5 => simp
       intro v1 w1 hown1 hg1 hb1
       have hsz1 := hg1.size
       have HO1 := Lib.hid hown1; have HB1 := Lib.hid hb1
       clear hown1 hg1 hb1)
    | (at_builtin
       refine eO rfl (.tmp 12) (.tmp 13) 77 rfl (w.heap.size + 1) 5 Tryz.underlying77 info8 v1 bs rfl ?d1 _ _ _ [128] rfl ?d2 ?d3 ?d4 ?d5 ?_
       case d1 => exact HO1.out.below ((Below.refl _ _).alloc (Nat.le_refl _) _)
       case d2 => exact dL.rC [128] _ rfl rfl rfl (EG _ (by simp))
       case d3 => exact fun e => by cases e
       case d4 => simp; omega
       case d5 => simp at hsz1 ⊢; omega
       intro v2 w2 hown2 hg2 hb2
       have hsz2 := hg2.size
       have HO2 := Lib.hid hown2; have HB2 := Lib.hid hb2
       clear hown2 hg2 hb2))
  have hz0 : w.heap.size + 2 ≤ w1.heap.size := by simp at hsz1; omega
  have hb1 := (((Below.refl (w.heap.size + 1) _).alloc (by simp) _).trans HB1.out)
  have hb2 := (hb1.alloc (by omega) _).trans HB2.out
  have hR2 := ((bK.newAt (w := w) (g := w.heap.size) _ 37 rfl).copy (cs' := HC (List.replicate 32 0)) (by rfl)).below hb2 (by omega)
  have hB2 := ((Below.refl w.heap.size w).alloc (Nat.le_refl _) _).lift hb2 (by omega)
  have hz2 : w.heap.size + 3 ≤ w2.heap.size := by simp at hsz2; omega
  have HR := Lib.hid hR2; have HB := Lib.hid hB2
  clear hb1 hb2 hR2 hB2 HB1 HB2 HO1 hsz1 hsz2 hz0
  obtain ⟨g2, cap2, rfl, bx3, bx4, bw3, bw4⟩ := HO2.out.ap5 (bs.length + 1) (by simp) (by omega)
  go_loopw [3] (fun b wr => ∃ (n N g cp : Nat), b = .slice (some ⟨g, 0, none⟩) N cp ∧ N = bs.length + 1 + n ∧ n ≤ (8 - (bs.length + 1) % 8) % 8 ∧ gP wr (w.heap.size + 1) 5 b (padded bs n) ∧
      bK wr w.heap.size (HC (List.replicate 32 0)) 37 ∧ Below w.heap.size w wr ∧ w.heap.size + 3 ≤ wr.heap.size) (fun b _ => bs.length + 9 - lenOf b)
  case atStart => exact ⟨0, bs.length + 1, g2, cap2, by simp, by omega, by omega, by rw [LC]; exact HO2.out, HR.out, HB.out, hz2⟩
  case round =>
    obtain ⟨n, N, g, cp, rfl, hN, hn, hO, hR, hB, hz⟩ := hrel
    clear HO2 HR HB hz2 bx3 bx4 bw3 bw4
    have HN := Lib.hid hN
    by_cases h8 : N % 8 = 0
    · have ht : (((N : Nat) : Int) % 8 != 0) = false := by simp; omega
      have HO := Lib.hid hO; have HR := Lib.hid hR; have HB := Lib.hid hB; have H8 := Lib.hid h8
      clear hO hR hB h8 hN
      go_wp2_with fail
      refine (rturn_32 _).mono ?_
      rintro e w3 ⟨rfl, b3⟩
      have aO3 := UW (padded bs n)
      generalize jw ⟨32, 0, 0, 0, 0⟩ = z00 at aO3 ⊢
      have hO3 := HO.out.below b3
      have YB := HR.out.keep b3
      have hB3 := HB.out.lift b3 (by omega)
      have hz3 := b3.size
      have hK : ∃ K, N = 8 * K := ⟨N / 8, by have := H8.out; omega⟩
      obtain ⟨K, hK⟩ := hK
      have hNb : N ≤ 140737488355010 := by have := HN.out; omega
      have hn7 : n ≤ 7 := by omega
      have hsum : lU 1 (nL (takes iA bs)) = rD (padded bs n) K := (aa7 bs n K (by have := HN.out; omega) hn7).symm
      have bu3 := Lib.hid aO3; clear aO3
      have hP : (padded bs n).length = N := by rw [nG]; have := HN.out; omega
      generalize padded bs n = P at *
      have Ng := Lib.hid hO3; have HR3 := Lib.hid YB; have HB3 := Lib.hid hB3; have HS := Lib.hid hsum; have HK := Lib.hid hK; have HP3 := Lib.hid hP
      clear hO3 YB hB3 hsum hK hP HO HR HB b3 H8 HN ht
      go_wp2_with fail
      have hgX : g < w3.heap.size := (World.ownsRow.lt Ng.out g rfl).2
      refine xY (fun w4 hw4 => ?_)
      have hX4 : bK w4 w3.heap.size (C5 (rD P 0)) 142 := by rw [hw4, bu3.out]; exact bK.new _ _ _
      have hO4 : gP w4 (w.heap.size + 1) 5 (.slice (some ⟨g, 0, none⟩) N cp) P := by rw [hw4]; exact World.ownsRow.alloc Ng.out _
      have hR4 : bK w4 w.heap.size (HC (List.replicate 32 0)) 37 := by rw [hw4]; exact HR3.out.alloc _
      have hB4 : Below w.heap.size w w4 := by rw [hw4]; exact HB3.out.alloc (by omega) _
      have hz4 : w.heap.size + 3 ≤ w3.heap.size := by omega
      clear hw4 Ng HR3 HB3
      generalize w3.heap.size = X at *
      have HX := Lib.hid hX4; have HO := Lib.hid hO4; have HR := Lib.hid hR4; have HB := Lib.hid hB4
      clear hX4 hO4 hR4 hB4
      go_loopw [5, 6, 7] (fun i _ _ wr => ∃ k : Nat, 8 * k ≤ N ∧ i = .int .i64 (8 * (k : Int)) ∧ bK wr X (C5 (rD P k)) 142 ∧ gP wr (w.heap.size + 1) 5 (.slice (some ⟨g, 0, none⟩) N cp) P ∧
          bK wr w.heap.size (HC (List.replicate 32 0)) 37 ∧ Below w.heap.size w wr) (fun i _ _ _ => N - (intOf i).toNat)
      case atStart => exact ⟨0, by omega, by simp, HX.out, HO.out, HR.out, HB.out⟩
      case round =>
        obtain ⟨k, hk, rfl, hX, hO, hR, hB⟩ := hrel
        clear HX HO HR HB
        have hzX := hX.lt
        by_cases hlt : 8 * k < N
        · have hle : 8 * k + 8 ≤ N := by have := HK.out; omega
          have hrow := gP.row hO (by rw [HP3.out]; simp only [maxLen]; omega) HP3.out.symm
          have hcell : ∀ j, j < 8 → ∃ c : UInt8, P[8 * k + j]? = some c ∧ wr.cell? ⟨g, 8 * k + j, none⟩ = some (.int .u8 (Bt c)) := by
            intro j hj
            rcases hrow.cells with h1 | ⟨b, off, h1, h2⟩
            · exfalso; have := HP3.out; rw [h1] at this; simp at this; omega
            · injection h1 with h1
              injection h1 with h1 h3
              subst h1 h3
              have hi : 8 * k + j < P.length := by rw [HP3.out]; omega
              exact ⟨P[8 * k + j], List.getElem?_eq_getElem hi, by have := h2 (8 * k + j) hi; rwa [Nat.zero_add] at this⟩
          have HX := Lib.hid hX; have HO := Lib.hid hO; have HR := Lib.hid hR; have HB := Lib.hid hB; have HC0 := Lib.hid hcell
          clear hX hO hR hB hrow hcell
          go_wp2_with fail
          go_loop [6, 7] (fun x j => ∃ m : Nat, m ≤ 8 ∧ j = .int .i64 m ∧ x = .int .u64 (U (wM P (8 * k) m))) (fun _ j => 8 - (intOf j).toNat)
          case atStart => exact ⟨0, by omega, rfl, rfl⟩
          case round =>
            obtain ⟨m, hm, rfl, rfl⟩ := hrel
            by_cases aO1 : m < 8
            · obtain ⟨c, hPc, hcell⟩ := HC0.out m aO1
              have hw8 : IntKind.u64.wrap (Bt c) = Bt c := IntWalk.u64_in _ (by have := QD c; omega)
              have HPC := Lib.hid hPc; clear hPc
              go_wp2
              go_round
              case rel => exact ⟨m + 1, by omega, by go_num, by show _ = Value.int .u64 (U ((wM P (8 * k) m <<< 8) ||| w8 (P[8 * k + m]?.getD 0))); rw [HPC.out]; rfl⟩
              case measure => simp [intOf]; omega
            · obtain rfl : m = 8 := by omega
              obtain ⟨c0, c1, c2, c3, c4⟩ := HX.out.five
              have f := HX.out.frozen
              generalize hw8 : wM P (8 * k) 8 = wd
              have HWD := Lib.hid hw8; clear hw8
              go_wp2_with fail
              refine (Ao { rD P k with a := (rD P k).a ^^^ wd } _).mono ?_
              rintro e w5 ⟨rfl, b5⟩
              have hr5 : rD P (k + 1) = jw { rD P k with a := (rD P k).a ^^^ wd } := by rw [← HWD.out]; rfl
              have YC := (HX.out.set 0 (.int .u64 (U ((rD P k).a ^^^ wd)))).keep b5
              have hg1 : wr.grownBy (wr.setCell ⟨X, 0, none⟩ (.int .u64 (U ((rD P k).a ^^^ wd)))) (some X) := aS (fE _ _) _ _
              have hO5 := (gP.kept HO.out hg1 (.inr (by simp [Value.ownBlock]; omega))).below b5
              have hR5 := (HR.out.other ⟨X, 0, none⟩ (.int .u64 (U ((rD P k).a ^^^ wd))) (by simp; omega)).keep b5
              have hB5 := (HB.out.setCell (p := ⟨X, 0, none⟩) (by simp; omega) (.int .u64 (U ((rD P k).a ^^^ wd)))).lift b5 (by simp; omega)
              generalize jw { rD P k with a := (rD P k).a ^^^ wd } = z at *
              have f5 := YC.frozen
              have d0 := YC.cell 0
              have d1 := YC.cell 1
              have d2 := YC.cell 2
              have d3 := YC.cell 3
              have d4 := YC.cell 4
              simp at d0 d1 d2 d3 d4
              have HX5 := Lib.hid YC; have HO5 := Lib.hid hO5; have HR5 := Lib.hid hR5; have HB5 := Lib.hid hB5; have HR6 := Lib.hid hr5
              clear YC hO5 hR5 hB5 hr5 hg1 b5 HX HO HR HB HC0 c0 c1 c2 c3 c4 f HWD
              go_wp2
              go_roundw
              case rel =>
                have gs : w5.grownBy (((((w5.setCell ⟨X, 0, none⟩ (.int .u64 (U z.a))).setCell ⟨X, 1, none⟩ (.int .u64 (U z.b))).setCell ⟨X, 2, none⟩ (.int .u64 (U z.c))).setCell ⟨X, 3, none⟩ (.int .u64 (U z.d))).setCell ⟨X, 4, none⟩ (.int .u64 (U z.e))) (some X) :=
                  aS (aS (aS (aS (aS (fE _ _) _ _) _ _) _ _) _ _) _ _
                refine ⟨k + 1, by omega, by go_num, ?_, gP.kept HO5.out gs (.inr (by simp [Value.ownBlock]; omega)), HR5.out.Il (by omega) _ _ _ _ _, mK HB5.out (by omega) _ _ _ _ _⟩
                rw [HR6.out]
                exact (((((HX5.out.set 0 _).set 1 _).set 2 _).set 3 _).set 4 _).copy (by simp)
              case measure => simp [intOf]; omega
        · have hkK : k = K := by have := HK.out; omega
          subst hkK
          have HX := Lib.hid hX; have HR := Lib.hid hR; have HB := Lib.hid hB
          clear hX hO hR hB
          go_wp2_with (refine wpList_store_row rfl 37 _ _ rfl wr.heap.size bU rfl rfl 37 bU (bK.newAt _ _ rfl) M0 rfl zone ?_)
          refine xY (fun w6 hw6 => ?_)
          have hX6 : bK w6 X (C5 (lU (0 / 8 + 1) (nL (takes iA bs)))) 142 := by
            rw [hw6, show 0 / 8 + 1 = 1 from rfl, HS.out]; exact (HX.out.alloc _).Ea _ (by omega)
          have hR6 : bK w6 w.heap.size (HC (List.replicate 32 0)) 37 := by
            rw [hw6]; exact (HR.out.alloc _).Ea _ (by omega)
          have hB6 : Below w.heap.size w w6 := by
            rw [hw6]; exact below_setRow (HB.out.alloc (by omega) _) _ (by omega)
          have hH6 : bK w6 wr.heap.size (HC (front (xV bs) 0)) 37 := by
            rw [hw6]; exact ((bK.new _ _ _).setRow bU).copy (by rw [Dm, xZ])
          clear hw6 HX HR HB
          have hXH : X ≠ wr.heap.size := by omega
          generalize wr.heap.size = H at *
          have HX := Lib.hid hX6; have HR := Lib.hid hR6; have HB := Lib.hid hB6; have HH := Lib.hid hH6
          clear hX6 hR6 hB6 hH6
          generalize hL : nL (takes iA bs) = L at *
          have aE6 : xV bs = outs L := by unfold xV rX; rw [hL]
          have HL := Lib.hid hL; have HSL := Lib.hid aE6
          clear hL aE6
          go_loopw [9] (fun i wr => ∃ q : Nat, q ≤ 32 ∧ i = .int .i64 q ∧ bK wr X (C5 (lU (q / 8 + 1) L)) 142 ∧ bK wr H (HC (front (xV bs) q)) 37 ∧
              bK wr w.heap.size (HC (List.replicate 32 0)) 37 ∧ Below w.heap.size w wr) (fun i _ => 32 - (intOf i).toNat)
          case atStart => exact ⟨0, by omega, rfl, HX.out, HH.out, HR.out, HB.out⟩
          case round =>
            obtain ⟨q, hq, rfl, hX, hH, hR, hB⟩ := hrel
            clear HX HH HR HB
            have hzH := hH.lt
            by_cases hlt : q < 32
            · obtain ⟨m, hm⟩ : ∃ m : Nat, m = q % 8 := ⟨_, rfl⟩
              have hm7 : m ≤ 7 := by omega
              have hqm : ((q : Nat) : Int) % 8 = (m : Int) := by omega
              obtain ⟨s1, s2, s3, s4, s5⟩ := qF m hm7
              have hget := au0 L q hlt
              rw [← hm] at hget
              have hfs := FZ (xV bs) q (bM _) hlt _ (by rw [HSL.out]; exact hget)
              obtain ⟨ov, hov⟩ := CG hH (bM _) hlt
              have fH := hH.frozen
              generalize hy : lU (q / 8 + 1) L = y at *
              have hwb := Bq y.a m
              have hw64 : IntKind.u64.wrap (56 - 8 * (m : Int)) = 56 - 8 * (m : Int) := IntWalk.u64_in _ (by omega)
              obtain ⟨c0, c1, c2, c3, c4⟩ := hX.five
              have HX := Lib.hid hX; have HH := Lib.hid hH; have HR := Lib.hid hR; have HB := Lib.hid hB
              have HF := Lib.hid hfs; have HY := Lib.hid hy; have HM := Lib.hid hm
              clear hX hH hR hB hfs hy hm hget
              by_cases h7 : m = 7
              · have ht7 : ((m : Int) == 7) = true := by rw [h7]; rfl
                have H7 := Lib.hid h7; clear h7
                go_wp2_with fail
                refine (Ao y _).mono ?_
                rintro e w7 ⟨rfl, b7⟩
                have YD := (HX.out.other ⟨H, q, none⟩ (.int .u8 (Bt (rU y.a m))) hXH).keep b7
                have hH7 := ((HH.out.set q (.int .u8 (Bt (rU y.a m)))).keep b7).copy (cs' := HC (front (xV bs) (q + 1))) (by rw [Hr, HF.out])
                have hR7 := (HR.out.other ⟨H, q, none⟩ (.int .u8 (Bt (rU y.a m))) (by simp; omega)).keep b7
                have hB7 := (HB.out.setCell (p := ⟨H, q, none⟩) (by simp; omega) (.int .u8 (Bt (rU y.a m)))).lift b7 (by simp; omega)
                have hy7 : lU ((q + 1) / 8 + 1) L = jw y := by
                  have := HM.out; have := H7.out
                  rw [show (q + 1) / 8 + 1 = (q / 8 + 1) + 1 by omega]
                  show jw (lU (q / 8 + 1) L) = _
                  rw [HY.out]
                generalize jw y = z at *
                have f7 := YD.frozen
                have d0 := YD.cell 0
                have d1 := YD.cell 1
                have d2 := YD.cell 2
                have d3 := YD.cell 3
                have d4 := YD.cell 4
                simp at d0 d1 d2 d3 d4
                have HX7 := Lib.hid YD; have HH7 := Lib.hid hH7; have HR7 := Lib.hid hR7; have HB7 := Lib.hid hB7; have HY7 := Lib.hid hy7
                clear YD hH7 hR7 hB7 hy7 b7 HX HH HR HB HF HY HM H7 c0 c1 c2 c3 c4 fH hov hwb s1 s2 s3 s4 s5 hw64
                go_wp2
                go_roundw
                case rel =>
                  refine ⟨q + 1, by omega, by go_num, ?_, HH7.out.Il (Ne.symm hXH) _ _ _ _ _, HR7.out.Il (by omega) _ _ _ _ _, mK HB7.out (by omega) _ _ _ _ _⟩
                  rw [HY7.out]
                  exact (((((HX7.out.set 0 _).set 1 _).set 2 _).set 3 _).set 4 _).copy (by simp)
                case measure => simp [intOf]; omega
              · have ht7 : ((m : Int) == 7) = false := by rw [beq_eq_false_iff_ne]; omega
                have H7 := Lib.hid h7; clear h7
                go_wp2
                go_roundw
                case rel =>
                  refine ⟨q + 1, by omega, by go_num, ?_, (HH.out.set _ _).copy (by rw [Hr, HF.out]), HR.out.other _ _ (by simp; omega), HB.out.setCell (by simp; omega) _⟩
                  have hy7 : lU ((q + 1) / 8 + 1) L = y := by
                    have := HM.out; have := H7.out
                    rw [show (q + 1) / 8 + 1 = q / 8 + 1 by omega]
                    exact HY.out
                  rw [hy7]
                  exact HX.out.other _ _ hXH
                case measure => simp [intOf]; omega
            · obtain rfl : q = 32 := by omega
              have KJ : bK wr H (HC (xV bs)) 37 := hH.copy (by rw [FY _ (bM _)])
              have hsz : (Tryz.prog.info? 37).map (·.size) = some (HC (xV bs)).size := by rw [eB, bM]; kernel_rfl
              have hsz2 : (HC (List.replicate 32 0)).size = (HC (xV bs)).size := by rw [eB, eB, bM]; rfl
              generalize hout : xV bs = out at *
              have HO := Lib.hid hout
              have HH := Lib.hid KJ; have HR := Lib.hid hR; have HB := Lib.hid hB; have S1 := Lib.hid hsz; have S2 := Lib.hid hsz2
              clear hX hH KJ hR hB hsz hsz2 hout
              go_wp2_with (first
                | (refine wpList_load_row rfl 37 _ rfl H rfl 37 (HC out) (0, 0) _ HH.out Tryz.underlying37 rfl S1.out ?_)
                | (refine wpList_store_row rfl 37 _ _ rfl w.heap.size (HC out) rfl rfl 37 (HC (List.replicate 32 0)) HR.out S1.out S2.out (wN _) ?_))
              exact bodyPost_ret (v := HV out) (results_cell_row rfl _ _ w.heap.size _ _ (0, 0) _ rfl (HR.out.setRow _) Tryz.underlying37 rfl S1.out) rfl
                ⟨by rw [HO.out], below_setRow HB.out _ (Nat.le_refl _)⟩
    · have ht : (((N : Nat) : Int) % 8 != 0) = true := by simp; omega
      have HO := Lib.hid hO; have HR := Lib.hid hR; have HB := Lib.hid hB; have H8 := Lib.hid h8
      clear hO hR hB h8 hN
      go_wp2_with (at_builtin
                   refine eO rfl (.tmp 19) (.tmp 20) 77 rfl (w.heap.size + 1) 5 Tryz.underlying77 info8 (.slice (some ⟨g, 0, none⟩) N cp) (padded bs n) rfl ?e1 _ _ _ [0] rfl ?e2 ?e3 ?e4 ?e5 ?_
                   case e1 => exact HO.out.below ((Below.refl _ _).alloc (Nat.le_refl _) _)
                   case e2 => exact dL.rC [0] _ rfl rfl rfl (EG _ (by simp))
                   case e3 => exact fun e => by cases e
                   case e4 => rw [nG]; simp; omega
                   case e5 => simp; omega
                   intro v3 w3 hown3 hg3 hb3
                   have by9 := hg3.size
                   have Ng := Lib.hid hown3; have HB3 := Lib.hid hb3
                   clear hown3 hg3 hb3)
      go_roundw
      case rel =>
        obtain ⟨g3, aV4, rfl, bx5, bx6, bw5, bw6⟩ := Ng.out.ap5 (N + 1) (by simp [nG]; have := HN.out; omega) (by omega)
        refine ⟨n + 1, N + 1, g3, aV4, rfl, by have := HN.out; omega, by have := HN.out; have := H8.out; omega, ?_, (HR.out.alloc _).below HB3.out (by omega), (HB.out.alloc (by omega) _).lift HB3.out (by omega), ?_⟩
        · rw [← LB]; exact Ng.out
        · simp at by9; omega
      case measure =>
        obtain ⟨g3, aV4, rfl, bx5, bx6, bw5, bw6⟩ := Ng.out.ap5 (N + 1) (by simp [nG]; have := HN.out; omega) (by omega)
        have := HN.out; have := H8.out
        simp [lenOf]
        omega
end
section
set_option maxRecDepth 100000 in
set_option maxHeartbeats 2000000 in
theorem Bf (key : List UInt8) (hh : key.length = 32) (s : ByteArray) (a : Option Addr) (l c : Nat) (bs : List UInt8) (w : World) (hp : dL w a l bs) (hnil : a = none → c = 0) (hs : s.size + bs.length ≤ 140737488354000) :
    Calls Tryz.prog 50 #[HV key, .string s, .slice a l c] w fun e w' => e = .returned (HV (aF key (sb s) bs)) ∧ Below w.heap.size w w' := by
  have hsm : s.size ≤ maxLen := by simp only [maxLen]; omega
  have hsl := rH s
  obtain ⟨out, hout⟩ : ∃ out, aF key (sb s) bs = out := ⟨_, rfl⟩
  have hol : out.length = 32 := by rw [← hout]; exact bM _
  have hsz : (Tryz.prog.info? 37).map (·.size) = some (HC out).size := by rw [eB, hol]; kernel_rfl
  have hsz2 : bU.size = (HC out).size := by rw [eB, hol]; rfl
  have hwl := MO s.size
  have HP := Lib.hid hp; have HN := Lib.hid hnil; have HO := Lib.hid hout; have S1 := Lib.hid hsz; have S2 := Lib.hid hsz2; have HSM := Lib.hid hsm; have HSL := Lib.hid hsl; have HH := Lib.hid hh; have HS := Lib.hid hs
  clear hp hnil hout hsz hsz2 hsm hsl hh hs hol
  unfold HV
  go_enter Tryz.func50, Tryz.ntmps50
  have kc := fun w' => Lib.run_convert_string_bytes (P := Tryz.prog) w' 9 77 5 s Tryz.underlying9 Tryz.underlying77 Tryz.underlying5
  go_wp2_with (first
    | (at_builtin
       refine eO rfl (.tmp 8) (.tmp 9) 77 rfl (w.heap.size + 2) 5 Tryz.underlying77 info8 (.slice (some ⟨w.heap.size + 2, 0, none⟩) 0 0) [] rfl ?c1 _ _ _ key rfl ?c2 ?c3 ?c4 ?c5 ?_
       case c1 => exact gP.rC [] _ rfl (by simp) rfl (by simp) (EG _ (by simp))
       case c2 => exact dL.wJ (t := 37) (((bK.new w _ _).alloc _).alloc _) (by rw [HH.out]; decide) 32 HH.out.symm
       case c3 => exact fun e => by cases e
       case c4 => rw [HH.out]; decide
       case c5 => simp
       intro v1 w1 hown1 hg1 hb1
       have YA : bK w1 (w.heap.size + 1) bU 37 := (((bK.newAt (w := w.alloc _) bU 37 (by simp)).alloc _)).below hb1 (by omega)
       have hB1 : Below w.heap.size w w1 := ((((Below.refl _ _).next (Nat.le_refl _) _).next (Nat.le_refl _) _).next (Nat.le_refl _) _).trans (hb1.mono (by omega))
       have hz1 : w.heap.size + 2 ≤ w1.heap.size := by have := hg1.size; simp at this; omega
       have HO1 := Lib.hid hown1; have HR1 := Lib.hid YA; have HB1 := Lib.hid hB1; have HZ1 := Lib.hid hz1
       clear hown1 hg1 hb1 YA hB1 hz1)
    | (at_builtin
       refine eO rfl (.tmp 10) (.tmp 14) 77 rfl (w.heap.size + 2) 5 Tryz.underlying77 info8 v1 ([] ++ key) rfl ?d1 _ _ _ [UInt8.ofNat s.size] rfl ?d2 ?d3 ?d4 ?d5 ?_
       case d1 => exact HO1.out.below ((Below.refl _ _).next (Nat.le_refl _) _)
       case d2 => exact dL.rC [UInt8.ofNat s.size] _ rfl rfl rfl (EG _ (by simp))
       case d3 => exact fun e => by cases e
       case d4 => simp [HH.out]
       case d5 => have := HZ1.out; simp; omega
       intro v2 w2 hown2 hg2 hb2
       have hR2 : bK w2 (w.heap.size + 1) bU 37 := (HR1.out.alloc _).below hb2 (by omega)
       have hB2 : Below w.heap.size w w2 := (HB1.out.next (Nat.le_refl _) _).trans (hb2.mono (by omega))
       have hz2 : w.heap.size + 2 ≤ w2.heap.size := by have h1 := hg2.size; rw [size_alloc] at h1; have := HZ1.out; omega
       have HO2 := Lib.hid hown2; have HR2 := Lib.hid hR2; have HB2 := Lib.hid hB2; have HZ2 := Lib.hid hz2
       clear hown2 hg2 hb2 hR2 hB2 hz2)
    | (at_builtin
       refine eO rfl (.tmp 16) (.tmp 18) 77 rfl (w.heap.size + 2) 5 Tryz.underlying77 info8 v2 ([] ++ key ++ [UInt8.ofNat s.size]) rfl ?e1 _ _ _ (sb s) rfl ?e2 ?e3 ?e4 ?e5 ?_
       case e1 => exact HO2.out.below (p8 _ _ _)
       case e2 => exact dL.ofBytes _ _ _ HSM.out
       case e3 => exact fun e => by cases e
       case e4 => have := HS.out; simp [HH.out, HSL.out]; omega
       case e5 => have := HZ2.out; rw [Lib.bytesWorld_size]; omega
       intro v3 w3 hown3 hg3 hb3
       have YB : bK w3 (w.heap.size + 1) bU 37 := (HR2.out.keep (p8 _ _ _)).below hb3 (by omega)
       have hB3 : Below w.heap.size w w3 := (HB2.out.later (p8 _ _ _) (Nat.le_refl _)).trans (hb3.mono (by omega))
       have hz3 : w.heap.size + 2 ≤ w3.heap.size := by have h1 := hg3.size; rw [Lib.bytesWorld_size] at h1; have := HZ2.out; omega
       have Ng := Lib.hid hown3; have HR3 := Lib.hid YB; have HB3 := Lib.hid hB3; have HZ3 := Lib.hid hz3
       clear hown3 hg3 hb3 YB hB3 hz3)
    | (at_builtin
       refine eO rfl (.tmp 19) (.tmp 20) 77 rfl (w.heap.size + 2) 5 Tryz.underlying77 info8 v3 ([] ++ key ++ [UInt8.ofNat s.size] ++ sb s) rfl ?f1 _ _ _ bs rfl ?f2 ?f3 ?f4 ?f5 ?_
       case f1 => exact Ng.out
       case f2 => exact HP.out.below HB3.out
       case f3 => exact HN.out
       case f4 => have := HS.out; simp [HH.out, HSL.out]; omega
       case f5 => exact HZ3.out
       intro v4 w4 YQ hg4 hb4
       have hR4 : bK w4 (w.heap.size + 1) bU 37 := HR3.out.below hb4 (by omega)
       have hB4 : Below w.heap.size w w4 := HB3.out.trans (hb4.mono (by omega))
       have hlen : (((([] ++ key) ++ [UInt8.ofNat s.size]) ++ sb s) ++ bs).length = 33 + s.size + bs.length := by simp [HH.out, HSL.out]; omega
       obtain ⟨g4, cap4, e4, _, _, _, _⟩ := YQ.ap5 (33 + s.size + bs.length) hlen.symm (by omega)
       subst e4
       have hrow : dL w4 (some ⟨g4, 0, none⟩) (33 + s.size + bs.length) (((([] ++ key) ++ [UInt8.ofNat s.size]) ++ sb s) ++ bs) := YQ.row (by have := HS.out; rw [hlen]; simp only [maxLen]; omega) hlen.symm
       have heq : xV (((([] ++ key) ++ [UInt8.ofNat s.size]) ++ sb s) ++ bs) = out := by rw [← HO.out]; unfold aF; rw [HSL.out]; simp
       have HRW := Lib.hid hrow; have HR4 := Lib.hid hR4; have HB4 := Lib.hid hB4; have HLN := Lib.hid hlen; have HEQ := Lib.hid heq
       clear hrow hR4 hB4 hlen heq YQ hg4 hb4)
    | (go_at_call 111; refine (ac3 _ _ cap4 _ _ HRW.out (fun e => by cases e) (by have := HLN.out; have := HS.out; omega)).mono ?_; rintro e w5 ⟨rfl, hb5⟩
       rw [HEQ.out]
       have hR5 := HR4.out.keep hb5
       have hB5 := HB4.out.later hb5 (Nat.le_refl _)
       have HR5 := Lib.hid hR5; have HB5 := Lib.hid hB5
       clear hb5 hR5 hB5)
    | (refine wpList_store_row rfl 37 _ _ rfl (w.heap.size + 1) (HC out) rfl rfl 37 bU HR5.out S1.out S2.out (wN _) ?_))
  exact bodyPost_ret (v := HV out) (results_cell_row rfl _ _ (w.heap.size + 1) _ _ (0, 0) _ rfl (HR5.out.setRow _) Tryz.underlying37 rfl S1.out) rfl
    ⟨by rw [HO.out]; rfl, below_setRow HB5.out _ (by omega)⟩
theorem GZ(L:List (List UInt8))(k:Nat)(h:k<L.length):(L.take (k+1)).flatten=(L.take k).flatten++L[k]:=by
 rw[List.take_succ_eq_append_getElem h,List.flatten_append];simp
theorem Jy(L:List (List UInt8))(k:Nat):(L.take k).flatten.length≤L.flatten.length:=by
 have h:=congrArg (fun l=>l.flatten.length) (List.take_append_drop k L)
 simp only[List.flatten_append,List.length_append]at h
 omega
end
section
open Pm
theorem zo{a b:Int}(h:a=b):Ending.returned (.int .i64 a)=.returned (.int .i64 b):=by rw[h]
theorem vU{a b:Bool}(h:a=b):Ending.returned (.bool a)=.returned (.bool b):=by rw[h]
theorem ac1(a:Int)(w:World)(h0:0≤a)(h1:a<2147483579):
  Calls Tryz.prog 179 #[.int .i64 a] w fun e w'=>e=.returned (.bool true)∧w=w':=by
 go_enter Tryz.func179,Tryz.ntmps179
 go_wp2
 go_ret
 exact⟨rfl,rfl⟩
theorem ac0(a:Int)(w:World)(h:¬(0≤a∧a<2147483579)):
  Calls Tryz.prog 179 #[.int .i64 a] w fun e w'=>e=.returned (.bool false)∧w=w':=by
 by_cases h0:0≤a
 ·have h1:¬a<2147483579:=fun h1=>h ⟨h0,h1⟩
  clear h
  go_enter Tryz.func179,Tryz.ntmps179
  go_wp2
  go_ret
  exact⟨rfl,rfl⟩
 ·clear h
  go_enter Tryz.func179,Tryz.ntmps179
  go_wp2
  go_ret
  exact⟨rfl,rfl⟩
theorem lI(a:Int)(w:World):
  Calls Tryz.prog 179 #[.int .i64 a] w fun e w'=>e=.returned (.bool (inB a))∧w=w':=by
 by_cases h:0≤a∧a<2147483579
 ·rw[tJ h];exact ac1 a w h.1 h.2
 ·rw[AQ h];exact ac0 a w h
theorem aw4(a b:Int)(h0:0≤a)(h1:a<2147483579)(h2:0≤b)(h3:b<2147483579):0≤a*b∧a*b≤4611686018427387904:=by
 constructor
 ·exact Int.mul_nonneg h0 h2
 ·have:a*b≤2147483648*2147483648:=Int.mul_le_mul (by omega) (by omega) h2 (by omega)
  omega
theorem Et(a b:Int)(w:World):
  Calls Tryz.prog 132 #[.int .i64 a,.int .i64 b] w fun e w'=>e=.returned (.int .i64 (dA a b))∧w=w':=by
 by_cases ha:0≤a∧a<2147483579
 ·by_cases hb:0≤b∧b<2147483579
  ·have ia:=tJ ha
   have ib:=tJ hb
   obtain⟨a0,a1⟩:=ha
   obtain⟨b0,b1⟩:=hb
   obtain⟨m0,m1⟩:=aw4 a b a0 a1 b0 b1
   go_enter Tryz.func132,Tryz.ntmps132
   go_wp2_with (go_at_call 179;refine(lI _ _).mono ?_;rintro e w' ⟨rfl,rfl⟩)
   go_ret
   exact⟨zo (by unfold dA;rw[if_pos ⟨a0,a1,b0,b1⟩]),rfl⟩
  ·have ia:=tJ ha
   have ib:=AQ hb
   have hf:dA a b=0:=yY _ _ (fun⟨_,_,h2,h3⟩=>hb ⟨h2,h3⟩)
   have HF:=Lib.hid hf;clear hf ha hb
   go_enter Tryz.func132,Tryz.ntmps132
   go_wp2_with (go_at_call 179;refine(lI _ _).mono ?_;rintro e w' ⟨rfl,rfl⟩)
   go_ret
   exact⟨zo HF.out.symm,rfl⟩
 ·have ia:=AQ ha
  have hf:dA a b=0:=yY _ _ (fun⟨h0,h1,_,_⟩=>ha ⟨h0,h1⟩)
  have HF:=Lib.hid hf;clear hf ha
  go_enter Tryz.func132,Tryz.ntmps132
  go_wp2_with (go_at_call 179;refine(lI _ _).mono ?_;rintro e w' ⟨rfl,rfl⟩)
  go_ret
  exact⟨zo HF.out.symm,rfl⟩
theorem Ji(E:Int)(h0:0≤E)(h:E≤1073741789):bits BinOp.and IntKind.i64 E 1=E%2:=by
 obtain⟨n,rfl⟩:=Int.eq_ofNat_of_zero_le h0
 have hb:(BitVec.ofInt 64 (n:Int)).toNat=n:=by
  rw[BitVec.ofInt_natCast,BitVec.toNat_ofNat];exact Nat.mod_eq_of_lt (by omega)
 have h1:(BitVec.ofInt 64 (1:Int)).toNat=1:=by decide
 show IntKind.i64.wrap ((BitVec.ofInt 64 (n:Int)&&&BitVec.ofInt 64 (1:Int)).toNat:Int)=_
 rw[BitVec.toNat_and,hb,h1,Nat.and_one_is_mod]
 exact IntWalk.i64_in _ (by omega)
theorem ab9(b e:Int)(w:World)(h:¬(0≤b∧b<2147483579∧0≤e∧e≤1073741789)):
  Calls Tryz.prog 116 #[.int .i64 b,.int .i64 e] w fun e w'=>e=.returned (.int .i64 0)∧w=w':=by
 by_cases hb:0≤b∧b<2147483579
 ·have ib:=tJ hb
  by_cases he:e<0
  ·clear h hb
   go_enter Tryz.func116,Tryz.ntmps116
   go_wp2_with (go_at_call 179;refine(lI _ _).mono ?_;rintro e w' ⟨rfl,rfl⟩)
   go_ret
   exact⟨rfl,rfl⟩
  ·have he2:1073741789<e:=by omega
   clear h hb
   go_enter Tryz.func116,Tryz.ntmps116
   go_wp2_with (go_at_call 179;refine(lI _ _).mono ?_;rintro e w' ⟨rfl,rfl⟩)
   go_ret
   exact⟨rfl,rfl⟩
 ·have ib:=AQ hb
  clear h hb
  go_enter Tryz.func116,Tryz.ntmps116
  go_wp2_with (go_at_call 179;refine(lI _ _).mono ?_;rintro e w' ⟨rfl,rfl⟩)
  go_ret
  exact⟨rfl,rfl⟩
theorem aw8(b e:Int)(w:World)(hb:0≤b∧b<2147483579)(he:0≤e∧e≤1073741789):
  Calls Tryz.prog 116 #[.int .i64 b,.int .i64 e] w fun e' w'=>e'=.returned (.int .i64 (aA b e))∧w=w':=by
 have ib:=tJ hb
 have HS:=Lib.hid (mH.start hb he)
 have HL:=fun(B Y:Int) (h:mH b e B 0 Y)=>Lib.hid (mH.last hb he h)
 obtain⟨e0,e1⟩:=he
 go_enter Tryz.func116,Tryz.ntmps116
 go_wp2_with (go_at_call 179;refine(lI _ _).mono ?_;rintro e w' ⟨rfl,rfl⟩)
 go_loop [0,1,5] (fun b' e' y'=>∃B E Y:Int,b'=.int .i64 B∧e'=.int .i64 E∧y'=.int .i64 Y∧mH b e B E Y) (fun _ e' _=>(intOf e').toNat)
 case atStart=>exact⟨b,e,1,rfl,rfl,rfl,HS.out⟩
 case round=>
  obtain⟨B,E,Y,rfl,rfl,rfl,HP⟩:=hrel
  obtain⟨x0,x1⟩:=And.intro HP.e0 HP.e1
  have hand:=Ji E x0 x1
  by_cases hpos:0<E
  ·by_cases hodd:E%2=1
   ·have HN:=HP.odd hodd
    have ho:=tests.1 hodd
    clear hodd HP ib e0 e1
    go_wp2_with (go_at_call 132;refine(Et _ _ _).mono ?_;rintro e w' ⟨rfl,rfl⟩)
    go_round
    case rel=>exact⟨_,_,_,rfl,rfl,rfl,HN⟩
    case measure=>simp[intOf];omega
   ·have HN:=HP.even hodd
    have ho:=tests.2 hodd
    clear hodd HP ib e0 e1
    go_wp2_with (go_at_call 132;refine(Et _ _ _).mono ?_;rintro e w' ⟨rfl,rfl⟩)
    go_round
    case rel=>exact⟨_,_,_,rfl,rfl,rfl,HN⟩
    case measure=>simp[intOf];omega
  ·obtain rfl:E=0:=by omega
   have HY:=HL _ _ HP
   clear ib hand
   go_wp2
   go_ret
   exact⟨zo HY.out,rfl⟩
theorem uT(b e:Int)(w:World):
  Calls Tryz.prog 116 #[.int .i64 b,.int .i64 e] w fun e' w'=>e'=.returned (.int .i64 (aA b e))∧w=w':=by
 by_cases h:0≤b∧b<2147483579∧0≤e∧e≤1073741789
 ·exact aw8 b e w ⟨h.1,h.2.1⟩ h.2.2
 ·rw[LM _ _ h];exact ab9 b e w h
theorem vT(y:Int)(w:World):
  Calls Tryz.prog 106 #[.int .i64 y] w fun e' w'=>e'=.returned (.bool (cK y))∧w=w':=by
 by_cases h1:1<y
 ·by_cases h2:y<2147483579
  ·by_cases h3:aA y 1073741789=1
   ·have HI:=Lib.hid ((qg y).2 ⟨h1,h2,h3⟩)
    have b3:=aA0 h3
    clear h3
    go_enter Tryz.func106,Tryz.ntmps106
    go_wp2_with (go_at_call 116;refine(uT _ _ _).mono ?_;rintro e w' ⟨rfl,rfl⟩)
    go_ret
    exact⟨vU HI.out.symm,rfl⟩
   ·have HI:=Lib.hid (Bool.eq_false_iff.2 fun h=>h3 ((qg y).1 h).2.2)
    have b3:=az9 h3
    clear h3
    go_enter Tryz.func106,Tryz.ntmps106
    go_wp2_with (go_at_call 116;refine(uT _ _ _).mono ?_;rintro e w' ⟨rfl,rfl⟩)
    go_ret
    exact⟨vU HI.out.symm,rfl⟩
  ·have HI:=Lib.hid (Bool.eq_false_iff.2 fun h=>h2 ((qg y).1 h).2.1)
   go_enter Tryz.func106,Tryz.ntmps106
   go_wp2
   go_ret
   exact⟨vU HI.out.symm,rfl⟩
 ·have HI:=Lib.hid (Bool.eq_false_iff.2 fun h=>h1 ((qg y).1 h).1)
  go_enter Tryz.func106,Tryz.ntmps106
  go_wp2
  go_ret
  exact⟨vU HI.out.symm,rfl⟩
end
end Go.Proofs.YtjdjelopkhjdnaaGreatDoor
