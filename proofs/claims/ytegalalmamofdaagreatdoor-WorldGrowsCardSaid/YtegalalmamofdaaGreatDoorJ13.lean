/- -/
import Derived.Test.YtegalalmamofdaaGreatDoorJ12
import Derived.Deep.DeepMust
namespace Go.Proofs.YtegalalmamofdaaGreatDoor
set_option linter.all false
set_option maxRecDepth 100000
open Go.RowKit
set_option maxHeartbeats 8000000
section
theorem rW(k:Nat)(h:k<=7):IntKind.i64.wrap (8*(k:Int))=8*(k:Int)/\IntKind.i64.wrap (56-8*(k:Int))=56-8*(k:Int)/\0<=56-8*(k:Int)/\(56-8*(k:Int)).toNat=56-8*k/\56-8*k<=64:=
 ⟨IntWalk.i64_in _ (by omega),IntWalk.i64_in _ (by omega),by omega,by omega,by omega⟩
attribute [local go_sem] bG1 EO
theorem Bq(g:Nat)(s:Sp)(a:Option Addr)(len cap:Nat)(bs:List UInt8)(w:World)(hs:aM w g (C6 s) 130)(hat:s.at_<=7)(hp:fP w a len bs)
  (hne:∀x:Addr,a=some x->bs≠[]->x.block≠g):
  Calls Tryz.prog 60 #[.pointer (some ⟨g,0,none⟩),.slice a len cap] w fun e w'=>e=.returned (.tuple #[])/\aM w' g (C6 (takes s bs)) 130/\w.grownBy w' (some g):=by
 have hlen:=hp.len_eq
 have hsm:=hp.small
 unfold maxLen at hsm
 subst hlen
 have HP:=Lib.hid hp
 have HS:=Lib.hid hs
 have HN:=Lib.hid hne
 clear hp hs hne
 go_enter Tryz.func60,Tryz.ntmps60
 go_wp2
 go_loopw [5,8] (fun _ i wr=>∃k:Nat,k<=bs.length/\i=.int .i64 k/\aM wr g (C6 (takes s (bs.take k))) 130/\w.grownBy wr (some g)) (fun _ i _=>bs.length- (intOf i).toNat)
 case atStart=>exact⟨0,Nat.zero_le _,rfl,HS.out,bH _ _⟩
 case round=>
  obtain⟨k,hk,rfl,hX,hG⟩:=hrel
  have ce0:=xE (bs.take k) s hat
  generalize hy:takes s (bs.take k)=y at hX ce0
  have HY:=Lib.hid hy;clear hy
  by_cases hlt:k<bs.length
  ·obtain⟨b,off,rfl,hcell⟩:∃b off,a=some ⟨b,off,none⟩/\wr.cell? ⟨b,off+k,none⟩=some (.int .u8 (Bt bs[k])):=by
    rcases HP.out.cells with h1|⟨b,off,rfl,hc⟩
    ·simp[h1]at hlt
    ·exact⟨b,off,rfl,hG.cell (hc k hlt) (fun e=>HN.out _ rfl (by intro h1;simp[h1]at hlt) (by injection e))⟩
   generalize hc:bs[k]=c at hcell
   have HC0:=Lib.hid hc;clear hc
   obtain⟨c0,c1,c2,c3,c4,c5⟩:=hX.six
   have f:=hX.frozen
   obtain⟨s1,s2,s3,s4,s5⟩:=rW y.at_ ce0
   have HX:=Lib.hid hX;have HG:=Lib.hid hG
   clear hX hG
   have hw8:IntKind.u64.wrap (Bt c)=Bt c:=IntWalk.u64_in _ (by have:=Nh c;omega)
   go_wp2_with fail
   refine dW 18 (by kernel_rfl) (by kernel_rfl) ?_
   simp only[List.take_succ_cons,List.take_zero,List.drop_succ_cons,List.drop_zero]
   repeat still_step
   refine wpStill_nil ?_
   by_cases h7:y.at_=7
   ·have h7':((y.at_:Int)+1==8)=true:=by rw[h7];rfl
    clear h7
    go_wp2_with fail
    refine(Ie { y.x with a:=y.x.a^^^(w8 c<<<(56-8*y.at_)) } _).mono ?_
    rintro e w1 ⟨rfl,b1⟩
    have g0:=((HX.out.set 0 (.int .u64 (U (y.x.a^^^w8 c<<<(56-8*y.at_))))).set 5 (.int .i64 ((y.at_:Int)+1))).drew
    have gg:=lW (ay (ay HG.out 0 (.int .u64 (U (y.x.a^^^w8 c<<<(56-8*y.at_))))) 5 (.int .i64 ((y.at_:Int)+1)))
    have g1:=g0.keep b1
    have gg1:=jw gg b1
    have hyt:takeB y c=⟨jy { y.x with a:=y.x.a^^^(w8 c<<<(56-8*y.at_)) },0⟩:=by unfold takeB;rw[if_pos (by simp at h7';omega)]
    generalize jy { y.x with a:=y.x.a^^^(w8 c<<<(56-8*y.at_)) }=z at hyt
    have HYT:=Lib.hid hyt
    have f1:=g1.frozen
    have d0:=g1.cell 0
    have d1:=g1.cell 1
    have d2:=g1.cell 2
    have d3:=g1.cell 3
    have d4:=g1.cell 4
    have d5:=g1.cell 5
    simp at d0 d1 d2 d3 d4 d5
    have G1:=Lib.hid g1;have GG1:=Lib.hid gg1
    clear g0 gg g1 gg1 b1 hyt c0 c1 c2 c3 c4 c5 f HX HG s1 s2 s3 s4 s5 hw8 hcell h7'
    go_wp2
    go_roundw
    case rel=>
     refine⟨k+1,by omega,by go_num,?_,?_⟩
     ·rw[List.take_succ_eq_append_getElem hlt,H6,HY.out,HC0.out,HYT.out]
      exact((((((G1.out.set 0 _).set 1 _).set 2 _).set 3 _).set 4 _).set 5 _).copy (by simp)
     ·exact ay (ay (ay (ay (ay (ay GG1.out _ _) _ _) _ _) _ _) _ _) _ _
    case measure=>simp[intOf];omega
   ·have h7':((y.at_:Int)+1==8)=false:=by rw[beq_eq_false_iff_ne];omega
    have hyt:takeB y c=⟨{ y.x with a:=y.x.a^^^(w8 c<<<(56-8*y.at_)) },y.at_+1⟩:=by unfold takeB;rw[if_neg h7]
    have HYT:=Lib.hid hyt
    clear h7 hyt
    go_wp2
    go_roundw
    case rel=>
     refine⟨k+1,by omega,by go_num,?_,?_⟩
     ·rw[List.take_succ_eq_append_getElem hlt,H6,HY.out,HC0.out,HYT.out]
      exact((HX.out.set 0 _).set 5 _).drew.copy (by simp)
     ·exact lW (ay (ay HG.out _ _) _ _)
    case measure=>simp[intOf];omega
  ·have HX:=Lib.hid hX;have HG:=Lib.hid hG
   clear hX hG
   go_wp2
   go_end0
   refine⟨rfl,?_,HG.out⟩
   rw[<-List.take_of_length_le (i:=k) (l:=bs) (by omega),HY.out]
   exact HX.out
end
section
theorem turn_32(w:World):Calls Tryz.prog 101 #[.agg #[.int .u64 32,.int .u64 0,.int .u64 0,.int .u64 0,.int .u64 0]] w fun e w'=>e=.returned (V5 (jy ⟨32,0,0,0,0⟩))/\Below w.heap.size w w':=
 Ie ⟨32,0,0,0,0⟩ w
theorem Xk(w:World):Calls Tryz.prog 59 #[] w fun e w'=>e=.returned (.agg (C6 gJ))/\Below w.heap.size w w':=by
 go_enter Tryz.func59,Tryz.ntmps59
 go_wp2_with fail
 refine(turn_32 _).mono ?_
 rintro e w1 ⟨rfl,b1⟩
 generalize hz:jy ⟨32,0,0,0,0⟩=z
 have HZ:=Lib.hid hz
 have hb:gJ=⟨z,0⟩:=by unfold gJ;rw[hz]
 have HB:=Lib.hid hb
 clear hz hb
 have g:=(aM.new w #[.int .u64 0,.int .u64 0,.int .u64 0,.int .u64 0,.int .u64 0,.int .i64 0] 130).keep b1
 have f:=g.frozen
 obtain⟨c0,c1,c2,c3,c4,c5⟩:=g.six
 have B:=((Below.refl w.heap.size w).alloc (Nat.le_refl _) (.cells #[.int .u64 0,.int .u64 0,.int .u64 0,.int .u64 0,.int .u64 0,.int .i64 0] 130)).lift b1 (by simp)
 have G:=Lib.hid g;have HBB:=Lib.hid B
 clear g B b1
 go_wp2
 have g2:=((((((G.out.set 0 (.int .u64 (U z.a))).set 1 (.int .u64 (U z.b))).set 2 (.int .u64 (U z.c))).set 3 (.int .u64 (U z.d))).set 4 (.int .u64 (U z.e))).set 5 (.int .i64 0)).copy (cs':=C6 gJ) (by rw[HB.out];simp)
 exact bodyPost_ret (v:=.agg (C6 gJ)) (results_cell_row rfl _ _ _ _ _ (0,0) _ rfl g2 Tryz.underlying130 rfl (by kernel_rfl)) rfl
  ⟨rfl,(((((HBB.out.setCell (by simp) _).setCell (by simp) _).setCell (by simp) _).setCell (by simp) _).setCell (by simp) _).setCell (by simp) _⟩
end
section
attribute [local go_sem] EO
theorem shl_80(n:Nat):IntKind.u64.wrap (128*2^n)=U (0x80#64<<<n):=by
 rw[<-Nj];rfl
theorem aO1(g:Nat)(s:Sp)(w:World)(hs:aM w g (C6 s) 130)(hat:s.at_<=7):
  Calls Tryz.prog 61 #[.pointer (some ⟨g,0,none⟩)] w fun e w'=>e=.returned (HV (uE s))/\w.grownBy w' (some g):=by
 obtain⟨c0,c1,c2,c3,c4,c5⟩:=hs.six
 have f:=hs.frozen
 have hlt:=hs.lt
 obtain⟨s1,s2,s3,s4,s5⟩:=rW s.at_ hat
 have hsh:=shl_80 (56-8*s.at_)
 have HS:=Lib.hid hs
 clear hs
 go_enter Tryz.func61,Tryz.ntmps61
 go_wp2_with fail
 refine dW 16 (by kernel_rfl) (by kernel_rfl) ?_
 simp only[List.take_succ_cons,List.take_zero,List.drop_succ_cons,List.drop_zero]
 repeat still_step
 refine wpStill_nil ?_
 go_wp2_with fail
 refine zR (fun w1 hw1=>?_)
 have hX1:aM w1 g (C6 ⟨mE 0 (oJ s),s.at_⟩) 130:=by
  rw[hw1];exact((((HS.out.set 0 _).alloc _).alloc _).drew).copy (by simp[oJ,mE])
 have hH1:aM w1 (w.heap.size+1) (HC (front (uE s) (8*0))) 28:=by
  rw[hw1];exact(aM.newAt _ _ (by simp)).drew.copy (by rw[FL];rfl)
 have Vz:aM w1 w.heap.size (HC (List.replicate 32 0)) 28:=by
  rw[hw1];exact(((aM.newAt _ _ (by simp)).alloc _).drew).copy (by rfl)
 have hG1:w.grownBy w1 (some g):=by
  rw[hw1];exact lW (gQ (gQ (ay (bH w (some g)) 0 _) (World.grownBy_alloc _ _ _)) (World.grownBy_alloc _ _ _))
 clear hw1 c0 c1 c2 c3 c4 c5 f s1 s2 s3 s4 s5 hsh HS
 generalize hR:w.heap.size=R at*
 have hgR:g≠R:=by omega
 have hgH:g≠R+1:=by omega
 have HX1:=Lib.hid hX1;have HH1:=Lib.hid hH1;have HR1:=Lib.hid Vz;have KY:=Lib.hid hG1;have HRW:=Lib.hid hR
 clear hX1 hH1 Vz hG1 hR
 go_loopw [4,5,22] (fun _ _ i wr=>∃k:Nat,k<=4/\i=.int .i64 k/\aM wr g (C6 ⟨mE k (oJ s),s.at_⟩) 130/\aM wr (R+1) (HC (front (uE s) (8*k))) 28/\aM wr R (HC (List.replicate 32 0)) 28/\w.grownBy wr (some g)) (fun _ _ i _=>4- (intOf i).toNat)
 case atStart=>exact⟨0,by omega,rfl,HX1.out,HH1.out,HR1.out,KY.out⟩
 case round=>
  obtain⟨k,hk,rfl,hX,hH,hRR,hG⟩:=hrel
  clear HX1 HH1 HR1 KY
  by_cases cs7:k<4
  ·obtain⟨c0,c1,c2,c3,c4,c5⟩:=hX.six
   have f:=hX.frozen
   have HX:=Lib.hid hX;have HH:=Lib.hid hH;have HR:=Lib.hid hRR;have HG:=Lib.hid hG
   clear hX hH hRR hG
   go_wp2_with fail
   refine(Ie (mE k (oJ s)) _).mono ?_
   rintro e w2 ⟨rfl,b2⟩
   have hX2:=HX.out.keep b2
   have hH2:=HH.out.keep b2
   have hR2:=HR.out.keep b2
   have hG2:=jw HG.out b2
   clear c0 c1 c2 c3 c4 c5 f HX HH HR HG b2
   obtain⟨c0,c1,c2,c3,c4,c5⟩:=hX2.six
   have f:=hX2.frozen
   have HX:=Lib.hid hX2;have HH:=Lib.hid hH2;have HR:=Lib.hid hR2;have HG:=Lib.hid hG2
   clear hX2 hH2 hR2 hG2
   go_wp2_with fail
   refine zR (fun w3 hw3=>?_)
   have hX3:aM w3 g (C6 ⟨mE (k+1) (oJ s),s.at_⟩) 130:=by
    rw[hw3];exact(((((HX.out.set 0 _).set 1 _).set 2 _).set 3 _).set 4 _).copy (by simp[mE])
   have hH3:aM w3 (R+1) (HC (front (uE s) (8*k+0))) 28:=by
    rw[hw3];exact HH.out.LD (Ne.symm hgH) _ _ _ _ _
   have VA:aM w3 R (HC (List.replicate 32 0)) 28:=by
    rw[hw3];exact HR.out.LD (Ne.symm hgR) _ _ _ _ _
   have hG3:w.grownBy w3 (some g):=by
    rw[hw3];exact ay (ay (ay (ay (ay HG.out _ _) _ _) _ _) _ _) _ _
   clear hw3 c0 c1 c2 c3 c4 c5 f HX HH HR HG
   have HX1:=Lib.hid hX3;have HH1:=Lib.hid hH3;have HR1:=Lib.hid VA;have KY:=Lib.hid hG3
   clear hX3 hH3 VA hG3
   go_loopw [5,33] (fun _ j wr=>∃m:Nat,m<=8/\j=.int .i64 m/\aM wr g (C6 ⟨mE (k+1) (oJ s),s.at_⟩) 130/\aM wr (R+1) (HC (front (uE s) (8*k+m))) 28/\aM wr R (HC (List.replicate 32 0)) 28/\w.grownBy wr (some g)) (fun _ j _=>8- (intOf j).toNat)
   case atStart=>exact⟨0,by omega,rfl,HX1.out,HH1.out,HR1.out,KY.out⟩
   case round=>
    obtain⟨m,hm,rfl,hX,hH,hRR,hG⟩:=hrel
    clear HX1 HH1 HR1 KY
    by_cases bA6:m<8
    ·obtain⟨c0,c1,c2,c3,c4,c5⟩:=hX.six
     have hget:=ay2 (oJ s) k m cs7 bA6
     have hfs:=JK (uE s) (8*k+m) (mD _) (by omega) _ hget
     obtain⟨ov,hov⟩:=Fe hH (mD _) (show 8*k+m<32 by omega)
     have fH:=hH.frozen
     generalize(mE (k+1) (oJ s)).a=za at*
     have hwb:=D5 za m
     obtain⟨s1,s2,s3,s4,s5⟩:=rW m (by omega)
     have HX:=Lib.hid hX;have HH:=Lib.hid hH;have HR:=Lib.hid hRR;have HG:=Lib.hid hG
     have HF:=Lib.hid hfs
     clear hX hH hRR hG hget hfs
     go_wp2
     go_roundw
     case rel=>
      exact⟨m+1,by omega,by go_num,HX.out.other _ _ hgH,(HH.out.set _ _).copy (by rw[KX,HF.out];rfl),HR.out.other _ _ (by simp),LH HG.out _ _ (by have:=HRW.out;omega)⟩
     case measure=>simp[intOf];omega
    ·obtain rfl:m=8:=by omega
     have HX:=Lib.hid hX;have HH:=Lib.hid hH;have HR:=Lib.hid hRR;have HG:=Lib.hid hG
     clear hX hH hRR hG
     go_wp2
     go_roundw
     case rel=>exact⟨k+1,by omega,by go_num,HX.out,HH.out.copy (by rw[Nat.mul_succ]),HR.out,HG.out⟩
     case measure=>simp[intOf];omega
  ·obtain rfl:k=4:=by omega
   have hH':aM wr (R+1) (HC (uE s)) 28:=hH.copy (by rw[show 8*4=32 from rfl,show front (uE s) 32=uE s from JJ _ (mD _)])
   have hsz:(Tryz.prog.info? 28).map (·.size)=some (HC (uE s)).size:=by
    rw[dO,show(uE s).length=32 from mD _];kernel_rfl
   have hsz2:(HC (List.replicate 32 0)).size=(HC (uE s)).size:=by rw[dO,dO,show(uE s).length=32 from mD _];rfl
   have HX:=Lib.hid hX;have HH:=Lib.hid hH';have HR:=Lib.hid hRR;have HG:=Lib.hid hG
   have S1:=Lib.hid hsz;have S2:=Lib.hid hsz2
   clear hX hH hH' hRR hG hsz hsz2
   go_wp2_with (first
    |(refine wpList_load_row rfl 28 _ rfl (R+1) rfl 28 (HC (uE s)) (0,0) _ HH.out Tryz.underlying28 rfl S1.out ?_)
    |(refine wpList_store_row rfl 28 _ _ rfl R (HC (uE s)) rfl rfl 28 (HC (List.replicate 32 0)) HR.out S1.out S2.out (wh _) ?_))
   exact bodyPost_ret (v:=HV (uE s)) (results_cell_row rfl _ _ R _ _ (0,0) _ rfl (HR.out.setRow _) Tryz.underlying28 rfl S1.out) rfl
    ⟨rfl,kN HG.out _ (.inl (by have:=HRW.out;omega))⟩
end
section
def sb(s:ByteArray):List UInt8:=s.data.toList
theorem tQ(s:ByteArray):(sb s).length=s.size:=by simp[sb]
theorem QF(n:Nat):IntKind.u8.wrap (n:Int)=Bt (UInt8.ofNat n):=by
 rw[IntKind.wrap_u8];unfold Bt;rw[UInt8.toNat_ofNat'];rfl
theorem rA(w:World)(e:TypeId)(s:ByteArray):Below w.heap.size w (Lib.bytesWorld w e s):=
 ⟨rfl,rfl,rfl,by rw[Lib.bytesWorld_size];omega,fun k hk=>Lib.bytesWorld_at_old w e s k hk⟩
theorem fP.ofBytes(w:World)(e:TypeId)(s:ByteArray)(hs:s.size<=maxLen):fP (Lib.bytesWorld w e s) (some ⟨w.heap.size,0,none⟩) s.size (sb s):=by
 refine⟨(tQ s).symm,by rw[tQ];exact hs,.inr ⟨w.heap.size,0,rfl,fun i hi=>?_⟩⟩
 have h1:i<s.size:=by rw[tQ]at hi;exact hi
 rw[Nat.zero_add,Lib.bytesWorld_cell w e s i h1]
 congr 2
 unfold Bt sb
 rw[List.getD_eq_getElem?_getD,List.getElem?_eq_getElem (by simpa[sb]using hi)]
 rfl
theorem zn(h:List UInt8)(hh:h.length=32)(label:ByteArray)(hl:label.size<=maxLen)(a:Option Addr)(len cap:Nat)(L:List (List UInt8))(w:World)(hp:II w a len L):
  Calls Tryz.prog 37 #[HV h,.string label,.slice a len cap] w fun e w'=>e=.returned (HV (aD h (sb label) L.flatten))/\Below w.heap.size w w':=by
 have hlen:=hp.len_eq
 have hsm:=hp.small
 unfold maxLen at hsm hl
 subst hlen
 have HP:=Lib.hid hp
 clear hp
 unfold HV
 go_enter Tryz.func37,Tryz.ntmps37
 go_wp2_with fail
 refine(Xk _).mono ?_
 rintro e w1 ⟨rfl,b1⟩
 have hI1:=((aM.newAt (w:=w) (g:=w.heap.size) (HC h) 28 rfl).alloc (.cells (HC (List.replicate 32 0)) 28)).keep b1
 have Vz:=((aM.newAt (w:=w.alloc (.cells (HC h) 28)) (g:=w.heap.size+1) (HC (List.replicate 32 0)) 28 (by simp))).keep b1
 have hB1:=(((Below.refl w.heap.size w).alloc (Nat.le_refl _) (.cells (HC h) 28)).alloc (by simp) (.cells (HC (List.replicate 32 0)) 28)).lift b1 (by simp;omega)
 have hs1:w.heap.size+2<=w1.heap.size:=by have:=b1.size;rw[size_alloc,size_alloc]at this;exact this
 have HI1:=Lib.hid hI1;have HR1:=Lib.hid Vz;have HB1:=Lib.hid hB1
 clear hI1 Vz hB1 b1
 go_wp2_with fail
 have hX2:=aM.new w1 (C6 gJ) 130
 have hI2:=HI1.out.alloc (.cells (C6 gJ) 130)
 have hR2:=HR1.out.alloc (.cells (C6 gJ) 130)
 have hB2:=HB1.out.alloc (by omega) (.cells (C6 gJ) 130)
 have hz2:=size_alloc w1 (.cells (C6 gJ) 130)
 clear HI1 HR1 HB1
 generalize w1.alloc (.cells (C6 gJ) 130)=w2 at*
 generalize w1.heap.size=g at*
 refine(Bq g gJ (some ⟨w.heap.size,0,none⟩) 32 32 h w2 hX2 (by decide) (fP.Gm hI2 (by rw[hh];decide) 32 hh.symm) (fun x hx _=>by injection hx with hx;subst hx;simp;omega)).mono ?_
 rintro e w3 ⟨rfl,hX3,hG3⟩
 have VA:=hR2.grown hG3 (by omega)
 have hB3:=below_grown hB2 hG3 (by omega) (by omega)
 have hz3:=hG3.size
 have hwl:=QF label.size
 have HX3:=Lib.hid hX3;have HR3:=Lib.hid VA;have HB3:=Lib.hid hB3;have HZ:=Lib.hid hz2
 clear hX2 hI2 hR2 hB2 hX3 VA hB3 hG3 hz2
 go_wp2_with fail
 have bA2:=xE h gJ (by decide)
 have hX4:=HX3.out.alloc (.cells (HC [UInt8.ofNat label.size]) 5)
 have hI4:=aM.new w3 (HC [UInt8.ofNat label.size]) 5
 have hR4:=HR3.out.alloc (.cells (HC [UInt8.ofNat label.size]) 5)
 have hB4:=HB3.out.alloc (by have:=HZ.out;omega) (.cells (HC [UInt8.ofNat label.size]) 5)
 have hz4:=size_alloc w3 (.cells (HC [UInt8.ofNat label.size]) 5)
 have hg3:=HX3.out.lt
 clear HX3 HR3 HB3 HZ hwl
 change Calls _ _ _ (w3.alloc (.cells (HC [UInt8.ofNat label.size]) 5)) _
 generalize w3.alloc (.cells (HC [UInt8.ofNat label.size]) 5)=w4 at*
 generalize w3.heap.size=i4 at*
 refine(Bq g _ (some ⟨i4,0,none⟩) 1 1 [UInt8.ofNat label.size] w4 hX4 bA2 (fP.Gm hI4 (by simp[maxLen]) 1 rfl) (fun x hx _=>by injection hx with hx;subst hx;simp;omega)).mono ?_
 rintro e w5 ⟨rfl,hX5,hG5⟩
 have ce1:=xE [UInt8.ofNat label.size] _ bA2
 have hR5:=hR4.grown hG5 (by omega)
 have hB5:=below_grown hB4 hG5 (by omega) (by omega)
 have hz5:=hG5.size
 have HX5:=Lib.hid hX5;have HR5:=Lib.hid hR5;have HB5:=Lib.hid hB5;have HZ:=Lib.hid hz4;have HA5:=Lib.hid ce1
 clear hX4 hI4 hR4 hB4 hX5 hR5 hB5 hG5 hz4 bA2 ce1
 have hcv:=Lib.run_convert_string_bytes (P:=Tryz.prog) w5 9 35 5 label Tryz.underlying9 Tryz.underlying35 Tryz.underlying5
 go_wp2_with fail
 have hb6:=rA w5 5 label
 have hI6:=fP.ofBytes w5 5 label (by unfold maxLen;exact hl)
 clear hcv
 generalize Lib.bytesWorld w5 5 label=w6 at*
 have hX6:=HX5.out.keep hb6
 have hR6:=HR5.out.keep hb6
 have hB6:=HB5.out.lift hb6 (by have:=HZ.out;omega)
 have hg6:=HX5.out.lt
 have hz6:=hb6.size
 generalize grownCap w5 label.size 0 5=cap6
 refine(Bq g _ (some ⟨w5.heap.size,0,none⟩) label.size cap6 (sb label) w6 hX6 HA5.out hI6 (fun x hx _=>by injection hx with hx;subst hx;simp;omega)).mono ?_
 rintro e w7 ⟨rfl,hX7,hG7⟩
 have ce2:=xE (sb label) _ HA5.out
 have hR7:=hR6.grown hG7 (by omega)
 have hB7:=below_grown hB6 hG7 (by omega) (by have:=HZ.out;omega)
 have hz7:=hG7.size
 have hfin:∀l,uE (takes (takes (takes (takes gJ h) [UInt8.ofNat label.size]) (sb label)) l)=aD h (sb label) l:=by
  intro l
  unfold aD zP
  rw[tQ,<-jE,<-jE,<-jE]
  congr 2
  simp
 generalize takes (takes (takes gJ h) [UInt8.ofNat label.size]) (sb label)=s0 at*
 have hw7:w.heap.size+2<=w7.heap.size:=by have:=HZ.out;omega
 have HX7:=Lib.hid hX7;have HR7:=Lib.hid hR7;have HB7:=Lib.hid hB7;have HA7:=Lib.hid ce2;have HF:=Lib.hid hfin
 clear hX6 hR6 hB6 hI6 hb6 hX7 hR7 hB7 hG7 ce2 hfin HX5 HR5 HB5 HA5 hz3 hg3 hz5 hg6 hz6 hz7 HZ
 go_wp2_with fail
 go_loopw [9,23] (fun _ i wr=>∃k:Nat,k<=L.length/\i=.int .i64 k/\aM wr g (C6 (takes s0 (L.take k).flatten)) 130/\aM wr (w.heap.size+1) (HC (List.replicate 32 0)) 28/\Below w.heap.size w wr) (fun _ i _=>L.length- (intOf i).toNat)
 case atStart=>exact⟨0,Nat.zero_le _,rfl,HX7.out,HR7.out,HB7.out⟩
 case round=>
  obtain⟨k,hk,rfl,hX,hR,hB⟩:=hrel
  clear HX7 HR7 HB7
  have hat:=xE (L.take k).flatten s0 HA7.out
  by_cases hlt:k<L.length
  ·obtain⟨b,off,rfl,a',l',c',hcell,hrow⟩:∃b off,a=some ⟨b,off,none⟩/\∃a' l' c',wr.cell? ⟨b,off+k,none⟩=some (.slice a' l' c')/\fP w a' l' L[k]:=by
    rcases HP.out.cells with h1|⟨b,off,rfl,hc⟩
    ·simp[h1]at hlt
    ·obtain⟨a',l',c',h2,h3⟩:=hc k hlt
     exact⟨b,off,rfl,a',l',c',(hB.cell (block_lt_of_cell h2)).trans h2,h3⟩
   have hlr:=hrow.lt
   have hrow2:=hrow.below hB
   have HX:=Lib.hid hX;have HR:=Lib.hid hR;have HB:=Lib.hid hB
   have HL:=Lib.hid hlr;have HW:=Lib.hid hrow2;have HA:=Lib.hid hat
   clear hX hR hB hrow hlr hrow2 hat
   go_wp2_with fail
   refine(Bq g _ a' l' c' L[k] _ HX.out HA.out HW.out (fun x hx hn=>by have:=HL.out x hx hn;omega)).mono ?_
   rintro e w8 ⟨rfl,hX8,hG8⟩
   have hs8:w.heap.size+1<wr.heap.size:=HR.out.lt
   have hR8:=HR.out.grown hG8 (by omega)
   have hB8:=below_grown HB.out hG8 (by omega) (by omega)
   have HX8:=Lib.hid hX8;have HR8:=Lib.hid hR8;have HB8:=Lib.hid hB8
   clear hX8 hR8 hB8 hG8 HX HR HB HL HW HA
   go_wp2
   go_roundw
   case rel=>
    refine⟨k+1,by omega,by go_num,?_,HR8.out,HB8.out⟩
    rw[List.take_succ_eq_append_getElem hlt,List.flatten_append,jE]
    simpa using HX8.out
   case measure=>simp[intOf];omega
  ·have HX:=Lib.hid hX;have HR:=Lib.hid hR;have HB:=Lib.hid hB;have HA:=Lib.hid hat
   have hs8:w.heap.size+1<wr.heap.size:=hR.lt
   clear hX hR hB hat
   go_wp2_with fail
   refine(aO1 g _ _ HX.out HA.out).mono ?_
   rintro e w8 ⟨rfl,hG8⟩
   have hR8:=HR.out.grown hG8 (by omega)
   have hB8:=below_grown HB.out hG8 (by omega) (by omega)
   rw[List.take_of_length_le (by omega),HF.out]
   have hlen:(aD h (sb label) L.flatten).length=32:=bG _
   have hsz:(Tryz.prog.info? 28).map (·.size)=some (HC (aD h (sb label) L.flatten)).size:=by
    rw[dO,hlen];kernel_rfl
   have hsz2:(HC (List.replicate 32 0)).size=(HC (aD h (sb label) L.flatten)).size:=by rw[dO,dO,hlen];rfl
   generalize hout:aD h (sb label) L.flatten=out at*
   have HO:=Lib.hid hout;clear hout
   have HR8:=Lib.hid hR8;have HB8:=Lib.hid hB8;have S1:=Lib.hid hsz;have S2:=Lib.hid hsz2
   clear hR8 hB8 hG8 hsz hsz2 hlen HX HR HB HA
   go_wp2_with (refine wpList_store_row rfl 28 _ _ rfl (w.heap.size+1) (HC out) rfl rfl 28 (HC (List.replicate 32 0)) HR8.out S1.out S2.out (wh _) ?_)
   exact bodyPost_ret (v:=HV out) (results_cell_row rfl _ _ (w.heap.size+1) _ _ (0,0) _ rfl (HR8.out.setRow _) Tryz.underlying28 rfl S1.out) rfl
    ⟨by rw[HO.out];rfl,below_setRow HB8.out _ (by omega)⟩
theorem NV(s:ByteArray)(hs:s.size<=maxLen)(a:Option Addr)(len cap:Nat)(L:List (List UInt8))(w:World)(hp:II w a len L):
  Calls Tryz.prog 37 #[.agg dU,.string s,.slice a len cap] w fun e w'=>e=.returned (HV (aD (List.replicate 32 0) (sb s) L.flatten))/\Below w.heap.size w w':=by
 rw[zT]
 exact zn (List.replicate 32 0) rfl s hs a len cap L w hp
end
section
def yX(P:List UInt8)(p:Nat):Nat->BitVec 64
 |0=>0
 |j+1=>(yX P p j<<<8)|||w8 (P[p+j]?.getD 0)
def tJ(P:List UInt8):Nat->W5
 |0=>jy ⟨32,0,0,0,0⟩
 |k+1=>jy { tJ P k with a:=(tJ P k).a^^^yX P (8*k) 8 }
theorem bD6(x:BitVec 64)(c:UInt8):(x<<<8)|||w8 c=(x<<<8)^^^w8 c:=by
 apply BitVec.eq_of_getLsbD_eq
 intro i hi
 rw[BitVec.getLsbD_or,BitVec.getLsbD_xor]
 by_cases h:i<8
 ·have:(x<<<8).getLsbD i=false:=by simp[h]
  rw[this];simp
 ·have:(w8 c).getLsbD i=false:=by
   unfold w8
   rw[BitVec.getLsbD_ofNat]
   have h1:=c.toNat_lt
   have h2:c.toNat<2^i:=Nat.lt_of_lt_of_le (by omega:c.toNat<2^8) (Nat.pow_le_pow_right (by decide) (by omega))
   rw[Nat.testBit_lt_two_pow h2,Bool.and_false]
  rw[this];simp
theorem ch6(P:List UInt8)(p:Nat):yX P p 8=(w8 (P[p]?.getD 0)<<<56)^^^(w8 (P[p+1]?.getD 0)<<<48)^^^(w8 (P[p+2]?.getD 0)<<<40)^^^(w8 (P[p+3]?.getD 0)<<<32)^^^
  (w8 (P[p+4]?.getD 0)<<<24)^^^(w8 (P[p+5]?.getD 0)<<<16)^^^(w8 (P[p+6]?.getD 0)<<<8)^^^w8 (P[p+7]?.getD 0):=by
 have hs:∀j,yX P p (j+1)=(yX P p j<<<8)^^^w8 (P[p+j]?.getD 0):=fun j=>bD6 _ _
 have h0:yX P p 0=0#64:=rfl
 rw[hs 7,hs 6,hs 5,hs 4,hs 3,hs 2,hs 1,hs 0,h0,Nat.add_zero]
 simp only[BitVec.shiftLeft_xor_distrib,<-BitVec.shiftLeft_add,BitVec.zero_shiftLeft,BitVec.zero_xor]
theorem Qm(P:List UInt8)(p:Nat)(x:W5)(h:p+8<=P.length):takes ⟨x,0⟩ ((P.drop p).take 8)=⟨jy { x with a:=x.a^^^yX P p 8 },0⟩:=by
 have e:(P.drop p).take 8=[P[p]?.getD 0,P[p+1]?.getD 0,P[p+2]?.getD 0,P[p+3]?.getD 0,P[p+4]?.getD 0,P[p+5]?.getD 0,P[p+6]?.getD 0,P[p+7]?.getD 0]:=by
  apply List.ext_getElem?
  intro i
  by_cases hi:i<8
  ·rw[List.getElem?_take_of_lt hi,List.getElem?_drop]
   have hg:∀j,j<8->P[p+j]?=some (P[p+j]?.getD 0):=by
    intro j hj;rw[List.getElem?_eq_getElem (by omega)];rfl
   match i,hi with
   |0,_=>exact hg 0 (by decide)
   |1,_=>exact hg 1 (by decide)
   |2,_=>exact hg 2 (by decide)
   |3,_=>exact hg 3 (by decide)
   |4,_=>exact hg 4 (by decide)
   |5,_=>exact hg 5 (by decide)
   |6,_=>exact hg 6 (by decide)
   |7,_=>exact hg 7 (by decide)
   |n+8,h8=>omega
  ·rw[List.getElem?_take,if_neg hi,List.getElem?_eq_none (by simp;omega)]
 rw[e,ch6]
 simp only[takes,List.foldl,takeB]
 simp[BitVec.xor_assoc]
theorem Br(P:List UInt8):∀k,8*k<=P.length->takes gJ (P.take (8*k))=⟨tJ P k,0⟩
 |0,_=>rfl
 |k+1,h=>by
  have e:P.take (8*(k+1))=P.take (8*k)++(P.drop (8*k)).take 8:=by
   rw[show 8*(k+1)=8*k+8 by omega,List.take_add]
  rw[e,jE,Br P k (by omega),Qm P (8*k) _ (by omega)]
  rfl
theorem bb9:w8 0=0#64:=by decide
theorem Um(x:W5)(a:Nat):takeB ⟨x,a⟩ 0=if a=7 then⟨jy x,0⟩else⟨x,a+1⟩:=by
 unfold takeB
 simp only[bb9,BitVec.zero_shiftLeft,BitVec.xor_zero]
theorem DV:∀(n:Nat) (x:W5) (a:Nat),a+n=8->0<n->takes ⟨x,a⟩ (List.replicate n 0)=⟨jy x,0⟩
 |0,_,_,_,h=>by omega
 |n+1,x,a,h,_=>by
  rw[List.replicate_succ]
  show takes (takeB ⟨x,a⟩ 0) (List.replicate n 0)=_
  rw[Um]
  by_cases h7:a=7
  ·have:n=0:=by omega
   subst this
   rw[if_pos h7];rfl
  ·rw[if_neg h7]
   exact DV n x (a+1) (by omega) (by omega)
theorem MP(l:List UInt8):∀s:Sp,s.at_<=7->(takes s l).at_=(s.at_+l.length)%8:=by
 induction l with
 |nil=>intro s h;show s.at_=(s.at_+0)%8;omega
 |cons c l ih=>
  intro s h
  show(takes (takeB s c) l).at_=_
  rw[ih _ (Qk s c h)]
  have e:(takeB s c).at_=(s.at_+1)%8:=by
   unfold takeB
   by_cases h7:s.at_=7
   ·simp[h7]
   ·simp[h7];omega
  rw[e,List.length_cons]
  omega
theorem aA4(l:List UInt8)(n K:Nat)(h:l.length+1+n=8*K)(hn:n<=7):tJ (l++[128]++List.replicate n 0) K=mE 1 (oJ (takes gJ l)):=by
 have h1:=Br (l++[128]++List.replicate n 0) K (by simp;omega)
 rw[List.take_of_length_le (by simp;omega),jE,jE]at h1
 have hat:=MP l gJ (by decide)
 generalize hs:takes gJ l=s at*
 have ha:s.at_+n=7:=by
  have:gJ.at_=0:=rfl
  rw[this]at hat
  omega
 have e:takes s [128]=takeB s 128:=rfl
 have hl:(⟨(oJ s),s.at_+1⟩:Sp)=⟨{ s.x with a:=s.x.a^^^(w8 128<<<(56-8*s.at_)) },s.at_+1⟩:=by
  unfold oJ;rw[show w8 128=0x80#64 by decide]
 rw[e]at h1
 unfold takeB at h1
 by_cases h7:s.at_=7
 ·have:n=0:=by omega
  subst this
  rw[if_pos h7]at h1
  have h2:jy { s.x with a:=s.x.a^^^(w8 128<<<(56-8*s.at_)) }=tJ (l++[128]++List.replicate 0 0) K:=congrArg Sp.x h1
  rw[<-h2]
  show _=jy (oJ s)
  unfold oJ;rw[show w8 128=0x80#64 by decide]
 ·rw[if_neg h7,<-hl,DV n _ _ (by omega) (by omega)]at h1
  exact(congrArg Sp.x h1).symm
end
section
theorem aW1(x:W5)(i:Nat)(hi:i<32):(outs x)[i]?=some (uy (mE (i / 8+1) x).a (i%8)):=by
 unfold outs
 rw[List.getElem?_map,List.getElem?_range hi]
 rfl
theorem rturn_32(w:World):Calls Tryz.prog 66 #[.agg #[.int .u64 32,.int .u64 0,.int .u64 0,.int .u64 0,.int .u64 0]] w fun e w'=>e=.returned (V5 (jy ⟨32,0,0,0,0⟩))/\Below w.heap.size w w':=
 Da ⟨32,0,0,0,0⟩ w
theorem Y1(P:List UInt8):tJ P 0=jy ⟨32,0,0,0,0⟩:=rfl
def lenOf:Value->Nat| .slice _ l _=>l|_=>0
def padded(l:List UInt8)(n:Nat):List UInt8:=l++[128]++List.replicate n 0
theorem og(l:List UInt8)(n:Nat):(padded l n).length=l.length+1+n:=by simp[padded];omega
theorem Pp(l:List UInt8)(n:Nat):padded l n++[0]=padded l (n+1):=by
 unfold padded;rw[List.append_assoc,List.replicate_succ']
theorem Pq(l:List UInt8):padded l 0=l++[128]:=by simp[padded]
attribute [local go_sem] EO be2 Z7
theorem aC2 (a : Option Addr) (len cap : Nat) (bs : List UInt8) (w : World) (hp : fP w a len bs) (hnil : a = none -> cap = 0) (hbs : bs.length <= 140737488355000) :
    Calls Tryz.prog 43 #[.slice a len cap] w fun e w' => e = .returned (HV (zP bs)) /\ Below w.heap.size w w' := by
  have hlen := hp.len_eq
  subst hlen
  have HP := Lib.hid hp; have cm3 := Lib.hid hnil
  clear hp hnil
  go_enter Tryz.func43, Tryz.ntmps43
  go_wp2_with (first
    | (at_builtin
       refine eF rfl (.tmp 10) (.tmp 11) 35 rfl (w.heap.size + 1) 5 Tryz.underlying35 info8 (.slice (some ⟨w.heap.size + 1, 0, none⟩) 0 0) [] rfl ?c1 _ _ _ bs rfl ?c2 ?c3 ?c4 ?c5 ?_
       case c1 => exact iA.yN [] _ rfl (by simp) rfl (by simp) (Db _ (by simp))
       case c2 => exact HP.out.below (((Below.refl _ _).alloc (Nat.le_refl _) _).alloc (by simp) _)
       case c3 => exact cm3.out
       case c4 => simp; omega
       case c5 => simp
       intro v1 w1 hown1 hg1 hb1
       have hsz1 := hg1.size
       have HO1 := Lib.hid hown1; have HB1 := Lib.hid hb1
       clear hown1 hg1 hb1)
    | (at_builtin
       refine eF rfl (.tmp 12) (.tmp 13) 35 rfl (w.heap.size + 1) 5 Tryz.underlying35 info8 v1 bs rfl ?d1 _ _ _ [128] rfl ?d2 ?d3 ?d4 ?d5 ?_
       case d1 => exact HO1.out.below ((Below.refl _ _).alloc (Nat.le_refl _) _)
       case d2 => exact fP.yN [128] _ rfl rfl rfl (Db _ (by simp))
       case d3 => exact fun e => by cases e
       case d4 => simp; omega
       case d5 => simp at hsz1 ⊢; omega
       intro v2 w2 hown2 hg2 hb2
       have hsz2 := hg2.size
       have HO2 := Lib.hid hown2; have HB2 := Lib.hid hb2
       clear hown2 hg2 hb2))
  have hz0 : w.heap.size + 2 <= w1.heap.size := by simp at hsz1; omega
  have hb1 := (((Below.refl (w.heap.size + 1) _).alloc (by simp) _).trans HB1.out)
  have hb2 := (hb1.alloc (by omega) _).trans HB2.out
  have hR2 := ((aM.newAt (w := w) (g := w.heap.size) _ 28 rfl).copy (cs' := HC (List.replicate 32 0)) (by rfl)).below hb2 (by omega)
  have hB2 := ((Below.refl w.heap.size w).alloc (Nat.le_refl _) _).lift hb2 (by omega)
  have hz2 : w.heap.size + 3 <= w2.heap.size := by simp at hsz2; omega
  have HR := Lib.hid hR2; have HB := Lib.hid hB2
  clear hb1 hb2 hR2 hB2 HB1 HB2 HO1 hsz1 hsz2 hz0
  obtain ⟨g2, cap2, rfl, cr3, cr4, cq5, cq6⟩ := HO2.out.aQ6 (bs.length + 1) (by simp) (by omega)
  go_loopw [3] (fun b wr => ∃ (n N g cp : Nat), b = .slice (some ⟨g, 0, none⟩) N cp /\ N = bs.length + 1 + n /\ n <= (8 - (bs.length + 1) % 8) % 8 /\ iA wr (w.heap.size + 1) 5 b (padded bs n) /\
      aM wr w.heap.size (HC (List.replicate 32 0)) 28 /\ Below w.heap.size w wr /\ w.heap.size + 3 <= wr.heap.size) (fun b _ => bs.length + 9 - lenOf b)
  case atStart => exact ⟨0, bs.length + 1, g2, cap2, by simp, by omega, by omega, by rw [Pq]; exact HO2.out, HR.out, HB.out, hz2⟩
  case round =>
    obtain ⟨n, N, g, cp, rfl, hN, hn, hO, hR, hB, hz⟩ := hrel
    clear HO2 HR HB hz2 cr3 cr4 cq5 cq6
    have HN := Lib.hid hN
    by_cases h8 : N % 8 = 0
    · have ht : (((N : Nat) : Int) % 8 != 0) = false := by simp; omega
      have HO := Lib.hid hO; have HR := Lib.hid hR; have HB := Lib.hid hB; have H8 := Lib.hid h8
      clear hO hR hB h8 hN
      go_wp2_with fail
      refine (rturn_32 _).mono ?_
      rintro e w3 ⟨rfl, b3⟩
      have bB1 := Y1 (padded bs n)
      generalize jy ⟨32, 0, 0, 0, 0⟩ = z00 at bB1 ⊢
      have hO3 := HO.out.below b3
      have VA := HR.out.keep b3
      have hB3 := HB.out.lift b3 (by omega)
      have hz3 := b3.size
      have hK : ∃ K, N = 8 * K := ⟨N / 8, by have := H8.out; omega⟩
      obtain ⟨K, hK⟩ := hK
      have hNb : N <= 140737488355010 := by have := HN.out; omega
      have hn7 : n <= 7 := by omega
      have hsum : mE 1 (oJ (takes gJ bs)) = tJ (padded bs n) K := (aA4 bs n K (by have := HN.out; omega) hn7).symm
      have cn0 := Lib.hid bB1; clear bB1
      have hP : (padded bs n).length = N := by rw [og]; have := HN.out; omega
      generalize padded bs n = P at *
      have QL := Lib.hid hO3; have HR3 := Lib.hid VA; have HB3 := Lib.hid hB3; have HS := Lib.hid hsum; have HK := Lib.hid hK; have HP3 := Lib.hid hP
      clear hO3 VA hB3 hsum hK hP HO HR HB b3 H8 HN ht
      go_wp2_with fail
      have hgX : g < w3.heap.size := (World.ownsRow.lt QL.out g rfl).2
      refine zR (fun w4 hw4 => ?_)
      have hX4 : aM w4 w3.heap.size (C5 (tJ P 0)) 128 := by rw [hw4, cn0.out]; exact aM.new _ _ _
      have hO4 : iA w4 (w.heap.size + 1) 5 (.slice (some ⟨g, 0, none⟩) N cp) P := by rw [hw4]; exact World.ownsRow.alloc QL.out _
      have hR4 : aM w4 w.heap.size (HC (List.replicate 32 0)) 28 := by rw [hw4]; exact HR3.out.alloc _
      have hB4 : Below w.heap.size w w4 := by rw [hw4]; exact HB3.out.alloc (by omega) _
      have hz4 : w.heap.size + 3 <= w3.heap.size := by omega
      clear hw4 QL HR3 HB3
      generalize w3.heap.size = X at *
      have HX := Lib.hid hX4; have HO := Lib.hid hO4; have HR := Lib.hid hR4; have HB := Lib.hid hB4
      clear hX4 hO4 hR4 hB4
      go_loopw [5, 6, 7] (fun i _ _ wr => ∃ k : Nat, 8 * k <= N /\ i = .int .i64 (8 * (k : Int)) /\ aM wr X (C5 (tJ P k)) 128 /\ iA wr (w.heap.size + 1) 5 (.slice (some ⟨g, 0, none⟩) N cp) P /\
          aM wr w.heap.size (HC (List.replicate 32 0)) 28 /\ Below w.heap.size w wr) (fun i _ _ _ => N - (intOf i).toNat)
      case atStart => exact ⟨0, by omega, by simp, HX.out, HO.out, HR.out, HB.out⟩
      case round =>
        obtain ⟨k, hk, rfl, hX, hO, hR, hB⟩ := hrel
        clear HX HO HR HB
        have hzX := hX.lt
        by_cases hlt : 8 * k < N
        · have hle : 8 * k + 8 <= N := by have := HK.out; omega
          have hrow := iA.row hO (by rw [HP3.out]; simp only [maxLen]; omega) HP3.out.symm
          have hcell : ∀ j, j < 8 -> ∃ c : UInt8, P[8 * k + j]? = some c /\ wr.cell? ⟨g, 8 * k + j, none⟩ = some (.int .u8 (Bt c)) := by
            intro j hj
            rcases hrow.cells with h1 | ⟨b, off, h1, h2⟩
            · exfalso; have := HP3.out; rw [h1] at this; simp at this; omega
            · injection h1 with h1
              injection h1 with h1 h3
              subst h1 h3
              have hi : 8 * k + j < P.length := by rw [HP3.out]; omega
              exact ⟨P[8 * k + j], List.getElem?_eq_getElem hi, by have := h2 (8 * k + j) hi; rwa [Nat.zero_add] at this⟩
          have HX := Lib.hid hX; have HO := Lib.hid hO; have HR := Lib.hid hR; have HB := Lib.hid hB; have HC0 := Lib.hid hcell
          clear hX hO hR hB hrow hcell
          go_wp2_with fail
          go_loop [6, 7] (fun x j => ∃ m : Nat, m <= 8 /\ j = .int .i64 m /\ x = .int .u64 (U (yX P (8 * k) m))) (fun _ j => 8 - (intOf j).toNat)
          case atStart => exact ⟨0, by omega, rfl, rfl⟩
          case round =>
            obtain ⟨m, hm, rfl, rfl⟩ := hrel
            by_cases bA6 : m < 8
            · obtain ⟨c, hPc, hcell⟩ := HC0.out m bA6
              have hw8 : IntKind.u64.wrap (Bt c) = Bt c := IntWalk.u64_in _ (by have := Nh c; omega)
              have HPC := Lib.hid hPc; clear hPc
              go_wp2
              go_round
              case rel => exact ⟨m + 1, by omega, by go_num, by show _ = Value.int .u64 (U ((yX P (8 * k) m <<< 8) ||| w8 (P[8 * k + m]?.getD 0))); rw [HPC.out]; rfl⟩
              case measure => simp [intOf]; omega
            · obtain rfl : m = 8 := by omega
              obtain ⟨c0, c1, c2, c3, c4⟩ := HX.out.five
              have f := HX.out.frozen
              generalize hw8 : yX P (8 * k) 8 = wd
              have HWD := Lib.hid hw8; clear hw8
              go_wp2_with fail
              refine (Da { tJ P k with a := (tJ P k).a ^^^ wd } _).mono ?_
              rintro e w5 ⟨rfl, b5⟩
              have hr5 : tJ P (k + 1) = jy { tJ P k with a := (tJ P k).a ^^^ wd } := by rw [<- HWD.out]; rfl
              have hX5 := (HX.out.set 0 (.int .u64 (U ((tJ P k).a ^^^ wd)))).keep b5
              have hg1 : wr.grownBy (wr.setCell ⟨X, 0, none⟩ (.int .u64 (U ((tJ P k).a ^^^ wd)))) (some X) := ay (bH _ _) _ _
              have hO5 := (iA.kept HO.out hg1 (.inr (by simp [Value.ownBlock]; omega))).below b5
              have hR5 := (HR.out.other ⟨X, 0, none⟩ (.int .u64 (U ((tJ P k).a ^^^ wd))) (by simp; omega)).keep b5
              have hB5 := (HB.out.setCell (p := ⟨X, 0, none⟩) (by simp; omega) (.int .u64 (U ((tJ P k).a ^^^ wd)))).lift b5 (by simp; omega)
              generalize jy { tJ P k with a := (tJ P k).a ^^^ wd } = z at *
              have f5 := hX5.frozen
              have d0 := hX5.cell 0
              have d1 := hX5.cell 1
              have d2 := hX5.cell 2
              have d3 := hX5.cell 3
              have d4 := hX5.cell 4
              simp at d0 d1 d2 d3 d4
              have HX5 := Lib.hid hX5; have HO5 := Lib.hid hO5; have HR5 := Lib.hid hR5; have HB5 := Lib.hid hB5; have HR6 := Lib.hid hr5
              clear hX5 hO5 hR5 hB5 hr5 hg1 b5 HX HO HR HB HC0 c0 c1 c2 c3 c4 f HWD
              go_wp2
              go_roundw
              case rel =>
                have gs : w5.grownBy (((((w5.setCell ⟨X, 0, none⟩ (.int .u64 (U z.a))).setCell ⟨X, 1, none⟩ (.int .u64 (U z.b))).setCell ⟨X, 2, none⟩ (.int .u64 (U z.c))).setCell ⟨X, 3, none⟩ (.int .u64 (U z.d))).setCell ⟨X, 4, none⟩ (.int .u64 (U z.e))) (some X) :=
                  ay (ay (ay (ay (ay (bH _ _) _ _) _ _) _ _) _ _) _ _
                refine ⟨k + 1, by omega, by go_num, ?_, iA.kept HO5.out gs (.inr (by simp [Value.ownBlock]; omega)), HR5.out.LD (by omega) _ _ _ _ _, nM HB5.out (by omega) _ _ _ _ _⟩
                rw [HR6.out]
                exact (((((HX5.out.set 0 _).set 1 _).set 2 _).set 3 _).set 4 _).copy (by simp)
              case measure => simp [intOf]; omega
        · have hkK : k = K := by have := HK.out; omega
          subst hkK
          have HX := Lib.hid hX; have HR := Lib.hid hR; have HB := Lib.hid hB
          clear hX hO hR hB
          go_wp2_with (refine wpList_store_row rfl 28 _ _ rfl wr.heap.size dU rfl rfl 28 dU (aM.newAt _ _ rfl) aJ5 rfl zone ?_)
          refine zR (fun w6 hw6 => ?_)
          have hX6 : aM w6 X (C5 (mE (0 / 8 + 1) (oJ (takes gJ bs)))) 128 := by
            rw [hw6, show 0 / 8 + 1 = 1 from rfl, HS.out]; exact (HX.out.alloc _).Gs _ (by omega)
          have hR6 : aM w6 w.heap.size (HC (List.replicate 32 0)) 28 := by
            rw [hw6]; exact (HR.out.alloc _).Gs _ (by omega)
          have hB6 : Below w.heap.size w w6 := by
            rw [hw6]; exact below_setRow (HB.out.alloc (by omega) _) _ (by omega)
          have hH6 : aM w6 wr.heap.size (HC (front (zP bs) 0)) 28 := by
            rw [hw6]; exact ((aM.new _ _ _).setRow dU).copy (by rw [FL, zT])
          clear hw6 HX HR HB
          have hXH : X ≠ wr.heap.size := by omega
          generalize wr.heap.size = H at *
          have HX := Lib.hid hX6; have HR := Lib.hid hR6; have HB := Lib.hid hB6; have HH := Lib.hid hH6
          clear hX6 hR6 hB6 hH6
          generalize hL : oJ (takes gJ bs) = L at *
          have bl8 : zP bs = outs L := by unfold zP uE; rw [hL]
          have HL := Lib.hid hL; have HSL := Lib.hid bl8
          clear hL bl8
          go_loopw [9] (fun i wr => ∃ q : Nat, q <= 32 /\ i = .int .i64 q /\ aM wr X (C5 (mE (q / 8 + 1) L)) 128 /\ aM wr H (HC (front (zP bs) q)) 28 /\
              aM wr w.heap.size (HC (List.replicate 32 0)) 28 /\ Below w.heap.size w wr) (fun i _ => 32 - (intOf i).toNat)
          case atStart => exact ⟨0, by omega, rfl, HX.out, HH.out, HR.out, HB.out⟩
          case round =>
            obtain ⟨q, hq, rfl, hX, hH, hR, hB⟩ := hrel
            clear HX HH HR HB
            have hzH := hH.lt
            by_cases hlt : q < 32
            · obtain ⟨m, hm⟩ : ∃ m : Nat, m = q % 8 := ⟨_, rfl⟩
              have hm7 : m <= 7 := by omega
              have hqm : ((q : Nat) : Int) % 8 = (m : Int) := by omega
              obtain ⟨s1, s2, s3, s4, s5⟩ := rW m hm7
              have hget := aW1 L q hlt
              rw [<- hm] at hget
              have hfs := JK (zP bs) q (bG _) hlt _ (by rw [HSL.out]; exact hget)
              obtain ⟨ov, hov⟩ := Fe hH (bG _) hlt
              have fH := hH.frozen
              generalize hy : mE (q / 8 + 1) L = y at *
              have hwb := D5 y.a m
              have hw64 : IntKind.u64.wrap (56 - 8 * (m : Int)) = 56 - 8 * (m : Int) := IntWalk.u64_in _ (by omega)
              obtain ⟨c0, c1, c2, c3, c4⟩ := hX.five
              have HX := Lib.hid hX; have HH := Lib.hid hH; have HR := Lib.hid hR; have HB := Lib.hid hB
              have HF := Lib.hid hfs; have HY := Lib.hid hy; have HM := Lib.hid hm
              clear hX hH hR hB hfs hy hm hget
              by_cases h7 : m = 7
              · have ht7 : ((m : Int) == 7) = true := by rw [h7]; rfl
                have H7 := Lib.hid h7; clear h7
                go_wp2_with fail
                refine (Da y _).mono ?_
                rintro e w7 ⟨rfl, b7⟩
                have hX7 := (HX.out.other ⟨H, q, none⟩ (.int .u8 (Bt (uy y.a m))) hXH).keep b7
                have hH7 := ((HH.out.set q (.int .u8 (Bt (uy y.a m)))).keep b7).copy (cs' := HC (front (zP bs) (q + 1))) (by rw [KX, HF.out])
                have hR7 := (HR.out.other ⟨H, q, none⟩ (.int .u8 (Bt (uy y.a m))) (by simp; omega)).keep b7
                have hB7 := (HB.out.setCell (p := ⟨H, q, none⟩) (by simp; omega) (.int .u8 (Bt (uy y.a m)))).lift b7 (by simp; omega)
                have hy7 : mE ((q + 1) / 8 + 1) L = jy y := by
                  have := HM.out; have := H7.out
                  rw [show (q + 1) / 8 + 1 = (q / 8 + 1) + 1 by omega]
                  show jy (mE (q / 8 + 1) L) = _
                  rw [HY.out]
                generalize jy y = z at *
                have f7 := hX7.frozen
                have d0 := hX7.cell 0
                have d1 := hX7.cell 1
                have d2 := hX7.cell 2
                have d3 := hX7.cell 3
                have d4 := hX7.cell 4
                simp at d0 d1 d2 d3 d4
                have HX7 := Lib.hid hX7; have HH7 := Lib.hid hH7; have HR7 := Lib.hid hR7; have HB7 := Lib.hid hB7; have HY7 := Lib.hid hy7
                clear hX7 hH7 hR7 hB7 hy7 b7 HX HH HR HB HF HY HM H7 c0 c1 c2 c3 c4 fH hov hwb s1 s2 s3 s4 s5 hw64
                go_wp2
                go_roundw
                case rel =>
                  refine ⟨q + 1, by omega, by go_num, ?_, HH7.out.LD (Ne.symm hXH) _ _ _ _ _, HR7.out.LD (by omega) _ _ _ _ _, nM HB7.out (by omega) _ _ _ _ _⟩
                  rw [HY7.out]
                  exact (((((HX7.out.set 0 _).set 1 _).set 2 _).set 3 _).set 4 _).copy (by simp)
                case measure => simp [intOf]; omega
              · have ht7 : ((m : Int) == 7) = false := by rw [beq_eq_false_iff_ne]; omega
                have H7 := Lib.hid h7; clear h7
                go_wp2
                go_roundw
                case rel =>
                  refine ⟨q + 1, by omega, by go_num, ?_, (HH.out.set _ _).copy (by rw [KX, HF.out]), HR.out.other _ _ (by simp; omega), HB.out.setCell (by simp; omega) _⟩
                  have hy7 : mE ((q + 1) / 8 + 1) L = y := by
                    have := HM.out; have := H7.out
                    rw [show (q + 1) / 8 + 1 = q / 8 + 1 by omega]
                    exact HY.out
                  rw [hy7]
                  exact HX.out.other _ _ hXH
                case measure => simp [intOf]; omega
            · obtain rfl : q = 32 := by omega
              have hH' : aM wr H (HC (zP bs)) 28 := hH.copy (by rw [JJ _ (bG _)])
              have hsz : (Tryz.prog.info? 28).map (·.size) = some (HC (zP bs)).size := by rw [dO, bG]; kernel_rfl
              have hsz2 : (HC (List.replicate 32 0)).size = (HC (zP bs)).size := by rw [dO, dO, bG]; rfl
              generalize hout : zP bs = out at *
              have HO := Lib.hid hout
              have HH := Lib.hid hH'; have HR := Lib.hid hR; have HB := Lib.hid hB; have S1 := Lib.hid hsz; have S2 := Lib.hid hsz2
              clear hX hH hH' hR hB hsz hsz2 hout
              go_wp2_with (first
                | (refine wpList_load_row rfl 28 _ rfl H rfl 28 (HC out) (0, 0) _ HH.out Tryz.underlying28 rfl S1.out ?_)
                | (refine wpList_store_row rfl 28 _ _ rfl w.heap.size (HC out) rfl rfl 28 (HC (List.replicate 32 0)) HR.out S1.out S2.out (wh _) ?_))
              exact bodyPost_ret (v := HV out) (results_cell_row rfl _ _ w.heap.size _ _ (0, 0) _ rfl (HR.out.setRow _) Tryz.underlying28 rfl S1.out) rfl
                ⟨by rw [HO.out], below_setRow HB.out _ (Nat.le_refl _)⟩
    · have ht : (((N : Nat) : Int) % 8 != 0) = true := by simp; omega
      have HO := Lib.hid hO; have HR := Lib.hid hR; have HB := Lib.hid hB; have H8 := Lib.hid h8
      clear hO hR hB h8 hN
      go_wp2_with (at_builtin
                   refine eF rfl (.tmp 19) (.tmp 20) 35 rfl (w.heap.size + 1) 5 Tryz.underlying35 info8 (.slice (some ⟨g, 0, none⟩) N cp) (padded bs n) rfl ?e1 _ _ _ [0] rfl ?e2 ?e3 ?e4 ?e5 ?_
                   case e1 => exact HO.out.below ((Below.refl _ _).alloc (Nat.le_refl _) _)
                   case e2 => exact fP.yN [0] _ rfl rfl rfl (Db _ (by simp))
                   case e3 => exact fun e => by cases e
                   case e4 => rw [og]; simp; omega
                   case e5 => simp; omega
                   intro v3 w3 hown3 hg3 hb3
                   have aR3 := hg3.size
                   have QL := Lib.hid hown3; have HB3 := Lib.hid hb3
                   clear hown3 hg3 hb3)
      go_roundw
      case rel =>
        obtain ⟨g3, bM9, rfl, cr5, cr6, cq7, cq8⟩ := QL.out.aQ6 (N + 1) (by simp [og]; have := HN.out; omega) (by omega)
        refine ⟨n + 1, N + 1, g3, bM9, rfl, by have := HN.out; omega, by have := HN.out; have := H8.out; omega, ?_, (HR.out.alloc _).below HB3.out (by omega), (HB.out.alloc (by omega) _).lift HB3.out (by omega), ?_⟩
        · rw [<- Pp]; exact QL.out
        · simp at aR3; omega
      case measure =>
        obtain ⟨g3, bM9, rfl, cr5, cr6, cq7, cq8⟩ := QL.out.aQ6 (N + 1) (by simp [og]; have := HN.out; omega) (by omega)
        have := HN.out; have := H8.out
        simp [lenOf]
        omega
end
section
theorem PN (key : List UInt8) (hh : key.length = 32) (s : ByteArray) (a : Option Addr) (l c : Nat) (bs : List UInt8) (w : World) (hp : fP w a l bs) (hnil : a = none -> c = 0) (hs : s.size + bs.length <= 140737488354000) :
    Calls Tryz.prog 22 #[HV key, .string s, .slice a l c] w fun e w' => e = .returned (HV (aD key (sb s) bs)) /\ Below w.heap.size w w' := by
  have hsm : s.size <= maxLen := by simp only [maxLen]; omega
  have hsl := tQ s
  obtain ⟨out, hout⟩ : ∃ out, aD key (sb s) bs = out := ⟨_, rfl⟩
  have hol : out.length = 32 := by rw [<- hout]; exact bG _
  have hsz : (Tryz.prog.info? 28).map (·.size) = some (HC out).size := by rw [dO, hol]; kernel_rfl
  have hsz2 : dU.size = (HC out).size := by rw [dO, hol]; rfl
  have hwl := QF s.size
  have HP := Lib.hid hp; have HN := Lib.hid hnil; have HO := Lib.hid hout; have S1 := Lib.hid hsz; have S2 := Lib.hid hsz2; have HSM := Lib.hid hsm; have HSL := Lib.hid hsl; have HH := Lib.hid hh; have HS := Lib.hid hs
  clear hp hnil hout hsz hsz2 hsm hsl hh hs hol
  unfold HV
  go_enter Tryz.func22, Tryz.ntmps22
  have kc := fun w' => Lib.run_convert_string_bytes (P := Tryz.prog) w' 9 35 5 s Tryz.underlying9 Tryz.underlying35 Tryz.underlying5
  go_wp2_with (first
    | (at_builtin
       refine eF rfl (.tmp 8) (.tmp 9) 35 rfl (w.heap.size + 2) 5 Tryz.underlying35 info8 (.slice (some ⟨w.heap.size + 2, 0, none⟩) 0 0) [] rfl ?c1 _ _ _ key rfl ?c2 ?c3 ?c4 ?c5 ?_
       case c1 => exact iA.yN [] _ rfl (by simp) rfl (by simp) (Db _ (by simp))
       case c2 => exact fP.Gm (t := 28) (((aM.new w _ _).alloc _).alloc _) (by rw [HH.out]; decide) 32 HH.out.symm
       case c3 => exact fun e => by cases e
       case c4 => rw [HH.out]; decide
       case c5 => simp
       intro v1 w1 hown1 hg1 hb1
       have Vz : aM w1 (w.heap.size + 1) dU 28 := (((aM.newAt (w := w.alloc _) dU 28 (by simp)).alloc _)).below hb1 (by omega)
       have hB1 : Below w.heap.size w w1 := ((((Below.refl _ _).next (Nat.le_refl _) _).next (Nat.le_refl _) _).next (Nat.le_refl _) _).trans (hb1.mono (by omega))
       have hz1 : w.heap.size + 2 <= w1.heap.size := by have := hg1.size; simp at this; omega
       have HO1 := Lib.hid hown1; have HR1 := Lib.hid Vz; have HB1 := Lib.hid hB1; have HZ1 := Lib.hid hz1
       clear hown1 hg1 hb1 Vz hB1 hz1)
    | (at_builtin
       refine eF rfl (.tmp 10) (.tmp 14) 35 rfl (w.heap.size + 2) 5 Tryz.underlying35 info8 v1 ([] ++ key) rfl ?d1 _ _ _ [UInt8.ofNat s.size] rfl ?d2 ?d3 ?d4 ?d5 ?_
       case d1 => exact HO1.out.below ((Below.refl _ _).next (Nat.le_refl _) _)
       case d2 => exact fP.yN [UInt8.ofNat s.size] _ rfl rfl rfl (Db _ (by simp))
       case d3 => exact fun e => by cases e
       case d4 => simp [HH.out]
       case d5 => have := HZ1.out; simp; omega
       intro v2 w2 hown2 hg2 hb2
       have hR2 : aM w2 (w.heap.size + 1) dU 28 := (HR1.out.alloc _).below hb2 (by omega)
       have hB2 : Below w.heap.size w w2 := (HB1.out.next (Nat.le_refl _) _).trans (hb2.mono (by omega))
       have hz2 : w.heap.size + 2 <= w2.heap.size := by have h1 := hg2.size; rw [size_alloc] at h1; have := HZ1.out; omega
       have HO2 := Lib.hid hown2; have HR2 := Lib.hid hR2; have HB2 := Lib.hid hB2; have HZ2 := Lib.hid hz2
       clear hown2 hg2 hb2 hR2 hB2 hz2)
    | (at_builtin
       refine eF rfl (.tmp 16) (.tmp 18) 35 rfl (w.heap.size + 2) 5 Tryz.underlying35 info8 v2 ([] ++ key ++ [UInt8.ofNat s.size]) rfl ?e1 _ _ _ (sb s) rfl ?e2 ?e3 ?e4 ?e5 ?_
       case e1 => exact HO2.out.below (rA _ _ _)
       case e2 => exact fP.ofBytes _ _ _ HSM.out
       case e3 => exact fun e => by cases e
       case e4 => have := HS.out; simp [HH.out, HSL.out]; omega
       case e5 => have := HZ2.out; rw [Lib.bytesWorld_size]; omega
       intro v3 w3 hown3 hg3 hb3
       have VA : aM w3 (w.heap.size + 1) dU 28 := (HR2.out.keep (rA _ _ _)).below hb3 (by omega)
       have hB3 : Below w.heap.size w w3 := (HB2.out.later (rA _ _ _) (Nat.le_refl _)).trans (hb3.mono (by omega))
       have hz3 : w.heap.size + 2 <= w3.heap.size := by have h1 := hg3.size; rw [Lib.bytesWorld_size] at h1; have := HZ2.out; omega
       have QL := Lib.hid hown3; have HR3 := Lib.hid VA; have HB3 := Lib.hid hB3; have HZ3 := Lib.hid hz3
       clear hown3 hg3 hb3 VA hB3 hz3)
    | (at_builtin
       refine eF rfl (.tmp 19) (.tmp 20) 35 rfl (w.heap.size + 2) 5 Tryz.underlying35 info8 v3 ([] ++ key ++ [UInt8.ofNat s.size] ++ sb s) rfl ?f1 _ _ _ bs rfl ?f2 ?f3 ?f4 ?f5 ?_
       case f1 => exact QL.out
       case f2 => exact HP.out.below HB3.out
       case f3 => exact HN.out
       case f4 => have := HS.out; simp [HH.out, HSL.out]; omega
       case f5 => exact HZ3.out
       intro v4 w4 ao5 hg4 hb4
       have hR4 : aM w4 (w.heap.size + 1) dU 28 := HR3.out.below hb4 (by omega)
       have hB4 : Below w.heap.size w w4 := HB3.out.trans (hb4.mono (by omega))
       have hlen : (((([] ++ key) ++ [UInt8.ofNat s.size]) ++ sb s) ++ bs).length = 33 + s.size + bs.length := by simp [HH.out, HSL.out]; omega
       obtain ⟨g4, cap4, e4, _, _, _, _⟩ := ao5.aQ6 (33 + s.size + bs.length) hlen.symm (by omega)
       subst e4
       have hrow : fP w4 (some ⟨g4, 0, none⟩) (33 + s.size + bs.length) (((([] ++ key) ++ [UInt8.ofNat s.size]) ++ sb s) ++ bs) := ao5.row (by have := HS.out; rw [hlen]; simp only [maxLen]; omega) hlen.symm
       have heq : zP (((([] ++ key) ++ [UInt8.ofNat s.size]) ++ sb s) ++ bs) = out := by rw [<- HO.out]; unfold aD; rw [HSL.out]; simp
       have HRW := Lib.hid hrow; have HR4 := Lib.hid hR4; have HB4 := Lib.hid hB4; have HLN := Lib.hid hlen; have HEQ := Lib.hid heq
       clear hrow hR4 hB4 hlen heq ao5 hg4 hb4)
    | (go_at_call 43; refine (aC2 _ _ cap4 _ _ HRW.out (fun e => by cases e) (by have := HLN.out; have := HS.out; omega)).mono ?_; rintro e w5 ⟨rfl, hb5⟩
       rw [HEQ.out]
       have hR5 := HR4.out.keep hb5
       have hB5 := HB4.out.later hb5 (Nat.le_refl _)
       have HR5 := Lib.hid hR5; have HB5 := Lib.hid hB5
       clear hb5 hR5 hB5)
    | (refine wpList_store_row rfl 28 _ _ rfl (w.heap.size + 1) (HC out) rfl rfl 28 dU HR5.out S1.out S2.out (wh _) ?_))
  exact bodyPost_ret (v := HV out) (results_cell_row rfl _ _ (w.heap.size + 1) _ _ (0, 0) _ rfl (HR5.out.setRow _) Tryz.underlying28 rfl S1.out) rfl
    ⟨by rw [HO.out]; rfl, below_setRow HB5.out _ (by omega)⟩
end
section
open Pm
theorem Bo{a b:Int}(h:a=b):Ending.returned (.int .i64 a)=.returned (.int .i64 b):=by rw[h]
theorem aC1(a:Int)(w:World)(h0:0<=a)(h1:a<2147483579):
  Calls Tryz.prog 107 #[.int .i64 a] w fun e w'=>e=.returned (.bool true)/\w=w':=by
 go_enter Tryz.func107,Tryz.ntmps107
 go_wp2
 go_ret
 exact⟨rfl,rfl⟩
theorem aC0(a:Int)(w:World)(h:¬(0<=a/\a<2147483579)):
  Calls Tryz.prog 107 #[.int .i64 a] w fun e w'=>e=.returned (.bool false)/\w=w':=by
 by_cases h0:0<=a
 ·have h1:¬a<2147483579:=fun h1=>h ⟨h0,h1⟩
  clear h
  go_enter Tryz.func107,Tryz.ntmps107
  go_wp2
  go_ret
  exact⟨rfl,rfl⟩
 ·clear h
  go_enter Tryz.func107,Tryz.ntmps107
  go_wp2
  go_ret
  exact⟨rfl,rfl⟩
theorem mg(a:Int)(w:World):
  Calls Tryz.prog 107 #[.int .i64 a] w fun e w'=>e=.returned (.bool (inB a))/\w=w':=by
 by_cases h:0<=a/\a<2147483579
 ·rw[vH h];exact aC1 a w h.1 h.2
 ·rw[Dp h];exact aC0 a w h
theorem aY4(a b:Int)(h0:0<=a)(h1:a<2147483579)(h2:0<=b)(h3:b<2147483579):0<=a*b/\a*b<=4611686018427387904:=by
 constructor
 ·exact Int.mul_nonneg h0 h2
 ·have:a*b<=2147483648*2147483648:=Int.mul_le_mul (by omega) (by omega) h2 (by omega)
  omega
theorem Ho(a b:Int)(w:World):
  Calls Tryz.prog 108 #[.int .i64 a,.int .i64 b] w fun e w'=>e=.returned (.int .i64 (eY a b))/\w=w':=by
 by_cases ha:0<=a/\a<2147483579
 ·by_cases hb:0<=b/\b<2147483579
  ·have ia:=vH ha
   have ib:=vH hb
   obtain⟨a0,a1⟩:=ha
   obtain⟨b0,b1⟩:=hb
   obtain⟨m0,m1⟩:=aY4 a b a0 a1 b0 b1
   go_enter Tryz.func108,Tryz.ntmps108
   go_wp2_with (go_at_call 107;refine(mg _ _).mono ?_;rintro e w' ⟨rfl,rfl⟩)
   go_ret
   exact⟨Bo (by unfold eY;rw[if_pos ⟨a0,a1,b0,b1⟩]),rfl⟩
  ·have ia:=vH ha
   have ib:=Dp hb
   have hf:eY a b=0:=AU _ _ (fun⟨_,_,h2,h3⟩=>hb ⟨h2,h3⟩)
   have HF:=Lib.hid hf;clear hf ha hb
   go_enter Tryz.func108,Tryz.ntmps108
   go_wp2_with (go_at_call 107;refine(mg _ _).mono ?_;rintro e w' ⟨rfl,rfl⟩)
   go_ret
   exact⟨Bo HF.out.symm,rfl⟩
 ·have ia:=Dp ha
  have hf:eY a b=0:=AU _ _ (fun⟨h0,h1,_,_⟩=>ha ⟨h0,h1⟩)
  have HF:=Lib.hid hf;clear hf ha
  go_enter Tryz.func108,Tryz.ntmps108
  go_wp2_with (go_at_call 107;refine(mg _ _).mono ?_;rintro e w' ⟨rfl,rfl⟩)
  go_ret
  exact⟨Bo HF.out.symm,rfl⟩
theorem MB(E:Int)(h0:0<=E)(h:E<=1073741789):bits BinOp.and IntKind.i64 E 1=E%2:=by
 obtain⟨n,rfl⟩:=Int.eq_ofNat_of_zero_le h0
 have hb:(BitVec.ofInt 64 (n:Int)).toNat=n:=by
  rw[BitVec.ofInt_natCast,BitVec.toNat_ofNat];exact Nat.mod_eq_of_lt (by omega)
 have h1:(BitVec.ofInt 64 (1:Int)).toNat=1:=by decide
 show IntKind.i64.wrap ((BitVec.ofInt 64 (n:Int)&&&BitVec.ofInt 64 (1:Int)).toNat:Int)=_
 rw[BitVec.toNat_and,hb,h1,Nat.and_one_is_mod]
 exact IntWalk.i64_in _ (by omega)
theorem aB9(b e:Int)(w:World)(h:¬(0<=b/\b<2147483579/\0<=e/\e<=1073741789)):
  Calls Tryz.prog 65 #[.int .i64 b,.int .i64 e] w fun e w'=>e=.returned (.int .i64 0)/\w=w':=by
 by_cases hb:0<=b/\b<2147483579
 ·have ib:=vH hb
  by_cases he:e<0
  ·clear h hb
   go_enter Tryz.func65,Tryz.ntmps65
   go_wp2_with (go_at_call 107;refine(mg _ _).mono ?_;rintro e w' ⟨rfl,rfl⟩)
   go_ret
   exact⟨rfl,rfl⟩
  ·have he2:1073741789<e:=by omega
   clear h hb
   go_enter Tryz.func65,Tryz.ntmps65
   go_wp2_with (go_at_call 107;refine(mg _ _).mono ?_;rintro e w' ⟨rfl,rfl⟩)
   go_ret
   exact⟨rfl,rfl⟩
 ·have ib:=Dp hb
  clear h hb
  go_enter Tryz.func65,Tryz.ntmps65
  go_wp2_with (go_at_call 107;refine(mg _ _).mono ?_;rintro e w' ⟨rfl,rfl⟩)
  go_ret
  exact⟨rfl,rfl⟩
theorem aZ1(b e:Int)(w:World)(hb:0<=b/\b<2147483579)(he:0<=e/\e<=1073741789):
  Calls Tryz.prog 65 #[.int .i64 b,.int .i64 e] w fun e' w'=>e'=.returned (.int .i64 (aJ b e))/\w=w':=by
 have ib:=vH hb
 have HS:=Lib.hid (vD.start hb he)
 have HL:=fun(B Y:Int) (h:vD b e B 0 Y)=>Lib.hid (vD.last hb he h)
 obtain⟨e0,e1⟩:=he
 go_enter Tryz.func65,Tryz.ntmps65
 go_wp2_with (go_at_call 107;refine(mg _ _).mono ?_;rintro e w' ⟨rfl,rfl⟩)
 go_loop [0,1,5] (fun b' e' y'=>∃B E Y:Int,b'=.int .i64 B/\e'=.int .i64 E/\y'=.int .i64 Y/\vD b e B E Y) (fun _ e' _=>(intOf e').toNat)
 case atStart=>exact⟨b,e,1,rfl,rfl,rfl,HS.out⟩
 case round=>
  obtain⟨B,E,Y,rfl,rfl,rfl,HP⟩:=hrel
  obtain⟨x0,x1⟩:=And.intro HP.e0 HP.e1
  have hand:=MB E x0 x1
  by_cases hpos:0<E
  ·by_cases hodd:E%2=1
   ·have HN:=HP.odd hodd
    have ho:=tests.1 hodd
    clear hodd HP ib e0 e1
    go_wp2_with (go_at_call 108;refine(Ho _ _ _).mono ?_;rintro e w' ⟨rfl,rfl⟩)
    go_round
    case rel=>exact⟨_,_,_,rfl,rfl,rfl,HN⟩
    case measure=>simp[intOf];omega
   ·have HN:=HP.even hodd
    have ho:=tests.2 hodd
    clear hodd HP ib e0 e1
    go_wp2_with (go_at_call 108;refine(Ho _ _ _).mono ?_;rintro e w' ⟨rfl,rfl⟩)
    go_round
    case rel=>exact⟨_,_,_,rfl,rfl,rfl,HN⟩
    case measure=>simp[intOf];omega
  ·obtain rfl:E=0:=by omega
   have HY:=HL _ _ HP
   clear ib hand
   go_wp2
   go_ret
   exact⟨Bo HY.out,rfl⟩
theorem PX(b e:Int)(w:World):
  Calls Tryz.prog 65 #[.int .i64 b,.int .i64 e] w fun e' w'=>e'=.returned (.int .i64 (aJ b e))/\w=w':=by
 by_cases h:0<=b/\b<2147483579/\0<=e/\e<=1073741789
 ·exact aZ1 b e w ⟨h.1,h.2.1⟩ h.2.2
 ·rw[Pz _ _ h];exact aB9 b e w h
end
end Go.Proofs.YtegalalmamofdaaGreatDoor
