/- -/
import Derived.Test.YtegalalmamofdaaGreatDoorKWorldGrowsg
import Derived.Test.YtegalalmamofdaaGreatDoorKWorldGrowsi
namespace Go.Proofs.YtegalalmamofdaaGreatDoor
set_option linter.all false
set_option maxRecDepth 100000
open Go.RowKit
set_option maxHeartbeats 8000000
variable{c:CS}{n mu fr dr dr':Int}{l rows:List A}{i o j k N a m T f:Nat}{p q:PS}{b P:List UInt8}{w:World}{z:A}{zs ops:List Int}{L:List Ap}
noncomputable section
open Pm
structure sK(f:FuncId)(args:List A)(K:bC->Prop):Prop where
 out:∃r,aV f args r/\K r
theorem Ac(f:FuncId):∀args K,sK f args K->∃r,aV f args r/\K r:=fun _ _ h=>h.out
theorem sK.mk'{f:FuncId}{args:List A}{r:bC}{K:bC->Prop}(h:aV f args r)(k:K r):sK f args K:=⟨r,h,k⟩
def bv2:ak:=oW.add 95 (sK 95) (Ac 95) (.of Tryz.func95)
def bv3:ak:=bv2.add 97 (sK 97) (Ac 97) (.of Tryz.func97)
def bv4:ak:=bv3.add 96 (sK 96) (Ac 96) (.of Tryz.func96)
def bv5:ak:=bv4.add 98 (sK 98) (Ac 98) (.of Tryz.func98)
def LA:ak:=bv5.add 18 xG (qy BH) (.of Tryz.func18)
def aI0(w:WS):Wc:=⟨w.leaf,w.fr,w.e,w.zs,w.ad,w.k,w.ch,w.box,w.tag⟩
theorem Jh(h:dA c=true)(hc:lS c):jr c<=900000:=by
 unfold dA at h
 simp only[Bool.and_eq_true,Bool.not_eq_true',decide_eq_true_eq]at h
 obtain⟨h1,h2,h3,h4,h5,h6,h7,h8,h9,h10,h11,h12,JQ⟩:=h
 have:=BQ hc.bx
 unfold jr
 omega
theorem yh:kX none=.v (.pointer none):=rfl
theorem tH(p:PS):kX (some p)=.sref (aP p) 0:=rfl
attribute [local irreducible] aN aQ bq aJ aI eY dL bP aD aC aF bn aY aj bR fC fu bT dH jm eG jO bg aZ mI fq eX bJ aT dB jF aK eB dK kG fO bD fG dA bS bE qU Yy Cy NI yF oM yM kX
def dZ(o:Option PS)(i:Int)(b:List UInt8):Int×Option PS:=
 match o with
 |some p=>if Yy b=true then oM p (NI b)else(2,none)
 |none=>if Cy b=true then yM (qU i) (aI0 (yF b))else(2,none)
theorem aX9{po ap:A}(hi:i<8)(hl:l.getD i (.v undef)=.sref (aP p) 0)(hlf:aL p.lf=true)(hb:b.length<=1000000)(hok:Yy b=true):
  bV 56 0 (.var (uf n mu l po ap)) [.v (.int .i64 (i:Nat)),.row b.length [.bytes b.length b]] (.t [kX (oM p (NI b)).2,.v (.int .i64 (oM p (NI b)).1)]) (.var (uf n mu l po ap)):=by
 refine iH (E:=LA) Tryz.func56 Tryz.ntmps56 ?_
 unfold uf
 refine ah ?_
 rw[hl]
 refine ah ?_
 refine sK.mk' (BI b hb) ?_
 unfold A8
 rw[if_pos hok]
 refine ah ?_
 obtain⟨k1,k2,k3,_⟩:=aw0 hok
 refine sK.mk' (TP p (NI b) k2 k3 (Jh k1 k2) hlf) ?_
 refine ah ?_;(try exact⟨⟩)
theorem aX8{po ap:A}(hi:i<8)(hl:l.getD i (.v undef)=.v (.pointer none))(hb:b.length<=1000000)(hok:Cy b=true):
  bV 56 0 (.var (uf n mu l po ap)) [.v (.int .i64 (i:Nat)),.row b.length [.bytes b.length b]] (.t [kX (yM (qU i) (aI0 (yF b))).2,.v (.int .i64 (yM (qU i) (aI0 (yF b))).1)]) (.var (uf n mu l po ap)):=by
 refine iH (E:=LA) Tryz.func56 Tryz.ntmps56 ?_
 unfold uf
 refine ah ?_
 rw[hl]
 refine ah ?_
 refine sK.mk' (yY b hb) ?_
 unfold Bc
 rw[if_pos hok]
 refine ah ?_
 intro h hh
 refine ah ?_
 obtain⟨k1,k2,_⟩:=aw1 hok
 refine sK.mk' (aS6 h (aI0 (yF b)) (yLt k2.box (by decide))) ?_
 refine ah ?_
 rw[hh]
theorem aY1{po ap:A}(hi:i<8)(hl:l.getD i (.v undef)=.sref (aP p) 0)(hb:b.length<=1000000)(hok:Yy b=false):
  bV 56 0 (.var (uf n mu l po ap)) [.v (.int .i64 (i:Nat)),.row b.length [.bytes b.length b]] (.t [.v (.pointer none),.v (.int .i64 2)]) (.var (uf n mu l po ap)):=by
 refine iH (E:=LA) Tryz.func56 Tryz.ntmps56 ?_
 unfold uf
 refine ah ?_
 rw[hl]
 refine ah ?_
 refine sK.mk' (BI b hb) ?_
 unfold A8
 rw[if_neg (by rw[hok];decide)]
 refine ah ?_;(try exact⟨⟩)
theorem aY0{po ap:A}(hi:i<8)(hl:l.getD i (.v undef)=.v (.pointer none))(hb:b.length<=1000000)(hok:Cy b=false):
  bV 56 0 (.var (uf n mu l po ap)) [.v (.int .i64 (i:Nat)),.row b.length [.bytes b.length b]] (.t [.v (.pointer none),.v (.int .i64 2)]) (.var (uf n mu l po ap)):=by
 refine iH (E:=LA) Tryz.func56 Tryz.ntmps56 ?_
 unfold uf
 refine ah ?_
 rw[hl]
 refine ah ?_
 refine sK.mk' (yY b hb) ?_
 unfold Bc
 rw[if_neg (by rw[hok];decide)]
 refine ah ?_;(try exact⟨⟩)
theorem bF1{po ap:A}{o:Option PS}(hi:i<8)(hl:l.getD i (.v undef)=kX o)(hlf:∀p,o=some p->aL p.lf=true)(hb:b.length<=1000000):
  bV 56 0 (.var (uf n mu l po ap)) [.v (.int .i64 (i:Nat)),.row b.length [.bytes b.length b]] (.t [kX (dZ o i b).2,.v (.int .i64 (dZ o i b).1)]) (.var (uf n mu l po ap)):=by
 cases o with
 |none=>
  rw[yh]at hl
  unfold dZ
  dsimp only
  cases h:Cy b with
  |true=>rw[if_pos rfl];exact aX8 hi hl hb h
  |false=>rw[if_neg (by decide),yh];exact aY0 hi hl hb h
 |some p=>
  rw[tH]at hl
  unfold dZ
  dsimp only
  cases h:Yy b with
  |true=>rw[if_pos rfl];exact aX9 hi hl (hlf p rfl) hb h
  |false=>rw[if_neg (by decide),yh];exact aY1 hi hl hb h
structure Jd(f:FuncId)(pos:Nat)(x:Bk)(args:List A)(K:bC->Bk->Prop):Prop where
 out:∃r x',bV f pos x args r x'/\K r x'
theorem ac6(f:FuncId):∀pos x args K,Jd f pos x args K->∃r x',bV f pos x args r x'/\K r x':=fun _ _ _ _ h=>h.out
theorem Jd.mk'{f:FuncId}{pos:Nat}{x x':Bk}{args:List A}{r:bC}{K:bC->Bk->Prop}(h:bV f pos x args r x')(k:K r x'):Jd f pos x args K:=⟨r,x',h,k⟩
def bv6:ak:=oW.gI 56 (Jd 56) (ac6 56) (.of Tryz.func56)
theorem bz6{po ap:A}{nx:Option PS}{er:Int}(hi:i<8)
  (hr:bV 56 0 (.var (uf n mu l po ap)) [.v (.int .i64 (i:Nat)),.row b.length [.bytes b.length b]] (.t [kX nx,.v (.int .i64 er)]) (.var (uf n mu l po ap))):
  bV 31 0 (.var (uf n mu l po ap)) [.v (.int .i64 (i:Nat)),.row b.length [.bytes b.length b]] (.d (.v (.int .i64 er))) (.var (uf n mu (if er=0 then l.set i (kX nx)else l) po ap)):=by
 have HR:=yHd hr
 clear hr
 refine iH (E:=bv6) Tryz.func31 Tryz.ntmps31 ?_
 unfold uf
 by_cases h:er=0
 ·rw[if_pos h]
  subst h
  refine ah ?_
  refine Jd.mk' HR.out ?_
  unfold uf
  cases nx with
  |none=>
   unfold kX
   refine ah ?_;(try exact⟨⟩)
  |some q=>
   unfold kX
   refine ah ?_;(try exact⟨⟩)
 ·rw[if_neg h]
  refine ah ?_
  refine Jd.mk' HR.out ?_
  unfold uf
  refine ah ?_;(try exact⟨⟩)
end
section
open Pm
theorem cf7{P:Program}{ops:Array Oper}{o:Oper}{a:Act}{w w2:World}{v:Value}{F:Value->World->Prop}(hg:Region.wanted o (yielded ops a.tmps)=true)(h:(execOp a.eval o).run P w=.ok (.value v) w2)(hF:F (keeps o.dst v) w2):mX P ops (fun _ _=>True) o a w F:=by
 unfold mX
 simp only[hg,h,if_true]
 exact⟨trivial,hF⟩
structure ZP(cst:Nat->Option Value)(w3:World)(Q:Value->World->Prop)(S:Nat->Bool)(vals:Nat->Value)(w:World):Prop where
 val:∀k x,S k=true->cst k=some x->vals k=x
 w0:S 11=false->w=w3
 w1:S 11=true->Q (vals 11) w/\True
 w2:S 12=true->vals 12=vals 11
section
variable {cst : Nat -> Option Value} {w3 : World} {Q : Value -> World -> Prop} {S : Nat -> Bool} {vals : Nat -> Value} {w : World}
theorem ZP.pure(h:ZP cst w3 Q S vals w){x:Value}(hc:cst j=some x)(h1:11≠j:=by decide)(h2:12≠j:=by decide):ZP cst w3 Q (add1 S j) (fun k=>if k=j then x else vals k) w:=by
 refine⟨fun k y hk hy=>?_,fun hk=>h.w0 (by rwa [aA S h1]at hk),fun hk=>?_,fun hk=>?_⟩
 ·by_cases e1:k=j
  ·subst e1;rw[hc]at hy;cases hy;exact if_pos rfl
  ·rw[aA S e1]at hk;rw[gG vals j x e1];exact h.val k y hk hy
 ·rw[aA S h1]at hk;rw[gG vals j x h1];exact h.w1 hk
 ·rw[aA S h2]at hk;rw[gG vals j x h1,gG vals j x h2];exact h.w2 hk
theorem ZP.call(h:ZP cst w3 Q S vals w)(hc:cst 11=none:=by rfl)(h12:S 12=false){v:Value}{w':World}(hq:Q v w'):ZP cst w3 Q (add1 S 11) (fun k=>if k=11 then v else vals k) w':=by
 refine⟨fun k y hk hy=>?_,fun hk=>?_,fun _=>⟨?_,trivial⟩,fun hk=>?_⟩
 ·have e1:k≠11:=by rintro rfl;rw[hc]at hy;cases hy
  rw[aA S e1]at hk;rw[gG vals 11 _ e1];exact h.val k y hk hy
 ·rw[jc]at hk;cases hk
 ·show Q (if 11=11 then v else vals 11) w'
  rw[if_pos rfl];exact hq
 ·rw[aA S (show 12≠11 by decide),h12]at hk;cases hk
theorem ZP.last(h:ZP cst w3 Q S vals w)(h11:S 11=true)(hc:cst 12=none:=by rfl):ZP cst w3 Q (add1 S 12) (fun k=>if k=12 then vals 11 else vals k) w:=by
 refine⟨fun k y hk hy=>?_,fun hk=>?_,fun _=>?_,fun hk=>?_⟩
 ·have e1:k≠12:=by rintro rfl;rw[hc]at hy;cases hy
  rw[aA S e1]at hk;rw[gG vals 12 _ e1];exact h.val k y hk hy
 ·rw[aA S (show 11≠12 by decide),h11]at hk;cases hk
 ·rw[gG vals 12 _ (show 11≠12 by decide)];exact h.w1 h11
 ·show(if 12=12 then vals 11 else vals 12)=_
  rw[if_pos rfl,gG vals 12 _ (show 11≠12 by decide)]
theorem ZP.vl(h:ZP cst w3 Q S vals w)(hS:S k=true)(hc:(cst k).isSome=true):vals k=(cst k).getD undef:=by
 obtain⟨x,hx⟩:=Option.isSome_iff_exists.1 hc
 rw[h.val k x hS hx,hx];rfl
theorem JR.vl(h:JR cst w3 S vals w)(hS:S k=true)(hc:(cst k).isSome=true):vals k=(cst k).getD undef:=by
 obtain⟨x,hx⟩:=Option.isSome_iff_exists.1 hc
 rw[h.val k x hS hx,hx];rfl
end
theorem Rp{a:Addr}{o:Obj}{v:Value}(h:w.cell? a=some v):(w.alloc o).cell? a=some v:=by
 unfold World.cell? at h ⊢
 cases e:w.heap[a.block]? with
 |none=>rw[e]at h;cases h
 |some x=>
  rw[Below.heap_alloc _ _ _ (yAe.1 e).1,e]
  rw[e]at h
  exact h
def Vi(r g i N:Nat)(ad:Addr)(k cp:Nat):Nat->Option Value
 |0=>some (.pointer (some ⟨g,2,none⟩))
 |1=>some (.int .i64 (N:Nat))
 |2=>some (.bool false)
 |3=>some (.bool false)
 |4=>some (.pointer (some ⟨g,2,none⟩))
 |5=>some (.int .i64 (N:Nat))
 |6=>some (.pointer (some ⟨r,0,none⟩))
 |7=>some (.pointer (some ⟨r,0,none⟩))
 |8=>some (.pointer (some ⟨r,19,none⟩))
 |9=>some (.slice (some ad) k cp)
 |10=>some (.int .i64 (k:Nat))
 |11=>some (.bool false)
 |12=>some (.bool false)
 |_=>none
def Vj(r g i N:Nat)(ad:Addr)(k cp:Nat)(vb:Value):Nat->Option Value
 |0=>some (.pointer (some ⟨r,0,none⟩))
 |1=>some (.pointer (some ⟨g,1,none⟩))
 |2=>some (.int .i64 (i:Nat))
 |3=>some (.pointer (some ⟨r,0,none⟩))
 |4=>some (.pointer (some ⟨r,0,none⟩))
 |5=>some (.pointer (some ⟨r,19,none⟩))
 |6=>some (.slice (some ad) k cp)
 |7=>some (.pointer (some ⟨g,2,none⟩))
 |8=>some (.int .i64 (N:Nat))
 |9=>some (.pointer (some (ad.add N)))
 |10=>some (vb)
 |_=>none
theorem Zi(w:World)(r:Nat)(t:TypeId)(i N k cp:Nat)(ad:Addr)(cs Ws:Array Value)(vb:Value)(hb:aM w r Ws t)(h1:cs[1]?=some (.int .i64 (i:Nat)))(h2:cs[2]?=some (.int .i64 (N:Nat)))(hN:N<k)(hk:k<=1000000)(h3:Ws[19]?=some (.slice (some ad) k cp))(h4:w.cell? (ad.add N)=some vb)(Q:Value->World->Prop)
  (hc:∀w1,w1=(w.alloc (.cells cs 37)).drew.drew->Calls Tryz.prog 31 #[.pointer (some ⟨r,0,none⟩),.int .i64 (i:Nat),vb] w1 fun e w2=>∃v,e=.returned v/\Q v w2):
  Calls Tryz.prog 30 #[.pointer (some ⟨r,0,none⟩),.agg cs] w fun e w'=>∃v,e=.returned v/\Q v w':=by
 have n0:¬(N:Int)<0:=by omega
 have nk:(N:Int)<(k:Int):=by omega
 have nk1:N<k:=hN
 have nk2:¬(k:Int)<=(N:Int):=by omega
 obtain⟨wa,Ep⟩:∃wa,wa=w.alloc (.cells cs 37):=⟨_,rfl⟩
 have c1:wa.cell? ⟨w.heap.size,1,none⟩=some (.int .i64 (i:Nat)):=by rw[Ep,(aM.new w cs 37).cell];exact h1
 have c2:wa.cell? ⟨w.heap.size,2,none⟩=some (.int .i64 (N:Nat)):=by rw[Ep,(aM.new w cs 37).cell];exact h2
 have c3:wa.cell? ⟨r,19,none⟩=some (.slice (some ad) k cp):=by rw[Ep,(hb.alloc _).cell];exact h3
 have c4:wa.cell? (ad.add N)=some vb:=by rw[Ep];exact Rp h4
 subst Ep
 have C1:=yHd c1;have C2:=yHd c2;have C3:=yHd c3;have C4:=yHd c4;have HC:=yHd hc
 clear c1 c2 c3 c4 hb h1 h2 h3 h4 hc hk hN
 go_enter Tryz.func30,Tryz.ntmps30
 go_wp2_with fail
 have u1:(w.alloc (.cells cs 37)).drew.cell? ⟨w.heap.size,1,none⟩=some (.int .i64 (i:Nat)):=C1.out
 have u2:(w.alloc (.cells cs 37)).drew.cell? ⟨w.heap.size,2,none⟩=some (.int .i64 (N:Nat)):=C2.out
 have u3:(w.alloc (.cells cs 37)).drew.cell? ⟨r,19,none⟩=some (.slice (some ad) k cp):=C3.out
 have v1:(w.alloc (.cells cs 37)).drew.drew.cell? ⟨w.heap.size,1,none⟩=some (.int .i64 (i:Nat)):=C1.out
 have v2:(w.alloc (.cells cs 37)).drew.drew.cell? ⟨w.heap.size,2,none⟩=some (.int .i64 (N:Nat)):=C2.out
 have v3:(w.alloc (.cells cs 37)).drew.drew.cell? ⟨r,19,none⟩=some (.slice (some ad) k cp):=C3.out
 have v4:(w.alloc (.cells cs 37)).drew.drew.cell? (ad.add N)=some vb:=C4.out
 refine ku (JR (Vi r w.heap.size i N ad k cp) (w.alloc (.cells cs 37)).drew) [[],[0],[1],[2],[3],[4,3],[3],[6,3],[7,3],[8,3],[9,3],[5,10,3],[3,11]] (by kernel_rfl) (by kernel_rfl) (by kernel_rfl) ⟨fun k x hk=>Bool.noConfusion hk,rfl⟩ ?_ ?_
 ·refine⟨?_,?_,?_,?_,?_,?_,?_,?_,?_,?_,?_,?_,?_,trivial⟩
  all_goals
   intro S vals wj hJ fK hD hcl
   obtain rfl:=hJ.same
   exact cf7 (by simp[Region.wanted,yielded,aG,Act.put,hJ.vl,hD,Vi]) (by simp[execOp,aG,Act.put,Act.eval,Instr.fieldAt,resolve,invoke,go_sem,hJ.vl,hD,Vi,n0,nk,nk1,u1,u2,u3]) (hJ.pure rfl)
 ·intro vals wz hJ
  obtain rfl:=hJ.same
  simp[aG,List.range,List.range.loop,Act.put,hJ.vl,Vi]
  clear hJ
  go_wp2_with fail
  refine ku (ZP (Vj r w.heap.size i N ad k cp vb) (w.alloc (.cells cs 37)).drew.drew Q) [[],[],[1],[],[3],[4],[5],[],[7],[6,8],[9],[0,2,10],[11]] (by kernel_rfl) (by kernel_rfl) (by kernel_rfl) ⟨fun k x hk=>Bool.noConfusion hk,fun _=>rfl,fun hk=>Bool.noConfusion hk,fun hk=>Bool.noConfusion hk⟩ ?_ ?_
  ·refine⟨?_,?_,?_,?_,?_,?_,?_,?_,?_,?_,?_,?_,?_,trivial⟩
   all_goals intro S vals wj hJ fK hD hcl
   case refine_12=>
    have e:=hJ.w0 fK
    subst e
    have h12:S 12=false:=by cases h:S 12 with|false=>rfl|true=>have:=hcl 12 h 11 (by simp);rw[fK]at this;cases this
    refine opc (f:=31) (args:=#[.pointer (some ⟨r,0,none⟩),.int .i64 (i:Nat),vb]) rfl (by simp[execOp,aG,Act.put,Act.eval,resolve,invoke,go_sem,hJ.vl,hD,Vj]) ?_
    refine(HC.out _ rfl).mono ?_
    rintro e w2 ⟨v,rfl,hq⟩
    exact⟨_,rfl,hJ.call rfl h12 hq⟩
   case refine_13=>
    refine jX (v:=vals 11) (w2:=wj) rfl ?_ (hJ.last (hD 11 (by simp)))
    simp[execOp,aG,Act.put,Act.eval,go_sem]
   all_goals
    have e:wj=(w.alloc (.cells cs 37)).drew.drew:=hJ.w0 (by
     cases h:S 11 with
     |false=>rfl
     |true=>
      have a10:=hcl 11 h 10 (by simp);have a9:=hcl 10 a10 9 (by simp);have a8:=hcl 9 a9 8 (by simp);have a6:=hcl 9 a9 6 (by simp);have a5:=hcl 6 a6 5 (by simp);have a4:=hcl 5 a5 4 (by simp);have a3:=hcl 4 a4 3 (by simp);have a7:=hcl 8 a8 7 (by simp);have a2:=hcl 11 h 2 (by simp);have a1:=hcl 2 a2 1 (by simp);have a0:=hcl 11 h 0 (by simp)
      simp_all)
    subst e
    exact cf7 (by simp[Region.wanted]) (by simp[execOp,aG,Act.put,Act.eval,Instr.fieldAt,resolve,invoke,go_sem,hJ.vl,hD,Vj,n0,nk2,nk1,v1,v2,v3,v4]) (hJ.pure rfl)
  ·intro vals wz hJ
   obtain⟨h11,h12⟩:=hJ.w1 rfl
   have e12:=hJ.w2 rfl
   obtain⟨v,hv⟩:∃v,v=vals 11:=⟨_,rfl⟩
   rw[<-hv]at e12 h11
   have e11:=hv.symm
   simp[aG,List.range,List.range.loop,Act.put,hJ.vl,Vj,e11,e12]
   clear hJ e11 e12 hv
   go_wp2_with fail
   go_ret
   exact⟨v,rfl,h11⟩
end
section
open Pm
def nextR(o:Option PS)(i:Int)(b:List UInt8):Option PS:=if(dZ o i b).1=0 then(dZ o i b).2 else o
theorem aQ0{D:Nat->Prop}{r:Nat}{c:Nat->Cm}{vs:List Value}{B:Nat->List Nat}{t:TypeId}(h:WQ D w r 1 n c vs B t)(hG:pI gTab D w)(hi:i<8){o:Option PS}(hc:c i=jG (kX o))(hlf:∀p,o=some p->aL p.lf=true)(hb:b.length<=1000000){vb:Value}(hv:RA D w (.row b.length [.bytes b.length b]) vb):
  Calls Tryz.prog 31 #[.pointer (some ⟨r,0,none⟩),.int .i64 (i:Nat),vb] w fun e w'=>e=.returned (.int .i64 (dZ o i b).1)/\WTo D w r 1 n (upd c i (jG (kX (nextR o i b)))) B w':=by
 obtain⟨ps,po,v17,rfl,h16⟩:=last2 16 vs h.len
 have hkp:Keeps D w (fun z=>D z/\z≠r) w:=⟨yLr _,fun z _ hd=>⟨⟨hd,(h.dat z hd).1⟩,fun _=>rfl⟩⟩
 have hl:((ps.map A.v).set i (kX o)).getD i (.v undef)=kX o:=by
  rw[yGd,List.getElem?_set_self (by simp;omega)];rfl
 refine(bz6 (nx:=(dZ o i b).2) (er:=(dZ o i b).1) hi (bF1 (o:=o) hi hl hlf hb) D w r [.int .i64 (i:Nat),vb] h.blk.lt (hG.up hkp) (h.hb hi hc) (.cons (.v _) (.cons (hv.up hkp) .nil))).mono ?_
 rintro e w' ⟨v,rfl,hr,hH,hg⟩
 obtain rfl:=qw hr
 refine⟨rfl,?_⟩
 have e1:(if(dZ o i b).1=0 then((ps.map A.v).set i (kX o)).set i (kX (dZ o i b).2)else(ps.map A.v).set i (kX o))=(ps.map A.v).set i (kX (nextR o i b)):=by
  unfold nextR
  split
  ·rw[List.set_set]
  ·rfl
 rw[e1]at hH
 obtain⟨ls,u1,u2,t',_,hb',k1,k2,k3⟩:=Bz hH
 cases k2;cases k3
 obtain⟨u,rfl,k4,k5⟩:=qP k1 (by omega)
 have hg':bX (fun z=>z=r\/z∈B i) w w':=⟨hg.os,hg.tape,hg.output,hg.size,fun z hz hn=>hg.block z hz fun e=>hn (.inl (by cases e;rfl))⟩
 have hset:(ps++[po,v17]).set i u=ps.set i u++[po,v17]:=List.set_append_left _ _ (by omega)
 have hw:=h.set (j:=i) (v':=u) (B':=[]) (c':=jG (kX (nextR o i b))) (by omega) (by rw[hset];exact hb') hg' (fun q hq=>by cases hq) (by simp) ⟨rfl,k4.up (dw fun z hz=>⟨hz.1,hz.2,by simp⟩),k5⟩
 exact⟨_,_,_,_,hw,h.one (by omega) hg' (fun q hq=>by cases hq)⟩
theorem aB1{S:Nat->Prop}{w:World}:∀{l:List A} {vs:List Value} {i:Nat},RG S w l vs->i<l.length->∃v,vs[i]?=some v/\RA S w (l.getD i (.v undef)) v
 |_,_,_,.nil,hi=>absurd hi (by simp)
 |a::l,_,0,.cons k1 k2 k3,hi=>⟨_,rfl,k1⟩
 |a::l,_,i+1,.cons k1 k2 k3,hi=>by
  obtain⟨v,h1,h2⟩:=aB1 k3 (i:=i) (by simpa using hi)
  exact⟨v,by simpa using h1,by simpa using h2⟩
theorem ba3{D:Nat->Prop}{r:Nat}{c:Nat->Cm}{vs:List Value}{B:Nat->List Nat}{t:TypeId}(h:WQ D w r 1 n c vs B t)(hG:pI gTab D w)(hi:i<8){o:Option PS}(hc:c i=jG (kX o))(hlf:∀p,o=some p->aL p.lf=true)(hcq:c 16=IL rows)(hk:rows.length<=1000000)(hN:N<rows.length)(hb:b.length<=1000000)(hrow:rows.getD N (.v undef)=.row b.length [.bytes b.length b]){vo vy:Value}:
  Calls Tryz.prog 30 #[.pointer (some ⟨r,0,none⟩),.agg (AC 3 (i:Nat) (N:Nat) fr vo dr vy)] w fun e w'=>e=.returned (.int .i64 (dZ o i b).1)/\WTo D w r 1 n (upd c i (jG (kX (nextR o i b)))) B w':=by
 have h16:=h.at' 16 (by omega)
 rw[hcq]at h16
 obtain⟨cs,hB,ho,hr⟩:=h16
 obtain⟨_,hr2⟩:=hr.gB
 obtain⟨vb,hvb,hra⟩:=aB1 hr2 hN
 rw[hrow]at hra
 rcases ho.2 with⟨e1,e2⟩|⟨q,cap,cur,e1,hrest⟩
 ·omega
 have hcell:w.cell? (Addr.add ⟨q,0,none⟩ N)=some vb:=by
  exact World.ownsRow.cells ho (g:=q) (by rw[e1];rfl) N vb hvb
 have hget:vs[16]?=some (.slice (some ⟨q,0,none⟩) rows.length cap):=by
  rw[yGe (by rw[h.len];omega)]
  rw[yGd,yGe (by rw[h.len];omega)]at e1
  exact congrArg some e1
 refine(Zi w r t i N rows.length cap ⟨q,0,none⟩ (AC 3 (i:Nat) (N:Nat) fr vo dr vy) (vF n 1 vs).toArray vb h.blk rfl rfl hN hk ((W9 16).trans hget) hcell (fun v w'=>v=.int .i64 (dZ o i b).1/\WTo D w r 1 n (upd c i (jG (kX (nextR o i b)))) B w') ?_).mono ?_
 ·rintro w1 rfl
  have hbel:Below w.heap.size w (w.alloc (.cells (AC 3 (i:Nat) (N:Nat) fr vo dr vy) 37)).drew.drew:=by
   have:=(Below.refl w.heap.size w).alloc (yLr _) (.cells (AC 3 (i:Nat) (N:Nat) fr vo dr vy) 37)
   exact⟨this.os,this.tape,this.output,this.size,this.block⟩
  have s1:gY D w r B D _ B:=gY.below hbel
  refine(aQ0 (h.keep hbel) (hG.up s1.k) hi hc hlf hb (hra.up s1.k)).mono ?_
  rintro e w2 ⟨rfl,D',vs',B',t',k1,k2⟩
  exact⟨_,rfl,rfl,D',vs',B',t',k1,s1.trans k2⟩
 ·rintro e w' ⟨v,rfl,rfl,hw⟩
  exact⟨rfl,hw⟩
theorem aZ9{c:Nat->Cm}(hn:0<=n/\n<=1000000)(hi:i<8){o:Option PS}(hc:c i=jG (kX o))(hlf:∀p,o=some p->aL p.lf=true)(hcq:c 16=IL rows)(hk:rows.length<=1000000)(hN:N<rows.length)(hb:b.length<=1000000)(hrow:rows.getD N (.v undef)=.row b.length [.bytes b.length b]){fr dr er:Int}{x z:A}{o':Option PS}{c':Nat->Cm}(her:er=(dZ o i b).1)(ho':o'=nextR o i b)(hc':c'=upd c i (jG (kX o'))):
  vC Tryz.prog gTab 9 0 (jQ 0 n c) [.agg [.ints .i64 4 [3,(i:Nat),(N:Nat),fr],.gen 1 [x],.ints .i64 1 [dr],.gen 1 [z]]] (.d (.v (.int .i64 er))) (jQ 0 (n+1) c'):=by
 subst hc';subst ho';subst her
 refine Ar fun D w r vs B t vo vy h hG hx hy o1 o2=>?_
 obtain⟨ps,bs,po,ap,h1,h2,h3,h4⟩:=Iy h.len
 have hb0:aM w r (WL n 0 ps bs po ap).toArray t:=by rw[<-h4];exact h.blk
 refine(step_take w r t n hn ps bs po ap i hi (N:Nat) fr dr vo vy hb0 (fun v cs w2=>v=.int .i64 (dZ o i b).1/\∃D' vs' B' t',cs=(vF (n+1) 1 vs').toArray/\WQ D' w2 r 1 (n+1) (upd c i (jG (kX (nextR o i b)))) vs' B' t'/\gY D w r B D' w2 B') fun w1 hb1 hg1=>?_).mono ?_
 ·have hq1:WQ D w1 r 1 (n+1) c vs B t:=h.mu (by rw[h4];exact hb1) hg1
  have s1:gY D w r B D w1 B:=.own hg1 fun z hz=>(h.dat z hz).1
  refine(ba3 hq1 (hG.up s1.k) hi hc hlf hcq hk hN hb hrow).mono ?_
  rintro e w2 ⟨rfl,D',vs',B',t',k1,k2⟩
  exact⟨_,_,_,rfl,⟨rfl,D',vs',B',t',rfl,k1,s1.trans k2⟩,k1.blk,by rw[List.getElem?_toArray];rfl⟩
 ·rintro e w' ⟨v,cs,w2,t',rfl,⟨rfl,D',vs',B',t2,rfl,k1,k2⟩,rfl,hb2⟩
  have hb3:aM (w2.setCell ⟨r,1,none⟩ (.int .i32 0)) r (vF (n+1) 0 vs').toArray t2:=(k1.blk.set 1 _).copy Iw
  have hg3:w2.grownBy (w2.setCell ⟨r,1,none⟩ (.int .i32 0)) (some r):=ay (bH w2 _) 1 _
  exact⟨rfl,D',vs',B',t2,k1.mu hb3 hg3,k2.trans (.own hg3 fun z hz=>(k1.dat z hz).1)⟩
end
section
open Pm
theorem Ag(h:Own p)(he:p.e<1099511627776):eX p 0 [] 0 []=0/\fq p p.lf 0 []=⟨p.zs,p.ad,p.k,F8,F8⟩:=by
 have hd:=ag5 (e:=p.e) (s:=⟨p.zs,p.ad,p.k,F8,F8⟩) (fr:=p.lf) h.may h.dS
 refine⟨?_,?_⟩
 ·have hc:fu p.e p.zs p.ad p.k p.ch p.lf [] 0 [] 0=0:=by unfold fu;rw[if_pos rfl,if_pos rfl]
  unfold eX
  rw[if_neg (fun h=>h hc),hd,if_neg (fun h=>h rfl),if_neg (by omega)]
 ·unfold fq;rw[hd]
theorem CZ(h:jW n=false):∀d,(eu d zs n).length<=1
 |0=>by unfold eu;split<;>simp
 |d+1=>by
  unfold eu
  rw[h]
  split<;>simp
theorem aA9(h1:jW (n-iW n)=false)(h2:jW (n+iW n)=false)(d:Nat):(eu (d+1) zs n).length<=2:=by
 unfold eu
 have a:=CZ (zs:=zs) h1 d
 have b:=CZ (zs:=zs) h2 d
 split
 ·split
  ·rw[List.length_append];omega
  ·simp
 ·simp
theorem planL_16(zs:List Int)(bt:List Bool)(x:Int):(bT zs x bt).length<=16:=by
 unfold bT
 split
 ·next hx=>
  have hb:0<=x/\x<8:=by unfold aL at hx;simp at hx;omega
  have e0:jW ((dx x).getD 0 0)=false:=eight (p:=fun x=>jW ((dx x).getD 0 0)=false) hb rfl rfl rfl rfl rfl rfl rfl rfl
  have e1:jW ((dx x).getD 1 0-iW ((dx x).getD 1 0))=false:=eight (p:=fun x=>jW ((dx x).getD 1 0-iW ((dx x).getD 1 0))=false) hb rfl rfl rfl rfl rfl rfl rfl rfl
  have e2:jW ((dx x).getD 1 0+iW ((dx x).getD 1 0))=false:=eight (p:=fun x=>jW ((dx x).getD 1 0+iW ((dx x).getD 1 0))=false) hb rfl rfl rfl rfl rfl rfl rfl rfl
  have a0:(eZ bt ((0:Nat):Int) (eu 3 zs ((dx x).getD 0 0))).length<=1:=yLt (qL bt ((0:Nat):Int) _) (CZ (zs:=zs) e0 3)
  have a1:(eZ bt ((1:Nat):Int) (eu 3 zs ((dx x).getD 1 0))).length<=2:=yLt (qL bt ((1:Nat):Int) _) (aA9 (zs:=zs) e1 e2 2)
  have a2:(eZ bt ((2:Nat):Int) (eu 3 zs ((dx x).getD 2 0))).length<=8:=yLt (qL bt ((2:Nat):Int) _) (yLt (qO zs 3 ((dx x).getD 2 0)) (show 2^3<=8 by decide))
  rw[show dP zs bt x 3=(([]++eZ bt ((0:Nat):Int) (eu 3 zs ((dx x).getD 0 0)))++eZ bt ((1:Nat):Int) (eu 3 zs ((dx x).getD 1 0)))++eZ bt ((2:Nat):Int) (eu 3 zs ((dx x).getD 2 0))from rfl]
  simp only[List.length_append,List.length_nil]
  omega
 ·simp
theorem dN{n m:Int}(h0:0<=n)(h1:n<=m):aU n m=true:=by
 unfold aU;simp[h0,h1]
theorem oK(h:List UInt8):aU (aS h) 2147483579=true:=by
 obtain⟨h1,h2,_⟩:=(rH _).1 (jh h)
 exact dN (by omega) (by omega)
end
section
open Pm
theorem aW4{c:Nat->Cm}(hcq:c 16=IL rows)(h0:0<rows.length)(hk:rows.length<=1000)(hrw:∀j,j<rows.length->∃L B,rows.getD j (.v undef)=.row L [.bytes L B]/\L≠0/\L<=1000000):
  vC Tryz.prog gTab 13 0 (jQ 0 n c) [] (.d (.row rows.length [.gen rows.length rows])) (jQ 0 n c):=by
 refine R4 fun D w r vs B t av h hG hA=>?_
 obtain rfl:=Rc hA
 obtain⟨ps,bs,po,ap,h1,h2,h3,h4⟩:=Iy h.len
 have hb0:aM w r (WL n 0 ps bs po ap).toArray t:=by rw[<-h4];exact h.blk
 have Oo:=h.at' 16 (by omega)
 have ao7:vs.getD 16 undef=po:=by
  rw[h3,yGd,List.getElem?_append_right (by omega),List.getElem?_append_right (by omega),h1,h2];rfl
 rw[hcq,ao7]at Oo
 obtain⟨cs,FM,LK,ao6⟩:=Oo
 obtain⟨_,hrg⟩:=ao6.gB
 refine(YW D w r t n ps bs po ap rows.length cs rows h1 h2 hb0 LK (fun e=>h.ne 16 (by omega) (by rw[FM];exact dV.2 e)) (fun hd=>(h.dat r hd).1 rfl) hG hrg hk hrw (fun w1 g1 g2=>XI hk (aB2 hrg) (fun e=>by omega) w1 g1 g2)).mono ?_
 rintro e w' ⟨v,w2,rfl,k1,rfl,hb2,hg2⟩
 have k2:WQ D w2 r 1 n c vs B t:=h.mu (by rw[h4];exact hb2) hg2
 have hb3:aM (w2.setCell ⟨r,1,none⟩ (.int .i32 0)) r (vF n 0 vs).toArray t:=(k2.blk.set 1 _).copy Iw
 have hg3:w2.grownBy (w2.setCell ⟨r,1,none⟩ (.int .i32 0)) (some r):=ay (bH w2 _) 1 _
 have k4:=k2.mu hb3 hg3
 have hr:=h.blk.lt
 have hnew:∀z,D z\/w.heap.size<=z->D z\/(z≠r/\∀j,j<18->z∉B j):=fun z hz=>hz.imp id fun hz=>⟨by omega,fun j hj hm=>by have:=h.lt hj hm;omega⟩
 have s4:=(gY.own (D:=D) (B:=B) hg2 fun z hz=>(h.dat z hz).1).trans (gY.own hg3 fun z hz=>(k2.dat z hz).1)
 refine⟨v,fun z=>D z\/w.heap.size<=z,vs,B,t,rfl,k4.wide (fun z hz=>.inl hz) hnew,⟨⟨s4.k.1,fun z hz hd=>⟨.inl hd,(s4.k.2 z hz hd).2⟩⟩,s4.g,s4.b,fun z hz=>hz⟩,?_⟩
 refine RA.up (S:=fun z=>D z\/w.heap.size<=z) ⟨hg3.size,fun z hz hd=>⟨hd,fun o=>World.cell?_of_block (hg3.block z hz fun e=>?_)⟩⟩ k1
 cases e
 rcases hd with e|e
 ·exact(h.dat _ e).1 rfl
 ·omega
end
section
open Pm
theorem LQ{y:Int}(h:dL y=true):Je y:=by
 obtain⟨h1,h2,_⟩:=(rH y).1 h
 exact⟨by omega,by omega⟩
attribute [local irreducible] dL
theorem FW{k r:Nat}(hk:k<8)(hr:r<2):(bZ zs k).getD r 0=zs.getD (k*2+r) 0:=by
 unfold bZ
 rw[yGd,List.getElem?_take,if_pos hr,List.getElem?_drop,List.getElem?_take,if_pos (by omega),<-yGd]
theorem SX(hk:k<15):wV zs k=zs.getD (16+k) 0:=by
 unfold wV
 rw[yGd,List.getElem?_take,if_pos hk,List.getElem?_drop,<-yGd]
theorem aS4(h:wQ zs=true)(hl:zs.length=31):∀z∈zs,Je z:=by
 intro z hz
 unfold wQ at h
 rw[Bool.and_eq_true,List.all_eq_true,List.all_eq_true]at h
 obtain⟨h1,h2⟩:=h
 obtain⟨i,hi,rfl⟩:=List.getElem_of_mem hz
 have e:zs[i]=zs.getD i 0:=by rw[yGd,yGe hi];rfl
 rw[e]
 by_cases h16:i<16
 ·have h3:=h1 (i / 2) (List.mem_range.2 (by omega))
  unfold gM at h3
  rw[Bool.or_eq_true,Bool.and_eq_true,decide_eq_true_eq]at h3
  have h4:=FW (zs:=zs) (k:=i / 2) (r:=0) (by omega) (by omega)
  have h5:=FW (zs:=zs) (k:=i / 2) (r:=1) (by omega) (by omega)
  rcases h3 with h3|⟨h6,h7⟩
  ·rw[h3]at h4 h5
   have h4:0=zs.getD (i / 2*2+0) 0:=h4
   have h5:0=zs.getD (i / 2*2+1) 0:=h5
   rcases(show i=i / 2*2+0\/i=i / 2*2+1 by omega)with h|h
   ·rw[h,<-h4];exact⟨by decide,by decide⟩
   ·rw[h,<-h5];exact⟨by decide,by decide⟩
  ·rw[h4]at h6
   rw[h5]at h7
   rcases(show i=i / 2*2+0\/i=i / 2*2+1 by omega)with h|h
   ·rw[h];exact LQ h6
   ·rw[h];exact LQ h7
 ·have h3:=h2 (i-16) (List.mem_range.2 (by omega))
  unfold jC at h3
  rw[Bool.or_eq_true,Bool.and_eq_true,decide_eq_true_eq,SX (by omega),show 16+(i-16)=i by omega]at h3
  rcases h3 with h3|⟨_,h3⟩
  ·rw[h3];exact⟨by decide,by decide⟩
  ·exact LQ h3
theorem ae6:∀(ad:List Bool),mJ ad<=ad.length:=by
 intro ad
 unfold mJ
 exact List.countP_le_length
structure MW(w:WS):Prop where
 leaf:Je w.leaf
 fr:Je w.fr
 e:Je w.e
 k:Je w.k
 zs:∀z∈w.zs,Je z
 box:w.box.length<=300
theorem SH{w:WS}(h:kW w=true)(hw:sM w):MW w:=by
 unfold kW at h
 simp only[Bool.and_eq_true,decide_eq_true_eq]at h
 obtain⟨h1,h2,h3,h4⟩:=h
 unfold gF at h3
 simp only[Bool.and_eq_true,decide_eq_true_eq]at h3
 obtain⟨⟨⟨⟨⟨h5,h6⟩,h7⟩,h8⟩,h9⟩,h10⟩:=h3
 have h11:=ae6 w.ad
 have h12:=hw.ad
 exact⟨gD h1 (by decide),gD h2 (by decide),⟨h5,by omega⟩,⟨by omega,by omega⟩,aS4 h7 hw.zs,by omega⟩
attribute [local irreducible] fV bQ cK jd ni mM gN dY gT aC aF mR lC o7 pX
theorem aI4{w:WS}(t:List UInt8)(h:MW w)(hw:sM w):QB ⟨G5 w t,false⟩=w/\BD ⟨G5 w t,false⟩=⟨t,false⟩:=by
 unfold G5
 obtain⟨a1,b1⟩:=jT (t:=aC w.fr++(aC w.e++(aC w.k++(dR w.ad++(w.ch++(aF w.zs++((aC (w.box.length:Int)++w.box)++(w.tag++t)))))))) h.leaf
 generalize(⟨aC w.leaf++_,false⟩:Rd)=R at*
 obtain⟨a2,b2⟩:=jT (t:=aC w.e++(aC w.k++(dR w.ad++(w.ch++(aF w.zs++((aC (w.box.length:Int)++w.box)++(w.tag++t))))))) h.fr
 rw[<-b1]at a2 b2
 obtain⟨a3,b3⟩:=jT (t:=aC w.k++(dR w.ad++(w.ch++(aF w.zs++((aC (w.box.length:Int)++w.box)++(w.tag++t)))))) h.e
 have q1:va R=bQ (bQ R):=rfl
 rw[<-b2,<-q1]at a3 b3
 obtain⟨a4,b4⟩:=jT (t:=dR w.ad++(w.ch++(aF w.zs++((aC (w.box.length:Int)++w.box)++(w.tag++t))))) h.k
 rw[<-b3]at a4 b4
 obtain⟨a5,b5⟩:=Vs (ad:=w.ad) (t:=w.ch++(aF w.zs++((aC (w.box.length:Int)++w.box)++(w.tag++t))))
 have q2:va (va R)=bQ (bQ (va R)):=rfl
 rw[<-b4,<-q2,hw.ad]at a5 b5
 obtain⟨a6,b6⟩:=FN (t:=aF w.zs++((aC (w.box.length:Int)++w.box)++(w.tag++t))) hw.ch
 have q3:vc (va R)=pX 8 (va (va R)):=rfl
 rw[<-b5,<-q3]at a6 b6
 obtain⟨a7,b7⟩:=AZ (zs:=w.zs) (t:=(aC (w.box.length:Int)++w.box)++(w.tag++t)) h.zs
 have q4:vd (va R)=mM 32 (vc (va R)):=rfl
 rw[<-b6,<-q4,hw.zs]at a7 b7
 obtain⟨a8,b8⟩:=U6 (m:=300) (p:=w.box) (t:=w.tag++t) (by have:=h.box;omega) (by have:=h.box;omega)
 have q5:vg R=dY 31 (vd (va R)):=rfl
 rw[<-b7,<-q5]at a8 b8
 obtain⟨a9,b9⟩:=FN (t:=t) hw.tag
 rw[<-b8]at a9 b9
 refine⟨?_,b9⟩
 unfold QB
 rw[a1,a2,a3,a7,a5,a4,a6,a8,a9]
theorem aV1{w:WS}(h:kW w=true)(hw:sM w):Cy (IE w)=true/\yF (IE w)=w:=by
 obtain⟨h2,h3⟩:=aI4 [] (SH h hw) hw
 have h1:=WZ (w:=w) hw.zs []
 rw[List.append_nil]at h1
 unfold Cy yF
 rw[h1,aq6,h3,h2,h]
 exact⟨rfl,rfl⟩
end
section
open Pm
def aC8(n:Int):List UInt8:=UInt8.ofNat (IntKind.u8.wrap n).toNat::11::List.replicate 30 0
theorem Like.refl(p:PS):Like p p:=⟨rfl,rfl,rfl,rfl,rfl,rfl,rfl⟩
theorem Like.symm(h:Like p q):Like q p:=⟨h.e.symm,h.zs.symm,h.ad.symm,h.k.symm,h.ch.symm,h.ep.symm,h.sD.symm⟩
theorem Like.trans{p q r:PS}(h:Like p q)(k:Like q r):Like p r:=⟨h.e.trans k.e,h.zs.trans k.zs,h.ad.trans k.ad,h.k.trans k.k,h.ch.trans k.ch,h.ep.trans k.ep,h.sD.trans k.sD⟩
end
section
open Pm
theorem Gx{a b:Nat}(ha:1<=a)(hab:a<b)(hb:b<1073741789):pw 4 a≠pw 4 b:=by
 intro h
 have e1:pw 4 (1073741789-a)*pw 4 a%2147483579=1:=by rw[CU,show 1073741789-a+a=1073741789 by omega,FE]
 have e2:pw 4 (1073741789-a)*pw 4 b%2147483579=pw 4 (b-a):=by
  rw[CU,show 1073741789-a+b=1073741789+(b-a) by omega,<-CU,FE,Nat.one_mul,Nat.mod_eq_of_lt (yR _ _)]
 rw[<-h,e1]at e2
 exact Vx (b-a) (by omega) (by omega) e2.symm
theorem az6{a b:Int}(ha:1<=a/\a<1073741789)(hb:1<=b/\b<1073741789)(h:aJ 4 a=aJ 4 b):a=b:=by
 obtain⟨m,rfl⟩:=Int.eq_ofNat_of_zero_le (show 0<=a by omega)
 obtain⟨n,rfl⟩:=Int.eq_ofNat_of_zero_le (show 0<=b by omega)
 rw[show aJ 4 (m:Int)=(pw 4 m:Int)from iN 4 m (by decide) (by omega),show aJ 4 (n:Int)=(pw 4 n:Int)from iN 4 n (by decide) (by omega)]at h
 have h':pw 4 m=pw 4 n:=Int.ofNat_inj.1 h
 rcases Nat.lt_trichotomy m n with h1|h1|h1
 ·exact(Gx (by omega) h1 (by omega) h').elim
 ·rw[h1]
 ·exact(Gx (by omega) h1 (by omega) h'.symm).elim
theorem OA(s:Int)(hs:1<=s/\s<1073741789):dL (aJ 4 s)=true:=by
 obtain⟨n,rfl⟩:=Int.eq_ofNat_of_zero_le (show 0<=s by omega)
 rw[show aJ 4 (n:Int)=(pw 4 n:Int)from iN 4 n (by decide) (by omega)]
 exact AJ n (by omega) (by omega)
theorem aD5(s:Int)(p:List UInt8):0<=jI s p/\jI s p<1073741789:=by
 unfold jI
 omega
theorem Zw(s:Int)(p:List UInt8)(hs:1<=s/\s<1073741789):mh (aJ 4 s) p (iV s p) (jI s p)=true:=by
 have hn:=Cr s p
 have hE:=yw s p
 unfold mh
 rw[OA s hs,decide_eq_true hE,decide_eq_true (aD5 s p)]
 have h:=begun s (jP s p) (iV s p) ⟨by omega,hs.2⟩ ⟨by omega,hn.2⟩ hE
 have h2:jI s p=(jP s p+iV s p*s)%1073741789:=rfl
 rw[h2,h]
 simp[iV]
theorem Sy{x:Int}(h:dL x=true):x≠0:=by
 rintro rfl
 revert h
 decide
abbrev sgV(j:Nat):Int:=aJ 4 (aI (kQ (aC8 (j:Nat))))
end
section
open Pm
def blk(s:List UInt8)(i:Nat):List UInt8:=(s.drop (i*32)).take 32
end
noncomputable section
open Pm
attribute [local irreducible] aN aQ bq aJ aI eY dL bP aD aC aF bn aY aj bR fC fu bT dH jm eG jO bg aZ mI fq eX bJ aT dB jF
theorem UU(h:List UInt8)(l:ByteArray)(hl:l.size<=1000000):aV 21 [.agg [.bytes 32 h],.v (.string l)] (.d (.agg [.bytes 32 (aD h (sb l) [])])):=by
 refine eO (E:=Vn) Tryz.func21 Tryz.ntmps21 ?_
 refine ah ?_;(try exact⟨⟩)
def aJ2:List A->(bC->Prop)->Prop
 |[.agg [.bytes 32 h],.v (.string l)],K=>l.size<=1000000/\K (.d (.agg [.bytes 32 (aD h (sb l) [])]))
 |_,_=>False
theorem aJ3:∀args K,aJ2 args K->∃r,aV 21 args r/\K r:=by
 intro args K h
 unfold aJ2 at h
 split at h
 ·exact⟨_,UU _ _ h.1,h.2⟩
 ·exact h.elim
def bk3:ak:=Vn.add 21 aJ2 aJ3 (.of Tryz.func21)
theorem UZ(h:List UInt8):aV 19 [.agg [.bytes 32 h]] (.d (.agg [.ints .i64 2 [aI (kQ h),aJ 4 (aI (kQ h))]])):=by
 refine eO (E:=bk3) Tryz.func19 Tryz.ntmps19 ?_
 refine ah ?_;(try exact⟨⟩)
 try rfl
def UY:List A->(bC->Prop)->Prop
 |[.agg [.bytes 32 h]],K=>∀x y,x=aI (kQ h)->y=aJ 4 (aI (kQ h))->K (.d (.agg [.ints .i64 2 [x,y]]))
 |_,_=>False
theorem ZN:∀args K,UY args K->∃r,aV 19 args r/\K r:=by
 intro args K h
 unfold UY at h
 split at h
 ·exact⟨_,UZ _,h _ _ rfl rfl⟩
 ·exact h.elim
def cc4:ak:=bk3.add 19 UY ZN (.of Tryz.func19)
theorem aJ4(h:List UInt8):aV 7 [.agg [.bytes 32 h]] (.d (.agg [.ints .i64 2 (pK h)])):=by
 refine eO (E:=cc4) Tryz.func7 Tryz.ntmps7 ?_
 refine ah ?_
 intro x y hx hy
 refine ah ?_
 rw[hy]
 try rfl
def UW:List A->(bC->Prop)->Prop
 |[.agg [.bytes 32 h]],K=>∀L,L=pK h->K (.d (.agg [.ints .i64 2 L]))
 |_,_=>False
theorem ZL:∀args K,UW args K->∃r,aV 7 args r/\K r:=by
 intro args K h
 unfold UW at h
 split at h
 ·exact⟨_,aJ4 _,h _ rfl⟩
 ·exact h.elim
end
section
open Pm
attribute [local irreducible] aN aQ bq aJ aI eY dL bP aD aC aF bn aY aj bR fC fu dH jm jO bg aZ mI fq eX bJ aT dB jF
end
section
open Pm
attribute [local irreducible] aN aQ bq aJ aI eY dL bP aD aC aF bn aY aj bR fC fu dH jm jO aZ mI fq eX bJ aT dB jF
end
section
open Pm
attribute [local irreducible] aN aQ bq aJ aI eY dL aD aC aF bn aY aj bR fC fu bT dH jm jO bg eG aZ mI fq eX bJ aT dB jF
end
section
open Pm
attribute [local irreducible] aN aQ bq aJ aI eY dL aD aC aF bn aY aj bR fC fu bT dH jm jO bg eG aZ mI fq eX bJ aT dB jF
end
section
open Pm
attribute [local irreducible] aN aQ bq aJ aI eY dL aD aC aF bn aY aj bR fC fu bT dH jm jO bg eG aZ mI fq eX bJ aT dB jF
end
section
open Pm
attribute [local irreducible] aN aQ bq aJ aI eY dL aD aC aF bn aY aj bR fC fu bT dH jm jO bg eG aZ mI fq eX bJ aT dB jF
end
section
open Pm
attribute [local irreducible] aN aQ bq aJ aI eY dL aD aC aF bn aY aj bR fC fu bT dH jm jO bg eG aZ mI fq eX bJ aT dB jF
end
section
open Pm
attribute [local irreducible] aN aQ bq aJ aI eY dL aD aC aF bn aY aj bR fC fu bT dH jm jO bg eG aZ mI fq eX bJ aT dB jF
end
section
open Pm
theorem lD(h:List UInt8):(bD h).e=0/\(bD h).zs=[aJ 4 (aI (kQ h)),aS (aK h)]++List.replicate 29 0/\(bD h).ad=[true,false,false,false,false,false,false,false]/\(bD h).k=1/\(bD h).ch=zB 32/\(bD h).lf=0/\
  (bD h).sg=kQ h/\(bD h).sc=aK h/\(bD h).ab=zB 96/\(bD h).ep=am5 (aK h)/\(bD h).sD=Oy (am5 (aK h)):=by
 unfold bD fG pK
 exact⟨rfl,rfl,rfl,rfl,rfl,rfl,rfl,rfl,rfl,rfl,rfl⟩
theorem bD9{x y:Int}(h1:p.zs=[x,y]++List.replicate 29 0)(h2:p.ad.length=8)(h3:p.ch.length=32)(h4:p.lf=0)(h5:p.sg.length=32)(h6:p.sc.length=32)(h7:p.ab=zB 96)(h8:p.ep.length=32)(h9:p.sD.length=32)(hm:gF p.e p.zs p.ad p.k=true)(hx:x=aJ 4 (aI p.sg))(hy:y=aS p.sc):Own p:=by
 have z:∀k,k<3->jl (zB 96) k=zB 32:=fun k hk=>by
  unfold jl
  rw[List.drop_replicate,List.take_replicate,show min 32 (96-k*32)=32 by omega]
 have n:∀j:Nat,2<=j->j<31->p.zs.getD j 0=0:=fun j hj hj2=>by
  rw[h1,yGd,List.getElem?_append_right (by simp;omega),List.getElem?_replicate,if_pos (by simp;omega)]
  rfl
 have k1:dJ p.zs (16+n1 p.lf)=false:=(dX _ _).2 (n _ (by unfold n1;omega) (by rw[h4];decide))
 have k2:dJ p.zs (16+n2 p.lf)=false:=(dX _ _).2 (n _ (by unfold n2;omega) (by rw[h4];decide))
 have k3:dJ p.zs 23=false:=(dX _ _).2 (n _ (by decide) (by decide))
 refine⟨⟨by omega,by omega,by rw[h1];simp,h2,h3,h5,h6,by rw[h7];simp,h8,h9,fun _=>by rw[h7];exact z 0 (by decide),fun _=>by rw[h7];exact z 1 (by decide),fun _=>by rw[h7];exact z 2 (by decide)⟩,hm,?_,fun h=>by(rw[k1]at h;cases h),fun h=>by(rw[k2]at h;cases h),fun h=>by(rw[k3]at h;cases h)⟩
 rw[h4,h1,hx,hy]
 rfl
theorem Fq(h:List UInt8):Own (bD h):=by
 obtain⟨_,k2,k3,_,k5,k6,k7,k8,k9,k10,k11⟩:=lD h
 exact bD9 k2 (by rw[k3];rfl) (by rw[k5];simp) k6 (by rw[k7];exact Qa _) (by rw[k8];exact FX _) k9 (by rw[k10];exact am6 _) (by rw[k11];exact Oz _) (RJ h) (by rw[k7]) (by rw[k8])
end
section
open Pm
attribute [local irreducible] dL aJ aI kQ aK fM qY gF aC8 aS
structure GV(i a:Nat)(q:PS):Prop where
 own:Own q
 lf:q.lf=0
 mem:∀j,j<8->eH q.zs j=decide (j<i)
 sg:∀j,j<i->q.zs.getD (j*2) 0=sgV j
 ad:∀j,j<8->q.ad.getD j false=decide (j<a)
 k:q.k=1
 e:q.e=(i:Int) -1
def opsV(x y:Int)(i:Nat)(pr:Bool):List Int:=[1,0,0,x,y]++if pr=true then[3,(i:Int),0,0,0]else[]
def Ae(pr:Bool):Nat:=if pr=true then 2 else 1
def oH(q:PS)(x y:Int)(i:Nat)(pr:Bool):Vw:=⟨fM q.zs [x,y] (i:Nat),if pr=true then q.ad.set i true else q.ad,q.k,F8.set i true,F8⟩
theorem runV_1{ops o:List Int}{d j:Nat}{s:Vw}(ho:opAt ops j=o)(h:je s fr o=0):jD fr ops (d+1) j s=jD fr ops d (j+1) (iQ s o):=by rw[jD,ho,if_pos h]
theorem runV_0(fr:Int)(ops:List Int)(j:Nat)(s:Vw):jD fr ops 0 j s=(0,s):=by rw[jD]
theorem bm4(zs:List Int){w:Nat}(hw:w<8):dS zs (w:Int)=eH zs w:=by
 unfold dS aL
 rw[decide_eq_true (show(0:Int)<=(w:Int) by omega),decide_eq_true (show(w:Int)<8 by omega),Int.toNat_natCast]
 rfl
theorem bN3{e:Int}{s s':Vw}{n:Nat}(hv:gF e s.zs s.ad s.k=true)(hn:n<=4)(ho:qK ops n=false)(hm:dS s.zs fr=true)(hr:jD fr ops n 0 s=(0,s'))(hc:s'.k<=((mJ s'.ad:Nat):Int)):fC e s fr ops n=(0,s'):=by
 unfold fC
 rw[hv,ho,hm,hr,decide_eq_false (show ¬n>4 by omega)]
 show(if((mJ s'.ad:Nat):Int)<s'.k then _ else _)=_
 rw[if_neg (by omega)]
theorem bM0{ad:List Bool}(hl:ad.length=8)(h:∀j,j<8->ad.getD j false=decide (j<a)):ad=(List.range 8).map fun j=>decide (j<a):=by
 refine List.ext_getElem (by simp[hl]) fun i h1 h2=>?_
 have:=h i (by omega)
 rw[yGd,yGe h1]at this
 simpa using this
theorem br0{ad:List Bool}(hl:ad.length=8)(ha:a<=8)(h:∀j,j<8->ad.getD j false=decide (j<a)):mJ ad=a:=by
 rw[bM0 hl h]
 have:a=0\/a=1\/a=2\/a=3\/a=4\/a=5\/a=6\/a=7\/a=8:=by omega
 rcases this with rfl|rfl|rfl|rfl|rfl|rfl|rfl|rfl|rfl<;>decide
section
variable {i a : Nat} {q : PS} (h : GV i a q) (i0 : 1 <= i) (i1 : i < 6) {x y : Int} (hx : dL x = true) (hy : dL y = true) (hn : ∀ j, j < i -> q.zs.getD (j * 2) 0 ≠ x) (a0 : 1 <= a) (a1 : a <= i) {pr : Bool} (hp : pr = true -> a = i)
include h i0 i1 hx hy hn
include a0 a1 hp
end
end
section
open Pm
attribute [local irreducible] dL aJ aI kQ aK fM qY gF aC8 aS
theorem bn9(i:Nat)(i1:i<8)(j:Nat)(hj:j<8):(F8.set i true).getD j false=decide (j=i):=by
 rw[yGd,List.getElem?_set]
 by_cases e:i=j
 ·rw[if_pos e,if_pos (by simpa using i1),decide_eq_true e.symm];rfl
 ·rw[if_neg e,decide_eq_false (fun h=>e h.symm)]
  rcases j with _|_|_|_|_|_|_|_|j<;>first|rfl|omega
end
section
open Pm
theorem SB : ((List.range 8).map fun j : Nat => aI (kQ (qU (j : Nat)))).Pairwise (· ≠ ·) := by decide +kernel
abbrev DN(j:Nat):Int:=aJ 4 (aI (kQ (qU (j:Nat))))
abbrev I6(j:Nat):Int:=aS (aK (qU (j:Nat)))
theorem aD1(hi:i<8)(hj:j<8)(h:i≠j):DN i≠DN j:=fun e=>by
 have P:=List.pairwise_iff_getElem.1 SB
 have q:=az6 (iq _) (iq _) e
 rcases Nat.lt_or_ge i j with o|o
 ·have:=P i j (by simpa using hi) (by simpa using hj) o
  simp only[List.getElem_map,List.getElem_range]at this
  exact this q
 ·have:=P j i (by simpa using hj) (by simpa using hi) (by omega)
  simp only[List.getElem_map,List.getElem_range]at this
  exact this q.symm
theorem MH(i:Nat):dL (DN i)=true:=OA _ (iq _)
theorem Uc(i:Nat):dL (I6 i)=true:=jh _
theorem VN(i:Nat):pK (qU (i:Nat))=[DN i,I6 i]:=rfl
attribute [local irreducible] dL aJ aI kQ aK fM qY gF qU aS
structure GH(i a:Nat)(q:PS):Prop where
 own:Own q
 lf:q.lf=0
 mem:∀j,j<8->eH q.zs j=decide (j<i)
 sg:∀j,j<i->q.zs.getD (j*2) 0=DN j
 ad:∀j,j<8->q.ad.getD j false=decide (j<a)
 k:q.k=1
 e:q.e=(i:Int) -1
theorem X9:GH 1 1 (bD (qU (0:Nat))):=by
 obtain⟨k1,k2,k3,k4,_,k6,_⟩:=lD (qU (0:Nat))
 refine⟨Fq _,k6,fun j hj=>?_,fun j hj=>?_,fun j hj=>?_,k4,by rw[k1];rfl⟩
 ·rw[k2]
  unfold eH
  rw[Cj]
  by_cases h:j=0
  ·have h0:DN 0≠0:=Sy (MH 0)
   rw[if_pos h,h,decide_eq_true (show(0:Nat)<1 by decide)]
   exact decide_eq_true fun e=>h0 (List.cons.inj e).1
  ·rw[if_neg h,if_pos hj]
   simp;omega
 ·obtain rfl:j=0:=by omega
  rw[k2]
  rfl
 ·rw[k3]
  rcases j with _|_|_|_|_|_|_|_|j<;>first|rfl|omega
section
variable {i a : Nat} {q : PS} (h : GH i a q) (i0 : 1 <= i) (i1 : i < 8) {x y : Int} (hx : dL x = true) (hy : dL y = true) (hn : ∀ j, j < i -> q.zs.getD (j * 2) 0 ≠ x) (a0 : 1 <= a) (a1 : a <= i) {pr : Bool} (hp : pr = true -> a = i)
include h i0 i1 hx hy hn
theorem aP9:nJ q.zs (x)=false:=by
 have z0:x≠0:=Sy hx
 unfold nJ
 rw[List.any_eq_false]
 intro j hj
 have hj:=List.mem_range.1 hj
 simp only[decide_eq_true_eq]
 rcases Nat.lt_or_ge j i with o|o
 ·exact hn j o
 ·have:=h.mem j hj
  unfold eH at this
  rw[jg (by rw[h.own.inv.zl];decide) hj,decide_eq_false (show ¬j<i by omega)]at this
  have:=of_decide_eq_false this
  have e:q.zs.getD (j*2) 0=0:=by
   have:=Classical.not_not.1 this
   exact(List.cons.inj this).1
  rw[e];exact z0.symm
theorem aP7:nE q.zs=false:=by
 unfold nE
 rw[List.all_eq_false]
 exact⟨i,by simp;omega,by rw[h.mem i (by omega)];simp⟩
theorem aP6:jv q.zs=i:=free_at (by omega) (by rw[h.mem i (by omega)];simp) fun j hj=>by rw[h.mem j (by omega)];simpa using hj
theorem am8(ng gn:List Bool):je ⟨q.zs,q.ad,q.k,ng,gn⟩ q.lf [1,0,0,x,y]=0:=by
 unfold je
 rw[show([1,0,0,x,y]:List Int).getD 0 0=1 from rfl,if_pos rfl]
 show iB q.zs [x,y]=0
 unfold iB
 rw[show([x,y]:List Int).getD 0 0=x from rfl,show([x,y]:List Int).getD 1 0=y from rfl,hx,hy,aP9 h i0 i1 hx hy hn,aP7 h i0 i1 hx hy hn]
 rfl
theorem am9:iQ ⟨q.zs,q.ad,q.k,F8,F8⟩ [1,0,0,x,y]=⟨fM q.zs [x,y] (i:Nat),q.ad,q.k,F8.set i true,F8⟩:=by
 unfold iQ
 rw[show([1,0,0,x,y]:List Int).getD 0 0=1 from rfl,if_pos rfl]
 dsimp only
 rw[aP6 h i0 i1 hx hy hn]
 rfl
theorem an0(hj:j<8):eH (fM q.zs [x,y] (i:Nat)) j=decide (j<i+1):=by
 have z0:x≠0:=Sy hx
 rw[qI h.own.inv.zl rfl (by omega) hj]
 by_cases e:j=i
 ·rw[if_pos e,e]
  simp only[Nat.lt_succ_self,decide_true,decide_eq_true_eq]
  exact fun e=>z0 (List.cons.inj e).1
 ·rw[if_neg e,h.mem j hj]
  by_cases o:j<i
  ·rw[decide_eq_true o,decide_eq_true (by omega)]
  ·rw[decide_eq_false o,decide_eq_false (by omega)]
include a0 a1 hp
theorem bk8(j:Nat)(hj:j<8):(oH q x y i pr).ad.getD j false=decide (j<if pr=true then a+1 else a):=by
 unfold oH
 dsimp only
 cases pr with
 |false=>exact h.ad j hj
 |true=>
  obtain rfl:=hp rfl
  rw[if_pos rfl,if_pos rfl,yGd,List.getElem?_set]
  by_cases e:a=j
  ·rw[if_pos e,if_pos (by rw[h.own.inv.al];omega),decide_eq_true (by omega)];rfl
  ·rw[if_neg e,<-yGd,h.ad j hj]
   by_cases o:j<a
   ·rw[decide_eq_true o,decide_eq_true (by omega)]
   ·rw[decide_eq_false o,decide_eq_false (by omega)]
theorem bk9:fC q.e ⟨q.zs,q.ad,q.k,F8,F8⟩ q.lf (opsV x y i pr) (Ae pr)=(0,oH q x y i pr):=by
 have z:dS q.zs q.lf=true:=by
  rw[h.lf]
  have:=bm4 q.zs (w:=0) (by decide)
  rw[h.mem 0 (by decide)]at this
  rw[show(0:Int)=((0:Nat):Int)from rfl,this]
  simp;omega
 have hc:(oH q x y i pr).k<=((mJ (oH q x y i pr).ad:Nat):Int):=by
  have hl:(oH q x y i pr).ad.length=8:=by
   unfold oH
   dsimp only
   split
   ·rw[List.length_set];exact h.own.inv.al
   ·exact h.own.inv.al
  rw[br0 (a:=if pr=true then a+1 else a) hl (by split<;>omega) (bk8 h i0 i1 hx hy hn a0 a1 hp)]
  have hk:(oH q x y i pr).k=1:=h.k
  rw[hk]
  split<;>omega
 have ho:qK (opsV x y i pr) (Ae pr)=false:=by
  cases pr<;>rfl
 refine bN3 h.own.may (by unfold Ae;split<;>omega) ho z ?_ hc
 cases pr with
 |false=>
  show jD q.lf [1,0,0,x,y] (0+1) 0 _=_
  rw[runV_1 (d:=0) (o:=[1,0,0,x,y]) rfl (am8 h i0 i1 hx hy hn _ _),am9 h i0 i1 hx hy hn,runV_0]
  rfl
 |true=>
  obtain rfl:=hp rfl
  show jD q.lf [1,0,0,x,y,3,(a:Int),0,0,0] (1+1) 0 _=_
  rw[runV_1 (d:=1) (o:=[1,0,0,x,y]) rfl (am8 h i0 i1 hx hy hn _ _),am9 h i0 i1 hx hy hn,runV_1 (d:=0) (o:=[3,(a:Int),0,0,0]) rfl ?_,runV_0]
  ·rfl
  ·show lU (fM q.zs [x,y] (a:Nat)) q.ad (a:Int)=0
   unfold lU
   rw[bm4 _ (by omega),an0 h i0 i1 hx hy hn (by omega),Int.toNat_natCast,h.ad a (by omega)]
   simp
end
theorem bz5(h:GH i a q)(a0:1<=a):mQ q.ad 0=true:=by
 unfold mQ aL
 have:=h.ad 0 (by decide)
 rw[show((0:Int).toNat)=0 from rfl,this]
 simp;omega
theorem aP8(h:GH i a q)(i0:1<=i)(i1:i<8)(a0:1<=a)(a1:a<=i){pr:Bool}(hp:pr=true->a=i){vs:List Int}(hc:eX q (Ae pr) (opsV (DN i) (I6 i) i pr) m vs=0)(d:List UInt8):
  fq q q.lf (Ae pr) (opsV (DN i) (I6 i) i pr)=oH q (DN i) (I6 i) i pr/\GH (i+1) (if pr=true then a+1 else a) (aT q (oH q (DN i) (I6 i) i pr) (Ae pr) (opsV (DN i) (I6 i) i pr) m vs d)/\
  bZ (aT q (oH q (DN i) (I6 i) i pr) (Ae pr) (opsV (DN i) (I6 i) i pr) m vs d).zs i=pK (qU (i:Nat)):=by
 obtain⟨x,hx⟩:∃x,x=DN i:=⟨_,rfl⟩
 obtain⟨y,hy⟩:∃y,y=I6 i:=⟨_,rfl⟩
 have ix:dL x=true:=hx▸MH i
 have iy:dL y=true:=hy▸Uc i
 have hn:∀j,j<i->q.zs.getD (j*2) 0≠x:=fun j hj=>by rw[h.sg j hj,hx];exact aD1 (by omega) i1 (by omega)
 rw[VN,<-hx,<-hy]
 rw[<-hx,<-hy]at hc
 have hdo:fq q q.lf (Ae pr) (opsV x y i pr)=oH q x y i pr:=by
  unfold fq
  rw[bk9 h i0 i1 ix iy hn a0 a1 hp]
 have ho:=xL h.own hc d
 rw[hdo]at ho
 have zl:(oH q x y i pr).zs.length=31:=oP h.own.inv.zl rfl
 have sl:aS (aK d)≠0:=lI _
 have z0:q.lf.toNat=0:=by rw[h.lf];rfl
 have lp:∀j,j<8->bZ (qY (oH q x y i pr).zs q.lf (aS (aK d)) (aS (aj (aK d))) (aS (aj (aj (aK d)))) (aS (aj (aj (aj (aK d)))))) j=if j=0 then[(bZ (oH q x y i pr).zs 0).getD 0 0,aS (aK d)]else bZ (oH q x y i pr).zs j:=fun j hj=>by
  rw[tq zl h.own.inv.lf0 h.own.inv.lf1 _ _ _ _ hj,z0,qG _ (by decide)]
 have lq:∀j,j<8->bZ (oH q x y i pr).zs j=if j=i then[x,y]else bZ q.zs j:=fun j hj=>qo h.own.inv.zl rfl (by omega) hj
 have m0:eH q.zs 0=true:=by rw[h.mem 0 (by decide)];simp;omega
 refine⟨hdo,⟨ho,?_,fun j hj=>?_,fun j hj=>?_,fun j hj=>?_,?_,?_⟩,?_⟩
 ·rw[<-h.lf];dsimp only[aT,eT,fG,nu,qM]
 ·rw[tu]
  have hm:=an0 h i0 i1 ix iy hn hj
  have hm:eH (oH q x y i pr).zs j=decide (j<i+1):=hm
  by_cases e:j=0
  ·rw[e]at hm ⊢
   rw[OV zl h.own.inv.lf0 h.own.inv.lf1 _ _ _ _ (by decide) sl (by rw[hm];simp)]
   simp
  ·rw[<-hm]
   unfold eH
   rw[lp j hj,if_neg e]
 ·rw[tu,<-qG _ (by omega),lp j (by omega)]
  by_cases e:j=0
  ·rw[if_pos e,lq 0 (by decide),if_neg (by omega),e]
   show(bZ q.zs 0).getD 0 0=_
   rw[qG _ (by decide)]
   exact h.sg 0 (by omega)
  ·rw[if_neg e,lq j (by omega)]
   by_cases e2:j=i
   ·rw[if_pos e2,e2,<-hx];rfl
   ·rw[if_neg e2,qG _ (by omega)]
    exact h.sg j (by omega)
 ·have e:(aT q (oH q x y i pr) (Ae pr) (opsV x y i pr) m vs d).ad=(oH q x y i pr).ad:=by dsimp only[aT,eT,fG,nu,qM]
  rw[e]
  exact bk8 h i0 i1 ix iy hn a0 a1 hp j hj
 ·have e:(aT q (oH q x y i pr) (Ae pr) (opsV x y i pr) m vs d).k=q.k:=by dsimp only[aT,eT,fG,nu,qM,oH]
  rw[e];exact h.k
 ·have e:(aT q (oH q x y i pr) (Ae pr) (opsV x y i pr) m vs d).e=q.e+1:=by dsimp only[aT,eT,fG,nu,qM]
  rw[e,h.e];omega
 ·rw[tu,lp i (by omega),if_neg (by omega),lq i (by omega),if_pos rfl]
end
section
open Pm
theorem EX{q:Nat->Bool}{n:Nat}(h:∀j,j<n->q j=false):jN q n=false:=by
 cases e:jN q n with
 |false=>rfl
 |true=>obtain⟨j,hj,hb⟩:=(oz _ _).1 e;rw[h j hj]at hb;cases hb
theorem OU(h:Own p)(he0:0<=p.e)(he:p.e<1099511627776){s:Vw}{n m:Nat}{ops vs:List Int}(hn:n<=4)(ho:∀i,i<n->dh (qX 5 ops i)=false)(hm:m<=8)(hv:∀i,i<m->bL (qX 3 vs i)=false)(d:List UInt8)(hc:c=bJ p s n ops m vs d):dA c=true/\c.n<=3000/\c.m<=3000/\c.k<=3000/\∀j,j<c.k->(c.bx j).length<=6000:=by
 have l0:=h.inv.lf0
 have l1:=h.inv.lf1
 have e1:c.n=n:=by rw[hc];dsimp only[bJ,fJ]
 have e2:c.m=m:=by rw[hc];dsimp only[bJ,fJ]
 have e1':c.ops=ops:=by rw[hc];dsimp only[bJ,fJ]
 have e2':c.vs=vs:=by rw[hc];dsimp only[bJ,fJ]
 have e3:c.k<=16:=by rw[hc];dsimp only[bJ,fJ];exact planL_16 _ _ _
 have e4:∀j,j<c.k->(c.bx j).length<=300:=fun j _=>by
  rw[hc]
  dsimp only[bJ,fJ,uw,Di]
  exact yLt (xD _ _ _) (by decide)
 have b1:jN (fun i=>decide (((c.bx i).length:Int)>300)) c.k=false:=EX fun j hj=>decide_eq_false (by have:=e4 j hj;omega)
 have b2:jN (fun i=>dh (qX 5 c.ops i)) c.n=false:=EX fun j hj=>by rw[e1'];exact ho j (by omega)
 have b3:jN (fun i=>bL (qX 3 c.vs i)) c.m=false:=EX fun j hj=>by rw[e2'];exact hv j (by omega)
 have a1:aU c.e 1099511627776=true:=by rw[hc];exact dN he0 (by show p.e<=_;omega)
 have a2:aU c.fr 7=true:=by rw[hc];exact dN l0 (by show p.lf<=_;omega)
 have a3:nV c.sE c.sS=true:=by
  have s1:=yw (aI p.sg) (bn (fJ p s n ops m vs d)++eB (aT p s n ops m vs d).ep)
  have s2:=EC (aI p.sg) (bn (fJ p s n ops m vs d)++eB (aT p s n ops m vs d).ep)
  rw[hc]
  unfold nV
  rw[show(bJ p s n ops m vs d).sE=iV (aI p.sg) (bn (fJ p s n ops m vs d)++eB (aT p s n ops m vs d).ep)from rfl,show(bJ p s n ops m vs d).sS=jI (aI p.sg) (bn (fJ p s n ops m vs d)++eB (aT p s n ops m vs d).ep)from rfl]
  rw[dN s1.1 (by omega),dN s2.1 (by omega)]
  rfl
 have a4:aU c.sl 2147483579=true:=by rw[hc];dsimp only[bJ,fJ];exact oK _
 have a5:aU c.p0 2147483579=true:=by rw[hc];dsimp only[bJ,fJ];exact oK _
 have a6:aU c.p1 2147483579=true:=by rw[hc];dsimp only[bJ,fJ];exact oK _
 have a7:aU c.p2 2147483579=true:=by rw[hc];dsimp only[bJ,fJ];exact oK _
 refine⟨?_,by omega,by omega,by omega,fun j hj=>yLt (e4 j hj) (by decide)⟩
 unfold dA
 rw[a1,a2,a3,a4,a5,a6,a7,b1,b2,b3,decide_eq_true (show(c.n:Int)<=4 by omega),decide_eq_true (show(c.m:Int)<=8 by omega),decide_eq_true (show(c.k:Int)<=16 by omega)]
 rfl
theorem Ir{W:Nat->List Seg}{ng:List Bool}:∀{n i:Nat},i<fO ng n->∃j,j<n/\ng.getD j false=true/\kG W ng n i=W j
 |0,i,h=>by rw[fO]at h;omega
 |n+1,i,h=>by
  rw[fO]at h
  simp only[kG]
  by_cases hb:ng.getD n false=true
  ·rw[if_pos hb]at h
   rw[if_pos hb]
   by_cases hi:i=fO ng n
   ·rw[if_pos hi];exact⟨n,by omega,hb,rfl⟩
   ·rw[if_neg hi]
    obtain⟨j,h1,h2,h3⟩:=Ir (W:=W) (show i<fO ng n by omega)
    exact⟨j,by omega,h2,h3⟩
  ·rw[if_neg hb]at h
   rw[if_neg hb]
   obtain⟨j,h1,h2,h3⟩:=Ir (W:=W) h
   exact⟨j,by omega,h2,h3⟩
theorem aL0(h:Own q)(hch:q.ch.length=32){ab joint tag d:List UInt8}(ht:tag.length=32)(ng:List Bool):K7 (fO ng 8) (kG (dK q ab joint tag d) ng 8):=by
 unfold K7
 intro i hi
 obtain⟨j,h1,h2,h3⟩:=Ir (W:=dK q ab joint tag d) hi
 rw[h3]
 have hb:(kF q ab joint d j).length<=212:=xD _ _ _
 unfold okW
 refine⟨⟨(j:Int),q.lf,q.e,q.zs,q.ad,q.k,q.ch,kF q ab joint d j,tag⟩,rfl,⟨h.inv.zl,h.inv.al,hch,ht,by show(kF q ab joint d j).length<=6000;omega⟩,?_⟩
 unfold kW
 dsimp only
 rw[dN (by omega) (by omega),dN h.inv.lf0 (by have:=h.inv.lf1;omega),show gF q.e q.zs q.ad q.k=true from h.may,decide_eq_true (by omega)]
 rfl
end
section
open Pm
theorem NA{f g:Nat->List UInt8}:∀{k:Nat},(∀j,j<k->f j=g j)->bxB f k=bxB g k
 |0,_=>rfl
 |k+1,h=>by
  unfold bxB
  rw[NA fun j hj=>h j (by omega),h k (by omega)]
theorem Ji{c d:CS}(h:rz c d):bn c=bn d:=by
 unfold bn pR qC
 rw[h.e,h.fr,h.n,h.ops,h.m,h.vs,h.sl,h.p0,h.p1,h.p2,h.k,NA h.bx]
theorem aO5{l:List (Int×Int)}{lf:Int}(h:dQ l lf≠l.length):dQ l lf<l.length:=by
 have:dQ l lf<=l.length:=List.findIdx_le_length
 omega
theorem X3{c d:CS}(h:rz c d)(l:List (Int×Int)):qE p c l=qE p d l:=by
 have e:vJ c=vJ d:=by unfold vJ;rw[h.sl,h.p0,h.p1,h.p2]
 unfold qE
 rw[e,h.k]
 by_cases g:vJ d=false\/d.k≠l.length\/dQ l p.lf=l.length
 ·rw[if_pos g,if_pos g]
 ·rw[if_neg g,if_neg g]
  have g1:d.k=l.length:=Decidable.byContradiction fun x=>g (.inr (.inl x))
  have g2:dQ l p.lf≠l.length:=fun x=>g (.inr (.inr x))
  rw[h.bx _ (by rw[g1];exact aO5 g2)]
theorem Xl{c d:CS}(h:rz c d)(s:Vw):nu p s c=nu p s d:=by
 unfold nu
 rw[h.fr,h.sl,h.p0,h.p1,h.p2,Ji h]
theorem TN{c d:CS}(h:rz c d):oM p c=oM p d:=by
 have e1:yA p c=yA p d:=by unfold yA;rw[h.e,h.fr,Ji h,h.tag,h.sE,h.sS]
 unfold oM
 rw[e1,h.fr,h.n,h.ops,h.m,h.vs,Xl h,X3 h,h.tag]
theorem CW(h:dA c=true)(hc:lS c)(ht:c.tag.length=32)(i:Int):dZ (some p) i (bS c)=oM p c:=by
 obtain⟨h1,h2⟩:=aV0 h hc ht
 unfold dZ
 dsimp only
 rw[if_pos h1,TN h2]
theorem Y3{w:WS}(h:kW w=true)(hw:sM w)(i:Int):dZ none i (IE w)=yM (qU i) (aI0 w):=by
 obtain⟨h1,h2⟩:=aV1 h hw
 unfold dZ
 dsimp only
 rw[if_pos h1,h2]
abbrev iU(b:List UInt8):A:=.row b.length [.bytes b.length b]
theorem WA(hc:lS c)(ht:c.tag.length=32):A.row (bE c) [.bytes (bE c) (bS c)]=iU (bS c):=by
 unfold iU
 rw[yK hc ht]
theorem aZ0{l:List Seg}{w:WS}(h:l=kJ w)(hw:sM w):A.row (wN l) [.bytes (wN l) (wB l)]=iU (IE w):=by
 unfold iU wN wB
 rw[h,Na,zQ hw]
theorem Ei(h:dA c=true)(hc:lS c)(ht:c.tag.length=32):(bS c).length<=1000000/\(bS c).length≠0:=by
 have:=Jh h hc
 rw[yK hc ht]
 unfold bE
 omega
theorem WW{w:WS}(hw:sM w):(IE w).length<=1000000/\(IE w).length≠0:=by
 have:=hw.box
 rw[zQ hw]
 unfold ZC
 omega
theorem Vg(h:Own p)(he0:0<=p.e)(he:p.e<1099511627776){s:Vw}{n m:Nat}{ops vs:List Int}(hn:n<=4)(hol:ops.length=n*5)(hvl:vs.length=m*3)(ho:∀i,i<n->dh (qX 5 ops i)=false)(hm:m<=8)(hv:∀i,i<m->bL (qX 3 vs i)=false)(d:List UInt8)(hc:c=bJ p s n ops m vs d):dA c=true/\lS c/\c.tag.length=32:=by
 obtain⟨m1,m2,m3,m4,m5⟩:=OU h he0 he hn ho hm hv d hc
 refine⟨m1,⟨m2,m3,m4,?_,?_,m5⟩,?_⟩
 ·rw[hc];dsimp only[bJ,fJ];exact hol
 ·rw[hc];dsimp only[bJ,fJ];exact hvl
 ·rw[hc];dsimp only[bJ,fJ];exact Bp _
end
section
open Pm
abbrev YK:PS:=bD (qU (0:Nat))
abbrev wX(j:Nat):List Int:=opsV (DN j) (I6 j) 1 false
end
section
open Pm
abbrev paW(j:Nat):List UInt8:=bW YK.e YK.zs YK.ad YK.k YK.ch YK.lf (wX j)
noncomputable abbrev aW(j:Nat):Ap:=⟨paW j,0,iV (aI YK.sg) (paW j),jI (aI YK.sg) (paW j)⟩
theorem bE0:YK.e=0:=(lD (qU (0:Nat))).1
theorem cf9:YK.lf=0:=(lD (qU (0:Nat))).2.2.2.2.2.1
theorem av6{x y:Int}(hx:dL x=true)(hy:dL y=true):∀i,i<1->dh (qX 5 (opsV x y 1 false) i)=false:=fun i hi=>by
 obtain rfl:i=0:=by omega
 obtain⟨x1,x2,_⟩:=(rH x).1 hx
 obtain⟨y1,y2,_⟩:=(rH y).1 hy
 have e:qX 5 (opsV x y 1 false) 0=[1,0,0,x,y]:=rfl
 rw[e]
 unfold dh
 simp only[List.any_cons,List.any_nil]
 rw[dN (by decide) (by decide),dN (n:=0) (by decide) (by decide),dN (n:=x) (by omega) (by omega),dN (n:=y) (by omega) (by omega)]
 rfl
theorem aZ4(s:Int)(P:List UInt8):nV (iV s P) (jI s P)=true:=by
 have s1:=yw s P
 have s2:=EC s P
 unfold nV
 rw[dN s1.1 (by omega),dN s2.1 (by omega)]
 rfl
theorem aE6{c:Nat->Cm}(hn:0<=n/\n<=1000000)(hi:i<8)(hcp:c i=jG (.sref (aP p) 0))(hcq:c 16=IL rows)(hca:c 17=Lh L)(hL:L.length<=1000000)(hO:Own p)(he:0<=p.e)(he1:p.e<1099511627776){nn fr dr:Int}(ho:o≠0)(ho1:o<=4){vz:List Int}(hmv:m=vN L (bW p.e p.zs p.ad p.k p.ch p.lf ops) 8)(QS:vz=vZ L (bW p.e p.zs p.ad p.k p.ch p.lf ops) 8)(hE:eX p o ops m vz=0)
  (hod:∀i,i<o->dh (qX 5 ops i)=false)(hov:∀i,i<m->bL (qX 3 vz i)=false){s:Vw}(hs:s=fq p p.lf o ops)(hq:q=aT p s o ops m vz (bF dr))(hN:N=fO s.ng 8)(hk:rows.length+1+N<=60):
  vC Tryz.prog gTab 9 0 (jQ 0 n c) [.agg [.ints .i64 4 [2,(i:Nat),nn,fr],.gen 1 [.row o [.ints .i64 (o*5) ops]],.ints .i64 1 [dr],.gen 1 [z]]] (.d (.v (.int .i64 0)))
   (jQ 0 (n+1) (upd (upd c i (jG (.sref (aP q) 0))) 16 (IL (rows++ny (bJ p s o ops m vz (bF dr)) (kG (dK q (jF (aK (bF dr))) (dB p (bF dr)) (eB q.ep) (bF dr)) s.ng 8) N)))):=by
 have hm8:m<=8:=by rw[hmv];exact Qs _ _ _
 have hlf:aL p.lf=true:=by
  have l0:=hO.inv.lf0
  have l1:=hO.inv.lf1
  unfold aL
  rw[decide_eq_true l0,decide_eq_true (by omega)];rfl
 have hown:=xL hO hE (bF dr)
 rw[<-hs,<-hq]at hown
 obtain⟨m1,m2,m3,m4,m5⟩:=OU hO he he1 (s:=s) (n:=o) (m:=m) (ops:=ops) (vs:=vz) ho1 hod hm8 hov (bF dr) rfl
 exact aZ8 (i:=i) (p:=p) (L:=L) (rows:=rows) (o:=o) (m:=m) (vz:=vz) hn hi hcp hcq hca hL hlf ho (by omega) hmv QS hk hE hs rfl hq m1 hN rfl (by rw[hN];exact aL0 hown hown.inv.cl (Bp _) _) m2 m3 m4 m5 rfl
theorem aO0(p:PS)(x y:Int)(i:Nat)(b:Bool):(oH p x y i b).ng=F8.set i true:=rfl
end
section
open Pm
structure kK where
 P:Nat->Option PS
 Y:Nat->BS
 L:List Ap
 R:List A
def jY(S:kK)(j:Nat):Cm:=if j<8 then jG (kX (S.P j))else if j<16 then Jo (S.Y (j-8))else if j=16 then IL S.R else if j=17 then Lh S.L else jG (.v (.pointer none))
theorem bf0{S:kK}(h:i<8):jY S i=jG (kX (S.P i)):=if_pos h
theorem U9{S:kK}(h:i<8)(hp:S.P i=some p):jY S i=jG (.sref (aP p) 0):=by rw[bf0 h,hp,tH]
theorem bM8{S:kK}(h:i<8):jY S (8+i)=Jo (S.Y i):=by
 unfold jY
 rw[if_neg (by omega),if_pos (by omega),Nat.add_sub_cancel_left]
theorem U8{S:kK}:jY S 16=IL S.R:=rfl
theorem be9{S:kK}:jY S 17=Lh S.L:=rfl
theorem Va{S:kK}(h:i<8)(o:Option PS):upd (jY S) i (jG (kX o))=jY { S with P:=upd S.P i o }:=by
 funext j
 unfold upd jY
 by_cases e:j=i
 ·subst e;rw[if_pos rfl,if_pos h];dsimp only;rw[if_pos rfl]
 ·rw[if_neg e]
  dsimp only
  rw[if_neg e]
theorem aL9{S:kK}(h:i<8)(y:BS)(L:List Ap):upd (upd (jY S) (8+i) (Jo y)) 17 (Lh L)=jY { S with Y:=upd S.Y i y,L:=L }:=by
 funext j
 unfold upd jY
 dsimp only
 by_cases e:j=17
 ·subst e;rfl
 rw[if_neg e]
 by_cases e1:j=8+i
 ·subst e1
  rw[if_pos rfl,if_neg (by omega),if_pos (by omega),Nat.add_sub_cancel_left,if_pos rfl]
 rw[if_neg e1]
 by_cases e2:j<8
 ·rw[if_pos e2,if_pos e2]
 rw[if_neg e2,if_neg e2]
 by_cases e3:j<16
 ·rw[if_pos e3,if_pos e3,if_neg (by omega)]
 rw[if_neg e3,if_neg e3,if_neg e,if_neg e]
theorem Vb{S:kK}(h:i<8)(o:Option PS)(R:List A):upd (upd (jY S) i (jG (kX o))) 16 (IL R)=jY { S with P:=upd S.P i o,R:=R }:=by
 rw[Va h]
 funext j
 unfold upd jY
 dsimp only
 by_cases e:j=16
 ·subst e;rfl
 rw[if_neg e]
 by_cases e2:j<8
 ·rw[if_pos e2,if_pos e2]
 rw[if_neg e2,if_neg e2]
 by_cases e3:j<16
 ·rw[if_pos e3,if_pos e3]
 rw[if_neg e3,if_neg e3,if_neg e,if_neg e]
noncomputable def QO:kK:=⟨fun j=>if j=0 then some (bD (qU (0:Nat)))else none,fun _=>⟨[],0,0⟩,[],[]⟩
theorem aM0:cW0=jY QO:=by
 funext j
 unfold cW0 jY QO
 dsimp only
 by_cases e0:j=0
 ·rw[if_pos e0,if_pos (by omega),if_pos e0,tH];rfl
 rw[if_neg e0]
 by_cases e1:j<8
 ·rw[if_pos e1,if_pos e1,if_neg e0,yh]
 rw[if_neg e1,if_neg e1]
theorem aU1:aV 6 [] (.ob (jQ 0 0 (jY QO))):=aM0▸aU0
theorem bb7{S:kK}(hn:0<=n/\n<=1000000)(hi:i<8)(hp:S.P i=some p)(hL:S.L.length<=1000)(hyf:(S.Y i).f<=1000){nn fr dr er:Int}(hm:m<=1000000)(hol:ops.length=m*5)(hdr: -9223372036854775808<=dr/\dr<=9223372036854775807){y':BS}{L':List Ap}(hr:jZ p (S.Y i) S.L fr ops m nn dr=(er,y',L')){S':kK}(hS:S'={ S with Y:=upd S.Y i y',L:=L' })
  (hwf:yZ (S.Y i) p.e:=by assumption)
  (bA7:(nn==1)=false:=by first|rfl|assumption)
  :
  vC Tryz.prog gTab 9 0 (jQ 0 n (jY S)) [.agg [.ints .i64 4 [1,(i:Nat),nn,fr],.gen 1 [.row m [.ints .i64 (m*5) ops]],.ints .i64 1 [dr],.gen 1 [z]]] (.d (.v (.int .i64 er))) (jQ 0 (n+1) (jY S')):=by
 subst hS
 exact ba0 hn hi (U9 hi hp) (bM8 hi) be9 hL hm hol hdr hyf hr (aL9 hi _ _).symm
theorem br7{S:kK}(hn:0<=n/\n<=1000000)(hi:i<8)(hp:S.P i=some p)(hL:S.L.length<=1000000)(hO:Own p)(he:0<=p.e)(he1:p.e<1099511627776){nn fr dr:Int}(ho:o≠0)(ho1:o<=4){vz:List Int}(hmv:m=vN S.L (bW p.e p.zs p.ad p.k p.ch p.lf ops) 8)(QS:vz=vZ S.L (bW p.e p.zs p.ad p.k p.ch p.lf ops) 8)(hE:eX p o ops m vz=0)
  (hod:∀i,i<o->dh (qX 5 ops i)=false)(hov:∀i,i<m->bL (qX 3 vz i)=false){s:Vw}(hs:s=fq p p.lf o ops)(hq:q=aT p s o ops m vz (bF dr))(hN:N=fO s.ng 8)(hk:S.R.length+1+N<=60){R':List A}(hR:R'=S.R++ny (bJ p s o ops m vz (bF dr)) (kG (dK q (jF (aK (bF dr))) (dB p (bF dr)) (eB q.ep) (bF dr)) s.ng 8) N){S':kK}(hS:S'={ S with P:=upd S.P i (some q),R:=R' }):
  vC Tryz.prog gTab 9 0 (jQ 0 n (jY S)) [.agg [.ints .i64 4 [2,(i:Nat),nn,fr],.gen 1 [.row o [.ints .i64 (o*5) ops]],.ints .i64 1 [dr],.gen 1 [z]]] (.d (.v (.int .i64 0))) (jQ 0 (n+1) (jY S')):=by
 subst hS;subst hR
 have:=aE6 (nn:=nn) (fr:=fr) (z:=z) hn hi (U9 hi hp) U8 be9 hL hO he he1 ho ho1 hmv QS hE hod hov hs hq hN hk
 rw[show(A.sref (aP q) 0)=kX (some q)from(tH q).symm,Vb hi]at this
 exact this
theorem EG{S:kK}(hn:0<=n/\n<=1000000)(hi:i<8)(hlf:∀p,S.P i=some p->aL p.lf=true)(hk:S.R.length<=1000000)(hN:N<S.R.length)(hb:b.length<=1000000)(hrow:S.R.getD N (.v undef)=iU b){fr dr er:Int}{x z:A}(her:er=(dZ (S.P i) i b).1){S':kK}(hS:S'={ S with P:=upd S.P i (nextR (S.P i) i b) }):
  vC Tryz.prog gTab 9 0 (jQ 0 n (jY S)) [.agg [.ints .i64 4 [3,(i:Nat),(N:Nat),fr],.gen 1 [x],.ints .i64 1 [dr],.gen 1 [z]]] (.d (.v (.int .i64 er))) (jQ 0 (n+1) (jY S')):=by
 subst hS
 exact aZ9 hn hi (bf0 hi) hlf U8 hk hN hb hrow her rfl (Va hi _).symm
theorem lK{S:kK}(hi:i<8)(hp:S.P i=some p):vC Tryz.prog gTab 11 0 (jQ 0 n (jY S)) [.v (.int .i64 (i:Nat))] (.d (.sref (aP p) 0)) (jQ 0 n (jY S)):=ay6 hi (U9 hi hp) (uH (El p))
theorem aW5{S:kK}(h0:0<S.R.length)(hk:S.R.length<=1000)(hrw:∀j,j<S.R.length->∃b,S.R.getD j (.v undef)=iU b/\b.length≠0/\b.length<=1000000):
  vC Tryz.prog gTab 13 0 (jQ 0 n (jY S)) [] (.d (.row S.R.length [.gen S.R.length S.R])) (jQ 0 n (jY S)):=aW4 U8 h0 hk fun j hj=>by
 obtain⟨b,h1,h2,h3⟩:=hrw j hj
 exact⟨_,_,h1,h2,h3⟩
end
section
open Pm
abbrev ZT(k:Int):Int:=aI (kQ (qU k))
structure Told(q:PS)(x:Ap):Prop where
 k0:0<=x.k
 k1:x.k<8
 adm:mQ q.ad x.k=true
 key:q.zs.getD (x.k.toNat*2) 0=aJ 4 (ZT x.k)
 e:x.e=iV (ZT x.k) x.p
 s:x.s=jI (ZT x.k) x.p
theorem Told.like{x:Ap}(h:Told q x)(l:Like p q):Told p x:=⟨h.k0,h.k1,by rw[l.ad];exact h.adm,by rw[l.zs];exact h.key,h.e,h.s⟩
theorem ba5{k:Int}(h:gW L P k=true):∃x∈L,x.p=P/\x.k=k/\jU L P k=[x.k,x.e,x.s]:=by
 induction L with
 |nil=>cases h
 |cons y L ih=>
  cases e:FR P k y with
  |true=>
   refine⟨y,by simp,?_,?_,by simp[jU,List.find?,e]⟩
   ·unfold FR at e;simp at e;exact e.1
   ·unfold FR at e;simp at e;exact e.2
  |false=>
   have h2:gW L P k=true:=by simpa[gW,e]using h
   obtain⟨x,h3,h4,h5,h6⟩:=ih h2
   exact⟨x,by simp[h3],h4,h5,by rw[<-h6];simp[jU,List.find?,e]⟩
structure cn4(q:PS)(P:List UInt8)(vs:List Int)(n j:Nat):Prop where
 out:∃a:Nat,a<n/\vs.getD (j*3) 0=(a:Nat)/\vs.getD (j*3+1) 0=iV (ZT (a:Nat)) P/\vs.getD (j*3+2) 0=jI (ZT (a:Nat)) P/\mQ q.ad (a:Nat)=true/\q.zs.getD (a*2) 0=aJ 4 (ZT (a:Nat))/\vK vs j<(a:Nat)
theorem Ay{l m:List Int}(h:i<l.length):(l++m).getD i 0=l.getD i 0:=by
 rw[yGd,List.getElem?_append_left h,<-yGd]
theorem xS{l m:List Int}(h:l.length<=i):(l++m).getD i 0=m.getD (i-l.length) 0:=by
 rw[yGd,List.getElem?_append_right h,<-yGd]
theorem JZ{l m:List Int}(h:j*3<=l.length):vK (l++m) j=vK l j:=by
 cases j with
 |zero=>rfl
 |succ j=>unfold vK;exact Ay (by omega)
theorem WT{q:PS}{L:List Ap}(P:List UInt8)(h:∀x∈L,Told q x):∀n:Nat,(vZ L P n).length=vN L P n*3/\(∀j,j<vN L P n->cn4 q P (vZ L P n) n j)/\(0<vN L P n->(vZ L P n).getD ((vN L P n-1)*3) 0<(n:Nat))
 |0=>⟨rfl,fun j hj=>absurd hj (Nat.not_lt_zero _),fun hj=>absurd hj (Nat.not_lt_zero _)⟩
 |n+1=>by
  obtain⟨h1,h2,h3⟩:=WT P h n
  rw[vN,vZ]
  cases e:gW L P (n:Nat)with
  |false=>
   rw[if_neg (by decide),if_neg (by decide)]
   refine⟨h1,fun j hj=>?_,fun hj=>by have:=h3 hj;omega⟩
   obtain⟨a,a1,a2⟩:=(h2 j hj).out
   exact⟨a,by omega,a2⟩
  |true=>
   rw[if_pos rfl,if_pos rfl]
   obtain⟨x,x1,x2,x3,x4⟩:=ba5 e
   have t:=h x x1
   have l3:(jU L P (n:Nat)).length=3:=by rw[x4];rfl
   refine⟨by rw[List.length_append,h1,l3];omega,fun j hj=>?_,fun _=>?_⟩
   ·by_cases ej:j<vN L P n
    ·obtain⟨a,a1,a2,a3,a4,a5,a6,a7⟩:=(h2 j ej).out
     refine⟨a,by omega,?_,?_,?_,a5,a6,?_⟩
     ·rw[Ay (by omega)];exact a2
     ·rw[Ay (by omega)];exact a3
     ·rw[Ay (by omega)];exact a4
     ·rw[JZ (by omega)];exact a7
    ·obtain rfl:j=vN L P n:=by omega
     refine⟨n,by omega,?_,?_,?_,?_,?_,?_⟩
     ·rw[xS (by omega),h1,Nat.sub_self,x4];exact x3
     ·rw[xS (by omega),h1,show vN L P n*3+1-vN L P n*3=1 by omega,x4]
      show x.e=_
      rw[t.e,x3,x2]
     ·rw[xS (by omega),h1,show vN L P n*3+2-vN L P n*3=2 by omega,x4]
      show x.s=_
      rw[t.s,x3,x2]
     ·rw[<-x3];exact t.adm
     ·have:=t.key;rw[x3,Int.toNat_natCast]at this;exact this
     ·rw[JZ (by omega)]
      cases em:vN L P n with
      |zero=>show(-1:Int)<_;omega
      |succ m=>
       have:=h3 (by omega)
       rw[em]at this
       exact this
   ·rw[show vN L P n+1-1=vN L P n by omega,xS (by omega),h1,Nat.sub_self,x4]
    show x.k<_
    rw[x3];omega
theorem bb8(h:∀x∈L,Told q x){n j:Nat}(hj:j<vN L P n):yQ q.zs q.ad P (vZ L P n) j=true:=by
 obtain⟨a,a1,a2,a3,a4,a5,a6,a7⟩:=((WT P h n).2.1 j hj).out
 unfold yQ
 rw[a2,a3,a4,a5,decide_eq_true a7,Int.toNat_natCast,a6,Zw _ _ (iq _)]
 rfl
theorem Lb{K:Nat}(hi:i<K):(qX K zs j).getD i 0=zs.getD (j*K+i) 0:=by
 unfold qX
 rw[yGd,List.getElem?_take,if_pos hi,List.getElem?_drop,<-yGd]
theorem bH2(h:∀x∈L,Told q x){n j:Nat}(hn:n<=8)(hj:j<vN L P n):bL (qX 3 (vZ L P n) j)=false:=by
 obtain⟨a,a1,a2,a3,a4,_⟩:=((WT P h n).2.1 j hj).out
 unfold bL
 rw[Lb (by decide),Lb (by decide),Lb (by decide),Nat.add_zero,a2,a3,a4,dN (by omega) (by omega),aZ4]
 rfl
theorem af8(h:∀x∈L,Told q x)(ho:o≠0)(hd:(fC q.e ⟨q.zs,q.ad,q.k,F8,F8⟩ q.lf ops o).1=0)(he:q.e<1099511627776){vz:List Int}(hm:m=vN L (bW q.e q.zs q.ad q.k q.ch q.lf ops) 8)(hz:vz=vZ L (bW q.e q.zs q.ad q.k q.ch q.lf ops) 8)(hk:q.k<=(m:Nat)):eX q o ops m vz=0:=by
 have hc:Li q.zs q.ad (bW q.e q.zs q.ad q.k q.ch q.lf ops) vz m=0:=NK fun j hj=>by rw[hz];exact bb8 h (by rw[<-hm];exact hj)
 have hv:fu q.e q.zs q.ad q.k q.ch q.lf ops o vz m=0:=by
  unfold fu
  rw[if_neg ho,if_neg (fun e=>e hd),if_neg (fun e=>e hc),if_neg (by omega)]
 unfold eX
 rw[if_neg (fun e=>e hv),if_neg (fun e=>e hd),if_neg (by omega)]
theorem Uq{x:Ap}:gW (pO L x) x.p x.k=true:=by
 unfold pO
 by_cases h:gW L x.p x.k=true
 ·rw[if_pos h];exact h
 ·rw[if_neg h];simp[gW,FR]
theorem Uo{x:Ap}{k:Int}(h:gW L P k=true):gW (pO L x) P k=true:=by
 unfold pO
 split
 ·exact h
 ·unfold gW at h ⊢;rw[List.any_append,h];rfl
theorem Zk{x y:Ap}(h:y∈pO L x):y∈L\/y=x:=by
 unfold pO at h
 split at h
 ·exact .inl h
 ·simpa using h
theorem Zj(L:List Ap)(x:Ap):(pO L x).length<=L.length+1:=by
 unfold pO
 split
 ·omega
 ·simp
theorem WO(L:List Ap)(P:List UInt8){a:Nat}:∀{b:Nat},a<=b->vN L P a<=vN L P b
 |0,h=>by
  obtain rfl:a=0:=by omega
  exact yLr _
 |b+1,h=>by
  rcases Nat.lt_or_ge a (b+1)with o|o
  ·have:=WO L P (show a<=b by omega)
   rw[vN];split<;>omega
  ·obtain rfl:a=b+1:=by omega
   exact yLr _
theorem aH1{L:List Ap}{P:List UInt8}:∀{n:Nat},(∀a:Nat,a<n->gW L P (a:Nat)=true)->vN L P n=n
 |0,_=>rfl
 |n+1,h=>by
  rw[vN,h n (by omega),if_pos rfl,aH1 fun a ha=>h a (by omega)]
theorem Zv{n:Nat}(hn:n<=8)(h:∀a:Nat,a<n->gW L P (a:Nat)=true):n<=vN L P 8:=by
 have:=WO L P hn
 rw[aH1 h]at this
 exact this
end
noncomputable section
open Pm
structure GS(T:Nat)(S:kK)(q:PS):Prop where
 own:Own q
 e0:0<=q.e
 e1:q.e<1000000
 sy:∀j p,j<8->S.P j=some p->Own p/\Like p q/\p.lf=(j:Nat)/\p.sg=kQ (qU (j:Nat))
 ap:∀x∈S.L,Told q x
 ln:S.L.length<=T
 bk:∀j,j<8->(∀x∈(S.Y j).L,x.1<=q.e)/\(S.Y j).L.length<=T/\(S.Y j).f<=T
 rw:∀j,j<S.R.length->∃b,S.R.getD j (.v undef)=iU b/\b.length≠0/\b.length<=1000000
abbrev lY(q:PS)(fr:Int)(ops:List Int):List UInt8:=bW q.e q.zs q.ad q.k q.ch fr ops
theorem am3{y:BS}{e:Int}(h:∀x∈y.L,x.1<e)(e0:0<=e)(e1:e<1000000)(hl:y.L.length<100):yZ y e:=by
 refine⟨by omega,?_,by omega⟩
 unfold vU
 rw[List.any_eq_false]
 intro x hx
 have:=h x hx
 simp;omega
def tY(S:kK)(i:Nat)(fr:Int)(m:Nat)(ops:List Int):kK:=
 match S.P i with
 |some p=>{ S with Y:=upd S.Y i (jZ p (S.Y i) S.L fr ops m 0 0).2.1,L:=(jZ p (S.Y i) S.L fr ops m 0 0).2.2 }
 |none=>S
theorem aQ4{S:kK}(h:GS T S q)(hT:T<=90)(hi:i<8)(hp:S.P i=some p)(ha:mQ q.ad (i:Nat)=true)(hm0:m≠0)(hd:(fC q.e ⟨q.zs,q.ad,q.k,F8,F8⟩ fr ops m).1=0)(hfr:∀x∈(S.Y i).L,x.1<q.e):
  (∃y' L',jZ p (S.Y i) S.L fr ops m 0 0=(0,y',L'))/\GS (T+1) (tY S i fr m ops) q/\gW (tY S i fr m ops).L (lY q fr ops) (i:Nat)=true/\(∀P k,gW S.L P k=true->gW (tY S i fr m ops).L P k=true)/\(∀j,j≠i->(tY S i fr m ops).Y j=S.Y j)/\(tY S i fr m ops).P=S.P/\(tY S i fr m ops).R=S.R:=by
 obtain⟨o,l,hl,hs⟩:=h.sy i p hi hp
 have hn:=o.num
 have hA:uo p.e p.zs p.ad p.k p.lf (aI p.sg) fr ops m=0:=by
  unfold uo
  rw[if_neg hm0,l.e,l.zs,l.ad,l.k,if_neg (fun e=>e hd),hl,ha,if_neg (by decide)]
  rw[hl,l.zs,hs]at hn
  rw[hs,hn.1,if_neg (fun e=>e rfl)]
 obtain⟨b1,b2,b3⟩:=h.bk i hi
 have hh:vU (S.Y i).L q.e=false:=by
  unfold vU
  rw[List.any_eq_false]
  intro x hx
  have:=hfr x hx
  simp;omega
 have hP:lY p fr ops=lY q fr ops:=by unfold lY;rw[l.e,l.zs,l.ad,l.k,l.ch]
 have hw:zS (S.Y i) p.e (lY p fr ops)=0:=by
  have h0:=h.e0;have h1:=h.e1
  unfold zS
  rw[l.e,if_neg (by omega),hh,if_neg (by decide),if_neg (by omega)]
 have hb:jk (S.Y i) p.e (lY p fr ops)=⟨(S.Y i).L++[(q.e,lY q fr ops)],(S.Y i).s,(S.Y i).f⟩:=by
  have h0:=h.e0;have h1:=h.e1
  unfold jk
  rw[hP,l.e,if_neg (by omega),hh,if_neg (by decide),if_neg (by omega)]
 have hap:apA p fr ops m=⟨lY q fr ops,(i:Nat),iV (ZT (i:Nat)) (lY q fr ops),jI (ZT (i:Nat)) (lY q fr ops)⟩:=by
  have hz:IK p.e p.zs p.ad p.k p.ch p.lf (aI p.sg) fr ops m=[p.lf,iV (aI p.sg) (lY p fr ops),jI (aI p.sg) (lY p fr ops)]:=by unfold IK;rw[if_pos hA]
  unfold apA
  rw[hz]
  show Ap.mk (lY p fr ops) p.lf (iV (aI p.sg) (lY p fr ops)) (jI (aI p.sg) (lY p fr ops))=_
  rw[hP,hl,hs]
 have hr:jZ p (S.Y i) S.L fr ops m 0 0=(0,o8 ⟨(S.Y i).L++[(q.e,lY q fr ops)],(S.Y i).s,(S.Y i).f⟩,pO S.L ⟨lY q fr ops,(i:Nat),iV (ZT (i:Nat)) (lY q fr ops),jI (ZT (i:Nat)) (lY q fr ops)⟩):=by
  unfold jZ
  rw[if_pos hA,if_pos hw,if_neg (by decide),hb,hap]
 have hv:tY S i fr m ops={ S with Y:=upd S.Y i (o8 ⟨(S.Y i).L++[(q.e,lY q fr ops)],(S.Y i).s,(S.Y i).f⟩),L:=pO S.L ⟨lY q fr ops,(i:Nat),iV (ZT (i:Nat)) (lY q fr ops),jI (ZT (i:Nat)) (lY q fr ops)⟩ }:=by
  unfold tY
  rw[hp]
  dsimp only
  rw[hr]
 refine⟨⟨_,_,hr⟩,?_⟩
 rw[hv]
 refine⟨⟨h.own,h.e0,h.e1,h.sy,fun x hx=>?_,yLt (Zj _ _) (Nat.succ_le_succ h.ln),fun j hj=>?_,h.rw⟩,Uq,fun P k hk=>Uo hk,fun j hj=>if_neg hj,rfl,rfl⟩
 ·rcases Zk hx with hx|rfl
  ·exact h.ap x hx
  ·refine⟨by show(0:Int)<=(i:Nat);omega,by show((i:Nat):Int)<8;omega,ha,?_,rfl,rfl⟩
   rw[hl,l.zs,hs]at hn
   exact hn.1
 ·show(∀x∈(upd S.Y i _ j).L,_)/\(upd S.Y i _ j).L.length<=_/\(upd S.Y i _ j).f<=_
  by_cases e:j=i
  ·subst e
   rw[show upd S.Y j (o8 ⟨(S.Y j).L++[(q.e,lY q fr ops)],(S.Y j).s,(S.Y j).f⟩) j=o8 ⟨(S.Y j).L++[(q.e,lY q fr ops)],(S.Y j).s,(S.Y j).f⟩from if_pos rfl]
   unfold o8
   dsimp only
   refine⟨fun x hx=>?_,by rw[List.length_append];show _+1<=_;omega,by omega⟩
   rcases List.mem_append.1 hx with hx|hx
   ·exact b1 x hx
   ·obtain rfl:x=(q.e,lY q fr ops):=by simpa using hx
    exact Int.le_refl _
  ·rw[show ∀y,upd S.Y i y j=S.Y j from fun y=>if_neg e]
   obtain⟨c1,c2,c3⟩:=h.bk j hj
   exact⟨c1,by omega,by omega⟩
def Dx(S:kK)(i:Nat):PS:=(S.P i).getD YK
def QT(S:kK)(f o:Nat)(ops:List Int):Nat:=if o=0 then 0 else vN S.L (lY (Dx S f) (Dx S f).lf ops) 8
def ZO(S:kK)(f o:Nat)(ops:List Int):List Int:=if o=0 then[]else vZ S.L (lY (Dx S f) (Dx S f).lf ops) 8
def P5(S:kK)(f o:Nat)(ops:List Int):Vw:=fq (Dx S f) (Dx S f).lf o ops
def vW(S:kK)(f o:Nat)(ops:List Int)(dr:Int):PS:=aT (Dx S f) (P5 S f o ops) o ops (QT S f o ops) (ZO S f o ops) (bF dr)
def cCm(S:kK)(f o:Nat)(ops:List Int)(dr:Int):CS:=bJ (Dx S f) (P5 S f o ops) o ops (QT S f o ops) (ZO S f o ops) (bF dr)
def bCm(S:kK)(f o:Nat)(ops:List Int)(dr:Int):List UInt8:=bS (cCm S f o ops dr)
def WU(S:kK)(f o:Nat)(ops:List Int)(dr:Int)(j:Nat):WS:=
 ⟨(j:Int),(vW S f o ops dr).lf,(vW S f o ops dr).e,(vW S f o ops dr).zs,(vW S f o ops dr).ad,(vW S f o ops dr).k,(vW S f o ops dr).ch,kF (vW S f o ops dr) (jF (aK (bF dr))) (dB (Dx S f) (bF dr)) (bF dr) j,eB (vW S f o ops dr).ep⟩
def Ru(S:kK)(f o:Nat)(ops:List Int)(dr:Int):kK:=
 { S with P:=upd S.P f (some (vW S f o ops dr)),R:=S.R++ny (cCm S f o ops dr) (kG (dK (vW S f o ops dr) (jF (aK (bF dr))) (dB (Dx S f) (bF dr)) (eB (vW S f o ops dr).ep) (bF dr)) (P5 S f o ops).ng 8) (fO (P5 S f o ops).ng 8) }
def qQ(S:kK)(b:List UInt8)(sel:Nat->Bool):kK:={ S with P:=fun j=>if sel j=true then nextR (S.P j) (j:Nat) b else S.P j }
structure Com(T:Nat)(S:kK)(q:PS)(f o:Nat)(ops:List Int):Prop where
 gs:GS T S q
 f8:f<8
 p:S.P f=some (Dx S f)
 o4:o<=4
 ol:ops.length=o*5
 d:(fC q.e ⟨q.zs,q.ad,q.k,F8,F8⟩ (f:Nat) ops o).1=0
 odd:∀i,i<o->dh (qX 5 ops i)=false
 en:o≠0->q.k<=(vN S.L (lY q (f:Nat) ops) 8:Nat)
theorem J7(p:PS)(s:Vw)(n:Nat)(ops:List Int)(m:Nat)(vs:List Int)(d:List UInt8):(aT p s n ops m vs d).lf=p.lf/\(aT p s n ops m vs d).sg=p.sg/\(aT p s n ops m vs d).e=p.e+1/\(aT p s n ops m vs d).ad=s.ad/\(aT p s n ops m vs d).k=s.k:=by
 dsimp only[aT,eT,fG,nu,qM]
 exact⟨rfl,rfl,rfl,rfl,rfl⟩
end
section
open Pm
theorem bH1(h:∀x∈L,Told q x)(n:Nat):(vZ L P n).length=vN L P n*3:=(WT P h n).1
theorem wI{S:kK}(h:Com T S q f o ops)(dr:Int):
  eX (Dx S f) o ops (QT S f o ops) (ZO S f o ops)=0/\Own (vW S f o ops dr)/\(vW S f o ops dr).e=q.e+1/\(vW S f o ops dr).lf=(f:Nat)/\(vW S f o ops dr).sg=kQ (qU (f:Nat))/\dA (cCm S f o ops dr)=true/\lS (cCm S f o ops dr)/\(cCm S f o ops dr).tag.length=32/\QT S f o ops<=8/\∀i,i<QT S f o ops->bL (qX 3 (ZO S f o ops) i)=false:=by
 obtain⟨g1,l,hl,hs⟩:=h.gs.sy f _ h.f8 h.p
 have ht:∀x∈S.L,Told (Dx S f) x:=fun x hx=>(h.gs.ap x hx).like l
 have e0:0<=(Dx S f).e:=by rw[l.e];exact h.gs.e0
 have e1:(Dx S f).e<1099511627776:=by rw[l.e];have:=h.gs.e1;omega
 have hd:(fC (Dx S f).e ⟨(Dx S f).zs,(Dx S f).ad,(Dx S f).k,F8,F8⟩ (Dx S f).lf ops o).1=0:=by rw[l.e,l.zs,l.ad,l.k,hl];exact h.d
 have hc:eX (Dx S f) o ops (QT S f o ops) (ZO S f o ops)=0:=by
  by_cases h0:o=0
  ·subst h0
   have hops:ops=[]:=List.length_eq_zero_iff.1 (by rw[h.ol])
   subst hops
   exact(Ag g1 e1).1
  ·unfold QT ZO
   rw[if_neg h0,if_neg h0]
   refine af8 ht h0 hd e1 rfl rfl ?_
   have:=h.en h0
   rw[l.k,hl]
   unfold lY at this ⊢
   rw[l.e,l.zs,l.ad,l.k,l.ch]
   exact this
 have hm8:QT S f o ops<=8:=by
  unfold QT
  split
  ·omega
  ·exact Qs _ _ _
 have hov:∀i,i<QT S f o ops->bL (qX 3 (ZO S f o ops) i)=false:=fun i hi=>by
  unfold QT at hi
  unfold ZO
  by_cases h0:o=0
  ·rw[if_pos h0]at hi;omega
  ·rw[if_neg h0]at hi ⊢
   exact bH2 ht (by decide) hi
 have hvl:(ZO S f o ops).length=QT S f o ops*3:=by
  unfold ZO QT
  by_cases h0:o=0
  ·rw[if_pos h0,if_pos h0];rfl
  ·rw[if_neg h0,if_neg h0];exact bH1 ht 8
 obtain⟨m1,m2,m3⟩:=Vg g1 e0 e1 (s:=P5 S f o ops) h.o4 h.ol hvl h.odd hm8 hov (bF dr) (c:=cCm S f o ops dr) rfl
 obtain⟨n1,n2,n3,_⟩:=J7 (Dx S f) (P5 S f o ops) o ops (QT S f o ops) (ZO S f o ops) (bF dr)
 exact⟨hc,xL g1 hc (bF dr),n3.trans (by rw[l.e]),n1.trans hl,n2.trans hs,m1,m2,m3,hm8,hov⟩
theorem br2{S:kK}(hn:0<=n/\n<=1000000)(h:Com T S q f o ops)(h0:o≠0)(hT:T<=1000){nn fr dr:Int}(hk:S.R.length+1+fO (P5 S f o ops).ng 8<=60):
  vC Tryz.prog gTab 9 0 (jQ 0 n (jY S)) [.agg [.ints .i64 4 [2,(f:Nat),nn,fr],.gen 1 [.row o [.ints .i64 (o*5) ops]],.ints .i64 1 [dr],.gen 1 [z]]] (.d (.v (.int .i64 0))) (jQ 0 (n+1) (jY (Ru S f o ops dr))):=by
 obtain⟨c1,c2,c3,c4,c5,c6,c7,c8,c9,c10⟩:=wI h dr
 obtain⟨g1,l,hl,hs⟩:=h.gs.sy f _ h.f8 h.p
 exact br7 hn h.f8 h.p (by have:=h.gs.ln;omega) g1 (by rw[l.e];exact h.gs.e0) (by rw[l.e];have:=h.gs.e1;omega) h0 h.o4 (if_neg h0) (if_neg h0) c1 h.odd c10 rfl rfl rfl hk rfl rfl
theorem af7{S:kK}(h:Com T S q f o ops)(dr:Int)(hj:j<8)(hjf:j≠f){pj:PS}(hp:S.P j=some pj):
  ((P5 S f o ops).gn.getD j false=true->dZ (some pj) (j:Nat) (bCm S f o ops dr)=(0,none))/\
  ((P5 S f o ops).gn.getD j false=false->∃p',dZ (some pj) (j:Nat) (bCm S f o ops dr)=(0,some p')/\Own p'/\Like p' (vW S f o ops dr)/\p'.lf=(j:Nat)/\p'.sg=kQ (qU (j:Nat))):=by
 obtain⟨c1,c2,c3,c4,c5,c6,c7,c8,c9,c10⟩:=wI h dr
 obtain⟨g1,l,hl,hs⟩:=h.gs.sy f _ h.f8 h.p
 obtain⟨k1,kl,kl2,ks⟩:=h.gs.sy j _ hj hp
 obtain⟨a,b⟩:=Wj k1 g1 (kl.trans l.symm) (by rw[kl2,hl];omega) c1 (bF dr) (s:=P5 S f o ops) rfl
 rw[kl2,Int.toNat_natCast]at a b
 unfold bCm
 rw[CW c6 c7 c8]
 refine⟨fun hg=>a hg,fun hg=>?_⟩
 obtain⟨p',b1,b2,b3,b4,b5⟩:=b hg
 exact⟨p',b1,b2,b3,b4,b5.trans ks⟩
theorem af6{S:kK}(h:Com T S q f o ops)(dr:Int)(hj:j<8)(Cc:(P5 S f o ops).ng.getD j false=true)(hz:bZ (vW S f o ops dr).zs j=pK (qU (j:Nat))):
  (kW (WU S f o ops dr j)=true/\sM (WU S f o ops dr j))/\∃p',dZ none (j:Nat) (IE (WU S f o ops dr j))=(0,some p')/\Own p'/\Like p' (vW S f o ops dr)/\p'.lf=(j:Nat)/\p'.sg=kQ (qU (j:Nat)):=by
 obtain⟨c1,c2,c3,c4,c5,c6,c7,c8,c9,c10⟩:=wI h dr
 obtain⟨g1,l,hl,hs⟩:=h.gs.sy f _ h.f8 h.p
 have hb:(kF (vW S f o ops dr) (jF (aK (bF dr))) (dB (Dx S f) (bF dr)) (bF dr) j).length<=212:=xD _ _ _
 have w1:sM (WU S f o ops dr j):=⟨c2.inv.zl,c2.inv.al,c2.inv.cl,Bp _,by show(kF _ _ _ _ j).length<=6000;omega⟩
 have w2:kW (WU S f o ops dr j)=true:=by
  unfold kW WU
  dsimp only
  rw[dN (by omega) (by omega),dN c2.inv.lf0 (by have:=c2.inv.lf1;omega),show gF _ _ _ _=true from c2.may,decide_eq_true (by omega)]
  rfl
 refine⟨⟨w2,w1⟩,?_⟩
 rw[Y3 w2 w1]
 exact aS7 g1 c1 (bF dr) (s:=P5 S f o ops) rfl (q':=vW S f o ops dr) rfl hj Cc hz
theorem aQ3{S S':kK}(h:Com T S q f o ops)(dr:Int)(he:q.e+1<1000000)(hY:S'.Y=S.Y)(hL:S'.L=S.L)(hR:∀j,j<S'.R.length->∃b,S'.R.getD j (.v undef)=iU b/\b.length≠0/\b.length<=1000000)
  (hsy:∀j p,j<8->S'.P j=some p->Own p/\Like p (vW S f o ops dr)/\p.lf=(j:Nat)/\p.sg=kQ (qU (j:Nat)))(hT:∀x∈S.L,Told q x->Told (vW S f o ops dr) x):
  GS T S' (vW S f o ops dr)/\∀j,j<8->∀x∈(S'.Y j).L,x.1<(vW S f o ops dr).e:=by
 obtain⟨c1,c2,c3,c4,c5,c6,c7,c8,c9,c10⟩:=wI h dr
 refine⟨⟨c2,by rw[c3];have:=h.gs.e0;omega,by rw[c3];exact he,hsy,fun x hx=>by rw[hL]at hx;exact hT x hx (h.gs.ap x hx),by rw[hL];exact h.gs.ln,fun j hj=>?_,hR⟩,fun j hj x hx=>?_⟩
 ·rw[hY,c3]
  obtain⟨b1,b2,b3⟩:=h.gs.bk j hj
  exact⟨fun x hx=>by have:=b1 x hx;omega,b2,b3⟩
 ·rw[hY]at hx
  have:=(h.gs.bk j hj).1 x hx
  rw[c3];omega
theorem Qz(hj:j<8):fO (F8.set j true) 8=1:=by
 have:∀j:Fin 8,fO (F8.set j.1 true) 8=1:=by decide
 exact this ⟨j,hj⟩
theorem aI2{W:Nat->List Seg}(hj:j<8):kG W (F8.set j true) 8 0=W j:=by
 rcases j with _|_|_|_|_|_|_|_|j<;>first|rfl|omega
theorem bd0(q:PS)(ab jo tg d:List UInt8)(j:Nat):dK q ab jo tg d j=kJ ⟨(j:Int),q.lf,q.e,q.zs,q.ad,q.k,q.ch,kF q ab jo d j,tg⟩:=rfl
theorem bH5{S:kK}:dK (vW S f o ops dr) (jF (aK (bF dr))) (dB (Dx S f) (bF dr)) (eB (vW S f o ops dr).ep) (bF dr) j=kJ (WU S f o ops dr j):=by
 unfold WU
 exact bd0 _ _ _ _ _ _
theorem aM6{S:kK}(h:Com T S q f o ops)(dr:Int)(hj:j<8)(Cc:(P5 S f o ops).ng=F8.set j true)(hw:sM (WU S f o ops dr j)):(Ru S f o ops dr).R=S.R++[iU (bCm S f o ops dr),iU (IE (WU S f o ops dr j))]:=by
 obtain⟨c1,c2,c3,c4,c5,c6,c7,c8,c9,c10⟩:=wI h dr
 unfold Ru
 dsimp only
 rw[Cc,Qz hj]
 show S.R++([A.row (bE (cCm S f o ops dr)) [.bytes (bE (cCm S f o ops dr)) (bS (cCm S f o ops dr))]]++[A.row (wN (kG _ (F8.set j true) 8 0)) [.bytes (wN (kG _ (F8.set j true) 8 0)) (wB (kG _ (F8.set j true) 8 0))]])=_
 rw[aI2 hj,WA c7 c8,bH5,aZ0 rfl hw]
 rfl
end
section
open Pm
noncomputable abbrev kL(S:kK)(i:Nat):kK:=tY S 0 0 1 (wX i)
noncomputable abbrev vS(S:kK)(i:Nat)(dr:Int):kK:=Ru (kL S i) 0 1 (wX i) dr
noncomputable abbrev zU(S:kK)(i:Nat)(dr:Int):List UInt8:=bCm (kL S i) 0 1 (wX i) dr
noncomputable abbrev ET(S:kK)(i:Nat)(dr:Int)(j:Nat):List UInt8:=IE (WU (kL S i) 0 1 (wX i) dr j)
noncomputable abbrev vT(S:kK)(i:Nat)(dr:Int)(k:Nat):kK:=qQ (vS S i dr) (zU S i dr) fun j=>decide (1<=j/\j<k)
noncomputable abbrev IJ(S:kK)(i:Nat)(dr:Int):kK:={ vT S i dr i with P:=upd (vT S i dr i).P i (nextR ((vT S i dr i).P i) (i:Nat) (ET S i dr i)) }
noncomputable def pJ:Nat->kK
 |0=>QO
 |i+1=>IJ (pJ i) (i+1) ((i+1:Nat):Int)
structure WGr(T i a:Nat)(S:kK)(q:PS):Prop where
 gs:GS T S q
 p0:S.P 0=some q
 gh:GH i a q
 mem:∀j,j<i->∃p,S.P j=some p
 no:∀j,i<=j->S.P j=none
 fr:∀j,j<8->∀x∈(S.Y j).L,x.1<q.e
theorem ba7{i a i' a':Nat}{q q':PS}{x:Ap}(h:Told q x)(g:GH i a q)(g':GH i' a' q')(ha:a<=a')(ha':a'<=i'):Told q' x:=by
 have hk:x.k<a:=by
  have:=h.adm
  unfold mQ at this
  simp only[Bool.and_eq_true]at this
  have h2:=this.2
  rw[g.ad _ (by have:=h.k1;have:=h.k0;omega)]at h2
  have:=of_decide_eq_true h2
  have:=h.k0
  omega
 have k0:=h.k0
 have k1:=h.k1
 obtain⟨k,hk'⟩:∃k:Nat,x.k=(k:Nat):=⟨x.k.toNat,by omega⟩
 refine⟨k0,k1,?_,?_,h.e,h.s⟩
 ·unfold mQ aL
  rw[decide_eq_true k0,decide_eq_true k1,g'.ad _ (by omega),decide_eq_true (by omega)]
  rfl
 ·rw[hk',Int.toNat_natCast,g'.sg k (by omega)]
theorem kH:WGr 0 1 1 QO YK:=by
 have o:=Fq (qU (0:Nat))
 refine⟨⟨o,by rw[bE0];decide,by rw[bE0];decide,fun j p hj hp=>?_,fun x hx=>(by cases hx),yLr _,fun j hj=>⟨fun x hx=>(by cases hx),yLr _,yLr _⟩,fun j hj=>absurd hj (Nat.not_lt_zero _)⟩,rfl,X9,fun j hj=>?_,fun j hj=>?_,fun j hj x hx=>(by cases hx)⟩
 ·unfold QO at hp
  dsimp only at hp
  by_cases e:j=0
  ·rw[if_pos e]at hp
   cases hp
   subst e
   exact⟨o,Like.refl _,cf9,(lD (qU (0:Nat))).2.2.2.2.2.2.1⟩
  ·rw[if_neg e]at hp;cases hp
 ·obtain rfl:j=0:=by omega
  exact⟨_,rfl⟩
 ·unfold QO
  dsimp only
  rw[if_neg (by omega)]
structure bo9(T i a:Nat)(S:kK)(q:PS)(dr:Int):Prop where
 cw1:∃y' L',jZ q (S.Y 0) S.L 0 (wX i) 1 0 0=(0,y',L')
 com:Com (T+1) (kL S i) q 0 1 (wX i)
 ng:(P5 (kL S i) 0 1 (wX i)).ng=F8.set i true
 gn:(P5 (kL S i) 0 1 (wX i)).gn=F8
 P:(kL S i).P=S.P
 R:(kL S i).R=S.R
 gh:GH (i+1) a (vW (kL S i) 0 1 (wX i) dr)
 z:bZ (vW (kL S i) 0 1 (wX i) dr).zs i=pK (qU (i:Nat))
theorem r9{S:kK}(h:WGr T i a S q)(hT:T<=90)(i0:1<=i)(i1:i<8)(a0:1<=a)(a1:a<=i)(dr:Int):bo9 T i a S q dr:=by
 have hn:∀j,j<i->q.zs.getD (j*2) 0≠DN i:=fun j hj=>by rw[h.gh.sg j hj];exact aD1 (by omega) i1 (by omega)
 have hdo:=bk9 h.gh i0 i1 (MH i) (Uc i) hn a0 a1 (pr:=false) (by intro e;cases e)
 have hd:(fC q.e ⟨q.zs,q.ad,q.k,F8,F8⟩ 0 (wX i) 1).1=0:=by
  have e:(fC q.e ⟨q.zs,q.ad,q.k,F8,F8⟩ q.lf (opsV (DN i) (I6 i) i false) (Ae false)).1=0:=by rw[hdo]
  rw[h.gh.lf]at e
  exact e
 have ha:mQ q.ad ((0:Nat):Int)=true:=bz5 h.gh a0
 obtain⟨v1,v2,v3,v4,v5,v6,v7⟩:=aQ4 h.gs hT (i:=0) (by decide) h.p0 ha (fr:=0) (m:=1) (ops:=wX i) (by decide) hd (h.fr 0 (by decide))
 have hp:Dx (kL S i) 0=q:=by
  unfold Dx kL
  rw[v6,h.p0];rfl
 have hc:Com (T+1) (kL S i) q 0 1 (wX i):=by
  refine⟨v2,by decide,by rw[hp];unfold kL;rw[v6];exact h.p0,by decide,rfl,hd,av6 (MH i) (Uc i),fun _=>?_⟩
  rw[h.gh.k]
  have:=Zv (L:=(kL S i).L) (P:=lY q 0 (wX i)) (n:=1) (by decide) fun b hb=>by
   obtain rfl:b=0:=by omega
   exact v3
  exact Int.ofNat_le.2 this
 obtain⟨c1,c2,c3,c4,c5,c6,c7,c8,c9,c10⟩:=wI hc dr
 have c1':eX q (Ae false) (opsV (DN i) (I6 i) i false) (QT (kL S i) 0 1 (wX i)) (ZO (kL S i) 0 1 (wX i))=0:=by rw[hp]at c1;exact c1
 obtain⟨n1,n2,n3⟩:=aP8 h.gh i0 i1 a0 a1 (pr:=false) (by intro e;cases e) c1' (bF dr)
 have hs:P5 (kL S i) 0 1 (wX i)=oH q (DN i) (I6 i) i false:=by
  unfold P5
  rw[hp]
  exact n1
 have hq:vW (kL S i) 0 1 (wX i) dr=aT q (oH q (DN i) (I6 i) i false) (Ae false) (opsV (DN i) (I6 i) i false) (QT (kL S i) 0 1 (wX i)) (ZO (kL S i) 0 1 (wX i)) (bF dr):=by
  unfold vW
  rw[hp,hs]
  rfl
 refine⟨v1,hc,by rw[hs];exact aO0 _ _ _ _ _,by rw[hs];rfl,v6,v7,?_,?_⟩
 ·rw[hq];exact n2
 ·rw[hq];exact n3
end
section
open Pm
theorem wT{o r:Option PS}{i:Int}(h:dZ o i b=(0,r)):nextR o i b=r:=by
 unfold nextR
 rw[h,if_pos rfl]
theorem Gt(h:Own p):aL p.lf=true:=by
 have l0:=h.inv.lf0
 have l1:=h.inv.lf1
 unfold aL
 rw[decide_eq_true l0,decide_eq_true (by omega)];rfl
theorem aY8{R:List A}{b d:A}:(R++[b,d]).getD R.length (.v undef)=b:=by
 rw[yGd,List.getElem?_append_right (yLr _),Nat.sub_self];rfl
theorem aY9{R:List A}{b d:A}:(R++[b,d]).getD (R.length+1) (.v undef)=d:=by
 rw[yGd,List.getElem?_append_right (by omega),Nat.add_sub_cancel_left];rfl
theorem PW{R N:List A}(h:∀j,j<R.length->∃b,R.getD j (.v undef)=iU b/\b.length≠0/\b.length<=1000000)(k:∀a∈N,∃b,a=iU b/\b.length≠0/\b.length<=1000000):∀j,j<(R++N).length->∃b,(R++N).getD j (.v undef)=iU b/\b.length≠0/\b.length<=1000000:=fun j hj=>by
 rw[yGd]
 by_cases o:j<R.length
 ·rw[List.getElem?_append_left o,<-yGd]
  exact h j o
 ·rw[List.getElem?_append_right (by omega)]
  rw[List.length_append]at hj
  rw[yGe (by omega)]
  exact k _ (List.getElem_mem _)
theorem bk5(j:Nat):F8.getD j false=false:=by
 rcases j with _|_|_|_|_|_|_|_|j<;>rfl
theorem Un{S:kK}{sel cg5:Nat->Bool}(h0:sel k=false)(h1:∀j,cg5 j=(sel j||j==k)):qQ S b cg5={ qQ S b sel with P:=upd (qQ S b sel).P k (nextR ((qQ S b sel).P k) (k:Nat) b) }:=by
 unfold qQ
 dsimp only
 congr 1
 funext j
 unfold upd
 by_cases e:j=k
 ·subst e
  rw[if_pos rfl,h1,h0,if_pos (by simp),if_neg (by decide)]
 ·rw[if_neg e,h1]
  have:(j==k)=false:=by simpa using e
  rw[this,Bool.or_false]
theorem Ql{S:kK}{sel:Nat->Bool}(h:∀j,sel j=false):qQ S b sel=S:=by
 unfold qQ
 have:(fun j=>if sel j=true then nextR (S.P j) (j:Nat) b else S.P j)=S.P:=by
  funext j
  rw[h j,if_neg (by decide)]
 rw[this]
section
variable {T i a : Nat} {S : kK} {q : PS} (h : WGr T i a S q) (hT : T <= 90) (i0 : 1 <= i) (i1 : i < 8) (a0 : 1 <= a) (a1 : a <= i) (dr : Int)
include h hT i0 i1 a0 a1
theorem zV:(kW (WU (kL S i) 0 1 (wX i) dr i)=true/\sM (WU (kL S i) 0 1 (wX i) dr i))/\∃p',dZ none (i:Nat) (ET S i dr i)=(0,some p')/\Own p'/\Like p' (vW (kL S i) 0 1 (wX i) dr)/\p'.lf=(i:Nat)/\p'.sg=kQ (qU (i:Nat)):=by
 have k:=r9 h hT i0 i1 a0 a1 dr
 exact af6 k.com dr i1 (by rw[k.ng,bn9 i i1 i i1];simp) k.z
theorem Nl:(vS S i dr).R=S.R++[iU (zU S i dr),iU (ET S i dr i)]:=by
 have k:=r9 h hT i0 i1 a0 a1 dr
 have:=aM6 k.com dr i1 k.ng (zV h hT i0 i1 a0 a1 dr).1.2
 rw[k.R]at this
 exact this
theorem K6(j:Nat):(vS S i dr).P j=if j=0 then some (vW (kL S i) 0 1 (wX i) dr)else S.P j:=by
 have k:=r9 h hT i0 i1 a0 a1 dr
 show upd (kL S i).P 0 _ j=_
 unfold upd
 rw[k.P]
theorem BN(j0:1<=j)(j1:j<i):∃p',dZ (S.P j) (j:Nat) (zU S i dr)=(0,some p')/\Own p'/\Like p' (vW (kL S i) 0 1 (wX i) dr)/\p'.lf=(j:Nat)/\p'.sg=kQ (qU (j:Nat)):=by
 have k:=r9 h hT i0 i1 a0 a1 dr
 obtain⟨pj,hp⟩:=h.mem j j1
 rw[hp]
 exact(af7 k.com dr (by omega) (by omega) (by rw[k.P];exact hp)).2 (by rw[k.gn,bk5])
theorem zW:(zU S i dr).length<=1000000/\(zU S i dr).length≠0/\(ET S i dr i).length<=1000000/\(ET S i dr i).length≠0:=by
 have k:=r9 h hT i0 i1 a0 a1 dr
 obtain⟨c1,c2,c3,c4,c5,c6,c7,c8,c9,c10⟩:=wI k.com dr
 obtain⟨w1,w2⟩:=(zV h hT i0 i1 a0 a1 dr).1
 exact⟨(Ei c6 c7 c8).1,(Ei c6 c7 c8).2,(WW w2).1,(WW w2).2⟩
theorem QV(hn:0<=n/\n<=1000000)(ho:ops=wX i)(hdr:dr'=0):
  vC Tryz.prog gTab 9 0 (jQ 0 n (jY S)) [.agg [.ints .i64 4 [1,0,0,0],.gen 1 [.row 1 [.ints .i64 5 ops]],.ints .i64 1 [dr'],.gen 1 [z]]] (.d (.v (.int .i64 0))) (jQ 0 (n+1) (jY (kL S i))):=by
 subst ho;subst hdr
 have k:=r9 h hT i0 i1 a0 a1 0
 obtain⟨y',L',hr⟩:=k.cw1
 have hwf:yZ (S.Y 0) q.e:=am3 (h.fr 0 (by decide)) h.gs.e0 h.gs.e1 (by have:=(h.gs.bk 0 (by decide)).2.1;omega)
 exact bb7 (i:=0) (m:=1) hn (by decide) h.p0 (by have:=h.gs.ln;omega) (by have:=(h.gs.bk 0 (by decide)).2.2;omega) (by decide) rfl (by decide) hr (by unfold kL tY;rw[h.p0];dsimp only;rw[hr])
theorem QU(hn:0<=n/\n<=1000000)(ho:ops=wX i)(hk:S.R.length+2<=60):
  vC Tryz.prog gTab 9 0 (jQ 0 n (jY (kL S i))) [.agg [.ints .i64 4 [2,0,0,0],.gen 1 [.row 1 [.ints .i64 5 ops]],.ints .i64 1 [dr],.gen 1 [z]]] (.d (.v (.int .i64 0))) (jQ 0 (n+1) (jY (vS S i dr))):=by
 subst ho
 have k:=r9 h hT i0 i1 a0 a1 dr
 exact br2 hn k.com (by decide) (by omega) (by rw[k.R,k.ng,Qz i1];omega)
theorem bp5(hk:S.R.length+2<=60){l:Nat}(hl:l=S.R.length+2):
  vC Tryz.prog gTab 13 0 (jQ 0 n (jY (vS S i dr))) [] (.d (.row l [.gen l (vS S i dr).R])) (jQ 0 n (jY (vS S i dr))):=by
 have e:=Nl h hT i0 i1 a0 a1 dr
 obtain⟨l1,l2,l3,l4⟩:=zW h hT i0 i1 a0 a1 dr
 have el:(vS S i dr).R.length=l:=by rw[e,List.length_append,hl];rfl
 have:=aW5 (n:=n) (S:=vS S i dr) (by omega) (by omega) (by
  rw[e]
  refine PW h.gs.rw fun x hx=>?_
  rcases List.mem_cons.1 hx with rfl|hx
  ·exact⟨_,rfl,l2,l1⟩
  ·obtain rfl:x=iU (ET S i dr i):=by simpa using hx
   exact⟨_,rfl,l4,l3⟩)
 rw[el]at this
 exact this
theorem bp6(hn:0<=n/\n<=1000000){x z:A}(k0:1<=k)(k1:k<i)(hk:S.R.length+2<=60)(hN:N=S.R.length):
  vC Tryz.prog gTab 9 0 (jQ 0 n (jY (vT S i dr k))) [.agg [.ints .i64 4 [3,(k:Nat),(N:Nat),fr],.gen 1 [x],.ints .i64 1 [dr'],.gen 1 [z]]] (.d (.v (.int .i64 0))) (jQ 0 (n+1) (jY (vT S i dr (k+1)))):=by
 subst hN
 obtain⟨p',r1,_⟩:=BN h hT i0 i1 a0 a1 dr k0 k1
 obtain⟨l1,l2,l3,l4⟩:=zW h hT i0 i1 a0 a1 dr
 have e:=Nl h hT i0 i1 a0 a1 dr
 have hP:(vT S i dr k).P k=S.P k:=by
  show(if decide (1<=k/\k<k)=true then _ else(vS S i dr).P k)=_
  rw[decide_eq_false (by omega),if_neg (by decide),K6 h hT i0 i1 a0 a1 dr,if_neg (by omega)]
 have hR:(vT S i dr k).R=S.R++[iU (zU S i dr),iU (ET S i dr i)]:=e
 refine EG (i:=k) hn (by omega) (fun p hp=>?_) (by rw[hR,List.length_append];show _+2<=_;omega) (by rw[hR,List.length_append];show _<_+2;omega) l1 (by rw[hR];exact aY8) ?_ ?_
 ·rw[hP]at hp
  exact Gt (h.gs.sy k p (by omega) hp).1
 ·rw[hP,r1]
 ·exact Un (decide_eq_false (by omega)) fun j=>by
   by_cases e1:j=k
   ·subst e1;simp;omega
   ·have e2:(j==k)=false:=by simpa using e1
    rw[e2,Bool.or_false]
    exact decide_eq_decide.2 ⟨fun⟨x,y⟩=>⟨x,by omega⟩,fun⟨x,y⟩=>⟨x,by omega⟩⟩
theorem aa1(hn:0<=n/\n<=1000000){x z:A}(hk:S.R.length+2<=60)(hN:N=S.R.length+1):
  vC Tryz.prog gTab 9 0 (jQ 0 n (jY (vT S i dr i))) [.agg [.ints .i64 4 [3,(i:Nat),(N:Nat),fr],.gen 1 [x],.ints .i64 1 [dr'],.gen 1 [z]]] (.d (.v (.int .i64 0))) (jQ 0 (n+1) (jY (IJ S i dr))):=by
 subst hN
 obtain⟨_,p',r1,_⟩:=zV h hT i0 i1 a0 a1 dr
 obtain⟨l1,l2,l3,l4⟩:=zW h hT i0 i1 a0 a1 dr
 have e:=Nl h hT i0 i1 a0 a1 dr
 have hP:(vT S i dr i).P i=none:=by
  show(if decide (1<=i/\i<i)=true then _ else(vS S i dr).P i)=_
  rw[decide_eq_false (by omega),if_neg (by decide),K6 h hT i0 i1 a0 a1 dr,if_neg (by omega)]
  exact h.no i (yLr _)
 have hR:(vT S i dr i).R=S.R++[iU (zU S i dr),iU (ET S i dr i)]:=e
 refine EG (i:=i) hn i1 (fun p hp=>?_) (by rw[hR,List.length_append];show _+2<=_;omega) (by rw[hR,List.length_append];show _<_+2;omega) l3 (by rw[hR];exact aY9) ?_ rfl
 ·rw[hP]at hp;cases hp
 ·rw[hP,r1]
theorem aK8(hn:0<=n/\n<=1000000){x z:A}(k0:1<=k)(k1:k<i)(hk:S.R.length+2<=60){kI nI:Int}(hkI:kI=(k:Nat))(hnI:nI=(S.R.length:Nat)):
  vC Tryz.prog gTab 9 0 (jQ 0 n (jY (vT S i dr k))) [.agg [.ints .i64 4 [3,kI,nI,fr],.gen 1 [x],.ints .i64 1 [dr'],.gen 1 [z]]] (.d (.v (.int .i64 0))) (jQ 0 (n+1) (jY (vT S i dr (k+1)))):=by
 subst hkI;subst hnI
 exact bp6 h hT i0 i1 a0 a1 dr hn k0 k1 hk rfl
theorem aK7(hn:0<=n/\n<=1000000){x z:A}(hk:S.R.length+2<=60){iI nI:Int}(hiI:iI=(i:Nat))(hnI:nI=(S.R.length+1:Nat)):
  vC Tryz.prog gTab 9 0 (jQ 0 n (jY (vT S i dr i))) [.agg [.ints .i64 4 [3,iI,nI,fr],.gen 1 [x],.ints .i64 1 [dr'],.gen 1 [z]]] (.d (.v (.int .i64 0))) (jQ 0 (n+1) (jY (IJ S i dr))):=by
 subst hiI;subst hnI
 exact aa1 h hT i0 i1 a0 a1 dr hn hk rfl
theorem WX(he:q.e+1<1000000):WGr (T+1) (i+1) a (IJ S i dr) (vW (kL S i) 0 1 (wX i) dr):=by
 have k:=r9 h hT i0 i1 a0 a1 dr
 obtain⟨_,p',r1,r2,r3,r4,r5⟩:=zV h hT i0 i1 a0 a1 dr
 obtain⟨l1,l2,l3,l4⟩:=zW h hT i0 i1 a0 a1 dr
 have e:=Nl h hT i0 i1 a0 a1 dr
 have hPi:(vT S i dr i).P i=none:=by
  show(if decide (1<=i/\i<i)=true then _ else(vS S i dr).P i)=_
  rw[decide_eq_false (by omega),if_neg (by decide),K6 h hT i0 i1 a0 a1 dr,if_neg (by omega)]
  exact h.no i (yLr _)
 have hP:∀j,(IJ S i dr).P j=if j=i then some p' else if j=0 then some (vW (kL S i) 0 1 (wX i) dr)else if j<i then nextR (S.P j) (j:Nat) (zU S i dr)else none:=fun j=>by
  show(if j=i then nextR ((vT S i dr i).P i) (i:Nat) (ET S i dr i)else(if decide (1<=j/\j<i)=true then nextR ((vS S i dr).P j) (j:Nat) (zU S i dr)else(vS S i dr).P j))=_
  by_cases e1:j=i
  ·rw[if_pos e1,if_pos e1,hPi,wT r1]
  rw[if_neg e1,if_neg e1,K6 h hT i0 i1 a0 a1 dr]
  by_cases e2:j=0
  ·subst e2
   rw[decide_eq_false (by omega),if_neg (by decide),if_pos rfl,if_pos rfl]
  rw[if_neg e2,if_neg e2]
  by_cases e3:j<i
  ·rw[if_pos e3,decide_eq_true (by omega),if_pos rfl]
  ·rw[if_neg e3,decide_eq_false (by omega),if_neg (by decide)]
   exact h.no j (by omega)
 obtain⟨c1,c2,c3,c4,c5,c6,c7,c8,c9,c10⟩:=wI k.com dr
 have eR:(IJ S i dr).R=S.R++[iU (zU S i dr),iU (ET S i dr i)]:=e
 obtain⟨g1,g2⟩:=aQ3 (S':=IJ S i dr) k.com dr he rfl rfl (by
  rw[eR]
  refine PW h.gs.rw fun x hx=>?_
  rcases List.mem_cons.1 hx with rfl|hx
  ·exact⟨_,rfl,l2,l1⟩
  ·obtain rfl:x=iU (ET S i dr i):=by simpa using hx
   exact⟨_,rfl,l4,l3⟩) (fun j p hj hp=>by
  rw[hP]at hp
  by_cases e1:j=i
  ·rw[if_pos e1]at hp;cases hp;subst e1;exact⟨r2,r3,r4,r5⟩
  rw[if_neg e1]at hp
  by_cases e2:j=0
  ·rw[if_pos e2]at hp;cases hp;subst e2;exact⟨c2,Like.refl _,c4,c5⟩
  rw[if_neg e2]at hp
  by_cases e3:j<i
  ·rw[if_pos e3]at hp
   obtain⟨pj,t1,t2,t3,t4,t5⟩:=BN h hT i0 i1 a0 a1 dr (by omega) e3
   rw[wT t1]at hp
   cases hp
   exact⟨t2,t3,t4,t5⟩
  ·rw[if_neg e3]at hp;cases hp) (fun x hx ht=>ba7 ht h.gh k.gh (yLr _) (by omega))
 refine⟨g1,by rw[hP,if_neg (by omega),if_pos rfl],k.gh,fun j hj=>?_,fun j hj=>?_,g2⟩
 ·rw[hP]
  by_cases e1:j=i
  ·rw[if_pos e1];exact⟨_,rfl⟩
  rw[if_neg e1]
  by_cases e2:j=0
  ·rw[if_pos e2];exact⟨_,rfl⟩
  rw[if_neg e2,if_pos (by omega)]
  obtain⟨pj,t1,_⟩:=BN h hT i0 i1 a0 a1 dr (j:=j) (by omega) (by omega)
  exact⟨pj,wT t1⟩
 ·rw[hP,if_neg (by omega),if_neg (by omega),if_neg (by omega)]
theorem aa2:(IJ S i dr).R.length=S.R.length+2:=by
 show(vS S i dr).R.length=_
 rw[Nl h hT i0 i1 a0 a1 dr,List.length_append];rfl
end
theorem addT_1(S:kK)(i:Nat)(dr:Int):vT S i dr 1=vS S i dr:=Ql fun j=>decide_eq_false (by omega)
noncomputable def Vy:Nat->PS
 |0=>YK
 |i+1=>vW (kL (pJ i) (i+1)) 0 1 (wX (i+1)) ((i+1:Nat):Int)
theorem Eo:∀i,i<8->WGr i (i+1) 1 (pJ i) (Vy i)/\(pJ i).R.length=2*i
 |0,_=>⟨kH,rfl⟩
 |i+1,h=>by
  obtain⟨g,r⟩:=Eo i (by omega)
  have:=WX g (by omega) (by omega) h (yLr _) (by omega) ((i+1:Nat):Int) (by rw[g.gh.e];omega)
  exact⟨this,by rw[pJ,aa2 g (by omega) (by omega) h (yLr _) (by omega),r];omega⟩
end
noncomputable section
open Pm
def qN(p:PS)(dr:Int):PS:=aT p (fq p p.lf 0 []) 0 [] 0 [] (bF dr)
def cN(p:PS)(dr:Int):CS:=bJ p (fq p p.lf 0 []) 0 [] 0 [] (bF dr)
def bN(p:PS)(dr:Int):List UInt8:=bS (cN p dr)
noncomputable abbrev bC4(S:kK)(i:Nat)(p:PS)(dr:Int):kK:={ S with P:=upd S.P i (some (qN p dr)),R:=S.R++[iU (bN p dr)] }
end
section
open Pm
theorem aj8(e k:Int)(zs:List Int)(ad:List Bool)(ch:List UInt8):bM (eD e zs ad k ch) (eD e zs ad k ch)=true:=by simp[bM]
theorem Fx(h:Like p q):bM (eD p.e p.zs p.ad p.k p.ch) (eD q.e q.zs q.ad q.k q.ch)=true:=by
 rw[h.e,h.zs,h.ad,h.k,h.ch]
 exact aj8 _ _ _ _ _
end
section
open Pm
attribute [local irreducible] aN aQ bq aD aC aF qU bD
theorem ZB:aV 10 [] (.d (.v (.bool true))):=by
 refine cc6 (E:=bw5) Tryz.func10 Tryz.ntmps10 ?_
 refine GW.seq (GW.of ?_)
 refine ah ?_
 refine GW.seq (GW.of ?_)
 refine ah ?_
 intro p hp
 clear hp
 refine ah ?_
 refine GW.seq (GW.region (GL.I4 5 ?_))
 refine ah ?_
 refine GL.guard 2 5 rfl rfl rfl ?_
 refine ah ?_
 refine GL.I4 4 ?_
 refine ah ?_
 refine GL.guard 8 11 rfl rfl rfl ?_
 refine ah ?_
 refine GL.I4 4 ?_
 refine ah ?_
 refine GL.guard 13 16 rfl rfl rfl ?_
 refine ah ?_
 refine GL.I4 4 ?_
 refine ah ?_
 refine GL.guard 18 21 rfl rfl rfl ?_
 refine ah ?_
 refine GL.of (Stop.out ?_)
 refine ah ?_
 intro h hh
 refine ah ?_
 intro h' hh'
 obtain rfl:h'=h:=hh'.trans hh.symm
 clear hh hh'
 have q:bM [Seg.bytes 32 h'] [Seg.bytes 32 h']=true:=by simp[bM]
 refine ah ?_
 refine GW.of ?_
 refine ah ?_
 rw[q]
end
noncomputable section
open Pm
def at5:List A->(bC->Prop)->Prop
 |[],K=>K (.ob (jQ 0 0 (jY QO)))
 |_,_=>False
theorem at6:∀args K,at5 args K->∃r,aV 6 args r/\K r:=by
 intro args K h
 unfold at5 at h
 split at h
 ·exact⟨_,aU1,h⟩
 ·exact h.elim
def aF6:List A->(bC->Prop)->Prop
 |[],K=>K (.d (.v (.bool true)))
 |_,_=>False
theorem aF7{f:FuncId}(hf:aV f [] (.d (.v (.bool true)))):∀args K,aF6 args K->∃r,aV f args r/\K r:=by
 intro args K h
 unfold aF6 at h
 split at h
 ·exact⟨_,hf,h⟩
 ·exact h.elim
def bx7:ak:=oW.add 6 at5 at6 (.of Tryz.func6)
def bx8:ak:=bx7.zU 9 (eU 9) (Fa 9) (.of Tryz.func9)
def bx9:ak:=bx8.zU 11 (eU 11) (Fa 11) (.of Tryz.func11)
def by1:ak:=bx9.zU 13 (eU 13) (Fa 13) (.of Tryz.func13)
def by2:ak:=by1.add 8 xG (qy Kv) (.of Tryz.func8)
def by3:ak:=by2.add 7 UW ZL (.of Tryz.func7)
def by4:ak:=by3.add 10 aF6 (aF7 ZB) (.of Tryz.func10)
def aj4:ak:=by4.add 12 (ofP (fun p=>.d (.agg (eD p.e p.zs p.ad p.k p.ch))) (.d (.agg DX))) (zy Ij EM) (.of Tryz.func12)
end
noncomputable section
open Pm
theorem aj7(l:List UInt8):bM [.bytes 32 l] [.bytes 32 l]=true:=by
 simp[bM]
def nG:Nat->Int
 |0=>0
 |i+1=>nG i+3+(i:Nat)
theorem cf5(h:i<=7):0<=nG i/\nG i<=70:=by
 have e:∀i:Fin 8,0<=nG i.1/\nG i.1<=70:=by decide
 exact e ⟨i,by omega⟩
theorem cu2(i:Nat):nG (i+1)=nG i+3+(i:Nat):=rfl
theorem growS_0:pJ 0=QO:=rfl
theorem aQ2(i:Nat):pJ (i+1)=IJ (pJ i) (i+1) ((i+1:Nat):Int):=rfl
theorem Za{h:List UInt8}{L:List Int}(e:h=qU (i:Nat))(f:L=pK h):L=[DN i,I6 i]:=by rw[f,e];exact VN i
theorem aV8(i:Nat){x y:Int}(hx:x=DN i)(hy:y=I6 i):[1,0,0,x,y]=wX i:=by rw[hx,hy];rfl
theorem an1(hm:m<8)(hi:i<=m):∃p,(pJ m).P i=some p/\Own p/\Like p (Vy m)/\p.lf=(i:Nat):=by
 obtain⟨g,_⟩:=Eo m hm
 obtain⟨p,hp⟩:=g.mem i (by omega)
 obtain⟨k1,k2,k3,_⟩:=g.gs.sy i p (by omega) hp
 exact⟨p,hp,k1,k2,k3⟩
def by5:ak:=aj4.add 15 Em Fy (.of Tryz.func15)
def by6:ak:=by5.add 14 (ofP (fun p=>.d (.v (.int .i64 p.lf))) (.d (.v (.int .i64 0)))) (zy CO Bf) (.of Tryz.func14)
def by7:ak:={ by6 with fz:=true }
attribute [local irreducible] aN aQ bq aJ aI eY dL bP aD aC aF bn aY aj bR fC fu bT dH jm eG jO bg aZ mI fq eX bJ aT dB jF aK eB dK kG fO bD fG dA bS bE qU bF jQ jY QO tY Ru qQ pJ Vy bCm WU dZ nextR IE
theorem I9(n:Int):aV 5 [.v (.int .i64 n)] (.d (.v (.bool true))):=by
 refine eO (E:=by7) Tryz.func5 Tryz.ntmps5 ?_
 by_cases h1:n<1
 ·refine ah ?_;(try exact⟨⟩)
 by_cases h7:n>7
 ·refine ah ?_;(try exact⟨⟩)
 obtain⟨M,rfl⟩:∃M:Nat,n=M:=⟨n.toNat,by omega⟩
 have hM:M<=7:=by omega
 have hM1:1<=M:=by omega
 have HM:=yHd hM;have HM1:=yHd hM1
 clear hM hM1
 refine ah ?_
 rw[<-growS_0]
 refine aX.mk (cB [0,3,4] [0] M (fun j=>⟨.d (.v (.int .i64 (M:Nat)))::.au::.au::.ob 0::.d (.v (.int .i64 ((j+1:Nat):Int)))::dz 95 [],[some (.abs (jQ 0 (nG j) (jY (pJ j))))]⟩) ?_)
 intro j hj hlp
 by_cases Sn:j<M
 ·have g1:((j+1:Nat):Int)<=M:=by omega
  have hj7:j+1<8:=by have:=HM.out;omega
  obtain⟨g,hR⟩:=Eo j (by omega)
  obtain⟨b0,b1⟩:=cf5 (i:=j) (by omega)
  have G:=yHd g;have HR:=yHd hR;have H7:=yHd hj7;have B0:=yHd b0;have B1:=yHd b1
  clear g hR hj7 b0 b1
  refine ah ?_
  intro h e
  refine ah ?_
  intro l f
  obtain⟨x,hx⟩:∃x,x=DN (j+1):=⟨_,rfl⟩
  obtain⟨y,hy⟩:∃y,y=I6 (j+1):=⟨_,rfl⟩
  obtain rfl:l=[x,y]:=by rw[hx,hy];exact Za e f
  have HO:=yHd (aV8 (j+1) hx hy)
  clear hx hy e f
  refine ah ?_
  refine eU.mk' (QV G.out (by have:=H7.out;omega) (by omega) H7.out (by omega) (by omega) (by have:=B0.out;have:=B1.out;omega) HO.out rfl) ?_
  refine ah ?_
  refine eU.mk' (QU G.out (by have:=H7.out;omega) (by omega) H7.out (by omega) (by omega) _ (by have:=B0.out;have:=B1.out;omega) HO.out (by rw[HR.out];have:=H7.out;omega)) ?_
  refine ah ?_
  refine eU.mk' (bp5 G.out (by have:=H7.out;omega) (by omega) H7.out (by omega) (by omega) _ (by rw[HR.out];have:=H7.out;omega) (l:=2*j+2) (by rw[HR.out])) ?_
  have e2:((2*j+2:Nat):Int) -2=((2*j:Nat):Int):=by omega
  refine ah ?_
  rw[show jQ 0 (nG j+1+1) (jY (vS (pJ j) (j+1) ((j+1:Nat):Int)))=jQ 0 (nG j+1+1+((0:Nat):Int)) (jY (vT (pJ j) (j+1) ((j+1:Nat):Int) (0+1))) by rw[addT_1,Int.natCast_zero,Int.add_zero]]
  refine aX.mk (cB [0,3,4,6,7] [0] j (fun k=>⟨.d (.v (.int .i64 (M:Nat)))::.au::.au::.ob 0::.d (.v (.int .i64 ((j+1:Nat):Int)))::.au::.d (.v (.int .i64 (((2*j+2:Nat):Int) -2)))::.d (.v (.int .i64 ((k+1:Nat):Int)))::dz 92 [],[some (.abs (jQ 0 (nG j+1+1+(k:Int)) (jY (vT (pJ j) (j+1) ((j+1:Nat):Int) (k+1)))))]⟩) ?_)
  intro k hk hlk
  by_cases hkj:k<j
  ·have g2:((k+1:Nat):Int)<((j+1:Nat):Int):=by omega
   refine ah ?_
   refine eU.mk' (aK8 G.out (by have:=H7.out;omega) (by omega) H7.out (by omega) (by omega) _ (by have:=B0.out;have:=B1.out;have:=H7.out;omega) (k:=k+1) (by omega) (by omega) (by rw[HR.out];have:=H7.out;omega) rfl (by rw[HR.out];omega)) ?_
   rw[show nG j+1+1+(k:Int)+1=nG j+1+1+((k+1:Nat):Int) by omega]
   refine ah ?_
   refine hlk.go hkj [0,3,4,6,7] [0] ?_
   rfl
  ·obtain rfl:j=k:=by omega
   refine ah ?_
   refine eU.mk' (aK7 G.out (by have:=H7.out;omega) (by omega) H7.out (by omega) (by omega) _ (by have:=B0.out;have:=B1.out;have:=H7.out;omega) (by rw[HR.out];have:=H7.out;omega) rfl (by rw[HR.out];omega)) ?_
   rw[<-aQ2,show nG j+1+1+(j:Int)+1=nG (j+1) by rw[cu2];omega]
   refine ah ?_
   refine hlp.go Sn [0,3,4] [0] ?_
   rfl
 ·obtain rfl:M=j:=by omega
  obtain⟨p0,hp0⟩:∃p,(pJ M).P 0=some p:=by
   obtain⟨g,_⟩:=Eo M (by have:=HM.out;omega)
   exact⟨_,g.p0⟩
  have HA:=yHd (fun i hi=>an1 (m:=M) (i:=i) (by have:=HM.out;omega) hi)
  have HP0:=yHd hp0
  have L0:RowKit.Hid (Like p0 (Vy M)):=yHd (by
   obtain⟨p,h1,h2,h3,h4⟩:=HA.out 0 (Nat.zero_le _)
   rw[hp0]at h1;cases h1
   exact h3)
  clear hp0
  refine ah ?_
  refine eU.mk' (lK (i:=0) (by decide) HP0.out) ?_
  refine ah ?_
  refine aX.mk (cB [0,3,8,9] [0] (M+1) (fun k=>⟨.d (.v (.int .i64 (M:Nat)))::.au::.au::.ob 0::.au::.au::.au::.au::.d (.sref (aP p0) 0)::.d (.v (.int .i64 (k:Nat)))::dz 90 [],[some (.abs (jQ 0 (nG M) (jY (pJ M))))]⟩) ?_)
  intro k hk hlk
  by_cases hkM:k<M+1
  ·obtain⟨p,hp,k1,k2,k3⟩:=HA.out k (by omega)
   have lp:Like p p0:=⟨k2.e.trans L0.out.e.symm,k2.zs.trans L0.out.zs.symm,k2.ad.trans L0.out.ad.symm,k2.k.trans L0.out.k.symm,k2.ch.trans L0.out.ch.symm,k2.ep.trans L0.out.ep.symm,k2.sD.trans L0.out.sD.symm⟩
   have g1:(k:Int)<=M:=by omega
   have hv:=Fx lp
   have he:bM [.bytes 32 (aO4 p.ep (sb { data:=#[121] }))] [.bytes 32 (aO4 p0.ep (sb { data:=#[121] }))]=true:=by
    rw[lp.ep]
    exact aj7 _
   have hk8:=yHd (show k<8 by have:=HM.out;omega)
   have hpk:=yHd hp
   clear lp k1 k2 hp
   refine ah ?_
   refine eU.mk' (lK (i:=k) hk8.out hpk.out) ?_
   refine ah ?_
   refine hlk.go hkM [0,3,8,9] [0] ?_
   rfl
  ·obtain rfl:M+1=k:=by omega
   refine ah ?_;(try exact⟨⟩)
theorem ZU(n:Int)(hn:(Lit.int .i64 n).wf=true)(hG:pI gTab (fun _=>True) w):
  Calls Tryz.prog 5 #[.int .i64 n] w fun e w'=>e=.returned (.bool true)/\Below w.heap.size w w':=
 Ci (I9 n) hG (.cons (.v _) .nil)
end
end Go.Proofs.YtegalalmamofdaaGreatDoor
