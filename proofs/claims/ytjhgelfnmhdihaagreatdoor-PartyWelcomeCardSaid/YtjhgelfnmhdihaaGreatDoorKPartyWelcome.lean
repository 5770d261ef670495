/-
  Groups of these laws: someone is removed by the first one. Mathematics; no function is named here.
-/
import Derived.Test.YtjhgelfnmhdihaaGreatDoorRows
import Derived.Test.YtjhgelfnmhdihaaGreatDoorJ10
import Derived.LaidMore
import Derived.LaidHandle
import Derived.Stop.Joined
import Derived.Test.YtjhgelfnmhdihaaGreatDoorJ52
namespace Go.Proofs.YtjhgelfnmhdihaaGreatDoor
set_option maxRecDepth 100000
open Go.ChangeShapes Go.WideShapes Go.ChangeAt Go.RowKit
set_option linter.unusedVariables false
def aG0:List (String×DataW Unit):=[("math/bits.deBruijn32tab",Rows.laid_math_bits_deBruijn32tab),("math/bits.deBruijn64tab",Rows.laid_math_bits_deBruijn64tab)]
theorem aX2(os:Os)(args:Array Value):laidMetH Tryz.prog aG0 ((World.doorLaid Tryz.prog 19 os).forCall (fun _ _=>0) ⟨#[],args,[]⟩).memory:=
 laidMetH_of_parts3 (fuel:=8) (laidMet_of_run' 8 (by kernel_rfl) (by kernel_rfl)) (by kernel_rfl) (by kernel_rfl)
theorem Tj{H:Type}{enc:TypeId×Value→H}{P:Program}{w:World}{base:Nat}{sp:Nat→Bool}{held:Bool}{fuel n:Nat}{t e:TypeId}{cs:List Value}{q:List MemPlace}(bs:List UInt8)(ht:P.underlying t=some (.array n e))(he:P.underlying e=some (.int .u8))(h1:P.cellsOf e=1)(hn:P.cellsOf t=n)
  (h:DataW.trod enc P w base sp held fuel t cs=some (.agg (bs.map fun b=>.lit (.int .u8 (Bt b))),q)):cs=HL bs:=by
 obtain⟨xs,m,_,hx,hl,hxl,hel⟩:=DataW.trod_array ht h
 simp only[Prod.mk.injEq,DataW.agg.injEq]at hx
 have hb:xs.map (·.1)=bs.map fun b=>.lit (.int .u8 (Bt b)):=hx.1.symm
 have hlen:bs.length=n:=by have:=congrArg List.length hb;simp at this;omega
 refine List.ext_getElem (by rw[hl,hn];simp[HL,hlen]) fun i h2 h3=>?_
 have hin:i<n:=by rw[hl,hn]at h2;exact h2
 have h4:=hel i hin
 rw[h1,List.getElem?_eq_getElem (by omega)]at h4
 obtain⟨z,e1,e2,_⟩:=DataW.trod_int he h4
 have h5:(xs.map (·.1))[i]'(by simp;omega)=(bs.map fun b=>(DataW.lit (.int .u8 (Bt b)):DataW H))[i]'(by simp;omega):=by simp only[hb]
 simp only[List.getElem_map]at h5
 rw[e2]at h5
 simp only[DataW.lit.injEq,Lit.int.injEq,true_and]at h5
 have h6:cs[i]=.int .u8 z:=by
  have:=congrArg (·[0]?) e1
  simpa[h2]using this
 rw[h6,h5]
 simp[HL]
theorem by5:Tryz.prog.globalNamed "math/bits.deBruijn64tab"=some 1:=by kernel_rfl
theorem gType:(Tryz.prog.globals[1]?).map (·.type)=some 271:=by kernel_rfl
theorem aE7{w:World}(h:laidMetH Tryz.prog aG0 w):SV gTab (fun _=>True) w:=by
 rw[MakeChecks.laidMetH_plain _ _ _ (by kernel_rfl)]at h
 obtain⟨ps,⟨g0,t0,cs0,f0,p0,q0,hg0,ht0,hv0,hd0,⟨g1,t1,cs1,f1,p1,q1,hg1,ht1,hv1,hd1,_,_⟩,_⟩,_,_⟩:=h
 obtain rfl:=Option.some.inj (by5.symm.trans hg1)
 obtain rfl:=Option.some.inj (gType.symm.trans ht1)
 have hcs:=Tj ag0 Tryz.underlying271 Tryz.underlying5 (by kernel_rfl) (by kernel_rfl) (q:=p1) (by
  refine hd1.trans ?_
  rfl)
 intro q l hq
 unfold gTab at hq
 split at hq
 ·cases hq
  refine⟨cs1.toList,.ofBytes rfl hcs,.inr ⟨_,0,rfl,trivial,?_,fun i hi=>?_⟩⟩
  ·have:=World.var?_cell hg1 hv1 0
   have h0:cs1[0]?≠none:=by
    rw[←Array.getElem?_toList,hcs];simp[HL,ag0]
   cases hc:cs1[0]? with
   |none=>exact absurd hc h0
   |some v=>rw[hc]at this;exact World.block_lt_of_cell? w _ this
  ·have:=World.var?_cell hg1 hv1 i
   rw[Nat.zero_add,this,←Array.getElem?_toList,List.getElem?_eq_getElem hi]
 ·cases hq
end Go.Proofs.YtjhgelfnmhdihaaGreatDoor
namespace Go.Proofs.YtjhgelfnmhdihaaGreatDoor
set_option linter.unusedSectionVars false
set_option linter.unusedVariables false
set_option linter.unusedSimpArgs false
set_option maxRecDepth 100000
open Go.RowKit
section
open Pm
attribute [local irreducible] cO aA au jm aC dA gu dU bU aI
end
section
open Pm
theorem keysV_40:∀j:Nat,j<6→au (jm (bU (j:Nat)))≠au (jm (bU (40:Nat))):=by decide+kernel
theorem keysV_41:au (jm (bU (40:Nat)))≠au (jm (bU (41:Nat))):=by decide+kernel
theorem sgV_40{j:Nat}(hj:j<6):jX j≠jX 40:=fun e=>keysV_40 j hj (zi (dL _) (dL _) e)
theorem sgV_41:jX 40≠jX 41:=fun e=>keysV_41 (zi (dL _) (dL _) e)
attribute [local irreducible] cO aA au jm aC dA gu dU bU aI
section
variable {i : Nat} {q : PS} (h : GV i 1 q) (i0 : i < 7) {w : Nat} (w0 : 1 ≤ w) (w1 : w < i) {x y : Int} (hx : cO x = true) (hy : cO y = true) (hn : ∀ j, j < i → q.zs.getD (j * 2) 0 ≠ x)
include h i0 w0 w1 hx hy hn
end
end
section
open Pm
attribute [local irreducible] cO aA au jm aC dA gu dU bU aI
theorem leaf_F8{M:Nat}(h:M<8):gD (F8.set M true) 8=1∧qQ (F8.set M true) 0=M:=by
 rcases M with _|_|_|_|_|_|_|_|M<;>first|exact⟨rfl,rfl⟩|omega
theorem wel_ok{M:Nat}{G:List (Option PS)}(g:GI M 1 G)(m0:1≤M)(m1:M<6):∃q,iE G 0=some q∧Own q∧q.lf=0∧(bE G 0 [1,0,0,jX 40,l7 40] 1 1 G.length).length=1∧bW q 1 [1,0,0,jX 40,l7 40] 1 (bE G 0 [1,0,0,jX 40,l7 40] 1 1 G.length).flatten=0∧
  ∀(s:Vw) (q':PS) (d:List UInt8),s=dJ q q.lf 1 [1,0,0,jX 40,l7 40]→q'=aH q s 1 [1,0,0,jX 40,l7 40] 1 (bE G 0 [1,0,0,jX 40,l7 40] 1 1 G.length).flatten d→
   gD s.ng 8=1∧(fE (bU (40:Nat)) (wH q s q' d 0)).1=0∧(fE (bU (41:Nat)) (wH q s q' d 0)).1=10:=by
 have hf:=Dz g m0
 have gv:=g.v _ hf
 obtain⟨x,hx⟩:∃x,x=jX 40:=⟨_,rfl⟩
 obtain⟨y,hy⟩:∃y,y=l7 40:=⟨_,rfl⟩
 have ix:cO x=true:=hx▸JI 40
 have iy:cO y=true:=hy▸Qd 40
 have hn:∀j,j<M→(iW G).zs.getD (j*2) 0≠x:=fun j hj=>by rw[gv.sg j hj,hx];exact sgV_40 (by omega)
 have hl40:eT (bU (40:Nat))=[x,y]:=by rw[hx,hy];exact I6 40
 have hl41:eT (bU (41:Nat))=[jX 41,l7 41]:=I6 41
 have hne:x≠jX 41:=hx▸sgV_41
 rw[←hx,←hy]
 have hd:cZ (iW G).e ⟨(iW G).zs,(iW G).ad,(iW G).k,F8,F8⟩ (iW G).lf [1,0,0,x,y] 1=(0,kX (iW G) x y M false):=aE9 gv m0 m1 ix iy hn (by omega) m0 (pr:=false) (by intro h;cases h)
 obtain⟨c1,c2⟩:=uD (n:=1) (ops:=[1,0,0,x,y]) (by decide) (by rw[hd]) (Em gv.own gv.lf) (DI gv (by decide)) gv.k gv.lf (by rw[gv.e];omega)
 have hlen:G.length=M:=g.full.len
 have hv:bE G 0 [1,0,0,x,y] 1 1 G.length=[fZ (iW G) [1,0,0,x,y]]:=by
  have hz:(iW G).lf=0:=gv.lf
  have:=Hz (G:=G) (fr:=(iW G).lf) (ops:=[1,0,0,x,y]) (o:=1) (by omega) hf c1
  rw[hz]at this
  rw[this]
  unfold wQ fZ
  rw[hz]
 refine⟨_,hf,gv.own,gv.lf,by rw[hv];rfl,?_⟩
 rw[hv,List.flatten_singleton]
 refine⟨c2,fun s q' d hs hq'=>?_⟩
 have hs2:s=kX (iW G) x y M false:=by rw[hs];unfold dJ;rw[hd]
 have pI:s.ng=F8.set M true:=by rw[hs2];rfl
 obtain⟨f1,f2⟩:=leaf_F8 (M:=M) (by omega)
 have zl:s.zs.length=31:=by rw[hs2];exact iI gv.own.inv.zl rfl
 have hlf:bq q'.zs M=[x,y]:=by
  rw[hq',lC,nu zl gv.own.inv.lf0 gv.own.inv.lf1 _ _ _ _ (by omega),if_neg (by rw[gv.lf];simp;omega),hs2]
  show bq (dA (iW G).zs [x,y] (M:Nat)) M=_
  rw[jv gv.own.inv.zl rfl (by omega) (by omega),if_pos rfl]
 have ew:wH (iW G) s q' d 0=nZ q' (fU (aC d)) (bT (iW G) d) (eB q'.ep) d M:=by unfold wH;rw[pI,f2]
 refine⟨by rw[pI];exact f1,?_,?_⟩
 ·obtain⟨r,k1,_⟩:=Cg gv.own c2 d hs hq' (show M<8 by omega) (by rw[pI,Cz M (by omega) M (by omega)];simp) (h:=bU (40:Nat)) (by rw[hlf,hl40])
  rw[ew,k1]
 ·rw[ew]
  have hfit:ji (bU (41:Nat)) (nZ q' (fU (aC d)) (bT (iW G) d) (eB q'.ep) d M)=false:=by
   unfold ji
   have e:decide (bq (nZ q' (fU (aC d)) (bT (iW G) d) (eB q'.ep) d M).zs (nZ q' (fU (aC d)) (bT (iW G) d) (eB q'.ep) d M).lf.toNat=eT (bU (41:Nat)))=false:=by
    refine decide_eq_false fun h=>?_
    have h:bq q'.zs ((M:Nat):Int).toNat=eT (bU (41:Nat)):=h
    rw[Int.toNat_natCast,hlf,hl41]at h
    exact hne (List.cons.inj h).1
   rw[e]
   simp
  unfold fE
  rw[if_pos hfit]
end
section
open Go.ChangeShapes Pm
theorem groupM_giW{M:Nat}(m0:1≤M)(m1:M≤6):GI M 1 (pG M 1 1):=by
 have g:=r9 (A:=1) (by omega) (M-1) (by omega)
 rw[show M-1+1=M by omega,show min M 1=1 by omega]at g
 unfold pG
 rw[if_neg (by decide)]
 exact g
theorem own_lfW{p:PS}(h:Own p):aG p.lf=true:=by
 have:=h.inv.lf0
 have:=h.inv.lf1
 unfold aG
 simp;omega
theorem welW_bd(p:PS)(s:Vw)(q:PS)(d:List UInt8)(i:Nat):(wH p s q d i).bx.length≤1000000:=by
 dsimp only[wH,nZ,nK]
 exact Nat.le_trans (EN _ _ _) (by decide)
theorem joinR_len{h:List UInt8}{w:Wc}(e:(fE h w).1=0):w.bx.length=76:=by
 unfold fE at e
 split at e
 ·cases e
 ·split at e
  ·cases e
  ·split at e
   ·cases e
   ·omega
theorem and_mod(x:Int)(k:Nat)(hk:k≤1000000):∃r:Nat,bits .and .i64 x (k:Int)=(r:Int)∧r≤k:=by
 have h:(BitVec.ofInt 64 x&&&BitVec.ofInt 64 (k:Int)).toNat≤k:=by
  rw[BitVec.toNat_and]
  refine Nat.le_trans Nat.and_le_right ?_
  rw[BitVec.toNat_ofInt]
  omega
 have e:bits .and .i64 x (k:Int)=IntKind.i64.wrap (((BitVec.ofInt 64 x&&&BitVec.ofInt 64 (k:Int)).toNat:Nat):Int):=rfl
 rw[e]
 generalize(BitVec.ofInt 64 x&&&BitVec.ofInt 64 (k:Int)).toNat=z at h
 exact⟨z,dR (by omega) (by omega),h⟩
theorem and16_modW(x:Int){k:Nat}(hk:0<k):∃r:Nat,(bits .and .i64 x 65535).tmod (k:Int)=(r:Int)∧r<k:=by
 obtain⟨z,hz,_⟩:=and_mod x 65535 (by decide)
 have hz:bits .and .i64 x 65535=(z:Int):=hz
 rw[hz]
 exact⟨z%k,rfl,Nat.mod_lt _ hk⟩
theorem xor8_rngW(a b:Int):0≤bits .xor .u8 a b∧bits .xor .u8 a b<256:=JU _
theorem pr_eqW{α β:Type}{a c:α}{b d:β}{x:α×β}(h:(a,b)=x)(k:x=(c,d)):a=c∧b=d:=by
 have:=h.trans k
 exact⟨congrArg Prod.fst this,congrArg Prod.snd this⟩
end
section
open Go.ChangeShapes Pm
attribute [local irreducible] aU aZ bR aA au dB cO aF bZ aN aT av ak aR cZ bX aQ bK gB iC aD bA aO jW dJ bW bH aH bT fU bJ bg gY aJ nk qP kF bn fV eD dU eT bq aC bU fE dQ eF wH bE dV stepM wE uo aY iW pG Oh
set_option maxHeartbeats 20000000 in
theorem partyWelcomeA_fn(M way att byy:Int)(way5:way≠5):aP 10 [.v (.int .i64 M),.v (.int .i64 way),.v (.int .i64 att),.v (.int .i64 byy)] (.d (.v (.bool true))):=by
 refine dK (E:=Oc) Tryz.func10 Tryz.ntmps10 ?_
 by_cases m1:M<1
 ·refine aj ?_;(try exact⟨⟩)
 by_cases m2:M>4
 ·refine aj ?_;(try exact⟨⟩)
 by_cases w1:way<0
 ·refine aj ?_;(try exact⟨⟩)
 by_cases w2:way>8
 ·refine aj ?_;(try exact⟨⟩)
 obtain⟨m,rfl⟩:=Int.eq_ofNat_of_zero_le (show 0≤M by omega)
 have gf:=DC (M:=m) (A:=1) (k:=1) (by omega) (by omega) (by omega) (by omega) (by omega) (by omega)
 obtain⟨q,hq,own,hl,hv1,hc,hw⟩:=wel_ok (groupM_giW (M:=m) (by omega) (by omega)) (by omega) (by omega)
 obtain⟨H,hH⟩:∃H,H=pG m 1 1:=⟨_,rfl⟩
 rw[←hH]at gf hq hv1 hc hw
 have bq:=own_lfW own
 have gl:=gf.len
 have n1:H.length≠0:=by rw[gl];omega
 have n2:H≠[]:=fun e=>n1 (by rw[e];rfl)
 have i2:(0:Int)<(H.length:Int):=by omega
 have l3:H.length≤1000000:=by omega
 have v0:=(OA H 0 (by omega)).2
 rw[hq]at v0
 have v0:(gL H).getD 1 (.v undef)=.sref (dM (dQ q)) 0:=v0
 have HH:=Lib.hid hH
 have HV:=Lib.hid hv1
 have HC:=Lib.hid hc
 have HW:=Lib.hid hw
 have OW:=Lib.hid own
 clear hH gf hq hv1 hc own hw hl
 refine aj ?_;(try exact⟨⟩)
 intro H' K5
 obtain rfl:H'=H:=by rw[HH.out,K5];rfl
 clear K5
 refine aj ?_;(try exact⟨⟩)
 intro h hh
 obtain rfl:h=bU 40:=hh
 refine aj ?_;(try exact⟨⟩)
 intro L hL
 obtain rfl:L=[jX 40,l7 40]:=hL.trans (I6 40)
 clear hL
 refine aj ?_;(try exact⟨⟩)
 intro V hV
 have hV:V=bE H' 0 [1,0,0,jX 40,l7 40] 1 1 H'.length:=hV
 have lv:V.length=1:=by rw[hV];exact HV.out
 have ec:bW q 1 [1,0,0,jX 40,l7 40] V.length V.flatten=0:=by rw[lv,hV];exact HC.out
 have EC:=Lib.hid ec
 have HVV:=Lib.hid hV
 have vl:V.length≤3000:=by omega
 clear hV ec
 refine aj ?_;(try exact⟨⟩)
 rw[v0]
 refine aj ?_;(try exact⟨⟩)
 intro e he
 obtain rfl:e=0:=he.trans EC.out
 clear he
 refine aj ?_;(try exact⟨⟩)
 intro s c q' N C hs hc hq hN hC
 obtain⟨d,hd⟩:∃d,d=UInt8.ofNat 5::List.replicate 31 (0:UInt8):=⟨_,rfl⟩
 have hq2:q'=aH q s 1 [1,0,0,jX 40,l7 40] 1 (bE H' 0 [1,0,0,jX 40,l7 40] 1 1 H'.length).flatten d:=by rw[hq,lv,HVV.out,hd];rfl
 obtain⟨x1,x2,x3⟩:=HW.out s q' d hs hq2
 obtain rfl:N=1:=hN.trans x1
 have hC0:C 0=wH q s q' d 0:=by rw[hC,hd];rfl
 rw[←hC0]at x2 x3
 have bx:(C 0).bx.length≤1000000:=by rw[hC0];exact welW_bd _ _ _ _ _
 obtain⟨W,hW⟩:∃W,W=C 0:=⟨_,rfl⟩
 rw[←hW]at x2 x3 bx
 have b76:W.bx.length=76:=joinR_len x2
 have X2:=Lib.hid x2
 have X3:=Lib.hid x3
 have CW:=Lib.hid hW
 clear hs hc hq hN hC hC0 hq2 x1 x2 x3 hd hW
 refine aj ?_;(try exact⟨⟩)
 rw[←CW.out]
 by_cases e0:way=0
 ·subst e0
  obtain⟨r,hr,hr1⟩:=and_mod att 1 (by decide)
  have hr:bits .and .i64 att 1=(r:Int):=hr
  have HR:=Lib.hid hr
  clear hr
  refine aj ?_;(try exact⟨⟩)
  rw[HR.out]
  rcases r with _|_|r
  ·have wr:IntKind.i64.wrap (40+((0:Nat):Int))=40:=by decide
   rw[wr]
   intro h hh
   obtain rfl:h=bU 40:=hh
   refine aj ?_;(try exact⟨⟩)
   intro e o heo
   refine aj ?_;(try exact⟨⟩)
   intro h hh
   obtain rfl:h=bU 40:=hh
   refine aj ?_;(try exact⟨⟩)
   intro e' o' heo'
   obtain⟨rfl,rfl⟩:=pr_eqW heo' heo.symm
   obtain rfl:e'=0:=(congrArg Prod.fst heo).trans X2.out
   clear heo heo'
   refine aj ?_;(try exact⟨⟩)
   cases o' with
   |none=>
    refine aj ?_;(try exact⟨⟩)
    refine And.intro ⟨none,rfl⟩ ?_
    refine aj ?_;(try exact⟨⟩)
   |some r=>
    refine aj ?_;(try exact⟨⟩)
    refine And.intro ⟨some r,rfl⟩ ?_
    refine aj ?_;(try exact⟨⟩)
  ·have wr:IntKind.i64.wrap (40+((0+1:Nat):Int))=41:=by decide
   rw[wr]
   intro h hh
   obtain rfl:h=bU 41:=hh
   refine aj ?_;(try exact⟨⟩)
   intro e o heo
   refine aj ?_;(try exact⟨⟩)
   intro h hh
   obtain rfl:h=bU 41:=hh
   refine aj ?_;(try exact⟨⟩)
   intro e' o' heo'
   obtain⟨rfl,rfl⟩:=pr_eqW heo' heo.symm
   obtain rfl:e'=10:=(congrArg Prod.fst heo).trans X3.out
   clear heo heo'
   refine aj ?_;(try exact⟨⟩)
   cases o' with
   |none=>
    refine aj ?_;(try exact⟨⟩)
    refine And.intro ⟨none,rfl⟩ ?_
    refine aj ?_;(try exact⟨⟩)
    rw[HR.out]
    refine aj ?_;(try exact⟨⟩)
   |some r=>
    refine aj ?_;(try exact⟨⟩)
    refine And.intro ⟨some r,rfl⟩ ?_
    refine aj ?_;(try exact⟨⟩)
    rw[HR.out]
    refine aj ?_;(try exact⟨⟩)
  ·omega
 by_cases e1:way=1
 ·subst e1
  refine aj ?_;(try exact⟨⟩)
  intro h hh
  obtain rfl:h=bU 40:=hh
  refine aj ?_;(try exact⟨⟩)
  intro e o heo
  refine aj ?_;(try exact⟨⟩)
  intro h hh
  obtain rfl:h=bU 40:=hh
  refine aj ?_;(try exact⟨⟩)
  intro e' o' heo'
  obtain⟨rfl,rfl⟩:=pr_eqW heo' heo.symm
  clear heo heo'
  refine aj ?_;(try exact⟨⟩)
  cases o' with
  |none=>
   refine aj ?_;(try exact⟨⟩)
   refine And.intro ⟨none,rfl⟩ ?_
   refine aj ?_;(try exact⟨⟩)
  |some r=>
   refine aj ?_;(try exact⟨⟩)
   refine And.intro ⟨some r,rfl⟩ ?_
   refine aj ?_;(try exact⟨⟩)
 by_cases e2:way=2
 ·subst e2
  refine aj ?_;(try exact⟨⟩)
  intro h hh
  obtain rfl:h=bU 40:=hh
  refine aj ?_;(try exact⟨⟩)
  intro e o heo
  refine aj ?_;(try exact⟨⟩)
  intro h hh
  obtain rfl:h=bU 40:=hh
  refine aj ?_;(try exact⟨⟩)
  intro e' o' heo'
  obtain⟨rfl,rfl⟩:=pr_eqW heo' heo.symm
  clear heo heo'
  refine aj ?_;(try exact⟨⟩)
  cases o' with
  |none=>
   refine aj ?_;(try exact⟨⟩)
   refine And.intro ⟨none,rfl⟩ ?_
   refine aj ?_;(try exact⟨⟩)
  |some r=>
   refine aj ?_;(try exact⟨⟩)
   refine And.intro ⟨some r,rfl⟩ ?_
   refine aj ?_;(try exact⟨⟩)
 by_cases e3:way=3
 ·subst e3
  refine aj ?_;(try exact⟨⟩)
  intro h hh
  obtain rfl:h=bU 40:=hh
  refine aj ?_;(try exact⟨⟩)
  intro e o heo
  refine aj ?_;(try exact⟨⟩)
  intro h hh
  obtain rfl:h=bU 40:=hh
  refine aj ?_;(try exact⟨⟩)
  intro e' o' heo'
  obtain⟨rfl,rfl⟩:=pr_eqW heo' heo.symm
  clear heo heo'
  refine aj ?_;(try exact⟨⟩)
  cases o' with
  |none=>
   refine aj ?_;(try exact⟨⟩)
   refine And.intro ⟨none,rfl⟩ ?_
   refine aj ?_;(try exact⟨⟩)
  |some r=>
   refine aj ?_;(try exact⟨⟩)
   refine And.intro ⟨some r,rfl⟩ ?_
   refine aj ?_;(try exact⟨⟩)
 by_cases e4:way=4
 ·subst e4
  obtain⟨r,hr,hr3⟩:=and16_modW att (k:=15) (by decide)
  have hr:(bits .and .i64 att 65535).tmod 15=(r:Int):=hr
  have r0:0≤(r:Int):=by omega
  have r1:(r:Int)<15:=by omega
  have HR:=Lib.hid hr
  clear hr
  refine aj ?_;(try exact⟨⟩)
  rw[HR.out]
  refine aj ?_;(try exact⟨⟩)
  intro h hh
  obtain rfl:h=bU 40:=hh
  refine aj ?_;(try exact⟨⟩)
  intro e o heo
  refine aj ?_;(try exact⟨⟩)
  intro h hh
  obtain rfl:h=bU 40:=hh
  refine aj ?_;(try exact⟨⟩)
  intro e' o' heo'
  obtain⟨rfl,rfl⟩:=pr_eqW heo' heo.symm
  clear heo heo'
  refine aj ?_;(try exact⟨⟩)
  cases o' with
  |none=>
   refine aj ?_;(try exact⟨⟩)
   refine And.intro ⟨none,rfl⟩ ?_
   refine aj ?_;(try exact⟨⟩)
  |some r=>
   refine aj ?_;(try exact⟨⟩)
   refine And.intro ⟨some r,rfl⟩ ?_
   refine aj ?_;(try exact⟨⟩)
 by_cases e6:way=6
 ·subst e6
  obtain⟨r,hr,hr3⟩:=and_mod att 31 (by decide)
  have hr:bits .and .i64 att 31=(r:Int):=hr
  have r0:0≤(r:Int):=by omega
  have r1:(r:Int)<32:=by omega
  obtain⟨x0,x1⟩:=xor8_rngW (Bt (W.tg.getD r 0)) (IntKind.u8.wrap byy)
  have HR:=Lib.hid hr
  clear hr
  refine aj ?_;(try exact⟨⟩)
  rw[HR.out]
  refine aj ?_;(try exact⟨⟩)
  intro h hh
  obtain rfl:h=bU 40:=hh
  refine aj ?_;(try exact⟨⟩)
  intro e o heo
  refine aj ?_;(try exact⟨⟩)
  intro h hh
  obtain rfl:h=bU 40:=hh
  refine aj ?_;(try exact⟨⟩)
  intro e' o' heo'
  obtain⟨rfl,rfl⟩:=pr_eqW heo' heo.symm
  clear heo heo'
  refine aj ?_;(try exact⟨⟩)
  cases o' with
  |none=>
   refine aj ?_;(try exact⟨⟩)
   refine And.intro ⟨none,rfl⟩ ?_
   refine aj ?_;(try exact⟨⟩)
  |some r=>
   refine aj ?_;(try exact⟨⟩)
   refine And.intro ⟨some r,rfl⟩ ?_
   refine aj ?_;(try exact⟨⟩)
 by_cases e7:way=7
 ·subst e7
  obtain⟨r,hr,hr3⟩:=and_mod att 31 (by decide)
  have hr:bits .and .i64 att 31=(r:Int):=hr
  have r0:0≤(r:Int):=by omega
  have r1:(r:Int)<32:=by omega
  obtain⟨x0,x1⟩:=xor8_rngW (Bt (W.ch.getD r 0)) (IntKind.u8.wrap byy)
  have HR:=Lib.hid hr
  clear hr
  refine aj ?_;(try exact⟨⟩)
  rw[HR.out]
  refine aj ?_;(try exact⟨⟩)
  intro h hh
  obtain rfl:h=bU 40:=hh
  refine aj ?_;(try exact⟨⟩)
  intro e o heo
  refine aj ?_;(try exact⟨⟩)
  intro h hh
  obtain rfl:h=bU 40:=hh
  refine aj ?_;(try exact⟨⟩)
  intro e' o' heo'
  obtain⟨rfl,rfl⟩:=pr_eqW heo' heo.symm
  clear heo heo'
  refine aj ?_;(try exact⟨⟩)
  cases o' with
  |none=>
   refine aj ?_;(try exact⟨⟩)
   refine And.intro ⟨none,rfl⟩ ?_
   refine aj ?_;(try exact⟨⟩)
  |some r=>
   refine aj ?_;(try exact⟨⟩)
   refine And.intro ⟨some r,rfl⟩ ?_
   refine aj ?_;(try exact⟨⟩)
 obtain rfl:way=8:=by omega
 refine aj ?_;(try exact⟨⟩)
 intro h hh
 obtain rfl:h=bU 40:=hh
 refine aj ?_;(try exact⟨⟩)
 intro e o heo
 refine aj ?_;(try exact⟨⟩)
 intro h hh
 obtain rfl:h=bU 40:=hh
 refine aj ?_;(try exact⟨⟩)
 intro e' o' heo'
 obtain⟨rfl,rfl⟩:=pr_eqW heo' heo.symm
 clear heo heo'
 refine aj ?_;(try exact⟨⟩)
 cases o' with
 |none=>
  refine aj ?_;(try exact⟨⟩)
  refine And.intro ⟨none,rfl⟩ ?_
  refine aj ?_;(try exact⟨⟩)
 |some r=>
  refine aj ?_;(try exact⟨⟩)
  refine And.intro ⟨some r,rfl⟩ ?_
  refine aj ?_;(try exact⟨⟩)
end
section
section
variable {E : ay} {s s' : St} {k : Exit → St → Prop}
theorem GW.ent{c:Code}(h:yh s s')(g:GW E c s' k):GW E c s k:=⟨fun S base w0 ρ a w g0=>by
 obtain⟨ρ',g1⟩:=h.out _ _ _ _ _ _ _ g0
 exact g.out S base w0 ρ' a w g1⟩
theorem GW.condT{c:Operand}{x y:Code}(hc:s.ev c=.d (.v (.bool true)))(h:GW E x s k):GW E (.cond c x y) s k:=⟨fun S base w0 ρ a w g=>by
 have h1:=g.ev c
 rw[hc]at h1
 exact wp_cond (RA.plain h1) (h.out S base w0 ρ a w g)⟩
theorem GW.condF{c:Operand}{x y:Code}(hc:s.ev c=.d (.v (.bool false)))(h:GW E y s k):GW E (.cond c x y) s k:=⟨fun S base w0 ρ a w g=>by
 have h1:=g.ev c
 rw[hc]at h1
 exact wp_cond (RA.plain h1) (h.out S base w0 ρ a w g)⟩
theorem GW.block{id:Nat}{c:Code}(h:GW E c s fun e s'=>match e with| .exit j=>(if j=id then k .normal s' else k (.exit j) s')|e=>k e s'):GW E (.block id c) s k:=⟨fun S base w0 ρ a w g=>by
 refine wp_block (wp_mono (h.out S base w0 ρ a w g) ?_)
 rintro e a' w' ⟨s',ρ',h1,h2⟩
 cases e with
 |exit j=>
  simp only[Exit.inBlock]
  simp only at h1
  split
  ·next hj=>rw[if_pos hj]at h1;exact⟨s',ρ',h1,h2⟩
  ·next hj=>rw[if_neg hj]at h1;exact⟨s',ρ',h1,h2⟩
 |_=>exact⟨s',ρ',h1,h2⟩⟩
theorem GW.frzG{c:Code}(live bs:List Nat)(b:Nat)(s':St)(h:GW E c s' k)(ok:Dx live bs (s.frz b)=true:=by exact rfl)(h2:gather live bs (s.frz b)=s':=by exact rfl):GW E c s k:=GW.ent (yh.frz.trans (.gather ok)) (h2▸h)
end
end
section
open Go.ChangeShapes Pm
attribute [local irreducible] aU aZ bR aA au dB cO aF bZ aN aT av ak aR cZ bX aQ bK gB iC aD bA aO jW dJ bW bH aH bT fU bJ bg gY aJ nk qP kF bn fV eD dU eT bq aC bU fE dQ eF wH bE dV stepM wE uo aY iW pG Oh
set_option maxHeartbeats 8000000 in
theorem partyWelcome5_fn(M att byy:Int):aP 10 [.v (.int .i64 M),.v (.int .i64 5),.v (.int .i64 att),.v (.int .i64 byy)] (.d (.v (.bool true))):=by
 by_cases m1:M<1
 ·refine dK (E:=Oc) Tryz.func10 Tryz.ntmps10 ?_
  refine aj ?_;(try exact⟨⟩)
 by_cases m2:M>4
 ·refine dK (E:=Oc) Tryz.func10 Tryz.ntmps10 ?_
  refine aj ?_;(try exact⟨⟩)
 obtain⟨m,rfl⟩:=Int.eq_ofNat_of_zero_le (show 0≤M by omega)
 have gf:=DC (M:=m) (A:=1) (k:=1) (by omega) (by omega) (by omega) (by omega) (by omega) (by omega)
 obtain⟨q,hq,own,hl,hv1,hc,hw⟩:=wel_ok (groupM_giW (M:=m) (by omega) (by omega)) (by omega) (by omega)
 obtain⟨H,hH⟩:∃H,H=pG m 1 1:=⟨_,rfl⟩
 rw[←hH]at gf hq hv1 hc hw
 have bq:=own_lfW own
 have gl:=gf.len
 have n1:H.length≠0:=by rw[gl];omega
 have n2:H≠[]:=fun e=>n1 (by rw[e];rfl)
 have i2:(0:Int)<(H.length:Int):=by omega
 have l3:H.length≤1000000:=by omega
 have v0:=(OA H 0 (by omega)).2
 rw[hq]at v0
 have v0:(gL H).getD 1 (.v undef)=.sref (dM (dQ q)) 0:=v0
 have HH:=Lib.hid hH
 have HV:=Lib.hid hv1
 have HC:=Lib.hid hc
 have HW:=Lib.hid hw
 have OW:=Lib.hid own
 clear hH gf hq hv1 hc own hw hl
 refine by3 (E:=Oc) Tryz.func10 Tryz.ntmps10 ?_
 refine GW.seq (.of ?_)
 refine aj ?_;(try exact⟨⟩)
 refine GW.seq (.of ?_)
 refine aj ?_;(try exact⟨⟩)
 refine GW.seq (.of ?_)
 refine aj ?_;(try exact⟨⟩)
 intro H' K5
 obtain rfl:H'=H:=by rw[HH.out,K5];rfl
 clear K5
 refine aj ?_;(try exact⟨⟩)
 refine GW.seq (.of ?_)
 refine aj ?_;(try exact⟨⟩)
 refine GW.seq (.of ?_)
 refine aj ?_;(try exact⟨⟩)
 intro h hh
 obtain rfl:h=bU 40:=hh
 refine aj ?_;(try exact⟨⟩)
 intro L hL
 obtain rfl:L=[jX 40,l7 40]:=hL.trans (I6 40)
 clear hL
 refine aj ?_;(try exact⟨⟩)
 refine GW.seq (.of ?_)
 refine aj ?_;(try exact⟨⟩)
 intro V hV
 have hV:V=bE H' 0 [1,0,0,jX 40,l7 40] 1 1 H'.length:=hV
 have lv:V.length=1:=by rw[hV];exact HV.out
 have ec:bW q 1 [1,0,0,jX 40,l7 40] V.length V.flatten=0:=by rw[lv,hV];exact HC.out
 have EC:=Lib.hid ec
 have HVV:=Lib.hid hV
 have vl:V.length≤3000:=by omega
 clear hV ec
 refine aj ?_;(try exact⟨⟩)
 rw[v0]
 refine aj ?_;(try exact⟨⟩)
 intro e he
 obtain rfl:e=0:=he.trans EC.out
 clear he
 refine aj ?_;(try exact⟨⟩)
 intro s c q' N C hs hc hq hN hC
 obtain⟨d,hd⟩:∃d,d=UInt8.ofNat 5::List.replicate 31 (0:UInt8):=⟨_,rfl⟩
 have hq2:q'=aH q s 1 [1,0,0,jX 40,l7 40] 1 (bE H' 0 [1,0,0,jX 40,l7 40] 1 1 H'.length).flatten d:=by rw[hq,lv,HVV.out,hd];rfl
 obtain⟨x1,x2,x3⟩:=HW.out s q' d hs hq2
 obtain rfl:N=1:=hN.trans x1
 have hC0:C 0=wH q s q' d 0:=by rw[hC,hd];rfl
 rw[←hC0]at x2 x3
 have bx:(C 0).bx.length≤1000000:=by rw[hC0];exact welW_bd _ _ _ _ _
 obtain⟨W,hW⟩:∃W,W=C 0:=⟨_,rfl⟩
 rw[←hW]at x2 x3 bx
 have b76:W.bx.length=76:=joinR_len x2
 have CW:=Lib.hid hW
 clear hs hc hq hN hC hC0 hq2 x1 x2 x3 hd hW
 refine aj ?_;(try exact⟨⟩)
 refine GW.seq (.of ?_)
 refine aj ?_;(try exact⟨⟩)
 refine GW.seq (.of ?_)
 refine aj ?_;(try exact⟨⟩)
 rw[←CW.out,b76]
 refine GW.seq (GW.seq (.of ?_))
 refine aj ?_;(try exact⟨⟩)
 refine GW.block ?_
 refine GW.seq (.of ?_)
 refine aj ?_;(try exact⟨⟩)
 refine GW.condF rfl ?_
 refine GW.seq (.of ?_)
 refine aj ?_;(try exact⟨⟩)
 refine GW.condF rfl ?_
 refine GW.seq (.of ?_)
 refine aj ?_;(try exact⟨⟩)
 refine GW.condF rfl ?_
 refine GW.seq (.of ?_)
 refine aj ?_;(try exact⟨⟩)
 refine GW.condF rfl ?_
 refine GW.seq (.of ?_)
 refine aj ?_;(try exact⟨⟩)
 refine GW.condT rfl ?_
 refine GW.seq (.of ?_)
 refine aj ?_;(try exact⟨⟩)
 obtain⟨r,hr,hr3⟩:=and16_modW att (k:=76) (by decide)
 have r0:0≤(r:Int):=by omega
 have r1:(r:Int)<((76:Nat):Int):=by omega
 obtain⟨x0,x1⟩:=xor8_rngW (Bt (W.bx.getD r 0)) (IntKind.u8.wrap byy)
 have HR:=Lib.hid hr
 clear hr
 refine GW.seq (.of ?_)
 refine aj ?_;(try exact⟨⟩)
 rw[HR.out,Int.toNat_natCast]
 refine aj ?_;(try exact⟨⟩)
 refine GW.frzG [1,2,15,16] [0,4] 5 ⟨[.ah,.d (.v (.int .i64 5)),.d (.v (.int .i64 att)),.ah,.ah,.ah,.ah,.ah,.ah,.ah,.ah,.ah,.ah,.ah,.ah,.ptr 1 0,.d (.row 76 [.bytes 76 (W.bx.set r (UInt8.ofNat (bits .xor .u8 (Bt (W.bx.getD r 0)) (IntKind.u8.wrap byy)).toNat))]),.ah,.ah,.ah,.ah,.ah,.ah,.ah,.ah,.ah,.ah,.ah,.ah,.ah,.ah,.ah,.ah,.ah,.ah,.ah,.ah,.ah,.ah,.ah,.ah,.ah,.ah,.ah,.ah,.ah,.ah,.ah,.ah,.ah,.ah,.ah,.ah,.ah,.ah,.ah,.ah,.ah,.ah,.ah,.ah,.ah,.ah,.ah,.ah,.ah,.ah,.ah,.ah,.ah,.ah,.ah,.ah,.ah,.ah,.ah,.ah,.ah,.ah,.ah,.ah,.ah,.ah,.ah,.ah,.ah,.ah,.ah,.ah,.ah,.ah,.ah,.ah,.ah,.ah,.ah,.ah,.ah,.ah,.ah,.ah,.ah,.ah,.ah,.ah,.ah,.ah,.ah,.ah,.ah,.ah,.ah,.ah,.ah,.ah,.ah,.ah,.ah,.ah,.ah,.ah,.ah,.ah,.ah,.ah,.ah,.ah,.ah,.ah,.ah,.ah,.ah,.ah,.ah,.ah,.ah,.ah,.ah,.ah,.ah,.ah,.ah,.ah,.ah,.ah,.ah,.ah,.ah,.ah,.ah,.ah,.ah,.ah,.ah,.ah,.ah,.ah,.ah,.ah,.ah,.ah,.ah,.ah,.ah,.ah,.ah,.ah,.ah,.ah,.ah,.ah,.ah,.ah,.ah,.ah,.ah,.ah,.ah,.ah,.ah,.ah,.ah,.ah,.ah,.ah,.ah,.ah],[some .gone,some (.var [.ints .i64 2 [W.lf,W.fr],.ints .i64 1 [W.e],.ints .i64 31 W.zs,.bools 8 W.ad,.ints .i64 1 [W.k],.bytes 32 W.ch,.gen 1 [.row 76 [.bytes 76 W.bx]],.bytes 32 W.tg])]⟩ ?_
 have bl:(76:Nat)=(W.bx.set r (UInt8.ofNat (bits .xor .u8 (Bt (W.bx.getD r 0)) (IntKind.u8.wrap byy)).toNat)).length:=by rw[List.length_set,b76]
 have bl2:(W.bx.set r (UInt8.ofNat (bits .xor .u8 (Bt (W.bx.getD r 0)) (IntKind.u8.wrap byy)).toNat)).length≤1000000:=by rw[←bl];decide
 refine .of ?_
 refine aj ?_;(try exact⟨⟩)
 refine .of ?_
 refine aj ?_;(try exact⟨⟩)
 intro h hh
 obtain rfl:h=bU 40:=hh
 refine aj ?_;(try exact⟨⟩)
 intro e o heo
 refine aj ?_;(try exact⟨⟩)
 intro h hh
 obtain rfl:h=bU 40:=hh
 refine aj ?_;(try exact⟨⟩)
 intro e' o' heo'
 obtain⟨rfl,rfl⟩:=pr_eqW heo' heo.symm
 clear heo heo'
 refine aj ?_;(try exact⟨⟩)
 cases o' with
 |none=>
  refine aj ?_;(try exact⟨⟩)
  refine And.intro ⟨none,rfl⟩ ?_
  refine aj ?_;(try exact⟨⟩)
 |some r=>
  refine aj ?_;(try exact⟨⟩)
  refine And.intro ⟨some r,rfl⟩ ?_
  refine aj ?_;(try exact⟨⟩)
theorem partyWelcome_fn(M way att byy:Int):aP 10 [.v (.int .i64 M),.v (.int .i64 way),.v (.int .i64 att),.v (.int .i64 byy)] (.d (.v (.bool true))):=by
 by_cases h:way=5
 ·rw[h]
  exact partyWelcome5_fn M att byy
 ·exact partyWelcomeA_fn M way att byy h
theorem partyWelcome_walk{w:World}(M:Int)(hM:(Lit.int .i64 M).wf=true)(a:Int)(ha:(Lit.int .i64 a).wf=true)(b:Int)(hb:(Lit.int .i64 b).wf=true)(c:Int)(hc:(Lit.int .i64 c).wf=true)(hG:SV gTab (fun _=>True) w):
  Calls Tryz.prog 10 #[.int .i64 M,.int .i64 a,.int .i64 b,.int .i64 c] w fun e w'=>e=.returned (.bool true)∧Below w.heap.size w w':=
 Uz (partyWelcome_fn M a b c) hG (.cons (.v _) (.cons (.v _) (.cons (.v _) (.cons (.v _) .nil))))
end
end Go.Proofs.YtjhgelfnmhdihaaGreatDoor
