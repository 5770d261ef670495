/-
  Groups of these laws: someone is removed by the first one. Mathematics; no function is named here.
-/
import Derived.Test.YtjhgelfnmhdihaaGreatDoorRows
import Derived.Test.YtjhgelfnmhdihaaGreatDoorJ10
import Derived.LaidMore
import Derived.LaidHandle
import Derived.Stop.Joined
import Derived.Test.YtjhgelfnmhdihaaGreatDoorJ52
namespace Go.Proofs.YtjhgelfnmhdihaaGreatDoor
set_option maxRecDepth 100000
open Go.ChangeShapes Go.WideShapes Go.ChangeAt Go.RowKit
set_option linter.unusedVariables false
def aG0:List (String×DataW Unit):=[("math/bits.deBruijn32tab",Rows.laid_math_bits_deBruijn32tab),("math/bits.deBruijn64tab",Rows.laid_math_bits_deBruijn64tab)]
theorem aX2(os:Os)(args:Array Value):laidMetH Tryz.prog aG0 ((World.doorLaid Tryz.prog 19 os).forCall (fun _ _=>0) ⟨#[],args,[]⟩).memory:=
 laidMetH_of_parts3 (fuel:=8) (laidMet_of_run' 8 (by kernel_rfl) (by kernel_rfl)) (by kernel_rfl) (by kernel_rfl)
theorem Tj{H:Type}{enc:TypeId×Value→H}{P:Program}{w:World}{base:Nat}{sp:Nat→Bool}{held:Bool}{fuel n:Nat}{t e:TypeId}{cs:List Value}{q:List MemPlace}(bs:List UInt8)(ht:P.underlying t=some (.array n e))(he:P.underlying e=some (.int .u8))(h1:P.cellsOf e=1)(hn:P.cellsOf t=n)
  (h:DataW.trod enc P w base sp held fuel t cs=some (.agg (bs.map fun b=>.lit (.int .u8 (Bt b))),q)):cs=HL bs:=by
 obtain⟨xs,m,_,hx,hl,hxl,hel⟩:=DataW.trod_array ht h
 simp only[Prod.mk.injEq,DataW.agg.injEq]at hx
 have hb:xs.map (·.1)=bs.map fun b=>.lit (.int .u8 (Bt b)):=hx.1.symm
 have hlen:bs.length=n:=by have:=congrArg List.length hb;simp at this;omega
 refine List.ext_getElem (by rw[hl,hn];simp[HL,hlen]) fun i h2 h3=>?_
 have hin:i<n:=by rw[hl,hn]at h2;exact h2
 have h4:=hel i hin
 rw[h1,List.getElem?_eq_getElem (by omega)]at h4
 obtain⟨z,e1,e2,_⟩:=DataW.trod_int he h4
 have h5:(xs.map (·.1))[i]'(by simp;omega)=(bs.map fun b=>(DataW.lit (.int .u8 (Bt b)):DataW H))[i]'(by simp;omega):=by simp only[hb]
 simp only[List.getElem_map]at h5
 rw[e2]at h5
 simp only[DataW.lit.injEq,Lit.int.injEq,true_and]at h5
 have h6:cs[i]=.int .u8 z:=by
  have:=congrArg (·[0]?) e1
  simpa[h2]using this
 rw[h6,h5]
 simp[HL]
theorem by5:Tryz.prog.globalNamed "math/bits.deBruijn64tab"=some 1:=by kernel_rfl
theorem gType:(Tryz.prog.globals[1]?).map (·.type)=some 271:=by kernel_rfl
theorem aE7{w:World}(h:laidMetH Tryz.prog aG0 w):SV gTab (fun _=>True) w:=by
 rw[MakeChecks.laidMetH_plain _ _ _ (by kernel_rfl)]at h
 obtain⟨ps,⟨g0,t0,cs0,f0,p0,q0,hg0,ht0,hv0,hd0,⟨g1,t1,cs1,f1,p1,q1,hg1,ht1,hv1,hd1,_,_⟩,_⟩,_,_⟩:=h
 obtain rfl:=Option.some.inj (by5.symm.trans hg1)
 obtain rfl:=Option.some.inj (gType.symm.trans ht1)
 have hcs:=Tj ag0 Tryz.underlying271 Tryz.underlying5 (by kernel_rfl) (by kernel_rfl) (q:=p1) (by
  refine hd1.trans ?_
  rfl)
 intro q l hq
 unfold gTab at hq
 split at hq
 ·cases hq
  refine⟨cs1.toList,.ofBytes rfl hcs,.inr ⟨_,0,rfl,trivial,?_,fun i hi=>?_⟩⟩
  ·have:=World.var?_cell hg1 hv1 0
   have h0:cs1[0]?≠none:=by
    rw[←Array.getElem?_toList,hcs];simp[HL,ag0]
   cases hc:cs1[0]? with
   |none=>exact absurd hc h0
   |some v=>rw[hc]at this;exact World.block_lt_of_cell? w _ this
  ·have:=World.var?_cell hg1 hv1 i
   rw[Nat.zero_add,this,←Array.getElem?_toList,List.getElem?_eq_getElem hi]
 ·cases hq
end Go.Proofs.YtjhgelfnmhdihaaGreatDoor
namespace Go.Proofs.YtjhgelfnmhdihaaGreatDoor
set_option linter.unusedSectionVars false
set_option linter.unusedVariables false
set_option linter.unusedSimpArgs false
set_option maxRecDepth 100000
open Go.RowKit
section
open Pm
attribute [local irreducible] cO aA au jm aC dA gu dU bU aI
end
section
open Go.ChangeShapes Pm
theorem pr_eq{α β:Type}{a c:α}{b d:β}{x:α×β}(h:(a,b)=x)(k:x=(c,d)):a=c∧b=d:=by
 have:=h.trans k
 exact⟨congrArg Prod.fst this,congrArg Prod.snd this⟩
theorem own_lfB{p:PS}(h:Own p):aG p.lf=true:=by
 have:=h.inv.lf0
 have:=h.inv.lf1
 unfold aG
 simp;omega
attribute [local irreducible] aU aZ bR aA au dB cO aF bZ aN aT av ak aR cZ bX aQ bK gB iC aD bA aO jW dJ bW bH aH bT fU bJ bg gY aJ nk qP kF bn fV eD dU eT bq aC bU fE dQ eF wH bE dV stepM wE uo aY iW pG Oh
end
section
open Pm
attribute [local irreducible] cO aA au jm aC dA gu dU bU aI
def opsD:List Int:=[4,1,0,0,0]
theorem gd_do{i:Nat}{q:PS}(h:GV i 2 q)(i0:2≤i):cZ q.e ⟨q.zs,q.ad,q.k,F8,F8⟩ q.lf opsD 1=(0,⟨q.zs,q.ad.set 1 false,q.k,F8,F8⟩):=by
 have z:bn q.zs q.lf=true:=by
  rw[h.lf]
  have:=Ba q.zs (w:=0) (by decide)
  rw[h.mem 0 (by decide)]at this
  rw[show(0:Int)=((0:Nat):Int)from rfl,this]
  simp;omega
 have z1:bn q.zs (1:Int)=true:=by
  have:=Ba q.zs (w:=1) (by decide)
  rw[h.mem 1 (by decide)]at this
  rw[show(1:Int)=((1:Nat):Int)from rfl,this]
  simp;omega
 refine KD h.own.may (by decide) rfl z ?_ ?_
 ·show gP q.lf [4,1,0,0,0] (0+1) 0 _=_
  rw[runV_1 (d:=0) (o:=[4,1,0,0,0]) rfl ?_,runV_0]
  ·rfl
  ·show mg q.zs q.ad 1=0
   unfold mg
   rw[z1,show(1:Int).toNat=1 from rfl,h.ad 1 (by decide)]
   rfl
 ·have e:∀j,j<8→(q.ad.set 1 false).getD j false=decide (j<1):=fun j hj=>by
   have hl:=h.own.inv.al
   rw[List.getD_eq_getElem?_getD,List.getElem?_set]
   by_cases e:1=j
   ·rw[if_pos e,if_pos (by omega),decide_eq_false (by omega)];rfl
   ·rw[if_neg e,←List.getD_eq_getElem?_getD,h.ad j hj]
    congr 1
    simp;omega
  show q.k≤((jh (q.ad.set 1 false):Nat):Int)
  rw[Iq (by rw[List.length_set];exact h.own.inv.al) (by decide) e,h.k]
  decide
theorem dem_com{i:Nat}{G:List (Option PS)}(g:GI i 2 G)(i0:2≤i)(i1:i<8):∃q,iE G 0=some q∧q.lf=0∧(bE G 0 opsD 1 1 G.length).length=1∧bW q 1 opsD 1 (bE G 0 opsD 1 1 G.length).flatten=0:=by
 have hf:=Dz g (by omega)
 have gv:=g.v _ hf
 have hd:=gd_do gv i0
 obtain⟨c1,c2⟩:=uD (n:=1) (ops:=opsD) (by decide) (by rw[hd]) (Em gv.own gv.lf) (DI gv (by decide)) gv.k gv.lf (by rw[gv.e];omega)
 have hl:G.length=i:=g.full.len
 have hv:bE G 0 opsD 1 1 G.length=[fZ (iW G) opsD]:=by
  have hz:(iW G).lf=0:=gv.lf
  have:=Hz (G:=G) (fr:=(iW G).lf) (ops:=opsD) (o:=1) (by omega) hf c1
  rw[hz]at this
  rw[this]
  unfold wQ fZ
  rw[hz]
 refine⟨_,hf,gv.lf,by rw[hv];rfl,?_⟩
 rw[hv,List.flatten_singleton]
 exact c2
end
section
open Go.ChangeShapes Pm
theorem groupM_gi2{M:Nat}(m0:2≤M)(m1:M≤6):GI M 2 (pG M 2 1):=by
 have g:=r9 (A:=2) (by omega) (M-1) (by omega)
 rw[show M-1+1=M by omega,show min M 2=2 by omega]at g
 unfold pG
 rw[if_neg (by decide)]
 exact g
theorem body_few{e fr:Int}{n:Nat}{ops:List Int}{m:Nat}{vs:List Int}{sl p0 p1 p2:Int}{k:Nat}{bx:Nat→List UInt8}{tg:List UInt8}{sE sS:Int}(hn:n≤3000)(hm:m≤3000)(hk:k≤24)(hb:∀j,j<k→(bx j).length≤6000):eD ⟨e,fr,n,ops,m,vs,sl,p0,p1,p2,k,bx,tg,sE,sS⟩≤900000:=by
 have:=w9 hb
 show 24+n*40+8+m*24+40+Fw bx k≤900000
 omega
theorem comP_k24{p:PS}{s:Vw}{n:Nat}{ops:List Int}{m:Nat}{vs:List Int}{d:List UInt8}{c:CS}(hc:c=bH p s n ops m vs d):c.k≤24:=by
 rw[hc]
 dsimp only[bH,iL]
 exact oW _ _ _
theorem and16_rng(x:Int):0≤bits .and .i64 x 65535∧bits .and .i64 x 65535<65536:=by
 have h:(BitVec.ofInt 64 x&&&BitVec.ofInt 64 65535).toNat≤65535:=by
  rw[BitVec.toNat_and]
  exact Nat.and_le_right
 have e:bits .and .i64 x 65535=IntKind.i64.wrap (((BitVec.ofInt 64 x&&&BitVec.ofInt 64 65535).toNat:Nat):Int):=rfl
 rw[e]
 generalize(BitVec.ofInt 64 x&&&BitVec.ofInt 64 65535).toNat=z at h
 rw[dR (by omega) (by omega)]
 omega
theorem and16_mod(x:Int){k:Nat}(hk:0<k):∃r:Nat,(bits .and .i64 x 65535).tmod (k:Int)=(r:Int)∧r<k:=by
 obtain⟨h0,h1⟩:=and16_rng x
 obtain⟨z,hz⟩:=Int.eq_ofNat_of_zero_le h0
 rw[hz]
 exact⟨z%k,rfl,Nat.mod_lt _ hk⟩
theorem xor8_rng(a b:Int):0≤bits .xor .u8 a b∧bits .xor .u8 a b<256:=JU _
attribute [local irreducible] aU aZ bR aA au dB cO aF bZ aN aT av ak aR cZ bX aQ bK gB iC aD bA aO jW dJ bW bH aH bT fU bJ bg gY aJ nk qP kF bn fV eD dU eT bq aC bU fE dQ eF wH bE dV stepM wE uo aY iW pG Oh
set_option maxHeartbeats 20000000 in
theorem partyForged_fn(M way att byy:Int):aP 7 [.v (.int .i64 M),.v (.int .i64 way),.v (.int .i64 att),.v (.int .i64 byy)] (.d (.v (.bool true))):=by
 refine dK (E:=Oc) Tryz.func7 Tryz.ntmps7 ?_
 by_cases m1:M<2
 ·refine aj ?_;(try exact⟨⟩)
 by_cases m2:M>4
 ·refine aj ?_;(try exact⟨⟩)
 by_cases w1:way<0
 ·refine aj ?_;(try exact⟨⟩)
 by_cases w2:way>9
 ·refine aj ?_;(try exact⟨⟩)
 obtain⟨m,rfl⟩:=Int.eq_ofNat_of_zero_le (show 0≤M by omega)
 have gf:=DC (M:=m) (A:=2) (k:=1) (by omega) (by omega) (by omega) (by omega) (by omega) (by omega)
 obtain⟨q,hq,hl,hv1,hc⟩:=dem_com (groupM_gi2 (M:=m) (by omega) (by omega)) (by omega) (by omega)
 obtain⟨p1,h1,l1⟩:=gf.at' 1 (by omega)
 obtain⟨H,hH⟩:∃H,H=pG m 2 1:=⟨_,rfl⟩
 rw[←hH]at gf hq hv1 hc h1
 have own:=gf.FC.own _ _ hq
 have own1:=gf.FC.own _ _ h1
 have bq:=own_lfB own
 have b1:=own_lfB own1
 have gl:=gf.len
 have n1:H.length≠0:=by rw[gl];omega
 have n2:H≠[]:=fun e=>n1 (by rw[e];rfl)
 have i2:(1:Int)<(H.length:Int):=by omega
 have l3:H.length≤1000000:=by omega
 have v0:=(OA H 0 (by omega)).2
 have v1:=(OA H 1 (by omega)).1
 have v2:=(OA H 1 (by omega)).2
 rw[hq]at v0
 rw[h1]at v1 v2
 have v0:(gL H).getD 1 (.v undef)=.sref (dM (dQ q)) 0:=v0
 have v1:(gL H).getD 2 (.v undef)=.sref (bN p1) 0:=v1
 have v2:(gL H).getD 3 (.v undef)=.sref (dM (dQ p1)) 0:=v2
 have HH:=Lib.hid hH
 have HV:=Lib.hid hv1
 have HC:=Lib.hid hc
 have OW:=Lib.hid own
 have OW1:=Lib.hid own1
 clear hH gf hq hv1 hc own own1 h1
 refine aj ?_;(try exact⟨⟩)
 intro H' K5
 obtain rfl:H'=H:=by rw[HH.out,K5];rfl
 clear K5
 refine aj ?_;(try exact⟨⟩)
 intro V hV
 have hV:V=bE H' 0 opsD 1 1 H'.length:=hV
 have lv:V.length=1:=by rw[hV];exact HV.out
 have ec:bW q 1 [4,1,0,0,0] V.length V.flatten=0:=by rw[lv,hV];exact HC.out
 have EC:=Lib.hid ec
 have vl:V.length≤3000:=by omega
 clear hV ec
 refine aj ?_;(try exact⟨⟩)
 rw[v0]
 refine aj ?_;(try exact⟨⟩)
 intro e he
 obtain rfl:e=0:=he.trans EC.out
 clear he
 refine aj ?_;(try exact⟨⟩)
 intro s c q' N C hs hc hq hN hC
 obtain⟨y1,y2,y3,y4,y5⟩:=am6 hc (by decide) vl
 have y6:c.k≤24:=comP_k24 hc
 clear hs hc hq hN hC
 refine aj ?_;(try exact⟨⟩)
 by_cases e0:way=0
 ·subst e0
  refine aj ?_;(try exact⟨⟩)
  rw[v1]
  refine aj ?_;(try exact⟨⟩)
  rw[v1]
  refine aj ?_;(try exact⟨⟩)
  refine And.intro (body_few (by omega) (by omega) (by omega) (by first|exact y4|(intro j hj;omega))) ?_
  intro e o heo
  refine aj ?_;(try exact⟨⟩)
  rw[v2]
  refine aj ?_;(try exact⟨⟩)
  refine And.intro (body_few (by omega) (by omega) (by omega) (by first|exact y4|(intro j hj;omega))) ?_
  intro e' o' heo'
  obtain⟨rfl,rfl⟩:=pr_eq heo' heo.symm
  clear heo heo'
  refine aj ?_;(try exact⟨⟩)
  cases o' with
  |none=>
   refine aj ?_;(try exact⟨⟩)
   refine And.intro ⟨none,rfl⟩ ?_
   refine aj ?_;(try exact⟨⟩)
   rw[v1]
   refine aj ?_;(try exact⟨⟩)
  |some r=>
   refine aj ?_;(try exact⟨⟩)
   refine And.intro ⟨some r,rfl⟩ ?_
   refine aj ?_;(try exact⟨⟩)
   rw[v1]
   refine aj ?_;(try exact⟨⟩)
 by_cases e1:way=1
 ·subst e1
  refine aj ?_;(try exact⟨⟩)
  rw[v1]
  refine aj ?_;(try exact⟨⟩)
  rw[v1]
  refine aj ?_;(try exact⟨⟩)
  refine And.intro (body_few (by omega) (by omega) (by omega) (by first|exact y4|(intro j hj;omega))) ?_
  intro e o heo
  refine aj ?_;(try exact⟨⟩)
  rw[v2]
  refine aj ?_;(try exact⟨⟩)
  refine And.intro (body_few (by omega) (by omega) (by omega) (by first|exact y4|(intro j hj;omega))) ?_
  intro e' o' heo'
  obtain⟨rfl,rfl⟩:=pr_eq heo' heo.symm
  clear heo heo'
  refine aj ?_;(try exact⟨⟩)
  cases o' with
  |none=>
   refine aj ?_;(try exact⟨⟩)
   refine And.intro ⟨none,rfl⟩ ?_
   refine aj ?_;(try exact⟨⟩)
   rw[v1]
   refine aj ?_;(try exact⟨⟩)
  |some r=>
   refine aj ?_;(try exact⟨⟩)
   refine And.intro ⟨some r,rfl⟩ ?_
   refine aj ?_;(try exact⟨⟩)
   rw[v1]
   refine aj ?_;(try exact⟨⟩)
 by_cases e2:way=2
 ·subst e2
  refine aj ?_;(try exact⟨⟩)
  rw[v1]
  refine aj ?_;(try exact⟨⟩)
  rw[v1]
  refine aj ?_;(try exact⟨⟩)
  refine And.intro (body_few (by omega) (by omega) (by omega) (by first|exact y4|(intro j hj;omega))) ?_
  intro e o heo
  refine aj ?_;(try exact⟨⟩)
  rw[v2]
  refine aj ?_;(try exact⟨⟩)
  refine And.intro (body_few (by omega) (by omega) (by omega) (by first|exact y4|(intro j hj;omega))) ?_
  intro e' o' heo'
  obtain⟨rfl,rfl⟩:=pr_eq heo' heo.symm
  clear heo heo'
  refine aj ?_;(try exact⟨⟩)
  cases o' with
  |none=>
   refine aj ?_;(try exact⟨⟩)
   refine And.intro ⟨none,rfl⟩ ?_
   refine aj ?_;(try exact⟨⟩)
   rw[v1]
   refine aj ?_;(try exact⟨⟩)
  |some r=>
   refine aj ?_;(try exact⟨⟩)
   refine And.intro ⟨some r,rfl⟩ ?_
   refine aj ?_;(try exact⟨⟩)
   rw[v1]
   refine aj ?_;(try exact⟨⟩)
 by_cases e3:way=3
 ·subst e3
  refine aj ?_;(try exact⟨⟩)
  rw[v1]
  refine aj ?_;(try exact⟨⟩)
  rw[v1]
  refine aj ?_;(try exact⟨⟩)
  refine And.intro (body_few (by omega) (by omega) (by omega) (by first|exact y4|(intro j hj;omega))) ?_
  intro e o heo
  refine aj ?_;(try exact⟨⟩)
  rw[v2]
  refine aj ?_;(try exact⟨⟩)
  refine And.intro (body_few (by omega) (by omega) (by omega) (by first|exact y4|(intro j hj;omega))) ?_
  intro e' o' heo'
  obtain⟨rfl,rfl⟩:=pr_eq heo' heo.symm
  clear heo heo'
  refine aj ?_;(try exact⟨⟩)
  cases o' with
  |none=>
   refine aj ?_;(try exact⟨⟩)
   refine And.intro ⟨none,rfl⟩ ?_
   refine aj ?_;(try exact⟨⟩)
   rw[v1]
   refine aj ?_;(try exact⟨⟩)
  |some r=>
   refine aj ?_;(try exact⟨⟩)
   refine And.intro ⟨some r,rfl⟩ ?_
   refine aj ?_;(try exact⟨⟩)
   rw[v1]
   refine aj ?_;(try exact⟨⟩)
 by_cases e4:way=4
 ·subst e4
  refine aj ?_;(try exact⟨⟩)
  rw[v1]
  refine aj ?_;(try exact⟨⟩)
  rw[v1]
  refine aj ?_;(try exact⟨⟩)
  refine And.intro (body_few (by omega) (by omega) (by omega) (by first|exact y4|(intro j hj;omega))) ?_
  intro e o heo
  refine aj ?_;(try exact⟨⟩)
  rw[v2]
  refine aj ?_;(try exact⟨⟩)
  refine And.intro (body_few (by omega) (by omega) (by omega) (by first|exact y4|(intro j hj;omega))) ?_
  intro e' o' heo'
  obtain⟨rfl,rfl⟩:=pr_eq heo' heo.symm
  clear heo heo'
  refine aj ?_;(try exact⟨⟩)
  cases o' with
  |none=>
   refine aj ?_;(try exact⟨⟩)
   refine And.intro ⟨none,rfl⟩ ?_
   refine aj ?_;(try exact⟨⟩)
   rw[v1]
   refine aj ?_;(try exact⟨⟩)
  |some r=>
   refine aj ?_;(try exact⟨⟩)
   refine And.intro ⟨some r,rfl⟩ ?_
   refine aj ?_;(try exact⟨⟩)
   rw[v1]
   refine aj ?_;(try exact⟨⟩)
 by_cases e5:way=5
 ·subst e5
  obtain⟨r,hr,hr3⟩:=and16_mod att (k:=3) (by decide)
  have hr:(bits .and .i64 att 65535).tmod 3=(r:Int):=hr
  have r0:0≤(r:Int):=by omega
  have r1:(r:Int)<3:=by omega
  have HR:=Lib.hid hr
  clear hr
  refine aj ?_;(try exact⟨⟩)
  rw[HR.out]
  rcases r with _|_|_|r
  ·refine aj ?_;(try exact⟨⟩)
   rw[v1]
   refine aj ?_;(try exact⟨⟩)
   rw[v1]
   refine aj ?_;(try exact⟨⟩)
   refine And.intro (body_few (by omega) (by omega) (by omega) (by first|exact y4|(intro j hj;omega))) ?_
   intro e o heo
   refine aj ?_;(try exact⟨⟩)
   rw[v2]
   refine aj ?_;(try exact⟨⟩)
   refine And.intro (body_few (by omega) (by omega) (by omega) (by first|exact y4|(intro j hj;omega))) ?_
   intro e' o' heo'
   obtain⟨rfl,rfl⟩:=pr_eq heo' heo.symm
   clear heo heo'
   refine aj ?_;(try exact⟨⟩)
   cases o' with
   |none=>
    refine aj ?_;(try exact⟨⟩)
    refine And.intro ⟨none,rfl⟩ ?_
    refine aj ?_;(try exact⟨⟩)
    rw[v1]
    refine aj ?_;(try exact⟨⟩)
   |some r=>
    refine aj ?_;(try exact⟨⟩)
    refine And.intro ⟨some r,rfl⟩ ?_
    refine aj ?_;(try exact⟨⟩)
    rw[v1]
    refine aj ?_;(try exact⟨⟩)
  ·refine aj ?_;(try exact⟨⟩)
   rw[v1]
   refine aj ?_;(try exact⟨⟩)
   rw[v1]
   refine aj ?_;(try exact⟨⟩)
   refine And.intro (body_few (by omega) (by omega) (by omega) (by first|exact y4|(intro j hj;omega))) ?_
   intro e o heo
   refine aj ?_;(try exact⟨⟩)
   rw[v2]
   refine aj ?_;(try exact⟨⟩)
   refine And.intro (body_few (by omega) (by omega) (by omega) (by first|exact y4|(intro j hj;omega))) ?_
   intro e' o' heo'
   obtain⟨rfl,rfl⟩:=pr_eq heo' heo.symm
   clear heo heo'
   refine aj ?_;(try exact⟨⟩)
   cases o' with
   |none=>
    refine aj ?_;(try exact⟨⟩)
    refine And.intro ⟨none,rfl⟩ ?_
    refine aj ?_;(try exact⟨⟩)
    rw[v1]
    refine aj ?_;(try exact⟨⟩)
   |some r=>
    refine aj ?_;(try exact⟨⟩)
    refine And.intro ⟨some r,rfl⟩ ?_
    refine aj ?_;(try exact⟨⟩)
    rw[v1]
    refine aj ?_;(try exact⟨⟩)
  ·refine aj ?_;(try exact⟨⟩)
   rw[v1]
   refine aj ?_;(try exact⟨⟩)
   rw[v1]
   refine aj ?_;(try exact⟨⟩)
   refine And.intro (body_few (by omega) (by omega) (by omega) (by first|exact y4|(intro j hj;omega))) ?_
   intro e o heo
   refine aj ?_;(try exact⟨⟩)
   rw[v2]
   refine aj ?_;(try exact⟨⟩)
   refine And.intro (body_few (by omega) (by omega) (by omega) (by first|exact y4|(intro j hj;omega))) ?_
   intro e' o' heo'
   obtain⟨rfl,rfl⟩:=pr_eq heo' heo.symm
   clear heo heo'
   refine aj ?_;(try exact⟨⟩)
   cases o' with
   |none=>
    refine aj ?_;(try exact⟨⟩)
    refine And.intro ⟨none,rfl⟩ ?_
    refine aj ?_;(try exact⟨⟩)
    rw[v1]
    refine aj ?_;(try exact⟨⟩)
   |some r=>
    refine aj ?_;(try exact⟨⟩)
    refine And.intro ⟨some r,rfl⟩ ?_
    refine aj ?_;(try exact⟨⟩)
    rw[v1]
    refine aj ?_;(try exact⟨⟩)
  ·omega
 by_cases e6:way=6
 ·subst e6
  refine aj ?_;(try exact⟨⟩)
  rw[v1]
  refine aj ?_;(try exact⟨⟩)
  rw[v1]
  refine aj ?_;(try exact⟨⟩)
  refine And.intro (body_few (by omega) (by omega) (by omega) (by first|exact y4|(intro j hj;omega))) ?_
  intro e o heo
  refine aj ?_;(try exact⟨⟩)
  rw[v2]
  refine aj ?_;(try exact⟨⟩)
  refine And.intro (body_few (by omega) (by omega) (by omega) (by first|exact y4|(intro j hj;omega))) ?_
  intro e' o' heo'
  obtain⟨rfl,rfl⟩:=pr_eq heo' heo.symm
  clear heo heo'
  refine aj ?_;(try exact⟨⟩)
  cases o' with
  |none=>
   refine aj ?_;(try exact⟨⟩)
   refine And.intro ⟨none,rfl⟩ ?_
   refine aj ?_;(try exact⟨⟩)
   rw[v1]
   refine aj ?_;(try exact⟨⟩)
  |some r=>
   refine aj ?_;(try exact⟨⟩)
   refine And.intro ⟨some r,rfl⟩ ?_
   refine aj ?_;(try exact⟨⟩)
   rw[v1]
   refine aj ?_;(try exact⟨⟩)
 by_cases e7:way=7
 ·subst e7
  obtain⟨r,hr,hr3⟩:=and16_mod att (k:=32) (by decide)
  have hr:(bits .and .i64 att 65535).tmod 32=(r:Int):=hr
  have r0:0≤(r:Int):=by omega
  have r1:(r:Int)<32:=by omega
  obtain⟨x0,x1⟩:=xor8_rng (Bt (c.tag.getD r 0)) (IntKind.u8.wrap byy)
  have HR:=Lib.hid hr
  clear hr
  refine aj ?_;(try exact⟨⟩)
  rw[HR.out]
  refine aj ?_;(try exact⟨⟩)
  rw[v1]
  refine aj ?_;(try exact⟨⟩)
  rw[v1]
  refine aj ?_;(try exact⟨⟩)
  refine And.intro (body_few (by omega) (by omega) (by omega) (by first|exact y4|(intro j hj;omega))) ?_
  intro e o heo
  refine aj ?_;(try exact⟨⟩)
  rw[v2]
  refine aj ?_;(try exact⟨⟩)
  refine And.intro (body_few (by omega) (by omega) (by omega) (by first|exact y4|(intro j hj;omega))) ?_
  intro e' o' heo'
  obtain⟨rfl,rfl⟩:=pr_eq heo' heo.symm
  clear heo heo'
  refine aj ?_;(try exact⟨⟩)
  cases o' with
  |none=>
   refine aj ?_;(try exact⟨⟩)
   refine And.intro ⟨none,rfl⟩ ?_
   refine aj ?_;(try exact⟨⟩)
   rw[v1]
   refine aj ?_;(try exact⟨⟩)
  |some r=>
   refine aj ?_;(try exact⟨⟩)
   refine And.intro ⟨some r,rfl⟩ ?_
   refine aj ?_;(try exact⟨⟩)
   rw[v1]
   refine aj ?_;(try exact⟨⟩)
 by_cases e8:way=8
 ·subst e8
  refine aj ?_;(try exact⟨⟩)
  rw[v1]
  refine aj ?_;(try exact⟨⟩)
  rw[v1]
  refine aj ?_;(try exact⟨⟩)
  refine And.intro (body_few (by omega) (by omega) (by omega) (by first|exact y4|(intro j hj;omega))) ?_
  intro e o heo
  refine aj ?_;(try exact⟨⟩)
  rw[v2]
  refine aj ?_;(try exact⟨⟩)
  refine And.intro (body_few (by omega) (by omega) (by omega) (by first|exact y4|(intro j hj;omega))) ?_
  intro e' o' heo'
  obtain⟨rfl,rfl⟩:=pr_eq heo' heo.symm
  clear heo heo'
  refine aj ?_;(try exact⟨⟩)
  cases o' with
  |none=>
   refine aj ?_;(try exact⟨⟩)
   refine And.intro ⟨none,rfl⟩ ?_
   refine aj ?_;(try exact⟨⟩)
   rw[v1]
   refine aj ?_;(try exact⟨⟩)
  |some r=>
   refine aj ?_;(try exact⟨⟩)
   refine And.intro ⟨some r,rfl⟩ ?_
   refine aj ?_;(try exact⟨⟩)
   rw[v1]
   refine aj ?_;(try exact⟨⟩)
 obtain rfl:way=9:=by omega
 refine aj ?_;(try exact⟨⟩)
 rw[v1]
 refine aj ?_;(try exact⟨⟩)
 rw[v1]
 refine aj ?_;(try exact⟨⟩)
 refine And.intro (body_few (by omega) (by omega) (by omega) (by first|exact y4|(intro j hj;omega))) ?_
 intro e o heo
 refine aj ?_;(try exact⟨⟩)
 rw[v2]
 refine aj ?_;(try exact⟨⟩)
 refine And.intro (body_few (by omega) (by omega) (by omega) (by first|exact y4|(intro j hj;omega))) ?_
 intro e' o' heo'
 obtain⟨rfl,rfl⟩:=pr_eq heo' heo.symm
 clear heo heo'
 refine aj ?_;(try exact⟨⟩)
 cases o' with
 |none=>
  refine aj ?_;(try exact⟨⟩)
  refine And.intro ⟨none,rfl⟩ ?_
  refine aj ?_;(try exact⟨⟩)
  rw[v1]
  refine aj ?_;(try exact⟨⟩)
 |some r=>
  refine aj ?_;(try exact⟨⟩)
  refine And.intro ⟨some r,rfl⟩ ?_
  refine aj ?_;(try exact⟨⟩)
  rw[v1]
  refine aj ?_;(try exact⟨⟩)
theorem partyForged_walk{w:World}(M:Int)(hM:(Lit.int .i64 M).wf=true)(a:Int)(ha:(Lit.int .i64 a).wf=true)(b:Int)(hb:(Lit.int .i64 b).wf=true)(c:Int)(hc:(Lit.int .i64 c).wf=true)(hG:SV gTab (fun _=>True) w):
  Calls Tryz.prog 7 #[.int .i64 M,.int .i64 a,.int .i64 b,.int .i64 c] w fun e w'=>e=.returned (.bool true)∧Below w.heap.size w w':=
 Uz (partyForged_fn M a b c) hG (.cons (.v _) (.cons (.v _) (.cons (.v _) (.cons (.v _) .nil))))
end
end Go.Proofs.YtjhgelfnmhdihaaGreatDoor
