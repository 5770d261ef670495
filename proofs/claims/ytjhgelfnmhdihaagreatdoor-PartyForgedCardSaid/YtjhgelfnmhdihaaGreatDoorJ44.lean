/-
  The document's parties: a commit; its own nodes and its plan.
-/
import Derived.Test.YtjhgelfnmhdihaaGreatDoorJ43
namespace Go.Proofs.YtjhgelfnmhdihaaGreatDoor
set_option linter.unusedVariables false
set_option linter.unusedSimpArgs false
set_option maxRecDepth 100000
open Go.RowKit
section
open Pm
attribute [local irreducible] aU aZ bR aA au dB cO aF bZ aN aT av ak aR cZ bX aQ bK gB iC aD bA aO jW dJ bW bH aH bT fU gY
theorem Dy{l:List Int}{i:Nat}{v:Int}(h:i<l.length):(l.set i v).getD i 0=v:=by
 rw[List.getD_eq_getElem?_getD,List.getElem?_set_self h];rfl
def ak6(N j:Nat)(f:Nat→St)(body:St→(Exit→St→Prop)→Prop)(k:Exit→St→Prop):Prop:=
 qZ N f j→body (f j) fun e s'=>match e with| .normal=>rR N f j s'|e=>k e s'
abbrev Xf(p:XS)(n:Nat)(ops:List Int)(m:Nat)(vs:List Int)(d:List UInt8)(s:Vw)(own U T:List UInt8)(zJ:Nat→List Int)(sJ:Nat→List UInt8)(hJ:Nat→List Bool)(cJ:Nat→List Int)(j:Nat):St:=⟨[.d (.sref (dM p) 0),.ah,.ah,.ah,.ah,.ah,.ah,.ptr 0 0,.ptr 1 0,.ah,.ah,.ah,.ah,.ptr 2 0,.ptr 3 0,.ah,.ah,.ptr 4 0,.ah,.ptr 5 0,.ptr 6 0,.ptr 7 0,.ptr 8 0,.d (.v (.int .i64 (j:Nat))),.ah,.ah,.ah,.ah,.ah,.ah,.ah,.ah,.ah,.ah,.ah,.ah,.ah,.ah,.ah,.ah,.ah,.ah,.ah,.ah,.ah,.ah,.ah,.ah,.ah,.ah,.ah,.ah,.ah,.ah,.ah,.ah,.ah,.ah,.ah,.ah,.ah,.ah,.ah,.ah,.ah,.ah,.ah,.ah,.ah,.ah,.ah,.ah,.ah,.ah,.ah,.ah,.ah,.ah,.ah,.ah,.ah,.ah,.ah,.ah,.ah,.ah,.ah,.ah,.ah,.ah,.ah,.ah,.ah,.ah,.ah,.ah,.ah,.ah,.ah,.ah,.ah,.ah,.ah,.ah,.ah,.ah,.ah,.ah,.ah,.ah,.ah,.ah,.ah,.ah,.ah,.ah,.ah,.ah,.ah,.ah,.ah,.ah,.ah,.ah,.ah,.ah,.ah,.ah,.ah,.ah,.ah,.ah,.ah,.ah,.ah,.ah,.ah,.ah,.ah,.ah,.ah,.ah,.ah,.ah,.ah,.ah,.ah,.ah,.ah,.ah,.ah,.ah,.ah,.ah,.ah,.ah,.ah,.ah,.ah,.ah,.ah,.ah,.ah,.ah,.ah,.ah,.ah,.ah,.ah,.ah,.ah,.ah,.ah,.ah,.ah,.ah,.ah,.ah,.ah,.ah,.ah,.ah,.ah,.ah,.ah,.ah,.ah,.ah,.ah,.ah,.ah,.ah,.ah,.ah,.ah,.ah,.ah,.ah,.ah,.ah,.ah,.ah,.ah,.ah,.ah,.ah,.ah,.ah,.ah,.ah,.ah,.ah,.ah,.ah,.ah,.ah,.ah,.ah,.ah,.ah,.ah,.ah,.ah,.ah,.ah,.ah,.ah,.ah,.ah,.ah,.ah,.ah,.ah,.ah,.ah,.ah,.ah,.ah,.ah,.ah,.ah,.ah,.ah,.ah,.ah,.ah,.ah,.ah,.ah,.ah,.ah,.ah,.ah,.ah,.ah,.ah,.ah,.ah,.ah,.ah,.ah,.ah,.ah,.ah,.ah,.ah,.ah,.ah,.ah,.ah,.ah,.ah,.ah,.ah,.ah,.ah,.ah,.ah,.ah,.ah,.ah,.ah,.ah,.ah,.ah,.ah,.ah,.ah,.ah,.ah,.ah,.ah,.ah,.ah,.ah,.ah,.ah],[some (.var [.bytes 32 d]),some (.var cSZ),some (.var [.ints .i64 1 [p.e],.ints .i64 31 (zJ j),.bools 8 s.ad,.ints .i64 1 [s.k],.bytes 32 p.ch]),some (.var [.bools 8 s.ng]),some (.var (bq7 p (sJ j) (hJ j))),some (.var [.bytes 96 U]),some (.var [.bytes 32 T]),some (.var [.ints .i64 3 [p.lf / 2*4+1,p.lf / 4*8+3,7]]),some (.var (cS0 p n ops m vs (cJ j)))]⟩
def TH(p:XS)(n:Nat)(ops:List Int)(m:Nat)(vs:List Int)(d:List UInt8)(s:Vw)(own U T:List UInt8)(Z:List Int)(SS:List UInt8)(HH:List Bool):List A:=
 let pl:=aQ Z p.lf s.ng
 let bx:Nat→List UInt8:=fun j=>bK (bA Z (pl.getD j (0,0)).2) (au (gB d (j:Nat))) (dS U (pl.getD j (0,0)).1.toNat)
 let wJ:=cch p n ops m vs own U pl bx
 let tg:=ctg p s wJ T Z
 let q:=cq p s wJ T Z SS HH
 [.agg (jO (cC p n ops m vs own U pl bx tg)),.row (gD s.ng 8) (jV (cW p Z s wJ tg (cB p d Z (lg p.jK T) q)) s.ng 8),.sref (dM q) 0,.v (.int .i64 0)]
set_option maxHeartbeats 16000000 in
theorem az7(p:XS)(n:Nat)(ops:List Int)(m:Nat)(vs:List Int)(d:List UInt8)(f0:0≤p.lf)(f1:p.lf<8)(s:Vw)(own U T:List UInt8)(zJ:Nat→List Int)(sJ:Nat→List UInt8)(hJ:Nat→List Bool)(cJ:Nat→List Int)
  (z1:zJ 1=(zJ 0).set (16+(p.lf / 2*4+1).toNat) (aA 4 (au (av (List.take 32 U)))))(s1:sJ 1=fI (sJ 0) (p.lf / 2*4+1).toNat (List.take 32 U))(cl0:(cJ 0).length=4)(c1:cJ 1=(cJ 0).set 1 (aA 4 (au (av (List.take 32 U)))))(b1:hJ 1=(hJ 0).set (p.lf / 2*4+1).toNat true)(K:Exit→St→Prop):Ws yJ (M4 16 0b1111111111111010) ((Tryz.f24).body.getD .skip) K (ak6 3 0 (Xf p n ops m vs d s own U T zJ sJ hJ cJ)):=by
 intro hl
 have h:0<3:=by decide
 have h1:((0:Nat):Int)<3:=by decide
 refine aj ?_;(try exact⟨⟩)
 refine hl.go h [0,7,8,13,14,17,19,20,21,22,23] [0,1,2,3,4,5,6,7,8] ?_
 unfold Xf
 rw[Dy (show 1<(cJ 0).length by rw[cl0];decide),z1,s1,b1,c1]
 unfold fI
 rfl
set_option maxHeartbeats 16000000 in
theorem az8(p:XS)(n:Nat)(ops:List Int)(m:Nat)(vs:List Int)(d:List UInt8)(f0:0≤p.lf)(f1:p.lf<8)(s:Vw)(own U T:List UInt8)(zJ:Nat→List Int)(sJ:Nat→List UInt8)(hJ:Nat→List Bool)(cJ:Nat→List Int)
  (z2:zJ 2=(zJ 1).set (16+(p.lf / 4*8+3).toNat) (aA 4 (au (av (List.take 32 (List.drop 32 U))))))(s2:sJ 2=fI (sJ 1) (p.lf / 4*8+3).toNat (List.take 32 (List.drop 32 U)))(cl1:(cJ 1).length=4)(c2:cJ 2=(cJ 1).set 2 (aA 4 (au (av (List.take 32 (List.drop 32 U))))))(b2:hJ 2=(hJ 1).set (p.lf / 4*8+3).toNat true)(K:Exit→St→Prop):Ws yJ (M4 16 0b1111111111111010) ((Tryz.f24).body.getD .skip) K (ak6 3 1 (Xf p n ops m vs d s own U T zJ sJ hJ cJ)):=by
 intro hl
 have h:1<3:=by decide
 have h1:((1:Nat):Int)<3:=by decide
 refine aj ?_;(try exact⟨⟩)
 refine hl.go h [0,7,8,13,14,17,19,20,21,22,23] [0,1,2,3,4,5,6,7,8] ?_
 unfold Xf
 rw[Dy (show 2<(cJ 1).length by rw[cl1];decide),z2,s2,b2,c2]
 unfold fI
 rfl
set_option maxHeartbeats 16000000 in
theorem az9(p:XS)(n:Nat)(ops:List Int)(m:Nat)(vs:List Int)(d:List UInt8)(f0:0≤p.lf)(f1:p.lf<8)(s:Vw)(own U T:List UInt8)(zJ:Nat→List Int)(sJ:Nat→List UInt8)(hJ:Nat→List Bool)(cJ:Nat→List Int)
  (z3:zJ 3=(zJ 2).set 23 (aA 4 (au (av (List.take 32 (List.drop 64 U))))))(s3:sJ 3=fI (sJ 2) 7 (List.take 32 (List.drop 64 U)))(cl2:(cJ 2).length=4)(c3:cJ 3=(cJ 2).set 3 (aA 4 (au (av (List.take 32 (List.drop 64 U))))))(b3:hJ 3=(hJ 2).set 7 true)(K:Exit→St→Prop):Ws yJ (M4 16 0b1111111111111010) ((Tryz.f24).body.getD .skip) K (ak6 3 2 (Xf p n ops m vs d s own U T zJ sJ hJ cJ)):=by
 intro hl
 have h:2<3:=by decide
 have h1:((2:Nat):Int)<3:=by decide
 refine aj ?_;(try exact⟨⟩)
 refine hl.go h [0,7,8,13,14,17,19,20,21,22,23] [0,1,2,3,4,5,6,7,8] ?_
 unfold Xf
 rw[Dy (show 3<(cJ 2).length by rw[cl2];decide),z3,s3,b3,c3]
 unfold fI
 rfl
set_option maxHeartbeats 16000000 in
theorem aU0(p:XS)(n:Nat)(ops:List Int)(hn:n≤3000)(m:Nat)(vs:List Int)(hm:m≤3000)(ho:ops.length=n*5)(hv:vs.length=m*3)(d:List UInt8)(hf:aG p.lf=true)(he: -4611686018427387904≤p.e∧p.e≤4611686018427387904)(hx0:1≤p.x)(hx1:p.x<1073741789)(hy:p.y=aA 4 p.x)(s:Vw)(own U T:List UInt8)
  (zJ:Nat→List Int)(sJ:Nat→List UInt8)(hJ:Nat→List Bool)(cJ:Nat→List Int)
  (hc:cJ 3=[aA 4 (au (av own)),aA 4 (au (av (List.take 32 U))),aA 4 (au (av (List.take 32 (List.drop 32 U)))),aA 4 (au (av (List.take 32 (List.drop 64 U))))])(hSS:(sJ 3).length=480)(pI:∀j:Nat,s.ng.getD j false=true→(j:Int)≠p.lf):
  Ws yJ (M4 16 0b1111111111111010) ((Tryz.f24).body.getD .skip) (N8 (.t (TH p n ops m vs d s own U T (zJ 3) (sJ 3) (hJ 3)))) (ak6 3 3 (Xf p n ops m vs d s own U T zJ sJ hJ cJ)):=by
 unfold N8
 obtain⟨f0,f1⟩:=dh hf
 intro hl
 unfold Xf
 rw[hc]
 refine aj ?_;(try exact⟨⟩)
 intro N L hN hL
 obtain⟨pl,hpl⟩:∃pl,pl=aQ (zJ 3) p.lf s.ng:=⟨_,rfl⟩
 rw[←hpl]at hN hL
 subst hN hL
 refine aj ?_;(try exact⟨⟩)
 unfold TH
 rw[←hpl]
 exact aM.mk (UA [0,7,8,13,14,17,19,20,22,24,25] [0,1,2,3,4,5,6,8,9] 8 8 78 1 [.gen 0 []] pl.length _ (bs5 p n ops hn m vs hm ho hv d f0 f1 he hx0 hx1 hy s own U T (zJ 3) (sJ 3) (hJ 3) pl _ (hpl▸oW _ _ _) (fun q hq=>zh (hpl▸hq)) (fun _=>rfl) hSS pI _ _ _ _ rfl rfl rfl rfl))
set_option maxHeartbeats 16000000 in
theorem bs4(p:XS)(n:Nat)(ops:List Int)(hn:n≤3000)(m:Nat)(vs:List Int)(hm:m≤3000)(ho:ops.length=n*5)(hv:vs.length=m*3)(d:List UInt8)(hf:aG p.lf=true)(he: -4611686018427387904≤p.e∧p.e≤4611686018427387904)(hx0:1≤p.x)(hx1:p.x<1073741789)(hy:p.y=aA 4 p.x)(s:Vw)(own U T:List UInt8)
  (zJ:Nat→List Int)(sJ:Nat→List UInt8)(hJ:Nat→List Bool)(cJ:Nat→List Int)
  (z1:zJ 1=(zJ 0).set (16+(p.lf / 2*4+1).toNat) (aA 4 (au (av (List.take 32 U)))))(z2:zJ 2=(zJ 1).set (16+(p.lf / 4*8+3).toNat) (aA 4 (au (av (List.take 32 (List.drop 32 U))))))(z3:zJ 3=(zJ 2).set 23 (aA 4 (au (av (List.take 32 (List.drop 64 U))))))
  (s1:sJ 1=fI (sJ 0) (p.lf / 2*4+1).toNat (List.take 32 U))(s2:sJ 2=fI (sJ 1) (p.lf / 4*8+3).toNat (List.take 32 (List.drop 32 U)))(s3:sJ 3=fI (sJ 2) 7 (List.take 32 (List.drop 64 U)))
  (cl0:(cJ 0).length=4)(c1:cJ 1=(cJ 0).set 1 (aA 4 (au (av (List.take 32 U)))))(b1:hJ 1=(hJ 0).set (p.lf / 2*4+1).toNat true)(cl1:(cJ 1).length=4)(c2:cJ 2=(cJ 1).set 2 (aA 4 (au (av (List.take 32 (List.drop 32 U))))))(b2:hJ 2=(hJ 1).set (p.lf / 4*8+3).toNat true)(cl2:(cJ 2).length=4)(c3:cJ 3=(cJ 2).set 3 (aA 4 (au (av (List.take 32 (List.drop 64 U))))))(b3:hJ 3=(hJ 2).set 7 true)
  (hc:cJ 3=[aA 4 (au (av own)),aA 4 (au (av (List.take 32 U))),aA 4 (au (av (List.take 32 (List.drop 32 U)))),aA 4 (au (av (List.take 32 (List.drop 64 U))))])(hSS:(sJ 3).length=480)(pI:∀j:Nat,s.ng.getD j false=true→(j:Int)≠p.lf):
  Ws yJ (M4 16 0b1111111111111010) ((Tryz.f24).body.getD .skip) (N8 (.t (TH p n ops m vs d s own U T (zJ 3) (sJ 3) (hJ 3)))) (aI4 3 (Xf p n ops m vs d s own U T zJ sJ hJ cJ)):=by
 obtain⟨f0,f1⟩:=dh hf
 intro j hj
 obtain rfl|rfl|rfl|rfl:j=0∨j=1∨j=2∨j=3:=by omega
 ·exact az7 p n ops m vs d f0 f1 s own U T zJ sJ hJ cJ z1 s1 cl0 c1 b1 _
 ·exact az8 p n ops m vs d f0 f1 s own U T zJ sJ hJ cJ z2 s2 cl1 c2 b2 _
 ·exact az9 p n ops m vs d f0 f1 s own U T zJ sJ hJ cJ z3 s3 cl2 c3 b3 _
 ·exact aU0 p n ops hn m vs hm ho hv d hf he hx0 hx1 hy s own U T zJ sJ hJ cJ hc hSS pI
end
section
open Pm
attribute [local irreducible] aU aZ bR aA au dB cO aF bZ aN aT av ak aR cZ bX aQ bK gB iC aD bA aO jW dJ bW bH aH bT fU gY
def xg(p:XS)(s:Vw)(own U:List UInt8):List Int:=
 (((s.zs.set (p.lf.toNat*2+1) (aA 4 (au (av own)))).set (16+(p.lf / 2*4+1).toNat) (aA 4 (au (av (List.take 32 U))))).set (16+(p.lf / 4*8+3).toNat) (aA 4 (au (av (List.take 32 (List.drop 32 U)))))).set 23 (aA 4 (au (av (List.take 32 (List.drop 64 U)))))
def AU(p:XS)(own U:List UInt8):List UInt8:=
 fI (fI (fI (fI gY (2*p.lf).toNat own) (p.lf / 2*4+1).toNat (List.take 32 U)) (p.lf / 4*8+3).toNat (List.take 32 (List.drop 32 U))) 7 (List.take 32 (List.drop 64 U))
def AQ(p:XS):List Bool:=(((Ie.set (2*p.lf).toNat true).set (p.lf / 2*4+1).toNat true).set (p.lf / 4*8+3).toNat true).set 7 true
def SI(p:XS)(n:Nat)(ops:List Int)(m:Nat)(vs:List Int)(d:List UInt8):List A:=
 if bX p.e p.zs p.ad p.k p.ch p.lf ops n vs m=0 then
  if(cZ p.e ⟨p.zs,p.ad,p.k,F8,F8⟩ p.lf ops n).1=0 then
   if p.e≥1099511627776 then[.agg cSZ,.v (.slice none 0 0),.v (.pointer none),.v (.int .i64 12)]
   else TH p n ops m vs d (cZ p.e ⟨p.zs,p.ad,p.k,F8,F8⟩ p.lf ops n).2 (aF d (sb ⟨#[108,101,97,102]⟩) []) (fU (aF d (sb ⟨#[108,101,97,102]⟩) [])) (vo (aF d (sb ⟨#[108,101,97,102]⟩) []))
    (xg p (cZ p.e ⟨p.zs,p.ad,p.k,F8,F8⟩ p.lf ops n).2 (aF d (sb ⟨#[108,101,97,102]⟩) []) (fU (aF d (sb ⟨#[108,101,97,102]⟩) []))) (AU p (aF d (sb ⟨#[108,101,97,102]⟩) []) (fU (aF d (sb ⟨#[108,101,97,102]⟩) []))) (AQ p)
  else[.agg cSZ,.v (.slice none 0 0),.v (.pointer none),.v (.int .i64 (cZ p.e ⟨p.zs,p.ad,p.k,F8,F8⟩ p.lf ops n).1)]
 else[.agg cSZ,.v (.slice none 0 0),.v (.pointer none),.v (.int .i64 (bX p.e p.zs p.ad p.k p.ch p.lf ops n vs m))]
attribute [local irreducible] TH xg AU AQ
set_option maxHeartbeats 16000000 in
theorem QD(p:XS)(n:Nat)(ops:List Int)(hn:n≤3000)(m:Nat)(vs:List Int)(hm:m≤3000)(d:List UInt8)(hf:aG p.lf=true)(he: -4611686018427387904≤p.e∧p.e≤4611686018427387904)(hx0:1≤p.x)(hx1:p.x<1073741789)(hy:p.y=aA 4 p.x)
  (pI:(cZ p.e ⟨p.zs,p.ad,p.k,F8,F8⟩ p.lf ops n).1=0→∀j:Nat,(cZ p.e ⟨p.zs,p.ad,p.k,F8,F8⟩ p.lf ops n).2.ng.getD j false=true→(j:Int)≠p.lf):
  aP 24 [.sref (dM p) 0,.row n [.ints .i64 (n*5) ops],.row m [.ints .i64 (m*3) vs],.agg [.bytes 32 d]] (.t (SI p n ops m vs d)):=by
 refine iq fun hL=>?_
 have ho:ops.length=n*5:=hL.1.1
 have hv:vs.length=m*3:=hL.2.1.1
 clear hL
 obtain⟨R,hR⟩:∃R,R=SI p n ops m vs d:=⟨_,rfl⟩
 rw[←hR]
 unfold SI at hR
 refine dK (E:=yJ) Tryz.func24 Tryz.ntmps24 ?_
 obtain⟨f0,f1⟩:=dh hf
 have e1:IntKind.i64.wrap (2*p.lf)=2*p.lf:=dR (by omega) (by omega)
 have q0:0≤IntKind.i64.wrap (2*p.lf):=by rw[e1];omega
 have q1:IntKind.i64.wrap (2*p.lf)<15:=by rw[e1];omega
 have HO:=Lib.hid ho
 have HV:=Lib.hid hv
 have HG:=Lib.hid pI
 have HR:=Lib.hid hR
 have HE:=Lib.hid e1
 clear e1 hR pI ho hv
 refine aj ?_;(try exact⟨⟩)
 intro er her
 by_cases h1:er=0
 ·subst h1
  refine aj ?_;(try exact⟨⟩)
  intro er2 YS
  by_cases h2:er2=0
  ·have g2:=decide_eq_true h2
   subst h2
   refine aj ?_;(try exact⟨⟩)
   intro s hs
   by_cases h5:p.e≥1099511627776
   ·refine aj ?_;(try exact⟨⟩)
    have hR:=HR.out
    rw[if_pos her.symm,if_pos YS.symm,if_pos h5]at hR
    rw[hR]
    rfl
   ·refine aj ?_;(try exact⟨⟩)
    intro own hown
    refine aj ?_;(try exact⟨⟩)
    intro U T hU hT
    refine aj ?_;(try exact⟨⟩)
    have hR:=HR.out
    rw[if_pos her.symm,if_pos YS.symm,if_neg h5,←hown,←hU,←hT,←hs]at hR
    have pI:=HG.out YS.symm
    rw[←hs]at pI
    obtain⟨zJ,z0,z1,z2,z3⟩:∃zJ:Nat→List Int,zJ 0=s.zs.set (p.lf.toNat*2+1) (aA 4 (au (av own)))∧zJ 1=(zJ 0).set (16+(p.lf / 2*4+1).toNat) (aA 4 (au (av (List.take 32 U))))∧zJ 2=(zJ 1).set (16+(p.lf / 4*8+3).toNat) (aA 4 (au (av (List.take 32 (List.drop 32 U)))))∧zJ 3=(zJ 2).set 23 (aA 4 (au (av (List.take 32 (List.drop 64 U))))):=
     ay1 _ (fun z=>List.set z (16+(p.lf / 2*4+1).toNat) (aA 4 (au (av (List.take 32 U))))) (fun z=>List.set z (16+(p.lf / 4*8+3).toNat) (aA 4 (au (av (List.take 32 (List.drop 32 U)))))) (fun z=>List.set z 23 (aA 4 (au (av (List.take 32 (List.drop 64 U))))))
    obtain⟨sJ,s0,s1,s2,s3⟩:∃sJ:Nat→List UInt8,sJ 0=fI gY (2*p.lf).toNat own∧sJ 1=fI (sJ 0) (p.lf / 2*4+1).toNat (List.take 32 U)∧sJ 2=fI (sJ 1) (p.lf / 4*8+3).toNat (List.take 32 (List.drop 32 U))∧sJ 3=fI (sJ 2) 7 (List.take 32 (List.drop 64 U)):=
     ay1 _ (fun z=>fI z (p.lf / 2*4+1).toNat (List.take 32 U)) (fun z=>fI z (p.lf / 4*8+3).toNat (List.take 32 (List.drop 32 U))) (fun z=>fI z 7 (List.take 32 (List.drop 64 U)))
    obtain⟨hJ,b0,b1,b2,b3⟩:∃hJ:Nat→List Bool,hJ 0=Ie.set (2*p.lf).toNat true∧hJ 1=(hJ 0).set (p.lf / 2*4+1).toNat true∧hJ 2=(hJ 1).set (p.lf / 4*8+3).toNat true∧hJ 3=(hJ 2).set 7 true:=
     ay1 _ (fun z=>List.set z (p.lf / 2*4+1).toNat true) (fun z=>List.set z (p.lf / 4*8+3).toNat true) (fun z=>List.set z 7 true)
    obtain⟨cJ,c0,c1,c2,c3⟩:∃cJ:Nat→List Int,cJ 0=[aA 4 (au (av own)),0,0,0]∧cJ 1=(cJ 0).set 1 (aA 4 (au (av (List.take 32 U))))∧cJ 2=(cJ 1).set 2 (aA 4 (au (av (List.take 32 (List.drop 32 U)))))∧cJ 3=(cJ 2).set 3 (aA 4 (au (av (List.take 32 (List.drop 64 U))))):=
     ay1 _ (fun z=>List.set z 1 (aA 4 (au (av (List.take 32 U))))) (fun z=>List.set z 2 (aA 4 (au (av (List.take 32 (List.drop 32 U)))))) (fun z=>List.set z 3 (aA 4 (au (av (List.take 32 (List.drop 64 U))))))
    have hZ:zJ 3=xg p s own U:=by unfold xg;rw[z3,z2,z1,z0]
    have hS:sJ 3=AU p own U:=by unfold AU;rw[s3,s2,s1,s0]
    have hH:hJ 3=AQ p:=by unfold AQ;rw[b3,b2,b1,b0]
    have hl0:own.length=32:=by rw[hown];exact nV d
    have hlU:U.length=96:=by rw[hU];exact wC _
    have hSS:(sJ 3).length=480:=by
     rw[s3,s2,s1,s0]
     exact dW (dW (dW (dW jA hl0 (by omega)) (by simp;omega) (by omega)) (by simp;omega) (by omega)) (by simp;omega) (by decide)
    rw[←hZ,←hS,←hH]at hR
    rw[hR]
    exact aM.mk (bV [0,7,8,13,14,17,19,20,21,22,23] [0,1,3,4,6,8,9,10,12] 3 (Xf p n ops m vs d s own U T zJ sJ hJ cJ) (bs4 p n ops hn m vs hm HO.out HV.out d hf he hx0 hx1 hy s own U T zJ sJ hJ cJ z1 z2 z3 s1 s2 s3 (by rw[c0];rfl) c1 b1 (by rw[c1,c0];rfl) c2 b2 (by rw[c2,c1,c0];rfl) c3 b3 (by rw[c3,c2,c1,c0];simp only[List.set_cons_zero,List.set_cons_succ]) hSS pI) (h2:=by unfold Xf;rw[z0,s0,b0,c0];unfold fI;exact rfl))
  ·have g2:=decide_eq_false h2
   refine aj ?_;(try exact⟨⟩)
   have hR:=HR.out
   rw[if_pos her.symm,if_neg (fun e=>h2 (YS.trans e))]at hR
   rw[hR,←YS]
   rfl
 ·refine aj ?_;(try exact⟨⟩)
  have hR:=HR.out
  rw[if_neg (fun e=>h1 (her.trans e))]at hR
  rw[hR,←her]
  rfl
end
end Go.Proofs.YtjhgelfnmhdihaaGreatDoor
