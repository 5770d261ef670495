/-
  The document's parties: what they hold is told by what the program's hold. Mathematics; no function is named here.
-/
import Derived.Test.YtjhgelfnmhdihaaGreatDoorJ39
namespace Go.Proofs.YtjhgelfnmhdihaaGreatDoor
set_option linter.unusedVariables false
set_option linter.unusedSimpArgs false
set_option maxRecDepth 100000
set_option linter.unusedSectionVars false
open Go.RowKit
section
open Pm
def fI(s:List UInt8)(i:Nat)(h:List UInt8):List UInt8:=s.take (i*32)++(h++s.drop (i*32+32))
def blk(s:List UInt8)(i:Nat):List UInt8:=(s.drop (i*32)).take 32
theorem jA:gY.length=480:=by unfold gY;simp
theorem vB{j:Nat}(hj:j<15):blk gY j=zB 32:=by
 unfold blk gY
 rw[List.drop_replicate,List.take_replicate,show min 32 (480-j*32)=32 by omega]
theorem dW{s h:List UInt8}{i:Nat}(hs:s.length=480)(hh:h.length=32)(hi:i<15):(fI s i h).length=480:=by
 unfold fI;simp;omega
theorem iQ{s h:List UInt8}{i j:Nat}(hs:s.length=480)(hh:h.length=32)(hi:i<15)(hj:j<15):blk (fI s i h) j=if j=i then h else blk s j:=by
 unfold blk fI
 have h1:(s.take (i*32)).length=i*32:=by simp;omega
 by_cases e:j=i
 ·subst e
  rw[if_pos rfl,List.drop_append_of_le_length (by omega),List.drop_eq_nil_of_le (by omega),List.nil_append,List.take_append_of_le_length (by omega),List.take_of_length_le (by omega)]
 ·rw[if_neg e]
  rcases Nat.lt_or_ge j i with h2|h2
  ·rw[List.drop_append_of_le_length (by omega),List.take_append_of_le_length (by simp;omega),List.drop_take,List.take_take,show min 32 (i*32-j*32)=32 by omega]
  ·rw[List.drop_append,List.drop_eq_nil_of_le (by omega),List.nil_append,h1,List.drop_append,List.drop_eq_nil_of_le (by omega),List.nil_append,List.drop_drop,hh]
   congr 2
   omega
theorem yx{s t:List UInt8}(hs:s.length=480)(ht:t.length=480)(h:∀j,j<15→blk s j=blk t j):s=t:=by
 apply List.ext_getElem (by omega)
 intro n h1 h2
 have k:=h (n / 32) (by omega)
 unfold blk at k
 have k2:=congrArg (fun l=>l[n%32]?) k
 simp only[List.getElem?_take,List.getElem?_drop,if_pos (Nat.mod_lt n (show 32>0 by decide))]at k2
 rw[show n / 32*32+n%32=n by omega,List.getElem?_eq_getElem h1,List.getElem?_eq_getElem h2]at k2
 exact Option.some.inj k2
theorem Ay{s h:List UInt8}{i:Nat}(hs:s.length=480)(hh:h.length=32)(hi:i<15)(e:blk s i=h):fI s i h=s:=by
 refine yx (dW hs hh hi) hs fun j hj=>?_
 rw[iQ hs hh hi hj]
 split
 ·next e2=>rw[e2,e]
 ·rfl
def sP(p:PS):List UInt8:=fI (fI (fI (fI gY (2*p.lf).toNat p.sc) (n1 p.lf) (dS p.ab 0)) (n2 p.lf) (dS p.ab 1)) 7 (dS p.ab 2)
abbrev Ie:List Bool:=List.replicate 15 false
def kZ(lf:Int)(a b c:Bool):List Bool:=(((Ie.set (2*lf).toNat true).set (n1 lf) a).set (n2 lf) b).set 7 c
def om(p:PS):List Bool:=kZ p.lf (aL p.zs (16+n1 p.lf)) (aL p.zs (16+n2 p.lf)) (aL p.zs 23)
structure XS where
 e:Int
 zs:List Int
 ad:List Bool
 k:Int
 ch:List UInt8
 lf:Int
 x:Int
 y:Int
 s:List UInt8
 has:List Bool
 ep:List UInt8
 jK:List UInt8
def dQ(p:PS):XS:=⟨p.e,p.zs,p.ad,p.k,p.ch,p.lf,au p.sg,aA 4 (au p.sg),sP p,om p,p.ep,p.jK⟩
theorem tT{lf:Int}(h0:0≤lf)(h1:lf<8):(2*lf).toNat<15∧n1 lf<15∧n2 lf<15∧(2*lf).toNat≠n1 lf∧(2*lf).toNat≠n2 lf∧(2*lf).toNat≠7∧n1 lf≠n2 lf∧n1 lf≠7∧n2 lf≠7:=by
 unfold n1 n2;omega
theorem P9{p:PS}(h:Kc p):(sP p).length=480:=by
 obtain⟨k1,k2,k3,_⟩:=tT h.lf0 h.lf1
 unfold sP
 exact dW (dW (dW (dW jA h.sl k1) (fq h.bl (by decide)) k2) (fq h.bl (by decide)) k3) (fq h.bl (by decide)) (by decide)
theorem EM{p:PS}(h:Kc p){j:Nat}(hj:j<15):blk (sP p) j=if j=7 then dS p.ab 2 else if j=n2 p.lf then dS p.ab 1 else if j=n1 p.lf then dS p.ab 0 else if j=(2*p.lf).toNat then p.sc else zB 32:=by
 obtain⟨k1,k2,k3,_⟩:=tT h.lf0 h.lf1
 have l0:=dW jA h.sl k1
 have l1:=dW l0 (fq h.bl (show 0<3 by decide)) k2
 have l2:=dW l1 (fq h.bl (show 1<3 by decide)) k3
 unfold sP
 rw[iQ l2 (fq h.bl (by decide)) (by decide) hj,iQ l1 (fq h.bl (by decide)) k3 hj,iQ l0 (fq h.bl (by decide)) k2 hj,iQ jA h.sl k1 hj,vB hj]
theorem jJ(l:List Bool)(i j:Nat)(x:Bool):(l.set i x).getD j false=if i=j∧i<l.length then x else l.getD j false:=aK l i x false j
theorem mq{lf:Int}(h0:0≤lf)(h1:lf<8)(a b c:Bool){j:Nat}(hj:j<15):(kZ lf a b c).getD j false=if j=7 then c else if j=n2 lf then b else if j=n1 lf then a else decide (j=(2*lf).toNat):=by
 obtain⟨k1,k2,k3,_⟩:=tT h0 h1
 have l0:Ie.length=15:=by simp
 have l1:(Ie.set (2*lf).toNat true).length=15:=by simp
 have l2:((Ie.set (2*lf).toNat true).set (n1 lf) a).length=15:=by simp
 have l3:(((Ie.set (2*lf).toNat true).set (n1 lf) a).set (n2 lf) b).length=15:=by simp
 have hz:Ie.getD j false=false:=by rw[List.getD_eq_getElem?_getD,List.getElem?_replicate,if_pos hj];rfl
 unfold kZ
 rw[jJ,jJ,jJ,jJ,l0,l1,l2,l3,hz]
 by_cases e1:j=7
 ·rw[if_pos e1,if_pos ⟨e1.symm,by decide⟩]
 ·rw[if_neg e1,if_neg (fun e=>e1 e.1.symm)]
  by_cases e2:j=n2 lf
  ·rw[if_pos e2,if_pos ⟨e2.symm,k3⟩]
  ·rw[if_neg e2,if_neg (fun e=>e2 e.1.symm)]
   by_cases e3:j=n1 lf
   ·rw[if_pos e3,if_pos ⟨e3.symm,k2⟩]
   ·rw[if_neg e3,if_neg (fun e=>e3 e.1.symm)]
    by_cases e4:j=(2*lf).toNat
    ·rw[if_pos ⟨e4.symm,k1⟩];simp[e4]
    ·rw[if_neg (fun e=>e4 e.1.symm)];simp[e4]
theorem nT(lf:Int)(a b c:Bool):(kZ lf a b c).length=15:=by simp[kZ]
end
section
open Pm
attribute [local irreducible] aU aZ bR aA au dB cO bD aF bZ aN aT av ak aR cZ bX aQ bK gB bA iC aD aO jW dJ bW bH aH bT fU gY
abbrev dM(p:XS):List Seg:=[.ints .i64 1 [p.e],.ints .i64 31 p.zs,.bools 8 p.ad,.ints .i64 1 [p.k],.bytes 32 p.ch,.ints .i64 1 [p.lf],.ints .i64 2 [p.x,p.y],.bytes 480 p.s,.bools 15 p.has,.bytes 32 p.ep,.bytes 32 p.jK]
def Iy(p:XS)(e:Int)(zs:List Int)(ad:List Bool)(k:Int)(ch:List UInt8)(j:List UInt8):XS:=
 { p with e:=e,zs:=zs,ad:=ad,k:=k,ch:=ch,ep:=mX j (aR e zs ad k ch),jK:=zY (mX j (aR e zs ad k ch)) }
def xK:A→(XS→Prop)→Prop
 | .sref [.ints .i64 1 [e],.ints .i64 31 zs,.bools 8 ad,.ints .i64 1 [k],.bytes 32 ch,.ints .i64 1 [lf],.ints .i64 2 [x,y],.bytes 480 s,.bools 15 has,.bytes 32 ep,.bytes 32 jK] 0,K=>K ⟨e,zs,ad,k,ch,lf,x,y,s,has,ep,jK⟩
 |_,_=>False
theorem M7{x:A}{K:XS→Prop}(h:xK x K):∃p,x=.sref (dM p) 0∧K p:=by
 unfold xK at h
 split at h
 ·exact⟨_,rfl,h⟩
 ·exact h.elim
def xM:Bk→(XS→Prop)→Prop
 | .var [.ints .i64 1 [e],.ints .i64 31 zs,.bools 8 ad,.ints .i64 1 [k],.bytes 32 ch,.ints .i64 1 [lf],.ints .i64 2 [x,y],.bytes 480 s,.bools 15 has,.bytes 32 ep,.bytes 32 jK],K=>K ⟨e,zs,ad,k,ch,lf,x,y,s,has,ep,jK⟩
 |_,_=>False
theorem aH6{x:Bk}{K:XS→Prop}(h:xM x K):∃p,x=.var (dM p)∧K p:=by
 unfold xM at h
 split at h
 ·exact⟨_,rfl,h⟩
 ·exact h.elim
theorem Fe(h:List UInt8)(l:ByteArray)(hl:l.size≤1000000):aP 62 [.agg [.bytes 32 h],.v (.string l)] (.d (.agg [.bytes 32 (aF h (sb l) [])])):=by
 refine dK (E:=Rh) Tryz.func62 Tryz.ntmps62 ?_
 refine aj ?_;(try exact⟨⟩)
def ai5:List A→(bP→Prop)→Prop
 |[.agg [.bytes 32 h],.v (.string l)],K=>l.size≤1000000∧K (.d (.agg [.bytes 32 (aF h (sb l) [])]))
 |_,_=>False
theorem ai6:∀args K,ai5 args K→∃r,aP 62 args r∧K r:=by
 intro args K h
 unfold ai5 at h
 split at h
 ·exact⟨_,Fe _ _ h.1,h.2⟩
 ·exact h.elim
noncomputable def aD9:ay:=Rh.add 62 ai5 ai6 ⟨_,Tryz.func62,by kernel_rfl,by kernel_rfl⟩
theorem QT(h:List UInt8):aP 82 [.agg [.bytes 32 h]] (.d (.agg [.ints .i64 2 [au (jm h),aA 4 (au (jm h))]])):=by
 refine dK (E:=aD9) Tryz.func82 Tryz.ntmps82 ?_
 refine aj ?_;(try exact⟨⟩)
 try rfl
def QS:List A→(bP→Prop)→Prop
 |[.agg [.bytes 32 h]],K=>∀x y,x=au (jm h)→y=aA 4 (au (jm h))→K (.d (.agg [.ints .i64 2 [x,y]]))
 |_,_=>False
theorem Wp:∀args K,QS args K→∃r,aP 82 args r∧K r:=by
 intro args K h
 unfold QS at h
 split at h
 ·exact⟨_,QT _,h _ _ rfl rfl⟩
 ·exact h.elim
noncomputable def aE0:ay:=aD9.add 82 QS Wp ⟨_,Tryz.func82,by kernel_rfl,by kernel_rfl⟩
theorem Nb(h:List UInt8):aP 31 [.agg [.bytes 32 h]] (.d (.agg [.ints .i64 2 (eT h)])):=by
 refine dK (E:=aE0) Tryz.func31 Tryz.ntmps31 ?_
 refine aj ?_;(try exact⟨⟩)
 intro x y hx hy
 refine aj ?_;(try exact⟨⟩)
 rw[hy]
 try rfl
def QJ:List A→(bP→Prop)→Prop
 |[.agg [.bytes 32 h]],K=>∀L,L=eT h→K (.d (.agg [.ints .i64 2 L]))
 |_,_=>False
theorem V7:∀args K,QJ args K→∃r,aP 31 args r∧K r:=by
 intro args K h
 unfold QJ at h
 split at h
 ·exact⟨_,Nb _,h _ rfl⟩
 ·exact h.elim
noncomputable def Rm:ay:=aE0.add 31 QJ V7 ⟨_,Tryz.func31,by kernel_rfl,by kernel_rfl⟩
theorem XH{sc:List UInt8}(hs:sc.length=32):fI (fI (fI (fI gY 0 sc) 1 (zB 32)) 3 (zB 32)) 7 (zB 32)=fI gY 0 sc:=by
 have l0:=dW jA hs (show 0<15 by decide)
 have b1:∀j,j<15→j≠0→blk (fI gY 0 sc) j=zB 32:=fun j hj hn=>by rw[iQ jA hs (by decide) hj,if_neg hn,vB hj]
 rw[Ay l0 (by simp) (by decide) (b1 1 (by decide) (by decide)),Ay l0 (by simp) (by decide) (b1 3 (by decide) (by decide)),Ay l0 (by simp) (by decide) (b1 7 (by decide) (by decide))]
theorem CP{k:Nat}(hk:k<3):dS (zB 96) k=zB 32:=by
 unfold dS
 rw[List.drop_replicate,List.take_replicate,show min 32 (96-k*32)=32 by omega]
theorem TQ{p:PS}{a b:Int}(hz:p.zs=[a,b]++List.replicate 29 0)(hl:p.lf=0)(hb:p.ab=zB 96)(hs:p.sc.length=32):sP p=fI gY 0 p.sc∧om p=Ie.set 0 true:=by
 constructor
 ·unfold sP
  rw[hl,hb,CP (by decide),CP (by decide),CP (by decide)]
  exact XH hs
 ·unfold om
  rw[hl,hz]
  rfl
theorem N7(h:List UInt8):dQ (aY h)=⟨0,eT h++List.replicate 29 0,[true,false,false,false,false,false,false,false],1,zB 32,0,au (jm h),aA 4 (au (jm h)),fI gY 0 (aC h),Ie.set 0 true,Oy (aC h),zY (Oy (aC h))⟩:=by
 obtain⟨h1,h2⟩:=TQ (p:=aY h) (a:=aA 4 (au (jm h))) (b:=aI (aC h)) rfl rfl rfl (nV h)
 unfold dQ
 rw[h1,h2]
 rfl
set_option maxHeartbeats 1000000 in
theorem QE(h:List UInt8):aP 39 [.agg [.bytes 32 h]] (.p (.var (dM (dQ (aY h))))):=by
 refine dK (E:=Rm) Tryz.func39 Tryz.ntmps39 ?_
 refine aj ?_;(try exact⟨⟩)
 intro x y hx hy
 refine aj ?_;(try exact⟨⟩)
 intro L hL
 refine aj ?_;(try exact⟨⟩)
 have e:∀z:List UInt8,List.take 32 (aF h (sb ⟨#[108,101,97,102]⟩) []++z)=aF h (sb ⟨#[108,101,97,102]⟩) []:=fun z=>List.take_left' (nV h)
 simp only[e]
 rw[hx,hy,hL,N7]
 unfold fI
 rfl
theorem QF(p:XS)(l:ByteArray)(hl:l.size≤1000000):aP 35 [.sref (dM p) 0,.v (.string l)] (.d (.agg [.bytes 32 (Oh p.ep (sb l))])):=by
 refine dK (E:=Rm) Tryz.func35 Tryz.ntmps35 ?_
 refine aj ?_;(try exact⟨⟩)
 try rfl
set_option maxHeartbeats 1000000 in
theorem VW(p:XS)(e:Int)(zs:List Int)(ad:List Bool)(k:Int)(ch j:List UInt8):gq 72 0 (.var (dM p)) [.agg (bS e zs ad k ch),.agg [.bytes 32 j]]
  (.d (.agg [.bytes 32 (eB (mX j (aR e zs ad k ch)))])) (.var (dM (Iy p e zs ad k ch j))):=by
 refine mY (E:=Rm) Tryz.func72 Tryz.ntmps72 ?_
 have hv:(aR e zs ad k ch).length=32:=EZ _ _ _ _ _
 refine aj ?_;(try exact⟨⟩)
 try rfl
end
section
open Pm
attribute [local irreducible] aU aZ bR aA au dB cO bD aF bZ aN aT av ak aR cZ bX bK gB iC aD aO jW dJ bW bH aH bT fU gY
noncomputable def bl0:ay:=Rm.add 143 (PW 3) (zu fun zs n _=>Sr zs n) ⟨_,Tryz.func143,by kernel_rfl,by kernel_rfl⟩
theorem aj4(x:Int):aP 142 [.v (.int .i64 x)] (.d (.agg [.ints .i64 3 (dI x)])):=by
 refine dK (E:=XQ) Tryz.func142 Tryz.ntmps142 ?_
 cases h:aG x with
 |false=>
  refine ago ?_;(try exact⟨⟩)
  simp[dI,h]
 |true=>
  have h':=dh h
  refine ago ?_;(try exact⟨⟩)
  simp[dI,h]
  have:x=0∨x=1∨x=2∨x=3∨x=4∨x=5∨x=6∨x=7:=by omega
  rcases this with rfl|rfl|rfl|rfl|rfl|rfl|rfl|rfl<;>decide
theorem QO:∀args K,Az args K→∃r,aP 142 args r∧K r:=by
 intro args K h
 unfold Az at h
 split at h
 ·exact⟨_,aj4 _,h⟩
 ·exact h.elim
noncomputable def aE1:ay:=bl0.add 142 Az QO ⟨_,Tryz.func142,by kernel_rfl,by kernel_rfl⟩
theorem br1{m:Int}(h0:0≤m)(h1:m<15):(bits BinOp.and IntKind.i64 m 1==1)=!decide (m.tmod 2=0)∧0≤m.tdiv 2∧m.tdiv 2<8:=by
 rcases yL ⟨h0,h1⟩with rfl|rfl|rfl|rfl|rfl|rfl|rfl|rfl|rfl|rfl|rfl|rfl|rfl|rfl|rfl<;>exact⟨by decide,by decide,by decide⟩
set_option maxHeartbeats 16000000 in
theorem Nc(zs:List Int)(x:Int)(bt:List Bool)(hx:aG x=true):aP 66 [.agg [.ints .i64 31 zs],.v (.int .i64 x),.agg [.bools 8 bt]] (.o 134 2 (aQ zs x bt).length [.ints .i64 ((aQ zs x bt).length*2) (bI (aQ zs x bt))]):=by
 have e:aQ zs x bt=bB zs bt x 3:=if_pos hx
 rw[e]
 clear e
 obtain⟨hx0,hx1⟩:=dh hx
 refine dK (E:=aE1) Tryz.func66 Tryz.ntmps66 ?_
 clear hx
 refine aX ?_;(try exact⟨⟩)
 refine aM.mk (D6 [1,3,5,7,8,9] 3 7 134 2 [.ints .i64 0 []] (fun s=>∃k:Nat,k≤3∧s=⟨[.ah,.d (.v (.int .i64 x)),.ah,.ptr 0 0,.ah,.ptr 1 0,.ah,.own 3 (bB zs bt x k).length,.ptr 2 0,.d (.v (.int .i64 (k:Nat))),.ah,.ah,.ah,.ah,.ah,.ah,.ah,.ah,.ah,.ah,.ah,.ah,.ah,.ah,.ah,.ah,.ah,.ah,.ah,.ah,.ah,.ah,.ah,.ah,.ah,.ah,.ah,.ah,.ah,.ah,.ah,.ah,.ah,.ah,.ah,.ah,.ah,.ah,.ah,.ah,.ah,.ah,.ah,.ah,.ah,.ah,.ah,.ah,.ah,.ah,.ah,.ah,.ah],[some (.var [.ints .i64 31 zs]),some (.var [.bools 8 bt]),some (.var [.ints .i64 3 (dI x)]),some (.sl 134 2 (bB zs bt x k).length [.ints .i64 ((bB zs bt x k).length*2) (bI (bB zs bt x k))])]⟩) (fun s=>3-lX s 9) rfl rfl rfl rfl ⟨0,by omega,rfl⟩ ?_)
 rintro s ⟨k,hk,rfl⟩
 have hw:IntKind.i64.wrap ((k:Int)+1)=((k+1:Nat):Int):=by rw[dR (by omega) (by omega)];omega
 by_cases hk3:k<3
 ·have O:okD 3 ((dI x).getD k 0)=true:=by simp[okD]
  have L:=Nat.le_trans (mH zs 3 ((dI x).getD k 0)) (show 2^3≤8 by decide)
  have P:=sU zs bt x k
  refine aX ?_;(try exact⟨⟩)
  have AZ:∀m∈dN 3 zs ((dI x).getD k 0),0≤m∧m<15:=fun m=>oZ zs 3 _ m
  generalize hr:dN 3 zs ((dI x).getD k 0)=r at*
  refine aM.mk (gG [1,3,5,7,8,9,10,11] 5 (fun s=>∃j:Nat,j≤r.length∧s=⟨[.ah,.d (.v (.int .i64 x)),.ah,.ptr 0 0,.ah,.ptr 1 0,.ah,.own 3 (bB zs bt x k++d9 bt k (r.take j)).length,.ptr 2 0,.d (.v (.int .i64 (k:Nat))),.own 4 r.length,.d (.v (.int .i64 (j:Nat))),.ah,.ah,.ah,.ah,.ah,.ah,.ah,.ah,.ah,.ah,.ah,.ah,.ah,.ah,.ah,.ah,.ah,.ah,.ah,.ah,.ah,.ah,.ah,.ah,.ah,.ah,.ah,.ah,.ah,.ah,.ah,.ah,.ah,.ah,.ah,.ah,.ah,.ah,.ah,.ah,.ah,.ah,.ah,.ah,.ah,.ah,.ah,.ah,.ah,.ah,.ah],[some (.var [.ints .i64 31 zs]),some (.var [.bools 8 bt]),some (.var [.ints .i64 3 (dI x)]),some (.sl 134 2 (bB zs bt x k++d9 bt k (r.take j)).length [.ints .i64 ((bB zs bt x k++d9 bt k (r.take j)).length*2) (bI (bB zs bt x k++d9 bt k (r.take j)))]),some (.sl 3 1 r.length [.ints .i64 r.length r])]⟩) (fun s=>r.length-lX s 11) rfl ⟨0,by omega,by rw[List.take_zero,show d9 bt k []=[]from rfl,List.append_nil];rfl⟩ ?_)
  rintro s ⟨j,hj,rfl⟩
  have YX:IntKind.i64.wrap ((j:Int)+1)=((j+1:Nat):Int):=by rw[dR (by omega) (by omega)];omega
  by_cases hj2:j<r.length
  ·have hs:=Bl bt k r j hj2
   obtain⟨n0,n1⟩:=AZ (r.getD j 0) (by rw[List.getD_eq_getElem?_getD,List.getElem?_eq_getElem hj2];simp)
   have hl:(bB zs bt x k++d9 bt k (r.take j)).length≤100:=by
    have:=xO bt k (r.take j)
    rw[List.length_append];rw[List.length_take]at this;omega
   obtain⟨p0,p1,p2⟩:=br1 n0 n1
   clear AZ P
   cases hd:decide ((r.getD j 0).tmod 2=0)with
   |false=>
    have hu:mJ bt (r.getD j 0)=false:=by unfold mJ;rw[hd];rfl
    rw[hd]at p0
    rw[hu,if_neg (by simp)]at hs
    rw[←List.append_cancel_left_eq (bB zs bt x k),←List.append_assoc]at hs
    generalize bB zs bt x k++d9 bt k (r.take j)=q at*
    clear hu hd
    have p0:(bits BinOp.and IntKind.i64 (r.getD j 0) 1==1)=true:=p0
    refine aX ?_;(try exact⟨⟩)
    refine⟨⟨j+1,by omega,by rw[hs,oH,List.length_append,Nat.add_mul,←YX];rfl⟩,?_⟩
    show r.length- (IntKind.i64.wrap ((j:Int)+1)).toNat<r.length- (j:Int).toNat
    rw[YX];omega
   |true=>
    rw[hd]at p0
    have p0:(bits BinOp.and IntKind.i64 (r.getD j 0) 1==1)=false:=p0
    have hwq:IntKind.i64.wrap ((r.getD j 0).tdiv 2)=(r.getD j 0).tdiv 2:=dR (by omega) (by omega)
    have q0:0≤IntKind.i64.wrap ((r.getD j 0).tdiv 2):=by rw[hwq];exact p1
    have q1:IntKind.i64.wrap ((r.getD j 0).tdiv 2)<8:=by rw[hwq];exact p2
    clear p1 p2
    cases hb:bt.getD (IntKind.i64.wrap ((r.getD j 0).tdiv 2)).toNat false with
    |true=>
     have hu:mJ bt (r.getD j 0)=true:=by unfold mJ;rw[hd,←hwq,hb];rfl
     rw[hu,if_pos rfl,List.append_nil]at hs
     clear hu hd hwq
     refine aX ?_;(try exact⟨⟩)
     refine⟨⟨j+1,by omega,by rw[hs,←YX];rfl⟩,?_⟩
     show r.length- (IntKind.i64.wrap ((j:Int)+1)).toNat<r.length- (j:Int).toNat
     rw[YX];omega
    |false=>
     have hu:mJ bt (r.getD j 0)=false:=by unfold mJ;rw[hd,←hwq,hb];rfl
     rw[hu,if_neg (by simp)]at hs
     rw[←List.append_cancel_left_eq (bB zs bt x k),←List.append_assoc]at hs
     generalize bB zs bt x k++d9 bt k (r.take j)=q at*
     clear hu hd hwq
     refine aX ?_;(try exact⟨⟩)
     refine⟨⟨j+1,by omega,by rw[hs,oH,List.length_append,Nat.add_mul,←YX];rfl⟩,?_⟩
     show r.length- (IntKind.i64.wrap ((j:Int)+1)).toNat<r.length- (j:Int).toNat
     rw[YX];omega
  ·have hj3:r.take j=r:=List.take_of_length_le (by omega)
   rw[hj3]
   have hs:bB zs bt x (k+1)=bB zs bt x k++d9 bt k r:=by rw[bB,hr]
   rw[←hs]
   clear AZ P
   refine aX ?_;(try exact⟨⟩)
   refine⟨⟨k+1,by omega,by rw[←hw];rfl⟩,?_⟩
   show 3- (IntKind.i64.wrap ((k:Int)+1)).toNat<3- (k:Int).toNat
   rw[hw];omega
 ·obtain rfl:k=3:=by omega
  refine aX ?_;(try exact⟨⟩)
end
section
open Pm
attribute [local irreducible] aU aZ bR aA au dB cO bD aF bZ aN aT av ak aR cZ bX bK gB iC aO jW dJ bW bH aH bT fU gY
set_option maxHeartbeats 4000000 in
theorem Fb(a b:Int):aP 75 [.v (.int .i64 a),.v (.int .i64 b)] (.d (.v (.int .i64 (aD a b)))):=by
 refine dK (E:=KJ) Tryz.func75 Tryz.ntmps75 ?_
 cases h:aG a with
 |false=>
  refine ago ?_;(try exact⟨⟩)
  simp[aD,h]
 |true=>
  have h':=dh h
  have e1:IntKind.i64.wrap (2*a)=2*a:=dR (by omega) (by omega)
  cases g:aG b with
  |false=>
   refine ago ?_;(try exact⟨⟩)
   simp[aD,g]
  |true=>
   have g':=dh g
   by_cases c:a=b
   ·subst c
    refine ago ?_;(try exact⟨⟩)
    simp[aD,h,e1]
   ·by_cases c1:a / 2=b / 2
    ·have u1:aJ (a / 2*4+1) b=true:=by simp[aJ,g,c1]
     have u1':aJ (b / 2*4+1) b=true:=by simp[aJ,g]
     refine ago ?_;(try exact⟨⟩)
     refine aM.mk (aB 4 ?_)
     refine ago ?_;(try exact⟨⟩)
     simp[aD,h,g,c,c1]
    ·have u1:aJ (a / 2*4+1) b=false:=by simp[aJ,g]<;>omega
     by_cases c2:a / 4=b / 4
     ·have u2:aJ (a / 4*8+3) b=true:=by simp[aJ,g,c2]
      have u2':aJ (b / 4*8+3) b=true:=by simp[aJ,g]
      refine ago ?_;(try exact⟨⟩)
      refine aM.mk (aB 4 ?_)
      refine ago ?_;(try exact⟨⟩)
      simp[aD,h,g,c,c1,c2]
     ·have u2:aJ (a / 4*8+3) b=false:=by simp[aJ,g]<;>omega
      have u3:aJ 7 b=true:=by simp[aJ,g]
      refine ago ?_;(try exact⟨⟩)
      refine aM.mk (aB 4 ?_)
      refine ago ?_;(try exact⟨⟩)
      simp[aD,h,g,c,c1,c2]
noncomputable def bl1:ay:=aE1.add 75 vG (rV Fb) ⟨_,Tryz.func75,by kernel_rfl,by kernel_rfl⟩
def J9:List A→(bP→Prop)→Prop
 |[.agg [.ints .i64 31 zs],.v (.int .i64 x),.agg [.bools 8 bt]],K=>aG x=true∧∀N L,N=(aQ zs x bt).length→L=bI (aQ zs x bt)→K (.o 134 2 N [.ints .i64 (N*2) L])
 |_,_=>False
theorem Ic:∀args K,J9 args K→∃r,aP 66 args r∧K r:=by
 intro args K h
 unfold J9 at h
 split at h
 ·exact⟨_,Nc _ _ _ h.1,h.2 _ _ rfl rfl⟩
 ·exact h.elim
noncomputable def bl2:ay:=bl1.add 66 J9 Ic ⟨_,Tryz.func66,by kernel_rfl,by kernel_rfl⟩
noncomputable def aE2:ay:=bl2.add 68 DY (uM JB) ⟨_,Tryz.func68,by kernel_rfl,by kernel_rfl⟩
set_option maxHeartbeats 2000000 in
theorem aj2(p:XS)(e:Int)(zs:List Int)(ad:List Bool)(k:Int)(ch:List UInt8)(c:CS)(hc:qL c)(ht:c.tag.length=32)(u:List UInt8)(he: -4611686018427387904≤p.e∧p.e≤4611686018427387904):
  aP 71 [.sref (dM p) 0,.agg (bS e zs ad k ch),.agg (gZ c),.agg [.bytes 32 u]] (.t [.agg (bS (p.e+1) zs ad k (uh p.ch (aT c))),.agg [.bytes 32 (lg p.jK u)]]):=by
 refine iq fun hL=>?_
 have hu:u.length≤100000000:=by have:u.length=32:=hL.2.2.1.1;omega
 clear hL
 refine dK (E:=aE2) Tryz.func71 Tryz.ntmps71 ?_
 obtain⟨h1,h2,h3,h4,h5,h6⟩:=id hc
 obtain⟨he0,he1⟩:=he
 have hb0:=yA hc
 have hb:(aT c).length≤100000000:=by rw[iX hc];omega
 clear hb0
 refine aj ?_;(try exact⟨⟩)
 refine Or.inr ?_
 refine aj ?_;(try exact⟨⟩)
 rfl
def J7:List A→(bP→Prop)→Prop
 |[x,.agg [.ints .i64 1 [e],.ints .i64 31 zs,.bools 8 ad,.ints .i64 1 [k],.bytes 32 ch],y,.agg [.bytes 32 u]],K=>
  xK x fun p=>pz y fun c=> -4611686018427387904≤p.e∧p.e≤4611686018427387904∧K (.t [.agg (bS (p.e+1) zs ad k (uh p.ch (aT c))),.agg [.bytes 32 (lg p.jK u)]])
 |_,_=>False
theorem Ib:∀args K,J7 args K→∃r,aP 71 args r∧K r:=by
 intro args K h
 unfold J7 at h
 split at h
 ·obtain⟨p,rfl,h⟩:=M7 h
  obtain⟨c,⟨h1,h2,h⟩,hc⟩:=gI h
  refine⟨_,fun S w vs' hG ha=>?_,h⟩
  obtain⟨v1,v2,v3,v4,rfl,k1,k2,k3,k4⟩:=mG ha
  obtain⟨q1,q2,q3⟩:=hc k3
  exact aj2 p _ _ _ _ _ c q2 q3 _ ⟨h1,h2⟩ S w _ hG (.cons k1 (.cons k2 (.cons q1 (.cons k4 .nil))))
 ·exact h.elim
noncomputable def bl3:ay:=aE2.add 71 J7 Ib ⟨_,Tryz.func71,by kernel_rfl,by kernel_rfl⟩
def SL:Nat→Bk→List A→(bP→Bk→Prop)→Prop
 |0,b,[.agg [.ints .i64 1 [e],.ints .i64 31 zs,.bools 8 ad,.ints .i64 1 [k],.bytes 32 ch],.agg [.bytes 32 j]],K=>xM b fun p=>K (.d (.agg [.bytes 32 (eB (mX j (aR e zs ad k ch)))])) (.var (dM (Iy p e zs ad k ch j)))
 |_,_,_,_=>False
theorem Na:∀pos x args K,SL pos x args K→∃r x',gq 72 pos x args r x'∧K r x':=by
 intro pos x args K h
 unfold SL at h
 split at h
 ·obtain⟨p,rfl,h⟩:=aH6 h
  exact⟨_,_,VW p _ _ _ _ _ _,h⟩
 ·exact h.elim
noncomputable def Rn:ay:=bl3.kG 72 SL Na ⟨_,Tryz.func72,by kernel_rfl,by kernel_rfl⟩
end
section
open Pm
attribute [local irreducible] aU aZ bR aA au dB cO aF bZ aN aT av ak aR cZ bX aQ bK gB iC aD bA aO jW dJ bW bH aH bT fU gY
theorem rz:∀(l:List (Int×Int)) (k:Nat),(bI l).getD (k*2) 0=(l.getD k (0,0)).1∧(bI l).getD (k*2+1) 0=(l.getD k (0,0)).2
 |[],k=>by simp[bI]
 |p::l,0=>by simp[bI]
 |p::l,k+1=>by
  have:=rz l k
  rw[show(k+1)*2=k*2+2 by omega]
  simpa[bI]using this
def am4:List A→(bP→Prop)→Prop
 |[.agg [.ints .i64 1 [e],.ints .i64 31 zs,.bools 8 ad,.ints .i64 1 [k],.bytes 32 ch],.v (.int .i64 fr),x,y],K=>uS x fun n ops=>E8 y fun m vs=>∀er,er=bX e zs ad k ch fr ops n vs m→K (.d (.v (.int .i64 er)))
 |_,_=>False
theorem Rb{f:FuncId}(hx:∀e zs ad k ch fr ops n,n≤1000000→∀vs m,m≤1000000→vs.length=m*3→aP f [.agg (bS e zs ad k ch),.v (.int .i64 fr),.row n [.ints .i64 (n*5) ops],.row m [.ints .i64 (m*3) vs]] (.d (.v (.int .i64 (bX e zs ad k ch fr ops n vs m))))):∀args K,am4 args K→∃r,aP f args r∧K r:=by
 intro args K h
 unfold am4 at h
 split at h
 ·obtain⟨n,ops,hn,h,hp⟩:=gM h
  obtain⟨m,vs,hm,h,hq⟩:=kN h
  refine⟨_,fun S w vs' hG ha=>?_,h _ rfl⟩
  obtain⟨v1,v2,v3,v4,rfl,k1,k2,k3,k4⟩:=mG ha
  have k5:=hq k4
  have hl:vs.length=m*3:=by cases k5 with|row k6 _ _ _ _=>exact k6.kT.1
  exact hx _ _ _ _ _ _ _ _ hn _ _ hm hl S w _ hG (.cons k1 (.cons k2 (.cons (hp k3) (.cons k5 .nil))))
 ·exact h.elim
def al3:List A→(bP→Prop)→Prop
 |[.agg [.ints .i64 1 [e],.ints .i64 31 zs,.bools 8 ad,.ints .i64 1 [k],.bytes 32 ch],.v (.int .i64 fr),x],K=>
  uS x fun n ops=>∀er,er=(cZ e ⟨zs,ad,k,F8,F8⟩ fr ops n).1→mR (aU (decide (er=0))
   (∀s,s=(cZ e ⟨zs,ad,k,F8,F8⟩ fr ops n).2→K (.t [.agg [.ints .i64 1 [e],.ints .i64 31 s.zs,.bools 8 s.ad,.ints .i64 1 [s.k],.bytes 32 ch],.agg [.bools 8 s.ng],.agg [.bools 8 s.gn],.v (.int .i64 0)]))
   (K (.t [.agg wP,.agg [.bools 8 F8],.agg [.bools 8 F8],.v (.int .i64 er)])))
 |_,_=>False
theorem QZ{f:FuncId}(hx:∀e zs ad k ch fr ops n,n≤1000000→aP f [.agg (bS e zs ad k ch),.v (.int .i64 fr),.row n [.ints .i64 (n*5) ops]] (.t (Fu e zs ad k ch fr ops n))):∀args K,al3 args K→∃r,aP f args r∧K r:=by
 intro args K h
 unfold al3 at h
 split at h
 ·next e zs ad k ch fr x=>
  obtain⟨n,ops,hn,h,hv⟩:=gM h
  have h:=(h _ rfl).out
  refine⟨.t (Fu e zs ad k ch fr ops n),fun S w vs hG ha=>?_,?_⟩
  ·obtain⟨v1,v2,v3,rfl,h1,h2,h3⟩:=jI ha
   exact hx e zs ad k ch fr ops n hn S w _ hG (.cons h1 (.cons h2 (.cons (hv h3) .nil)))
  ·unfold Fu
   by_cases he:(cZ e ⟨zs,ad,k,F8,F8⟩ fr ops n).1=0
   ·rw[decide_eq_true he,iM]at h
    rw[if_pos he]
    exact h _ rfl
   ·rw[decide_eq_false he,gW]at h
    rw[if_neg he]
    exact h
 ·exact h.elim
def SK:List A→(bP→Prop)→Prop
 |[.agg [.bytes 32 h],.v (.string l)],K=>l.size≤1000000∧∀u,u=aF h (sb l) []→K (.d (.agg [.bytes 32 u]))
 |_,_=>False
theorem M9:∀args K,SK args K→∃r,aP 62 args r∧K r:=by
 intro args K h
 unfold SK at h
 split at h
 ·exact⟨_,Fe _ _ h.1,h.2 _ rfl⟩
 ·exact h.elim
def aU1:List A→(bP→Prop)→Prop
 |[.agg [.bytes 32 h]],K=>∀U T,U=fU h→T=vo h→K (.t [.agg [.bytes 96 U],.agg [.bytes 32 T]])
 |_,_=>False
theorem aA1:∀args K,aU1 args K→∃r,aP 63 args r∧K r:=by
 intro args K h
 unfold aU1 at h
 split at h
 ·exact MF _ _ (h _ _ rfl rfl)
 ·exact h.elim
noncomputable def bl4:ay:=aB6.add 60 am4 (Rb Ap) ⟨_,Tryz.func60,by kernel_rfl,by kernel_rfl⟩
noncomputable def bl5:ay:=bl4.add 61 al3 (QZ vU) ⟨_,Tryz.func61,by kernel_rfl,by kernel_rfl⟩
noncomputable def bl6:ay:=bl5.add 62 SK M9 ⟨_,Tryz.func62,by kernel_rfl,by kernel_rfl⟩
noncomputable def bl7:ay:=bl6.add 63 aU1 aA1 ⟨_,Tryz.func63,by kernel_rfl,by kernel_rfl⟩
noncomputable def bl8:ay:=bl7.add 64 LY (Ep EH) ⟨_,Tryz.func64,by kernel_rfl,by kernel_rfl⟩
noncomputable def bl9:ay:=bl8.add 65 zy xU ⟨_,Tryz.func65,by kernel_rfl,by kernel_rfl⟩
noncomputable def bm0:ay:=bl9.add 66 J9 Ic ⟨_,Tryz.func66,by kernel_rfl,by kernel_rfl⟩
noncomputable def bm1:ay:=bm0.add 68 DY (uM JB) ⟨_,Tryz.func68,by kernel_rfl,by kernel_rfl⟩
noncomputable def bm2:ay:=bm1.add 70 UE (Cn Sj) ⟨_,Tryz.func70,by kernel_rfl,by kernel_rfl⟩
noncomputable def bm3:ay:=bm2.add 69 rG qy ⟨_,Tryz.func69,by kernel_rfl,by kernel_rfl⟩
noncomputable def bm4:ay:=bm3.al0 67 He (zC Mt) ⟨_,Tryz.func67,by kernel_rfl,by kernel_rfl⟩
noncomputable def bm5:ay:=bm4.add 71 J7 Ib ⟨_,Tryz.func71,by kernel_rfl,by kernel_rfl⟩
noncomputable def bm6:ay:=bm5.kG 72 SL Na ⟨_,Tryz.func72,by kernel_rfl,by kernel_rfl⟩
noncomputable def bm7:ay:=bm6.add 74 (Xx wo) (Iu En) ⟨_,Tryz.func74,by kernel_rfl,by kernel_rfl⟩
noncomputable def bm8:ay:=bm7.add 73 JE G6 ⟨_,Tryz.func73,by kernel_rfl,by kernel_rfl⟩
noncomputable def bm9:ay:=bm8.add 75 vG (rV Fb) ⟨_,Tryz.func75,by kernel_rfl,by kernel_rfl⟩
noncomputable def yJ:ay:=bm9.add 76 sD DW ⟨_,Tryz.func76,by kernel_rfl,by kernel_rfl⟩
end
section
open Pm
def yX(has:List Bool)(zs:List Int)(j:Nat):Bool:=has.getD j false&&bA zs (j:Nat) !=0
def nk(S:List UInt8)(has:List Bool)(zs:List Int):Nat→List UInt8
 |0=>gY
 |j+1=>if yX has zs j=true then fI (nk S has zs j) j (blk S j)else nk S has zs j
def qP(has:List Bool)(zs:List Int):Nat→List Bool
 |0=>Ie
 |j+1=>if yX has zs j=true then(qP has zs j).set j true else qP has zs j
theorem Il{S:List UInt8}(hS:S.length=480){j:Nat}(hj:j<15):(blk S j).length=32:=by unfold blk;simp;omega
theorem yY{S:List UInt8}(hS:S.length=480)(has:List Bool)(zs:List Int):∀n:Nat,n≤15→(nk S has zs n).length=480
 |0,_=>jA
 |n+1,h=>by
  unfold nk
  split
  ·exact dW (yY hS has zs n (by omega)) (Il hS (by omega)) (by omega)
  ·exact yY hS has zs n (by omega)
theorem I5{S:List UInt8}(hS:S.length=480)(has:List Bool)(zs:List Int):∀n:Nat,n≤15→∀j,j<15→blk (nk S has zs n) j=if j<n∧yX has zs j=true then blk S j else zB 32
 |0,_,j,hj=>by
  rw[if_neg (by omega)]
  exact vB hj
 |n+1,h,j,hj=>by
  have ih:=I5 hS has zs n (by omega) j hj
  unfold nk
  by_cases e:j=n
  ·subst e
   by_cases o:yX has zs j=true
   ·rw[if_pos o,iQ (yY hS has zs j (by omega)) (Il hS hj) hj hj,if_pos rfl,if_pos ⟨by omega,o⟩]
   ·rw[if_neg o,ih,if_neg (by omega),if_neg (fun h=>o h.2)]
  ·have hlt:(j<n+1∧yX has zs j=true)↔(j<n∧yX has zs j=true):=⟨fun⟨a,b⟩=>⟨by omega,b⟩,fun⟨a,b⟩=>⟨by omega,b⟩⟩
   by_cases o:yX has zs n=true
   ·rw[if_pos o,iQ (yY hS has zs n (by omega)) (Il hS (by omega)) (by omega) hj,if_neg e,ih]
    by_cases q:j<n∧yX has zs j=true
    ·rw[if_pos q,if_pos (hlt.2 q)]
    ·rw[if_neg q,if_neg (fun h=>q (hlt.1 h))]
   ·rw[if_neg o,ih]
    by_cases q:j<n∧yX has zs j=true
    ·rw[if_pos q,if_pos (hlt.2 q)]
    ·rw[if_neg q,if_neg (fun h=>q (hlt.1 h))]
theorem Ch(has:List Bool)(zs:List Int):∀n:Nat,(qP has zs n).length=15
 |0=>by simp[qP]
 |n+1=>by
  unfold qP
  split
  ·rw[List.length_set];exact Ch has zs n
  ·exact Ch has zs n
theorem I4(has:List Bool)(zs:List Int):∀n:Nat,n≤15→∀j,j<15→(qP has zs n).getD j false=(decide (j<n)&&yX has zs j)
 |0,_,j,hj=>by
  show Ie.getD j false=_
  rw[List.getD_eq_getElem?_getD,List.getElem?_replicate,if_pos hj,decide_eq_false (by omega)]
  rfl
 |n+1,h,j,hj=>by
  have ih:=I4 has zs n (by omega) j hj
  unfold qP
  by_cases e:j=n
  ·subst e
   rw[decide_eq_true (show j<j+1 by omega),Bool.true_and]
   by_cases o:yX has zs j=true
   ·rw[if_pos o,jJ,if_pos ⟨rfl,by rw[Ch];exact hj⟩,o]
   ·rw[if_neg o,ih,decide_eq_false (by omega)]
    simpa using o
  ·have hd:decide (j<n+1)=decide (j<n):=by
    by_cases q:j<n
    ·rw[decide_eq_true q,decide_eq_true (by omega)]
    ·rw[decide_eq_false q,decide_eq_false (by omega)]
   rw[hd]
   by_cases o:yX has zs n=true
   ·rw[if_pos o,jJ,if_neg (fun h=>e h.1.symm),ih]
   ·rw[if_neg o,ih]
theorem IY{zs:List Int}{n:Nat}(h1:n<15)(h2:n%2=1):(bA zs (n:Nat) !=0)=aL zs (16+n):=by
 unfold bA aL
 rw[if_pos (by omega),if_neg (by omega),Int.toNat_natCast]
theorem YQ{l:List Bool}(hl:l.length=15){lf:Int}(h0:0≤lf)(h1:lf<8){a b c:Bool}(h:∀j,j<15→l.getD j false=(kZ lf a b c).getD j false):l=kZ lf a b c:=by
 refine List.ext_getElem (by rw[hl,nT]) fun j h1 h2=>?_
 have:=h j (by omega)
 rw[List.getD_eq_getElem?_getD,List.getD_eq_getElem?_getD,List.getElem?_eq_getElem h1,List.getElem?_eq_getElem h2]at this
 exact this
section
variable {p : PS} (h : Kc p) {zs : List Int} (hl : bA zs (2 * p.lf) ≠ 0)
include h hl
theorem Zf{j:Nat}(hj:j<15):yX (om p) zs j=if j=7 then(aL p.zs 23&&aL zs 23)else if j=n2 p.lf then(aL p.zs (16+n2 p.lf)&&aL zs (16+n2 p.lf))else if j=n1 p.lf then(aL p.zs (16+n1 p.lf)&&aL zs (16+n1 p.lf))else decide (j=(2*p.lf).toNat):=by
 have l0:=h.lf0
 have l1:=h.lf1
 obtain⟨k1,k2,k3,k4,k5,k6,k7,k8,k9⟩:=tT l0 l1
 have o1:n1 p.lf%2=1:=by unfold n1;omega
 have o2:n2 p.lf%2=1:=by unfold n2;omega
 unfold yX om
 rw[mq l0 l1 _ _ _ hj]
 by_cases e1:j=7
 ·rw[if_pos e1,if_pos e1,e1,IY (by decide) (by decide)]
 ·rw[if_neg e1,if_neg e1]
  by_cases e2:j=n2 p.lf
  ·rw[if_pos e2,if_pos e2,e2,IY k3 o2]
  ·rw[if_neg e2,if_neg e2]
   by_cases e3:j=n1 p.lf
   ·rw[if_pos e3,if_pos e3,e3,IY k2 o1]
   ·rw[if_neg e3,if_neg e3]
    by_cases e4:j=(2*p.lf).toNat
    ·have:((j:Nat):Int)=2*p.lf:=by omega
     rw[this,decide_eq_true e4,Bool.true_and]
     simpa using hl
    ·rw[decide_eq_false e4,Bool.false_and]
theorem aP8:qP (om p) zs 15=kZ p.lf (aL p.zs (16+n1 p.lf)&&aL zs (16+n1 p.lf)) (aL p.zs (16+n2 p.lf)&&aL zs (16+n2 p.lf)) (aL p.zs 23&&aL zs 23):=by
 refine YQ (Ch _ _ 15) h.lf0 h.lf1 fun j hj=>?_
 rw[I4 _ _ 15 (by decide) j hj,Zf h hl hj,mq h.lf0 h.lf1 _ _ _ hj,decide_eq_true hj,Bool.true_and]
end
end
section
open Pm
structure PL(p:PS):Prop where
 lf0:0≤p.lf
 lf1:p.lf<8
 sl:p.sc.length=32
 bl:p.ab.length=96
theorem tC{p:PS}(h:PL p):(sP p).length=480:=by
 obtain⟨k1,k2,k3,_⟩:=tT h.lf0 h.lf1
 unfold sP
 exact dW (dW (dW (dW jA h.sl k1) (fq h.bl (by decide)) k2) (fq h.bl (by decide)) k3) (fq h.bl (by decide)) (by decide)
theorem wh{p:PS}(h:PL p){j:Nat}(hj:j<15):blk (sP p) j=if j=7 then dS p.ab 2 else if j=n2 p.lf then dS p.ab 1 else if j=n1 p.lf then dS p.ab 0 else if j=(2*p.lf).toNat then p.sc else zB 32:=by
 obtain⟨k1,k2,k3,_⟩:=tT h.lf0 h.lf1
 have l0:=dW jA h.sl k1
 have l1:=dW l0 (fq h.bl (show 0<3 by decide)) k2
 have l2:=dW l1 (fq h.bl (show 1<3 by decide)) k3
 unfold sP
 rw[iQ l2 (fq h.bl (by decide)) (by decide) hj,iQ l1 (fq h.bl (by decide)) k3 hj,iQ l0 (fq h.bl (by decide)) k2 hj,iQ jA h.sl k1 hj,vB hj]
theorem Vs{p:PS}(hb:p.ab.length=96){k:Nat}(hk:k<3){u:List UInt8}(hu:u.length=32){j:Nat}(hj:j<3):dS (gH p k u).ab j=if j=k then u else dS p.ab j:=by
 unfold dS gH
 have h1:(p.ab.take (k*32)).length=k*32:=by simp;omega
 dsimp only
 by_cases e:j=k
 ·subst e
  rw[if_pos rfl,List.drop_append_of_le_length (by omega),List.drop_eq_nil_of_le (by omega),List.nil_append,List.take_append_of_le_length (by omega),List.take_of_length_le (by omega)]
 ·rw[if_neg e]
  rcases Nat.lt_or_ge j k with h2|h2
  ·rw[List.drop_append_of_le_length (by omega),List.take_append_of_le_length (by simp;omega),List.drop_take,List.take_take,show min 32 (k*32-j*32)=32 by omega]
  ·rw[List.drop_append,List.drop_eq_nil_of_le (by omega),List.nil_append,h1,List.drop_append,List.drop_eq_nil_of_le (by omega),List.nil_append,List.drop_drop,hu]
   congr 2
   omega
theorem PL.set{p:PS}(h:PL p){k:Nat}(hk:k<3){u:List UInt8}(hu:u.length=32):PL (gH p k u):=by
 have hb:=h.bl
 exact⟨h.lf0,h.lf1,h.sl,by unfold gH;simp;omega⟩
theorem br7{p q:PS}(hp:PL p)(hq:PL q)(e1:q.lf=p.lf)(e2:q.sc=p.sc)(h:∀k,k<3→dS q.ab k=dS p.ab k):sP q=sP p:=by
 refine yx (tC hq) (tC hp) fun j hj=>?_
 rw[wh hq hj,wh hp hj,e1,e2,h 0 (by decide),h 1 (by decide),h 2 (by decide)]
theorem Qa{p:PS}(h:PL p){k:Nat}(hk:k<3){u:List UInt8}(hu:u.length=32){m:Nat}(hm:m=if k=0 then n1 p.lf else if k=1 then n2 p.lf else 7):fI (sP p) m u=sP (gH p k u):=by
 obtain⟨k1,k2,k3,k4,k5,k6,k7,k8,k9⟩:=tT h.lf0 h.lf1
 have m1:m<15:=by
  rw[hm]
  split
  ·exact k2
  ·split
   ·exact k3
   ·decide
 refine yx (dW (tC h) hu m1) (tC (h.set hk hu)) fun j hj=>?_
 rw[iQ (tC h) hu m1 hj,wh (h.set hk hu) hj,wh h hj]
 have el:(gH p k u).lf=p.lf:=rfl
 have es:(gH p k u).sc=p.sc:=rfl
 rw[el,es]
 have ab:=fun j hj=>Vs h.bl hk hu (j:=j) hj
 have:k=0∨k=1∨k=2:=by omega
 rcases this with rfl|rfl|rfl
 ·have b0:dS (gH p 0 u).ab 0=u:=ab 0 (by decide)
  have b1:dS (gH p 0 u).ab 1=dS p.ab 1:=ab 1 (by decide)
  have b2:dS (gH p 0 u).ab 2=dS p.ab 2:=ab 2 (by decide)
  have hm:m=n1 p.lf:=hm
  rw[b0,b1,b2,hm]
  by_cases e:j=n1 p.lf
  ·rw[if_pos e,if_neg (by omega),if_neg (by omega),if_pos e]
  ·rw[if_neg e,if_neg e,if_neg e]
 ·have b0:dS (gH p 1 u).ab 0=dS p.ab 0:=ab 0 (by decide)
  have b1:dS (gH p 1 u).ab 1=u:=ab 1 (by decide)
  have b2:dS (gH p 1 u).ab 2=dS p.ab 2:=ab 2 (by decide)
  have hm:m=n2 p.lf:=hm
  rw[b0,b1,b2,hm]
  by_cases e:j=n2 p.lf
  ·rw[if_pos e,if_neg (by omega),if_pos e]
  ·rw[if_neg e,if_neg e,if_neg e]
 ·have b0:dS (gH p 2 u).ab 0=dS p.ab 0:=ab 0 (by decide)
  have b1:dS (gH p 2 u).ab 1=dS p.ab 1:=ab 1 (by decide)
  have b2:dS (gH p 2 u).ab 2=u:=ab 2 (by decide)
  have hm:m=7:=hm
  rw[b0,b1,b2,hm]
  by_cases e:j=7
  ·rw[if_pos e,if_pos e]
  ·rw[if_neg e,if_neg e,if_neg e]
theorem vK{l:List Bool}(hl:l.length=15){lf:Int}{a b c:Bool}(h:∀j,j<15→l.getD j false=(kZ lf a b c).getD j false):l=kZ lf a b c:=by
 refine List.ext_getElem (by rw[hl,nT]) fun j h1 h2=>?_
 have:=h j (by omega)
 rw[List.getD_eq_getElem?_getD,List.getD_eq_getElem?_getD,List.getElem?_eq_getElem h1,List.getElem?_eq_getElem h2]at this
 exact this
theorem DJ{lf:Int}(h0:0≤lf)(h1:lf<8)(a b c:Bool):(kZ lf a b c).set (n1 lf) true=kZ lf true b c∧(kZ lf a b c).set (n2 lf) true=kZ lf a true c∧(kZ lf a b c).set 7 true=kZ lf a b true:=by
 obtain⟨k1,k2,k3,k4,k5,k6,k7,k8,k9⟩:=tT h0 h1
 refine⟨vK (by simp[nT]) fun j hj=>?_,vK (by simp[nT]) fun j hj=>?_,vK (by simp[nT]) fun j hj=>?_⟩
 ·rw[jJ,mq h0 h1 _ _ _ hj,mq h0 h1 _ _ _ hj,nT]
  by_cases e:j=n1 lf
  ·rw[if_pos ⟨e.symm,k2⟩,if_neg (by omega),if_neg (by omega),if_pos e]
  ·rw[if_neg (fun x=>e x.1.symm),if_neg e,if_neg e]
 ·rw[jJ,mq h0 h1 _ _ _ hj,mq h0 h1 _ _ _ hj,nT]
  by_cases e:j=n2 lf
  ·rw[if_pos ⟨e.symm,k3⟩,if_neg (by omega),if_pos e]
  ·rw[if_neg (fun x=>e x.1.symm),if_neg e,if_neg e]
 ·rw[jJ,mq h0 h1 _ _ _ hj,mq h0 h1 _ _ _ hj,nT]
  by_cases e:j=7
  ·rw[if_pos ⟨e.symm,by decide⟩,if_pos e]
  ·rw[if_neg (fun x=>e x.1.symm),if_neg e,if_neg e]
def BS(zs:List Int)(lf:Int)(h S:List UInt8)(H:List Bool):Bool×List UInt8×List UInt8×List Bool:=
 if(aA 4 (au (av h)) !=zs.getD 23 0)=true then(false,h,S,H)else(true,ak h,fI S 7 h,H.set 7 true)
def Fa(zs:List Int)(lf:Int)(h S:List UInt8)(H:List Bool):Bool×List UInt8×List UInt8×List Bool:=
 if(aA 4 (au (av h)) !=zs.getD (16+n2 lf) 0)=true then(false,h,S,H)else BS zs lf (ak h) (fI S (n2 lf) h) (H.set (n2 lf) true)
def J5(zs:List Int)(lf:Int)(h S:List UInt8)(H:List Bool):Bool×List UInt8×List UInt8×List Bool:=
 if(aA 4 (au (av h)) !=zs.getD (16+n1 lf) 0)=true then(false,h,S,H)else Fa zs lf (ak h) (fI S (n1 lf) h) (H.set (n1 lf) true)
def kF(zs:List Int)(lf:Int)(h S:List UInt8)(H:List Bool)(k:Nat):Bool×List UInt8×List UInt8×List Bool:=if k=0 then J5 zs lf h S H else if k=1 then Fa zs lf h S H else BS zs lf h S H
theorem SF{p:PS}(hp:PL p){h:List UInt8}(hh:h.length=32)(a b c:Bool):(BS p.zs p.lf h (sP p) (kZ p.lf a b c)).1=(fu p h).1∧((fu p h).1=true→BS p.zs p.lf h (sP p) (kZ p.lf a b c)=(true,(fu p h).2.1,sP (fu p h).2.2,kZ p.lf a b true)):=by
 unfold BS fu JV
 by_cases e:(aA 4 (au (av h)) !=p.zs.getD 23 0)=true
 ·rw[if_pos e,if_pos e]
  exact⟨rfl,fun h=>by cases h⟩
 ·rw[if_neg e,if_neg e,Qa hp (k:=2) (m:=7) (by decide) hh rfl,(DJ hp.lf0 hp.lf1 a b c).2.2]
  exact⟨rfl,fun _=>rfl⟩
theorem SE{p:PS}(hp:PL p){h:List UInt8}(hh:h.length=32)(a b c:Bool):(Fa p.zs p.lf h (sP p) (kZ p.lf a b c)).1=(dX p h).1∧((dX p h).1=true→Fa p.zs p.lf h (sP p) (kZ p.lf a b c)=(true,(dX p h).2.1,sP (dX p h).2.2,kZ p.lf a true true)):=by
 have g:=SF (hp.set (k:=1) (by decide) hh) (dY h) a true c
 unfold Fa dX
 have eu:JV p h (16+(p.lf / 4*8+3).toNat)=(aA 4 (au (av h)) !=p.zs.getD (16+n2 p.lf) 0):=rfl
 rw[eu]
 by_cases e:(aA 4 (au (av h)) !=p.zs.getD (16+n2 p.lf) 0)=true
 ·rw[if_pos e,if_pos e]
  exact⟨rfl,fun h=>by cases h⟩
 ·rw[if_neg e,if_neg e,Qa hp (k:=1) (m:=n2 p.lf) (by decide) hh rfl,(DJ hp.lf0 hp.lf1 a b c).2.1]
  exact g
theorem az6{p:PS}(hp:PL p){h:List UInt8}(hh:h.length=32)(a b c:Bool):(J5 p.zs p.lf h (sP p) (kZ p.lf a b c)).1=(iR p h).1∧((iR p h).1=true→J5 p.zs p.lf h (sP p) (kZ p.lf a b c)=(true,(iR p h).2.1,sP (iR p h).2.2,kZ p.lf true true true)):=by
 have g:=SE (hp.set (k:=0) (by decide) hh) (dY h) true b c
 unfold J5 iR
 have eu:JV p h (16+(p.lf / 2*4+1).toNat)=(aA 4 (au (av h)) !=p.zs.getD (16+n1 p.lf) 0):=rfl
 rw[eu]
 by_cases e:(aA 4 (au (av h)) !=p.zs.getD (16+n1 p.lf) 0)=true
 ·rw[if_pos e,if_pos e]
  exact⟨rfl,fun h=>by cases h⟩
 ·rw[if_neg e,if_neg e,Qa hp (k:=0) (m:=n1 p.lf) (by decide) hh rfl,(DJ hp.lf0 hp.lf1 a b c).1]
  exact g
theorem xclR_0(zs:List Int)(lf:Int)(h S:List UInt8)(H:List Bool):kF zs lf h S H 0=J5 zs lf h S H:=if_pos rfl
theorem xclR_1(zs:List Int)(lf:Int)(h S:List UInt8)(H:List Bool):kF zs lf h S H 1=Fa zs lf h S H:=(if_neg (by decide)).trans (if_pos rfl)
theorem xclR_2(zs:List Int)(lf:Int)(h S:List UInt8)(H:List Bool):kF zs lf h S H 2=BS zs lf h S H:=(if_neg (by decide)).trans (if_neg (by decide))
theorem climbR_0(p:PS)(h:List UInt8):aW p h 0=iR p h:=if_pos rfl
theorem climbR_1(p:PS)(h:List UInt8):aW p h 1=dX p h:=(if_neg (by decide)).trans (if_pos rfl)
theorem climbR_2(p:PS)(h:List UInt8):aW p h 2=fu p h:=(if_neg (by decide)).trans (if_neg (by decide))
theorem ai3{p:PS}(hp:PL p){h:List UInt8}(hh:h.length=32)(a b c:Bool){k:Nat}(hk:k<3):(kF p.zs p.lf h (sP p) (kZ p.lf a b c) k).1=(aW p h k).1∧
  ((aW p h k).1=true→kF p.zs p.lf h (sP p) (kZ p.lf a b c) k=(true,(aW p h k).2.1,sP (aW p h k).2.2,kZ p.lf (a||decide (k=0)) (b||decide (k≤1)) true)):=by
 have:k=0∨k=1∨k=2:=by omega
 rcases this with rfl|rfl|rfl
 ·have:=az6 hp hh a b c
  rw[xclR_0,climbR_0]
  simpa using this
 ·have:=SE hp hh a b c
  rw[xclR_1,climbR_1]
  simpa using this
 ·have:=SF hp hh a b c
  rw[xclR_2,climbR_2]
  simpa using this
end
section
open Pm
theorem ar8{p:PS}(h:Kc p){zs:List Int}(hl:bA zs (2*p.lf)≠0){q:PS}(hq:PL q)(e1:q.lf=p.lf)(e2:q.sc=p.sc)
  (a0:dS q.ab 0=if(aL p.zs (16+n1 p.lf)&&aL zs (16+n1 p.lf))=true then dS p.ab 0 else zB 32)
  (a1:dS q.ab 1=if(aL p.zs (16+n2 p.lf)&&aL zs (16+n2 p.lf))=true then dS p.ab 1 else zB 32)
  (a2:dS q.ab 2=if(aL p.zs 23&&aL zs 23)=true then dS p.ab 2 else zB 32):nk (sP p) (om p) zs 15=sP q:=by
 refine yx (yY (P9 h) _ _ 15 (by decide)) (tC hq) fun j hj=>?_
 rw[I5 (P9 h) _ _ 15 (by decide) j hj,Zf h hl hj,EM h hj,wh hq hj,e1,e2]
 by_cases c1:j=7
 ·rw[if_pos c1,if_pos c1,if_pos c1,a2]
  by_cases o:(aL p.zs 23&&aL zs 23)=true
  ·rw[if_pos o,if_pos ⟨hj,o⟩]
  ·rw[if_neg o,if_neg (fun h=>o h.2)]
 ·rw[if_neg c1,if_neg c1,if_neg c1]
  by_cases c2:j=n2 p.lf
  ·rw[if_pos c2,if_pos c2,if_pos c2,a1]
   by_cases o:(aL p.zs (16+n2 p.lf)&&aL zs (16+n2 p.lf))=true
   ·rw[if_pos o,if_pos ⟨hj,o⟩]
   ·rw[if_neg o,if_neg (fun h=>o h.2)]
  ·rw[if_neg c2,if_neg c2,if_neg c2]
   by_cases c3:j=n1 p.lf
   ·rw[if_pos c3,if_pos c3,if_pos c3,a0]
    by_cases o:(aL p.zs (16+n1 p.lf)&&aL zs (16+n1 p.lf))=true
    ·rw[if_pos o,if_pos ⟨hj,o⟩]
    ·rw[if_neg o,if_neg (fun h=>o h.2)]
   ·rw[if_neg c3,if_neg c3,if_neg c3]
    by_cases c4:j=(2*p.lf).toNat
    ·rw[if_pos c4,if_pos ⟨hj,decide_eq_true c4⟩]
    ·rw[if_neg c4,if_neg (fun h=>c4 (of_decide_eq_true h.2))]
theorem ak7{A B C:List UInt8}(ha:A.length=32)(hb:B.length=32)(hc:C.length=32):dS (A++(B++C)) 0=A∧dS (A++(B++C)) 1=B∧dS (A++(B++C)) 2=C:=by
 unfold dS
 refine⟨?_,?_,?_⟩
 ·rw[Nat.zero_mul,List.drop_zero,List.take_append_of_le_length (by omega),List.take_of_length_le (by omega)]
 ·rw[show 1*32=A.length by omega,List.drop_left,List.take_append_of_le_length (by omega),List.take_of_length_le (by omega)]
 ·rw[show 2*32=A.length+B.length by omega,←List.append_assoc,←List.length_append,List.drop_left,List.take_of_length_le (by omega)]
theorem TG{p q:PS}(hp:p.ab.length=96)(hq:q.ab.length=96)(ez:q.zs=p.zs)(el:q.lf=p.lf){h:List UInt8}(hh:h.length=32){k:Nat}(hk:k<3):(aW q h k).1=(aW p h k).1∧((aW p h k).1=true→(aW q h k).2.1=(aW p h k).2.1):=by
 have half:∀{p q:PS},q.ab.length=96→q.zs=p.zs→q.lf=p.lf→(aW p h k).1=true→(aW q h k).1=true:=fun {p q} hq ez el t=>by
  obtain⟨a0,a1,a2⟩:=mW hk t
  rw[←ez,←el]at a0 a1
  rw[←ez]at a2
  exact(jg hq hh hk a0 a1 a2).1
 refine⟨?_,fun t=>?_⟩
 ·cases t:(aW p h k).1 with
  |true=>exact half hq ez el t
  |false=>
   cases u:(aW q h k).1 with
   |false=>rfl
   |true=>rw[half hp ez.symm el.symm u]at t;cases t
 ·obtain⟨a0,a1,a2⟩:=mW hk t
  have s1:=jg hp hh hk a0 a1 a2
  rw[←ez,←el]at a0 a1
  rw[←ez]at a2
  have s2:=jg hq hh hk a0 a1 a2
  rw[s1.2.1,s2.2.1]
section
variable {p : PS} (hp : Own p) {c : CS} (f0 : 0 ≤ c.fr) (f1 : c.fr < 8) (hne : p.lf ≠ c.fr) {s : Vw} (hg : Goes p.zs s) (hlf : bq s.zs p.lf.toNat = bq p.zs p.lf.toNat)
include hp f0 f1 hne hg hlf
theorem FN:bA (gu s.zs c.fr c.sl c.p0 c.p1 c.p2) (2*p.lf)≠0:=by
 have p0:=hp.inv.lf0
 have p1:=hp.inv.lf1
 rw[Kj f0 f1 _ _ _ _ _ (by omega) (by omega) (by omega) (by omega) (by omega) (by omega)]
 have e:2*p.lf=2*((p.lf.toNat:Nat):Int):=by omega
 rw[e,Aa _ (by omega)]
 have h4:=hlf.trans hp.lf
 rw[gJ (by have:=hg.zl;omega) (by omega)]at h4
 rw[(List.cons.inj (List.cons.inj h4).2).1]
 exact iZ _
theorem Tm(h:n1 p.lf≠n1 c.fr):aL (gu s.zs c.fr c.sl c.p0 c.p1 c.p2) (16+n1 p.lf)=true→aL p.zs (16+n1 p.lf)=true:=fun t=>by
 have p0:=hp.inv.lf0
 have p1:=hp.inv.lf1
 rw[eU,j4 hg.zl f0 f1]at t
 unfold n1 n2 at*
 rw[if_neg (by omega),if_neg (by omega),if_neg (by omega),if_neg (by omega)]at t
 rcases hg.nd (16+(p.lf / 2*4+1).toNat) (by omega)with o|o
 ·exact absurd o t
 ·rw[o]at t;exact(eU _ _).2 t
theorem Tn(h:n2 p.lf≠n2 c.fr):aL (gu s.zs c.fr c.sl c.p0 c.p1 c.p2) (16+n2 p.lf)=true→aL p.zs (16+n2 p.lf)=true:=fun t=>by
 have p0:=hp.inv.lf0
 have p1:=hp.inv.lf1
 rw[eU,j4 hg.zl f0 f1]at t
 unfold n1 n2 at*
 rw[if_neg (by omega),if_neg (by omega),if_neg (by omega),if_neg (by omega)]at t
 rcases hg.nd (16+(p.lf / 4*8+3).toNat) (by omega)with o|o
 ·exact absurd o t
 ·rw[o]at t;exact(eU _ _).2 t
theorem Z9{l:List (Int×Int)}(hL:l=aQ s.zs c.fr s.ng){q:Int×Int}(hq:q∈l)(hu:aJ q.2 p.lf=true):
  0≤q.1∧q.1<3∧0≤q.2∧q.2<15∧(kr c.fr).getD q.1.toNat 0=aD c.fr p.lf∧yX (om p) (gu s.zs c.fr c.sl c.p0 c.p1 c.p2) q.2.toNat=true∧blk (sP p) q.2.toNat=lF p q.2:=by
 have p0:=hp.inv.lf0
 have p1:=hp.inv.lf1
 have hL3:l=bB s.zs s.ng c.fr 3:=by rw[hL];unfold aQ;rw[if_pos (by simp[aG,f0,f1])]
 have ei:((p.lf.toNat:Nat):Int)=p.lf:=by omega
 have ej:((c.fr.toNat:Nat):Int)=c.fr:=by omega
 obtain⟨k1,k2,k3,k4,k5,k6,k7,k8,k9⟩:=tT p0 p1
 have hat:=Aj s.zs s.ng (x:=c.fr.toNat) (i:=p.lf.toNat) (by omega) (by omega) (by omega) 3 (Nat.le_refl _) q (by rw[ej,←hL3];exact hq)
 rw[ei,ej]at hat
 obtain⟨⟨r0,r1⟩,DR⟩:=hat
 have hk0:bA s.zs q.2≠0:=uV (bt:=s.ng) (x:=c.fr) 3 _ (by rw[←hL3];exact hq)
 have hk1:bA (gu s.zs c.fr c.sl c.p0 c.p1 c.p2) q.2≠0:=by rw[L8 f0 f1 _ _ _ _ _ (by rw[←hL];exact hq)];exact hk0
 have DN:=FN hp f0 f1 hne hg hlf
 obtain⟨_,_,i2,i3⟩:=zh (by rw[←hL];exact hq)
 refine⟨r0,by omega,i2,i3,DR hu,?_,?_⟩
 ·rw[Zf hp.inv DN (by omega)]
  have node:∀m:Nat,q.2.toNat=m→m%2=1→m<15→(aL p.zs (16+m)&&aL (gu s.zs c.fr c.sl c.p0 c.p1 c.p2) (16+m))=true:=fun m e o l=>by
   have e2:q.2=(m:Nat):=by omega
   rw[e2,Le (by omega) (by omega) (by omega),Int.toNat_natCast]at hk0 hk1
   rw[Bool.and_eq_true]
   refine⟨?_,(eU _ _).2 hk1⟩
   rcases hg.nd (16+m) (by omega)with o|o
   ·exact absurd o hk0
   ·rw[o]at hk0;exact(eU _ _).2 hk0
  rcases qK hu with h|h|h|h
  ·have e:q.2.toNat=(2*p.lf).toNat:=by rw[h]
   rw[if_neg (by omega),if_neg (by omega),if_neg (by omega)]
   exact decide_eq_true e
  ·have e:q.2.toNat=n1 p.lf:=by rw[h]
   rw[if_neg (by omega),if_neg (by omega),if_pos e]
   exact node _ e (by unfold n1;omega) k2
  ·have e:q.2.toNat=n2 p.lf:=by rw[h]
   rw[if_neg (by omega),if_pos e]
   exact node _ e (by unfold n2;omega) k3
  ·have e:q.2.toNat=7:=by rw[h];rfl
   rw[if_pos e]
   exact node 7 e (by decide) (by decide)
 ·rw[EM hp.inv (by omega)]
  unfold lF
  rcases qK hu with h|h|h|h
  ·rw[if_neg (by omega),if_neg (by omega),if_neg (by omega),if_pos (by rw[h]),if_pos h]
  ·have e:q.2.toNat=n1 p.lf:=by rw[h]
   rw[if_neg (by omega),if_neg (by omega),if_pos e,if_neg (by omega),h]
   unfold aO qc;rw[if_pos rfl];rfl
  ·have e:q.2.toNat=n2 p.lf:=by rw[h]
   rw[if_neg (by omega),if_pos e,if_neg (by omega),h]
   unfold aO qc;rw[if_neg (by omega),if_pos rfl];rfl
  ·rw[if_pos (by rw[h];rfl),if_neg (by omega),h]
   unfold aO qc;rw[if_neg (by omega),if_neg (by omega),if_pos rfl];rfl
theorem UR{h:List UInt8}(hh:h.length=32){k:Nat}(hk:k<3)(hm:(kr c.fr).getD k 0=aD c.fr p.lf):
  (kF (gu s.zs c.fr c.sl c.p0 c.p1 c.p2) p.lf h (nk (sP p) (om p) (gu s.zs c.fr c.sl c.p0 c.p1 c.p2) 15) (qP (om p) (gu s.zs c.fr c.sl c.p0 c.p1 c.p2) 15) k).1=(aW (gX (fK p s c) k) h k).1∧
  ((aW (gX (fK p s c) k) h k).1=true→kF (gu s.zs c.fr c.sl c.p0 c.p1 c.p2) p.lf h (nk (sP p) (om p) (gu s.zs c.fr c.sl c.p0 c.p1 c.p2) 15) (qP (om p) (gu s.zs c.fr c.sl c.p0 c.p1 c.p2) 15) k=
   (true,(aW (gX (fK p s c) k) h k).2.1,sP (aW (gX (fK p s c) k) h k).2.2,om (aW (gX (fK p s c) k) h k).2.2)):=by
 have p0:=hp.inv.lf0
 have p1:=hp.inv.lf1
 have hb:=hp.inv.bl
 have DN:=FN hp f0 f1 hne hg hlf
 have bn1:=Tm hp f0 f1 hne hg hlf
 have bn2:=Tn hp f0 f1 hne hg hlf
 obtain⟨u0,u1,u2⟩:=RJ f0 f1 p0 p1 hne hk hm
 obtain⟨pp,hpp⟩:∃pp,pp=fK p s c:=⟨_,rfl⟩
 have ppl:pp.lf=p.lf:=by rw[hpp];dsimp only[fK]
 have ppa:pp.ab=p.ab:=by rw[hpp];dsimp only[fK]
 have pps:pp.sc=p.sc:=by rw[hpp];dsimp only[fK]
 have ppz:pp.zs=gu s.zs c.fr c.sl c.p0 c.p1 c.p2:=by rw[hpp];dsimp only[fK]
 rw[←hpp,←ppz]
 rw[←ppz]at DN bn1 bn2
 clear hpp
 have z32:(zB 32).length=32:=by simp
 obtain⟨A0,hA0⟩:∃A,A=if(aL p.zs (16+n1 p.lf)&&aL pp.zs (16+n1 p.lf))=true then dS p.ab 0 else zB 32:=⟨_,rfl⟩
 obtain⟨A1,hA1⟩:∃A,A=if(aL p.zs (16+n2 p.lf)&&aL pp.zs (16+n2 p.lf))=true then dS p.ab 1 else zB 32:=⟨_,rfl⟩
 obtain⟨A2,hA2⟩:∃A,A=if(aL p.zs 23&&aL pp.zs 23)=true then dS p.ab 2 else zB 32:=⟨_,rfl⟩
 have l0:A0.length=32:=by rw[hA0];split;exact fq hb (by decide);exact z32
 have l1:A1.length=32:=by rw[hA1];split;exact fq hb (by decide);exact z32
 have l2:A2.length=32:=by rw[hA2];split;exact fq hb (by decide);exact z32
 obtain⟨b0,b1,b2⟩:=ak7 l0 l1 l2
 obtain⟨kp,hkp⟩:∃kp:PS,kp={ pp with ab:=A0++(A1++A2) }:=⟨_,rfl⟩
 have kz:kp.zs=pp.zs:=by rw[hkp]
 have kl:kp.lf=p.lf:=by rw[hkp];exact ppl
 have ks:kp.sc=p.sc:=by rw[hkp];exact pps
 have ka:kp.ab=A0++(A1++A2):=by rw[hkp]
 have kpl:PL kp:=⟨by rw[kl];exact p0,by rw[kl];exact p1,by rw[ks];exact hp.inv.sl,by rw[ka];simp;omega⟩
 clear hkp
 rw[←ka]at b0 b1 b2
 have eS:=ar8 hp.inv DN kpl kl ks (b0.trans hA0) (b1.trans hA1) (b2.trans hA2)
 have eH:=aP8 hp.inv DN
 rw[eS,eH]
 obtain⟨w1,w2,w3,w4⟩:=zX (p:=pp) (by rw[ppa];exact hb) hk
 have flf:(gX pp k).lf=p.lf:=w1.lf.trans ppl
 have tw:=TG (p:=gX pp k) (q:=kp) w2 kpl.bl (kz.trans w1.zs.symm) (kl.trans flf.symm) hh hk
 have xo:=ai3 kpl hh (aL p.zs (16+n1 p.lf)&&aL pp.zs (16+n1 p.lf)) (aL p.zs (16+n2 p.lf)&&aL pp.zs (16+n2 p.lf)) (aL p.zs 23&&aL pp.zs 23) hk
 rw[kz,kl]at xo
 refine⟨xo.1.trans tw.1,fun t=>?_⟩
 rw[xo.2 (tw.1.trans t),tw.2 t]
 obtain⟨a0,a1,a2⟩:=mW hk t
 obtain⟨_,_,t3,t4,t5,t6,t7⟩:=jg w2 hh hk a0 a1 a2
 rw[w1.zs,flf]at a0 a1
 rw[w1.zs]at a2
 have q0:k=0→kp.zs.getD (16+n1 kp.lf) 0=aI h:=by rw[kz,kl];exact a0
 have q1:k≤1→kp.zs.getD (16+n2 kp.lf) 0=aI (if k=1 then h else ak h):=by rw[kz,kl];exact a1
 have q2:kp.zs.getD 23 0=aI (if k=2 then h else if k=1 then ak h else ak (ak h)):=by rw[kz];exact a2
 obtain⟨_,_,v3,v4,v5,v6,v7⟩:=jg kpl.bl hh hk q0 q1 q2
 obtain⟨P,hP⟩:∃P,P=(aW (gX pp k) h k).2.2:=⟨_,rfl⟩
 obtain⟨Q,hQ⟩:∃Q,Q=(aW kp h k).2.2:=⟨_,rfl⟩
 rw[←hP]at t3 t4 t5 t6 t7 ⊢
 rw[←hQ]at v3 v4 v5 v6 v7 ⊢
 have Pl:P.lf=p.lf:=t3.lf.trans flf
 have Pz:P.zs=pp.zs:=t3.zs.trans w1.zs
 have Ps:P.sc=p.sc:=(t3.sc.trans w1.sc).trans pps
 have Ql:Q.lf=p.lf:=v3.lf.trans kl
 have Qs:Q.sc=p.sc:=v3.sc.trans ks
 have hPL:PL P:=⟨by rw[Pl];exact p0,by rw[Pl];exact p1,by rw[Ps];exact hp.inv.sl,t4⟩
 have hQL:PL Q:=⟨by rw[Ql];exact p0,by rw[Ql];exact p1,by rw[Qs];exact hp.inv.sl,v4⟩
 have and1:n1 p.lf≠n1 c.fr→(aL p.zs (16+n1 p.lf)&&aL pp.zs (16+n1 p.lf))=aL pp.zs (16+n1 p.lf):=fun e=>by
  cases o:aL pp.zs (16+n1 p.lf)with
  |false=>simp
  |true=>rw[bn1 e o];rfl
 have aW8:n2 p.lf≠n2 c.fr→(aL p.zs (16+n2 p.lf)&&aL pp.zs (16+n2 p.lf))=aL pp.zs (16+n2 p.lf):=fun e=>by
  cases o:aL pp.zs (16+n2 p.lf)with
  |false=>simp
  |true=>rw[bn2 e o];rfl
 have eSP:sP Q=sP P:=by
  refine br7 hPL hQL (Ql.trans Pl.symm) (Qs.trans Ps.symm) fun j hj=>?_
  rcases(show j=0∨j=1∨j=2 by omega)with rfl|rfl|rfl
  ·rw[t5,v5]
   by_cases e:k=0
   ·rw[if_pos e,if_pos e]
   ·rw[if_neg e,if_neg e,b0,hA0,w3 (by omega),ppl,ppa,and1 (by rcases(show k=1∨k=2 by omega)with o|o;exact(u1 o).2;exact(u2 o).2)]
  ·rw[t6,v6]
   by_cases e:k=0
   ·rw[if_pos e,if_pos e]
   ·by_cases e1:k=1
    ·rw[if_neg e,if_neg e,if_pos e1,if_pos e1]
    ·rw[if_neg e,if_neg e,if_neg e1,if_neg e1,b1,hA1,w4 (by omega),ppl,ppa,aW8 (u2 (by omega)).1]
  ·rw[t7,v7]
 have yes:∀{m:Nat} {x:List UInt8},pp.zs.getD m 0=aI x→aL pp.zs m=true:=fun {m x} e=>(eU _ _).2 (by rw[e];exact iZ _)
 have eHZ:kZ p.lf ((aL p.zs (16+n1 p.lf)&&aL pp.zs (16+n1 p.lf))||decide (k=0)) ((aL p.zs (16+n2 p.lf)&&aL pp.zs (16+n2 p.lf))||decide (k≤1)) true=om P:=by
  unfold om
  rw[Pl,Pz,yes a2]
  have x0:((aL p.zs (16+n1 p.lf)&&aL pp.zs (16+n1 p.lf))||decide (k=0))=aL pp.zs (16+n1 p.lf):=by
   by_cases e:k=0
   ·rw[decide_eq_true e,yes (a0 e)];simp
   ·rw[decide_eq_false e,Bool.or_false,and1 (by rcases(show k=1∨k=2 by omega)with o|o;exact(u1 o).2;exact(u2 o).2)]
  have x1:((aL p.zs (16+n2 p.lf)&&aL pp.zs (16+n2 p.lf))||decide (k≤1))=aL pp.zs (16+n2 p.lf):=by
   by_cases e:k≤1
   ·rw[decide_eq_true e,yes (a1 e)];simp
   ·rw[decide_eq_false e,Bool.or_false,aW8 (u2 (by omega)).1]
  rw[x0,x1]
 rw[eSP,eHZ]
end
end
section
open Pm
theorem hasP_0{lf:Int}(h0:0≤lf)(h1:lf<8):Ie.set (2*lf).toNat true=kZ lf false false false:=by
 obtain⟨k1,k2,k3,k4,k5,k6,k7,k8,k9⟩:=tT h0 h1
 refine vK (by simp) fun j hj=>?_
 rw[mq h0 h1 _ _ _ hj,jJ]
 have hz:Ie.getD j false=false:=by rw[List.getD_eq_getElem?_getD,List.getElem?_replicate,if_pos hj];rfl
 rw[hz]
 have l:Ie.length=15:=by simp
 rw[l]
 by_cases e:j=(2*lf).toNat
 ·rw[if_pos ⟨e.symm,k1⟩,if_neg (by omega),if_neg (by omega),if_neg (by omega),decide_eq_true e]
 ·rw[if_neg (fun x=>e x.1.symm),decide_eq_false e]
  split
  ·rfl
  ·split
   ·rfl
   ·split<;>rfl
theorem zR{k:Nat}(hk:k<3):dS (zB 96) k=zB 32:=by
 unfold dS
 rw[List.drop_replicate,List.take_replicate,show min 32 (96-k*32)=32 by omega]
theorem sP_0{p:PS}(h0:0≤p.lf)(h1:p.lf<8)(hs:p.sc.length=32)(ha:p.ab=zB 96):fI gY (2*p.lf).toNat p.sc=sP p:=by
 obtain⟨k1,k2,k3,k4,k5,k6,k7,k8,k9⟩:=tT h0 h1
 have hp:PL p:=⟨h0,h1,hs,by rw[ha];simp⟩
 refine yx (dW jA hs k1) (tC hp) fun j hj=>?_
 rw[iQ jA hs k1 hj,vB hj,wh hp hj,ha,zR (by decide),zR (by decide),zR (by decide)]
 by_cases e:j=(2*p.lf).toNat
 ·rw[if_pos e,if_neg (by omega),if_neg (by omega),if_neg (by omega)]
 ·rw[if_neg e]
  split
  ·rfl
  ·split
   ·rfl
   ·split<;>rfl
theorem join_eq{h:List UInt8}{w:Wc}(l0:0≤w.lf)(l1:w.lf<8)(hb:oC w=true)(p0:0≤jB w)(p1:jB w<3){u:List UInt8}(hu:u.length=32):
  (kF w.zs w.lf u (fI gY (2*w.lf).toNat (aC h)) (Ie.set (2*w.lf).toNat true) (jB w).toNat).1=(aW (jF h w) u (jB w).toNat).1∧
  ((aW (jF h w) u (jB w).toNat).1=true→kF w.zs w.lf u (fI gY (2*w.lf).toNat (aC h)) (Ie.set (2*w.lf).toNat true) (jB w).toNat=
   (true,(aW (jF h w) u (jB w).toNat).2.1,sP (aW (jF h w) u (jB w).toNat).2.2,om (aW (jF h w) u (jB w).toNat).2.2)):=by
 obtain⟨q,hq⟩:∃q,q=jF h w:=⟨_,rfl⟩
 have ql:q.lf=w.lf:=by rw[hq];rfl
 have qz:q.zs=w.zs:=by rw[hq];rfl
 have qs:q.sc=aC h:=by rw[hq];rfl
 have qa:q.ab=zB 96:=by rw[hq];rfl
 rw[←hq]
 clear hq
 have hPL:PL q:=⟨by rw[ql];exact l0,by rw[ql];exact l1,by rw[qs];exact nV _,by rw[qa];simp⟩
 have eS:=sP_0 (p:=q) hPL.lf0 hPL.lf1 hPL.sl qa
 rw[ql,qs]at eS
 rw[eS,hasP_0 l0 l1]
 obtain⟨k,hk⟩:=Int.eq_ofNat_of_zero_le p0
 have hk3:k<3:=by omega
 have ek:(jB w).toNat=k:=by omega
 rw[ek]
 have xo:=ai3 hPL hu false false false hk3
 rw[qz,ql]at xo
 refine⟨xo.1,fun t=>?_⟩
 rw[xo.2 t]
 obtain⟨a0,a1,a2⟩:=mW hk3 t
 obtain⟨_,_,t3,t4,t5,t6,t7⟩:=jg hPL.bl hu hk3 a0 a1 a2
 rw[qz,ql]at a0 a1
 rw[qz]at a2
 have yes:∀{m:Nat} {x:List UInt8},w.zs.getD m 0=aI x→aL w.zs m=true:=fun {m x} e=>(eU _ _).2 (by rw[e];exact iZ _)
 unfold oC at hb
 rw[hk,Bool.and_eq_true,Bool.or_eq_true,Bool.or_eq_true,decide_eq_true_eq,decide_eq_true_eq]at hb
 have eH:kZ w.lf (false||decide (k=0)) (false||decide (k≤1)) true=om (aW q u k).2.2:=by
  unfold om
  rw[t3.lf,t3.zs,ql,qz,yes a2]
  have x0:(false||decide (k=0))=aL w.zs (16+n1 w.lf):=by
   by_cases e:k=0
   ·rw[decide_eq_true e,yes (a0 e)];rfl
   ·rw[decide_eq_false e]
    rcases hb.1 with o|o
    ·omega
    ·simpa using o.symm
  have x1:(false||decide (k≤1))=aL w.zs (16+n2 w.lf):=by
   by_cases e:k≤1
   ·rw[decide_eq_true e,yes (a1 e)];rfl
   ·rw[decide_eq_false e]
    rcases hb.2 with o|o
    ·omega
    ·simpa using o.symm
  rw[x0,x1]
 rw[eH]
end
section
open Pm
theorem Ia{p q:PS}(h:jY p q)(j:List UInt8):dQ (bC q j)=⟨p.e,p.zs,p.ad,p.k,p.ch,p.lf,au p.sg,aA 4 (au p.sg),sP q,om q,mX j (aR p.e p.zs p.ad p.k p.ch),zY (mX j (aR p.e p.zs p.ad p.k p.ch))⟩:=by
 rw[←h.e,←h.zs,←h.ad,←h.k,←h.ch,←h.lf,←h.sg]
 dsimp only[dQ,bC,dG,sP,om]
theorem GY(p:PS)(j:List UInt8):(bC p j).ep=mX j (aR p.e p.zs p.ad p.k p.ch):=by dsimp only[bC,dG]
theorem Qb{p:PS}{h:List UInt8}(hb:p.ab.length=96)(hh:h.length=32){k:Nat}(hk:k<3)(t:(aW (gX p k) h k).1=true):jY p (aW (gX p k) h k).2.2:=by
 obtain⟨w1,w2,_,_⟩:=zX hb hk
 obtain⟨a0,a1,a2⟩:=mW hk t
 exact w1.trans (jg w2 hh hk a0 a1 a2).2.2.1
theorem Vn{p:PS}{h:List UInt8}(hb:p.ab.length=96)(hh:h.length=32){k:Nat}(hk:k<3)(t:(aW p h k).1=true):jY p (aW p h k).2.2:=by
 obtain⟨a0,a1,a2⟩:=mW hk t
 exact(jg hb hh hk a0 a1 a2).2.2.1
end
end Go.Proofs.YtjhgelfnmhdihaaGreatDoor
