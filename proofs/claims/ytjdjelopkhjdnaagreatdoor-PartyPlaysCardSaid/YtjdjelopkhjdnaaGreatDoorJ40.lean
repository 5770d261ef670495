/-
  The document's parties: what they hold is told by what the program's hold. Mathematics; no function is named here.
-/
import Derived.Test.YtjdjelopkhjdnaaGreatDoorJ39
namespace Go.Proofs.YtjdjelopkhjdnaaGreatDoor
set_option linter.unusedVariables false
set_option linter.unusedSimpArgs false
set_option maxRecDepth 100000
set_option linter.unusedSectionVars false
open Go.RowKit
section
open Pm
def fC(s:List UInt8)(i:Nat)(h:List UInt8):List UInt8:=s.take (i*32)++(h++s.drop (i*32+32))
def blk(s:List UInt8)(i:Nat):List UInt8:=(s.drop (i*32)).take 32
theorem jo:gV.length=480:=by unfold gV;simp
theorem vg{j:Nat}(hj:j<15):blk gV j=zB 32:=by
 unfold blk gV
 rw[List.drop_replicate,List.take_replicate,show min 32 (480-j*32)=32 by omega]
theorem dP{s h:List UInt8}{i:Nat}(hs:s.length=480)(hh:h.length=32)(hi:i<15):(fC s i h).length=480:=by
 unfold fC;simp;omega
theorem iN{s h:List UInt8}{i j:Nat}(hs:s.length=480)(hh:h.length=32)(hi:i<15)(hj:j<15):blk (fC s i h) j=if j=i then h else blk s j:=by
 unfold blk fC
 have h1:(s.take (i*32)).length=i*32:=by simp;omega
 by_cases e:j=i
 ·subst e
  rw[if_pos rfl,List.drop_append_of_le_length (by omega),List.drop_eq_nil_of_le (by omega),List.nil_append,List.take_append_of_le_length (by omega),List.take_of_length_le (by omega)]
 ·rw[if_neg e]
  rcases Nat.lt_or_ge j i with h2|h2
  ·rw[List.drop_append_of_le_length (by omega),List.take_append_of_le_length (by simp;omega),List.drop_take,List.take_take,show min 32 (i*32-j*32)=32 by omega]
  ·rw[List.drop_append,List.drop_eq_nil_of_le (by omega),List.nil_append,h1,List.drop_append,List.drop_eq_nil_of_le (by omega),List.nil_append,List.drop_drop,hh]
   congr 2
   omega
theorem yu{s t:List UInt8}(hs:s.length=480)(ht:t.length=480)(h:∀j,j<15→blk s j=blk t j):s=t:=by
 apply List.ext_getElem (by omega)
 intro n h1 h2
 have k:=h (n / 32) (by omega)
 unfold blk at k
 have k2:=congrArg (fun l=>l[n%32]?) k
 simp only[List.getElem?_take,List.getElem?_drop,if_pos (Nat.mod_lt n (show 32>0 by decide))]at k2
 rw[show n / 32*32+n%32=n by omega,List.getElem?_eq_getElem h1,List.getElem?_eq_getElem h2]at k2
 exact Option.some.inj k2
theorem Ap{s h:List UInt8}{i:Nat}(hs:s.length=480)(hh:h.length=32)(hi:i<15)(e:blk s i=h):fC s i h=s:=by
 refine yu (dP hs hh hi) hs fun j hj=>?_
 rw[iN hs hh hi hj]
 split
 ·next e2=>rw[e2,e]
 ·rfl
def sP(p:PS):List UInt8:=fC (fC (fC (fC gV (2*p.lf).toNat p.sc) (n1 p.lf) (dO p.ab 0)) (n2 p.lf) (dO p.ab 1)) 7 (dO p.ab 2)
abbrev Hq:List Bool:=List.replicate 15 false
def kU(lf:Int)(a b c:Bool):List Bool:=(((Hq.set (2*lf).toNat true).set (n1 lf) a).set (n2 lf) b).set 7 c
def nV(p:PS):List Bool:=kU p.lf (aL p.zs (16+n1 p.lf)) (aL p.zs (16+n2 p.lf)) (aL p.zs 23)
structure XS where
 e:Int
 zs:List Int
 ad:List Bool
 k:Int
 ch:List UInt8
 lf:Int
 x:Int
 y:Int
 s:List UInt8
 has:List Bool
 ep:List UInt8
 jE:List UInt8
def dN(p:PS):XS:=⟨p.e,p.zs,p.ad,p.k,p.ch,p.lf,au p.sg,aA 4 (au p.sg),sP p,nV p,p.ep,p.jE⟩
theorem tK{lf:Int}(h0:0≤lf)(h1:lf<8):(2*lf).toNat<15∧n1 lf<15∧n2 lf<15∧(2*lf).toNat≠n1 lf∧(2*lf).toNat≠n2 lf∧(2*lf).toNat≠7∧n1 lf≠n2 lf∧n1 lf≠7∧n2 lf≠7:=by
 unfold n1 n2;omega
theorem PG{p:PS}(h:JU p):(sP p).length=480:=by
 obtain⟨k1,k2,k3,_⟩:=tK h.lf0 h.lf1
 unfold sP
 exact dP (dP (dP (dP jo h.sl k1) (eT h.bl (by decide)) k2) (eT h.bl (by decide)) k3) (eT h.bl (by decide)) (by decide)
theorem EB{p:PS}(h:JU p){j:Nat}(hj:j<15):blk (sP p) j=if j=7 then dO p.ab 2 else if j=n2 p.lf then dO p.ab 1 else if j=n1 p.lf then dO p.ab 0 else if j=(2*p.lf).toNat then p.sc else zB 32:=by
 obtain⟨k1,k2,k3,_⟩:=tK h.lf0 h.lf1
 have l0:=dP jo h.sl k1
 have l1:=dP l0 (eT h.bl (show 0<3 by decide)) k2
 have l2:=dP l1 (eT h.bl (show 1<3 by decide)) k3
 unfold sP
 rw[iN l2 (eT h.bl (by decide)) (by decide) hj,iN l1 (eT h.bl (by decide)) k3 hj,iN l0 (eT h.bl (by decide)) k2 hj,iN jo h.sl k1 hj,vg hj]
theorem jD(l:List Bool)(i j:Nat)(x:Bool):(l.set i x).getD j false=if i=j∧i<l.length then x else l.getD j false:=aK l i x false j
theorem l5{lf:Int}(h0:0≤lf)(h1:lf<8)(a b c:Bool){j:Nat}(hj:j<15):(kU lf a b c).getD j false=if j=7 then c else if j=n2 lf then b else if j=n1 lf then a else decide (j=(2*lf).toNat):=by
 obtain⟨k1,k2,k3,_⟩:=tK h0 h1
 have l0:Hq.length=15:=by simp
 have l1:(Hq.set (2*lf).toNat true).length=15:=by simp
 have l2:((Hq.set (2*lf).toNat true).set (n1 lf) a).length=15:=by simp
 have l3:(((Hq.set (2*lf).toNat true).set (n1 lf) a).set (n2 lf) b).length=15:=by simp
 have hz:Hq.getD j false=false:=by rw[List.getD_eq_getElem?_getD,List.getElem?_replicate,if_pos hj];rfl
 unfold kU
 rw[jD,jD,jD,jD,l0,l1,l2,l3,hz]
 by_cases e1:j=7
 ·rw[if_pos e1,if_pos ⟨e1.symm,by decide⟩]
 ·rw[if_neg e1,if_neg (fun e=>e1 e.1.symm)]
  by_cases e2:j=n2 lf
  ·rw[if_pos e2,if_pos ⟨e2.symm,k3⟩]
  ·rw[if_neg e2,if_neg (fun e=>e2 e.1.symm)]
   by_cases e3:j=n1 lf
   ·rw[if_pos e3,if_pos ⟨e3.symm,k2⟩]
   ·rw[if_neg e3,if_neg (fun e=>e3 e.1.symm)]
    by_cases e4:j=(2*lf).toNat
    ·rw[if_pos ⟨e4.symm,k1⟩];simp[e4]
    ·rw[if_neg (fun e=>e4 e.1.symm)];simp[e4]
theorem nK(lf:Int)(a b c:Bool):(kU lf a b c).length=15:=by simp[kU]
end
section
open Pm
attribute [local irreducible] aV aZ bQ aA au dA cK bC aF bW aN aU ay ak aT dh bX aR bI fU bB iC aD aP jR dZ bZ bS aJ bT fJ gV
abbrev dH(p:XS):List Seg:=[.ints .i64 1 [p.e],.ints .i64 31 p.zs,.bools 8 p.ad,.ints .i64 1 [p.k],.bytes 32 p.ch,.ints .i64 1 [p.lf],.ints .i64 2 [p.x,p.y],.bytes 480 p.s,.bools 15 p.has,.bytes 32 p.ep,.bytes 32 p.jE]
def Ig(p:XS)(e:Int)(zs:List Int)(ad:List Bool)(k:Int)(ch:List UInt8)(j:List UInt8):XS:=
 { p with e:=e,zs:=zs,ad:=ad,k:=k,ch:=ch,ep:=mO j (aT e zs ad k ch),jE:=zS (mO j (aT e zs ad k ch)) }
def xK:A→(XS→Prop)→Prop
 | .sref [.ints .i64 1 [e],.ints .i64 31 zs,.bools 8 ad,.ints .i64 1 [k],.bytes 32 ch,.ints .i64 1 [lf],.ints .i64 2 [x,y],.bytes 480 s,.bools 15 has,.bytes 32 ep,.bytes 32 jE] 0,K=>K ⟨e,zs,ad,k,ch,lf,x,y,s,has,ep,jE⟩
 |_,_=>False
theorem MP{x:A}{K:XS→Prop}(h:xK x K):∃p,x=.sref (dH p) 0∧K p:=by
 unfold xK at h
 split at h
 ·exact⟨_,rfl,h⟩
 ·exact h.elim
def xM:Bk→(XS→Prop)→Prop
 | .var [.ints .i64 1 [e],.ints .i64 31 zs,.bools 8 ad,.ints .i64 1 [k],.bytes 32 ch,.ints .i64 1 [lf],.ints .i64 2 [x,y],.bytes 480 s,.bools 15 has,.bytes 32 ep,.bytes 32 jE],K=>K ⟨e,zs,ad,k,ch,lf,x,y,s,has,ep,jE⟩
 |_,_=>False
theorem aG4{x:Bk}{K:XS→Prop}(h:xM x K):∃p,x=.var (dH p)∧K p:=by
 unfold xM at h
 split at h
 ·exact⟨_,rfl,h⟩
 ·exact h.elim
theorem EU(h:List UInt8)(l:ByteArray)(hl:l.size≤1000000):aQ 25 [.agg [.bytes 32 h],.v (.string l)] (.d (.agg [.bytes 32 (aF h (sb l) [])])):=by
 refine dF (E:=QV) Tryz.func25 Tryz.ntmps25 ?_
 refine aj ?_;(try exact⟨⟩)
def ah9:List A→(bP→Prop)→Prop
 |[.agg [.bytes 32 h],.v (.string l)],K=>l.size≤1000000∧K (.d (.agg [.bytes 32 (aF h (sb l) [])]))
 |_,_=>False
theorem ai0:∀args K,ah9 args K→∃r,aQ 25 args r∧K r:=by
 intro args K h
 unfold ah9 at h
 split at h
 ·exact⟨_,EU _ _ h.1,h.2⟩
 ·exact h.elim
noncomputable def aD1:av:=QV.add 25 ah9 ai0 ⟨_,Tryz.func25,by kernel_rfl,by kernel_rfl⟩
theorem QB(h:List UInt8):aQ 24 [.agg [.bytes 32 h]] (.d (.agg [.ints .i64 2 [au (jP h),aA 4 (au (jP h))]])):=by
 refine dF (E:=aD1) Tryz.func24 Tryz.ntmps24 ?_
 refine aj ?_;(try exact⟨⟩)
 try rfl
def QA:List A→(bP→Prop)→Prop
 |[.agg [.bytes 32 h]],K=>∀x y,x=au (jP h)→y=aA 4 (au (jP h))→K (.d (.agg [.ints .i64 2 [x,y]]))
 |_,_=>False
theorem V4:∀args K,QA args K→∃r,aQ 24 args r∧K r:=by
 intro args K h
 unfold QA at h
 split at h
 ·exact⟨_,QB _,h _ _ rfl rfl⟩
 ·exact h.elim
noncomputable def aD2:av:=aD1.add 24 QA V4 ⟨_,Tryz.func24,by kernel_rfl,by kernel_rfl⟩
theorem MU(h:List UInt8):aQ 10 [.agg [.bytes 32 h]] (.d (.agg [.ints .i64 2 (fu h)])):=by
 refine dF (E:=aD2) Tryz.func10 Tryz.ntmps10 ?_
 refine aj ?_;(try exact⟨⟩)
 intro x y hx hy
 refine aj ?_;(try exact⟨⟩)
 rw[hy]
 try rfl
def Qu:List A→(bP→Prop)→Prop
 |[.agg [.bytes 32 h]],K=>∀L,L=fu h→K (.d (.agg [.ints .i64 2 L]))
 |_,_=>False
theorem VP:∀args K,Qu args K→∃r,aQ 10 args r∧K r:=by
 intro args K h
 unfold Qu at h
 split at h
 ·exact⟨_,MU _,h _ rfl⟩
 ·exact h.elim
noncomputable def QZ:av:=aD2.add 10 Qu VP ⟨_,Tryz.func10,by kernel_rfl,by kernel_rfl⟩
theorem Xw{sc:List UInt8}(hs:sc.length=32):fC (fC (fC (fC gV 0 sc) 1 (zB 32)) 3 (zB 32)) 7 (zB 32)=fC gV 0 sc:=by
 have l0:=dP jo hs (show 0<15 by decide)
 have b1:∀j,j<15→j≠0→blk (fC gV 0 sc) j=zB 32:=fun j hj hn=>by rw[iN jo hs (by decide) hj,if_neg hn,vg hj]
 rw[Ap l0 (by simp) (by decide) (b1 1 (by decide) (by decide)),Ap l0 (by simp) (by decide) (b1 3 (by decide) (by decide)),Ap l0 (by simp) (by decide) (b1 7 (by decide) (by decide))]
theorem Cx{k:Nat}(hk:k<3):dO (zB 96) k=zB 32:=by
 unfold dO
 rw[List.drop_replicate,List.take_replicate,show min 32 (96-k*32)=32 by omega]
theorem Tx{p:PS}{a b:Int}(hz:p.zs=[a,b]++List.replicate 29 0)(hl:p.lf=0)(hb:p.ab=zB 96)(hs:p.sc.length=32):sP p=fC gV 0 p.sc∧nV p=Hq.set 0 true:=by
 constructor
 ·unfold sP
  rw[hl,hb,Cx (by decide),Cx (by decide),Cx (by decide)]
  exact Xw hs
 ·unfold nV
  rw[hl,hz]
  rfl
theorem NJ(h:List UInt8):dN (aY h)=⟨0,fu h++List.replicate 29 0,[true,false,false,false,false,false,false,false],1,zB 32,0,au (jP h),aA 4 (au (jP h)),fC gV 0 (aC h),Hq.set 0 true,Od (aC h),zS (Od (aC h))⟩:=by
 obtain⟨h1,h2⟩:=Tx (p:=aY h) (a:=aA 4 (au (jP h))) (b:=aH (aC h)) rfl rfl rfl (nM h)
 unfold dN
 rw[h1,h2]
 rfl
set_option maxHeartbeats 1000000 in
theorem Qo(h:List UInt8):aQ 9 [.agg [.bytes 32 h]] (.p (.var (dH (dN (aY h))))):=by
 refine dF (E:=QZ) Tryz.func9 Tryz.ntmps9 ?_
 refine aj ?_;(try exact⟨⟩)
 intro x y hx hy
 refine aj ?_;(try exact⟨⟩)
 intro L hL
 refine aj ?_;(try exact⟨⟩)
 have e:∀z:List UInt8,List.take 32 (aF h (sb ⟨#[108,101,97,102]⟩) []++z)=aF h (sb ⟨#[108,101,97,102]⟩) []:=fun z=>List.take_left' (nM h)
 simp only[e]
 rw[hx,hy,hL,NJ]
 unfold fC
 rfl
theorem Qp(p:XS)(l:ByteArray)(hl:l.size≤1000000):aQ 141 [.sref (dH p) 0,.v (.string l)] (.d (.agg [.bytes 32 (TD p.ep (sb l))])):=by
 refine dF (E:=QZ) Tryz.func141 Tryz.ntmps141 ?_
 refine aj ?_;(try exact⟨⟩)
 try rfl
set_option maxHeartbeats 1000000 in
theorem VH(p:XS)(e:Int)(zs:List Int)(ad:List Bool)(k:Int)(ch j:List UInt8):fK 53 0 (.var (dH p)) [.agg (bR e zs ad k ch),.agg [.bytes 32 j]]
  (.d (.agg [.bytes 32 (dY (mO j (aT e zs ad k ch)))])) (.var (dH (Ig p e zs ad k ch j))):=by
 refine mP (E:=QZ) Tryz.func53 Tryz.ntmps53 ?_
 have hv:(aT e zs ad k ch).length=32:=EN _ _ _ _ _
 refine aj ?_;(try exact⟨⟩)
 try rfl
end
section
open Pm
attribute [local irreducible] aV aZ bQ aA au dA cK bC aF bW aN aU ay ak aT dh bX bI fU iC aD aP jR dZ bZ bS aJ bT fJ gV
noncomputable def bj2:av:=QZ.add 105 (Pp 3) (zk fun zs n _=>R8 zs n) ⟨_,Tryz.func105,by kernel_rfl,by kernel_rfl⟩
theorem ai8(x:Int):aQ 104 [.v (.int .i64 x)] (.d (.agg [.ints .i64 3 (dD x)])):=by
 refine dF (E:=XG) Tryz.func104 Tryz.ntmps104 ?_
 cases h:aG x with
 |false=>
  refine ago ?_;(try exact⟨⟩)
  simp[dD,h]
 |true=>
  have h':=cZ h
  refine ago ?_;(try exact⟨⟩)
  simp[dD,h]
  have:x=0∨x=1∨x=2∨x=3∨x=4∨x=5∨x=6∨x=7:=by omega
  rcases this with rfl|rfl|rfl|rfl|rfl|rfl|rfl|rfl<;>decide
theorem Qz:∀args K,Aq args K→∃r,aQ 104 args r∧K r:=by
 intro args K h
 unfold Aq at h
 split at h
 ·exact⟨_,ai8 _,h⟩
 ·exact h.elim
noncomputable def aD3:av:=bj2.add 104 Aq Qz ⟨_,Tryz.func104,by kernel_rfl,by kernel_rfl⟩
theorem bp1{m:Int}(h0:0≤m)(h1:m<15):(bits BinOp.and IntKind.i64 m 1==1)=!decide (m.tmod 2=0)∧0≤m.tdiv 2∧m.tdiv 2<8:=by
 rcases yI ⟨h0,h1⟩with rfl|rfl|rfl|rfl|rfl|rfl|rfl|rfl|rfl|rfl|rfl|rfl|rfl|rfl|rfl<;>exact⟨by decide,by decide,by decide⟩
set_option maxHeartbeats 16000000 in
theorem MV(zs:List Int)(x:Int)(bt:List Bool)(hx:aG x=true):aQ 47 [.agg [.ints .i64 31 zs],.v (.int .i64 x),.agg [.bools 8 bt]] (.o 119 2 (aR zs x bt).length [.ints .i64 ((aR zs x bt).length*2) (bF (aR zs x bt))]):=by
 have e:aR zs x bt=bA zs bt x 3:=if_pos hx
 rw[e]
 clear e
 obtain⟨hx0,hx1⟩:=cZ hx
 refine dF (E:=aD3) Tryz.func47 Tryz.ntmps47 ?_
 clear hx
 refine aX ?_;(try exact⟨⟩)
 refine aM.mk (DT [1,3,5,7,8,9] 3 7 119 2 [.ints .i64 0 []] (fun s=>∃k:Nat,k≤3∧s=⟨[.ah,.d (.v (.int .i64 x)),.ah,.ptr 0 0,.ah,.ptr 1 0,.ah,.own 3 (bA zs bt x k).length,.ptr 2 0,.d (.v (.int .i64 (k:Nat))),.ah,.ah,.ah,.ah,.ah,.ah,.ah,.ah,.ah,.ah,.ah,.ah,.ah,.ah,.ah,.ah,.ah,.ah,.ah,.ah,.ah,.ah,.ah,.ah,.ah,.ah,.ah,.ah,.ah,.ah,.ah,.ah,.ah,.ah,.ah,.ah,.ah,.ah,.ah,.ah,.ah,.ah,.ah,.ah,.ah,.ah,.ah,.ah,.ah,.ah,.ah,.ah,.ah],[some (.var [.ints .i64 31 zs]),some (.var [.bools 8 bt]),some (.var [.ints .i64 3 (dD x)]),some (.sl 119 2 (bA zs bt x k).length [.ints .i64 ((bA zs bt x k).length*2) (bF (bA zs bt x k))])]⟩) (fun s=>3-lM s 9) rfl rfl rfl rfl ⟨0,by omega,rfl⟩ ?_)
 rintro s ⟨k,hk,rfl⟩
 have hw:IntKind.i64.wrap ((k:Int)+1)=((k+1:Nat):Int):=by rw[dM (by omega) (by omega)];omega
 by_cases hk3:k<3
 ·have O:okD 3 ((dD x).getD k 0)=true:=by simp[okD]
  have L:=Nat.le_trans (mo zs 3 ((dD x).getD k 0)) (show 2^3≤8 by decide)
  have P:=sN zs bt x k
  refine aX ?_;(try exact⟨⟩)
  have AP:∀m∈dI 3 zs ((dD x).getD k 0),0≤m∧m<15:=fun m=>oN zs 3 _ m
  generalize hr:dI 3 zs ((dD x).getD k 0)=r at*
  refine aM.mk (gB [1,3,5,7,8,9,10,11] 5 (fun s=>∃j:Nat,j≤r.length∧s=⟨[.ah,.d (.v (.int .i64 x)),.ah,.ptr 0 0,.ah,.ptr 1 0,.ah,.own 3 (bA zs bt x k++dX bt k (r.take j)).length,.ptr 2 0,.d (.v (.int .i64 (k:Nat))),.own 4 r.length,.d (.v (.int .i64 (j:Nat))),.ah,.ah,.ah,.ah,.ah,.ah,.ah,.ah,.ah,.ah,.ah,.ah,.ah,.ah,.ah,.ah,.ah,.ah,.ah,.ah,.ah,.ah,.ah,.ah,.ah,.ah,.ah,.ah,.ah,.ah,.ah,.ah,.ah,.ah,.ah,.ah,.ah,.ah,.ah,.ah,.ah,.ah,.ah,.ah,.ah,.ah,.ah,.ah,.ah,.ah,.ah],[some (.var [.ints .i64 31 zs]),some (.var [.bools 8 bt]),some (.var [.ints .i64 3 (dD x)]),some (.sl 119 2 (bA zs bt x k++dX bt k (r.take j)).length [.ints .i64 ((bA zs bt x k++dX bt k (r.take j)).length*2) (bF (bA zs bt x k++dX bt k (r.take j)))]),some (.sl 3 1 r.length [.ints .i64 r.length r])]⟩) (fun s=>r.length-lM s 11) rfl ⟨0,by omega,by rw[List.take_zero,show dX bt k []=[]from rfl,List.append_nil];rfl⟩ ?_)
  rintro s ⟨j,hj,rfl⟩
  have YR:IntKind.i64.wrap ((j:Int)+1)=((j+1:Nat):Int):=by rw[dM (by omega) (by omega)];omega
  by_cases hj2:j<r.length
  ·have hs:=Bb bt k r j hj2
   obtain⟨n0,n1⟩:=AP (r.getD j 0) (by rw[List.getD_eq_getElem?_getD,List.getElem?_eq_getElem hj2];simp)
   have hl:(bA zs bt x k++dX bt k (r.take j)).length≤100:=by
    have:=xJ bt k (r.take j)
    rw[List.length_append];rw[List.length_take]at this;omega
   obtain⟨p0,p1,p2⟩:=bp1 n0 n1
   clear AP P
   cases hd:decide ((r.getD j 0).tmod 2=0)with
   |false=>
    have hu:mD bt (r.getD j 0)=false:=by unfold mD;rw[hd];rfl
    rw[hd]at p0
    rw[hu,if_neg (by simp)]at hs
    rw[←List.append_cancel_left_eq (bA zs bt x k),←List.append_assoc]at hs
    generalize bA zs bt x k++dX bt k (r.take j)=q at*
    clear hu hd
    have p0:(bits BinOp.and IntKind.i64 (r.getD j 0) 1==1)=true:=p0
    refine aX ?_;(try exact⟨⟩)
    refine⟨⟨j+1,by omega,by rw[hs,oq,List.length_append,Nat.add_mul,←YR];rfl⟩,?_⟩
    show r.length- (IntKind.i64.wrap ((j:Int)+1)).toNat<r.length- (j:Int).toNat
    rw[YR];omega
   |true=>
    rw[hd]at p0
    have p0:(bits BinOp.and IntKind.i64 (r.getD j 0) 1==1)=false:=p0
    have hwq:IntKind.i64.wrap ((r.getD j 0).tdiv 2)=(r.getD j 0).tdiv 2:=dM (by omega) (by omega)
    have q0:0≤IntKind.i64.wrap ((r.getD j 0).tdiv 2):=by rw[hwq];exact p1
    have q1:IntKind.i64.wrap ((r.getD j 0).tdiv 2)<8:=by rw[hwq];exact p2
    clear p1 p2
    cases hb:bt.getD (IntKind.i64.wrap ((r.getD j 0).tdiv 2)).toNat false with
    |true=>
     have hu:mD bt (r.getD j 0)=true:=by unfold mD;rw[hd,←hwq,hb];rfl
     rw[hu,if_pos rfl,List.append_nil]at hs
     clear hu hd hwq
     refine aX ?_;(try exact⟨⟩)
     refine⟨⟨j+1,by omega,by rw[hs,←YR];rfl⟩,?_⟩
     show r.length- (IntKind.i64.wrap ((j:Int)+1)).toNat<r.length- (j:Int).toNat
     rw[YR];omega
    |false=>
     have hu:mD bt (r.getD j 0)=false:=by unfold mD;rw[hd,←hwq,hb];rfl
     rw[hu,if_neg (by simp)]at hs
     rw[←List.append_cancel_left_eq (bA zs bt x k),←List.append_assoc]at hs
     generalize bA zs bt x k++dX bt k (r.take j)=q at*
     clear hu hd hwq
     refine aX ?_;(try exact⟨⟩)
     refine⟨⟨j+1,by omega,by rw[hs,oq,List.length_append,Nat.add_mul,←YR];rfl⟩,?_⟩
     show r.length- (IntKind.i64.wrap ((j:Int)+1)).toNat<r.length- (j:Int).toNat
     rw[YR];omega
  ·have hj3:r.take j=r:=List.take_of_length_le (by omega)
   rw[hj3]
   have hs:bA zs bt x (k+1)=bA zs bt x k++dX bt k r:=by rw[bA,hr]
   rw[←hs]
   clear AP P
   refine aX ?_;(try exact⟨⟩)
   refine⟨⟨k+1,by omega,by rw[←hw];rfl⟩,?_⟩
   show 3- (IntKind.i64.wrap ((k:Int)+1)).toNat<3- (k:Int).toNat
   rw[hw];omega
 ·obtain rfl:k=3:=by omega
  refine aX ?_;(try exact⟨⟩)
end
section
open Pm
attribute [local irreducible] aV aZ bQ aA au dA cK bC aF bW aN aU ay ak aT dh bX bI fU iC aP jR dZ bZ bS aJ bT fJ gV
set_option maxHeartbeats 4000000 in
theorem ET(a b:Int):aQ 56 [.v (.int .i64 a),.v (.int .i64 b)] (.d (.v (.int .i64 (aD a b)))):=by
 refine dF (E:=Ko) Tryz.func56 Tryz.ntmps56 ?_
 cases h:aG a with
 |false=>
  refine ago ?_;(try exact⟨⟩)
  simp[aD,h]
 |true=>
  have h':=cZ h
  have e1:IntKind.i64.wrap (2*a)=2*a:=dM (by omega) (by omega)
  cases g:aG b with
  |false=>
   refine ago ?_;(try exact⟨⟩)
   simp[aD,g]
  |true=>
   have g':=cZ g
   by_cases c:a=b
   ·subst c
    refine ago ?_;(try exact⟨⟩)
    simp[aD,h,e1]
   ·by_cases c1:a / 2=b / 2
    ·have u1:aI (a / 2*4+1) b=true:=by simp[aI,g,c1]
     have u1':aI (b / 2*4+1) b=true:=by simp[aI,g]
     refine ago ?_;(try exact⟨⟩)
     refine aM.mk (aB 4 ?_)
     refine ago ?_;(try exact⟨⟩)
     simp[aD,h,g,c,c1]
    ·have u1:aI (a / 2*4+1) b=false:=by simp[aI,g]<;>omega
     by_cases c2:a / 4=b / 4
     ·have u2:aI (a / 4*8+3) b=true:=by simp[aI,g,c2]
      have u2':aI (b / 4*8+3) b=true:=by simp[aI,g]
      refine ago ?_;(try exact⟨⟩)
      refine aM.mk (aB 4 ?_)
      refine ago ?_;(try exact⟨⟩)
      simp[aD,h,g,c,c1,c2]
     ·have u2:aI (a / 4*8+3) b=false:=by simp[aI,g]<;>omega
      have u3:aI 7 b=true:=by simp[aI,g]
      refine ago ?_;(try exact⟨⟩)
      refine aM.mk (aB 4 ?_)
      refine ago ?_;(try exact⟨⟩)
      simp[aD,h,g,c,c1,c2]
noncomputable def bj3:av:=aD3.add 56 vB (rV ET) ⟨_,Tryz.func56,by kernel_rfl,by kernel_rfl⟩
def JR:List A→(bP→Prop)→Prop
 |[.agg [.ints .i64 31 zs],.v (.int .i64 x),.agg [.bools 8 bt]],K=>aG x=true∧∀N L,N=(aR zs x bt).length→L=bF (aR zs x bt)→K (.o 119 2 N [.ints .i64 (N*2) L])
 |_,_=>False
theorem Ho:∀args K,JR args K→∃r,aQ 47 args r∧K r:=by
 intro args K h
 unfold JR at h
 split at h
 ·exact⟨_,MV _ _ _ h.1,h.2 _ _ rfl rfl⟩
 ·exact h.elim
noncomputable def bj4:av:=bj3.add 47 JR Ho ⟨_,Tryz.func47,by kernel_rfl,by kernel_rfl⟩
noncomputable def aD4:av:=bj4.add 49 DK (uF Jl) ⟨_,Tryz.func49,by kernel_rfl,by kernel_rfl⟩
set_option maxHeartbeats 2000000 in
theorem ai6(p:XS)(e:Int)(zs:List Int)(ad:List Bool)(k:Int)(ch:List UInt8)(c:CS)(hc:qH c)(ht:c.tag.length=32)(u:List UInt8)(he: -4611686018427387904≤p.e∧p.e≤4611686018427387904):
  aQ 52 [.sref (dH p) 0,.agg (bR e zs ad k ch),.agg (gW c),.agg [.bytes 32 u]] (.t [.agg (bR (p.e+1) zs ad k (tY p.ch (aU c))),.agg [.bytes 32 (kV p.jE u)]]):=by
 refine gY fun hL=>?_
 have hu:u.length≤100000000:=by have:u.length=32:=hL.2.2.1.1;omega
 clear hL
 refine dF (E:=aD4) Tryz.func52 Tryz.ntmps52 ?_
 obtain⟨h1,h2,h3,h4,h5,h6⟩:=id hc
 obtain⟨he0,he1⟩:=he
 have hb0:=yw hc
 have hb:(aU c).length≤100000000:=by rw[iT hc];omega
 clear hb0
 refine aj ?_;(try exact⟨⟩)
 refine Or.inr ?_
 refine aj ?_;(try exact⟨⟩)
 rfl
def JO:List A→(bP→Prop)→Prop
 |[x,.agg [.ints .i64 1 [e],.ints .i64 31 zs,.bools 8 ad,.ints .i64 1 [k],.bytes 32 ch],y,.agg [.bytes 32 u]],K=>
  xK x fun p=>oW y fun c=> -4611686018427387904≤p.e∧p.e≤4611686018427387904∧K (.t [.agg (bR (p.e+1) zs ad k (tY p.ch (aU c))),.agg [.bytes 32 (kV p.jE u)]])
 |_,_=>False
theorem Hl:∀args K,JO args K→∃r,aQ 52 args r∧K r:=by
 intro args K h
 unfold JO at h
 split at h
 ·obtain⟨p,rfl,h⟩:=MP h
  obtain⟨c,⟨h1,h2,h⟩,hc⟩:=gG h
  refine⟨_,fun S w vs' hG ha=>?_,h⟩
  obtain⟨v1,v2,v3,v4,rfl,k1,k2,k3,k4⟩:=mh ha
  obtain⟨q1,q2,q3⟩:=hc k3
  exact ai6 p _ _ _ _ _ c q2 q3 _ ⟨h1,h2⟩ S w _ hG (.cons k1 (.cons k2 (.cons q1 (.cons k4 .nil))))
 ·exact h.elim
noncomputable def bj5:av:=aD4.add 52 JO Hl ⟨_,Tryz.func52,by kernel_rfl,by kernel_rfl⟩
def Sv:Nat→Bk→List A→(bP→Bk→Prop)→Prop
 |0,b,[.agg [.ints .i64 1 [e],.ints .i64 31 zs,.bools 8 ad,.ints .i64 1 [k],.bytes 32 ch],.agg [.bytes 32 j]],K=>xM b fun p=>K (.d (.agg [.bytes 32 (dY (mO j (aT e zs ad k ch)))])) (.var (dH (Ig p e zs ad k ch j)))
 |_,_,_,_=>False
theorem MS:∀pos x args K,Sv pos x args K→∃r x',fK 53 pos x args r x'∧K r x':=by
 intro pos x args K h
 unfold Sv at h
 split at h
 ·obtain⟨p,rfl,h⟩:=aG4 h
  exact⟨_,_,VH p _ _ _ _ _ _,h⟩
 ·exact h.elim
noncomputable def Q0:av:=bj5.kr 53 Sv MS ⟨_,Tryz.func53,by kernel_rfl,by kernel_rfl⟩
end
section
open Pm
attribute [local irreducible] aV aZ bQ aA au dA cK aF bW aN aU ay ak aT dh bX aR bI fU iC aD bB aP jR dZ bZ bS aJ bT fJ gV
theorem q9:∀(l:List (Int×Int)) (k:Nat),(bF l).getD (k*2) 0=(l.getD k (0,0)).1∧(bF l).getD (k*2+1) 0=(l.getD k (0,0)).2
 |[],k=>by simp[bF]
 |p::l,0=>by simp[bF]
 |p::l,k+1=>by
  have:=q9 l k
  rw[show(k+1)*2=k*2+2 by omega]
  simpa[bF]using this
def al7:List A→(bP→Prop)→Prop
 |[.agg [.ints .i64 1 [e],.ints .i64 31 zs,.bools 8 ad,.ints .i64 1 [k],.bytes 32 ch],.v (.int .i64 fr),x,y],K=>uL x fun n ops=>EO y fun m vs=>∀er,er=bX e zs ad k ch fr ops n vs m→K (.d (.v (.int .i64 er)))
 |_,_=>False
theorem QS{f:FuncId}(hx:∀e zs ad k ch fr ops n,n≤1000000→∀vs m,m≤1000000→vs.length=m*3→aQ f [.agg (bR e zs ad k ch),.v (.int .i64 fr),.row n [.ints .i64 (n*5) ops],.row m [.ints .i64 (m*3) vs]] (.d (.v (.int .i64 (bX e zs ad k ch fr ops n vs m))))):∀args K,al7 args K→∃r,aQ f args r∧K r:=by
 intro args K h
 unfold al7 at h
 split at h
 ·obtain⟨n,ops,hn,h,hp⟩:=gJ h
  obtain⟨m,vs,hm,h,hq⟩:=kH h
  refine⟨_,fun S w vs' hG ha=>?_,h _ rfl⟩
  obtain⟨v1,v2,v3,v4,rfl,k1,k2,k3,k4⟩:=mh ha
  have k5:=hq k4
  have hl:vs.length=m*3:=by cases k5 with|row k6 _ _ _ _=>exact k6.kN.1
  exact hx _ _ _ _ _ _ _ _ hn _ _ hm hl S w _ hG (.cons k1 (.cons k2 (.cons (hp k3) (.cons k5 .nil))))
 ·exact h.elim
def ak7:List A→(bP→Prop)→Prop
 |[.agg [.ints .i64 1 [e],.ints .i64 31 zs,.bools 8 ad,.ints .i64 1 [k],.bytes 32 ch],.v (.int .i64 fr),x],K=>
  uL x fun n ops=>∀er,er=(dh e ⟨zs,ad,k,F8,F8⟩ fr ops n).1→mI (aV (decide (er=0))
   (∀s,s=(dh e ⟨zs,ad,k,F8,F8⟩ fr ops n).2→K (.t [.agg [.ints .i64 1 [e],.ints .i64 31 s.zs,.bools 8 s.ad,.ints .i64 1 [s.k],.bytes 32 ch],.agg [.bools 8 s.ng],.agg [.bools 8 s.gn],.v (.int .i64 0)]))
   (K (.t [.agg wL,.agg [.bools 8 F8],.agg [.bools 8 F8],.v (.int .i64 er)])))
 |_,_=>False
theorem QH{f:FuncId}(hx:∀e zs ad k ch fr ops n,n≤1000000→aQ f [.agg (bR e zs ad k ch),.v (.int .i64 fr),.row n [.ints .i64 (n*5) ops]] (.t (Fa e zs ad k ch fr ops n))):∀args K,ak7 args K→∃r,aQ f args r∧K r:=by
 intro args K h
 unfold ak7 at h
 split at h
 ·next e zs ad k ch fr x=>
  obtain⟨n,ops,hn,h,hv⟩:=gJ h
  have h:=(h _ rfl).out
  refine⟨.t (Fa e zs ad k ch fr ops n),fun S w vs hG ha=>?_,?_⟩
  ·obtain⟨v1,v2,v3,rfl,h1,h2,h3⟩:=jC ha
   exact hx e zs ad k ch fr ops n hn S w _ hG (.cons h1 (.cons h2 (.cons (hv h3) .nil)))
  ·unfold Fa
   by_cases he:(dh e ⟨zs,ad,k,F8,F8⟩ fr ops n).1=0
   ·rw[decide_eq_true he,iI]at h
    rw[if_pos he]
    exact h _ rfl
   ·rw[decide_eq_false he,gQ]at h
    rw[if_neg he]
    exact h
 ·exact h.elim
def Sr:List A→(bP→Prop)→Prop
 |[.agg [.bytes 32 h],.v (.string l)],K=>l.size≤1000000∧∀u,u=aF h (sb l) []→K (.d (.agg [.bytes 32 u]))
 |_,_=>False
theorem MR:∀args K,Sr args K→∃r,aQ 25 args r∧K r:=by
 intro args K h
 unfold Sr at h
 split at h
 ·exact⟨_,EU _ _ h.1,h.2 _ rfl⟩
 ·exact h.elim
def aS6:List A→(bP→Prop)→Prop
 |[.agg [.bytes 32 h]],K=>∀U T,U=fJ h→T=uY h→K (.t [.agg [.bytes 96 U],.agg [.bytes 32 T]])
 |_,_=>False
theorem az2:∀args K,aS6 args K→∃r,aQ 45 args r∧K r:=by
 intro args K h
 unfold aS6 at h
 split at h
 ·exact Mi _ _ (h _ _ rfl rfl)
 ·exact h.elim
noncomputable def bj6:av:=aA8.add 43 al7 (QS Ai) ⟨_,Tryz.func43,by kernel_rfl,by kernel_rfl⟩
noncomputable def bj7:av:=bj6.add 44 ak7 (QH vP) ⟨_,Tryz.func44,by kernel_rfl,by kernel_rfl⟩
noncomputable def bj8:av:=bj7.add 25 Sr MR ⟨_,Tryz.func25,by kernel_rfl,by kernel_rfl⟩
noncomputable def bj9:av:=bj8.add 45 aS6 az2 ⟨_,Tryz.func45,by kernel_rfl,by kernel_rfl⟩
noncomputable def bk0:av:=bj9.add 46 LD (Ed Ev) ⟨_,Tryz.func46,by kernel_rfl,by kernel_rfl⟩
noncomputable def bk3:av:=bk0.add 26 zn xR ⟨_,Tryz.func26,by kernel_rfl,by kernel_rfl⟩
noncomputable def bk4:av:=bk3.add 47 JR Ho ⟨_,Tryz.func47,by kernel_rfl,by kernel_rfl⟩
noncomputable def bk5:av:=bk4.add 49 DK (uF Jl) ⟨_,Tryz.func49,by kernel_rfl,by kernel_rfl⟩
noncomputable def bk6:av:=bk5.add 51 Uq (Ce RZ) ⟨_,Tryz.func51,by kernel_rfl,by kernel_rfl⟩
noncomputable def bk7:av:=bk6.add 50 rF qo ⟨_,Tryz.func50,by kernel_rfl,by kernel_rfl⟩
noncomputable def bk8:av:=bk7.ak4 48 GQ (zq Mc) ⟨_,Tryz.func48,by kernel_rfl,by kernel_rfl⟩
noncomputable def bk9:av:=bk8.add 52 JO Hl ⟨_,Tryz.func52,by kernel_rfl,by kernel_rfl⟩
noncomputable def bl0:av:=bk9.kr 53 Sv MS ⟨_,Tryz.func53,by kernel_rfl,by kernel_rfl⟩
noncomputable def bl1:av:=bl0.add 55 (Xl vX) (Ic Eb) ⟨_,Tryz.func55,by kernel_rfl,by kernel_rfl⟩
noncomputable def bl2:av:=bl1.add 54 Jp GH ⟨_,Tryz.func54,by kernel_rfl,by kernel_rfl⟩
noncomputable def bl3:av:=bl2.add 56 vB (rV ET) ⟨_,Tryz.func56,by kernel_rfl,by kernel_rfl⟩
noncomputable def yG:av:=bl3.add 57 sw DI ⟨_,Tryz.func57,by kernel_rfl,by kernel_rfl⟩
end
section
open Pm
def yT(has:List Bool)(zs:List Int)(j:Nat):Bool:=has.getD j false&&bB zs (j:Nat) !=0
def nE(S:List UInt8)(has:List Bool)(zs:List Int):Nat→List UInt8
 |0=>gV
 |j+1=>if yT has zs j=true then fC (nE S has zs j) j (blk S j)else nE S has zs j
def qU(has:List Bool)(zs:List Int):Nat→List Bool
 |0=>Hq
 |j+1=>if yT has zs j=true then(qU has zs j).set j true else qU has zs j
theorem Hy{S:List UInt8}(hS:S.length=480){j:Nat}(hj:j<15):(blk S j).length=32:=by unfold blk;simp;omega
theorem yU{S:List UInt8}(hS:S.length=480)(has:List Bool)(zs:List Int):∀n:Nat,n≤15→(nE S has zs n).length=480
 |0,_=>jo
 |n+1,h=>by
  unfold nE
  split
  ·exact dP (yU hS has zs n (by omega)) (Hy hS (by omega)) (by omega)
  ·exact yU hS has zs n (by omega)
theorem IG{S:List UInt8}(hS:S.length=480)(has:List Bool)(zs:List Int):∀n:Nat,n≤15→∀j,j<15→blk (nE S has zs n) j=if j<n∧yT has zs j=true then blk S j else zB 32
 |0,_,j,hj=>by
  rw[if_neg (by omega)]
  exact vg hj
 |n+1,h,j,hj=>by
  have ih:=IG hS has zs n (by omega) j hj
  unfold nE
  by_cases e:j=n
  ·subst e
   by_cases o:yT has zs j=true
   ·rw[if_pos o,iN (yU hS has zs j (by omega)) (Hy hS hj) hj hj,if_pos rfl,if_pos ⟨by omega,o⟩]
   ·rw[if_neg o,ih,if_neg (by omega),if_neg (fun h=>o h.2)]
  ·have hlt:(j<n+1∧yT has zs j=true)↔(j<n∧yT has zs j=true):=⟨fun⟨a,b⟩=>⟨by omega,b⟩,fun⟨a,b⟩=>⟨by omega,b⟩⟩
   by_cases o:yT has zs n=true
   ·rw[if_pos o,iN (yU hS has zs n (by omega)) (Hy hS (by omega)) (by omega) hj,if_neg e,ih]
    by_cases q:j<n∧yT has zs j=true
    ·rw[if_pos q,if_pos (hlt.2 q)]
    ·rw[if_neg q,if_neg (fun h=>q (hlt.1 h))]
   ·rw[if_neg o,ih]
    by_cases q:j<n∧yT has zs j=true
    ·rw[if_pos q,if_pos (hlt.2 q)]
    ·rw[if_neg q,if_neg (fun h=>q (hlt.1 h))]
theorem BX(has:List Bool)(zs:List Int):∀n:Nat,(qU has zs n).length=15
 |0=>by simp[qU]
 |n+1=>by
  unfold qU
  split
  ·rw[List.length_set];exact BX has zs n
  ·exact BX has zs n
theorem IE(has:List Bool)(zs:List Int):∀n:Nat,n≤15→∀j,j<15→(qU has zs n).getD j false=(decide (j<n)&&yT has zs j)
 |0,_,j,hj=>by
  show Hq.getD j false=_
  rw[List.getD_eq_getElem?_getD,List.getElem?_replicate,if_pos hj,decide_eq_false (by omega)]
  rfl
 |n+1,h,j,hj=>by
  have ih:=IE has zs n (by omega) j hj
  unfold qU
  by_cases e:j=n
  ·subst e
   rw[decide_eq_true (show j<j+1 by omega),Bool.true_and]
   by_cases o:yT has zs j=true
   ·rw[if_pos o,jD,if_pos ⟨rfl,by rw[BX];exact hj⟩,o]
   ·rw[if_neg o,ih,decide_eq_false (by omega)]
    simpa using o
  ·have hd:decide (j<n+1)=decide (j<n):=by
    by_cases q:j<n
    ·rw[decide_eq_true q,decide_eq_true (by omega)]
    ·rw[decide_eq_false q,decide_eq_false (by omega)]
   rw[hd]
   by_cases o:yT has zs n=true
   ·rw[if_pos o,jD,if_neg (fun h=>e h.1.symm),ih]
   ·rw[if_neg o,ih]
theorem IB{zs:List Int}{n:Nat}(h1:n<15)(h2:n%2=1):(bB zs (n:Nat) !=0)=aL zs (16+n):=by
 unfold bB aL
 rw[if_pos (by omega),if_neg (by omega),Int.toNat_natCast]
theorem YJ{l:List Bool}(hl:l.length=15){lf:Int}(h0:0≤lf)(h1:lf<8){a b c:Bool}(h:∀j,j<15→l.getD j false=(kU lf a b c).getD j false):l=kU lf a b c:=by
 refine List.ext_getElem (by rw[hl,nK]) fun j h1 h2=>?_
 have:=h j (by omega)
 rw[List.getD_eq_getElem?_getD,List.getD_eq_getElem?_getD,List.getElem?_eq_getElem h1,List.getElem?_eq_getElem h2]at this
 exact this
section
variable {p : PS} (h : JU p) {zs : List Int} (hl : bB zs (2 * p.lf) ≠ 0)
include h hl
theorem Y8{j:Nat}(hj:j<15):yT (nV p) zs j=if j=7 then(aL p.zs 23&&aL zs 23)else if j=n2 p.lf then(aL p.zs (16+n2 p.lf)&&aL zs (16+n2 p.lf))else if j=n1 p.lf then(aL p.zs (16+n1 p.lf)&&aL zs (16+n1 p.lf))else decide (j=(2*p.lf).toNat):=by
 have l0:=h.lf0
 have l1:=h.lf1
 obtain⟨k1,k2,k3,k4,k5,k6,k7,k8,k9⟩:=tK l0 l1
 have o1:n1 p.lf%2=1:=by unfold n1;omega
 have o2:n2 p.lf%2=1:=by unfold n2;omega
 unfold yT nV
 rw[l5 l0 l1 _ _ _ hj]
 by_cases e1:j=7
 ·rw[if_pos e1,if_pos e1,e1,IB (by decide) (by decide)]
 ·rw[if_neg e1,if_neg e1]
  by_cases e2:j=n2 p.lf
  ·rw[if_pos e2,if_pos e2,e2,IB k3 o2]
  ·rw[if_neg e2,if_neg e2]
   by_cases e3:j=n1 p.lf
   ·rw[if_pos e3,if_pos e3,e3,IB k2 o1]
   ·rw[if_neg e3,if_neg e3]
    by_cases e4:j=(2*p.lf).toNat
    ·have:((j:Nat):Int)=2*p.lf:=by omega
     rw[this,decide_eq_true e4,Bool.true_and]
     simpa using hl
    ·rw[decide_eq_false e4,Bool.false_and]
theorem aO7:qU (nV p) zs 15=kU p.lf (aL p.zs (16+n1 p.lf)&&aL zs (16+n1 p.lf)) (aL p.zs (16+n2 p.lf)&&aL zs (16+n2 p.lf)) (aL p.zs 23&&aL zs 23):=by
 refine YJ (BX _ _ 15) h.lf0 h.lf1 fun j hj=>?_
 rw[IE _ _ 15 (by decide) j hj,Y8 h hl hj,l5 h.lf0 h.lf1 _ _ _ hj,decide_eq_true hj,Bool.true_and]
end
end
section
open Pm
structure PL(p:PS):Prop where
 lf0:0≤p.lf
 lf1:p.lf<8
 sl:p.sc.length=32
 bl:p.ab.length=96
theorem sZ{p:PS}(h:PL p):(sP p).length=480:=by
 obtain⟨k1,k2,k3,_⟩:=tK h.lf0 h.lf1
 unfold sP
 exact dP (dP (dP (dP jo h.sl k1) (eT h.bl (by decide)) k2) (eT h.bl (by decide)) k3) (eT h.bl (by decide)) (by decide)
theorem vV{p:PS}(h:PL p){j:Nat}(hj:j<15):blk (sP p) j=if j=7 then dO p.ab 2 else if j=n2 p.lf then dO p.ab 1 else if j=n1 p.lf then dO p.ab 0 else if j=(2*p.lf).toNat then p.sc else zB 32:=by
 obtain⟨k1,k2,k3,_⟩:=tK h.lf0 h.lf1
 have l0:=dP jo h.sl k1
 have l1:=dP l0 (eT h.bl (show 0<3 by decide)) k2
 have l2:=dP l1 (eT h.bl (show 1<3 by decide)) k3
 unfold sP
 rw[iN l2 (eT h.bl (by decide)) (by decide) hj,iN l1 (eT h.bl (by decide)) k3 hj,iN l0 (eT h.bl (by decide)) k2 hj,iN jo h.sl k1 hj,vg hj]
theorem Vf{p:PS}(hb:p.ab.length=96){k:Nat}(hk:k<3){u:List UInt8}(hu:u.length=32){j:Nat}(hj:j<3):dO (gF p k u).ab j=if j=k then u else dO p.ab j:=by
 unfold dO gF
 have h1:(p.ab.take (k*32)).length=k*32:=by simp;omega
 dsimp only
 by_cases e:j=k
 ·subst e
  rw[if_pos rfl,List.drop_append_of_le_length (by omega),List.drop_eq_nil_of_le (by omega),List.nil_append,List.take_append_of_le_length (by omega),List.take_of_length_le (by omega)]
 ·rw[if_neg e]
  rcases Nat.lt_or_ge j k with h2|h2
  ·rw[List.drop_append_of_le_length (by omega),List.take_append_of_le_length (by simp;omega),List.drop_take,List.take_take,show min 32 (k*32-j*32)=32 by omega]
  ·rw[List.drop_append,List.drop_eq_nil_of_le (by omega),List.nil_append,h1,List.drop_append,List.drop_eq_nil_of_le (by omega),List.nil_append,List.drop_drop,hu]
   congr 2
   omega
theorem PL.set{p:PS}(h:PL p){k:Nat}(hk:k<3){u:List UInt8}(hu:u.length=32):PL (gF p k u):=by
 have hb:=h.bl
 exact⟨h.lf0,h.lf1,h.sl,by unfold gF;simp;omega⟩
theorem bp7{p q:PS}(hp:PL p)(hq:PL q)(e1:q.lf=p.lf)(e2:q.sc=p.sc)(h:∀k,k<3→dO q.ab k=dO p.ab k):sP q=sP p:=by
 refine yu (sZ hq) (sZ hp) fun j hj=>?_
 rw[vV hq hj,vV hp hj,e1,e2,h 0 (by decide),h 1 (by decide),h 2 (by decide)]
theorem PI{p:PS}(h:PL p){k:Nat}(hk:k<3){u:List UInt8}(hu:u.length=32){m:Nat}(hm:m=if k=0 then n1 p.lf else if k=1 then n2 p.lf else 7):fC (sP p) m u=sP (gF p k u):=by
 obtain⟨k1,k2,k3,k4,k5,k6,k7,k8,k9⟩:=tK h.lf0 h.lf1
 have m1:m<15:=by
  rw[hm]
  split
  ·exact k2
  ·split
   ·exact k3
   ·decide
 refine yu (dP (sZ h) hu m1) (sZ (h.set hk hu)) fun j hj=>?_
 rw[iN (sZ h) hu m1 hj,vV (h.set hk hu) hj,vV h hj]
 have el:(gF p k u).lf=p.lf:=rfl
 have es:(gF p k u).sc=p.sc:=rfl
 rw[el,es]
 have ab:=fun j hj=>Vf h.bl hk hu (j:=j) hj
 have:k=0∨k=1∨k=2:=by omega
 rcases this with rfl|rfl|rfl
 ·have b0:dO (gF p 0 u).ab 0=u:=ab 0 (by decide)
  have b1:dO (gF p 0 u).ab 1=dO p.ab 1:=ab 1 (by decide)
  have b2:dO (gF p 0 u).ab 2=dO p.ab 2:=ab 2 (by decide)
  have hm:m=n1 p.lf:=hm
  rw[b0,b1,b2,hm]
  by_cases e:j=n1 p.lf
  ·rw[if_pos e,if_neg (by omega),if_neg (by omega),if_pos e]
  ·rw[if_neg e,if_neg e,if_neg e]
 ·have b0:dO (gF p 1 u).ab 0=dO p.ab 0:=ab 0 (by decide)
  have b1:dO (gF p 1 u).ab 1=u:=ab 1 (by decide)
  have b2:dO (gF p 1 u).ab 2=dO p.ab 2:=ab 2 (by decide)
  have hm:m=n2 p.lf:=hm
  rw[b0,b1,b2,hm]
  by_cases e:j=n2 p.lf
  ·rw[if_pos e,if_neg (by omega),if_pos e]
  ·rw[if_neg e,if_neg e,if_neg e]
 ·have b0:dO (gF p 2 u).ab 0=dO p.ab 0:=ab 0 (by decide)
  have b1:dO (gF p 2 u).ab 1=dO p.ab 1:=ab 1 (by decide)
  have b2:dO (gF p 2 u).ab 2=u:=ab 2 (by decide)
  have hm:m=7:=hm
  rw[b0,b1,b2,hm]
  by_cases e:j=7
  ·rw[if_pos e,if_pos e]
  ·rw[if_neg e,if_neg e,if_neg e]
theorem vF{l:List Bool}(hl:l.length=15){lf:Int}{a b c:Bool}(h:∀j,j<15→l.getD j false=(kU lf a b c).getD j false):l=kU lf a b c:=by
 refine List.ext_getElem (by rw[hl,nK]) fun j h1 h2=>?_
 have:=h j (by omega)
 rw[List.getD_eq_getElem?_getD,List.getD_eq_getElem?_getD,List.getElem?_eq_getElem h1,List.getElem?_eq_getElem h2]at this
 exact this
theorem Dw{lf:Int}(h0:0≤lf)(h1:lf<8)(a b c:Bool):(kU lf a b c).set (n1 lf) true=kU lf true b c∧(kU lf a b c).set (n2 lf) true=kU lf a true c∧(kU lf a b c).set 7 true=kU lf a b true:=by
 obtain⟨k1,k2,k3,k4,k5,k6,k7,k8,k9⟩:=tK h0 h1
 refine⟨vF (by simp[nK]) fun j hj=>?_,vF (by simp[nK]) fun j hj=>?_,vF (by simp[nK]) fun j hj=>?_⟩
 ·rw[jD,l5 h0 h1 _ _ _ hj,l5 h0 h1 _ _ _ hj,nK]
  by_cases e:j=n1 lf
  ·rw[if_pos ⟨e.symm,k2⟩,if_neg (by omega),if_neg (by omega),if_pos e]
  ·rw[if_neg (fun x=>e x.1.symm),if_neg e,if_neg e]
 ·rw[jD,l5 h0 h1 _ _ _ hj,l5 h0 h1 _ _ _ hj,nK]
  by_cases e:j=n2 lf
  ·rw[if_pos ⟨e.symm,k3⟩,if_neg (by omega),if_pos e]
  ·rw[if_neg (fun x=>e x.1.symm),if_neg e,if_neg e]
 ·rw[jD,l5 h0 h1 _ _ _ hj,l5 h0 h1 _ _ _ hj,nK]
  by_cases e:j=7
  ·rw[if_pos ⟨e.symm,by decide⟩,if_pos e]
  ·rw[if_neg (fun x=>e x.1.symm),if_neg e,if_neg e]
def BL(zs:List Int)(lf:Int)(h S:List UInt8)(H:List Bool):Bool×List UInt8×List UInt8×List Bool:=
 if(aA 4 (au (ay h)) !=zs.getD 23 0)=true then(false,h,S,H)else(true,ak h,fC S 7 h,H.set 7 true)
def ES(zs:List Int)(lf:Int)(h S:List UInt8)(H:List Bool):Bool×List UInt8×List UInt8×List Bool:=
 if(aA 4 (au (ay h)) !=zs.getD (16+n2 lf) 0)=true then(false,h,S,H)else BL zs lf (ak h) (fC S (n2 lf) h) (H.set (n2 lf) true)
def JM(zs:List Int)(lf:Int)(h S:List UInt8)(H:List Bool):Bool×List UInt8×List UInt8×List Bool:=
 if(aA 4 (au (ay h)) !=zs.getD (16+n1 lf) 0)=true then(false,h,S,H)else ES zs lf (ak h) (fC S (n1 lf) h) (H.set (n1 lf) true)
def kI(zs:List Int)(lf:Int)(h S:List UInt8)(H:List Bool)(k:Nat):Bool×List UInt8×List UInt8×List Bool:=if k=0 then JM zs lf h S H else if k=1 then ES zs lf h S H else BL zs lf h S H
theorem Sl{p:PS}(hp:PL p){h:List UInt8}(hh:h.length=32)(a b c:Bool):(BL p.zs p.lf h (sP p) (kU p.lf a b c)).1=(eU p h).1∧((eU p h).1=true→BL p.zs p.lf h (sP p) (kU p.lf a b c)=(true,(eU p h).2.1,sP (eU p h).2.2,kU p.lf a b true)):=by
 unfold BL eU JE
 by_cases e:(aA 4 (au (ay h)) !=p.zs.getD 23 0)=true
 ·rw[if_pos e,if_pos e]
  exact⟨rfl,fun h=>by cases h⟩
 ·rw[if_neg e,if_neg e,PI hp (k:=2) (m:=7) (by decide) hh rfl,(Dw hp.lf0 hp.lf1 a b c).2.2]
  exact⟨rfl,fun _=>rfl⟩
theorem Sk{p:PS}(hp:PL p){h:List UInt8}(hh:h.length=32)(a b c:Bool):(ES p.zs p.lf h (sP p) (kU p.lf a b c)).1=(dS p h).1∧((dS p h).1=true→ES p.zs p.lf h (sP p) (kU p.lf a b c)=(true,(dS p h).2.1,sP (dS p h).2.2,kU p.lf a true true)):=by
 have g:=Sl (hp.set (k:=1) (by decide) hh) (dV h) a true c
 unfold ES dS
 have eu:JE p h (16+(p.lf / 4*8+3).toNat)=(aA 4 (au (ay h)) !=p.zs.getD (16+n2 p.lf) 0):=rfl
 rw[eu]
 by_cases e:(aA 4 (au (ay h)) !=p.zs.getD (16+n2 p.lf) 0)=true
 ·rw[if_pos e,if_pos e]
  exact⟨rfl,fun h=>by cases h⟩
 ·rw[if_neg e,if_neg e,PI hp (k:=1) (m:=n2 p.lf) (by decide) hh rfl,(Dw hp.lf0 hp.lf1 a b c).2.1]
  exact g
theorem ay7{p:PS}(hp:PL p){h:List UInt8}(hh:h.length=32)(a b c:Bool):(JM p.zs p.lf h (sP p) (kU p.lf a b c)).1=(iO p h).1∧((iO p h).1=true→JM p.zs p.lf h (sP p) (kU p.lf a b c)=(true,(iO p h).2.1,sP (iO p h).2.2,kU p.lf true true true)):=by
 have g:=Sk (hp.set (k:=0) (by decide) hh) (dV h) true b c
 unfold JM iO
 have eu:JE p h (16+(p.lf / 2*4+1).toNat)=(aA 4 (au (ay h)) !=p.zs.getD (16+n1 p.lf) 0):=rfl
 rw[eu]
 by_cases e:(aA 4 (au (ay h)) !=p.zs.getD (16+n1 p.lf) 0)=true
 ·rw[if_pos e,if_pos e]
  exact⟨rfl,fun h=>by cases h⟩
 ·rw[if_neg e,if_neg e,PI hp (k:=0) (m:=n1 p.lf) (by decide) hh rfl,(Dw hp.lf0 hp.lf1 a b c).1]
  exact g
theorem xclR_0(zs:List Int)(lf:Int)(h S:List UInt8)(H:List Bool):kI zs lf h S H 0=JM zs lf h S H:=if_pos rfl
theorem xclR_1(zs:List Int)(lf:Int)(h S:List UInt8)(H:List Bool):kI zs lf h S H 1=ES zs lf h S H:=(if_neg (by decide)).trans (if_pos rfl)
theorem xclR_2(zs:List Int)(lf:Int)(h S:List UInt8)(H:List Bool):kI zs lf h S H 2=BL zs lf h S H:=(if_neg (by decide)).trans (if_neg (by decide))
theorem climbR_0(p:PS)(h:List UInt8):aW p h 0=iO p h:=if_pos rfl
theorem climbR_1(p:PS)(h:List UInt8):aW p h 1=dS p h:=(if_neg (by decide)).trans (if_pos rfl)
theorem climbR_2(p:PS)(h:List UInt8):aW p h 2=eU p h:=(if_neg (by decide)).trans (if_neg (by decide))
theorem ah7{p:PS}(hp:PL p){h:List UInt8}(hh:h.length=32)(a b c:Bool){k:Nat}(hk:k<3):(kI p.zs p.lf h (sP p) (kU p.lf a b c) k).1=(aW p h k).1∧
  ((aW p h k).1=true→kI p.zs p.lf h (sP p) (kU p.lf a b c) k=(true,(aW p h k).2.1,sP (aW p h k).2.2,kU p.lf (a||decide (k=0)) (b||decide (k≤1)) true)):=by
 have:k=0∨k=1∨k=2:=by omega
 rcases this with rfl|rfl|rfl
 ·have:=ay7 hp hh a b c
  rw[xclR_0,climbR_0]
  simpa using this
 ·have:=Sk hp hh a b c
  rw[xclR_1,climbR_1]
  simpa using this
 ·have:=Sl hp hh a b c
  rw[xclR_2,climbR_2]
  simpa using this
end
section
open Pm
theorem ar0{p:PS}(h:JU p){zs:List Int}(hl:bB zs (2*p.lf)≠0){q:PS}(hq:PL q)(e1:q.lf=p.lf)(e2:q.sc=p.sc)
  (a0:dO q.ab 0=if(aL p.zs (16+n1 p.lf)&&aL zs (16+n1 p.lf))=true then dO p.ab 0 else zB 32)
  (a1:dO q.ab 1=if(aL p.zs (16+n2 p.lf)&&aL zs (16+n2 p.lf))=true then dO p.ab 1 else zB 32)
  (a2:dO q.ab 2=if(aL p.zs 23&&aL zs 23)=true then dO p.ab 2 else zB 32):nE (sP p) (nV p) zs 15=sP q:=by
 refine yu (yU (PG h) _ _ 15 (by decide)) (sZ hq) fun j hj=>?_
 rw[IG (PG h) _ _ 15 (by decide) j hj,Y8 h hl hj,EB h hj,vV hq hj,e1,e2]
 by_cases c1:j=7
 ·rw[if_pos c1,if_pos c1,if_pos c1,a2]
  by_cases o:(aL p.zs 23&&aL zs 23)=true
  ·rw[if_pos o,if_pos ⟨hj,o⟩]
  ·rw[if_neg o,if_neg (fun h=>o h.2)]
 ·rw[if_neg c1,if_neg c1,if_neg c1]
  by_cases c2:j=n2 p.lf
  ·rw[if_pos c2,if_pos c2,if_pos c2,a1]
   by_cases o:(aL p.zs (16+n2 p.lf)&&aL zs (16+n2 p.lf))=true
   ·rw[if_pos o,if_pos ⟨hj,o⟩]
   ·rw[if_neg o,if_neg (fun h=>o h.2)]
  ·rw[if_neg c2,if_neg c2,if_neg c2]
   by_cases c3:j=n1 p.lf
   ·rw[if_pos c3,if_pos c3,if_pos c3,a0]
    by_cases o:(aL p.zs (16+n1 p.lf)&&aL zs (16+n1 p.lf))=true
    ·rw[if_pos o,if_pos ⟨hj,o⟩]
    ·rw[if_neg o,if_neg (fun h=>o h.2)]
   ·rw[if_neg c3,if_neg c3,if_neg c3]
    by_cases c4:j=(2*p.lf).toNat
    ·rw[if_pos c4,if_pos ⟨hj,decide_eq_true c4⟩]
    ·rw[if_neg c4,if_neg (fun h=>c4 (of_decide_eq_true h.2))]
theorem ak1{A B C:List UInt8}(ha:A.length=32)(hb:B.length=32)(hc:C.length=32):dO (A++(B++C)) 0=A∧dO (A++(B++C)) 1=B∧dO (A++(B++C)) 2=C:=by
 unfold dO
 refine⟨?_,?_,?_⟩
 ·rw[Nat.zero_mul,List.drop_zero,List.take_append_of_le_length (by omega),List.take_of_length_le (by omega)]
 ·rw[show 1*32=A.length by omega,List.drop_left,List.take_append_of_le_length (by omega),List.take_of_length_le (by omega)]
 ·rw[show 2*32=A.length+B.length by omega,←List.append_assoc,←List.length_append,List.drop_left,List.take_of_length_le (by omega)]
theorem Tk{p q:PS}(hp:p.ab.length=96)(hq:q.ab.length=96)(ez:q.zs=p.zs)(el:q.lf=p.lf){h:List UInt8}(hh:h.length=32){k:Nat}(hk:k<3):(aW q h k).1=(aW p h k).1∧((aW p h k).1=true→(aW q h k).2.1=(aW p h k).2.1):=by
 have half:∀{p q:PS},q.ab.length=96→q.zs=p.zs→q.lf=p.lf→(aW p h k).1=true→(aW q h k).1=true:=fun {p q} hq ez el t=>by
  obtain⟨a0,a1,a2⟩:=mM hk t
  rw[←ez,←el]at a0 a1
  rw[←ez]at a2
  exact(jc hq hh hk a0 a1 a2).1
 refine⟨?_,fun t=>?_⟩
 ·cases t:(aW p h k).1 with
  |true=>exact half hq ez el t
  |false=>
   cases u:(aW q h k).1 with
   |false=>rfl
   |true=>rw[half hp ez.symm el.symm u]at t;cases t
 ·obtain⟨a0,a1,a2⟩:=mM hk t
  have s1:=jc hp hh hk a0 a1 a2
  rw[←ez,←el]at a0 a1
  rw[←ez]at a2
  have s2:=jc hq hh hk a0 a1 a2
  rw[s1.2.1,s2.2.1]
section
variable {p : PS} (hp : Own p) {c : CS} (f0 : 0 ≤ c.fr) (f1 : c.fr < 8) (hne : p.lf ≠ c.fr) {s : Vw} (hg : Goes p.zs s) (hlf : bq s.zs p.lf.toNat = bq p.zs p.lf.toNat)
include hp f0 f1 hne hg hlf
theorem Fz:bB (fM s.zs c.fr c.sl c.p0 c.p1 c.p2) (2*p.lf)≠0:=by
 have p0:=hp.inv.lf0
 have p1:=hp.inv.lf1
 rw[JZ f0 f1 _ _ _ _ _ (by omega) (by omega) (by omega) (by omega) (by omega) (by omega)]
 have e:2*p.lf=2*((p.lf.toNat:Nat):Int):=by omega
 rw[e,zV _ (by omega)]
 have h4:=hlf.trans hp.lf
 rw[iG (by have:=hg.zl;omega) (by omega)]at h4
 rw[(List.cons.inj (List.cons.inj h4).2).1]
 exact iW _
theorem SQ(h:n1 p.lf≠n1 c.fr):aL (fM s.zs c.fr c.sl c.p0 c.p1 c.p2) (16+n1 p.lf)=true→aL p.zs (16+n1 p.lf)=true:=fun t=>by
 have p0:=hp.inv.lf0
 have p1:=hp.inv.lf1
 rw[eF,kS hg.zl f0 f1]at t
 unfold n1 n2 at*
 rw[if_neg (by omega),if_neg (by omega),if_neg (by omega),if_neg (by omega)]at t
 rcases hg.nd (16+(p.lf / 2*4+1).toNat) (by omega)with o|o
 ·exact absurd o t
 ·rw[o]at t;exact(eF _ _).2 t
theorem SV(h:n2 p.lf≠n2 c.fr):aL (fM s.zs c.fr c.sl c.p0 c.p1 c.p2) (16+n2 p.lf)=true→aL p.zs (16+n2 p.lf)=true:=fun t=>by
 have p0:=hp.inv.lf0
 have p1:=hp.inv.lf1
 rw[eF,kS hg.zl f0 f1]at t
 unfold n1 n2 at*
 rw[if_neg (by omega),if_neg (by omega),if_neg (by omega),if_neg (by omega)]at t
 rcases hg.nd (16+(p.lf / 4*8+3).toNat) (by omega)with o|o
 ·exact absurd o t
 ·rw[o]at t;exact(eF _ _).2 t
theorem Z0{l:List (Int×Int)}(hL:l=aR s.zs c.fr s.ng){q:Int×Int}(hq:q∈l)(hu:aI q.2 p.lf=true):
  0≤q.1∧q.1<3∧0≤q.2∧q.2<15∧(jY c.fr).getD q.1.toNat 0=aD c.fr p.lf∧yT (nV p) (fM s.zs c.fr c.sl c.p0 c.p1 c.p2) q.2.toNat=true∧blk (sP p) q.2.toNat=kW p q.2:=by
 have p0:=hp.inv.lf0
 have p1:=hp.inv.lf1
 have hL3:l=bA s.zs s.ng c.fr 3:=by rw[hL];unfold aR;rw[if_pos (by simp[aG,f0,f1])]
 have ei:((p.lf.toNat:Nat):Int)=p.lf:=by omega
 have ej:((c.fr.toNat:Nat):Int)=c.fr:=by omega
 obtain⟨k1,k2,k3,k4,k5,k6,k7,k8,k9⟩:=tK p0 p1
 have hat:=Ad s.zs s.ng (x:=c.fr.toNat) (i:=p.lf.toNat) (by omega) (by omega) (by omega) 3 (Nat.le_refl _) q (by rw[ej,←hL3];exact hq)
 rw[ei,ej]at hat
 obtain⟨⟨r0,r1⟩,DC⟩:=hat
 have hk0:bB s.zs q.2≠0:=uP (bt:=s.ng) (x:=c.fr) 3 _ (by rw[←hL3];exact hq)
 have hk1:bB (fM s.zs c.fr c.sl c.p0 c.p1 c.p2) q.2≠0:=by rw[LJ f0 f1 _ _ _ _ _ (by rw[←hL];exact hq)];exact hk0
 have Dz:=Fz hp f0 f1 hne hg hlf
 obtain⟨_,_,i2,i3⟩:=y9 (by rw[←hL];exact hq)
 refine⟨r0,by omega,i2,i3,DC hu,?_,?_⟩
 ·rw[Y8 hp.inv Dz (by omega)]
  have node:∀m:Nat,q.2.toNat=m→m%2=1→m<15→(aL p.zs (16+m)&&aL (fM s.zs c.fr c.sl c.p0 c.p1 c.p2) (16+m))=true:=fun m e o l=>by
   have e2:q.2=(m:Nat):=by omega
   rw[e2,KX (by omega) (by omega) (by omega),Int.toNat_natCast]at hk0 hk1
   rw[Bool.and_eq_true]
   refine⟨?_,(eF _ _).2 hk1⟩
   rcases hg.nd (16+m) (by omega)with o|o
   ·exact absurd o hk0
   ·rw[o]at hk0;exact(eF _ _).2 hk0
  rcases qG hu with h|h|h|h
  ·have e:q.2.toNat=(2*p.lf).toNat:=by rw[h]
   rw[if_neg (by omega),if_neg (by omega),if_neg (by omega)]
   exact decide_eq_true e
  ·have e:q.2.toNat=n1 p.lf:=by rw[h]
   rw[if_neg (by omega),if_neg (by omega),if_pos e]
   exact node _ e (by unfold n1;omega) k2
  ·have e:q.2.toNat=n2 p.lf:=by rw[h]
   rw[if_neg (by omega),if_pos e]
   exact node _ e (by unfold n2;omega) k3
  ·have e:q.2.toNat=7:=by rw[h];rfl
   rw[if_pos e]
   exact node 7 e (by decide) (by decide)
 ·rw[EB hp.inv (by omega)]
  unfold kW
  rcases qG hu with h|h|h|h
  ·rw[if_neg (by omega),if_neg (by omega),if_neg (by omega),if_pos (by rw[h]),if_pos h]
  ·have e:q.2.toNat=n1 p.lf:=by rw[h]
   rw[if_neg (by omega),if_neg (by omega),if_pos e,if_neg (by omega),h]
   unfold aP pY;rw[if_pos rfl];rfl
  ·have e:q.2.toNat=n2 p.lf:=by rw[h]
   rw[if_neg (by omega),if_pos e,if_neg (by omega),h]
   unfold aP pY;rw[if_neg (by omega),if_pos rfl];rfl
  ·rw[if_pos (by rw[h];rfl),if_neg (by omega),h]
   unfold aP pY;rw[if_neg (by omega),if_neg (by omega),if_pos rfl];rfl
theorem UC{h:List UInt8}(hh:h.length=32){k:Nat}(hk:k<3)(hm:(jY c.fr).getD k 0=aD c.fr p.lf):
  (kI (fM s.zs c.fr c.sl c.p0 c.p1 c.p2) p.lf h (nE (sP p) (nV p) (fM s.zs c.fr c.sl c.p0 c.p1 c.p2) 15) (qU (nV p) (fM s.zs c.fr c.sl c.p0 c.p1 c.p2) 15) k).1=(aW (gT (gu p s c) k) h k).1∧
  ((aW (gT (gu p s c) k) h k).1=true→kI (fM s.zs c.fr c.sl c.p0 c.p1 c.p2) p.lf h (nE (sP p) (nV p) (fM s.zs c.fr c.sl c.p0 c.p1 c.p2) 15) (qU (nV p) (fM s.zs c.fr c.sl c.p0 c.p1 c.p2) 15) k=
   (true,(aW (gT (gu p s c) k) h k).2.1,sP (aW (gT (gu p s c) k) h k).2.2,nV (aW (gT (gu p s c) k) h k).2.2)):=by
 have p0:=hp.inv.lf0
 have p1:=hp.inv.lf1
 have hb:=hp.inv.bl
 have Dz:=Fz hp f0 f1 hne hg hlf
 have bn1:=SQ hp f0 f1 hne hg hlf
 have bn2:=SV hp f0 f1 hne hg hlf
 obtain⟨u0,u1,u2⟩:=Rp f0 f1 p0 p1 hne hk hm
 obtain⟨pp,hpp⟩:∃pp,pp=gu p s c:=⟨_,rfl⟩
 have Z7:pp.lf=p.lf:=by rw[hpp];dsimp only[gu]
 have ppa:pp.ab=p.ab:=by rw[hpp];dsimp only[gu]
 have pps:pp.sc=p.sc:=by rw[hpp];dsimp only[gu]
 have ppz:pp.zs=fM s.zs c.fr c.sl c.p0 c.p1 c.p2:=by rw[hpp];dsimp only[gu]
 rw[←hpp,←ppz]
 rw[←ppz]at Dz bn1 bn2
 clear hpp
 have z32:(zB 32).length=32:=by simp
 obtain⟨A0,hA0⟩:∃A,A=if(aL p.zs (16+n1 p.lf)&&aL pp.zs (16+n1 p.lf))=true then dO p.ab 0 else zB 32:=⟨_,rfl⟩
 obtain⟨A1,hA1⟩:∃A,A=if(aL p.zs (16+n2 p.lf)&&aL pp.zs (16+n2 p.lf))=true then dO p.ab 1 else zB 32:=⟨_,rfl⟩
 obtain⟨A2,hA2⟩:∃A,A=if(aL p.zs 23&&aL pp.zs 23)=true then dO p.ab 2 else zB 32:=⟨_,rfl⟩
 have l0:A0.length=32:=by rw[hA0];split;exact eT hb (by decide);exact z32
 have l1:A1.length=32:=by rw[hA1];split;exact eT hb (by decide);exact z32
 have l2:A2.length=32:=by rw[hA2];split;exact eT hb (by decide);exact z32
 obtain⟨b0,b1,b2⟩:=ak1 l0 l1 l2
 obtain⟨kp,hkp⟩:∃kp:PS,kp={ pp with ab:=A0++(A1++A2) }:=⟨_,rfl⟩
 have kz:kp.zs=pp.zs:=by rw[hkp]
 have kl:kp.lf=p.lf:=by rw[hkp];exact Z7
 have ks:kp.sc=p.sc:=by rw[hkp];exact pps
 have ka:kp.ab=A0++(A1++A2):=by rw[hkp]
 have kpl:PL kp:=⟨by rw[kl];exact p0,by rw[kl];exact p1,by rw[ks];exact hp.inv.sl,by rw[ka];simp;omega⟩
 clear hkp
 rw[←ka]at b0 b1 b2
 have eS:=ar0 hp.inv Dz kpl kl ks (b0.trans hA0) (b1.trans hA1) (b2.trans hA2)
 have eH:=aO7 hp.inv Dz
 rw[eS,eH]
 obtain⟨w1,w2,w3,w4⟩:=zR (p:=pp) (by rw[ppa];exact hb) hk
 have flf:(gT pp k).lf=p.lf:=w1.lf.trans Z7
 have tw:=Tk (p:=gT pp k) (q:=kp) w2 kpl.bl (kz.trans w1.zs.symm) (kl.trans flf.symm) hh hk
 have xo:=ah7 kpl hh (aL p.zs (16+n1 p.lf)&&aL pp.zs (16+n1 p.lf)) (aL p.zs (16+n2 p.lf)&&aL pp.zs (16+n2 p.lf)) (aL p.zs 23&&aL pp.zs 23) hk
 rw[kz,kl]at xo
 refine⟨xo.1.trans tw.1,fun t=>?_⟩
 rw[xo.2 (tw.1.trans t),tw.2 t]
 obtain⟨a0,a1,a2⟩:=mM hk t
 obtain⟨_,_,t3,t4,t5,t6,t7⟩:=jc w2 hh hk a0 a1 a2
 rw[w1.zs,flf]at a0 a1
 rw[w1.zs]at a2
 have q0:k=0→kp.zs.getD (16+n1 kp.lf) 0=aH h:=by rw[kz,kl];exact a0
 have q1:k≤1→kp.zs.getD (16+n2 kp.lf) 0=aH (if k=1 then h else ak h):=by rw[kz,kl];exact a1
 have q2:kp.zs.getD 23 0=aH (if k=2 then h else if k=1 then ak h else ak (ak h)):=by rw[kz];exact a2
 obtain⟨_,_,v3,v4,v5,v6,v7⟩:=jc kpl.bl hh hk q0 q1 q2
 obtain⟨P,hP⟩:∃P,P=(aW (gT pp k) h k).2.2:=⟨_,rfl⟩
 obtain⟨Q,hQ⟩:∃Q,Q=(aW kp h k).2.2:=⟨_,rfl⟩
 rw[←hP]at t3 t4 t5 t6 t7 ⊢
 rw[←hQ]at v3 v4 v5 v6 v7 ⊢
 have Pl:P.lf=p.lf:=t3.lf.trans flf
 have Pz:P.zs=pp.zs:=t3.zs.trans w1.zs
 have Ps:P.sc=p.sc:=(t3.sc.trans w1.sc).trans pps
 have Ql:Q.lf=p.lf:=v3.lf.trans kl
 have Qs:Q.sc=p.sc:=v3.sc.trans ks
 have hPL:PL P:=⟨by rw[Pl];exact p0,by rw[Pl];exact p1,by rw[Ps];exact hp.inv.sl,t4⟩
 have hQL:PL Q:=⟨by rw[Ql];exact p0,by rw[Ql];exact p1,by rw[Qs];exact hp.inv.sl,v4⟩
 have and1:n1 p.lf≠n1 c.fr→(aL p.zs (16+n1 p.lf)&&aL pp.zs (16+n1 p.lf))=aL pp.zs (16+n1 p.lf):=fun e=>by
  cases o:aL pp.zs (16+n1 p.lf)with
  |false=>simp
  |true=>rw[bn1 e o];rfl
 have aV3:n2 p.lf≠n2 c.fr→(aL p.zs (16+n2 p.lf)&&aL pp.zs (16+n2 p.lf))=aL pp.zs (16+n2 p.lf):=fun e=>by
  cases o:aL pp.zs (16+n2 p.lf)with
  |false=>simp
  |true=>rw[bn2 e o];rfl
 have eSP:sP Q=sP P:=by
  refine bp7 hPL hQL (Ql.trans Pl.symm) (Qs.trans Ps.symm) fun j hj=>?_
  rcases(show j=0∨j=1∨j=2 by omega)with rfl|rfl|rfl
  ·rw[t5,v5]
   by_cases e:k=0
   ·rw[if_pos e,if_pos e]
   ·rw[if_neg e,if_neg e,b0,hA0,w3 (by omega),Z7,ppa,and1 (by rcases(show k=1∨k=2 by omega)with o|o;exact(u1 o).2;exact(u2 o).2)]
  ·rw[t6,v6]
   by_cases e:k=0
   ·rw[if_pos e,if_pos e]
   ·by_cases e1:k=1
    ·rw[if_neg e,if_neg e,if_pos e1,if_pos e1]
    ·rw[if_neg e,if_neg e,if_neg e1,if_neg e1,b1,hA1,w4 (by omega),Z7,ppa,aV3 (u2 (by omega)).1]
  ·rw[t7,v7]
 have yes:∀{m:Nat} {x:List UInt8},pp.zs.getD m 0=aH x→aL pp.zs m=true:=fun {m x} e=>(eF _ _).2 (by rw[e];exact iW _)
 have eHZ:kU p.lf ((aL p.zs (16+n1 p.lf)&&aL pp.zs (16+n1 p.lf))||decide (k=0)) ((aL p.zs (16+n2 p.lf)&&aL pp.zs (16+n2 p.lf))||decide (k≤1)) true=nV P:=by
  unfold nV
  rw[Pl,Pz,yes a2]
  have x0:((aL p.zs (16+n1 p.lf)&&aL pp.zs (16+n1 p.lf))||decide (k=0))=aL pp.zs (16+n1 p.lf):=by
   by_cases e:k=0
   ·rw[decide_eq_true e,yes (a0 e)];simp
   ·rw[decide_eq_false e,Bool.or_false,and1 (by rcases(show k=1∨k=2 by omega)with o|o;exact(u1 o).2;exact(u2 o).2)]
  have x1:((aL p.zs (16+n2 p.lf)&&aL pp.zs (16+n2 p.lf))||decide (k≤1))=aL pp.zs (16+n2 p.lf):=by
   by_cases e:k≤1
   ·rw[decide_eq_true e,yes (a1 e)];simp
   ·rw[decide_eq_false e,Bool.or_false,aV3 (u2 (by omega)).1]
  rw[x0,x1]
 rw[eSP,eHZ]
end
end
section
open Pm
theorem hasP_0{lf:Int}(h0:0≤lf)(h1:lf<8):Hq.set (2*lf).toNat true=kU lf false false false:=by
 obtain⟨k1,k2,k3,k4,k5,k6,k7,k8,k9⟩:=tK h0 h1
 refine vF (by simp) fun j hj=>?_
 rw[l5 h0 h1 _ _ _ hj,jD]
 have hz:Hq.getD j false=false:=by rw[List.getD_eq_getElem?_getD,List.getElem?_replicate,if_pos hj];rfl
 rw[hz]
 have l:Hq.length=15:=by simp
 rw[l]
 by_cases e:j=(2*lf).toNat
 ·rw[if_pos ⟨e.symm,k1⟩,if_neg (by omega),if_neg (by omega),if_neg (by omega),decide_eq_true e]
 ·rw[if_neg (fun x=>e x.1.symm),decide_eq_false e]
  split
  ·rfl
  ·split
   ·rfl
   ·split<;>rfl
theorem zM{k:Nat}(hk:k<3):dO (zB 96) k=zB 32:=by
 unfold dO
 rw[List.drop_replicate,List.take_replicate,show min 32 (96-k*32)=32 by omega]
theorem sP_0{p:PS}(h0:0≤p.lf)(h1:p.lf<8)(hs:p.sc.length=32)(ha:p.ab=zB 96):fC gV (2*p.lf).toNat p.sc=sP p:=by
 obtain⟨k1,k2,k3,k4,k5,k6,k7,k8,k9⟩:=tK h0 h1
 have hp:PL p:=⟨h0,h1,hs,by rw[ha];simp⟩
 refine yu (dP jo hs k1) (sZ hp) fun j hj=>?_
 rw[iN jo hs k1 hj,vg hj,vV hp hj,ha,zM (by decide),zM (by decide),zM (by decide)]
 by_cases e:j=(2*p.lf).toNat
 ·rw[if_pos e,if_neg (by omega),if_neg (by omega),if_neg (by omega)]
 ·rw[if_neg e]
  split
  ·rfl
  ·split
   ·rfl
   ·split<;>rfl
theorem join_eq{h:List UInt8}{w:Wc}(l0:0≤w.lf)(l1:w.lf<8)(hb:nZ w=true)(p0:0≤jr w)(p1:jr w<3){u:List UInt8}(hu:u.length=32):
  (kI w.zs w.lf u (fC gV (2*w.lf).toNat (aC h)) (Hq.set (2*w.lf).toNat true) (jr w).toNat).1=(aW (jy h w) u (jr w).toNat).1∧
  ((aW (jy h w) u (jr w).toNat).1=true→kI w.zs w.lf u (fC gV (2*w.lf).toNat (aC h)) (Hq.set (2*w.lf).toNat true) (jr w).toNat=
   (true,(aW (jy h w) u (jr w).toNat).2.1,sP (aW (jy h w) u (jr w).toNat).2.2,nV (aW (jy h w) u (jr w).toNat).2.2)):=by
 obtain⟨q,hq⟩:∃q,q=jy h w:=⟨_,rfl⟩
 have ql:q.lf=w.lf:=by rw[hq];rfl
 have qz:q.zs=w.zs:=by rw[hq];rfl
 have qs:q.sc=aC h:=by rw[hq];rfl
 have qa:q.ab=zB 96:=by rw[hq];rfl
 rw[←hq]
 clear hq
 have hPL:PL q:=⟨by rw[ql];exact l0,by rw[ql];exact l1,by rw[qs];exact nM _,by rw[qa];simp⟩
 have eS:=sP_0 (p:=q) hPL.lf0 hPL.lf1 hPL.sl qa
 rw[ql,qs]at eS
 rw[eS,hasP_0 l0 l1]
 obtain⟨k,hk⟩:=Int.eq_ofNat_of_zero_le p0
 have hk3:k<3:=by omega
 have ek:(jr w).toNat=k:=by omega
 rw[ek]
 have xo:=ah7 hPL hu false false false hk3
 rw[qz,ql]at xo
 refine⟨xo.1,fun t=>?_⟩
 rw[xo.2 t]
 obtain⟨a0,a1,a2⟩:=mM hk3 t
 obtain⟨_,_,t3,t4,t5,t6,t7⟩:=jc hPL.bl hu hk3 a0 a1 a2
 rw[qz,ql]at a0 a1
 rw[qz]at a2
 have yes:∀{m:Nat} {x:List UInt8},w.zs.getD m 0=aH x→aL w.zs m=true:=fun {m x} e=>(eF _ _).2 (by rw[e];exact iW _)
 unfold nZ at hb
 rw[hk,Bool.and_eq_true,Bool.or_eq_true,Bool.or_eq_true,decide_eq_true_eq,decide_eq_true_eq]at hb
 have eH:kU w.lf (false||decide (k=0)) (false||decide (k≤1)) true=nV (aW q u k).2.2:=by
  unfold nV
  rw[t3.lf,t3.zs,ql,qz,yes a2]
  have x0:(false||decide (k=0))=aL w.zs (16+n1 w.lf):=by
   by_cases e:k=0
   ·rw[decide_eq_true e,yes (a0 e)];rfl
   ·rw[decide_eq_false e]
    rcases hb.1 with o|o
    ·omega
    ·simpa using o.symm
  have x1:(false||decide (k≤1))=aL w.zs (16+n2 w.lf):=by
   by_cases e:k≤1
   ·rw[decide_eq_true e,yes (a1 e)];rfl
   ·rw[decide_eq_false e]
    rcases hb.2 with o|o
    ·omega
    ·simpa using o.symm
  rw[x0,x1]
 rw[eH]
end
section
open Pm
theorem Hg{p q:PS}(h:jT p q)(j:List UInt8):dN (bG q j)=⟨p.e,p.zs,p.ad,p.k,p.ch,p.lf,au p.sg,aA 4 (au p.sg),sP q,nV q,mO j (aT p.e p.zs p.ad p.k p.ch),zS (mO j (aT p.e p.zs p.ad p.k p.ch))⟩:=by
 rw[←h.e,←h.zs,←h.ad,←h.k,←h.ch,←h.lf,←h.sg]
 dsimp only[dN,bG,dU,sP,nV]
theorem Gy(p:PS)(j:List UInt8):(bG p j).ep=mO j (aT p.e p.zs p.ad p.k p.ch):=by dsimp only[bG,dU]
theorem PK{p:PS}{h:List UInt8}(hb:p.ab.length=96)(hh:h.length=32){k:Nat}(hk:k<3)(t:(aW (gT p k) h k).1=true):jT p (aW (gT p k) h k).2.2:=by
 obtain⟨w1,w2,_,_⟩:=zR hb hk
 obtain⟨a0,a1,a2⟩:=mM hk t
 exact w1.trans (jc w2 hh hk a0 a1 a2).2.2.1
theorem U9{p:PS}{h:List UInt8}(hb:p.ab.length=96)(hh:h.length=32){k:Nat}(hk:k<3)(t:(aW p h k).1=true):jT p (aW p h k).2.2:=by
 obtain⟨a0,a1,a2⟩:=mM hk t
 exact(jc hb hh hk a0 a1 a2).2.2.1
end
end Go.Proofs.YtjdjelopkhjdnaaGreatDoor
