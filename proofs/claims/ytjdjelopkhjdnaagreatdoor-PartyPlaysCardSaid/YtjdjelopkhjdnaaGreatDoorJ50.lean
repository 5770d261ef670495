/-
  The law of parties: seeds; what both tell; approvals.
-/
import Derived.Test.YtjdjelopkhjdnaaGreatDoorJ47
import Derived.Test.YtjdjelopkhjdnaaGreatDoorJ49
namespace Go.Proofs.YtjdjelopkhjdnaaGreatDoor
set_option linter.unusedVariables false
set_option linter.unusedSimpArgs false
set_option maxRecDepth 100000
open Go.RowKit
section
open Pm
theorem JD(n:Int):0≤IntKind.u8.wrap n∧IntKind.u8.wrap n<256:=by
 have e1:(2:Int)^8=256:=by decide
 simp only[IntKind.wrap,IntKind.signed,IntKind.bits,Bool.false_and,e1]
 simp
 omega
theorem tu(p:PS):(dN p).e=p.e∧(dN p).zs=p.zs∧(dN p).ad=p.ad∧(dN p).k=p.k∧(dN p).ch=p.ch∧(dN p).lf=p.lf∧(dN p).x=au p.sg∧(dN p).y=aA 4 (au p.sg)∧(dN p).ep=p.ep∧(dN p).jE=p.jE:=by
 dsimp only[dN]
 exact⟨rfl,rfl,rfl,rfl,rfl,rfl,rfl,rfl,rfl,rfl⟩
attribute [local irreducible] aV aZ bQ aA au dA cK bC aF bW aN aU ay ak aT dh bX aR bI fU bB iC aD aP jR dZ bZ bS aJ bT fJ aC dY TD bE aY dU gV dN fu jP ji pV om jm jQ dB
theorem av7{S:Nat→Prop}{w:World}{a b c d e:A}{vs:List Value}(h:lK S w [a,b,c,d,e] vs):∃x y z u t,vs=[x,y,z,u,t]∧RA S w a x∧RA S w b y∧RA S w c z∧RA S w d u∧RA S w e t:=by
 cases h with|cons h r=>cases r with|cons h2 r=>cases r with|cons h3 r=>cases r with|cons h4 r=>cases r with|cons h5 r=>cases r;exact⟨_,_,_,_,_,rfl,h,h2,h3,h4,h5⟩
def Pn:List A→(bP→Prop)→Prop
 |[.agg [.ints .i64 1 [e],.ints .i64 31 zs,.bools 8 ad,.ints .i64 1 [k],.bytes 32 ch],.v (.int .i64 who),.agg [.ints .i64 2 [s,y]],.v (.int .i64 fr),x],K=>
  y=aA 4 s∧1≤s∧s<1073741789∧uL x fun n ops=>∀er,er=om e zs ad k who s fr ops n→mI (aV (decide (er=0)) (K (.t [.agg [.ints .i64 3 [who,jm s (dB e zs ad k ch fr ops),jQ s (dB e zs ad k ch fr ops)]],.v (.int .i64 0)])) (K (.t [.agg [.ints .i64 3 [0,0,0]],.v (.int .i64 er)])))
 |_,_=>False
theorem U0:∀args K,Pn args K→∃r,aQ 27 args r∧K r:=by
 intro args K h
 unfold Pn at h
 split at h
 ·next e zs ad k ch who s y fr x=>
  obtain⟨rfl,h1,h2,h⟩:=h
  obtain⟨n,ops,hn,h,hv⟩:=gJ h
  have h:=(h _ rfl).out
  refine⟨.t (JX e zs ad k ch who s fr ops n),fun S w vs hG ha=>?_,?_⟩
  ·obtain⟨v1,v2,v3,v4,v5,rfl,k1,k2,k3,k4,k5⟩:=av7 ha
   exact LX e zs ad k ch who s ⟨h1,h2⟩ fr ops n hn S w _ hG (.cons k1 (.cons k2 (.cons k3 (.cons k4 (.cons (hv k5) .nil)))))
  ·unfold JX
   by_cases he:om e zs ad k who s fr ops n=0
   ·rw[decide_eq_true he,iI]at h
    rw[if_pos he]
    exact h
   ·rw[decide_eq_false he,gQ]at h
    rw[if_neg he]
    exact h
 ·exact h.elim
noncomputable def XL:av:=XR.add 27 Pn U0 ⟨_,Tryz.func27,by kernel_rfl,by kernel_rfl⟩
theorem ad3(n:Int):aQ 8 [.v (.int .i64 n)] (.d (.agg [.bytes 32 (cO n)])):=by
 refine dF (E:=XL) Tryz.func8 Tryz.ntmps8 ?_
 obtain⟨hw0,hw1⟩:=JD n
 refine aj ?_;(try exact⟨⟩)
 try rfl
def PW:List A→(bP→Prop)→Prop
 |[.v (.int .i64 n)],K=>∀h,h=cO n→K (.d (.agg [.bytes 32 h]))
 |_,_=>False
theorem Vd:∀args K,PW args K→∃r,aQ 8 args r∧K r:=by
 intro args K h
 unfold PW at h
 split at h
 ·exact⟨_,ad3 _,h _ rfl⟩
 ·exact h.elim
def ai1:List A→(bP→Prop)→Prop
 |[x,.v (.string l)],K=>l.size≤1000000∧xK x fun p=>K (.d (.agg [.bytes 32 (TD p.ep (sb l))]))
 |_,_=>False
theorem ai2:∀args K,ai1 args K→∃r,aQ 141 args r∧K r:=by
 intro args K h
 unfold ai1 at h
 split at h
 ·obtain⟨hl,h⟩:=h
  obtain⟨p,rfl,h⟩:=MP h
  exact⟨_,Qp p _ hl,h⟩
 ·exact h.elim
noncomputable def aJ8:av:=XL.add 8 PW Vd ⟨_,Tryz.func8,by kernel_rfl,by kernel_rfl⟩
noncomputable def NP:av:=aJ8.add 141 ai1 ai2 ⟨_,Tryz.func141,by kernel_rfl,by kernel_rfl⟩
set_option maxHeartbeats 2000000 in
theorem WG(o:Option PS):aQ 69 [.agg [.gen 2 [Ab o,LA o]]] (.d (.v (.bool true))):=by
 refine dF (E:=NP) Tryz.func69 Tryz.ntmps69 ?_
 cases o with
 |none=>
  refine aj ?_;(try exact⟨⟩)
 |some p=>
  obtain⟨e1,e2,e3,e4,e5,e6,e7,e8,e9,e10⟩:=tu p
  refine aj ?_;(try exact⟨⟩)
  rw[e9]
  simp[bf]
set_option maxHeartbeats 2000000 in
theorem ah2(G:List (Option PS))(fr:Int)(o:Nat)(ops:List Int)(ho:o≤3000)(cap:Nat)(hc:cap≤1000000)(hG:G.length≤1000000):aQ 11 [.row G.length [.gen (G.length*2) (gL G)],.v (.int .i64 fr),.row o [.ints .i64 (o*5) ops],.v (.int .i64 cap)]
  (.d (.row (bO G fr ops o cap G.length).length [.ints .i64 ((bO G fr ops o cap G.length).length*3) (bO G fr ops o cap G.length).flatten])):=by
 refine mQ (e:=91) (sz:=3) (dF (E:=NP) Tryz.func11 Tryz.ntmps11 ?_)
 obtain⟨N,hN,hno,hend⟩:=Db (fun j=>decide (cap≤(bO G fr ops o cap j).length)) G.length
 have hfin:bO G fr ops o cap G.length=bO G fr ops o cap N:=by
  rcases hend with rfl|⟨h1,h2⟩
  ·rfl
  ·have h3:¬(bO G fr ops o cap N).length<cap:=by have:=of_decide_eq_true h2;omega
   have:=tq h3 (G.length-N)
   rwa [show N+(G.length-N)=G.length by omega]at this
 rw[hfin]
 clear hfin
 obtain⟨V,hV⟩:∃V:Nat→List (List Int),V=fun j=>bO G fr ops o cap j:=⟨_,rfl⟩
 have hV0:V 0=[]:=by rw[hV];rfl
 have hVs:∀j,V j=bO G fr ops o cap j:=fun j=>by rw[hV]
 have hno:∀j,j<N→(V j).length<cap:=fun j hj=>by have:=of_decide_eq_false (hno j hj);rw[hVs];omega
 have hend:N=G.length∨(N<G.length∧cap≤(V N).length):=by
  rcases hend with h|⟨h1,h2⟩
  ·exact .inl h
  ·refine .inr ⟨h1,?_⟩
   rw[hVs]
   exact of_decide_eq_true h2
 rw[←hVs]
 have HVs:=Lib.hid hVs
 have HV0:=Lib.hid hV0
 have HNO:=Lib.hid hno
 clear hV hVs hV0 hno
 refine aj ?_;(try exact⟨⟩)
 refine aM.mk (jk [0,1,2,3,9,10] [0] 9 91 3 [.ints .i64 0 []] N (fun j=>⟨[.d (.row G.length [.gen (G.length*2) (gL G)]),.d (.v (.int .i64 fr)),.d (.row o [.ints .i64 (o*5) ops]),.d (.v (.int .i64 cap)),.ah,.ah,.ah,.ah,.ah,.own 0 (V j).length,.d (.v (.int .i64 (j:Nat))),.ah,.ah,.ah,.ah,.ah,.ah,.ah,.ah,.ah,.ah,.ah,.ah,.ah,.ah,.ah,.ah,.ah,.ah,.ah,.ah,.ah,.ah,.ah,.ah,.ah,.ah,.ah,.ah,.ah,.ah,.ah,.ah,.ah,.ah,.ah,.ah,.ah,.ah,.ah,.ah,.ah,.ah,.ah,.ah,.ah,.ah,.ah,.ah,.ah,.ah,.ah,.ah,.ah,.ah,.ah,.ah,.ah],[some (.sl 91 3 (V j).length [.ints .i64 ((V j).length*3) (V j).flatten])]⟩) ?_ (h2:=by dsimp only;rw[HV0.out];exact rfl))
 intro j hj hl
 by_cases h:j<N
 ·have h1:(j:Int)<(G.length:Int):=by omega
  have h2:((V j).length:Int)<(cap:Int):=by have:=HNO.out j h;omega
  have hg:=(TS G j (by omega)).2
  have hvl:(V j).length≤1000000:=by have:=HNO.out j h;omega
  cases hp:jS G j with
  |none=>
   have hV1:=Lib.hid (show V (j+1)=V j by
    rw[HVs.out,HVs.out,bO,if_pos (by rw[←HVs.out];exact HNO.out j h),hp])
   rw[hp]at hg
   have hg:(gL G).getD (j*2+1) (.v undef)=.v (.pointer none):=hg
   clear hend
   refine aj ?_;(try exact⟨⟩)
   rw[hg]
   refine aj ?_;(try exact⟨⟩)
   refine hl.go h [0,1,2,3,9,10] [0] ?_
   dsimp only
   rw[hV1.out]
   rfl
  |some p=>
   have hV1:=Lib.hid (show V (j+1)=if WI p fr ops o=true then V j++[G8 p fr ops]else V j by
    rw[HVs.out,HVs.out,bO,if_pos (by rw[←HVs.out];exact HNO.out j h),hp])
   rw[hp]at hg
   have hg:(gL G).getD (j*2+1) (.v undef)=.sref (dH (dN p)) 0:=hg
   obtain⟨e1,e2,e3,e4,e5,e6,e7,e8,e9,e10⟩:=tu p
   have hy:(dN p).y=aA 4 (dN p).x:=by rw[e7,e8]
   have b1:1≤(dN p).x:=by rw[e7];exact(fZ _).1
   have b2:(dN p).x<1073741789:=by rw[e7];exact(fZ _).2
   have E7:=Lib.hid e7
   have E1:=Lib.hid e1
   have E2:=Lib.hid e2
   have E3:=Lib.hid e3
   have E4:=Lib.hid e4
   have E5:=Lib.hid e5
   have E6:=Lib.hid e6
   clear e1 e2 e3 e4 e5 e6 e7 e8 e9 e10 hend
   refine aj ?_;(try exact⟨⟩)
   rw[hg]
   refine aj ?_;(try exact⟨⟩)
   rw[hg]
   refine aj ?_;(try exact⟨⟩)
   rw[hg]
   refine aj ?_;(try exact⟨⟩)
   rw[hg]
   refine aj ?_;(try exact⟨⟩)
   intro er her
   by_cases z:er=0
   ·have z1:=decide_eq_true z
    refine aj ?_;(try exact⟨⟩)
    refine hl.go h [0,1,2,3,9,10] [0] ?_
    rw[E1.out,E2.out,E3.out,E4.out,E6.out,E7.out]at her
    have ha:WI p fr ops o=true:=decide_eq_true (her.symm.trans z)
    have hV2:=hV1.out
    rw[if_pos ha]at hV2
    have l1:(V (j+1)).length=(V j).length+1:=by rw[hV2];simp
    have l2:(V (j+1)).length*3=(V j).length*3+3:=by omega
    have l3:(V (j+1)).flatten=(V j).flatten++[(dN p).lf,jm (dN p).x (dB (dN p).e (dN p).zs (dN p).ad (dN p).k (dN p).ch fr ops),jQ (dN p).x (dB (dN p).e (dN p).zs (dN p).ad (dN p).k (dN p).ch fr ops)]:=by
     rw[hV2,List.flatten_append,E1.out,E2.out,E3.out,E4.out,E5.out,E6.out,E7.out]
     rfl
    dsimp only
    rw[l2,l1,l3]
    rfl
   ·have z1:=decide_eq_false z
    have z2:(er==0)=false:=by simpa using z
    refine aj ?_;(try exact⟨⟩)
    refine hl.go h [0,1,2,3,9,10] [0] ?_
    rw[E1.out,E2.out,E3.out,E4.out,E6.out,E7.out]at her
    have ha:¬WI p fr ops o=true:=fun h=>z (her.trans (of_decide_eq_true h))
    have hV2:=hV1.out
    rw[if_neg ha]at hV2
    dsimp only
    rw[hV2]
    rfl
 ·obtain rfl:j=N:=by omega
  rcases hend with rfl|⟨h1,h2⟩
  ·have h1:¬(G.length:Int)<(G.length:Int):=by omega
   refine aj ?_;(try exact⟨⟩)
  ·have h1:(j:Int)<(G.length:Int):=by omega
   have h2:¬((V j).length:Int)<(cap:Int):=by omega
   refine aj ?_;(try exact⟨⟩)
end
section
open Pm
attribute [local irreducible] aV aZ bQ bW aN aU
set_option maxHeartbeats 4000000 in
theorem MK(n:Nat)(zs:List Int)(hn:n≤6000):aQ 58 [.row n [.ints .i64 (n*3) zs],.row n [.ints .i64 (n*3) zs]] (.d (.v (.bool true))):=by
 refine dF (E:=wZ) Tryz.func58 Tryz.ntmps58 ?_
 have hq:(((n:Nat):Int) !=((n:Nat):Int))=false:=by simp
 refine aj ?_;(try exact⟨⟩)
 refine aM.mk (bV [0,1,5] [0] n (fun j=>⟨[.d (.row n [.ints .i64 (n*3) zs]),.d (.row n [.ints .i64 (n*3) zs]),.ah,.ah,.ah,.d (.v (.int .i64 (j:Nat))),.ah,.ah,.ah,.ah,.ah,.ah,.ah,.ah,.ah,.ah,.ah,.ah,.ah,.ah,.ah,.ah,.ah,.ah,.ah,.ah],[none]⟩) ?_)
 intro j hj hl
 by_cases h:j<n
 ·have h1:(j:Int)<(n:Int):=by omega
  have h2:decide (List.take 3 (List.drop (j*3) zs)=List.take 3 (List.drop (j*3) zs))=true:=decide_eq_true rfl
  refine aj ?_;(try exact⟨⟩)
  refine hl.go h [0,1,5] [0] ?_
  rfl
 ·obtain rfl:j=n:=by omega
  have h1:¬(j:Int)<(j:Int):=by omega
  refine aj ?_;(try exact⟨⟩)
set_option maxHeartbeats 4000000 in
theorem Nu(k:Nat)(bx:Nat→List UInt8)(hk:k≤6000)(hb:∀j,j<k→(bx j).length≤6000):aQ 59 [.recs k 1 (Hz bx),.recs k 1 (Hz bx)] (.d (.v (.bool true))):=by
 refine dF (E:=wZ) Tryz.func59 Tryz.ntmps59 ?_
 have hq:(((k:Nat):Int) !=((k:Nat):Int))=false:=by simp
 refine aj ?_;(try exact⟨⟩)
 refine aM.mk (bV [0,1,5] [0] k (fun j=>⟨[.d (.recs k 1 (Hz bx)),.d (.recs k 1 (Hz bx)),.ah,.ah,.ah,.d (.v (.int .i64 (j:Nat))),.ah,.ah,.ah,.ah,.ah,.ah,.ah,.ah,.ah,.ah,.ah,.ah,.ah,.ah,.ah,.ah,.ah,.ah,.ah,.ah,.ah,.ah],[none]⟩) ?_)
 intro j hj hl
 by_cases h:j<k
 ·have h1:(j:Int)<(k:Int):=by omega
  have h2:(!((⟨(bx j).toArray⟩:ByteArray).toList==(⟨(bx j).toArray⟩:ByteArray).toList))=false:=by simp
  have h3:=hb j (by omega)
  refine aj ?_;(try exact⟨⟩)
  refine hl.go h [0,1,5] [0] ?_
  rfl
 ·obtain rfl:j=k:=by omega
  have h1:¬(j:Int)<(j:Int):=by omega
  refine aj ?_;(try exact⟨⟩)
def Aw:List A→(bP→Prop)→Prop
 |[.row n [.ints .i64 q zs],.row n' [.ints .i64 q' ys]],C=>n'=n∧q=n*3∧q'=n*3∧ys=zs∧n≤6000∧C (.d (.v (.bool true)))
 |_,_=>False
theorem JI:∀args C,Aw args C→∃r,aQ 58 args r∧C r:=by
 intro args C hd
 unfold Aw at hd
 split at hd
 ·obtain⟨rfl,rfl,rfl,rfl,h1,hd⟩:=hd;exact⟨_,MK _ _ h1,hd⟩
 ·exact hd.elim
def Cz:List A→(bP→Prop)→Prop
 |[.recs k z f,.recs k' z' g],C=>k'=k∧z=1∧z'=1∧k≤6000∧g=f∧∃bx,f=Hz bx∧(∀j,j<k→(bx j).length≤6000)∧C (.d (.v (.bool true)))
 |_,_=>False
theorem J5:∀args C,Cz args C→∃r,aQ 59 args r∧C r:=by
 intro args C hd
 unfold Cz at hd
 split at hd
 ·obtain⟨rfl,rfl,rfl,h1,rfl,bx,rfl,h2,hd⟩:=hd;exact⟨_,Nu _ _ h1 h2,hd⟩
 ·exact hd.elim
noncomputable def aM2:av:=wZ.add 58 Aw JI ⟨_,Tryz.func58,by kernel_rfl,by kernel_rfl⟩
noncomputable def aM3:av:=aM2.add 59 Cz J5 ⟨_,Tryz.func59,by kernel_rfl,by kernel_rfl⟩
set_option maxHeartbeats 4000000 in
theorem Nz(c:CS)(hc:qH c):aQ 14 [.agg (gW c),.agg (gW c)] (.d (.v (.bool true))):=by
 refine dF (E:=aM3) Tryz.func14 Tryz.ntmps14 ?_
 obtain⟨b1,b2,b3,b4,b5,b6⟩:=hc
 have hq:(((c.n:Nat):Int) !=((c.n:Nat):Int))=false:=by simp
 have n1:c.m≤6000:=by omega
 have n2:c.k≤6000:=by omega
 refine aj ?_;(try exact⟨⟩)
 refine aM.mk (bV [2,3,5] [0,1] c.n (fun j=>⟨[.ah,.ah,.ptr 0 0,.ptr 1 0,.ah,.d (.v (.int .i64 (j:Nat))),.ah,.ah,.ah,.ah,.ah,.ah,.ah,.ah,.ah,.ah,.ah,.ah,.ah,.ah,.ah,.ah,.ah,.ah,.ah,.ah,.ah,.ah,.ah,.ah,.ah,.ah,.ah,.ah,.ah,.ah,.ah,.ah,.ah,.ah,.ah,.ah,.ah,.ah,.ah,.ah,.ah,.ah,.ah,.ah,.ah,.ah,.ah,.ah,.ah,.ah,.ah,.ah,.ah,.ah,.ah,.ah,.ah,.ah,.ah,.ah,.ah,.ah,.ah,.ah,.ah,.ah,.ah,.ah,.ah,.ah,.ah,.ah,.ah,.ah,.ah,.ah,.ah,.ah,.ah,.ah,.ah],[some (.var (gW c)),some (.var (gW c))]⟩) ?_)
 intro j hj hl
 by_cases h:j<c.n
 ·have h1:(j:Int)<(c.n:Int):=by omega
  have h2:decide (List.take 5 (List.drop (j*5) c.ops)=List.take 5 (List.drop (j*5) c.ops))=true:=decide_eq_true rfl
  refine aj ?_;(try exact⟨⟩)
  refine hl.go h [2,3,5] [0,1] ?_
  rfl
 obtain rfl:j=c.n:=by omega
 have h1:¬(c.n:Int)<(c.n:Int):=by omega
 have g1:(c.e==c.e)=true:=by simp
 have g2:(c.fr==c.fr)=true:=by simp
 have g3:(c.sl==c.sl)=true:=by simp
 have g4:bf [.ints .i64 3 [c.p0,c.p1,c.p2]] [.ints .i64 3 [c.p0,c.p1,c.p2]]=true:=by simp[bf]
 have g5:bf [.bytes 32 c.tag] [.bytes 32 c.tag]=true:=by simp[bf]
 have g6:bf [.ints .i64 2 [c.sE,c.sS]] [.ints .i64 2 [c.sE,c.sS]]=true:=by simp[bf]
 refine aj ?_;(try exact⟨⟩)
 try rw[g6]
def CO:List A→(bP→Prop)→Prop
 |[x,y],K=>oW x fun c=>oW y fun d=>d=c∧K (.d (.v (.bool true)))
 |_,_=>False
theorem Kh:∀args K,CO args K→∃r,aQ 14 args r∧K r:=by
 intro args K h
 unfold CO at h
 split at h
 ·obtain⟨c,h,hc⟩:=gG h
  obtain⟨d,⟨e,h⟩,hd⟩:=gG h
  rw[e]at hd
  refine⟨_,fun S w vs hG ha=>?_,h⟩
  obtain⟨v1,v2,rfl,k1,k2⟩:=lH ha
  obtain⟨q1,q2,q3⟩:=hc k1
  exact Nz c q2 S w _ hG (.cons q1 (.cons (hd k2).1 .nil))
 ·exact h.elim
end
section
open Pm
theorem LW{S:Nat→Prop}{w:World}{v:Value}{n sz:Nat}{f g:Nat→List Seg}(hf:∀j,j<n→f j=g j)(h:RA S w (.recs n sz f) v):RA S w (.recs n sz g) v:=by
 cases h with
 |recs h h1 h2 h3 h4=>exact .recs (fun j hj=>by rw[←hf j hj];exact h j hj) h1 h2 h3 h4
def xX(p:PS)(s:Vw)(q:PS)(d:List UInt8)(i:Nat):Wc:=nR q (fJ (aC d)) (bT p d) (dY q.ep) d (qM s.ng i)
theorem Sj(p:PS)(s:Vw)(q:PS)(d:List UInt8):∀i,i<fP s.ng 8→pV (ji q (fJ (aC d)) (bT p d) (dY q.ep) d) s.ng 8 i=jB (xX p s q d i):=fun i hi=>by
 rw[JJ _ _ _ _ hi]
 rfl
attribute [local irreducible] aV aZ bQ aA au dA cK bC aF bW aN aU ay ak aT dh bX aR bI fU bB iC aD aP jR dZ bZ bS aJ bT fJ aC dY TD bE aY dU gV dN fu jP ji pV om jm jQ dB gD fF eD xX
def aA3(p:PS)(n:Nat)(ops:List Int)(m:Nat)(vs:List Int)(d:List UInt8)(P:PS→A)(K:List A→Prop):Prop:=
 ∀e,e=bZ p n ops m vs→mI (aV (decide (e=0))
  (∀s c q N C,s=dZ p p.lf n ops→c=bS p s n ops m vs d→q=aJ p s n ops m vs d→N=fP s.ng 8→C=xX p s q d→K [.agg (jI c),.recs N 108 (fun i=>jB (C i)),P q,.v (.int .i64 0)])
  (K [.agg CF,.v (.slice none 0 0),.v (.pointer none),.v (.int .i64 e)]))
def Xm:List A→(bP→Prop)→Prop
 |[x,o,v,.agg [.bytes 32 d]],K=>Wd x fun p=>aG p.lf=true∧uL o fun n ops=>EO v fun m vs=>n≤3000∧m≤3000∧aA3 p n ops m vs d (fun q=>.sref (bL q) 0) fun l=>K (.t l)
 |_,_=>False
theorem aa5{S:Nat→Prop}{w:World}{a b c d b':A}{vs:List Value}(hb:∀v,RA S w b v→RA S w b' v)(h:lK S w [a,b,c,d] vs):lK S w [a,b',c,d] vs:=by
 cases h with|cons h1 r=>cases r with|cons h2 r=>exact .cons h1 (.cons (hb _ h2) r)
theorem aD7{f:FuncId}{args:List A}{a b c d b':A}(hb:∀{S:Nat→Prop} {w:World} {v:Value},RA S w b v→RA S w b' v)(h:aQ f args (.t [a,b,c,d])):aQ f args (.t [a,b',c,d]):=fun S w vs hG hv=>
 (h S w vs hG hv).mono fun e w' ⟨v,h1,⟨us,h2,h3⟩,h4⟩=>⟨v,h1,⟨us,h2,aa5 (fun v hv=>hb hv) h3⟩,h4⟩
theorem Xn:∀args K,Xm args K→∃r,aQ 12 args r∧K r:=by
 intro args K h
 unfold Xm at h
 split at h
 ·next x o v d=>
  obtain⟨p,rfl,hf,h⟩:=qQ h
  obtain⟨n,ops,_,h,ho⟩:=gJ h
  obtain⟨m,vs,_,⟨hn,hm,h⟩,hv⟩:=kH h
  have h:=(h _ rfl).out
  have hC:=FE p n ops hn m vs hm d hf
  by_cases he:bZ p n ops m vs=0
  ·rw[decide_eq_true he,iI]at h
   rw[if_pos he]at hC
   refine⟨_,fun S w vs' hG ha=>?_,h _ _ _ _ _ rfl rfl rfl rfl rfl⟩
   obtain⟨v1,v2,v3,v4,rfl,k1,k2,k3,k4⟩:=mh ha
   exact aD7 (fun hv=>LW (Sj _ _ _ _) hv) hC S w _ hG (.cons k1 (.cons (ho k2) (.cons (hv k3) (.cons k4 .nil))))
  ·rw[decide_eq_false he,gQ]at h
   rw[if_neg he]at hC
   refine⟨_,fun S w vs' hG ha=>?_,h⟩
   obtain⟨v1,v2,v3,v4,rfl,k1,k2,k3,k4⟩:=mh ha
   exact hC S w _ hG (.cons k1 (.cons (ho k2) (.cons (hv k3) (.cons k4 .nil))))
 ·exact h.elim
def Qm:List A→(bP→Prop)→Prop
 |[x,o,v,.agg [.bytes 32 d]],K=>xK x fun X=>∃p,X=dN p∧Own p∧uL o fun n ops=>EO v fun m vs=>n≤3000∧m≤3000∧aA3 p n ops m vs d (fun q=>.sref (dH (dN q)) 0) fun l=>K (.t l)
 |_,_=>False
theorem VG:∀args K,Qm args K→∃r,aQ 13 args r∧K r:=by
 intro args K h
 unfold Qm at h
 split at h
 ·next x o v d=>
  obtain⟨X,rfl,p,rfl,hp,h⟩:=MP h
  obtain⟨n,ops,_,h,ho⟩:=gJ h
  obtain⟨m,vs,_,⟨hn,hm,h⟩,hv⟩:=kH h
  have h:=(h _ rfl).out
  have hC:=ah8 p hp n ops hn m vs hm d
  unfold Sm at hC
  by_cases he:bZ p n ops m vs=0
  ·rw[decide_eq_true he,iI]at h
   rw[if_pos he]at hC
   refine⟨_,fun S w vs' hG ha=>?_,h _ _ _ _ _ rfl rfl rfl rfl rfl⟩
   obtain⟨v1,v2,v3,v4,rfl,k1,k2,k3,k4⟩:=mh ha
   exact aD7 (fun hv=>LW (Sj _ _ _ _) hv) hC S w _ hG (.cons k1 (.cons (ho k2) (.cons (hv k3) (.cons k4 .nil))))
  ·rw[decide_eq_false he,gQ]at h
   rw[if_neg he]at hC
   refine⟨_,fun S w vs' hG ha=>?_,h⟩
   obtain⟨v1,v2,v3,v4,rfl,k1,k2,k3,k4⟩:=mh ha
   exact hC S w _ hG (.cons k1 (.cons (ho k2) (.cons (hv k3) (.cons k4 .nil))))
 ·exact h.elim
def aa0:List A→(bP→Prop)→Prop
 |[x,y],K=>Wd x fun p=>oW y fun c=>aG p.lf=true∧eD c≤900000∧∀e o,(e,o)=gD p c→K (.t [Ab o,.v (.int .i64 e)])
 |_,_=>False
theorem aa1:∀args K,aa0 args K→∃r,aQ 15 args r∧K r:=by
 intro args K h
 unfold aa0 at h
 split at h
 ·obtain⟨p,rfl,h⟩:=qQ h
  obtain⟨c,⟨h1,h2,h⟩,hc⟩:=gG h
  refine⟨_,fun S w vs' hG ha=>?_,h _ _ rfl⟩
  obtain⟨v1,v2,rfl,k1,k2⟩:=lH ha
  obtain⟨q1,q2,q3⟩:=hc k2
  exact Pd p c q2 q3 h2 h1 S w _ hG (.cons k1 (.cons q1 .nil))
 ·exact h.elim
def Qy:List A→(bP→Prop)→Prop
 |[x,y],K=>xK x fun X=>∃p,X=dN p∧Own p∧oW y fun c=>eD c≤900000∧∀e o,(e,o)=gD p c→K (.t [LA o,.v (.int .i64 e)])
 |_,_=>False
theorem VZ:∀args K,Qy args K→∃r,aQ 16 args r∧K r:=by
 intro args K h
 unfold Qy at h
 split at h
 ·obtain⟨X,rfl,p,rfl,hp,h⟩:=MP h
  obtain⟨c,⟨h2,h⟩,hc⟩:=gG h
  refine⟨_,fun S w vs' hG ha=>?_,h _ _ rfl⟩
  obtain⟨v1,v2,rfl,k1,k2⟩:=lH ha
  obtain⟨q1,q2,q3⟩:=hc k2
  exact MW p hp c q2 q3 h2 S w _ hG (.cons k1 (.cons q1 .nil))
 ·exact h.elim
def Ow:List A→(bP→Prop)→Prop
 |[.agg [.bytes 32 h],y],K=>wcK y fun w=>w.bx.length≤1000000∧∀e o,(e,o)=fF h w→K (.t [Ab o,.v (.int .i64 e)])
 |_,_=>False
theorem Uj:∀args K,Ow args K→∃r,aQ 67 args r∧K r:=by
 intro args K h
 unfold Ow at h
 split at h
 ·obtain⟨c,⟨h1,h⟩,hc⟩:=zF h
  refine⟨_,fun S w vs' hG ha=>?_,h _ _ rfl⟩
  obtain⟨v1,v2,rfl,k1,k2⟩:=lH ha
  exact aq8 _ c h1 S w _ hG (.cons k1 (.cons (hc k2) .nil))
 ·exact h.elim
def P6:List A→(bP→Prop)→Prop
 |[.agg [.bytes 32 h]],K=>∀L,L=fu h→K (.d (.agg [.ints .i64 2 L]))
 |_,_=>False
theorem Vm:∀args K,P6 args K→∃r,aQ 10 args r∧K r:=by
 intro args K h
 unfold P6 at h
 split at h
 ·exact⟨_,MU _,h _ rfl⟩
 ·exact h.elim
def Jr:List A→(bP→Prop)→Prop
 |[.agg [.bytes 32 h]],K=>∀x,x=dN (aY h)→K (.d (.sref (dH x) 0))
 |_,_=>False
theorem PN:∀args K,Jr args K→∃r,aQ 9 args r∧K r:=by
 intro args K h
 unfold Jr at h
 split at h
 ·exact⟨_,BR (Qo _),h _ rfl⟩
 ·exact h.elim
def Nk:List A→(bP→Prop)→Prop
 |[.agg [.gen 2 l]],K=>(∃o,l=[Ab o,LA o])∧K (.d (.v (.bool true)))
 |_,_=>False
theorem SI:∀args K,Nk args K→∃r,aQ 69 args r∧K r:=by
 intro args K h
 unfold Nk at h
 split at h
 ·obtain⟨⟨o,rfl⟩,h⟩:=h
  exact⟨_,WG o,h⟩
 ·exact h.elim
def Qe:List A→(bP→Prop)→Prop
 |[.row n [.gen m l],.v (.int .i64 fr),x,.v (.int .i64 cap)],K=>∃G,n=G.length∧m=G.length*2∧l=gL G∧n≤1000000∧0≤cap∧cap≤1000000∧uL x fun o ops=>o≤3000∧∀V,V=bO G fr ops o cap.toNat G.length→K (.d (.row V.length [.ints .i64 (V.length*3) V.flatten]))
 |_,_=>False
theorem VB:∀args K,Qe args K→∃r,aQ 11 args r∧K r:=by
 intro args K h
 unfold Qe at h
 split at h
 ·obtain⟨G,rfl,rfl,rfl,h1,h2,h3,h⟩:=h
  obtain⟨o,ops,_,⟨ho,h⟩,hv⟩:=gJ h
  refine⟨_,fun S w vs' hG ha=>?_,h _ rfl⟩
  obtain⟨c,rfl⟩:=Int.eq_ofNat_of_zero_le h2
  obtain⟨v1,v2,v3,v4,rfl,k1,k2,k3,k4⟩:=mh ha
  exact ah2 G _ o ops ho c (by omega) h1 S w _ hG (.cons k1 (.cons k2 (.cons (hv k3) (.cons k4 .nil))))
 ·exact h.elim
noncomputable def aJ9:av:=NP.add 12 Xm Xn ⟨_,Tryz.func12,by kernel_rfl,by kernel_rfl⟩
noncomputable def aK0:av:=aJ9.add 13 Qm VG ⟨_,Tryz.func13,by kernel_rfl,by kernel_rfl⟩
noncomputable def aK1:av:=aK0.add 15 aa0 aa1 ⟨_,Tryz.func15,by kernel_rfl,by kernel_rfl⟩
noncomputable def aK2:av:=aK1.add 16 Qy VZ ⟨_,Tryz.func16,by kernel_rfl,by kernel_rfl⟩
noncomputable def aK3:av:=aK2.add 67 Ow Uj ⟨_,Tryz.func67,by kernel_rfl,by kernel_rfl⟩
noncomputable def aK4:av:=aK3.add 10 P6 Vm ⟨_,Tryz.func10,by kernel_rfl,by kernel_rfl⟩
noncomputable def aK5:av:=aK4.add 9 Jr PN ⟨_,Tryz.func9,by kernel_rfl,by kernel_rfl⟩
noncomputable def aK6:av:=aK5.add 69 Nk SI ⟨_,Tryz.func69,by kernel_rfl,by kernel_rfl⟩
noncomputable def aK7:av:=aK6.add 11 Qe VB ⟨_,Tryz.func11,by kernel_rfl,by kernel_rfl⟩
noncomputable def aK8:av:=aK7.add 14 CO Kh ⟨_,Tryz.func14,by kernel_rfl,by kernel_rfl⟩
end
section
open Pm
attribute [local irreducible] aA au dA cK aF bW aN aU ay ak aT dh bX aR bI fU iC aD bB aP bH bg gV aI nE qU kI bn fO eD dN dQ
theorem ai4(h:List UInt8)(w:Wc)(hbx:w.bx.length≤1000000):aQ 68 [.agg [.bytes 32 h],.agg (jB w)] (.t [LA (fF h w).2,.v (.int .i64 (fF h w).1)]):=by
 have A:jd h w=false→_→aQ 68 [.agg [.bytes 32 h],.agg (jB w)] (.t [LA (fF h w).2,.v (.int .i64 (fF h w).1)]):=fun e ho=>by
  have ej:fF h w=(10,none):=by unfold fF;rw[if_pos e]
  rw[ej]
  exact VJ h w rfl ho
 cases a1:dQ w.e w.zs w.ad w.k with
 |false=>exact A (by unfold jd;rw[a1];rfl) (.inl a1)
 |true=>
 by_cases b0:w.lf<0
 ·exact A (by unfold jd;rw[a1,show aG w.lf=false by unfold aG;simp;omega];rfl) (.inr ⟨a1,.inl b0⟩)
 by_cases b1:w.lf≥8
 ·exact A (by unfold jd;rw[a1,show aG w.lf=false by unfold aG;simp;omega];rfl) (.inr ⟨a1,.inr (.inl b1)⟩)
 have hlb:aG w.lf=true:=by unfold aG;simp;omega
 have e2:=xB (zs:=w.zs) (j:=w.lf.toNat) (by omega)
 have b0:0≤w.lf:=by omega
 have b1:w.lf<8:=by omega
 by_cases a5:List.take 2 (List.drop (w.lf.toNat*2) w.zs)=fu h
 case neg=>
  refine A ?_ (.inr ⟨a1,.inr (.inr ⟨b0,b1,.inl a5⟩)⟩)
  unfold jd
  rw[a1,hlb,e2,decide_eq_false a5]
  cases decide (w.lf≠w.fr)<;>rfl
 cases a6:bn w.zs w.fr with
 |false=>
  refine A ?_ (.inr ⟨a1,.inr (.inr ⟨b0,b1,.inr ⟨a5,.inl a6⟩⟩)⟩)
  unfold jd
  rw[a1,hlb,e2,decide_eq_true a5,a6]
  cases decide (w.lf≠w.fr)<;>rfl
 |true=>
 by_cases a4:w.fr=w.lf
 ·refine A ?_ (.inr ⟨a1,.inr (.inr ⟨b0,b1,.inr ⟨a5,.inr ⟨a6,a4⟩⟩⟩)⟩)
  unfold jd
  rw[a1,hlb,decide_eq_false (fun x:w.lf≠w.fr=>x a4.symm)]
  rfl
 have hfit:jd h w=nZ w:=by
  unfold jd
  rw[a1,hlb,e2,decide_eq_true a5,a6,decide_eq_true (show w.lf≠w.fr from fun x=>a4 x.symm)]
  rfl
 cases hb:nZ w with
 |false=>
  have ej:fF h w=(10,none):=by unfold fF;rw[if_pos (hfit.trans hb)]
  rw[ej]
  exact VK h w rfl a1 b0 b1 a5 a6 a4 hb
 |true=>
 have hfit:=hfit.trans hb
 have n0:¬jd h w=false:=by rw[hfit];decide
 refine VL h w rfl hbx a1 b0 b1 a5 a6 a4 hb ?_ ?_ ?_
 ·intro z
  have ej:fF h w=(3,none):=by unfold fF;rw[if_neg n0,if_pos z]
  rw[ej];rfl
 ·intro z y
  have ej:fF h w=(10,none):=by unfold fF;rw[if_neg n0,if_neg (fun x=>x z),if_pos y]
  rw[ej];rfl
 ·intro z y g r S H hx
  obtain⟨m0,m1⟩:=eX a6
  obtain⟨k,hk,hp,_⟩:=meets (a:=w.lf) (b:=w.fr) (by omega) (by omega) m0 m1 (fun e=>a4 e.symm)
  have hw:jr w=(k:Int):=hp
  have hBl:=oL z
  rw[y]at hBl
  have hul:(List.drop 32 (bg (au (ay (aC h))) w.bx)).length=32:=by rw[List.length_drop,hBl]
  obtain⟨j1,j2⟩:=join_eq (h:=h) b0 b1 hb (by omega) (by omega) hul
  obtain⟨P,hP⟩:∃P,P=aW (jy h w) (List.drop 32 (bg (au (ay (aC h))) w.bx)) (jr w).toNat:=⟨_,rfl⟩
  rw[←hP]at j1 j2
  rw[←hx]at j1 j2
  have hj:fF h w=if P.1=true then(if dY (bG P.2.2 (List.take 32 (bg (au (ay (aC h))) w.bx))).ep=w.tg then(0,some (bG P.2.2 (List.take 32 (bg (au (ay (aC h))) w.bx))))else(11,none))else(10,none):=by
   unfold fF
   rw[if_neg n0,if_neg (fun x=>x z),if_neg (fun x=>x y),←hP]
  have j1:g=P.1:=j1
  cases g with
  |false=>
   rw[if_pos rfl,hj,if_neg (by rw[←j1];decide)]
   rfl
  |true=>
   rw[if_neg (by decide),hj,if_pos j1.symm]
   have j2:=j2 j1.symm
   have eS:S=sP P.2.2:=congrArg (fun x=>x.2.2.1) j2
   have eH:H=nV P.2.2:=congrArg (fun x=>x.2.2.2) j2
   have hsame:jT (jy h w) P.2.2:=by
    have t:(aW (jy h w) (List.drop 32 (bg (au (ay (aC h))) w.bx)) (jr w).toNat).1=true:=by rw[←hP];exact j1.symm
    rw[hP]
    exact U9 (by show(zB 96).length=96;simp) hul (by omega) t
   have htag:dY (bG P.2.2 (List.take 32 (bg (au (ay (aC h))) w.bx))).ep=dY (mO (List.take 32 (bg (au (ay (aC h))) w.bx)) (aT w.e w.zs w.ad w.k w.ch)):=by
    rw[Gy,hsame.e,hsame.zs,hsame.ad,hsame.k,hsame.ch]
    rfl
   by_cases t:dY (mO (List.take 32 (bg (au (ay (aC h))) w.bx)) (aT w.e w.zs w.ad w.k w.ch))=w.tg
   ·rw[if_pos t,if_pos (htag.trans t)]
    dsimp only[LA]
    rw[Hg hsame,eS,eH]
    rfl
   ·rw[if_neg t,if_neg (fun e=>t (htag.symm.trans e))]
    rfl
def Qr:List A→(bP→Prop)→Prop
 |[.agg [.bytes 32 h],y],K=>wcK y fun w=>w.bx.length≤1000000∧∀e o,(e,o)=fF h w→K (.t [LA o,.v (.int .i64 e)])
 |_,_=>False
theorem VN:∀args K,Qr args K→∃r,aQ 68 args r∧K r:=by
 intro args K h
 unfold Qr at h
 split at h
 ·obtain⟨c,⟨h1,h⟩,hc⟩:=zF h
  refine⟨_,fun S w vs' hG ha=>?_,h _ _ rfl⟩
  obtain⟨v1,v2,rfl,k1,k2⟩:=lH ha
  exact ai4 _ c h1 S w _ hG (.cons k1 (.cons (hc k2) .nil))
 ·exact h.elim
noncomputable def Ih:av:=aK8.add 68 Qr VN ⟨_,Tryz.func68,by kernel_rfl,by kernel_rfl⟩
end
section
open Pm
theorem NW(zs:List Int)(j:Nat):∃M:Nat,M≤64∧(∀s:Nat,s<M→bq zs j≠fu (cO (s:Int)))∧((M=64∧lX zs j=none)∨(M<64∧bq zs j=fu (cO (M:Int))∧lX zs j=some M)):=by
 unfold lX
 cases h:(List.range 64).find? (fun s=>decide (bq zs j=fu (cO (s:Nat))))with
 |none=>
  refine⟨64,Nat.le_refl _,fun s hs=>?_,.inl ⟨rfl,rfl⟩⟩
  have:=List.find?_eq_none.1 h s (List.mem_range.2 hs)
  simpa using this
 |some M=>
  obtain⟨h1,l,r,h2,h3⟩:=List.find?_eq_some_iff_append.1 h
  have hl:l=List.range M:=by
   have hlen:l.length=M:=by
    have e:=congrArg (fun x=>x.getD l.length 0) h2
    have hlt:l.length<64:=by
     have:=congrArg List.length h2
     simp at this
     omega
    simp[List.getD_eq_getElem?_getD,hlt]at e
    exact e
   have e:=congrArg (List.take M) h2
   rw[←hlen,List.take_left']at e
   ·rw[←e,List.take_range,hlen]
    have:M<64:=by
     have:=congrArg List.length h2
     simp at this
     omega
    rw[Nat.min_eq_left (by omega)]
   ·rfl
  have hM:M<64:=by
   have:=List.mem_range.1 (List.mem_of_find?_eq_some h)
   exact this
  refine⟨M,by omega,fun s hs=>?_,.inr ⟨hM,of_decide_eq_true h1,rfl⟩⟩
  have:=h3 s (by rw[hl];exact List.mem_range.2 hs)
  simpa using this
attribute [local irreducible] aV aZ bQ aA au dA cK aF bW aN aU ay ak aT dh bX aR bI fU iC aD bB aP jR dZ bZ bS aJ bT fJ bH bg gV aI nE qU kI bn fO eD dQ fu bq aC cO fF dN
set_option maxHeartbeats 8000000 in
theorem Uk(G:List (Option PS))(C:Nat→Wc)(N:Nat)(n:Int)(hN:N≤8)(hG:G.length≤64)(hb:∀i,i<N→0≤(C i).lf∧(C i).lf<8∧(C i).bx.length≤1000000)
  (hj:∀i,i<N→∀s,lX (C i).zs (C i).lf.toNat=some s→(fF (cO (s:Nat)) (C i)).1=0):
  Nc Ih 17 31 2 G.length [.gen (G.length*2) (gL G)] [.recs N 108 (fun i=>jB (C i)),.v (.int .i64 n)]
   (.o 31 2 (G++iP C N).length [.gen ((G++iP C N).length*2) (gL (G++iP C N))]):=by
 refine ao5 Tryz.func17 Tryz.ntmps17 (.of ?_)
 obtain⟨J,hJ⟩:∃J:Nat→List (Option PS),J=fun j=>G++iP C j:=⟨_,rfl⟩
 have hJ0:J 0=G:=by rw[hJ];simp[iP]
 have hJs:∀j,J (j+1)=J j++uE (C j):=fun j=>by rw[hJ];simp[iP]
 have hJl:∀j,j≤N→(J j).length≤72:=fun j hj=>by
  have:=AU C j
  rw[hJ]
  simp only[List.length_append]
  omega
 have eJ:G++iP C N=J N:=by rw[hJ]
 rw[eJ]
 have HJ0:=Lib.hid hJ0
 have HJs:=Lib.hid hJs
 have HJl:=Lib.hid hJl
 have HB:=Lib.hid hb
 have HJ:=Lib.hid hj
 clear hJ hJ0 hJs hJl hb hj eJ
 refine aj ?_;(try exact⟨⟩)
 refine aM.mk (bV [0,1,2,7] [0] N (fun j=>⟨[.own 0 (J j).length,.d (.recs N 108 (fun i=>jB (C i))),.d (.v (.int .i64 n)),.ah,.ah,.ah,.ah,.d (.v (.int .i64 (j:Nat))),.ah,.ah,.ah,.ah,.ah,.ah,.ah,.ah,.ah,.ah,.ah,.ah,.ah,.ah,.ah,.ah,.ah,.ah,.ah,.ah,.ah,.ah,.ah,.ah,.ah,.ah,.ah,.ah,.ah,.ah,.ah,.ah,.ah,.ah,.ah,.ah,.ah,.ah,.ah,.ah,.ah,.ah,.ah,.ah,.ah,.ah,.ah,.ah,.ah,.ah,.ah,.ah,.ah,.ah,.ah,.ah,.ah,.ah,.ah,.ah,.ah,.ah,.ah,.ah,.ah,.ah,.ah,.ah,.ah,.ah,.ah,.ah,.ah,.ah,.ah,.ah,.ah,.ah,.ah],[some (.sl 31 2 (J j).length [.gen ((J j).length*2) (gL (J j))])]⟩) ?_ (h2:=by dsimp only;rw[HJ0.out];exact rfl))
 intro i hi hl
 by_cases h:i<N
 ·have h1:(i:Int)<(N:Int):=by omega
  obtain⟨b0,b1,b2⟩:=HB.out i h
  obtain⟨M,hM,hno,hend⟩:=NW (C i).zs (C i).lf.toNat
  have e2:=xB (zs:=(C i).zs) (j:=(C i).lf.toNat) (by omega)
  have HNO:=Lib.hid hno
  have bt5:=Lib.hid hend
  have HE2:=Lib.hid e2
  clear hno hend e2
  refine aj ?_;(try exact⟨⟩)
  refine aM.mk (bV [0,1,2,7,8] [0] M (fun s=>⟨[.own 0 (J i).length,.d (.recs N 108 (fun i=>jB (C i))),.d (.v (.int .i64 n)),.ah,.ah,.ah,.ah,.d (.v (.int .i64 (i:Nat))),.d (.v (.int .i64 (s:Nat))),.ah,.ah,.ah,.ah,.ah,.ah,.ah,.ah,.ah,.ah,.ah,.ah,.ah,.ah,.ah,.ah,.ah,.ah,.ah,.ah,.ah,.ah,.ah,.ah,.ah,.ah,.ah,.ah,.ah,.ah,.ah,.ah,.ah,.ah,.ah,.ah,.ah,.ah,.ah,.ah,.ah,.ah,.ah,.ah,.ah,.ah,.ah,.ah,.ah,.ah,.ah,.ah,.ah,.ah,.ah,.ah,.ah,.ah,.ah,.ah,.ah,.ah,.ah,.ah,.ah,.ah,.ah,.ah,.ah,.ah,.ah,.ah,.ah,.ah,.ah,.ah,.ah,.ah],[some (.sl 31 2 (J i).length [.gen ((J i).length*2) (gL (J i))])]⟩) ?_)
  intro s hs hls
  by_cases hsM:s<M
  ·have s1:(s:Int)<64:=by omega
   have c1:(!bf [Seg.ints .i64 2 (fu (cO (s:Int)))] [Seg.ints .i64 2 (List.take 2 (List.drop ((C i).lf.toNat*2) (C i).zs))])=true:=by
    have:=HNO.out s hsM
    rw[HE2.out]at this
    simp only[bf,Bool.and_true,Bool.not_eq_true',decide_eq_false_iff_not]
    exact fun e=>this e.symm
   refine aj ?_;(try exact⟨⟩)
   intro q hq
   obtain rfl:q=cO (s:Int):=hq
   refine aj ?_;(try exact⟨⟩)
   intro L hL
   obtain rfl:L=fu (cO (s:Int)):=hL
   refine aj ?_;(try exact⟨⟩)
   refine hls.go hsM [0,1,2,7,8] [0] ?_
   rfl
  obtain rfl:s=M:=by omega
  rcases bt5.out with⟨rfl,hf⟩|⟨bM8,heq,hf⟩
  ·have e1:J (i+1)=J i:=by rw[HJs.out,uE,hf];simp
   have E1:=Lib.hid e1
   clear e1 hf
   refine aj ?_;(try exact⟨⟩)
   refine hl.go h [0,1,2,7] [0] ?_
   dsimp only
   rw[E1.out]
   rfl
  have s1:(s:Int)<64:=by omega
  have c1:(!bf [Seg.ints .i64 2 (fu (cO (s:Int)))] [Seg.ints .i64 2 (List.take 2 (List.drop ((C i).lf.toNat*2) (C i).zs))])=false:=by
   rw[HE2.out]at heq
   rw[heq]
   simp[bf]
  have e1:J (i+1)=J i++[(fF (cO (s:Nat)) (C i)).2]:=by rw[HJs.out,uE,hf]
  have E1:=Lib.hid e1
  have E0:=Lib.hid (HJ.out i h s hf)
  clear e1 hf heq
  refine aj ?_;(try exact⟨⟩)
  intro q hq
  obtain rfl:q=cO (s:Int):=hq
  refine aj ?_;(try exact⟨⟩)
  intro L hL
  obtain rfl:L=fu (cO (s:Int)):=hL
  refine aj ?_;(try exact⟨⟩)
  intro q hq
  obtain rfl:q=cO (s:Int):=hq
  refine aj ?_;(try exact⟨⟩)
  intro e o ho
  obtain rfl:e=0:=(congrArg Prod.fst ho).trans E0.out
  have HO:=Lib.hid (show o=(fF (cO (s:Int)) (C i)).2 from congrArg Prod.snd ho)
  clear ho
  have hJl:=HJl.out i (by omega)
  cases o with
  |none=>
   refine aj ?_;(try exact⟨⟩)
   intro q hq
   obtain rfl:q=cO (s:Int):=hq
   refine aj ?_;(try exact⟨⟩)
   intro e o ho
   obtain rfl:e=0:=(congrArg Prod.fst ho).trans E0.out
   obtain rfl:o=none:=(congrArg Prod.snd ho).trans HO.out.symm
   have E1:=E1.out
   rw[←HO.out]at E1
   have l1:(J (i+1)).length=(J i).length+1:=by rw[E1];simp
   have l2:(J (i+1)).length*2=(J i).length*2+2:=by omega
   have l3:gL (J (i+1))=gL (J i)++[Ab (none),LA (none)]:=by rw[E1,Oe];rfl
   have L1:=Lib.hid l1
   have L2:=Lib.hid l2
   have L3:=Lib.hid l3
   clear ho E1 l1 l2 l3
   refine aj ?_;(try exact⟨⟩)
   refine hl.go h [0,1,2,7] [0] ?_
   dsimp only
   rw[L2.out,L1.out,L3.out]
   rfl
  |some O=>
   refine aj ?_;(try exact⟨⟩)
   intro q hq
   obtain rfl:q=cO (s:Int):=hq
   refine aj ?_;(try exact⟨⟩)
   intro e o ho
   obtain rfl:e=0:=(congrArg Prod.fst ho).trans E0.out
   obtain rfl:o=some O:=(congrArg Prod.snd ho).trans HO.out.symm
   have E1:=E1.out
   rw[←HO.out]at E1
   have l1:(J (i+1)).length=(J i).length+1:=by rw[E1];simp
   have l2:(J (i+1)).length*2=(J i).length*2+2:=by omega
   have l3:gL (J (i+1))=gL (J i)++[Ab (some O),LA (some O)]:=by rw[E1,Oe];rfl
   have L1:=Lib.hid l1
   have L2:=Lib.hid l2
   have L3:=Lib.hid l3
   clear ho E1 l1 l2 l3
   refine aj ?_;(try exact⟨⟩)
   refine hl.go h [0,1,2,7] [0] ?_
   dsimp only
   rw[L2.out,L1.out,L3.out]
   rfl
 ·obtain rfl:i=N:=by omega
  have h1:¬(i:Int)<(i:Int):=by omega
  have hJl:=HJl.out i (Nat.le_refl _)
  refine aj ?_;(try exact⟨⟩)
  refine aM.mk (bV [0,13] [0] (J i).length (fun j=>⟨[.own 0 (J i).length,.ah,.ah,.ah,.ah,.ah,.ah,.ah,.ah,.ah,.ah,.ah,.ah,.d (.v (.int .i64 (j:Nat))),.ah,.ah,.ah,.ah,.ah,.ah,.ah,.ah,.ah,.ah,.ah,.ah,.ah,.ah,.ah,.ah,.ah,.ah,.ah,.ah,.ah,.ah,.ah,.ah,.ah,.ah,.ah,.ah,.ah,.ah,.ah,.ah,.ah,.ah,.ah,.ah,.ah,.ah,.ah,.ah,.ah,.ah,.ah,.ah,.ah,.ah,.ah,.ah,.ah,.ah,.ah,.ah,.ah,.ah,.ah,.ah,.ah,.ah,.ah,.ah,.ah,.ah,.ah,.ah,.ah,.ah,.ah,.ah,.ah,.ah,.ah,.ah,.ah],[some (.sl 31 2 (J i).length [.gen ((J i).length*2) (gL (J i))])]⟩) ?_)
  intro j hj hl
  by_cases hjl:j<(J i).length
  ·have j1:(j:Int)<((J i).length:Int):=by omega
   have g2:=Yp (J i) j hjl
   refine aj ?_;(try exact⟨⟩)
   refine⟨⟨_,g2⟩,?_⟩
   refine aj ?_;(try exact⟨⟩)
   refine hl.go hjl [0,13] [0] ?_
   rfl
  ·have j1:¬(j:Int)<((J i).length:Int):=by omega
   refine aj ?_;(try exact⟨⟩)
end
end Go.Proofs.YtjdjelopkhjdnaaGreatDoor
