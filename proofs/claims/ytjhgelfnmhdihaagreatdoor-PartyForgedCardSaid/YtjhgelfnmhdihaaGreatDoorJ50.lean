/-
  The law of parties: seeds; what both tell; approvals.
-/
import Derived.Test.YtjhgelfnmhdihaaGreatDoorJ47
import Derived.Test.YtjhgelfnmhdihaaGreatDoorJ49
namespace Go.Proofs.YtjhgelfnmhdihaaGreatDoor
set_option linter.unusedVariables false
set_option linter.unusedSimpArgs false
set_option maxRecDepth 100000
open Go.RowKit
section
open Pm
theorem JU(n:Int):0≤IntKind.u8.wrap n∧IntKind.u8.wrap n<256:=by
 have e1:(2:Int)^8=256:=by decide
 simp only[IntKind.wrap,IntKind.signed,IntKind.bits,Bool.false_and,e1]
 simp
 omega
theorem tJ(p:PS):(dQ p).e=p.e∧(dQ p).zs=p.zs∧(dQ p).ad=p.ad∧(dQ p).k=p.k∧(dQ p).ch=p.ch∧(dQ p).lf=p.lf∧(dQ p).x=au p.sg∧(dQ p).y=aA 4 (au p.sg)∧(dQ p).ep=p.ep∧(dQ p).jK=p.jK:=by
 dsimp only[dQ]
 exact⟨rfl,rfl,rfl,rfl,rfl,rfl,rfl,rfl,rfl,rfl⟩
attribute [local irreducible] aU aZ bR aA au dB cO bD aF bZ aN aT av ak aR cZ bX aQ bK gB bA iC aD aO jW dJ bW bH aH bT fU aC eB Oh bG aY dG gY dQ eT jm jr pY l8 jo jQ dw
theorem aw6{S:Nat→Prop}{w:World}{a b c d e:A}{vs:List Value}(h:lW S w [a,b,c,d,e] vs):∃x y z u t,vs=[x,y,z,u,t]∧RA S w a x∧RA S w b y∧RA S w c z∧RA S w d u∧RA S w e t:=by
 cases h with|cons h r=>cases r with|cons h2 r=>cases r with|cons h3 r=>cases r with|cons h4 r=>cases r with|cons h5 r=>cases r;exact⟨_,_,_,_,_,rfl,h,h2,h3,h4,h5⟩
def PU:List A→(bP→Prop)→Prop
 |[.agg [.ints .i64 1 [e],.ints .i64 31 zs,.bools 8 ad,.ints .i64 1 [k],.bytes 32 ch],.v (.int .i64 who),.agg [.ints .i64 2 [s,y]],.v (.int .i64 fr),x],K=>
  y=aA 4 s∧1≤s∧s<1073741789∧uS x fun n ops=>∀er,er=l8 e zs ad k who s fr ops n→mR (aU (decide (er=0)) (K (.t [.agg [.ints .i64 3 [who,jo s (dw e zs ad k ch fr ops),jQ s (dw e zs ad k ch fr ops)]],.v (.int .i64 0)])) (K (.t [.agg [.ints .i64 3 [0,0,0]],.v (.int .i64 er)])))
 |_,_=>False
theorem Ve:∀args K,PU args K→∃r,aP 41 args r∧K r:=by
 intro args K h
 unfold PU at h
 split at h
 ·next e zs ad k ch who s y fr x=>
  obtain⟨rfl,h1,h2,h⟩:=h
  obtain⟨n,ops,hn,h,hv⟩:=gM h
  have h:=(h _ rfl).out
  refine⟨.t (Kh e zs ad k ch who s fr ops n),fun S w vs hG ha=>?_,?_⟩
  ·obtain⟨v1,v2,v3,v4,v5,rfl,k1,k2,k3,k4,k5⟩:=aw6 ha
   exact Mi e zs ad k ch who s ⟨h1,h2⟩ fr ops n hn S w _ hG (.cons k1 (.cons k2 (.cons k3 (.cons k4 (.cons (hv k5) .nil)))))
  ·unfold Kh
   by_cases he:l8 e zs ad k who s fr ops n=0
   ·rw[decide_eq_true he,iM]at h
    rw[if_pos he]
    exact h
   ·rw[decide_eq_false he,gW]at h
    rw[if_neg he]
    exact h
 ·exact h.elim
noncomputable def XW:ay:=X4.add 41 PU Ve ⟨_,Tryz.func41,by kernel_rfl,by kernel_rfl⟩
theorem ad8(n:Int):aP 32 [.v (.int .i64 n)] (.d (.agg [.bytes 32 (bU n)])):=by
 refine dK (E:=XW) Tryz.func32 Tryz.ntmps32 ?_
 obtain⟨hw0,hw1⟩:=JU n
 refine aj ?_;(try exact⟨⟩)
 try rfl
def Qh:List A→(bP→Prop)→Prop
 |[.v (.int .i64 n)],K=>∀h,h=bU n→K (.d (.agg [.bytes 32 h]))
 |_,_=>False
theorem Vq:∀args K,Qh args K→∃r,aP 32 args r∧K r:=by
 intro args K h
 unfold Qh at h
 split at h
 ·exact⟨_,ad8 _,h _ rfl⟩
 ·exact h.elim
def ai7:List A→(bP→Prop)→Prop
 |[x,.v (.string l)],K=>l.size≤1000000∧xK x fun p=>K (.d (.agg [.bytes 32 (Oh p.ep (sb l))]))
 |_,_=>False
theorem ai8:∀args K,ai7 args K→∃r,aP 35 args r∧K r:=by
 intro args K h
 unfold ai7 at h
 split at h
 ·obtain⟨hl,h⟩:=h
  obtain⟨p,rfl,h⟩:=M7 h
  exact⟨_,QF p _ hl,h⟩
 ·exact h.elim
noncomputable def aL1:ay:=XW.add 32 Qh Vq ⟨_,Tryz.func32,by kernel_rfl,by kernel_rfl⟩
noncomputable def Oa:ay:=aL1.add 35 ai7 ai8 ⟨_,Tryz.func35,by kernel_rfl,by kernel_rfl⟩
set_option maxHeartbeats 2000000 in
theorem WV(o:Option PS):aP 26 [.agg [.gen 2 [Ah o,LV o]]] (.d (.v (.bool true))):=by
 refine dK (E:=Oa) Tryz.func26 Tryz.ntmps26 ?_
 cases o with
 |none=>
  refine aj ?_;(try exact⟨⟩)
 |some p=>
  obtain⟨e1,e2,e3,e4,e5,e6,e7,e8,e9,e10⟩:=tJ p
  refine aj ?_;(try exact⟨⟩)
  rw[e9]
  simp[bf]
set_option maxHeartbeats 2000000 in
theorem votes_o(G:List (Option PS))(fr:Int)(o:Nat)(ops:List Int)(ho:o≤3000)(cap:Nat)(hc:cap≤1000000)(hG:G.length≤1000000):aP 20 [.row G.length [.gen (G.length*2) (gL G)],.v (.int .i64 fr),.row o [.ints .i64 (o*5) ops],.v (.int .i64 cap)]
  (.o 99 3 (bE G fr ops o cap G.length).length [.ints .i64 ((bE G fr ops o cap G.length).length*3) (bE G fr ops o cap G.length).flatten]):=by
 refine dK (E:=Oa) Tryz.func20 Tryz.ntmps20 ?_
 obtain⟨N,hN,hno,hend⟩:=Dk (fun j=>decide (cap≤(bE G fr ops o cap j).length)) G.length
 have hfin:bE G fr ops o cap G.length=bE G fr ops o cap N:=by
  rcases hend with rfl|⟨h1,h2⟩
  ·rfl
  ·have h3:¬(bE G fr ops o cap N).length<cap:=by have:=of_decide_eq_true h2;omega
   have:=tH h3 (G.length-N)
   rwa [show N+(G.length-N)=G.length by omega]at this
 rw[hfin]
 clear hfin
 obtain⟨V,hV⟩:∃V:Nat→List (List Int),V=fun j=>bE G fr ops o cap j:=⟨_,rfl⟩
 have hV0:V 0=[]:=by rw[hV];rfl
 have hVs:∀j,V j=bE G fr ops o cap j:=fun j=>by rw[hV]
 have hno:∀j,j<N→(V j).length<cap:=fun j hj=>by have:=of_decide_eq_false (hno j hj);rw[hVs];omega
 have hend:N=G.length∨(N<G.length∧cap≤(V N).length):=by
  rcases hend with h|⟨h1,h2⟩
  ·exact .inl h
  ·refine .inr ⟨h1,?_⟩
   rw[hVs]
   exact of_decide_eq_true h2
 rw[←hVs]
 have HVs:=Lib.hid hVs
 have HV0:=Lib.hid hV0
 have HNO:=Lib.hid hno
 clear hV hVs hV0 hno
 refine aj ?_;(try exact⟨⟩)
 refine aM.mk (jw [0,1,2,3,9,10] [0] 9 99 3 [.ints .i64 0 []] N (fun j=>⟨[.d (.row G.length [.gen (G.length*2) (gL G)]),.d (.v (.int .i64 fr)),.d (.row o [.ints .i64 (o*5) ops]),.d (.v (.int .i64 cap)),.ah,.ah,.ah,.ah,.ah,.own 0 (V j).length,.d (.v (.int .i64 (j:Nat))),.ah,.ah,.ah,.ah,.ah,.ah,.ah,.ah,.ah,.ah,.ah,.ah,.ah,.ah,.ah,.ah,.ah,.ah,.ah,.ah,.ah,.ah,.ah,.ah,.ah,.ah,.ah,.ah,.ah,.ah,.ah,.ah,.ah,.ah,.ah,.ah,.ah,.ah,.ah,.ah,.ah,.ah,.ah,.ah,.ah,.ah,.ah,.ah,.ah,.ah,.ah,.ah,.ah,.ah,.ah,.ah,.ah],[some (.sl 99 3 (V j).length [.ints .i64 ((V j).length*3) (V j).flatten])]⟩) ?_ (h2:=by dsimp only;rw[HV0.out];exact rfl))
 intro j hj hl
 by_cases h:j<N
 ·have h1:(j:Int)<(G.length:Int):=by omega
  have h2:((V j).length:Int)<(cap:Int):=by have:=HNO.out j h;omega
  have hg:=(OA G j (by omega)).2
  have hvl:(V j).length≤1000000:=by have:=HNO.out j h;omega
  cases hp:iE G j with
  |none=>
   have hV1:=Lib.hid (show V (j+1)=V j by
    rw[HVs.out,HVs.out,bE,if_pos (by rw[←HVs.out];exact HNO.out j h),hp])
   rw[hp]at hg
   have hg:(gL G).getD (j*2+1) (.v undef)=.v (.pointer none):=hg
   clear hend
   refine aj ?_;(try exact⟨⟩)
   rw[hg]
   refine aj ?_;(try exact⟨⟩)
   refine hl.go h [0,1,2,3,9,10] [0] ?_
   dsimp only
   rw[hV1.out]
   rfl
  |some p=>
   have hV1:=Lib.hid (show V (j+1)=if Ti p fr ops o=true then V j++[wQ p fr ops]else V j by
    rw[HVs.out,HVs.out,bE,if_pos (by rw[←HVs.out];exact HNO.out j h),hp])
   rw[hp]at hg
   have hg:(gL G).getD (j*2+1) (.v undef)=.sref (dM (dQ p)) 0:=hg
   obtain⟨e1,e2,e3,e4,e5,e6,e7,e8,e9,e10⟩:=tJ p
   have hy:(dQ p).y=aA 4 (dQ p).x:=by rw[e7,e8]
   have b1:1≤(dQ p).x:=by rw[e7];exact(dL _).1
   have b2:(dQ p).x<1073741789:=by rw[e7];exact(dL _).2
   have E7:=Lib.hid e7
   have E1:=Lib.hid e1
   have E2:=Lib.hid e2
   have E3:=Lib.hid e3
   have E4:=Lib.hid e4
   have E5:=Lib.hid e5
   have E6:=Lib.hid e6
   clear e1 e2 e3 e4 e5 e6 e7 e8 e9 e10 hend
   refine aj ?_;(try exact⟨⟩)
   rw[hg]
   refine aj ?_;(try exact⟨⟩)
   rw[hg]
   refine aj ?_;(try exact⟨⟩)
   rw[hg]
   refine aj ?_;(try exact⟨⟩)
   rw[hg]
   refine aj ?_;(try exact⟨⟩)
   intro er her
   by_cases z:er=0
   ·have z1:=decide_eq_true z
    refine aj ?_;(try exact⟨⟩)
    refine hl.go h [0,1,2,3,9,10] [0] ?_
    rw[E1.out,E2.out,E3.out,E4.out,E6.out,E7.out]at her
    have ha:Ti p fr ops o=true:=decide_eq_true (her.symm.trans z)
    have hV2:=hV1.out
    rw[if_pos ha]at hV2
    have l1:(V (j+1)).length=(V j).length+1:=by rw[hV2];simp
    have l2:(V (j+1)).length*3=(V j).length*3+3:=by omega
    have l3:(V (j+1)).flatten=(V j).flatten++[(dQ p).lf,jo (dQ p).x (dw (dQ p).e (dQ p).zs (dQ p).ad (dQ p).k (dQ p).ch fr ops),jQ (dQ p).x (dw (dQ p).e (dQ p).zs (dQ p).ad (dQ p).k (dQ p).ch fr ops)]:=by
     rw[hV2,List.flatten_append,E1.out,E2.out,E3.out,E4.out,E5.out,E6.out,E7.out]
     rfl
    dsimp only
    rw[l2,l1,l3]
    rfl
   ·have z1:=decide_eq_false z
    have z2:(er==0)=false:=by simpa using z
    refine aj ?_;(try exact⟨⟩)
    refine hl.go h [0,1,2,3,9,10] [0] ?_
    rw[E1.out,E2.out,E3.out,E4.out,E6.out,E7.out]at her
    have ha:¬Ti p fr ops o=true:=fun h=>z (her.trans (of_decide_eq_true h))
    have hV2:=hV1.out
    rw[if_neg ha]at hV2
    dsimp only
    rw[hV2]
    rfl
 ·obtain rfl:j=N:=by omega
  rcases hend with rfl|⟨h1,h2⟩
  ·have h1:¬(G.length:Int)<(G.length:Int):=by omega
   refine aj ?_;(try exact⟨⟩)
  ·have h1:(j:Int)<(G.length:Int):=by omega
   have h2:¬((V j).length:Int)<(cap:Int):=by omega
   refine aj ?_;(try exact⟨⟩)
theorem ah8(G:List (Option PS))(fr:Int)(o:Nat)(ops:List Int)(ho:o≤3000)(cap:Nat)(hc:cap≤1000000)(hG:G.length≤1000000):aP 20 [.row G.length [.gen (G.length*2) (gL G)],.v (.int .i64 fr),.row o [.ints .i64 (o*5) ops],.v (.int .i64 cap)]
  (.d (.row (bE G fr ops o cap G.length).length [.ints .i64 ((bE G fr ops o cap G.length).length*3) (bE G fr ops o cap G.length).flatten])):=
 mZ (e:=99) (sz:=3) (votes_o G fr o ops ho cap hc hG)
theorem fnF_row{P:Program}{G:Nat→Option (List Seg)}{f:FuncId}{args:List A}{e:TypeId}{sz n m:Nat}{k:IntKind}{l:List Int}(h:lM P G f args (.o e sz n [.ints k m l])):FnF P G f args (.d (.row n [.ints k m l])):=fun S w vs hG hv=>
 (h S w vs hG hv).mono fun e w' ⟨v,h1,⟨cs,h2,h3⟩,h4⟩=>⟨v,h1,P6 ⟨cs,h2,by cases h3 with|ints q r=>cases r;exact .ints q .nil⟩,h4⟩
theorem votes_fnF(G:List (Option PS))(fr:Int)(o:Nat)(ops:List Int)(ho:o≤3000)(cap:Nat)(hc:cap≤1000000)(hG:G.length≤1000000):FnF Tryz.prog gTab 20 [.row G.length [.gen (G.length*2) (gL G)],.v (.int .i64 fr),.row o [.ints .i64 (o*5) ops],.v (.int .i64 cap)]
  (.d (.row (bE G fr ops o cap G.length).length [.ints .i64 ((bE G fr ops o cap G.length).length*3) (bE G fr ops o cap G.length).flatten])):=
 fnF_row (votes_o G fr o ops ho cap hc hG)
end
section
open Pm
attribute [local irreducible] aU aZ bR bZ aN aT
set_option maxHeartbeats 4000000 in
theorem MZ(n:Nat)(zs:List Int)(hn:n≤6000):aP 80 [.row n [.ints .i64 (n*3) zs],.row n [.ints .i64 (n*3) zs]] (.d (.v (.bool true))):=by
 refine dK (E:=xq) Tryz.func80 Tryz.ntmps80 ?_
 have hq:(((n:Nat):Int) !=((n:Nat):Int))=false:=by simp
 refine aj ?_;(try exact⟨⟩)
 refine aM.mk (bV [0,1,5] [0] n (fun j=>⟨[.d (.row n [.ints .i64 (n*3) zs]),.d (.row n [.ints .i64 (n*3) zs]),.ah,.ah,.ah,.d (.v (.int .i64 (j:Nat))),.ah,.ah,.ah,.ah,.ah,.ah,.ah,.ah,.ah,.ah,.ah,.ah,.ah,.ah,.ah,.ah,.ah,.ah,.ah,.ah],[none]⟩) ?_)
 intro j hj hl
 by_cases h:j<n
 ·have h1:(j:Int)<(n:Int):=by omega
  have h2:decide (List.take 3 (List.drop (j*3) zs)=List.take 3 (List.drop (j*3) zs))=true:=decide_eq_true rfl
  refine aj ?_;(try exact⟨⟩)
  refine hl.go h [0,1,5] [0] ?_
  rfl
 ·obtain rfl:j=n:=by omega
  have h1:¬(j:Int)<(j:Int):=by omega
  refine aj ?_;(try exact⟨⟩)
set_option maxHeartbeats 4000000 in
theorem NK(k:Nat)(bx:Nat→List UInt8)(hk:k≤6000)(hb:∀j,j<k→(bx j).length≤6000):aP 81 [.recs k 1 (Im bx),.recs k 1 (Im bx)] (.d (.v (.bool true))):=by
 refine dK (E:=xq) Tryz.func81 Tryz.ntmps81 ?_
 have hq:(((k:Nat):Int) !=((k:Nat):Int))=false:=by simp
 refine aj ?_;(try exact⟨⟩)
 refine aM.mk (bV [0,1,5] [0] k (fun j=>⟨[.d (.recs k 1 (Im bx)),.d (.recs k 1 (Im bx)),.ah,.ah,.ah,.d (.v (.int .i64 (j:Nat))),.ah,.ah,.ah,.ah,.ah,.ah,.ah,.ah,.ah,.ah,.ah,.ah,.ah,.ah,.ah,.ah,.ah,.ah,.ah,.ah,.ah,.ah],[none]⟩) ?_)
 intro j hj hl
 by_cases h:j<k
 ·have h1:(j:Int)<(k:Int):=by omega
  have h2:(!((⟨(bx j).toArray⟩:ByteArray).toList==(⟨(bx j).toArray⟩:ByteArray).toList))=false:=by simp
  have h3:=hb j (by omega)
  refine aj ?_;(try exact⟨⟩)
  refine hl.go h [0,1,5] [0] ?_
  rfl
 ·obtain rfl:j=k:=by omega
  have h1:¬(j:Int)<(j:Int):=by omega
  refine aj ?_;(try exact⟨⟩)
def AL:List A→(bP→Prop)→Prop
 |[.row n [.ints .i64 q zs],.row n' [.ints .i64 q' ys]],C=>n'=n∧q=n*3∧q'=n*3∧ys=zs∧n≤6000∧C (.d (.v (.bool true)))
 |_,_=>False
theorem JZ:∀args C,AL args C→∃r,aP 80 args r∧C r:=by
 intro args C hd
 unfold AL at hd
 split at hd
 ·obtain⟨rfl,rfl,rfl,rfl,h1,hd⟩:=hd;exact⟨_,MZ _ _ h1,hd⟩
 ·exact hd.elim
def CU:List A→(bP→Prop)→Prop
 |[.recs k z f,.recs k' z' g],C=>k'=k∧z=1∧z'=1∧k≤6000∧g=f∧∃bx,f=Im bx∧(∀j,j<k→(bx j).length≤6000)∧C (.d (.v (.bool true)))
 |_,_=>False
theorem Kn:∀args C,CU args C→∃r,aP 81 args r∧C r:=by
 intro args C hd
 unfold CU at hd
 split at hd
 ·obtain⟨rfl,rfl,rfl,h1,rfl,bx,rfl,h2,hd⟩:=hd;exact⟨_,NK _ _ h1 h2,hd⟩
 ·exact hd.elim
noncomputable def aN4:ay:=xq.add 80 AL JZ ⟨_,Tryz.func80,by kernel_rfl,by kernel_rfl⟩
noncomputable def aN5:ay:=aN4.add 81 CU Kn ⟨_,Tryz.func81,by kernel_rfl,by kernel_rfl⟩
set_option maxHeartbeats 4000000 in
theorem NS(c:CS)(hc:qL c):aP 30 [.agg (gZ c),.agg (gZ c)] (.d (.v (.bool true))):=by
 refine dK (E:=aN5) Tryz.func30 Tryz.ntmps30 ?_
 obtain⟨b1,b2,b3,b4,b5,b6⟩:=hc
 have hq:(((c.n:Nat):Int) !=((c.n:Nat):Int))=false:=by simp
 have n1:c.m≤6000:=by omega
 have n2:c.k≤6000:=by omega
 refine aj ?_;(try exact⟨⟩)
 refine aM.mk (bV [2,3,5] [0,1] c.n (fun j=>⟨[.ah,.ah,.ptr 0 0,.ptr 1 0,.ah,.d (.v (.int .i64 (j:Nat))),.ah,.ah,.ah,.ah,.ah,.ah,.ah,.ah,.ah,.ah,.ah,.ah,.ah,.ah,.ah,.ah,.ah,.ah,.ah,.ah,.ah,.ah,.ah,.ah,.ah,.ah,.ah,.ah,.ah,.ah,.ah,.ah,.ah,.ah,.ah,.ah,.ah,.ah,.ah,.ah,.ah,.ah,.ah,.ah,.ah,.ah,.ah,.ah,.ah,.ah,.ah,.ah,.ah,.ah,.ah,.ah,.ah,.ah,.ah,.ah,.ah,.ah,.ah,.ah,.ah,.ah,.ah,.ah,.ah,.ah,.ah,.ah,.ah,.ah,.ah,.ah,.ah,.ah,.ah,.ah,.ah],[some (.var (gZ c)),some (.var (gZ c))]⟩) ?_)
 intro j hj hl
 by_cases h:j<c.n
 ·have h1:(j:Int)<(c.n:Int):=by omega
  have h2:decide (List.take 5 (List.drop (j*5) c.ops)=List.take 5 (List.drop (j*5) c.ops))=true:=decide_eq_true rfl
  refine aj ?_;(try exact⟨⟩)
  refine hl.go h [2,3,5] [0,1] ?_
  rfl
 obtain rfl:j=c.n:=by omega
 have h1:¬(c.n:Int)<(c.n:Int):=by omega
 have g1:(c.e==c.e)=true:=by simp
 have g2:(c.fr==c.fr)=true:=by simp
 have g3:(c.sl==c.sl)=true:=by simp
 have g4:bf [.ints .i64 3 [c.p0,c.p1,c.p2]] [.ints .i64 3 [c.p0,c.p1,c.p2]]=true:=by simp[bf]
 have g5:bf [.bytes 32 c.tag] [.bytes 32 c.tag]=true:=by simp[bf]
 have g6:bf [.ints .i64 2 [c.sE,c.sS]] [.ints .i64 2 [c.sE,c.sS]]=true:=by simp[bf]
 refine aj ?_;(try exact⟨⟩)
 try rw[g6]
def CY:List A→(bP→Prop)→Prop
 |[x,y],K=>pz x fun c=>pz y fun d=>d=c∧K (.d (.v (.bool true)))
 |_,_=>False
theorem Kz:∀args K,CY args K→∃r,aP 30 args r∧K r:=by
 intro args K h
 unfold CY at h
 split at h
 ·obtain⟨c,h,hc⟩:=gI h
  obtain⟨d,⟨e,h⟩,hd⟩:=gI h
  rw[e]at hd
  refine⟨_,fun S w vs hG ha=>?_,h⟩
  obtain⟨v1,v2,rfl,k1,k2⟩:=lT ha
  obtain⟨q1,q2,q3⟩:=hc k1
  exact NS c q2 S w _ hG (.cons q1 (.cons (hd k2).1 .nil))
 ·exact h.elim
end
section
open Pm
theorem Mh{S:Nat→Prop}{w:World}{v:Value}{n sz:Nat}{f g:Nat→List Seg}(hf:∀j,j<n→f j=g j)(h:RA S w (.recs n sz f) v):RA S w (.recs n sz g) v:=by
 cases h with
 |recs h h1 h2 h3 h4=>exact .recs (fun j hj=>by rw[←hf j hj];exact h j hj) h1 h2 h3 h4
def wH(p:PS)(s:Vw)(q:PS)(d:List UInt8)(i:Nat):Wc:=nZ q (fU (aC d)) (bT p d) (eB q.ep) d (qQ s.ng i)
theorem SC(p:PS)(s:Vw)(q:PS)(d:List UInt8):∀i,i<gD s.ng 8→pY (jr q (fU (aC d)) (bT p d) (eB q.ep) d) s.ng 8 i=jH (wH p s q d i):=fun i hi=>by
 rw[J2 _ _ _ _ hi]
 rfl
attribute [local irreducible] aU aZ bR aA au dB cO bD aF bZ aN aT av ak aR cZ bX aQ bK gB bA iC aD aO jW dJ bW bH aH bT fU aC eB Oh bG aY dG gY dQ eT jm jr pY l8 jo jQ dw eF fE eD wH
def aB2(p:PS)(n:Nat)(ops:List Int)(m:Nat)(vs:List Int)(d:List UInt8)(P:PS→A)(K:List A→Prop):Prop:=
 ∀e,e=bW p n ops m vs→mR (aU (decide (e=0))
  (∀s c q N C,s=dJ p p.lf n ops→c=bH p s n ops m vs d→q=aH p s n ops m vs d→N=gD s.ng 8→C=wH p s q d→K [.agg (jO c),.recs N 108 (fun i=>jH (C i)),P q,.v (.int .i64 0)])
  (K [.agg CW,.v (.slice none 0 0),.v (.pointer none),.v (.int .i64 e)]))
def Xy:List A→(bP→Prop)→Prop
 |[x,o,v,.agg [.bytes 32 d]],K=>Ww x fun p=>aG p.lf=true∧uS o fun n ops=>E8 v fun m vs=>n≤3000∧m≤3000∧aB2 p n ops m vs d (fun q=>.sref (bN q) 0) fun l=>K (.t l)
 |_,_=>False
theorem ab1{S:Nat→Prop}{w:World}{a b c d b':A}{vs:List Value}(hb:∀v,RA S w b v→RA S w b' v)(h:lW S w [a,b,c,d] vs):lW S w [a,b',c,d] vs:=by
 cases h with|cons h1 r=>cases r with|cons h2 r=>exact .cons h1 (.cons (hb _ h2) r)
theorem aE5{f:FuncId}{args:List A}{a b c d b':A}(hb:∀{S:Nat→Prop} {w:World} {v:Value},RA S w b v→RA S w b' v)(h:aP f args (.t [a,b,c,d])):aP f args (.t [a,b',c,d]):=fun S w vs hG hv=>
 (h S w vs hG hv).mono fun e w' ⟨v,h1,⟨us,h2,h3⟩,h4⟩=>⟨v,h1,⟨us,h2,ab1 (fun v hv=>hb hv) h3⟩,h4⟩
theorem Xz:∀args K,Xy args K→∃r,aP 21 args r∧K r:=by
 intro args K h
 unfold Xy at h
 split at h
 ·next x o v d=>
  obtain⟨p,rfl,hf,h⟩:=qW h
  obtain⟨n,ops,_,h,ho⟩:=gM h
  obtain⟨m,vs,_,⟨hn,hm,h⟩,hv⟩:=kN h
  have h:=(h _ rfl).out
  have hC:=FT p n ops hn m vs hm d hf
  by_cases he:bW p n ops m vs=0
  ·rw[decide_eq_true he,iM]at h
   rw[if_pos he]at hC
   refine⟨_,fun S w vs' hG ha=>?_,h _ _ _ _ _ rfl rfl rfl rfl rfl⟩
   obtain⟨v1,v2,v3,v4,rfl,k1,k2,k3,k4⟩:=mG ha
   exact aE5 (fun hv=>Mh (SC _ _ _ _) hv) hC S w _ hG (.cons k1 (.cons (ho k2) (.cons (hv k3) (.cons k4 .nil))))
  ·rw[decide_eq_false he,gW]at h
   rw[if_neg he]at hC
   refine⟨_,fun S w vs' hG ha=>?_,h⟩
   obtain⟨v1,v2,v3,v4,rfl,k1,k2,k3,k4⟩:=mG ha
   exact hC S w _ hG (.cons k1 (.cons (ho k2) (.cons (hv k3) (.cons k4 .nil))))
 ·exact h.elim
def QC:List A→(bP→Prop)→Prop
 |[x,o,v,.agg [.bytes 32 d]],K=>xK x fun X=>∃p,X=dQ p∧Own p∧uS o fun n ops=>E8 v fun m vs=>n≤3000∧m≤3000∧aB2 p n ops m vs d (fun q=>.sref (dM (dQ q)) 0) fun l=>K (.t l)
 |_,_=>False
theorem VU:∀args K,QC args K→∃r,aP 24 args r∧K r:=by
 intro args K h
 unfold QC at h
 split at h
 ·next x o v d=>
  obtain⟨X,rfl,p,rfl,hp,h⟩:=M7 h
  obtain⟨n,ops,_,h,ho⟩:=gM h
  obtain⟨m,vs,_,⟨hn,hm,h⟩,hv⟩:=kN h
  have h:=(h _ rfl).out
  have hC:=ai4 p hp n ops hn m vs hm d
  unfold SG at hC
  by_cases he:bW p n ops m vs=0
  ·rw[decide_eq_true he,iM]at h
   rw[if_pos he]at hC
   refine⟨_,fun S w vs' hG ha=>?_,h _ _ _ _ _ rfl rfl rfl rfl rfl⟩
   obtain⟨v1,v2,v3,v4,rfl,k1,k2,k3,k4⟩:=mG ha
   exact aE5 (fun hv=>Mh (SC _ _ _ _) hv) hC S w _ hG (.cons k1 (.cons (ho k2) (.cons (hv k3) (.cons k4 .nil))))
  ·rw[decide_eq_false he,gW]at h
   rw[if_neg he]at hC
   refine⟨_,fun S w vs' hG ha=>?_,h⟩
   obtain⟨v1,v2,v3,v4,rfl,k1,k2,k3,k4⟩:=mG ha
   exact hC S w _ hG (.cons k1 (.cons (ho k2) (.cons (hv k3) (.cons k4 .nil))))
 ·exact h.elim
def aa5:List A→(bP→Prop)→Prop
 |[x,y],K=>Ww x fun p=>pz y fun c=>aG p.lf=true∧eD c≤900000∧∀e o,(e,o)=eF p c→K (.t [Ah o,.v (.int .i64 e)])
 |_,_=>False
theorem aa6:∀args K,aa5 args K→∃r,aP 22 args r∧K r:=by
 intro args K h
 unfold aa5 at h
 split at h
 ·obtain⟨p,rfl,h⟩:=qW h
  obtain⟨c,⟨h1,h2,h⟩,hc⟩:=gI h
  refine⟨_,fun S w vs' hG ha=>?_,h _ _ rfl⟩
  obtain⟨v1,v2,rfl,k1,k2⟩:=lT ha
  obtain⟨q1,q2,q3⟩:=hc k2
  exact PD p c q2 q3 h2 h1 S w _ hG (.cons k1 (.cons q1 .nil))
 ·exact h.elim
def QN:List A→(bP→Prop)→Prop
 |[x,y],K=>xK x fun X=>∃p,X=dQ p∧Own p∧pz y fun c=>eD c≤900000∧∀e o,(e,o)=eF p c→K (.t [LV o,.v (.int .i64 e)])
 |_,_=>False
theorem Wn:∀args K,QN args K→∃r,aP 25 args r∧K r:=by
 intro args K h
 unfold QN at h
 split at h
 ·obtain⟨X,rfl,p,rfl,hp,h⟩:=M7 h
  obtain⟨c,⟨h2,h⟩,hc⟩:=gI h
  refine⟨_,fun S w vs' hG ha=>?_,h _ _ rfl⟩
  obtain⟨v1,v2,rfl,k1,k2⟩:=lT ha
  obtain⟨q1,q2,q3⟩:=hc k2
  exact Nf p hp c q2 q3 h2 S w _ hG (.cons k1 (.cons q1 .nil))
 ·exact h.elim
def OQ:List A→(bP→Prop)→Prop
 |[.agg [.bytes 32 h],y],K=>wcK y fun w=>w.bx.length≤1000000∧∀e o,(e,o)=fE h w→K (.t [Ah o,.v (.int .i64 e)])
 |_,_=>False
theorem Ux:∀args K,OQ args K→∃r,aP 33 args r∧K r:=by
 intro args K h
 unfold OQ at h
 split at h
 ·obtain⟨c,⟨h1,h⟩,hc⟩:=zM h
  refine⟨_,fun S w vs' hG ha=>?_,h _ _ rfl⟩
  obtain⟨v1,v2,rfl,k1,k2⟩:=lT ha
  exact ar7 _ c h1 S w _ hG (.cons k1 (.cons (hc k2) .nil))
 ·exact h.elim
def Qm:List A→(bP→Prop)→Prop
 |[.agg [.bytes 32 h]],K=>∀L,L=eT h→K (.d (.agg [.ints .i64 2 L]))
 |_,_=>False
theorem VA:∀args K,Qm args K→∃r,aP 31 args r∧K r:=by
 intro args K h
 unfold Qm at h
 split at h
 ·exact⟨_,Nb _,h _ rfl⟩
 ·exact h.elim
def JG:List A→(bP→Prop)→Prop
 |[.agg [.bytes 32 h]],K=>∀x,x=dQ (aY h)→K (.d (.sref (dM x) 0))
 |_,_=>False
theorem Qc:∀args K,JG args K→∃r,aP 39 args r∧K r:=by
 intro args K h
 unfold JG at h
 split at h
 ·exact⟨_,Cb (QE _),h _ rfl⟩
 ·exact h.elim
def Nz:List A→(bP→Prop)→Prop
 |[.agg [.gen 2 l]],K=>(∃o,l=[Ah o,LV o])∧K (.d (.v (.bool true)))
 |_,_=>False
theorem Tf:∀args K,Nz args K→∃r,aP 26 args r∧K r:=by
 intro args K h
 unfold Nz at h
 split at h
 ·obtain⟨⟨o,rfl⟩,h⟩:=h
  exact⟨_,WV o,h⟩
 ·exact h.elim
def Qv:List A→(bP→Prop)→Prop
 |[.row n [.gen m l],.v (.int .i64 fr),x,.v (.int .i64 cap)],K=>∃G,n=G.length∧m=G.length*2∧l=gL G∧n≤1000000∧0≤cap∧cap≤1000000∧uS x fun o ops=>o≤3000∧∀V,V=bE G fr ops o cap.toNat G.length→K (.d (.row V.length [.ints .i64 (V.length*3) V.flatten]))
 |_,_=>False
theorem VP:∀args K,Qv args K→∃r,lM Tryz.prog gTab 20 args r∧FnF Tryz.prog gTab 20 args r∧K r:=by
 intro args K h
 unfold Qv at h
 split at h
 ·obtain⟨G,rfl,rfl,rfl,h1,h2,h3,h⟩:=h
  obtain⟨o,ops,_,⟨ho,h⟩,hv⟩:=gM h
  obtain⟨c,rfl⟩:=Int.eq_ofNat_of_zero_le h2
  refine⟨_,fun S w vs' hG ha=>?_,fun S w vs' hG ha=>?_,h _ rfl⟩
  ·obtain⟨v1,v2,v3,v4,rfl,k1,k2,k3,k4⟩:=mG ha
   exact ah8 G _ o ops ho c (by omega) h1 S w _ hG (.cons k1 (.cons k2 (.cons (hv k3) (.cons k4 .nil))))
  ·obtain⟨v1,v2,v3,v4,rfl,k1,k2,k3,k4⟩:=mG ha
   exact votes_fnF G _ o ops ho c (by omega) h1 S w _ hG (.cons k1 (.cons k2 (.cons (hv k3) (.cons k4 .nil))))
 ·exact h.elim
noncomputable def aL2:ay:=Oa.add 21 Xy Xz ⟨_,Tryz.func21,by kernel_rfl,by kernel_rfl⟩
noncomputable def aL3:ay:=aL2.add 24 QC VU ⟨_,Tryz.func24,by kernel_rfl,by kernel_rfl⟩
noncomputable def aL4:ay:=aL3.add 22 aa5 aa6 ⟨_,Tryz.func22,by kernel_rfl,by kernel_rfl⟩
noncomputable def aL5:ay:=aL4.add 25 QN Wn ⟨_,Tryz.func25,by kernel_rfl,by kernel_rfl⟩
noncomputable def aL6:ay:=aL5.add 33 OQ Ux ⟨_,Tryz.func33,by kernel_rfl,by kernel_rfl⟩
noncomputable def aL7:ay:=aL6.add 31 Qm VA ⟨_,Tryz.func31,by kernel_rfl,by kernel_rfl⟩
noncomputable def aL8:ay:=aL7.add 39 JG Qc ⟨_,Tryz.func39,by kernel_rfl,by kernel_rfl⟩
noncomputable def aL9:ay:=aL8.add 26 Nz Tf ⟨_,Tryz.func26,by kernel_rfl,by kernel_rfl⟩
noncomputable def aM0:ay:=aL9.al0 20 Qv VP ⟨_,Tryz.func20,by kernel_rfl,by kernel_rfl⟩
noncomputable def aM1:ay:=aM0.add 30 CY Kz ⟨_,Tryz.func30,by kernel_rfl,by kernel_rfl⟩
end
section
open Pm
attribute [local irreducible] aA au dB cO aF bZ aN aT av ak aR cZ bX aQ bK gB iC aD bA aO bJ bg gY aJ nk qP kF bn fV eD dQ dU
theorem aj0(h:List UInt8)(w:Wc)(hbx:w.bx.length≤1000000):aP 34 [.agg [.bytes 32 h],.agg (jH w)] (.t [LV (fE h w).2,.v (.int .i64 (fE h w).1)]):=by
 have A:ji h w=false→_→aP 34 [.agg [.bytes 32 h],.agg (jH w)] (.t [LV (fE h w).2,.v (.int .i64 (fE h w).1)]):=fun e ho=>by
  have ej:fE h w=(10,none):=by unfold fE;rw[if_pos e]
  rw[ej]
  exact VY h w rfl ho
 cases a1:dU w.e w.zs w.ad w.k with
 |false=>exact A (by unfold ji;rw[a1];rfl) (.inl a1)
 |true=>
 by_cases b0:w.lf<0
 ·exact A (by unfold ji;rw[a1,show aG w.lf=false by unfold aG;simp;omega];rfl) (.inr ⟨a1,.inl b0⟩)
 by_cases b1:w.lf≥8
 ·exact A (by unfold ji;rw[a1,show aG w.lf=false by unfold aG;simp;omega];rfl) (.inr ⟨a1,.inr (.inl b1)⟩)
 have hlb:aG w.lf=true:=by unfold aG;simp;omega
 have e2:=xD (zs:=w.zs) (j:=w.lf.toNat) (by omega)
 have b0:0≤w.lf:=by omega
 have b1:w.lf<8:=by omega
 by_cases a5:List.take 2 (List.drop (w.lf.toNat*2) w.zs)=eT h
 case neg=>
  refine A ?_ (.inr ⟨a1,.inr (.inr ⟨b0,b1,.inl a5⟩)⟩)
  unfold ji
  rw[a1,hlb,e2,decide_eq_false a5]
  cases decide (w.lf≠w.fr)<;>rfl
 cases a6:bn w.zs w.fr with
 |false=>
  refine A ?_ (.inr ⟨a1,.inr (.inr ⟨b0,b1,.inr ⟨a5,.inl a6⟩⟩)⟩)
  unfold ji
  rw[a1,hlb,e2,decide_eq_true a5,a6]
  cases decide (w.lf≠w.fr)<;>rfl
 |true=>
 by_cases a4:w.fr=w.lf
 ·refine A ?_ (.inr ⟨a1,.inr (.inr ⟨b0,b1,.inr ⟨a5,.inr ⟨a6,a4⟩⟩⟩)⟩)
  unfold ji
  rw[a1,hlb,decide_eq_false (fun x:w.lf≠w.fr=>x a4.symm)]
  rfl
 have hfit:ji h w=oC w:=by
  unfold ji
  rw[a1,hlb,e2,decide_eq_true a5,a6,decide_eq_true (show w.lf≠w.fr from fun x=>a4 x.symm)]
  rfl
 cases hb:oC w with
 |false=>
  have ej:fE h w=(10,none):=by unfold fE;rw[if_pos (hfit.trans hb)]
  rw[ej]
  exact VZ h w rfl a1 b0 b1 a5 a6 a4 hb
 |true=>
 have hfit:=hfit.trans hb
 have n0:¬ji h w=false:=by rw[hfit];decide
 refine V3 h w rfl hbx a1 b0 b1 a5 a6 a4 hb ?_ ?_ ?_
 ·intro z
  have ej:fE h w=(3,none):=by unfold fE;rw[if_neg n0,if_pos z]
  rw[ej];rfl
 ·intro z y
  have ej:fE h w=(10,none):=by unfold fE;rw[if_neg n0,if_neg (fun x=>x z),if_pos y]
  rw[ej];rfl
 ·intro z y g r S H hx
  obtain⟨m0,m1⟩:=fA a6
  obtain⟨k,hk,hp,_⟩:=meets (a:=w.lf) (b:=w.fr) (by omega) (by omega) m0 m1 (fun e=>a4 e.symm)
  have hw:jB w=(k:Int):=hp
  have hBl:=oV z
  rw[y]at hBl
  have hul:(List.drop 32 (bg (au (av (aC h))) w.bx)).length=32:=by rw[List.length_drop,hBl]
  obtain⟨j1,j2⟩:=join_eq (h:=h) b0 b1 hb (by omega) (by omega) hul
  obtain⟨P,hP⟩:∃P,P=aW (jF h w) (List.drop 32 (bg (au (av (aC h))) w.bx)) (jB w).toNat:=⟨_,rfl⟩
  rw[←hP]at j1 j2
  rw[←hx]at j1 j2
  have hj:fE h w=if P.1=true then(if eB (bC P.2.2 (List.take 32 (bg (au (av (aC h))) w.bx))).ep=w.tg then(0,some (bC P.2.2 (List.take 32 (bg (au (av (aC h))) w.bx))))else(11,none))else(10,none):=by
   unfold fE
   rw[if_neg n0,if_neg (fun x=>x z),if_neg (fun x=>x y),←hP]
  have j1:g=P.1:=j1
  cases g with
  |false=>
   rw[if_pos rfl,hj,if_neg (by rw[←j1];decide)]
   rfl
  |true=>
   rw[if_neg (by decide),hj,if_pos j1.symm]
   have j2:=j2 j1.symm
   have eS:S=sP P.2.2:=congrArg (fun x=>x.2.2.1) j2
   have eH:H=om P.2.2:=congrArg (fun x=>x.2.2.2) j2
   have hsame:jY (jF h w) P.2.2:=by
    have t:(aW (jF h w) (List.drop 32 (bg (au (av (aC h))) w.bx)) (jB w).toNat).1=true:=by rw[←hP];exact j1.symm
    rw[hP]
    exact Vn (by show(zB 96).length=96;simp) hul (by omega) t
   have htag:eB (bC P.2.2 (List.take 32 (bg (au (av (aC h))) w.bx))).ep=eB (mX (List.take 32 (bg (au (av (aC h))) w.bx)) (aR w.e w.zs w.ad w.k w.ch)):=by
    rw[GY,hsame.e,hsame.zs,hsame.ad,hsame.k,hsame.ch]
    rfl
   by_cases t:eB (mX (List.take 32 (bg (au (av (aC h))) w.bx)) (aR w.e w.zs w.ad w.k w.ch))=w.tg
   ·rw[if_pos t,if_pos (htag.trans t)]
    dsimp only[LV]
    rw[Ia hsame,eS,eH]
    rfl
   ·rw[if_neg t,if_neg (fun e=>t (htag.symm.trans e))]
    rfl
def QH:List A→(bP→Prop)→Prop
 |[.agg [.bytes 32 h],y],K=>wcK y fun w=>w.bx.length≤1000000∧∀e o,(e,o)=fE h w→K (.t [LV o,.v (.int .i64 e)])
 |_,_=>False
theorem V4:∀args K,QH args K→∃r,aP 34 args r∧K r:=by
 intro args K h
 unfold QH at h
 split at h
 ·obtain⟨c,⟨h1,h⟩,hc⟩:=zM h
  refine⟨_,fun S w vs' hG ha=>?_,h _ _ rfl⟩
  obtain⟨v1,v2,rfl,k1,k2⟩:=lT ha
  exact aj0 _ c h1 S w _ hG (.cons k1 (.cons (hc k2) .nil))
 ·exact h.elim
noncomputable def Iz:ay:=aM1.add 34 QH V4 ⟨_,Tryz.func34,by kernel_rfl,by kernel_rfl⟩
end
section
open Pm
theorem Ol(zs:List Int)(j:Nat):∃M:Nat,M≤64∧(∀s:Nat,s<M→bq zs j≠eT (bU (s:Int)))∧((M=64∧kY zs j=none)∨(M<64∧bq zs j=eT (bU (M:Int))∧kY zs j=some M)):=by
 unfold kY
 cases h:(List.range 64).find? (fun s=>decide (bq zs j=eT (bU (s:Nat))))with
 |none=>
  refine⟨64,Nat.le_refl _,fun s hs=>?_,.inl ⟨rfl,rfl⟩⟩
  have:=List.find?_eq_none.1 h s (List.mem_range.2 hs)
  simpa using this
 |some M=>
  obtain⟨h1,l,r,h2,h3⟩:=List.find?_eq_some_iff_append.1 h
  have hl:l=List.range M:=by
   have hlen:l.length=M:=by
    have e:=congrArg (fun x=>x.getD l.length 0) h2
    have hlt:l.length<64:=by
     have:=congrArg List.length h2
     simp at this
     omega
    simp[List.getD_eq_getElem?_getD,hlt]at e
    exact e
   have e:=congrArg (List.take M) h2
   rw[←hlen,List.take_left']at e
   ·rw[←e,List.take_range,hlen]
    have:M<64:=by
     have:=congrArg List.length h2
     simp at this
     omega
    rw[Nat.min_eq_left (by omega)]
   ·rfl
  have hM:M<64:=by
   have:=List.mem_range.1 (List.mem_of_find?_eq_some h)
   exact this
  refine⟨M,by omega,fun s hs=>?_,.inr ⟨hM,of_decide_eq_true h1,rfl⟩⟩
  have:=h3 s (by rw[hl];exact List.mem_range.2 hs)
  simpa using this
attribute [local irreducible] aU aZ bR aA au dB cO aF bZ aN aT av ak aR cZ bX aQ bK gB iC aD bA aO jW dJ bW bH aH bT fU bJ bg gY aJ nk qP kF bn fV eD dU eT bq aC bU fE dQ
set_option maxHeartbeats 8000000 in
theorem Uy(G:List (Option PS))(C:Nat→Wc)(N:Nat)(n:Int)(hN:N≤8)(hG:G.length≤64)(hb:∀i,i<N→0≤(C i).lf∧(C i).lf<8∧(C i).bx.length≤1000000)
  (hj:∀i,i<N→∀s,kY (C i).zs (C i).lf.toNat=some s→(fE (bU (s:Nat)) (C i)).1=0):
  Nt Iz 40 31 2 G.length [.gen (G.length*2) (gL G)] [.recs N 108 (fun i=>jH (C i)),.v (.int .i64 n)]
   (.o 31 2 (G++iT C N).length [.gen ((G++iT C N).length*2) (gL (G++iT C N))]):=by
 refine ap2 Tryz.func40 Tryz.ntmps40 (.of ?_)
 obtain⟨J,hJ⟩:∃J:Nat→List (Option PS),J=fun j=>G++iT C j:=⟨_,rfl⟩
 have hJ0:J 0=G:=by rw[hJ];simp[iT]
 have hJs:∀j,J (j+1)=J j++uL (C j):=fun j=>by rw[hJ];simp[iT]
 have hJl:∀j,j≤N→(J j).length≤72:=fun j hj=>by
  have:=A9 C j
  rw[hJ]
  simp only[List.length_append]
  omega
 have eJ:G++iT C N=J N:=by rw[hJ]
 rw[eJ]
 have HJ0:=Lib.hid hJ0
 have HJs:=Lib.hid hJs
 have HJl:=Lib.hid hJl
 have HB:=Lib.hid hb
 have HJ:=Lib.hid hj
 clear hJ hJ0 hJs hJl hb hj eJ
 refine aj ?_;(try exact⟨⟩)
 refine aM.mk (bV [0,1,2,7] [0] N (fun j=>⟨[.own 0 (J j).length,.d (.recs N 108 (fun i=>jH (C i))),.d (.v (.int .i64 n)),.ah,.ah,.ah,.ah,.d (.v (.int .i64 (j:Nat))),.ah,.ah,.ah,.ah,.ah,.ah,.ah,.ah,.ah,.ah,.ah,.ah,.ah,.ah,.ah,.ah,.ah,.ah,.ah,.ah,.ah,.ah,.ah,.ah,.ah,.ah,.ah,.ah,.ah,.ah,.ah,.ah,.ah,.ah,.ah,.ah,.ah,.ah,.ah,.ah,.ah,.ah,.ah,.ah,.ah,.ah,.ah,.ah,.ah,.ah,.ah,.ah,.ah,.ah,.ah,.ah,.ah,.ah,.ah,.ah,.ah,.ah,.ah,.ah,.ah,.ah,.ah,.ah,.ah,.ah,.ah,.ah,.ah,.ah,.ah,.ah,.ah,.ah,.ah],[some (.sl 31 2 (J j).length [.gen ((J j).length*2) (gL (J j))])]⟩) ?_ (h2:=by dsimp only;rw[HJ0.out];exact rfl))
 intro i hi hl
 by_cases h:i<N
 ·have h1:(i:Int)<(N:Int):=by omega
  obtain⟨b0,b1,b2⟩:=HB.out i h
  obtain⟨M,hM,hno,hend⟩:=Ol (C i).zs (C i).lf.toNat
  have e2:=xD (zs:=(C i).zs) (j:=(C i).lf.toNat) (by omega)
  have HNO:=Lib.hid hno
  have bw0:=Lib.hid hend
  have HE2:=Lib.hid e2
  clear hno hend e2
  refine aj ?_;(try exact⟨⟩)
  refine aM.mk (bV [0,1,2,7,8] [0] M (fun s=>⟨[.own 0 (J i).length,.d (.recs N 108 (fun i=>jH (C i))),.d (.v (.int .i64 n)),.ah,.ah,.ah,.ah,.d (.v (.int .i64 (i:Nat))),.d (.v (.int .i64 (s:Nat))),.ah,.ah,.ah,.ah,.ah,.ah,.ah,.ah,.ah,.ah,.ah,.ah,.ah,.ah,.ah,.ah,.ah,.ah,.ah,.ah,.ah,.ah,.ah,.ah,.ah,.ah,.ah,.ah,.ah,.ah,.ah,.ah,.ah,.ah,.ah,.ah,.ah,.ah,.ah,.ah,.ah,.ah,.ah,.ah,.ah,.ah,.ah,.ah,.ah,.ah,.ah,.ah,.ah,.ah,.ah,.ah,.ah,.ah,.ah,.ah,.ah,.ah,.ah,.ah,.ah,.ah,.ah,.ah,.ah,.ah,.ah,.ah,.ah,.ah,.ah,.ah,.ah,.ah],[some (.sl 31 2 (J i).length [.gen ((J i).length*2) (gL (J i))])]⟩) ?_)
  intro s hs hls
  by_cases hsM:s<M
  ·have s1:(s:Int)<64:=by omega
   have c1:(!bf [Seg.ints .i64 2 (eT (bU (s:Int)))] [Seg.ints .i64 2 (List.take 2 (List.drop ((C i).lf.toNat*2) (C i).zs))])=true:=by
    have:=HNO.out s hsM
    rw[HE2.out]at this
    simp only[bf,Bool.and_true,Bool.not_eq_true',decide_eq_false_iff_not]
    exact fun e=>this e.symm
   refine aj ?_;(try exact⟨⟩)
   intro q hq
   obtain rfl:q=bU (s:Int):=hq
   refine aj ?_;(try exact⟨⟩)
   intro L hL
   obtain rfl:L=eT (bU (s:Int)):=hL
   refine aj ?_;(try exact⟨⟩)
   refine hls.go hsM [0,1,2,7,8] [0] ?_
   rfl
  obtain rfl:s=M:=by omega
  rcases bw0.out with⟨rfl,hf⟩|⟨bP6,heq,hf⟩
  ·have e1:J (i+1)=J i:=by rw[HJs.out,uL,hf];simp
   have E1:=Lib.hid e1
   clear e1 hf
   refine aj ?_;(try exact⟨⟩)
   refine hl.go h [0,1,2,7] [0] ?_
   dsimp only
   rw[E1.out]
   rfl
  have s1:(s:Int)<64:=by omega
  have c1:(!bf [Seg.ints .i64 2 (eT (bU (s:Int)))] [Seg.ints .i64 2 (List.take 2 (List.drop ((C i).lf.toNat*2) (C i).zs))])=false:=by
   rw[HE2.out]at heq
   rw[heq]
   simp[bf]
  have e1:J (i+1)=J i++[(fE (bU (s:Nat)) (C i)).2]:=by rw[HJs.out,uL,hf]
  have E1:=Lib.hid e1
  have E0:=Lib.hid (HJ.out i h s hf)
  clear e1 hf heq
  refine aj ?_;(try exact⟨⟩)
  intro q hq
  obtain rfl:q=bU (s:Int):=hq
  refine aj ?_;(try exact⟨⟩)
  intro L hL
  obtain rfl:L=eT (bU (s:Int)):=hL
  refine aj ?_;(try exact⟨⟩)
  intro q hq
  obtain rfl:q=bU (s:Int):=hq
  refine aj ?_;(try exact⟨⟩)
  intro e o ho
  obtain rfl:e=0:=(congrArg Prod.fst ho).trans E0.out
  have HO:=Lib.hid (show o=(fE (bU (s:Int)) (C i)).2 from congrArg Prod.snd ho)
  clear ho
  have hJl:=HJl.out i (by omega)
  cases o with
  |none=>
   refine aj ?_;(try exact⟨⟩)
   intro q hq
   obtain rfl:q=bU (s:Int):=hq
   refine aj ?_;(try exact⟨⟩)
   intro e o ho
   obtain rfl:e=0:=(congrArg Prod.fst ho).trans E0.out
   obtain rfl:o=none:=(congrArg Prod.snd ho).trans HO.out.symm
   have E1:=E1.out
   rw[←HO.out]at E1
   have l1:(J (i+1)).length=(J i).length+1:=by rw[E1];simp
   have l2:(J (i+1)).length*2=(J i).length*2+2:=by omega
   have l3:gL (J (i+1))=gL (J i)++[Ah (none),LV (none)]:=by rw[E1,Oz];rfl
   have L1:=Lib.hid l1
   have L2:=Lib.hid l2
   have L3:=Lib.hid l3
   clear ho E1 l1 l2 l3
   refine aj ?_;(try exact⟨⟩)
   refine hl.go h [0,1,2,7] [0] ?_
   dsimp only
   rw[L2.out,L1.out,L3.out]
   rfl
  |some O=>
   refine aj ?_;(try exact⟨⟩)
   intro q hq
   obtain rfl:q=bU (s:Int):=hq
   refine aj ?_;(try exact⟨⟩)
   intro e o ho
   obtain rfl:e=0:=(congrArg Prod.fst ho).trans E0.out
   obtain rfl:o=some O:=(congrArg Prod.snd ho).trans HO.out.symm
   have E1:=E1.out
   rw[←HO.out]at E1
   have l1:(J (i+1)).length=(J i).length+1:=by rw[E1];simp
   have l2:(J (i+1)).length*2=(J i).length*2+2:=by omega
   have l3:gL (J (i+1))=gL (J i)++[Ah (some O),LV (some O)]:=by rw[E1,Oz];rfl
   have L1:=Lib.hid l1
   have L2:=Lib.hid l2
   have L3:=Lib.hid l3
   clear ho E1 l1 l2 l3
   refine aj ?_;(try exact⟨⟩)
   refine hl.go h [0,1,2,7] [0] ?_
   dsimp only
   rw[L2.out,L1.out,L3.out]
   rfl
 ·obtain rfl:i=N:=by omega
  have h1:¬(i:Int)<(i:Int):=by omega
  have hJl:=HJl.out i (Nat.le_refl _)
  refine aj ?_;(try exact⟨⟩)
  refine aM.mk (bV [0,13] [0] (J i).length (fun j=>⟨[.own 0 (J i).length,.ah,.ah,.ah,.ah,.ah,.ah,.ah,.ah,.ah,.ah,.ah,.ah,.d (.v (.int .i64 (j:Nat))),.ah,.ah,.ah,.ah,.ah,.ah,.ah,.ah,.ah,.ah,.ah,.ah,.ah,.ah,.ah,.ah,.ah,.ah,.ah,.ah,.ah,.ah,.ah,.ah,.ah,.ah,.ah,.ah,.ah,.ah,.ah,.ah,.ah,.ah,.ah,.ah,.ah,.ah,.ah,.ah,.ah,.ah,.ah,.ah,.ah,.ah,.ah,.ah,.ah,.ah,.ah,.ah,.ah,.ah,.ah,.ah,.ah,.ah,.ah,.ah,.ah,.ah,.ah,.ah,.ah,.ah,.ah,.ah,.ah,.ah,.ah,.ah,.ah],[some (.sl 31 2 (J i).length [.gen ((J i).length*2) (gL (J i))])]⟩) ?_)
  intro j hj hl
  by_cases hjl:j<(J i).length
  ·have j1:(j:Int)<((J i).length:Int):=by omega
   have g2:=Yy (J i) j hjl
   refine aj ?_;(try exact⟨⟩)
   refine⟨⟨_,g2⟩,?_⟩
   refine aj ?_;(try exact⟨⟩)
   refine hl.go hjl [0,13] [0] ?_
   rfl
  ·have j1:¬(j:Int)<((J i).length:Int):=by omega
   refine aj ?_;(try exact⟨⟩)
end
end Go.Proofs.YtjhgelfnmhdihaaGreatDoor
