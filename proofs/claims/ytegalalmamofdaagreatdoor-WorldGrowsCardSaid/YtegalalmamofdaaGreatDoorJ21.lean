/- -/
import Derived.Test.YtegalalmamofdaaGreatDoorJ20
namespace Go.Proofs.YtegalalmamofdaaGreatDoor
set_option linter.all false
set_option maxRecDepth 100000
open Go.RowKit
set_option maxHeartbeats 8000000
noncomputable section
open Pm
attribute [local irreducible] aN aQ bq dL bK eH jv nJ nE fM iB wQ dS
structure Vw where
 zs:List Int
 ad:List Bool
 k:Int
 ng:List Bool
 gn:List Bool
def je(s:Vw)(fr:Int)(o:List Int):Int:=
 if o.getD 0 0=1 then iB s.zs [o.getD 3 0,o.getD 4 0]else if o.getD 0 0=2 then j5 s.zs fr (o.getD 1 0)else if o.getD 0 0=3 then lU s.zs s.ad (o.getD 1 0)else if o.getD 0 0=4 then oZ s.zs s.ad (o.getD 1 0)else nO (o.getD 2 0)
def iQ(s:Vw)(o:List Int):Vw:=
 if o.getD 0 0=1 then⟨fM s.zs [o.getD 3 0,o.getD 4 0] (jv s.zs:Nat),s.ad,s.k,s.ng.set (jv s.zs) true,s.gn⟩
 else if o.getD 0 0=2 then⟨fM s.zs [0,0] (o.getD 1 0),s.ad.set (o.getD 1 0).toNat false,s.k,s.ng.set (o.getD 1 0).toNat false,s.gn.set (o.getD 1 0).toNat true⟩
 else if o.getD 0 0=3 then⟨s.zs,s.ad.set (o.getD 1 0).toNat true,s.k,s.ng,s.gn⟩
 else if o.getD 0 0=4 then⟨s.zs,s.ad.set (o.getD 1 0).toNat false,s.k,s.ng,s.gn⟩
 else⟨s.zs,s.ad,o.getD 2 0,s.ng,s.gn⟩
abbrev DY(e:Int)(s:Vw)(ch:List UInt8)(fr:Int):List Seg:=iO e s.zs s.ad s.k ch fr s.ng s.gn
def aA6:Nat->Bk->List A->(bC->Bk->Prop)->Prop
 |0,.var [.ints .i64 1 [e],.ints .i64 31 zs,.bools 8 ad,.ints .i64 1 [k],.bytes 32 ch,.ints .i64 1 [fr],.bools 8 ng,.bools 8 gn],[.v (.int .i64 y)],K=>
  K (.d (.v (.int .i64 (j5 zs fr y)))) (.var (if j5 zs fr y=0 then iO e (fM zs [0,0] y) (ad.set y.toNat false) k ch fr (ng.set y.toNat false) (gn.set y.toNat true)else iO e zs ad k ch fr ng gn))
 |_,_,_,_=>False
theorem aA7:∀pos x args K,aA6 pos x args K->∃r x',bV 212 pos x args r x'/\K r x':=by
 intro pos x args K h
 unfold aA6 at h
 split at h
 ·exact⟨_,_,Y4 _ _ _ _ _ _ _ _ _,h⟩
 ·exact h.elim
def az9:Nat->Bk->List A->(bC->Bk->Prop)->Prop
 |0,.var [.ints .i64 1 [e],.ints .i64 31 zs,.bools 8 ad,.ints .i64 1 [k],.bytes 32 ch,.ints .i64 1 [fr],.bools 8 ng,.bools 8 gn],[.v (.int .i64 y)],K=>
  K (.d (.v (.int .i64 (lU zs ad y)))) (.var (if lU zs ad y=0 then iO e zs (ad.set y.toNat true) k ch fr ng gn else iO e zs ad k ch fr ng gn))
 |_,_,_,_=>False
theorem aA0:∀pos x args K,az9 pos x args K->∃r x',bV 213 pos x args r x'/\K r x':=by
 intro pos x args K h
 unfold az9 at h
 split at h
 ·exact⟨_,_,TQ _ _ _ _ _ _ _ _ _,h⟩
 ·exact h.elim
def ag3:Nat->Bk->List A->(bC->Bk->Prop)->Prop
 |0,.var [.ints .i64 1 [e],.ints .i64 31 zs,.bools 8 ad,.ints .i64 1 [k],.bytes 32 ch,.ints .i64 1 [fr],.bools 8 ng,.bools 8 gn],[.v (.int .i64 y)],K=>
  K (.d (.v (.int .i64 (oZ zs ad y)))) (.var (if oZ zs ad y=0 then iO e zs (ad.set y.toNat false) k ch fr ng gn else iO e zs ad k ch fr ng gn))
 |_,_,_,_=>False
theorem ag4:∀pos x args K,ag3 pos x args K->∃r x',bV 214 pos x args r x'/\K r x':=by
 intro pos x args K h
 unfold ag3 at h
 split at h
 ·exact⟨_,_,XM _ _ _ _ _ _ _ _ _,h⟩
 ·exact h.elim
def as0:Nat->Bk->List A->(bC->Bk->Prop)->Prop
 |0,.var [.ints .i64 1 [e],.ints .i64 31 zs,.bools 8 ad,.ints .i64 1 [k],.bytes 32 ch,.ints .i64 1 [fr],.bools 8 ng,.bools 8 gn],[.v (.int .i64 y)],K=>
  K (.d (.v (.int .i64 (nO y)))) (.var (if nO y=0 then iO e zs ad y ch fr ng gn else iO e zs ad k ch fr ng gn))
 |_,_,_,_=>False
theorem as1:∀pos x args K,as0 pos x args K->∃r x',bV 215 pos x args r x'/\K r x':=by
 intro pos x args K h
 unfold as0 at h
 split at h
 ·exact⟨_,_,as2 _ _ _ _ _ _ _ _ _,h⟩
 ·exact h.elim
def ca7:ak:=Jy.gI 211 aa3 aa4 (.of Tryz.func211)
def ca9:ak:=ca7.gI 212 aA6 aA7 (.of Tryz.func212)
def cb0:ak:=ca9.gI 213 az9 aA0 (.of Tryz.func213)
def cb3:ak:=cb0.gI 214 ag3 ag4 (.of Tryz.func214)
def bj6:ak:=cb3.gI 215 as0 as1 (.of Tryz.func215)
theorem bD4(e:Int)(s:Vw)(ch:List UInt8)(fr:Int)(o:List Int):
  bV 160 0 (.var (DY e s ch fr)) [.agg [.ints .i64 5 o]] (.d (.v (.int .i64 (je s fr o)))) (.var (if je s fr o=0 then DY e (iQ s o) ch fr else DY e s ch fr)):=by
 refine FC fun _ hl=>?_
 obtain⟨a,b,c,d,f,rfl⟩:=five hl.1.1
 clear hl
 refine iH (E:=bj6) Tryz.func160 Tryz.ntmps160 ?_
 by_cases h1:a=1
 ·subst h1
  have e1:je s fr [1,b,c,d,f]=iB s.zs [d,f]:=rfl
  have e2:iQ s [1,b,c,d,f]=⟨fM s.zs [d,f] (jv s.zs:Nat),s.ad,s.k,s.ng.set (jv s.zs) true,s.gn⟩:=rfl
  rw[e1,e2]
  clear e1 e2
  refine dG ?_;(try exact⟨⟩)
 have n1:(a==1)=false:=by simpa using h1
 by_cases h2:a=2
 ·subst h2
  have e1:je s fr [2,b,c,d,f]=j5 s.zs fr b:=rfl
  have e2:iQ s [2,b,c,d,f]=⟨fM s.zs [0,0] b,s.ad.set b.toNat false,s.k,s.ng.set b.toNat false,s.gn.set b.toNat true⟩:=rfl
  rw[e1,e2]
  clear e1 e2 h1
  refine dG ?_;(try exact⟨⟩)
 have n2:(a==2)=false:=by simpa using h2
 by_cases h3:a=3
 ·subst h3
  have e1:je s fr [3,b,c,d,f]=lU s.zs s.ad b:=rfl
  have e2:iQ s [3,b,c,d,f]=⟨s.zs,s.ad.set b.toNat true,s.k,s.ng,s.gn⟩:=rfl
  rw[e1,e2]
  clear e1 e2 h1 h2
  refine dG ?_;(try exact⟨⟩)
 have n3:(a==3)=false:=by simpa using h3
 by_cases h4:a=4
 ·subst h4
  have e1:je s fr [4,b,c,d,f]=oZ s.zs s.ad b:=rfl
  have e2:iQ s [4,b,c,d,f]=⟨s.zs,s.ad.set b.toNat false,s.k,s.ng,s.gn⟩:=rfl
  rw[e1,e2]
  clear e1 e2 h1 h2 h3
  refine dG ?_;(try exact⟨⟩)
 have n4:(a==4)=false:=by simpa using h4
 have e1:je s fr [a,b,c,d,f]=nO c:=by simp[je,h1,h2,h3,h4]
 have e2:iQ s [a,b,c,d,f]=⟨s.zs,s.ad,c,s.ng,s.gn⟩:=by simp[iQ,h1,h2,h3,h4]
 rw[e1,e2]
 clear e1 e2 h1 h2 h3 h4
 refine dG ?_;(try exact⟨⟩)
def ax0:Nat->Bk->List A->(bC->Bk->Prop)->Prop
 |0,.var [.ints .i64 1 [e],.ints .i64 31 zs,.bools 8 ad,.ints .i64 1 [k],.bytes 32 ch,.ints .i64 1 [fr],.bools 8 ng,.bools 8 gn],[.agg [.ints .i64 5 o]],K=>
  K (.d (.v (.int .i64 (je ⟨zs,ad,k,ng,gn⟩ fr o)))) (.var (if je ⟨zs,ad,k,ng,gn⟩ fr o=0 then DY e (iQ ⟨zs,ad,k,ng,gn⟩ o) ch fr else iO e zs ad k ch fr ng gn))
 |_,_,_,_=>False
theorem ax1:∀pos x args K,ax0 pos x args K->∃r x',bV 160 pos x args r x'/\K r x':=by
 intro pos x args K h
 unfold ax0 at h
 split at h
 ·exact⟨_,_,bD4 _ ⟨_,_,_,_,_⟩ _ _ _,h⟩
 ·exact h.elim
def bj7:ak:=bj6.gI 160 ax0 ax1 (.of Tryz.func160)
def jD(fr:Int)(ops:List Int):Nat->Nat->Vw->Int×Vw
 |0,_,s=>(0,s)
 |d+1,j,s=>if je s fr (opAt ops j)=0 then jD fr ops d (j+1) (iQ s (opAt ops j))else(je s fr (opAt ops j),s)
def fC(e:Int)(s:Vw)(fr:Int)(ops:List Int)(n:Nat):Int×Vw:=
 if(!gF e s.zs s.ad s.k||decide (n>4)||qK ops n)=true then(1,s)else if dS s.zs fr=false then(6,s)else
 if(jD fr ops n 0 s).1≠0 then jD fr ops n 0 s else if((mJ (jD fr ops n 0 s).2.ad:Nat):Int)<(jD fr ops n 0 s).2.k then(7,(jD fr ops n 0 s).2)else(0,(jD fr ops n 0 s).2)
end
section
open Pm
attribute [local irreducible] aN aQ bq dL bK eH jv nJ nE fM iB wQ dS je iQ gF qK mJ jD opAt
theorem bN4(e:Int)(s:Vw)(ch:List UInt8)(fr:Int)(ops:List Int)(n:Nat)(hn:n<=1000000):
  bV 117 0 (.var (DY e s ch fr)) [.row n [.ints .i64 (n*5) ops]] (.d (.v (.int .i64 (fC e s fr ops n).1))) (.var (DY e (fC e s fr ops n).2 ch fr)):=by
 refine iH (E:=bj7) Tryz.func117 Tryz.ntmps117 ?_
 cases hV:gF e s.zs s.ad s.k with
 |false=>
  have hr:fC e s fr ops n=(1,s):=by simp[fC,hV]
  rw[hr]
  clear hr
  refine dG ?_;(try exact⟨⟩)
 |true=>
 by_cases h4:n>4
 ·have hr:fC e s fr ops n=(1,s):=by simp[fC,hV,h4]
  have h41:decide ((n:Int)>4)=true:=by simp;omega
  rw[hr]
  clear hr
  refine dG ?_;(try exact⟨⟩)
 have h41:decide ((n:Int)>4)=false:=by simp;omega
 cases hO:qK ops n with
 |true=>
  have hr:fC e s fr ops n=(1,s):=by simp[fC,hO]
  rw[hr]
  clear hr
  refine dG ?_;(try exact⟨⟩)
 |false=>
 cases hM:dS s.zs fr with
 |false=>
  have hr:fC e s fr ops n=(6,s):=by simp[fC,hV,h4,hO,hM]
  rw[hr]
  clear hr
  refine dG ?_;(try exact⟨⟩)
 |true=>
 have hr:fC e s fr ops n=(if(jD fr ops n 0 s).1≠0 then jD fr ops n 0 s else if((mJ (jD fr ops n 0 s).2.ad:Nat):Int)<(jD fr ops n 0 s).2.k then(7,(jD fr ops n 0 s).2)else(0,(jD fr ops n 0 s).2)):=by
  simp only[fC,hV,hO,hM,decide_eq_false h4]
  simp
 rw[hr]
 clear hr
 refine dG ?_
 have hR0:jD fr ops n 0 s=jD fr ops n 0 s:=rfl
 generalize hR:jD fr ops n 0 s=R at*
 refine aX.mk (lG [0,34,35,36] 1 (fun st=>∃j:Nat,j<=n/\∃q:Vw,jD fr ops (n-j) j q=R/\st=⟨.ptr 0 0::dz 33 (.d (.row n [.ints .i64 (n*5) ops])::.d (.v (.int .i64 n))::.d (.v (.int .i64 (j:Nat)))::dz 22 []),[some (.var (DY e q ch fr))]⟩) (fun s=>n-vI s 36) rfl ⟨0,by omega,s,hR,rfl⟩ ?_)
 clear hR hR0 hV h41 h4 hO hM
 rintro st ⟨j,hj,⟨zs,ad,k,ng,gn⟩,hrun,rfl⟩
 have hw:IntKind.i64.wrap ((j:Int)+1)=((j+1:Nat):Int):=by rw[gH (by omega) (by omega)];omega
 by_cases hj2:j<n
 ·obtain⟨d,hd⟩:∃d,n-j=d+1:=⟨n-j-1,by omega⟩
  have bl7:opAt ops j=(ops.drop (j*5)).take 5:=by unfold opAt;rfl
  rw[hd]at hrun
  unfold jD at hrun
  rw[bl7]at hrun
  clear bl7
  generalize ho:(ops.drop (j*5)).take 5=o at*
  by_cases he:je ⟨zs,ad,k,ng,gn⟩ fr o=0
  ·rw[if_pos he]at hrun
   have he1:(je ⟨zs,ad,k,ng,gn⟩ fr o !=0)=false:=by rw[he];rfl
   rw[<-ho]at he1 he
   refine dG ?_
   refine⟨⟨j+1,by omega,iQ ⟨zs,ad,k,ng,gn⟩ o,by rw[show n- (j+1)=d by omega];exact hrun,by rw[if_pos he,ho,<-hw];rfl⟩,?_⟩
   show n- (IntKind.i64.wrap ((j:Int)+1)).toNat<n- (j:Int).toNat
   rw[hw];omega
  ·rw[if_neg he]at hrun
   have he1:(je ⟨zs,ad,k,ng,gn⟩ fr o !=0)=true:=by simpa using he
   have he2:R.1≠0:=by rw[<-hrun];exact he
   rw[if_pos he2,<-hrun]
   rw[<-ho]at he1 he
   clear hrun he2
   rw[<-ho]
   refine dG ?_
   rw[if_neg he]
   refine dG ?_;(try exact⟨⟩)
 ·obtain rfl:j=n:=by omega
  rw[Nat.sub_self]at hrun
  unfold jD at hrun
  subst hrun
  rw[if_neg (by simp)]
  by_cases hc:((mJ ad:Nat):Int)<k
  ·rw[if_pos hc]
   refine dG ?_;(try exact⟨⟩)
  ·rw[if_neg hc]
   refine dG ?_;(try exact⟨⟩)
def bs1:Nat->Bk->List A->(bC->Bk->Prop)->Prop
 |0,.var [.ints .i64 1 [e],.ints .i64 31 zs,.bools 8 ad,.ints .i64 1 [k],.bytes 32 ch,.ints .i64 1 [fr],.bools 8 ng,.bools 8 gn],[.row n [.ints .i64 m ops]],K=>
  m=n*5/\n<=1000000/\K (.d (.v (.int .i64 (fC e ⟨zs,ad,k,ng,gn⟩ fr ops n).1))) (.var (DY e (fC e ⟨zs,ad,k,ng,gn⟩ fr ops n).2 ch fr))
 |_,_,_,_=>False
theorem aN7:∀pos x args K,bs1 pos x args K->∃r x',bV 117 pos x args r x'/\K r x':=by
 intro pos x args K h
 unfold bs1 at h
 split at h
 ·obtain⟨rfl,h1,h⟩:=h
  exact⟨_,_,bN4 _ ⟨_,_,_,_,_⟩ _ _ _ _ h1,h⟩
 ·exact h.elim
noncomputable def cb4:ak:=bj7.gI 117 bs1 aN7 (.of Tryz.func117)
abbrev F8:List Bool:=[false,false,false,false,false,false,false,false]
abbrev DX:List Seg:=eD 0 (List.replicate 31 0) F8 0 (List.replicate 32 0)
def aa9(e:Int)(zs:List Int)(ad:List Bool)(k:Int)(ch:List UInt8)(fr:Int)(ops:List Int)(n:Nat):List A:=
 if(fC e ⟨zs,ad,k,F8,F8⟩ fr ops n).1=0 then[.agg (eD e (fC e ⟨zs,ad,k,F8,F8⟩ fr ops n).2.zs (fC e ⟨zs,ad,k,F8,F8⟩ fr ops n).2.ad (fC e ⟨zs,ad,k,F8,F8⟩ fr ops n).2.k ch),.agg [.bools 8 (fC e ⟨zs,ad,k,F8,F8⟩ fr ops n).2.ng],.agg [.bools 8 (fC e ⟨zs,ad,k,F8,F8⟩ fr ops n).2.gn],.v (.int .i64 0)]
 else[.agg DX,.agg [.bools 8 F8],.agg [.bools 8 F8],.v (.int .i64 (fC e ⟨zs,ad,k,F8,F8⟩ fr ops n).1)]
attribute [local irreducible] fC
theorem Ns(e:Int)(zs:List Int)(ad:List Bool)(k:Int)(ch:List UInt8)(fr:Int)(ops:List Int)(n:Nat)(hn:n<=1000000):
  aV 75 [.agg (eD e zs ad k ch),.v (.int .i64 fr),.row n [.ints .i64 (n*5) ops]] (.t (aa9 e zs ad k ch fr ops n)):=by
 refine eO (E:=cb4) Tryz.func75 Tryz.ntmps75 ?_
 unfold aa9
 by_cases he:(fC e ⟨zs,ad,k,F8,F8⟩ fr ops n).1=0
 ·have he1:((fC e ⟨zs,ad,k,F8,F8⟩ fr ops n).1 !=0)=false:=by rw[he];rfl
  rw[if_pos he]
  clear he
  refine dG ?_;(try exact⟨⟩)
 ·have he1:((fC e ⟨zs,ad,k,F8,F8⟩ fr ops n).1 !=0)=true:=by simpa using he
  rw[if_neg he]
  clear he
  refine dG ?_;(try exact⟨⟩)
  rfl
end
section
open Pm
attribute [local irreducible] aN aQ bq dL bK eH jv nJ nE fM iB wQ dS
theorem Av{zs:List Int}(h:nE zs=false):jv zs<8/\eH zs (jv zs)=false:=by
 unfold jv
 cases hf:(List.range 8).find? (fun i=>!eH zs i)with
 |none=>
  rw[List.find?_eq_none]at hf
  have:nE zs=true:=(Aw zs).2 fun i hi=>by
   have:=hf i (by simpa using hi)
   simpa using this
  rw[this]at h;cases h
 |some i=>
  have h1:=List.find?_some hf
  have h2:=List.mem_of_find?_eq_some hf
  exact⟨by simpa using h2,by simpa using h1⟩
end
end Go.Proofs.YtegalalmamofdaaGreatDoor
