/-
  Views: operations in a row, as the program does them.
-/
import Derived.Test.YtjdjelopkhjdnaaGreatDoorJ20
namespace Go.Proofs.YtjdjelopkhjdnaaGreatDoor
set_option linter.unusedVariables false
set_option linter.unusedSimpArgs false
set_option maxRecDepth 100000
open Go.RowKit
section
open Pm
attribute [local irreducible] aV aZ bQ cK bE dK dG kJ jN d9 bY rQ bn
structure Vw where
 zs:List Int
 ad:List Bool
 k:Int
 ng:List Bool
 gn:List Bool
def fq(s:Vw)(fr:Int)(o:List Int):Int:=
 if o.getD 0 0=1 then bY s.zs [o.getD 3 0,o.getD 4 0]else if o.getD 0 0=2 then gH s.zs fr (o.getD 1 0)else if o.getD 0 0=3 then iK s.zs s.ad (o.getD 1 0)else if o.getD 0 0=4 then lW s.zs s.ad (o.getD 1 0)else iJ (o.getD 2 0)
def fV(s:Vw)(o:List Int):Vw:=
 if o.getD 0 0=1 then⟨d9 s.zs [o.getD 3 0,o.getD 4 0] (dG s.zs:Nat),s.ad,s.k,s.ng.set (dG s.zs) true,s.gn⟩
 else if o.getD 0 0=2 then⟨d9 s.zs [0,0] (o.getD 1 0),s.ad.set (o.getD 1 0).toNat false,s.k,s.ng.set (o.getD 1 0).toNat false,s.gn.set (o.getD 1 0).toNat true⟩
 else if o.getD 0 0=3 then⟨s.zs,s.ad.set (o.getD 1 0).toNat true,s.k,s.ng,s.gn⟩
 else if o.getD 0 0=4 then⟨s.zs,s.ad.set (o.getD 1 0).toNat false,s.k,s.ng,s.gn⟩
 else⟨s.zs,s.ad,o.getD 2 0,s.ng,s.gn⟩
abbrev Bp(e:Int)(s:Vw)(ch:List UInt8)(fr:Int):List Seg:=iZ e s.zs s.ad s.k ch fr s.ng s.gn
def ab0:Nat→Bk→List A→(bP→Bk→Prop)→Prop
 |0,.var [.ints .i64 1 [e],.ints .i64 31 zs,.bools 8 ad,.ints .i64 1 [k],.bytes 32 ch,.ints .i64 1 [fr],.bools 8 ng,.bools 8 gn],[.v (.int .i64 y)],K=>
  K (.d (.v (.int .i64 (gH zs fr y)))) (.var (if gH zs fr y=0 then iZ e (d9 zs [0,0] y) (ad.set y.toNat false) k ch fr (ng.set y.toNat false) (gn.set y.toNat true)else iZ e zs ad k ch fr ng gn))
 |_,_,_,_=>False
theorem ab1:∀pos x args K,ab0 pos x args K→∃r x',fK 203 pos x args r x'∧K r x':=by
 intro pos x args K h
 unfold ab0 at h
 split at h
 ·exact⟨_,_,U3 _ _ _ _ _ _ _ _ _,h⟩
 ·exact h.elim
def Z8:Nat→Bk→List A→(bP→Bk→Prop)→Prop
 |0,.var [.ints .i64 1 [e],.ints .i64 31 zs,.bools 8 ad,.ints .i64 1 [k],.bytes 32 ch,.ints .i64 1 [fr],.bools 8 ng,.bools 8 gn],[.v (.int .i64 y)],K=>
  K (.d (.v (.int .i64 (iK zs ad y)))) (.var (if iK zs ad y=0 then iZ e zs (ad.set y.toNat true) k ch fr ng gn else iZ e zs ad k ch fr ng gn))
 |_,_,_,_=>False
theorem Z9:∀pos x args K,Z8 pos x args K→∃r x',fK 204 pos x args r x'∧K r x':=by
 intro pos x args K h
 unfold Z8 at h
 split at h
 ·exact⟨_,_,Pe _ _ _ _ _ _ _ _ _,h⟩
 ·exact h.elim
def Xx:Nat→Bk→List A→(bP→Bk→Prop)→Prop
 |0,.var [.ints .i64 1 [e],.ints .i64 31 zs,.bools 8 ad,.ints .i64 1 [k],.bytes 32 ch,.ints .i64 1 [fr],.bools 8 ng,.bools 8 gn],[.v (.int .i64 y)],K=>
  K (.d (.v (.int .i64 (lW zs ad y)))) (.var (if lW zs ad y=0 then iZ e zs (ad.set y.toNat false) k ch fr ng gn else iZ e zs ad k ch fr ng gn))
 |_,_,_,_=>False
theorem Xy:∀pos x args K,Xx pos x args K→∃r x',fK 205 pos x args r x'∧K r x':=by
 intro pos x args K h
 unfold Xx at h
 split at h
 ·exact⟨_,_,TA _ _ _ _ _ _ _ _ _,h⟩
 ·exact h.elim
def Ze:Nat→Bk→List A→(bP→Bk→Prop)→Prop
 |0,.var [.ints .i64 1 [e],.ints .i64 31 zs,.bools 8 ad,.ints .i64 1 [k],.bytes 32 ch,.ints .i64 1 [fr],.bools 8 ng,.bools 8 gn],[.v (.int .i64 y)],K=>
  K (.d (.v (.int .i64 (iJ y)))) (.var (if iJ y=0 then iZ e zs ad y ch fr ng gn else iZ e zs ad k ch fr ng gn))
 |_,_,_,_=>False
theorem Zf:∀pos x args K,Ze pos x args K→∃r x',fK 206 pos x args r x'∧K r x':=by
 intro pos x args K h
 unfold Ze at h
 split at h
 ·exact⟨_,_,Zg _ _ _ _ _ _ _ _ _,h⟩
 ·exact h.elim
noncomputable def bi5:av:=FP.kr 202 WA WB ⟨_,Tryz.func202,by kernel_rfl,by kernel_rfl⟩
noncomputable def bi6:av:=bi5.kr 203 ab0 ab1 ⟨_,Tryz.func203,by kernel_rfl,by kernel_rfl⟩
noncomputable def bi7:av:=bi6.kr 204 Z8 Z9 ⟨_,Tryz.func204,by kernel_rfl,by kernel_rfl⟩
noncomputable def bi8:av:=bi7.kr 205 Xx Xy ⟨_,Tryz.func205,by kernel_rfl,by kernel_rfl⟩
noncomputable def aC9:av:=bi8.kr 206 Ze Zf ⟨_,Tryz.func206,by kernel_rfl,by kernel_rfl⟩
set_option maxHeartbeats 8000000 in
theorem aQ0(e:Int)(s:Vw)(ch:List UInt8)(fr:Int)(o:List Int):
  fK 190 0 (.var (Bp e s ch fr)) [.agg [.ints .i64 5 o]] (.d (.v (.int .i64 (fq s fr o)))) (.var (if fq s fr o=0 then Bp e (fV s o) ch fr else Bp e s ch fr)):=by
 refine uz fun _ hl=>?_
 obtain⟨a,b,c,d,f,rfl⟩:=five hl.1.1
 clear hl
 refine mP (E:=aC9) Tryz.func190 Tryz.ntmps190 ?_
 by_cases h1:a=1
 ·subst h1
  have e1:fq s fr [1,b,c,d,f]=bY s.zs [d,f]:=rfl
  have e2:fV s [1,b,c,d,f]=⟨d9 s.zs [d,f] (dG s.zs:Nat),s.ad,s.k,s.ng.set (dG s.zs) true,s.gn⟩:=rfl
  rw[e1,e2]
  clear e1 e2
  refine aX ?_;(try exact⟨⟩)
 have n1:(a==1)=false:=by simpa using h1
 by_cases h2:a=2
 ·subst h2
  have e1:fq s fr [2,b,c,d,f]=gH s.zs fr b:=rfl
  have e2:fV s [2,b,c,d,f]=⟨d9 s.zs [0,0] b,s.ad.set b.toNat false,s.k,s.ng.set b.toNat false,s.gn.set b.toNat true⟩:=rfl
  rw[e1,e2]
  clear e1 e2 h1
  refine aX ?_;(try exact⟨⟩)
 have n2:(a==2)=false:=by simpa using h2
 by_cases h3:a=3
 ·subst h3
  have e1:fq s fr [3,b,c,d,f]=iK s.zs s.ad b:=rfl
  have e2:fV s [3,b,c,d,f]=⟨s.zs,s.ad.set b.toNat true,s.k,s.ng,s.gn⟩:=rfl
  rw[e1,e2]
  clear e1 e2 h1 h2
  refine aX ?_;(try exact⟨⟩)
 have n3:(a==3)=false:=by simpa using h3
 by_cases h4:a=4
 ·subst h4
  have e1:fq s fr [4,b,c,d,f]=lW s.zs s.ad b:=rfl
  have e2:fV s [4,b,c,d,f]=⟨s.zs,s.ad.set b.toNat false,s.k,s.ng,s.gn⟩:=rfl
  rw[e1,e2]
  clear e1 e2 h1 h2 h3
  refine aX ?_;(try exact⟨⟩)
 have n4:(a==4)=false:=by simpa using h4
 have e1:fq s fr [a,b,c,d,f]=iJ c:=by simp[fq,h1,h2,h3,h4]
 have e2:fV s [a,b,c,d,f]=⟨s.zs,s.ad,c,s.ng,s.gn⟩:=by simp[fV,h1,h2,h3,h4]
 rw[e1,e2]
 clear e1 e2 h1 h2 h3 h4
 refine aX ?_;(try exact⟨⟩)
def ZI:Nat→Bk→List A→(bP→Bk→Prop)→Prop
 |0,.var [.ints .i64 1 [e],.ints .i64 31 zs,.bools 8 ad,.ints .i64 1 [k],.bytes 32 ch,.ints .i64 1 [fr],.bools 8 ng,.bools 8 gn],[.agg [.ints .i64 5 o]],K=>
  K (.d (.v (.int .i64 (fq ⟨zs,ad,k,ng,gn⟩ fr o)))) (.var (if fq ⟨zs,ad,k,ng,gn⟩ fr o=0 then Bp e (fV ⟨zs,ad,k,ng,gn⟩ o) ch fr else iZ e zs ad k ch fr ng gn))
 |_,_,_,_=>False
theorem ZJ:∀pos x args K,ZI pos x args K→∃r x',fK 190 pos x args r x'∧K r x':=by
 intro pos x args K h
 unfold ZI at h
 split at h
 ·exact⟨_,_,aQ0 _ ⟨_,_,_,_,_⟩ _ _ _,h⟩
 ·exact h.elim
noncomputable def aD0:av:=aC9.kr 190 ZI ZJ ⟨_,Tryz.func190,by kernel_rfl,by kernel_rfl⟩
def gU(fr:Int)(ops:List Int):Nat→Nat→Vw→Int×Vw
 |0,_,s=>(0,s)
 |d+1,j,s=>if fq s fr (opAt ops j)=0 then gU fr ops d (j+1) (fV s (opAt ops j))else(fq s fr (opAt ops j),s)
def dh(e:Int)(s:Vw)(fr:Int)(ops:List Int)(n:Nat):Int×Vw:=
 if(!dQ e s.zs s.ad s.k||decide (n>4)||iR ops n)=true then(1,s)else if bn s.zs fr=false then(6,s)else
 if(gU fr ops n 0 s).1≠0 then gU fr ops n 0 s else if((jq (gU fr ops n 0 s).2.ad:Nat):Int)<(gU fr ops n 0 s).2.k then(7,(gU fr ops n 0 s).2)else(0,(gU fr ops n 0 s).2)
end
section
open Pm
attribute [local irreducible] aV aZ bQ cK bE dK dG kJ jN d9 bY rQ bn fq fV dQ iR jq gU opAt
set_option maxHeartbeats 4000000 in
theorem aV6(e:Int)(s:Vw)(ch:List UInt8)(fr:Int)(ops:List Int)(n:Nat)(hn:n≤1000000):
  fK 147 0 (.var (Bp e s ch fr)) [.row n [.ints .i64 (n*5) ops]] (.d (.v (.int .i64 (dh e s fr ops n).1))) (.var (Bp e (dh e s fr ops n).2 ch fr)):=by
 refine mP (E:=aD0) Tryz.func147 Tryz.ntmps147 ?_
 cases hV:dQ e s.zs s.ad s.k with
 |false=>
  have hr:dh e s fr ops n=(1,s):=by simp[dh,hV]
  rw[hr]
  clear hr
  refine aX ?_;(try exact⟨⟩)
 |true=>
 by_cases h4:n>4
 ·have hr:dh e s fr ops n=(1,s):=by simp[dh,hV,h4]
  have h41:decide ((n:Int)>4)=true:=by simp;omega
  rw[hr]
  clear hr
  refine aX ?_;(try exact⟨⟩)
 have h41:decide ((n:Int)>4)=false:=by simp;omega
 cases hO:iR ops n with
 |true=>
  have hr:dh e s fr ops n=(1,s):=by simp[dh,hO]
  rw[hr]
  clear hr
  refine aX ?_;(try exact⟨⟩)
 |false=>
 cases hM:bn s.zs fr with
 |false=>
  have hr:dh e s fr ops n=(6,s):=by simp[dh,hV,h4,hO,hM]
  rw[hr]
  clear hr
  refine aX ?_;(try exact⟨⟩)
 |true=>
 have hr:dh e s fr ops n=(if(gU fr ops n 0 s).1≠0 then gU fr ops n 0 s else if((jq (gU fr ops n 0 s).2.ad:Nat):Int)<(gU fr ops n 0 s).2.k then(7,(gU fr ops n 0 s).2)else(0,(gU fr ops n 0 s).2)):=by
  simp only[dh,hV,hO,hM,decide_eq_false h4]
  simp
 rw[hr]
 clear hr
 refine aX ?_;(try exact⟨⟩)
 have hR0:gU fr ops n 0 s=gU fr ops n 0 s:=rfl
 generalize hR:gU fr ops n 0 s=R at*
 refine aM.mk (gB [0,34,35,36] 1 (fun st=>∃j:Nat,j≤n∧∃q:Vw,gU fr ops (n-j) j q=R∧st=⟨[.ptr 0 0,.ah,.ah,.ah,.ah,.ah,.ah,.ah,.ah,.ah,.ah,.ah,.ah,.ah,.ah,.ah,.ah,.ah,.ah,.ah,.ah,.ah,.ah,.ah,.ah,.ah,.ah,.ah,.ah,.ah,.ah,.ah,.ah,.ah,.d (.row n [.ints .i64 (n*5) ops]),.d (.v (.int .i64 n)),.d (.v (.int .i64 (j:Nat))),.ah,.ah,.ah,.ah,.ah,.ah,.ah,.ah,.ah,.ah,.ah,.ah,.ah,.ah,.ah,.ah,.ah,.ah,.ah,.ah,.ah,.ah],[some (.var (Bp e q ch fr))]⟩) (fun s=>n-lM s 36) rfl ⟨0,by omega,s,hR,rfl⟩ ?_)
 clear hR hR0 hV h41 h4 hO hM
 rintro st ⟨j,hj,⟨zs,ad,k,ng,gn⟩,hrun,rfl⟩
 have hw:IntKind.i64.wrap ((j:Int)+1)=((j+1:Nat):Int):=by rw[dM (by omega) (by omega)];omega
 by_cases hj2:j<n
 ·obtain⟨d,hd⟩:∃d,n-j=d+1:=⟨n-j-1,by omega⟩
  have aE5:opAt ops j=(ops.drop (j*5)).take 5:=by unfold opAt;rfl
  rw[hd]at hrun
  unfold gU at hrun
  rw[aE5]at hrun
  clear aE5
  generalize ho:(ops.drop (j*5)).take 5=o at*
  by_cases he:fq ⟨zs,ad,k,ng,gn⟩ fr o=0
  ·rw[if_pos he]at hrun
   have he1:(fq ⟨zs,ad,k,ng,gn⟩ fr o !=0)=false:=by rw[he];rfl
   rw[←ho]at he1 he
   refine aX ?_;(try exact⟨⟩)
   refine⟨⟨j+1,by omega,fV ⟨zs,ad,k,ng,gn⟩ o,by rw[show n- (j+1)=d by omega];exact hrun,by rw[if_pos he,ho,←hw];rfl⟩,?_⟩
   show n- (IntKind.i64.wrap ((j:Int)+1)).toNat<n- (j:Int).toNat
   rw[hw];omega
  ·rw[if_neg he]at hrun
   have he1:(fq ⟨zs,ad,k,ng,gn⟩ fr o !=0)=true:=by simpa using he
   have he2:R.1≠0:=by rw[←hrun];exact he
   rw[if_pos he2,←hrun]
   rw[←ho]at he1 he
   clear hrun he2
   rw[←ho]
   refine aX ?_;(try exact⟨⟩)
   rw[if_neg he]
   refine aX ?_;(try exact⟨⟩)
 ·obtain rfl:j=n:=by omega
  rw[Nat.sub_self]at hrun
  unfold gU at hrun
  subst hrun
  rw[if_neg (by simp)]
  by_cases hc:((jq ad:Nat):Int)<k
  ·rw[if_pos hc]
   refine aX ?_;(try exact⟨⟩)
  ·rw[if_neg hc]
   refine aX ?_;(try exact⟨⟩)
def aJ0:Nat→Bk→List A→(bP→Bk→Prop)→Prop
 |0,.var [.ints .i64 1 [e],.ints .i64 31 zs,.bools 8 ad,.ints .i64 1 [k],.bytes 32 ch,.ints .i64 1 [fr],.bools 8 ng,.bools 8 gn],[.row n [.ints .i64 m ops]],K=>
  m=n*5∧n≤1000000∧K (.d (.v (.int .i64 (dh e ⟨zs,ad,k,ng,gn⟩ fr ops n).1))) (.var (Bp e (dh e ⟨zs,ad,k,ng,gn⟩ fr ops n).2 ch fr))
 |_,_,_,_=>False
theorem an2:∀pos x args K,aJ0 pos x args K→∃r x',fK 147 pos x args r x'∧K r x':=by
 intro pos x args K h
 unfold aJ0 at h
 split at h
 ·obtain⟨rfl,h1,h⟩:=h
  exact⟨_,_,aV6 _ ⟨_,_,_,_,_⟩ _ _ _ _ h1,h⟩
 ·exact h.elim
noncomputable def QY:av:=aD0.kr 147 aJ0 an2 ⟨_,Tryz.func147,by kernel_rfl,by kernel_rfl⟩
abbrev F8:List Bool:=[false,false,false,false,false,false,false,false]
abbrev wL:List Seg:=bR 0 (List.replicate 31 0) F8 0 (List.replicate 32 0)
def Fa(e:Int)(zs:List Int)(ad:List Bool)(k:Int)(ch:List UInt8)(fr:Int)(ops:List Int)(n:Nat):List A:=
 if(dh e ⟨zs,ad,k,F8,F8⟩ fr ops n).1=0 then[.agg (bR e (dh e ⟨zs,ad,k,F8,F8⟩ fr ops n).2.zs (dh e ⟨zs,ad,k,F8,F8⟩ fr ops n).2.ad (dh e ⟨zs,ad,k,F8,F8⟩ fr ops n).2.k ch),.agg [.bools 8 (dh e ⟨zs,ad,k,F8,F8⟩ fr ops n).2.ng],.agg [.bools 8 (dh e ⟨zs,ad,k,F8,F8⟩ fr ops n).2.gn],.v (.int .i64 0)]
 else[.agg wL,.agg [.bools 8 F8],.agg [.bools 8 F8],.v (.int .i64 (dh e ⟨zs,ad,k,F8,F8⟩ fr ops n).1)]
attribute [local irreducible] dh
set_option maxHeartbeats 4000000 in
theorem JY(e:Int)(zs:List Int)(ad:List Bool)(k:Int)(ch:List UInt8)(fr:Int)(ops:List Int)(n:Nat)(hn:n≤1000000):
  aQ 77 [.agg (bR e zs ad k ch),.v (.int .i64 fr),.row n [.ints .i64 (n*5) ops]] (.t (Fa e zs ad k ch fr ops n)):=by
 refine dF (E:=QY) Tryz.func77 Tryz.ntmps77 ?_
 unfold Fa
 by_cases he:(dh e ⟨zs,ad,k,F8,F8⟩ fr ops n).1=0
 ·have he1:((dh e ⟨zs,ad,k,F8,F8⟩ fr ops n).1 !=0)=false:=by rw[he];rfl
  rw[if_pos he]
  clear he
  refine aX ?_;(try exact⟨⟩)
 ·have he1:((dh e ⟨zs,ad,k,F8,F8⟩ fr ops n).1 !=0)=true:=by simpa using he
  rw[if_neg he]
  clear he
  refine aX ?_;(try exact⟨⟩)
  rfl
end
section
open Pm
attribute [local irreducible] aV aZ bQ cK bE dK dG kJ jN d9 bY rQ bn
def AO(zs:List Int):Nat→Int
 |0=> -1
 |d+1=>if dK zs (7-d)=true then AO zs d else((7-d:Nat):Int)
theorem Dj(zs:List Int):∀d≤8,AO zs d=(match(List.range' (8-d) d).find? (fun i=>!dK zs i)with|some i=>(i:Int)|none=> -1)
 |0,_=>rfl
 |d+1,h=>by
  have ih:=Dj zs d (by omega)
  have e:List.range' (8- (d+1)) (d+1)=(7-d)::List.range' (8-d) d:=by
   rw[List.range'_succ,show 8- (d+1)=7-d by omega,show 7-d+1=8-d by omega]
  rw[e,List.find?_cons,AO]
  cases hm:dK zs (7-d)with
  |true=>simp[ih]
  |false=>simp
theorem freeD_8(zs:List Int):AO zs 8=if jN zs=true then(-1:Int)else((dG zs:Nat):Int):=by
 rw[Dj zs 8 (by omega)]
 unfold dG
 rw[show List.range' (8-8) 8=List.range 8 from rfl]
 cases hf:(List.range 8).find? (fun i=>!dK zs i)with
 |none=>
  rw[List.find?_eq_none]at hf
  have:jN zs=true:=(rz zs).2 fun i hi=>by
   have:=hf i (by simpa using hi)
   simpa using this
  rw[this];rfl
 |some i=>
  have h1:=List.find?_some hf
  have h2:=List.mem_of_find?_eq_some hf
  have:jN zs=false:=by
   cases h:jN zs with
   |false=>rfl
   |true=>
    have:=(rz zs).1 h i (by simpa using h2)
    simp[this]at h1
  rw[this];rfl
theorem Vx{zs:List Int}{s:Int}(h:∀i<8,zs.getD (i*2) 0≠s):kJ zs s=false:=ag4 h
theorem oz{zs:List Int}(h:jN zs=false):dG zs<8∧dK zs (dG zs)=false:=by
 unfold dG
 cases hf:(List.range 8).find? (fun i=>!dK zs i)with
 |none=>
  rw[List.find?_eq_none]at hf
  have:jN zs=true:=(rz zs).2 fun i hi=>by
   have:=hf i (by simpa using hi)
   simpa using this
  rw[this]at h;cases h
 |some i=>
  have h1:=List.find?_some hf
  have h2:=List.mem_of_find?_eq_some hf
  exact⟨by simpa using h2,by simpa using h1⟩
set_option maxHeartbeats 4000000 in
theorem RU(e:Int)(zs:List Int)(ad:List Bool)(k:Int)(ch:List UInt8)(xs:List Int):
  fK 99 0 (.var (bR e zs ad k ch)) [.agg [.ints .i64 2 xs]] (.t [.v (.int .i64 (if bY zs xs=0 then((dG zs:Nat):Int)else 0)),.v (.int .i64 (bY zs xs))])
   (.var (if bY zs xs=0 then bR e (d9 zs xs (dG zs:Nat)) (ad.set (dG zs) false) k ch else bR e zs ad k ch)):=by
 refine uz fun _ hl=>?_
 obtain⟨x,y,rfl⟩:=two hl.1.1
 clear hl
 refine mP (E:=QY) Tryz.func99 Tryz.ntmps99 ?_
 by_cases hxy:(cK x&&cK y)=true
 ·have he0:bY zs [x,y]=if kJ zs x=true then 7 else if jN zs=true then 12 else 0:=by
   unfold bY;simp[hxy]
  obtain⟨hx,hy⟩:cK x=true∧cK y=true:=by simpa using hxy
  refine aX ?_;(try exact⟨⟩)
  refine aM.mk (gB [0,3,6,7] 2 (fun s=>∃d:Nat,d≤8∧(∀i,8-d≤i→i<8→zs.getD (i*2) 0≠x)∧s=⟨[.ptr 0 0,.ah,.ah,.ptr 1 0,.ah,.ah,.d (.v (.int .i64 (AO zs d))),.d (.v (.int .i64 (7- (d:Int)))),.ah,.ah,.ah,.ah,.ah,.ah,.ah,.ah,.ah,.ah,.ah,.ah,.ah,.ah,.ah,.ah,.ah,.ah,.ah,.ah,.ah,.ah,.ah,.ah,.ah,.ah,.ah,.ah,.ah,.ah,.ah,.ah,.ah,.ah,.ah,.ah,.ah,.ah,.ah,.ah,.ah,.ah,.ah,.ah,.ah,.ah,.ah,.ah,.ah,.ah],[some (.var (bR e zs ad k ch)),some (.var [.ints .i64 2 [x,y]])]⟩) (fun s=>match s.sl 7 with| .d (.v (.int _ z))=>(z+1).toNat|_=>0) rfl ⟨0,by omega,by intro i h1 h2;omega,rfl⟩ ?_)
  rintro s ⟨d,hd,hall,rfl⟩
  have hw:IntKind.i64.wrap (7- (d:Int) -1)=7- ((d+1:Nat):Int):=by rw[dM (by omega) (by omega)];omega
  by_cases hd8:d<8
  ·obtain⟨i,hi⟩:∃i:Nat,i=7-d:=⟨_,rfl⟩
   have hi2:7- (d:Int)=(i:Int):=by omega
   have hi8:i<8:=by omega
   have hm:bn zs (i:Int)=dK zs i:=by unfold bn;simp[aG];omega
   rw[hi2]at hw ⊢
   by_cases hs:zs.getD (i*2) 0=x
   ·have hu:kJ zs x=true:=ag6 hi8 hs
    have hs1:(zs.getD (i*2) 0==x)=true:=by rw[hs];simp
    have he1:bY zs [x,y]=7:=by rw[he0,if_pos hu]
    rw[he1,if_neg (by decide),if_neg (by decide)]
    clear he0 he1 hu hs hall hm hi hi2
    refine aX ?_;(try exact⟨⟩)
   ·have hs1:(zs.getD (i*2) 0==x)=false:=by simpa using hs
    have hnext:∀q,8- (d+1)≤q→q<8→zs.getD (q*2) 0≠x:=fun q h1 h2=>by
     by_cases e:q=i
     ·rw[e];exact hs
     ·exact hall q (by omega) h2
    have hf:AO zs (d+1)=if dK zs i=true then AO zs d else(i:Int):=by rw[AO,←hi]
    have HI:=Lib.hid hi2
    clear he0 hs hall hi hi2
    cases hmm:dK zs i with
    |true=>
     rw[hmm]at hm hf
     rw[if_pos rfl]at hf
     clear hmm
     refine aX ?_;(try exact⟨⟩)
     refine⟨⟨d+1,by omega,hnext,by rw[hf,←hw];rfl⟩,?_⟩
     show(IntKind.i64.wrap ((i:Int) -1)+1).toNat<((i:Int)+1).toNat
     have:=HI.out
     rw[hw];omega
    |false=>
     rw[hmm]at hm hf
     rw[if_neg (by simp)]at hf
     clear hmm
     refine aX ?_;(try exact⟨⟩)
     refine⟨⟨d+1,by omega,hnext,by rw[hf,←hw];rfl⟩,?_⟩
     show(IntKind.i64.wrap ((i:Int) -1)+1).toNat<((i:Int)+1).toNat
     have:=HI.out
     rw[hw];omega
  ·obtain rfl:d=8:=by omega
   have hu:kJ zs x=false:=Vx fun i hi=>hall i (by omega) hi
   rw[hu,if_neg (by simp)]at he0
   rw[freeD_8]
   clear hall hu hw
   cases hf:jN zs with
   |true=>
    have he1:bY zs [x,y]=12:=by rw[he0];simp[hf]
    rw[he1,if_pos rfl,if_neg (by decide),if_neg (by decide)]
    clear he0 he1
    refine aX ?_;(try exact⟨⟩)
   |false=>
    have he1:bY zs [x,y]=0:=by rw[he0];simp[hf]
    obtain⟨EZ,_⟩:=oz hf
    rw[he1,if_neg (by simp),if_pos rfl,if_pos rfl]
    clear he0 he1
    generalize dG zs=f at*
    refine aX ?_;(try exact⟨⟩)
 ·have he0:bY zs [x,y]=7:=by unfold bY;simp[hxy]
  rw[he0,if_neg (by decide),if_neg (by decide)]
  clear he0
  cases hx:cK x with
  |false=>refine aX ?_;(try exact⟨⟩)
  |true=>
   have hy:cK y=false:=by rw[hx]at hxy;simpa using hxy
   refine aX ?_;(try exact⟨⟩)
end
end Go.Proofs.YtjdjelopkhjdnaaGreatDoor
