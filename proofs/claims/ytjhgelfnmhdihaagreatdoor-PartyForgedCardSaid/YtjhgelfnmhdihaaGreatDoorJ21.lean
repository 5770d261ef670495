/-
  Views: operations in a row, as the program does them.
-/
import Derived.Test.YtjhgelfnmhdihaaGreatDoorJ20
namespace Go.Proofs.YtjhgelfnmhdihaaGreatDoor
set_option linter.unusedVariables false
set_option linter.unusedSimpArgs false
set_option maxRecDepth 100000
open Go.RowKit
section
open Pm
attribute [local irreducible] aU aZ bR cO bG dF dH jU jC dA cK rQ bn
structure Vw where
 zs:List Int
 ad:List Bool
 k:Int
 ng:List Bool
 gn:List Bool
def eX(s:Vw)(fr:Int)(o:List Int):Int:=
 if o.getD 0 0=1 then cK s.zs [o.getD 3 0,o.getD 4 0]else if o.getD 0 0=2 then fC s.zs fr (o.getD 1 0)else if o.getD 0 0=3 then iO s.zs s.ad (o.getD 1 0)else if o.getD 0 0=4 then mg s.zs s.ad (o.getD 1 0)else iN (o.getD 2 0)
def eG(s:Vw)(o:List Int):Vw:=
 if o.getD 0 0=1 then⟨dA s.zs [o.getD 3 0,o.getD 4 0] (dH s.zs:Nat),s.ad,s.k,s.ng.set (dH s.zs) true,s.gn⟩
 else if o.getD 0 0=2 then⟨dA s.zs [0,0] (o.getD 1 0),s.ad.set (o.getD 1 0).toNat false,s.k,s.ng.set (o.getD 1 0).toNat false,s.gn.set (o.getD 1 0).toNat true⟩
 else if o.getD 0 0=3 then⟨s.zs,s.ad.set (o.getD 1 0).toNat true,s.k,s.ng,s.gn⟩
 else if o.getD 0 0=4 then⟨s.zs,s.ad.set (o.getD 1 0).toNat false,s.k,s.ng,s.gn⟩
 else⟨s.zs,s.ad,o.getD 2 0,s.ng,s.gn⟩
abbrev BA(e:Int)(s:Vw)(ch:List UInt8)(fr:Int):List Seg:=je e s.zs s.ad s.k ch fr s.ng s.gn
def ab6:Nat→Bk→List A→(bP→Bk→Prop)→Prop
 |0,.var [.ints .i64 1 [e],.ints .i64 31 zs,.bools 8 ad,.ints .i64 1 [k],.bytes 32 ch,.ints .i64 1 [fr],.bools 8 ng,.bools 8 gn],[.v (.int .i64 y)],K=>
  K (.d (.v (.int .i64 (fC zs fr y)))) (.var (if fC zs fr y=0 then je e (dA zs [0,0] y) (ad.set y.toNat false) k ch fr (ng.set y.toNat false) (gn.set y.toNat true)else je e zs ad k ch fr ng gn))
 |_,_,_,_=>False
theorem ab7:∀pos x args K,ab6 pos x args K→∃r x',gq 216 pos x args r x'∧K r x':=by
 intro pos x args K h
 unfold ab6 at h
 split at h
 ·exact⟨_,_,Vh _ _ _ _ _ _ _ _ _,h⟩
 ·exact h.elim
def aa3:Nat→Bk→List A→(bP→Bk→Prop)→Prop
 |0,.var [.ints .i64 1 [e],.ints .i64 31 zs,.bools 8 ad,.ints .i64 1 [k],.bytes 32 ch,.ints .i64 1 [fr],.bools 8 ng,.bools 8 gn],[.v (.int .i64 y)],K=>
  K (.d (.v (.int .i64 (iO zs ad y)))) (.var (if iO zs ad y=0 then je e zs (ad.set y.toNat true) k ch fr ng gn else je e zs ad k ch fr ng gn))
 |_,_,_,_=>False
theorem aa4:∀pos x args K,aa3 pos x args K→∃r x',gq 217 pos x args r x'∧K r x':=by
 intro pos x args K h
 unfold aa3 at h
 split at h
 ·exact⟨_,_,PE _ _ _ _ _ _ _ _ _,h⟩
 ·exact h.elim
def XI:Nat→Bk→List A→(bP→Bk→Prop)→Prop
 |0,.var [.ints .i64 1 [e],.ints .i64 31 zs,.bools 8 ad,.ints .i64 1 [k],.bytes 32 ch,.ints .i64 1 [fr],.bools 8 ng,.bools 8 gn],[.v (.int .i64 y)],K=>
  K (.d (.v (.int .i64 (mg zs ad y)))) (.var (if mg zs ad y=0 then je e zs (ad.set y.toNat false) k ch fr ng gn else je e zs ad k ch fr ng gn))
 |_,_,_,_=>False
theorem XJ:∀pos x args K,XI pos x args K→∃r x',gq 218 pos x args r x'∧K r x':=by
 intro pos x args K h
 unfold XI at h
 split at h
 ·exact⟨_,_,TS _ _ _ _ _ _ _ _ _,h⟩
 ·exact h.elim
def Zl:Nat→Bk→List A→(bP→Bk→Prop)→Prop
 |0,.var [.ints .i64 1 [e],.ints .i64 31 zs,.bools 8 ad,.ints .i64 1 [k],.bytes 32 ch,.ints .i64 1 [fr],.bools 8 ng,.bools 8 gn],[.v (.int .i64 y)],K=>
  K (.d (.v (.int .i64 (iN y)))) (.var (if iN y=0 then je e zs ad y ch fr ng gn else je e zs ad k ch fr ng gn))
 |_,_,_,_=>False
theorem Zm:∀pos x args K,Zl pos x args K→∃r x',gq 219 pos x args r x'∧K r x':=by
 intro pos x args K h
 unfold Zl at h
 split at h
 ·exact⟨_,_,Zn _ _ _ _ _ _ _ _ _,h⟩
 ·exact h.elim
noncomputable def bk3:ay:=F4.kG 215 WR WS ⟨_,Tryz.func215,by kernel_rfl,by kernel_rfl⟩
noncomputable def bk4:ay:=bk3.kG 216 ab6 ab7 ⟨_,Tryz.func216,by kernel_rfl,by kernel_rfl⟩
noncomputable def bk5:ay:=bk4.kG 217 aa3 aa4 ⟨_,Tryz.func217,by kernel_rfl,by kernel_rfl⟩
noncomputable def bk6:ay:=bk5.kG 218 XI XJ ⟨_,Tryz.func218,by kernel_rfl,by kernel_rfl⟩
noncomputable def aD7:ay:=bk6.kG 219 Zl Zm ⟨_,Tryz.func219,by kernel_rfl,by kernel_rfl⟩
set_option maxHeartbeats 8000000 in
theorem aR3(e:Int)(s:Vw)(ch:List UInt8)(fr:Int)(o:List Int):
  gq 204 0 (.var (BA e s ch fr)) [.agg [.ints .i64 5 o]] (.d (.v (.int .i64 (eX s fr o)))) (.var (if eX s fr o=0 then BA e (eG s o) ch fr else BA e s ch fr)):=by
 refine uI fun _ hl=>?_
 obtain⟨a,b,c,d,f,rfl⟩:=five hl.1.1
 clear hl
 refine mY (E:=aD7) Tryz.func204 Tryz.ntmps204 ?_
 by_cases h1:a=1
 ·subst h1
  have e1:eX s fr [1,b,c,d,f]=cK s.zs [d,f]:=rfl
  have e2:eG s [1,b,c,d,f]=⟨dA s.zs [d,f] (dH s.zs:Nat),s.ad,s.k,s.ng.set (dH s.zs) true,s.gn⟩:=rfl
  rw[e1,e2]
  clear e1 e2
  refine aX ?_;(try exact⟨⟩)
 have n1:(a==1)=false:=by simpa using h1
 by_cases h2:a=2
 ·subst h2
  have e1:eX s fr [2,b,c,d,f]=fC s.zs fr b:=rfl
  have e2:eG s [2,b,c,d,f]=⟨dA s.zs [0,0] b,s.ad.set b.toNat false,s.k,s.ng.set b.toNat false,s.gn.set b.toNat true⟩:=rfl
  rw[e1,e2]
  clear e1 e2 h1
  refine aX ?_;(try exact⟨⟩)
 have n2:(a==2)=false:=by simpa using h2
 by_cases h3:a=3
 ·subst h3
  have e1:eX s fr [3,b,c,d,f]=iO s.zs s.ad b:=rfl
  have e2:eG s [3,b,c,d,f]=⟨s.zs,s.ad.set b.toNat true,s.k,s.ng,s.gn⟩:=rfl
  rw[e1,e2]
  clear e1 e2 h1 h2
  refine aX ?_;(try exact⟨⟩)
 have n3:(a==3)=false:=by simpa using h3
 by_cases h4:a=4
 ·subst h4
  have e1:eX s fr [4,b,c,d,f]=mg s.zs s.ad b:=rfl
  have e2:eG s [4,b,c,d,f]=⟨s.zs,s.ad.set b.toNat false,s.k,s.ng,s.gn⟩:=rfl
  rw[e1,e2]
  clear e1 e2 h1 h2 h3
  refine aX ?_;(try exact⟨⟩)
 have n4:(a==4)=false:=by simpa using h4
 have e1:eX s fr [a,b,c,d,f]=iN c:=by simp[eX,h1,h2,h3,h4]
 have e2:eG s [a,b,c,d,f]=⟨s.zs,s.ad,c,s.ng,s.gn⟩:=by simp[eG,h1,h2,h3,h4]
 rw[e1,e2]
 clear e1 e2 h1 h2 h3 h4
 refine aX ?_;(try exact⟨⟩)
def ZP:Nat→Bk→List A→(bP→Bk→Prop)→Prop
 |0,.var [.ints .i64 1 [e],.ints .i64 31 zs,.bools 8 ad,.ints .i64 1 [k],.bytes 32 ch,.ints .i64 1 [fr],.bools 8 ng,.bools 8 gn],[.agg [.ints .i64 5 o]],K=>
  K (.d (.v (.int .i64 (eX ⟨zs,ad,k,ng,gn⟩ fr o)))) (.var (if eX ⟨zs,ad,k,ng,gn⟩ fr o=0 then BA e (eG ⟨zs,ad,k,ng,gn⟩ o) ch fr else je e zs ad k ch fr ng gn))
 |_,_,_,_=>False
theorem ZQ:∀pos x args K,ZP pos x args K→∃r x',gq 204 pos x args r x'∧K r x':=by
 intro pos x args K h
 unfold ZP at h
 split at h
 ·exact⟨_,_,aR3 _ ⟨_,_,_,_,_⟩ _ _ _,h⟩
 ·exact h.elim
noncomputable def aD8:ay:=aD7.kG 204 ZP ZQ ⟨_,Tryz.func204,by kernel_rfl,by kernel_rfl⟩
def gP(fr:Int)(ops:List Int):Nat→Nat→Vw→Int×Vw
 |0,_,s=>(0,s)
 |d+1,j,s=>if eX s fr (opAt ops j)=0 then gP fr ops d (j+1) (eG s (opAt ops j))else(eX s fr (opAt ops j),s)
def cZ(e:Int)(s:Vw)(fr:Int)(ops:List Int)(n:Nat):Int×Vw:=
 if(!dU e s.zs s.ad s.k||decide (n>4)||iV ops n)=true then(1,s)else if bn s.zs fr=false then(6,s)else
 if(gP fr ops n 0 s).1≠0 then gP fr ops n 0 s else if((jh (gP fr ops n 0 s).2.ad:Nat):Int)<(gP fr ops n 0 s).2.k then(7,(gP fr ops n 0 s).2)else(0,(gP fr ops n 0 s).2)
end
section
open Pm
attribute [local irreducible] aU aZ bR cO bG dF dH jU jC dA cK rQ bn eX eG dU iV jh gP opAt
set_option maxHeartbeats 4000000 in
theorem aX1(e:Int)(s:Vw)(ch:List UInt8)(fr:Int)(ops:List Int)(n:Nat)(hn:n≤1000000):
  gq 168 0 (.var (BA e s ch fr)) [.row n [.ints .i64 (n*5) ops]] (.d (.v (.int .i64 (cZ e s fr ops n).1))) (.var (BA e (cZ e s fr ops n).2 ch fr)):=by
 refine mY (E:=aD8) Tryz.func168 Tryz.ntmps168 ?_
 cases hV:dU e s.zs s.ad s.k with
 |false=>
  have hr:cZ e s fr ops n=(1,s):=by simp[cZ,hV]
  rw[hr]
  clear hr
  refine aX ?_;(try exact⟨⟩)
 |true=>
 by_cases h4:n>4
 ·have hr:cZ e s fr ops n=(1,s):=by simp[cZ,hV,h4]
  have h41:decide ((n:Int)>4)=true:=by simp;omega
  rw[hr]
  clear hr
  refine aX ?_;(try exact⟨⟩)
 have h41:decide ((n:Int)>4)=false:=by simp;omega
 cases hO:iV ops n with
 |true=>
  have hr:cZ e s fr ops n=(1,s):=by simp[cZ,hO]
  rw[hr]
  clear hr
  refine aX ?_;(try exact⟨⟩)
 |false=>
 cases hM:bn s.zs fr with
 |false=>
  have hr:cZ e s fr ops n=(6,s):=by simp[cZ,hV,h4,hO,hM]
  rw[hr]
  clear hr
  refine aX ?_;(try exact⟨⟩)
 |true=>
 have hr:cZ e s fr ops n=(if(gP fr ops n 0 s).1≠0 then gP fr ops n 0 s else if((jh (gP fr ops n 0 s).2.ad:Nat):Int)<(gP fr ops n 0 s).2.k then(7,(gP fr ops n 0 s).2)else(0,(gP fr ops n 0 s).2)):=by
  simp only[cZ,hV,hO,hM,decide_eq_false h4]
  simp
 rw[hr]
 clear hr
 refine aX ?_;(try exact⟨⟩)
 have hR0:gP fr ops n 0 s=gP fr ops n 0 s:=rfl
 generalize hR:gP fr ops n 0 s=R at*
 refine aM.mk (gG [0,34,35,36] 1 (fun st=>∃j:Nat,j≤n∧∃q:Vw,gP fr ops (n-j) j q=R∧st=⟨[.ptr 0 0,.ah,.ah,.ah,.ah,.ah,.ah,.ah,.ah,.ah,.ah,.ah,.ah,.ah,.ah,.ah,.ah,.ah,.ah,.ah,.ah,.ah,.ah,.ah,.ah,.ah,.ah,.ah,.ah,.ah,.ah,.ah,.ah,.ah,.d (.row n [.ints .i64 (n*5) ops]),.d (.v (.int .i64 n)),.d (.v (.int .i64 (j:Nat))),.ah,.ah,.ah,.ah,.ah,.ah,.ah,.ah,.ah,.ah,.ah,.ah,.ah,.ah,.ah,.ah,.ah,.ah,.ah,.ah,.ah,.ah],[some (.var (BA e q ch fr))]⟩) (fun s=>n-lX s 36) rfl ⟨0,by omega,s,hR,rfl⟩ ?_)
 clear hR hR0 hV h41 h4 hO hM
 rintro st ⟨j,hj,⟨zs,ad,k,ng,gn⟩,hrun,rfl⟩
 have hw:IntKind.i64.wrap ((j:Int)+1)=((j+1:Nat):Int):=by rw[dR (by omega) (by omega)];omega
 by_cases hj2:j<n
 ·obtain⟨d,hd⟩:∃d,n-j=d+1:=⟨n-j-1,by omega⟩
  have aF5:opAt ops j=(ops.drop (j*5)).take 5:=by unfold opAt;rfl
  rw[hd]at hrun
  unfold gP at hrun
  rw[aF5]at hrun
  clear aF5
  generalize ho:(ops.drop (j*5)).take 5=o at*
  by_cases he:eX ⟨zs,ad,k,ng,gn⟩ fr o=0
  ·rw[if_pos he]at hrun
   have he1:(eX ⟨zs,ad,k,ng,gn⟩ fr o !=0)=false:=by rw[he];rfl
   rw[←ho]at he1 he
   refine aX ?_;(try exact⟨⟩)
   refine⟨⟨j+1,by omega,eG ⟨zs,ad,k,ng,gn⟩ o,by rw[show n- (j+1)=d by omega];exact hrun,by rw[if_pos he,ho,←hw];rfl⟩,?_⟩
   show n- (IntKind.i64.wrap ((j:Int)+1)).toNat<n- (j:Int).toNat
   rw[hw];omega
  ·rw[if_neg he]at hrun
   have he1:(eX ⟨zs,ad,k,ng,gn⟩ fr o !=0)=true:=by simpa using he
   have he2:R.1≠0:=by rw[←hrun];exact he
   rw[if_pos he2,←hrun]
   rw[←ho]at he1 he
   clear hrun he2
   rw[←ho]
   refine aX ?_;(try exact⟨⟩)
   rw[if_neg he]
   refine aX ?_;(try exact⟨⟩)
 ·obtain rfl:j=n:=by omega
  rw[Nat.sub_self]at hrun
  unfold gP at hrun
  subst hrun
  rw[if_neg (by simp)]
  by_cases hc:((jh ad:Nat):Int)<k
  ·rw[if_pos hc]
   refine aX ?_;(try exact⟨⟩)
  ·rw[if_neg hc]
   refine aX ?_;(try exact⟨⟩)
def aK1:Nat→Bk→List A→(bP→Bk→Prop)→Prop
 |0,.var [.ints .i64 1 [e],.ints .i64 31 zs,.bools 8 ad,.ints .i64 1 [k],.bytes 32 ch,.ints .i64 1 [fr],.bools 8 ng,.bools 8 gn],[.row n [.ints .i64 m ops]],K=>
  m=n*5∧n≤1000000∧K (.d (.v (.int .i64 (cZ e ⟨zs,ad,k,ng,gn⟩ fr ops n).1))) (.var (BA e (cZ e ⟨zs,ad,k,ng,gn⟩ fr ops n).2 ch fr))
 |_,_,_,_=>False
theorem an9:∀pos x args K,aK1 pos x args K→∃r x',gq 168 pos x args r x'∧K r x':=by
 intro pos x args K h
 unfold aK1 at h
 split at h
 ·obtain⟨rfl,h1,h⟩:=h
  exact⟨_,_,aX1 _ ⟨_,_,_,_,_⟩ _ _ _ _ h1,h⟩
 ·exact h.elim
noncomputable def Rk:ay:=aD8.kG 168 aK1 an9 ⟨_,Tryz.func168,by kernel_rfl,by kernel_rfl⟩
abbrev F8:List Bool:=[false,false,false,false,false,false,false,false]
abbrev wP:List Seg:=bS 0 (List.replicate 31 0) F8 0 (List.replicate 32 0)
def Fu(e:Int)(zs:List Int)(ad:List Bool)(k:Int)(ch:List UInt8)(fr:Int)(ops:List Int)(n:Nat):List A:=
 if(cZ e ⟨zs,ad,k,F8,F8⟩ fr ops n).1=0 then[.agg (bS e (cZ e ⟨zs,ad,k,F8,F8⟩ fr ops n).2.zs (cZ e ⟨zs,ad,k,F8,F8⟩ fr ops n).2.ad (cZ e ⟨zs,ad,k,F8,F8⟩ fr ops n).2.k ch),.agg [.bools 8 (cZ e ⟨zs,ad,k,F8,F8⟩ fr ops n).2.ng],.agg [.bools 8 (cZ e ⟨zs,ad,k,F8,F8⟩ fr ops n).2.gn],.v (.int .i64 0)]
 else[.agg wP,.agg [.bools 8 F8],.agg [.bools 8 F8],.v (.int .i64 (cZ e ⟨zs,ad,k,F8,F8⟩ fr ops n).1)]
attribute [local irreducible] cZ
set_option maxHeartbeats 4000000 in
theorem Ki(e:Int)(zs:List Int)(ad:List Bool)(k:Int)(ch:List UInt8)(fr:Int)(ops:List Int)(n:Nat)(hn:n≤1000000):
  aP 99 [.agg (bS e zs ad k ch),.v (.int .i64 fr),.row n [.ints .i64 (n*5) ops]] (.t (Fu e zs ad k ch fr ops n)):=by
 refine dK (E:=Rk) Tryz.func99 Tryz.ntmps99 ?_
 unfold Fu
 by_cases he:(cZ e ⟨zs,ad,k,F8,F8⟩ fr ops n).1=0
 ·have he1:((cZ e ⟨zs,ad,k,F8,F8⟩ fr ops n).1 !=0)=false:=by rw[he];rfl
  rw[if_pos he]
  clear he
  refine aX ?_;(try exact⟨⟩)
 ·have he1:((cZ e ⟨zs,ad,k,F8,F8⟩ fr ops n).1 !=0)=true:=by simpa using he
  rw[if_neg he]
  clear he
  refine aX ?_;(try exact⟨⟩)
  rfl
end
section
open Pm
attribute [local irreducible] aU aZ bR cO bG dF dH jU jC dA cK rQ bn
def AY(zs:List Int):Nat→Int
 |0=> -1
 |d+1=>if dF zs (7-d)=true then AY zs d else((7-d:Nat):Int)
theorem Dr(zs:List Int):∀d≤8,AY zs d=(match(List.range' (8-d) d).find? (fun i=>!dF zs i)with|some i=>(i:Int)|none=> -1)
 |0,_=>rfl
 |d+1,h=>by
  have ih:=Dr zs d (by omega)
  have e:List.range' (8- (d+1)) (d+1)=(7-d)::List.range' (8-d) d:=by
   rw[List.range'_succ,show 8- (d+1)=7-d by omega,show 7-d+1=8-d by omega]
  rw[e,List.find?_cons,AY]
  cases hm:dF zs (7-d)with
  |true=>simp[ih]
  |false=>simp
theorem freeD_8(zs:List Int):AY zs 8=if jC zs=true then(-1:Int)else((dH zs:Nat):Int):=by
 rw[Dr zs 8 (by omega)]
 unfold dH
 rw[show List.range' (8-8) 8=List.range 8 from rfl]
 cases hf:(List.range 8).find? (fun i=>!dF zs i)with
 |none=>
  rw[List.find?_eq_none]at hf
  have:jC zs=true:=(rC zs).2 fun i hi=>by
   have:=hf i (by simpa using hi)
   simpa using this
  rw[this];rfl
 |some i=>
  have h1:=List.find?_some hf
  have h2:=List.mem_of_find?_eq_some hf
  have:jC zs=false:=by
   cases h:jC zs with
   |false=>rfl
   |true=>
    have:=(rC zs).1 h i (by simpa using h2)
    simp[this]at h1
  rw[this];rfl
theorem VL{zs:List Int}{s:Int}(h:∀i<8,zs.getD (i*2) 0≠s):jU zs s=false:=ah0 h
theorem oJ{zs:List Int}(h:jC zs=false):dH zs<8∧dF zs (dH zs)=false:=by
 unfold dH
 cases hf:(List.range 8).find? (fun i=>!dF zs i)with
 |none=>
  rw[List.find?_eq_none]at hf
  have:jC zs=true:=(rC zs).2 fun i hi=>by
   have:=hf i (by simpa using hi)
   simpa using this
  rw[this]at h;cases h
 |some i=>
  have h1:=List.find?_some hf
  have h2:=List.mem_of_find?_eq_some hf
  exact⟨by simpa using h2,by simpa using h1⟩
set_option maxHeartbeats 4000000 in
theorem Sc(e:Int)(zs:List Int)(ad:List Bool)(k:Int)(ch:List UInt8)(xs:List Int):
  gq 136 0 (.var (bS e zs ad k ch)) [.agg [.ints .i64 2 xs]] (.t [.v (.int .i64 (if cK zs xs=0 then((dH zs:Nat):Int)else 0)),.v (.int .i64 (cK zs xs))])
   (.var (if cK zs xs=0 then bS e (dA zs xs (dH zs:Nat)) (ad.set (dH zs) false) k ch else bS e zs ad k ch)):=by
 refine uI fun _ hl=>?_
 obtain⟨x,y,rfl⟩:=two hl.1.1
 clear hl
 refine mY (E:=Rk) Tryz.func136 Tryz.ntmps136 ?_
 by_cases hxy:(cO x&&cO y)=true
 ·have he0:cK zs [x,y]=if jU zs x=true then 7 else if jC zs=true then 12 else 0:=by
   unfold cK;simp[hxy]
  obtain⟨hx,hy⟩:cO x=true∧cO y=true:=by simpa using hxy
  refine aX ?_;(try exact⟨⟩)
  refine aM.mk (gG [0,3,6,7] 2 (fun s=>∃d:Nat,d≤8∧(∀i,8-d≤i→i<8→zs.getD (i*2) 0≠x)∧s=⟨[.ptr 0 0,.ah,.ah,.ptr 1 0,.ah,.ah,.d (.v (.int .i64 (AY zs d))),.d (.v (.int .i64 (7- (d:Int)))),.ah,.ah,.ah,.ah,.ah,.ah,.ah,.ah,.ah,.ah,.ah,.ah,.ah,.ah,.ah,.ah,.ah,.ah,.ah,.ah,.ah,.ah,.ah,.ah,.ah,.ah,.ah,.ah,.ah,.ah,.ah,.ah,.ah,.ah,.ah,.ah,.ah,.ah,.ah,.ah,.ah,.ah,.ah,.ah,.ah,.ah,.ah,.ah,.ah,.ah],[some (.var (bS e zs ad k ch)),some (.var [.ints .i64 2 [x,y]])]⟩) (fun s=>match s.sl 7 with| .d (.v (.int _ z))=>(z+1).toNat|_=>0) rfl ⟨0,by omega,by intro i h1 h2;omega,rfl⟩ ?_)
  rintro s ⟨d,hd,hall,rfl⟩
  have hw:IntKind.i64.wrap (7- (d:Int) -1)=7- ((d+1:Nat):Int):=by rw[dR (by omega) (by omega)];omega
  by_cases hd8:d<8
  ·obtain⟨i,hi⟩:∃i:Nat,i=7-d:=⟨_,rfl⟩
   have hi2:7- (d:Int)=(i:Int):=by omega
   have hi8:i<8:=by omega
   have hm:bn zs (i:Int)=dF zs i:=by unfold bn;simp[aG];omega
   rw[hi2]at hw ⊢
   by_cases hs:zs.getD (i*2) 0=x
   ·have hu:jU zs x=true:=ah2 hi8 hs
    have hs1:(zs.getD (i*2) 0==x)=true:=by rw[hs];simp
    have he1:cK zs [x,y]=7:=by rw[he0,if_pos hu]
    rw[he1,if_neg (by decide),if_neg (by decide)]
    clear he0 he1 hu hs hall hm hi hi2
    refine aX ?_;(try exact⟨⟩)
   ·have hs1:(zs.getD (i*2) 0==x)=false:=by simpa using hs
    have hnext:∀q,8- (d+1)≤q→q<8→zs.getD (q*2) 0≠x:=fun q h1 h2=>by
     by_cases e:q=i
     ·rw[e];exact hs
     ·exact hall q (by omega) h2
    have hf:AY zs (d+1)=if dF zs i=true then AY zs d else(i:Int):=by rw[AY,←hi]
    have HI:=Lib.hid hi2
    clear he0 hs hall hi hi2
    cases hmm:dF zs i with
    |true=>
     rw[hmm]at hm hf
     rw[if_pos rfl]at hf
     clear hmm
     refine aX ?_;(try exact⟨⟩)
     refine⟨⟨d+1,by omega,hnext,by rw[hf,←hw];rfl⟩,?_⟩
     show(IntKind.i64.wrap ((i:Int) -1)+1).toNat<((i:Int)+1).toNat
     have:=HI.out
     rw[hw];omega
    |false=>
     rw[hmm]at hm hf
     rw[if_neg (by simp)]at hf
     clear hmm
     refine aX ?_;(try exact⟨⟩)
     refine⟨⟨d+1,by omega,hnext,by rw[hf,←hw];rfl⟩,?_⟩
     show(IntKind.i64.wrap ((i:Int) -1)+1).toNat<((i:Int)+1).toNat
     have:=HI.out
     rw[hw];omega
  ·obtain rfl:d=8:=by omega
   have hu:jU zs x=false:=VL fun i hi=>hall i (by omega) hi
   rw[hu,if_neg (by simp)]at he0
   rw[freeD_8]
   clear hall hu hw
   cases hf:jC zs with
   |true=>
    have he1:cK zs [x,y]=12:=by rw[he0];simp[hf]
    rw[he1,if_pos rfl,if_neg (by decide),if_neg (by decide)]
    clear he0 he1
    refine aX ?_;(try exact⟨⟩)
   |false=>
    have he1:cK zs [x,y]=0:=by rw[he0];simp[hf]
    obtain⟨Fp,_⟩:=oJ hf
    rw[he1,if_neg (by simp),if_pos rfl,if_pos rfl]
    clear he0 he1
    generalize dH zs=f at*
    refine aX ?_;(try exact⟨⟩)
 ·have he0:cK zs [x,y]=7:=by unfold cK;simp[hxy]
  rw[he0,if_neg (by decide),if_neg (by decide)]
  clear he0
  cases hx:cO x with
  |false=>refine aX ?_;(try exact⟨⟩)
  |true=>
   have hy:cO y=false:=by rw[hx]at hxy;simpa using hxy
   refine aX ?_;(try exact⟨⟩)
end
end Go.Proofs.YtjhgelfnmhdihaaGreatDoor
