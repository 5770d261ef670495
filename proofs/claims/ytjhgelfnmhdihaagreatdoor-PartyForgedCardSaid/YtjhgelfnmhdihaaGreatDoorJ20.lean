/-
  Views: operations with what is not their own.
-/
import Derived.Test.YtjhgelfnmhdihaaGreatDoorJ19
namespace Go.Proofs.YtjhgelfnmhdihaaGreatDoor
set_option linter.unusedVariables false
set_option linter.unusedSimpArgs false
set_option maxRecDepth 100000
open Go.RowKit
section
open Pm
attribute [local irreducible] aU aZ bR
def ownB(o:List Int):Bool:=
 if o.getD 0 0=1 then decide (o.getD 1 0=0)&&decide (o.getD 2 0=0)
 else if o.getD 0 0=2∨o.getD 0 0=3∨o.getD 0 0=4 then decide (o.getD 2 0=0)&&(decide (o.getD 3 0=0)&&decide (o.getD 4 0=0))
 else if o.getD 0 0=5 then decide (o.getD 1 0=0)&&(decide (o.getD 3 0=0)&&decide (o.getD 4 0=0))
 else false
theorem five{o:List Int}(h:o.length=5):∃a b c d e,o=[a,b,c,d,e]:=by
 rcases o with _|⟨a,_|⟨b,_|⟨c,_|⟨d,_|⟨e,_|⟨f,l⟩⟩⟩⟩⟩⟩<;>simp at h
 exact⟨a,b,c,d,e,rfl⟩
def av0(neg:Bool):List A→(bP→Prop)→Prop
 |[.agg [.ints .i64 5 o]],K=>K (.d (.v (.bool (if neg=true then !ownB o else ownB o))))
 |_,_=>False
set_option maxHeartbeats 8000000 in
theorem Y9(o:List Int):aP 203 [.agg [.ints .i64 5 o]] (.d (.v (.bool (!ownB o)))):=by
 refine iq fun hl=>?_
 obtain⟨a,b,c,d,e,rfl⟩:=five hl.1.1
 clear hl
 refine dK (E:=uF) Tryz.func203 Tryz.ntmps203 ?_
 by_cases h1:a=1
 ·subst h1
  refine ago ?_;(try exact⟨⟩)
  simp[bf,ownB]
 have n1:(a==1)=false:=by simpa using h1
 by_cases h2:a=2
 ·subst h2
  clear h1
  refine ago ?_;(try exact⟨⟩)
  simp[bf,ownB]
 have n2:(a==2)=false:=by simpa using h2
 by_cases h3:a=3
 ·subst h3
  clear h1 h2
  refine ago ?_;(try exact⟨⟩)
  simp[bf,ownB]
 have n3:(a==3)=false:=by simpa using h3
 by_cases h4:a=4
 ·subst h4
  clear h1 h2 h3
  refine ago ?_;(try exact⟨⟩)
  simp[bf,ownB]
 have n4:(a==4)=false:=by simpa using h4
 by_cases h5:a=5
 ·subst h5
  clear h1 h2 h3 h4
  refine ago ?_;(try exact⟨⟩)
  simp[bf,ownB]
 have n5:(a==5)=false:=by simpa using h5
 have hr:ownB [a,b,c,d,e]=false:=by simp[ownB,h1,h2,h3,h4,h5]
 rw[hr]
 clear h1 h2 h3 h4 h5 hr
 refine ago ?_;(try exact⟨⟩)
 rfl
set_option maxHeartbeats 8000000 in
theorem aS1(o:List Int):aP 135 [.agg [.ints .i64 5 o]] (.d (.v (.bool (ownB o)))):=by
 refine iq fun hl=>?_
 obtain⟨a,b,c,d,e,rfl⟩:=five hl.1.1
 clear hl
 refine dK (E:=uF) Tryz.func135 Tryz.ntmps135 ?_
 have go:∀x y z:Bool,(x&&(y&&z))=(x&&(y&&z)):=fun _ _ _=>rfl
 clear go
 by_cases h1:a=1
 ·subst h1
  by_cases hb:b=0
  ·subst hb
   refine ago ?_;(try exact⟨⟩)
   simp[ownB]
   rfl
  ·refine ago ?_;(try exact⟨⟩)
   simp[ownB,hb]
 have n1:(a==1)=false:=by simpa using h1
 by_cases h2:a=2
 ·subst h2
  clear h1
  by_cases hb:c=0
  ·subst hb
   refine ago ?_;(try exact⟨⟩)
   simp[bf,ownB]
  ·refine ago ?_;(try exact⟨⟩)
   simp[ownB,hb]
 have n2:(a==2)=false:=by simpa using h2
 by_cases h3:a=3
 ·subst h3
  clear h1 h2
  by_cases hb:c=0
  ·subst hb
   refine ago ?_;(try exact⟨⟩)
   simp[bf,ownB]
  ·refine ago ?_;(try exact⟨⟩)
   simp[ownB,hb]
 have n3:(a==3)=false:=by simpa using h3
 by_cases h4:a=4
 ·subst h4
  clear h1 h2 h3
  by_cases hb:c=0
  ·subst hb
   refine ago ?_;(try exact⟨⟩)
   simp[bf,ownB]
  ·refine ago ?_;(try exact⟨⟩)
   simp[ownB,hb]
 have n4:(a==4)=false:=by simpa using h4
 by_cases h5:a=5
 ·subst h5
  clear h1 h2 h3 h4
  by_cases hb:b=0
  ·subst hb
   refine ago ?_;(try exact⟨⟩)
   simp[bf,ownB]
  ·refine ago ?_;(try exact⟨⟩)
   simp[ownB,hb]
 have n5:(a==5)=false:=by simpa using h5
 have hr:ownB [a,b,c,d,e]=false:=by simp[ownB,h1,h2,h3,h4,h5]
 rw[hr]
 clear h1 h2 h3 h4 h5 hr
 refine ago ?_;(try exact⟨⟩)
theorem RZ{f:FuncId}(neg:Bool)(hx:∀o,aP f [.agg [.ints .i64 5 o]] (.d (.v (.bool (if neg=true then !ownB o else ownB o))))):∀args K,av0 neg args K→∃r,aP f args r∧K r:=by
 intro args K h
 unfold av0 at h
 split at h
 ·exact⟨_,hx _,h⟩
 ·exact h.elim
noncomputable def bk0:ay:=bj9.add 203 (av0 true) (RZ true Y9) ⟨_,Tryz.func203,by kernel_rfl,by kernel_rfl⟩
noncomputable def aD5:ay:=bk0.add 135 (av0 false) (RZ false aS1) ⟨_,Tryz.func135,by kernel_rfl,by kernel_rfl⟩
def opAt(zs:List Int)(i:Nat):List Int:=(zs.drop (i*5)).take 5
def sw(p:Nat→Bool)(n:Nat):Int:=match(List.range n).find? p with|some i=>(i:Int)|none=> -1
theorem IL{p:Nat→Bool}{n k:Nat}(hk:k<n)(h:p k=true)(hn:∀j<k,p j=false):sw p n=(k:Int):=by
 have:(List.range n).find? p=some k:=by
  rw[List.find?_range_eq_some]
  exact⟨h,by simpa using hk,fun j hj=>by simp[hn j hj]⟩
 unfold sw;rw[this]
theorem vL{p:Nat→Bool}{n:Nat}(hn:∀j<n,p j=false):sw p n= -1:=by
 have:(List.range n).find? p=none:=by
  rw[List.find?_eq_none]
  intro j hj
  simp[hn j (by simpa using hj)]
 unfold sw;rw[this]
def iV(zs:List Int)(n:Nat):Bool:=(List.range n).any fun i=>!ownB (opAt zs i)
theorem Y4(zs:List Int)(n:Nat):decide (sw (fun i=>!ownB (opAt zs i)) n≥0)=iV zs n:=by
 cases h:iV zs n with
 |true=>
  unfold iV at h
  rw[List.any_eq_true]at h
  obtain⟨i,hi,hp⟩:=h
  unfold sw
  cases hf:(List.range n).find? fun i=>!ownB (opAt zs i)with
  |some j=>simp
  |none=>
   rw[List.find?_eq_none]at hf
   exact absurd hp (hf i hi)
 |false=>
  unfold iV at h
  rw[List.any_eq_false]at h
  have:=vL (p:=fun i=>!ownB (opAt zs i)) (n:=n) fun j hj=>by
   have:=h j (by simpa using hj)
   simpa using this
  rw[this];rfl
set_option maxHeartbeats 8000000 in
theorem Y0(zs:List Int)(n:Nat)(hl:zs.length=n*5)(hn:n≤1000000):aP 214 [.row n [.ints .i64 (n*5) zs],.v (.func (.func 203) #[] #[])] (.d (.v (.int .i64 (sw (fun i=>!ownB (opAt zs i)) n)))):=by
 refine dK (E:=aD5) Tryz.func214 Tryz.ntmps214 ?_
 refine aX ?_;(try exact⟨⟩)
 refine aM.mk (gG [0,1,7,8] 1 (fun s=>∃k:Nat,k≤n∧(∀j<k,(!ownB (opAt zs j))=false)∧s=⟨[.d (.row n [.ints .i64 (n*5) zs]),.d (.v (.func (.func 203) #[] #[])),.ah,.ah,.ah,.ah,.ah,.d (.v (.int .i64 n)),.d (.v (.int .i64 (k:Nat))),.ah,.ah,.ah,.ah,.ah,.ah,.ah,.ah,.ah,.ah],[]⟩) (fun s=>n-lX s 8) rfl ⟨0,by omega,by intro j hj;omega,rfl⟩ ?_)
 rintro s ⟨k,hk,hj,rfl⟩
 have hw:IntKind.i64.wrap ((k:Int)+1)=((k+1:Nat):Int):=by rw[dR (by omega) (by omega)];omega
 by_cases hk2:k<n
 ·cases he:ownB ((zs.drop (k*5)).take 5)with
  |false=>
   have h1:=IL (p:=fun i=>!ownB (opAt zs i)) hk2 (by simp[opAt,he]) hj
   rw[h1]
   clear hj h1
   refine aX ?_;(try exact⟨⟩)
  |true=>
   have hj2:∀j<k+1,(!ownB (opAt zs j))=false:=fun j hj2=>by
    rcases Nat.lt_or_eq_of_le (Nat.le_of_lt_succ hj2)with h|rfl
    ·exact hj j h
    ·simp[opAt,he]
   clear hj
   refine aX ?_;(try exact⟨⟩)
   refine⟨⟨k+1,by omega,hj2,by rw[←hw];rfl⟩,?_⟩
   show n- (IntKind.i64.wrap ((k:Int)+1)).toNat<n- (k:Int).toNat
   rw[hw];omega
 ·obtain rfl:k=n:=by omega
  have h1:=vL (p:=fun i=>!ownB (opAt zs i)) (n:=k) hj
  rw[h1]
  clear hj h1
  refine aX ?_;(try exact⟨⟩)
def OJ:List A→(bP→Prop)→Prop
 |[.row n [.ints .i64 m zs],.v (.func (.func g) a b)],K=>m=n*5∧n≤1000000∧g=203∧a=#[]∧b=#[]∧K (.d (.v (.int .i64 (sw (fun i=>!ownB (opAt zs i)) n))))
 |_,_=>False
theorem Ur:∀args K,OJ args K→∃r,aP 214 args r∧K r:=by
 intro args K h
 unfold OJ at h
 split at h
 ·obtain⟨rfl,h1,rfl,rfl,rfl,h⟩:=h
  exact⟨_,iq fun hl=>Y0 _ _ hl.1.1 h1,h⟩
 ·exact h.elim
noncomputable def aD6:ay:=aD5.add 214 OJ Ur ⟨_,Tryz.func214,by kernel_rfl,by kernel_rfl⟩
def OG:List A→(bP→Prop)→Prop
 |[.row n [.ints .i64 m zs],.v (.func (.func g) a b)],K=>m=n*5∧n≤1000000∧g=203∧a=#[]∧b=#[]∧K (.d (.v (.bool (iV zs n))))
 |_,_=>False
theorem YN(zs:List Int)(n:Nat)(hn:n≤1000000):aP 202 [.row n [.ints .i64 (n*5) zs],.v (.func (.func 203) #[] #[])] (.d (.v (.bool (iV zs n)))):=by
 refine dK (E:=aD6) Tryz.func202 Tryz.ntmps202 ?_
 refine ago ?_;(try exact⟨⟩)
 rw[Y4]
theorem Um:∀args K,OG args K→∃r,aP 202 args r∧K r:=by
 intro args K h
 unfold OG at h
 split at h
 ·obtain⟨rfl,h1,rfl,rfl,rfl,h⟩:=h
  exact⟨_,YN _ _ h1,h⟩
 ·exact h.elim
noncomputable def F4:ay:=aD6.add 202 OG Um ⟨_,Tryz.func202,by kernel_rfl,by kernel_rfl⟩
end
section
open Pm
attribute [local irreducible] aU aZ bR cO
abbrev je(e:Int)(zs:List Int)(ad:List Bool)(k:Int)(ch:List UInt8)(fr:Int)(ng gn:List Bool):List Seg:=[.ints .i64 1 [e],.ints .i64 31 zs,.bools 8 ad,.ints .i64 1 [k],.bytes 32 ch,.ints .i64 1 [fr],.bools 8 ng,.bools 8 gn]
def jU(zs:List Int)(s:Int):Bool:=(List.range 8).any fun i=>decide (zs.getD (i*2) 0=s)
def dH(zs:List Int):Nat:=((List.range 8).find? fun i=>!dF zs i).getD 8
def jC(zs:List Int):Bool:=(List.range 8).all fun i=>dF zs i
def cK(zs xs:List Int):Int:=if(cO (xs.getD 0 0)&&cO (xs.getD 1 0))=true then(if jU zs (xs.getD 0 0)=true then 7 else if jC zs=true then 12 else 0)else 7
theorem free_at{zs:List Int}{k:Nat}(hk:k<8)(h:dF zs k=false)(hn:∀j<k,dF zs j=true):dH zs=k:=by
 have:(List.range 8).find? (fun i=>!dF zs i)=some k:=by
  rw[List.find?_range_eq_some]
  exact⟨by simp[h],by simpa using hk,fun j hj=>by simp[hn j hj]⟩
 unfold dH;rw[this];rfl
theorem rC(zs:List Int):jC zs=true↔∀i<8,dF zs i=true:=by
 unfold jC
 rw[List.all_eq_true]
 simp
theorem xE(zs:List Int):∀k,(bG zs k).length=k↔∀i<k,dF zs i=true
 |0=>by simp[bG]
 |k+1=>by
  have L:=nC zs k
  have ih:=xE zs k
  rw[bG,List.length_append]
  by_cases h:dF zs k=true
  ·rw[if_pos h]
   constructor
   ·intro h2 i hi
    by_cases e:i=k
    ·rw[e];exact h
    ·exact ih.1 (by simpa using h2) i (by omega)
   ·intro h2
    have:=ih.2 fun i hi=>h2 i (by omega)
    simp[this]
  ·rw[if_neg h]
   constructor
   ·intro h2;simp at h2;omega
   ·intro h2;exact absurd (h2 k (by omega)) h
theorem ah2{zs:List Int}{s:Int}{i:Nat}(hi:i<8)(h:zs.getD (i*2) 0=s):jU zs s=true:=by
 unfold jU
 rw[List.any_eq_true]
 exact⟨i,by simpa using hi,by simpa using h⟩
theorem ah0{zs:List Int}{s:Int}(h:∀i<8,zs.getD (i*2) 0≠s):jU zs s=false:=by
 unfold jU
 rw[List.any_eq_false]
 intro i hi
 simpa using h i (by simpa using hi)
theorem lQ(zs:List Int){i:Nat}(hi:i<8):(bq zs i).getD 0 0=zs.getD (i*2) 0:=by
 rw[pJ zs hi]
 simp[List.getD_eq_getElem?_getD,List.getElem?_take]
theorem ah1{zs:List Int}{s:Int}(hs:s≠0)(h:∀j<(bG zs 8).length,zs.getD (((bG zs 8).getD j 0).toNat*2) 0≠s):jU zs s=false:=by
 refine ah0 fun i hi=>?_
 by_cases hm:dF zs i=true
 ·have hin:(i:Int)∈bG zs 8:=(vQ zs 8 i).2 ⟨by omega,by omega,by simpa using hm⟩
  obtain⟨j,hj,e⟩:=List.getElem_of_mem hin
  have:=h j hj
  rw[List.getD_eq_getElem?_getD (l:=bG zs 8),List.getElem?_eq_getElem hj,Option.getD_some,e]at this
  simpa using this
 ·have h0:bq zs i=[0,0]:=by
   have:dF zs i=false:=by simpa using hm
   simpa[dF]using this
  rw[←lQ zs hi,h0]
  exact fun e=>hs e.symm
theorem xC{y:Int}(h:cO y=true):y≠0:=by rintro rfl;simp[cO]at h
theorem two{o:List Int}(h:o.length=2):∃a b,o=[a,b]:=by
 rcases o with _|⟨a,_|⟨b,_|⟨c,l⟩⟩⟩<;>simp at h
 exact⟨a,b,rfl⟩
attribute [local irreducible] bG dF dH jU jC dA cK rQ bn
def WR:Nat→Bk→List A→(bP→Bk→Prop)→Prop
 |0,.var [.ints .i64 1 [e],.ints .i64 31 zs,.bools 8 ad,.ints .i64 1 [k],.bytes 32 ch,.ints .i64 1 [fr],.bools 8 ng,.bools 8 gn],[.agg [.ints .i64 2 xs]],K=>
  K (.d (.v (.int .i64 (cK zs xs)))) (.var (if cK zs xs=0 then je e (dA zs xs (dH zs:Nat)) ad k ch fr (ng.set (dH zs) true) gn else je e zs ad k ch fr ng gn))
 |_,_,_,_=>False
set_option maxHeartbeats 400000 in
theorem aJ1(e:Int)(zs:List Int)(ad:List Bool)(k:Int)(ch:List UInt8)(fr:Int)(ng gn:List Bool)(xs:List Int):
  gq 215 0 (.var (je e zs ad k ch fr ng gn)) [.agg [.ints .i64 2 xs]] (.d (.v (.int .i64 (cK zs xs)))) (.var (if cK zs xs=0 then je e (dA zs xs (dH zs:Nat)) ad k ch fr (ng.set (dH zs) true) gn else je e zs ad k ch fr ng gn)):=by
 refine uI fun _ hl=>?_
 obtain⟨x,y,rfl⟩:=two hl.1.1
 clear hl
 refine mY (E:=F4) Tryz.func215 Tryz.ntmps215 ?_
 by_cases hxy:(cO x&&cO y)=true
 ·have he0:cK zs [x,y]=if jU zs x=true then 7 else if jC zs=true then 12 else 0:=by
   unfold cK;simp[hxy]
  obtain⟨hx,hy⟩:cO x=true∧cO y=true:=by simpa using hxy
  have hx0:x≠0:=xC hx
  have L:=nC zs 8
  refine aX ?_;(try exact⟨⟩)
  refine aM.mk (gG [0,3,5,25,26,27] 3 (fun s=>∃j:Nat,j≤(bG zs 8).length∧(∀i<j,zs.getD (((bG zs 8).getD i 0).toNat*2) 0≠x)∧s=⟨[.ptr 0 0,.ah,.ah,.ptr 1 0,.ah,.own 2 (bG zs 8).length,.ah,.ah,.ah,.ah,.ah,.ah,.ah,.ah,.ah,.ah,.ah,.ah,.ah,.ah,.ah,.ah,.ah,.ah,.ah,.own 2 (bG zs 8).length,.d (.v (.int .i64 (bG zs 8).length)),.d (.v (.int .i64 (j:Nat))),.ah,.ah,.ah,.ah,.ah,.ah,.ah,.ah,.ah,.ah,.ah,.ah,.ah,.ah,.ah,.ah,.ah,.ah,.ah,.ah,.ah,.ah,.ah,.ah,.ah,.ah,.ah,.ah,.ah,.ah,.ah,.ah,.ah,.ah,.ah,.ah,.ah,.ah,.ah,.ah,.ah],[some (.var (je e zs ad k ch fr ng gn)),some (.var [.ints .i64 2 [x,y]]),some (.sl 3 1 (bG zs 8).length [.ints .i64 (bG zs 8).length (bG zs 8)])]⟩) (fun s=>(bG zs 8).length-lX s 27) rfl ⟨0,by omega,by intro j hj;omega,rfl⟩ ?_)
  rintro s ⟨j,hj,hall,rfl⟩
  have hw:IntKind.i64.wrap ((j:Int)+1)=((j+1:Nat):Int):=by rw[dR (by omega) (by omega)];omega
  by_cases hj2:j<(bG zs 8).length
  ·have hin:(bG zs 8).getD j 0∈bG zs 8:=by rw[List.getD_eq_getElem?_getD,List.getElem?_eq_getElem hj2];simp
   obtain⟨m0,m1,_⟩:=(vQ zs 8 _).1 hin
   clear hin
   by_cases hs:zs.getD (((bG zs 8).getD j 0).toNat*2) 0=x
   ·have hu:jU zs x=true:=ah2 (i:=((bG zs 8).getD j 0).toNat) (by omega) hs
    have hs1:(zs.getD (((bG zs 8).getD j 0).toNat*2) 0==x)=true:=by rw[hs];simp
    rw[he0,if_pos hu,if_neg (by decide)]
    clear he0 hu hs hall hx0
    refine aX ?_;(try exact⟨⟩)
   ·have hs1:(zs.getD (((bG zs 8).getD j 0).toNat*2) 0==x)=false:=by simpa using hs
    have hnext:∀i<j+1,zs.getD (((bG zs 8).getD i 0).toNat*2) 0≠x:=fun i hi=>by
     rcases Nat.lt_or_eq_of_le (Nat.le_of_lt_succ hi)with h|rfl
     ·exact hall i h
     ·exact hs
    clear he0 hs hall hx0
    refine aX ?_;(try exact⟨⟩)
    refine⟨⟨j+1,by omega,hnext,by rw[←hw];rfl⟩,?_⟩
    show(bG zs 8).length- (IntKind.i64.wrap ((j:Int)+1)).toNat<(bG zs 8).length- (j:Int).toNat
    rw[hw];omega
  ·have hu:jU zs x=false:=ah1 hx0 fun i hi=>hall i (by omega)
   rw[hu,if_neg (by simp)]at he0
   clear hall hu hx0 hw
   cases hf:jC zs with
   |true=>
    have h8:(bG zs 8).length=8:=(xE zs 8).2 ((rC zs).1 hf)
    have h81:(((bG zs 8).length:Int)==8)=true:=by rw[h8];rfl
    rw[he0,if_pos hf,if_neg (by decide)]
    clear he0 h8 hf
    refine aX ?_;(try exact⟨⟩)
   |false=>
    have h8:(bG zs 8).length≠8:=fun h=>by
     have:=(rC zs).2 ((xE zs 8).1 h)
     rw[hf]at this;cases this
    have h81:(((bG zs 8).length:Int)==8)=false:=by simp;omega
    have he1:cK zs [x,y]=0:=by rw[he0];simp[hf]
    rw[he1,if_pos rfl]
    clear he1
    have hlen:(bG zs 8).length≤1000000:=by omega
    clear he0
    refine aX ?_;(try exact⟨⟩)
    refine aM.mk (gG [0,3,5,8] 3 (fun s=>∃i:Nat,i≤8∧(∀q<i,dF zs q=true)∧s=⟨[.ptr 0 0,.ah,.ah,.ptr 1 0,.ah,.own 2 (bG zs 8).length,.ah,.ah,.d (.v (.int .i64 (i:Nat))),.ah,.ah,.ah,.ah,.ah,.ah,.ah,.ah,.ah,.ah,.ah,.ah,.ah,.ah,.ah,.ah,.ah,.ah,.ah,.ah,.ah,.ah,.ah,.ah,.ah,.ah,.ah,.ah,.ah,.ah,.ah,.ah,.ah,.ah,.ah,.ah,.ah,.ah,.ah,.ah,.ah,.ah,.ah,.ah,.ah,.ah,.ah,.ah,.ah,.ah,.ah,.ah,.ah,.ah,.ah,.ah,.ah,.ah,.ah,.ah],[some (.var (je e zs ad k ch fr ng gn)),some (.var [.ints .i64 2 [x,y]]),some (.sl 3 1 (bG zs 8).length [.ints .i64 (bG zs 8).length (bG zs 8)])]⟩) (fun s=>8-lX s 8) rfl ⟨0,by omega,by intro j hj;omega,rfl⟩ ?_)
    clear hj2 hj h81
    rintro s ⟨i,hi,hall,rfl⟩
    have hw:IntKind.i64.wrap ((i:Int)+1)=((i+1:Nat):Int):=by rw[dR (by omega) (by omega)];omega
    have hi8:i<8:=by
     apply Decidable.byContradiction
     intro h
     have:jC zs=true:=(rC zs).2 fun q hq=>hall q (by omega)
     rw[hf]at this;cases this
    have hm0:decide ((i:Int)∈bG zs 8)=dF zs i:=by rw[Cj];simp[bn,aG];omega
    cases hm:dF zs i with
    |true=>
     rw[hm]at hm0
     have hnext:∀q<i+1,dF zs q=true:=fun q hq=>by
      rcases Nat.lt_or_eq_of_le (Nat.le_of_lt_succ hq)with h|rfl
      ·exact hall q h
      ·exact hm
     clear hall hm hf h8
     refine aX ?_;(try exact⟨⟩)
     refine⟨⟨i+1,by omega,hnext,by rw[←hw];rfl⟩,?_⟩
     show 8- (IntKind.i64.wrap ((i:Int)+1)).toNat<8- (i:Int).toNat
     rw[hw];omega
    |false=>
     rw[hm]at hm0
     have hfree:dH zs=i:=free_at hi8 hm hall
     rw[hfree]
     clear hall hm hf h8 hfree hw
     refine aX ?_;(try exact⟨⟩)
 ·have he0:cK zs [x,y]=7:=by unfold cK;simp[hxy]
  rw[he0,if_neg (by decide)]
  clear he0
  cases hx:cO x with
  |false=>
   refine aX ?_;(try exact⟨⟩)
  |true=>
   have hy:cO y=false:=by rw[hx]at hxy;simpa using hxy
   refine aX ?_;(try exact⟨⟩)
end
section
open Pm
attribute [local irreducible] aU aZ bR cO bG dF dH jU jC dA cK rQ bn
theorem WS:∀pos x args K,WR pos x args K→∃r x',gq 215 pos x args r x'∧K r x':=by
 intro pos x args K h
 unfold WR at h
 split at h
 ·exact⟨_,_,aJ1 _ _ _ _ _ _ _ _ _,h⟩
 ·exact h.elim
def fC(zs:List Int)(fr who:Int):Int:=if who=fr∨bn zs who=false then 7 else 0
def iO(zs:List Int)(ad:List Bool)(who:Int):Int:=if bn zs who=false∨ad.getD who.toNat false=true then 7 else 0
def mg(zs:List Int)(ad:List Bool)(who:Int):Int:=if bn zs who=false∨ad.getD who.toNat false=false then 7 else 0
def iN(k:Int):Int:=if k<1∨k>8 then 7 else 0
theorem fA{zs:List Int}{i:Int}(h:bn zs i=true):0≤i∧i<8:=by
 unfold bn at h
 simp[aG]at h
 omega
set_option maxHeartbeats 4000000 in
theorem Zn(e:Int)(zs:List Int)(ad:List Bool)(k:Int)(ch:List UInt8)(fr:Int)(ng gn:List Bool)(y:Int):
  gq 219 0 (.var (je e zs ad k ch fr ng gn)) [.v (.int .i64 y)] (.d (.v (.int .i64 (iN y)))) (.var (if iN y=0 then je e zs ad y ch fr ng gn else je e zs ad k ch fr ng gn)):=by
 refine mY (E:=F4) Tryz.func219 Tryz.ntmps219 ?_
 by_cases h0:y<1
 ·have he:iN y=7:=by simp[iN,h0]
  rw[he,if_neg (by decide)]
  clear he
  refine aX ?_;(try exact⟨⟩)
 ·by_cases h1:y>8
  ·have he:iN y=7:=by simp[iN,h1]
   rw[he,if_neg (by decide)]
   clear he
   refine aX ?_;(try exact⟨⟩)
  ·have he:iN y=0:=by simp[iN,h0,h1]
   rw[he,if_pos rfl]
   clear he
   refine aX ?_;(try exact⟨⟩)
set_option maxHeartbeats 4000000 in
theorem PE(e:Int)(zs:List Int)(ad:List Bool)(k:Int)(ch:List UInt8)(fr:Int)(ng gn:List Bool)(y:Int):
  gq 217 0 (.var (je e zs ad k ch fr ng gn)) [.v (.int .i64 y)] (.d (.v (.int .i64 (iO zs ad y)))) (.var (if iO zs ad y=0 then je e zs (ad.set y.toNat true) k ch fr ng gn else je e zs ad k ch fr ng gn)):=by
 refine mY (E:=F4) Tryz.func217 Tryz.ntmps217 ?_
 cases hm:bn zs y with
 |false=>
  have he:iO zs ad y=7:=by simp[iO,hm]
  rw[he,if_neg (by decide)]
  clear he
  refine aX ?_;(try exact⟨⟩)
 |true=>
  obtain⟨h0,h1⟩:=fA hm
  obtain⟨n,rfl⟩:=Int.eq_ofNat_of_zero_le h0
  cases ha:ad.getD n false with
  |true=>
   have he:iO zs ad (n:Int)=7:=by unfold iO;rw[Int.toNat_natCast,ha];simp
   rw[he,if_neg (by decide)]
   clear he
   refine aX ?_;(try exact⟨⟩)
  |false=>
   have he:iO zs ad (n:Int)=0:=by unfold iO;rw[Int.toNat_natCast,ha,hm];simp
   rw[he,if_pos rfl,Int.toNat_natCast]
   clear he
   refine aX ?_;(try exact⟨⟩)
set_option maxHeartbeats 4000000 in
theorem TS(e:Int)(zs:List Int)(ad:List Bool)(k:Int)(ch:List UInt8)(fr:Int)(ng gn:List Bool)(y:Int):
  gq 218 0 (.var (je e zs ad k ch fr ng gn)) [.v (.int .i64 y)] (.d (.v (.int .i64 (mg zs ad y)))) (.var (if mg zs ad y=0 then je e zs (ad.set y.toNat false) k ch fr ng gn else je e zs ad k ch fr ng gn)):=by
 refine mY (E:=F4) Tryz.func218 Tryz.ntmps218 ?_
 cases hm:bn zs y with
 |false=>
  have he:mg zs ad y=7:=by simp[mg,hm]
  rw[he,if_neg (by decide)]
  clear he
  refine aX ?_;(try exact⟨⟩)
 |true=>
  obtain⟨h0,h1⟩:=fA hm
  obtain⟨n,rfl⟩:=Int.eq_ofNat_of_zero_le h0
  cases ha:ad.getD n false with
  |false=>
   have he:mg zs ad (n:Int)=7:=by unfold mg;rw[Int.toNat_natCast,ha];simp
   rw[he,if_neg (by decide)]
   clear he
   refine aX ?_;(try exact⟨⟩)
  |true=>
   have he:mg zs ad (n:Int)=0:=by unfold mg;rw[Int.toNat_natCast,ha,hm];simp
   rw[he,if_pos rfl,Int.toNat_natCast]
   clear he
   refine aX ?_;(try exact⟨⟩)
set_option maxHeartbeats 4000000 in
theorem Vh(e:Int)(zs:List Int)(ad:List Bool)(k:Int)(ch:List UInt8)(fr:Int)(ng gn:List Bool)(y:Int):
  gq 216 0 (.var (je e zs ad k ch fr ng gn)) [.v (.int .i64 y)] (.d (.v (.int .i64 (fC zs fr y)))) (.var (if fC zs fr y=0 then je e (dA zs [0,0] y) (ad.set y.toNat false) k ch fr (ng.set y.toNat false) (gn.set y.toNat true)else je e zs ad k ch fr ng gn)):=by
 refine mY (E:=F4) Tryz.func216 Tryz.ntmps216 ?_
 by_cases hf:y=fr
 ·subst hf
  have he:fC zs y y=7:=by simp[fC]
  have hy:(y==y)=true:=by simp
  rw[he,if_neg (by decide)]
  clear he
  refine aX ?_;(try exact⟨⟩)
 ·have hy:(y==fr)=false:=by simpa using hf
  cases hm:bn zs y with
  |false=>
   have he:fC zs fr y=7:=by simp[fC,hm]
   rw[he,if_neg (by decide)]
   clear he hf
   refine aX ?_;(try exact⟨⟩)
  |true=>
   obtain⟨h0,h1⟩:=fA hm
   obtain⟨n,rfl⟩:=Int.eq_ofNat_of_zero_le h0
   have he:fC zs fr (n:Int)=0:=by simp[fC,hm,hf]
   rw[he,if_pos rfl,Int.toNat_natCast]
   clear he hf
   refine aX ?_;(try exact⟨⟩)
end
end Go.Proofs.YtjhgelfnmhdihaaGreatDoor
