/-
  Views: operations with what is not their own.
-/
import Derived.Test.YtjdjelopkhjdnaaGreatDoorJ19
namespace Go.Proofs.YtjdjelopkhjdnaaGreatDoor
set_option linter.unusedVariables false
set_option linter.unusedSimpArgs false
set_option maxRecDepth 100000
open Go.RowKit
section
open Pm
attribute [local irreducible] aV aZ bQ
def ownB(o:List Int):Bool:=
 if o.getD 0 0=1 then decide (o.getD 1 0=0)&&decide (o.getD 2 0=0)
 else if o.getD 0 0=2∨o.getD 0 0=3∨o.getD 0 0=4 then decide (o.getD 2 0=0)&&(decide (o.getD 3 0=0)&&decide (o.getD 4 0=0))
 else if o.getD 0 0=5 then decide (o.getD 1 0=0)&&(decide (o.getD 3 0=0)&&decide (o.getD 4 0=0))
 else false
theorem five{o:List Int}(h:o.length=5):∃a b c d e,o=[a,b,c,d,e]:=by
 rcases o with _|⟨a,_|⟨b,_|⟨c,_|⟨d,_|⟨e,_|⟨f,l⟩⟩⟩⟩⟩⟩<;>simp at h
 exact⟨a,b,c,d,e,rfl⟩
def au1(neg:Bool):List A→(bP→Prop)→Prop
 |[.agg [.ints .i64 5 o]],K=>K (.d (.v (.bool (if neg=true then !ownB o else ownB o))))
 |_,_=>False
set_option maxHeartbeats 8000000 in
theorem Y3(o:List Int):aQ 188 [.agg [.ints .i64 5 o]] (.d (.v (.bool (!ownB o)))):=by
 refine gY fun hl=>?_
 obtain⟨a,b,c,d,e,rfl⟩:=five hl.1.1
 clear hl
 refine dF (E:=uq) Tryz.func188 Tryz.ntmps188 ?_
 by_cases h1:a=1
 ·subst h1
  refine ago ?_;(try exact⟨⟩)
  simp[bf,ownB]
 have n1:(a==1)=false:=by simpa using h1
 by_cases h2:a=2
 ·subst h2
  clear h1
  refine ago ?_;(try exact⟨⟩)
  simp[bf,ownB]
 have n2:(a==2)=false:=by simpa using h2
 by_cases h3:a=3
 ·subst h3
  clear h1 h2
  refine ago ?_;(try exact⟨⟩)
  simp[bf,ownB]
 have n3:(a==3)=false:=by simpa using h3
 by_cases h4:a=4
 ·subst h4
  clear h1 h2 h3
  refine ago ?_;(try exact⟨⟩)
  simp[bf,ownB]
 have n4:(a==4)=false:=by simpa using h4
 by_cases h5:a=5
 ·subst h5
  clear h1 h2 h3 h4
  refine ago ?_;(try exact⟨⟩)
  simp[bf,ownB]
 have n5:(a==5)=false:=by simpa using h5
 have hr:ownB [a,b,c,d,e]=false:=by simp[ownB,h1,h2,h3,h4,h5]
 rw[hr]
 clear h1 h2 h3 h4 h5 hr
 refine ago ?_;(try exact⟨⟩)
 rfl
set_option maxHeartbeats 8000000 in
theorem aQ6(o:List Int):aQ 98 [.agg [.ints .i64 5 o]] (.d (.v (.bool (ownB o)))):=by
 refine gY fun hl=>?_
 obtain⟨a,b,c,d,e,rfl⟩:=five hl.1.1
 clear hl
 refine dF (E:=uq) Tryz.func98 Tryz.ntmps98 ?_
 have go:∀x y z:Bool,(x&&(y&&z))=(x&&(y&&z)):=fun _ _ _=>rfl
 clear go
 by_cases h1:a=1
 ·subst h1
  by_cases hb:b=0
  ·subst hb
   refine ago ?_;(try exact⟨⟩)
   simp[ownB]
   rfl
  ·refine ago ?_;(try exact⟨⟩)
   simp[ownB,hb]
 have n1:(a==1)=false:=by simpa using h1
 by_cases h2:a=2
 ·subst h2
  clear h1
  by_cases hb:c=0
  ·subst hb
   refine ago ?_;(try exact⟨⟩)
   simp[bf,ownB]
  ·refine ago ?_;(try exact⟨⟩)
   simp[ownB,hb]
 have n2:(a==2)=false:=by simpa using h2
 by_cases h3:a=3
 ·subst h3
  clear h1 h2
  by_cases hb:c=0
  ·subst hb
   refine ago ?_;(try exact⟨⟩)
   simp[bf,ownB]
  ·refine ago ?_;(try exact⟨⟩)
   simp[ownB,hb]
 have n3:(a==3)=false:=by simpa using h3
 by_cases h4:a=4
 ·subst h4
  clear h1 h2 h3
  by_cases hb:c=0
  ·subst hb
   refine ago ?_;(try exact⟨⟩)
   simp[bf,ownB]
  ·refine ago ?_;(try exact⟨⟩)
   simp[ownB,hb]
 have n4:(a==4)=false:=by simpa using h4
 by_cases h5:a=5
 ·subst h5
  clear h1 h2 h3 h4
  by_cases hb:b=0
  ·subst hb
   refine ago ?_;(try exact⟨⟩)
   simp[bf,ownB]
  ·refine ago ?_;(try exact⟨⟩)
   simp[ownB,hb]
 have n5:(a==5)=false:=by simpa using h5
 have hr:ownB [a,b,c,d,e]=false:=by simp[ownB,h1,h2,h3,h4,h5]
 rw[hr]
 clear h1 h2 h3 h4 h5 hr
 refine ago ?_;(try exact⟨⟩)
theorem RD{f:FuncId}(neg:Bool)(hx:∀o,aQ f [.agg [.ints .i64 5 o]] (.d (.v (.bool (if neg=true then !ownB o else ownB o))))):∀args K,au1 neg args K→∃r,aQ f args r∧K r:=by
 intro args K h
 unfold au1 at h
 split at h
 ·exact⟨_,hx _,h⟩
 ·exact h.elim
noncomputable def bi4:av:=bi3.add 188 (au1 true) (RD true Y3) ⟨_,Tryz.func188,by kernel_rfl,by kernel_rfl⟩
noncomputable def aC7:av:=bi4.add 98 (au1 false) (RD false aQ6) ⟨_,Tryz.func98,by kernel_rfl,by kernel_rfl⟩
def opAt(zs:List Int)(i:Nat):List Int:=(zs.drop (i*5)).take 5
def sj(p:Nat→Bool)(n:Nat):Int:=match(List.range n).find? p with|some i=>(i:Int)|none=> -1
theorem Iq{p:Nat→Bool}{n k:Nat}(hk:k<n)(h:p k=true)(hn:∀j<k,p j=false):sj p n=(k:Int):=by
 have:(List.range n).find? p=some k:=by
  rw[List.find?_range_eq_some]
  exact⟨h,by simpa using hk,fun j hj=>by simp[hn j hj]⟩
 unfold sj;rw[this]
theorem vG{p:Nat→Bool}{n:Nat}(hn:∀j<n,p j=false):sj p n= -1:=by
 have:(List.range n).find? p=none:=by
  rw[List.find?_eq_none]
  intro j hj
  simp[hn j (by simpa using hj)]
 unfold sj;rw[this]
def iR(zs:List Int)(n:Nat):Bool:=(List.range n).any fun i=>!ownB (opAt zs i)
theorem YX(zs:List Int)(n:Nat):decide (sj (fun i=>!ownB (opAt zs i)) n≥0)=iR zs n:=by
 cases h:iR zs n with
 |true=>
  unfold iR at h
  rw[List.any_eq_true]at h
  obtain⟨i,hi,hp⟩:=h
  unfold sj
  cases hf:(List.range n).find? fun i=>!ownB (opAt zs i)with
  |some j=>simp
  |none=>
   rw[List.find?_eq_none]at hf
   exact absurd hp (hf i hi)
 |false=>
  unfold iR at h
  rw[List.any_eq_false]at h
  have:=vG (p:=fun i=>!ownB (opAt zs i)) (n:=n) fun j hj=>by
   have:=h j (by simpa using hj)
   simpa using this
  rw[this];rfl
set_option maxHeartbeats 8000000 in
theorem YT(zs:List Int)(n:Nat)(hl:zs.length=n*5)(hn:n≤1000000):aQ 201 [.row n [.ints .i64 (n*5) zs],.v (.func (.func 188) #[] #[])] (.d (.v (.int .i64 (sj (fun i=>!ownB (opAt zs i)) n)))):=by
 refine dF (E:=aC7) Tryz.func201 Tryz.ntmps201 ?_
 refine aX ?_;(try exact⟨⟩)
 refine aM.mk (gB [0,1,7,8] 1 (fun s=>∃k:Nat,k≤n∧(∀j<k,(!ownB (opAt zs j))=false)∧s=⟨[.d (.row n [.ints .i64 (n*5) zs]),.d (.v (.func (.func 188) #[] #[])),.ah,.ah,.ah,.ah,.ah,.d (.v (.int .i64 n)),.d (.v (.int .i64 (k:Nat))),.ah,.ah,.ah,.ah,.ah,.ah,.ah,.ah,.ah,.ah],[]⟩) (fun s=>n-lM s 8) rfl ⟨0,by omega,by intro j hj;omega,rfl⟩ ?_)
 rintro s ⟨k,hk,hj,rfl⟩
 have hw:IntKind.i64.wrap ((k:Int)+1)=((k+1:Nat):Int):=by rw[dM (by omega) (by omega)];omega
 by_cases hk2:k<n
 ·cases he:ownB ((zs.drop (k*5)).take 5)with
  |false=>
   have h1:=Iq (p:=fun i=>!ownB (opAt zs i)) hk2 (by simp[opAt,he]) hj
   rw[h1]
   clear hj h1
   refine aX ?_;(try exact⟨⟩)
  |true=>
   have hj2:∀j<k+1,(!ownB (opAt zs j))=false:=fun j hj2=>by
    rcases Nat.lt_or_eq_of_le (Nat.le_of_lt_succ hj2)with h|rfl
    ·exact hj j h
    ·simp[opAt,he]
   clear hj
   refine aX ?_;(try exact⟨⟩)
   refine⟨⟨k+1,by omega,hj2,by rw[←hw];rfl⟩,?_⟩
   show n- (IntKind.i64.wrap ((k:Int)+1)).toNat<n- (k:Int).toNat
   rw[hw];omega
 ·obtain rfl:k=n:=by omega
  have h1:=vG (p:=fun i=>!ownB (opAt zs i)) (n:=k) hj
  rw[h1]
  clear hj h1
  refine aX ?_;(try exact⟨⟩)
def Oo:List A→(bP→Prop)→Prop
 |[.row n [.ints .i64 m zs],.v (.func (.func g) a b)],K=>m=n*5∧n≤1000000∧g=188∧a=#[]∧b=#[]∧K (.d (.v (.int .i64 (sj (fun i=>!ownB (opAt zs i)) n))))
 |_,_=>False
theorem Ud:∀args K,Oo args K→∃r,aQ 201 args r∧K r:=by
 intro args K h
 unfold Oo at h
 split at h
 ·obtain⟨rfl,h1,rfl,rfl,rfl,h⟩:=h
  exact⟨_,gY fun hl=>YT _ _ hl.1.1 h1,h⟩
 ·exact h.elim
noncomputable def aC8:av:=aC7.add 201 Oo Ud ⟨_,Tryz.func201,by kernel_rfl,by kernel_rfl⟩
def Oj:List A→(bP→Prop)→Prop
 |[.row n [.ints .i64 m zs],.v (.func (.func g) a b)],K=>m=n*5∧n≤1000000∧g=188∧a=#[]∧b=#[]∧K (.d (.v (.bool (iR zs n))))
 |_,_=>False
theorem YG(zs:List Int)(n:Nat)(hn:n≤1000000):aQ 187 [.row n [.ints .i64 (n*5) zs],.v (.func (.func 188) #[] #[])] (.d (.v (.bool (iR zs n)))):=by
 refine dF (E:=aC8) Tryz.func187 Tryz.ntmps187 ?_
 refine ago ?_;(try exact⟨⟩)
 rw[YX]
theorem T9:∀args K,Oj args K→∃r,aQ 187 args r∧K r:=by
 intro args K h
 unfold Oj at h
 split at h
 ·obtain⟨rfl,h1,rfl,rfl,rfl,h⟩:=h
  exact⟨_,YG _ _ h1,h⟩
 ·exact h.elim
noncomputable def FP:av:=aC8.add 187 Oj T9 ⟨_,Tryz.func187,by kernel_rfl,by kernel_rfl⟩
end
section
open Pm
attribute [local irreducible] aV aZ bQ cK
abbrev iZ(e:Int)(zs:List Int)(ad:List Bool)(k:Int)(ch:List UInt8)(fr:Int)(ng gn:List Bool):List Seg:=[.ints .i64 1 [e],.ints .i64 31 zs,.bools 8 ad,.ints .i64 1 [k],.bytes 32 ch,.ints .i64 1 [fr],.bools 8 ng,.bools 8 gn]
def kJ(zs:List Int)(s:Int):Bool:=(List.range 8).any fun i=>decide (zs.getD (i*2) 0=s)
def dG(zs:List Int):Nat:=((List.range 8).find? fun i=>!dK zs i).getD 8
def jN(zs:List Int):Bool:=(List.range 8).all fun i=>dK zs i
def bY(zs xs:List Int):Int:=if(cK (xs.getD 0 0)&&cK (xs.getD 1 0))=true then(if kJ zs (xs.getD 0 0)=true then 7 else if jN zs=true then 12 else 0)else 7
theorem free_at{zs:List Int}{k:Nat}(hk:k<8)(h:dK zs k=false)(hn:∀j<k,dK zs j=true):dG zs=k:=by
 have:(List.range 8).find? (fun i=>!dK zs i)=some k:=by
  rw[List.find?_range_eq_some]
  exact⟨by simp[h],by simpa using hk,fun j hj=>by simp[hn j hj]⟩
 unfold dG;rw[this];rfl
theorem rz(zs:List Int):jN zs=true↔∀i<8,dK zs i=true:=by
 unfold jN
 rw[List.all_eq_true]
 simp
theorem xC(zs:List Int):∀k,(bE zs k).length=k↔∀i<k,dK zs i=true
 |0=>by simp[bE]
 |k+1=>by
  have L:=mW zs k
  have ih:=xC zs k
  rw[bE,List.length_append]
  by_cases h:dK zs k=true
  ·rw[if_pos h]
   constructor
   ·intro h2 i hi
    by_cases e:i=k
    ·rw[e];exact h
    ·exact ih.1 (by simpa using h2) i (by omega)
   ·intro h2
    have:=ih.2 fun i hi=>h2 i (by omega)
    simp[this]
  ·rw[if_neg h]
   constructor
   ·intro h2;simp at h2;omega
   ·intro h2;exact absurd (h2 k (by omega)) h
theorem ag6{zs:List Int}{s:Int}{i:Nat}(hi:i<8)(h:zs.getD (i*2) 0=s):kJ zs s=true:=by
 unfold kJ
 rw[List.any_eq_true]
 exact⟨i,by simpa using hi,by simpa using h⟩
theorem ag4{zs:List Int}{s:Int}(h:∀i<8,zs.getD (i*2) 0≠s):kJ zs s=false:=by
 unfold kJ
 rw[List.any_eq_false]
 intro i hi
 simpa using h i (by simpa using hi)
theorem pq(zs:List Int){i:Nat}(hi:i<8):(bq zs i).getD 0 0=zs.getD (i*2) 0:=by
 rw[o9 zs hi]
 simp[List.getD_eq_getElem?_getD,List.getElem?_take]
theorem ag5{zs:List Int}{s:Int}(hs:s≠0)(h:∀j<(bE zs 8).length,zs.getD (((bE zs 8).getD j 0).toNat*2) 0≠s):kJ zs s=false:=by
 refine ag4 fun i hi=>?_
 by_cases hm:dK zs i=true
 ·have hin:(i:Int)∈bE zs 8:=(vL zs 8 i).2 ⟨by omega,by omega,by simpa using hm⟩
  obtain⟨j,hj,e⟩:=List.getElem_of_mem hin
  have:=h j hj
  rw[List.getD_eq_getElem?_getD (l:=bE zs 8),List.getElem?_eq_getElem hj,Option.getD_some,e]at this
  simpa using this
 ·have h0:bq zs i=[0,0]:=by
   have:dK zs i=false:=by simpa using hm
   simpa[dK]using this
  rw[←pq zs hi,h0]
  exact fun e=>hs e.symm
theorem xw{y:Int}(h:cK y=true):y≠0:=by rintro rfl;simp[cK]at h
theorem two{o:List Int}(h:o.length=2):∃a b,o=[a,b]:=by
 rcases o with _|⟨a,_|⟨b,_|⟨c,l⟩⟩⟩<;>simp at h
 exact⟨a,b,rfl⟩
attribute [local irreducible] bE dK dG kJ jN d9 bY rQ bn
def WA:Nat→Bk→List A→(bP→Bk→Prop)→Prop
 |0,.var [.ints .i64 1 [e],.ints .i64 31 zs,.bools 8 ad,.ints .i64 1 [k],.bytes 32 ch,.ints .i64 1 [fr],.bools 8 ng,.bools 8 gn],[.agg [.ints .i64 2 xs]],K=>
  K (.d (.v (.int .i64 (bY zs xs)))) (.var (if bY zs xs=0 then iZ e (d9 zs xs (dG zs:Nat)) ad k ch fr (ng.set (dG zs) true) gn else iZ e zs ad k ch fr ng gn))
 |_,_,_,_=>False
set_option maxHeartbeats 400000 in
theorem aH9(e:Int)(zs:List Int)(ad:List Bool)(k:Int)(ch:List UInt8)(fr:Int)(ng gn:List Bool)(xs:List Int):
  fK 202 0 (.var (iZ e zs ad k ch fr ng gn)) [.agg [.ints .i64 2 xs]] (.d (.v (.int .i64 (bY zs xs)))) (.var (if bY zs xs=0 then iZ e (d9 zs xs (dG zs:Nat)) ad k ch fr (ng.set (dG zs) true) gn else iZ e zs ad k ch fr ng gn)):=by
 refine uz fun _ hl=>?_
 obtain⟨x,y,rfl⟩:=two hl.1.1
 clear hl
 refine mP (E:=FP) Tryz.func202 Tryz.ntmps202 ?_
 by_cases hxy:(cK x&&cK y)=true
 ·have he0:bY zs [x,y]=if kJ zs x=true then 7 else if jN zs=true then 12 else 0:=by
   unfold bY;simp[hxy]
  obtain⟨hx,hy⟩:cK x=true∧cK y=true:=by simpa using hxy
  have hx0:x≠0:=xw hx
  have L:=mW zs 8
  refine aX ?_;(try exact⟨⟩)
  refine aM.mk (gB [0,3,5,25,26,27] 3 (fun s=>∃j:Nat,j≤(bE zs 8).length∧(∀i<j,zs.getD (((bE zs 8).getD i 0).toNat*2) 0≠x)∧s=⟨[.ptr 0 0,.ah,.ah,.ptr 1 0,.ah,.own 2 (bE zs 8).length,.ah,.ah,.ah,.ah,.ah,.ah,.ah,.ah,.ah,.ah,.ah,.ah,.ah,.ah,.ah,.ah,.ah,.ah,.ah,.own 2 (bE zs 8).length,.d (.v (.int .i64 (bE zs 8).length)),.d (.v (.int .i64 (j:Nat))),.ah,.ah,.ah,.ah,.ah,.ah,.ah,.ah,.ah,.ah,.ah,.ah,.ah,.ah,.ah,.ah,.ah,.ah,.ah,.ah,.ah,.ah,.ah,.ah,.ah,.ah,.ah,.ah,.ah,.ah,.ah,.ah,.ah,.ah,.ah,.ah,.ah,.ah,.ah,.ah,.ah],[some (.var (iZ e zs ad k ch fr ng gn)),some (.var [.ints .i64 2 [x,y]]),some (.sl 3 1 (bE zs 8).length [.ints .i64 (bE zs 8).length (bE zs 8)])]⟩) (fun s=>(bE zs 8).length-lM s 27) rfl ⟨0,by omega,by intro j hj;omega,rfl⟩ ?_)
  rintro s ⟨j,hj,hall,rfl⟩
  have hw:IntKind.i64.wrap ((j:Int)+1)=((j+1:Nat):Int):=by rw[dM (by omega) (by omega)];omega
  by_cases hj2:j<(bE zs 8).length
  ·have hin:(bE zs 8).getD j 0∈bE zs 8:=by rw[List.getD_eq_getElem?_getD,List.getElem?_eq_getElem hj2];simp
   obtain⟨m0,m1,_⟩:=(vL zs 8 _).1 hin
   clear hin
   by_cases hs:zs.getD (((bE zs 8).getD j 0).toNat*2) 0=x
   ·have hu:kJ zs x=true:=ag6 (i:=((bE zs 8).getD j 0).toNat) (by omega) hs
    have hs1:(zs.getD (((bE zs 8).getD j 0).toNat*2) 0==x)=true:=by rw[hs];simp
    rw[he0,if_pos hu,if_neg (by decide)]
    clear he0 hu hs hall hx0
    refine aX ?_;(try exact⟨⟩)
   ·have hs1:(zs.getD (((bE zs 8).getD j 0).toNat*2) 0==x)=false:=by simpa using hs
    have hnext:∀i<j+1,zs.getD (((bE zs 8).getD i 0).toNat*2) 0≠x:=fun i hi=>by
     rcases Nat.lt_or_eq_of_le (Nat.le_of_lt_succ hi)with h|rfl
     ·exact hall i h
     ·exact hs
    clear he0 hs hall hx0
    refine aX ?_;(try exact⟨⟩)
    refine⟨⟨j+1,by omega,hnext,by rw[←hw];rfl⟩,?_⟩
    show(bE zs 8).length- (IntKind.i64.wrap ((j:Int)+1)).toNat<(bE zs 8).length- (j:Int).toNat
    rw[hw];omega
  ·have hu:kJ zs x=false:=ag5 hx0 fun i hi=>hall i (by omega)
   rw[hu,if_neg (by simp)]at he0
   clear hall hu hx0 hw
   cases hf:jN zs with
   |true=>
    have h8:(bE zs 8).length=8:=(xC zs 8).2 ((rz zs).1 hf)
    have h81:(((bE zs 8).length:Int)==8)=true:=by rw[h8];rfl
    rw[he0,if_pos hf,if_neg (by decide)]
    clear he0 h8 hf
    refine aX ?_;(try exact⟨⟩)
   |false=>
    have h8:(bE zs 8).length≠8:=fun h=>by
     have:=(rz zs).2 ((xC zs 8).1 h)
     rw[hf]at this;cases this
    have h81:(((bE zs 8).length:Int)==8)=false:=by simp;omega
    have he1:bY zs [x,y]=0:=by rw[he0];simp[hf]
    rw[he1,if_pos rfl]
    clear he1
    have hlen:(bE zs 8).length≤1000000:=by omega
    clear he0
    refine aX ?_;(try exact⟨⟩)
    refine aM.mk (gB [0,3,5,8] 3 (fun s=>∃i:Nat,i≤8∧(∀q<i,dK zs q=true)∧s=⟨[.ptr 0 0,.ah,.ah,.ptr 1 0,.ah,.own 2 (bE zs 8).length,.ah,.ah,.d (.v (.int .i64 (i:Nat))),.ah,.ah,.ah,.ah,.ah,.ah,.ah,.ah,.ah,.ah,.ah,.ah,.ah,.ah,.ah,.ah,.ah,.ah,.ah,.ah,.ah,.ah,.ah,.ah,.ah,.ah,.ah,.ah,.ah,.ah,.ah,.ah,.ah,.ah,.ah,.ah,.ah,.ah,.ah,.ah,.ah,.ah,.ah,.ah,.ah,.ah,.ah,.ah,.ah,.ah,.ah,.ah,.ah,.ah,.ah,.ah,.ah,.ah,.ah,.ah],[some (.var (iZ e zs ad k ch fr ng gn)),some (.var [.ints .i64 2 [x,y]]),some (.sl 3 1 (bE zs 8).length [.ints .i64 (bE zs 8).length (bE zs 8)])]⟩) (fun s=>8-lM s 8) rfl ⟨0,by omega,by intro j hj;omega,rfl⟩ ?_)
    clear hj2 hj h81
    rintro s ⟨i,hi,hall,rfl⟩
    have hw:IntKind.i64.wrap ((i:Int)+1)=((i+1:Nat):Int):=by rw[dM (by omega) (by omega)];omega
    have hi8:i<8:=by
     apply Decidable.byContradiction
     intro h
     have:jN zs=true:=(rz zs).2 fun q hq=>hall q (by omega)
     rw[hf]at this;cases this
    have hm0:decide ((i:Int)∈bE zs 8)=dK zs i:=by rw[Ca];simp[bn,aG];omega
    cases hm:dK zs i with
    |true=>
     rw[hm]at hm0
     have hnext:∀q<i+1,dK zs q=true:=fun q hq=>by
      rcases Nat.lt_or_eq_of_le (Nat.le_of_lt_succ hq)with h|rfl
      ·exact hall q h
      ·exact hm
     clear hall hm hf h8
     refine aX ?_;(try exact⟨⟩)
     refine⟨⟨i+1,by omega,hnext,by rw[←hw];rfl⟩,?_⟩
     show 8- (IntKind.i64.wrap ((i:Int)+1)).toNat<8- (i:Int).toNat
     rw[hw];omega
    |false=>
     rw[hm]at hm0
     have hfree:dG zs=i:=free_at hi8 hm hall
     rw[hfree]
     clear hall hm hf h8 hfree hw
     refine aX ?_;(try exact⟨⟩)
 ·have he0:bY zs [x,y]=7:=by unfold bY;simp[hxy]
  rw[he0,if_neg (by decide)]
  clear he0
  cases hx:cK x with
  |false=>
   refine aX ?_;(try exact⟨⟩)
  |true=>
   have hy:cK y=false:=by rw[hx]at hxy;simpa using hxy
   refine aX ?_;(try exact⟨⟩)
end
section
open Pm
attribute [local irreducible] aV aZ bQ cK bE dK dG kJ jN d9 bY rQ bn
theorem WB:∀pos x args K,WA pos x args K→∃r x',fK 202 pos x args r x'∧K r x':=by
 intro pos x args K h
 unfold WA at h
 split at h
 ·exact⟨_,_,aH9 _ _ _ _ _ _ _ _ _,h⟩
 ·exact h.elim
def gH(zs:List Int)(fr who:Int):Int:=if who=fr∨bn zs who=false then 7 else 0
def iK(zs:List Int)(ad:List Bool)(who:Int):Int:=if bn zs who=false∨ad.getD who.toNat false=true then 7 else 0
def lW(zs:List Int)(ad:List Bool)(who:Int):Int:=if bn zs who=false∨ad.getD who.toNat false=false then 7 else 0
def iJ(k:Int):Int:=if k<1∨k>8 then 7 else 0
theorem eX{zs:List Int}{i:Int}(h:bn zs i=true):0≤i∧i<8:=by
 unfold bn at h
 simp[aG]at h
 omega
set_option maxHeartbeats 4000000 in
theorem Zg(e:Int)(zs:List Int)(ad:List Bool)(k:Int)(ch:List UInt8)(fr:Int)(ng gn:List Bool)(y:Int):
  fK 206 0 (.var (iZ e zs ad k ch fr ng gn)) [.v (.int .i64 y)] (.d (.v (.int .i64 (iJ y)))) (.var (if iJ y=0 then iZ e zs ad y ch fr ng gn else iZ e zs ad k ch fr ng gn)):=by
 refine mP (E:=FP) Tryz.func206 Tryz.ntmps206 ?_
 by_cases h0:y<1
 ·have he:iJ y=7:=by simp[iJ,h0]
  rw[he,if_neg (by decide)]
  clear he
  refine aX ?_;(try exact⟨⟩)
 ·by_cases h1:y>8
  ·have he:iJ y=7:=by simp[iJ,h1]
   rw[he,if_neg (by decide)]
   clear he
   refine aX ?_;(try exact⟨⟩)
  ·have he:iJ y=0:=by simp[iJ,h0,h1]
   rw[he,if_pos rfl]
   clear he
   refine aX ?_;(try exact⟨⟩)
set_option maxHeartbeats 4000000 in
theorem Pe(e:Int)(zs:List Int)(ad:List Bool)(k:Int)(ch:List UInt8)(fr:Int)(ng gn:List Bool)(y:Int):
  fK 204 0 (.var (iZ e zs ad k ch fr ng gn)) [.v (.int .i64 y)] (.d (.v (.int .i64 (iK zs ad y)))) (.var (if iK zs ad y=0 then iZ e zs (ad.set y.toNat true) k ch fr ng gn else iZ e zs ad k ch fr ng gn)):=by
 refine mP (E:=FP) Tryz.func204 Tryz.ntmps204 ?_
 cases hm:bn zs y with
 |false=>
  have he:iK zs ad y=7:=by simp[iK,hm]
  rw[he,if_neg (by decide)]
  clear he
  refine aX ?_;(try exact⟨⟩)
 |true=>
  obtain⟨h0,h1⟩:=eX hm
  obtain⟨n,rfl⟩:=Int.eq_ofNat_of_zero_le h0
  cases ha:ad.getD n false with
  |true=>
   have he:iK zs ad (n:Int)=7:=by unfold iK;rw[Int.toNat_natCast,ha];simp
   rw[he,if_neg (by decide)]
   clear he
   refine aX ?_;(try exact⟨⟩)
  |false=>
   have he:iK zs ad (n:Int)=0:=by unfold iK;rw[Int.toNat_natCast,ha,hm];simp
   rw[he,if_pos rfl,Int.toNat_natCast]
   clear he
   refine aX ?_;(try exact⟨⟩)
set_option maxHeartbeats 4000000 in
theorem TA(e:Int)(zs:List Int)(ad:List Bool)(k:Int)(ch:List UInt8)(fr:Int)(ng gn:List Bool)(y:Int):
  fK 205 0 (.var (iZ e zs ad k ch fr ng gn)) [.v (.int .i64 y)] (.d (.v (.int .i64 (lW zs ad y)))) (.var (if lW zs ad y=0 then iZ e zs (ad.set y.toNat false) k ch fr ng gn else iZ e zs ad k ch fr ng gn)):=by
 refine mP (E:=FP) Tryz.func205 Tryz.ntmps205 ?_
 cases hm:bn zs y with
 |false=>
  have he:lW zs ad y=7:=by simp[lW,hm]
  rw[he,if_neg (by decide)]
  clear he
  refine aX ?_;(try exact⟨⟩)
 |true=>
  obtain⟨h0,h1⟩:=eX hm
  obtain⟨n,rfl⟩:=Int.eq_ofNat_of_zero_le h0
  cases ha:ad.getD n false with
  |false=>
   have he:lW zs ad (n:Int)=7:=by unfold lW;rw[Int.toNat_natCast,ha];simp
   rw[he,if_neg (by decide)]
   clear he
   refine aX ?_;(try exact⟨⟩)
  |true=>
   have he:lW zs ad (n:Int)=0:=by unfold lW;rw[Int.toNat_natCast,ha,hm];simp
   rw[he,if_pos rfl,Int.toNat_natCast]
   clear he
   refine aX ?_;(try exact⟨⟩)
set_option maxHeartbeats 4000000 in
theorem U3(e:Int)(zs:List Int)(ad:List Bool)(k:Int)(ch:List UInt8)(fr:Int)(ng gn:List Bool)(y:Int):
  fK 203 0 (.var (iZ e zs ad k ch fr ng gn)) [.v (.int .i64 y)] (.d (.v (.int .i64 (gH zs fr y)))) (.var (if gH zs fr y=0 then iZ e (d9 zs [0,0] y) (ad.set y.toNat false) k ch fr (ng.set y.toNat false) (gn.set y.toNat true)else iZ e zs ad k ch fr ng gn)):=by
 refine mP (E:=FP) Tryz.func203 Tryz.ntmps203 ?_
 by_cases hf:y=fr
 ·subst hf
  have he:gH zs y y=7:=by simp[gH]
  have hy:(y==y)=true:=by simp
  rw[he,if_neg (by decide)]
  clear he
  refine aX ?_;(try exact⟨⟩)
 ·have hy:(y==fr)=false:=by simpa using hf
  cases hm:bn zs y with
  |false=>
   have he:gH zs fr y=7:=by simp[gH,hm]
   rw[he,if_neg (by decide)]
   clear he hf
   refine aX ?_;(try exact⟨⟩)
  |true=>
   obtain⟨h0,h1⟩:=eX hm
   obtain⟨n,rfl⟩:=Int.eq_ofNat_of_zero_le h0
   have he:gH zs fr (n:Int)=0:=by simp[gH,hm,hf]
   rw[he,if_pos rfl,Int.toNat_natCast]
   clear he hf
   refine aX ?_;(try exact⟨⟩)
end
end Go.Proofs.YtjdjelopkhjdnaaGreatDoor
