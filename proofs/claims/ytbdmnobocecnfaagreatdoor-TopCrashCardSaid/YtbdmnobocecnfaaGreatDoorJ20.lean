/-
  Views: operations with what is not their own.
-/
import Derived.Test.YtbdmnobocecnfaaGreatDoorJ19
namespace Go.Proofs.YtbdmnobocecnfaaGreatDoor
set_option linter.unusedVariables false
set_option linter.unusedSimpArgs false
set_option maxRecDepth 100000
open Go.RowKit
section
open Pm
attribute [local irreducible] condK LoopA regA
def ownB(o:List Int):Bool:=
 if o.getD 0 0=1 then decide (o.getD 1 0=0)&&decide (o.getD 2 0=0)
 else if o.getD 0 0=2∨o.getD 0 0=3∨o.getD 0 0=4 then decide (o.getD 2 0=0)&&(decide (o.getD 3 0=0)&&decide (o.getD 4 0=0))
 else if o.getD 0 0=5 then decide (o.getD 1 0=0)&&(decide (o.getD 3 0=0)&&decide (o.getD 4 0=0))
 else false
theorem five{o:List Int}(h:o.length=5):∃a b c d e,o=[a,b,c,d,e]:=by
 rcases o with _|⟨a,_|⟨b,_|⟨c,_|⟨d,_|⟨e,_|⟨f,l⟩⟩⟩⟩⟩⟩<;>simp at h
 exact⟨a,b,c,d,e,rfl⟩
def ownS(neg:Bool):List A→(Res→Prop)→Prop
 |[.agg [.ints .i64 5 o]],K=>K (.d (.v (.bool (if neg=true then !ownB o else ownB o))))
 |_,_=>False
set_option maxHeartbeats 8000000 in
theorem isOdd_ok(o:List Int):FnO 154 [.agg [.ints .i64 5 o]] (.d (.v (.bool (!ownB o)))):=by
 refine fn_lens fun hl=>?_
 obtain⟨a,b,c,d,e,rfl⟩:=five hl.1.1
 clear hl
 refine fnA (E:=env0) Tryz.func154 Tryz.ntmps154 ?_
 by_cases h1:a=1
 ·subst h1
  refine ago ?_;(try exact⟨⟩)
  simp[eqSegs,ownB]
 have n1:(a==1)=false:=by simpa using h1
 by_cases h2:a=2
 ·subst h2
  clear h1
  refine ago ?_;(try exact⟨⟩)
  simp[eqSegs,ownB]
 have n2:(a==2)=false:=by simpa using h2
 by_cases h3:a=3
 ·subst h3
  clear h1 h2
  refine ago ?_;(try exact⟨⟩)
  simp[eqSegs,ownB]
 have n3:(a==3)=false:=by simpa using h3
 by_cases h4:a=4
 ·subst h4
  clear h1 h2 h3
  refine ago ?_;(try exact⟨⟩)
  simp[eqSegs,ownB]
 have n4:(a==4)=false:=by simpa using h4
 by_cases h5:a=5
 ·subst h5
  clear h1 h2 h3 h4
  refine ago ?_;(try exact⟨⟩)
  simp[eqSegs,ownB]
 have n5:(a==5)=false:=by simpa using h5
 have hr:ownB [a,b,c,d,e]=false:=by simp[ownB,h1,h2,h3,h4,h5]
 rw[hr]
 clear h1 h2 h3 h4 h5 hr
 refine ago ?_;(try exact⟨⟩)
 rfl
theorem ownS_of{f:FuncId}(neg:Bool)(hx:∀o,FnO f [.agg [.ints .i64 5 o]] (.d (.v (.bool (if neg=true then !ownB o else ownB o))))):∀args K,ownS neg args K→∃r,FnO f args r∧K r:=by
 intro args K h
 unfold ownS at h
 split at h
 ·exact⟨_,hx _,h⟩
 ·exact h.elim
noncomputable def envVe:EnvX:=envVd.add 154 (ownS true) (ownS_of true isOdd_ok) ⟨_,Tryz.func154,by kernel_rfl,by kernel_rfl⟩
noncomputable def envVf:EnvX:=envVe
def opAt(zs:List Int)(i:Nat):List Int:=(zs.drop (i*5)).take 5
def idxP(p:Nat→Bool)(n:Nat):Int:=match(List.range n).find? p with|some i=>(i:Int)|none=> -1
theorem idxP_at{p:Nat→Bool}{n k:Nat}(hk:k<n)(h:p k=true)(hn:∀j<k,p j=false):idxP p n=(k:Int):=by
 have:(List.range n).find? p=some k:=by
  rw[List.find?_range_eq_some]
  exact⟨h,by simpa using hk,fun j hj=>by simp[hn j hj]⟩
 unfold idxP;rw[this]
theorem idxP_none{p:Nat→Bool}{n:Nat}(hn:∀j<n,p j=false):idxP p n= -1:=by
 have:(List.range n).find? p=none:=by
  rw[List.find?_eq_none]
  intro j hj
  simp[hn j (by simpa using hj)]
 unfold idxP;rw[this]
def oddTo(zs:List Int)(n:Nat):Bool:=(List.range n).any fun i=>!ownB (opAt zs i)
theorem idxP_any(zs:List Int)(n:Nat):decide (idxP (fun i=>!ownB (opAt zs i)) n≥0)=oddTo zs n:=by
 cases h:oddTo zs n with
 |true=>
  unfold oddTo at h
  rw[List.any_eq_true]at h
  obtain⟨i,hi,hp⟩:=h
  unfold idxP
  cases hf:(List.range n).find? fun i=>!ownB (opAt zs i)with
  |some j=>simp
  |none=>
   rw[List.find?_eq_none]at hf
   exact absurd hp (hf i hi)
 |false=>
  unfold oddTo at h
  rw[List.any_eq_false]at h
  have:=idxP_none (p:=fun i=>!ownB (opAt zs i)) (n:=n) fun j hj=>by
   have:=h j (by simpa using hj)
   simpa using this
  rw[this];rfl
set_option maxHeartbeats 8000000 in
theorem idxFn_ok(zs:List Int)(n:Nat)(hl:zs.length=n*5)(hn:n≤1000000):FnO 206 [.row n [.ints .i64 (n*5) zs],.v (.func (.func 154) #[] #[])] (.d (.v (.int .i64 (idxP (fun i=>!ownB (opAt zs i)) n)))):=by
 refine fnA (E:=envVf) Tryz.func206 Tryz.ntmps206 ?_
 refine agom ?_;(try exact⟨⟩)
 refine StopL.mk (loop_inv [0,1,7,8] 1 (fun s=>∃k:Nat,k≤n∧(∀j<k,(!ownB (opAt zs j))=false)∧s=⟨[.d (.row n [.ints .i64 (n*5) zs]),.d (.v (.func (.func 154) #[] #[])),.dead,.dead,.dead,.dead,.dead,.d (.v (.int .i64 n)),.d (.v (.int .i64 (k:Nat))),.dead,.dead,.dead,.dead,.dead,.dead,.dead,.dead,.dead,.dead],[]⟩) (fun s=>n-intAt s 8) rfl ⟨0,by omega,by intro j hj;omega,rfl⟩ ?_)
 rintro s ⟨k,hk,hj,rfl⟩
 have hw:IntKind.i64.wrap ((k:Int)+1)=((k+1:Nat):Int):=by rw[wrapS (by omega) (by omega)];omega
 by_cases hk2:k<n
 ·cases he:ownB ((zs.drop (k*5)).take 5)with
  |false=>
   have h1:=idxP_at (p:=fun i=>!ownB (opAt zs i)) hk2 (by simp[opAt,he]) hj
   rw[h1]
   clear hj h1
   refine agom ?_;(try exact⟨⟩)
  |true=>
   have hj2:∀j<k+1,(!ownB (opAt zs j))=false:=fun j hj2=>by
    rcases Nat.lt_or_eq_of_le (Nat.le_of_lt_succ hj2)with h|rfl
    ·exact hj j h
    ·simp[opAt,he]
   clear hj
   refine agom ?_;(try exact⟨⟩)
   refine⟨⟨k+1,by omega,hj2,by rw[←hw];rfl⟩,?_⟩
   show n- (IntKind.i64.wrap ((k:Int)+1)).toNat<n- (k:Int).toNat
   rw[hw];omega
 ·obtain rfl:k=n:=by omega
  have h1:=idxP_none (p:=fun i=>!ownB (opAt zs i)) (n:=k) hj
  rw[h1]
  clear hj h1
  refine agom ?_;(try exact⟨⟩)
def idxFnS:List A→(Res→Prop)→Prop
 |[.row n [.ints .i64 m zs],.v (.func (.func g) a b)],K=>m=n*5∧n≤1000000∧g=154∧a=#[]∧b=#[]∧K (.d (.v (.int .i64 (idxP (fun i=>!ownB (opAt zs i)) n))))
 |_,_=>False
theorem idxFnS_ok:∀args K,idxFnS args K→∃r,FnO 206 args r∧K r:=by
 intro args K h
 unfold idxFnS at h
 split at h
 ·obtain⟨rfl,h1,rfl,rfl,rfl,h⟩:=h
  exact⟨_,fn_lens fun hl=>idxFn_ok _ _ hl.1.1 h1,h⟩
 ·exact h.elim
noncomputable def envVg:EnvX:=envVf.add 206 idxFnS idxFnS_ok ⟨_,Tryz.func206,by kernel_rfl,by kernel_rfl⟩
def hasFnS:List A→(Res→Prop)→Prop
 |[.row n [.ints .i64 m zs],.v (.func (.func g) a b)],K=>m=n*5∧n≤1000000∧g=154∧a=#[]∧b=#[]∧K (.d (.v (.bool (oddTo zs n))))
 |_,_=>False
theorem hasFn_ok(zs:List Int)(n:Nat)(hn:n≤1000000):FnO 153 [.row n [.ints .i64 (n*5) zs],.v (.func (.func 154) #[] #[])] (.d (.v (.bool (oddTo zs n)))):=by
 refine fnA (E:=envVg) Tryz.func153 Tryz.ntmps153 ?_
 refine ago ?_;(try exact⟨⟩)
 rw[idxP_any]
theorem hasFnS_ok:∀args K,hasFnS args K→∃r,FnO 153 args r∧K r:=by
 intro args K h
 unfold hasFnS at h
 split at h
 ·obtain⟨rfl,h1,rfl,rfl,rfl,h⟩:=h
  exact⟨_,hasFn_ok _ _ h1,h⟩
 ·exact h.elim
noncomputable def envVh:EnvX:=envVg.add 153 hasFnS hasFnS_ok ⟨_,Tryz.func153,by kernel_rfl,by kernel_rfl⟩
end
section
open Pm
attribute [local irreducible] condK LoopA regA isI
abbrev sSegs(e:Int)(zs:List Int)(ad:List Bool)(k:Int)(ch:List UInt8)(fr:Int)(ng gn:List Bool):List Seg:=[.ints .i64 1 [e],.ints .i64 31 zs,.bools 8 ad,.ints .i64 1 [k],.bytes 32 ch,.ints .i64 1 [fr],.bools 8 ng,.bools 8 gn]
def usedB(zs:List Int)(s:Int):Bool:=(List.range 8).any fun i=>decide (zs.getD (i*2) 0=s)
def freeN(zs:List Int):Nat:=((List.range 8).find? fun i=>!memL zs i).getD 8
def fullB(zs:List Int):Bool:=(List.range 8).all fun i=>memL zs i
def errAdd(zs xs:List Int):Int:=if(isI (xs.getD 0 0)&&isI (xs.getD 1 0))=true then(if usedB zs (xs.getD 0 0)=true then 7 else if fullB zs=true then 12 else 0)else 7
theorem free_at{zs:List Int}{k:Nat}(hk:k<8)(h:memL zs k=false)(hn:∀j<k,memL zs j=true):freeN zs=k:=by
 have:(List.range 8).find? (fun i=>!memL zs i)=some k:=by
  rw[List.find?_range_eq_some]
  exact⟨by simp[h],by simpa using hk,fun j hj=>by simp[hn j hj]⟩
 unfold freeN;rw[this];rfl
theorem full_iff(zs:List Int):fullB zs=true↔∀i<8,memL zs i=true:=by
 unfold fullB
 rw[List.all_eq_true]
 simp
theorem memTo_full(zs:List Int):∀k,(memTo zs k).length=k↔∀i<k,memL zs i=true
 |0=>by simp[memTo]
 |k+1=>by
  have L:=memTo_len zs k
  have ih:=memTo_full zs k
  rw[memTo,List.length_append]
  by_cases h:memL zs k=true
  ·rw[if_pos h]
   constructor
   ·intro h2 i hi
    by_cases e:i=k
    ·rw[e];exact h
    ·exact ih.1 (by simpa using h2) i (by omega)
   ·intro h2
    have:=ih.2 fun i hi=>h2 i (by omega)
    simp[this]
  ·rw[if_neg h]
   constructor
   ·intro h2;simp at h2;omega
   ·intro h2;exact absurd (h2 k (by omega)) h
theorem used_t{zs:List Int}{s:Int}{i:Nat}(hi:i<8)(h:zs.getD (i*2) 0=s):usedB zs s=true:=by
 unfold usedB
 rw[List.any_eq_true]
 exact⟨i,by simpa using hi,by simpa using h⟩
theorem used_f{zs:List Int}{s:Int}(h:∀i<8,zs.getD (i*2) 0≠s):usedB zs s=false:=by
 unfold usedB
 rw[List.any_eq_false]
 intro i hi
 simpa using h i (by simpa using hi)
theorem leafP_get0(zs:List Int){i:Nat}(hi:i<8):(leafP zs i).getD 0 0=zs.getD (i*2) 0:=by
 rw[leafP_eq zs hi]
 simp[List.getD_eq_getElem?_getD,List.getElem?_take]
theorem used_mem{zs:List Int}{s:Int}(hs:s≠0)(h:∀j<(memTo zs 8).length,zs.getD (((memTo zs 8).getD j 0).toNat*2) 0≠s):usedB zs s=false:=by
 refine used_f fun i hi=>?_
 by_cases hm:memL zs i=true
 ·have hin:(i:Int)∈memTo zs 8:=(memTo_mem zs 8 i).2 ⟨by omega,by omega,by simpa using hm⟩
  obtain⟨j,hj,e⟩:=List.getElem_of_mem hin
  have:=h j hj
  rw[List.getD_eq_getElem?_getD (l:=memTo zs 8),List.getElem?_eq_getElem hj,Option.getD_some,e]at this
  simpa using this
 ·have h0:leafP zs i=[0,0]:=by
   have:memL zs i=false:=by simpa using hm
   simpa[memL]using this
  rw[←leafP_get0 zs hi,h0]
  exact fun e=>hs e.symm
theorem isI_ne{y:Int}(h:isI y=true):y≠0:=by rintro rfl;simp[isI]at h
theorem two{o:List Int}(h:o.length=2):∃a b,o=[a,b]:=by
 rcases o with _|⟨a,_|⟨b,_|⟨c,l⟩⟩⟩<;>simp at h
 exact⟨a,b,rfl⟩
attribute [local irreducible] memTo memL freeN usedB fullB putL errAdd isT memB
def addSM:Nat→Bk→List A→(Res→Bk→Prop)→Prop
 |0,.var [.ints .i64 1 [e],.ints .i64 31 zs,.bools 8 ad,.ints .i64 1 [k],.bytes 32 ch,.ints .i64 1 [fr],.bools 8 ng,.bools 8 gn],[.agg [.ints .i64 2 xs]],K=>
  K (.d (.v (.int .i64 (errAdd zs xs)))) (.var (if errAdd zs xs=0 then sSegs e (putL zs xs (freeN zs:Nat)) ad k ch fr (ng.set (freeN zs) true) gn else sSegs e zs ad k ch fr ng gn))
 |_,_,_,_=>False
set_option maxHeartbeats 400000 in
theorem add_ok(e:Int)(zs:List Int)(ad:List Bool)(k:Int)(ch:List UInt8)(fr:Int)(ng gn:List Bool)(xs:List Int):
  FnMO 207 0 (.var (sSegs e zs ad k ch fr ng gn)) [.agg [.ints .i64 2 xs]] (.d (.v (.int .i64 (errAdd zs xs)))) (.var (if errAdd zs xs=0 then sSegs e (putL zs xs (freeN zs:Nat)) ad k ch fr (ng.set (freeN zs) true) gn else sSegs e zs ad k ch fr ng gn)):=by
 refine fnM_lens fun _ hl=>?_
 obtain⟨x,y,rfl⟩:=two hl.1.1
 clear hl
 refine fnMA (E:=envVh) Tryz.func207 Tryz.ntmps207 ?_
 by_cases hxy:(isI x&&isI y)=true
 ·have he0:errAdd zs [x,y]=if usedB zs x=true then 7 else if fullB zs=true then 12 else 0:=by
   unfold errAdd;simp[hxy]
  obtain⟨hx,hy⟩:isI x=true∧isI y=true:=by simpa using hxy
  have hx0:x≠0:=isI_ne hx
  have L:=memTo_len zs 8
  refine agom ?_;(try exact⟨⟩)
  refine StopL.mk (loop_inv [0,3,5,25,26,27] 3 (fun s=>∃j:Nat,j≤(memTo zs 8).length∧(∀i<j,zs.getD (((memTo zs 8).getD i 0).toNat*2) 0≠x)∧s=⟨[.ptr 0 0,.dead,.dead,.ptr 1 0,.dead,.own 2 (memTo zs 8).length,.dead,.dead,.dead,.dead,.dead,.dead,.dead,.dead,.dead,.dead,.dead,.dead,.dead,.dead,.dead,.dead,.dead,.dead,.dead,.own 2 (memTo zs 8).length,.d (.v (.int .i64 (memTo zs 8).length)),.d (.v (.int .i64 (j:Nat))),.dead,.dead,.dead,.dead,.dead,.dead,.dead,.dead,.dead,.dead,.dead,.dead,.dead,.dead,.dead,.dead,.dead,.dead,.dead,.dead,.dead,.dead,.dead,.dead,.dead,.dead,.dead,.dead,.dead,.dead,.dead,.dead,.dead,.dead,.dead,.dead,.dead,.dead,.dead,.dead,.dead],[some (.var (sSegs e zs ad k ch fr ng gn)),some (.var [.ints .i64 2 [x,y]]),some (.sl 3 1 (memTo zs 8).length [.ints .i64 (memTo zs 8).length (memTo zs 8)])]⟩) (fun s=>(memTo zs 8).length-intAt s 27) rfl ⟨0,by omega,by intro j hj;omega,rfl⟩ ?_)
  rintro s ⟨j,hj,hall,rfl⟩
  have hw:IntKind.i64.wrap ((j:Int)+1)=((j+1:Nat):Int):=by rw[wrapS (by omega) (by omega)];omega
  by_cases hj2:j<(memTo zs 8).length
  ·have hin:(memTo zs 8).getD j 0∈memTo zs 8:=by rw[List.getD_eq_getElem?_getD,List.getElem?_eq_getElem hj2];simp
   obtain⟨m0,m1,_⟩:=(memTo_mem zs 8 _).1 hin
   clear hin
   by_cases hs:zs.getD (((memTo zs 8).getD j 0).toNat*2) 0=x
   ·have hu:usedB zs x=true:=used_t (i:=((memTo zs 8).getD j 0).toNat) (by omega) hs
    have hs1:(zs.getD (((memTo zs 8).getD j 0).toNat*2) 0==x)=true:=by rw[hs];simp
    rw[he0,if_pos hu,if_neg (by decide)]
    clear he0 hu hs hall hx0
    refine agom ?_;(try exact⟨⟩)
   ·have hs1:(zs.getD (((memTo zs 8).getD j 0).toNat*2) 0==x)=false:=by simpa using hs
    have hnext:∀i<j+1,zs.getD (((memTo zs 8).getD i 0).toNat*2) 0≠x:=fun i hi=>by
     rcases Nat.lt_or_eq_of_le (Nat.le_of_lt_succ hi)with h|rfl
     ·exact hall i h
     ·exact hs
    clear he0 hs hall hx0
    refine agom ?_;(try exact⟨⟩)
    refine⟨⟨j+1,by omega,hnext,by rw[←hw];rfl⟩,?_⟩
    show(memTo zs 8).length- (IntKind.i64.wrap ((j:Int)+1)).toNat<(memTo zs 8).length- (j:Int).toNat
    rw[hw];omega
  ·have hu:usedB zs x=false:=used_mem hx0 fun i hi=>hall i (by omega)
   rw[hu,if_neg (by simp)]at he0
   clear hall hu hx0 hw
   cases hf:fullB zs with
   |true=>
    have h8:(memTo zs 8).length=8:=(memTo_full zs 8).2 ((full_iff zs).1 hf)
    have h81:(((memTo zs 8).length:Int)==8)=true:=by rw[h8];rfl
    rw[he0,if_pos hf,if_neg (by decide)]
    clear he0 h8 hf
    refine agom ?_;(try exact⟨⟩)
   |false=>
    have h8:(memTo zs 8).length≠8:=fun h=>by
     have:=(full_iff zs).2 ((memTo_full zs 8).1 h)
     rw[hf]at this;cases this
    have h81:(((memTo zs 8).length:Int)==8)=false:=by simp;omega
    have he1:errAdd zs [x,y]=0:=by rw[he0];simp[hf]
    rw[he1,if_pos rfl]
    clear he1
    have hlen:(memTo zs 8).length≤1000000:=by omega
    clear he0
    refine agom ?_;(try exact⟨⟩)
    refine StopL.mk (loop_inv [0,3,5,8] 3 (fun s=>∃i:Nat,i≤8∧(∀q<i,memL zs q=true)∧s=⟨[.ptr 0 0,.dead,.dead,.ptr 1 0,.dead,.own 2 (memTo zs 8).length,.dead,.dead,.d (.v (.int .i64 (i:Nat))),.dead,.dead,.dead,.dead,.dead,.dead,.dead,.dead,.dead,.dead,.dead,.dead,.dead,.dead,.dead,.dead,.dead,.dead,.dead,.dead,.dead,.dead,.dead,.dead,.dead,.dead,.dead,.dead,.dead,.dead,.dead,.dead,.dead,.dead,.dead,.dead,.dead,.dead,.dead,.dead,.dead,.dead,.dead,.dead,.dead,.dead,.dead,.dead,.dead,.dead,.dead,.dead,.dead,.dead,.dead,.dead,.dead,.dead,.dead,.dead],[some (.var (sSegs e zs ad k ch fr ng gn)),some (.var [.ints .i64 2 [x,y]]),some (.sl 3 1 (memTo zs 8).length [.ints .i64 (memTo zs 8).length (memTo zs 8)])]⟩) (fun s=>8-intAt s 8) rfl ⟨0,by omega,by intro j hj;omega,rfl⟩ ?_)
    clear hj2 hj h81
    rintro s ⟨i,hi,hall,rfl⟩
    have hw:IntKind.i64.wrap ((i:Int)+1)=((i+1:Nat):Int):=by rw[wrapS (by omega) (by omega)];omega
    have hi8:i<8:=by
     apply Decidable.byContradiction
     intro h
     have:fullB zs=true:=(full_iff zs).2 fun q hq=>hall q (by omega)
     rw[hf]at this;cases this
    have hm0:decide ((i:Int)∈memTo zs 8)=memL zs i:=by rw[memB_in];simp[memB,leafB];omega
    cases hm:memL zs i with
    |true=>
     rw[hm]at hm0
     have hnext:∀q<i+1,memL zs q=true:=fun q hq=>by
      rcases Nat.lt_or_eq_of_le (Nat.le_of_lt_succ hq)with h|rfl
      ·exact hall q h
      ·exact hm
     clear hall hm hf h8
     refine agom ?_;(try exact⟨⟩)
     refine⟨⟨i+1,by omega,hnext,by rw[←hw];rfl⟩,?_⟩
     show 8- (IntKind.i64.wrap ((i:Int)+1)).toNat<8- (i:Int).toNat
     rw[hw];omega
    |false=>
     rw[hm]at hm0
     have hfree:freeN zs=i:=free_at hi8 hm hall
     rw[hfree]
     clear hall hm hf h8 hfree hw
     refine agom ?_;(try exact⟨⟩)
 ·have he0:errAdd zs [x,y]=7:=by unfold errAdd;simp[hxy]
  rw[he0,if_neg (by decide)]
  clear he0
  cases hx:isI x with
  |false=>
   refine agom ?_;(try exact⟨⟩)
  |true=>
   have hy:isI y=false:=by rw[hx]at hxy;simpa using hxy
   refine agom ?_;(try exact⟨⟩)
end
section
open Pm
attribute [local irreducible] condK LoopA regA isI memTo memL freeN usedB fullB putL errAdd isT memB
theorem addSM_ok:∀pos x args K,addSM pos x args K→∃r x',FnMO 207 pos x args r x'∧K r x':=by
 intro pos x args K h
 unfold addSM at h
 split at h
 ·exact⟨_,_,add_ok _ _ _ _ _ _ _ _ _,h⟩
 ·exact h.elim
def errRem(zs:List Int)(fr who:Int):Int:=if who=fr∨memB zs who=false then 7 else 0
def errPro(zs:List Int)(ad:List Bool)(who:Int):Int:=if memB zs who=false∨ad.getD who.toNat false=true then 7 else 0
def errDem(zs:List Int)(ad:List Bool)(who:Int):Int:=if memB zs who=false∨ad.getD who.toNat false=false then 7 else 0
def errLim(k:Int):Int:=if k<1∨k>8 then 7 else 0
theorem memB_bd{zs:List Int}{i:Int}(h:memB zs i=true):0≤i∧i<8:=by
 unfold memB at h
 simp[leafB]at h
 omega
set_option maxHeartbeats 4000000 in
theorem limit_ok(e:Int)(zs:List Int)(ad:List Bool)(k:Int)(ch:List UInt8)(fr:Int)(ng gn:List Bool)(y:Int):
  FnMO 211 0 (.var (sSegs e zs ad k ch fr ng gn)) [.v (.int .i64 y)] (.d (.v (.int .i64 (errLim y)))) (.var (if errLim y=0 then sSegs e zs ad y ch fr ng gn else sSegs e zs ad k ch fr ng gn)):=by
 refine fnMA (E:=envVh) Tryz.func211 Tryz.ntmps211 ?_
 by_cases h0:y<1
 ·have he:errLim y=7:=by simp[errLim,h0]
  rw[he,if_neg (by decide)]
  clear he
  refine agom ?_;(try exact⟨⟩)
 ·by_cases h1:y>8
  ·have he:errLim y=7:=by simp[errLim,h1]
   rw[he,if_neg (by decide)]
   clear he
   refine agom ?_;(try exact⟨⟩)
  ·have he:errLim y=0:=by simp[errLim,h0,h1]
   rw[he,if_pos rfl]
   clear he
   refine agom ?_;(try exact⟨⟩)
set_option maxHeartbeats 4000000 in
theorem promote_ok(e:Int)(zs:List Int)(ad:List Bool)(k:Int)(ch:List UInt8)(fr:Int)(ng gn:List Bool)(y:Int):
  FnMO 209 0 (.var (sSegs e zs ad k ch fr ng gn)) [.v (.int .i64 y)] (.d (.v (.int .i64 (errPro zs ad y)))) (.var (if errPro zs ad y=0 then sSegs e zs (ad.set y.toNat true) k ch fr ng gn else sSegs e zs ad k ch fr ng gn)):=by
 refine fnMA (E:=envVh) Tryz.func209 Tryz.ntmps209 ?_
 cases hm:memB zs y with
 |false=>
  have he:errPro zs ad y=7:=by simp[errPro,hm]
  rw[he,if_neg (by decide)]
  clear he
  refine agom ?_;(try exact⟨⟩)
 |true=>
  obtain⟨h0,h1⟩:=memB_bd hm
  obtain⟨n,rfl⟩:=Int.eq_ofNat_of_zero_le h0
  cases ha:ad.getD n false with
  |true=>
   have he:errPro zs ad (n:Int)=7:=by unfold errPro;rw[Int.toNat_natCast,ha];simp
   rw[he,if_neg (by decide)]
   clear he
   refine agom ?_;(try exact⟨⟩)
  |false=>
   have he:errPro zs ad (n:Int)=0:=by unfold errPro;rw[Int.toNat_natCast,ha,hm];simp
   rw[he,if_pos rfl,Int.toNat_natCast]
   clear he
   refine agom ?_;(try exact⟨⟩)
set_option maxHeartbeats 4000000 in
theorem demote_ok(e:Int)(zs:List Int)(ad:List Bool)(k:Int)(ch:List UInt8)(fr:Int)(ng gn:List Bool)(y:Int):
  FnMO 210 0 (.var (sSegs e zs ad k ch fr ng gn)) [.v (.int .i64 y)] (.d (.v (.int .i64 (errDem zs ad y)))) (.var (if errDem zs ad y=0 then sSegs e zs (ad.set y.toNat false) k ch fr ng gn else sSegs e zs ad k ch fr ng gn)):=by
 refine fnMA (E:=envVh) Tryz.func210 Tryz.ntmps210 ?_
 cases hm:memB zs y with
 |false=>
  have he:errDem zs ad y=7:=by simp[errDem,hm]
  rw[he,if_neg (by decide)]
  clear he
  refine agom ?_;(try exact⟨⟩)
 |true=>
  obtain⟨h0,h1⟩:=memB_bd hm
  obtain⟨n,rfl⟩:=Int.eq_ofNat_of_zero_le h0
  cases ha:ad.getD n false with
  |false=>
   have he:errDem zs ad (n:Int)=7:=by unfold errDem;rw[Int.toNat_natCast,ha];simp
   rw[he,if_neg (by decide)]
   clear he
   refine agom ?_;(try exact⟨⟩)
  |true=>
   have he:errDem zs ad (n:Int)=0:=by unfold errDem;rw[Int.toNat_natCast,ha,hm];simp
   rw[he,if_pos rfl,Int.toNat_natCast]
   clear he
   refine agom ?_;(try exact⟨⟩)
set_option maxHeartbeats 4000000 in
theorem remove_ok(e:Int)(zs:List Int)(ad:List Bool)(k:Int)(ch:List UInt8)(fr:Int)(ng gn:List Bool)(y:Int):
  FnMO 208 0 (.var (sSegs e zs ad k ch fr ng gn)) [.v (.int .i64 y)] (.d (.v (.int .i64 (errRem zs fr y)))) (.var (if errRem zs fr y=0 then sSegs e (putL zs [0,0] y) (ad.set y.toNat false) k ch fr (ng.set y.toNat false) (gn.set y.toNat true)else sSegs e zs ad k ch fr ng gn)):=by
 refine fnMA (E:=envVh) Tryz.func208 Tryz.ntmps208 ?_
 by_cases hf:y=fr
 ·subst hf
  have he:errRem zs y y=7:=by simp[errRem]
  have hy:(y==y)=true:=by simp
  rw[he,if_neg (by decide)]
  clear he
  refine agom ?_;(try exact⟨⟩)
 ·have hy:(y==fr)=false:=by simpa using hf
  cases hm:memB zs y with
  |false=>
   have he:errRem zs fr y=7:=by simp[errRem,hm]
   rw[he,if_neg (by decide)]
   clear he hf
   refine agom ?_;(try exact⟨⟩)
  |true=>
   obtain⟨h0,h1⟩:=memB_bd hm
   obtain⟨n,rfl⟩:=Int.eq_ofNat_of_zero_le h0
   have he:errRem zs fr (n:Int)=0:=by simp[errRem,hm,hf]
   rw[he,if_pos rfl,Int.toNat_natCast]
   clear he hf
   refine agom ?_;(try exact⟨⟩)
end
end Go.Proofs.YtbdmnobocecnfaaGreatDoor
