/- -/
import Derived.Test.YtegalalmamofdaaGreatDoorJ19
namespace Go.Proofs.YtegalalmamofdaaGreatDoor
set_option linter.all false
set_option maxRecDepth 100000
open Go.RowKit
set_option maxHeartbeats 8000000
variable{zs:List Int}
noncomputable section
open Pm
attribute [local irreducible] aN aQ bq
def ownB(o:List Int):Bool:=
 if o.getD 0 0=1 then decide (o.getD 1 0=0)&&decide (o.getD 2 0=0)
 else if o.getD 0 0=2\/o.getD 0 0=3\/o.getD 0 0=4 then decide (o.getD 2 0=0)&&(decide (o.getD 3 0=0)&&decide (o.getD 4 0=0))
 else if o.getD 0 0=5 then decide (o.getD 1 0=0)&&(decide (o.getD 3 0=0)&&decide (o.getD 4 0=0))
 else false
theorem five{o:List Int}(h:o.length=5):∃a b c d e,o=[a,b,c,d,e]:=by
 rcases o with _|⟨a,_|⟨b,_|⟨c,_|⟨d,_|⟨e,_|⟨f,l⟩⟩⟩⟩⟩⟩<;>simp at h
 exact⟨a,b,c,d,e,rfl⟩
def bD8(neg:Bool):List A->(bC->Prop)->Prop
 |[.agg [.ints .i64 5 o]],K=>K (.d (.v (.bool (if neg=true then !ownB o else ownB o))))
 |_,_=>False
theorem aq0(o:List Int):aV 158 [.agg [.ints .i64 5 o]] (.d (.v (.bool (!ownB o)))):=by
 refine iY fun hl=>?_
 obtain⟨a,b,c,d,e,rfl⟩:=five hl.1.1
 clear hl
 refine eO (E:=sV) Tryz.func158 Tryz.ntmps158 ?_
 by_cases h1:a=1
 ·subst h1
  refine ago ?_;(try exact⟨⟩)
  simp[bM,ownB]
 have n1:(a==1)=false:=by simpa using h1
 by_cases h2:a=2
 ·subst h2
  clear h1
  refine ago ?_;(try exact⟨⟩)
  simp[bM,ownB]
 have n2:(a==2)=false:=by simpa using h2
 by_cases h3:a=3
 ·subst h3
  clear h1 h2
  refine ago ?_;(try exact⟨⟩)
  simp[bM,ownB]
 have n3:(a==3)=false:=by simpa using h3
 by_cases h4:a=4
 ·subst h4
  clear h1 h2 h3
  refine ago ?_;(try exact⟨⟩)
  simp[bM,ownB]
 have n4:(a==4)=false:=by simpa using h4
 by_cases h5:a=5
 ·subst h5
  clear h1 h2 h3 h4
  refine ago ?_;(try exact⟨⟩)
  simp[bM,ownB]
 have n5:(a==5)=false:=by simpa using h5
 have hr:ownB [a,b,c,d,e]=false:=by simp[ownB,h1,h2,h3,h4,h5]
 rw[hr]
 clear h1 h2 h3 h4 h5 hr
 refine ago ?_;(try exact⟨⟩)
 rfl
theorem aW2{f:FuncId}(neg:Bool)(hx:∀o,aV f [.agg [.ints .i64 5 o]] (.d (.v (.bool (if neg=true then !ownB o else ownB o))))):∀args K,bD8 neg args K->∃r,aV f args r/\K r:=by
 intro args K h
 unfold bD8 at h
 split at h
 ·exact⟨_,hx _,h⟩
 ·exact h.elim
def ca6:ak:=ca5.add 158 (bD8 true) (aW2 true aq0) (.of Tryz.func158)
def bj4:ak:=ca6
def opAt(zs:List Int)(i:Nat):List Int:=(zs.drop (i*5)).take 5
def lF(p:Nat->Bool)(n:Nat):Int:=match(List.range n).find? p with|some i=>(i:Int)|none=> -1
theorem LM{p:Nat->Bool}{n k:Nat}(hk:k<n)(h:p k=true)(hn:∀j<k,p j=false):lF p n=(k:Int):=by
 have:(List.range n).find? p=some k:=by
  rw[List.find?_range_eq_some]
  exact⟨h,by simpa using hk,fun j hj=>by simp[hn j hj]⟩
 unfold lF;rw[this]
theorem xV{p:Nat->Bool}{n:Nat}(hn:∀j<n,p j=false):lF p n= -1:=by
 have:(List.range n).find? p=none:=by
  rw[List.find?_eq_none]
  intro j hj
  simp[hn j (by simpa using hj)]
 unfold lF;rw[this]
def qK(zs:List Int)(n:Nat):Bool:=(List.range n).any fun i=>!ownB (opAt zs i)
theorem ap4(zs:List Int)(n:Nat):decide (lF (fun i=>!ownB (opAt zs i)) n>=0)=qK zs n:=by
 cases h:qK zs n with
 |true=>
  unfold qK at h
  rw[List.any_eq_true]at h
  obtain⟨i,hi,hp⟩:=h
  unfold lF
  cases hf:(List.range n).find? fun i=>!ownB (opAt zs i)with
  |some j=>simp
  |none=>
   rw[List.find?_eq_none]at hf
   exact absurd hp (hf i hi)
 |false=>
  unfold qK at h
  rw[List.any_eq_false]at h
  have:=xV (p:=fun i=>!ownB (opAt zs i)) (n:=n) fun j hj=>by
   have:=h j (by simpa using hj)
   simpa using this
  rw[this];rfl
theorem ao9(zs:List Int)(n:Nat)(hl:zs.length=n*5)(hn:n<=1000000):aV 210 [.row n [.ints .i64 (n*5) zs],.v (.func (.func 158) #[] #[])] (.d (.v (.int .i64 (lF (fun i=>!ownB (opAt zs i)) n)))):=by
 refine eO (E:=bj4) Tryz.func210 Tryz.ntmps210 ?_
 refine dG ?_
 refine aX.mk (lG [0,1,7,8] 1 (fun s=>∃k:Nat,k<=n/\(∀j<k,(!ownB (opAt zs j))=false)/\s=⟨.d (.row n [.ints .i64 (n*5) zs])::.d (.v (.func (.func 158) #[] #[]))::.au::.au::.au::.au::.au::.d (.v (.int .i64 n))::.d (.v (.int .i64 (k:Nat)))::dz 10 [],[]⟩) (fun s=>n-vI s 8) rfl ⟨0,by omega,by intro j hj;omega,rfl⟩ ?_)
 rintro s ⟨k,hk,hj,rfl⟩
 have hw:IntKind.i64.wrap ((k:Int)+1)=((k+1:Nat):Int):=by rw[gH (by omega) (by omega)];omega
 by_cases hk2:k<n
 ·cases he:ownB ((zs.drop (k*5)).take 5)with
  |false=>
   have h1:=LM (p:=fun i=>!ownB (opAt zs i)) hk2 (by simp[opAt,he]) hj
   rw[h1]
   clear hj h1
   refine dG ?_;(try exact⟨⟩)
  |true=>
   have hj2:∀j<k+1,(!ownB (opAt zs j))=false:=fun j hj2=>by
    rcases Nat.lt_or_eq_of_le (Nat.le_of_lt_succ hj2)with h|rfl
    ·exact hj j h
    ·simp[opAt,he]
   clear hj
   refine dG ?_
   refine⟨⟨k+1,by omega,hj2,by rw[<-hw];rfl⟩,?_⟩
   show n- (IntKind.i64.wrap ((k:Int)+1)).toNat<n- (k:Int).toNat
   rw[hw];omega
 ·obtain rfl:k=n:=by omega
  have h1:=xV (p:=fun i=>!ownB (opAt zs i)) (n:=k) hj
  rw[h1]
  clear hj h1
  refine dG ?_;(try exact⟨⟩)
def Sr:List A->(bC->Prop)->Prop
 |[.row n [.ints .i64 m zs],.v (.func (.func g) a b)],K=>m=n*5/\n<=1000000/\g=158/\a=#[]/\b=#[]/\K (.d (.v (.int .i64 (lF (fun i=>!ownB (opAt zs i)) n))))
 |_,_=>False
theorem Ye:∀args K,Sr args K->∃r,aV 210 args r/\K r:=by
 intro args K h
 unfold Sr at h
 split at h
 ·obtain⟨rfl,h1,rfl,rfl,rfl,h⟩:=h
  exact⟨_,iY fun hl=>ao9 _ _ hl.1.1 h1,h⟩
 ·exact h.elim
def bj5:ak:=bj4.add 210 Sr Ye (.of Tryz.func210)
def Si:List A->(bC->Prop)->Prop
 |[.row n [.ints .i64 m zs],.v (.func (.func g) a b)],K=>m=n*5/\n<=1000000/\g=158/\a=#[]/\b=#[]/\K (.d (.v (.bool (qK zs n))))
 |_,_=>False
theorem an9(zs:List Int)(n:Nat)(hn:n<=1000000):aV 157 [.row n [.ints .i64 (n*5) zs],.v (.func (.func 158) #[] #[])] (.d (.v (.bool (qK zs n)))):=by
 refine eO (E:=bj5) Tryz.func157 Tryz.ntmps157 ?_
 refine ago ?_
 rw[ap4]
theorem Yb:∀args K,Si args K->∃r,aV 157 args r/\K r:=by
 intro args K h
 unfold Si at h
 split at h
 ·obtain⟨rfl,h1,rfl,rfl,rfl,h⟩:=h
  exact⟨_,an9 _ _ h1,h⟩
 ·exact h.elim
def Jy:ak:=bj5.add 157 Si Yb (.of Tryz.func157)
end
section
open Pm
attribute [local irreducible] aN aQ bq dL
abbrev iO(e:Int)(zs:List Int)(ad:List Bool)(k:Int)(ch:List UInt8)(fr:Int)(ng gn:List Bool):List Seg:=[.ints .i64 1 [e],.ints .i64 31 zs,.bools 8 ad,.ints .i64 1 [k],.bytes 32 ch,.ints .i64 1 [fr],.bools 8 ng,.bools 8 gn]
def nJ(zs:List Int)(s:Int):Bool:=(List.range 8).any fun i=>decide (zs.getD (i*2) 0=s)
def jv(zs:List Int):Nat:=((List.range 8).find? fun i=>!eH zs i).getD 8
def nE(zs:List Int):Bool:=(List.range 8).all fun i=>eH zs i
def iB(zs xs:List Int):Int:=if(dL (xs.getD 0 0)&&dL (xs.getD 1 0))=true then(if nJ zs (xs.getD 0 0)=true then 7 else if nE zs=true then 12 else 0)else 7
theorem free_at{k:Nat}(hk:k<8)(h:eH zs k=false)(hn:∀j<k,eH zs j=true):jv zs=k:=by
 have:(List.range 8).find? (fun i=>!eH zs i)=some k:=by
  rw[List.find?_range_eq_some]
  exact⟨by simp[h],by simpa using hk,fun j hj=>by simp[hn j hj]⟩
 unfold jv;rw[this];rfl
theorem Aw(zs:List Int):nE zs=true↔∀i<8,eH zs i=true:=by
 unfold nE
 rw[List.all_eq_true]
 simp
theorem zw(zs:List Int):∀k,(bK zs k).length=k↔∀i<k,eH zs i=true
 |0=>by simp[bK]
 |k+1=>by
  have L:=nQ zs k
  have ih:=zw zs k
  rw[bK,List.length_append]
  by_cases h:eH zs k=true
  ·rw[if_pos h]
   constructor
   ·intro h2 i hi
    by_cases e:i=k
    ·rw[e];exact h
    ·exact ih.1 (by simpa using h2) i (by omega)
   ·intro h2
    have:=ih.2 fun i hi=>h2 i (by omega)
    simp[this]
  ·rw[if_neg h]
   constructor
   ·intro h2;simp at h2;omega
   ·intro h2;exact absurd (h2 k (by omega)) h
theorem bH0{s:Int}{i:Nat}(hi:i<8)(h:zs.getD (i*2) 0=s):nJ zs s=true:=by
 unfold nJ
 rw[List.any_eq_true]
 exact⟨i,by simpa using hi,by simpa using h⟩
theorem bG9{s:Int}(h:∀i<8,zs.getD (i*2) 0≠s):nJ zs s=false:=by
 unfold nJ
 rw[List.any_eq_false]
 intro i hi
 simpa using h i (by simpa using hi)
theorem qG(zs:List Int){i:Nat}(hi:i<8):(bZ zs i).getD 0 0=zs.getD (i*2) 0:=by
 rw[OM zs hi]
 simp[List.getD_eq_getElem?_getD,List.getElem?_take]
theorem aG9{s:Int}(hs:s≠0)(h:∀j<(bK zs 8).length,zs.getD (((bK zs 8).getD j 0).toNat*2) 0≠s):nJ zs s=false:=by
 refine bG9 fun i hi=>?_
 by_cases hm:eH zs i=true
 ·have hin:(i:Int)∈bK zs 8:=(xZ zs 8 i).2 ⟨by omega,by omega,by simpa using hm⟩
  obtain⟨j,hj,e⟩:=List.getElem_of_mem hin
  have:=h j hj
  rw[List.getD_eq_getElem?_getD (l:=bK zs 8),List.getElem?_eq_getElem hj,Option.getD_some,e]at this
  simpa using this
 ·have h0:bZ zs i=[0,0]:=by
   have:eH zs i=false:=by simpa using hm
   simpa[eH]using this
  rw[<-qG zs hi,h0]
  exact fun e=>hs e.symm
theorem Cg{y:Int}(h:dL y=true):y≠0:=by rintro rfl;simp[dL]at h
theorem two{o:List Int}(h:o.length=2):∃a b,o=[a,b]:=by
 rcases o with _|⟨a,_|⟨b,_|⟨c,l⟩⟩⟩<;>simp at h
 exact⟨a,b,rfl⟩
attribute [local irreducible] bK eH jv nJ nE fM iB wQ dS
def aa3:Nat->Bk->List A->(bC->Bk->Prop)->Prop
 |0,.var [.ints .i64 1 [e],.ints .i64 31 zs,.bools 8 ad,.ints .i64 1 [k],.bytes 32 ch,.ints .i64 1 [fr],.bools 8 ng,.bools 8 gn],[.agg [.ints .i64 2 xs]],K=>
  K (.d (.v (.int .i64 (iB zs xs)))) (.var (if iB zs xs=0 then iO e (fM zs xs (jv zs:Nat)) ad k ch fr (ng.set (jv zs) true) gn else iO e zs ad k ch fr ng gn))
 |_,_,_,_=>False
theorem bp7(e:Int)(zs:List Int)(ad:List Bool)(k:Int)(ch:List UInt8)(fr:Int)(ng gn:List Bool)(xs:List Int):
  bV 211 0 (.var (iO e zs ad k ch fr ng gn)) [.agg [.ints .i64 2 xs]] (.d (.v (.int .i64 (iB zs xs)))) (.var (if iB zs xs=0 then iO e (fM zs xs (jv zs:Nat)) ad k ch fr (ng.set (jv zs) true) gn else iO e zs ad k ch fr ng gn)):=by
 refine FC fun _ hl=>?_
 obtain⟨x,y,rfl⟩:=two hl.1.1
 clear hl
 refine iH (E:=Jy) Tryz.func211 Tryz.ntmps211 ?_
 by_cases hxy:(dL x&&dL y)=true
 ·have he0:iB zs [x,y]=if nJ zs x=true then 7 else if nE zs=true then 12 else 0:=by
   unfold iB;simp[hxy]
  obtain⟨hx,hy⟩:dL x=true/\dL y=true:=by simpa using hxy
  have hx0:x≠0:=Cg hx
  have L:=nQ zs 8
  refine dG ?_
  refine aX.mk (lG [0,3,5,25,26,27] 3 (fun s=>∃j:Nat,j<=(bK zs 8).length/\(∀i<j,zs.getD (((bK zs 8).getD i 0).toNat*2) 0≠x)/\s=⟨.ptr 0 0::.au::.au::.ptr 1 0::.au::.own 2 (bK zs 8).length::dz 19 (.own 2 (bK zs 8).length::.d (.v (.int .i64 (bK zs 8).length))::.d (.v (.int .i64 (j:Nat)))::dz 41 []),[some (.var (iO e zs ad k ch fr ng gn)),some (.var [.ints .i64 2 [x,y]]),some (.sl 3 1 (bK zs 8).length [.ints .i64 (bK zs 8).length (bK zs 8)])]⟩) (fun s=>(bK zs 8).length-vI s 27) rfl ⟨0,by omega,by intro j hj;omega,rfl⟩ ?_)
  rintro s ⟨j,hj,hall,rfl⟩
  have hw:IntKind.i64.wrap ((j:Int)+1)=((j+1:Nat):Int):=by rw[gH (by omega) (by omega)];omega
  by_cases hj2:j<(bK zs 8).length
  ·have hin:(bK zs 8).getD j 0∈bK zs 8:=by rw[List.getD_eq_getElem?_getD,List.getElem?_eq_getElem hj2];simp
   obtain⟨m0,m1,_⟩:=(xZ zs 8 _).1 hin
   clear hin
   by_cases hs:zs.getD (((bK zs 8).getD j 0).toNat*2) 0=x
   ·have hu:nJ zs x=true:=bH0 (i:=((bK zs 8).getD j 0).toNat) (by omega) hs
    have hs1:(zs.getD (((bK zs 8).getD j 0).toNat*2) 0==x)=true:=by rw[hs];simp
    rw[he0,if_pos hu,if_neg (by decide)]
    clear he0 hu hs hall hx0
    refine dG ?_;(try exact⟨⟩)
   ·have hs1:(zs.getD (((bK zs 8).getD j 0).toNat*2) 0==x)=false:=by simpa using hs
    have hnext:∀i<j+1,zs.getD (((bK zs 8).getD i 0).toNat*2) 0≠x:=fun i hi=>by
     rcases Nat.lt_or_eq_of_le (Nat.le_of_lt_succ hi)with h|rfl
     ·exact hall i h
     ·exact hs
    clear he0 hs hall hx0
    refine dG ?_
    refine⟨⟨j+1,by omega,hnext,by rw[<-hw];rfl⟩,?_⟩
    show(bK zs 8).length- (IntKind.i64.wrap ((j:Int)+1)).toNat<(bK zs 8).length- (j:Int).toNat
    rw[hw];omega
  ·have hu:nJ zs x=false:=aG9 hx0 fun i hi=>hall i (by omega)
   rw[hu,if_neg (by simp)]at he0
   clear hall hu hx0 hw
   cases hf:nE zs with
   |true=>
    have h8:(bK zs 8).length=8:=(zw zs 8).2 ((Aw zs).1 hf)
    have h81:(((bK zs 8).length:Int)==8)=true:=by rw[h8];rfl
    rw[he0,if_pos hf,if_neg (by decide)]
    clear he0 h8 hf
    refine dG ?_;(try exact⟨⟩)
   |false=>
    have h8:(bK zs 8).length≠8:=fun h=>by
     have:=(Aw zs).2 ((zw zs 8).1 h)
     rw[hf]at this;cases this
    have h81:(((bK zs 8).length:Int)==8)=false:=by simp;omega
    have he1:iB zs [x,y]=0:=by rw[he0];simp[hf]
    rw[he1,if_pos rfl]
    clear he1
    have hlen:(bK zs 8).length<=1000000:=by omega
    clear he0
    refine dG ?_
    refine aX.mk (lG [0,3,5,8] 3 (fun s=>∃i:Nat,i<=8/\(∀q<i,eH zs q=true)/\s=⟨.ptr 0 0::.au::.au::.ptr 1 0::.au::.own 2 (bK zs 8).length::.au::.au::.d (.v (.int .i64 (i:Nat)))::dz 60 [],[some (.var (iO e zs ad k ch fr ng gn)),some (.var [.ints .i64 2 [x,y]]),some (.sl 3 1 (bK zs 8).length [.ints .i64 (bK zs 8).length (bK zs 8)])]⟩) (fun s=>8-vI s 8) rfl ⟨0,by omega,by intro j hj;omega,rfl⟩ ?_)
    clear hj2 hj h81
    rintro s ⟨i,hi,hall,rfl⟩
    have hw:IntKind.i64.wrap ((i:Int)+1)=((i+1:Nat):Int):=by rw[gH (by omega) (by omega)];omega
    have hi8:i<8:=by
     apply Decidable.byContradiction
     intro h
     have:nE zs=true:=(Aw zs).2 fun q hq=>hall q (by omega)
     rw[hf]at this;cases this
    have hm0:decide ((i:Int)∈bK zs 8)=eH zs i:=by rw[Et];simp[dS,aL];omega
    cases hm:eH zs i with
    |true=>
     rw[hm]at hm0
     have hnext:∀q<i+1,eH zs q=true:=fun q hq=>by
      rcases Nat.lt_or_eq_of_le (Nat.le_of_lt_succ hq)with h|rfl
      ·exact hall q h
      ·exact hm
     clear hall hm hf h8
     refine dG ?_
     refine⟨⟨i+1,by omega,hnext,by rw[<-hw];rfl⟩,?_⟩
     show 8- (IntKind.i64.wrap ((i:Int)+1)).toNat<8- (i:Int).toNat
     rw[hw];omega
    |false=>
     rw[hm]at hm0
     have hfree:jv zs=i:=free_at hi8 hm hall
     rw[hfree]
     clear hall hm hf h8 hfree hw
     refine dG ?_;(try exact⟨⟩)
 ·have he0:iB zs [x,y]=7:=by unfold iB;simp[hxy]
  rw[he0,if_neg (by decide)]
  clear he0
  cases hx:dL x with
  |false=>
   refine dG ?_;(try exact⟨⟩)
  |true=>
   have hy:dL y=false:=by rw[hx]at hxy;simpa using hxy
   refine dG ?_;(try exact⟨⟩)
end
section
open Pm
attribute [local irreducible] aN aQ bq dL bK eH jv nJ nE fM iB wQ dS
theorem aa4:∀pos x args K,aa3 pos x args K->∃r x',bV 211 pos x args r x'/\K r x':=by
 intro pos x args K h
 unfold aa3 at h
 split at h
 ·exact⟨_,_,bp7 _ _ _ _ _ _ _ _ _,h⟩
 ·exact h.elim
def j5(zs:List Int)(fr who:Int):Int:=if who=fr\/dS zs who=false then 7 else 0
def lU(zs:List Int)(ad:List Bool)(who:Int):Int:=if dS zs who=false\/ad.getD who.toNat false=true then 7 else 0
def oZ(zs:List Int)(ad:List Bool)(who:Int):Int:=if dS zs who=false\/ad.getD who.toNat false=false then 7 else 0
def nO(k:Int):Int:=if k<1\/k>8 then 7 else 0
theorem kP{i:Int}(h:dS zs i=true):0<=i/\i<8:=by
 unfold dS at h
 simp[aL]at h
 omega
theorem as2(e:Int)(zs:List Int)(ad:List Bool)(k:Int)(ch:List UInt8)(fr:Int)(ng gn:List Bool)(y:Int):
  bV 215 0 (.var (iO e zs ad k ch fr ng gn)) [.v (.int .i64 y)] (.d (.v (.int .i64 (nO y)))) (.var (if nO y=0 then iO e zs ad y ch fr ng gn else iO e zs ad k ch fr ng gn)):=by
 refine iH (E:=Jy) Tryz.func215 Tryz.ntmps215 ?_
 by_cases h0:y<1
 ·have he:nO y=7:=by simp[nO,h0]
  rw[he,if_neg (by decide)]
  clear he
  refine dG ?_;(try exact⟨⟩)
 ·by_cases h1:y>8
  ·have he:nO y=7:=by simp[nO,h1]
   rw[he,if_neg (by decide)]
   clear he
   refine dG ?_;(try exact⟨⟩)
  ·have he:nO y=0:=by simp[nO,h0,h1]
   rw[he,if_pos rfl]
   clear he
   refine dG ?_;(try exact⟨⟩)
theorem TQ(e:Int)(zs:List Int)(ad:List Bool)(k:Int)(ch:List UInt8)(fr:Int)(ng gn:List Bool)(y:Int):
  bV 213 0 (.var (iO e zs ad k ch fr ng gn)) [.v (.int .i64 y)] (.d (.v (.int .i64 (lU zs ad y)))) (.var (if lU zs ad y=0 then iO e zs (ad.set y.toNat true) k ch fr ng gn else iO e zs ad k ch fr ng gn)):=by
 refine iH (E:=Jy) Tryz.func213 Tryz.ntmps213 ?_
 cases hm:dS zs y with
 |false=>
  have he:lU zs ad y=7:=by simp[lU,hm]
  rw[he,if_neg (by decide)]
  clear he
  refine dG ?_;(try exact⟨⟩)
 |true=>
  obtain⟨h0,h1⟩:=kP hm
  obtain⟨n,rfl⟩:=Int.eq_ofNat_of_zero_le h0
  cases ha:ad.getD n false with
  |true=>
   have he:lU zs ad (n:Int)=7:=by unfold lU;rw[Int.toNat_natCast,ha];simp
   rw[he,if_neg (by decide)]
   clear he
   refine dG ?_;(try exact⟨⟩)
  |false=>
   have he:lU zs ad (n:Int)=0:=by unfold lU;rw[Int.toNat_natCast,ha,hm];simp
   rw[he,if_pos rfl,Int.toNat_natCast]
   clear he
   refine dG ?_;(try exact⟨⟩)
theorem XM(e:Int)(zs:List Int)(ad:List Bool)(k:Int)(ch:List UInt8)(fr:Int)(ng gn:List Bool)(y:Int):
  bV 214 0 (.var (iO e zs ad k ch fr ng gn)) [.v (.int .i64 y)] (.d (.v (.int .i64 (oZ zs ad y)))) (.var (if oZ zs ad y=0 then iO e zs (ad.set y.toNat false) k ch fr ng gn else iO e zs ad k ch fr ng gn)):=by
 refine iH (E:=Jy) Tryz.func214 Tryz.ntmps214 ?_
 cases hm:dS zs y with
 |false=>
  have he:oZ zs ad y=7:=by simp[oZ,hm]
  rw[he,if_neg (by decide)]
  clear he
  refine dG ?_;(try exact⟨⟩)
 |true=>
  obtain⟨h0,h1⟩:=kP hm
  obtain⟨n,rfl⟩:=Int.eq_ofNat_of_zero_le h0
  cases ha:ad.getD n false with
  |false=>
   have he:oZ zs ad (n:Int)=7:=by unfold oZ;rw[Int.toNat_natCast,ha];simp
   rw[he,if_neg (by decide)]
   clear he
   refine dG ?_;(try exact⟨⟩)
  |true=>
   have he:oZ zs ad (n:Int)=0:=by unfold oZ;rw[Int.toNat_natCast,ha,hm];simp
   rw[he,if_pos rfl,Int.toNat_natCast]
   clear he
   refine dG ?_;(try exact⟨⟩)
theorem Y4(e:Int)(zs:List Int)(ad:List Bool)(k:Int)(ch:List UInt8)(fr:Int)(ng gn:List Bool)(y:Int):
  bV 212 0 (.var (iO e zs ad k ch fr ng gn)) [.v (.int .i64 y)] (.d (.v (.int .i64 (j5 zs fr y)))) (.var (if j5 zs fr y=0 then iO e (fM zs [0,0] y) (ad.set y.toNat false) k ch fr (ng.set y.toNat false) (gn.set y.toNat true)else iO e zs ad k ch fr ng gn)):=by
 refine iH (E:=Jy) Tryz.func212 Tryz.ntmps212 ?_
 by_cases hf:y=fr
 ·subst hf
  have he:j5 zs y y=7:=by simp[j5]
  have hy:(y==y)=true:=by simp
  rw[he,if_neg (by decide)]
  clear he
  refine dG ?_;(try exact⟨⟩)
 ·have hy:(y==fr)=false:=by simpa using hf
  cases hm:dS zs y with
  |false=>
   have he:j5 zs fr y=7:=by simp[j5,hm]
   rw[he,if_neg (by decide)]
   clear he hf
   refine dG ?_;(try exact⟨⟩)
  |true=>
   obtain⟨h0,h1⟩:=kP hm
   obtain⟨n,rfl⟩:=Int.eq_ofNat_of_zero_le h0
   have he:j5 zs fr (n:Int)=0:=by simp[j5,hm,hf]
   rw[he,if_pos rfl,Int.toNat_natCast]
   clear he hf
   refine dG ?_;(try exact⟨⟩)
end
end Go.Proofs.YtegalalmamofdaaGreatDoor
