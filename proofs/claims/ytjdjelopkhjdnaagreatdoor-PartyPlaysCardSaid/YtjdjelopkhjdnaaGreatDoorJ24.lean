/-
  Views: operations done, as the document does them.
-/
import Derived.Test.YtjdjelopkhjdnaaGreatDoorJ23
namespace Go.Proofs.YtjdjelopkhjdnaaGreatDoor
set_option linter.unusedVariables false
set_option linter.unusedSimpArgs false
set_option maxRecDepth 100000
open Go.RowKit
section
open Pm
attribute [local irreducible] aV aZ bQ cK bE dK dG kJ jN d9 bY rQ bn iB tO tL tN dQ iR jq gU opAt ownB
def Jh:Nat→Bk→List A→(bP→Bk→Prop)→Prop
 |0,.var [.ints .i64 1 [e],.ints .i64 31 zs,.bools 8 ad,.ints .i64 1 [k],.bytes 32 ch],[.agg [.ints .i64 2 xs]],K=>
  mI (aV (decide (bY zs xs=0)) (K (.t [.v (.int .i64 ((dG zs:Nat):Int)),.v (.int .i64 0)]) (.var (bR e (d9 zs xs (dG zs:Nat)) (ad.set (dG zs) false) k ch))) (K (.t [.v (.int .i64 0),.v (.int .i64 (bY zs xs))]) (.var (bR e zs ad k ch))))
 |_,_,_,_=>False
theorem Pk:∀pos x args K,Jh pos x args K→∃r x',fK 99 pos x args r x'∧K r x':=by
 intro pos x args K h
 unfold Jh at h
 split at h
 ·next e zs ad k ch xs=>
  have h:=h.out
  have ho:=RU e zs ad k ch xs
  by_cases he:bY zs xs=0
  ·rw[decide_eq_true he,iI]at h
   rw[if_pos he,if_pos he,he]at ho
   exact⟨_,_,ho,h⟩
  ·rw[decide_eq_false he,gQ]at h
   rw[if_neg he,if_neg he]at ho
   exact⟨_,_,ho,h⟩
 ·exact h.elim
def Jo:Nat→Bk→List A→(bP→Bk→Prop)→Prop
 |0,.var [.ints .i64 1 [e],.ints .i64 31 zs,.bools 8 ad,.ints .i64 1 [k],.bytes 32 ch],[.v (.int .i64 fr),.agg [.ints .i64 5 o]],K=>
  mI (aV (decide (iB zs ad fr o=0)) (K (.d (.v (.int .i64 0))) (.var (bR e (tO zs o) (tL ad o) (tN k o) ch))) (K (.d (.v (.int .i64 (iB zs ad fr o)))) (.var (bR e zs ad k ch))))
 |_,_,_,_=>False
theorem Pv:∀pos x args K,Jo pos x args K→∃r x',fK 100 pos x args r x'∧K r x':=by
 intro pos x args K h
 unfold Jo at h
 split at h
 ·next e zs ad k ch fr o=>
  have h:=h.out
  have ho:=aw5 e zs ad k ch fr o
  by_cases he:iB zs ad fr o=0
  ·rw[decide_eq_true he,iI]at h
   rw[if_pos he,he]at ho
   exact⟨_,_,ho,h⟩
  ·rw[decide_eq_false he,gQ]at h
   rw[if_neg he]at ho
   exact⟨_,_,ho,h⟩
 ·exact h.elim
noncomputable def bj0:av:=QY.kr 99 Jh Pk ⟨_,Tryz.func99,by kernel_rfl,by kernel_rfl⟩
noncomputable def bj1:av:=bj0.kr 100 Jo Pv ⟨_,Tryz.func100,by kernel_rfl,by kernel_rfl⟩
theorem D5(ops:List Int)(i:Nat):iR ops (i+1)=(iR ops i|| !ownB (opAt ops i)):=by
 unfold iR
 rw[List.range_succ,List.any_append]
 simp
theorem DZ(ops:List Int):∀(d i:Nat),iR ops i=true→iR ops (i+d)=true
 |0,i,h=>h
 |d+1,i,h=>by
  rw[←Nat.add_assoc,D5,DZ ops d i h];rfl
def aw1(e:Int)(ch:List UInt8)(d:Int×Vw):List A:=
 if d.1=0 then[.agg (bR e d.2.zs d.2.ad d.2.k ch),.agg [.bools 8 d.2.ng],.agg [.bools 8 d.2.gn],.v (.int .i64 0)]else[.agg wL,.agg [.bools 8 F8],.agg [.bools 8 F8],.v (.int .i64 d.1)]
theorem ak6(e:Int)(zs:List Int)(ad:List Bool)(k:Int)(ch:List UInt8)(fr:Int)(ops:List Int)(n:Nat):Fa e zs ad k ch fr ops n=aw1 e ch (dh e ⟨zs,ad,k,F8,F8⟩ fr ops n):=rfl
theorem ZK{ops:List Int}{i j:Nat}(hol:ops.length=i*5)(hj:j<i):(opAt ops j).getD 0 0=ops.getD (j*5) 0∧(opAt ops j).getD 1 0=ops.getD (j*5+1) 0∧(ops.drop (j*5+3)).take 2=[(opAt ops j).getD 3 0,(opAt ops j).getD 4 0]:=by
 have hoe:opAt ops j=(ops.drop (j*5)).take 5:=by unfold opAt;rfl
 rw[hoe]
 refine⟨by simp[List.getD_eq_getElem?_getD],by simp[List.getD_eq_getElem?_getD],List.ext_getElem (by simp;omega) fun m h1 h2=>?_⟩
 have hm:m=0∨m=1:=by simp at h2;omega
 rcases hm with rfl|rfl
 ·simp[List.getD_eq_getElem?_getD,show j*5+3<ops.length by omega]
 ·simp[List.getD_eq_getElem?_getD,show j*5+4<ops.length by omega,show j*5+3+1=j*5+4 by omega]
set_option maxHeartbeats 4000000 in
theorem vP(e:Int)(zs:List Int)(ad:List Bool)(k:Int)(ch:List UInt8)(fr:Int)(ops:List Int)(n:Nat)(hn:n≤1000000):
  aQ 44 [.agg (bR e zs ad k ch),.v (.int .i64 fr),.row n [.ints .i64 (n*5) ops]] (.t (Fa e zs ad k ch fr ops n)):=by
 refine gY fun hl=>?_
 obtain⟨⟨_,hzl,hal,_,_,_⟩,⟨hol,_⟩,_⟩:=hl
 rw[ak6]
 refine dF (E:=bj1) Tryz.func44 Tryz.ntmps44 ?_
 cases hV:dQ e zs ad k with
 |false=>
  have hr:dh e ⟨zs,ad,k,F8,F8⟩ fr ops n=(1,⟨zs,ad,k,F8,F8⟩):=by simp[dh,hV]
  rw[hr]
  clear hr
  refine aX ?_;(try exact⟨⟩)
  refine aM.mk (aB 1 ?_)
  by_cases hn0:n=0
  ·subst hn0
   refine aX ?_;(try exact⟨⟩)
   rfl
  ·have hn1:(0:Int)<(n:Int):=by omega
   refine aX ?_;(try exact⟨⟩)
   rfl
 |true=>
 by_cases h4:n>4
 ·have hr:dh e ⟨zs,ad,k,F8,F8⟩ fr ops n=(1,⟨zs,ad,k,F8,F8⟩):=by simp[dh,hV,h4]
  have h41:decide ((n:Int)>4)=true:=by simp;omega
  have h40:(0:Int)<(n:Int):=by omega
  rw[hr]
  clear hr
  refine aX ?_;(try exact⟨⟩)
  refine aM.mk (aB 1 ?_)
  refine aX ?_;(try exact⟨⟩)
  rfl
 have h41:decide ((n:Int)>4)=false:=by simp;omega
 have h42:decide ((n:Int)≤4)=!iR ops 0:=by
  have:iR ops 0=false:=by unfold iR;rfl
  rw[this];simp;omega
 refine aX ?_;(try exact⟨⟩)
 refine aM.mk (gB [1,2,3,6,7,8,10,11,12,13,14] 7 (fun st=>∃i:Nat,i≤n∧∃b:Bool,b=!iR ops i∧st=⟨[.ah,.d (.v (.int .i64 fr)),.d (.row n [.ints .i64 (n*5) ops]),.ptr 0 0,.ah,.ah,.ptr 1 0,.ptr 2 0,.ptr 3 0,.ah,.ptr 4 0,.ptr 5 0,.ptr 6 0,.d (.v (.bool b)),.d (.v (.int .i64 (i:Nat))),.ah,.ah,.ah,.ah,.ah,.ah,.ah,.ah,.ah,.ah,.ah,.ah,.ah,.ah,.ah,.ah,.ah,.ah,.ah,.ah,.ah,.ah,.ah,.ah,.ah,.ah,.ah,.ah,.ah,.ah,.ah,.ah,.ah,.ah,.ah,.ah,.ah,.ah,.ah,.ah,.ah,.ah,.ah,.ah,.ah,.ah,.ah,.ah,.ah,.ah,.ah,.ah,.ah,.ah,.ah,.ah,.ah,.ah,.ah,.ah,.ah,.ah,.ah,.ah,.ah,.ah,.ah,.ah,.ah,.ah,.ah,.ah,.ah,.ah,.ah,.ah,.ah,.ah,.ah,.ah,.ah,.ah,.ah,.ah,.ah,.ah,.ah,.ah,.ah,.ah,.ah,.ah,.ah,.ah,.ah,.ah,.ah,.ah,.ah,.ah,.ah,.ah,.ah,.ah,.ah,.ah,.ah,.ah,.ah,.ah,.ah],[some (.var (bR e zs ad k ch)),some (.var wL),some (.var [.bools 8 F8]),some (.var [.bools 8 F8]),some (.var [.bools 8 F8]),some (.var [.bools 8 F8]),some (.var [.bools 8 F8])]⟩) (fun s=>n-lM s 14) rfl ⟨0,by omega,decide ((n:Int)≤4),h42,rfl⟩ ?_)
 clear h42
 rintro st ⟨i,hi,b,hb,rfl⟩
 have hw:IntKind.i64.wrap ((i:Int)+1)=((i+1:Nat):Int):=by rw[dM (by omega) (by omega)];omega
 have hbad:b=false→dh e ⟨zs,ad,k,F8,F8⟩ fr ops n=(1,⟨zs,ad,k,F8,F8⟩):=by
  intro hb0
  have hO:iR ops n=true:=by
   have h1:iR ops i=true:=by rw[hb0]at hb;cases h:iR ops i with
    |true=>rfl
    |false=>rw[h]at hb;cases hb
   have h2:=DZ ops (n-i) i h1
   rwa [show i+(n-i)=n by omega]at h2
  simp[dh,hO]
 by_cases hi2:i<n
 ·have hlt:decide ((i:Int)<(n:Int))=true:=by simp;omega
  cases b with
  |true=>
   clear hbad
   refine aX ?_;(try exact⟨⟩)
   have hop:opAt ops i=(ops.drop (i*5)).take 5:=by unfold opAt;rfl
   refine⟨⟨i+1,by omega,ownB ((ops.drop (i*5)).take 5),?_,by rw[←hw];rfl⟩,?_⟩
   ·rw[D5,←hop]
    cases h:iR ops i with
    |true=>rw[h]at hb;cases hb
    |false=>cases ownB (opAt ops i)<;>rfl
   ·show n- (IntKind.i64.wrap ((i:Int)+1)).toNat<n- (i:Int).toNat
    rw[hw];omega
  |false=>
   rw[hbad rfl]
   clear hbad hb
   refine aX ?_;(try exact⟨⟩)
   rfl
 ·obtain rfl:i=n:=by omega
  have hlt:decide ((i:Int)<(i:Int))=false:=by simp
  cases b with
  |false=>
   rw[hbad rfl]
   clear hbad hb
   refine aX ?_;(try exact⟨⟩)
   rfl
  |true=>
   clear hbad hw hi hi2
   have hO:iR ops i=false:=by
    cases h:iR ops i with
    |true=>rw[h]at hb;cases hb
    |false=>rfl
   clear hb
   cases hM:bn zs fr with
   |false=>
    have hr:dh e ⟨zs,ad,k,F8,F8⟩ fr ops i=(6,⟨zs,ad,k,F8,F8⟩):=by simp[dh,hV,h4,hO,hM]
    rw[hr]
    clear hr
    refine aX ?_;(try exact⟨⟩)
    rfl
   |true=>
    have hI:Inv ⟨zs,ad,k,F8,F8⟩:=Zi hV hzl hal
    have hr:dh e ⟨zs,ad,k,F8,F8⟩ fr ops i=(if(gU fr ops i 0 ⟨zs,ad,k,F8,F8⟩).1≠0 then gU fr ops i 0 ⟨zs,ad,k,F8,F8⟩else if((jq (gU fr ops i 0 ⟨zs,ad,k,F8,F8⟩).2.ad:Nat):Int)<(gU fr ops i 0 ⟨zs,ad,k,F8,F8⟩).2.k then(7,(gU fr ops i 0 ⟨zs,ad,k,F8,F8⟩).2)else(0,(gU fr ops i 0 ⟨zs,ad,k,F8,F8⟩).2)):=by
     simp only[dh,hV,hO,hM,decide_eq_false h4]
     simp
    rw[hr]
    clear hr
    refine aX ?_;(try exact⟨⟩)
    have hR0:gU fr ops i 0 ⟨zs,ad,k,F8,F8⟩=gU fr ops i 0 ⟨zs,ad,k,F8,F8⟩:=rfl
    generalize hR:gU fr ops i 0 ⟨zs,ad,k,F8,F8⟩=R at*
    refine aM.mk (gB [1,2,3,6,7,8,10,11,12,15] 7 (fun st=>∃j:Nat,j≤i∧∃q:Vw,Inv q∧gU fr ops (i-j) j q=R∧st=⟨[.ah,.d (.v (.int .i64 fr)),.d (.row i [.ints .i64 (i*5) ops]),.ptr 0 0,.ah,.ah,.ptr 1 0,.ptr 2 0,.ptr 3 0,.ah,.ptr 4 0,.ptr 5 0,.ptr 6 0,.ah,.ah,.d (.v (.int .i64 (j:Nat))),.ah,.ah,.ah,.ah,.ah,.ah,.ah,.ah,.ah,.ah,.ah,.ah,.ah,.ah,.ah,.ah,.ah,.ah,.ah,.ah,.ah,.ah,.ah,.ah,.ah,.ah,.ah,.ah,.ah,.ah,.ah,.ah,.ah,.ah,.ah,.ah,.ah,.ah,.ah,.ah,.ah,.ah,.ah,.ah,.ah,.ah,.ah,.ah,.ah,.ah,.ah,.ah,.ah,.ah,.ah,.ah,.ah,.ah,.ah,.ah,.ah,.ah,.ah,.ah,.ah,.ah,.ah,.ah,.ah,.ah,.ah,.ah,.ah,.ah,.ah,.ah,.ah,.ah,.ah,.ah,.ah,.ah,.ah,.ah,.ah,.ah,.ah,.ah,.ah,.ah,.ah,.ah,.ah,.ah,.ah,.ah,.ah,.ah,.ah,.ah,.ah,.ah,.ah,.ah,.ah,.ah,.ah,.ah,.ah,.ah],[some (.var (bR e q.zs q.ad q.k ch)),some (.var wL),some (.var [.bools 8 F8]),some (.var [.bools 8 F8]),some (.var [.bools 8 q.ng]),some (.var [.bools 8 q.gn]),some (.var [.bools 8 F8])]⟩) (fun s=>i-lM s 15) rfl ⟨0,by omega,_,hI,hR,rfl⟩ ?_)
    clear hR hR0 hV h41 h4 hO hM hI hlt hzl hal
    rintro st ⟨j,hj,⟨zs,ad,k,ng,gn⟩,hI,hrun,rfl⟩
    have hw:IntKind.i64.wrap ((j:Int)+1)=((j+1:Nat):Int):=by rw[dM (by omega) (by omega)];omega
    by_cases hj2:j<i
    ·have hlt:decide ((j:Int)<(i:Int))=true:=by simp;omega
     obtain⟨d,hd⟩:∃d,i-j=d+1:=⟨i-j-1,by omega⟩
     rw[hd]at hrun
     unfold gU at hrun
     obtain⟨g0,g1,g3⟩:=ZK hol hj2
     by_cases k1:ops.getD (j*5) 0=1
     ·have hk1:(ops.getD (j*5) 0==1)=true:=by simpa using k1
      have ee:fq ⟨zs,ad,k,ng,gn⟩ fr (opAt ops j)=bY zs ((ops.drop (j*5+3)).take 2):=by
       unfold fq;rw[if_pos (by rw[g0];exact k1),g3]
      by_cases he:bY zs ((ops.drop (j*5+3)).take 2)=0
      ·have he1:decide (bY zs ((ops.drop (j*5+3)).take 2)=0)=true:=decide_eq_true he
       have EZ:dG zs<8:=by
        rw[g3]at he
        exact(oz (errAdd_0 he).1).1
       have he':fq ⟨zs,ad,k,ng,gn⟩ fr (opAt ops j)=0:=by rw[ee];exact he
       have nx:fV ⟨zs,ad,k,ng,gn⟩ (opAt ops j)=⟨d9 zs ((ops.drop (j*5+3)).take 2) (dG zs:Nat),ad.set (dG zs) false,k,ng.set (dG zs) true,gn⟩:=by
        rw[←uJ hI fr he'];unfold yZ;rw[if_pos (by rw[g0];exact k1),←g3]
       have hI':=xE hI fr he'
       rw[nx]at hI'
       rw[if_pos he',nx]at hrun
       clear nx he' ee g0 g1 g3
       cases hg:ng.getD (dG zs) false with
       |true=>
        refine aX ?_;(try exact⟨⟩)
        refine⟨⟨j+1,by omega,_,hI',by rw[show i- (j+1)=d by omega];exact hrun,by rw[←hw];rfl⟩,?_⟩
        show i- (IntKind.i64.wrap ((j:Int)+1)).toNat<i- (j:Int).toNat
        rw[hw];omega
       |false=>
        refine aX ?_;(try exact⟨⟩)
        refine⟨⟨j+1,by omega,_,hI',by rw[show i- (j+1)=d by omega];exact hrun,by rw[←hw];rfl⟩,?_⟩
        show i- (IntKind.i64.wrap ((j:Int)+1)).toNat<i- (j:Int).toNat
        rw[hw];omega
      ·have he1:decide (bY zs ((ops.drop (j*5+3)).take 2)=0)=false:=decide_eq_false he
       have he2:(bY zs ((ops.drop (j*5+3)).take 2)==0)=false:=by simpa using he
       have he3:(bY zs ((ops.drop (j*5+3)).take 2) !=0)=true:=by simpa using he
       have he':fq ⟨zs,ad,k,ng,gn⟩ fr (opAt ops j)≠0:=by rw[ee];exact he
       rw[if_neg he']at hrun
       rw[←hrun,if_pos he',ee]
       clear ee g0 g1 g3 he' hrun
       cases hg:ng.getD 0 false with
       |true=>
        refine aX ?_;(try exact⟨⟩)
        exact(congrArg bP.t (show aw1 e ch (_,_)=_ from if_neg he)).symm
       |false=>
        refine aX ?_;(try exact⟨⟩)
        exact(congrArg bP.t (show aw1 e ch (_,_)=_ from if_neg he)).symm
     ·have hk1:(ops.getD (j*5) 0==1)=false:=by simpa using k1
      have ee:iB zs ad fr ((ops.drop (j*5)).take 5)=fq ⟨zs,ad,k,ng,gn⟩ fr (opAt ops j):=by
       rw[←NT hI,NS,if_neg (by rw[g0];exact k1)]
       unfold opAt;rfl
      by_cases he:iB zs ad fr ((ops.drop (j*5)).take 5)=0
      ·have he1:decide (iB zs ad fr ((ops.drop (j*5)).take 5)=0)=true:=decide_eq_true he
       have he':fq ⟨zs,ad,k,ng,gn⟩ fr (opAt ops j)=0:=by rw[←ee];exact he
       have hI':=xE hI fr he'
       rw[if_pos he']at hrun
       by_cases k2:ops.getD (j*5) 0=2
       ·have hk2:(ops.getD (j*5) 0==2)=true:=by simpa using k2
        have nx:fV ⟨zs,ad,k,ng,gn⟩ (opAt ops j)=⟨tO zs ((ops.drop (j*5)).take 5),tL ad ((ops.drop (j*5)).take 5),tN k ((ops.drop (j*5)).take 5),ng.set (ops.getD (j*5+1) 0).toNat false,gn.set (ops.getD (j*5+1) 0).toNat true⟩:=by
         rw[←uJ hI fr he'];unfold yZ;rw[if_neg (by rw[g0];exact k1),if_pos (by rw[g0];exact k2),if_pos (by rw[g0];exact k2),g1]
         unfold opAt;rfl
        have hb:0≤ops.getD (j*5+1) 0∧ops.getD (j*5+1) 0<8:=by
         unfold fq gH at he'
         rw[if_neg (by rw[g0];exact k1),if_pos (by rw[g0];exact k2),g1]at he'
         have hm:bn zs (ops.getD (j*5+1) 0)=true:=by
          cases hq:bn zs (ops.getD (j*5+1) 0)with
          |true=>rfl
          |false=>rw[if_pos (.inr hq)]at he';cases he'
         exact eX hm
        obtain⟨hb0,hb1⟩:=hb
        rw[nx]at hI' hrun
        clear nx he' ee g0 g1 g3
        refine aX ?_;(try exact⟨⟩)
        refine⟨⟨j+1,by omega,_,hI',by rw[show i- (j+1)=d by omega];exact hrun,by rw[←hw];rfl⟩,?_⟩
        show i- (IntKind.i64.wrap ((j:Int)+1)).toNat<i- (j:Int).toNat
        rw[hw];omega
       ·have hk2:(ops.getD (j*5) 0==2)=false:=by simpa using k2
        have nx:fV ⟨zs,ad,k,ng,gn⟩ (opAt ops j)=⟨tO zs ((ops.drop (j*5)).take 5),tL ad ((ops.drop (j*5)).take 5),tN k ((ops.drop (j*5)).take 5),ng,gn⟩:=by
         rw[←uJ hI fr he'];unfold yZ;rw[if_neg (by rw[g0];exact k1),if_neg (by rw[g0];exact k2),if_neg (by rw[g0];exact k2)]
         unfold opAt;rfl
        rw[nx]at hI' hrun
        clear nx he' ee g0 g1 g3
        refine aX ?_;(try exact⟨⟩)
        refine⟨⟨j+1,by omega,_,hI',by rw[show i- (j+1)=d by omega];exact hrun,by rw[←hw];rfl⟩,?_⟩
        show i- (IntKind.i64.wrap ((j:Int)+1)).toNat<i- (j:Int).toNat
        rw[hw];omega
      ·have he1:decide (iB zs ad fr ((ops.drop (j*5)).take 5)=0)=false:=decide_eq_false he
       have he2:(iB zs ad fr ((ops.drop (j*5)).take 5)==0)=false:=by simpa using he
       have he3:(iB zs ad fr ((ops.drop (j*5)).take 5) !=0)=true:=by simpa using he
       have he':fq ⟨zs,ad,k,ng,gn⟩ fr (opAt ops j)≠0:=by rw[←ee];exact he
       rw[if_neg he']at hrun
       rw[←hrun,if_pos he',←ee]
       clear ee g0 g1 g3 he' hrun
       refine aX ?_;(try exact⟨⟩)
       exact(congrArg bP.t (show aw1 e ch (_,_)=_ from if_neg he)).symm
    ·obtain rfl:j=i:=by omega
     have hlt:decide ((j:Int)<(j:Int))=false:=by simp
     rw[Nat.sub_self]at hrun
     unfold gU at hrun
     subst hrun
     rw[if_neg (by simp)]
     by_cases hc:((jq ad:Nat):Int)<k
     ·have hc1:decide (((jq ad:Nat):Int)<k)=true:=decide_eq_true hc
      rw[if_pos hc]
      refine aX ?_;(try exact⟨⟩)
      rfl
     ·have hc1:decide (((jq ad:Nat):Int)<k)=false:=decide_eq_false hc
      rw[if_neg hc]
      refine aX ?_;(try exact⟨⟩)
      rfl
end
end Go.Proofs.YtjdjelopkhjdnaaGreatDoor
