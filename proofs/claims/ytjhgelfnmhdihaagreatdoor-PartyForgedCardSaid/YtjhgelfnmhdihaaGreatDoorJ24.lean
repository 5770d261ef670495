/-
  Views: operations done, as the document does them.
-/
import Derived.Test.YtjhgelfnmhdihaaGreatDoorJ23
namespace Go.Proofs.YtjhgelfnmhdihaaGreatDoor
set_option linter.unusedVariables false
set_option linter.unusedSimpArgs false
set_option maxRecDepth 100000
open Go.RowKit
section
open Pm
attribute [local irreducible] aU aZ bR cO bG dF dH jU jC dA cK rQ bn iG tY tV tX dU iV jh gP opAt ownB
def Jw:Nat→Bk→List A→(bP→Bk→Prop)→Prop
 |0,.var [.ints .i64 1 [e],.ints .i64 31 zs,.bools 8 ad,.ints .i64 1 [k],.bytes 32 ch],[.agg [.ints .i64 2 xs]],K=>
  mR (aU (decide (cK zs xs=0)) (K (.t [.v (.int .i64 ((dH zs:Nat):Int)),.v (.int .i64 0)]) (.var (bS e (dA zs xs (dH zs:Nat)) (ad.set (dH zs) false) k ch))) (K (.t [.v (.int .i64 0),.v (.int .i64 (cK zs xs))]) (.var (bS e zs ad k ch))))
 |_,_,_,_=>False
theorem PO:∀pos x args K,Jw pos x args K→∃r x',gq 136 pos x args r x'∧K r x':=by
 intro pos x args K h
 unfold Jw at h
 split at h
 ·next e zs ad k ch xs=>
  have h:=h.out
  have ho:=Sc e zs ad k ch xs
  by_cases he:cK zs xs=0
  ·rw[decide_eq_true he,iM]at h
   rw[if_pos he,if_pos he,he]at ho
   exact⟨_,_,ho,h⟩
  ·rw[decide_eq_false he,gW]at h
   rw[if_neg he,if_neg he]at ho
   exact⟨_,_,ho,h⟩
 ·exact h.elim
def JD:Nat→Bk→List A→(bP→Bk→Prop)→Prop
 |0,.var [.ints .i64 1 [e],.ints .i64 31 zs,.bools 8 ad,.ints .i64 1 [k],.bytes 32 ch],[.v (.int .i64 fr),.agg [.ints .i64 5 o]],K=>
  mR (aU (decide (iG zs ad fr o=0)) (K (.d (.v (.int .i64 0))) (.var (bS e (tY zs o) (tV ad o) (tX k o) ch))) (K (.d (.v (.int .i64 (iG zs ad fr o)))) (.var (bS e zs ad k ch))))
 |_,_,_,_=>False
theorem PY:∀pos x args K,JD pos x args K→∃r x',gq 137 pos x args r x'∧K r x':=by
 intro pos x args K h
 unfold JD at h
 split at h
 ·next e zs ad k ch fr o=>
  have h:=h.out
  have ho:=ax4 e zs ad k ch fr o
  by_cases he:iG zs ad fr o=0
  ·rw[decide_eq_true he,iM]at h
   rw[if_pos he,he]at ho
   exact⟨_,_,ho,h⟩
  ·rw[decide_eq_false he,gW]at h
   rw[if_neg he]at ho
   exact⟨_,_,ho,h⟩
 ·exact h.elim
noncomputable def bk8:ay:=Rk.kG 136 Jw PO ⟨_,Tryz.func136,by kernel_rfl,by kernel_rfl⟩
noncomputable def bk9:ay:=bk8.kG 137 JD PY ⟨_,Tryz.func137,by kernel_rfl,by kernel_rfl⟩
theorem Ed(ops:List Int)(i:Nat):iV ops (i+1)=(iV ops i|| !ownB (opAt ops i)):=by
 unfold iV
 rw[List.range_succ,List.any_append]
 simp
theorem Ec(ops:List Int):∀(d i:Nat),iV ops i=true→iV ops (i+d)=true
 |0,i,h=>h
 |d+1,i,h=>by
  rw[←Nat.add_assoc,Ed,Ec ops d i h];rfl
def ax0(e:Int)(ch:List UInt8)(d:Int×Vw):List A:=
 if d.1=0 then[.agg (bS e d.2.zs d.2.ad d.2.k ch),.agg [.bools 8 d.2.ng],.agg [.bools 8 d.2.gn],.v (.int .i64 0)]else[.agg wP,.agg [.bools 8 F8],.agg [.bools 8 F8],.v (.int .i64 d.1)]
theorem al2(e:Int)(zs:List Int)(ad:List Bool)(k:Int)(ch:List UInt8)(fr:Int)(ops:List Int)(n:Nat):Fu e zs ad k ch fr ops n=ax0 e ch (cZ e ⟨zs,ad,k,F8,F8⟩ fr ops n):=rfl
theorem ZR{ops:List Int}{i j:Nat}(hol:ops.length=i*5)(hj:j<i):(opAt ops j).getD 0 0=ops.getD (j*5) 0∧(opAt ops j).getD 1 0=ops.getD (j*5+1) 0∧(ops.drop (j*5+3)).take 2=[(opAt ops j).getD 3 0,(opAt ops j).getD 4 0]:=by
 have hoe:opAt ops j=(ops.drop (j*5)).take 5:=by unfold opAt;rfl
 rw[hoe]
 refine⟨by simp[List.getD_eq_getElem?_getD],by simp[List.getD_eq_getElem?_getD],List.ext_getElem (by simp;omega) fun m h1 h2=>?_⟩
 have hm:m=0∨m=1:=by simp at h2;omega
 rcases hm with rfl|rfl
 ·simp[List.getD_eq_getElem?_getD,show j*5+3<ops.length by omega]
 ·simp[List.getD_eq_getElem?_getD,show j*5+4<ops.length by omega,show j*5+3+1=j*5+4 by omega]
set_option maxHeartbeats 4000000 in
theorem vU(e:Int)(zs:List Int)(ad:List Bool)(k:Int)(ch:List UInt8)(fr:Int)(ops:List Int)(n:Nat)(hn:n≤1000000):
  aP 61 [.agg (bS e zs ad k ch),.v (.int .i64 fr),.row n [.ints .i64 (n*5) ops]] (.t (Fu e zs ad k ch fr ops n)):=by
 refine iq fun hl=>?_
 obtain⟨⟨_,hzl,hal,_,_,_⟩,⟨hol,_⟩,_⟩:=hl
 rw[al2]
 refine dK (E:=bk9) Tryz.func61 Tryz.ntmps61 ?_
 cases hV:dU e zs ad k with
 |false=>
  have hr:cZ e ⟨zs,ad,k,F8,F8⟩ fr ops n=(1,⟨zs,ad,k,F8,F8⟩):=by simp[cZ,hV]
  rw[hr]
  clear hr
  refine aX ?_;(try exact⟨⟩)
  refine aM.mk (aB 1 ?_)
  by_cases hn0:n=0
  ·subst hn0
   refine aX ?_;(try exact⟨⟩)
   rfl
  ·have hn1:(0:Int)<(n:Int):=by omega
   refine aX ?_;(try exact⟨⟩)
   rfl
 |true=>
 by_cases h4:n>4
 ·have hr:cZ e ⟨zs,ad,k,F8,F8⟩ fr ops n=(1,⟨zs,ad,k,F8,F8⟩):=by simp[cZ,hV,h4]
  have h41:decide ((n:Int)>4)=true:=by simp;omega
  have h40:(0:Int)<(n:Int):=by omega
  rw[hr]
  clear hr
  refine aX ?_;(try exact⟨⟩)
  refine aM.mk (aB 1 ?_)
  refine aX ?_;(try exact⟨⟩)
  rfl
 have h41:decide ((n:Int)>4)=false:=by simp;omega
 have h42:decide ((n:Int)≤4)=!iV ops 0:=by
  have:iV ops 0=false:=by unfold iV;rfl
  rw[this];simp;omega
 refine aX ?_;(try exact⟨⟩)
 refine aM.mk (gG [1,2,3,6,7,8,10,11,12,13,14] 7 (fun st=>∃i:Nat,i≤n∧∃b:Bool,b=!iV ops i∧st=⟨[.ah,.d (.v (.int .i64 fr)),.d (.row n [.ints .i64 (n*5) ops]),.ptr 0 0,.ah,.ah,.ptr 1 0,.ptr 2 0,.ptr 3 0,.ah,.ptr 4 0,.ptr 5 0,.ptr 6 0,.d (.v (.bool b)),.d (.v (.int .i64 (i:Nat))),.ah,.ah,.ah,.ah,.ah,.ah,.ah,.ah,.ah,.ah,.ah,.ah,.ah,.ah,.ah,.ah,.ah,.ah,.ah,.ah,.ah,.ah,.ah,.ah,.ah,.ah,.ah,.ah,.ah,.ah,.ah,.ah,.ah,.ah,.ah,.ah,.ah,.ah,.ah,.ah,.ah,.ah,.ah,.ah,.ah,.ah,.ah,.ah,.ah,.ah,.ah,.ah,.ah,.ah,.ah,.ah,.ah,.ah,.ah,.ah,.ah,.ah,.ah,.ah,.ah,.ah,.ah,.ah,.ah,.ah,.ah,.ah,.ah,.ah,.ah,.ah,.ah,.ah,.ah,.ah,.ah,.ah,.ah,.ah,.ah,.ah,.ah,.ah,.ah,.ah,.ah,.ah,.ah,.ah,.ah,.ah,.ah,.ah,.ah,.ah,.ah,.ah,.ah,.ah,.ah,.ah,.ah,.ah,.ah,.ah,.ah],[some (.var (bS e zs ad k ch)),some (.var wP),some (.var [.bools 8 F8]),some (.var [.bools 8 F8]),some (.var [.bools 8 F8]),some (.var [.bools 8 F8]),some (.var [.bools 8 F8])]⟩) (fun s=>n-lX s 14) rfl ⟨0,by omega,decide ((n:Int)≤4),h42,rfl⟩ ?_)
 clear h42
 rintro st ⟨i,hi,b,hb,rfl⟩
 have hw:IntKind.i64.wrap ((i:Int)+1)=((i+1:Nat):Int):=by rw[dR (by omega) (by omega)];omega
 have hbad:b=false→cZ e ⟨zs,ad,k,F8,F8⟩ fr ops n=(1,⟨zs,ad,k,F8,F8⟩):=by
  intro hb0
  have hO:iV ops n=true:=by
   have h1:iV ops i=true:=by rw[hb0]at hb;cases h:iV ops i with
    |true=>rfl
    |false=>rw[h]at hb;cases hb
   have h2:=Ec ops (n-i) i h1
   rwa [show i+(n-i)=n by omega]at h2
  simp[cZ,hO]
 by_cases hi2:i<n
 ·have hlt:decide ((i:Int)<(n:Int))=true:=by simp;omega
  cases b with
  |true=>
   clear hbad
   refine aX ?_;(try exact⟨⟩)
   have hop:opAt ops i=(ops.drop (i*5)).take 5:=by unfold opAt;rfl
   refine⟨⟨i+1,by omega,ownB ((ops.drop (i*5)).take 5),?_,by rw[←hw];rfl⟩,?_⟩
   ·rw[Ed,←hop]
    cases h:iV ops i with
    |true=>rw[h]at hb;cases hb
    |false=>cases ownB (opAt ops i)<;>rfl
   ·show n- (IntKind.i64.wrap ((i:Int)+1)).toNat<n- (i:Int).toNat
    rw[hw];omega
  |false=>
   rw[hbad rfl]
   clear hbad hb
   refine aX ?_;(try exact⟨⟩)
   rfl
 ·obtain rfl:i=n:=by omega
  have hlt:decide ((i:Int)<(i:Int))=false:=by simp
  cases b with
  |false=>
   rw[hbad rfl]
   clear hbad hb
   refine aX ?_;(try exact⟨⟩)
   rfl
  |true=>
   clear hbad hw hi hi2
   have hO:iV ops i=false:=by
    cases h:iV ops i with
    |true=>rw[h]at hb;cases hb
    |false=>rfl
   clear hb
   cases hM:bn zs fr with
   |false=>
    have hr:cZ e ⟨zs,ad,k,F8,F8⟩ fr ops i=(6,⟨zs,ad,k,F8,F8⟩):=by simp[cZ,hV,h4,hO,hM]
    rw[hr]
    clear hr
    refine aX ?_;(try exact⟨⟩)
    rfl
   |true=>
    have hI:Inv ⟨zs,ad,k,F8,F8⟩:=Zp hV hzl hal
    have hr:cZ e ⟨zs,ad,k,F8,F8⟩ fr ops i=(if(gP fr ops i 0 ⟨zs,ad,k,F8,F8⟩).1≠0 then gP fr ops i 0 ⟨zs,ad,k,F8,F8⟩else if((jh (gP fr ops i 0 ⟨zs,ad,k,F8,F8⟩).2.ad:Nat):Int)<(gP fr ops i 0 ⟨zs,ad,k,F8,F8⟩).2.k then(7,(gP fr ops i 0 ⟨zs,ad,k,F8,F8⟩).2)else(0,(gP fr ops i 0 ⟨zs,ad,k,F8,F8⟩).2)):=by
     simp only[cZ,hV,hO,hM,decide_eq_false h4]
     simp
    rw[hr]
    clear hr
    refine aX ?_;(try exact⟨⟩)
    have hR0:gP fr ops i 0 ⟨zs,ad,k,F8,F8⟩=gP fr ops i 0 ⟨zs,ad,k,F8,F8⟩:=rfl
    generalize hR:gP fr ops i 0 ⟨zs,ad,k,F8,F8⟩=R at*
    refine aM.mk (gG [1,2,3,6,7,8,10,11,12,15] 7 (fun st=>∃j:Nat,j≤i∧∃q:Vw,Inv q∧gP fr ops (i-j) j q=R∧st=⟨[.ah,.d (.v (.int .i64 fr)),.d (.row i [.ints .i64 (i*5) ops]),.ptr 0 0,.ah,.ah,.ptr 1 0,.ptr 2 0,.ptr 3 0,.ah,.ptr 4 0,.ptr 5 0,.ptr 6 0,.ah,.ah,.d (.v (.int .i64 (j:Nat))),.ah,.ah,.ah,.ah,.ah,.ah,.ah,.ah,.ah,.ah,.ah,.ah,.ah,.ah,.ah,.ah,.ah,.ah,.ah,.ah,.ah,.ah,.ah,.ah,.ah,.ah,.ah,.ah,.ah,.ah,.ah,.ah,.ah,.ah,.ah,.ah,.ah,.ah,.ah,.ah,.ah,.ah,.ah,.ah,.ah,.ah,.ah,.ah,.ah,.ah,.ah,.ah,.ah,.ah,.ah,.ah,.ah,.ah,.ah,.ah,.ah,.ah,.ah,.ah,.ah,.ah,.ah,.ah,.ah,.ah,.ah,.ah,.ah,.ah,.ah,.ah,.ah,.ah,.ah,.ah,.ah,.ah,.ah,.ah,.ah,.ah,.ah,.ah,.ah,.ah,.ah,.ah,.ah,.ah,.ah,.ah,.ah,.ah,.ah,.ah,.ah,.ah,.ah,.ah,.ah,.ah,.ah,.ah,.ah,.ah],[some (.var (bS e q.zs q.ad q.k ch)),some (.var wP),some (.var [.bools 8 F8]),some (.var [.bools 8 F8]),some (.var [.bools 8 q.ng]),some (.var [.bools 8 q.gn]),some (.var [.bools 8 F8])]⟩) (fun s=>i-lX s 15) rfl ⟨0,by omega,_,hI,hR,rfl⟩ ?_)
    clear hR hR0 hV h41 h4 hO hM hI hlt hzl hal
    rintro st ⟨j,hj,⟨zs,ad,k,ng,gn⟩,hI,hrun,rfl⟩
    have hw:IntKind.i64.wrap ((j:Int)+1)=((j+1:Nat):Int):=by rw[dR (by omega) (by omega)];omega
    by_cases hj2:j<i
    ·have hlt:decide ((j:Int)<(i:Int))=true:=by simp;omega
     obtain⟨d,hd⟩:∃d,i-j=d+1:=⟨i-j-1,by omega⟩
     rw[hd]at hrun
     unfold gP at hrun
     obtain⟨g0,g1,g3⟩:=ZR hol hj2
     by_cases k1:ops.getD (j*5) 0=1
     ·have hk1:(ops.getD (j*5) 0==1)=true:=by simpa using k1
      have ee:eX ⟨zs,ad,k,ng,gn⟩ fr (opAt ops j)=cK zs ((ops.drop (j*5+3)).take 2):=by
       unfold eX;rw[if_pos (by rw[g0];exact k1),g3]
      by_cases he:cK zs ((ops.drop (j*5+3)).take 2)=0
      ·have he1:decide (cK zs ((ops.drop (j*5+3)).take 2)=0)=true:=decide_eq_true he
       have Fp:dH zs<8:=by
        rw[g3]at he
        exact(oJ (errAdd_0 he).1).1
       have he':eX ⟨zs,ad,k,ng,gn⟩ fr (opAt ops j)=0:=by rw[ee];exact he
       have nx:eG ⟨zs,ad,k,ng,gn⟩ (opAt ops j)=⟨dA zs ((ops.drop (j*5+3)).take 2) (dH zs:Nat),ad.set (dH zs) false,k,ng.set (dH zs) true,gn⟩:=by
        rw[←uQ hI fr he'];unfold y8;rw[if_pos (by rw[g0];exact k1),←g3]
       have hI':=xH hI fr he'
       rw[nx]at hI'
       rw[if_pos he',nx]at hrun
       clear nx he' ee g0 g1 g3
       cases hg:ng.getD (dH zs) false with
       |true=>
        refine aX ?_;(try exact⟨⟩)
        refine⟨⟨j+1,by omega,_,hI',by rw[show i- (j+1)=d by omega];exact hrun,by rw[←hw];rfl⟩,?_⟩
        show i- (IntKind.i64.wrap ((j:Int)+1)).toNat<i- (j:Int).toNat
        rw[hw];omega
       |false=>
        refine aX ?_;(try exact⟨⟩)
        refine⟨⟨j+1,by omega,_,hI',by rw[show i- (j+1)=d by omega];exact hrun,by rw[←hw];rfl⟩,?_⟩
        show i- (IntKind.i64.wrap ((j:Int)+1)).toNat<i- (j:Int).toNat
        rw[hw];omega
      ·have he1:decide (cK zs ((ops.drop (j*5+3)).take 2)=0)=false:=decide_eq_false he
       have he2:(cK zs ((ops.drop (j*5+3)).take 2)==0)=false:=by simpa using he
       have he3:(cK zs ((ops.drop (j*5+3)).take 2) !=0)=true:=by simpa using he
       have he':eX ⟨zs,ad,k,ng,gn⟩ fr (opAt ops j)≠0:=by rw[ee];exact he
       rw[if_neg he']at hrun
       rw[←hrun,if_pos he',ee]
       clear ee g0 g1 g3 he' hrun
       cases hg:ng.getD 0 false with
       |true=>
        refine aX ?_;(try exact⟨⟩)
        exact(congrArg bP.t (show ax0 e ch (_,_)=_ from if_neg he)).symm
       |false=>
        refine aX ?_;(try exact⟨⟩)
        exact(congrArg bP.t (show ax0 e ch (_,_)=_ from if_neg he)).symm
     ·have hk1:(ops.getD (j*5) 0==1)=false:=by simpa using k1
      have ee:iG zs ad fr ((ops.drop (j*5)).take 5)=eX ⟨zs,ad,k,ng,gn⟩ fr (opAt ops j):=by
       rw[←Og hI,Oe,if_neg (by rw[g0];exact k1)]
       unfold opAt;rfl
      by_cases he:iG zs ad fr ((ops.drop (j*5)).take 5)=0
      ·have he1:decide (iG zs ad fr ((ops.drop (j*5)).take 5)=0)=true:=decide_eq_true he
       have he':eX ⟨zs,ad,k,ng,gn⟩ fr (opAt ops j)=0:=by rw[←ee];exact he
       have hI':=xH hI fr he'
       rw[if_pos he']at hrun
       by_cases k2:ops.getD (j*5) 0=2
       ·have hk2:(ops.getD (j*5) 0==2)=true:=by simpa using k2
        have nx:eG ⟨zs,ad,k,ng,gn⟩ (opAt ops j)=⟨tY zs ((ops.drop (j*5)).take 5),tV ad ((ops.drop (j*5)).take 5),tX k ((ops.drop (j*5)).take 5),ng.set (ops.getD (j*5+1) 0).toNat false,gn.set (ops.getD (j*5+1) 0).toNat true⟩:=by
         rw[←uQ hI fr he'];unfold y8;rw[if_neg (by rw[g0];exact k1),if_pos (by rw[g0];exact k2),if_pos (by rw[g0];exact k2),g1]
         unfold opAt;rfl
        have hb:0≤ops.getD (j*5+1) 0∧ops.getD (j*5+1) 0<8:=by
         unfold eX fC at he'
         rw[if_neg (by rw[g0];exact k1),if_pos (by rw[g0];exact k2),g1]at he'
         have hm:bn zs (ops.getD (j*5+1) 0)=true:=by
          cases hq:bn zs (ops.getD (j*5+1) 0)with
          |true=>rfl
          |false=>rw[if_pos (.inr hq)]at he';cases he'
         exact fA hm
        obtain⟨hb0,hb1⟩:=hb
        rw[nx]at hI' hrun
        clear nx he' ee g0 g1 g3
        refine aX ?_;(try exact⟨⟩)
        refine⟨⟨j+1,by omega,_,hI',by rw[show i- (j+1)=d by omega];exact hrun,by rw[←hw];rfl⟩,?_⟩
        show i- (IntKind.i64.wrap ((j:Int)+1)).toNat<i- (j:Int).toNat
        rw[hw];omega
       ·have hk2:(ops.getD (j*5) 0==2)=false:=by simpa using k2
        have nx:eG ⟨zs,ad,k,ng,gn⟩ (opAt ops j)=⟨tY zs ((ops.drop (j*5)).take 5),tV ad ((ops.drop (j*5)).take 5),tX k ((ops.drop (j*5)).take 5),ng,gn⟩:=by
         rw[←uQ hI fr he'];unfold y8;rw[if_neg (by rw[g0];exact k1),if_neg (by rw[g0];exact k2),if_neg (by rw[g0];exact k2)]
         unfold opAt;rfl
        rw[nx]at hI' hrun
        clear nx he' ee g0 g1 g3
        refine aX ?_;(try exact⟨⟩)
        refine⟨⟨j+1,by omega,_,hI',by rw[show i- (j+1)=d by omega];exact hrun,by rw[←hw];rfl⟩,?_⟩
        show i- (IntKind.i64.wrap ((j:Int)+1)).toNat<i- (j:Int).toNat
        rw[hw];omega
      ·have he1:decide (iG zs ad fr ((ops.drop (j*5)).take 5)=0)=false:=decide_eq_false he
       have he2:(iG zs ad fr ((ops.drop (j*5)).take 5)==0)=false:=by simpa using he
       have he3:(iG zs ad fr ((ops.drop (j*5)).take 5) !=0)=true:=by simpa using he
       have he':eX ⟨zs,ad,k,ng,gn⟩ fr (opAt ops j)≠0:=by rw[←ee];exact he
       rw[if_neg he']at hrun
       rw[←hrun,if_pos he',←ee]
       clear ee g0 g1 g3 he' hrun
       refine aX ?_;(try exact⟨⟩)
       exact(congrArg bP.t (show ax0 e ch (_,_)=_ from if_neg he)).symm
    ·obtain rfl:j=i:=by omega
     have hlt:decide ((j:Int)<(j:Int))=false:=by simp
     rw[Nat.sub_self]at hrun
     unfold gP at hrun
     subst hrun
     rw[if_neg (by simp)]
     by_cases hc:((jh ad:Nat):Int)<k
     ·have hc1:decide (((jh ad:Nat):Int)<k)=true:=decide_eq_true hc
      rw[if_pos hc]
      refine aX ?_;(try exact⟨⟩)
      rfl
     ·have hc1:decide (((jh ad:Nat):Int)<k)=false:=decide_eq_false hc
      rw[if_neg hc]
      refine aX ?_;(try exact⟨⟩)
      rfl
end
end Go.Proofs.YtjhgelfnmhdihaaGreatDoor
