/-
  Approvals: whether they are enough, by the document.
-/
import Derived.Test.YtjhgelfnmhdihaaGreatDoorJ30
namespace Go.Proofs.YtjhgelfnmhdihaaGreatDoor
set_option linter.unusedVariables false
set_option linter.unusedSimpArgs false
set_option maxRecDepth 100000
open Go.RowKit
section
open Pm
attribute [local irreducible] aU aZ bR aA au cO dA cZ dU aN aR bZ aF bD dB rT jP jo jQ fV dw jZ Fx oD
set_option maxHeartbeats 3000000 in
theorem Ap(e:Int)(zs:List Int)(ad:List Bool)(k:Int)(ch:List UInt8)(fr:Int)(ops:List Int)(n:Nat)(hn:n≤1000000)(vs:List Int)(m:Nat)(hm:m≤1000000)(hv:vs.length=m*3):
  aP 60 [.agg (bS e zs ad k ch),.v (.int .i64 fr),.row n [.ints .i64 (n*5) ops],.row m [.ints .i64 (m*3) vs]] (.d (.v (.int .i64 (bX e zs ad k ch fr ops n vs m)))):=by
 refine dK (E:=aC3) Tryz.func60 Tryz.ntmps60 ?_
 have hpl:=qU e zs ad k ch fr ops
 by_cases h0:n=0
 ·subst h0
  have hr:bX e zs ad k ch fr ops 0 vs m=if m=0 then 0 else 8:=by simp[bX]
  rw[hr]
  clear hr
  by_cases h:m=0
  ·subst h
   rw[if_pos rfl]
   refine uw ?_;(try exact⟨⟩)
  ·rw[if_neg h]
   have h1:(m:Int)>0:=by omega
   clear h
   refine uw ?_;(try exact⟨⟩)
 have h01:((n:Int)==0)=false:=by simpa using h0
 by_cases hd:(cZ e ⟨zs,ad,k,F8,F8⟩ fr ops n).1=0
 ·have hd1:decide ((cZ e ⟨zs,ad,k,F8,F8⟩ fr ops n).1=0)=true:=decide_eq_true hd
  obtain⟨N,hN,hok,hend⟩:=zW (p:=fun j=>mU zs ad (dw e zs ad k ch fr ops) vs j=true) m
  have hC:bX e zs ad k ch fr ops n vs m=if N=m then(if(m:Int)<k then 8 else 0)else qj ad vs N:=by
   rcases hend with rfl|⟨h1,h2⟩
   ·simp only[bX,h0,hd,yD hok];simp
   ·simp only[bX,h0,hd,Ra h1 hok h2]
    rw[if_neg (show ¬N=m by omega)]
    simp[Kw]
  rw[hC]
  clear hC hd
  refine uw ?_;(try exact⟨⟩)
  refine aM.mk (bV [3,4,8,13,14] [0,4] N (fun j=>⟨[.ah,.ah,.ah,.d (.row m [.ints .i64 (m*3) vs]),.ptr 0 0,.ah,.ah,.ah,.d (.v (.int .i64 0)),.ah,.ah,.ah,.ah,.ptr 1 0,.d (.v (.int .i64 (j:Nat))),.ah,.ah,.ah,.ah,.ah,.ah,.ah,.ah,.ah,.ah,.ah,.ah,.ah,.ah,.ah,.ah,.ah,.ah,.ah,.ah,.ah,.ah,.ah,.ah,.ah,.ah,.ah,.ah,.ah,.ah,.ah,.ah,.ah,.ah,.ah,.ah,.ah,.ah,.ah,.ah,.ah,.ah,.ah,.ah,.ah,.ah,.ah,.ah,.ah,.ah,.ah,.ah,.ah,.ah,.ah,.ah,.ah,.ah,.ah,.ah,.ah,.ah,.ah,.ah,.ah,.ah,.ah,.ah,.ah,.ah,.ah,.ah,.ah,.ah,.ah,.ah,.ah],[some (.var (bS e zs ad k ch)),some (.var [.bytes 32 (dw e zs ad k ch fr ops)])]⟩) ?_)
  intro j hj hl
  by_cases h3:j<m
  ·have h2:(j:Int)<m:=by omega
   have hF:=Qu hv hj h3 hok hend (if(m:Int)<k then 8 else 0)
   clear hok hend hj
   cases j with
   |zero=>
    have YG:List.take 2 (List.drop 1 vs)=[vs.getD 1 0,vs.getD 2 0]:=Qr (j:=0) hv h3
    simp only[Nat.zero_mul,Nat.zero_add,YG,List.getD_cons_zero,List.getD_cons_succ]at hF
    rcases hF with⟨f1,f2,f3⟩|⟨f1,f2,f3,f4,f5,f6⟩|⟨f1,f2,f3,f4,f5,f6,f7⟩|⟨f1,f2,f3,f4,f5,f6⟩
    ·rw[f3]
     clear f3
     refine uw ?_;(try exact⟨⟩)
    ·exact absurd f2 (by simp only[oD]at f4;omega)
    ·rw[f7]
     clear f7 f4
     refine uw ?_;(try exact⟨⟩)
     rw[YG]
     clear YG
     refine uw ?_;(try exact⟨⟩)
    ·clear f4
     refine uw ?_;(try exact⟨⟩)
     rw[YG]
     clear YG
     refine uw ?_;(try exact⟨⟩)
     refine hl.go f6 [3,4,8,13,14] [0,1] ?_
     rfl
   |succ i=>
    have hi:(((i+1:Nat):Int) -1).toNat=i:=by omega
    have eL:oD vs (i+1)=vs.getD ((((i+1:Nat):Int) -1).toNat*3) 0:=by rw[hi,oD]
    rw[eL]at hF
    have YG:List.take 2 (List.drop ((i+1)*3+1) vs)=[vs.getD ((i+1)*3+1) 0,vs.getD ((i+1)*3+2) 0]:=Qr (j:=i+1) hv h3
    simp only[YG,List.getD_cons_zero,List.getD_cons_succ]at hF
    clear eL hi
    rcases hF with⟨f1,f2,f3⟩|⟨f1,f2,f3,f4,f5,f6⟩|⟨f1,f2,f3,f4,f5,f6,f7⟩|⟨f1,f2,f3,f4,f5,f6⟩
    ·rw[f3]
     clear f3
     refine uw ?_;(try exact⟨⟩)
    ·rw[f6]
     clear f6
     refine uw ?_;(try exact⟨⟩)
    ·rw[f7]
     clear f7
     refine uw ?_;(try exact⟨⟩)
     rw[YG]
     clear YG
     refine uw ?_;(try exact⟨⟩)
    ·refine uw ?_;(try exact⟨⟩)
     rw[YG]
     clear YG
     refine uw ?_;(try exact⟨⟩)
     refine hl.go f6 [3,4,8,13,14] [0,1] ?_
     rfl
  ·have h4:¬(j:Int)<m:=by omega
   rw[if_pos (show N=m by omega)]
   clear hok hend hl
   by_cases hk:(m:Int)<k
   ·rw[if_pos hk]
    refine uw ?_;(try exact⟨⟩)
   ·rw[if_neg hk]
    refine uw ?_;(try exact⟨⟩)
 ·have hd1:decide ((cZ e ⟨zs,ad,k,F8,F8⟩ fr ops n).1=0)=false:=decide_eq_false hd
  have hr:bX e zs ad k ch fr ops n vs m=(cZ e ⟨zs,ad,k,F8,F8⟩ fr ops n).1:=by simp[bX,h0,hd]
  have hd2:((cZ e ⟨zs,ad,k,F8,F8⟩ fr ops n).1 !=0)=true:=by simpa using hd
  rw[hr]
  clear hr hd h0
  refine uw ?_;(try exact⟨⟩)
end
section
open Pm
attribute [local irreducible] aU aZ bR bZ aN wZ sw aT
end
section
open Pm
attribute [local irreducible] aU aZ bR bZ aN wZ sw
theorem Jd(zs:List Int){i:Nat}(h:i+3≤zs.length):aN (zs.take (i+3))=aN (zs.take i)++aN [zs.getD i 0,zs.getD (i+1) 0,zs.getD (i+2) 0]:=by
 rw[Bf zs h]
 simp[List.getD_eq_getElem?_getD,List.getElem?_take,List.getElem?_drop]
set_option maxHeartbeats 8000000 in
theorem ab4(c:CS)(hc:qL c):aP 37 [.agg (gZ c)] (.o 5 1 (eD c) [.bytes (eD c) (aT c)]):=by
 refine dK (E:=aB9) Tryz.func37 Tryz.ntmps37 ?_
 obtain⟨h1,h2,h3,h4,h5,h6⟩:=hc
 refine aj ?_;(try exact⟨⟩)
 generalize hp:tZ _ _ _=o
 obtain rfl:o=some [.own 3 24,.own 4 (c.n*40),.own 6 8]:=hp.symm.trans (lS rfl (pR rfl rfl) (lS rfl (pR rfl rfl) (lS rfl (pR rfl rfl) Ak)))
 clear hp
 have g1:(aN [c.e,c.fr,(c.n:Int)]).length=24:=jc _
 have g2:(aN c.ops).length=c.n*40:=by rw[jc,h4];omega
 have g3:(bZ (c.m:Int)).length=8:=fF _
 refine aj ?_;(try exact⟨⟩)
 have k1:(aN [c.e,c.fr,(c.n:Int)]++(aN c.ops++bZ (c.m:Int))).length=24+c.n*40+8:=by
  rw[List.length_append,List.length_append,g1,g2,g3];omega
 have k2:aN [c.e,c.fr,(c.n:Int)]++(aN c.ops++bZ (c.m:Int))=l9 c:=by
  unfold l9;rw[vS,List.append_assoc]
 rw[k1,k2]
 clear k1 k2 g1 g2 g3
 refine aM.mk (bV [1,3,4] [0,8] c.m (fun j=>⟨[.ah,.ptr 0 0,.ah,.own 1 (24+c.n*40+8+j*24),.d (.v (.int .i64 (j:Nat))),.ah,.ah,.ah,.ah,.ah,.ah,.ah,.ah,.ah,.ah,.ah,.ah,.ah,.ah,.ah,.ah,.ah,.ah,.ah,.ah,.ah,.ah,.ah,.ah,.ah,.ah,.ah,.ah,.ah,.ah,.ah,.ah,.ah,.ah,.ah,.ah,.ah,.ah,.ah,.ah,.ah,.ah,.ah,.ah,.ah,.ah,.ah,.ah,.ah,.ah,.ah,.ah,.ah,.ah,.ah,.ah,.ah,.ah,.ah,.ah,.ah,.ah,.ah,.ah,.ah,.ah,.ah,.ah,.ah,.ah,.ah,.ah,.ah,.ah,.ah,.ah,.ah,.ah,.ah,.ah,.ah,.ah,.ah,.ah,.ah,.ah,.ah,.ah,.ah,.ah,.ah],[some (.var (gZ c)),some (.sl 5 1 (24+c.n*40+8+j*24) [.bytes (24+c.n*40+8+j*24) (l9 c++aN (c.vs.take (j*3)))])]⟩) ?_ (h2:=by simp only[Nat.zero_mul,List.take_zero,jy,List.append_nil,Nat.add_zero];exact rfl))
 intro j hj hl
 by_cases hjm:j<c.m
 ·have g1:(j:Int)<(c.m:Int):=by omega
  refine aj ?_;(try exact⟨⟩)
  refine hl.go hjm [1,3,4] [0,1] ?_
  rw[show(j+1)*3=j*3+3 by omega,Jd c.vs (by omega),show(j+1)*24=j*24+24 by omega,←List.append_assoc,←Nat.add_assoc]
  rfl
 ·obtain rfl:j=c.m:=by omega
  have g1:¬(c.m:Int)<(c.m:Int):=by omega
  rw[show c.vs.take (c.m*3)=c.vs from List.take_of_length_le (by omega)]
  refine aj ?_;(try exact⟨⟩)
  refine aM.mk (bV [1,3,5] [0,1] c.k (fun j=>⟨[.ah,.ptr 0 0,.ah,.own 1 (24+c.n*40+8+c.m*24+40+Fw c.bx j),.ah,.d (.v (.int .i64 (j:Nat))),.ah,.ah,.ah,.ah,.ah,.ah,.ah,.ah,.ah,.ah,.ah,.ah,.ah,.ah,.ah,.ah,.ah,.ah,.ah,.ah,.ah,.ah,.ah,.ah,.ah,.ah,.ah,.ah,.ah,.ah,.ah,.ah,.ah,.ah,.ah,.ah,.ah,.ah,.ah,.ah,.ah,.ah,.ah,.ah,.ah,.ah,.ah,.ah,.ah,.ah,.ah,.ah,.ah,.ah,.ah,.ah,.ah,.ah,.ah,.ah,.ah,.ah,.ah,.ah,.ah,.ah,.ah,.ah,.ah,.ah,.ah,.ah,.ah,.ah,.ah,.ah,.ah,.ah,.ah,.ah,.ah,.ah,.ah,.ah,.ah,.ah,.ah,.ah,.ah,.ah],[some (.var (gZ c)),some (.sl 5 1 (24+c.n*40+8+c.m*24+40+Fw c.bx j) [.bytes (24+c.n*40+8+c.m*24+40+Fw c.bx j) (lH c++bxB c.bx j)])]⟩) ?_ (h2:=by simp only[Fw,bxB,List.append_nil,Nat.add_zero];exact rfl))
  intro i hi hl2
  by_cases hik:i<c.k
  ·have g2:(i:Int)<(c.k:Int):=by omega
   have g3:=h6 i hik
   have g4:(c.bx i).length≤1000000:=by omega
   have g5:Fw c.bx i≤18030000:=by have:=w9 (bx:=c.bx) (k:=i) (fun j hj=>h6 j (by omega));omega
   refine aj ?_;(try exact⟨⟩)
   refine hl2.go hik [1,3,5] [0,1] ?_
   have e1:24+c.n*40+8+c.m*24+40+Fw c.bx (i+1)=24+c.n*40+8+c.m*24+40+Fw c.bx i+8+(c.bx i).length:=by
    show _+(Fw c.bx i+(8+(c.bx i).length))=_
    omega
   have e2:lH c++bxB c.bx (i+1)=((lH c++bxB c.bx i)++bZ ((c.bx i).length:Int))++c.bx i:=by
    show lH c++(bxB c.bx i++wZ (c.bx i))=_
    rw[wZ,vS];simp only[List.append_assoc]
   rw[e1,e2]
   rfl
  ·obtain rfl:i=c.k:=by omega
   have g2:¬(c.k:Int)<(c.k:Int):=by omega
   refine aj ?_;(try exact⟨⟩)
   rfl
attribute [local irreducible] aT
end
end Go.Proofs.YtjhgelfnmhdihaaGreatDoor
