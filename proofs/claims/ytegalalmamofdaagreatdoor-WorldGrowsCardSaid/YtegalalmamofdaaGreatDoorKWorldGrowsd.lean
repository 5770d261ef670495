/- -/
import Derived.Test.YtegalalmamofdaaGreatDoorKWorldGrows
import Derived.Test.YtegalalmamofdaaGreatDoorKWorldGrowsc
namespace Go.Proofs.YtegalalmamofdaaGreatDoor
set_option linter.all false
set_option maxRecDepth 100000
open Go.RowKit
set_option maxHeartbeats 8000000
noncomputable section
open Pm
attribute [local irreducible] aN aQ bq aJ aI eY dL aD aC aF bn aY aj bR fC fu bT dH jm jO bg eG aZ mI fq eX bJ aT dB jF gU fF mh bK dS
theorem R7(p:PS)(hf:aL p.lf=true):bV 203 0 (.var (aP p)) [.v (.int .i64 0)] (.t []) (.var (aP p)):=by
 refine iH (E:=Fw) Tryz.func203 Tryz.ntmps203 ?_
 obtain⟨f0,f1⟩:=ig hf
 refine ah ?_
 refine aX.mk (aH 4 ?_)
 refine ah ?_;(try exact⟨⟩)
theorem Ew{zs:List Int}{m:Nat}(h:dJ zs m=true):(zs.getD m 0==0)=false:=by
 unfold dJ at h
 simpa using h
theorem Ev{zs:List Int}{m:Nat}(h:dJ zs m=false):(zs.getD m 0==0)=true:=by
 unfold dJ at h
 simpa using h
theorem R8(p:PS)(hf:aL p.lf=true):bV 203 0 (.var (aP p)) [.v (.int .i64 1)] (.t []) (.var (aP (jR p))):=by
 refine iH (E:=Fw) Tryz.func203 Tryz.ntmps203 ?_
 obtain⟨f0,f1⟩:=ig hf
 unfold jR
 cases h:dJ p.zs (16+n1 p.lf)with
 |true=>
  have g:=Ew h
  rw[if_pos rfl]
  refine ah ?_
  refine aX.mk (aH 4 ?_)
  refine ah ?_;(try exact⟨⟩)
 |false=>
  have g:=Ev h
  rw[if_neg (by decide)]
  refine ah ?_
  refine aX.mk (aH 4 ?_)
  refine ah ?_;(try exact⟨⟩)
  try rfl
theorem R9(p:PS)(hf:aL p.lf=true):bV 203 0 (.var (aP p)) [.v (.int .i64 2)] (.t []) (.var (aP (rF (jR p)))):=by
 refine iH (E:=Fw) Tryz.func203 Tryz.ntmps203 ?_
 obtain⟨f0,f1⟩:=ig hf
 unfold jR
 cases h:dJ p.zs (16+n1 p.lf)with
 |true=>
  have g:=Ew h
  rw[if_pos rfl]
  unfold rF
  cases h2:dJ p.zs (16+n2 p.lf)with
  |true=>
   have g2:=Ew h2
   rw[if_pos rfl]
   refine ah ?_
   refine aX.mk (aH 4 ?_)
   refine ah ?_;(try exact⟨⟩)
  |false=>
   have g2:=Ev h2
   rw[if_neg (by decide)]
   refine ah ?_
   refine aX.mk (aH 4 ?_)
   refine ah ?_;(try exact⟨⟩)
   try rfl
 |false=>
  have g:=Ev h
  rw[if_neg (by decide)]
  unfold rF
  cases h2:dJ p.zs (16+n2 p.lf)with
  |true=>
   have g2:=Ew h2
   rw[show dJ (mZ p 0 (zB 32)).zs (16+n2 (mZ p 0 (zB 32)).lf)=true from h2,if_pos rfl]
   refine ah ?_
   refine aX.mk (aH 4 ?_)
   refine ah ?_;(try exact⟨⟩)
   try rfl
  |false=>
   have g2:=Ev h2
   rw[show dJ (mZ p 0 (zB 32)).zs (16+n2 (mZ p 0 (zB 32)).lf)=false from h2,if_neg (by decide)]
   refine ah ?_
   refine aX.mk (aH 4 ?_)
   refine ah ?_;(try exact⟨⟩)
   try rfl
def bT4:ak:=Fw.add 197 AQ Dq (.of Tryz.func197)
def bT5:ak:=bT4.add 196 VB Ot (.of Tryz.func196)
def bh7:ak:=bT5.add 165 bb6 (WR KP) (.of Tryz.func165)
theorem Xe(p:PS)(c:CS)(hc:lS c)(ht:c.tag.length=32)(hb:jr c<=900000):aV 141 [.sref (aP p) 0,.agg (kR c)] (.d (.v (.int .i64 (yA p c)))):=by
 refine eO (E:=bh7) Tryz.func141 Tryz.ntmps141 ?_
 have hl:=oC hc
 obtain⟨h1,h2,h3,h4,h5,h6⟩:=id hc
 unfold yA
 by_cases e1:c.e=p.e
 ·have g1:(c.e !=p.e)=false:=by rw[e1];simp
  rw[if_neg (fun x=>x e1)]
  clear e1
  by_cases e2:c.fr=p.lf
  ·have g2:(c.fr==p.lf)=true:=by rw[e2];simp
   rw[if_pos (.inl e2)]
   clear e2
   refine ah ?_;(try exact⟨⟩)
  ·have g2:(c.fr==p.lf)=false:=by simpa using e2
   have hm8:=nQ p.zs 8
   have hin:=Et p.zs c.fr
   cases e3:dS p.zs c.fr with
   |false=>
    rw[e3]at hin
    rw[if_pos (.inr rfl)]
    clear e2 e3
    refine ah ?_;(try exact⟨⟩)
   |true=>
    rw[e3]at hin
    obtain⟨m0,m1⟩:=kP e3
    rw[if_neg (by rintro(h|h);exact e2 h;cases h)]
    clear e2 e3
    cases e4:mh (p.zs.getD (c.fr.toNat*2) 0) (bn c++c.tag) c.sE c.sS with
    |true=>
     rw[if_pos rfl]
     refine ah ?_;(try exact⟨⟩)
    |false=>
     rw[if_neg (by decide)]
     refine ah ?_;(try exact⟨⟩)
 ·have g1:(c.e !=p.e)=true:=by simpa using e1
  rw[if_pos e1]
  clear e1
  refine ah ?_;(try exact⟨⟩)
end
noncomputable section
open Pm
attribute [local irreducible] aN aQ bq aJ aI eY dL aD aC aF bn aY aj bR fC fu bT dH jm jO bg eG aZ mI fq eX bJ aT dB jF gU fF mh bK dS bf
def bh8:ak:=bh7.add 178 MR (KJ Qq) (.of Tryz.func178)
theorem Zr(p:PS)(x:List Int):aV 199 [.agg [.ints .i64 2 x],.sref [.gen 1 [.sref (aP p) 0]] 0] (.d (.v (.bool (bf (x.getD 1 0) p.lf)))):=by
 refine eO (E:=bh8) Tryz.func199 Tryz.ntmps199 ?_
 refine ah ?_;(try exact⟨⟩)
def aG1:List A->(bC->Prop)->Prop
 |[.agg [.ints .i64 2 x],.sref [.gen 1 [y]] 0],K=>prK y fun p=>K (.d (.v (.bool (bf (x.getD 1 0) p.lf))))
 |_,_=>False
theorem aG2:∀args K,aG1 args K->∃r,aV 199 args r/\K r:=by
 intro args K h
 unfold aG1 at h
 split at h
 ·obtain⟨p,rfl,h⟩:=uV h
  exact⟨_,Zr p _,h⟩
 ·exact h.elim
def bh9:ak:=bh8.add 199 aG1 aG2 (.of Tryz.func199)
def ap5(p:PS)(zs:List Int)(n:Nat):Int:=lF (fun i=>bf ((qX 2 zs i).getD 1 0) p.lf) n
theorem TK(p:PS)(zs:List Int)(n:Nat)(hn:n<=3000):aV 198 [.row n [.ints .i64 (n*2) zs],.NM 199 [.sref [.gen 1 [.sref (aP p) 0]] 0]] (.d (.v (.int .i64 (ap5 p zs n)))):=by
 refine iY fun hl=>?_
 have hz:zs.length=n*2:=hl.1.1
 clear hl
 refine eO (E:=bh9) Tryz.func198 Tryz.ntmps198 ?_
 unfold ap5
 obtain⟨N,hN,hno,hend⟩:=xQ (fun i=>bf ((qX 2 zs i).getD 1 0) p.lf) n
 refine ah ?_
 refine aX.mk (cB [0,1,7,8] [0] N (fun j=>⟨.d (.row n [.ints .i64 (n*2) zs])::.d (.NM 199 [.sref [.gen 1 [.sref (aP p) 0]] 0])::.au::.au::.au::.au::.au::.d (.v (.int .i64 n))::.d (.v (.int .i64 (j:Nat)))::dz 10 [],[none]⟩) ?_)
 intro j hj hl
 by_cases h:j<N
 ·have h1:(j:Int)<(n:Int):=by omega
  have h2:bf (((zs.drop (j*2)).take 2).getD 1 0) p.lf=false:=hno j h
  clear hend hno
  refine ah ?_
  refine hl.go h [0,1,7,8] [0] ?_
  rfl
 ·obtain rfl:j=N:=by omega
  rcases hend with⟨rfl,h4⟩|⟨h3,h4,h5⟩
  ·have h1:¬(j:Int)<(j:Int):=by omega
   rw[h4]
   clear h4 hno
   refine ah ?_;(try exact⟨⟩)
  ·have h1:(j:Int)<(n:Int):=by omega
   have h2:bf (((zs.drop (j*2)).take 2).getD 1 0) p.lf=true:=h4
   rw[h5]
   clear h4 h5 hno
   refine ah ?_;(try exact⟨⟩)
theorem ap6(p:PS)(l:List (Int×Int)):ap5 p (jf l) l.length=if dQ l p.lf=l.length then -1 else((dQ l p.lf:Nat):Int):=by
 have at2:∀j,j<l.length->(qX 2 (jf l) j).getD 1 0=(l.getD j (0,0)).2:=fun j hj=>by unfold qX;rw[Am l j hj];rfl
 have get:∀j (hj:j<l.length),l.getD j (0,0)=l[j]:=fun j hj=>by rw[yGd,yGe hj];rfl
 unfold ap5
 obtain⟨N,hN,hno,hend⟩:=xQ (fun i=>bf ((qX 2 (jf l) i).getD 1 0) p.lf) l.length
 have hf:dQ l p.lf=N:=by
  unfold dQ
  rcases hend with⟨rfl,h4⟩|⟨h3,h4,h5⟩
  ·refine List.findIdx_eq_length.2 fun q hq=>?_
   obtain⟨j,hj,rfl⟩:=List.getElem_of_mem hq
   have:=hno j hj
   simp only[at2 j hj,get j hj]at this
   exact this
  ·refine(List.findIdx_eq h3).2 ⟨?_,fun j hj=>?_⟩
   ·simp only[at2 N h3,get N h3]at h4
    exact h4
   ·have:=hno j hj
    simp only[at2 j (by omega),get j (by omega)]at this
    exact this
 rw[hf]
 rcases hend with⟨rfl,h4⟩|⟨h3,h4,h5⟩
 ·rw[h4,if_pos rfl]
 ·rw[h5,if_neg (by omega)]
end
end Go.Proofs.YtegalalmamofdaaGreatDoor
