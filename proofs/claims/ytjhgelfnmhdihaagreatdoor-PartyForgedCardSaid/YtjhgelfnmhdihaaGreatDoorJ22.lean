/-
  Views: the other operations, as the document does them.
-/
import Derived.Test.YtjhgelfnmhdihaaGreatDoorJ21
namespace Go.Proofs.YtjhgelfnmhdihaaGreatDoor
set_option linter.unusedVariables false
set_option linter.unusedSimpArgs false
set_option maxRecDepth 100000
open Go.RowKit
section
open Pm
attribute [local irreducible] aU aZ bR cO bG dF dH jU jC dA cK rQ bn
def PN:Nat→Bk→List A→(bP→Bk→Prop)→Prop
 |0,.var [.ints .i64 1 [e],.ints .i64 31 zs,.bools 8 ad,.ints .i64 1 [k],.bytes 32 ch],[.agg [.ints .i64 2 xs]],K=>
  K (.t [.v (.int .i64 (if cK zs xs=0 then((dH zs:Nat):Int)else 0)),.v (.int .i64 (cK zs xs))])
   (.var (if cK zs xs=0 then bS e (dA zs xs (dH zs:Nat)) (ad.set (dH zs) false) k ch else bS e zs ad k ch))
 |_,_,_,_=>False
theorem Vb:∀pos x args K,PN pos x args K→∃r x',gq 136 pos x args r x'∧K r x':=by
 intro pos x args K h
 unfold PN at h
 split at h
 ·exact⟨_,_,Sc _ _ _ _ _ _,h⟩
 ·exact h.elim
noncomputable def bk7:ay:=Rk.kG 136 PN Vb ⟨_,Tryz.func136,by kernel_rfl,by kernel_rfl⟩
def lI(ad:List Bool)(who:Int):Int:=if who<0∨who≥8∨ad.getD who.toNat false=false then 7 else 0
def iG(zs:List Int)(ad:List Bool)(fr:Int)(o:List Int):Int:=
 if o.getD 0 0=2 then fC zs fr (o.getD 1 0)else if o.getD 0 0=3 then iO zs ad (o.getD 1 0)else if o.getD 0 0=4 then lI ad (o.getD 1 0)else iN (o.getD 2 0)
def tY(zs:List Int)(o:List Int):List Int:=if o.getD 0 0=2 then dA zs [0,0] (o.getD 1 0)else zs
def tV(ad:List Bool)(o:List Int):List Bool:=if o.getD 0 0=2∨o.getD 0 0=4 then ad.set (o.getD 1 0).toNat false else if o.getD 0 0=3 then ad.set (o.getD 1 0).toNat true else ad
def tX(k:Int)(o:List Int):Int:=if o.getD 0 0=2∨o.getD 0 0=3∨o.getD 0 0=4 then k else o.getD 2 0
set_option maxHeartbeats 8000000 in
theorem ax4(e:Int)(zs:List Int)(ad:List Bool)(k:Int)(ch:List UInt8)(fr:Int)(o:List Int):
  gq 137 0 (.var (bS e zs ad k ch)) [.v (.int .i64 fr),.agg [.ints .i64 5 o]] (.d (.v (.int .i64 (iG zs ad fr o))))
   (.var (if iG zs ad fr o=0 then bS e (tY zs o) (tV ad o) (tX k o) ch else bS e zs ad k ch)):=by
 refine uI fun _ hl=>?_
 obtain⟨a,b,c,d,f,rfl⟩:=five hl.1.1
 clear hl
 refine mY (E:=bk7) Tryz.func137 Tryz.ntmps137 ?_
 by_cases h2:a=2
 ·subst h2
  have e1:iG zs ad fr [2,b,c,d,f]=fC zs fr b:=rfl
  have e2:tY zs [2,b,c,d,f]=dA zs [0,0] b:=rfl
  have e3:tV ad [2,b,c,d,f]=ad.set b.toNat false:=rfl
  have e4:tX k [2,b,c,d,f]=k:=rfl
  rw[e1,e2,e3,e4]
  clear e1 e2 e3 e4
  cases hm:bn zs b with
  |false=>
   have he:fC zs fr b=7:=by simp[fC,hm]
   rw[he,if_neg (by decide)]
   clear he
   refine aX ?_;(try exact⟨⟩)
  |true=>
   by_cases hf:b=fr
   ·subst hf
    have he:fC zs b b=7:=by simp[fC]
    have hy:(b==b)=true:=by simp
    rw[he,if_neg (by decide)]
    clear he
    refine aX ?_;(try exact⟨⟩)
   ·have hy:(b==fr)=false:=by simpa using hf
    obtain⟨h0,h1⟩:=fA hm
    obtain⟨n,rfl⟩:=Int.eq_ofNat_of_zero_le h0
    have he:fC zs fr (n:Int)=0:=by simp[fC,hm,hf]
    rw[he,if_pos rfl,Int.toNat_natCast]
    clear he hf
    refine aX ?_;(try exact⟨⟩)
 have n2:(a==2)=false:=by simpa using h2
 by_cases h3:a=3
 ·subst h3
  have e1:iG zs ad fr [3,b,c,d,f]=iO zs ad b:=rfl
  have e2:tY zs [3,b,c,d,f]=zs:=rfl
  have e3:tV ad [3,b,c,d,f]=ad.set b.toNat true:=rfl
  have e4:tX k [3,b,c,d,f]=k:=rfl
  rw[e1,e2,e3,e4]
  clear e1 e2 e3 e4 h2
  cases hm:bn zs b with
  |false=>
   have he:iO zs ad b=7:=by simp[iO,hm]
   rw[he,if_neg (by decide)]
   clear he
   refine aX ?_;(try exact⟨⟩)
  |true=>
   obtain⟨h0,h1⟩:=fA hm
   obtain⟨n,rfl⟩:=Int.eq_ofNat_of_zero_le h0
   cases ha:ad.getD n false with
   |true=>
    have he:iO zs ad (n:Int)=7:=by unfold iO;rw[Int.toNat_natCast,ha];simp
    rw[he,if_neg (by decide)]
    clear he
    refine aX ?_;(try exact⟨⟩)
   |false=>
    have he:iO zs ad (n:Int)=0:=by unfold iO;rw[Int.toNat_natCast,ha,hm];simp
    rw[he,if_pos rfl,Int.toNat_natCast]
    clear he
    refine aX ?_;(try exact⟨⟩)
 have n3:(a==3)=false:=by simpa using h3
 by_cases h4:a=4
 ·subst h4
  have e1:iG zs ad fr [4,b,c,d,f]=lI ad b:=rfl
  have e2:tY zs [4,b,c,d,f]=zs:=rfl
  have e3:tV ad [4,b,c,d,f]=ad.set b.toNat false:=rfl
  have e4:tX k [4,b,c,d,f]=k:=rfl
  rw[e1,e2,e3,e4]
  clear e1 e2 e3 e4 h2 h3
  by_cases h0:b<0
  ·have he:lI ad b=7:=by simp[lI,h0]
   rw[he,if_neg (by decide)]
   clear he
   refine aX ?_;(try exact⟨⟩)
  ·by_cases h1:b≥8
   ·have he:lI ad b=7:=by simp[lI,h1]
    rw[he,if_neg (by decide)]
    clear he
    refine aX ?_;(try exact⟨⟩)
   ·obtain⟨n,rfl⟩:=Int.eq_ofNat_of_zero_le (show 0≤b by omega)
    cases ha:ad.getD n false with
    |false=>
     have he:lI ad (n:Int)=7:=by unfold lI;rw[Int.toNat_natCast,ha];simp
     rw[he,if_neg (by decide)]
     clear he
     refine aX ?_;(try exact⟨⟩)
    |true=>
     have he:lI ad (n:Int)=0:=by unfold lI;rw[Int.toNat_natCast,ha,if_neg (by simp;omega)]
     rw[he,if_pos rfl,Int.toNat_natCast]
     clear he
     refine aX ?_;(try exact⟨⟩)
 have n4:(a==4)=false:=by simpa using h4
 have e1:iG zs ad fr [a,b,c,d,f]=iN c:=by simp[iG,h2,h3,h4]
 have e2:tY zs [a,b,c,d,f]=zs:=by simp[tY,h2]
 have e3:tV ad [a,b,c,d,f]=ad:=by simp[tV,h2,h3,h4]
 have e4:tX k [a,b,c,d,f]=c:=by simp[tX,h2,h3,h4]
 rw[e1,e2,e3,e4]
 clear e1 e2 e3 e4 h2 h3 h4
 by_cases h0:c<1
 ·have he:iN c=7:=by simp[iN,h0]
  rw[he,if_neg (by decide)]
  clear he
  refine aX ?_;(try exact⟨⟩)
 ·by_cases h1:c>8
  ·have he:iN c=7:=by simp[iN,h1]
   rw[he,if_neg (by decide)]
   clear he
   refine aX ?_;(try exact⟨⟩)
  ·have he:iN c=0:=by simp[iN,h0,h1]
   rw[he,if_pos rfl]
   clear he
   refine aX ?_;(try exact⟨⟩)
end
end Go.Proofs.YtjhgelfnmhdihaaGreatDoor
