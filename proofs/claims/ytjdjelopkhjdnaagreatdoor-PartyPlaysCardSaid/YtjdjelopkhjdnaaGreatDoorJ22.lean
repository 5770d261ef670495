/-
  Views: the other operations, as the document does them.
-/
import Derived.Test.YtjdjelopkhjdnaaGreatDoorJ21
namespace Go.Proofs.YtjdjelopkhjdnaaGreatDoor
set_option linter.unusedVariables false
set_option linter.unusedSimpArgs false
set_option maxRecDepth 100000
open Go.RowKit
section
open Pm
attribute [local irreducible] aV aZ bQ cK bE dK dG kJ jN d9 bY rQ bn
def Pj:Nat→Bk→List A→(bP→Bk→Prop)→Prop
 |0,.var [.ints .i64 1 [e],.ints .i64 31 zs,.bools 8 ad,.ints .i64 1 [k],.bytes 32 ch],[.agg [.ints .i64 2 xs]],K=>
  K (.t [.v (.int .i64 (if bY zs xs=0 then((dG zs:Nat):Int)else 0)),.v (.int .i64 (bY zs xs))])
   (.var (if bY zs xs=0 then bR e (d9 zs xs (dG zs:Nat)) (ad.set (dG zs) false) k ch else bR e zs ad k ch))
 |_,_,_,_=>False
theorem UY:∀pos x args K,Pj pos x args K→∃r x',fK 99 pos x args r x'∧K r x':=by
 intro pos x args K h
 unfold Pj at h
 split at h
 ·exact⟨_,_,RU _ _ _ _ _ _,h⟩
 ·exact h.elim
noncomputable def bi9:av:=QY.kr 99 Pj UY ⟨_,Tryz.func99,by kernel_rfl,by kernel_rfl⟩
def kZ(ad:List Bool)(who:Int):Int:=if who<0∨who≥8∨ad.getD who.toNat false=false then 7 else 0
def iB(zs:List Int)(ad:List Bool)(fr:Int)(o:List Int):Int:=
 if o.getD 0 0=2 then gH zs fr (o.getD 1 0)else if o.getD 0 0=3 then iK zs ad (o.getD 1 0)else if o.getD 0 0=4 then kZ ad (o.getD 1 0)else iJ (o.getD 2 0)
def tO(zs:List Int)(o:List Int):List Int:=if o.getD 0 0=2 then d9 zs [0,0] (o.getD 1 0)else zs
def tL(ad:List Bool)(o:List Int):List Bool:=if o.getD 0 0=2∨o.getD 0 0=4 then ad.set (o.getD 1 0).toNat false else if o.getD 0 0=3 then ad.set (o.getD 1 0).toNat true else ad
def tN(k:Int)(o:List Int):Int:=if o.getD 0 0=2∨o.getD 0 0=3∨o.getD 0 0=4 then k else o.getD 2 0
set_option maxHeartbeats 8000000 in
theorem aw5(e:Int)(zs:List Int)(ad:List Bool)(k:Int)(ch:List UInt8)(fr:Int)(o:List Int):
  fK 100 0 (.var (bR e zs ad k ch)) [.v (.int .i64 fr),.agg [.ints .i64 5 o]] (.d (.v (.int .i64 (iB zs ad fr o))))
   (.var (if iB zs ad fr o=0 then bR e (tO zs o) (tL ad o) (tN k o) ch else bR e zs ad k ch)):=by
 refine uz fun _ hl=>?_
 obtain⟨a,b,c,d,f,rfl⟩:=five hl.1.1
 clear hl
 refine mP (E:=bi9) Tryz.func100 Tryz.ntmps100 ?_
 by_cases h2:a=2
 ·subst h2
  have e1:iB zs ad fr [2,b,c,d,f]=gH zs fr b:=rfl
  have e2:tO zs [2,b,c,d,f]=d9 zs [0,0] b:=rfl
  have e3:tL ad [2,b,c,d,f]=ad.set b.toNat false:=rfl
  have e4:tN k [2,b,c,d,f]=k:=rfl
  rw[e1,e2,e3,e4]
  clear e1 e2 e3 e4
  cases hm:bn zs b with
  |false=>
   have he:gH zs fr b=7:=by simp[gH,hm]
   rw[he,if_neg (by decide)]
   clear he
   refine aX ?_;(try exact⟨⟩)
  |true=>
   by_cases hf:b=fr
   ·subst hf
    have he:gH zs b b=7:=by simp[gH]
    have hy:(b==b)=true:=by simp
    rw[he,if_neg (by decide)]
    clear he
    refine aX ?_;(try exact⟨⟩)
   ·have hy:(b==fr)=false:=by simpa using hf
    obtain⟨h0,h1⟩:=eX hm
    obtain⟨n,rfl⟩:=Int.eq_ofNat_of_zero_le h0
    have he:gH zs fr (n:Int)=0:=by simp[gH,hm,hf]
    rw[he,if_pos rfl,Int.toNat_natCast]
    clear he hf
    refine aX ?_;(try exact⟨⟩)
 have n2:(a==2)=false:=by simpa using h2
 by_cases h3:a=3
 ·subst h3
  have e1:iB zs ad fr [3,b,c,d,f]=iK zs ad b:=rfl
  have e2:tO zs [3,b,c,d,f]=zs:=rfl
  have e3:tL ad [3,b,c,d,f]=ad.set b.toNat true:=rfl
  have e4:tN k [3,b,c,d,f]=k:=rfl
  rw[e1,e2,e3,e4]
  clear e1 e2 e3 e4 h2
  cases hm:bn zs b with
  |false=>
   have he:iK zs ad b=7:=by simp[iK,hm]
   rw[he,if_neg (by decide)]
   clear he
   refine aX ?_;(try exact⟨⟩)
  |true=>
   obtain⟨h0,h1⟩:=eX hm
   obtain⟨n,rfl⟩:=Int.eq_ofNat_of_zero_le h0
   cases ha:ad.getD n false with
   |true=>
    have he:iK zs ad (n:Int)=7:=by unfold iK;rw[Int.toNat_natCast,ha];simp
    rw[he,if_neg (by decide)]
    clear he
    refine aX ?_;(try exact⟨⟩)
   |false=>
    have he:iK zs ad (n:Int)=0:=by unfold iK;rw[Int.toNat_natCast,ha,hm];simp
    rw[he,if_pos rfl,Int.toNat_natCast]
    clear he
    refine aX ?_;(try exact⟨⟩)
 have n3:(a==3)=false:=by simpa using h3
 by_cases h4:a=4
 ·subst h4
  have e1:iB zs ad fr [4,b,c,d,f]=kZ ad b:=rfl
  have e2:tO zs [4,b,c,d,f]=zs:=rfl
  have e3:tL ad [4,b,c,d,f]=ad.set b.toNat false:=rfl
  have e4:tN k [4,b,c,d,f]=k:=rfl
  rw[e1,e2,e3,e4]
  clear e1 e2 e3 e4 h2 h3
  by_cases h0:b<0
  ·have he:kZ ad b=7:=by simp[kZ,h0]
   rw[he,if_neg (by decide)]
   clear he
   refine aX ?_;(try exact⟨⟩)
  ·by_cases h1:b≥8
   ·have he:kZ ad b=7:=by simp[kZ,h1]
    rw[he,if_neg (by decide)]
    clear he
    refine aX ?_;(try exact⟨⟩)
   ·obtain⟨n,rfl⟩:=Int.eq_ofNat_of_zero_le (show 0≤b by omega)
    cases ha:ad.getD n false with
    |false=>
     have he:kZ ad (n:Int)=7:=by unfold kZ;rw[Int.toNat_natCast,ha];simp
     rw[he,if_neg (by decide)]
     clear he
     refine aX ?_;(try exact⟨⟩)
    |true=>
     have he:kZ ad (n:Int)=0:=by unfold kZ;rw[Int.toNat_natCast,ha,if_neg (by simp;omega)]
     rw[he,if_pos rfl,Int.toNat_natCast]
     clear he
     refine aX ?_;(try exact⟨⟩)
 have n4:(a==4)=false:=by simpa using h4
 have e1:iB zs ad fr [a,b,c,d,f]=iJ c:=by simp[iB,h2,h3,h4]
 have e2:tO zs [a,b,c,d,f]=zs:=by simp[tO,h2]
 have e3:tL ad [a,b,c,d,f]=ad:=by simp[tL,h2,h3,h4]
 have e4:tN k [a,b,c,d,f]=c:=by simp[tN,h2,h3,h4]
 rw[e1,e2,e3,e4]
 clear e1 e2 e3 e4 h2 h3 h4
 by_cases h0:c<1
 ·have he:iJ c=7:=by simp[iJ,h0]
  rw[he,if_neg (by decide)]
  clear he
  refine aX ?_;(try exact⟨⟩)
 ·by_cases h1:c>8
  ·have he:iJ c=7:=by simp[iJ,h1]
   rw[he,if_neg (by decide)]
   clear he
   refine aX ?_;(try exact⟨⟩)
  ·have he:iJ c=0:=by simp[iJ,h0,h1]
   rw[he,if_pos rfl]
   clear he
   refine aX ?_;(try exact⟨⟩)
end
end Go.Proofs.YtjdjelopkhjdnaaGreatDoor
