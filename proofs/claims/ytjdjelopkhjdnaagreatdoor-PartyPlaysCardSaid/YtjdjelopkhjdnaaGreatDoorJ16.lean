/-
  Places and nodes: the first functions, by the machine without memory.
-/
import Derived.Test.YtjdjelopkhjdnaaGreatDoorJ10
namespace Go.Proofs.YtjdjelopkhjdnaaGreatDoor
set_option linter.unusedVariables false
set_option linter.unusedSimpArgs false
set_option maxRecDepth 100000
open Go.RowKit
section
attribute [local irreducible] aV aZ bQ
def aG(x:Int):Bool:=decide (0≤x)&&decide (x<8)
def Rn:List A→(bP→Prop)→Prop
 |[.v (.int .i64 x)],K=>K (.d (.v (.bool (aG x))))
 |_,_=>False
theorem ab5(x:Int):aQ 103 [.v (.int .i64 x)] (.d (.v (.bool (aG x)))):=by
 refine dF (E:=uq) Tryz.func103 Tryz.ntmps103 ?_
 by_cases h:0≤x
 ·refine ago ?_;(try exact⟨⟩)
  simp[aG,h]
 ·refine ago ?_;(try exact⟨⟩)
  simp[aG,h]
theorem ar3(x:Int):aQ 164 [.v (.int .i64 x)] (.d (.v (.bool (aG x)))):=by
 refine dF (E:=uq) Tryz.func164 Tryz.ntmps164 ?_
 by_cases h:0≤x
 ·refine ago ?_;(try exact⟨⟩)
  simp[aG,h]
 ·refine ago ?_;(try exact⟨⟩)
  simp[aG,h]
theorem K5{f:FuncId}(hx:∀x,aQ f [.v (.int .i64 x)] (.d (.v (.bool (aG x))))):∀args K,Rn args K→∃r,aQ f args r∧K r:=by
 intro args K h
 unfold Rn at h
 split at h
 ·exact⟨_,hx _,h⟩
 ·exact h.elim
noncomputable def aV9:av:=uq.add 103 Rn (K5 ab5) ⟨_,Tryz.func103,by kernel_rfl,by kernel_rfl⟩
noncomputable def aJ1:av:=aV9.add 164 Rn (K5 ar3) ⟨_,Tryz.func164,by kernel_rfl,by kernel_rfl⟩
def uN(x:Int):List Int:=if aG x=true then[x / 2*4+1,x / 4*8+3,7]else[0,0,0]
theorem Gv(x:Int)(h0:0≤x)(h1:x<8):IntKind.i64.wrap (x.tdiv 2)=x / 2∧IntKind.i64.wrap (x / 2*4)=x / 2*4∧IntKind.i64.wrap (x / 2*4+1)=x / 2*4+1∧
  IntKind.i64.wrap (x.tdiv 4)=x / 4∧IntKind.i64.wrap (x / 4*8)=x / 4*8∧IntKind.i64.wrap (x / 4*8+3)=x / 4*8+3:=by
 rw[Int.tdiv_eq_ediv_of_nonneg h0,Int.tdiv_eq_ediv_of_nonneg h0]
 refine⟨dM ?_ ?_,dM ?_ ?_,dM ?_ ?_,dM ?_ ?_,dM ?_ ?_,dM ?_ ?_⟩<;>omega
theorem Ev(x:Int):aQ 46 [.v (.int .i64 x)] (.d (.agg [.ints .i64 3 (uN x)])):=by
 refine dF (E:=aJ1) Tryz.func46 Tryz.ntmps46 ?_
 cases h:aG x with
 |false=>
  refine ago ?_;(try exact⟨⟩)
  simp[uN,h]
 |true=>
  have h':=h
  simp only[aG,Bool.and_eq_true,decide_eq_true_eq]at h'
  obtain⟨e1,e2,e3,e4,e5,e6⟩:=Gv x h'.1 h'.2
  refine ago ?_;(try exact⟨⟩)
  simp[uN,h,e1,e2,e3,e4,e5,e6]
theorem RF(x:Int):aQ 88 [.v (.int .i64 x)] (.d (.agg [.ints .i64 3 (uN x)])):=by
 refine dF (E:=aJ1) Tryz.func88 Tryz.ntmps88 ?_
 cases h:aG x with
 |false=>
  refine ago ?_;(try exact⟨⟩)
  simp[uN,h]
 |true=>
  have h':=h
  simp only[aG,Bool.and_eq_true,decide_eq_true_eq]at h'
  obtain⟨e1,e2,e3,e4,e5,e6⟩:=Gv x h'.1 h'.2
  refine ago ?_;(try exact⟨⟩)
  simp[uN,h,e1,e2,e3,e4,e5,e6]
end
section
attribute [local irreducible] aV aZ bQ
def pY(p q r v:Int):Int:=if v=p then 0 else if v=q then 1 else if v=r then 2 else -1
def aq0:List A→(bP→Prop)→Prop
 |[.row 3 [.ints .i64 3 [p,q,r]],.v (.int .i64 v)],K=>K (.d (.v (.int .i64 (pY p q r v))))
 |_,_=>False
theorem Y0(p q r v:Int):aQ 168 [.row 3 [.ints .i64 3 [p,q,r]],.v (.int .i64 v)] (.d (.v (.int .i64 (pY p q r v)))):=by
 refine dF (E:=uq) Tryz.func168 Tryz.ntmps168 ?_
 have lp:∀(a b:Int),¬a=b→(a==b)=false:=fun a b h=>by simp[h]
 by_cases h1:v=p
 ·refine ago ?_;(try exact⟨⟩)
  refine aM.mk (aB 4 ?_)
  refine ago ?_;(try exact⟨⟩)
  simp[pY,h1]
 ·by_cases h2:v=q
  ·refine ago ?_;(try exact⟨⟩)
   refine aM.mk (aB 4 ?_)
   refine ago ?_;(try exact⟨⟩)
   simp[pY,h1,h2]<;>omega
  ·by_cases h3:v=r
   ·refine ago ?_;(try exact⟨⟩)
    refine aM.mk (aB 4 ?_)
    refine ago ?_;(try exact⟨⟩)
    simp[pY,h1,h2,h3]<;>omega
   ·refine ago ?_;(try exact⟨⟩)
    refine aM.mk (aB 4 ?_)
    refine ago ?_;(try exact⟨⟩)
    simp[pY,h1,h2,h3]
end
section
attribute [local irreducible] aV aZ bQ
theorem Ri{f:FuncId}(hx:∀p q r v,aQ f [.row 3 [.ints .i64 3 [p,q,r]],.v (.int .i64 v)] (.d (.v (.int .i64 (pY p q r v))))):∀args K,aq0 args K→∃r,aQ f args r∧K r:=by
 intro args K h
 unfold aq0 at h
 split at h
 ·exact⟨_,hx _ _ _ _,h⟩
 ·exact h.elim
noncomputable def aA7:av:=aJ1.add 168 aq0 (Ri Y0) ⟨_,Tryz.func168,by kernel_rfl,by kernel_rfl⟩
def aN4:List A→(bP→Prop)→Prop
 |[.row 3 [.ints .i64 3 [p,q,r]],.v (.int .i64 v)],K=>K (.d (.v (.bool (decide (pY p q r v≥0)))))
 |_,_=>False
theorem aN5(p q r v:Int):aQ 118 [.row 3 [.ints .i64 3 [p,q,r]],.v (.int .i64 v)] (.d (.v (.bool (decide (pY p q r v≥0))))):=by
 refine dF (E:=aA7) Tryz.func118 Tryz.ntmps118 ?_
 refine ago ?_;(try exact⟨⟩)
theorem ap6{f:FuncId}(hx:∀p q r v,aQ f [.row 3 [.ints .i64 3 [p,q,r]],.v (.int .i64 v)] (.d (.v (.bool (decide (pY p q r v≥0)))))):∀args K,aN4 args K→∃r,aQ f args r∧K r:=by
 intro args K h
 unfold aN4 at h
 split at h
 ·exact⟨_,hx _ _ _ _,h⟩
 ·exact h.elim
noncomputable def aW0:av:=aA7.add 118 aN4 (ap6 aN5) ⟨_,Tryz.func118,by kernel_rfl,by kernel_rfl⟩
def jY(x:Int):List Int:=[if aG x=true then x / 2*4+1 else 0,if aG x=true then x / 4*8+3 else 0,if aG x=true then 7 else 0]
theorem ZT(x:Int):uN x=jY x:=by unfold uN jY;split<;>rfl
def Ja:List A→(bP→Prop)→Prop
 |[.v (.int .i64 x)],K=>K (.d (.agg [.ints .i64 3 [if aG x=true then x / 2*4+1 else 0,if aG x=true then x / 4*8+3 else 0,if aG x=true then 7 else 0]]))
 |_,_=>False
theorem Gu{f:FuncId}(hx:∀x,aQ f [.v (.int .i64 x)] (.d (.agg [.ints .i64 3 (uN x)]))):∀args K,Ja args K→∃r,aQ f args r∧K r:=by
 intro args K h
 unfold Ja at h
 split at h
 ·exact⟨_,hx _,by rw[ZT];exact h⟩
 ·exact h.elim
noncomputable def aW1:av:=aW0.add 88 Ja (Gu RF) ⟨_,Tryz.func88,by kernel_rfl,by kernel_rfl⟩
noncomputable def XG:av:=aW1.add 46 Ja (Gu Ev) ⟨_,Tryz.func46,by kernel_rfl,by kernel_rfl⟩
def aI(n x:Int):Bool:=aG x&&(decide (n=2*x)||decide (n=x / 2*4+1)||decide (n=x / 4*8+3)||decide (n=7))
def Au:List A→(bP→Prop)→Prop
 |[.v (.int .i64 n),.v (.int .i64 x)],K=>K (.d (.v (.bool (aI n x))))
 |_,_=>False
theorem cZ{x:Int}(h:aG x=true):0≤x∧x<8:=by simpa[aG]using h
theorem MI(n x:Int):aQ 123 [.v (.int .i64 n),.v (.int .i64 x)] (.d (.v (.bool (aI n x)))):=by
 refine dF (E:=XG) Tryz.func123 Tryz.ntmps123 ?_
 cases h:aG x with
 |false=>
  refine ago ?_;(try exact⟨⟩)
  simp[aI,h]
 |true=>
  have h':=cZ h
  have e1:IntKind.i64.wrap (2*x)=2*x:=dM (by omega) (by omega)
  by_cases h1:n=2*x
  ·refine ago ?_;(try exact⟨⟩)
   simp[aI,h,h1]
  ·refine ago ?_;(try exact⟨⟩)
   simp[aI,h,h1,pY]
   repeat (split<;>simp_all)
theorem GK(n x:Int):aQ 117 [.v (.int .i64 n),.v (.int .i64 x)] (.d (.v (.bool (aI n x)))):=by
 refine dF (E:=XG) Tryz.func117 Tryz.ntmps117 ?_
 cases h:aG x with
 |false=>
  refine ago ?_;(try exact⟨⟩)
  simp[aI,h]
 |true=>
  have h':=cZ h
  have e1:IntKind.i64.wrap (2*x)=2*x:=dM (by omega) (by omega)
  by_cases h0:0≤n
  ·by_cases h9:n<15
   ·by_cases h1:n=2*x
    ·refine ago ?_;(try exact⟨⟩)
     simp[aI,h,h1]
    ·by_cases h2:n=x / 2*4+1
     ·refine ago ?_;(try exact⟨⟩)
      simp[aI,h,h2]
     ·by_cases h3:n=x / 4*8+3
      ·refine ago ?_;(try exact⟨⟩)
       simp[aI,h,h3]
      ·refine ago ?_;(try exact⟨⟩)
       simp[aI,h,h1,h2,h3]
       rfl
   ·refine ago ?_;(try exact⟨⟩)
    simp[aI,h]<;>omega
  ·refine ago ?_;(try exact⟨⟩)
   simp[aI,h]<;>omega
def dD(x:Int):List Int:=if aG x=true then[if x%2=0 then 2*x+2 else 2*x-2,if x / 2%2=0 then x / 2*4+5 else x / 2*4-3,if x / 4=0 then 11 else 3]else[0,0,0]
theorem eight{p:Int→Prop}{x:Int}(h:0≤x∧x<8)(h0:p 0)(h1:p 1)(h2:p 2)(h3:p 3)(h4:p 4)(h5:p 5)(h6:p 6)(h7:p 7):p x:=by
 have:x=0∨x=1∨x=2∨x=3∨x=4∨x=5∨x=6∨x=7:=by omega
 rcases this with rfl|rfl|rfl|rfl|rfl|rfl|rfl|rfl<;>assumption
theorem Sg(x:Int):aQ 129 [.v (.int .i64 x)] (.d (.agg [.ints .i64 3 (dD x)])):=by
 refine dF (E:=XG) Tryz.func129 Tryz.ntmps129 ?_
 cases h:aG x with
 |false=>
  refine ago ?_;(try exact⟨⟩)
  simp[dD,h]
 |true=>
  have h':=cZ h
  refine ago ?_;(try exact⟨⟩)
  simp[dD,h]
  have:x=0∨x=1∨x=2∨x=3∨x=4∨x=5∨x=6∨x=7:=by omega
  rcases this with rfl|rfl|rfl|rfl|rfl|rfl|rfl|rfl<;>decide
def aD(a b:Int):Int:=if aG a=true∧aG b=true then(if a=b then 2*a else if a / 2=b / 2 then a / 2*4+1 else if a / 4=b / 4 then a / 4*8+3 else 7)else 0
theorem vZ{f:FuncId}(hx:∀n x,aQ f [.v (.int .i64 n),.v (.int .i64 x)] (.d (.v (.bool (aI n x))))):∀args K,Au args K→∃r,aQ f args r∧K r:=by
 intro args K h
 unfold Au at h
 split at h
 ·exact⟨_,hx _ _,h⟩
 ·exact h.elim
def ad8:List A→(bP→Prop)→Prop
 |[.v (.int .i64 x)],K=>K (.d (.agg [.ints .i64 3 [(dD x).getD 0 0,(dD x).getD 1 0,(dD x).getD 2 0]]))
 |_,_=>False
theorem ad9{f:FuncId}(hx:∀x,aQ f [.v (.int .i64 x)] (.d (.agg [.ints .i64 3 (dD x)]))):∀args K,ad8 args K→∃r,aQ f args r∧K r:=by
 intro args K h
 unfold ad8 at h
 split at h
 ·refine⟨_,hx _,?_⟩
  have e:∀x,[(dD x).getD 0 0,(dD x).getD 1 0,(dD x).getD 2 0]=dD x:=by intro x;unfold dD;split<;>rfl
  rw[e]at h;exact h
 ·exact h.elim
noncomputable def aW3:av:=XG.add 123 Au (vZ MI) ⟨_,Tryz.func123,by kernel_rfl,by kernel_rfl⟩
noncomputable def aW4:av:=aW3.add 117 Au (vZ GK) ⟨_,Tryz.func117,by kernel_rfl,by kernel_rfl⟩
noncomputable def aW2:av:=aW4.add 129 ad8 (ad9 Sg) ⟨_,Tryz.func129,by kernel_rfl,by kernel_rfl⟩
theorem FH(a b:Int):aQ 95 [.v (.int .i64 a),.v (.int .i64 b)] (.d (.v (.int .i64 (aD a b)))):=by
 refine dF (E:=aW2) Tryz.func95 Tryz.ntmps95 ?_
 cases h:aG a with
 |false=>
  refine ago ?_;(try exact⟨⟩)
  simp[aD,h]
 |true=>
  have h':=cZ h
  have e1:IntKind.i64.wrap (2*a)=2*a:=dM (by omega) (by omega)
  cases g:aG b with
  |false=>
   refine ago ?_;(try exact⟨⟩)
   simp[aD,g]
  |true=>
   have g':=cZ g
   by_cases c:a=b
   ·subst c
    refine ago ?_;(try exact⟨⟩)
    simp[aD,h,e1]
   ·by_cases c1:a / 2=b / 2
    ·have u1:aI (a / 2*4+1) b=true:=by simp[aI,g,c1]
     have u1':aI (b / 2*4+1) b=true:=by simp[aI,g]
     refine ago ?_;(try exact⟨⟩)
     refine aM.mk (aB 4 ?_)
     refine ago ?_;(try exact⟨⟩)
     simp[aD,h,g,c,c1]
    ·have u1:aI (a / 2*4+1) b=false:=by simp[aI,g]<;>omega
     by_cases c2:a / 4=b / 4
     ·have u2:aI (a / 4*8+3) b=true:=by simp[aI,g,c2]
      have u2':aI (b / 4*8+3) b=true:=by simp[aI,g]
      refine ago ?_;(try exact⟨⟩)
      refine aM.mk (aB 4 ?_)
      refine ago ?_;(try exact⟨⟩)
      simp[aD,h,g,c,c1,c2]
     ·have u2:aI (a / 4*8+3) b=false:=by simp[aI,g]<;>omega
      have u3:aI 7 b=true:=by simp[aI,g]
      refine ago ?_;(try exact⟨⟩)
      refine aM.mk (aB 4 ?_)
      refine ago ?_;(try exact⟨⟩)
      simp[aD,h,g,c,c1,c2]
def vB:List A→(bP→Prop)→Prop
 |[.v (.int .i64 a),.v (.int .i64 b)],K=>K (.d (.v (.int .i64 (aD a b))))
 |_,_=>False
theorem rV{f:FuncId}(hx:∀a b,aQ f [.v (.int .i64 a),.v (.int .i64 b)] (.d (.v (.int .i64 (aD a b))))):∀args K,vB args K→∃r,aQ f args r∧K r:=by
 intro args K h
 unfold vB at h
 split at h
 ·exact⟨_,hx _ _,h⟩
 ·exact h.elim
noncomputable def bv1:av:=aW2.add 95 vB (rV FH) ⟨_,Tryz.func95,by kernel_rfl,by kernel_rfl⟩
end
section
attribute [local irreducible] aV aZ bQ
def IC:List A→(bP→Prop)→Prop
 |[],K=>K (.d (.v (.bool true)))
 |_,_=>False
theorem Gb{f:FuncId}(hx:aQ f [] (.d (.v (.bool true)))):∀args K,IC args K→∃r,aQ f args r∧K r:=by
 intro args K h
 unfold IC at h
 split at h
 ·exact⟨_,hx,h⟩
 ·exact h.elim
noncomputable def an5:av:=bv1
end
section
attribute [local irreducible] aV aZ bQ
def bB(zs:List Int)(n:Int):Int:=if 0≤n∧n<15 then(if n%2=0 then zs.getD (n.toNat+1) 0 else zs.getD (16+n.toNat) 0)else 0
def DK:List A→(bP→Prop)→Prop
 |[.agg [.ints .i64 31 zs],.v (.int .i64 n)],K=>K (.d (.v (.int .i64 (bB zs n))))
 |_,_=>False
theorem uF{f:FuncId}(hx:∀zs n,aQ f [.agg [.ints .i64 31 zs],.v (.int .i64 n)] (.d (.v (.int .i64 (bB zs n))))):∀args K,DK args K→∃r,aQ f args r∧K r:=by
 intro args K h
 unfold DK at h
 split at h
 ·exact⟨_,hx _ _,h⟩
 ·exact h.elim
theorem yI{x:Int}(h:0≤x∧x<15):x=0∨x=1∨x=2∨x=3∨x=4∨x=5∨x=6∨x=7∨x=8∨x=9∨x=10∨x=11∨x=12∨x=13∨x=14:=by omega
def uK(n:Int):Bool:=decide (0≤n)&&decide (n<15)
def Zo:List A→(bP→Prop)→Prop
 |[.v (.int .i64 x)],K=>K (.d (.v (.bool (uK x))))
 |_,_=>False
theorem as1(x:Int):aQ 159 [.v (.int .i64 x)] (.d (.v (.bool (uK x)))):=by
 refine dF (E:=uq) Tryz.func159 Tryz.ntmps159 ?_
 by_cases h:0≤x
 ·refine ago ?_;(try exact⟨⟩)
  simp[uK,h]
 ·refine ago ?_;(try exact⟨⟩)
  simp[uK,h]
theorem Zp{f:FuncId}(hx:∀x,aQ f [.v (.int .i64 x)] (.d (.v (.bool (uK x))))):∀args K,Zo args K→∃r,aQ f args r∧K r:=by
 intro args K h
 unfold Zo at h
 split at h
 ·exact⟨_,hx _,h⟩
 ·exact h.elim
def X9:List A→(bP→Prop)→Prop
 |[.v (.int .i64 y)],K=>K (.d (.v (.bool (y.tmod 2==0))))
 |_,_=>False
theorem an6(y:Int):aQ 160 [.v (.int .i64 y)] (.d (.v (.bool (y.tmod 2==0)))):=by
 refine dF (E:=uq) Tryz.func160 Tryz.ntmps160 ?_
 refine ago ?_;(try exact⟨⟩)
theorem Ya{f:FuncId}(hx:∀y,aQ f [.v (.int .i64 y)] (.d (.v (.bool (y.tmod 2==0))))):∀args K,X9 args K→∃r,aQ f args r∧K r:=by
 intro args K h
 unfold X9 at h
 split at h
 ·exact⟨_,hx _,h⟩
 ·exact h.elim
noncomputable def aJ2:av:=an5.add 159 Zo (Zp as1) ⟨_,Tryz.func159,by kernel_rfl,by kernel_rfl⟩
noncomputable def NM:av:=aJ2.add 160 X9 (Ya an6) ⟨_,Tryz.func160,by kernel_rfl,by kernel_rfl⟩
set_option maxHeartbeats 4000000 in
theorem Y7(zs:List Int)(n:Int):aQ 85 [.agg [.ints .i64 31 zs],.v (.int .i64 n)] (.d (.v (.int .i64 (bB zs n)))):=by
 refine dF (E:=NM) Tryz.func85 Tryz.ntmps85 ?_
 by_cases h:0≤n∧n<15
 ·rcases yI h with rfl|rfl|rfl|rfl|rfl|rfl|rfl|rfl|rfl|rfl|rfl|rfl|rfl|rfl|rfl<;>((refine ago ?_;(try exact⟨⟩));try kernel_rfl)
 ·have hb:uK n=false:=by simp[uK];omega
  refine ago ?_;(try exact⟨⟩)
  simp[bB,h]
set_option maxHeartbeats 4000000 in
theorem Jl(zs:List Int)(n:Int):aQ 49 [.agg [.ints .i64 31 zs],.v (.int .i64 n)] (.d (.v (.int .i64 (bB zs n)))):=by
 refine dF (E:=NM) Tryz.func49 Tryz.ntmps49 ?_
 by_cases h:0≤n∧n<15
 ·rcases yI h with rfl|rfl|rfl|rfl|rfl|rfl|rfl|rfl|rfl|rfl|rfl|rfl|rfl|rfl|rfl<;>((refine ago ?_;(try exact⟨⟩));try kernel_rfl)
 ·by_cases h0:0≤n
  ·have h1:¬n<15:=fun e=>h ⟨h0,e⟩
   refine ago ?_;(try exact⟨⟩)
   simp[bB,h]
  ·refine ago ?_;(try exact⟨⟩)
   simp[bB,h]
def gK(n:Int):Int:=if n=7 then 4 else if n%4=3 then 2 else 1
def jX(n:Int):Bool:=decide (0≤n)&&decide (n<15)&&decide (n%2=1)
def YE:List A→(bP→Prop)→Prop
 |[.v (.int .i64 n)],K=>jX n=true∧K (.d (.v (.int .i64 (gK n))))
 |_,_=>False
theorem seven{x:Int}(h:jX x=true):x=1∨x=3∨x=5∨x=7∨x=9∨x=11∨x=13:=by simp[jX]at h;omega
theorem ap2(n:Int)(h:jX n=true):aQ 172 [.v (.int .i64 n)] (.d (.v (.int .i64 (gK n)))):=by
 refine dF (E:=uq) Tryz.func172 Tryz.ntmps172 ?_
 rcases seven h with rfl|rfl|rfl|rfl|rfl|rfl|rfl<;>((refine ago ?_;(try exact⟨⟩));try rfl)
theorem YF:∀args K,YE args K→∃r,aQ 172 args r∧K r:=by
 intro args K h
 unfold YE at h
 split at h
 ·exact⟨_,ap2 _ h.1,h.2⟩
 ·exact h.elim
def tzS:List A→(bP→Prop)→Prop
 |[.v (.int .u64 n)],K=>jX (n-1)=true∧K (.d (.v (.int .i64 (if n=8 then 3 else if n%4=0 then 2 else 1))))
 |_,_=>False
theorem ad6{x:Int}(h:jX (x-1)=true):x=2∨x=4∨x=6∨x=8∨x=10∨x=12∨x=14:=by simp[jX]at h;omega
set_option maxHeartbeats 4000000 in
theorem ax7(n:Int)(h:jX (n-1)=true):aQ 211 [.v (.int .u64 n)] (.d (.v (.int .i64 (if n=8 then 3 else if n%4=0 then 2 else 1)))):=by
 refine dF (E:=uq) Tryz.func211 Tryz.ntmps211 ?_
 rcases ad6 h with rfl|rfl|rfl|rfl|rfl|rfl|rfl<;>((refine ago ?_;(try exact⟨⟩));try kernel_rfl)
theorem af7{f:FuncId}(hx:∀n,jX (n-1)=true→aQ f [.v (.int .u64 n)] (.d (.v (.int .i64 (if n=8 then 3 else if n%4=0 then 2 else 1))))):∀args K,tzS args K→∃r,aQ f args r∧K r:=by
 intro args K h
 unfold tzS at h
 split at h
 ·exact⟨_,hx _ h.1,h.2⟩
 ·exact h.elim
noncomputable def XD:av:=NM.add 211 tzS (af7 ax7) ⟨_,Tryz.func211,by kernel_rfl,by kernel_rfl⟩
theorem bp9(n:Int)(h:jX (n-1)=true):aQ 198 [.v (.int .u64 n)] (.d (.v (.int .i64 (if n=8 then 3 else if n%4=0 then 2 else 1)))):=by
 refine dF (E:=XD) Tryz.func198 Tryz.ntmps198 ?_
 rcases ad6 h with rfl|rfl|rfl|rfl|rfl|rfl|rfl<;>((refine ago ?_;(try exact⟨⟩));try rfl)
noncomputable def XE:av:=XD.add 198 tzS (af7 bp9) ⟨_,Tryz.func198,by kernel_rfl,by kernel_rfl⟩
def Np:List A→(bP→Prop)→Prop
 |[.v (.int .i64 n)],K=>jX n=true∧K (.t [.v (.int .i64 (n-gK n)),.v (.int .i64 (n+gK n))])
 |_,_=>False
set_option maxHeartbeats 4000000 in
theorem WM(n:Int)(h:jX n=true):aQ 181 [.v (.int .i64 n)] (.t [.v (.int .i64 (n-gK n)),.v (.int .i64 (n+gK n))]):=by
 refine dF (E:=XE) Tryz.func181 Tryz.ntmps181 ?_
 rcases seven h with rfl|rfl|rfl|rfl|rfl|rfl|rfl<;>((refine ago ?_;(try exact⟨⟩));try kernel_rfl)
theorem SY:∀args K,Np args K→∃r,aQ 181 args r∧K r:=by
 intro args K h
 unfold Np at h
 split at h
 ·exact⟨_,WM _ h.1,h.2⟩
 ·exact h.elim
noncomputable def aJ3:av:=XE.add 181 Np SY ⟨_,Tryz.func181,by kernel_rfl,by kernel_rfl⟩
noncomputable def aJ4:av:=aJ3.add 172 YE YF ⟨_,Tryz.func172,by kernel_rfl,by kernel_rfl⟩
noncomputable def aJ5:av:=aJ4.add 85 DK (uF Y7) ⟨_,Tryz.func85,by kernel_rfl,by kernel_rfl⟩
noncomputable def yF:av:=aJ5.add 49 DK (uF Jl) ⟨_,Tryz.func49,by kernel_rfl,by kernel_rfl⟩
end
section
attribute [local irreducible] aV aZ bQ
def dI:Nat→List Int→Int→List Int
 |0,zs,n=>if bB zs n=0 then[]else[n]
 |d+1,zs,n=>if bB zs n=0 then(if jX n=true then dI d zs (n-gK n)++dI d zs (n+gK n)else[])else[n]
theorem mo(zs:List Int):∀(d:Nat) (n:Int),(dI d zs n).length≤2^d
 |0,n=>by unfold dI;split<;>simp
 |d+1,n=>by
  unfold dI
  have h1:=mo zs d (n-gK n)
  have h2:=mo zs d (n+gK n)
  have h3:1≤2^d:=Nat.one_le_two_pow
  rw[Nat.pow_succ]
  split
  ·split
   ·rw[List.length_append];omega
   ·simp
  ·simp;omega
def okD(d:Nat)(n:Int):Bool:=
 !jX n||(decide (1≤d)&&decide (n%4=1))||(decide (2≤d)&&decide (n%8=3))||decide (3≤d)
def tZ(d:Nat)(zs:List Int)(n:Int):bP:=.o 3 1 (dI d zs n).length [.ints .i64 (dI d zs n).length (dI d zs n)]
def Pp(d:Nat):List A→(bP→Prop)→Prop
 |[.agg [.ints .i64 31 zs],.v (.int .i64 n)],K=>okD d n=true∧K (.o 3 1 (dI d zs n).length [.ints .i64 (dI d zs n).length (dI d zs n)])
 |_,_=>False
theorem zk{f:FuncId}{d:Nat}(hx:∀zs n,okD d n=true→aQ f [.agg [.ints .i64 31 zs],.v (.int .i64 n)] (tZ d zs n)):∀args K,Pp d args K→∃r,aQ f args r∧K r:=by
 intro args K h
 unfold Pp at h
 split at h
 ·exact⟨_,hx _ _ h.1,h.2⟩
 ·exact h.elim
theorem ab3(E:av)(d:Nat)(zs:List Int)(n:Int)(hn:jX n=false)(h:∀r,(bB zs n=0∧r=.d (.v (.slice none 0 0))∨bB zs n≠0∧r=.o 3 1 1 [.ints .i64 1 [n]])→aQ 130 [.agg [.ints .i64 31 zs],.v (.int .i64 n)] r):
  aQ 130 [.agg [.ints .i64 31 zs],.v (.int .i64 n)] (tZ d zs n):=by
 by_cases hk:bB zs n=0
 ·have e:dI d zs n=[]:=by cases d<;>simp[dI,hk,hn]
  unfold tZ
  rw[e]
  exact Yh (h _ (.inl ⟨hk,rfl⟩)) rfl
 ·have e:dI d zs n=[n]:=by cases d<;>simp[dI,hk]
  unfold tZ
  rw[e]
  exact h _ (.inr ⟨hk,rfl⟩)
set_option maxHeartbeats 8000000 in
theorem RY(E:av)(zs:List Int)(n:Int)(hn:jX n=false)(d:Nat):aQ 130 [.agg [.ints .i64 31 zs],.v (.int .i64 n)] (tZ d zs n):=by
 refine ab3 yF d zs n hn fun r hr=>?_
 refine dF (E:=yF) Tryz.func130 Tryz.ntmps130 ?_
 rcases hr with⟨hk,rfl⟩|⟨hk,rfl⟩
 ·have hk0:(bB zs n !=0)=false:=by simp[hk]
  by_cases h:uK n=true
  ·have he:(n.tmod 2==0)=true:=by
    simp[uK]at h
    simp[jX,h]at hn
    have:n.tmod 2=n%2:=Int.tmod_eq_emod_of_nonneg h.1
    simp[this];omega
   clear hk
   refine ago ?_;(try exact⟨⟩)
   all_goals try rfl
  ·have h':uK n=false:=by simpa using h
   clear h hk
   refine ago ?_;(try exact⟨⟩)
   all_goals try rfl
 ·have hk0:(bB zs n !=0)=true:=by simp[hk]
  clear hk
  refine ago ?_;(try exact⟨⟩)
  all_goals try rfl
theorem xG{d:Nat}{n:Int}(hn:jX n=true)(h:okD (d+1) n=true):okD d (n-gK n)=true∧okD d (n+gK n)=true:=by
 rcases seven hn with rfl|rfl|rfl|rfl|rfl|rfl|rfl<;>rcases d with _|_|d<;>first|(simp[okD,jX]at h;done)|(constructor<;>simp[okD,jX,gK])
theorem Zx{n:Int}(hn:jX n=true):uK n=true∧(n.tmod 2==0)=false:=by
 rcases seven hn with rfl|rfl|rfl|rfl|rfl|rfl|rfl<;>decide
set_option maxHeartbeats 8000000 in
theorem Ep(d:Nat)(hd:d≤3)(ih:∀zs n,okD d n=true→aQ 130 [.agg [.ints .i64 31 zs],.v (.int .i64 n)] (tZ d zs n))(zs:List Int)(n:Int)(hok:okD (d+1) n=true):
  aQ 130 [.agg [.ints .i64 31 zs],.v (.int .i64 n)] (tZ (d+1) zs n):=by
 cases hn:jX n with
 |false=>exact RY yF zs n hn (d+1)
 |true=>
  obtain⟨o1,o2⟩:=xG hn hok
  obtain⟨o3,o4⟩:=Zx hn
  have p2:2^d≤8:=by
   have:d=0∨d=1∨d=2∨d=3:=by omega
   rcases this with rfl|rfl|rfl|rfl<;>decide
  have l1:(dI d zs (n-gK n)).length≤8:=Nat.le_trans (mo zs d _) p2
  have l2:(dI d zs (n+gK n)).length≤8:=Nat.le_trans (mo zs d _) p2
  refine dF (E:=(yF.add 130 (Pp d) (zk ih) ⟨_,Tryz.func130,by kernel_rfl,by kernel_rfl⟩)) Tryz.func130 Tryz.ntmps130 ?_
  by_cases hk:bB zs n=0
  ·have hk0:(bB zs n !=0)=false:=by simp[hk]
   have e:dI (d+1) zs n=dI d zs (n-gK n)++dI d zs (n+gK n):=by simp[dI,hk,hn]
   unfold tZ
   rw[e]
   clear hk e hok p2
   refine ago ?_;(try exact⟨⟩)
   all_goals try rfl
   simp
  ·have hk0:(bB zs n !=0)=true:=by simp[hk]
   have e:dI (d+1) zs n=[n]:=by simp[dI,hk]
   unfold tZ
   rw[e]
   clear hk e hok p2
   refine ago ?_;(try exact⟨⟩)
   all_goals try rfl
theorem aR5(zs:List Int)(n:Int):aQ 130 [.agg [.ints .i64 31 zs],.v (.int .i64 n)] (tZ 3 zs n):=by
 refine Ep 2 (by decide) (Ep 1 (by decide) (Ep 0 (by decide) fun zs n h=>RY yF zs n (by simpa[okD]using h) 0)) zs n (by simp[okD])
theorem GD(d:Nat)(zs:List Int)(n:Int)(hn:jX n=false):aQ 105 [.agg [.ints .i64 31 zs],.v (.int .i64 n)] (tZ d zs n):=by
 have hkr:¬(0≤n∧n<15)→bB zs n=0:=fun h=>by simp[bB,h]
 by_cases hk:bB zs n=0
 ·have e:dI d zs n=[]:=by cases d<;>simp[dI,hk,hn]
  unfold tZ
  rw[e]
  refine Yh ?_ rfl
  refine dF (E:=yF) Tryz.func105 Tryz.ntmps105 ?_
  have hk0:(bB zs n !=0)=false:=by simp[hk]
  by_cases h:0≤n∧n<15
  ·have hb:(bits .and .i64 n 1==0)=true:=by
    rcases yI h with rfl|rfl|rfl|rfl|rfl|rfl|rfl|rfl|rfl|rfl|rfl|rfl|rfl|rfl|rfl<;>first|rfl|(simp[jX]at hn)
   obtain⟨h1,h2⟩:=h
   clear hk e hkr
   refine ago ?_;(try exact⟨⟩)
   all_goals try rfl
  ·clear hk e hkr
   by_cases h0:0≤n
   ·have h1:¬n<15:=fun e=>h ⟨h0,e⟩
    refine ago ?_;(try exact⟨⟩)
   all_goals try rfl
   ·refine ago ?_;(try exact⟨⟩)
 ·have e:dI d zs n=[n]:=by cases d<;>simp[dI,hk]
  unfold tZ
  rw[e]
  refine dF (E:=yF) Tryz.func105 Tryz.ntmps105 ?_
  have hk0:(bB zs n !=0)=true:=by simp[hk]
  have h:0≤n∧n<15:=Decidable.byContradiction fun h=>hk (hkr h)
  obtain⟨h1,h2⟩:=h
  clear hk e hkr
  refine ago ?_;(try exact⟨⟩)
  all_goals try rfl
theorem Zy{n:Int}(hn:jX n=true):IntKind.i64.wrap (n-gK n)=n-gK n∧IntKind.i64.wrap (n+gK n)=n+gK n∧(bits .and .i64 n 1==0)=false∧0≤n∧n<15:=by
 rcases seven hn with rfl|rfl|rfl|rfl|rfl|rfl|rfl<;>decide
set_option maxHeartbeats 8000000 in
theorem Am(d:Nat)(hd:d≤3)(ih:∀zs n,okD d n=true→aQ 105 [.agg [.ints .i64 31 zs],.v (.int .i64 n)] (tZ d zs n))(zs:List Int)(n:Int)(hok:okD (d+1) n=true):
  aQ 105 [.agg [.ints .i64 31 zs],.v (.int .i64 n)] (tZ (d+1) zs n):=by
 cases hn:jX n with
 |false=>exact GD (d+1) zs n hn
 |true=>
  obtain⟨o1,o2⟩:=xG hn hok
  obtain⟨e1,e2,e3,e4,e5⟩:=Zy hn
  have p2:2^d≤8:=by
   have:d=0∨d=1∨d=2∨d=3:=by omega
   rcases this with rfl|rfl|rfl|rfl<;>decide
  have l1:(dI d zs (n-gK n)).length≤8:=Nat.le_trans (mo zs d _) p2
  have l2:(dI d zs (n+gK n)).length≤8:=Nat.le_trans (mo zs d _) p2
  refine dF (E:=(yF.add 105 (Pp d) (zk ih) ⟨_,Tryz.func105,by kernel_rfl,by kernel_rfl⟩)) Tryz.func105 Tryz.ntmps105 ?_
  by_cases hk:bB zs n=0
  ·have hk0:(bB zs n !=0)=false:=by simp[hk]
   have e:dI (d+1) zs n=dI d zs (n-gK n)++dI d zs (n+gK n):=by simp[dI,hk,hn]
   unfold tZ
   rw[e]
   have o1':=o1
   have o2':=o2
   have l1':=l1
   have l2':=l2
   rw[←e1]at o1' l1'
   rw[←e2]at o2' l2'
   clear hk e hok p2
   refine ago ?_;(try exact⟨⟩)
   all_goals try rfl
   simp[e1,e2]
  ·have hk0:(bB zs n !=0)=true:=by simp[hk]
   have e:dI (d+1) zs n=[n]:=by simp[dI,hk]
   unfold tZ
   rw[e]
   clear hk e hok p2
   refine ago ?_;(try exact⟨⟩)
   all_goals try rfl
theorem R8(zs:List Int)(n:Int):aQ 105 [.agg [.ints .i64 31 zs],.v (.int .i64 n)] (tZ 3 zs n):=by
 refine Am 2 (by decide) (Am 1 (by decide) (Am 0 (by decide) fun zs n h=>GD 0 zs n (by simpa[okD]using h))) zs n (by simp[okD])
end
section
attribute [local irreducible] aV aZ bQ
noncomputable def aJ6:av:=yF.add 130 (Pp 3) (zk fun zs n _=>aR5 zs n) ⟨_,Tryz.func130,by kernel_rfl,by kernel_rfl⟩
noncomputable def aJ7:av:=aJ6.add 105 (Pp 3) (zk fun zs n _=>R8 zs n) ⟨_,Tryz.func105,by kernel_rfl,by kernel_rfl⟩
noncomputable def aV8:av:=aJ7
end
section
attribute [local irreducible] aV aZ bQ
end
end Go.Proofs.YtjdjelopkhjdnaaGreatDoor
