/-
  Places and nodes: the first functions, by the machine without memory.
-/
import Derived.Test.YtjhgelfnmhdihaaGreatDoorJ10
namespace Go.Proofs.YtjhgelfnmhdihaaGreatDoor
set_option linter.unusedVariables false
set_option linter.unusedSimpArgs false
set_option maxRecDepth 100000
open Go.RowKit
section
attribute [local irreducible] aU aZ bR
def aG(x:Int):Bool:=decide (0≤x)&&decide (x<8)
def RI:List A→(bP→Prop)→Prop
 |[.v (.int .i64 x)],K=>K (.d (.v (.bool (aG x))))
 |_,_=>False
theorem ac1(x:Int):aP 140 [.v (.int .i64 x)] (.d (.v (.bool (aG x)))):=by
 refine dK (E:=uF) Tryz.func140 Tryz.ntmps140 ?_
 by_cases h:0≤x
 ·refine ago ?_;(try exact⟨⟩)
  simp[aG,h]
 ·refine ago ?_;(try exact⟨⟩)
  simp[aG,h]
theorem as1(x:Int):aP 181 [.v (.int .i64 x)] (.d (.v (.bool (aG x)))):=by
 refine dK (E:=uF) Tryz.func181 Tryz.ntmps181 ?_
 by_cases h:0≤x
 ·refine ago ?_;(try exact⟨⟩)
  simp[aG,h]
 ·refine ago ?_;(try exact⟨⟩)
  simp[aG,h]
theorem Lh{f:FuncId}(hx:∀x,aP f [.v (.int .i64 x)] (.d (.v (.bool (aG x))))):∀args K,RI args K→∃r,aP f args r∧K r:=by
 intro args K h
 unfold RI at h
 split at h
 ·exact⟨_,hx _,h⟩
 ·exact h.elim
noncomputable def aX5:ay:=uF.add 140 RI (Lh ac1) ⟨_,Tryz.func140,by kernel_rfl,by kernel_rfl⟩
noncomputable def aK4:ay:=aX5.add 181 RI (Lh as1) ⟨_,Tryz.func181,by kernel_rfl,by kernel_rfl⟩
def uT(x:Int):List Int:=if aG x=true then[x / 2*4+1,x / 4*8+3,7]else[0,0,0]
theorem GR(x:Int)(h0:0≤x)(h1:x<8):IntKind.i64.wrap (x.tdiv 2)=x / 2∧IntKind.i64.wrap (x / 2*4)=x / 2*4∧IntKind.i64.wrap (x / 2*4+1)=x / 2*4+1∧
  IntKind.i64.wrap (x.tdiv 4)=x / 4∧IntKind.i64.wrap (x / 4*8)=x / 4*8∧IntKind.i64.wrap (x / 4*8+3)=x / 4*8+3:=by
 rw[Int.tdiv_eq_ediv_of_nonneg h0,Int.tdiv_eq_ediv_of_nonneg h0]
 refine⟨dR ?_ ?_,dR ?_ ?_,dR ?_ ?_,dR ?_ ?_,dR ?_ ?_,dR ?_ ?_⟩<;>omega
theorem EH(x:Int):aP 64 [.v (.int .i64 x)] (.d (.agg [.ints .i64 3 (uT x)])):=by
 refine dK (E:=aK4) Tryz.func64 Tryz.ntmps64 ?_
 cases h:aG x with
 |false=>
  refine ago ?_;(try exact⟨⟩)
  simp[uT,h]
 |true=>
  have h':=h
  simp only[aG,Bool.and_eq_true,decide_eq_true_eq]at h'
  obtain⟨e1,e2,e3,e4,e5,e6⟩:=GR x h'.1 h'.2
  refine ago ?_;(try exact⟨⟩)
  simp[uT,h,e1,e2,e3,e4,e5,e6]
theorem R4(x:Int):aP 110 [.v (.int .i64 x)] (.d (.agg [.ints .i64 3 (uT x)])):=by
 refine dK (E:=aK4) Tryz.func110 Tryz.ntmps110 ?_
 cases h:aG x with
 |false=>
  refine ago ?_;(try exact⟨⟩)
  simp[uT,h]
 |true=>
  have h':=h
  simp only[aG,Bool.and_eq_true,decide_eq_true_eq]at h'
  obtain⟨e1,e2,e3,e4,e5,e6⟩:=GR x h'.1 h'.2
  refine ago ?_;(try exact⟨⟩)
  simp[uT,h,e1,e2,e3,e4,e5,e6]
end
section
attribute [local irreducible] aU aZ bR
def qc(p q r v:Int):Int:=if v=p then 0 else if v=q then 1 else if v=r then 2 else -1
def aq9:List A→(bP→Prop)→Prop
 |[.row 3 [.ints .i64 3 [p,q,r]],.v (.int .i64 v)],K=>K (.d (.v (.int .i64 (qc p q r v))))
 |_,_=>False
theorem Y6(p q r v:Int):aP 186 [.row 3 [.ints .i64 3 [p,q,r]],.v (.int .i64 v)] (.d (.v (.int .i64 (qc p q r v)))):=by
 refine dK (E:=uF) Tryz.func186 Tryz.ntmps186 ?_
 have lp:∀(a b:Int),¬a=b→(a==b)=false:=fun a b h=>by simp[h]
 by_cases h1:v=p
 ·refine ago ?_;(try exact⟨⟩)
  refine aM.mk (aB 4 ?_)
  refine ago ?_;(try exact⟨⟩)
  simp[qc,h1]
 ·by_cases h2:v=q
  ·refine ago ?_;(try exact⟨⟩)
   refine aM.mk (aB 4 ?_)
   refine ago ?_;(try exact⟨⟩)
   simp[qc,h1,h2]<;>omega
  ·by_cases h3:v=r
   ·refine ago ?_;(try exact⟨⟩)
    refine aM.mk (aB 4 ?_)
    refine ago ?_;(try exact⟨⟩)
    simp[qc,h1,h2,h3]<;>omega
   ·refine ago ?_;(try exact⟨⟩)
    refine aM.mk (aB 4 ?_)
    refine ago ?_;(try exact⟨⟩)
    simp[qc,h1,h2,h3]
end
section
attribute [local irreducible] aU aZ bR
theorem Rz{f:FuncId}(hx:∀p q r v,aP f [.row 3 [.ints .i64 3 [p,q,r]],.v (.int .i64 v)] (.d (.v (.int .i64 (qc p q r v))))):∀args K,aq9 args K→∃r,aP f args r∧K r:=by
 intro args K h
 unfold aq9 at h
 split at h
 ·exact⟨_,hx _ _ _ _,h⟩
 ·exact h.elim
noncomputable def aB5:ay:=aK4.add 186 aq9 (Rz Y6) ⟨_,Tryz.func186,by kernel_rfl,by kernel_rfl⟩
def aO6:List A→(bP→Prop)→Prop
 |[.row 3 [.ints .i64 3 [p,q,r]],.v (.int .i64 v)],K=>K (.d (.v (.bool (decide (qc p q r v≥0)))))
 |_,_=>False
theorem aO7(p q r v:Int):aP 122 [.row 3 [.ints .i64 3 [p,q,r]],.v (.int .i64 v)] (.d (.v (.bool (decide (qc p q r v≥0))))):=by
 refine dK (E:=aB5) Tryz.func122 Tryz.ntmps122 ?_
 refine ago ?_;(try exact⟨⟩)
theorem aq5{f:FuncId}(hx:∀p q r v,aP f [.row 3 [.ints .i64 3 [p,q,r]],.v (.int .i64 v)] (.d (.v (.bool (decide (qc p q r v≥0)))))):∀args K,aO6 args K→∃r,aP f args r∧K r:=by
 intro args K h
 unfold aO6 at h
 split at h
 ·exact⟨_,hx _ _ _ _,h⟩
 ·exact h.elim
noncomputable def aX6:ay:=aB5.add 122 aO6 (aq5 aO7) ⟨_,Tryz.func122,by kernel_rfl,by kernel_rfl⟩
def kr(x:Int):List Int:=[if aG x=true then x / 2*4+1 else 0,if aG x=true then x / 4*8+3 else 0,if aG x=true then 7 else 0]
theorem Z0(x:Int):uT x=kr x:=by unfold uT kr;split<;>rfl
def Jp:List A→(bP→Prop)→Prop
 |[.v (.int .i64 x)],K=>K (.d (.agg [.ints .i64 3 [if aG x=true then x / 2*4+1 else 0,if aG x=true then x / 4*8+3 else 0,if aG x=true then 7 else 0]]))
 |_,_=>False
theorem GQ{f:FuncId}(hx:∀x,aP f [.v (.int .i64 x)] (.d (.agg [.ints .i64 3 (uT x)]))):∀args K,Jp args K→∃r,aP f args r∧K r:=by
 intro args K h
 unfold Jp at h
 split at h
 ·exact⟨_,hx _,by rw[Z0];exact h⟩
 ·exact h.elim
noncomputable def aX7:ay:=aX6.add 110 Jp (GQ R4) ⟨_,Tryz.func110,by kernel_rfl,by kernel_rfl⟩
noncomputable def XQ:ay:=aX7.add 64 Jp (GQ EH) ⟨_,Tryz.func64,by kernel_rfl,by kernel_rfl⟩
def aJ(n x:Int):Bool:=aG x&&(decide (n=2*x)||decide (n=x / 2*4+1)||decide (n=x / 4*8+3)||decide (n=7))
def AB:List A→(bP→Prop)→Prop
 |[.v (.int .i64 n),.v (.int .i64 x)],K=>K (.d (.v (.bool (aJ n x))))
 |_,_=>False
theorem dh{x:Int}(h:aG x=true):0≤x∧x<8:=by simpa[aG]using h
theorem MW(n x:Int):aP 127 [.v (.int .i64 n),.v (.int .i64 x)] (.d (.v (.bool (aJ n x)))):=by
 refine dK (E:=XQ) Tryz.func127 Tryz.ntmps127 ?_
 cases h:aG x with
 |false=>
  refine ago ?_;(try exact⟨⟩)
  simp[aJ,h]
 |true=>
  have h':=dh h
  have e1:IntKind.i64.wrap (2*x)=2*x:=dR (by omega) (by omega)
  by_cases h1:n=2*x
  ·refine ago ?_;(try exact⟨⟩)
   simp[aJ,h,h1]
  ·refine ago ?_;(try exact⟨⟩)
   simp[aJ,h,h1,qc]
   repeat (split<;>simp_all)
theorem G8(n x:Int):aP 154 [.v (.int .i64 n),.v (.int .i64 x)] (.d (.v (.bool (aJ n x)))):=by
 refine dK (E:=XQ) Tryz.func154 Tryz.ntmps154 ?_
 cases h:aG x with
 |false=>
  refine ago ?_;(try exact⟨⟩)
  simp[aJ,h]
 |true=>
  have h':=dh h
  have e1:IntKind.i64.wrap (2*x)=2*x:=dR (by omega) (by omega)
  by_cases h0:0≤n
  ·by_cases h9:n<15
   ·by_cases h1:n=2*x
    ·refine ago ?_;(try exact⟨⟩)
     simp[aJ,h,h1]
    ·by_cases h2:n=x / 2*4+1
     ·refine ago ?_;(try exact⟨⟩)
      simp[aJ,h,h2]
     ·by_cases h3:n=x / 4*8+3
      ·refine ago ?_;(try exact⟨⟩)
       simp[aJ,h,h3]
      ·refine ago ?_;(try exact⟨⟩)
       simp[aJ,h,h1,h2,h3]
       rfl
   ·refine ago ?_;(try exact⟨⟩)
    simp[aJ,h]<;>omega
  ·refine ago ?_;(try exact⟨⟩)
   simp[aJ,h]<;>omega
def dI(x:Int):List Int:=if aG x=true then[if x%2=0 then 2*x+2 else 2*x-2,if x / 2%2=0 then x / 2*4+5 else x / 2*4-3,if x / 4=0 then 11 else 3]else[0,0,0]
theorem eight{p:Int→Prop}{x:Int}(h:0≤x∧x<8)(h0:p 0)(h1:p 1)(h2:p 2)(h3:p 3)(h4:p 4)(h5:p 5)(h6:p 6)(h7:p 7):p x:=by
 have:x=0∨x=1∨x=2∨x=3∨x=4∨x=5∨x=6∨x=7:=by omega
 rcases this with rfl|rfl|rfl|rfl|rfl|rfl|rfl|rfl<;>assumption
theorem SA(x:Int):aP 132 [.v (.int .i64 x)] (.d (.agg [.ints .i64 3 (dI x)])):=by
 refine dK (E:=XQ) Tryz.func132 Tryz.ntmps132 ?_
 cases h:aG x with
 |false=>
  refine ago ?_;(try exact⟨⟩)
  simp[dI,h]
 |true=>
  have h':=dh h
  refine ago ?_;(try exact⟨⟩)
  simp[dI,h]
  have:x=0∨x=1∨x=2∨x=3∨x=4∨x=5∨x=6∨x=7:=by omega
  rcases this with rfl|rfl|rfl|rfl|rfl|rfl|rfl|rfl<;>decide
def aD(a b:Int):Int:=if aG a=true∧aG b=true then(if a=b then 2*a else if a / 2=b / 2 then a / 2*4+1 else if a / 4=b / 4 then a / 4*8+3 else 7)else 0
theorem wB{f:FuncId}(hx:∀n x,aP f [.v (.int .i64 n),.v (.int .i64 x)] (.d (.v (.bool (aJ n x))))):∀args K,AB args K→∃r,aP f args r∧K r:=by
 intro args K h
 unfold AB at h
 split at h
 ·exact⟨_,hx _ _,h⟩
 ·exact h.elim
def ae3:List A→(bP→Prop)→Prop
 |[.v (.int .i64 x)],K=>K (.d (.agg [.ints .i64 3 [(dI x).getD 0 0,(dI x).getD 1 0,(dI x).getD 2 0]]))
 |_,_=>False
theorem ae4{f:FuncId}(hx:∀x,aP f [.v (.int .i64 x)] (.d (.agg [.ints .i64 3 (dI x)]))):∀args K,ae3 args K→∃r,aP f args r∧K r:=by
 intro args K h
 unfold ae3 at h
 split at h
 ·refine⟨_,hx _,?_⟩
  have e:∀x,[(dI x).getD 0 0,(dI x).getD 1 0,(dI x).getD 2 0]=dI x:=by intro x;unfold dI;split<;>rfl
  rw[e]at h;exact h
 ·exact h.elim
noncomputable def aX9:ay:=XQ.add 127 AB (wB MW) ⟨_,Tryz.func127,by kernel_rfl,by kernel_rfl⟩
noncomputable def aY0:ay:=aX9.add 154 AB (wB G8) ⟨_,Tryz.func154,by kernel_rfl,by kernel_rfl⟩
noncomputable def aX8:ay:=aY0.add 132 ae3 (ae4 SA) ⟨_,Tryz.func132,by kernel_rfl,by kernel_rfl⟩
theorem FU(a b:Int):aP 120 [.v (.int .i64 a),.v (.int .i64 b)] (.d (.v (.int .i64 (aD a b)))):=by
 refine dK (E:=aX8) Tryz.func120 Tryz.ntmps120 ?_
 cases h:aG a with
 |false=>
  refine ago ?_;(try exact⟨⟩)
  simp[aD,h]
 |true=>
  have h':=dh h
  have e1:IntKind.i64.wrap (2*a)=2*a:=dR (by omega) (by omega)
  cases g:aG b with
  |false=>
   refine ago ?_;(try exact⟨⟩)
   simp[aD,g]
  |true=>
   have g':=dh g
   by_cases c:a=b
   ·subst c
    refine ago ?_;(try exact⟨⟩)
    simp[aD,h,e1]
   ·by_cases c1:a / 2=b / 2
    ·have u1:aJ (a / 2*4+1) b=true:=by simp[aJ,g,c1]
     have u1':aJ (b / 2*4+1) b=true:=by simp[aJ,g]
     refine ago ?_;(try exact⟨⟩)
     refine aM.mk (aB 4 ?_)
     refine ago ?_;(try exact⟨⟩)
     simp[aD,h,g,c,c1]
    ·have u1:aJ (a / 2*4+1) b=false:=by simp[aJ,g]<;>omega
     by_cases c2:a / 4=b / 4
     ·have u2:aJ (a / 4*8+3) b=true:=by simp[aJ,g,c2]
      have u2':aJ (b / 4*8+3) b=true:=by simp[aJ,g]
      refine ago ?_;(try exact⟨⟩)
      refine aM.mk (aB 4 ?_)
      refine ago ?_;(try exact⟨⟩)
      simp[aD,h,g,c,c1,c2]
     ·have u2:aJ (a / 4*8+3) b=false:=by simp[aJ,g]<;>omega
      have u3:aJ 7 b=true:=by simp[aJ,g]
      refine ago ?_;(try exact⟨⟩)
      refine aM.mk (aB 4 ?_)
      refine ago ?_;(try exact⟨⟩)
      simp[aD,h,g,c,c1,c2]
def vG:List A→(bP→Prop)→Prop
 |[.v (.int .i64 a),.v (.int .i64 b)],K=>K (.d (.v (.int .i64 (aD a b))))
 |_,_=>False
theorem rV{f:FuncId}(hx:∀a b,aP f [.v (.int .i64 a),.v (.int .i64 b)] (.d (.v (.int .i64 (aD a b))))):∀args K,vG args K→∃r,aP f args r∧K r:=by
 intro args K h
 unfold vG at h
 split at h
 ·exact⟨_,hx _ _,h⟩
 ·exact h.elim
noncomputable def bx8:ay:=aX8.add 120 vG (rV FU) ⟨_,Tryz.func120,by kernel_rfl,by kernel_rfl⟩
end
section
attribute [local irreducible] aU aZ bR
def IZ:List A→(bP→Prop)→Prop
 |[],K=>K (.d (.v (.bool true)))
 |_,_=>False
theorem Gq{f:FuncId}(hx:aP f [] (.d (.v (.bool true)))):∀args K,IZ args K→∃r,aP f args r∧K r:=by
 intro args K h
 unfold IZ at h
 split at h
 ·exact⟨_,hx,h⟩
 ·exact h.elim
noncomputable def ao2:ay:=bx8
end
section
attribute [local irreducible] aU aZ bR
def bA(zs:List Int)(n:Int):Int:=if 0≤n∧n<15 then(if n%2=0 then zs.getD (n.toNat+1) 0 else zs.getD (16+n.toNat) 0)else 0
def DY:List A→(bP→Prop)→Prop
 |[.agg [.ints .i64 31 zs],.v (.int .i64 n)],K=>K (.d (.v (.int .i64 (bA zs n))))
 |_,_=>False
theorem uM{f:FuncId}(hx:∀zs n,aP f [.agg [.ints .i64 31 zs],.v (.int .i64 n)] (.d (.v (.int .i64 (bA zs n))))):∀args K,DY args K→∃r,aP f args r∧K r:=by
 intro args K h
 unfold DY at h
 split at h
 ·exact⟨_,hx _ _,h⟩
 ·exact h.elim
theorem yL{x:Int}(h:0≤x∧x<15):x=0∨x=1∨x=2∨x=3∨x=4∨x=5∨x=6∨x=7∨x=8∨x=9∨x=10∨x=11∨x=12∨x=13∨x=14:=by omega
def uR(n:Int):Bool:=decide (0≤n)&&decide (n<15)
def Zw:List A→(bP→Prop)→Prop
 |[.v (.int .i64 x)],K=>K (.d (.v (.bool (uR x))))
 |_,_=>False
theorem as9(x:Int):aP 176 [.v (.int .i64 x)] (.d (.v (.bool (uR x)))):=by
 refine dK (E:=uF) Tryz.func176 Tryz.ntmps176 ?_
 by_cases h:0≤x
 ·refine ago ?_;(try exact⟨⟩)
  simp[uR,h]
 ·refine ago ?_;(try exact⟨⟩)
  simp[uR,h]
theorem Zx{f:FuncId}(hx:∀x,aP f [.v (.int .i64 x)] (.d (.v (.bool (uR x))))):∀args K,Zw args K→∃r,aP f args r∧K r:=by
 intro args K h
 unfold Zw at h
 split at h
 ·exact⟨_,hx _,h⟩
 ·exact h.elim
def Yi:List A→(bP→Prop)→Prop
 |[.v (.int .i64 y)],K=>K (.d (.v (.bool (y.tmod 2==0))))
 |_,_=>False
theorem ao3(y:Int):aP 177 [.v (.int .i64 y)] (.d (.v (.bool (y.tmod 2==0)))):=by
 refine dK (E:=uF) Tryz.func177 Tryz.ntmps177 ?_
 refine ago ?_;(try exact⟨⟩)
theorem Yj{f:FuncId}(hx:∀y,aP f [.v (.int .i64 y)] (.d (.v (.bool (y.tmod 2==0))))):∀args K,Yi args K→∃r,aP f args r∧K r:=by
 intro args K h
 unfold Yi at h
 split at h
 ·exact⟨_,hx _,h⟩
 ·exact h.elim
noncomputable def aK5:ay:=ao2.add 176 Zw (Zx as9) ⟨_,Tryz.func176,by kernel_rfl,by kernel_rfl⟩
noncomputable def N9:ay:=aK5.add 177 Yi (Yj ao3) ⟨_,Tryz.func177,by kernel_rfl,by kernel_rfl⟩
set_option maxHeartbeats 4000000 in
theorem Ze(zs:List Int)(n:Int):aP 107 [.agg [.ints .i64 31 zs],.v (.int .i64 n)] (.d (.v (.int .i64 (bA zs n)))):=by
 refine dK (E:=N9) Tryz.func107 Tryz.ntmps107 ?_
 by_cases h:0≤n∧n<15
 ·rcases yL h with rfl|rfl|rfl|rfl|rfl|rfl|rfl|rfl|rfl|rfl|rfl|rfl|rfl|rfl|rfl<;>((refine ago ?_;(try exact⟨⟩));try kernel_rfl)
 ·have hb:uR n=false:=by simp[uR];omega
  refine ago ?_;(try exact⟨⟩)
  simp[bA,h]
set_option maxHeartbeats 4000000 in
theorem JB(zs:List Int)(n:Int):aP 68 [.agg [.ints .i64 31 zs],.v (.int .i64 n)] (.d (.v (.int .i64 (bA zs n)))):=by
 refine dK (E:=N9) Tryz.func68 Tryz.ntmps68 ?_
 by_cases h:0≤n∧n<15
 ·rcases yL h with rfl|rfl|rfl|rfl|rfl|rfl|rfl|rfl|rfl|rfl|rfl|rfl|rfl|rfl|rfl<;>((refine ago ?_;(try exact⟨⟩));try kernel_rfl)
 ·by_cases h0:0≤n
  ·have h1:¬n<15:=fun e=>h ⟨h0,e⟩
   refine ago ?_;(try exact⟨⟩)
   simp[bA,h]
  ·refine ago ?_;(try exact⟨⟩)
   simp[bA,h]
def gQ(n:Int):Int:=if n=7 then 4 else if n%4=3 then 2 else 1
def ko(n:Int):Bool:=decide (0≤n)&&decide (n<15)&&decide (n%2=1)
def YL:List A→(bP→Prop)→Prop
 |[.v (.int .i64 n)],K=>ko n=true∧K (.d (.v (.int .i64 (gQ n))))
 |_,_=>False
theorem seven{x:Int}(h:ko x=true):x=1∨x=3∨x=5∨x=7∨x=9∨x=11∨x=13:=by simp[ko]at h;omega
theorem aq1(n:Int)(h:ko n=true):aP 191 [.v (.int .i64 n)] (.d (.v (.int .i64 (gQ n)))):=by
 refine dK (E:=uF) Tryz.func191 Tryz.ntmps191 ?_
 rcases seven h with rfl|rfl|rfl|rfl|rfl|rfl|rfl<;>((refine ago ?_;(try exact⟨⟩));try rfl)
theorem YM:∀args K,YL args K→∃r,aP 191 args r∧K r:=by
 intro args K h
 unfold YL at h
 split at h
 ·exact⟨_,aq1 _ h.1,h.2⟩
 ·exact h.elim
def tzS:List A→(bP→Prop)→Prop
 |[.v (.int .u64 n)],K=>ko (n-1)=true∧K (.d (.v (.int .i64 (if n=8 then 3 else if n%4=0 then 2 else 1))))
 |_,_=>False
theorem ae1{x:Int}(h:ko (x-1)=true):x=2∨x=4∨x=6∨x=8∨x=10∨x=12∨x=14:=by simp[ko]at h;omega
set_option maxHeartbeats 4000000 in
theorem ay6(n:Int)(h:ko (n-1)=true):aP 224 [.v (.int .u64 n)] (.d (.v (.int .i64 (if n=8 then 3 else if n%4=0 then 2 else 1)))):=by
 refine dK (E:=uF) Tryz.func224 Tryz.ntmps224 ?_
 rcases ae1 h with rfl|rfl|rfl|rfl|rfl|rfl|rfl<;>((refine ago ?_;(try exact⟨⟩));try kernel_rfl)
theorem ag3{f:FuncId}(hx:∀n,ko (n-1)=true→aP f [.v (.int .u64 n)] (.d (.v (.int .i64 (if n=8 then 3 else if n%4=0 then 2 else 1))))):∀args K,tzS args K→∃r,aP f args r∧K r:=by
 intro args K h
 unfold tzS at h
 split at h
 ·exact⟨_,hx _ h.1,h.2⟩
 ·exact h.elim
noncomputable def XM:ay:=N9.add 224 tzS (ag3 ay6) ⟨_,Tryz.func224,by kernel_rfl,by kernel_rfl⟩
theorem br9(n:Int)(h:ko (n-1)=true):aP 210 [.v (.int .u64 n)] (.d (.v (.int .i64 (if n=8 then 3 else if n%4=0 then 2 else 1)))):=by
 refine dK (E:=XM) Tryz.func210 Tryz.ntmps210 ?_
 rcases ae1 h with rfl|rfl|rfl|rfl|rfl|rfl|rfl<;>((refine ago ?_;(try exact⟨⟩));try rfl)
noncomputable def XO:ay:=XM.add 210 tzS (ag3 br9) ⟨_,Tryz.func210,by kernel_rfl,by kernel_rfl⟩
def ND:List A→(bP→Prop)→Prop
 |[.v (.int .i64 n)],K=>ko n=true∧K (.t [.v (.int .i64 (n-gQ n)),.v (.int .i64 (n+gQ n))])
 |_,_=>False
set_option maxHeartbeats 4000000 in
theorem W9(n:Int)(h:ko n=true):aP 189 [.v (.int .i64 n)] (.t [.v (.int .i64 (n-gQ n)),.v (.int .i64 (n+gQ n))]):=by
 refine dK (E:=XO) Tryz.func189 Tryz.ntmps189 ?_
 rcases seven h with rfl|rfl|rfl|rfl|rfl|rfl|rfl<;>((refine ago ?_;(try exact⟨⟩));try kernel_rfl)
theorem Tq:∀args K,ND args K→∃r,aP 189 args r∧K r:=by
 intro args K h
 unfold ND at h
 split at h
 ·exact⟨_,W9 _ h.1,h.2⟩
 ·exact h.elim
noncomputable def aK6:ay:=XO.add 189 ND Tq ⟨_,Tryz.func189,by kernel_rfl,by kernel_rfl⟩
noncomputable def aK7:ay:=aK6.add 191 YL YM ⟨_,Tryz.func191,by kernel_rfl,by kernel_rfl⟩
noncomputable def aK8:ay:=aK7.add 107 DY (uM Ze) ⟨_,Tryz.func107,by kernel_rfl,by kernel_rfl⟩
noncomputable def yI:ay:=aK8.add 68 DY (uM JB) ⟨_,Tryz.func68,by kernel_rfl,by kernel_rfl⟩
end
section
attribute [local irreducible] aU aZ bR
def dN:Nat→List Int→Int→List Int
 |0,zs,n=>if bA zs n=0 then[]else[n]
 |d+1,zs,n=>if bA zs n=0 then(if ko n=true then dN d zs (n-gQ n)++dN d zs (n+gQ n)else[])else[n]
theorem mH(zs:List Int):∀(d:Nat) (n:Int),(dN d zs n).length≤2^d
 |0,n=>by unfold dN;split<;>simp
 |d+1,n=>by
  unfold dN
  have h1:=mH zs d (n-gQ n)
  have h2:=mH zs d (n+gQ n)
  have h3:1≤2^d:=Nat.one_le_two_pow
  rw[Nat.pow_succ]
  split
  ·split
   ·rw[List.length_append];omega
   ·simp
  ·simp;omega
def okD(d:Nat)(n:Int):Bool:=
 !ko n||(decide (1≤d)&&decide (n%4=1))||(decide (2≤d)&&decide (n%8=3))||decide (3≤d)
def uj(d:Nat)(zs:List Int)(n:Int):bP:=.o 3 1 (dN d zs n).length [.ints .i64 (dN d zs n).length (dN d zs n)]
def PW(d:Nat):List A→(bP→Prop)→Prop
 |[.agg [.ints .i64 31 zs],.v (.int .i64 n)],K=>okD d n=true∧K (.o 3 1 (dN d zs n).length [.ints .i64 (dN d zs n).length (dN d zs n)])
 |_,_=>False
theorem zu{f:FuncId}{d:Nat}(hx:∀zs n,okD d n=true→aP f [.agg [.ints .i64 31 zs],.v (.int .i64 n)] (uj d zs n)):∀args K,PW d args K→∃r,aP f args r∧K r:=by
 intro args K h
 unfold PW at h
 split at h
 ·exact⟨_,hx _ _ h.1,h.2⟩
 ·exact h.elim
theorem ab9(E:ay)(d:Nat)(zs:List Int)(n:Int)(hn:ko n=false)(h:∀r,(bA zs n=0∧r=.d (.v (.slice none 0 0))∨bA zs n≠0∧r=.o 3 1 1 [.ints .i64 1 [n]])→aP 133 [.agg [.ints .i64 31 zs],.v (.int .i64 n)] r):
  aP 133 [.agg [.ints .i64 31 zs],.v (.int .i64 n)] (uj d zs n):=by
 by_cases hk:bA zs n=0
 ·have e:dN d zs n=[]:=by cases d<;>simp[dN,hk,hn]
  unfold uj
  rw[e]
  exact Yp (h _ (.inl ⟨hk,rfl⟩)) rfl
 ·have e:dN d zs n=[n]:=by cases d<;>simp[dN,hk]
  unfold uj
  rw[e]
  exact h _ (.inr ⟨hk,rfl⟩)
set_option maxHeartbeats 8000000 in
theorem Si(E:ay)(zs:List Int)(n:Int)(hn:ko n=false)(d:Nat):aP 133 [.agg [.ints .i64 31 zs],.v (.int .i64 n)] (uj d zs n):=by
 refine ab9 yI d zs n hn fun r hr=>?_
 refine dK (E:=yI) Tryz.func133 Tryz.ntmps133 ?_
 rcases hr with⟨hk,rfl⟩|⟨hk,rfl⟩
 ·have hk0:(bA zs n !=0)=false:=by simp[hk]
  by_cases h:uR n=true
  ·have he:(n.tmod 2==0)=true:=by
    simp[uR]at h
    simp[ko,h]at hn
    have:n.tmod 2=n%2:=Int.tmod_eq_emod_of_nonneg h.1
    simp[this];omega
   clear hk
   refine ago ?_;(try exact⟨⟩)
   all_goals try rfl
  ·have h':uR n=false:=by simpa using h
   clear h hk
   refine ago ?_;(try exact⟨⟩)
   all_goals try rfl
 ·have hk0:(bA zs n !=0)=true:=by simp[hk]
  clear hk
  refine ago ?_;(try exact⟨⟩)
  all_goals try rfl
theorem xI{d:Nat}{n:Int}(hn:ko n=true)(h:okD (d+1) n=true):okD d (n-gQ n)=true∧okD d (n+gQ n)=true:=by
 rcases seven hn with rfl|rfl|rfl|rfl|rfl|rfl|rfl<;>rcases d with _|_|d<;>first|(simp[okD,ko]at h;done)|(constructor<;>simp[okD,ko,gQ])
theorem ZF{n:Int}(hn:ko n=true):uR n=true∧(n.tmod 2==0)=false:=by
 rcases seven hn with rfl|rfl|rfl|rfl|rfl|rfl|rfl<;>decide
set_option maxHeartbeats 8000000 in
theorem EB(d:Nat)(hd:d≤3)(ih:∀zs n,okD d n=true→aP 133 [.agg [.ints .i64 31 zs],.v (.int .i64 n)] (uj d zs n))(zs:List Int)(n:Int)(hok:okD (d+1) n=true):
  aP 133 [.agg [.ints .i64 31 zs],.v (.int .i64 n)] (uj (d+1) zs n):=by
 cases hn:ko n with
 |false=>exact Si yI zs n hn (d+1)
 |true=>
  obtain⟨o1,o2⟩:=xI hn hok
  obtain⟨o3,o4⟩:=ZF hn
  have p2:2^d≤8:=by
   have:d=0∨d=1∨d=2∨d=3:=by omega
   rcases this with rfl|rfl|rfl|rfl<;>decide
  have l1:(dN d zs (n-gQ n)).length≤8:=Nat.le_trans (mH zs d _) p2
  have l2:(dN d zs (n+gQ n)).length≤8:=Nat.le_trans (mH zs d _) p2
  refine dK (E:=(yI.add 133 (PW d) (zu ih) ⟨_,Tryz.func133,by kernel_rfl,by kernel_rfl⟩)) Tryz.func133 Tryz.ntmps133 ?_
  by_cases hk:bA zs n=0
  ·have hk0:(bA zs n !=0)=false:=by simp[hk]
   have e:dN (d+1) zs n=dN d zs (n-gQ n)++dN d zs (n+gQ n):=by simp[dN,hk,hn]
   unfold uj
   rw[e]
   clear hk e hok p2
   refine ago ?_;(try exact⟨⟩)
   all_goals try rfl
   simp
  ·have hk0:(bA zs n !=0)=true:=by simp[hk]
   have e:dN (d+1) zs n=[n]:=by simp[dN,hk]
   unfold uj
   rw[e]
   clear hk e hok p2
   refine ago ?_;(try exact⟨⟩)
   all_goals try rfl
theorem aT0(zs:List Int)(n:Int):aP 133 [.agg [.ints .i64 31 zs],.v (.int .i64 n)] (uj 3 zs n):=by
 refine EB 2 (by decide) (EB 1 (by decide) (EB 0 (by decide) fun zs n h=>Si yI zs n (by simpa[okD]using h) 0)) zs n (by simp[okD])
theorem G5(d:Nat)(zs:List Int)(n:Int)(hn:ko n=false):aP 143 [.agg [.ints .i64 31 zs],.v (.int .i64 n)] (uj d zs n):=by
 have hkr:¬(0≤n∧n<15)→bA zs n=0:=fun h=>by simp[bA,h]
 by_cases hk:bA zs n=0
 ·have e:dN d zs n=[]:=by cases d<;>simp[dN,hk,hn]
  unfold uj
  rw[e]
  refine Yp ?_ rfl
  refine dK (E:=yI) Tryz.func143 Tryz.ntmps143 ?_
  have hk0:(bA zs n !=0)=false:=by simp[hk]
  by_cases h:0≤n∧n<15
  ·have hb:(bits .and .i64 n 1==0)=true:=by
    rcases yL h with rfl|rfl|rfl|rfl|rfl|rfl|rfl|rfl|rfl|rfl|rfl|rfl|rfl|rfl|rfl<;>first|rfl|(simp[ko]at hn)
   obtain⟨h1,h2⟩:=h
   clear hk e hkr
   refine ago ?_;(try exact⟨⟩)
   all_goals try rfl
  ·clear hk e hkr
   by_cases h0:0≤n
   ·have h1:¬n<15:=fun e=>h ⟨h0,e⟩
    refine ago ?_;(try exact⟨⟩)
   all_goals try rfl
   ·refine ago ?_;(try exact⟨⟩)
 ·have e:dN d zs n=[n]:=by cases d<;>simp[dN,hk]
  unfold uj
  rw[e]
  refine dK (E:=yI) Tryz.func143 Tryz.ntmps143 ?_
  have hk0:(bA zs n !=0)=true:=by simp[hk]
  have h:0≤n∧n<15:=Decidable.byContradiction fun h=>hk (hkr h)
  obtain⟨h1,h2⟩:=h
  clear hk e hkr
  refine ago ?_;(try exact⟨⟩)
  all_goals try rfl
theorem ZG{n:Int}(hn:ko n=true):IntKind.i64.wrap (n-gQ n)=n-gQ n∧IntKind.i64.wrap (n+gQ n)=n+gQ n∧(bits .and .i64 n 1==0)=false∧0≤n∧n<15:=by
 rcases seven hn with rfl|rfl|rfl|rfl|rfl|rfl|rfl<;>decide
set_option maxHeartbeats 8000000 in
theorem Av(d:Nat)(hd:d≤3)(ih:∀zs n,okD d n=true→aP 143 [.agg [.ints .i64 31 zs],.v (.int .i64 n)] (uj d zs n))(zs:List Int)(n:Int)(hok:okD (d+1) n=true):
  aP 143 [.agg [.ints .i64 31 zs],.v (.int .i64 n)] (uj (d+1) zs n):=by
 cases hn:ko n with
 |false=>exact G5 (d+1) zs n hn
 |true=>
  obtain⟨o1,o2⟩:=xI hn hok
  obtain⟨e1,e2,e3,e4,e5⟩:=ZG hn
  have p2:2^d≤8:=by
   have:d=0∨d=1∨d=2∨d=3:=by omega
   rcases this with rfl|rfl|rfl|rfl<;>decide
  have l1:(dN d zs (n-gQ n)).length≤8:=Nat.le_trans (mH zs d _) p2
  have l2:(dN d zs (n+gQ n)).length≤8:=Nat.le_trans (mH zs d _) p2
  refine dK (E:=(yI.add 143 (PW d) (zu ih) ⟨_,Tryz.func143,by kernel_rfl,by kernel_rfl⟩)) Tryz.func143 Tryz.ntmps143 ?_
  by_cases hk:bA zs n=0
  ·have hk0:(bA zs n !=0)=false:=by simp[hk]
   have e:dN (d+1) zs n=dN d zs (n-gQ n)++dN d zs (n+gQ n):=by simp[dN,hk,hn]
   unfold uj
   rw[e]
   have o1':=o1
   have o2':=o2
   have l1':=l1
   have l2':=l2
   rw[←e1]at o1' l1'
   rw[←e2]at o2' l2'
   clear hk e hok p2
   refine ago ?_;(try exact⟨⟩)
   all_goals try rfl
   simp[e1,e2]
  ·have hk0:(bA zs n !=0)=true:=by simp[hk]
   have e:dN (d+1) zs n=[n]:=by simp[dN,hk]
   unfold uj
   rw[e]
   clear hk e hok p2
   refine ago ?_;(try exact⟨⟩)
   all_goals try rfl
theorem Sr(zs:List Int)(n:Int):aP 143 [.agg [.ints .i64 31 zs],.v (.int .i64 n)] (uj 3 zs n):=by
 refine Av 2 (by decide) (Av 1 (by decide) (Av 0 (by decide) fun zs n h=>G5 0 zs n (by simpa[okD]using h))) zs n (by simp[okD])
end
section
attribute [local irreducible] aU aZ bR
noncomputable def aK9:ay:=yI.add 133 (PW 3) (zu fun zs n _=>aT0 zs n) ⟨_,Tryz.func133,by kernel_rfl,by kernel_rfl⟩
noncomputable def aL0:ay:=aK9.add 143 (PW 3) (zu fun zs n _=>Sr zs n) ⟨_,Tryz.func143,by kernel_rfl,by kernel_rfl⟩
noncomputable def aX4:ay:=aL0
end
section
attribute [local irreducible] aU aZ bR
end
end Go.Proofs.YtjhgelfnmhdihaaGreatDoor
