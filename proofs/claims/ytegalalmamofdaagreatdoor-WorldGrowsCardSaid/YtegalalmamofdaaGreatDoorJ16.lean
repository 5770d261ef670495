/- -/
import Derived.Test.YtegalalmamofdaaGreatDoorJ10
namespace Go.Proofs.YtegalalmamofdaaGreatDoor
set_option linter.all false
set_option maxRecDepth 100000
open Go.RowKit
set_option maxHeartbeats 8000000
variable{f:FuncId}
noncomputable section
attribute [local irreducible] aN aQ bq
def aL(x:Int):Bool:=decide (0<=x)&&decide (x<8)
def ar3:List A->(bC->Prop)->Prop
 |[.v (.int .i64 x)],K=>K (.d (.v (.bool (aL x))))
 |_,_=>False
theorem aT1(x:Int):aV 176 [.v (.int .i64 x)] (.d (.v (.bool (aL x)))):=by
 refine eO (E:=sV) Tryz.func176 Tryz.ntmps176 ?_
 by_cases h:0<=x
 ·refine ago ?_;(try exact⟨⟩)
  simp[aL,h]
 ·refine ago ?_;(try exact⟨⟩)
  simp[aL,h]
theorem ar4(hx:∀x,aV f [.v (.int .i64 x)] (.d (.v (.bool (aL x))))):∀args K,ar3 args K->∃r,aV f args r/\K r:=by
 intro args K h
 unfold ar3 at h
 split at h
 ·exact⟨_,hx _,h⟩
 ·exact h.elim
def bN9:ak:=sV
def bN7:ak:=bN9.add 176 ar3 (ar4 aT1) (.of Tryz.func176)
def Dz(x:Int):List Int:=if aL x=true then[x / 2*4+1,x / 4*8+3,7]else[0,0,0]
theorem YR(x:Int)(h0:0<=x)(h1:x<8):IntKind.i64.wrap (x.tdiv 2)=x / 2/\IntKind.i64.wrap (x / 2*4)=x / 2*4/\IntKind.i64.wrap (x / 2*4+1)=x / 2*4+1/\
  IntKind.i64.wrap (x.tdiv 4)=x / 4/\IntKind.i64.wrap (x / 4*8)=x / 4*8/\IntKind.i64.wrap (x / 4*8+3)=x / 4*8+3:=by
 rw[Int.tdiv_eq_ediv_of_nonneg h0,Int.tdiv_eq_ediv_of_nonneg h0]
 refine⟨gH ?_ ?_,gH ?_ ?_,gH ?_ ?_,gH ?_ ?_,gH ?_ ?_,gH ?_ ?_⟩<;>omega
theorem Wd(x:Int):aV 129 [.v (.int .i64 x)] (.d (.agg [.ints .i64 3 (Dz x)])):=by
 refine eO (E:=bN7) Tryz.func129 Tryz.ntmps129 ?_
 cases h:aL x with
 |false=>
  refine ago ?_;(try exact⟨⟩)
  simp[Dz,h]
 |true=>
  have h':=h
  simp only[aL,Bool.and_eq_true,decide_eq_true_eq]at h'
  obtain⟨e1,e2,e3,e4,e5,e6⟩:=YR x h'.1 h'.2
  refine ago ?_;(try exact⟨⟩)
  simp[Dz,h,e1,e2,e3,e4,e5,e6]
end
section
attribute [local irreducible] aN aQ bq
def vV(p q r v:Int):Int:=if v=p then 0 else if v=q then 1 else if v=r then 2 else -1
def aR8:List A->(bC->Prop)->Prop
 |[.row 3 [.ints .i64 3 [p,q,r]],.v (.int .i64 v)],K=>K (.d (.v (.int .i64 (vV p q r v))))
 |_,_=>False
theorem ap7(p q r v:Int):aV 177 [.row 3 [.ints .i64 3 [p,q,r]],.v (.int .i64 v)] (.d (.v (.int .i64 (vV p q r v)))):=by
 refine eO (E:=sV) Tryz.func177 Tryz.ntmps177 ?_
 have lp:∀(a b:Int),¬a=b->(a==b)=false:=fun a b h=>by simp[h]
 by_cases h1:v=p
 ·refine ago ?_;(try exact⟨⟩)
  refine aX.mk (aH 4 ?_)
  refine ago ?_;(try exact⟨⟩)
  simp[vV,h1]
 ·by_cases h2:v=q
  ·refine ago ?_;(try exact⟨⟩)
   refine aX.mk (aH 4 ?_)
   refine ago ?_;(try exact⟨⟩)
   simp[vV,h1,h2]<;>omega
  ·by_cases h3:v=r
   ·refine ago ?_;(try exact⟨⟩)
    refine aX.mk (aH 4 ?_)
    refine ago ?_;(try exact⟨⟩)
    simp[vV,h1,h2,h3]<;>omega
   ·refine ago ?_;(try exact⟨⟩)
    refine aX.mk (aH 4 ?_)
    refine ago ?_;(try exact⟨⟩)
    simp[vV,h1,h2,h3]
end
noncomputable section
attribute [local irreducible] aN aQ bq
theorem VH(hx:∀p q r v,aV f [.row 3 [.ints .i64 3 [p,q,r]],.v (.int .i64 v)] (.d (.v (.int .i64 (vV p q r v))))):∀args K,aR8 args K->∃r,aV f args r/\K r:=by
 intro args K h
 unfold aR8 at h
 split at h
 ·exact⟨_,hx _ _ _ _,h⟩
 ·exact h.elim
def bf5:ak:=bN7.add 177 aR8 (VH ap7) (.of Tryz.func177)
def bA0:List A->(bC->Prop)->Prop
 |[.row 3 [.ints .i64 3 [p,q,r]],.v (.int .i64 v)],K=>K (.d (.v (.bool (decide (vV p q r v>=0)))))
 |_,_=>False
theorem bA1(p q r v:Int):aV 196 [.row 3 [.ints .i64 3 [p,q,r]],.v (.int .i64 v)] (.d (.v (.bool (decide (vV p q r v>=0))))):=by
 refine eO (E:=bf5) Tryz.func196 Tryz.ntmps196 ?_
 refine ago ?_;(try exact⟨⟩)
theorem aQ7(hx:∀p q r v,aV f [.row 3 [.ints .i64 3 [p,q,r]],.v (.int .i64 v)] (.d (.v (.bool (decide (vV p q r v>=0)))))):∀args K,bA0 args K->∃r,aV f args r/\K r:=by
 intro args K h
 unfold bA0 at h
 split at h
 ·exact⟨_,hx _ _ _ _,h⟩
 ·exact h.elim
def bO0:ak:=bf5.add 196 bA0 (aQ7 bA1) (.of Tryz.func196)
def Km(x:Int):List Int:=[if aL x=true then x / 2*4+1 else 0,if aL x=true then x / 4*8+3 else 0,if aL x=true then 7 else 0]
theorem ay9(x:Int):Dz x=Km x:=by unfold Dz Km;split<;>rfl
def TF:List A->(bC->Prop)->Prop
 |[.v (.int .i64 x)],K=>K (.d (.agg [.ints .i64 3 [if aL x=true then x / 2*4+1 else 0,if aL x=true then x / 4*8+3 else 0,if aL x=true then 7 else 0]]))
 |_,_=>False
theorem YQ(hx:∀x,aV f [.v (.int .i64 x)] (.d (.agg [.ints .i64 3 (Dz x)]))):∀args K,TF args K->∃r,aV f args r/\K r:=by
 intro args K h
 unfold TF at h
 split at h
 ·exact⟨_,hx _,by rw[ay9];exact h⟩
 ·exact h.elim
def bO1:ak:=bO0.add 129 TF (YQ Wd) (.of Tryz.func129)
def bt0:ak:=bO1
def bf(n x:Int):Bool:=aL x&&(decide (n=2*x)||decide (n=x / 2*4+1)||decide (n=x / 4*8+3)||decide (n=7))
def MR:List A->(bC->Prop)->Prop
 |[.v (.int .i64 n),.v (.int .i64 x)],K=>K (.d (.v (.bool (bf n x))))
 |_,_=>False
theorem ig{x:Int}(h:aL x=true):0<=x/\x<8:=by simpa[aL]using h
theorem Qq(n x:Int):aV 178 [.v (.int .i64 n),.v (.int .i64 x)] (.d (.v (.bool (bf n x)))):=by
 refine eO (E:=bt0) Tryz.func178 Tryz.ntmps178 ?_
 cases h:aL x with
 |false=>
  refine ago ?_;(try exact⟨⟩)
  simp[bf,h]
 |true=>
  have h':=ig h
  have e1:IntKind.i64.wrap (2*x)=2*x:=gH (by omega) (by omega)
  by_cases h1:n=2*x
  ·refine ago ?_;(try exact⟨⟩)
   simp[bf,h,h1]
  ·refine ago ?_;(try exact⟨⟩)
   simp[bf,h,h1,vV]
   repeat (split<;>simp_all)
def dx(x:Int):List Int:=if aL x=true then[if x%2=0 then 2*x+2 else 2*x-2,if x / 2%2=0 then x / 2*4+5 else x / 2*4-3,if x / 4=0 then 11 else 3]else[0,0,0]
theorem eight{p:Int->Prop}{x:Int}(h:0<=x/\x<8)(h0:p 0)(h1:p 1)(h2:p 2)(h3:p 3)(h4:p 4)(h5:p 5)(h6:p 6)(h7:p 7):p x:=by
 have:x=0\/x=1\/x=2\/x=3\/x=4\/x=5\/x=6\/x=7:=by omega
 rcases this with rfl|rfl|rfl|rfl|rfl|rfl|rfl|rfl<;>assumption
theorem WH(x:Int):aV 167 [.v (.int .i64 x)] (.d (.agg [.ints .i64 3 (dx x)])):=by
 refine eO (E:=bt0) Tryz.func167 Tryz.ntmps167 ?_
 cases h:aL x with
 |false=>
  refine ago ?_;(try exact⟨⟩)
  simp[dx,h]
 |true=>
  have h':=ig h
  refine ago ?_;(try exact⟨⟩)
  simp[dx,h]
  have:x=0\/x=1\/x=2\/x=3\/x=4\/x=5\/x=6\/x=7:=by omega
  rcases this with rfl|rfl|rfl|rfl|rfl|rfl|rfl|rfl<;>decide
def bg(a b:Int):Int:=if aL a=true/\aL b=true then(if a=b then 2*a else if a / 2=b / 2 then a / 2*4+1 else if a / 4=b / 4 then a / 4*8+3 else 7)else 0
theorem KJ(hx:∀n x,aV f [.v (.int .i64 n),.v (.int .i64 x)] (.d (.v (.bool (bf n x))))):∀args K,MR args K->∃r,aV f args r/\K r:=by
 intro args K h
 unfold MR at h
 split at h
 ·exact⟨_,hx _ _,h⟩
 ·exact h.elim
def aD2:List A->(bC->Prop)->Prop
 |[.v (.int .i64 x)],K=>K (.d (.agg [.ints .i64 3 [(dx x).getD 0 0,(dx x).getD 1 0,(dx x).getD 2 0]]))
 |_,_=>False
theorem aD3(hx:∀x,aV f [.v (.int .i64 x)] (.d (.agg [.ints .i64 3 (dx x)]))):∀args K,aD2 args K->∃r,aV f args r/\K r:=by
 intro args K h
 unfold aD2 at h
 split at h
 ·refine⟨_,hx _,?_⟩
  have e:∀x,[(dx x).getD 0 0,(dx x).getD 1 0,(dx x).getD 2 0]=dx x:=by intro x;unfold dx;split<;>rfl
  rw[e]at h;exact h
 ·exact h.elim
def bO3:ak:=bt0.add 178 MR (KJ Qq) (.of Tryz.func178)
def bO4:ak:=bO3
def bO2:ak:=bO4.add 167 aD2 (aD3 WH) (.of Tryz.func167)
theorem Js(a b:Int):aV 131 [.v (.int .i64 a),.v (.int .i64 b)] (.d (.v (.int .i64 (bg a b)))):=by
 refine eO (E:=bO2) Tryz.func131 Tryz.ntmps131 ?_
 cases h:aL a with
 |false=>
  refine ago ?_;(try exact⟨⟩)
  simp[bg,h]
 |true=>
  have h':=ig h
  have e1:IntKind.i64.wrap (2*a)=2*a:=gH (by omega) (by omega)
  cases g:aL b with
  |false=>
   refine ago ?_;(try exact⟨⟩)
   simp[bg,g]
  |true=>
   have g':=ig g
   by_cases c:a=b
   ·subst c
    refine ago ?_;(try exact⟨⟩)
    simp[bg,h,e1]
   ·by_cases c1:a / 2=b / 2
    ·have u1:bf (a / 2*4+1) b=true:=by simp[bf,g,c1]
     have u1':bf (b / 2*4+1) b=true:=by simp[bf,g]
     refine ago ?_
     refine aX.mk (aH 4 ?_)
     refine ago ?_;(try exact⟨⟩)
     simp[bg,h,g,c,c1]
    ·have u1:bf (a / 2*4+1) b=false:=by simp[bf,g]<;>omega
     by_cases c2:a / 4=b / 4
     ·have u2:bf (a / 4*8+3) b=true:=by simp[bf,g,c2]
      have u2':bf (b / 4*8+3) b=true:=by simp[bf,g]
      refine ago ?_
      refine aX.mk (aH 4 ?_)
      refine ago ?_;(try exact⟨⟩)
      simp[bg,h,g,c,c1,c2]
     ·have u2:bf (a / 4*8+3) b=false:=by simp[bf,g]<;>omega
      have u3:bf 7 b=true:=by simp[bf,g]
      refine ago ?_
      refine aX.mk (aH 4 ?_)
      refine ago ?_;(try exact⟨⟩)
      simp[bg,h,g,c,c1,c2]
def Ej:List A->(bC->Prop)->Prop
 |[.v (.int .i64 a),.v (.int .i64 b)],K=>K (.d (.v (.int .i64 (bg a b))))
 |_,_=>False
theorem Fh(hx:∀a b,aV f [.v (.int .i64 a),.v (.int .i64 b)] (.d (.v (.int .i64 (bg a b))))):∀args K,Ej args K->∃r,aV f args r/\K r:=by
 intro args K h
 unfold Ej at h
 split at h
 ·exact⟨_,hx _ _,h⟩
 ·exact h.elim
def co6:ak:=bO2.add 131 Ej (Fh Js) (.of Tryz.func131)
end
section
attribute [local irreducible] aN aQ bq
noncomputable def bt1:ak:=co6
end
noncomputable section
attribute [local irreducible] aN aQ bq
def eG(zs:List Int)(n:Int):Int:=if 0<=n/\n<15 then(if n%2=0 then zs.getD (n.toNat+1) 0 else zs.getD (16+n.toNat) 0)else 0
def VK:List A->(bC->Prop)->Prop
 |[.agg [.ints .i64 31 zs],.v (.int .i64 n)],K=>K (.d (.v (.int .i64 (eG zs n))))
 |_,_=>False
theorem OI(hx:∀zs n,aV f [.agg [.ints .i64 31 zs],.v (.int .i64 n)] (.d (.v (.int .i64 (eG zs n))))):∀args K,VK args K->∃r,aV f args r/\K r:=by
 intro args K h
 unfold VK at h
 split at h
 ·exact⟨_,hx _ _,h⟩
 ·exact h.elim
theorem ak3{x:Int}(h:0<=x/\x<15):x=0\/x=1\/x=2\/x=3\/x=4\/x=5\/x=6\/x=7\/x=8\/x=9\/x=10\/x=11\/x=12\/x=13\/x=14:=by omega
def wU(n:Int):Bool:=decide (0<=n)&&decide (n<15)
def au4:List A->(bC->Prop)->Prop
 |[.v (.int .i64 x)],K=>K (.d (.v (.bool (wU x))))
 |_,_=>False
theorem aU4(x:Int):aV 174 [.v (.int .i64 x)] (.d (.v (.bool (wU x)))):=by
 refine eO (E:=sV) Tryz.func174 Tryz.ntmps174 ?_
 by_cases h:0<=x
 ·refine ago ?_;(try exact⟨⟩)
  simp[wU,h]
 ·refine ago ?_;(try exact⟨⟩)
  simp[wU,h]
theorem au5(hx:∀x,aV f [.v (.int .i64 x)] (.d (.v (.bool (wU x))))):∀args K,au4 args K->∃r,aV f args r/\K r:=by
 intro args K h
 unfold au4 at h
 split at h
 ·exact⟨_,hx _,h⟩
 ·exact h.elim
def ak1:List A->(bC->Prop)->Prop
 |[.v (.int .i64 y)],K=>K (.d (.v (.bool (y.tmod 2==0))))
 |_,_=>False
theorem aO3(y:Int):aV 175 [.v (.int .i64 y)] (.d (.v (.bool (y.tmod 2==0)))):=by
 refine eO (E:=sV) Tryz.func175 Tryz.ntmps175 ?_
 refine ago ?_;(try exact⟨⟩)
theorem ak2(hx:∀y,aV f [.v (.int .i64 y)] (.d (.v (.bool (y.tmod 2==0))))):∀args K,ak1 args K->∃r,aV f args r/\K r:=by
 intro args K h
 unfold ak1 at h
 split at h
 ·exact⟨_,hx _,h⟩
 ·exact h.elim
def bs3:ak:=bt1.add 174 au4 (au5 aU4) (.of Tryz.func174)
def ag8:ak:=bs3.add 175 ak1 (ak2 aO3) (.of Tryz.func175)
theorem aq8(zs:List Int)(n:Int):aV 127 [.agg [.ints .i64 31 zs],.v (.int .i64 n)] (.d (.v (.int .i64 (eG zs n)))):=by
 refine eO (E:=ag8) Tryz.func127 Tryz.ntmps127 ?_
 by_cases h:0<=n/\n<15
 ·rcases ak3 h with rfl|rfl|rfl|rfl|rfl|rfl|rfl|rfl|rfl|rfl|rfl|rfl|rfl|rfl|rfl<;>((refine ago ?_;(try exact⟨⟩));try kernel_rfl)
 ·have hb:wU n=false:=by simp[wU];omega
  refine ago ?_;(try exact⟨⟩)
  simp[eG,h]
def iW(n:Int):Int:=if n=7 then 4 else if n%4=3 then 2 else 1
def jW(n:Int):Bool:=decide (0<=n)&&decide (n<15)&&decide (n%2=1)
theorem seven{x:Int}(h:jW x=true):x=1\/x=3\/x=5\/x=7\/x=9\/x=11\/x=13:=by simp[jW]at h;omega
def tzS:List A->(bC->Prop)->Prop
 |[.v (.int .u64 n)],K=>jW (n-1)=true/\K (.d (.v (.int .i64 (if n=8 then 3 else if n%4=0 then 2 else 1))))
 |_,_=>False
theorem aD0{x:Int}(h:jW (x-1)=true):x=2\/x=4\/x=6\/x=8\/x=10\/x=12\/x=14:=by simp[jW]at h;omega
theorem ba8(n:Int)(h:jW (n-1)=true):aV 227 [.v (.int .u64 n)] (.d (.v (.int .i64 (if n=8 then 3 else if n%4=0 then 2 else 1)))):=by
 refine eO (E:=sV) Tryz.func227 Tryz.ntmps227 ?_
 rcases aD0 h with rfl|rfl|rfl|rfl|rfl|rfl|rfl<;>((refine ago ?_;(try exact⟨⟩));try kernel_rfl)
theorem aG0(hx:∀n,jW (n-1)=true->aV f [.v (.int .u64 n)] (.d (.v (.int .i64 (if n=8 then 3 else if n%4=0 then 2 else 1))))):∀args K,tzS args K->∃r,aV f args r/\K r:=by
 intro args K h
 unfold tzS at h
 split at h
 ·exact⟨_,hx _ h.1,h.2⟩
 ·exact h.elim
def ag9:ak:=ag8.add 227 tzS (aG0 ba8) (.of Tryz.func227)
theorem cg8(n:Int)(h:jW (n-1)=true):aV 225 [.v (.int .u64 n)] (.d (.v (.int .i64 (if n=8 then 3 else if n%4=0 then 2 else 1)))):=by
 refine eO (E:=ag9) Tryz.func225 Tryz.ntmps225 ?_
 rcases aD0 h with rfl|rfl|rfl|rfl|rfl|rfl|rfl<;>((refine ago ?_;(try exact⟨⟩));try rfl)
def ah0:ak:=ag9.add 225 tzS (aG0 cg8) (.of Tryz.func225)
def Rh:List A->(bC->Prop)->Prop
 |[.v (.int .i64 n)],K=>jW n=true/\K (.t [.v (.int .i64 (n-iW n)),.v (.int .i64 (n+iW n))])
 |_,_=>False
theorem ab3(n:Int)(h:jW n=true):aV 217 [.v (.int .i64 n)] (.t [.v (.int .i64 (n-iW n)),.v (.int .i64 (n+iW n))]):=by
 refine eO (E:=ah0) Tryz.func217 Tryz.ntmps217 ?_
 rcases seven h with rfl|rfl|rfl|rfl|rfl|rfl|rfl<;>((refine ago ?_;(try exact⟨⟩));try kernel_rfl)
theorem Xn:∀args K,Rh args K->∃r,aV 217 args r/\K r:=by
 intro args K h
 unfold Rh at h
 split at h
 ·exact⟨_,ab3 _ h.1,h.2⟩
 ·exact h.elim
def bs4:ak:=ah0.add 217 Rh Xn (.of Tryz.func217)
def bs5:ak:=bs4
def bs6:ak:=bs5.add 127 VK (OI aq8) (.of Tryz.func127)
def Jw:ak:=bs6
end
section
attribute [local irreducible] aN aQ bq
def eu:Nat->List Int->Int->List Int
 |0,zs,n=>if eG zs n=0 then[]else[n]
 |d+1,zs,n=>if eG zs n=0 then(if jW n=true then eu d zs (n-iW n)++eu d zs (n+iW n)else[])else[n]
theorem qO(zs:List Int):∀(d:Nat) (n:Int),(eu d zs n).length<=2^d
 |0,n=>by unfold eu;split<;>simp
 |d+1,n=>by
  unfold eu
  have h1:=qO zs d (n-iW n)
  have h2:=qO zs d (n+iW n)
  have h3:1<=2^d:=Nat.one_le_two_pow
  rw[Nat.pow_succ]
  split
  ·split
   ·rw[List.length_append];omega
   ·simp
  ·simp;omega
def okD(d:Nat)(n:Int):Bool:=
 !jW n||(decide (1<=d)&&decide (n%4=1))||(decide (2<=d)&&decide (n%8=3))||decide (3<=d)
def I5(d:Nat)(zs:List Int)(n:Int):bC:=.o 3 1 (eu d zs n).length [.ints .i64 (eu d zs n).length (eu d zs n)]
def aY3(d:Nat):List A->(bC->Prop)->Prop
 |[.agg [.ints .i64 31 zs],.v (.int .i64 n)],K=>okD d n=true/\K (.o 3 1 (eu d zs n).length [.ints .i64 (eu d zs n).length (eu d zs n)])
 |_,_=>False
theorem Wu{d:Nat}(hx:∀zs n,okD d n=true->aV f [.agg [.ints .i64 31 zs],.v (.int .i64 n)] (I5 d zs n)):∀args K,aY3 d args K->∃r,aV f args r/\K r:=by
 intro args K h
 unfold aY3 at h
 split at h
 ·exact⟨_,hx _ _ h.1,h.2⟩
 ·exact h.elim
theorem aB0(E:ak)(d:Nat)(zs:List Int)(n:Int)(hn:jW n=false)(h:∀r,(eG zs n=0/\r=.d (.v (.slice none 0 0))\/eG zs n≠0/\r=.o 3 1 1 [.ints .i64 1 [n]])->aV 168 [.agg [.ints .i64 31 zs],.v (.int .i64 n)] r):
  aV 168 [.agg [.ints .i64 31 zs],.v (.int .i64 n)] (I5 d zs n):=by
 by_cases hk:eG zs n=0
 ·have e:eu d zs n=[]:=by cases d<;>simp[eu,hk,hn]
  unfold I5
  rw[e]
  exact bk6 (h _ (.inl ⟨hk,rfl⟩)) rfl
 ·have e:eu d zs n=[n]:=by cases d<;>simp[eu,hk]
  unfold I5
  rw[e]
  exact h _ (.inr ⟨hk,rfl⟩)
theorem Wv(E:ak)(zs:List Int)(n:Int)(hn:jW n=false)(d:Nat):aV 168 [.agg [.ints .i64 31 zs],.v (.int .i64 n)] (I5 d zs n):=by
 refine aB0 Jw d zs n hn fun r hr=>?_
 refine eO (E:=Jw) Tryz.func168 Tryz.ntmps168 ?_
 rcases hr with⟨hk,rfl⟩|⟨hk,rfl⟩
 ·have hk0:(eG zs n !=0)=false:=by simp[hk]
  by_cases h:wU n=true
  ·have he:(n.tmod 2==0)=true:=by
    simp[wU]at h
    simp[jW,h]at hn
    have:n.tmod 2=n%2:=Int.tmod_eq_emod_of_nonneg h.1
    simp[this];omega
   clear hk
   refine ago ?_;(try exact⟨⟩)
   all_goals try rfl
  ·have h':wU n=false:=by simpa using h
   clear h hk
   refine ago ?_;(try exact⟨⟩)
   all_goals try rfl
 ·have hk0:(eG zs n !=0)=true:=by simp[hk]
  clear hk
  refine ago ?_;(try exact⟨⟩)
  all_goals try rfl
theorem Gl{d:Nat}{n:Int}(hn:jW n=true)(h:okD (d+1) n=true):okD d (n-iW n)=true/\okD d (n+iW n)=true:=by
 rcases seven hn with rfl|rfl|rfl|rfl|rfl|rfl|rfl<;>rcases d with _|_|d<;>first|(simp[okD,jW]at h;done)|(constructor<;>simp[okD,jW,iW])
theorem av8{n:Int}(hn:jW n=true):wU n=true/\(n.tmod 2==0)=false:=by
 rcases seven hn with rfl|rfl|rfl|rfl|rfl|rfl|rfl<;>decide
theorem GZ(d:Nat)(hd:d<=3)(ih:∀zs n,okD d n=true->aV 168 [.agg [.ints .i64 31 zs],.v (.int .i64 n)] (I5 d zs n))(zs:List Int)(n:Int)(hok:okD (d+1) n=true):
  aV 168 [.agg [.ints .i64 31 zs],.v (.int .i64 n)] (I5 (d+1) zs n):=by
 cases hn:jW n with
 |false=>exact Wv Jw zs n hn (d+1)
 |true=>
  obtain⟨o1,o2⟩:=Gl hn hok
  obtain⟨o3,o4⟩:=av8 hn
  have p2:2^d<=8:=by
   have:d=0\/d=1\/d=2\/d=3:=by omega
   rcases this with rfl|rfl|rfl|rfl<;>decide
  have l1:(eu d zs (n-iW n)).length<=8:=Nat.le_trans (qO zs d _) p2
  have l2:(eu d zs (n+iW n)).length<=8:=Nat.le_trans (qO zs d _) p2
  refine eO (E:=(Jw.add 168 (aY3 d) (Wu ih) ⟨_,Tryz.func168,by kernel_rfl,by kernel_rfl⟩)) Tryz.func168 Tryz.ntmps168 ?_
  by_cases hk:eG zs n=0
  ·have hk0:(eG zs n !=0)=false:=by simp[hk]
   have e:eu (d+1) zs n=eu d zs (n-iW n)++eu d zs (n+iW n):=by simp[eu,hk,hn]
   unfold I5
   rw[e]
   clear hk e hok p2
   refine ago ?_;(try exact⟨⟩)
   all_goals try rfl
   simp
  ·have hk0:(eG zs n !=0)=true:=by simp[hk]
   have e:eu (d+1) zs n=[n]:=by simp[eu,hk]
   unfold I5
   rw[e]
   clear hk e hok p2
   refine ago ?_;(try exact⟨⟩)
   all_goals try rfl
theorem bF4(zs:List Int)(n:Int):aV 168 [.agg [.ints .i64 31 zs],.v (.int .i64 n)] (I5 3 zs n):=by
 refine GZ 2 (by decide) (GZ 1 (by decide) (GZ 0 (by decide) fun zs n h=>Wv Jw zs n (by simpa[okD]using h) 0)) zs n (by simp[okD])
end
noncomputable section
attribute [local irreducible] aN aQ bq
def bs7:ak:=Jw.add 168 (aY3 3) (Wu fun zs n _=>bF4 zs n) (.of Tryz.func168)
def bs8:ak:=bs7
def bN8:ak:=bs8
end
section
attribute [local irreducible] aN aQ bq
end
end Go.Proofs.YtegalalmamofdaaGreatDoor
