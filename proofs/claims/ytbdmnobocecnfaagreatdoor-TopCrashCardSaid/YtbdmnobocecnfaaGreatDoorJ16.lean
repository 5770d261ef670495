/-
  Places and nodes: the first functions, by the machine without memory.
-/
import Derived.Test.YtbdmnobocecnfaaGreatDoorJ10
namespace Go.Proofs.YtbdmnobocecnfaaGreatDoor
set_option linter.unusedVariables false
set_option linter.unusedSimpArgs false
set_option maxRecDepth 100000
open Go.RowKit
section
attribute [local irreducible] condK LoopA regA
def leafB(x:Int):Bool:=decide (0≤x)&&decide (x<8)
def leafS:List A→(Res→Prop)→Prop
 |[.v (.int .i64 x)],K=>K (.d (.v (.bool (leafB x))))
 |_,_=>False
theorem leaf_ok(x:Int):FnO 172 [.v (.int .i64 x)] (.d (.v (.bool (leafB x)))):=by
 refine fnA (E:=env0) Tryz.func172 Tryz.ntmps172 ?_
 by_cases h:0≤x
 ·refine ago ?_;(try exact⟨⟩)
  simp[leafB,h]
 ·refine ago ?_;(try exact⟨⟩)
  simp[leafB,h]
theorem leafS_ok{f:FuncId}(hx:∀x,FnO f [.v (.int .i64 x)] (.d (.v (.bool (leafB x))))):∀args K,leafS args K→∃r,FnO f args r∧K r:=by
 intro args K h
 unfold leafS at h
 split at h
 ·exact⟨_,hx _,h⟩
 ·exact h.elim
noncomputable def env1a:EnvX:=env0
noncomputable def env1:EnvX:=env1a.add 172 leafS (leafS_ok leaf_ok) ⟨_,Tryz.func172,by kernel_rfl,by kernel_rfl⟩
def pathL(x:Int):List Int:=if leafB x=true then[x / 2*4+1,x / 4*8+3,7]else[0,0,0]
theorem path_nums(x:Int)(h0:0≤x)(h1:x<8):IntKind.i64.wrap (x.tdiv 2)=x / 2∧IntKind.i64.wrap (x / 2*4)=x / 2*4∧IntKind.i64.wrap (x / 2*4+1)=x / 2*4+1∧
  IntKind.i64.wrap (x.tdiv 4)=x / 4∧IntKind.i64.wrap (x / 4*8)=x / 4*8∧IntKind.i64.wrap (x / 4*8+3)=x / 4*8+3:=by
 rw[Int.tdiv_eq_ediv_of_nonneg h0,Int.tdiv_eq_ediv_of_nonneg h0]
 refine⟨wrapS ?_ ?_,wrapS ?_ ?_,wrapS ?_ ?_,wrapS ?_ ?_,wrapS ?_ ?_,wrapS ?_ ?_⟩<;>omega
theorem path_ok(x:Int):FnO 125 [.v (.int .i64 x)] (.d (.agg [.ints .i64 3 (pathL x)])):=by
 refine fnA (E:=env1) Tryz.func125 Tryz.ntmps125 ?_
 cases h:leafB x with
 |false=>
  refine ago ?_;(try exact⟨⟩)
  simp[pathL,h]
 |true=>
  have h':=h
  simp only[leafB,Bool.and_eq_true,decide_eq_true_eq]at h'
  obtain⟨e1,e2,e3,e4,e5,e6⟩:=path_nums x h'.1 h'.2
  refine ago ?_;(try exact⟨⟩)
  simp[pathL,h,e1,e2,e3,e4,e5,e6]
end
section
attribute [local irreducible] condK LoopA regA
def idx3(p q r v:Int):Int:=if v=p then 0 else if v=q then 1 else if v=r then 2 else -1
def idxS:List A→(Res→Prop)→Prop
 |[.row 3 [.ints .i64 3 [p,q,r]],.v (.int .i64 v)],K=>K (.d (.v (.int .i64 (idx3 p q r v))))
 |_,_=>False
theorem idx_ok(p q r v:Int):FnO 173 [.row 3 [.ints .i64 3 [p,q,r]],.v (.int .i64 v)] (.d (.v (.int .i64 (idx3 p q r v)))):=by
 refine fnA (E:=env0) Tryz.func173 Tryz.ntmps173 ?_
 have lp:∀(a b:Int),¬a=b→(a==b)=false:=fun a b h=>by simp[h]
 by_cases h1:v=p
 ·refine ago ?_;(try exact⟨⟩)
  refine StopL.mk (loop_unroll 4 ?_)
  refine ago ?_;(try exact⟨⟩)
  simp[idx3,h1]
 ·by_cases h2:v=q
  ·refine ago ?_;(try exact⟨⟩)
   refine StopL.mk (loop_unroll 4 ?_)
   refine ago ?_;(try exact⟨⟩)
   simp[idx3,h1,h2]<;>omega
  ·by_cases h3:v=r
   ·refine ago ?_;(try exact⟨⟩)
    refine StopL.mk (loop_unroll 4 ?_)
    refine ago ?_;(try exact⟨⟩)
    simp[idx3,h1,h2,h3]<;>omega
   ·refine ago ?_;(try exact⟨⟩)
    refine StopL.mk (loop_unroll 4 ?_)
    refine ago ?_;(try exact⟨⟩)
    simp[idx3,h1,h2,h3]
end
section
attribute [local irreducible] condK LoopA regA
theorem idxS_ok{f:FuncId}(hx:∀p q r v,FnO f [.row 3 [.ints .i64 3 [p,q,r]],.v (.int .i64 v)] (.d (.v (.int .i64 (idx3 p q r v))))):∀args K,idxS args K→∃r,FnO f args r∧K r:=by
 intro args K h
 unfold idxS at h
 split at h
 ·exact⟨_,hx _ _ _ _,h⟩
 ·exact h.elim
noncomputable def env2a:EnvX:=env1.add 173 idxS (idxS_ok idx_ok) ⟨_,Tryz.func173,by kernel_rfl,by kernel_rfl⟩
def hasS:List A→(Res→Prop)→Prop
 |[.row 3 [.ints .i64 3 [p,q,r]],.v (.int .i64 v)],K=>K (.d (.v (.bool (decide (idx3 p q r v≥0)))))
 |_,_=>False
theorem has_ok(p q r v:Int):FnO 192 [.row 3 [.ints .i64 3 [p,q,r]],.v (.int .i64 v)] (.d (.v (.bool (decide (idx3 p q r v≥0))))):=by
 refine fnA (E:=env2a) Tryz.func192 Tryz.ntmps192 ?_
 refine ago ?_;(try exact⟨⟩)
theorem hasS_ok{f:FuncId}(hx:∀p q r v,FnO f [.row 3 [.ints .i64 3 [p,q,r]],.v (.int .i64 v)] (.d (.v (.bool (decide (idx3 p q r v≥0)))))):∀args K,hasS args K→∃r,FnO f args r∧K r:=by
 intro args K h
 unfold hasS at h
 split at h
 ·exact⟨_,hx _ _ _ _,h⟩
 ·exact h.elim
noncomputable def env2b:EnvX:=env2a.add 192 hasS (hasS_ok has_ok) ⟨_,Tryz.func192,by kernel_rfl,by kernel_rfl⟩
def pathT(x:Int):List Int:=[if leafB x=true then x / 2*4+1 else 0,if leafB x=true then x / 4*8+3 else 0,if leafB x=true then 7 else 0]
theorem pathT_eq(x:Int):pathL x=pathT x:=by unfold pathL pathT;split<;>rfl
def pathTS:List A→(Res→Prop)→Prop
 |[.v (.int .i64 x)],K=>K (.d (.agg [.ints .i64 3 [if leafB x=true then x / 2*4+1 else 0,if leafB x=true then x / 4*8+3 else 0,if leafB x=true then 7 else 0]]))
 |_,_=>False
theorem pathTS_ok{f:FuncId}(hx:∀x,FnO f [.v (.int .i64 x)] (.d (.agg [.ints .i64 3 (pathL x)]))):∀args K,pathTS args K→∃r,FnO f args r∧K r:=by
 intro args K h
 unfold pathTS at h
 split at h
 ·exact⟨_,hx _,by rw[pathT_eq];exact h⟩
 ·exact h.elim
noncomputable def env2c:EnvX:=env2b.add 125 pathTS (pathTS_ok path_ok) ⟨_,Tryz.func125,by kernel_rfl,by kernel_rfl⟩
noncomputable def env2:EnvX:=env2c
def underB(n x:Int):Bool:=leafB x&&(decide (n=2*x)||decide (n=x / 2*4+1)||decide (n=x / 4*8+3)||decide (n=7))
def underS:List A→(Res→Prop)→Prop
 |[.v (.int .i64 n),.v (.int .i64 x)],K=>K (.d (.v (.bool (underB n x))))
 |_,_=>False
theorem leafB_t{x:Int}(h:leafB x=true):0≤x∧x<8:=by simpa[leafB]using h
theorem under_ok(n x:Int):FnO 174 [.v (.int .i64 n),.v (.int .i64 x)] (.d (.v (.bool (underB n x)))):=by
 refine fnA (E:=env2) Tryz.func174 Tryz.ntmps174 ?_
 cases h:leafB x with
 |false=>
  refine ago ?_;(try exact⟨⟩)
  simp[underB,h]
 |true=>
  have h':=leafB_t h
  have e1:IntKind.i64.wrap (2*x)=2*x:=wrapS (by omega) (by omega)
  by_cases h1:n=2*x
  ·refine ago ?_;(try exact⟨⟩)
   simp[underB,h,h1]
  ·refine ago ?_;(try exact⟨⟩)
   simp[underB,h,h1,idx3]
   repeat (split<;>simp_all)
def sideL(x:Int):List Int:=if leafB x=true then[if x%2=0 then 2*x+2 else 2*x-2,if x / 2%2=0 then x / 2*4+5 else x / 2*4-3,if x / 4=0 then 11 else 3]else[0,0,0]
theorem eight{p:Int→Prop}{x:Int}(h:0≤x∧x<8)(h0:p 0)(h1:p 1)(h2:p 2)(h3:p 3)(h4:p 4)(h5:p 5)(h6:p 6)(h7:p 7):p x:=by
 have:x=0∨x=1∨x=2∨x=3∨x=4∨x=5∨x=6∨x=7:=by omega
 rcases this with rfl|rfl|rfl|rfl|rfl|rfl|rfl|rfl<;>assumption
theorem side_ok(x:Int):FnO 163 [.v (.int .i64 x)] (.d (.agg [.ints .i64 3 (sideL x)])):=by
 refine fnA (E:=env2) Tryz.func163 Tryz.ntmps163 ?_
 cases h:leafB x with
 |false=>
  refine ago ?_;(try exact⟨⟩)
  simp[sideL,h]
 |true=>
  have h':=leafB_t h
  refine ago ?_;(try exact⟨⟩)
  simp[sideL,h]
  have:x=0∨x=1∨x=2∨x=3∨x=4∨x=5∨x=6∨x=7:=by omega
  rcases this with rfl|rfl|rfl|rfl|rfl|rfl|rfl|rfl<;>decide
def commonI(a b:Int):Int:=if leafB a=true∧leafB b=true then(if a=b then 2*a else if a / 2=b / 2 then a / 2*4+1 else if a / 4=b / 4 then a / 4*8+3 else 7)else 0
theorem underS_ok{f:FuncId}(hx:∀n x,FnO f [.v (.int .i64 n),.v (.int .i64 x)] (.d (.v (.bool (underB n x))))):∀args K,underS args K→∃r,FnO f args r∧K r:=by
 intro args K h
 unfold underS at h
 split at h
 ·exact⟨_,hx _ _,h⟩
 ·exact h.elim
def sideS:List A→(Res→Prop)→Prop
 |[.v (.int .i64 x)],K=>K (.d (.agg [.ints .i64 3 [(sideL x).getD 0 0,(sideL x).getD 1 0,(sideL x).getD 2 0]]))
 |_,_=>False
theorem sideS_ok{f:FuncId}(hx:∀x,FnO f [.v (.int .i64 x)] (.d (.agg [.ints .i64 3 (sideL x)]))):∀args K,sideS args K→∃r,FnO f args r∧K r:=by
 intro args K h
 unfold sideS at h
 split at h
 ·refine⟨_,hx _,?_⟩
  have e:∀x,[(sideL x).getD 0 0,(sideL x).getD 1 0,(sideL x).getD 2 0]=sideL x:=by intro x;unfold sideL;split<;>rfl
  rw[e]at h;exact h
 ·exact h.elim
noncomputable def env3a:EnvX:=env2.add 174 underS (underS_ok under_ok) ⟨_,Tryz.func174,by kernel_rfl,by kernel_rfl⟩
noncomputable def env3b:EnvX:=env3a
noncomputable def env3:EnvX:=env3b.add 163 sideS (sideS_ok side_ok) ⟨_,Tryz.func163,by kernel_rfl,by kernel_rfl⟩
theorem common_ok(a b:Int):FnO 127 [.v (.int .i64 a),.v (.int .i64 b)] (.d (.v (.int .i64 (commonI a b)))):=by
 refine fnA (E:=env3) Tryz.func127 Tryz.ntmps127 ?_
 cases h:leafB a with
 |false=>
  refine ago ?_;(try exact⟨⟩)
  simp[commonI,h]
 |true=>
  have h':=leafB_t h
  have e1:IntKind.i64.wrap (2*a)=2*a:=wrapS (by omega) (by omega)
  cases g:leafB b with
  |false=>
   refine ago ?_;(try exact⟨⟩)
   simp[commonI,g]
  |true=>
   have g':=leafB_t g
   by_cases c:a=b
   ·subst c
    refine ago ?_;(try exact⟨⟩)
    simp[commonI,h,e1]
   ·by_cases c1:a / 2=b / 2
    ·have u1:underB (a / 2*4+1) b=true:=by simp[underB,g,c1]
     have u1':underB (b / 2*4+1) b=true:=by simp[underB,g]
     refine ago ?_;(try exact⟨⟩)
     refine StopL.mk (loop_unroll 4 ?_)
     refine ago ?_;(try exact⟨⟩)
     simp[commonI,h,g,c,c1]
    ·have u1:underB (a / 2*4+1) b=false:=by simp[underB,g]<;>omega
     by_cases c2:a / 4=b / 4
     ·have u2:underB (a / 4*8+3) b=true:=by simp[underB,g,c2]
      have u2':underB (b / 4*8+3) b=true:=by simp[underB,g]
      refine ago ?_;(try exact⟨⟩)
      refine StopL.mk (loop_unroll 4 ?_)
      refine ago ?_;(try exact⟨⟩)
      simp[commonI,h,g,c,c1,c2]
     ·have u2:underB (a / 4*8+3) b=false:=by simp[underB,g]<;>omega
      have u3:underB 7 b=true:=by simp[underB,g]
      refine ago ?_;(try exact⟨⟩)
      refine StopL.mk (loop_unroll 4 ?_)
      refine ago ?_;(try exact⟨⟩)
      simp[commonI,h,g,c,c1,c2]
def commonS:List A→(Res→Prop)→Prop
 |[.v (.int .i64 a),.v (.int .i64 b)],K=>K (.d (.v (.int .i64 (commonI a b))))
 |_,_=>False
theorem commonS_ok{f:FuncId}(hx:∀a b,FnO f [.v (.int .i64 a),.v (.int .i64 b)] (.d (.v (.int .i64 (commonI a b))))):∀args K,commonS args K→∃r,FnO f args r∧K r:=by
 intro args K h
 unfold commonS at h
 split at h
 ·exact⟨_,hx _ _,h⟩
 ·exact h.elim
noncomputable def env4:EnvX:=env3.add 127 commonS (commonS_ok common_ok) ⟨_,Tryz.func127,by kernel_rfl,by kernel_rfl⟩
end
section
attribute [local irreducible] condK LoopA regA
noncomputable def env5:EnvX:=env4
end
section
attribute [local irreducible] condK LoopA regA
def keyZ(zs:List Int)(n:Int):Int:=if 0≤n∧n<15 then(if n%2=0 then zs.getD (n.toNat+1) 0 else zs.getD (16+n.toNat) 0)else 0
def keyTS:List A→(Res→Prop)→Prop
 |[.agg [.ints .i64 31 zs],.v (.int .i64 n)],K=>K (.d (.v (.int .i64 (keyZ zs n))))
 |_,_=>False
theorem keyTS_ok{f:FuncId}(hx:∀zs n,FnO f [.agg [.ints .i64 31 zs],.v (.int .i64 n)] (.d (.v (.int .i64 (keyZ zs n))))):∀args K,keyTS args K→∃r,FnO f args r∧K r:=by
 intro args K h
 unfold keyTS at h
 split at h
 ·exact⟨_,hx _ _,h⟩
 ·exact h.elim
theorem fifteenI{x:Int}(h:0≤x∧x<15):x=0∨x=1∨x=2∨x=3∨x=4∨x=5∨x=6∨x=7∨x=8∨x=9∨x=10∨x=11∨x=12∨x=13∨x=14:=by omega
def nodeB(n:Int):Bool:=decide (0≤n)&&decide (n<15)
def nodeS:List A→(Res→Prop)→Prop
 |[.v (.int .i64 x)],K=>K (.d (.v (.bool (nodeB x))))
 |_,_=>False
theorem node_ok(x:Int):FnO 170 [.v (.int .i64 x)] (.d (.v (.bool (nodeB x)))):=by
 refine fnA (E:=env0) Tryz.func170 Tryz.ntmps170 ?_
 by_cases h:0≤x
 ·refine ago ?_;(try exact⟨⟩)
  simp[nodeB,h]
 ·refine ago ?_;(try exact⟨⟩)
  simp[nodeB,h]
theorem nodeS_ok{f:FuncId}(hx:∀x,FnO f [.v (.int .i64 x)] (.d (.v (.bool (nodeB x))))):∀args K,nodeS args K→∃r,FnO f args r∧K r:=by
 intro args K h
 unfold nodeS at h
 split at h
 ·exact⟨_,hx _,h⟩
 ·exact h.elim
def evenS:List A→(Res→Prop)→Prop
 |[.v (.int .i64 y)],K=>K (.d (.v (.bool (y.tmod 2==0))))
 |_,_=>False
theorem even_ok(y:Int):FnO 171 [.v (.int .i64 y)] (.d (.v (.bool (y.tmod 2==0)))):=by
 refine fnA (E:=env0) Tryz.func171 Tryz.ntmps171 ?_
 refine ago ?_;(try exact⟨⟩)
theorem evenS_ok{f:FuncId}(hx:∀y,FnO f [.v (.int .i64 y)] (.d (.v (.bool (y.tmod 2==0))))):∀args K,evenS args K→∃r,FnO f args r∧K r:=by
 intro args K h
 unfold evenS at h
 split at h
 ·exact⟨_,hx _,h⟩
 ·exact h.elim
noncomputable def env10a:EnvX:=env5.add 170 nodeS (nodeS_ok node_ok) ⟨_,Tryz.func170,by kernel_rfl,by kernel_rfl⟩
noncomputable def env10b:EnvX:=env10a.add 171 evenS (evenS_ok even_ok) ⟨_,Tryz.func171,by kernel_rfl,by kernel_rfl⟩
set_option maxHeartbeats 4000000 in
theorem key_ok(zs:List Int)(n:Int):FnO 123 [.agg [.ints .i64 31 zs],.v (.int .i64 n)] (.d (.v (.int .i64 (keyZ zs n)))):=by
 refine fnA (E:=env10b) Tryz.func123 Tryz.ntmps123 ?_
 by_cases h:0≤n∧n<15
 ·rcases fifteenI h with rfl|rfl|rfl|rfl|rfl|rfl|rfl|rfl|rfl|rfl|rfl|rfl|rfl|rfl|rfl<;>((refine ago ?_;(try exact⟨⟩));try kernel_rfl)
 ·have hb:nodeB n=false:=by simp[nodeB];omega
  refine ago ?_;(try exact⟨⟩)
  simp[keyZ,h]
def stepZ(n:Int):Int:=if n=7 then 4 else if n%4=3 then 2 else 1
def oddB(n:Int):Bool:=decide (0≤n)&&decide (n<15)&&decide (n%2=1)
theorem seven{x:Int}(h:oddB x=true):x=1∨x=3∨x=5∨x=7∨x=9∨x=11∨x=13:=by simp[oddB]at h;omega
def tzS:List A→(Res→Prop)→Prop
 |[.v (.int .u64 n)],K=>oddB (n-1)=true∧K (.d (.v (.int .i64 (if n=8 then 3 else if n%4=0 then 2 else 1))))
 |_,_=>False
theorem seven1{x:Int}(h:oddB (x-1)=true):x=2∨x=4∨x=6∨x=8∨x=10∨x=12∨x=14:=by simp[oddB]at h;omega
set_option maxHeartbeats 4000000 in
theorem tz64_ok(n:Int)(h:oddB (n-1)=true):FnO 224 [.v (.int .u64 n)] (.d (.v (.int .i64 (if n=8 then 3 else if n%4=0 then 2 else 1)))):=by
 refine fnA (E:=env0) Tryz.func224 Tryz.ntmps224 ?_
 rcases seven1 h with rfl|rfl|rfl|rfl|rfl|rfl|rfl<;>((refine ago ?_;(try exact⟨⟩));try kernel_rfl)
theorem tzS_ok{f:FuncId}(hx:∀n,oddB (n-1)=true→FnO f [.v (.int .u64 n)] (.d (.v (.int .i64 (if n=8 then 3 else if n%4=0 then 2 else 1))))):∀args K,tzS args K→∃r,FnO f args r∧K r:=by
 intro args K h
 unfold tzS at h
 split at h
 ·exact⟨_,hx _ h.1,h.2⟩
 ·exact h.elim
noncomputable def env10c:EnvX:=env10b.add 224 tzS (tzS_ok tz64_ok) ⟨_,Tryz.func224,by kernel_rfl,by kernel_rfl⟩
theorem tz_ok(n:Int)(h:oddB (n-1)=true):FnO 222 [.v (.int .u64 n)] (.d (.v (.int .i64 (if n=8 then 3 else if n%4=0 then 2 else 1)))):=by
 refine fnA (E:=env10c) Tryz.func222 Tryz.ntmps222 ?_
 rcases seven1 h with rfl|rfl|rfl|rfl|rfl|rfl|rfl<;>((refine ago ?_;(try exact⟨⟩));try rfl)
noncomputable def env10d:EnvX:=env10c.add 222 tzS (tzS_ok tz_ok) ⟨_,Tryz.func222,by kernel_rfl,by kernel_rfl⟩
def belowS:List A→(Res→Prop)→Prop
 |[.v (.int .i64 n)],K=>oddB n=true∧K (.t [.v (.int .i64 (n-stepZ n)),.v (.int .i64 (n+stepZ n))])
 |_,_=>False
set_option maxHeartbeats 4000000 in
theorem below_ok(n:Int)(h:oddB n=true):FnO 213 [.v (.int .i64 n)] (.t [.v (.int .i64 (n-stepZ n)),.v (.int .i64 (n+stepZ n))]):=by
 refine fnA (E:=env10d) Tryz.func213 Tryz.ntmps213 ?_
 rcases seven h with rfl|rfl|rfl|rfl|rfl|rfl|rfl<;>((refine ago ?_;(try exact⟨⟩));try kernel_rfl)
theorem belowS_ok:∀args K,belowS args K→∃r,FnO 213 args r∧K r:=by
 intro args K h
 unfold belowS at h
 split at h
 ·exact⟨_,below_ok _ h.1,h.2⟩
 ·exact h.elim
noncomputable def env10e:EnvX:=env10d.add 213 belowS belowS_ok ⟨_,Tryz.func213,by kernel_rfl,by kernel_rfl⟩
noncomputable def env10f:EnvX:=env10e
noncomputable def env10g:EnvX:=env10f.add 123 keyTS (keyTS_ok key_ok) ⟨_,Tryz.func123,by kernel_rfl,by kernel_rfl⟩
noncomputable def env10:EnvX:=env10g
end
section
attribute [local irreducible] condK LoopA regA
def resF:Nat→List Int→Int→List Int
 |0,zs,n=>if keyZ zs n=0 then[]else[n]
 |d+1,zs,n=>if keyZ zs n=0 then(if oddB n=true then resF d zs (n-stepZ n)++resF d zs (n+stepZ n)else[])else[n]
theorem resF_len(zs:List Int):∀(d:Nat) (n:Int),(resF d zs n).length≤2^d
 |0,n=>by unfold resF;split<;>simp
 |d+1,n=>by
  unfold resF
  have h1:=resF_len zs d (n-stepZ n)
  have h2:=resF_len zs d (n+stepZ n)
  have h3:1≤2^d:=Nat.one_le_two_pow
  rw[Nat.pow_succ]
  split
  ·split
   ·rw[List.length_append];omega
   ·simp
  ·simp;omega
def okD(d:Nat)(n:Int):Bool:=
 !oddB n||(decide (1≤d)&&decide (n%4=1))||(decide (2≤d)&&decide (n%8=3))||decide (3≤d)
def resR(d:Nat)(zs:List Int)(n:Int):Res:=.o 3 1 (resF d zs n).length [.ints .i64 (resF d zs n).length (resF d zs n)]
def resS(d:Nat):List A→(Res→Prop)→Prop
 |[.agg [.ints .i64 31 zs],.v (.int .i64 n)],K=>okD d n=true∧K (.o 3 1 (resF d zs n).length [.ints .i64 (resF d zs n).length (resF d zs n)])
 |_,_=>False
theorem resS_ok{f:FuncId}{d:Nat}(hx:∀zs n,okD d n=true→FnO f [.agg [.ints .i64 31 zs],.v (.int .i64 n)] (resR d zs n)):∀args K,resS d args K→∃r,FnO f args r∧K r:=by
 intro args K h
 unfold resS at h
 split at h
 ·exact⟨_,hx _ _ h.1,h.2⟩
 ·exact h.elim
theorem res_flat(E:EnvX)(d:Nat)(zs:List Int)(n:Int)(hn:oddB n=false)(h:∀r,(keyZ zs n=0∧r=.d (.v (.slice none 0 0))∨keyZ zs n≠0∧r=.o 3 1 1 [.ints .i64 1 [n]])→FnO 164 [.agg [.ints .i64 31 zs],.v (.int .i64 n)] r):
  FnO 164 [.agg [.ints .i64 31 zs],.v (.int .i64 n)] (resR d zs n):=by
 by_cases hk:keyZ zs n=0
 ·have e:resF d zs n=[]:=by cases d<;>simp[resF,hk,hn]
  unfold resR
  rw[e]
  exact fnNil (h _ (.inl ⟨hk,rfl⟩)) rfl
 ·have e:resF d zs n=[n]:=by cases d<;>simp[resF,hk]
  unfold resR
  rw[e]
  exact h _ (.inr ⟨hk,rfl⟩)
set_option maxHeartbeats 8000000 in
theorem res_ok0(E:EnvX)(zs:List Int)(n:Int)(hn:oddB n=false)(d:Nat):FnO 164 [.agg [.ints .i64 31 zs],.v (.int .i64 n)] (resR d zs n):=by
 refine res_flat env10 d zs n hn fun r hr=>?_
 refine fnA (E:=env10) Tryz.func164 Tryz.ntmps164 ?_
 rcases hr with⟨hk,rfl⟩|⟨hk,rfl⟩
 ·have hk0:(keyZ zs n !=0)=false:=by simp[hk]
  by_cases h:nodeB n=true
  ·have he:(n.tmod 2==0)=true:=by
    simp[nodeB]at h
    simp[oddB,h]at hn
    have:n.tmod 2=n%2:=Int.tmod_eq_emod_of_nonneg h.1
    simp[this];omega
   clear hk
   refine ago ?_;(try exact⟨⟩)
   all_goals try rfl
  ·have h':nodeB n=false:=by simpa using h
   clear h hk
   refine ago ?_;(try exact⟨⟩)
   all_goals try rfl
 ·have hk0:(keyZ zs n !=0)=true:=by simp[hk]
  clear hk
  refine ago ?_;(try exact⟨⟩)
  all_goals try rfl
theorem odd_levels{d:Nat}{n:Int}(hn:oddB n=true)(h:okD (d+1) n=true):okD d (n-stepZ n)=true∧okD d (n+stepZ n)=true:=by
 rcases seven hn with rfl|rfl|rfl|rfl|rfl|rfl|rfl<;>rcases d with _|_|d<;>first|(simp[okD,oddB]at h;done)|(constructor<;>simp[okD,oddB,stepZ])
theorem odd_node{n:Int}(hn:oddB n=true):nodeB n=true∧(n.tmod 2==0)=false:=by
 rcases seven hn with rfl|rfl|rfl|rfl|rfl|rfl|rfl<;>decide
set_option maxHeartbeats 8000000 in
theorem res_step(d:Nat)(hd:d≤3)(ih:∀zs n,okD d n=true→FnO 164 [.agg [.ints .i64 31 zs],.v (.int .i64 n)] (resR d zs n))(zs:List Int)(n:Int)(hok:okD (d+1) n=true):
  FnO 164 [.agg [.ints .i64 31 zs],.v (.int .i64 n)] (resR (d+1) zs n):=by
 cases hn:oddB n with
 |false=>exact res_ok0 env10 zs n hn (d+1)
 |true=>
  obtain⟨o1,o2⟩:=odd_levels hn hok
  obtain⟨o3,o4⟩:=odd_node hn
  have p2:2^d≤8:=by
   have:d=0∨d=1∨d=2∨d=3:=by omega
   rcases this with rfl|rfl|rfl|rfl<;>decide
  have l1:(resF d zs (n-stepZ n)).length≤8:=Nat.le_trans (resF_len zs d _) p2
  have l2:(resF d zs (n+stepZ n)).length≤8:=Nat.le_trans (resF_len zs d _) p2
  refine fnA (E:=(env10.add 164 (resS d) (resS_ok ih) ⟨_,Tryz.func164,by kernel_rfl,by kernel_rfl⟩)) Tryz.func164 Tryz.ntmps164 ?_
  by_cases hk:keyZ zs n=0
  ·have hk0:(keyZ zs n !=0)=false:=by simp[hk]
   have e:resF (d+1) zs n=resF d zs (n-stepZ n)++resF d zs (n+stepZ n):=by simp[resF,hk,hn]
   unfold resR
   rw[e]
   clear hk e hok p2
   refine ago ?_;(try exact⟨⟩)
   all_goals try rfl
   simp
  ·have hk0:(keyZ zs n !=0)=true:=by simp[hk]
   have e:resF (d+1) zs n=[n]:=by simp[resF,hk]
   unfold resR
   rw[e]
   clear hk e hok p2
   refine ago ?_;(try exact⟨⟩)
   all_goals try rfl
theorem res_ok(zs:List Int)(n:Int):FnO 164 [.agg [.ints .i64 31 zs],.v (.int .i64 n)] (resR 3 zs n):=by
 refine res_step 2 (by decide) (res_step 1 (by decide) (res_step 0 (by decide) fun zs n h=>res_ok0 env10 zs n (by simpa[okD]using h) 0)) zs n (by simp[okD])
end
section
attribute [local irreducible] condK LoopA regA
noncomputable def env12a:EnvX:=env10.add 164 (resS 3) (resS_ok fun zs n _=>res_ok zs n) ⟨_,Tryz.func164,by kernel_rfl,by kernel_rfl⟩
noncomputable def env12b:EnvX:=env12a
noncomputable def env12:EnvX:=env12b
end
section
attribute [local irreducible] condK LoopA regA
end
end Go.Proofs.YtbdmnobocecnfaaGreatDoor
