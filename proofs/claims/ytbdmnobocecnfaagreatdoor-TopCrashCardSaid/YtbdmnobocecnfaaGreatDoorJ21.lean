/-
  Views: operations in a row, as the program does them.
-/
import Derived.Test.YtbdmnobocecnfaaGreatDoorJ20
namespace Go.Proofs.YtbdmnobocecnfaaGreatDoor
set_option linter.unusedVariables false
set_option linter.unusedSimpArgs false
set_option maxRecDepth 100000
open Go.RowKit
section
open Pm
attribute [local irreducible] condK LoopA regA isI memTo memL freeN usedB fullB putL errAdd isT memB
structure Vw where
 zs:List Int
 ad:List Bool
 k:Int
 ng:List Bool
 gn:List Bool
def errOp(s:Vw)(fr:Int)(o:List Int):Int:=
 if o.getD 0 0=1 then errAdd s.zs [o.getD 3 0,o.getD 4 0]else if o.getD 0 0=2 then errRem s.zs fr (o.getD 1 0)else if o.getD 0 0=3 then errPro s.zs s.ad (o.getD 1 0)else if o.getD 0 0=4 then errDem s.zs s.ad (o.getD 1 0)else errLim (o.getD 2 0)
def nextOp(s:Vw)(o:List Int):Vw:=
 if o.getD 0 0=1 then⟨putL s.zs [o.getD 3 0,o.getD 4 0] (freeN s.zs:Nat),s.ad,s.k,s.ng.set (freeN s.zs) true,s.gn⟩
 else if o.getD 0 0=2 then⟨putL s.zs [0,0] (o.getD 1 0),s.ad.set (o.getD 1 0).toNat false,s.k,s.ng.set (o.getD 1 0).toNat false,s.gn.set (o.getD 1 0).toNat true⟩
 else if o.getD 0 0=3 then⟨s.zs,s.ad.set (o.getD 1 0).toNat true,s.k,s.ng,s.gn⟩
 else if o.getD 0 0=4 then⟨s.zs,s.ad.set (o.getD 1 0).toNat false,s.k,s.ng,s.gn⟩
 else⟨s.zs,s.ad,o.getD 2 0,s.ng,s.gn⟩
abbrev wSegs(e:Int)(s:Vw)(ch:List UInt8)(fr:Int):List Seg:=sSegs e s.zs s.ad s.k ch fr s.ng s.gn
def remSM:Nat→Bk→List A→(Res→Bk→Prop)→Prop
 |0,.var [.ints .i64 1 [e],.ints .i64 31 zs,.bools 8 ad,.ints .i64 1 [k],.bytes 32 ch,.ints .i64 1 [fr],.bools 8 ng,.bools 8 gn],[.v (.int .i64 y)],K=>
  K (.d (.v (.int .i64 (errRem zs fr y)))) (.var (if errRem zs fr y=0 then sSegs e (putL zs [0,0] y) (ad.set y.toNat false) k ch fr (ng.set y.toNat false) (gn.set y.toNat true)else sSegs e zs ad k ch fr ng gn))
 |_,_,_,_=>False
theorem remSM_ok:∀pos x args K,remSM pos x args K→∃r x',FnMO 208 pos x args r x'∧K r x':=by
 intro pos x args K h
 unfold remSM at h
 split at h
 ·exact⟨_,_,remove_ok _ _ _ _ _ _ _ _ _,h⟩
 ·exact h.elim
def proSM:Nat→Bk→List A→(Res→Bk→Prop)→Prop
 |0,.var [.ints .i64 1 [e],.ints .i64 31 zs,.bools 8 ad,.ints .i64 1 [k],.bytes 32 ch,.ints .i64 1 [fr],.bools 8 ng,.bools 8 gn],[.v (.int .i64 y)],K=>
  K (.d (.v (.int .i64 (errPro zs ad y)))) (.var (if errPro zs ad y=0 then sSegs e zs (ad.set y.toNat true) k ch fr ng gn else sSegs e zs ad k ch fr ng gn))
 |_,_,_,_=>False
theorem proSM_ok:∀pos x args K,proSM pos x args K→∃r x',FnMO 209 pos x args r x'∧K r x':=by
 intro pos x args K h
 unfold proSM at h
 split at h
 ·exact⟨_,_,promote_ok _ _ _ _ _ _ _ _ _,h⟩
 ·exact h.elim
def demSM:Nat→Bk→List A→(Res→Bk→Prop)→Prop
 |0,.var [.ints .i64 1 [e],.ints .i64 31 zs,.bools 8 ad,.ints .i64 1 [k],.bytes 32 ch,.ints .i64 1 [fr],.bools 8 ng,.bools 8 gn],[.v (.int .i64 y)],K=>
  K (.d (.v (.int .i64 (errDem zs ad y)))) (.var (if errDem zs ad y=0 then sSegs e zs (ad.set y.toNat false) k ch fr ng gn else sSegs e zs ad k ch fr ng gn))
 |_,_,_,_=>False
theorem demSM_ok:∀pos x args K,demSM pos x args K→∃r x',FnMO 210 pos x args r x'∧K r x':=by
 intro pos x args K h
 unfold demSM at h
 split at h
 ·exact⟨_,_,demote_ok _ _ _ _ _ _ _ _ _,h⟩
 ·exact h.elim
def limSM:Nat→Bk→List A→(Res→Bk→Prop)→Prop
 |0,.var [.ints .i64 1 [e],.ints .i64 31 zs,.bools 8 ad,.ints .i64 1 [k],.bytes 32 ch,.ints .i64 1 [fr],.bools 8 ng,.bools 8 gn],[.v (.int .i64 y)],K=>
  K (.d (.v (.int .i64 (errLim y)))) (.var (if errLim y=0 then sSegs e zs ad y ch fr ng gn else sSegs e zs ad k ch fr ng gn))
 |_,_,_,_=>False
theorem limSM_ok:∀pos x args K,limSM pos x args K→∃r x',FnMO 211 pos x args r x'∧K r x':=by
 intro pos x args K h
 unfold limSM at h
 split at h
 ·exact⟨_,_,limit_ok _ _ _ _ _ _ _ _ _,h⟩
 ·exact h.elim
noncomputable def envVi:EnvX:=envVh.addM 207 addSM addSM_ok ⟨_,Tryz.func207,by kernel_rfl,by kernel_rfl⟩
noncomputable def envVj:EnvX:=envVi.addM 208 remSM remSM_ok ⟨_,Tryz.func208,by kernel_rfl,by kernel_rfl⟩
noncomputable def envVk:EnvX:=envVj.addM 209 proSM proSM_ok ⟨_,Tryz.func209,by kernel_rfl,by kernel_rfl⟩
noncomputable def envVl:EnvX:=envVk.addM 210 demSM demSM_ok ⟨_,Tryz.func210,by kernel_rfl,by kernel_rfl⟩
noncomputable def envVm:EnvX:=envVl.addM 211 limSM limSM_ok ⟨_,Tryz.func211,by kernel_rfl,by kernel_rfl⟩
set_option maxHeartbeats 8000000 in
theorem one_ok(e:Int)(s:Vw)(ch:List UInt8)(fr:Int)(o:List Int):
  FnMO 156 0 (.var (wSegs e s ch fr)) [.agg [.ints .i64 5 o]] (.d (.v (.int .i64 (errOp s fr o)))) (.var (if errOp s fr o=0 then wSegs e (nextOp s o) ch fr else wSegs e s ch fr)):=by
 refine fnM_lens fun _ hl=>?_
 obtain⟨a,b,c,d,f,rfl⟩:=five hl.1.1
 clear hl
 refine fnMA (E:=envVm) Tryz.func156 Tryz.ntmps156 ?_
 by_cases h1:a=1
 ·subst h1
  have e1:errOp s fr [1,b,c,d,f]=errAdd s.zs [d,f]:=rfl
  have e2:nextOp s [1,b,c,d,f]=⟨putL s.zs [d,f] (freeN s.zs:Nat),s.ad,s.k,s.ng.set (freeN s.zs) true,s.gn⟩:=rfl
  rw[e1,e2]
  clear e1 e2
  refine agom ?_;(try exact⟨⟩)
 have n1:(a==1)=false:=by simpa using h1
 by_cases h2:a=2
 ·subst h2
  have e1:errOp s fr [2,b,c,d,f]=errRem s.zs fr b:=rfl
  have e2:nextOp s [2,b,c,d,f]=⟨putL s.zs [0,0] b,s.ad.set b.toNat false,s.k,s.ng.set b.toNat false,s.gn.set b.toNat true⟩:=rfl
  rw[e1,e2]
  clear e1 e2 h1
  refine agom ?_;(try exact⟨⟩)
 have n2:(a==2)=false:=by simpa using h2
 by_cases h3:a=3
 ·subst h3
  have e1:errOp s fr [3,b,c,d,f]=errPro s.zs s.ad b:=rfl
  have e2:nextOp s [3,b,c,d,f]=⟨s.zs,s.ad.set b.toNat true,s.k,s.ng,s.gn⟩:=rfl
  rw[e1,e2]
  clear e1 e2 h1 h2
  refine agom ?_;(try exact⟨⟩)
 have n3:(a==3)=false:=by simpa using h3
 by_cases h4:a=4
 ·subst h4
  have e1:errOp s fr [4,b,c,d,f]=errDem s.zs s.ad b:=rfl
  have e2:nextOp s [4,b,c,d,f]=⟨s.zs,s.ad.set b.toNat false,s.k,s.ng,s.gn⟩:=rfl
  rw[e1,e2]
  clear e1 e2 h1 h2 h3
  refine agom ?_;(try exact⟨⟩)
 have n4:(a==4)=false:=by simpa using h4
 have e1:errOp s fr [a,b,c,d,f]=errLim c:=by simp[errOp,h1,h2,h3,h4]
 have e2:nextOp s [a,b,c,d,f]=⟨s.zs,s.ad,c,s.ng,s.gn⟩:=by simp[nextOp,h1,h2,h3,h4]
 rw[e1,e2]
 clear e1 e2 h1 h2 h3 h4
 refine agom ?_;(try exact⟨⟩)
def oneSM:Nat→Bk→List A→(Res→Bk→Prop)→Prop
 |0,.var [.ints .i64 1 [e],.ints .i64 31 zs,.bools 8 ad,.ints .i64 1 [k],.bytes 32 ch,.ints .i64 1 [fr],.bools 8 ng,.bools 8 gn],[.agg [.ints .i64 5 o]],K=>
  K (.d (.v (.int .i64 (errOp ⟨zs,ad,k,ng,gn⟩ fr o)))) (.var (if errOp ⟨zs,ad,k,ng,gn⟩ fr o=0 then wSegs e (nextOp ⟨zs,ad,k,ng,gn⟩ o) ch fr else sSegs e zs ad k ch fr ng gn))
 |_,_,_,_=>False
theorem oneSM_ok:∀pos x args K,oneSM pos x args K→∃r x',FnMO 156 pos x args r x'∧K r x':=by
 intro pos x args K h
 unfold oneSM at h
 split at h
 ·exact⟨_,_,one_ok _ ⟨_,_,_,_,_⟩ _ _ _,h⟩
 ·exact h.elim
noncomputable def envVn:EnvX:=envVm.addM 156 oneSM oneSM_ok ⟨_,Tryz.func156,by kernel_rfl,by kernel_rfl⟩
def runE(fr:Int)(ops:List Int):Nat→Nat→Vw→Int×Vw
 |0,_,s=>(0,s)
 |d+1,j,s=>if errOp s fr (opAt ops j)=0 then runE fr ops d (j+1) (nextOp s (opAt ops j))else(errOp s fr (opAt ops j),s)
def doR(e:Int)(s:Vw)(fr:Int)(ops:List Int)(n:Nat):Int×Vw:=
 if(!mayV e s.zs s.ad s.k||decide (n>4)||oddTo ops n)=true then(1,s)else if memB s.zs fr=false then(6,s)else
 if(runE fr ops n 0 s).1≠0 then runE fr ops n 0 s else if((cntB (runE fr ops n 0 s).2.ad:Nat):Int)<(runE fr ops n 0 s).2.k then(7,(runE fr ops n 0 s).2)else(0,(runE fr ops n 0 s).2)
end
section
open Pm
attribute [local irreducible] condK LoopA regA isI memTo memL freeN usedB fullB putL errAdd isT memB errOp nextOp mayV oddTo cntB runE opAt
set_option maxHeartbeats 4000000 in
theorem do_ok(e:Int)(s:Vw)(ch:List UInt8)(fr:Int)(ops:List Int)(n:Nat)(hn:n≤1000000):
  FnMO 113 0 (.var (wSegs e s ch fr)) [.row n [.ints .i64 (n*5) ops]] (.d (.v (.int .i64 (doR e s fr ops n).1))) (.var (wSegs e (doR e s fr ops n).2 ch fr)):=by
 refine fnMA (E:=envVn) Tryz.func113 Tryz.ntmps113 ?_
 cases hV:mayV e s.zs s.ad s.k with
 |false=>
  have hr:doR e s fr ops n=(1,s):=by simp[doR,hV]
  rw[hr]
  clear hr
  refine agom ?_;(try exact⟨⟩)
 |true=>
 by_cases h4:n>4
 ·have hr:doR e s fr ops n=(1,s):=by simp[doR,hV,h4]
  have h41:decide ((n:Int)>4)=true:=by simp;omega
  rw[hr]
  clear hr
  refine agom ?_;(try exact⟨⟩)
 have h41:decide ((n:Int)>4)=false:=by simp;omega
 cases hO:oddTo ops n with
 |true=>
  have hr:doR e s fr ops n=(1,s):=by simp[doR,hO]
  rw[hr]
  clear hr
  refine agom ?_;(try exact⟨⟩)
 |false=>
 cases hM:memB s.zs fr with
 |false=>
  have hr:doR e s fr ops n=(6,s):=by simp[doR,hV,h4,hO,hM]
  rw[hr]
  clear hr
  refine agom ?_;(try exact⟨⟩)
 |true=>
 have hr:doR e s fr ops n=(if(runE fr ops n 0 s).1≠0 then runE fr ops n 0 s else if((cntB (runE fr ops n 0 s).2.ad:Nat):Int)<(runE fr ops n 0 s).2.k then(7,(runE fr ops n 0 s).2)else(0,(runE fr ops n 0 s).2)):=by
  simp only[doR,hV,hO,hM,decide_eq_false h4]
  simp
 rw[hr]
 clear hr
 refine agom ?_;(try exact⟨⟩)
 have hR0:runE fr ops n 0 s=runE fr ops n 0 s:=rfl
 generalize hR:runE fr ops n 0 s=R at*
 refine StopL.mk (loop_inv [0,34,35,36] 1 (fun st=>∃j:Nat,j≤n∧∃q:Vw,runE fr ops (n-j) j q=R∧st=⟨[.ptr 0 0,.dead,.dead,.dead,.dead,.dead,.dead,.dead,.dead,.dead,.dead,.dead,.dead,.dead,.dead,.dead,.dead,.dead,.dead,.dead,.dead,.dead,.dead,.dead,.dead,.dead,.dead,.dead,.dead,.dead,.dead,.dead,.dead,.dead,.d (.row n [.ints .i64 (n*5) ops]),.d (.v (.int .i64 n)),.d (.v (.int .i64 (j:Nat))),.dead,.dead,.dead,.dead,.dead,.dead,.dead,.dead,.dead,.dead,.dead,.dead,.dead,.dead,.dead,.dead,.dead,.dead,.dead,.dead,.dead,.dead],[some (.var (wSegs e q ch fr))]⟩) (fun s=>n-intAt s 36) rfl ⟨0,by omega,s,hR,rfl⟩ ?_)
 clear hR hR0 hV h41 h4 hO hM
 rintro st ⟨j,hj,⟨zs,ad,k,ng,gn⟩,hrun,rfl⟩
 have hw:IntKind.i64.wrap ((j:Int)+1)=((j+1:Nat):Int):=by rw[wrapS (by omega) (by omega)];omega
 by_cases hj2:j<n
 ·obtain⟨d,hd⟩:∃d,n-j=d+1:=⟨n-j-1,by omega⟩
  have hopAt:opAt ops j=(ops.drop (j*5)).take 5:=by unfold opAt;rfl
  rw[hd]at hrun
  unfold runE at hrun
  rw[hopAt]at hrun
  clear hopAt
  generalize ho:(ops.drop (j*5)).take 5=o at*
  by_cases he:errOp ⟨zs,ad,k,ng,gn⟩ fr o=0
  ·rw[if_pos he]at hrun
   have he1:(errOp ⟨zs,ad,k,ng,gn⟩ fr o !=0)=false:=by rw[he];rfl
   rw[←ho]at he1 he
   refine agom ?_;(try exact⟨⟩)
   refine⟨⟨j+1,by omega,nextOp ⟨zs,ad,k,ng,gn⟩ o,by rw[show n- (j+1)=d by omega];exact hrun,by rw[if_pos he,ho,←hw];rfl⟩,?_⟩
   show n- (IntKind.i64.wrap ((j:Int)+1)).toNat<n- (j:Int).toNat
   rw[hw];omega
  ·rw[if_neg he]at hrun
   have he1:(errOp ⟨zs,ad,k,ng,gn⟩ fr o !=0)=true:=by simpa using he
   have he2:R.1≠0:=by rw[←hrun];exact he
   rw[if_pos he2,←hrun]
   rw[←ho]at he1 he
   clear hrun he2
   rw[←ho]
   refine agom ?_;(try exact⟨⟩)
   rw[if_neg he]
   refine agom ?_;(try exact⟨⟩)
 ·obtain rfl:j=n:=by omega
  rw[Nat.sub_self]at hrun
  unfold runE at hrun
  subst hrun
  rw[if_neg (by simp)]
  by_cases hc:((cntB ad:Nat):Int)<k
  ·rw[if_pos hc]
   refine agom ?_;(try exact⟨⟩)
  ·rw[if_neg hc]
   refine agom ?_;(try exact⟨⟩)
def doSM:Nat→Bk→List A→(Res→Bk→Prop)→Prop
 |0,.var [.ints .i64 1 [e],.ints .i64 31 zs,.bools 8 ad,.ints .i64 1 [k],.bytes 32 ch,.ints .i64 1 [fr],.bools 8 ng,.bools 8 gn],[.row n [.ints .i64 m ops]],K=>
  m=n*5∧n≤1000000∧K (.d (.v (.int .i64 (doR e ⟨zs,ad,k,ng,gn⟩ fr ops n).1))) (.var (wSegs e (doR e ⟨zs,ad,k,ng,gn⟩ fr ops n).2 ch fr))
 |_,_,_,_=>False
theorem doSM_ok:∀pos x args K,doSM pos x args K→∃r x',FnMO 113 pos x args r x'∧K r x':=by
 intro pos x args K h
 unfold doSM at h
 split at h
 ·obtain⟨rfl,h1,h⟩:=h
  exact⟨_,_,do_ok _ ⟨_,_,_,_,_⟩ _ _ _ _ h1,h⟩
 ·exact h.elim
noncomputable def envVo:EnvX:=envVn.addM 113 doSM doSM_ok ⟨_,Tryz.func113,by kernel_rfl,by kernel_rfl⟩
abbrev F8:List Bool:=[false,false,false,false,false,false,false,false]
abbrev vZero:List Seg:=vSegs 0 (List.replicate 31 0) F8 0 (List.replicate 32 0)
def appR(e:Int)(zs:List Int)(ad:List Bool)(k:Int)(ch:List UInt8)(fr:Int)(ops:List Int)(n:Nat):List A:=
 if(doR e ⟨zs,ad,k,F8,F8⟩ fr ops n).1=0 then[.agg (vSegs e (doR e ⟨zs,ad,k,F8,F8⟩ fr ops n).2.zs (doR e ⟨zs,ad,k,F8,F8⟩ fr ops n).2.ad (doR e ⟨zs,ad,k,F8,F8⟩ fr ops n).2.k ch),.agg [.bools 8 (doR e ⟨zs,ad,k,F8,F8⟩ fr ops n).2.ng],.agg [.bools 8 (doR e ⟨zs,ad,k,F8,F8⟩ fr ops n).2.gn],.v (.int .i64 0)]
 else[.agg vZero,.agg [.bools 8 F8],.agg [.bools 8 F8],.v (.int .i64 (doR e ⟨zs,ad,k,F8,F8⟩ fr ops n).1)]
attribute [local irreducible] doR
set_option maxHeartbeats 4000000 in
theorem apply_ok(e:Int)(zs:List Int)(ad:List Bool)(k:Int)(ch:List UInt8)(fr:Int)(ops:List Int)(n:Nat)(hn:n≤1000000):
  FnO 71 [.agg (vSegs e zs ad k ch),.v (.int .i64 fr),.row n [.ints .i64 (n*5) ops]] (.t (appR e zs ad k ch fr ops n)):=by
 refine fnA (E:=envVo) Tryz.func71 Tryz.ntmps71 ?_
 unfold appR
 by_cases he:(doR e ⟨zs,ad,k,F8,F8⟩ fr ops n).1=0
 ·have he1:((doR e ⟨zs,ad,k,F8,F8⟩ fr ops n).1 !=0)=false:=by rw[he];rfl
  rw[if_pos he]
  clear he
  refine agom ?_;(try exact⟨⟩)
 ·have he1:((doR e ⟨zs,ad,k,F8,F8⟩ fr ops n).1 !=0)=true:=by simpa using he
  rw[if_neg he]
  clear he
  refine agom ?_;(try exact⟨⟩)
  rfl
end
section
open Pm
attribute [local irreducible] condK LoopA regA isI memTo memL freeN usedB fullB putL errAdd isT memB
theorem free_lt{zs:List Int}(h:fullB zs=false):freeN zs<8∧memL zs (freeN zs)=false:=by
 unfold freeN
 cases hf:(List.range 8).find? (fun i=>!memL zs i)with
 |none=>
  rw[List.find?_eq_none]at hf
  have:fullB zs=true:=(full_iff zs).2 fun i hi=>by
   have:=hf i (by simpa using hi)
   simpa using this
  rw[this]at h;cases h
 |some i=>
  have h1:=List.find?_some hf
  have h2:=List.mem_of_find?_eq_some hf
  exact⟨by simpa using h2,by simpa using h1⟩
end
end Go.Proofs.YtbdmnobocecnfaaGreatDoor
