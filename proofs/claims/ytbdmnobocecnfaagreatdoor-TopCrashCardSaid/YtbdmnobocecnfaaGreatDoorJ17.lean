/-
  Trees: each member below a node is under just one node of those by which it is reached.
-/
import Derived.Test.YtbdmnobocecnfaaGreatDoorJ16
import Derived.Test.YtbdmnobocecnfaaGreatDoorJ13
namespace Go.Proofs.YtbdmnobocecnfaaGreatDoor
set_option linter.unusedVariables false
set_option linter.unusedSimpArgs false
set_option maxRecDepth 100000
open Go.RowKit
section
attribute [local irreducible] condK LoopA regA
end
section
attribute [local irreducible] condK LoopA regA
def putL(zs xs:List Int)(i:Int):List Int:=
 if leafB i=true then(((zs.take (i.toNat*2)++(xs++zs.drop (i.toNat*2+2))).set (16+(i / 2*4+1).toNat) 0).set (16+(i / 4*8+3).toNat) 0).set (16+7) 0 else List.replicate 31 0
def putS:List A→(Res→Prop)→Prop
 |[.agg [.ints .i64 31 zs],.v (.int .i64 i),.agg [.ints .i64 2 xs]],K=>K (.d (.agg [.ints .i64 31 (putL zs xs i)]))
 |_,_=>False
theorem putS_ok{f:FuncId}(hx:∀zs i xs,FnO f [.agg [.ints .i64 31 zs],.v (.int .i64 i),.agg [.ints .i64 2 xs]] (.d (.agg [.ints .i64 31 (putL zs xs i)]))):∀args K,putS args K→∃r,FnO f args r∧K r:=by
 intro args K h
 unfold putS at h
 split at h
 ·exact⟨_,hx _ _ _,h⟩
 ·exact h.elim
set_option maxHeartbeats 4000000 in
theorem put_ok(zs:List Int)(i:Int)(xs:List Int):FnO 221 [.agg [.ints .i64 31 zs],.v (.int .i64 i),.agg [.ints .i64 2 xs]] (.d (.agg [.ints .i64 31 (putL zs xs i)])):=by
 refine fnA (E:=env5) Tryz.func221 Tryz.ntmps221 ?_
 cases h:leafB i with
 |false=>
  refine ago ?_;(try exact⟨⟩)
  simp[putL,h]
 |true=>
  have h':=leafB_t h
  refine ago ?_;(try exact⟨⟩)
  refine StopL.mk (loop_unroll 4 ?_)
  refine ago ?_;(try exact⟨⟩)
  simp[putL,h]
noncomputable def env6a:EnvX:=env5.add 221 putS (putS_ok put_ok) ⟨_,Tryz.func221,by kernel_rfl,by kernel_rfl⟩
noncomputable def env6:EnvX:=env6a
end
section
open Pm
attribute [local irreducible] condK LoopA regA
def isS:List A→(Res→Prop)→Prop
 |[.v (.int .i64 y)],K=>K (.d (.v (.bool (isI y))))
 |_,_=>False
theorem isS_ok{f:FuncId}(hx:∀y,FnO f [.v (.int .i64 y)] (.d (.v (.bool (isI y))))):∀args K,isS args K→∃r,FnO f args r∧K r:=by
 intro args K h
 unfold isS at h
 split at h
 ·exact⟨_,hx _,h⟩
 ·exact h.elim
def ofLeafS:List A→(Res→Prop)→Prop
 |[.v (.int .i64 y)],K=>K (.d (.v (.bool (y.tmod 2==0))))
 |_,_=>False
theorem ofLeaf_ok(y:Int):FnO 171 [.v (.int .i64 y)] (.d (.v (.bool (y.tmod 2==0)))):=by
 refine fnA (E:=env0) Tryz.func171 Tryz.ntmps171 ?_
 refine ago ?_;(try exact⟨⟩)
theorem ofLeafS_ok{f:FuncId}(hx:∀y,FnO f [.v (.int .i64 y)] (.d (.v (.bool (y.tmod 2==0))))):∀args K,ofLeafS args K→∃r,FnO f args r∧K r:=by
 intro args K h
 unfold ofLeafS at h
 split at h
 ·exact⟨_,hx _,h⟩
 ·exact h.elim
noncomputable def env7a:EnvX:=env6.add 166 isS (isS_ok fun y=>fn_plain1 fun w=>is_any y w) ⟨_,Tryz.func166,by kernel_rfl,by kernel_rfl⟩
noncomputable def env7b:EnvX:=env7a
noncomputable def env7:EnvX:=env7b.add 171 ofLeafS (ofLeafS_ok ofLeaf_ok) ⟨_,Tryz.func171,by kernel_rfl,by kernel_rfl⟩
def leafP(zs:List Int)(k:Nat):List Int:=((zs.take 16).drop (k*2)).take 2
def leafOK(zs:List Int)(k:Nat):Bool:=decide (leafP zs k=[0,0])||(isI ((leafP zs k).getD 0 0)&&isI ((leafP zs k).getD 1 0))
def nodeV(zs:List Int)(k:Nat):Int:=((zs.drop 16).take 15).getD k 0
def nodeOK(zs:List Int)(k:Nat):Bool:=decide (nodeV zs k=0)||(!((k:Int).tmod 2==0)&&isI (nodeV zs k))
def isT(zs:List Int):Bool:=(List.range 8).all (leafOK zs)&&(List.range 15).all (nodeOK zs)
theorem isT_leaf{zs:List Int}{k:Nat}(hk:k<8)(h:leafOK zs k=false):isT zs=false:=by
 have:(List.range 8).all (leafOK zs)=false:=List.all_eq_false.2 ⟨k,by simpa using hk,by simp[h]⟩
 simp[isT,this]
theorem isT_node{zs:List Int}{k:Nat}(hk:k<15)(h:nodeOK zs k=false):isT zs=false:=by
 have:(List.range 15).all (nodeOK zs)=false:=List.all_eq_false.2 ⟨k,by simpa using hk,by simp[h]⟩
 simp[isT,this]
theorem isT_all{zs:List Int}(h1:∀k<8,leafOK zs k=true)(h2:∀k<15,nodeOK zs k=true):isT zs=true:=by
 have e1:(List.range 8).all (leafOK zs)=true:=List.all_eq_true.2 fun k hk=>h1 k (by simpa using hk)
 have e2:(List.range 15).all (nodeOK zs)=true:=List.all_eq_true.2 fun k hk=>h2 k (by simpa using hk)
 simp only[isT,e1,e2];rfl
set_option maxHeartbeats 16000000 in
theorem isTree_ok(zs:List Int):FnO 205 [.agg [.ints .i64 31 zs]] (.d (.v (.bool (isT zs)))):=by
 refine fnA (E:=env7) Tryz.func205 Tryz.ntmps205 ?_
 refine agom ?_;(try exact⟨⟩)
 refine StopL.mk (loop_inv [1,8,9] 1 (fun s=>∃k:Nat,k≤8∧(∀j<k,leafOK zs j=true)∧s=⟨[.dead,.ptr 0 0,.dead,.dead,.dead,.dead,.dead,.dead,.d (.agg [.ints .i64 16 (zs.take 16)]),.d (.v (.int .i64 (k:Nat))),.dead,.dead,.dead,.dead,.dead,.dead,.dead,.dead,.dead,.dead,.dead,.dead,.dead,.dead,.dead,.dead,.dead,.dead,.dead,.dead,.dead,.dead,.dead,.dead,.dead,.dead,.dead,.dead,.dead,.dead,.dead,.dead,.dead,.dead,.dead],[some (.var [.ints .i64 31 zs])]⟩) (fun s=>8-intAt s 9) rfl ⟨0,by omega,fun j hj=>by omega,rfl⟩ ?_)
 rintro s ⟨k,hk,hall,rfl⟩
 have hw:IntKind.i64.wrap ((k:Int)+1)=((k+1:Nat):Int):=by rw[wrapS (by omega) (by omega)];omega
 by_cases hk8:k<8
 ·have next:leafOK zs k=true→∀j<k+1,leafOK zs j=true:=fun h j hj=>by
   by_cases e:j=k
   ·rw[e];exact h
   ·exact hall j (by omega)
  by_cases hz:((zs.take 16).drop (k*2)).take 2=[0,0]
  ·have L:leafOK zs k=true:=by simp[leafOK,leafP,hz]
   refine agom ?_;(try exact⟨⟩)
   refine⟨⟨k+1,by omega,next L,by rw[←hw];rfl⟩,?_⟩
   show 8- (IntKind.i64.wrap ((k:Int)+1)).toNat<8- (k:Int).toNat
   rw[hw];omega
  ·cases ha:isI ((((zs.take 16).drop (k*2)).take 2).getD 0 0)with
   |false=>
    have L:isT zs=false:=isT_leaf hk8 (by unfold leafOK leafP;rw[decide_eq_false hz,ha];rfl)
    refine agom ?_;(try exact⟨⟩)
    rw[L]
   |true=>
    cases hb:isI ((((zs.take 16).drop (k*2)).take 2).getD 1 0)with
    |false=>
     have L:isT zs=false:=isT_leaf hk8 (by unfold leafOK leafP;rw[decide_eq_false hz,ha,hb];rfl)
     refine agom ?_;(try exact⟨⟩)
     rw[L]
    |true=>
     have L:leafOK zs k=true:=by unfold leafOK leafP;rw[ha,hb];simp
     refine agom ?_;(try exact⟨⟩)
     refine⟨⟨k+1,by omega,next L,by rw[←hw];rfl⟩,?_⟩
     show 8- (IntKind.i64.wrap ((k:Int)+1)).toNat<8- (k:Int).toNat
     rw[hw];omega
 ·obtain rfl:k=8:=by omega
  refine agom ?_;(try exact⟨⟩)
  refine StopL.mk (loop_inv [28,29] 1 (fun s=>∃k:Nat,k≤15∧(∀j<k,nodeOK zs j=true)∧s=⟨[.dead,.dead,.dead,.dead,.dead,.dead,.dead,.dead,.dead,.dead,.dead,.dead,.dead,.dead,.dead,.dead,.dead,.dead,.dead,.dead,.dead,.dead,.dead,.dead,.dead,.dead,.dead,.dead,.d (.agg [.ints .i64 15 ((zs.drop 16).take 15)]),.d (.v (.int .i64 (k:Nat))),.dead,.dead,.dead,.dead,.dead,.dead,.dead,.dead,.dead,.dead,.dead,.dead,.dead,.dead,.dead],[some (.var [.ints .i64 31 zs])]⟩) (fun s=>15-intAt s 29) rfl ⟨0,by omega,fun j hj=>by omega,rfl⟩ ?_)
  clear hk8 hw hk
  rintro s ⟨k,hk,hall2,rfl⟩
  have hw:IntKind.i64.wrap ((k:Int)+1)=((k+1:Nat):Int):=by rw[wrapS (by omega) (by omega)];omega
  by_cases hk15:k<15
  ·have next:nodeOK zs k=true→∀j<k+1,nodeOK zs j=true:=fun h j hj=>by
    by_cases e:j=k
    ·rw[e];exact h
    ·exact hall2 j (by omega)
   by_cases hz:((zs.drop 16).take 15).getD k 0=0
   ·have L:nodeOK zs k=true:=by unfold nodeOK nodeV;rw[hz];rfl
    have hz2:(((zs.drop 16).take 15).getD k 0 !=0)=false:=by rw[hz];rfl
    refine agom ?_;(try exact⟨⟩)
    refine⟨⟨k+1,by omega,next L,by rw[←hw];rfl⟩,?_⟩
    show 15- (IntKind.i64.wrap ((k:Int)+1)).toNat<15- (k:Int).toNat
    rw[hw];omega
   ·have hz':decide (((zs.drop 16).take 15).getD k 0=0)=false:=decide_eq_false hz
    have hz2:(((zs.drop 16).take 15).getD k 0 !=0)=true:=by rw[bne];rw[beq_eq_false_iff_ne.2 hz];rfl
    cases ha:((k:Int).tmod 2==0)with
    |true=>
     have L:isT zs=false:=isT_node hk15 (by unfold nodeOK nodeV;rw[hz',ha];rfl)
     refine agom ?_;(try exact⟨⟩)
     rw[L]
    |false=>
     cases hb:isI (((zs.drop 16).take 15).getD k 0)with
     |false=>
      have L:isT zs=false:=isT_node hk15 (by unfold nodeOK nodeV;rw[hz',hb];simp)
      refine agom ?_;(try exact⟨⟩)
      rw[L]
     |true=>
      have L:nodeOK zs k=true:=by unfold nodeOK nodeV;rw[hz',ha,hb];rfl
      refine agom ?_;(try exact⟨⟩)
      refine⟨⟨k+1,by omega,next L,by rw[←hw];rfl⟩,?_⟩
      show 15- (IntKind.i64.wrap ((k:Int)+1)).toNat<15- (k:Int).toNat
      rw[hw];omega
  ·obtain rfl:k=15:=by omega
   have L:isT zs=true:=isT_all hall hall2
   refine agom ?_;(try exact⟨⟩)
   rw[L]
end
section
open Pm
attribute [local irreducible] condK LoopA regA
noncomputable def env15a:EnvX:=env12
theorem leafP_eq(zs:List Int){k:Nat}(hk:k<8):leafP zs k=(zs.drop (k*2)).take 2:=by
 unfold leafP
 rw[List.drop_take,List.take_take]
 congr 1;omega
theorem nodeV_eq(zs:List Int){k:Nat}(hk:k<15):nodeV zs k=zs.getD (16+k) 0:=by
 unfold nodeV
 simp[List.getD_eq_getElem?_getD,List.getElem?_take,hk]
end
section
open Pm
attribute [local irreducible] condK LoopA regA
def isTS:List A→(Res→Prop)→Prop
 |[.agg [.ints .i64 31 zs]],K=>K (.d (.v (.bool (isT zs))))
 |_,_=>False
theorem isTS_ok{f:FuncId}(hx:∀zs,FnO f [.agg [.ints .i64 31 zs]] (.d (.v (.bool (isT zs))))):∀args K,isTS args K→∃r,FnO f args r∧K r:=by
 intro args K h
 unfold isTS at h
 split at h
 ·exact⟨_,hx _,h⟩
 ·exact h.elim
theorem i4:isI 4=true:=by
 have h:=isI_four 1 (by decide) (by decide)
 have e:((pw 4 1:Nat):Int)=4:=by rw[pw_def];rfl
 rw[e]at h;exact h
theorem i0:isI 0=false:=by simp[isI]
end
section
open Pm
attribute [local irreducible] condK LoopA regA
noncomputable def env16:EnvX:=env15a
theorem leafP_set(zs:List Int){i m:Nat}{x:Int}(hi:i<8)(hm:16≤m):leafP (zs.set m x) i=leafP zs i:=by
 unfold leafP
 rw[List.take_set_of_le hm]
end
end Go.Proofs.YtbdmnobocecnfaaGreatDoor
