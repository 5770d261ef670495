/-
  Ladders: secrets up a path.
-/
import Derived.Test.YtbdmnobocecnfaaGreatDoorJ17
import Derived.Test.YtbdmnobocecnfaaGreatDoorJ14
namespace Go.Proofs.YtbdmnobocecnfaaGreatDoor
set_option linter.unusedVariables false
set_option linter.unusedSimpArgs false
set_option maxRecDepth 100000
open Go.RowKit
section
open Pm
attribute [local irreducible] condK LoopA regA
noncomputable def envL1:EnvX:=((((env16.add 34 deriveS deriveS_ok ⟨_,Tryz.func34,by kernel_rfl,by kernel_rfl⟩).add 17 rderiveS rderiveS_ok ⟨_,Tryz.func17,by kernel_rfl,by kernel_rfl⟩).add
 74 fromS fromS_ok ⟨_,Tryz.func74,by kernel_rfl,by kernel_rfl⟩).add 36 rfromS rfromS_ok ⟨_,Tryz.func36,by kernel_rfl,by kernel_rfl⟩).addM
 55 publicS publicS_ok ⟨_,Tryz.func55,by kernel_rfl,by kernel_rfl⟩
def nextW(h:List UInt8):List UInt8:=deriveW h (sb ⟨#[112,97,116,104]⟩) []
def nodeW(h:List UInt8):List UInt8:=deriveW h (sb ⟨#[110,111,100,101]⟩) []
theorem nextW_len(h:List UInt8):(nextW h).length=32:=sumW_length _
def nextS:List A→(Res→Prop)→Prop
 |[.agg [.bytes 32 h]],K=>K (.d (.agg [.bytes 32 (nextW h)]))
 |_,_=>False
theorem nextS_of{f:FuncId}(hx:∀h,FnO f [.agg [.bytes 32 h]] (.d (.agg [.bytes 32 (nextW h)]))):∀args K,nextS args K→∃r,FnO f args r∧K r:=by
 intro args K h
 unfold nextS at h
 split at h
 ·exact⟨_,hx _,h⟩
 ·exact h.elim
set_option maxHeartbeats 4000000 in
theorem next_ok(h:List UInt8):FnO 162 [.agg [.bytes 32 h]] (.d (.agg [.bytes 32 (nextW h)])):=by
 refine fnA (E:=envL1) Tryz.func162 Tryz.ntmps162 ?_
 refine ago ?_;(try exact⟨⟩)
 rfl
noncomputable def envL2:EnvX:=(envL1.add 162 nextS (nextS_of next_ok) ⟨_,Tryz.func162,by kernel_rfl,by kernel_rfl⟩)
def nodeS8:List A→(Res→Prop)→Prop
 |[.agg [.bytes 32 h]],K=>K (.p (.obj (KeyP (scal (nodeW h)))))
 |_,_=>False
theorem nodeS8_ok:∀args K,nodeS8 args K→∃r,FnO 56 args r∧K r:=by
 intro args K h
 unfold nodeS8 at h
 split at h
 ·refine⟨_,?_,h⟩
  refine fnA (E:=envL1) Tryz.func56 Tryz.ntmps56 ?_
  refine ago ?_;(try exact⟨⟩)
  rfl
 ·exact h.elim
def rnodeS8:List A→(Res→Prop)→Prop
 |[.agg [.bytes 32 h]],K=>K (.d (.agg [.ints .i64 2 [scal (nodeW h),powI 4 (scal (nodeW h))]]))
 |_,_=>False
theorem rnodeS8_ok:∀args K,rnodeS8 args K→∃r,FnO 15 args r∧K r:=by
 intro args K h
 unfold rnodeS8 at h
 split at h
 ·refine⟨_,?_,h⟩
  refine fnA (E:=envL1) Tryz.func15 Tryz.ntmps15 ?_
  refine ago ?_;(try exact⟨⟩)
  rfl
 ·exact h.elim
noncomputable def envL3:EnvX:=(envL2.add 56 nodeS8 nodeS8_ok ⟨_,Tryz.func56,by kernel_rfl,by kernel_rfl⟩).add 15 rnodeS8 rnodeS8_ok ⟨_,Tryz.func15,by kernel_rfl,by kernel_rfl⟩
def upW(h:List UInt8):List UInt8:=nextW h++(nextW (nextW h)++nextW (nextW (nextW h)))
def upS8:List A→(Res→Prop)→Prop
 |[.agg [.bytes 32 h]],K=>K (.t [.agg [.bytes 96 (upW h)],.agg [.bytes 32 (nextW (nextW (nextW (nextW h))))]])
 |_,_=>False
set_option maxHeartbeats 4000000 in
theorem upS8_ok:∀args K,upS8 args K→∃r,FnO 120 args r∧K r:=by
 intro args K h
 unfold upS8 at h
 split at h
 ·refine⟨_,?_,h⟩
  refine fnA (E:=envL3) Tryz.func120 Tryz.ntmps120 ?_
  refine ago ?_;(try exact⟨⟩)
  refine StopL.mk (loop_unroll 4 ?_)
  refine ago ?_;(try exact⟨⟩)
  simp[upW,List.take_append,List.drop_append,nextW_len,List.take_of_length_le,List.drop_of_length_le]
 ·exact h.elim
end
section
open Pm
attribute [local irreducible] condK LoopA regA
def skipB(bt:List Bool)(n:Int):Bool:=decide (n.tmod 2=0)&&bt.getD (n.tdiv 2).toNat false
def isOfS:List A→(Res→Prop)→Prop
 |[.v (.int .i64 n),.agg [.bools 8 bt]],K=>0≤n∧n<15∧K (.d (.v (.bool (skipB bt n))))
 |_,_=>False
theorem isOf_ok(n:Int)(bt:List Bool)(h0:0≤n)(h1:n<15):FnO 165 [.v (.int .i64 n),.agg [.bools 8 bt]] (.d (.v (.bool (skipB bt n)))):=by
 refine fnA (E:=envL3) Tryz.func165 Tryz.ntmps165 ?_
 have hw:IntKind.i64.wrap (n.tdiv 2)=n.tdiv 2:=wrapS (by rw[Int.tdiv_eq_ediv_of_nonneg h0];omega) (by rw[Int.tdiv_eq_ediv_of_nonneg h0];omega)
 have hb:0≤IntKind.i64.wrap (n.tdiv 2)∧IntKind.i64.wrap (n.tdiv 2)<8:=by rw[hw,Int.tdiv_eq_ediv_of_nonneg h0];omega
 obtain⟨hb0,hb1⟩:=hb
 cases he:(n.tmod 2==0)with
 |true=>
  refine ago ?_;(try exact⟨⟩)
  have:n.tmod 2=0:=by simpa using he
  simp[skipB,this,hw]
 |false=>
  refine ago ?_;(try exact⟨⟩)
  have:n.tmod 2≠0:=by simpa using he
  simp[skipB,this]
theorem isOfS_ok:∀args K,isOfS args K→∃r,FnO 165 args r∧K r:=by
 intro args K h
 unfold isOfS at h
 split at h
 ·exact⟨_,isOf_ok _ _ h.1 h.2.1,h.2.2⟩
 ·exact h.elim
def sideLS:List A→(Res→Prop)→Prop
 |[.v (.int .i64 x)],K=>K (.d (.agg [.ints .i64 3 (sideL x)]))
 |_,_=>False
theorem sideLS_ok:∀args K,sideLS args K→∃r,FnO 163 args r∧K r:=by
 intro args K h
 unfold sideLS at h
 split at h
 ·exact⟨_,side_ok _,h⟩
 ·exact h.elim
noncomputable def envL4:EnvX:=(envL3.add 165 isOfS isOfS_ok ⟨_,Tryz.func165,by kernel_rfl,by kernel_rfl⟩).add 163 sideLS sideLS_ok ⟨_,Tryz.func163,by kernel_rfl,by kernel_rfl⟩
def flat2:List (Int×Int)→List Int
 |[]=>[]
 |p::l=>p.1::p.2::flat2 l
theorem flat2_append:∀(l m:List (Int×Int)),flat2 (l++m)=flat2 l++flat2 m
 |[],m=>rfl
 |p::l,m=>by simp[flat2,flat2_append l m]
def pairsK(bt:List Bool)(k:Int)(r:List Int):List (Int×Int):=(r.filter fun m=>!skipB bt m).map fun m=>(k,m)
theorem pairsK_len(bt:List Bool)(k:Int)(r:List Int):(pairsK bt k r).length≤r.length:=by
 unfold pairsK;rw[List.length_map];exact List.length_filter_le _ _
theorem pairsK_step(bt:List Bool)(k:Int)(r:List Int)(j:Nat)(hj:j<r.length):pairsK bt k (r.take (j+1))=pairsK bt k (r.take j)++(if skipB bt (r.getD j 0)=true then[]else[(k,r.getD j 0)]):=by
 unfold pairsK
 rw[List.take_succ_eq_append_getElem hj,List.filter_append,List.map_append]
 congr 1
 have e:r.getD j 0=r[j]:=by simp[List.getD_eq_getElem?_getD,hj]
 rw[e]
 cases h:skipB bt r[j]<;>simp[h]
def planTo(zs:List Int)(bt:List Bool)(x:Int):Nat→List (Int×Int)
 |0=>[]
 |k+1=>planTo zs bt x k++pairsK bt k (resF 3 zs ((sideL x).getD k 0))
theorem planTo_len(zs:List Int)(bt:List Bool)(x:Int):∀k,(planTo zs bt x k).length≤8*k
 |0=>by simp[planTo]
 |k+1=>by
  have h1:=planTo_len zs bt x k
  have h2:=pairsK_len bt k (resF 3 zs ((sideL x).getD k 0))
  have h3:=Nat.le_trans (resF_len zs 3 ((sideL x).getD k 0)) (show 2^3≤8 by decide)
  rw[planTo,List.length_append]
  omega
def planL(zs:List Int)(x:Int)(bt:List Bool):List (Int×Int):=if leafB x=true then planTo zs bt x 3 else[]
theorem resF_node(zs:List Int):∀(d:Nat) (n m:Int),m∈resF d zs n→0≤m∧m<15
 |0,n,m,h=>by
  unfold resF at h
  split at h
  ·simp at h
  ·next hk=>
   simp at h;subst h
   apply Decidable.byContradiction
   intro hn
   exact hk (by simp only[keyZ];rw[if_neg hn])
 |d+1,n,m,h=>by
  unfold resF at h
  split at h
  ·split at h
   ·rcases List.mem_append.1 h with h|h
    ·exact resF_node zs d _ m h
    ·exact resF_node zs d _ m h
   ·simp at h
  ·next hk=>
   simp at h;subst h
   apply Decidable.byContradiction
   intro hn
   exact hk (by simp only[keyZ];rw[if_neg hn])
set_option maxHeartbeats 16000000 in
theorem plan_ok(zs:List Int)(x:Int)(bt:List Bool):FnO 121 [.agg [.ints .i64 31 zs],.v (.int .i64 x),.agg [.bools 8 bt]] (.o 201 2 (planL zs x bt).length [.ints .i64 ((planL zs x bt).length*2) (flat2 (planL zs x bt))]):=by
 by_cases hx:leafB x=true
 ·have e:planL zs x bt=planTo zs bt x 3:=if_pos hx
  rw[e]
  clear e
  obtain⟨hx0,hx1⟩:=leafB_t hx
  refine fnA (E:=envL4) Tryz.func121 Tryz.ntmps121 ?_
  clear hx
  refine agom ?_;(try exact⟨⟩)
  refine StopL.mk (loop_nil [3,5,7,19,20] 2 7 201 2 [.ints .i64 0 []] (fun s=>∃k:Nat,k≤3∧s=⟨[.dead,.dead,.dead,.ptr 0 0,.dead,.ptr 1 0,.dead,.own 2 (planTo zs bt x k).length,.dead,.dead,.dead,.dead,.dead,.dead,.dead,.dead,.dead,.dead,.dead,.d (.agg [.ints .i64 3 (sideL x)]),.d (.v (.int .i64 (k:Nat))),.dead,.dead,.dead,.dead,.dead,.dead,.dead,.dead,.dead,.dead,.dead,.dead,.dead,.dead,.dead,.dead,.dead,.dead,.dead,.dead,.dead,.dead,.dead,.dead],[some (.var [.ints .i64 31 zs]),some (.var [.bools 8 bt]),some (.sl 201 2 (planTo zs bt x k).length [.ints .i64 ((planTo zs bt x k).length*2) (flat2 (planTo zs bt x k))])]⟩) (fun s=>3-intAt s 20) rfl rfl rfl rfl ⟨0,by omega,rfl⟩ ?_)
  rintro s ⟨k,hk,rfl⟩
  have hw:IntKind.i64.wrap ((k:Int)+1)=((k+1:Nat):Int):=by rw[wrapS (by omega) (by omega)];omega
  by_cases hk3:k<3
  ·have O:okD 3 ((sideL x).getD k 0)=true:=by simp[okD]
   have L:=Nat.le_trans (resF_len zs 3 ((sideL x).getD k 0)) (show 2^3≤8 by decide)
   have P:=planTo_len zs bt x k
   refine agom ?_;(try exact⟨⟩)
   have hnode:∀m∈resF 3 zs ((sideL x).getD k 0),0≤m∧m<15:=fun m=>resF_node zs 3 _ m
   generalize hr:resF 3 zs ((sideL x).getD k 0)=r at*
   refine StopL.mk (loop_inv [3,5,7,8,19,20,26,27,28] 4 (fun s=>∃j:Nat,j≤r.length∧s=⟨[.dead,.dead,.dead,.ptr 0 0,.dead,.ptr 1 0,.dead,.own 2 (planTo zs bt x k++pairsK bt k (r.take j)).length,.d (.v (.int .i64 (k:Nat))),.dead,.dead,.dead,.dead,.dead,.dead,.dead,.dead,.dead,.dead,.d (.agg [.ints .i64 3 (sideL x)]),.d (.v (.int .i64 (k:Nat))),.dead,.dead,.dead,.dead,.dead,.own 3 r.length,.d (.v (.int .i64 r.length)),.d (.v (.int .i64 (j:Nat))),.dead,.dead,.dead,.dead,.dead,.dead,.dead,.dead,.dead,.dead,.dead,.dead,.dead,.dead,.dead,.dead],[some (.var [.ints .i64 31 zs]),some (.var [.bools 8 bt]),some (.sl 201 2 (planTo zs bt x k++pairsK bt k (r.take j)).length [.ints .i64 ((planTo zs bt x k++pairsK bt k (r.take j)).length*2) (flat2 (planTo zs bt x k++pairsK bt k (r.take j)))]),some (.sl 3 1 r.length [.ints .i64 r.length r])]⟩) (fun s=>r.length-intAt s 28) rfl ⟨0,by omega,by rw[List.take_zero,show pairsK bt k []=[]from rfl,List.append_nil];rfl⟩ ?_)
   rintro s ⟨j,hj,rfl⟩
   have hwj:IntKind.i64.wrap ((j:Int)+1)=((j+1:Nat):Int):=by rw[wrapS (by omega) (by omega)];omega
   by_cases hj2:j<r.length
   ·have hs:=pairsK_step bt k r j hj2
    obtain⟨n0,n1⟩:=hnode (r.getD j 0) (by rw[List.getD_eq_getElem?_getD,List.getElem?_eq_getElem hj2];simp)
    have hl:(planTo zs bt x k++pairsK bt k (r.take j)).length≤100:=by
     have:=pairsK_len bt k (r.take j)
     rw[List.length_append];rw[List.length_take]at this;omega
    cases hu:skipB bt (r.getD j 0)with
    |true=>
     rw[hu,if_pos rfl,List.append_nil]at hs
     clear hnode P
     refine agom ?_;(try exact⟨⟩)
     refine⟨⟨j+1,by omega,by rw[hs,←hwj];rfl⟩,?_⟩
     show r.length- (IntKind.i64.wrap ((j:Int)+1)).toNat<r.length- (j:Int).toNat
     rw[hwj];omega
    |false=>
     rw[hu,if_neg (by simp)]at hs
     rw[←List.append_cancel_left_eq (planTo zs bt x k),←List.append_assoc]at hs
     generalize planTo zs bt x k++pairsK bt k (r.take j)=q at*
     clear hnode P
     refine agom ?_;(try exact⟨⟩)
     refine⟨⟨j+1,by omega,by rw[hs,flat2_append,List.length_append,Nat.add_mul,←hwj];rfl⟩,?_⟩
     show r.length- (IntKind.i64.wrap ((j:Int)+1)).toNat<r.length- (j:Int).toNat
     rw[hwj];omega
   ·have hj3:r.take j=r:=List.take_of_length_le (by omega)
    rw[hj3]
    have hs:planTo zs bt x (k+1)=planTo zs bt x k++pairsK bt k r:=by rw[planTo,hr]
    rw[←hs]
    clear hnode P
    refine agom ?_;(try exact⟨⟩)
    refine⟨⟨k+1,by omega,by rw[←hw];rfl⟩,?_⟩
    show 3- (IntKind.i64.wrap ((k:Int)+1)).toNat<3- (k:Int).toNat
    rw[hw];omega
  ·obtain rfl:k=3:=by omega
   refine agom ?_;(try exact⟨⟩)
 ·have e:planL zs x bt=[]:=if_neg hx
  rw[e]
  refine fnNil ?_ rfl
  refine fnA (E:=envL4) Tryz.func121 Tryz.ntmps121 ?_
  clear e
  by_cases h0:x<0
  ·clear hx
   refine ago ?_;(try exact⟨⟩)
  ·have h1:x≥8:=by
    apply Decidable.byContradiction
    intro h
    exact hx (by simp[leafB];omega)
   clear hx
   refine ago ?_;(try exact⟨⟩)
end
section
open Pm
attribute [local irreducible] condK LoopA regA
def idxG(xs:List Int)(v:Int):Int:=if v∈xs then(xs.idxOf v:Nat)else -1
def idxGS:List A→(Res→Prop)→Prop
 |[.row n [.ints .i64 n' xs],.v (.int .i64 v)],K=>n=xs.length∧n'=xs.length∧xs.length≤1000000∧K (.d (.v (.int .i64 (idxG xs v))))
 |_,_=>False
theorem idxOf_at {xs : List Int} {v : Int} {k : Nat} (hk : k < xs.length) (h : xs.getD k 0 = v) (hn : ∀ j < k, xs.getD j 0 ≠ v) : idxG xs v = (k : Nat) := by
  have e : xs[k] = v := by simpa [List.getD_eq_getElem?_getD, hk] using h
  have hm : v ∈ xs := e ▸ List.getElem_mem hk
  have hi : xs.idxOf v < xs.length := List.idxOf_lt_length_of_mem hm
  have hv : xs[xs.idxOf v] = v := List.getElem_idxOf hi
  have h1 : ¬ xs.idxOf v < k := fun h' => hn _ h' (by rw [List.getD_eq_getElem?_getD, List.getElem?_eq_getElem hi]; exact hv)
  have h2 : ¬ k < xs.idxOf v := fun h' => by
    have := List.not_of_lt_findIdx (xs := xs) (p := (· == v)) (i := k) (by unfold List.idxOf at h'; exact h')
    simp [e] at this
  unfold idxG
  rw [if_pos hm, show xs.idxOf v = k by omega]
theorem idxOf_none{xs:List Int}{v:Int}(hn:∀j<xs.length,xs.getD j 0≠v):idxG xs v= -1:=by
 unfold idxG
 rw[if_neg]
 intro h
 obtain⟨i,hi,e⟩:=List.getElem_of_mem h
 exact hn i hi (by simpa[List.getD_eq_getElem?_getD,hi]using e)
set_option maxHeartbeats 4000000 in
theorem idxG_ok(xs:List Int)(v:Int)(hl:xs.length≤1000000):FnO 173 [.row xs.length [.ints .i64 xs.length xs],.v (.int .i64 v)] (.d (.v (.int .i64 (idxG xs v)))):=by
 refine fnA (E:=env0) Tryz.func173 Tryz.ntmps173 ?_
 refine agom ?_;(try exact⟨⟩)
 refine StopL.mk (loop_inv [0,1,7,8] 1 (fun s=>∃k:Nat,k≤xs.length∧(∀j<k,xs.getD j 0≠v)∧s=⟨[.d (.row xs.length [.ints .i64 xs.length xs]),.d (.v (.int .i64 v)),.dead,.dead,.dead,.dead,.dead,.d (.v (.int .i64 xs.length)),.d (.v (.int .i64 (k:Nat))),.dead,.dead,.dead,.dead,.dead,.dead,.dead,.dead,.dead,.dead],[]⟩) (fun s=>xs.length-intAt s 8) rfl ⟨0,by omega,by intro j hj;omega,rfl⟩ ?_)
 rintro s ⟨k,hk,hj,rfl⟩
 have hw:IntKind.i64.wrap ((k:Int)+1)=((k+1:Nat):Int):=by rw[wrapS (by omega) (by omega)];omega
 by_cases hk2:k<xs.length
 ·by_cases he:xs.getD k 0=v
  ·have h1:=idxOf_at hk2 he hj
   have he1:(v==xs.getD k 0)=true:=by rw[he];simp
   rw[h1]
   clear he hj h1
   refine agom ?_;(try exact⟨⟩)
  ·have he1:(v==xs.getD k 0)=false:=by simpa using fun h=>he h.symm
   refine agom ?_;(try exact⟨⟩)
   refine⟨⟨k+1,by omega,fun j hj2=>?_,by rw[←hw];rfl⟩,?_⟩
   ·rcases Nat.lt_or_eq_of_le (Nat.le_of_lt_succ hj2)with h|rfl
    ·exact hj j h
    ·exact he
   ·show xs.length- (IntKind.i64.wrap ((k:Int)+1)).toNat<xs.length- (k:Int).toNat
    rw[hw];omega
 ·have h1:=idxOf_none (xs:=xs) (v:=v) fun j hj2=>hj j (by omega)
  rw[h1]
  clear hj h1
  refine agom ?_;(try exact⟨⟩)
theorem idxGS_ok:∀args K,idxGS args K→∃r,FnO 173 args r∧K r:=by
 intro args K h
 unfold idxGS at h
 split at h
 ·obtain⟨rfl,rfl,h1,h⟩:=h
  exact⟨_,idxG_ok _ _ h1,h⟩
 ·exact h.elim
noncomputable def envV1:EnvX:=env16.add 173 idxGS idxGS_ok ⟨_,Tryz.func173,by kernel_rfl,by kernel_rfl⟩
def hasGS:List A→(Res→Prop)→Prop
 |[.row n [.ints .i64 n' xs],.v (.int .i64 v)],K=>n=xs.length∧n'=xs.length∧xs.length≤1000000∧K (.d (.v (.bool (decide (v∈xs)))))
 |_,_=>False
theorem hasG_ok(xs:List Int)(v:Int)(hl:xs.length≤1000000):FnO 192 [.row xs.length [.ints .i64 xs.length xs],.v (.int .i64 v)] (.d (.v (.bool (decide (v∈xs))))):=by
 refine fnA (E:=envV1) Tryz.func192 Tryz.ntmps192 ?_
 refine ago ?_;(try exact⟨⟩)
 have:decide (idxG xs v≥0)=decide (v∈xs):=by
  unfold idxG
  by_cases h:v∈xs
  ·rw[if_pos h];simp[h]
  ·rw[if_neg h];simp[h]
 rw[this]
theorem hasGS_ok:∀args K,hasGS args K→∃r,FnO 192 args r∧K r:=by
 intro args K h
 unfold hasGS at h
 split at h
 ·obtain⟨rfl,rfl,h1,h⟩:=h
  exact⟨_,hasG_ok _ _ h1,h⟩
 ·exact h.elim
def memL(zs:List Int)(k:Nat):Bool:=decide (leafP zs k≠[0,0])
def memTo(zs:List Int):Nat→List Int
 |0=>[]
 |k+1=>memTo zs k++(if memL zs k=true then[(k:Int)]else[])
theorem memTo_len(zs:List Int):∀k,(memTo zs k).length≤k
 |0=>by simp[memTo]
 |k+1=>by
  have:=memTo_len zs k
  rw[memTo,List.length_append]
  split<;>simp<;>omega
theorem memTo_mem(zs:List Int):∀(k:Nat) (i:Int),i∈memTo zs k↔0≤i∧i<k∧memL zs i.toNat=true
 |0,i=>by simp[memTo];omega
 |k+1,i=>by
  rw[memTo,List.mem_append,memTo_mem zs k i]
  by_cases h:memL zs k=true
  ·rw[if_pos h,List.mem_singleton]
   constructor
   ·rintro(⟨h1,h2,h3⟩|rfl)
    ·exact⟨h1,by omega,h3⟩
    ·exact⟨by omega,by omega,by simpa using h⟩
   ·rintro⟨h1,h2,h3⟩
    by_cases e:i=k
    ·exact .inr e
    ·exact .inl ⟨h1,by omega,h3⟩
  ·rw[if_neg h]
   constructor
   ·rintro(⟨h1,h2,h3⟩|h4)
    ·exact⟨h1,by omega,h3⟩
    ·simp at h4
   ·rintro⟨h1,h2,h3⟩
    by_cases e:i=k
    ·subst e;simp at h3;exact absurd h3 h
    ·exact .inl ⟨h1,by omega,h3⟩
def memB(zs:List Int)(i:Int):Bool:=leafB i&&memL zs i.toNat
theorem memB_in(zs:List Int)(i:Int):decide (i∈memTo zs 8)=memB zs i:=by
 have:=memTo_mem zs 8 i
 rw[Bool.eq_iff_iff]
 simp[memB,leafB,this]
 constructor
 ·rintro⟨h1,h2,h3⟩;exact⟨⟨h1,by omega⟩,h3⟩
 ·rintro⟨⟨h1,h2⟩,h3⟩;exact⟨h1,by omega,h3⟩
set_option maxHeartbeats 8000000 in
theorem members_ok(zs:List Int):FnO 193 [.agg [.ints .i64 31 zs]] (.o 3 1 (memTo zs 8).length [.ints .i64 (memTo zs 8).length (memTo zs 8)]):=by
 refine fnA (E:=envV1) Tryz.func193 Tryz.ntmps193 ?_
 refine agom ?_;(try exact⟨⟩)
 refine StopL.mk (loop_nil [3,7,8] 1 3 3 1 [.ints .i64 0 []] (fun s=>∃k:Nat,k≤8∧s=⟨[.dead,.dead,.dead,.own 1 (memTo zs k).length,.dead,.dead,.dead,.d (.agg [.ints .i64 16 (zs.take 16)]),.d (.v (.int .i64 (k:Nat))),.dead,.dead,.dead,.dead,.dead,.dead,.dead,.dead,.dead,.dead,.dead,.dead],[some (.var [.ints .i64 31 zs]),some (.sl 3 1 (memTo zs k).length [.ints .i64 (memTo zs k).length (memTo zs k)])]⟩) (fun s=>8-intAt s 8) rfl rfl rfl rfl ⟨0,by omega,rfl⟩ ?_)
 rintro s ⟨k,hk,rfl⟩
 have hw:IntKind.i64.wrap ((k:Int)+1)=((k+1:Nat):Int):=by rw[wrapS (by omega) (by omega)];omega
 by_cases hk8:k<8
 ·have L:=memTo_len zs k
  by_cases hz:((zs.take 16).drop (k*2)).take 2=[0,0]
  ·have hs:memTo zs (k+1)=memTo zs k:=by rw[memTo,if_neg (by simp[memL,leafP,hz]),List.append_nil]
   refine agom ?_;(try exact⟨⟩)
   refine⟨⟨k+1,by omega,by rw[hs,←hw];rfl⟩,?_⟩
   show 8- (IntKind.i64.wrap ((k:Int)+1)).toNat<8- (k:Int).toNat
   rw[hw];omega
  ·have hs:memTo zs (k+1)=memTo zs k++[(k:Int)]:=by rw[memTo,if_pos (by simp[memL,leafP,hz])]
   refine agom ?_;(try exact⟨⟩)
   refine⟨⟨k+1,by omega,by rw[hs,List.length_append,←hw];rfl⟩,?_⟩
   show 8- (IntKind.i64.wrap ((k:Int)+1)).toNat<8- (k:Int).toNat
   rw[hw];omega
 ·obtain rfl:k=8:=by omega
  refine agom ?_;(try exact⟨⟩)
def membersS:List A→(Res→Prop)→Prop
 |[.agg [.ints .i64 31 zs]],K=>K (.o 3 1 (memTo zs 8).length [.ints .i64 (memTo zs 8).length (memTo zs 8)])
 |_,_=>False
theorem membersS_ok:∀args K,membersS args K→∃r,FnO 193 args r∧K r:=by
 intro args K h
 unfold membersS at h
 split at h
 ·exact⟨_,members_ok _,h⟩
 ·exact h.elim
noncomputable def envV2:EnvX:=envV1.add 192 hasGS hasGS_ok ⟨_,Tryz.func192,by kernel_rfl,by kernel_rfl⟩
noncomputable def envV3:EnvX:=envV2.add 193 membersS membersS_ok ⟨_,Tryz.func193,by kernel_rfl,by kernel_rfl⟩
def isMemS:List A→(Res→Prop)→Prop
 |[.agg [.ints .i64 31 zs],.v (.int .i64 i)],K=>K (.d (.v (.bool (memB zs i))))
 |_,_=>False
theorem isMem_ok(zs:List Int)(i:Int):FnO 155 [.agg [.ints .i64 31 zs],.v (.int .i64 i)] (.d (.v (.bool (memB zs i)))):=by
 refine fnA (E:=envV3) Tryz.func155 Tryz.ntmps155 ?_
 have L:(memTo zs 8).length≤1000000:=Nat.le_trans (memTo_len zs 8) (by decide)
 refine ago ?_;(try exact⟨⟩)
 rw[memB_in]
theorem isMemS_ok:∀args K,isMemS args K→∃r,FnO 155 args r∧K r:=by
 intro args K h
 unfold isMemS at h
 split at h
 ·exact⟨_,isMem_ok _ _,h⟩
 ·exact h.elim
def cntB(ad:List Bool):Nat:=ad.countP id
theorem cnt_step(ad:List Bool)(k:Nat)(hk:k<ad.length):cntB (ad.take (k+1))=cntB (ad.take k)+(if ad.getD k false=true then 1 else 0):=by
 unfold cntB
 rw[List.take_succ_eq_append_getElem hk,List.countP_append,List.countP_singleton]
 simp[List.getD_eq_getElem?_getD,hk]
theorem cnt_le(ad:List Bool):cntB ad≤ad.length:=List.countP_le_length
end
section
def segLens:List Seg→Prop
 |[]=>True
 | .ints _ n zs::l=>zs.length=n∧segLens l
 | .bytes n bs::l=>bs.length=n∧segLens l
 | .bools n bs::l=>bs.length=n∧segLens l
 | .gen n asx::l=>asx.length=n∧segLens l
def argLens:List A→Prop
 |[]=>True
 | .agg l::r=>segLens l∧argLens r
 | .row _ l::r=>segLens l∧argLens r
 |_::r=>argLens r
theorem rl_lens{S:Nat→Prop}{w:World}:∀{l:List Seg} {cs:List Value},RL S w l cs→segLens l
 |_,_,.nil=>trivial
 |_,_,.ints h r=>⟨h,rl_lens r⟩
 |_,_,.bytes h r=>⟨h,rl_lens r⟩
 |_,_,.bools h r=>⟨h,rl_lens r⟩
 |_,_,.gen _ h r=>⟨h,rl_lens r⟩
theorem ras_lens{S:Nat→Prop}{w:World}:∀{l:List A} {vs:List Value},RAs S w l vs→argLens l
 |_,_,.nil=>trivial
 |_,_,.cons h r=>by
  have ih:=ras_lens r
  cases h with
  |v=>exact ih
  |agg h=>exact⟨rl_lens h,ih⟩
  |row h=>exact⟨rl_lens h,ih⟩
  |ref=>exact ih
  |sref=>exact ih
  |recs=>exact ih
  |clo=>exact ih
theorem fn_lens{P:Program}{G:Nat→Option (List Seg)}{f:FuncId}{args:List A}{res:Res}(h:argLens args→FnOK P G f args res):FnOK P G f args res:=
 fun S w vs hG ha=>h (ras_lens ha) S w vs hG ha
theorem hb_lens{D:Nat→Prop}{w:World}{r:Nat}{l:List Seg}(h:HB D w r (.var l)):segLens l:=by
 obtain⟨cs,t,_,h⟩:=h
 exact rl_lens h
theorem fnM_lens{P:Program}{G:Nat→Option (List Seg)}{f:FuncId}{pos:Nat}{l:List Seg}{x':Bk}{args:List A}{res:Res}(h:segLens l→argLens args→FnM P G f pos (.var l) args res x'):FnM P G f pos (.var l) args res x':=
 fun S w r vs hr hG hb ha=>h (hb_lens hb) (ras_lens ha) S w r vs hr hG hb ha
end
end Go.Proofs.YtbdmnobocecnfaaGreatDoor
