/-
  Ladders: secrets up a path.
-/
import Derived.Test.YtjdjelopkhjdnaaGreatDoorJ17
import Derived.Test.YtjdjelopkhjdnaaGreatDoorJ14
namespace Go.Proofs.YtjdjelopkhjdnaaGreatDoor
set_option linter.unusedVariables false
set_option linter.unusedSimpArgs false
set_option maxRecDepth 100000
open Go.RowKit
section
open Pm
attribute [local irreducible] aV aZ bQ
noncomputable def Kn:av:=((((aA6.add 23 yD wY ⟨_,Tryz.func23,by kernel_rfl,by kernel_rfl⟩).add 50 rF qo ⟨_,Tryz.func50,by kernel_rfl,by kernel_rfl⟩).add
 79 KA Dl ⟨_,Tryz.func79,by kernel_rfl,by kernel_rfl⟩).add 73 Es Al ⟨_,Tryz.func73,by kernel_rfl,by kernel_rfl⟩).kr
 35 zf sO ⟨_,Tryz.func35,by kernel_rfl,by kernel_rfl⟩
def ak(h:List UInt8):List UInt8:=aF h (sb ⟨#[112,97,116,104]⟩) []
def ay(h:List UInt8):List UInt8:=aF h (sb ⟨#[110,111,100,101]⟩) []
theorem dV(h:List UInt8):(ak h).length=32:=bM _
def Gh:List A→(bP→Prop)→Prop
 |[.agg [.bytes 32 h]],K=>K (.d (.agg [.bytes 32 (ak h)]))
 |_,_=>False
theorem y5{f:FuncId}(hx:∀h,aQ f [.agg [.bytes 32 h]] (.d (.agg [.bytes 32 (ak h)]))):∀args K,Gh args K→∃r,aQ f args r∧K r:=by
 intro args K h
 unfold Gh at h
 split at h
 ·exact⟨_,hx _,h⟩
 ·exact h.elim
set_option maxHeartbeats 4000000 in
theorem Rt(h:List UInt8):aQ 148 [.agg [.bytes 32 h]] (.d (.agg [.bytes 32 (ak h)])):=by
 refine dF (E:=Kn) Tryz.func148 Tryz.ntmps148 ?_
 refine ago ?_;(try exact⟨⟩)
 rfl
theorem L6(h:List UInt8):aQ 102 [.agg [.bytes 32 h]] (.d (.agg [.bytes 32 (ak h)])):=by
 refine dF (E:=Kn) Tryz.func102 Tryz.ntmps102 ?_
 refine ago ?_;(try exact⟨⟩)
 rfl
noncomputable def aZ3:av:=(Kn.add 148 Gh (y5 Rt) ⟨_,Tryz.func148,by kernel_rfl,by kernel_rfl⟩).add 102 Gh (y5 L6) ⟨_,Tryz.func102,by kernel_rfl,by kernel_rfl⟩
def IL:List A→(bP→Prop)→Prop
 |[.agg [.bytes 32 h]],K=>K (.p (.obj (pX (au (ay h)))))
 |_,_=>False
theorem Gi:∀args K,IL args K→∃r,aQ 34 args r∧K r:=by
 intro args K h
 unfold IL at h
 split at h
 ·refine⟨_,?_,h⟩
  refine dF (E:=Kn) Tryz.func34 Tryz.ntmps34 ?_
  refine ago ?_;(try exact⟨⟩)
  rfl
 ·exact h.elim
def zn:List A→(bP→Prop)→Prop
 |[.agg [.bytes 32 h]],K=>K (.d (.agg [.ints .i64 2 [au (ay h),aA 4 (au (ay h))]]))
 |_,_=>False
theorem xR:∀args K,zn args K→∃r,aQ 26 args r∧K r:=by
 intro args K h
 unfold zn at h
 split at h
 ·refine⟨_,?_,h⟩
  refine dF (E:=Kn) Tryz.func26 Tryz.ntmps26 ?_
  refine ago ?_;(try exact⟨⟩)
  rfl
 ·exact h.elim
noncomputable def Ko:av:=(aZ3.add 34 IL Gi ⟨_,Tryz.func34,by kernel_rfl,by kernel_rfl⟩).add 26 zn xR ⟨_,Tryz.func26,by kernel_rfl,by kernel_rfl⟩
def fJ(h:List UInt8):List UInt8:=ak h++(ak (ak h)++ak (ak (ak h)))
def Vv:List A→(bP→Prop)→Prop
 |[.agg [.bytes 32 h]],K=>K (.t [.agg [.bytes 96 (fJ h)],.agg [.bytes 32 (ak (ak (ak (ak h))))]])
 |_,_=>False
set_option maxHeartbeats 4000000 in
theorem ax8:∀args K,Vv args K→∃r,aQ 78 args r∧K r:=by
 intro args K h
 unfold Vv at h
 split at h
 ·refine⟨_,?_,h⟩
  refine dF (E:=Ko) Tryz.func78 Tryz.ntmps78 ?_
  refine ago ?_;(try exact⟨⟩)
  refine aM.mk (aB 4 ?_)
  refine ago ?_;(try exact⟨⟩)
  simp[fJ,List.take_append,List.drop_append,dV,List.take_of_length_le,List.drop_of_length_le]
 ·exact h.elim
theorem Mi:∀args K,Vv args K→∃r,aQ 45 args r∧K r:=by
 intro args K h
 unfold Vv at h
 split at h
 ·refine⟨_,?_,h⟩
  refine dF (E:=Ko) Tryz.func45 Tryz.ntmps45 ?_
  refine ago ?_;(try exact⟨⟩)
  simp[fJ,List.take_append,List.drop_append,dV,List.take_of_length_le,List.drop_of_length_le]
 ·exact h.elim
end
section
open Pm
attribute [local irreducible] aV aZ bQ
def mD(bt:List Bool)(n:Int):Bool:=decide (n.tmod 2=0)&&bt.getD (n.tdiv 2).toNat false
def Y4:List A→(bP→Prop)→Prop
 |[.v (.int .i64 n),.agg [.bools 8 bt]],K=>0≤n∧n<15∧K (.d (.v (.bool (mD bt n))))
 |_,_=>False
theorem aq2(n:Int)(bt:List Bool)(h0:0≤n)(h1:n<15):aQ 131 [.v (.int .i64 n),.agg [.bools 8 bt]] (.d (.v (.bool (mD bt n)))):=by
 refine dF (E:=Ko) Tryz.func131 Tryz.ntmps131 ?_
 have hw:IntKind.i64.wrap (n.tdiv 2)=n.tdiv 2:=dM (by rw[Int.tdiv_eq_ediv_of_nonneg h0];omega) (by rw[Int.tdiv_eq_ediv_of_nonneg h0];omega)
 have hb:0≤IntKind.i64.wrap (n.tdiv 2)∧IntKind.i64.wrap (n.tdiv 2)<8:=by rw[hw,Int.tdiv_eq_ediv_of_nonneg h0];omega
 obtain⟨hb0,hb1⟩:=hb
 cases he:(n.tmod 2==0)with
 |true=>
  refine ago ?_;(try exact⟨⟩)
  have:n.tmod 2=0:=by simpa using he
  simp[mD,this,hw]
 |false=>
  refine ago ?_;(try exact⟨⟩)
  have:n.tmod 2≠0:=by simpa using he
  simp[mD,this]
theorem Y5:∀args K,Y4 args K→∃r,aQ 131 args r∧K r:=by
 intro args K h
 unfold Y4 at h
 split at h
 ·exact⟨_,aq2 _ _ h.1 h.2.1,h.2.2⟩
 ·exact h.elim
def Aq:List A→(bP→Prop)→Prop
 |[.v (.int .i64 x)],K=>K (.d (.agg [.ints .i64 3 (dD x)]))
 |_,_=>False
theorem Vi:∀args K,Aq args K→∃r,aQ 129 args r∧K r:=by
 intro args K h
 unfold Aq at h
 split at h
 ·exact⟨_,Sg _,h⟩
 ·exact h.elim
noncomputable def aB4:av:=(Ko.add 131 Y4 Y5 ⟨_,Tryz.func131,by kernel_rfl,by kernel_rfl⟩).add 129 Aq Vi ⟨_,Tryz.func129,by kernel_rfl,by kernel_rfl⟩
def bF:List (Int×Int)→List Int
 |[]=>[]
 |p::l=>p.1::p.2::bF l
theorem oq:∀(l m:List (Int×Int)),bF (l++m)=bF l++bF m
 |[],m=>rfl
 |p::l,m=>by simp[bF,oq l m]
def dX(bt:List Bool)(k:Int)(r:List Int):List (Int×Int):=(r.filter fun m=>!mD bt m).map fun m=>(k,m)
theorem xJ(bt:List Bool)(k:Int)(r:List Int):(dX bt k r).length≤r.length:=by
 unfold dX;rw[List.length_map];exact List.length_filter_le _ _
theorem Bb(bt:List Bool)(k:Int)(r:List Int)(j:Nat)(hj:j<r.length):dX bt k (r.take (j+1))=dX bt k (r.take j)++(if mD bt (r.getD j 0)=true then[]else[(k,r.getD j 0)]):=by
 unfold dX
 rw[List.take_succ_eq_append_getElem hj,List.filter_append,List.map_append]
 congr 1
 have e:r.getD j 0=r[j]:=by simp[List.getD_eq_getElem?_getD,hj]
 rw[e]
 cases h:mD bt r[j]<;>simp[h]
def bA(zs:List Int)(bt:List Bool)(x:Int):Nat→List (Int×Int)
 |0=>[]
 |k+1=>bA zs bt x k++dX bt k (dI 3 zs ((dD x).getD k 0))
theorem sN(zs:List Int)(bt:List Bool)(x:Int):∀k,(bA zs bt x k).length≤8*k
 |0=>by simp[bA]
 |k+1=>by
  have h1:=sN zs bt x k
  have h2:=xJ bt k (dI 3 zs ((dD x).getD k 0))
  have h3:=Nat.le_trans (mo zs 3 ((dD x).getD k 0)) (show 2^3≤8 by decide)
  rw[bA,List.length_append]
  omega
def aR(zs:List Int)(x:Int)(bt:List Bool):List (Int×Int):=if aG x=true then bA zs bt x 3 else[]
theorem oN(zs:List Int):∀(d:Nat) (n m:Int),m∈dI d zs n→0≤m∧m<15
 |0,n,m,h=>by
  unfold dI at h
  split at h
  ·simp at h
  ·next hk=>
   simp at h;subst h
   apply Decidable.byContradiction
   intro hn
   exact hk (by simp only[bB];rw[if_neg hn])
 |d+1,n,m,h=>by
  unfold dI at h
  split at h
  ·split at h
   ·rcases List.mem_append.1 h with h|h
    ·exact oN zs d _ m h
    ·exact oN zs d _ m h
   ·simp at h
  ·next hk=>
   simp at h;subst h
   apply Decidable.byContradiction
   intro hn
   exact hk (by simp only[bB];rw[if_neg hn])
set_option maxHeartbeats 16000000 in
theorem RI(zs:List Int)(x:Int)(bt:List Bool):aQ 62 [.agg [.ints .i64 31 zs],.v (.int .i64 x),.agg [.bools 8 bt]] (.o 119 2 (aR zs x bt).length [.ints .i64 ((aR zs x bt).length*2) (bF (aR zs x bt))]):=by
 by_cases hx:aG x=true
 ·have e:aR zs x bt=bA zs bt x 3:=if_pos hx
  rw[e]
  clear e
  obtain⟨hx0,hx1⟩:=cZ hx
  refine dF (E:=aB4) Tryz.func62 Tryz.ntmps62 ?_
  clear hx
  refine aX ?_;(try exact⟨⟩)
  refine aM.mk (DT [3,5,7,19,20] 2 7 119 2 [.ints .i64 0 []] (fun s=>∃k:Nat,k≤3∧s=⟨[.ah,.ah,.ah,.ptr 0 0,.ah,.ptr 1 0,.ah,.own 2 (bA zs bt x k).length,.ah,.ah,.ah,.ah,.ah,.ah,.ah,.ah,.ah,.ah,.ah,.d (.agg [.ints .i64 3 (dD x)]),.d (.v (.int .i64 (k:Nat))),.ah,.ah,.ah,.ah,.ah,.ah,.ah,.ah,.ah,.ah,.ah,.ah,.ah,.ah,.ah,.ah,.ah,.ah,.ah,.ah,.ah,.ah,.ah,.ah],[some (.var [.ints .i64 31 zs]),some (.var [.bools 8 bt]),some (.sl 119 2 (bA zs bt x k).length [.ints .i64 ((bA zs bt x k).length*2) (bF (bA zs bt x k))])]⟩) (fun s=>3-lM s 20) rfl rfl rfl rfl ⟨0,by omega,rfl⟩ ?_)
  rintro s ⟨k,hk,rfl⟩
  have hw:IntKind.i64.wrap ((k:Int)+1)=((k+1:Nat):Int):=by rw[dM (by omega) (by omega)];omega
  by_cases hk3:k<3
  ·have O:okD 3 ((dD x).getD k 0)=true:=by simp[okD]
   have L:=Nat.le_trans (mo zs 3 ((dD x).getD k 0)) (show 2^3≤8 by decide)
   have P:=sN zs bt x k
   refine aX ?_;(try exact⟨⟩)
   have AP:∀m∈dI 3 zs ((dD x).getD k 0),0≤m∧m<15:=fun m=>oN zs 3 _ m
   generalize hr:dI 3 zs ((dD x).getD k 0)=r at*
   refine aM.mk (gB [3,5,7,8,19,20,26,27,28] 4 (fun s=>∃j:Nat,j≤r.length∧s=⟨[.ah,.ah,.ah,.ptr 0 0,.ah,.ptr 1 0,.ah,.own 2 (bA zs bt x k++dX bt k (r.take j)).length,.d (.v (.int .i64 (k:Nat))),.ah,.ah,.ah,.ah,.ah,.ah,.ah,.ah,.ah,.ah,.d (.agg [.ints .i64 3 (dD x)]),.d (.v (.int .i64 (k:Nat))),.ah,.ah,.ah,.ah,.ah,.own 3 r.length,.d (.v (.int .i64 r.length)),.d (.v (.int .i64 (j:Nat))),.ah,.ah,.ah,.ah,.ah,.ah,.ah,.ah,.ah,.ah,.ah,.ah,.ah,.ah,.ah,.ah],[some (.var [.ints .i64 31 zs]),some (.var [.bools 8 bt]),some (.sl 119 2 (bA zs bt x k++dX bt k (r.take j)).length [.ints .i64 ((bA zs bt x k++dX bt k (r.take j)).length*2) (bF (bA zs bt x k++dX bt k (r.take j)))]),some (.sl 3 1 r.length [.ints .i64 r.length r])]⟩) (fun s=>r.length-lM s 28) rfl ⟨0,by omega,by rw[List.take_zero,show dX bt k []=[]from rfl,List.append_nil];rfl⟩ ?_)
   rintro s ⟨j,hj,rfl⟩
   have YR:IntKind.i64.wrap ((j:Int)+1)=((j+1:Nat):Int):=by rw[dM (by omega) (by omega)];omega
   by_cases hj2:j<r.length
   ·have hs:=Bb bt k r j hj2
    obtain⟨n0,n1⟩:=AP (r.getD j 0) (by rw[List.getD_eq_getElem?_getD,List.getElem?_eq_getElem hj2];simp)
    have hl:(bA zs bt x k++dX bt k (r.take j)).length≤100:=by
     have:=xJ bt k (r.take j)
     rw[List.length_append];rw[List.length_take]at this;omega
    cases hu:mD bt (r.getD j 0)with
    |true=>
     rw[hu,if_pos rfl,List.append_nil]at hs
     clear AP P
     refine aX ?_;(try exact⟨⟩)
     refine⟨⟨j+1,by omega,by rw[hs,←YR];rfl⟩,?_⟩
     show r.length- (IntKind.i64.wrap ((j:Int)+1)).toNat<r.length- (j:Int).toNat
     rw[YR];omega
    |false=>
     rw[hu,if_neg (by simp)]at hs
     rw[←List.append_cancel_left_eq (bA zs bt x k),←List.append_assoc]at hs
     generalize bA zs bt x k++dX bt k (r.take j)=q at*
     clear AP P
     refine aX ?_;(try exact⟨⟩)
     refine⟨⟨j+1,by omega,by rw[hs,oq,List.length_append,Nat.add_mul,←YR];rfl⟩,?_⟩
     show r.length- (IntKind.i64.wrap ((j:Int)+1)).toNat<r.length- (j:Int).toNat
     rw[YR];omega
   ·have hj3:r.take j=r:=List.take_of_length_le (by omega)
    rw[hj3]
    have hs:bA zs bt x (k+1)=bA zs bt x k++dX bt k r:=by rw[bA,hr]
    rw[←hs]
    clear AP P
    refine aX ?_;(try exact⟨⟩)
    refine⟨⟨k+1,by omega,by rw[←hw];rfl⟩,?_⟩
    show 3- (IntKind.i64.wrap ((k:Int)+1)).toNat<3- (k:Int).toNat
    rw[hw];omega
  ·obtain rfl:k=3:=by omega
   refine aX ?_;(try exact⟨⟩)
 ·have e:aR zs x bt=[]:=if_neg hx
  rw[e]
  refine Yh ?_ rfl
  refine dF (E:=aB4) Tryz.func62 Tryz.ntmps62 ?_
  clear e
  by_cases h0:x<0
  ·clear hx
   refine ago ?_;(try exact⟨⟩)
  ·have h1:x≥8:=by
    apply Decidable.byContradiction
    intro h
    exact hx (by simp[aG];omega)
   clear hx
   refine ago ?_;(try exact⟨⟩)
end
section
open Pm
attribute [local irreducible] aV aZ bQ
def KR(xs:List Int)(v:Int):Int:=if v∈xs then(xs.idxOf v:Nat)else -1
def YU:List A→(bP→Prop)→Prop
 |[.row n [.ints .i64 n' xs],.v (.int .i64 v)],K=>n=xs.length∧n'=xs.length∧xs.length≤1000000∧K (.d (.v (.int .i64 (KR xs v))))
 |_,_=>False
theorem YW {xs : List Int} {v : Int} {k : Nat} (hk : k < xs.length) (h : xs.getD k 0 = v) (hn : ∀ j < k, xs.getD j 0 ≠ v) : KR xs v = (k : Nat) := by
  have e : xs[k] = v := by simpa [List.getD_eq_getElem?_getD, hk] using h
  have hm : v ∈ xs := e ▸ List.getElem_mem hk
  have hi : xs.idxOf v < xs.length := List.idxOf_lt_length_of_mem hm
  have hv : xs[xs.idxOf v] = v := List.getElem_idxOf hi
  have h1 : ¬ xs.idxOf v < k := fun h' => hn _ h' (by rw [List.getD_eq_getElem?_getD, List.getElem?_eq_getElem hi]; exact hv)
  have h2 : ¬ k < xs.idxOf v := fun h' => by
    have := List.not_of_lt_findIdx (xs := xs) (p := (· == v)) (i := k) (by unfold List.idxOf at h'; exact h')
    simp [e] at this
  unfold KR
  rw [if_pos hm, show xs.idxOf v = k by omega]
theorem Oq{xs:List Int}{v:Int}(hn:∀j<xs.length,xs.getD j 0≠v):KR xs v= -1:=by
 unfold KR
 rw[if_neg]
 intro h
 obtain⟨i,hi,e⟩:=List.getElem_of_mem h
 exact hn i hi (by simpa[List.getD_eq_getElem?_getD,hi]using e)
set_option maxHeartbeats 4000000 in
theorem ap9(xs:List Int)(v:Int)(hl:xs.length≤1000000):aQ 168 [.row xs.length [.ints .i64 xs.length xs],.v (.int .i64 v)] (.d (.v (.int .i64 (KR xs v)))):=by
 refine dF (E:=uq) Tryz.func168 Tryz.ntmps168 ?_
 refine aX ?_;(try exact⟨⟩)
 refine aM.mk (gB [0,1,7,8] 1 (fun s=>∃k:Nat,k≤xs.length∧(∀j<k,xs.getD j 0≠v)∧s=⟨[.d (.row xs.length [.ints .i64 xs.length xs]),.d (.v (.int .i64 v)),.ah,.ah,.ah,.ah,.ah,.d (.v (.int .i64 xs.length)),.d (.v (.int .i64 (k:Nat))),.ah,.ah,.ah,.ah,.ah,.ah,.ah,.ah,.ah,.ah],[]⟩) (fun s=>xs.length-lM s 8) rfl ⟨0,by omega,by intro j hj;omega,rfl⟩ ?_)
 rintro s ⟨k,hk,hj,rfl⟩
 have hw:IntKind.i64.wrap ((k:Int)+1)=((k+1:Nat):Int):=by rw[dM (by omega) (by omega)];omega
 by_cases hk2:k<xs.length
 ·by_cases he:xs.getD k 0=v
  ·have h1:=YW hk2 he hj
   have he1:(v==xs.getD k 0)=true:=by rw[he];simp
   rw[h1]
   clear he hj h1
   refine aX ?_;(try exact⟨⟩)
  ·have he1:(v==xs.getD k 0)=false:=by simpa using fun h=>he h.symm
   refine aX ?_;(try exact⟨⟩)
   refine⟨⟨k+1,by omega,fun j hj2=>?_,by rw[←hw];rfl⟩,?_⟩
   ·rcases Nat.lt_or_eq_of_le (Nat.le_of_lt_succ hj2)with h|rfl
    ·exact hj j h
    ·exact he
   ·show xs.length- (IntKind.i64.wrap ((k:Int)+1)).toNat<xs.length- (k:Int).toNat
    rw[hw];omega
 ·have h1:=Oq (xs:=xs) (v:=v) fun j hj2=>hj j (by omega)
  rw[h1]
  clear hj h1
  refine aX ?_;(try exact⟨⟩)
theorem YV:∀args K,YU args K→∃r,aQ 168 args r∧K r:=by
 intro args K h
 unfold YU at h
 split at h
 ·obtain⟨rfl,rfl,h1,h⟩:=h
  exact⟨_,ap9 _ _ h1,h⟩
 ·exact h.elim
noncomputable def X4:av:=aA6.add 168 YU YV ⟨_,Tryz.func168,by kernel_rfl,by kernel_rfl⟩
def Rc:List A→(bP→Prop)→Prop
 |[.row n [.ints .i64 n' xs],.v (.int .i64 v)],K=>n=xs.length∧n'=xs.length∧xs.length≤1000000∧K (.d (.v (.bool (decide (v∈xs)))))
 |_,_=>False
theorem ap4(xs:List Int)(v:Int)(hl:xs.length≤1000000):aQ 118 [.row xs.length [.ints .i64 xs.length xs],.v (.int .i64 v)] (.d (.v (.bool (decide (v∈xs))))):=by
 refine dF (E:=X4) Tryz.func118 Tryz.ntmps118 ?_
 refine ago ?_;(try exact⟨⟩)
 have:decide (KR xs v≥0)=decide (v∈xs):=by
  unfold KR
  by_cases h:v∈xs
  ·rw[if_pos h];simp[h]
  ·rw[if_neg h];simp[h]
 rw[this]
theorem KP:∀args K,Rc args K→∃r,aQ 118 args r∧K r:=by
 intro args K h
 unfold Rc at h
 split at h
 ·obtain⟨rfl,rfl,h1,h⟩:=h
  exact⟨_,ap4 _ _ h1,h⟩
 ·exact h.elim
def dK(zs:List Int)(k:Nat):Bool:=decide (bq zs k≠[0,0])
def bE(zs:List Int):Nat→List Int
 |0=>[]
 |k+1=>bE zs k++(if dK zs k=true then[(k:Int)]else[])
theorem mW(zs:List Int):∀k,(bE zs k).length≤k
 |0=>by simp[bE]
 |k+1=>by
  have:=mW zs k
  rw[bE,List.length_append]
  split<;>simp<;>omega
theorem vL(zs:List Int):∀(k:Nat) (i:Int),i∈bE zs k↔0≤i∧i<k∧dK zs i.toNat=true
 |0,i=>by simp[bE];omega
 |k+1,i=>by
  rw[bE,List.mem_append,vL zs k i]
  by_cases h:dK zs k=true
  ·rw[if_pos h,List.mem_singleton]
   constructor
   ·rintro(⟨h1,h2,h3⟩|rfl)
    ·exact⟨h1,by omega,h3⟩
    ·exact⟨by omega,by omega,by simpa using h⟩
   ·rintro⟨h1,h2,h3⟩
    by_cases e:i=k
    ·exact .inr e
    ·exact .inl ⟨h1,by omega,h3⟩
  ·rw[if_neg h]
   constructor
   ·rintro(⟨h1,h2,h3⟩|h4)
    ·exact⟨h1,by omega,h3⟩
    ·simp at h4
   ·rintro⟨h1,h2,h3⟩
    by_cases e:i=k
    ·subst e;simp at h3;exact absurd h3 h
    ·exact .inl ⟨h1,by omega,h3⟩
def bn(zs:List Int)(i:Int):Bool:=aG i&&dK zs i.toNat
theorem Ca(zs:List Int)(i:Int):decide (i∈bE zs 8)=bn zs i:=by
 have:=vL zs 8 i
 rw[Bool.eq_iff_iff]
 simp[bn,aG,this]
 constructor
 ·rintro⟨h1,h2,h3⟩;exact⟨⟨h1,by omega⟩,h3⟩
 ·rintro⟨⟨h1,h2⟩,h3⟩;exact⟨h1,by omega,h3⟩
set_option maxHeartbeats 8000000 in
theorem OB(zs:List Int):aQ 119 [.agg [.ints .i64 31 zs]] (.o 3 1 (bE zs 8).length [.ints .i64 (bE zs 8).length (bE zs 8)]):=by
 refine dF (E:=X4) Tryz.func119 Tryz.ntmps119 ?_
 refine aX ?_;(try exact⟨⟩)
 refine aM.mk (DT [3,7,8] 1 3 3 1 [.ints .i64 0 []] (fun s=>∃k:Nat,k≤8∧s=⟨[.ah,.ah,.ah,.own 1 (bE zs k).length,.ah,.ah,.ah,.d (.agg [.ints .i64 16 (zs.take 16)]),.d (.v (.int .i64 (k:Nat))),.ah,.ah,.ah,.ah,.ah,.ah,.ah,.ah,.ah,.ah,.ah,.ah],[some (.var [.ints .i64 31 zs]),some (.sl 3 1 (bE zs k).length [.ints .i64 (bE zs k).length (bE zs k)])]⟩) (fun s=>8-lM s 8) rfl rfl rfl rfl ⟨0,by omega,rfl⟩ ?_)
 rintro s ⟨k,hk,rfl⟩
 have hw:IntKind.i64.wrap ((k:Int)+1)=((k+1:Nat):Int):=by rw[dM (by omega) (by omega)];omega
 by_cases M9:k<8
 ·have L:=mW zs k
  by_cases hz:((zs.take 16).drop (k*2)).take 2=[0,0]
  ·have hs:bE zs (k+1)=bE zs k:=by rw[bE,if_neg (by simp[dK,bq,hz]),List.append_nil]
   refine aX ?_;(try exact⟨⟩)
   refine⟨⟨k+1,by omega,by rw[hs,←hw];rfl⟩,?_⟩
   show 8- (IntKind.i64.wrap ((k:Int)+1)).toNat<8- (k:Int).toNat
   rw[hw];omega
  ·have hs:bE zs (k+1)=bE zs k++[(k:Int)]:=by rw[bE,if_pos (by simp[dK,bq,hz])]
   refine aX ?_;(try exact⟨⟩)
   refine⟨⟨k+1,by omega,by rw[hs,List.length_append,←hw];rfl⟩,?_⟩
   show 8- (IntKind.i64.wrap ((k:Int)+1)).toNat<8- (k:Int).toNat
   rw[hw];omega
 ·obtain rfl:k=8:=by omega
  refine aX ?_;(try exact⟨⟩)
def yX:List A→(bP→Prop)→Prop
 |[.agg [.ints .i64 31 zs]],K=>K (.o 3 1 (bE zs 8).length [.ints .i64 (bE zs 8).length (bE zs 8)])
 |_,_=>False
theorem AV:∀args K,yX args K→∃r,aQ 119 args r∧K r:=by
 intro args K h
 unfold yX at h
 split at h
 ·exact⟨_,OB _,h⟩
 ·exact h.elim
noncomputable def bh4:av:=X4.add 118 Rc KP ⟨_,Tryz.func118,by kernel_rfl,by kernel_rfl⟩
noncomputable def aC6:av:=bh4.add 119 yX AV ⟨_,Tryz.func119,by kernel_rfl,by kernel_rfl⟩
def Ov:List A→(bP→Prop)→Prop
 |[.agg [.ints .i64 31 zs],.v (.int .i64 i)],K=>K (.d (.v (.bool (bn zs i))))
 |_,_=>False
theorem Y2(zs:List Int)(i:Int):aQ 189 [.agg [.ints .i64 31 zs],.v (.int .i64 i)] (.d (.v (.bool (bn zs i)))):=by
 refine dF (E:=aC6) Tryz.func189 Tryz.ntmps189 ?_
 have L:(bE zs 8).length≤1000000:=Nat.le_trans (mW zs 8) (by decide)
 refine ago ?_;(try exact⟨⟩)
 rw[Ca]
theorem Ug:∀args K,Ov args K→∃r,aQ 189 args r∧K r:=by
 intro args K h
 unfold Ov at h
 split at h
 ·exact⟨_,Y2 _ _,h⟩
 ·exact h.elim
def jq(ad:List Bool):Nat:=ad.countP id
theorem Kc(ad:List Bool)(k:Nat)(hk:k<ad.length):jq (ad.take (k+1))=jq (ad.take k)+(if ad.getD k false=true then 1 else 0):=by
 unfold jq
 rw[List.take_succ_eq_append_getElem hk,List.countP_append,List.countP_singleton]
 simp[List.getD_eq_getElem?_getD,hk]
theorem Xi(ad:List Bool):jq ad≤ad.length:=List.countP_le_length
end
section
def nH:List Seg→Prop
 |[]=>True
 | .ints _ n zs::l=>zs.length=n∧nH l
 | .bytes n bs::l=>bs.length=n∧nH l
 | .bools n bs::l=>bs.length=n∧nH l
 | .gen n gN::l=>gN.length=n∧nH l
def vw:List A→Prop
 |[]=>True
 | .agg l::r=>nH l∧vw r
 | .row _ l::r=>nH l∧vw r
 |_::r=>vw r
theorem qy{S:Nat→Prop}{w:World}:∀{l:List Seg} {cs:List Value},RL S w l cs→nH l
 |_,_,.nil=>trivial
 |_,_,.ints h r=>⟨h,qy r⟩
 |_,_,.bytes h r=>⟨h,qy r⟩
 |_,_,.bools h r=>⟨h,qy r⟩
 |_,_,.gen _ h r=>⟨h,qy r⟩
theorem El{S:Nat→Prop}{w:World}:∀{l:List A} {vs:List Value},lK S w l vs→vw l
 |_,_,.nil=>trivial
 |_,_,.cons h r=>by
  have ih:=El r
  cases h with
  |v=>exact ih
  |agg h=>exact⟨qy h,ih⟩
  |row h=>exact⟨qy h,ih⟩
  |ref=>exact ih
  |sref=>exact ih
  |recs=>exact ih
  |J9=>exact ih
theorem gY{P:Program}{G:Nat→Option (List Seg)}{f:FuncId}{args:List A}{res:bP}(h:vw args→lC P G f args res):lC P G f args res:=
 fun S w vs hG ha=>h (El ha) S w vs hG ha
theorem ap7{D:Nat→Prop}{w:World}{r:Nat}{l:List Seg}(h:HB D w r (.var l)):nH l:=by
 obtain⟨cs,t,_,h⟩:=h
 exact qy h
theorem uz{P:Program}{G:Nat→Option (List Seg)}{f:FuncId}{pos:Nat}{l:List Seg}{x':Bk}{args:List A}{res:bP}(h:nH l→vw args→Sy P G f pos (.var l) args res x'):Sy P G f pos (.var l) args res x':=
 fun S w r vs hr hG hb ha=>h (ap7 hb) (El ha) S w r vs hr hG hb ha
end
end Go.Proofs.YtjdjelopkhjdnaaGreatDoor
