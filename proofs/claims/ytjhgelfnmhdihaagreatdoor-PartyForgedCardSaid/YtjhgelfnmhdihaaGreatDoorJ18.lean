/-
  Ladders: secrets up a path.
-/
import Derived.Test.YtjhgelfnmhdihaaGreatDoorJ17
import Derived.Test.YtjhgelfnmhdihaaGreatDoorJ14
namespace Go.Proofs.YtjhgelfnmhdihaaGreatDoor
set_option linter.unusedVariables false
set_option linter.unusedSimpArgs false
set_option maxRecDepth 100000
open Go.RowKit
section
open Pm
attribute [local irreducible] aU aZ bR
noncomputable def KI:ay:=((((aB4.add 51 yG xk ⟨_,Tryz.func51,by kernel_rfl,by kernel_rfl⟩).add 69 rG qy ⟨_,Tryz.func69,by kernel_rfl,by kernel_rfl⟩).add
 101 KV Dv ⟨_,Tryz.func101,by kernel_rfl,by kernel_rfl⟩).add 141 ED Au ⟨_,Tryz.func141,by kernel_rfl,by kernel_rfl⟩).kG
 48 zn sV ⟨_,Tryz.func48,by kernel_rfl,by kernel_rfl⟩
def ak(h:List UInt8):List UInt8:=aF h (sb ⟨#[112,97,116,104]⟩) []
def av(h:List UInt8):List UInt8:=aF h (sb ⟨#[110,111,100,101]⟩) []
theorem dY(h:List UInt8):(ak h).length=32:=bO _
def Gv:List A→(bP→Prop)→Prop
 |[.agg [.bytes 32 h]],K=>K (.d (.agg [.bytes 32 (ak h)]))
 |_,_=>False
theorem y9{f:FuncId}(hx:∀h,aP f [.agg [.bytes 32 h]] (.d (.agg [.bytes 32 (ak h)]))):∀args K,Gv args K→∃r,aP f args r∧K r:=by
 intro args K h
 unfold Gv at h
 split at h
 ·exact⟨_,hx _,h⟩
 ·exact h.elim
set_option maxHeartbeats 4000000 in
theorem RQ(h:List UInt8):aP 163 [.agg [.bytes 32 h]] (.d (.agg [.bytes 32 (ak h)])):=by
 refine dK (E:=KI) Tryz.func163 Tryz.ntmps163 ?_
 refine ago ?_;(try exact⟨⟩)
 rfl
theorem Ml(h:List UInt8):aP 139 [.agg [.bytes 32 h]] (.d (.agg [.bytes 32 (ak h)])):=by
 refine dK (E:=KI) Tryz.func139 Tryz.ntmps139 ?_
 refine ago ?_;(try exact⟨⟩)
 rfl
noncomputable def ba9:ay:=(KI.add 163 Gv (y9 RQ) ⟨_,Tryz.func163,by kernel_rfl,by kernel_rfl⟩).add 139 Gv (y9 Ml) ⟨_,Tryz.func139,by kernel_rfl,by kernel_rfl⟩
def Ja:List A→(bP→Prop)→Prop
 |[.agg [.bytes 32 h]],K=>K (.p (.obj (p9 (au (av h)))))
 |_,_=>False
theorem Gw:∀args K,Ja args K→∃r,aP 47 args r∧K r:=by
 intro args K h
 unfold Ja at h
 split at h
 ·refine⟨_,?_,h⟩
  refine dK (E:=KI) Tryz.func47 Tryz.ntmps47 ?_
  refine ago ?_;(try exact⟨⟩)
  rfl
 ·exact h.elim
def zy:List A→(bP→Prop)→Prop
 |[.agg [.bytes 32 h]],K=>K (.d (.agg [.ints .i64 2 [au (av h),aA 4 (au (av h))]]))
 |_,_=>False
theorem xU:∀args K,zy args K→∃r,aP 65 args r∧K r:=by
 intro args K h
 unfold zy at h
 split at h
 ·refine⟨_,?_,h⟩
  refine dK (E:=KI) Tryz.func65 Tryz.ntmps65 ?_
  refine ago ?_;(try exact⟨⟩)
  rfl
 ·exact h.elim
noncomputable def KJ:ay:=(ba9.add 47 Ja Gw ⟨_,Tryz.func47,by kernel_rfl,by kernel_rfl⟩).add 65 zy xU ⟨_,Tryz.func65,by kernel_rfl,by kernel_rfl⟩
def fU(h:List UInt8):List UInt8:=ak h++(ak (ak h)++ak (ak (ak h)))
def VK:List A→(bP→Prop)→Prop
 |[.agg [.bytes 32 h]],K=>K (.t [.agg [.bytes 96 (fU h)],.agg [.bytes 32 (ak (ak (ak (ak h))))]])
 |_,_=>False
set_option maxHeartbeats 4000000 in
theorem ay7:∀args K,VK args K→∃r,aP 100 args r∧K r:=by
 intro args K h
 unfold VK at h
 split at h
 ·refine⟨_,?_,h⟩
  refine dK (E:=KJ) Tryz.func100 Tryz.ntmps100 ?_
  refine ago ?_;(try exact⟨⟩)
  refine aM.mk (aB 4 ?_)
  refine ago ?_;(try exact⟨⟩)
  simp[fU,List.take_append,List.drop_append,dY,List.take_of_length_le,List.drop_of_length_le]
 ·exact h.elim
theorem MF:∀args K,VK args K→∃r,aP 63 args r∧K r:=by
 intro args K h
 unfold VK at h
 split at h
 ·refine⟨_,?_,h⟩
  refine dK (E:=KJ) Tryz.func63 Tryz.ntmps63 ?_
  refine ago ?_;(try exact⟨⟩)
  simp[fU,List.take_append,List.drop_append,dY,List.take_of_length_le,List.drop_of_length_le]
 ·exact h.elim
end
section
open Pm
attribute [local irreducible] aU aZ bR
def mJ(bt:List Bool)(n:Int):Bool:=decide (n.tmod 2=0)&&bt.getD (n.tdiv 2).toNat false
def Za:List A→(bP→Prop)→Prop
 |[.v (.int .i64 n),.agg [.bools 8 bt]],K=>0≤n∧n<15∧K (.d (.v (.bool (mJ bt n))))
 |_,_=>False
theorem ar1(n:Int)(bt:List Bool)(h0:0≤n)(h1:n<15):aP 134 [.v (.int .i64 n),.agg [.bools 8 bt]] (.d (.v (.bool (mJ bt n)))):=by
 refine dK (E:=KJ) Tryz.func134 Tryz.ntmps134 ?_
 have hw:IntKind.i64.wrap (n.tdiv 2)=n.tdiv 2:=dR (by rw[Int.tdiv_eq_ediv_of_nonneg h0];omega) (by rw[Int.tdiv_eq_ediv_of_nonneg h0];omega)
 have hb:0≤IntKind.i64.wrap (n.tdiv 2)∧IntKind.i64.wrap (n.tdiv 2)<8:=by rw[hw,Int.tdiv_eq_ediv_of_nonneg h0];omega
 obtain⟨hb0,hb1⟩:=hb
 cases he:(n.tmod 2==0)with
 |true=>
  refine ago ?_;(try exact⟨⟩)
  have:n.tmod 2=0:=by simpa using he
  simp[mJ,this,hw]
 |false=>
  refine ago ?_;(try exact⟨⟩)
  have:n.tmod 2≠0:=by simpa using he
  simp[mJ,this]
theorem Zb:∀args K,Za args K→∃r,aP 134 args r∧K r:=by
 intro args K h
 unfold Za at h
 split at h
 ·exact⟨_,ar1 _ _ h.1 h.2.1,h.2.2⟩
 ·exact h.elim
def Az:List A→(bP→Prop)→Prop
 |[.v (.int .i64 x)],K=>K (.d (.agg [.ints .i64 3 (dI x)]))
 |_,_=>False
theorem Vv:∀args K,Az args K→∃r,aP 132 args r∧K r:=by
 intro args K h
 unfold Az at h
 split at h
 ·exact⟨_,SA _,h⟩
 ·exact h.elim
noncomputable def aC2:ay:=(KJ.add 134 Za Zb ⟨_,Tryz.func134,by kernel_rfl,by kernel_rfl⟩).add 132 Az Vv ⟨_,Tryz.func132,by kernel_rfl,by kernel_rfl⟩
def bI:List (Int×Int)→List Int
 |[]=>[]
 |p::l=>p.1::p.2::bI l
theorem oH:∀(l m:List (Int×Int)),bI (l++m)=bI l++bI m
 |[],m=>rfl
 |p::l,m=>by simp[bI,oH l m]
def d9(bt:List Bool)(k:Int)(r:List Int):List (Int×Int):=(r.filter fun m=>!mJ bt m).map fun m=>(k,m)
theorem xO(bt:List Bool)(k:Int)(r:List Int):(d9 bt k r).length≤r.length:=by
 unfold d9;rw[List.length_map];exact List.length_filter_le _ _
theorem Bl(bt:List Bool)(k:Int)(r:List Int)(j:Nat)(hj:j<r.length):d9 bt k (r.take (j+1))=d9 bt k (r.take j)++(if mJ bt (r.getD j 0)=true then[]else[(k,r.getD j 0)]):=by
 unfold d9
 rw[List.take_succ_eq_append_getElem hj,List.filter_append,List.map_append]
 congr 1
 have e:r.getD j 0=r[j]:=by simp[List.getD_eq_getElem?_getD,hj]
 rw[e]
 cases h:mJ bt r[j]<;>simp[h]
def bB(zs:List Int)(bt:List Bool)(x:Int):Nat→List (Int×Int)
 |0=>[]
 |k+1=>bB zs bt x k++d9 bt k (dN 3 zs ((dI x).getD k 0))
theorem sU(zs:List Int)(bt:List Bool)(x:Int):∀k,(bB zs bt x k).length≤8*k
 |0=>by simp[bB]
 |k+1=>by
  have h1:=sU zs bt x k
  have h2:=xO bt k (dN 3 zs ((dI x).getD k 0))
  have h3:=Nat.le_trans (mH zs 3 ((dI x).getD k 0)) (show 2^3≤8 by decide)
  rw[bB,List.length_append]
  omega
def aQ(zs:List Int)(x:Int)(bt:List Bool):List (Int×Int):=if aG x=true then bB zs bt x 3 else[]
theorem oZ(zs:List Int):∀(d:Nat) (n m:Int),m∈dN d zs n→0≤m∧m<15
 |0,n,m,h=>by
  unfold dN at h
  split at h
  ·simp at h
  ·next hk=>
   simp at h;subst h
   apply Decidable.byContradiction
   intro hn
   exact hk (by simp only[bA];rw[if_neg hn])
 |d+1,n,m,h=>by
  unfold dN at h
  split at h
  ·split at h
   ·rcases List.mem_append.1 h with h|h
    ·exact oZ zs d _ m h
    ·exact oZ zs d _ m h
   ·simp at h
  ·next hk=>
   simp at h;subst h
   apply Decidable.byContradiction
   intro hn
   exact hk (by simp only[bA];rw[if_neg hn])
set_option maxHeartbeats 16000000 in
theorem R6(zs:List Int)(x:Int)(bt:List Bool):aP 59 [.agg [.ints .i64 31 zs],.v (.int .i64 x),.agg [.bools 8 bt]] (.o 134 2 (aQ zs x bt).length [.ints .i64 ((aQ zs x bt).length*2) (bI (aQ zs x bt))]):=by
 by_cases hx:aG x=true
 ·have e:aQ zs x bt=bB zs bt x 3:=if_pos hx
  rw[e]
  clear e
  obtain⟨hx0,hx1⟩:=dh hx
  refine dK (E:=aC2) Tryz.func59 Tryz.ntmps59 ?_
  clear hx
  refine aX ?_;(try exact⟨⟩)
  refine aM.mk (D6 [3,5,7,19,20] 2 7 134 2 [.ints .i64 0 []] (fun s=>∃k:Nat,k≤3∧s=⟨[.ah,.ah,.ah,.ptr 0 0,.ah,.ptr 1 0,.ah,.own 2 (bB zs bt x k).length,.ah,.ah,.ah,.ah,.ah,.ah,.ah,.ah,.ah,.ah,.ah,.d (.agg [.ints .i64 3 (dI x)]),.d (.v (.int .i64 (k:Nat))),.ah,.ah,.ah,.ah,.ah,.ah,.ah,.ah,.ah,.ah,.ah,.ah,.ah,.ah,.ah,.ah,.ah,.ah,.ah,.ah,.ah,.ah,.ah,.ah],[some (.var [.ints .i64 31 zs]),some (.var [.bools 8 bt]),some (.sl 134 2 (bB zs bt x k).length [.ints .i64 ((bB zs bt x k).length*2) (bI (bB zs bt x k))])]⟩) (fun s=>3-lX s 20) rfl rfl rfl rfl ⟨0,by omega,rfl⟩ ?_)
  rintro s ⟨k,hk,rfl⟩
  have hw:IntKind.i64.wrap ((k:Int)+1)=((k+1:Nat):Int):=by rw[dR (by omega) (by omega)];omega
  by_cases hk3:k<3
  ·have O:okD 3 ((dI x).getD k 0)=true:=by simp[okD]
   have L:=Nat.le_trans (mH zs 3 ((dI x).getD k 0)) (show 2^3≤8 by decide)
   have P:=sU zs bt x k
   refine aX ?_;(try exact⟨⟩)
   have AZ:∀m∈dN 3 zs ((dI x).getD k 0),0≤m∧m<15:=fun m=>oZ zs 3 _ m
   generalize hr:dN 3 zs ((dI x).getD k 0)=r at*
   refine aM.mk (gG [3,5,7,8,19,20,26,27,28] 4 (fun s=>∃j:Nat,j≤r.length∧s=⟨[.ah,.ah,.ah,.ptr 0 0,.ah,.ptr 1 0,.ah,.own 2 (bB zs bt x k++d9 bt k (r.take j)).length,.d (.v (.int .i64 (k:Nat))),.ah,.ah,.ah,.ah,.ah,.ah,.ah,.ah,.ah,.ah,.d (.agg [.ints .i64 3 (dI x)]),.d (.v (.int .i64 (k:Nat))),.ah,.ah,.ah,.ah,.ah,.own 3 r.length,.d (.v (.int .i64 r.length)),.d (.v (.int .i64 (j:Nat))),.ah,.ah,.ah,.ah,.ah,.ah,.ah,.ah,.ah,.ah,.ah,.ah,.ah,.ah,.ah,.ah],[some (.var [.ints .i64 31 zs]),some (.var [.bools 8 bt]),some (.sl 134 2 (bB zs bt x k++d9 bt k (r.take j)).length [.ints .i64 ((bB zs bt x k++d9 bt k (r.take j)).length*2) (bI (bB zs bt x k++d9 bt k (r.take j)))]),some (.sl 3 1 r.length [.ints .i64 r.length r])]⟩) (fun s=>r.length-lX s 28) rfl ⟨0,by omega,by rw[List.take_zero,show d9 bt k []=[]from rfl,List.append_nil];rfl⟩ ?_)
   rintro s ⟨j,hj,rfl⟩
   have YX:IntKind.i64.wrap ((j:Int)+1)=((j+1:Nat):Int):=by rw[dR (by omega) (by omega)];omega
   by_cases hj2:j<r.length
   ·have hs:=Bl bt k r j hj2
    obtain⟨n0,n1⟩:=AZ (r.getD j 0) (by rw[List.getD_eq_getElem?_getD,List.getElem?_eq_getElem hj2];simp)
    have hl:(bB zs bt x k++d9 bt k (r.take j)).length≤100:=by
     have:=xO bt k (r.take j)
     rw[List.length_append];rw[List.length_take]at this;omega
    cases hu:mJ bt (r.getD j 0)with
    |true=>
     rw[hu,if_pos rfl,List.append_nil]at hs
     clear AZ P
     refine aX ?_;(try exact⟨⟩)
     refine⟨⟨j+1,by omega,by rw[hs,←YX];rfl⟩,?_⟩
     show r.length- (IntKind.i64.wrap ((j:Int)+1)).toNat<r.length- (j:Int).toNat
     rw[YX];omega
    |false=>
     rw[hu,if_neg (by simp)]at hs
     rw[←List.append_cancel_left_eq (bB zs bt x k),←List.append_assoc]at hs
     generalize bB zs bt x k++d9 bt k (r.take j)=q at*
     clear AZ P
     refine aX ?_;(try exact⟨⟩)
     refine⟨⟨j+1,by omega,by rw[hs,oH,List.length_append,Nat.add_mul,←YX];rfl⟩,?_⟩
     show r.length- (IntKind.i64.wrap ((j:Int)+1)).toNat<r.length- (j:Int).toNat
     rw[YX];omega
   ·have hj3:r.take j=r:=List.take_of_length_le (by omega)
    rw[hj3]
    have hs:bB zs bt x (k+1)=bB zs bt x k++d9 bt k r:=by rw[bB,hr]
    rw[←hs]
    clear AZ P
    refine aX ?_;(try exact⟨⟩)
    refine⟨⟨k+1,by omega,by rw[←hw];rfl⟩,?_⟩
    show 3- (IntKind.i64.wrap ((k:Int)+1)).toNat<3- (k:Int).toNat
    rw[hw];omega
  ·obtain rfl:k=3:=by omega
   refine aX ?_;(try exact⟨⟩)
 ·have e:aQ zs x bt=[]:=if_neg hx
  rw[e]
  refine Yp ?_ rfl
  refine dK (E:=aC2) Tryz.func59 Tryz.ntmps59 ?_
  clear e
  by_cases h0:x<0
  ·clear hx
   refine ago ?_;(try exact⟨⟩)
  ·have h1:x≥8:=by
    apply Decidable.byContradiction
    intro h
    exact hx (by simp[aG];omega)
   clear hx
   refine ago ?_;(try exact⟨⟩)
end
section
open Pm
attribute [local irreducible] aU aZ bR
def K9(xs:List Int)(v:Int):Int:=if v∈xs then(xs.idxOf v:Nat)else -1
def Y1:List A→(bP→Prop)→Prop
 |[.row n [.ints .i64 n' xs],.v (.int .i64 v)],K=>n=xs.length∧n'=xs.length∧xs.length≤1000000∧K (.d (.v (.int .i64 (K9 xs v))))
 |_,_=>False
theorem Y3 {xs : List Int} {v : Int} {k : Nat} (hk : k < xs.length) (h : xs.getD k 0 = v) (hn : ∀ j < k, xs.getD j 0 ≠ v) : K9 xs v = (k : Nat) := by
  have e : xs[k] = v := by simpa [List.getD_eq_getElem?_getD, hk] using h
  have hm : v ∈ xs := e ▸ List.getElem_mem hk
  have hi : xs.idxOf v < xs.length := List.idxOf_lt_length_of_mem hm
  have hv : xs[xs.idxOf v] = v := List.getElem_idxOf hi
  have h1 : ¬ xs.idxOf v < k := fun h' => hn _ h' (by rw [List.getD_eq_getElem?_getD, List.getElem?_eq_getElem hi]; exact hv)
  have h2 : ¬ k < xs.idxOf v := fun h' => by
    have := List.not_of_lt_findIdx (xs := xs) (p := (· == v)) (i := k) (by unfold List.idxOf at h'; exact h')
    simp [e] at this
  unfold K9
  rw [if_pos hm, show xs.idxOf v = k by omega]
theorem OL{xs:List Int}{v:Int}(hn:∀j<xs.length,xs.getD j 0≠v):K9 xs v= -1:=by
 unfold K9
 rw[if_neg]
 intro h
 obtain⟨i,hi,e⟩:=List.getElem_of_mem h
 exact hn i hi (by simpa[List.getD_eq_getElem?_getD,hi]using e)
set_option maxHeartbeats 4000000 in
theorem aq8(xs:List Int)(v:Int)(hl:xs.length≤1000000):aP 186 [.row xs.length [.ints .i64 xs.length xs],.v (.int .i64 v)] (.d (.v (.int .i64 (K9 xs v)))):=by
 refine dK (E:=uF) Tryz.func186 Tryz.ntmps186 ?_
 refine aX ?_;(try exact⟨⟩)
 refine aM.mk (gG [0,1,7,8] 1 (fun s=>∃k:Nat,k≤xs.length∧(∀j<k,xs.getD j 0≠v)∧s=⟨[.d (.row xs.length [.ints .i64 xs.length xs]),.d (.v (.int .i64 v)),.ah,.ah,.ah,.ah,.ah,.d (.v (.int .i64 xs.length)),.d (.v (.int .i64 (k:Nat))),.ah,.ah,.ah,.ah,.ah,.ah,.ah,.ah,.ah,.ah],[]⟩) (fun s=>xs.length-lX s 8) rfl ⟨0,by omega,by intro j hj;omega,rfl⟩ ?_)
 rintro s ⟨k,hk,hj,rfl⟩
 have hw:IntKind.i64.wrap ((k:Int)+1)=((k+1:Nat):Int):=by rw[dR (by omega) (by omega)];omega
 by_cases hk2:k<xs.length
 ·by_cases he:xs.getD k 0=v
  ·have h1:=Y3 hk2 he hj
   have he1:(v==xs.getD k 0)=true:=by rw[he];simp
   rw[h1]
   clear he hj h1
   refine aX ?_;(try exact⟨⟩)
  ·have he1:(v==xs.getD k 0)=false:=by simpa using fun h=>he h.symm
   refine aX ?_;(try exact⟨⟩)
   refine⟨⟨k+1,by omega,fun j hj2=>?_,by rw[←hw];rfl⟩,?_⟩
   ·rcases Nat.lt_or_eq_of_le (Nat.le_of_lt_succ hj2)with h|rfl
    ·exact hj j h
    ·exact he
   ·show xs.length- (IntKind.i64.wrap ((k:Int)+1)).toNat<xs.length- (k:Int).toNat
    rw[hw];omega
 ·have h1:=OL (xs:=xs) (v:=v) fun j hj2=>hj j (by omega)
  rw[h1]
  clear hj h1
  refine aX ?_;(try exact⟨⟩)
theorem Y2:∀args K,Y1 args K→∃r,aP 186 args r∧K r:=by
 intro args K h
 unfold Y1 at h
 split at h
 ·obtain⟨rfl,rfl,h1,h⟩:=h
  exact⟨_,aq8 _ _ h1,h⟩
 ·exact h.elim
noncomputable def Yd:ay:=aB4.add 186 Y1 Y2 ⟨_,Tryz.func186,by kernel_rfl,by kernel_rfl⟩
def Rw:List A→(bP→Prop)→Prop
 |[.row n [.ints .i64 n' xs],.v (.int .i64 v)],K=>n=xs.length∧n'=xs.length∧xs.length≤1000000∧K (.d (.v (.bool (decide (v∈xs)))))
 |_,_=>False
theorem aq3(xs:List Int)(v:Int)(hl:xs.length≤1000000):aP 122 [.row xs.length [.ints .i64 xs.length xs],.v (.int .i64 v)] (.d (.v (.bool (decide (v∈xs))))):=by
 refine dK (E:=Yd) Tryz.func122 Tryz.ntmps122 ?_
 refine ago ?_;(try exact⟨⟩)
 have:decide (K9 xs v≥0)=decide (v∈xs):=by
  unfold K9
  by_cases h:v∈xs
  ·rw[if_pos h];simp[h]
  ·rw[if_neg h];simp[h]
 rw[this]
theorem K7:∀args K,Rw args K→∃r,aP 122 args r∧K r:=by
 intro args K h
 unfold Rw at h
 split at h
 ·obtain⟨rfl,rfl,h1,h⟩:=h
  exact⟨_,aq3 _ _ h1,h⟩
 ·exact h.elim
def dF(zs:List Int)(k:Nat):Bool:=decide (bq zs k≠[0,0])
def bG(zs:List Int):Nat→List Int
 |0=>[]
 |k+1=>bG zs k++(if dF zs k=true then[(k:Int)]else[])
theorem nC(zs:List Int):∀k,(bG zs k).length≤k
 |0=>by simp[bG]
 |k+1=>by
  have:=nC zs k
  rw[bG,List.length_append]
  split<;>simp<;>omega
theorem vQ(zs:List Int):∀(k:Nat) (i:Int),i∈bG zs k↔0≤i∧i<k∧dF zs i.toNat=true
 |0,i=>by simp[bG];omega
 |k+1,i=>by
  rw[bG,List.mem_append,vQ zs k i]
  by_cases h:dF zs k=true
  ·rw[if_pos h,List.mem_singleton]
   constructor
   ·rintro(⟨h1,h2,h3⟩|rfl)
    ·exact⟨h1,by omega,h3⟩
    ·exact⟨by omega,by omega,by simpa using h⟩
   ·rintro⟨h1,h2,h3⟩
    by_cases e:i=k
    ·exact .inr e
    ·exact .inl ⟨h1,by omega,h3⟩
  ·rw[if_neg h]
   constructor
   ·rintro(⟨h1,h2,h3⟩|h4)
    ·exact⟨h1,by omega,h3⟩
    ·simp at h4
   ·rintro⟨h1,h2,h3⟩
    by_cases e:i=k
    ·subst e;simp at h3;exact absurd h3 h
    ·exact .inl ⟨h1,by omega,h3⟩
def bn(zs:List Int)(i:Int):Bool:=aG i&&dF zs i.toNat
theorem Cj(zs:List Int)(i:Int):decide (i∈bG zs 8)=bn zs i:=by
 have:=vQ zs 8 i
 rw[Bool.eq_iff_iff]
 simp[bn,aG,this]
 constructor
 ·rintro⟨h1,h2,h3⟩;exact⟨⟨h1,by omega⟩,h3⟩
 ·rintro⟨⟨h1,h2⟩,h3⟩;exact⟨h1,by omega,h3⟩
set_option maxHeartbeats 8000000 in
theorem OY(zs:List Int):aP 123 [.agg [.ints .i64 31 zs]] (.o 3 1 (bG zs 8).length [.ints .i64 (bG zs 8).length (bG zs 8)]):=by
 refine dK (E:=Yd) Tryz.func123 Tryz.ntmps123 ?_
 refine aX ?_;(try exact⟨⟩)
 refine aM.mk (D6 [3,7,8] 1 3 3 1 [.ints .i64 0 []] (fun s=>∃k:Nat,k≤8∧s=⟨[.ah,.ah,.ah,.own 1 (bG zs k).length,.ah,.ah,.ah,.d (.agg [.ints .i64 16 (zs.take 16)]),.d (.v (.int .i64 (k:Nat))),.ah,.ah,.ah,.ah,.ah,.ah,.ah,.ah,.ah,.ah,.ah,.ah],[some (.var [.ints .i64 31 zs]),some (.sl 3 1 (bG zs k).length [.ints .i64 (bG zs k).length (bG zs k)])]⟩) (fun s=>8-lX s 8) rfl rfl rfl rfl ⟨0,by omega,rfl⟩ ?_)
 rintro s ⟨k,hk,rfl⟩
 have hw:IntKind.i64.wrap ((k:Int)+1)=((k+1:Nat):Int):=by rw[dR (by omega) (by omega)];omega
 by_cases Nq:k<8
 ·have L:=nC zs k
  by_cases hz:((zs.take 16).drop (k*2)).take 2=[0,0]
  ·have hs:bG zs (k+1)=bG zs k:=by rw[bG,if_neg (by simp[dF,bq,hz]),List.append_nil]
   refine aX ?_;(try exact⟨⟩)
   refine⟨⟨k+1,by omega,by rw[hs,←hw];rfl⟩,?_⟩
   show 8- (IntKind.i64.wrap ((k:Int)+1)).toNat<8- (k:Int).toNat
   rw[hw];omega
  ·have hs:bG zs (k+1)=bG zs k++[(k:Int)]:=by rw[bG,if_pos (by simp[dF,bq,hz])]
   refine aX ?_;(try exact⟨⟩)
   refine⟨⟨k+1,by omega,by rw[hs,List.length_append,←hw];rfl⟩,?_⟩
   show 8- (IntKind.i64.wrap ((k:Int)+1)).toNat<8- (k:Int).toNat
   rw[hw];omega
 ·obtain rfl:k=8:=by omega
  refine aX ?_;(try exact⟨⟩)
def y5:List A→(bP→Prop)→Prop
 |[.agg [.ints .i64 31 zs]],K=>K (.o 3 1 (bG zs 8).length [.ints .i64 (bG zs 8).length (bG zs 8)])
 |_,_=>False
theorem Bb:∀args K,y5 args K→∃r,aP 123 args r∧K r:=by
 intro args K h
 unfold y5 at h
 split at h
 ·exact⟨_,OY _,h⟩
 ·exact h.elim
noncomputable def bj0:ay:=Yd.add 122 Rw K7 ⟨_,Tryz.func122,by kernel_rfl,by kernel_rfl⟩
noncomputable def aD4:ay:=bj0.add 123 y5 Bb ⟨_,Tryz.func123,by kernel_rfl,by kernel_rfl⟩
def OO:List A→(bP→Prop)→Prop
 |[.agg [.ints .i64 31 zs],.v (.int .i64 i)],K=>K (.d (.v (.bool (bn zs i))))
 |_,_=>False
theorem Y8(zs:List Int)(i:Int):aP 199 [.agg [.ints .i64 31 zs],.v (.int .i64 i)] (.d (.v (.bool (bn zs i)))):=by
 refine dK (E:=aD4) Tryz.func199 Tryz.ntmps199 ?_
 have L:(bG zs 8).length≤1000000:=Nat.le_trans (nC zs 8) (by decide)
 refine ago ?_;(try exact⟨⟩)
 rw[Cj]
theorem Uu:∀args K,OO args K→∃r,aP 199 args r∧K r:=by
 intro args K h
 unfold OO at h
 split at h
 ·exact⟨_,Y8 _ _,h⟩
 ·exact h.elim
def jh(ad:List Bool):Nat:=ad.countP id
theorem Kv(ad:List Bool)(k:Nat)(hk:k<ad.length):jh (ad.take (k+1))=jh (ad.take k)+(if ad.getD k false=true then 1 else 0):=by
 unfold jh
 rw[List.take_succ_eq_append_getElem hk,List.countP_append,List.countP_singleton]
 simp[List.getD_eq_getElem?_getD,hk]
theorem Xu(ad:List Bool):jh ad≤ad.length:=List.countP_le_length
end
section
def nQ:List Seg→Prop
 |[]=>True
 | .ints _ n zs::l=>zs.length=n∧nQ l
 | .bytes n bs::l=>bs.length=n∧nQ l
 | .bools n bs::l=>bs.length=n∧nQ l
 | .gen n gU::l=>gU.length=n∧nQ l
def vF:List A→Prop
 |[]=>True
 | .agg l::r=>nQ l∧vF r
 | .row _ l::r=>nQ l∧vF r
 |_::r=>vF r
theorem qD{S:Nat→Prop}{w:World}:∀{l:List Seg} {cs:List Value},RL S w l cs→nQ l
 |_,_,.nil=>trivial
 |_,_,.ints h r=>⟨h,qD r⟩
 |_,_,.bytes h r=>⟨h,qD r⟩
 |_,_,.bools h r=>⟨h,qD r⟩
 |_,_,.gen _ h r=>⟨h,qD r⟩
theorem Ew{S:Nat→Prop}{w:World}:∀{l:List A} {vs:List Value},lW S w l vs→vF l
 |_,_,.nil=>trivial
 |_,_,.cons h r=>by
  have ih:=Ew r
  cases h with
  |v=>exact ih
  |agg h=>exact⟨qD h,ih⟩
  |row h=>exact⟨qD h,ih⟩
  |ref=>exact ih
  |sref=>exact ih
  |recs=>exact ih
  |Kt=>exact ih
theorem iq{P:Program}{G:Nat→Option (List Seg)}{f:FuncId}{args:List A}{res:bP}(h:vF args→lM P G f args res):lM P G f args res:=
 fun S w vs hG ha=>h (Ew ha) S w vs hG ha
theorem aq6{D:Nat→Prop}{w:World}{r:Nat}{l:List Seg}(h:HB D w r (.var l)):nQ l:=by
 obtain⟨cs,t,_,h⟩:=h
 exact qD h
theorem uI{P:Program}{G:Nat→Option (List Seg)}{f:FuncId}{pos:Nat}{l:List Seg}{x':Bk}{args:List A}{res:bP}(h:nQ l→vF args→SQ P G f pos (.var l) args res x'):SQ P G f pos (.var l) args res x':=
 fun S w r vs hr hG hb ha=>h (aq6 hb) (Ew ha) S w r vs hr hG hb ha
end
end Go.Proofs.YtjhgelfnmhdihaaGreatDoor
