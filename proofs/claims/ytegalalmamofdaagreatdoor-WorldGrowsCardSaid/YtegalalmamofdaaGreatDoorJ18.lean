/- -/
import Derived.Test.YtegalalmamofdaaGreatDoorJ17
import Derived.Test.YtegalalmamofdaaGreatDoorJ14
namespace Go.Proofs.YtegalalmamofdaaGreatDoor
set_option linter.all false
set_option maxRecDepth 100000
open Go.RowKit
set_option maxHeartbeats 8000000
noncomputable section
open Pm
attribute [local irreducible] aN aQ bq
def Vm:ak:=((((bf4.add 37 Ah zm ⟨_,Tryz.func37,by kernel_rfl,by kernel_rfl⟩).add 22 xA xB ⟨_,Tryz.func22,by kernel_rfl,by kernel_rfl⟩).add
 78 Oi FK ⟨_,Tryz.func78,by kernel_rfl,by kernel_rfl⟩).add 42 He C8 ⟨_,Tryz.func42,by kernel_rfl,by kernel_rfl⟩).gI
 62 Bh uW ⟨_,Tryz.func62,by kernel_rfl,by kernel_rfl⟩
def aj(h:List UInt8):List UInt8:=aD h (sb ⟨#[112,97,116,104]⟩) []
def aY(h:List UInt8):List UInt8:=aD h (sb ⟨#[110,111,100,101]⟩) []
theorem fD(h:List UInt8):(aj h).length=32:=bG _
def VT:List A->(bC->Prop)->Prop
 |[.agg [.bytes 32 h]],K=>K (.d (.agg [.bytes 32 (aj h)]))
 |_,_=>False
theorem OY{f:FuncId}(hx:∀h,aV f [.agg [.bytes 32 h]] (.d (.agg [.bytes 32 (aj h)]))):∀args K,VT args K->∃r,aV f args r/\K r:=by
 intro args K h
 unfold VT at h
 split at h
 ·exact⟨_,hx _,h⟩
 ·exact h.elim
theorem VU(h:List UInt8):aV 166 [.agg [.bytes 32 h]] (.d (.agg [.bytes 32 (aj h)])):=by
 refine eO (E:=Vm) Tryz.func166 Tryz.ntmps166 ?_
 refine ago ?_;(try exact⟨⟩)
 rfl
def bS3:ak:=(Vm.add 166 VT (OY VU) ⟨_,Tryz.func166,by kernel_rfl,by kernel_rfl⟩)
def LZ:List A->(bC->Prop)->Prop
 |[.agg [.bytes 32 h]],K=>K (.p (.obj (mO (aI (aY h)))))
 |_,_=>False
theorem J8:∀args K,LZ args K->∃r,aV 63 args r/\K r:=by
 intro args K h
 unfold LZ at h
 split at h
 ·refine⟨_,?_,h⟩
  refine eO (E:=Vm) Tryz.func63 Tryz.ntmps63 ?_
  refine ago ?_;(try exact⟨⟩)
  rfl
 ·exact h.elim
def EB:List A->(bC->Prop)->Prop
 |[.agg [.bytes 32 h]],K=>K (.d (.agg [.ints .i64 2 [aI (aY h),aJ 4 (aI (aY h))]]))
 |_,_=>False
theorem Hq:∀args K,EB args K->∃r,aV 20 args r/\K r:=by
 intro args K h
 unfold EB at h
 split at h
 ·refine⟨_,?_,h⟩
  refine eO (E:=Vm) Tryz.func20 Tryz.ntmps20 ?_
  refine ago ?_;(try exact⟨⟩)
  rfl
 ·exact h.elim
def ah7:ak:=(bS3.add 63 LZ J8 ⟨_,Tryz.func63,by kernel_rfl,by kernel_rfl⟩).add 20 EB Hq ⟨_,Tryz.func20,by kernel_rfl,by kernel_rfl⟩
def jF(h:List UInt8):List UInt8:=aj h++(aj (aj h)++aj (aj (aj h)))
def bG6:List A->(bC->Prop)->Prop
 |[.agg [.bytes 32 h]],K=>K (.t [.agg [.bytes 96 (jF h)],.agg [.bytes 32 (aj (aj (aj (aj h))))]])
 |_,_=>False
theorem ba9:∀args K,bG6 args K->∃r,aV 124 args r/\K r:=by
 intro args K h
 unfold bG6 at h
 split at h
 ·refine⟨_,?_,h⟩
  refine eO (E:=ah7) Tryz.func124 Tryz.ntmps124 ?_
  refine ago ?_
  refine aX.mk (aH 4 ?_)
  refine ago ?_;(try exact⟨⟩)
  simp[jF,List.take_append,List.drop_append,fD,List.take_of_length_le,List.drop_of_length_le]
 ·exact h.elim
end
section
open Pm
attribute [local irreducible] aN aQ bq
def tV(bt:List Bool)(n:Int):Bool:=decide (n.tmod 2=0)&&bt.getD (n.tdiv 2).toNat false
def aq1:List A->(bC->Prop)->Prop
 |[.v (.int .i64 n),.agg [.bools 8 bt]],K=>0<=n/\n<15/\K (.d (.v (.bool (tV bt n))))
 |_,_=>False
theorem aS0(n:Int)(bt:List Bool)(h0:0<=n)(h1:n<15):aV 169 [.v (.int .i64 n),.agg [.bools 8 bt]] (.d (.v (.bool (tV bt n)))):=by
 refine eO (E:=ah7) Tryz.func169 Tryz.ntmps169 ?_
 have hw:IntKind.i64.wrap (n.tdiv 2)=n.tdiv 2:=gH (by rw[Int.tdiv_eq_ediv_of_nonneg h0];omega) (by rw[Int.tdiv_eq_ediv_of_nonneg h0];omega)
 have hb:0<=IntKind.i64.wrap (n.tdiv 2)/\IntKind.i64.wrap (n.tdiv 2)<8:=by rw[hw,Int.tdiv_eq_ediv_of_nonneg h0];omega
 obtain⟨hb0,hb1⟩:=hb
 cases he:(n.tmod 2==0)with
 |true=>
  refine ago ?_
  have:n.tmod 2=0:=by simpa using he
  simp[tV,this,hw]
 |false=>
  refine ago ?_
  have:n.tmod 2≠0:=by simpa using he
  simp[tV,this]
theorem aq2:∀args K,aq1 args K->∃r,aV 169 args r/\K r:=by
 intro args K h
 unfold aq1 at h
 split at h
 ·exact⟨_,aS0 _ _ h.1 h.2.1,h.2.2⟩
 ·exact h.elim
def Ui:List A->(bC->Prop)->Prop
 |[.v (.int .i64 x)],K=>K (.d (.agg [.ints .i64 3 (dx x)]))
 |_,_=>False
theorem Ze:∀args K,Ui args K->∃r,aV 167 args r/\K r:=by
 intro args K h
 unfold Ui at h
 split at h
 ·exact⟨_,WH _,h⟩
 ·exact h.elim
noncomputable def bh6:ak:=(ah7.add 169 aq1 aq2 ⟨_,Tryz.func169,by kernel_rfl,by kernel_rfl⟩).add 167 Ui Ze ⟨_,Tryz.func167,by kernel_rfl,by kernel_rfl⟩
def jf:List (Int×Int)->List Int
 |[]=>[]
 |p::l=>p.1::p.2::jf l
theorem Al:∀(l m:List (Int×Int)),jf (l++m)=jf l++jf m
 |[],m=>rfl
 |p::l,m=>by simp[jf,Al l m]
def eZ(bt:List Bool)(k:Int)(r:List Int):List (Int×Int):=(r.filter fun m=>!tV bt m).map fun m=>(k,m)
theorem qL(bt:List Bool)(k:Int)(r:List Int):(eZ bt k r).length<=r.length:=by
 unfold eZ;rw[List.length_map];exact List.length_filter_le _ _
theorem Pv(bt:List Bool)(k:Int)(r:List Int)(j:Nat)(hj:j<r.length):eZ bt k (r.take (j+1))=eZ bt k (r.take j)++(if tV bt (r.getD j 0)=true then[]else[(k,r.getD j 0)]):=by
 unfold eZ
 rw[List.take_succ_eq_append_getElem hj,List.filter_append,List.map_append]
 congr 1
 have e:r.getD j 0=r[j]:=by simp[List.getD_eq_getElem?_getD,hj]
 rw[e]
 cases h:tV bt r[j]<;>simp[h]
def dP(zs:List Int)(bt:List Bool)(x:Int):Nat->List (Int×Int)
 |0=>[]
 |k+1=>dP zs bt x k++eZ bt k (eu 3 zs ((dx x).getD k 0))
theorem zF(zs:List Int)(bt:List Bool)(x:Int):∀k,(dP zs bt x k).length<=8*k
 |0=>by simp[dP]
 |k+1=>by
  have h1:=zF zs bt x k
  have h2:=qL bt k (eu 3 zs ((dx x).getD k 0))
  have h3:=Nat.le_trans (qO zs 3 ((dx x).getD k 0)) (show 2^3<=8 by decide)
  rw[dP,List.length_append]
  omega
def bT(zs:List Int)(x:Int)(bt:List Bool):List (Int×Int):=if aL x=true then dP zs bt x 3 else[]
theorem tL(zs:List Int):∀(d:Nat) (n m:Int),m∈eu d zs n->0<=m/\m<15
 |0,n,m,h=>by
  unfold eu at h
  split at h
  ·simp at h
  ·next hk=>
   simp at h;subst h
   apply Decidable.byContradiction
   intro hn
   exact hk (by simp only[eG];rw[if_neg hn])
 |d+1,n,m,h=>by
  unfold eu at h
  split at h
  ·split at h
   ·rcases List.mem_append.1 h with h|h
    ·exact tL zs d _ m h
    ·exact tL zs d _ m h
   ·simp at h
  ·next hk=>
   simp at h;subst h
   apply Decidable.byContradiction
   intro hn
   exact hk (by simp only[eG];rw[if_neg hn])
theorem Wi(zs:List Int)(x:Int)(bt:List Bool):aV 125 [.agg [.ints .i64 31 zs],.v (.int .i64 x),.agg [.bools 8 bt]] (.o 204 2 (bT zs x bt).length [.ints .i64 ((bT zs x bt).length*2) (jf (bT zs x bt))]):=by
 by_cases hx:aL x=true
 ·have e:bT zs x bt=dP zs bt x 3:=if_pos hx
  rw[e]
  clear e
  obtain⟨hx0,hx1⟩:=ig hx
  refine eO (E:=bh6) Tryz.func125 Tryz.ntmps125 ?_
  clear hx
  refine dG ?_
  refine aX.mk (OT [3,5,7,19,20] 2 7 204 2 [.ints .i64 0 []] (fun s=>∃k:Nat,k<=3/\s=⟨.au::.au::.au::.ptr 0 0::.au::.ptr 1 0::.au::.own 2 (dP zs bt x k).length::dz 11 (.d (.agg [.ints .i64 3 (dx x)])::.d (.v (.int .i64 (k:Nat)))::dz 24 []),[some (.var [.ints .i64 31 zs]),some (.var [.bools 8 bt]),some (.sl 204 2 (dP zs bt x k).length [.ints .i64 ((dP zs bt x k).length*2) (jf (dP zs bt x k))])]⟩) (fun s=>3-vI s 20) rfl rfl rfl rfl ⟨0,by omega,rfl⟩ ?_)
  rintro s ⟨k,hk,rfl⟩
  have hw:IntKind.i64.wrap ((k:Int)+1)=((k+1:Nat):Int):=by rw[gH (by omega) (by omega)];omega
  by_cases hk3:k<3
  ·have O:okD 3 ((dx x).getD k 0)=true:=by simp[okD]
   have L:=Nat.le_trans (qO zs 3 ((dx x).getD k 0)) (show 2^3<=8 by decide)
   have P:=zF zs bt x k
   refine dG ?_
   have VE:∀m∈eu 3 zs ((dx x).getD k 0),0<=m/\m<15:=fun m=>tL zs 3 _ m
   generalize hr:eu 3 zs ((dx x).getD k 0)=r at*
   refine aX.mk (lG [3,5,7,8,19,20,26,27,28] 4 (fun s=>∃j:Nat,j<=r.length/\s=⟨.au::.au::.au::.ptr 0 0::.au::.ptr 1 0::.au::.own 2 (dP zs bt x k++eZ bt k (r.take j)).length::.d (.v (.int .i64 (k:Nat)))::dz 10 (.d (.agg [.ints .i64 3 (dx x)])::.d (.v (.int .i64 (k:Nat)))::.au::.au::.au::.au::.au::.own 3 r.length::.d (.v (.int .i64 r.length))::.d (.v (.int .i64 (j:Nat)))::dz 16 []),[some (.var [.ints .i64 31 zs]),some (.var [.bools 8 bt]),some (.sl 204 2 (dP zs bt x k++eZ bt k (r.take j)).length [.ints .i64 ((dP zs bt x k++eZ bt k (r.take j)).length*2) (jf (dP zs bt x k++eZ bt k (r.take j)))]),some (.sl 3 1 r.length [.ints .i64 r.length r])]⟩) (fun s=>r.length-vI s 28) rfl ⟨0,by omega,by rw[List.take_zero,show eZ bt k []=[]from rfl,List.append_nil];rfl⟩ ?_)
   rintro s ⟨j,hj,rfl⟩
   have hwj:IntKind.i64.wrap ((j:Int)+1)=((j+1:Nat):Int):=by rw[gH (by omega) (by omega)];omega
   by_cases hj2:j<r.length
   ·have hs:=Pv bt k r j hj2
    obtain⟨n0,n1⟩:=VE (r.getD j 0) (by rw[List.getD_eq_getElem?_getD,List.getElem?_eq_getElem hj2];simp)
    have hl:(dP zs bt x k++eZ bt k (r.take j)).length<=100:=by
     have:=qL bt k (r.take j)
     rw[List.length_append];rw[List.length_take]at this;omega
    cases hu:tV bt (r.getD j 0)with
    |true=>
     rw[hu,if_pos rfl,List.append_nil]at hs
     clear VE P
     refine dG ?_
     refine⟨⟨j+1,by omega,by rw[hs,<-hwj];rfl⟩,?_⟩
     show r.length- (IntKind.i64.wrap ((j:Int)+1)).toNat<r.length- (j:Int).toNat
     rw[hwj];omega
    |false=>
     rw[hu,if_neg (by simp)]at hs
     rw[<-List.append_cancel_left_eq (dP zs bt x k),<-List.append_assoc]at hs
     generalize dP zs bt x k++eZ bt k (r.take j)=q at*
     clear VE P
     refine dG ?_
     refine⟨⟨j+1,by omega,by rw[hs,Al,List.length_append,Nat.add_mul,<-hwj];rfl⟩,?_⟩
     show r.length- (IntKind.i64.wrap ((j:Int)+1)).toNat<r.length- (j:Int).toNat
     rw[hwj];omega
   ·have hj3:r.take j=r:=List.take_of_length_le (by omega)
    rw[hj3]
    have hs:dP zs bt x (k+1)=dP zs bt x k++eZ bt k r:=by rw[dP,hr]
    rw[<-hs]
    clear VE P
    refine dG ?_
    refine⟨⟨k+1,by omega,by rw[<-hw];rfl⟩,?_⟩
    show 3- (IntKind.i64.wrap ((k:Int)+1)).toNat<3- (k:Int).toNat
    rw[hw];omega
  ·obtain rfl:k=3:=by omega
   refine dG ?_;(try exact⟨⟩)
 ·have e:bT zs x bt=[]:=if_neg hx
  rw[e]
  refine bk6 ?_ rfl
  refine eO (E:=bh6) Tryz.func125 Tryz.ntmps125 ?_
  clear e
  by_cases h0:x<0
  ·clear hx
   refine ago ?_;(try exact⟨⟩)
  ·have h1:x>=8:=by
    apply Decidable.byContradiction
    intro h
    exact hx (by simp[aL];omega)
   clear hx
   refine ago ?_;(try exact⟨⟩)
end
noncomputable section
open Pm
attribute [local irreducible] aN aQ bq
def Ox(xs:List Int)(v:Int):Int:=if v∈xs then(xs.idxOf v:Nat)else -1
def ap1:List A->(bC->Prop)->Prop
 |[.row n [.ints .i64 n' xs],.v (.int .i64 v)],K=>n=xs.length/\n'=xs.length/\xs.length<=1000000/\K (.d (.v (.int .i64 (Ox xs v))))
 |_,_=>False
theorem ap3 {xs : List Int} {v : Int} {k : Nat} (hk : k < xs.length) (h : xs.getD k 0 = v) (hn : ∀ j < k, xs.getD j 0 ≠ v) : Ox xs v = (k : Nat) := by
  have e : xs[k] = v := by simpa [List.getD_eq_getElem?_getD, hk] using h
  have hm : v ∈ xs := e ▸ List.getElem_mem hk
  have hi : xs.idxOf v < xs.length := List.idxOf_lt_length_of_mem hm
  have hv : xs[xs.idxOf v] = v := List.getElem_idxOf hi
  have h1 : ¬ xs.idxOf v < k := fun h' => hn _ h' (by rw [List.getD_eq_getElem?_getD, List.getElem?_eq_getElem hi]; exact hv)
  have h2 : ¬ k < xs.idxOf v := fun h' => by
    have := List.not_of_lt_findIdx (xs := xs) (p := (· == v)) (i := k) (by unfold List.idxOf at h'; exact h')
    simp [e] at this
  unfold Ox
  rw [if_pos hm, show xs.idxOf v = k by omega]
theorem Sv{xs:List Int}{v:Int}(hn:∀j<xs.length,xs.getD j 0≠v):Ox xs v= -1:=by
 unfold Ox
 rw[if_neg]
 intro h
 obtain⟨i,hi,e⟩:=List.getElem_of_mem h
 exact hn i hi (by simpa[List.getD_eq_getElem?_getD,hi]using e)
theorem aR7(xs:List Int)(v:Int)(hl:xs.length<=1000000):aV 177 [.row xs.length [.ints .i64 xs.length xs],.v (.int .i64 v)] (.d (.v (.int .i64 (Ox xs v)))):=by
 refine eO (E:=sV) Tryz.func177 Tryz.ntmps177 ?_
 refine dG ?_
 refine aX.mk (lG [0,1,7,8] 1 (fun s=>∃k:Nat,k<=xs.length/\(∀j<k,xs.getD j 0≠v)/\s=⟨.d (.row xs.length [.ints .i64 xs.length xs])::.d (.v (.int .i64 v))::.au::.au::.au::.au::.au::.d (.v (.int .i64 xs.length))::.d (.v (.int .i64 (k:Nat)))::dz 10 [],[]⟩) (fun s=>xs.length-vI s 8) rfl ⟨0,by omega,by intro j hj;omega,rfl⟩ ?_)
 rintro s ⟨k,hk,hj,rfl⟩
 have hw:IntKind.i64.wrap ((k:Int)+1)=((k+1:Nat):Int):=by rw[gH (by omega) (by omega)];omega
 by_cases hk2:k<xs.length
 ·by_cases he:xs.getD k 0=v
  ·have h1:=ap3 hk2 he hj
   have he1:(v==xs.getD k 0)=true:=by rw[he];simp
   rw[h1]
   clear he hj h1
   refine dG ?_;(try exact⟨⟩)
  ·have he1:(v==xs.getD k 0)=false:=by simpa using fun h=>he h.symm
   refine dG ?_
   refine⟨⟨k+1,by omega,fun j hj2=>?_,by rw[<-hw];rfl⟩,?_⟩
   ·rcases Nat.lt_or_eq_of_le (Nat.le_of_lt_succ hj2)with h|rfl
    ·exact hj j h
    ·exact he
   ·show xs.length- (IntKind.i64.wrap ((k:Int)+1)).toNat<xs.length- (k:Int).toNat
    rw[hw];omega
 ·have h1:=Sv (xs:=xs) (v:=v) fun j hj2=>hj j (by omega)
  rw[h1]
  clear hj h1
  refine dG ?_;(try exact⟨⟩)
theorem ap2:∀args K,ap1 args K->∃r,aV 177 args r/\K r:=by
 intro args K h
 unfold ap1 at h
 split at h
 ·obtain⟨rfl,rfl,h1,h⟩:=h
  exact⟨_,aR7 _ _ h1,h⟩
 ·exact h.elim
def ai8:ak:=bf4.add 177 ap1 ap2 (.of Tryz.func177)
def VB:List A->(bC->Prop)->Prop
 |[.row n [.ints .i64 n' xs],.v (.int .i64 v)],K=>n=xs.length/\n'=xs.length/\xs.length<=1000000/\K (.d (.v (.bool (decide (v∈xs)))))
 |_,_=>False
theorem aQ5(xs:List Int)(v:Int)(hl:xs.length<=1000000):aV 196 [.row xs.length [.ints .i64 xs.length xs],.v (.int .i64 v)] (.d (.v (.bool (decide (v∈xs))))):=by
 refine eO (E:=ai8) Tryz.func196 Tryz.ntmps196 ?_
 refine ago ?_
 have:decide (Ox xs v>=0)=decide (v∈xs):=by
  unfold Ox
  by_cases h:v∈xs
  ·rw[if_pos h];simp[h]
  ·rw[if_neg h];simp[h]
 rw[this]
theorem Ot:∀args K,VB args K->∃r,aV 196 args r/\K r:=by
 intro args K h
 unfold VB at h
 split at h
 ·obtain⟨rfl,rfl,h1,h⟩:=h
  exact⟨_,aQ5 _ _ h1,h⟩
 ·exact h.elim
def eH(zs:List Int)(k:Nat):Bool:=decide (bZ zs k≠[0,0])
def bK(zs:List Int):Nat->List Int
 |0=>[]
 |k+1=>bK zs k++(if eH zs k=true then[(k:Int)]else[])
theorem nQ(zs:List Int):∀k,(bK zs k).length<=k
 |0=>by simp[bK]
 |k+1=>by
  have:=nQ zs k
  rw[bK,List.length_append]
  split<;>simp<;>omega
theorem xZ(zs:List Int):∀(k:Nat) (i:Int),i∈bK zs k↔0<=i/\i<k/\eH zs i.toNat=true
 |0,i=>by simp[bK];omega
 |k+1,i=>by
  rw[bK,List.mem_append,xZ zs k i]
  by_cases h:eH zs k=true
  ·rw[if_pos h,List.mem_singleton]
   constructor
   ·rintro(⟨h1,h2,h3⟩|rfl)
    ·exact⟨h1,by omega,h3⟩
    ·exact⟨by omega,by omega,by simpa using h⟩
   ·rintro⟨h1,h2,h3⟩
    by_cases e:i=k
    ·exact .inr e
    ·exact .inl ⟨h1,by omega,h3⟩
  ·rw[if_neg h]
   constructor
   ·rintro(⟨h1,h2,h3⟩|h4)
    ·exact⟨h1,by omega,h3⟩
    ·simp at h4
   ·rintro⟨h1,h2,h3⟩
    by_cases e:i=k
    ·subst e;simp at h3;exact absurd h3 h
    ·exact .inl ⟨h1,by omega,h3⟩
def dS(zs:List Int)(i:Int):Bool:=aL i&&eH zs i.toNat
theorem Et(zs:List Int)(i:Int):decide (i∈bK zs 8)=dS zs i:=by
 have:=xZ zs 8 i
 rw[Bool.eq_iff_iff]
 simp[dS,aL,this]
 constructor
 ·rintro⟨h1,h2,h3⟩;exact⟨⟨h1,by omega⟩,h3⟩
 ·rintro⟨⟨h1,h2⟩,h3⟩;exact⟨h1,by omega,h3⟩
theorem SK(zs:List Int):aV 197 [.agg [.ints .i64 31 zs]] (.o 3 1 (bK zs 8).length [.ints .i64 (bK zs 8).length (bK zs 8)]):=by
 refine eO (E:=ai8) Tryz.func197 Tryz.ntmps197 ?_
 refine dG ?_
 refine aX.mk (OT [3,7,8] 1 3 3 1 [.ints .i64 0 []] (fun s=>∃k:Nat,k<=8/\s=⟨.au::.au::.au::.own 1 (bK zs k).length::.au::.au::.au::.d (.agg [.ints .i64 16 (zs.take 16)])::.d (.v (.int .i64 (k:Nat)))::dz 12 [],[some (.var [.ints .i64 31 zs]),some (.sl 3 1 (bK zs k).length [.ints .i64 (bK zs k).length (bK zs k)])]⟩) (fun s=>8-vI s 8) rfl rfl rfl rfl ⟨0,by omega,rfl⟩ ?_)
 rintro s ⟨k,hk,rfl⟩
 have hw:IntKind.i64.wrap ((k:Int)+1)=((k+1:Nat):Int):=by rw[gH (by omega) (by omega)];omega
 by_cases hk8:k<8
 ·have L:=nQ zs k
  by_cases hz:((zs.take 16).drop (k*2)).take 2=[0,0]
  ·have hs:bK zs (k+1)=bK zs k:=by rw[bK,if_neg (by simp[eH,bZ,hz]),List.append_nil]
   refine dG ?_
   refine⟨⟨k+1,by omega,by rw[hs,<-hw];rfl⟩,?_⟩
   show 8- (IntKind.i64.wrap ((k:Int)+1)).toNat<8- (k:Int).toNat
   rw[hw];omega
  ·have hs:bK zs (k+1)=bK zs k++[(k:Int)]:=by rw[bK,if_pos (by simp[eH,bZ,hz])]
   refine dG ?_
   refine⟨⟨k+1,by omega,by rw[hs,List.length_append,<-hw];rfl⟩,?_⟩
   show 8- (IntKind.i64.wrap ((k:Int)+1)).toNat<8- (k:Int).toNat
   rw[hw];omega
 ·obtain rfl:k=8:=by omega
  refine dG ?_;(try exact⟨⟩)
def AQ:List A->(bC->Prop)->Prop
 |[.agg [.ints .i64 31 zs]],K=>K (.o 3 1 (bK zs 8).length [.ints .i64 (bK zs 8).length (bK zs 8)])
 |_,_=>False
theorem Dq:∀args K,AQ args K->∃r,aV 197 args r/\K r:=by
 intro args K h
 unfold AQ at h
 split at h
 ·exact⟨_,SK _,h⟩
 ·exact h.elim
def bZ4:ak:=ai8.add 196 VB Ot (.of Tryz.func196)
def bj2:ak:=bZ4.add 197 AQ Dq (.of Tryz.func197)
def SA:List A->(bC->Prop)->Prop
 |[.agg [.ints .i64 31 zs],.v (.int .i64 i)],K=>K (.d (.v (.bool (dS zs i))))
 |_,_=>False
theorem ap9(zs:List Int)(i:Int):aV 159 [.agg [.ints .i64 31 zs],.v (.int .i64 i)] (.d (.v (.bool (dS zs i)))):=by
 refine eO (E:=bj2) Tryz.func159 Tryz.ntmps159 ?_
 have L:(bK zs 8).length<=1000000:=Nat.le_trans (nQ zs 8) (by decide)
 refine ago ?_
 rw[Et]
theorem Yh:∀args K,SA args K->∃r,aV 159 args r/\K r:=by
 intro args K h
 unfold SA at h
 split at h
 ·exact⟨_,ap9 _ _,h⟩
 ·exact h.elim
def mJ(ad:List Bool):Nat:=ad.countP id
theorem ae7(ad:List Bool)(k:Nat)(hk:k<ad.length):mJ (ad.take (k+1))=mJ (ad.take k)+(if ad.getD k false=true then 1 else 0):=by
 unfold mJ
 rw[List.take_succ_eq_append_getElem hk,List.countP_append,List.countP_singleton]
 simp[List.getD_eq_getElem?_getD,hk]
theorem br1(ad:List Bool):mJ ad<=ad.length:=List.countP_le_length
end
section
def om:List Seg->Prop
 |[]=>True
 | .ints _ n zs::l=>zs.length=n/\om l
 | .bytes n bs::l=>bs.length=n/\om l
 | .bools n bs::l=>bs.length=n/\om l
 | .gen n jq::l=>jq.length=n/\om l
def xJ:List A->Prop
 |[]=>True
 | .agg l::r=>om l/\xJ r
 | .row _ l::r=>om l/\xJ r
 |_::r=>xJ r
theorem rP{S:Nat->Prop}{w:World}:∀{l:List Seg} {cs:List Value},RL S w l cs->om l
 |_,_,.nil=>trivial
 |_,_,.ints h r=>⟨h,rP r⟩
 |_,_,.bytes h r=>⟨h,rP r⟩
 |_,_,.bools h r=>⟨h,rP r⟩
 |_,_,.gen _ h r=>⟨h,rP r⟩
theorem GJ{S:Nat->Prop}{w:World}:∀{l:List A} {vs:List Value},mH S w l vs->xJ l
 |_,_,.nil=>trivial
 |_,_,.cons h r=>by
  have ih:=GJ r
  cases h with
  |v=>exact ih
  |agg h=>exact⟨rP h,ih⟩
  |row h=>exact⟨rP h,ih⟩
  |ref=>exact ih
  |sref=>exact ih
  |recs=>exact ih
  |NM=>exact ih
theorem iY{P:Program}{G:Nat->Option (List Seg)}{f:FuncId}{args:List A}{res:bC}(h:xJ args->mG P G f args res):mG P G f args res:=
 fun S w vs hG ha=>h (GJ ha) S w vs hG ha
theorem aQ8{D:Nat->Prop}{w:World}{r:Nat}{l:List Seg}(h:HB D w r (.var l)):om l:=by
 obtain⟨cs,t,_,h⟩:=h
 exact rP h
theorem FC{P:Program}{G:Nat->Option (List Seg)}{f:FuncId}{pos:Nat}{l:List Seg}{x':Bk}{args:List A}{res:bC}(h:om l->xJ args->QK P G f pos (.var l) args res x'):QK P G f pos (.var l) args res x':=
 fun S w r vs hr hG hb ha=>h (aQ8 hb) (GJ ha) S w r vs hr hG hb ha
end
end Go.Proofs.YtegalalmamofdaaGreatDoor
