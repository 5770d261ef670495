/-
  Operations as bytes, sums of views.
-/
import Derived.Test.YtjhgelfnmhdihaaGreatDoorJ25
import Derived.Test.YtjhgelfnmhdihaaGreatDoorJ19
namespace Go.Proofs.YtjhgelfnmhdihaaGreatDoor
set_option linter.unusedVariables false
set_option linter.unusedSimpArgs false
set_option maxRecDepth 100000
open Go.RowKit
section
open Pm
attribute [local irreducible] aU aZ bR bZ aF aN vv
def mh(ad:List Bool):List UInt8:=ad.map fun b=>if b=true then 1 else 0
def lN(ad:List Bool)(j:Nat):List UInt8:=(mh ad).take j++List.replicate (8-j) 0
theorem flagsT_8{ad:List Bool}(h:ad.length=8):lN ad 8=mh ad:=by
 unfold lN
 rw[List.take_of_length_le (by simp[mh,h]),Nat.sub_self,List.replicate_zero,List.append_nil]
theorem Dl{ad:List Bool}(h:ad.length=8){j:Nat}(hj:j<8):lN ad (j+1)=(lN ad j).set j (if ad.getD j false=true then 1 else 0):=by
 have hl:(mh ad).length=8:=by simp[mh,h]
 unfold lN
 rw[List.set_append_right _ _ (by simp;omega),List.length_take,hl,Nat.min_eq_left (by omega),Nat.sub_self,show 8-j=(8- (j+1))+1 by omega,List.replicate_succ,List.set_cons_zero,List.take_add_one,List.append_assoc]
 congr 1
 rw[List.getElem?_eq_getElem (by omega)]
 simp[mh,List.getD_eq_getElem?_getD,List.getElem?_eq_getElem (show j<ad.length by omega)]
theorem flagsT_0{ad:List Bool}(h:ad.length=8){j:Nat}(hj:j<8)(hb:ad.getD j false=false):lN ad (j+1)=lN ad j:=by
 have hl:(mh ad).length=8:=by simp[mh,h]
 have h1:=Dl h hj
 rw[hb]at h1
 rw[h1]
 unfold lN
 rw[List.set_append_right _ _ (by simp;omega),List.length_take,hl,Nat.min_eq_left (by omega),Nat.sub_self,show 8-j=(8- (j+1))+1 by omega,List.replicate_succ,List.set_cons_zero]
 rfl
theorem flagsT_1{ad:List Bool}(h:ad.length=8){j:Nat}(hj:j<8)(hb:ad.getD j false=true):lN ad (j+1)=(lN ad j).set j 1:=by
 have h1:=Dl h hj
 rw[hb]at h1
 exact h1
attribute [local irreducible] lN
theorem flagsT_00(ad:List Bool):lN ad 0=[0,0,0,0,0,0,0,0]:=by rw[lN];rfl
set_option maxHeartbeats 4000000 in
theorem Ym(ad:List Bool):aP 194 [.agg [.bools 8 ad]] (.o 5 1 8 [.bytes 8 (mh ad)]):=by
 refine iq fun hl=>?_
 replace hl:ad.length=8:=hl.1.1
 refine dK (E:=KH) Tryz.func194 Tryz.ntmps194 ?_
 refine aj ?_;(try exact⟨⟩)
 refine aM.mk (bV [1,3,4] [0,1] 8 (fun j=>⟨[.ah,.ptr 0 0,.ah,.own 1 8,.d (.v (.int .i64 (j:Nat))),.ah,.ah,.ah,.ah,.ah,.ah,.ah,.ah,.ah,.ah,.ah,.ah],[some (.var [.bools 8 ad]),some (.sl 5 1 8 [.bytes 8 (lN ad j)])]⟩) ?_ (h2:=by rw[flagsT_00];exact rfl))
 intro j hj YV
 by_cases Un:j<8
 ·cases hb:ad.getD j false with
  |true=>
   refine aj ?_;(try exact⟨⟩)
   refine YV.go Un [1,3,4] [0,1] ?_
   rw[flagsT_1 hl Un hb]
   rfl
  |false=>
   refine aj ?_;(try exact⟨⟩)
   refine YV.go Un [1,3,4] [0,1] ?_
   rw[flagsT_0 hl Un hb]
   rfl
 ·obtain rfl:j=8:=by omega
  rw[flagsT_8 hl]
  refine aj ?_;(try exact⟨⟩)
def aR(e:Int)(zs:List Int)(ad:List Bool)(k:Int)(ch:List UInt8):List UInt8:=aF ch (sb ⟨#[118,105,101,119]⟩) (bZ e++(bZ k++(mh ad++vv zs)))
set_option maxHeartbeats 4000000 in
theorem MX(e:Int)(zs:List Int)(ad:List Bool)(k:Int)(ch:List UInt8):aP 114 [.agg (bS e zs ad k ch)] (.d (.agg [.bytes 32 (aR e zs ad k ch)])):=by
 refine iq fun hl=>?_
 have hl1:zs.length=31:=hl.1.2.1
 have hl2:ad.length=8:=hl.1.2.2.1
 clear hl
 refine dK (E:=KH) Tryz.func114 Tryz.ntmps114 ?_
 refine aj ?_;(try exact⟨⟩)
 refine aM.mk (bV [1,2,3,8,9] [0,1,2] 8 (fun j=>⟨[.ah,.ptr 0 0,.ptr 1 0,.ptr 2 0,.ah,.ah,.ah,.ah,.d (.agg [.bools 8 ad]),.d (.v (.int .i64 (j:Nat))),.ah,.ah,.ah,.ah,.ah,.ah,.ah,.ah,.ah,.ah,.ah,.ah,.ah,.ah,.ah,.ah,.ah,.ah,.ah,.ah,.ah,.ah],[some (.var (bS e zs ad k ch)),some (.var [.bytes 32 (List.replicate 32 0)]),some (.var [.bytes 8 (lN ad j)])]⟩) ?_ (h2:=by rw[flagsT_00];exact rfl))
 intro j hj YV
 by_cases Un:j<8
 ·cases hb:ad.getD j false with
  |true=>
   refine aj ?_;(try exact⟨⟩)
   refine YV.go Un [1,2,3,8,9] [0,1,2] ?_
   rw[flagsT_1 hl2 Un hb]
   rfl
  |false=>
   refine aj ?_;(try exact⟨⟩)
   refine YV.go Un [1,2,3,8,9] [0,1,2] ?_
   rw[flagsT_0 hl2 Un hb]
   rfl
 ·obtain rfl:j=8:=by omega
  rw[flagsT_8 hl2]
  refine aj ?_;(try exact⟨⟩)
  rfl
theorem uG(L:List Int)(i k:Nat)(hk:k<5):((L.drop i).take 5).getD k 0=L.getD (i+k) 0:=by
 rw[List.getD_eq_getElem?_getD,List.getElem?_take,if_pos hk,List.getElem?_drop,←List.getD_eq_getElem?_getD]
theorem ao5{o:List Int}(h:o.length=5):o=[o.getD 0 0,o.getD 1 0,o.getD 2 0,o.getD 3 0,o.getD 4 0]:=by
 rcases o with _|⟨a,_|⟨b,_|⟨c,_|⟨d,_|⟨e,_|⟨f,l⟩⟩⟩⟩⟩⟩<;>first|(simp at h;done)|rfl
theorem Eb(zs:List Int){i:Nat}(h:i+5≤zs.length):aN (zs.take (i+5))=aN (zs.take i)++aN [((zs.drop i).take 5).getD 0 0,((zs.drop i).take 5).getD 1 0,((zs.drop i).take 5).getD 2 0,((zs.drop i).take 5).getD 3 0,((zs.drop i).take 5).getD 4 0]:=by
 rw[←ao5 (o:=(zs.drop i).take 5) (by simp;omega),←oM,List.take_add]
set_option maxHeartbeats 4000000 in
theorem ZV(zs:List Int)(n:Nat)(hz:zs.length=n*5)(hn:n≤1000000):aP 179 [.row n [.ints .i64 (n*5) zs]] (.o 5 1 (n*40) [.bytes (n*40) (aN zs)]):=by
 refine dK (E:=KH) Tryz.func179 Tryz.ntmps179 ?_
 refine aj ?_;(try exact⟨⟩)
 refine aM.mk (jw [3,8,9,10] [0] 3 5 1 [.bytes 0 []] n (fun j=>⟨[.ah,.ah,.ah,.own 0 (j*40),.ah,.ah,.ah,.ah,.d (.row n [.ints .i64 (n*5) zs]),.d (.v (.int .i64 (n:Nat))),.d (.v (.int .i64 (j:Nat))),.ah,.ah,.ah,.ah,.ah,.ah,.ah,.ah,.ah,.ah,.ah,.ah,.ah,.ah,.ah,.ah,.ah,.ah,.ah,.ah,.ah,.ah,.ah,.ah,.ah,.ah],[some (.sl 5 1 (j*40) [.bytes (j*40) (aN (zs.take (j*5)))])]⟩) ?_ (h2:=by rw[Nat.zero_mul,List.take_zero,jy];exact rfl))
 intro j hj hl
 by_cases hjn:j<n
 ·refine aj ?_;(try exact⟨⟩)
  refine aM.mk (aB 6 ?_)
  refine aj ?_;(try exact⟨⟩)
  refine hl.go hjn [3,8,9,10] [0] ?_
  rw[show(j+1)*5=j*5+5 by omega,Eb zs (by omega),show(j+1)*40=j*40+8+8+8+8+8 by omega]
  simp only[sG,jy,List.append_nil,←List.append_assoc]
  rfl
 ·obtain rfl:j=n:=by omega
  rw[show zs.take (j*5)=zs from List.take_of_length_le (by omega)]
  refine aj ?_;(try exact⟨⟩)
set_option maxHeartbeats 4000000 in
theorem Sk(zs:List Int)(n:Nat)(hz:zs.length=n*5)(hn:n≤1000000):aP 93 [.row n [.ints .i64 (n*5) zs]] (.o 5 1 (n*40) [.bytes (n*40) (aN zs)]):=by
 refine dK (E:=KH) Tryz.func93 Tryz.ntmps93 ?_
 refine aj ?_;(try exact⟨⟩)
 refine aM.mk (jw [0,3,4] [0] 3 5 1 [.bytes 0 []] n (fun j=>⟨[.d (.row n [.ints .i64 (n*5) zs]),.ah,.ah,.own 0 (j*40),.d (.v (.int .i64 (j:Nat))),.ah,.ah,.ah,.ah,.ah,.ah,.ah,.ah,.ah,.ah,.ah,.ah,.ah,.ah,.ah,.ah,.ah,.ah,.ah,.ah,.ah,.ah,.ah,.ah,.ah,.ah,.ah,.ah,.ah,.ah,.ah,.ah,.ah,.ah,.ah,.ah,.ah,.ah],[some (.sl 5 1 (j*40) [.bytes (j*40) (aN (zs.take (j*5)))])]⟩) ?_ (h2:=by rw[Nat.zero_mul,List.take_zero,jy];exact rfl))
 intro j hj hl
 by_cases hjn:j<n
 ·refine aj ?_;(try exact⟨⟩)
  refine hl.go hjn [0,3,4] [0] ?_
  rw[show(j+1)*5=j*5+5 by omega,Eb zs (by omega),show(j+1)*40=j*40+40 by omega,uG _ _ 0 (by omega),uG _ _ 1 (by omega),uG _ _ 2 (by omega),uG _ _ 3 (by omega),uG _ _ 4 (by omega)]
  rfl
 ·obtain rfl:j=n:=by omega
  rw[show zs.take (j*5)=zs from List.take_of_length_le (by omega)]
  refine aj ?_;(try exact⟨⟩)
def Om:List A→(bP→Prop)→Prop
 |[.agg [.bools 8 ad]],K=>K (.o 5 1 8 [.bytes 8 (mh ad)])
 |_,_=>False
theorem TW:∀args K,Om args K→∃r,aP 194 args r∧K r:=by
 intro args K h
 unfold Om at h
 split at h
 ·exact⟨_,Ym _,h⟩
 ·exact h.elim
noncomputable def aC1:ay:=KH.add 194 Om TW ⟨_,Tryz.func194,by kernel_rfl,by kernel_rfl⟩
attribute [local irreducible] mh
set_option maxHeartbeats 4000000 in
theorem G9(e:Int)(zs:List Int)(ad:List Bool)(k:Int)(ch:List UInt8):aP 150 [.agg (bS e zs ad k ch)] (.d (.agg [.bytes 32 (aR e zs ad k ch)])):=by
 refine iq fun hl=>?_
 have hl1:zs.length=31:=hl.1.2.1
 have hl2:ad.length=8:=hl.1.2.2.1
 clear hl
 refine dK (E:=aC1) Tryz.func150 Tryz.ntmps150 ?_
 have hb1:(aN [e,k]).length=16:=jc _
 have hb2:(mh ad).length=8:=by unfold mh;simp[hl2]
 have hb3:(vv zs).length=32:=by unfold vv aF;exact bO _
 refine aj ?_;(try exact⟨⟩)
 unfold aR
 simp only[sG,jy,List.append_nil,List.append_assoc]
def AJ:List A→(bP→Prop)→Prop
 |[.agg [.ints .i64 1 [e],.ints .i64 31 zs,.bools 8 ad,.ints .i64 1 [k],.bytes 32 ch]],K=>K (.d (.agg [.bytes 32 (aR e zs ad k ch)]))
 |_,_=>False
theorem wD{f:FuncId}(hx:∀e zs ad k ch,aP f [.agg (bS e zs ad k ch)] (.d (.agg [.bytes 32 (aR e zs ad k ch)]))):∀args K,AJ args K→∃r,aP f args r∧K r:=by
 intro args K h
 unfold AJ at h
 split at h
 ·exact⟨_,hx _ _ _ _ _,h⟩
 ·exact h.elim
end
end Go.Proofs.YtjhgelfnmhdihaaGreatDoor
