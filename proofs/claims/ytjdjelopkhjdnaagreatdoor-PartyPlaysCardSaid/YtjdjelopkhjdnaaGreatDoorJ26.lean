/-
  Operations as bytes, sums of views.
-/
import Derived.Test.YtjdjelopkhjdnaaGreatDoorJ25
import Derived.Test.YtjdjelopkhjdnaaGreatDoorJ19
namespace Go.Proofs.YtjdjelopkhjdnaaGreatDoor
set_option linter.unusedVariables false
set_option linter.unusedSimpArgs false
set_option maxRecDepth 100000
open Go.RowKit
section
open Pm
attribute [local irreducible] aV aZ bQ bW aF aN uZ
def lY(ad:List Bool):List UInt8:=ad.map fun b=>if b=true then 1 else 0
def lF(ad:List Bool)(j:Nat):List UInt8:=(lY ad).take j++List.replicate (8-j) 0
theorem flagsT_8{ad:List Bool}(h:ad.length=8):lF ad 8=lY ad:=by
 unfold lF
 rw[List.take_of_length_le (by simp[lY,h]),Nat.sub_self,List.replicate_zero,List.append_nil]
theorem Dc{ad:List Bool}(h:ad.length=8){j:Nat}(hj:j<8):lF ad (j+1)=(lF ad j).set j (if ad.getD j false=true then 1 else 0):=by
 have hl:(lY ad).length=8:=by simp[lY,h]
 unfold lF
 rw[List.set_append_right _ _ (by simp;omega),List.length_take,hl,Nat.min_eq_left (by omega),Nat.sub_self,show 8-j=(8- (j+1))+1 by omega,List.replicate_succ,List.set_cons_zero,List.take_add_one,List.append_assoc]
 congr 1
 rw[List.getElem?_eq_getElem (by omega)]
 simp[lY,List.getD_eq_getElem?_getD,List.getElem?_eq_getElem (show j<ad.length by omega)]
theorem flagsT_0{ad:List Bool}(h:ad.length=8){j:Nat}(hj:j<8)(hb:ad.getD j false=false):lF ad (j+1)=lF ad j:=by
 have hl:(lY ad).length=8:=by simp[lY,h]
 have h1:=Dc h hj
 rw[hb]at h1
 rw[h1]
 unfold lF
 rw[List.set_append_right _ _ (by simp;omega),List.length_take,hl,Nat.min_eq_left (by omega),Nat.sub_self,show 8-j=(8- (j+1))+1 by omega,List.replicate_succ,List.set_cons_zero]
 rfl
theorem flagsT_1{ad:List Bool}(h:ad.length=8){j:Nat}(hj:j<8)(hb:ad.getD j false=true):lF ad (j+1)=(lF ad j).set j 1:=by
 have h1:=Dc h hj
 rw[hb]at h1
 exact h1
attribute [local irreducible] lF
theorem flagsT_00(ad:List Bool):lF ad 0=[0,0,0,0,0,0,0,0]:=by rw[lF];rfl
set_option maxHeartbeats 4000000 in
theorem Yd(ad:List Bool):aQ 176 [.agg [.bools 8 ad]] (.o 5 1 8 [.bytes 8 (lY ad)]):=by
 refine gY fun hl=>?_
 replace hl:ad.length=8:=hl.1.1
 refine dF (E:=Km) Tryz.func176 Tryz.ntmps176 ?_
 refine aj ?_;(try exact⟨⟩)
 refine aM.mk (bV [1,3,4] [0,1] 8 (fun j=>⟨[.ah,.ptr 0 0,.ah,.own 1 8,.d (.v (.int .i64 (j:Nat))),.ah,.ah,.ah,.ah,.ah,.ah,.ah,.ah,.ah,.ah,.ah,.ah],[some (.var [.bools 8 ad]),some (.sl 5 1 8 [.bytes 8 (lF ad j)])]⟩) ?_ (h2:=by rw[flagsT_00];exact rfl))
 intro j hj YO
 by_cases Ua:j<8
 ·cases hb:ad.getD j false with
  |true=>
   refine aj ?_;(try exact⟨⟩)
   refine YO.go Ua [1,3,4] [0,1] ?_
   rw[flagsT_1 hl Ua hb]
   rfl
  |false=>
   refine aj ?_;(try exact⟨⟩)
   refine YO.go Ua [1,3,4] [0,1] ?_
   rw[flagsT_0 hl Ua hb]
   rfl
 ·obtain rfl:j=8:=by omega
  rw[flagsT_8 hl]
  refine aj ?_;(try exact⟨⟩)
def aT(e:Int)(zs:List Int)(ad:List Bool)(k:Int)(ch:List UInt8):List UInt8:=aF ch (sb ⟨#[118,105,101,119]⟩) (bW e++(bW k++(lY ad++uZ zs)))
set_option maxHeartbeats 4000000 in
theorem MJ(e:Int)(zs:List Int)(ad:List Bool)(k:Int)(ch:List UInt8):aQ 89 [.agg (bR e zs ad k ch)] (.d (.agg [.bytes 32 (aT e zs ad k ch)])):=by
 refine gY fun hl=>?_
 have hl1:zs.length=31:=hl.1.2.1
 have hl2:ad.length=8:=hl.1.2.2.1
 clear hl
 refine dF (E:=Km) Tryz.func89 Tryz.ntmps89 ?_
 refine aj ?_;(try exact⟨⟩)
 refine aM.mk (bV [1,2,3,8,9] [0,1,2] 8 (fun j=>⟨[.ah,.ptr 0 0,.ptr 1 0,.ptr 2 0,.ah,.ah,.ah,.ah,.d (.agg [.bools 8 ad]),.d (.v (.int .i64 (j:Nat))),.ah,.ah,.ah,.ah,.ah,.ah,.ah,.ah,.ah,.ah,.ah,.ah,.ah,.ah,.ah,.ah,.ah,.ah,.ah,.ah,.ah,.ah],[some (.var (bR e zs ad k ch)),some (.var [.bytes 32 (List.replicate 32 0)]),some (.var [.bytes 8 (lF ad j)])]⟩) ?_ (h2:=by rw[flagsT_00];exact rfl))
 intro j hj YO
 by_cases Ua:j<8
 ·cases hb:ad.getD j false with
  |true=>
   refine aj ?_;(try exact⟨⟩)
   refine YO.go Ua [1,2,3,8,9] [0,1,2] ?_
   rw[flagsT_1 hl2 Ua hb]
   rfl
  |false=>
   refine aj ?_;(try exact⟨⟩)
   refine YO.go Ua [1,2,3,8,9] [0,1,2] ?_
   rw[flagsT_0 hl2 Ua hb]
   rfl
 ·obtain rfl:j=8:=by omega
  rw[flagsT_8 hl2]
  refine aj ?_;(try exact⟨⟩)
  rfl
theorem uw(L:List Int)(i k:Nat)(hk:k<5):((L.drop i).take 5).getD k 0=L.getD (i+k) 0:=by
 rw[List.getD_eq_getElem?_getD,List.getElem?_take,if_pos hk,List.getElem?_drop,←List.getD_eq_getElem?_getD]
theorem an8{o:List Int}(h:o.length=5):o=[o.getD 0 0,o.getD 1 0,o.getD 2 0,o.getD 3 0,o.getD 4 0]:=by
 rcases o with _|⟨a,_|⟨b,_|⟨c,_|⟨d,_|⟨e,_|⟨f,l⟩⟩⟩⟩⟩⟩<;>first|(simp at h;done)|rfl
theorem DY(zs:List Int){i:Nat}(h:i+5≤zs.length):aN (zs.take (i+5))=aN (zs.take i)++aN [((zs.drop i).take 5).getD 0 0,((zs.drop i).take 5).getD 1 0,((zs.drop i).take 5).getD 2 0,((zs.drop i).take 5).getD 3 0,((zs.drop i).take 5).getD 4 0]:=by
 rw[←an8 (o:=(zs.drop i).take 5) (by simp;omega),←oF,List.take_add]
set_option maxHeartbeats 4000000 in
theorem ZN(zs:List Int)(n:Nat)(hz:zs.length=n*5)(hn:n≤1000000):aQ 162 [.row n [.ints .i64 (n*5) zs]] (.o 5 1 (n*40) [.bytes (n*40) (aN zs)]):=by
 refine dF (E:=Km) Tryz.func162 Tryz.ntmps162 ?_
 refine aj ?_;(try exact⟨⟩)
 refine aM.mk (jk [3,8,9,10] [0] 3 5 1 [.bytes 0 []] n (fun j=>⟨[.ah,.ah,.ah,.own 0 (j*40),.ah,.ah,.ah,.ah,.d (.row n [.ints .i64 (n*5) zs]),.d (.v (.int .i64 (n:Nat))),.d (.v (.int .i64 (j:Nat))),.ah,.ah,.ah,.ah,.ah,.ah,.ah,.ah,.ah,.ah,.ah,.ah,.ah,.ah,.ah,.ah,.ah,.ah,.ah,.ah,.ah,.ah,.ah,.ah,.ah,.ah],[some (.sl 5 1 (j*40) [.bytes (j*40) (aN (zs.take (j*5)))])]⟩) ?_ (h2:=by rw[Nat.zero_mul,List.take_zero,jl];exact rfl))
 intro j hj hl
 by_cases hjn:j<n
 ·refine aj ?_;(try exact⟨⟩)
  refine aM.mk (aB 6 ?_)
  refine aj ?_;(try exact⟨⟩)
  refine hl.go hjn [3,8,9,10] [0] ?_
  rw[show(j+1)*5=j*5+5 by omega,DY zs (by omega),show(j+1)*40=j*40+8+8+8+8+8 by omega]
  simp only[sF,jl,List.append_nil,←List.append_assoc]
  rfl
 ·obtain rfl:j=n:=by omega
  rw[show zs.take (j*5)=zs from List.take_of_length_le (by omega)]
  refine aj ?_;(try exact⟨⟩)
set_option maxHeartbeats 4000000 in
theorem R3(zs:List Int)(n:Nat)(hz:zs.length=n*5)(hn:n≤1000000):aQ 143 [.row n [.ints .i64 (n*5) zs]] (.o 5 1 (n*40) [.bytes (n*40) (aN zs)]):=by
 refine dF (E:=Km) Tryz.func143 Tryz.ntmps143 ?_
 refine aj ?_;(try exact⟨⟩)
 refine aM.mk (jk [0,3,4] [0] 3 5 1 [.bytes 0 []] n (fun j=>⟨[.d (.row n [.ints .i64 (n*5) zs]),.ah,.ah,.own 0 (j*40),.d (.v (.int .i64 (j:Nat))),.ah,.ah,.ah,.ah,.ah,.ah,.ah,.ah,.ah,.ah,.ah,.ah,.ah,.ah,.ah,.ah,.ah,.ah,.ah,.ah,.ah,.ah,.ah,.ah,.ah,.ah,.ah,.ah,.ah,.ah,.ah,.ah,.ah,.ah,.ah,.ah,.ah,.ah],[some (.sl 5 1 (j*40) [.bytes (j*40) (aN (zs.take (j*5)))])]⟩) ?_ (h2:=by rw[Nat.zero_mul,List.take_zero,jl];exact rfl))
 intro j hj hl
 by_cases hjn:j<n
 ·refine aj ?_;(try exact⟨⟩)
  refine hl.go hjn [0,3,4] [0] ?_
  rw[show(j+1)*5=j*5+5 by omega,DY zs (by omega),show(j+1)*40=j*40+40 by omega,uw _ _ 0 (by omega),uw _ _ 1 (by omega),uw _ _ 2 (by omega),uw _ _ 3 (by omega),uw _ _ 4 (by omega)]
  rfl
 ·obtain rfl:j=n:=by omega
  rw[show zs.take (j*5)=zs from List.take_of_length_le (by omega)]
  refine aj ?_;(try exact⟨⟩)
def NY:List A→(bP→Prop)→Prop
 |[.agg [.bools 8 ad]],K=>K (.o 5 1 8 [.bytes 8 (lY ad)])
 |_,_=>False
theorem TH:∀args K,NY args K→∃r,aQ 176 args r∧K r:=by
 intro args K h
 unfold NY at h
 split at h
 ·exact⟨_,Yd _,h⟩
 ·exact h.elim
noncomputable def aB3:av:=Km.add 176 NY TH ⟨_,Tryz.func176,by kernel_rfl,by kernel_rfl⟩
attribute [local irreducible] lY
set_option maxHeartbeats 4000000 in
theorem GN(e:Int)(zs:List Int)(ad:List Bool)(k:Int)(ch:List UInt8):aQ 113 [.agg (bR e zs ad k ch)] (.d (.agg [.bytes 32 (aT e zs ad k ch)])):=by
 refine gY fun hl=>?_
 have hl1:zs.length=31:=hl.1.2.1
 have hl2:ad.length=8:=hl.1.2.2.1
 clear hl
 refine dF (E:=aB3) Tryz.func113 Tryz.ntmps113 ?_
 have hb1:(aN [e,k]).length=16:=iX _
 have hb2:(lY ad).length=8:=by unfold lY;simp[hl2]
 have hb3:(uZ zs).length=32:=by unfold uZ aF;exact bM _
 refine aj ?_;(try exact⟨⟩)
 unfold aT
 simp only[sF,jl,List.append_nil,List.append_assoc]
def Av:List A→(bP→Prop)→Prop
 |[.agg [.ints .i64 1 [e],.ints .i64 31 zs,.bools 8 ad,.ints .i64 1 [k],.bytes 32 ch]],K=>K (.d (.agg [.bytes 32 (aT e zs ad k ch)]))
 |_,_=>False
theorem wm{f:FuncId}(hx:∀e zs ad k ch,aQ f [.agg (bR e zs ad k ch)] (.d (.agg [.bytes 32 (aT e zs ad k ch)]))):∀args K,Av args K→∃r,aQ f args r∧K r:=by
 intro args K h
 unfold Av at h
 split at h
 ·exact⟨_,hx _ _ _ _ _,h⟩
 ·exact h.elim
end
end Go.Proofs.YtjdjelopkhjdnaaGreatDoor
