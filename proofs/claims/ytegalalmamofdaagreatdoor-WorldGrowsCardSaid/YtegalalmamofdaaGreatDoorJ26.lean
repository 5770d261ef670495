/- -/
import Derived.Test.YtegalalmamofdaaGreatDoorJ25
import Derived.Test.YtegalalmamofdaaGreatDoorJ19
namespace Go.Proofs.YtegalalmamofdaaGreatDoor
set_option linter.all false
set_option maxRecDepth 100000
open Go.RowKit
set_option maxHeartbeats 8000000
variable{ad:List Bool}
section
open Pm
attribute [local irreducible] aN aQ bq aC aD aF Ic
def dR(ad:List Bool):List UInt8:=ad.map fun b=>if b=true then 1 else 0
def mU(ad:List Bool)(j:Nat):List UInt8:=(dR ad).take j++List.replicate (8-j) 0
theorem flagsT_8(h:ad.length=8):mU ad 8=dR ad:=by
 unfold mU
 rw[List.take_of_length_le (by simp[dR,h]),Nat.sub_self,List.replicate_zero,List.append_nil]
theorem Fz(h:ad.length=8){j:Nat}(hj:j<8):mU ad (j+1)=(mU ad j).set j (if ad.getD j false=true then 1 else 0):=by
 have hl:(dR ad).length=8:=by simp[dR,h]
 unfold mU
 rw[List.set_append_right _ _ (by simp;omega),List.length_take,hl,Nat.min_eq_left (by omega),Nat.sub_self,show 8-j=(8- (j+1))+1 by omega,List.replicate_succ,List.set_cons_zero,List.take_add_one,List.append_assoc]
 congr 1
 rw[List.getElem?_eq_getElem (by omega)]
 simp[dR,List.getD_eq_getElem?_getD,List.getElem?_eq_getElem (show j<ad.length by omega)]
theorem flagsT_0(h:ad.length=8){j:Nat}(hj:j<8)(hb:ad.getD j false=false):mU ad (j+1)=mU ad j:=by
 have hl:(dR ad).length=8:=by simp[dR,h]
 have h1:=Fz h hj
 rw[hb]at h1
 rw[h1]
 unfold mU
 rw[List.set_append_right _ _ (by simp;omega),List.length_take,hl,Nat.min_eq_left (by omega),Nat.sub_self,show 8-j=(8- (j+1))+1 by omega,List.replicate_succ,List.set_cons_zero]
 rfl
theorem flagsT_1(h:ad.length=8){j:Nat}(hj:j<8)(hb:ad.getD j false=true):mU ad (j+1)=(mU ad j).set j 1:=by
 have h1:=Fz h hj
 rw[hb]at h1
 exact h1
attribute [local irreducible] mU
theorem flagsT_00(ad:List Bool):mU ad 0=[0,0,0,0,0,0,0,0]:=by rw[mU];rfl
def bR(e:Int)(zs:List Int)(ad:List Bool)(k:Int)(ch:List UInt8):List UInt8:=aD ch (sb ⟨#[118,105,101,119]⟩) (aC e++(aC k++(dR ad++Ic zs)))
theorem Qr(e:Int)(zs:List Int)(ad:List Bool)(k:Int)(ch:List UInt8):aV 79 [.agg (eD e zs ad k ch)] (.d (.agg [.bytes 32 (bR e zs ad k ch)])):=by
 refine iY fun hl=>?_
 have hl1:zs.length=31:=hl.1.2.1
 have hl2:ad.length=8:=hl.1.2.2.1
 clear hl
 refine eO (E:=ah6) Tryz.func79 Tryz.ntmps79 ?_
 refine ah ?_
 refine aX.mk (cB [1,2,3,8,9] [0,1,2] 8 (fun j=>⟨.au::.ptr 0 0::.ptr 1 0::.ptr 2 0::.au::.au::.au::.au::.d (.agg [.bools 8 ad])::.d (.v (.int .i64 (j:Nat)))::dz 22 [],[some (.var (eD e zs ad k ch)),some (.var [.bytes 32 (List.replicate 32 0)]),some (.var [.bytes 8 (mU ad j)])]⟩) ?_ (h2:=by rw[flagsT_00];exact rfl))
 intro j hj hl8
 by_cases hj8:j<8
 ·cases hb:ad.getD j false with
  |true=>
   refine ah ?_
   refine hl8.go hj8 [1,2,3,8,9] [0,1,2] ?_
   rw[flagsT_1 hl2 hj8 hb]
   rfl
  |false=>
   refine ah ?_
   refine hl8.go hj8 [1,2,3,8,9] [0,1,2] ?_
   rw[flagsT_0 hl2 hj8 hb]
   rfl
 ·obtain rfl:j=8:=by omega
  rw[flagsT_8 hl2]
  refine ah ?_;(try exact⟨⟩)
  rfl
theorem aO7{o:List Int}(h:o.length=5):o=[o.getD 0 0,o.getD 1 0,o.getD 2 0,o.getD 3 0,o.getD 4 0]:=by
 rcases o with _|⟨a,_|⟨b,_|⟨c,_|⟨d,_|⟨e,_|⟨f,l⟩⟩⟩⟩⟩⟩<;>first|(simp at h;done)|rfl
theorem Te(zs:List Int){i:Nat}(h:i+5<=zs.length):aF (zs.take (i+5))=aF (zs.take i)++aF [((zs.drop i).take 5).getD 0 0,((zs.drop i).take 5).getD 1 0,((zs.drop i).take 5).getD 2 0,((zs.drop i).take 5).getD 3 0,((zs.drop i).take 5).getD 4 0]:=by
 rw[<-aO7 (o:=(zs.drop i).take 5) (by simp;omega),<-mW,List.take_add]
theorem ay1(zs:List Int)(n:Nat)(hz:zs.length=n*5)(hn:n<=1000000):aV 80 [.row n [.ints .i64 (n*5) zs]] (.o 5 1 (n*40) [.bytes (n*40) (aF zs)]):=by
 refine eO (E:=ah6) Tryz.func80 Tryz.ntmps80 ?_
 refine ah ?_
 refine aX.mk (qp [3,8,9,10] [0] 3 5 1 [.bytes 0 []] n (fun j=>⟨.au::.au::.au::.own 0 (j*40)::.au::.au::.au::.au::.d (.row n [.ints .i64 (n*5) zs])::.d (.v (.int .i64 (n:Nat)))::.d (.v (.int .i64 (j:Nat)))::dz 26 [],[some (.sl 5 1 (j*40) [.bytes (j*40) (aF (zs.take (j*5)))])]⟩) ?_ (h2:=by rw[Nat.zero_mul,List.take_zero,jL];exact rfl))
 intro j hj hl
 by_cases hjn:j<n
 ·refine ah ?_;(try exact⟨⟩)
  refine aX.mk (aH 6 ?_)
  refine ah ?_
  refine hl.go hjn [3,8,9,10] [0] ?_
  rw[show(j+1)*5=j*5+5 by omega,Te zs (by omega),show(j+1)*40=j*40+8+8+8+8+8 by omega]
  simp only[kr,jL,List.append_nil,<-List.append_assoc]
  rfl
 ·obtain rfl:j=n:=by omega
  rw[show zs.take (j*5)=zs from List.take_of_length_le (by omega)]
  refine ah ?_;(try exact⟨⟩)
noncomputable def bS2:ak:=ah6
attribute [local irreducible] dR
def MS:List A->(bC->Prop)->Prop
 |[.agg [.ints .i64 1 [e],.ints .i64 31 zs,.bools 8 ad,.ints .i64 1 [k],.bytes 32 ch]],K=>K (.d (.agg [.bytes 32 (bR e zs ad k ch)]))
 |_,_=>False
theorem KL{f:FuncId}(hx:∀e zs ad k ch,aV f [.agg (eD e zs ad k ch)] (.d (.agg [.bytes 32 (bR e zs ad k ch)]))):∀args K,MS args K->∃r,aV f args r/\K r:=by
 intro args K h
 unfold MS at h
 split at h
 ·exact⟨_,hx _ _ _ _ _,h⟩
 ·exact h.elim
end
end Go.Proofs.YtegalalmamofdaaGreatDoor
