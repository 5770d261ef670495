/-
  Operations as bytes, sums of views.
-/
import Derived.Test.YtbdmnobocecnfaaGreatDoorJ25
import Derived.Test.YtbdmnobocecnfaaGreatDoorJ19
namespace Go.Proofs.YtbdmnobocecnfaaGreatDoor
set_option linter.unusedVariables false
set_option linter.unusedSimpArgs false
set_option maxRecDepth 100000
open Go.RowKit
section
open Pm
attribute [local irreducible] condK LoopA regA numB deriveW numsB treeHV
def flagsB(ad:List Bool):List UInt8:=ad.map fun b=>if b=true then 1 else 0
def flagsT(ad:List Bool)(j:Nat):List UInt8:=(flagsB ad).take j++List.replicate (8-j) 0
theorem flagsT_8{ad:List Bool}(h:ad.length=8):flagsT ad 8=flagsB ad:=by
 unfold flagsT
 rw[List.take_of_length_le (by simp[flagsB,h]),Nat.sub_self,List.replicate_zero,List.append_nil]
theorem flagsT_get{ad:List Bool}(h:ad.length=8){j:Nat}(hj:j<8):flagsT ad (j+1)=(flagsT ad j).set j (if ad.getD j false=true then 1 else 0):=by
 have hl:(flagsB ad).length=8:=by simp[flagsB,h]
 unfold flagsT
 rw[List.set_append_right _ _ (by simp;omega),List.length_take,hl,Nat.min_eq_left (by omega),Nat.sub_self,show 8-j=(8- (j+1))+1 by omega,List.replicate_succ,List.set_cons_zero,List.take_add_one,List.append_assoc]
 congr 1
 rw[List.getElem?_eq_getElem (by omega)]
 simp[flagsB,List.getD_eq_getElem?_getD,List.getElem?_eq_getElem (show j<ad.length by omega)]
theorem flagsT_0{ad:List Bool}(h:ad.length=8){j:Nat}(hj:j<8)(hb:ad.getD j false=false):flagsT ad (j+1)=flagsT ad j:=by
 have hl:(flagsB ad).length=8:=by simp[flagsB,h]
 have h1:=flagsT_get h hj
 rw[hb]at h1
 rw[h1]
 unfold flagsT
 rw[List.set_append_right _ _ (by simp;omega),List.length_take,hl,Nat.min_eq_left (by omega),Nat.sub_self,show 8-j=(8- (j+1))+1 by omega,List.replicate_succ,List.set_cons_zero]
 rfl
theorem flagsT_1{ad:List Bool}(h:ad.length=8){j:Nat}(hj:j<8)(hb:ad.getD j false=true):flagsT ad (j+1)=(flagsT ad j).set j 1:=by
 have h1:=flagsT_get h hj
 rw[hb]at h1
 exact h1
attribute [local irreducible] flagsT
theorem flagsT_00(ad:List Bool):flagsT ad 0=[0,0,0,0,0,0,0,0]:=by rw[flagsT];rfl
def viewHV(e:Int)(zs:List Int)(ad:List Bool)(k:Int)(ch:List UInt8):List UInt8:=deriveW ch (sb ⟨#[118,105,101,119]⟩) (numB e++(numB k++(flagsB ad++treeHV zs)))
set_option maxHeartbeats 4000000 in
theorem vHash_ok(e:Int)(zs:List Int)(ad:List Bool)(k:Int)(ch:List UInt8):FnO 75 [.agg (vSegs e zs ad k ch)] (.d (.agg [.bytes 32 (viewHV e zs ad k ch)])):=by
 refine fn_lens fun hl=>?_
 have hl1:zs.length=31:=hl.1.2.1
 have hl2:ad.length=8:=hl.1.2.2.1
 clear hl
 refine fnA (E:=envK8) Tryz.func75 Tryz.ntmps75 ?_
 refine agow ?_;(try exact⟨⟩)
 refine StopL.mk (loop_forG [1,2,3,8,9] [0,1,2] 8 (fun j=>⟨[.dead,.ptr 0 0,.ptr 1 0,.ptr 2 0,.dead,.dead,.dead,.dead,.d (.agg [.bools 8 ad]),.d (.v (.int .i64 (j:Nat))),.dead,.dead,.dead,.dead,.dead,.dead,.dead,.dead,.dead,.dead,.dead,.dead,.dead,.dead,.dead,.dead,.dead,.dead,.dead,.dead,.dead,.dead],[some (.var (vSegs e zs ad k ch)),some (.var [.bytes 32 (List.replicate 32 0)]),some (.var [.bytes 8 (flagsT ad j)])]⟩) ?_ (h2:=by rw[flagsT_00];exact rfl))
 intro j hj hl8
 by_cases hj8:j<8
 ·cases hb:ad.getD j false with
  |true=>
   refine agow ?_;(try exact⟨⟩)
   refine hl8.go hj8 [1,2,3,8,9] [0,1,2] ?_
   rw[flagsT_1 hl2 hj8 hb]
   rfl
  |false=>
   refine agow ?_;(try exact⟨⟩)
   refine hl8.go hj8 [1,2,3,8,9] [0,1,2] ?_
   rw[flagsT_0 hl2 hj8 hb]
   rfl
 ·obtain rfl:j=8:=by omega
  rw[flagsT_8 hl2]
  refine agow ?_;(try exact⟨⟩)
  rfl
theorem five_eq{o:List Int}(h:o.length=5):o=[o.getD 0 0,o.getD 1 0,o.getD 2 0,o.getD 3 0,o.getD 4 0]:=by
 rcases o with _|⟨a,_|⟨b,_|⟨c,_|⟨d,_|⟨e,_|⟨f,l⟩⟩⟩⟩⟩⟩<;>first|(simp at h;done)|rfl
theorem numsB_five(zs:List Int){i:Nat}(h:i+5≤zs.length):numsB (zs.take (i+5))=numsB (zs.take i)++numsB [((zs.drop i).take 5).getD 0 0,((zs.drop i).take 5).getD 1 0,((zs.drop i).take 5).getD 2 0,((zs.drop i).take 5).getD 3 0,((zs.drop i).take 5).getD 4 0]:=by
 rw[←five_eq (o:=(zs.drop i).take 5) (by simp;omega),←numsB_append,List.take_add]
set_option maxHeartbeats 4000000 in
theorem ops_ok(zs:List Int)(n:Nat)(hz:zs.length=n*5)(hn:n≤1000000):FnO 76 [.row n [.ints .i64 (n*5) zs]] (.o 5 1 (n*40) [.bytes (n*40) (numsB zs)]):=by
 refine fnA (E:=envK8) Tryz.func76 Tryz.ntmps76 ?_
 refine agow ?_;(try exact⟨⟩)
 refine StopL.mk (loop_forN [3,8,9,10] [0] 3 5 1 [.bytes 0 []] n (fun j=>⟨[.dead,.dead,.dead,.own 0 (j*40),.dead,.dead,.dead,.dead,.d (.row n [.ints .i64 (n*5) zs]),.d (.v (.int .i64 (n:Nat))),.d (.v (.int .i64 (j:Nat))),.dead,.dead,.dead,.dead,.dead,.dead,.dead,.dead,.dead,.dead,.dead,.dead,.dead,.dead,.dead,.dead,.dead,.dead,.dead,.dead,.dead,.dead,.dead,.dead,.dead,.dead],[some (.sl 5 1 (j*40) [.bytes (j*40) (numsB (zs.take (j*5)))])]⟩) ?_ (h2:=by rw[Nat.zero_mul,List.take_zero,numsB_nil];exact rfl))
 intro j hj hl
 by_cases hjn:j<n
 ·refine agow ?_;(try exact⟨⟩)
  refine StopL.mk (loop_unroll 6 ?_)
  refine agow ?_;(try exact⟨⟩)
  refine hl.go hjn [3,8,9,10] [0] ?_
  rw[show(j+1)*5=j*5+5 by omega,numsB_five zs (by omega),show(j+1)*40=j*40+8+8+8+8+8 by omega]
  simp only[numsB_cons,numsB_nil,List.append_nil,←List.append_assoc]
  rfl
 ·obtain rfl:j=n:=by omega
  rw[show zs.take (j*5)=zs from List.take_of_length_le (by omega)]
  refine agow ?_;(try exact⟨⟩)
noncomputable def envK9:EnvX:=envK8
attribute [local irreducible] flagsB
def vHashS:List A→(Res→Prop)→Prop
 |[.agg [.ints .i64 1 [e],.ints .i64 31 zs,.bools 8 ad,.ints .i64 1 [k],.bytes 32 ch]],K=>K (.d (.agg [.bytes 32 (viewHV e zs ad k ch)]))
 |_,_=>False
theorem vHashS_of{f:FuncId}(hx:∀e zs ad k ch,FnO f [.agg (vSegs e zs ad k ch)] (.d (.agg [.bytes 32 (viewHV e zs ad k ch)]))):∀args K,vHashS args K→∃r,FnO f args r∧K r:=by
 intro args K h
 unfold vHashS at h
 split at h
 ·exact⟨_,hx _ _ _ _ _,h⟩
 ·exact h.elim
end
end Go.Proofs.YtbdmnobocecnfaaGreatDoor
