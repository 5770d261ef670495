/-
 What the listed package variables read as is what the machine without memory is told of them; the door's own heap meets the condition.
-/
import Derived.Test.YtefgbmdmmhkeaaaGreatDoorRows
import Derived.Test.YtefgbmdmmhkeaaaGreatDoorJ10
import Derived.LaidMore
import Derived.LaidHandle
import Derived.Stop.Joined
namespace Go.Proofs.YtefgbmdmmhkeaaaGreatDoor
set_option maxRecDepth 100000
open Go.ChangeShapes Go.WideShapes Go.ChangeAt Go.RowKit
set_option linter.unusedVariables false
def laid2:List (String×DataW Unit):=[("math/bits.deBruijn32tab",Rows.laid_math_bits_deBruijn32tab),("math/bits.deBruijn64tab",Rows.laid_math_bits_deBruijn64tab)]
theorem door_met(os:Os)(args:Array Value):laidMetH Tryz.prog laid2 ((World.doorLaid Tryz.prog 19 os).forCall (fun _ _=>0) ⟨#[],args,[]⟩).memory:=
 laidMetH_of_parts3 (fuel:=8) (laidMet_of_run' 8 (by kernel_rfl) (by kernel_rfl)) (by kernel_rfl) (by kernel_rfl)
theorem arr_bytes{H:Type}{enc:TypeId×Value→H}{P:Program}{w:World}{base:Nat}{sp:Nat→Bool}{held:Bool}{fuel n:Nat}{t e:TypeId}{cs:List Value}{q:List MemPlace}(bs:List UInt8)(ht:P.underlying t=some (.array n e))(he:P.underlying e=some (.int .u8))(h1:P.cellsOf e=1)(hn:P.cellsOf t=n)
  (h:DataW.trod enc P w base sp held fuel t cs=some (.agg (bs.map fun b=>.lit (.int .u8 (Bt b))),q)):cs=HL bs:=by
 obtain⟨xs,m,_,hx,hl,hxl,hel⟩:=DataW.trod_array ht h
 simp only[Prod.mk.injEq,DataW.agg.injEq]at hx
 have hb:xs.map (·.1)=bs.map fun b=>.lit (.int .u8 (Bt b)):=hx.1.symm
 have hlen:bs.length=n:=by have:=congrArg List.length hb;simp at this;omega
 refine List.ext_getElem (by rw[hl,hn];simp[HL,hlen]) fun i h2 h3=>?_
 have hin:i<n:=by rw[hl,hn]at h2;exact h2
 have h4:=hel i hin
 rw[h1,List.getElem?_eq_getElem (by omega)]at h4
 obtain⟨z,e1,e2,_⟩:=DataW.trod_int he h4
 have h5:(xs.map (·.1))[i]'(by simp;omega)=(bs.map fun b=>(DataW.lit (.int .u8 (Bt b)):DataW H))[i]'(by simp;omega):=by simp only[hb]
 simp only[List.getElem_map]at h5
 rw[e2]at h5
 simp only[DataW.lit.injEq,Lit.int.injEq,true_and]at h5
 have h6:cs[i]=.int .u8 z:=by
  have:=congrArg (·[0]?) e1
  simpa[h2]using this
 rw[h6,h5]
 simp[HL]
theorem gNum:Tryz.prog.globalNamed "math/bits.deBruijn64tab"=some 1:=by kernel_rfl
theorem gType:(Tryz.prog.globals[1]?).map (·.type)=some 280:=by kernel_rfl
theorem gok_of_laid{w:World}(h:laidMetH Tryz.prog laid2 w):GOK gTab (fun _=>True) w:=by
 rw[MakeChecks.laidMetH_plain _ _ _ (by kernel_rfl)]at h
 obtain⟨ps,⟨g0,t0,cs0,f0,p0,q0,hg0,ht0,hv0,hd0,⟨g1,t1,cs1,f1,p1,q1,hg1,ht1,hv1,hd1,_,_⟩,_⟩,_,_⟩:=h
 obtain rfl:=Option.some.inj (gNum.symm.trans hg1)
 obtain rfl:=Option.some.inj (gType.symm.trans ht1)
 have hcs:=arr_bytes tab64 Tryz.underlying280 Tryz.underlying5 (by kernel_rfl) (by kernel_rfl) (q:=p1) (by
  refine hd1.trans ?_
  rfl)
 intro q l hq
 unfold gTab at hq
 split at hq
 ·cases hq
  refine⟨cs1.toList,.ofBytes rfl hcs,.inr ⟨_,0,rfl,trivial,?_,fun i hi=>?_⟩⟩
  ·have:=World.var?_cell hg1 hv1 0
   have h0:cs1[0]?≠none:=by
    rw[←Array.getElem?_toList,hcs];simp[HL,tab64]
   cases hc:cs1[0]? with
   |none=>exact absurd hc h0
   |some v=>rw[hc]at this;exact World.block_lt_of_cell? w _ this
  ·have:=World.var?_cell hg1 hv1 i
   rw[Nat.zero_add,this,←Array.getElem?_toList,List.getElem?_eq_getElem hi]
 ·cases hq
end Go.Proofs.YtefgbmdmmhkeaaaGreatDoor
