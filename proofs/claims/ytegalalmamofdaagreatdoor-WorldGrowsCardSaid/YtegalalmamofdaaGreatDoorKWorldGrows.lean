/- -/
import Derived.Test.YtegalalmamofdaaGreatDoorRows
import Derived.Test.YtegalalmamofdaaGreatDoorJ10
import Derived.LaidMore
import Derived.LaidHandle
import Derived.Stop.Joined
import Derived.Test.YtegalalmamofdaaGreatDoorJ31
namespace Go.Proofs.YtegalalmamofdaaGreatDoor
set_option maxRecDepth 100000
open Go.ChangeShapes Go.WideShapes Go.ChangeAt Go.RowKit
set_option linter.unusedVariables false
def bm1:List (String×DataW Unit):=[("math/bits.deBruijn32tab",Rows.laid_math_bits_deBruijn32tab),("math/bits.deBruijn64tab",Rows.laid_math_bits_deBruijn64tab)]
theorem bN5(os:Os)(args:Array Value):laidMetH Tryz.prog bm1 ((World.doorLaid Tryz.prog 19 os).forCall (fun _ _=>0) ⟨#[],args,[]⟩).memory:=
 laidMetH_of_parts3 (fuel:=8) (laidMet_of_run' 8 (by kernel_rfl) (by kernel_rfl)) (by kernel_rfl) (by kernel_rfl)
theorem Xj{H:Type}{enc:TypeId×Value->H}{P:Program}{w:World}{base:Nat}{sp:Nat->Bool}{held:Bool}{fuel n:Nat}{t e:TypeId}{cs:List Value}{q:List MemPlace}(bs:List UInt8)(ht:P.underlying t=some (.array n e))(he:P.underlying e=some (.int .u8))(h1:P.cellsOf e=1)(hn:P.cellsOf t=n)
  (h:DataW.trod enc P w base sp held fuel t cs=some (.agg (bs.map fun b=>.lit (.int .u8 (Bt b))),q)):cs=HL bs:=by
 obtain⟨xs,m,_,hx,hl,hxl,hel⟩:=DataW.trod_array ht h
 simp only[Prod.mk.injEq,DataW.agg.injEq]at hx
 have hb:xs.map (·.1)=bs.map fun b=>.lit (.int .u8 (Bt b)):=hx.1.symm
 have hlen:bs.length=n:=by have:=congrArg List.length hb;simp at this;omega
 refine List.ext_getElem (by rw[hl,hn];simp[HL,hlen]) fun i h2 h3=>?_
 have hin:i<n:=by rw[hl,hn]at h2;exact h2
 have h4:=hel i hin
 rw[h1,List.getElem?_eq_getElem (by omega)]at h4
 obtain⟨z,e1,e2,_⟩:=DataW.trod_int he h4
 have h5:(xs.map (·.1))[i]'(by simp;omega)=(bs.map fun b=>(DataW.lit (.int .u8 (Bt b)):DataW H))[i]'(by simp;omega):=by simp only[hb]
 simp only[List.getElem_map]at h5
 rw[e2]at h5
 simp only[DataW.lit.injEq,Lit.int.injEq,true_and]at h5
 have h6:cs[i]=.int .u8 z:=by
  have:=congrArg (·[0]?) e1
  simpa[h2]using this
 rw[h6,h5]
 simp[HL]
theorem cp6:Tryz.prog.globalNamed "math/bits.deBruijn64tab"=some 1:=by kernel_rfl
theorem gType:(Tryz.prog.globals[1]?).map (·.type)=some 283:=by kernel_rfl
theorem bl0{w:World}(h:laidMetH Tryz.prog bm1 w):pI gTab (fun _=>True) w:=by
 rw[MakeChecks.laidMetH_plain _ _ _ (by kernel_rfl)]at h
 obtain⟨ps,⟨g0,t0,cs0,f0,p0,q0,hg0,ht0,hv0,hd0,⟨g1,t1,cs1,f1,p1,q1,hg1,ht1,hv1,hd1,_,_⟩,_⟩,_,_⟩:=h
 obtain rfl:=Option.some.inj (cp6.symm.trans hg1)
 obtain rfl:=Option.some.inj (gType.symm.trans ht1)
 have hcs:=Xj aE8 Tryz.underlying283 Tryz.underlying5 (by kernel_rfl) (by kernel_rfl) (q:=p1) (by
  refine hd1.trans ?_
  rfl)
 intro q l hq
 unfold gTab at hq
 split at hq
 ·cases hq
  refine⟨cs1.toList,.ofBytes rfl hcs,.inr ⟨_,0,rfl,trivial,?_,fun i hi=>?_⟩⟩
  ·have:=World.var?_cell hg1 hv1 0
   have h0:cs1[0]?≠none:=by
    rw[<-Array.getElem?_toList,hcs];simp[HL,aE8]
   cases hc:cs1[0]? with
   |none=>exact absurd hc h0
   |some v=>rw[hc]at this;exact World.block_lt_of_cell? w _ this
  ·have:=World.var?_cell hg1 hv1 i
   rw[Nat.zero_add,this,<-Array.getElem?_toList,List.getElem?_eq_getElem hi]
 ·cases hq
end Go.Proofs.YtegalalmamofdaaGreatDoor
namespace Go.Proofs.YtegalalmamofdaaGreatDoor
set_option linter.all false
set_option maxRecDepth 100000
open Go.RowKit
theorem yHd{p:Prop}(h:p):Hid p:=Lib.hid h
theorem yGd{α:Type}{l:List α}{i:Nat}{a:α}:l.getD i a=l[i]?.getD a:=List.getD_eq_getElem?_getD
theorem yGe{α:Type}{l:List α}{i:Nat}(h:i<l.length):l[i]?=some l[i]:=List.getElem?_eq_getElem h
theorem yLr(n:Nat):n<=n:=Nat.le_refl n
theorem yLt{n m k:Nat}:n<=m->m<=k->n<=k:=Nat.le_trans
theorem yLl{n m k:Nat}:n<m->m<=k->n<k:=Nat.lt_of_lt_of_le
theorem yAe{α:Type}{b:α}{i:Nat}{xs:Array α}:xs[i]? =some b<->∃h:i<xs.size,xs[i]=b:=Array.getElem?_eq_some_iff
section
def D9(n:Nat):List A:=List.replicate n (.v (.pointer none))
def IB(t0:TypeId):Option TI:=
 match t0 with
 |71=>some (bU 21 [.ints .i64 1 [0],.ints .i32 1 [0],.ints .u32 1 [0],.gen 16 (D9 16),.gen 2 [.v (.slice none 0 0),.v (.slice none 0 0)]] [0,1,3,11,19,20] [59,65,66,68,50,69] 192 false [(0,1),(1,2),(3,8),(11,8),(19,1),(20,1)])
 |22=>some (yU)
 |67=>some (yU)
 |66=>some { iX 8 40 1 [.gen 8 (D9 8)] 64 with eq:=false }
 |68=>some { iX 8 67 1 [.gen 8 (D9 8)] 64 with eq:=false }
 |37=>some (bU 7 [.ints .i64 4 [0,0,0,0],.gen 1 [.v (.slice none 0 0)],.ints .i64 1 [0],.gen 1 [.v (.slice none 0 0)]] [0,1,2,3,4,5,6] [3,3,3,3,32,3,35] 88 false [(0,1),(1,1),(2,1),(3,1),(4,1),(5,1),(6,1)])
 |112=>some (bU 35 [.bytes 32 (List.replicate 32 0),.ints .i64 3 [0,0,0]] [0,32] [28,103] 56 false [(0,32),(32,3)])
 |69=>some (pG 112 35)
 |_=>KU t0
theorem Jc:∀t i,IB t=some i->D7 Tryz.prog t i:=by
 intro t i h
 unfold IB at h
 split at h<;>first|(cases h;exact Bu (by kernel_rfl))|exact ch9 _ _ h
theorem ch8:∀t i,IB t=some i->i.eq=true->EqT Tryz.prog t i:=by
 intro t i h
 unfold IB at h
 split at h<;>first|(cases h;intro he;cases he;done)|(cases h;intro _;exact Aj (by kernel_rfl))|exact ch7 _ _ h
end
end Go.Proofs.YtegalalmamofdaaGreatDoor
