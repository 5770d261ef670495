/-
  Openings of handed-in records (what the pruned groups of KEEP15Q left out: only on such a seat).
-/
import Derived.Test.YtjhgelfnmhdihaaGreatDoorRows
import Derived.Test.YtjhgelfnmhdihaaGreatDoorJ10
import Derived.LaidMore
import Derived.LaidHandle
import Derived.Stop.Joined
import Derived.Test.YtjhgelfnmhdihaaGreatDoorJ52
namespace Go.Proofs.YtjhgelfnmhdihaaGreatDoor
set_option maxRecDepth 100000
open Go.ChangeShapes Go.WideShapes Go.ChangeAt Go.RowKit
set_option linter.unusedVariables false
def aG0:List (String×DataW Unit):=[("math/bits.deBruijn32tab",Rows.laid_math_bits_deBruijn32tab),("math/bits.deBruijn64tab",Rows.laid_math_bits_deBruijn64tab)]
theorem aX2(os:Os)(args:Array Value):laidMetH Tryz.prog aG0 ((World.doorLaid Tryz.prog 19 os).forCall (fun _ _=>0) ⟨#[],args,[]⟩).memory:=
 laidMetH_of_parts3 (fuel:=8) (laidMet_of_run' 8 (by kernel_rfl) (by kernel_rfl)) (by kernel_rfl) (by kernel_rfl)
theorem Tj{H:Type}{enc:TypeId×Value→H}{P:Program}{w:World}{base:Nat}{sp:Nat→Bool}{held:Bool}{fuel n:Nat}{t e:TypeId}{cs:List Value}{q:List MemPlace}(bs:List UInt8)(ht:P.underlying t=some (.array n e))(he:P.underlying e=some (.int .u8))(h1:P.cellsOf e=1)(hn:P.cellsOf t=n)
  (h:DataW.trod enc P w base sp held fuel t cs=some (.agg (bs.map fun b=>.lit (.int .u8 (Bt b))),q)):cs=HL bs:=by
 obtain⟨xs,m,_,hx,hl,hxl,hel⟩:=DataW.trod_array ht h
 simp only[Prod.mk.injEq,DataW.agg.injEq]at hx
 have hb:xs.map (·.1)=bs.map fun b=>.lit (.int .u8 (Bt b)):=hx.1.symm
 have hlen:bs.length=n:=by have:=congrArg List.length hb;simp at this;omega
 refine List.ext_getElem (by rw[hl,hn];simp[HL,hlen]) fun i h2 h3=>?_
 have hin:i<n:=by rw[hl,hn]at h2;exact h2
 have h4:=hel i hin
 rw[h1,List.getElem?_eq_getElem (by omega)]at h4
 obtain⟨z,e1,e2,_⟩:=DataW.trod_int he h4
 have h5:(xs.map (·.1))[i]'(by simp;omega)=(bs.map fun b=>(DataW.lit (.int .u8 (Bt b)):DataW H))[i]'(by simp;omega):=by simp only[hb]
 simp only[List.getElem_map]at h5
 rw[e2]at h5
 simp only[DataW.lit.injEq,Lit.int.injEq,true_and]at h5
 have h6:cs[i]=.int .u8 z:=by
  have:=congrArg (·[0]?) e1
  simpa[h2]using this
 rw[h6,h5]
 simp[HL]
theorem by5:Tryz.prog.globalNamed "math/bits.deBruijn64tab"=some 1:=by kernel_rfl
theorem gType:(Tryz.prog.globals[1]?).map (·.type)=some 271:=by kernel_rfl
theorem aE7{w:World}(h:laidMetH Tryz.prog aG0 w):SV gTab (fun _=>True) w:=by
 rw[MakeChecks.laidMetH_plain _ _ _ (by kernel_rfl)]at h
 obtain⟨ps,⟨g0,t0,cs0,f0,p0,q0,hg0,ht0,hv0,hd0,⟨g1,t1,cs1,f1,p1,q1,hg1,ht1,hv1,hd1,_,_⟩,_⟩,_,_⟩:=h
 obtain rfl:=Option.some.inj (by5.symm.trans hg1)
 obtain rfl:=Option.some.inj (gType.symm.trans ht1)
 have hcs:=Tj ag0 Tryz.underlying271 Tryz.underlying5 (by kernel_rfl) (by kernel_rfl) (q:=p1) (by
  refine hd1.trans ?_
  rfl)
 intro q l hq
 unfold gTab at hq
 split at hq
 ·cases hq
  refine⟨cs1.toList,.ofBytes rfl hcs,.inr ⟨_,0,rfl,trivial,?_,fun i hi=>?_⟩⟩
  ·have:=World.var?_cell hg1 hv1 0
   have h0:cs1[0]?≠none:=by
    rw[←Array.getElem?_toList,hcs];simp[HL,ag0]
   cases hc:cs1[0]? with
   |none=>exact absurd hc h0
   |some v=>rw[hc]at this;exact World.block_lt_of_cell? w _ this
  ·have:=World.var?_cell hg1 hv1 i
   rw[Nat.zero_add,this,←Array.getElem?_toList,List.getElem?_eq_getElem hi]
 ·cases hq
end Go.Proofs.YtjhgelfnmhdihaaGreatDoor
namespace Go.Proofs.YtjhgelfnmhdihaaGreatDoor
set_option linter.unusedVariables false
set_option linter.unusedSimpArgs false
set_option maxRecDepth 100000
open Go.RowKit
section
open Go.ChangeShapes Go.WideShapes
open Go.ChangeShapes Go.WideShapes
open Go.ChangeShapes
open Go.ChangeShapes
section
section
variable {H : Type} {enc : TypeId × Value → H} {P : Program} {w : World} {base b0 : Nat} {spare : Nat → Bool} {held : Bool}
theorem weight_of_slice{t e:TypeId}{xs ys:List (DataW H)}(ht:P.underlying t=some (.slice e))(h:∀n∈(DataW.slice xs ys).weights P t,n≤140737488351232):(xs.length+ys.length)*P.bytesOf e≤140737488351232:=
 h _ (by simp[DataW.weights,ht])
theorem light {ts : List TypeId} {ds : List (DataW H)} (hsz : (DataW.weightsEach P ts ds).all (· ≤ reachBytes) = true) (j : Nat) {t : TypeId} {d : DataW H} (ht : ts[j]? = some t) (hd : ds[j]? = some d) : ∀ n ∈ d.weights P t, n ≤ 140737488351232 := fun n hn => by
  have := List.all_eq_true.1 hsz _ (DataW.weights_mem_each ht hd n hn)
  exact of_decide_eq_true this
end
section
variable {H : Type} {enc : TypeId × Value → H} {P : Program} {w : World} {base b0 : Nat} {spare : Nat → Bool} {held : Bool}
theorem weight_of_elem{t e:TypeId}{xs ys:List (DataW H)}(ht:P.underlying t=some (.slice e))(h:∀n∈(DataW.slice xs ys).weights P t,n≤140737488351232):∀d∈xs,∀n∈d.weights P e,n≤140737488351232:=by
 have hall:∀(l:List (DataW H)),(∀n∈DataW.weightsAll P e l,n≤140737488351232)→∀d∈l,∀n∈d.weights P e,n≤140737488351232:=by
  intro l
  induction l with
  |nil=>intro _ d hd;cases hd
  |cons a r ih=>
   intro hl d hd
   simp only[DataW.weightsAll,List.mem_append]at hl
   rcases List.mem_cons.1 hd with rfl|hd
   ·exact fun n hn=>hl n (.inl hn)
   ·exact ih (fun n hn=>hl n (.inr hn)) d hd
 refine hall xs fun n hn=>h n ?_
 simp[DataW.weights,ht,hn]
end
end
section
def wfV:Value→Prop| .int k z=>(Lit.int k z).wf=true|_=>True
section
variable {H : Type} {enc : TypeId × Value → H} {P : Program} {w : World} {base b0 : Nat} {spare : Nat → Bool} {held : Bool}
theorem kinds_of_trod:∀(d:Nat) (t:TypeId) (s:List (Option IntKind)),xW P d t=some s→∀{fuel:Nat} {cs:List Value} {x:DataW H×List MemPlace},DataW.trod enc P w base spare held fuel t cs=some x→cs.length=s.length→
  cs.map aV=s.map some∧∀v∈cs,wfV v
 |0,t,s,h=>by cases h
 |d+1,t,s,h=>by
  intro hx hl
  rename_i fuel cs x
  have ih:=kinds_of_trod d
  unfold xW at h
  simp only at h
  split at h
  case h_2=>cases h
  next s' hs=>
  split at h
  case h_2=>cases h
  next i hi=>
  split at h
  case isFalse=>cases h
  next hsz=>
  cases h
  split at hs
  ·next hu=>
   cases hs
   obtain⟨b,rfl,_⟩:=DataW.trod_bool hu hx
   exact⟨rfl,by simp[wfV]⟩
  ·next k hu=>
   cases hs
   obtain⟨z,rfl,_,hw⟩:=DataW.trod_int hu hx
   exact⟨rfl,by simp[wfV,hw]⟩
  ·next n e hu=>
   cases he:xW P d e with
   |none=>rw[he]at hs;cases hs
   |some a=>
    rw[he]at hs
    cases hs
    obtain⟨xs,m,_,_,hcl,hxl,hel⟩:=DataW.trod_array hu hx
    obtain⟨_,_,_,hce,_⟩:=Hf he
    rw[hce]at hel
    have go:∀(k j:Nat),j+k=n→(cs.drop (j*a.length)).map aV=((List.replicate k a).flatten).map some∧∀v∈cs.drop (j*a.length),wfV v:=by
     intro k
     induction k with
     |zero=>
      intro j hj
      have:cs.drop (j*a.length)=[]:=by
       apply List.drop_of_length_le
       rw[hl];simp;rw[show j=n by omega];exact Nat.le_refl _
      rw[this];simp
     |succ k ihk=>
      intro j hj
      obtain⟨h1,h2⟩:=ihk (j+1) (by omega)
      have hlt:j<xs.length:=by omega
      have h3:=hel j (by omega)
      rw[List.getElem?_eq_getElem hlt]at h3
      have hja:(j+1)*a.length≤cs.length:=by
       rw[hl];simp
       exact Nat.mul_le_mul_right _ (by omega)
      have hjj:(j+1)*a.length=j*a.length+a.length:=by rw[Nat.add_mul,Nat.one_mul]
      obtain⟨h4,h5⟩:=ih e a he h3 (by simp;omega)
      have split:cs.drop (j*a.length)=(cs.drop (j*a.length)).take a.length++cs.drop ((j+1)*a.length):=by rw[hjj,←List.drop_drop,List.take_append_drop]
      rw[split,List.map_append,h4,h1,List.replicate_succ,List.flatten_cons,List.map_append]
      refine⟨rfl,fun v hv=>?_⟩
      rcases List.mem_append.1 hv with hv|hv
      ·exact h5 v hv
      ·exact h2 v hv
    have:=go n 0 (by omega)
    simpa using this
  ·next fs hu=>
   split at hs
   ·cases hs
   ·obtain⟨xs,m,_,_,hcl,hxl,hel⟩:=DataW.trod_struct hu hx
    have go:∀(fl:List Field) (j off:Nat) (s:List (Option IntKind)),fs.toList.drop j=fl→ae6 (xW P d) off fl=some s→off+s.length=cs.length→(cs.drop off).map aV=s.map some∧∀v∈cs.drop off,wfV v:=by
     intro fl
     induction fl with
     |nil=>
      intro j off s _ hs hlen
      cases hs
      have:cs.drop off=[]:=List.drop_of_length_le (by simp at hlen;omega)
      rw[this];simp
     |cons f fl ihf=>
      intro j off s hd hs hlen
      unfold ae6 at hs
      split at hs
      ·next hf=>
       cases ha:xW P d f.type with
       |none=>rw[ha]at hs;cases hs
       |some a=>
        rw[ha]at hs
        cases hr:ae6 (xW P d) (off+a.length) fl with
        |none=>simp[hr]at hs
        |some b=>
         simp only[hr,Option.map_some,Option.some.injEq]at hs
         subst hs
         rw[List.length_append]at hlen
         have hj:fs[j]?=some f:=by
          have:=congrArg (·[0]?) hd
          simpa using this
         have hjl:j<xs.length:=by
          have:=(Array.getElem?_eq_some_iff.1 hj).1
          omega
         obtain⟨h1,h2⟩:=ihf (j+1) (off+a.length) b (by
          have:=congrArg (List.drop 1) hd
          rw[List.drop_drop]at this;simpa using this) hr (by omega)
         have h3:=hel j f hj
         obtain⟨_,_,_,hca,_⟩:=Hf ha
         rw[List.getElem?_eq_getElem hjl,hca,hf.2]at h3
         obtain⟨h4,h5⟩:=ih f.type a ha h3 (by simp;omega)
         have split:cs.drop off=(cs.drop off).take a.length++cs.drop (off+a.length):=by rw[←List.drop_drop,List.take_append_drop]
         rw[split,List.map_append,h4,h1,List.map_append]
         refine⟨rfl,fun v hv=>?_⟩
         rcases List.mem_append.1 hv with hv|hv
         ·exact h5 v hv
         ·exact h2 v hv
      ·cases hs
    have:=go fs.toList 0 0 _ (by simp) hs (by rw[hl];simp)
    simpa using this
  ·cases hs
end
section
variable {H : Type} {enc : TypeId × Value → H} {P : Program} {w : World} {base b0 : Nat} {spare : Nat → Bool} {held : Bool}
theorem ints_of_kinds{k:IntKind}:∀(cs:List Value),(∀v∈cs,aV v=some (some k))→(∀v∈cs,wfV v)→∃zs:List Int,cs=zs.map (Value.int k)∧∀z∈zs,(Lit.int k z).wf=true
 |[],_,_=>⟨[],rfl,by simp⟩
 |v::cs,h,hw=>by
  obtain⟨zs,rfl,h2⟩:=ints_of_kinds cs (fun u hu=>h u (by simp[hu])) (fun u hu=>hw u (by simp[hu]))
  have h3:=h v (by simp)
  have h4:=hw v (by simp)
  cases v<;>simp[aV]at h3
  subst h3
  rename_i z
  exact⟨z::zs,rfl,fun y hy=>by rcases List.mem_cons.1 hy with rfl|hy;exact h4;exact h2 y hy⟩
end
theorem OU{k:IntKind}{n:Nat}{cs:List Value}(h:cs.map aV=(List.replicate n (some k)).map some)(hw:∀u∈cs,wfV u):∃zs:List Int,cs=zs.map (Value.int k)∧zs.length=n∧∀z∈zs,(Lit.int k z).wf=true:=by
 obtain⟨zs,h3,h4⟩:=ints_of_kinds cs (k:=k) (fun v hv=>by
  have:aV v∈cs.map aV:=List.mem_map.2 ⟨v,hv,rfl⟩
  rw[h]at this
  simp at this
  first|exact this.2.symm|exact this.2) hw
 refine⟨zs,h3,?_,h4⟩
 have:=congrArg List.length h
 rw[h3]at this
 simpa using this
end
section
theorem weights_each{H:Type}{P:Program}{B:Nat}:∀(ts:List TypeId) (ds:List (DataW H)),(∀n∈DataW.weightsEach P ts ds,n≤B)→∀(i:Nat) (t:TypeId) (d:DataW H),ts[i]?=some t→ds[i]?=some d→∀n∈d.weights P t,n≤B
 |[],_,_,i,t,d,h,_=>by simp at h
 |_::_,[],_,i,t,d,_,h=>by simp at h
 |u::ts,c::ds,hw,0,t,d,h1,h2=>by
  simp only[List.getElem?_cons_zero,Option.some.injEq]at h1 h2
  subst h1;subst h2
  intro n hn
  exact hw n (by rw[DataW.weightsEach];exact List.mem_append_left _ hn)
 |u::ts,c::ds,hw,i+1,t,d,h1,h2=>by
  simp only[List.getElem?_cons_succ]at h1 h2
  exact weights_each ts ds (fun n hn=>hw n (by rw[DataW.weightsEach];exact List.mem_append_right _ hn)) i t d h1 h2
theorem struct_field{H:Type}{enc:TypeId×Value→H}{P:Program}{w:World}{base:Nat}{spare:Nat→Bool}{held:Bool}{t:TypeId}{fs:Array Field}{fuel B:Nat}{cs:List Value}{x:DataW H×List MemPlace}
  (ht:P.underlying t=some (.struct fs))(h:DataW.trod enc P w base spare held fuel t cs=some x)(hw:∀n∈x.1.weights P t,n≤B){i:Nat}{f:Field}(hi:fs[i]?=some f):
  ∃n y,DataW.trod enc P w base spare held n f.type ((cs.drop f.offset).take (P.cellsOf f.type))=some y∧∀m∈y.1.weights P f.type,m≤B:=by
 obtain⟨xs,n,_,rfl,_,hlen,hf⟩:=DataW.trod_struct ht h
 have hlt:i<fs.size:=(Array.getElem?_eq_some_iff.1 hi).1
 have hx:i<xs.length:=by omega
 refine⟨n,xs[i],?_,?_⟩
 ·have:=hf i f hi
  simpa[List.getElem?_eq_getElem hx]using this
 ·simp only[DataW.weights,ht]at hw
  refine weights_each _ _ hw i f.type _ ?_ ?_
  ·rw[List.getElem?_map,Array.getElem?_toList,hi];rfl
  ·rw[List.getElem?_map,List.getElem?_eq_getElem hx];rfl
end
section
theorem lies_cells{w:World}{a:Addr}{cs:List Value}(h:∀j (hj:j<cs.length),w.cell? (a.add j)=some cs[j])(hne:cs≠[]):a.spot=none∧Ka (fun _=>True) w (some ⟨a.block,a.off,none⟩) cs:=by
 have hp:0<cs.length:=List.length_pos_iff.2 hne
 have hz:=h 0 hp
 have hsp:a.spot=none:=by
  have h1:=hz
  unfold World.cell? at h1
  split at h1
  ·next c t fr hb=>
   by_cases hs:(a.add 0).spot.isSome=true
   ·rw[if_pos hs]at h1;cases h1
   ·simpa[Addr.add]using hs
  ·cases h1
 refine⟨hsp,.inr ⟨a.block,a.off,rfl,trivial,?_,fun i hi=>?_⟩⟩
 ·have:=block_lt_of_cell hz
  simpa[Addr.add]using this
 ·have h1:=h i hi
  have e:a.add i=⟨a.block,a.off+i,none⟩:=by cases a;simp_all [Addr.add]
  rw[e]at h1
  exact h1
theorem rows_each{w:World}{a:Addr}{K:Nat}:∀(m:Nat),(∀i<m,∃zs:List Int,zs.length=K∧∀j<K,w.cell? (a.add (i*K+j))=some (.int .i64 (zs.getD j 0)))→∃zs:List Int,zs.length=m*K∧∀j<m*K,w.cell? (a.add j)=some (.int .i64 (zs.getD j 0))
 |0,_=>⟨[],by simp,fun j hj=>by omega⟩
 |m+1,h=>by
  obtain⟨zs,h1,h2⟩:=rows_each m fun i hi=>h i (by omega)
  obtain⟨ys,h3,h4⟩:=h m (by omega)
  refine⟨zs++ys,by rw[List.length_append,h1,h3,Nat.succ_mul],fun j hj=>?_⟩
  rw[Nat.succ_mul]at hj
  by_cases e:j<m*K
  ·rw[h2 j e,List.getD_eq_getElem?_getD,List.getD_eq_getElem?_getD,List.getElem?_append_left (by omega)]
  ·have h5:=h4 (j-m*K) (by omega)
   rw[show m*K+(j-m*K)=j by omega]at h5
   rw[h5,List.getD_eq_getElem?_getD,List.getD_eq_getElem?_getD,List.getElem?_append_right (by omega),h1]
theorem lies_of{w:World}{a:Addr}{zs:List Int}(h:∀j<zs.length,w.cell? (a.add j)=some (.int .i64 (zs.getD j 0))):Ka (fun _=>True) w (some a) (zs.map (Value.int .i64)):=by
 by_cases h0:zs=[]
 ·left;subst h0;rfl
 ·right
  have hp:0<zs.length:=List.length_pos_iff.2 h0
  have hz:=h 0 hp
  have hsp:a.spot=none:=by
   have h1:=hz
   unfold World.cell? at h1
   split at h1
   ·next c t fr hb=>
    by_cases hs:(a.add 0).spot.isSome=true
    ·rw[if_pos hs]at h1;cases h1
    ·simpa[Addr.add]using hs
   ·cases h1
  refine⟨a.block,a.off,by cases a;simp_all,trivial,?_,fun i hi=>?_⟩
  ·have:=block_lt_of_cell hz
   simpa[Addr.add]using this
  ·have hi':i<zs.length:=by simpa using hi
   have h1:=h i hi'
   have e:a.add i=⟨a.block,a.off+i,none⟩:=by cases a;simp_all [Addr.add]
   rw[e]at h1
   rw[h1]
   simp[List.getD_eq_getElem?_getD,hi']
end
section
def fldOf(P:Program)(t:TypeId)(i:Nat):Option (TypeId×Nat):=match P.underlying t with|some (.struct fs)=>(fs[i]?).map fun f=>(f.type,f.offset)|_=>none
section
variable {H : Type} {enc : TypeId × Value → H} {P : Program} {w : World} {base b0 : Nat} {spare : Nat → Bool} {held : Bool} {r : Reach} {t : TypeId} {fuel B : Nat} {cs : List Value} {x : DataW H × List MemPlace}
theorem bn0(h:DataW.trod enc P w base spare held fuel t cs=some x)(hw:∀n∈x.1.weights P t,n≤B){i off n:Nat}{u:TypeId}(hf:fldOf P t i=some (u,off))(hc:P.cellsOf u=n):
  ∃k y,DataW.trod enc P w base spare held k u ((cs.drop off).take n)=some y∧∀m∈y.1.weights P u,m≤B:=by
 unfold fldOf at hf
 split at hf
 ·next fs ht=>
  cases hq:fs[i]? with
  |none=>rw[hq]at hf;cases hf
  |some f=>
   rw[hq]at hf
   simp only[Option.map_some,Option.some.injEq,Prod.mk.injEq]at hf
   obtain⟨rfl,rfl⟩:=hf
   subst hc
   exact struct_field ht h hw hq
 ·cases hf
end
section
variable {H : Type} {enc : TypeId × Value → H} {P : Program} {w : World} {base b0 : Nat} {spare : Nat → Bool} {held : Bool} {r : Reach} {t : TypeId} {fuel B : Nat} {cs : List Value} {x : DataW H × List MemPlace}
theorem TY(h:DataW.trod enc P w base spare held fuel t cs=some x)(hw:∀n∈x.1.weights P t,n≤B){i off n:Nat}{u:TypeId}{sg:List (Option IntKind)}(hf:fldOf P t i=some (u,off))(hc:P.cellsOf u=n)(hs:xW P 20 u=some sg)(hn:sg.length=n)(hl:off+n≤cs.length):
  ((cs.drop off).take n).map aV=sg.map some∧∀v∈(cs.drop off).take n,wfV v:=by
 obtain⟨k,y,h1,_⟩:=bn0 h hw hf hc
 exact kinds_of_trod 20 u sg hs h1 (by rw[List.length_take,List.length_drop,hn];omega)
end
end
end
section
open Go.ChangeShapes
theorem aR6{α:Type}[Inhabited α]{H:Type}{enc:TypeId×Value→H}{P:Program}{w:World}{base b0:Nat}{held:Bool}{r:Reach}{t e:TypeId}{v:Value}{d:DataW H}{ps:List MemPlace}{K B:Nat}(ht:P.underlying t=some (.slice e))(hC:P.cellsOf e=K)(hK:1≤K)(hB:P.bytesOf e=B)(hB1:1≤B)
  (form:α→List Seg)(Ok:α→Prop)(hp:∀(fuel:Nat) (cs:List Value) (y:DataW H×List MemPlace),DataW.trod enc P w base (fun _=>true) held fuel e cs=some y→(∀n∈y.1.weights P e,n≤140737488351232)→cs.length=K→∃x:α,Ok x∧RL (fun _=>True) w (form x) cs)
  (hval:Value.okWide P w r b0 t v)(h:DataW.Trod enc P w base (fun _=>true) held t v d ps)(hlt:∀n∈d.weights P t,n≤140737488351232):
  ∃(n:Nat) (f:Nat→α),n≤140737488351232∧(∀j,j<n→Ok (f j))∧RA (fun _=>True) w (.recs n K fun j=>form (f j)) v:=by
 unfold Value.okWide at hval
 rw[ht]at hval
 obtain⟨fuel,hf⟩:=h
 rcases Deep.open_slice ht hf with⟨hcs,_⟩|⟨a,len,cap,m,n,D,Pl,hcs,_,hl,hm,hmm,hx,hcell⟩
 ·have:v=.slice none 0 0:=by cases v<;>simp_all [Value.cells,Cell.okWide,Cell.ok]
  subst this
  exact⟨0,fun _=>default,by omega,fun j hj=>by omega,.recs (cs:=fun _=>[]) (fun j hj=>by omega) (Nat.le_refl _) (Nat.zero_le _) (fun _=>rfl) (.inl rfl)⟩
 ·have hv:v=.slice (some a) len cap:=by cases v<;>simp_all [Value.cells,Cell.okWide,Cell.ok]
  subst hv
  simp only[if_true]at hmm
  subst hmm
  simp only[Prod.mk.injEq]at hx
  rw[hx.1]at hlt
  have hwt:=weight_of_slice ht hlt
  have hwe:=weight_of_elem ht hlt
  rw[hB]at hwt
  simp at hwt
  have hlen:len*B≤140737488351232:=Nat.le_trans (Nat.mul_le_mul_right _ (by omega)) hwt
  have hlen2:len≤140737488351232:=Nat.le_trans (Nat.le_mul_of_pos_right _ (by omega)) hlen
  have each:∀j,j<len→∃(x:α) (cs:List Value),Ok x∧RL (fun _=>True) w (form x) cs∧cs.length=K∧∀i (hi:i<cs.length),w.cell? (a.add (j*K+i))=some cs[i]:=by
   intro j hj
   obtain⟨cs',h1,h2⟩:=hcell j (by omega)
   rw[hC]at h1
   obtain⟨_,h3,h4⟩:=World.cells?_some h1
   have h3':cs'.length=K:=by simpa using h3
   obtain⟨x,k1,k2⟩:=hp _ _ _ h2 (hwe _ (List.mem_map.2 ⟨j,List.mem_range.2 (by omega),rfl⟩)) h3'
   refine⟨x,cs',k1,k2,h3',fun i hi=>?_⟩
   have h8:=h4 i (by omega)
   rw[←Addr.add_add,h8]
   first|exact List.getElem?_eq_getElem hi|simp[hi]
  let g:Nat→α:=fun j=>if hj:j<len then(each j hj).choose else default
  let c:Nat→List Value:=fun j=>if hj:j<len then(each j hj).choose_spec.choose else[]
  have hg:∀j (hj:j<len),Ok (g j)∧RL (fun _=>True) w (form (g j)) (c j)∧(c j).length=K∧∀i (hi:i<(c j).length),w.cell? (a.add (j*K+i))=some (c j)[i]:=by
   intro j hj
   have:=(each j hj).choose_spec.choose_spec
   simp only[g,c,dif_pos hj]
   exact this
  refine⟨len,g,hlen2,fun j hj=>(hg j hj).1,?_⟩
  by_cases h0:len=0
  ·subst h0
   exact .recs (cs:=c) (fun j hj=>by omega) hl (by omega) (fun h=>by cases h) (.inl rfl)
  ·have hsp:a.spot=none:=by
    obtain⟨_,_,k3,k4⟩:=hg 0 (by omega)
    refine(lies_cells (w:=w) (a:=a) (cs:=c 0) (fun i hi=>?_) (fun e=>by rw[e]at k3;simp at k3;omega)).1
    have:=k4 i hi
    rwa [Nat.zero_mul,Nat.zero_add]at this
   have ha:a=⟨a.block,a.off,none⟩:=by cases a;simp_all
   rw[ha]
   refine .recs (cs:=c) (fun j hj=>(hg j hj).2.1) hl (by omega) (fun h=>by cases h) (.inr ⟨a.block,a.off,rfl,fun j hj=>?_⟩)
   obtain⟨_,_,k3,k4⟩:=hg j hj
   have:=(lies_cells (w:=w) (a:=a.add (j*K)) (cs:=c j) (fun i hi=>by rw[Addr.add_add];exact k4 i hi) (fun e=>by rw[e]at k3;simp at k3;omega)).2
   have e2:(a.add (j*K)).off=a.off+j*K:=by rw[ha,qN]
   have e3:(a.add (j*K)).block=a.block:=by rw[ha,qN]
   rw[e2,e3]at this
   exact this
theorem aG4{H:Type}{enc:TypeId×Value→H}{P:Program}{w:World}{base:Nat}{held:Bool}{t e:TypeId}{v:Value}{fuel:Nat}{y:DataW H×List MemPlace}{K:Nat}(ht:P.underlying t=some (.slice e))(hs:xW P 20 e=some (List.replicate K (some .i64)))(hK:1≤K)(hby:P.bytesOf e=8*K)
  (hf:DataW.trod enc P w base (fun _=>true) held fuel t [v]=some y)(hlt:∀n∈y.1.weights P t,n≤140737488351232):
  ∃(n:Nat) (zs:List Int),n≤140737488351232∧RA (fun _=>True) w (.row n [.ints .i64 (n*K) zs]) v:=by
 have hC:P.cellsOf e=K:=by
  obtain⟨_,_,_,hc,_⟩:=Hf hs
  rw[hc];simp
 rcases Deep.open_slice ht hf with⟨hcs,_⟩|⟨a,len,cap,m,n,D,Pl,hcs,_,hl,hm,hmm,hx,hcell⟩
 ·have:v=.slice none 0 0:=by cases hcs;rfl
  subst this
  refine⟨0,[],by omega,.row (cs:=[]) ?_ (Nat.le_refl _) (Nat.zero_le _) (fun _=>rfl) (.inl rfl)⟩
  exact .oq (by simp) rfl
 ·have hv:v=.slice (some a) len cap:=by cases hcs;rfl
  subst hv
  simp only[if_true]at hmm
  subst hmm
  rw[hx]at hlt
  have hwt:=weight_of_slice ht hlt
  rw[hby]at hwt
  simp at hwt
  have hlen:len*(8*K)≤140737488351232:=Nat.le_trans (Nat.mul_le_mul_right _ (by omega)) hwt
  have hlen2:len≤140737488351232:=Nat.le_trans (Nat.le_mul_of_pos_right _ (by omega)) hlen
  obtain⟨zs,hz1,hz2⟩:=rows_each (w:=w) (a:=a) (K:=K) len fun i hi=>by
   obtain⟨cs',h1,h2⟩:=hcell i (by omega)
   rw[hC]at h1
   obtain⟨_,h3,h4⟩:=World.cells?_some h1
   obtain⟨h5,h6⟩:=kinds_of_trod 20 e _ hs h2 (by simpa using h3)
   obtain⟨ys,rfl,h7,_⟩:=OU h5 h6
   refine⟨ys,h7,fun j hj=>?_⟩
   have h8:=h4 j hj
   rw[←Addr.add_add,h8]
   simp[List.getD_eq_getElem?_getD,h7,hj]
  refine⟨len,zs,hlen2,.row (cs:=zs.map (Value.int .i64)) (.oq hz1 rfl) hl (by omega) (fun h=>by cases h) (lies_of fun j hj=>hz2 j (by omega))⟩
end
section
open Pm
structure Mv where
 fr:Int
 n:Nat
 ops:List Int
 dr:Int
def mvF(m:Mv):List Seg:=[.ints .i64 1 [m.fr],.gen 1 [.row m.n [.ints .i64 (m.n*5) m.ops]],.ints .i64 1 [m.dr]]
def Li(m:Mv)(G:List (Option PS)):Option PS:=if 0≤m.fr∧m.fr<(G.length:Int)∧m.n≤4 then iE G m.fr.toNat else none
def pK(m:Mv)(G:List (Option PS)):List (Option PS):=match Li m G with
 |some q=>wE G m.fr.toNat q m.n m.ops 8 m.dr
 |none=>G
def nW(mv:Nat→Mv)(G:List (Option PS)):Nat→List (Option PS)
 |0=>G
 |j+1=>pK (mv j) (nW mv G j)
theorem VD(G:List (Option PS))(fr n:Nat)(ops:List Int)(m:Nat)(vs:List Int)(d:List UInt8):G.length≤(stepM G fr n ops m vs d).length∧(stepM G fr n ops m vs d).length≤G.length+8:=by
 unfold stepM
 split
 ·omega
 ·split
  ·omega
  ·rw[List.length_append,lD,List.length_map]
   have:(Wu (dJ ‹PS› (‹PS›).lf n ops).ng (aH ‹PS› (dJ ‹PS› (‹PS›).lf n ops) n ops m vs d).zs).length≤8:=by
    unfold Wu
    exact Nat.le_trans (List.length_filter_le _ _) (by simp)
   omega
theorem as5(m:Mv){G:List (Option PS)}(h:Ig G):Ig (pK m G)∧G.length≤(pK m G).length∧(pK m G).length≤G.length+8:=by
 unfold pK
 split
 ·next q hq=>
  unfold Li at hq
  split at hq
  ·exact⟨WY h hq _ _ _ _,VD _ _ _ _ _ _ _⟩
  ·cases hq
 ·exact⟨h,Nat.le_refl _,by omega⟩
theorem R7(mv:Nat→Mv){G:List (Option PS)}(h:Ig G):∀j:Nat,Ig (nW mv G j)∧G.length≤(nW mv G j).length∧(nW mv G j).length≤G.length+8*j
 |0=>⟨h,Nat.le_refl _,by rw[nW];omega⟩
 |j+1=>by
  obtain⟨h1,h2,h3⟩:=R7 mv h j
  obtain⟨k1,k2,k3⟩:=as5 (mv j) h1
  rw[nW]
  exact⟨k1,by omega,by omega⟩
theorem Uj{M A:Nat}{k:Int}(m0:1≤M)(m1:M≤6)(a0:1≤A)(a1:A≤M)(k0:1≤k)(k1:k≤A):Ig (pG M A k)∧(pG M A k).length=M:=
 ⟨(DC m0 m1 a0 a1 k0 k1).FC,(DC m0 m1 a0 a1 k0 k1).len⟩
end
section
open Go.ChangeShapes Pm
instance bI3:Inhabited Mv:=⟨⟨0,0,[],0⟩⟩
theorem aG3{l:List Value}{i:Nat}{v:Value}(h:l[i]?=some v):(l.drop i).take 1=[v]:=by
 obtain⟨hlt,hg⟩:=List.getElem?_eq_some_iff.1 h
 rw[List.drop_eq_getElem_cons hlt,hg];rfl
set_option maxHeartbeats 1000000 in
theorem aR5{H:Type}{enc:TypeId×Value→H}{w:World}{base b0:Nat}{held:Bool}{r:Reach}{v:Value}{d:DataW H}{ps:List MemPlace}
  (hval:Value.okWide Tryz.prog w r b0 22 v)(h:DataW.Trod enc Tryz.prog w base (fun _=>true) held 22 v d ps)(hlt:∀n∈d.weights Tryz.prog 22,n≤140737488351232):
  ∃(n:Nat) (mv:Nat→Mv),n≤140737488351232∧(∀j,j<n→(mv j).n≤140737488351232)∧RA (fun _=>True) w (.recs n 3 fun j=>mvF (mv j)) v:=by
 refine aR6 (P:=Tryz.prog) (e:=27) (K:=3) (B:=40) Tryz.underlying22 (by kernel_rfl) (by omega) (by kernel_rfl) (by omega) mvF (fun m=>m.n≤140737488351232) (fun fuel cs y hf hw hlen=>?_) hval h hlt
 obtain⟨k0,w0⟩:=TY hf hw (i:=0) (off:=0) (n:=1) (u:=3) (sg:=List.replicate 1 (some .i64)) (by kernel_rfl) (by kernel_rfl) (by kernel_rfl) rfl (by omega)
 obtain⟨k2,w2⟩:=TY hf hw (i:=2) (off:=2) (n:=1) (u:=3) (sg:=List.replicate 1 (some .i64)) (by kernel_rfl) (by kernel_rfl) (by kernel_rfl) rfl (by omega)
 obtain⟨v1,hv1⟩:∃v,cs[1]?=some v:=⟨_,List.getElem?_eq_getElem (by omega)⟩
 obtain⟨k,y1,h2,h3⟩:=bn0 hf hw (i:=1) (off:=1) (n:=1) (u:=25) (by kernel_rfl) (by kernel_rfl)
 rw[aG3 hv1]at h2
 obtain⟨n,ops,hn,r1⟩:=aG4 (P:=Tryz.prog) (e:=40) (K:=5) Tryz.underlying25 (by kernel_rfl) (by omega) (by kernel_rfl) h2 h3
 obtain⟨z0,y0,l0,_⟩:=OU k0 w0
 obtain⟨z2,y2,l2,_⟩:=OU k2 w2
 have sp:∀a b,cs.drop a=(cs.drop a).take b++cs.drop (a+b):=fun a b=>by rw[←List.drop_drop,List.take_append_drop]
 have l22:cs.drop 2=(cs.drop 2).take 1:=(List.take_of_length_le (by simp[hlen])).symm
 have e:cs=(cs.drop 0).take 1++((cs.drop 1).take 1++(cs.drop 2).take 1):=by
  rw[←l22,←sp 1 1,←sp 0 1]
  rfl
 rw[y0,y2,aG3 hv1]at e
 obtain⟨e0,rfl⟩:∃a,z0=[a]:=by rcases z0 with _|⟨a,_|⟨b,l⟩⟩<;>first|(simp at l0;done)|exact⟨a,rfl⟩
 obtain⟨e2,rfl⟩:∃a,z2=[a]:=by rcases z2 with _|⟨a,_|⟨b,l⟩⟩<;>first|(simp at l2;done)|exact⟨a,rfl⟩
 refine⟨⟨e0,n,ops,e2⟩,hn,?_⟩
 rw[e]
 have R1:v1.oneCell'=true:=by cases r1;rfl
 exact .ints (zs:=[e0]) rfl (.gen (vs:=[v1]) (.cons r1 R1 .nil) rfl (.ints (zs:=[e2]) rfl .nil))
end
section
open Pm
theorem al7{G H:List (Option PS)}{i:Nat}(hi:i<G.length):iE (G++H) i=iE G i:=by
 unfold iE
 rw[List.getD_eq_getElem?_getD,List.getD_eq_getElem?_getD,List.getElem?_append_left hi]
theorem aG9{G:List (Option PS)}{fr:Nat}{q:PS}(hq:iE G fr=some q)(hf:fr<G.length)(n:Nat)(ops:List Int)(m:Nat)(vs:List Int)(d:List UInt8):∃q',iE (stepM G fr n ops m vs d) fr=some q':=by
 unfold stepM
 rw[hq]
 dsimp only
 split
 ·exact⟨q,hq⟩
 ·rw[al7 (by rw[lD];exact hf),sO hf,if_pos rfl]
  exact⟨_,rfl⟩
def FB(G:List (Option PS)):Nat→Int
 |0=> -1
 |i+1=>if FB G i<0 then(match iE G i with|some _=>(i:Int)|none=> -1)else FB G i
theorem Gg(G:List (Option PS)):∀i:Nat,(FB G i= -1∧∀j,j<i→iE G j=none)∨∃(k:Nat) (q:PS),FB G i=(k:Int)∧k<i∧iE G k=some q
 |0=>.inl ⟨rfl,fun j hj=>by omega⟩
 |i+1=>by
  rcases Gg G i with⟨h1,h2⟩|⟨k,q,h1,h2,h3⟩
  ·rw[FB,h1,if_pos (by decide)]
   cases h:iE G i with
   |none=>
    refine .inl ⟨rfl,fun j hj=>?_⟩
    by_cases e:j=i
    ·rw[e];exact h
    ·exact h2 j (by omega)
   |some q=>exact .inr ⟨i,q,rfl,by omega,h⟩
  ·rw[FB,h1,if_neg (by omega)]
   exact .inr ⟨k,q,rfl,by omega,h3⟩
theorem fstA_none{G:List (Option PS)}{j:Nat}(hp:iE G j=none):FB G (j+1)=FB G j:=by
 rw[FB,hp]
 rcases Gg G j with⟨h1,_⟩|⟨i,q,h1,h2,h3⟩
 ·rw[h1,if_pos (by decide)]
 ·rw[h1,if_neg (by omega)]
theorem fstA_new{G:List (Option PS)}{j:Nat}{p:PS}(h:FB G j<0)(hp:iE G j=some p):FB G (j+1)=(j:Int):=by rw[FB,hp,if_pos h]
theorem fstA_old{G:List (Option PS)}{j i:Nat}(h:FB G j=(i:Int)):FB G (j+1)=(i:Int):=by rw[FB,h,if_neg (by omega)]
attribute [local irreducible] aU aZ bR aA au dB cO aF bZ aN aT av ak aR cZ bX aQ bK gB iC aD bA aO jW dJ bW bH aH bT fU bJ bg gY aJ nk qP kF bn fV eD dU eT bq aC bU fE dQ eF wH bE dV stepM wE uo aY iW pG FB Oh
set_option maxHeartbeats 4000000 in
theorem aR2(G:List (Option PS))(hg:Ig G)(hl:G.length≤1000)(k:Nat)(hk:k<G.length)(q0:PS)(hq0:iE G k=some q0):aP 18 [.row G.length [.gen (G.length*2) (gL G)]] (.d (.v (.bool true))):=by
 refine dK (E:=Oc) Tryz.func18 Tryz.ntmps18 ?_
 have HG:=Lib.hid hg
 have HQ:=Lib.hid hq0
 have hz:FB G 0= -1:=by unfold FB;rfl
 have HZ:=Lib.hid hz
 have HS:=Lib.hid (Gg G)
 clear hg hq0 hz
 refine aj ?_;(try exact⟨⟩)
 refine aM.mk (bV [0,3,4] [0] G.length (fun j=>⟨[.d (.row G.length [.gen (G.length*2) (gL G)]),.ah,.ah,.d (.v (.int .i64 (FB G j))),.d (.v (.int .i64 (j:Nat))),.ah,.ah,.ah,.ah,.ah,.ah,.ah,.ah,.ah,.ah,.ah,.ah,.ah,.ah,.ah,.ah,.ah,.ah,.ah,.ah,.ah,.ah,.ah,.ah,.ah,.ah,.ah,.ah,.ah,.ah,.ah,.ah,.ah,.ah,.ah,.ah,.ah,.ah,.ah,.ah,.ah,.ah,.ah,.ah,.ah],[none]⟩) ?_ (h2:=by dsimp only;rw[HZ.out];exact rfl))
 intro j hj hl
 by_cases h:j<G.length
 ·have i1:(j:Int)<(G.length:Int):=by omega
  have v1:=(OA G j h).1
  have j2:j*2+2≤G.length*2:=by omega
  cases hp:iE G j with
  |none=>
   rw[hp]at v1
   have v1:(gL G).getD (j*2) (.v undef)=.v (.pointer none):=v1
   refine aj ?_;(try exact⟨⟩)
   rw[v1]
   refine aj ?_;(try exact⟨⟩)
   refine hl.go h [0,3,4] [0] ?_
   have e:=fstA_none hp
   dsimp only
   rw[e]
   rfl
  |some p=>
   rw[hp]at v1
   have v1:(gL G).getD (j*2) (.v undef)=.sref (bN p) 0:=v1
   refine aj ?_;(try exact⟨⟩)
   rw[v1]
   refine aj ?_;(try exact⟨⟩)
   rcases HS.out j with⟨h1,h2⟩|⟨i,q,h1,h2,h3⟩
   ·have e:=Lib.hid (fstA_new (by omega) hp)
    have f:FB G j<0:=by omega
    clear h1 h2
    refine aj ?_;(try exact⟨⟩)
    rw[v1]
    refine aj ?_;(try exact⟨⟩)
    rw[v1]
    refine aj ?_;(try exact⟨⟩)
    rw[v1]
    refine aj ?_;(try exact⟨⟩)
    rw[v1]
    refine aj ?_;(try exact⟨⟩)
    refine hl.go h [0,3,4] [0] ?_
    dsimp only
    rw[e.out]
    rfl
   ·have e:=Lib.hid (fstA_old h1)
    have lk:=HG.out.like _ _ _ _ hp h3
    have v2:=(OA G i (by omega)).1
    rw[h3]at v2
    have v2:(gL G).getD (i*2) (.v undef)=.sref (bN q) 0:=v2
    have hv:bS p.e p.zs p.ad p.k p.ch=bS q.e q.zs q.ad q.k q.ch:=by rw[lk.e,lk.zs,lk.ad,lk.k,lk.ch]
    have hep:p.ep=q.ep:=lk.ep
    rw[h1]
    have HV:=Lib.hid hv
    have HEP:=Lib.hid hep
    clear h1 h3 lk hv hep
    refine aj ?_;(try exact⟨⟩)
    rw[v1]
    refine aj ?_;(try exact⟨⟩)
    rw[v2]
    refine aj ?_;(try exact⟨⟩)
    rw[HV.out]
    refine aj ?_;(try exact⟨⟩)
    rw[v1]
    refine aj ?_;(try exact⟨⟩)
    rw[v2]
    refine aj ?_;(try exact⟨⟩)
    rw[HEP.out]
    refine aj ?_;(try exact⟨⟩)
    refine hl.go h [0,3,4] [0] ?_
    dsimp only
    rw[e.out]
    rfl
 ·obtain rfl:j=G.length:=by omega
  have i1:¬(G.length:Int)<(G.length:Int):=by omega
  obtain⟨q0,hq0⟩:∃q,iE G k=some q:=⟨_,HQ.out⟩
  have f0:¬FB G G.length<0:=by
   rcases HS.out G.length with⟨h1,h2⟩|⟨i,q,h1,h2,h3⟩
   ·have:=h2 k hk
    rw[hq0]at this
    cases this
   ·rw[h1];omega
  have f1:FB G G.length≥0:=by omega
  refine aj ?_;(try exact⟨⟩)
  rw[decide_eq_true f1]
def aR1:List A→(bP→Prop)→Prop
 |[.row n [.gen m l]],K=>(∃G,n=G.length∧m=G.length*2∧l=gL G∧Ig G∧G.length≤1000∧∃k q,k<G.length∧iE G k=some q)∧K (.d (.v (.bool true)))
 |_,_=>False
theorem au7:∀args K,aR1 args K→∃r,aP 18 args r∧K r:=by
 intro args K h
 unfold aR1 at h
 split at h
 ·obtain⟨⟨G,rfl,rfl,rfl,hg,hl,k,q,hk,hq⟩,h⟩:=h
  exact⟨_,aR2 G hg hl k hk q hq,h⟩
 ·exact h.elim
noncomputable def by2:ay:=Oc.add 18 aR1 au7 ⟨_,Tryz.func18,by kernel_rfl,by kernel_rfl⟩
end
section
open Go.ChangeShapes Pm
def There(G:List (Option PS)):Prop:=∃k q,k<G.length∧iE G k=some q
theorem groupM_there{M A:Nat}{k:Int}(m0:1≤M)(m1:M≤6)(a0:1≤A)(a1:A≤M)(k0:1≤k)(k1:k≤A):There (pG M A k):=by
 have g:=DC m0 m1 a0 a1 k0 k1
 obtain⟨p,hp,_⟩:=g.at' 0 (by omega)
 exact⟨0,p,by rw[g.len];omega,hp⟩
theorem play_there(mv:Nat→Mv){G:List (Option PS)}(h:There G):∀j:Nat,There (nW mv G j)
 |0=>h
 |j+1=>by
  rw[nW]
  have ih:=play_there mv h j
  unfold pK
  split
  ·next q hq=>
   unfold Li at hq
   split at hq
   ·next hc=>
    have hf:(mv j).fr.toNat<(nW mv G j).length:=by omega
    obtain⟨q',hq'⟩:=aG9 hq hf (mv j).n (mv j).ops (uo (nW mv G j) q (mv j).n (mv j).ops 8).length (uo (nW mv G j) q (mv j).n (mv j).ops 8).flatten (wL (mv j).dr)
    exact⟨_,q',Nat.lt_of_lt_of_le hf (VD _ _ _ _ _ _ _).1,hq'⟩
   ·cases hq
  ·exact ih
attribute [local irreducible] aU aZ bR aA au dB cO aF bZ aN aT av ak aR cZ bX aQ bK gB iC aD bA aO jW dJ bW bH aH bT fU bJ bg gY aJ nk qP kF bn fV eD dU eT bq aC bU fE dQ eF wH bE dV stepM wE uo aY iW pG nW pK
set_option maxHeartbeats 8000000 in
theorem partyOne_fn(M:Int)(n:Nat)(mv:Nat→Mv)(hn:n≤140737488355328)(hmv:∀j,j<n→(mv j).n≤140737488355328):
  aP 4 [.v (.int .i64 M),.recs n 3 (fun j=>mvF (mv j))] (.d (.v (.bool true))):=by
 refine dK (E:=by2) Tryz.func4 Tryz.ntmps4 ?_
 by_cases m1:M<1
 ·refine aj ?_;(try exact⟨⟩)
 by_cases m2:M>5
 ·refine aj ?_;(try exact⟨⟩)
 by_cases n4:(n:Int)>4
 ·refine aj ?_;(try exact⟨⟩)
 obtain⟨gg,gl⟩:=Uj (M:=M.toNat) (A:=1) (k:=1) (by omega) (by omega) (by omega) (by omega) (by omega) (by omega)
 have m1':1≤M:=by omega
 have m2':M≤5:=by omega
 refine aj ?_;(try exact⟨⟩)
 intro H hH
 have hH:H=pG M.toNat 1 1:=hH
 have gt:=groupM_there (M:=M.toNat) (A:=1) (k:=1) (by omega) (by omega) (by omega) (by omega) (by omega) (by omega)
 rw[←hH]at gg gl gt
 clear hH
 have n1:H.length≠0:=by rw[gl];omega
 have n2:H≠[]:=fun e=>n1 (by rw[e];rfl)
 have hP:=R7 mv gg
 have HT:=Lib.hid (play_there mv gt)
 have GT:=Lib.hid gt
 have GG:=Lib.hid gg
 have hg6:H.length≤5:=by rw[gl];omega
 have HPO:=Lib.hid hP
 have hp0:nW mv H 0=H:=by rw[nW]
 have hps:∀j,nW mv H (j+1)=pK (mv j) (nW mv H j):=fun j=>by rw[nW]
 have HP0:=Lib.hid hp0
 have HPS:=Lib.hid hps
 have HMV:=Lib.hid hmv
 clear hP hp0 hps hmv gg gl gt
 refine aj ?_;(try exact⟨⟩)
 refine⟨⟨H,rfl,rfl,rfl,GG.out,by omega,GT.out⟩,?_⟩
 refine aj ?_;(try exact⟨⟩)
 refine aM.mk (bV [1,5,6] [0] n (fun j=>⟨[.ah,.d (.recs n 3 (fun j=>mvF (mv j))),.ah,.ah,.ah,.d (.row (nW mv H j).length [.gen ((nW mv H j).length*2) (gL (nW mv H j))]),.d (.v (.int .i64 (j:Nat))),.ah,.ah,.ah,.ah,.ah,.ah,.ah,.ah,.ah,.ah,.ah,.ah,.ah,.ah,.ah,.ah,.ah,.ah,.ah,.ah,.ah,.ah,.ah,.ah,.ah,.ah,.ah,.ah,.ah,.ah,.ah,.ah,.ah,.ah,.ah,.ah,.ah,.ah,.ah,.ah,.ah,.ah,.ah,.ah,.ah,.ah,.ah,.ah,.ah,.ah,.ah,.ah,.ah,.ah,.ah,.ah,.ah,.ah,.ah,.ah,.ah,.ah,.ah,.ah,.ah,.ah,.ah,.ah,.ah,.ah,.ah,.ah,.ah,.ah,.ah,.ah,.ah,.ah,.ah,.ah,.ah,.ah,.ah,.ah,.ah,.ah,.ah,.ah],[none]⟩) ?_ (h2:=by dsimp only;rw[HP0.out];exact rfl))
 intro j hj hl
 by_cases h:j<n
 ·have i1:(j:Int)<(n:Int):=by omega
  obtain⟨q1,q2,q3⟩:=HPO.out j
  obtain⟨G,hG⟩:∃G,G=nW mv H j:=⟨_,rfl⟩
  rw[←hG]at q1 q2 q3
  have e1:nW mv H (j+1)=pK (mv j) G:=by rw[HPS.out,hG]
  have E1:=Lib.hid e1
  have HGG:=Lib.hid hG
  have ho:=HMV.out j h
  rw[←hG]
  clear e1 hG
  have hl0:G.length≤64:=by omega
  have no:Li (mv j) G=none→pK (mv j) G=G:=fun e=>by unfold pK;rw[e]
  have NO:=Lib.hid no
  clear no
  by_cases f0:(mv j).fr<0
  ·have E2:=Lib.hid (NO.out (by unfold Li;rw[if_neg (by omega)]))
   refine aj ?_;(try exact⟨⟩)
   refine hl.go h [1,5,6] [0] ?_
   dsimp only
   rw[E1.out,E2.out]
   rfl
  by_cases f1:(mv j).fr≥(G.length:Int)
  ·have E2:=Lib.hid (NO.out (by unfold Li;rw[if_neg (by omega)]))
   refine aj ?_;(try exact⟨⟩)
   refine hl.go h [1,5,6] [0] ?_
   dsimp only
   rw[E1.out,E2.out]
   rfl
  have f0':0≤(mv j).fr:=by omega
  have f1':(mv j).fr<(G.length:Int):=by omega
  have v2:=(OA G (mv j).fr.toNat (by omega)).2
  cases hq:iE G (mv j).fr.toNat with
  |none=>
   have E2:=Lib.hid (NO.out (by unfold Li;split;exact hq;rfl))
   rw[hq]at v2
   refine aj ?_;(try exact⟨⟩)
   rw[v2]
   refine aj ?_;(try exact⟨⟩)
   refine hl.go h [1,5,6] [0] ?_
   dsimp only
   rw[E1.out,E2.out]
   rfl
  |some q=>
   rw[hq]at v2
   by_cases o4:((mv j).n:Int)>4
   ·have E2:=Lib.hid (NO.out (by unfold Li;rw[if_neg (by omega)]))
    refine aj ?_;(try exact⟨⟩)
    rw[v2]
    refine aj ?_;(try exact⟨⟩)
    refine hl.go h [1,5,6] [0] ?_
    dsimp only
    rw[E1.out,E2.out]
    rfl
   ·have E2:=Lib.hid (show pK (mv j) G=wE G (mv j).fr.toNat q (mv j).n (mv j).ops 8 (mv j).dr by
     unfold pK Li
     rw[if_pos ⟨f0',f1',by omega⟩,hq])
    refine aj ?_;(try exact⟨⟩)
    rw[v2]
    refine aj ?_;(try exact⟨⟩)
    refine⟨q,q1,f0',f1',hq,hl0,by omega,by omega,by omega,fun e=>(by cases e),?_⟩
    intro H' K5
    obtain rfl:H'=pK (mv j) G:=K5.trans E2.out.symm
    have q4:=(HPO.out (j+1)).2.1
    rw[E1.out]at q4
    have n3:(pK (mv j) G).length≠0:=by omega
    have n4:pK (mv j) G≠[]:=fun e=>n3 (by rw[e];rfl)
    have G5:=(HPO.out (j+1)).1
    have L5:=(HPO.out (j+1)).2.2
    have T5:=HT.out (j+1)
    rw[E1.out]at G5 L5 T5
    have J5:=Lib.hid (And.intro G5 (And.intro (show(pK (mv j) G).length≤1000 by omega) T5))
    clear K5 q4 G5 L5 T5
    refine aj ?_;(try exact⟨⟩)
    refine⟨⟨pK (mv j) G,rfl,rfl,rfl,J5.out.1,J5.out.2.1,J5.out.2.2⟩,?_⟩
    refine aj ?_;(try exact⟨⟩)
    refine hl.go h [1,5,6] [0] ?_
    dsimp only
    rw[E1.out]
    rfl
 ·obtain rfl:j=n:=by omega
  have i1:¬(j:Int)<(j:Int):=by omega
  refine aj ?_;(try exact⟨⟩)
theorem partyOne_walk{w:World}(M:Int)(hM:(Lit.int .i64 M).wf=true)(v:Value)(n:Nat)(mv:Nat→Mv)(hn:n≤140737488351232)(hmv:∀j,j<n→(mv j).n≤140737488351232)(hv:RA (fun _=>True) w (.recs n 3 fun j=>mvF (mv j)) v)(hG:SV gTab (fun _=>True) w):
  Calls Tryz.prog 4 #[.int .i64 M,v] w fun e w'=>e=.returned (.bool true)∧Below w.heap.size w w':=
 Uz (partyOne_fn M n mv (by omega) (fun j hj=>by have:=hmv j hj;omega)) hG (.cons (.v _) (.cons hv .nil))
end
end Go.Proofs.YtjhgelfnmhdihaaGreatDoor
