/- -/
import Derived.Test.YtegalalmamofdaaGreatDoorJ24
import Derived.Test.YtegalalmamofdaaGreatDoorJ26
import Derived.Test.YtegalalmamofdaaGreatDoorJ27
namespace Go.Proofs.YtegalalmamofdaaGreatDoor
set_option linter.all false
set_option maxRecDepth 100000
open Go.RowKit
set_option maxHeartbeats 8000000
variable{p:List UInt8}
noncomputable section
open Pm
attribute [local irreducible] aN aQ bq aJ aI dL fM fC gF aF bR aC aD bP eY wE jP iV jI
def IZ:A->(Nat->List Int->Prop)->Prop
 | .row n [.ints .i64 m ops],K=>m=n*5/\n<=1000000/\K n ops
 | .v (.slice none 0 0),K=>K 0 []
 |_,_=>False
theorem mq{x:A}{K:Nat->List Int->Prop}(h:IZ x K):∃n ops,n<=1000000/\K n ops/\∀{S:Nat->Prop} {w:World} {v:Value},RA S w x v->RA S w (.row n [.ints .i64 (n*5) ops]) v:=by
 unfold IZ at h
 split at h
 ·obtain⟨rfl,h1,h2⟩:=h
  exact⟨_,_,h1,h2,fun h=>h⟩
 ·refine⟨0,[],by omega,h,fun {S w v} hv=>?_⟩
  rw[RA.plain hv]
  exact .row (cs:=[]) (.fI (by simp) rfl) (Nat.le_refl _) (Nat.zero_le _) (fun _=>rfl) (.inl rfl)
 ·exact h.elim
def applyN:List A->(bC->Prop)->Prop
 |[.agg [.ints .i64 1 [e],.ints .i64 31 zs,.bools 8 ad,.ints .i64 1 [k],.bytes 32 ch],.v (.int .i64 fr),x],K=>
  IZ x fun n ops=>vE (aN (decide ((fC e ⟨zs,ad,k,F8,F8⟩ fr ops n).1=0))
   (K (.t [.agg (eD e (fC e ⟨zs,ad,k,F8,F8⟩ fr ops n).2.zs (fC e ⟨zs,ad,k,F8,F8⟩ fr ops n).2.ad (fC e ⟨zs,ad,k,F8,F8⟩ fr ops n).2.k ch),.agg [.bools 8 (fC e ⟨zs,ad,k,F8,F8⟩ fr ops n).2.ng],.agg [.bools 8 (fC e ⟨zs,ad,k,F8,F8⟩ fr ops n).2.gn],.v (.int .i64 0)]))
   (K (.t [.agg DX,.agg [.bools 8 F8],.agg [.bools 8 F8],.v (.int .i64 (fC e ⟨zs,ad,k,F8,F8⟩ fr ops n).1)])))
 |_,_=>False
theorem Jg{f:FuncId}(hx:∀e zs ad k ch fr ops n,n<=1000000->aV f [.agg (eD e zs ad k ch),.v (.int .i64 fr),.row n [.ints .i64 (n*5) ops]] (.t (aa9 e zs ad k ch fr ops n))):∀args K,applyN args K->∃r,aV f args r/\K r:=by
 intro args K h
 unfold applyN at h
 split at h
 ·next e zs ad k ch fr x=>
  obtain⟨n,ops,hn,h,hv⟩:=mq h
  have h:=h.out
  refine⟨.t (aa9 e zs ad k ch fr ops n),fun S w vs hG ha=>?_,?_⟩
  ·obtain⟨v1,v2,v3,rfl,h1,h2,h3⟩:=jH ha
   exact hx e zs ad k ch fr ops n hn S w _ hG (.cons h1 (.cons h2 (.cons (hv h3) .nil)))
  ·unfold aa9
   by_cases he:(fC e ⟨zs,ad,k,F8,F8⟩ fr ops n).1=0
   ·rw[decide_eq_true he,qD]at h
    rw[if_pos he]
    exact h
   ·rw[decide_eq_false he,oG]at h
    rw[if_neg he]
    exact h
 ·exact h.elim
def ax6:List A->(bC->Prop)->Prop
 |[x],K=>IZ x fun n ops=>K (.o 5 1 (n*40) [.bytes (n*40) (aF ops)])
 |_,_=>False
theorem ax7{f:FuncId}(hx:∀zs n,zs.length=n*5->n<=1000000->aV f [.row n [.ints .i64 (n*5) zs]] (.o 5 1 (n*40) [.bytes (n*40) (aF zs)])):∀args K,ax6 args K->∃r,aV f args r/\K r:=by
 intro args K h
 unfold ax6 at h
 split at h
 ·next x=>
  obtain⟨n,ops,hn,h,hv⟩:=mq h
  refine⟨_,fun S w vs hG ha=>?_,h⟩
  obtain⟨v,rfl,h1⟩:=iC ha
  exact iY (fun hl=>hx ops n hl.1.1 hn) S w _ hG (.cons (hv h1) .nil)
 ·exact h.elim
def aD9:Nat->Bk->List A->(bC->Bk->Prop)->Prop
 |0,.obj P,[x],K=>∃s,P=mO s/\1<=s/\s<1073741789/\sH x fun p=>p.length<=1000000/\K (.d (.agg [.ints .i64 2 [iV s p,jI s p]])) (.obj (mO s))
 |_,_,_,_=>False
theorem aD8(s:Int)(hs:1<=s/\s<1073741789)(p:List UInt8):(IntKind.i64.wrap (jP s p+IntKind.i64.wrap (iV s p*s))).tmod 1073741789=jI s p:=by
 have h1:=Cr s p
 have h2:=yw s p
 have h3:0<=iV s p*s:=Int.mul_nonneg h2.1 (by omega)
 have h4:iV s p*s<=1073741789*1073741789:=Int.mul_le_mul (by omega) (by omega) (by omega) (by omega)
 rw[gH (z:=iV s p*s) (by omega) (by omega),gH (by omega) (by omega),Int.tmod_eq_emod_of_nonneg (by omega),jI]
theorem au7(s:Int)(p:List UInt8):aI (aD (List.replicate 32 0) (sb ⟨#[110,111,110,99,101]⟩) (bP s++p))=jP s p:=by
 rw[jP,aI]
 simp only[List.flatten_cons,List.flatten_nil,List.append_nil]
theorem bG2(s:Int)(hs:1<=s/\s<1073741789)(p:List UInt8)(n:Int)(hn:n=jP s p):bC.d (.agg [.ints .i64 2 [wE (aJ 4 n) (aJ 4 s) p,(IntKind.i64.wrap (n+IntKind.i64.wrap (wE (aJ 4 n) (aJ 4 s) p*s))).tmod 1073741789]])=.d (.agg [.ints .i64 2 [iV s p,jI s p]]):=by
 subst hn
 have h:=aD8 s hs p
 rw[iV]at h
 rw[h,iV]
theorem ab2(n:Int):aV 216 [.v (.int .i64 n)] (.d (.v (.bool (decide (0<=n/\n<1073741789))))):=by
 refine eO (E:=ai7) Tryz.func216 Tryz.ntmps216 ?_
 by_cases h:0<=n
 ·refine ah ?_;(try exact⟨⟩)
  simp[h]
 ·refine ah ?_;(try exact⟨⟩)
  simp[h]
def Lc:List A->(bC->Prop)->Prop
 |[.v (.int .i64 n)],K=>K (.d (.v (.bool (decide (0<=n/\n<1073741789)))))
 |_,_=>False
theorem Rf:∀args K,Lc args K->∃r,aV 216 args r/\K r:=by
 intro args K h
 unfold Lc at h
 split at h
 ·exact⟨_,ab2 _,h⟩
 ·exact h.elim
def bj1:ak:=ai7.add 216 Lc Rf (.of Tryz.func216)
theorem aZ5(s:Int)(hs:1<=s/\s<1073741789)(p:List UInt8)(hp:p.length<=1000000):
  bV 77 0 (.obj (mO s)) [.row p.length [.bytes p.length p]] (.d (.agg [.ints .i64 2 [iV s p,jI s p]])) (.obj (mO s)):=by
 refine iH (E:=ai7) Tryz.func77 Tryz.ntmps77 ?_
 have hs0:0<=s:=by omega
 refine ah ?_
 exact bG2 s hs p _ (au7 s p)
theorem ch3{y:Int}{e s:Int}(h:dL y=false):mh y p e s=false:=by simp[mh,h]
theorem cg9{y:Int}{e s:Int}(h:¬(0<=e/\e<1073741789)):mh y p e s=false:=by simp only[mh,decide_eq_false h,Bool.and_false,Bool.false_and]
theorem ch0{y:Int}{e s:Int}(h:¬(0<=s/\s<1073741789)):mh y p e s=false:=by simp only[mh,decide_eq_false h,Bool.and_false,Bool.false_and]
theorem ch1{y:Int}{e s:Int}(h:dL y=true)(he:0<=e/\e<1073741789)(hs:0<=s/\s<1073741789):mh y p e s=(e==wE (eY (aJ 4 s) (aJ y (1073741789-e))) y p):=by simp only[mh,h,decide_eq_true he,decide_eq_true hs,Bool.true_and]
attribute [local irreducible] mh
theorem KP(y:Int)(p:List UInt8)(hp:p.length<=1000000)(e s:Int):
  aV 165 [.v (.int .i64 y),.row p.length [.bytes p.length p],.agg [.ints .i64 2 [e,s]]] (.d (.v (.bool (mh y p e s)))):=by
 refine eO (E:=bj1) Tryz.func165 Tryz.ntmps165 ?_
 cases hy:dL y with
 |false=>
  rw[ch3 hy]
  refine ah ?_;(try exact⟨⟩)
 |true=>
  by_cases he:0<=e/\e<1073741789
  ·have he1:=decide_eq_true he
   by_cases hs:0<=s/\s<1073741789
   ·have hs1:=decide_eq_true hs
    rw[ch1 hy he hs]
    obtain⟨he2,he3⟩:=he
    obtain⟨hs2,hs3⟩:=hs
    refine ah ?_;(try exact⟨⟩)
   ·have hs1:=decide_eq_false hs
    rw[ch0 hs]
    clear hs
    refine ah ?_;(try exact⟨⟩)
  ·have he1:=decide_eq_false he
   rw[cg9 he]
   clear he
   refine ah ?_;(try exact⟨⟩)
theorem Qd:∀pos x args K,aD9 pos x args K->∃r x',bV 77 pos x args r x'/\K r x':=by
 intro pos x args K h
 unfold aD9 at h
 split at h
 ·next P y=>
  obtain⟨s,rfl,h1,h2,h⟩:=h
  obtain⟨p,⟨hp,h⟩,hv⟩:=ji h
  refine⟨_,_,fun S w r vs hr hG hx ha=>?_,h⟩
  obtain⟨v,rfl,h3⟩:=iC ha
  exact aZ5 s ⟨h1,h2⟩ p hp S w r _ hr hG hx (.cons (hv h3) .nil)
 ·exact h.elim
theorem CV{S:Nat->Prop}{w:World}{a b:A}{vs:List Value}(h:mH S w [a,b] vs):∃x y,vs=[x,y]/\RA S w a x/\RA S w b y:=by
 cases h with|cons h r=>cases r with|cons h2 r=>cases r;exact⟨_,_,rfl,h,h2⟩
def bb6:List A->(bC->Prop)->Prop
 |[.v (.int .i64 y),x,.agg [.ints .i64 2 [e,s]]],K=>sH x fun p=>p.length<=1000000/\K (.d (.v (.bool (mh y p e s))))
 |[.v (.int .i64 y),x,.agg [.ints .i64 2 l]],K=>sH x fun p=>p.length<=1000000/\K (.d (.v (.bool (mh y p (l.getD 0 0) (l.getD 1 0)))))
 |_,_=>False
theorem WR{f:FuncId}(hx:∀y p,p.length<=1000000->∀e s,aV f [.v (.int .i64 y),.row p.length [.bytes p.length p],.agg [.ints .i64 2 [e,s]]] (.d (.v (.bool (mh y p e s))))):∀args K,bb6 args K->∃r,aV f args r/\K r:=by
 intro args K h
 unfold bb6 at h
 split at h
 ·next y x e s=>
  obtain⟨p,⟨hp,h⟩,hv⟩:=ji h
  refine⟨_,fun S w vs hG ha=>?_,h⟩
  obtain⟨v1,v2,v3,rfl,h1,h2,h3⟩:=jH ha
  exact hx y p hp e s S w _ hG (.cons h1 (.cons (hv h2) (.cons h3 .nil)))
 ·next y x l _=>
  obtain⟨p,⟨hp,h⟩,hv⟩:=ji h
  refine⟨_,iY fun hl=>fun S w vs hG ha=>?_,h⟩
  obtain⟨a,b,rfl⟩:∃a b,l=[a,b]:=by
   have h5:l.length=2:=by
    cases x<;>first|exact hl.1.1|exact hl.2.1.1
   rcases l with _|⟨a,_|⟨b,_|⟨c,l⟩⟩⟩<;>simp at h5
   exact⟨a,b,rfl⟩
  obtain⟨v1,v2,v3,rfl,h1,h2,h3⟩:=jH ha
  exact hx y p hp a b S w _ hG (.cons h1 (.cons (hv h2) (.cons h3 .nil)))
 ·exact h.elim
def bu6:ak:=bj1.gI 77 aD9 Qd (.of Tryz.func77)
def bu7:ak:=bu6
def bu8:ak:=bu7.add 165 bb6 (WR KP) (.of Tryz.func165)
def bu9:ak:=bu8
def bv0:ak:=bu9.add 78 Oi FK (.of Tryz.func78)
def bZ3:ak:=bv0.add 42 He C8 (.of Tryz.func42)
end
end Go.Proofs.YtegalalmamofdaaGreatDoor
