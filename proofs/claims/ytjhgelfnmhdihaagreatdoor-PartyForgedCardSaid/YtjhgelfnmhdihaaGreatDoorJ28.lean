/-
  Operations done, their bytes, views' sums: as the laws of later stages call them.
-/
import Derived.Test.YtjhgelfnmhdihaaGreatDoorJ24
import Derived.Test.YtjhgelfnmhdihaaGreatDoorJ26
import Derived.Test.YtjhgelfnmhdihaaGreatDoorJ27
namespace Go.Proofs.YtjhgelfnmhdihaaGreatDoor
set_option linter.unusedVariables false
set_option linter.unusedSimpArgs false
set_option maxRecDepth 100000
open Go.RowKit
section
open Pm
attribute [local irreducible] aU aZ bR aA au cO dA cZ dU aN aR bZ aF bD dB rT jP jo jQ
def uS:A→(Nat→List Int→Prop)→Prop
 | .row n [.ints .i64 m ops],K=>m=n*5∧n≤1000000∧K n ops
 | .v (.slice none 0 0),K=>K 0 []
 |_,_=>False
theorem gM{x:A}{K:Nat→List Int→Prop}(h:uS x K):∃n ops,n≤1000000∧K n ops∧∀{S:Nat→Prop} {w:World} {v:Value},RA S w x v→RA S w (.row n [.ints .i64 (n*5) ops]) v:=by
 unfold uS at h
 split at h
 ·obtain⟨rfl,h1,h2⟩:=h
  exact⟨_,_,h1,h2,fun h=>h⟩
 ·refine⟨0,[],by omega,h,fun {S w v} hv=>?_⟩
  rw[RA.plain hv]
  exact .row (cs:=[]) (.oq (by simp) rfl) (Nat.le_refl _) (Nat.zero_le _) (fun _=>rfl) (.inl rfl)
 ·exact h.elim
def applyN:List A→(bP→Prop)→Prop
 |[.agg [.ints .i64 1 [e],.ints .i64 31 zs,.bools 8 ad,.ints .i64 1 [k],.bytes 32 ch],.v (.int .i64 fr),x],K=>
  uS x fun n ops=>mR (aU (decide ((cZ e ⟨zs,ad,k,F8,F8⟩ fr ops n).1=0))
   (K (.t [.agg (bS e (cZ e ⟨zs,ad,k,F8,F8⟩ fr ops n).2.zs (cZ e ⟨zs,ad,k,F8,F8⟩ fr ops n).2.ad (cZ e ⟨zs,ad,k,F8,F8⟩ fr ops n).2.k ch),.agg [.bools 8 (cZ e ⟨zs,ad,k,F8,F8⟩ fr ops n).2.ng],.agg [.bools 8 (cZ e ⟨zs,ad,k,F8,F8⟩ fr ops n).2.gn],.v (.int .i64 0)]))
   (K (.t [.agg wP,.agg [.bools 8 F8],.agg [.bools 8 F8],.v (.int .i64 (cZ e ⟨zs,ad,k,F8,F8⟩ fr ops n).1)])))
 |_,_=>False
theorem vE{f:FuncId}(hx:∀e zs ad k ch fr ops n,n≤1000000→aP f [.agg (bS e zs ad k ch),.v (.int .i64 fr),.row n [.ints .i64 (n*5) ops]] (.t (Fu e zs ad k ch fr ops n))):∀args K,applyN args K→∃r,aP f args r∧K r:=by
 intro args K h
 unfold applyN at h
 split at h
 ·next e zs ad k ch fr x=>
  obtain⟨n,ops,hn,h,hv⟩:=gM h
  have h:=h.out
  refine⟨.t (Fu e zs ad k ch fr ops n),fun S w vs hG ha=>?_,?_⟩
  ·obtain⟨v1,v2,v3,rfl,h1,h2,h3⟩:=jI ha
   exact hx e zs ad k ch fr ops n hn S w _ hG (.cons h1 (.cons h2 (.cons (hv h3) .nil)))
  ·unfold Fu
   by_cases he:(cZ e ⟨zs,ad,k,F8,F8⟩ fr ops n).1=0
   ·rw[decide_eq_true he,iM]at h
    rw[if_pos he]
    exact h
   ·rw[decide_eq_false he,gW]at h
    rw[if_neg he]
    exact h
 ·exact h.elim
def RV:List A→(bP→Prop)→Prop
 |[x],K=>uS x fun n ops=>K (.o 5 1 (n*40) [.bytes (n*40) (aN ops)])
 |_,_=>False
theorem LP{f:FuncId}(hx:∀zs n,zs.length=n*5→n≤1000000→aP f [.row n [.ints .i64 (n*5) zs]] (.o 5 1 (n*40) [.bytes (n*40) (aN zs)])):∀args K,RV args K→∃r,aP f args r∧K r:=by
 intro args K h
 unfold RV at h
 split at h
 ·next x=>
  obtain⟨n,ops,hn,h,hv⟩:=gM h
  refine⟨_,fun S w vs hG ha=>?_,h⟩
  obtain⟨v,rfl,h1⟩:=iP ha
  exact iq (fun hl=>hx ops n hl.1.1 hn) S w _ hG (.cons (hv h1) .nil)
 ·exact h.elim
def af0:Nat→Bk→List A→(bP→Bk→Prop)→Prop
 |0,.obj P,[x],K=>∃s,P=p9 s∧1≤s∧s<1073741789∧pV x fun p=>p.length≤1000000∧K (.d (.agg [.ints .i64 2 [jo s p,jQ s p]])) (.obj (p9 s))
 |_,_,_,_=>False
theorem ae8(s:Int)(hs:1≤s∧s<1073741789)(p:List UInt8):(IntKind.i64.wrap (jP s p+IntKind.i64.wrap (jo s p*s))).tmod 1073741789=jQ s p:=by
 have h1:=Ac s p
 have h2:=JL s p
 have h3:0≤jo s p*s:=Int.mul_nonneg h2.1 (by omega)
 have h4:jo s p*s≤1073741789*1073741789:=Int.mul_le_mul (by omega) (by omega) (by omega) (by omega)
 rw[dR (z:=jo s p*s) (by omega) (by omega),dR (by omega) (by omega),Int.tmod_eq_emod_of_nonneg (by omega),jQ]
theorem Ls(s:Int)(p:List UInt8):au (aF (List.replicate 32 0) (sb ⟨#[110,111,110,99,101]⟩) (bD s++p))=jP s p:=by
 rw[jP,au]
 simp only[List.flatten_cons,List.flatten_nil,List.append_nil]
theorem ae9(s:Int)(hs:1≤s∧s<1073741789)(p:List UInt8)(n:Int)(hn:n=jP s p):bP.d (.agg [.ints .i64 2 [rT (aA 4 n) (aA 4 s) p,(IntKind.i64.wrap (n+IntKind.i64.wrap (rT (aA 4 n) (aA 4 s) p*s))).tmod 1073741789]])=.d (.agg [.ints .i64 2 [jo s p,jQ s p]]):=by
 subst hn
 have h:=ae8 s hs p
 rw[jo]at h
 rw[h,jo]
set_option maxHeartbeats 1000000 in
theorem WZ(n:Int):aP 188 [.v (.int .i64 n)] (.d (.v (.bool (decide (0≤n∧n<1073741789))))):=by
 refine dK (E:=KQ) Tryz.func188 Tryz.ntmps188 ?_
 by_cases h:0≤n
 ·refine aj ?_;(try exact⟨⟩)
  simp[h]
 ·refine aj ?_;(try exact⟨⟩)
  simp[h]
def Ik:List A→(bP→Prop)→Prop
 |[.v (.int .i64 n)],K=>K (.d (.v (.bool (decide (0≤n∧n<1073741789)))))
 |_,_=>False
theorem NC:∀args K,Ik args K→∃r,aP 188 args r∧K r:=by
 intro args K h
 unfold Ik at h
 split at h
 ·exact⟨_,WZ _,h⟩
 ·exact h.elim
noncomputable def aD3:ay:=KQ.add 188 Ik NC ⟨_,Tryz.func188,by kernel_rfl,by kernel_rfl⟩
set_option maxHeartbeats 1000000 in
theorem ay3(s:Int)(hs:1≤s∧s<1073741789)(p:List UInt8)(hp:p.length≤1000000):
  gq 53 0 (.obj (p9 s)) [.row p.length [.bytes p.length p]] (.d (.agg [.ints .i64 2 [jo s p,jQ s p]])) (.obj (p9 s)):=by
 refine mY (E:=KQ) Tryz.func53 Tryz.ntmps53 ?_
 have hs0:0≤s:=by omega
 refine aj ?_;(try exact⟨⟩)
 exact ae9 s hs p _ (Ls s p)
set_option maxHeartbeats 1000000 in
theorem ac8(s:Int)(hs:1≤s∧s<1073741789)(p:List UInt8)(hp:p.length≤1000000):
  aP 73 [.agg [.ints .i64 2 [s,aA 4 s]],.row p.length [.bytes p.length p]] (.d (.agg [.ints .i64 2 [jo s p,jQ s p]])):=by
 refine dK (E:=KQ) Tryz.func73 Tryz.ntmps73 ?_
 have h4:∀n,(bD n).length=4:=fun n=>by unfold bD;rfl
 have h4s:=h4 s
 clear h4
 refine aj ?_;(try exact⟨⟩)
 exact ae9 s hs p _ (Ls s p)
theorem aH5{y:Int}{p:List UInt8}{e s:Int}(h:cO y=false):fV y p e s=false:=by simp[fV,h]
theorem ah5{y:Int}{p:List UInt8}{e s:Int}(h:¬(0≤e∧e<1073741789)):fV y p e s=false:=by simp only[fV,decide_eq_false h,Bool.and_false,Bool.false_and]
theorem ah6{y:Int}{p:List UInt8}{e s:Int}(h:¬(0≤s∧s<1073741789)):fV y p e s=false:=by simp only[fV,decide_eq_false h,Bool.and_false,Bool.false_and]
theorem aH4{y:Int}{p:List UInt8}{e s:Int}(h:cO y=true)(he:0≤e∧e<1073741789)(hs:0≤s∧s<1073741789):fV y p e s=(e==rT (dB (aA 4 s) (aA y (1073741789-e))) y p):=by simp only[fV,h,decide_eq_true he,decide_eq_true hs,Bool.true_and]
attribute [local irreducible] fV
set_option maxHeartbeats 1000000 in
theorem Hy(y:Int)(p:List UInt8)(hp:p.length≤1000000)(e s:Int):
  aP 124 [.v (.int .i64 y),.row p.length [.bytes p.length p],.agg [.ints .i64 2 [e,s]]] (.d (.v (.bool (fV y p e s)))):=by
 refine dK (E:=aD3) Tryz.func124 Tryz.ntmps124 ?_
 cases hy:cO y with
 |false=>
  rw[aH5 hy]
  refine aj ?_;(try exact⟨⟩)
 |true=>
  by_cases he:0≤e∧e<1073741789
  ·have he1:=decide_eq_true he
   by_cases hs:0≤s∧s<1073741789
   ·have hs1:=decide_eq_true hs
    rw[aH4 hy he hs]
    obtain⟨he2,he3⟩:=he
    obtain⟨hs2,hs3⟩:=hs
    refine aj ?_;(try exact⟨⟩)
   ·have hs1:=decide_eq_false hs
    rw[ah6 hs]
    clear hs
    refine aj ?_;(try exact⟨⟩)
  ·have he1:=decide_eq_false he
   rw[ah5 he]
   clear he
   refine aj ?_;(try exact⟨⟩)
set_option maxHeartbeats 1000000 in
theorem EL(y:Int)(p:List UInt8)(hp:p.length≤1000000)(e s:Int):
  aP 77 [.v (.int .i64 y),.row p.length [.bytes p.length p],.agg [.ints .i64 2 [e,s]]] (.d (.v (.bool (fV y p e s)))):=by
 refine dK (E:=KQ) Tryz.func77 Tryz.ntmps77 ?_
 cases hy:cO y with
 |false=>
  rw[aH5 hy]
  refine aj ?_;(try exact⟨⟩)
 |true=>
  by_cases he2:0≤e
  ·by_cases he3:e<1073741789
   ·by_cases hs2:0≤s
    ·by_cases hs3:s<1073741789
     ·rw[aH4 hy ⟨he2,he3⟩ ⟨hs2,hs3⟩]
      refine aj ?_;(try exact⟨⟩)
      exact congrArg (fun b=>bP.d (.v (.bool b))) BEq.comm
     ·rw[ah6 fun h=>hs3 h.2]
      refine aj ?_;(try exact⟨⟩)
    ·rw[ah6 fun h=>hs2 h.1]
     refine aj ?_;(try exact⟨⟩)
   ·rw[ah5 fun h=>he3 h.2]
    refine aj ?_;(try exact⟨⟩)
  ·rw[ah5 fun h=>he2 h.1]
   refine aj ?_;(try exact⟨⟩)
theorem MO:∀pos x args K,af0 pos x args K→∃r x',gq 53 pos x args r x'∧K r x':=by
 intro pos x args K h
 unfold af0 at h
 split at h
 ·next P y=>
  obtain⟨s,rfl,h1,h2,h⟩:=h
  obtain⟨p,⟨hp,h⟩,hv⟩:=iD h
  refine⟨_,_,fun S w r vs hr hG hx ha=>?_,h⟩
  obtain⟨v,rfl,h3⟩:=iP ha
  exact ay3 s ⟨h1,h2⟩ p hp S w r _ hr hG hx (.cons (hv h3) .nil)
 ·exact h.elim
def JE:List A→(bP→Prop)→Prop
 |[.agg [.ints .i64 2 [s,y]],x],K=>1≤s∧s<1073741789∧y=aA 4 s∧pV x fun p=>p.length≤1000000∧K (.d (.agg [.ints .i64 2 [jo s p,jQ s p]]))
 |_,_=>False
theorem lT{S:Nat→Prop}{w:World}{a b:A}{vs:List Value}(h:lW S w [a,b] vs):∃x y,vs=[x,y]∧RA S w a x∧RA S w b y:=by
 cases h with|cons h r=>cases r with|cons h2 r=>cases r;exact⟨_,_,rfl,h,h2⟩
theorem G6:∀args K,JE args K→∃r,aP 73 args r∧K r:=by
 intro args K h
 unfold JE at h
 split at h
 ·next s y x=>
  obtain⟨h1,h2,rfl,h⟩:=h
  obtain⟨p,⟨hp,h⟩,hv⟩:=iD h
  refine⟨_,fun S w vs hG ha=>?_,h⟩
  obtain⟨v1,v2,rfl,h3,h4⟩:=lT ha
  exact ac8 s ⟨h1,h2⟩ p hp S w _ hG (.cons h3 (.cons (hv h4) .nil))
 ·exact h.elim
def VO:List A→(bP→Prop)→Prop
 |[.v (.int .i64 y),x,.agg [.ints .i64 2 [e,s]]],K=>pV x fun p=>p.length≤1000000∧K (.d (.v (.bool (fV y p e s))))
 |[.v (.int .i64 y),x,.agg [.ints .i64 2 l]],K=>pV x fun p=>p.length≤1000000∧K (.d (.v (.bool (fV y p (l.getD 0 0) (l.getD 1 0)))))
 |_,_=>False
theorem Cy{f:FuncId}(hx:∀y p,p.length≤1000000→∀e s,aP f [.v (.int .i64 y),.row p.length [.bytes p.length p],.agg [.ints .i64 2 [e,s]]] (.d (.v (.bool (fV y p e s))))):∀args K,VO args K→∃r,aP f args r∧K r:=by
 intro args K h
 unfold VO at h
 split at h
 ·next y x e s=>
  obtain⟨p,⟨hp,h⟩,hv⟩:=iD h
  refine⟨_,fun S w vs hG ha=>?_,h⟩
  obtain⟨v1,v2,v3,rfl,h1,h2,h3⟩:=jI ha
  exact hx y p hp e s S w _ hG (.cons h1 (.cons (hv h2) (.cons h3 .nil)))
 ·next y x l _=>
  obtain⟨p,⟨hp,h⟩,hv⟩:=iD h
  refine⟨_,iq fun hl=>fun S w vs hG ha=>?_,h⟩
  obtain⟨a,b,rfl⟩:∃a b,l=[a,b]:=by
   have h5:l.length=2:=by
    cases x<;>first|exact hl.1.1|exact hl.2.1.1
   rcases l with _|⟨a,_|⟨b,_|⟨c,l⟩⟩⟩<;>simp at h5
   exact⟨a,b,rfl⟩
  obtain⟨v1,v2,v3,rfl,h1,h2,h3⟩:=jI ha
  exact hx y p hp a b S w _ hG (.cons h1 (.cons (hv h2) (.cons h3 .nil)))
 ·exact h.elim
noncomputable def aM9:ay:=aD3.kG 53 af0 MO ⟨_,Tryz.func53,by kernel_rfl,by kernel_rfl⟩
noncomputable def aN0:ay:=aM9.add 73 JE G6 ⟨_,Tryz.func73,by kernel_rfl,by kernel_rfl⟩
noncomputable def aN1:ay:=aN0.add 124 VO (Cy Hy) ⟨_,Tryz.func124,by kernel_rfl,by kernel_rfl⟩
noncomputable def aN2:ay:=aN1.add 77 VO (Cy EL) ⟨_,Tryz.func77,by kernel_rfl,by kernel_rfl⟩
noncomputable def aN3:ay:=aN2.add 101 KV Dv ⟨_,Tryz.func101,by kernel_rfl,by kernel_rfl⟩
noncomputable def bi1:ay:=aN3.add 141 ED Au ⟨_,Tryz.func141,by kernel_rfl,by kernel_rfl⟩
end
end Go.Proofs.YtjhgelfnmhdihaaGreatDoor
