/-
  Operations done, their bytes, views' sums: as the laws of later stages call them.
-/
import Derived.Test.YtjdjelopkhjdnaaGreatDoorJ24
import Derived.Test.YtjdjelopkhjdnaaGreatDoorJ26
import Derived.Test.YtjdjelopkhjdnaaGreatDoorJ27
namespace Go.Proofs.YtjdjelopkhjdnaaGreatDoor
set_option linter.unusedVariables false
set_option linter.unusedSimpArgs false
set_option maxRecDepth 100000
open Go.RowKit
section
open Pm
attribute [local irreducible] aV aZ bQ aA au cK d9 dh dQ aN aT bW aF bC dA rT jJ jm jQ
def uL:A→(Nat→List Int→Prop)→Prop
 | .row n [.ints .i64 m ops],K=>m=n*5∧n≤1000000∧K n ops
 | .v (.slice none 0 0),K=>K 0 []
 |_,_=>False
theorem gJ{x:A}{K:Nat→List Int→Prop}(h:uL x K):∃n ops,n≤1000000∧K n ops∧∀{S:Nat→Prop} {w:World} {v:Value},RA S w x v→RA S w (.row n [.ints .i64 (n*5) ops]) v:=by
 unfold uL at h
 split at h
 ·obtain⟨rfl,h1,h2⟩:=h
  exact⟨_,_,h1,h2,fun h=>h⟩
 ·refine⟨0,[],by omega,h,fun {S w v} hv=>?_⟩
  rw[RA.plain hv]
  exact .row (cs:=[]) (.l9 (by simp) rfl) (Nat.le_refl _) (Nat.zero_le _) (fun _=>rfl) (.inl rfl)
 ·exact h.elim
def applyN:List A→(bP→Prop)→Prop
 |[.agg [.ints .i64 1 [e],.ints .i64 31 zs,.bools 8 ad,.ints .i64 1 [k],.bytes 32 ch],.v (.int .i64 fr),x],K=>
  uL x fun n ops=>mI (aV (decide ((dh e ⟨zs,ad,k,F8,F8⟩ fr ops n).1=0))
   (K (.t [.agg (bR e (dh e ⟨zs,ad,k,F8,F8⟩ fr ops n).2.zs (dh e ⟨zs,ad,k,F8,F8⟩ fr ops n).2.ad (dh e ⟨zs,ad,k,F8,F8⟩ fr ops n).2.k ch),.agg [.bools 8 (dh e ⟨zs,ad,k,F8,F8⟩ fr ops n).2.ng],.agg [.bools 8 (dh e ⟨zs,ad,k,F8,F8⟩ fr ops n).2.gn],.v (.int .i64 0)]))
   (K (.t [.agg wL,.agg [.bools 8 F8],.agg [.bools 8 F8],.v (.int .i64 (dh e ⟨zs,ad,k,F8,F8⟩ fr ops n).1)])))
 |_,_=>False
theorem vv{f:FuncId}(hx:∀e zs ad k ch fr ops n,n≤1000000→aQ f [.agg (bR e zs ad k ch),.v (.int .i64 fr),.row n [.ints .i64 (n*5) ops]] (.t (Fa e zs ad k ch fr ops n))):∀args K,applyN args K→∃r,aQ f args r∧K r:=by
 intro args K h
 unfold applyN at h
 split at h
 ·next e zs ad k ch fr x=>
  obtain⟨n,ops,hn,h,hv⟩:=gJ h
  have h:=h.out
  refine⟨.t (Fa e zs ad k ch fr ops n),fun S w vs hG ha=>?_,?_⟩
  ·obtain⟨v1,v2,v3,rfl,h1,h2,h3⟩:=jC ha
   exact hx e zs ad k ch fr ops n hn S w _ hG (.cons h1 (.cons h2 (.cons (hv h3) .nil)))
  ·unfold Fa
   by_cases he:(dh e ⟨zs,ad,k,F8,F8⟩ fr ops n).1=0
   ·rw[decide_eq_true he,iI]at h
    rw[if_pos he]
    exact h
   ·rw[decide_eq_false he,gQ]at h
    rw[if_neg he]
    exact h
 ·exact h.elim
def Rw:List A→(bP→Prop)→Prop
 |[x],K=>uL x fun n ops=>K (.o 5 1 (n*40) [.bytes (n*40) (aN ops)])
 |_,_=>False
theorem Lu{f:FuncId}(hx:∀zs n,zs.length=n*5→n≤1000000→aQ f [.row n [.ints .i64 (n*5) zs]] (.o 5 1 (n*40) [.bytes (n*40) (aN zs)])):∀args K,Rw args K→∃r,aQ f args r∧K r:=by
 intro args K h
 unfold Rw at h
 split at h
 ·next x=>
  obtain⟨n,ops,hn,h,hv⟩:=gJ h
  refine⟨_,fun S w vs hG ha=>?_,h⟩
  obtain⟨v,rfl,h1⟩:=iL ha
  exact gY (fun hl=>hx ops n hl.1.1 hn) S w _ hG (.cons (hv h1) .nil)
 ·exact h.elim
def ae4:Nat→Bk→List A→(bP→Bk→Prop)→Prop
 |0,.obj P,[x],K=>∃s,P=pX s∧1≤s∧s<1073741789∧pO x fun p=>p.length≤1000000∧K (.d (.agg [.ints .i64 2 [jm s p,jQ s p]])) (.obj (pX s))
 |_,_,_,_=>False
theorem ae2(s:Int)(hs:1≤s∧s<1073741789)(p:List UInt8):(IntKind.i64.wrap (jJ s p+IntKind.i64.wrap (jm s p*s))).tmod 1073741789=jQ s p:=by
 have h1:=zX s p
 have h2:=Jv s p
 have h3:0≤jm s p*s:=Int.mul_nonneg h2.1 (by omega)
 have h4:jm s p*s≤1073741789*1073741789:=Int.mul_le_mul (by omega) (by omega) (by omega) (by omega)
 rw[dM (z:=jm s p*s) (by omega) (by omega),dM (by omega) (by omega),Int.tmod_eq_emod_of_nonneg (by omega),jQ]
theorem Lb(s:Int)(p:List UInt8):au (aF (List.replicate 32 0) (sb ⟨#[110,111,110,99,101]⟩) (bC s++p))=jJ s p:=by
 rw[jJ,au]
 simp only[List.flatten_cons,List.flatten_nil,List.append_nil]
theorem ae3(s:Int)(hs:1≤s∧s<1073741789)(p:List UInt8)(n:Int)(hn:n=jJ s p):bP.d (.agg [.ints .i64 2 [rT (aA 4 n) (aA 4 s) p,(IntKind.i64.wrap (n+IntKind.i64.wrap (rT (aA 4 n) (aA 4 s) p*s))).tmod 1073741789]])=.d (.agg [.ints .i64 2 [jm s p,jQ s p]]):=by
 subst hn
 have h:=ae2 s hs p
 rw[jm]at h
 rw[h,jm]
set_option maxHeartbeats 1000000 in
theorem WL(n:Int):aQ 180 [.v (.int .i64 n)] (.d (.v (.bool (decide (0≤n∧n<1073741789))))):=by
 refine dF (E:=Kt) Tryz.func180 Tryz.ntmps180 ?_
 by_cases h:0≤n
 ·refine aj ?_;(try exact⟨⟩)
  simp[h]
 ·refine aj ?_;(try exact⟨⟩)
  simp[h]
def Hw:List A→(bP→Prop)→Prop
 |[.v (.int .i64 n)],K=>K (.d (.v (.bool (decide (0≤n∧n<1073741789)))))
 |_,_=>False
theorem Nn:∀args K,Hw args K→∃r,aQ 180 args r∧K r:=by
 intro args K h
 unfold Hw at h
 split at h
 ·exact⟨_,WL _,h⟩
 ·exact h.elim
noncomputable def aC5:av:=Kt.add 180 Hw Nn ⟨_,Tryz.func180,by kernel_rfl,by kernel_rfl⟩
set_option maxHeartbeats 1000000 in
theorem ax4(s:Int)(hs:1≤s∧s<1073741789)(p:List UInt8)(hp:p.length≤1000000):
  fK 39 0 (.obj (pX s)) [.row p.length [.bytes p.length p]] (.d (.agg [.ints .i64 2 [jm s p,jQ s p]])) (.obj (pX s)):=by
 refine mP (E:=Kt) Tryz.func39 Tryz.ntmps39 ?_
 have hs0:0≤s:=by omega
 refine aj ?_;(try exact⟨⟩)
 exact ae3 s hs p _ (Lb s p)
set_option maxHeartbeats 1000000 in
theorem ac2(s:Int)(hs:1≤s∧s<1073741789)(p:List UInt8)(hp:p.length≤1000000):
  aQ 54 [.agg [.ints .i64 2 [s,aA 4 s]],.row p.length [.bytes p.length p]] (.d (.agg [.ints .i64 2 [jm s p,jQ s p]])):=by
 refine dF (E:=Kt) Tryz.func54 Tryz.ntmps54 ?_
 have h4:∀n,(bC n).length=4:=fun n=>by unfold bC;rfl
 have h4s:=h4 s
 clear h4
 refine aj ?_;(try exact⟨⟩)
 exact ae3 s hs p _ (Lb s p)
theorem aG2{y:Int}{p:List UInt8}{e s:Int}(h:cK y=false):fO y p e s=false:=by simp[fO,h]
theorem ag9{y:Int}{p:List UInt8}{e s:Int}(h:¬(0≤e∧e<1073741789)):fO y p e s=false:=by simp only[fO,decide_eq_false h,Bool.and_false,Bool.false_and]
theorem ah0{y:Int}{p:List UInt8}{e s:Int}(h:¬(0≤s∧s<1073741789)):fO y p e s=false:=by simp only[fO,decide_eq_false h,Bool.and_false,Bool.false_and]
theorem aG1{y:Int}{p:List UInt8}{e s:Int}(h:cK y=true)(he:0≤e∧e<1073741789)(hs:0≤s∧s<1073741789):fO y p e s=(e==rT (dA (aA 4 s) (aA y (1073741789-e))) y p):=by simp only[fO,h,decide_eq_true he,decide_eq_true hs,Bool.true_and]
attribute [local irreducible] fO
set_option maxHeartbeats 1000000 in
theorem G7(y:Int)(p:List UInt8)(hp:p.length≤1000000)(e s:Int):
  aQ 120 [.v (.int .i64 y),.row p.length [.bytes p.length p],.agg [.ints .i64 2 [e,s]]] (.d (.v (.bool (fO y p e s)))):=by
 refine dF (E:=aC5) Tryz.func120 Tryz.ntmps120 ?_
 cases hy:cK y with
 |false=>
  rw[aG2 hy]
  refine aj ?_;(try exact⟨⟩)
 |true=>
  by_cases he:0≤e∧e<1073741789
  ·have he1:=decide_eq_true he
   by_cases hs:0≤s∧s<1073741789
   ·have hs1:=decide_eq_true hs
    rw[aG1 hy he hs]
    obtain⟨he2,he3⟩:=he
    obtain⟨hs2,hs3⟩:=hs
    refine aj ?_;(try exact⟨⟩)
   ·have hs1:=decide_eq_false hs
    rw[ah0 hs]
    clear hs
    refine aj ?_;(try exact⟨⟩)
  ·have he1:=decide_eq_false he
   rw[ag9 he]
   clear he
   refine aj ?_;(try exact⟨⟩)
set_option maxHeartbeats 1000000 in
theorem EA(y:Int)(p:List UInt8)(hp:p.length≤1000000)(e s:Int):
  aQ 64 [.v (.int .i64 y),.row p.length [.bytes p.length p],.agg [.ints .i64 2 [e,s]]] (.d (.v (.bool (fO y p e s)))):=by
 refine dF (E:=Kt) Tryz.func64 Tryz.ntmps64 ?_
 cases hy:cK y with
 |false=>
  rw[aG2 hy]
  refine aj ?_;(try exact⟨⟩)
 |true=>
  by_cases he2:0≤e
  ·by_cases he3:e<1073741789
   ·by_cases hs2:0≤s
    ·by_cases hs3:s<1073741789
     ·rw[aG1 hy ⟨he2,he3⟩ ⟨hs2,hs3⟩]
      refine aj ?_;(try exact⟨⟩)
      exact congrArg (fun b=>bP.d (.v (.bool b))) BEq.comm
     ·rw[ah0 fun h=>hs3 h.2]
      refine aj ?_;(try exact⟨⟩)
    ·rw[ah0 fun h=>hs2 h.1]
     refine aj ?_;(try exact⟨⟩)
   ·rw[ag9 fun h=>he3 h.2]
    refine aj ?_;(try exact⟨⟩)
  ·rw[ag9 fun h=>he2 h.1]
   refine aj ?_;(try exact⟨⟩)
theorem Mx:∀pos x args K,ae4 pos x args K→∃r x',fK 39 pos x args r x'∧K r x':=by
 intro pos x args K h
 unfold ae4 at h
 split at h
 ·next P y=>
  obtain⟨s,rfl,h1,h2,h⟩:=h
  obtain⟨p,⟨hp,h⟩,hv⟩:=iw h
  refine⟨_,_,fun S w r vs hr hG hx ha=>?_,h⟩
  obtain⟨v,rfl,h3⟩:=iL ha
  exact ax4 s ⟨h1,h2⟩ p hp S w r _ hr hG hx (.cons (hv h3) .nil)
 ·exact h.elim
def Jp:List A→(bP→Prop)→Prop
 |[.agg [.ints .i64 2 [s,y]],x],K=>1≤s∧s<1073741789∧y=aA 4 s∧pO x fun p=>p.length≤1000000∧K (.d (.agg [.ints .i64 2 [jm s p,jQ s p]]))
 |_,_=>False
theorem lH{S:Nat→Prop}{w:World}{a b:A}{vs:List Value}(h:lK S w [a,b] vs):∃x y,vs=[x,y]∧RA S w a x∧RA S w b y:=by
 cases h with|cons h r=>cases r with|cons h2 r=>cases r;exact⟨_,_,rfl,h,h2⟩
theorem GH:∀args K,Jp args K→∃r,aQ 54 args r∧K r:=by
 intro args K h
 unfold Jp at h
 split at h
 ·next s y x=>
  obtain⟨h1,h2,rfl,h⟩:=h
  obtain⟨p,⟨hp,h⟩,hv⟩:=iw h
  refine⟨_,fun S w vs hG ha=>?_,h⟩
  obtain⟨v1,v2,rfl,h3,h4⟩:=lH ha
  exact ac2 s ⟨h1,h2⟩ p hp S w _ hG (.cons h3 (.cons (hv h4) .nil))
 ·exact h.elim
def Vz:List A→(bP→Prop)→Prop
 |[.v (.int .i64 y),x,.agg [.ints .i64 2 [e,s]]],K=>pO x fun p=>p.length≤1000000∧K (.d (.v (.bool (fO y p e s))))
 |[.v (.int .i64 y),x,.agg [.ints .i64 2 l]],K=>pO x fun p=>p.length≤1000000∧K (.d (.v (.bool (fO y p (l.getD 0 0) (l.getD 1 0)))))
 |_,_=>False
theorem Cq{f:FuncId}(hx:∀y p,p.length≤1000000→∀e s,aQ f [.v (.int .i64 y),.row p.length [.bytes p.length p],.agg [.ints .i64 2 [e,s]]] (.d (.v (.bool (fO y p e s))))):∀args K,Vz args K→∃r,aQ f args r∧K r:=by
 intro args K h
 unfold Vz at h
 split at h
 ·next y x e s=>
  obtain⟨p,⟨hp,h⟩,hv⟩:=iw h
  refine⟨_,fun S w vs hG ha=>?_,h⟩
  obtain⟨v1,v2,v3,rfl,h1,h2,h3⟩:=jC ha
  exact hx y p hp e s S w _ hG (.cons h1 (.cons (hv h2) (.cons h3 .nil)))
 ·next y x l _=>
  obtain⟨p,⟨hp,h⟩,hv⟩:=iw h
  refine⟨_,gY fun hl=>fun S w vs hG ha=>?_,h⟩
  obtain⟨a,b,rfl⟩:∃a b,l=[a,b]:=by
   have h5:l.length=2:=by
    cases x<;>first|exact hl.1.1|exact hl.2.1.1
   rcases l with _|⟨a,_|⟨b,_|⟨c,l⟩⟩⟩<;>simp at h5
   exact⟨a,b,rfl⟩
  obtain⟨v1,v2,v3,rfl,h1,h2,h3⟩:=jC ha
  exact hx y p hp a b S w _ hG (.cons h1 (.cons (hv h2) (.cons h3 .nil)))
 ·exact h.elim
noncomputable def aL7:av:=aC5.kr 39 ae4 Mx ⟨_,Tryz.func39,by kernel_rfl,by kernel_rfl⟩
noncomputable def aL8:av:=aL7.add 54 Jp GH ⟨_,Tryz.func54,by kernel_rfl,by kernel_rfl⟩
noncomputable def aL9:av:=aL8.add 120 Vz (Cq G7) ⟨_,Tryz.func120,by kernel_rfl,by kernel_rfl⟩
noncomputable def aM0:av:=aL9.add 64 Vz (Cq EA) ⟨_,Tryz.func64,by kernel_rfl,by kernel_rfl⟩
noncomputable def aM1:av:=aM0.add 79 KA Dl ⟨_,Tryz.func79,by kernel_rfl,by kernel_rfl⟩
noncomputable def bg4:av:=aM1.add 73 Es Al ⟨_,Tryz.func73,by kernel_rfl,by kernel_rfl⟩
end
end Go.Proofs.YtjdjelopkhjdnaaGreatDoor
