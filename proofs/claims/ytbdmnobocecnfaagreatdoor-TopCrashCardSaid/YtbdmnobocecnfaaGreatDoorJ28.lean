/-
  Operations done, their bytes, views' sums: as the laws of later stages call them.
-/
import Derived.Test.YtbdmnobocecnfaaGreatDoorJ24
import Derived.Test.YtbdmnobocecnfaaGreatDoorJ26
import Derived.Test.YtbdmnobocecnfaaGreatDoorJ27
namespace Go.Proofs.YtbdmnobocecnfaaGreatDoor
set_option linter.unusedVariables false
set_option linter.unusedSimpArgs false
set_option maxRecDepth 100000
open Go.RowKit
section
open Pm
attribute [local irreducible] condK LoopA regA powI scal isI putL doR mayV numsB viewHV numB deriveW fourB mulI askW nonceW sigE sigS
def opsK:A→(Nat→List Int→Prop)→Prop
 | .row n [.ints .i64 m ops],K=>m=n*5∧n≤1000000∧K n ops
 | .v (.slice none 0 0),K=>K 0 []
 |_,_=>False
theorem opsK_spec{x:A}{K:Nat→List Int→Prop}(h:opsK x K):∃n ops,n≤1000000∧K n ops∧∀{S:Nat→Prop} {w:World} {v:Value},RA S w x v→RA S w (.row n [.ints .i64 (n*5) ops]) v:=by
 unfold opsK at h
 split at h
 ·obtain⟨rfl,h1,h2⟩:=h
  exact⟨_,_,h1,h2,fun h=>h⟩
 ·refine⟨0,[],by omega,h,fun {S w v} hv=>?_⟩
  rw[RA.plain hv]
  exact .row (cs:=[]) (.ofInts (by simp) rfl) (Nat.le_refl _) (Nat.zero_le _) (fun _=>rfl) (.inl rfl)
 ·exact h.elim
def applyN:List A→(Res→Prop)→Prop
 |[.agg [.ints .i64 1 [e],.ints .i64 31 zs,.bools 8 ad,.ints .i64 1 [k],.bytes 32 ch],.v (.int .i64 fr),x],K=>
  opsK x fun n ops=>StopC (condK (decide ((doR e ⟨zs,ad,k,F8,F8⟩ fr ops n).1=0))
   (K (.t [.agg (vSegs e (doR e ⟨zs,ad,k,F8,F8⟩ fr ops n).2.zs (doR e ⟨zs,ad,k,F8,F8⟩ fr ops n).2.ad (doR e ⟨zs,ad,k,F8,F8⟩ fr ops n).2.k ch),.agg [.bools 8 (doR e ⟨zs,ad,k,F8,F8⟩ fr ops n).2.ng],.agg [.bools 8 (doR e ⟨zs,ad,k,F8,F8⟩ fr ops n).2.gn],.v (.int .i64 0)]))
   (K (.t [.agg vZero,.agg [.bools 8 F8],.agg [.bools 8 F8],.v (.int .i64 (doR e ⟨zs,ad,k,F8,F8⟩ fr ops n).1)])))
 |_,_=>False
theorem applyN_of{f:FuncId}(hx:∀e zs ad k ch fr ops n,n≤1000000→FnO f [.agg (vSegs e zs ad k ch),.v (.int .i64 fr),.row n [.ints .i64 (n*5) ops]] (.t (appR e zs ad k ch fr ops n))):∀args K,applyN args K→∃r,FnO f args r∧K r:=by
 intro args K h
 unfold applyN at h
 split at h
 ·next e zs ad k ch fr x=>
  obtain⟨n,ops,hn,h,hv⟩:=opsK_spec h
  have h:=h.out
  refine⟨.t (appR e zs ad k ch fr ops n),fun S w vs hG ha=>?_,?_⟩
  ·obtain⟨v1,v2,v3,rfl,h1,h2,h3⟩:=ra_three ha
   exact hx e zs ad k ch fr ops n hn S w _ hG (.cons h1 (.cons h2 (.cons (hv h3) .nil)))
  ·unfold appR
   by_cases he:(doR e ⟨zs,ad,k,F8,F8⟩ fr ops n).1=0
   ·rw[decide_eq_true he,condK_true]at h
    rw[if_pos he]
    exact h
   ·rw[decide_eq_false he,condK_false]at h
    rw[if_neg he]
    exact h
 ·exact h.elim
def opsBS:List A→(Res→Prop)→Prop
 |[x],K=>opsK x fun n ops=>K (.o 5 1 (n*40) [.bytes (n*40) (numsB ops)])
 |_,_=>False
theorem opsBS_of{f:FuncId}(hx:∀zs n,zs.length=n*5→n≤1000000→FnO f [.row n [.ints .i64 (n*5) zs]] (.o 5 1 (n*40) [.bytes (n*40) (numsB zs)])):∀args K,opsBS args K→∃r,FnO f args r∧K r:=by
 intro args K h
 unfold opsBS at h
 split at h
 ·next x=>
  obtain⟨n,ops,hn,h,hv⟩:=opsK_spec h
  refine⟨_,fun S w vs hG ha=>?_,h⟩
  obtain⟨v,rfl,h1⟩:=ra_one ha
  exact fn_lens (fun hl=>hx ops n hl.1.1 hn) S w _ hG (.cons (hv h1) .nil)
 ·exact h.elim
def signM:Nat→Bk→List A→(Res→Bk→Prop)→Prop
 |0,.obj P,[x],K=>∃s,P=KeyP s∧1≤s∧s<1073741789∧rowK x fun p=>p.length≤1000000∧K (.d (.agg [.ints .i64 2 [sigE s p,sigS s p]])) (.obj (KeyP s))
 |_,_,_,_=>False
theorem sig_nums(s:Int)(hs:1≤s∧s<1073741789)(p:List UInt8):(IntKind.i64.wrap (nonceW s p+IntKind.i64.wrap (sigE s p*s))).tmod 1073741789=sigS s p:=by
 have h1:=nonceW_bd s p
 have h2:=sigE_bd s p
 have h3:0≤sigE s p*s:=Int.mul_nonneg h2.1 (by omega)
 have h4:sigE s p*s≤1073741789*1073741789:=Int.mul_le_mul (by omega) (by omega) (by omega) (by omega)
 rw[wrapS (z:=sigE s p*s) (by omega) (by omega),wrapS (by omega) (by omega),Int.tmod_eq_emod_of_nonneg (by omega),sigS]
theorem nonce_eq(s:Int)(p:List UInt8):scal (deriveW (List.replicate 32 0) (sb ⟨#[110,111,110,99,101]⟩) (fourB s++p))=nonceW s p:=by
 rw[nonceW,scal]
 simp only[List.flatten_cons,List.flatten_nil,List.append_nil]
theorem sig_of(s:Int)(hs:1≤s∧s<1073741789)(p:List UInt8)(n:Int)(hn:n=nonceW s p):Res.d (.agg [.ints .i64 2 [askW (powI 4 n) (powI 4 s) p,(IntKind.i64.wrap (n+IntKind.i64.wrap (askW (powI 4 n) (powI 4 s) p*s))).tmod 1073741789]])=.d (.agg [.ints .i64 2 [sigE s p,sigS s p]]):=by
 subst hn
 have h:=sig_nums s hs p
 rw[sigE]at h
 rw[h,sigE]
set_option maxHeartbeats 1000000 in
theorem below_fn(n:Int):FnO 212 [.v (.int .i64 n)] (.d (.v (.bool (decide (0≤n∧n<1073741789))))):=by
 refine fnA (E:=envSf) Tryz.func212 Tryz.ntmps212 ?_
 by_cases h:0≤n
 ·refine agow ?_;(try exact⟨⟩)
  simp[h]
 ·refine agow ?_;(try exact⟨⟩)
  simp[h]
def belowBS:List A→(Res→Prop)→Prop
 |[.v (.int .i64 n)],K=>K (.d (.v (.bool (decide (0≤n∧n<1073741789)))))
 |_,_=>False
theorem belowBS_ok:∀args K,belowBS args K→∃r,FnO 212 args r∧K r:=by
 intro args K h
 unfold belowBS at h
 split at h
 ·exact⟨_,below_fn _,h⟩
 ·exact h.elim
noncomputable def envSg:EnvX:=envSf.add 212 belowBS belowBS_ok ⟨_,Tryz.func212,by kernel_rfl,by kernel_rfl⟩
set_option maxHeartbeats 1000000 in
theorem sign_fn(s:Int)(hs:1≤s∧s<1073741789)(p:List UInt8)(hp:p.length≤1000000):
  FnMO 73 0 (.obj (KeyP s)) [.row p.length [.bytes p.length p]] (.d (.agg [.ints .i64 2 [sigE s p,sigS s p]])) (.obj (KeyP s)):=by
 refine fnMA (E:=envSf) Tryz.func73 Tryz.ntmps73 ?_
 have hs0:0≤s:=by omega
 refine agow ?_;(try exact⟨⟩)
 exact sig_of s hs p _ (nonce_eq s p)
theorem ver_y{y:Int}{p:List UInt8}{e s:Int}(h:isI y=false):verW y p e s=false:=by simp[verW,h]
theorem ver_e{y:Int}{p:List UInt8}{e s:Int}(h:¬(0≤e∧e<1073741789)):verW y p e s=false:=by simp only[verW,decide_eq_false h,Bool.and_false,Bool.false_and]
theorem ver_s{y:Int}{p:List UInt8}{e s:Int}(h:¬(0≤s∧s<1073741789)):verW y p e s=false:=by simp only[verW,decide_eq_false h,Bool.and_false,Bool.false_and]
theorem ver_t{y:Int}{p:List UInt8}{e s:Int}(h:isI y=true)(he:0≤e∧e<1073741789)(hs:0≤s∧s<1073741789):verW y p e s=(e==askW (mulI (powI 4 s) (powI y (1073741789-e))) y p):=by simp only[verW,h,decide_eq_true he,decide_eq_true hs,Bool.true_and]
attribute [local irreducible] verW
set_option maxHeartbeats 1000000 in
theorem verify_fn(y:Int)(p:List UInt8)(hp:p.length≤1000000)(e s:Int):
  FnO 161 [.v (.int .i64 y),.row p.length [.bytes p.length p],.agg [.ints .i64 2 [e,s]]] (.d (.v (.bool (verW y p e s)))):=by
 refine fnA (E:=envSg) Tryz.func161 Tryz.ntmps161 ?_
 cases hy:isI y with
 |false=>
  rw[ver_y hy]
  refine agow ?_;(try exact⟨⟩)
 |true=>
  by_cases he:0≤e∧e<1073741789
  ·have he1:=decide_eq_true he
   by_cases hs:0≤s∧s<1073741789
   ·have hs1:=decide_eq_true hs
    rw[ver_t hy he hs]
    obtain⟨he2,he3⟩:=he
    obtain⟨hs2,hs3⟩:=hs
    refine agow ?_;(try exact⟨⟩)
   ·have hs1:=decide_eq_false hs
    rw[ver_s hs]
    clear hs
    refine agow ?_;(try exact⟨⟩)
  ·have he1:=decide_eq_false he
   rw[ver_e he]
   clear he
   refine agow ?_;(try exact⟨⟩)
theorem signM_ok:∀pos x args K,signM pos x args K→∃r x',FnMO 73 pos x args r x'∧K r x':=by
 intro pos x args K h
 unfold signM at h
 split at h
 ·next P y=>
  obtain⟨s,rfl,h1,h2,h⟩:=h
  obtain⟨p,⟨hp,h⟩,hv⟩:=rowK_row h
  refine⟨_,_,fun S w r vs hr hG hx ha=>?_,h⟩
  obtain⟨v,rfl,h3⟩:=ra_one ha
  exact sign_fn s ⟨h1,h2⟩ p hp S w r _ hr hG hx (.cons (hv h3) .nil)
 ·exact h.elim
theorem ra_two{S:Nat→Prop}{w:World}{a b:A}{vs:List Value}(h:RAs S w [a,b] vs):∃x y,vs=[x,y]∧RA S w a x∧RA S w b y:=by
 cases h with|cons h r=>cases r with|cons h2 r=>cases r;exact⟨_,_,rfl,h,h2⟩
def verS:List A→(Res→Prop)→Prop
 |[.v (.int .i64 y),x,.agg [.ints .i64 2 [e,s]]],K=>rowK x fun p=>p.length≤1000000∧K (.d (.v (.bool (verW y p e s))))
 |[.v (.int .i64 y),x,.agg [.ints .i64 2 l]],K=>rowK x fun p=>p.length≤1000000∧K (.d (.v (.bool (verW y p (l.getD 0 0) (l.getD 1 0)))))
 |_,_=>False
theorem verS_of{f:FuncId}(hx:∀y p,p.length≤1000000→∀e s,FnO f [.v (.int .i64 y),.row p.length [.bytes p.length p],.agg [.ints .i64 2 [e,s]]] (.d (.v (.bool (verW y p e s))))):∀args K,verS args K→∃r,FnO f args r∧K r:=by
 intro args K h
 unfold verS at h
 split at h
 ·next y x e s=>
  obtain⟨p,⟨hp,h⟩,hv⟩:=rowK_row h
  refine⟨_,fun S w vs hG ha=>?_,h⟩
  obtain⟨v1,v2,v3,rfl,h1,h2,h3⟩:=ra_three ha
  exact hx y p hp e s S w _ hG (.cons h1 (.cons (hv h2) (.cons h3 .nil)))
 ·next y x l _=>
  obtain⟨p,⟨hp,h⟩,hv⟩:=rowK_row h
  refine⟨_,fn_lens fun hl=>fun S w vs hG ha=>?_,h⟩
  obtain⟨a,b,rfl⟩:∃a b,l=[a,b]:=by
   have h5:l.length=2:=by
    cases x<;>first|exact hl.1.1|exact hl.2.1.1
   rcases l with _|⟨a,_|⟨b,_|⟨c,l⟩⟩⟩<;>simp at h5
   exact⟨a,b,rfl⟩
  obtain⟨v1,v2,v3,rfl,h1,h2,h3⟩:=ra_three ha
  exact hx y p hp a b S w _ hG (.cons h1 (.cons (hv h2) (.cons h3 .nil)))
 ·exact h.elim
noncomputable def envSg1:EnvX:=envSg.addM 73 signM signM_ok ⟨_,Tryz.func73,by kernel_rfl,by kernel_rfl⟩
noncomputable def envSg2:EnvX:=envSg1
noncomputable def envSg3:EnvX:=envSg2.add 161 verS (verS_of verify_fn) ⟨_,Tryz.func161,by kernel_rfl,by kernel_rfl⟩
noncomputable def envSg4:EnvX:=envSg3
noncomputable def envSg5:EnvX:=envSg4.add 74 fromS fromS_ok ⟨_,Tryz.func74,by kernel_rfl,by kernel_rfl⟩
noncomputable def envSh:EnvX:=envSg5.add 36 rfromS rfromS_ok ⟨_,Tryz.func36,by kernel_rfl,by kernel_rfl⟩
end
end Go.Proofs.YtbdmnobocecnfaaGreatDoor
