/-
  The machine without memory: what a whnf alone doesn't decide. No program is named here.
-/
import Derived.Test.YtbdmnobocecnfaaGreatDoorJ28
namespace Go.Proofs.YtbdmnobocecnfaaGreatDoor
set_option linter.unusedVariables false
set_option linter.unusedSimpArgs false
set_option maxRecDepth 100000
open Go.RowKit
section
theorem ptOf_own{s:St}{b n m:Nat}{e:TypeId}{z:Nat}{l:List Seg}(h:s.bk b=some (.sl e z m l))(hn:n=m):ptOf s (.own b n)=some (.own b n):=by
 subst hn;unfold ptOf;simp only[h,if_true]
theorem ptsOf_cons{s:St}{x:Operand}{r:List (Nat×Operand)}{k:Nat}{t:T}{p:Pt}{l:List Pt}(h1:s.ev x=t)(h2:ptOf s t=some p)(h3:ptsOf s r (k+1)=some l):ptsOf s ((k,x)::r) k=some (p::l):=by
 rw[ptsOf,if_pos rfl,h1,h2,h3]
theorem ptsOf_nil{s:St}{k:Nat}:ptsOf s [] k=some []:=rfl
end
section
open Pm
attribute [local irreducible] condK LoopA regA powI scal isI putL doR mayV numsB viewHV numB deriveW fourB mulI askW nonceW sigE sigS verW
def admB(ad:List Bool)(i:Int):Bool:=leafB i&&ad.getD i.toNat false
def paperV(e:Int)(zs:List Int)(ad:List Bool)(k:Int)(ch:List UInt8)(fr:Int)(ops:List Int):List UInt8:=deriveW (viewHV e zs ad k ch) (sb ⟨#[118,111,116,101]⟩) (numB fr++numsB ops)
theorem paperV_length(e:Int)(zs:List Int)(ad:List Bool)(k:Int)(ch:List UInt8)(fr:Int)(ops:List Int):(paperV e zs ad k ch fr ops).length=32:=by
 rw[paperV,deriveW];exact sumW_length _
def paperS:List A→(Res→Prop)→Prop
 |[.agg [.ints .i64 1 [e],.ints .i64 31 zs,.bools 8 ad,.ints .i64 1 [k],.bytes 32 ch],.v (.int .i64 fr),x],K=>opsK x fun n ops=>K (.d (.agg [.bytes 32 (paperV e zs ad k ch fr ops)]))
 |_,_=>False
theorem paperS_of{f:FuncId}(hx:∀e zs ad k ch fr ops n,ops.length=n*5→n≤1000000→FnO f [.agg (vSegs e zs ad k ch),.v (.int .i64 fr),.row n [.ints .i64 (n*5) ops]] (.d (.agg [.bytes 32 (paperV e zs ad k ch fr ops)]))):∀args K,paperS args K→∃r,FnO f args r∧K r:=by
 intro args K h
 unfold paperS at h
 split at h
 ·next e zs ad k ch fr x=>
  obtain⟨n,ops,hn,h,hv⟩:=opsK_spec h
  refine⟨_,fun S w vs hG ha=>?_,h⟩
  obtain⟨v1,v2,v3,rfl,h1,h2,h3⟩:=ra_three ha
  exact fn_lens (fun hl=>hx e zs ad k ch fr ops n hl.2.1.1 hn) S w _ hG (.cons h1 (.cons h2 (.cons (hv h3) .nil)))
 ·exact h.elim
attribute [local irreducible] paperV
noncomputable def envO0:EnvX:=envSh.add 75 vHashS (vHashS_of vHash_ok) ⟨_,Tryz.func75,by kernel_rfl,by kernel_rfl⟩
noncomputable def envO1:EnvX:=envO0
noncomputable def envO2:EnvX:=envO1.add 76 opsBS (opsBS_of ops_ok) ⟨_,Tryz.func76,by kernel_rfl,by kernel_rfl⟩
noncomputable def envO3:EnvX:=envO2
noncomputable def envO4:EnvX:=envO3.add 71 applyN (applyN_of apply_ok) ⟨_,Tryz.func71,by kernel_rfl,by kernel_rfl⟩
noncomputable def envO5:EnvX:=envO4
set_option maxHeartbeats 1000000 in
theorem paper_fn(e:Int)(zs:List Int)(ad:List Bool)(k:Int)(ch:List UInt8)(fr:Int)(ops:List Int)(n:Nat)(ho:ops.length=n*5)(hn:n≤1000000):
  FnO 44 [.agg (vSegs e zs ad k ch),.v (.int .i64 fr),.row n [.ints .i64 (n*5) ops]] (.d (.agg [.bytes 32 (paperV e zs ad k ch fr ops)])):=by
 refine fnA (E:=envO5) Tryz.func44 Tryz.ntmps44 ?_
 refine agow ?_;(try exact⟨⟩)
 generalize hp:ptsOf _ _ _=o
 obtain rfl:o=some [.own 2 8,.own 3 (n*40)]:=hp.symm.trans (ptsOf_cons rfl (ptOf_own rfl rfl) (ptsOf_cons rfl (ptOf_own rfl rfl) ptsOf_nil))
 clear hp
 refine agow ?_;(try exact⟨⟩)
 rw[paperV]
noncomputable def envO6:EnvX:=envO5.add 44 paperS (paperS_of paper_fn) ⟨_,Tryz.func44,by kernel_rfl,by kernel_rfl⟩
noncomputable def envO7:EnvX:=envO6
def admS:List A→(Res→Prop)→Prop
 |[.agg [.ints .i64 1 [e],.ints .i64 31 zs,.bools 8 ad,.ints .i64 1 [k],.bytes 32 ch],.v (.int .i64 i)],K=>K (.d (.v (.bool (admB ad i))))
 |_,_=>False
theorem admS_of{f:FuncId}(hx:∀e zs ad k ch i,FnO f [.agg (vSegs e zs ad k ch),.v (.int .i64 i)] (.d (.v (.bool (admB ad i))))):∀args K,admS args K→∃r,FnO f args r∧K r:=by
 intro args K h
 unfold admS at h
 split at h
 ·exact⟨_,hx _ _ _ _ _ _,h⟩
 ·exact h.elim
theorem adm_t{ad:List Bool}{i:Int}(h0:0≤i)(h1:i<8):admB ad i=ad.getD i.toNat false:=by
 unfold admB leafB;rw[decide_eq_true h0,decide_eq_true h1];rfl
theorem adm_lo{ad:List Bool}{i:Int}(h:¬0≤i):admB ad i=false:=by
 unfold admB leafB;rw[decide_eq_false h];rfl
theorem adm_hi{ad:List Bool}{i:Int}(h:¬i<8):admB ad i=false:=by
 unfold admB leafB;rw[decide_eq_false h,Bool.and_false];rfl
set_option maxHeartbeats 1000000 in
theorem isAdmin_fn(e:Int)(zs:List Int)(ad:List Bool)(k:Int)(ch:List UInt8)(i:Int):FnO 72 [.agg (vSegs e zs ad k ch),.v (.int .i64 i)] (.d (.v (.bool (admB ad i)))):=by
 refine fnA (E:=envO5) Tryz.func72 Tryz.ntmps72 ?_
 by_cases h0:0≤i
 ·by_cases h1:i<8
  ·rw[adm_t h0 h1]
   refine agow ?_;(try exact⟨⟩)
  ·rw[adm_hi h1]
   refine agow ?_;(try exact⟨⟩)
 ·rw[adm_lo h0]
  refine agow ?_;(try exact⟨⟩)
noncomputable def envO8:EnvX:=envO7.add 72 admS (admS_of isAdmin_fn) ⟨_,Tryz.func72,by kernel_rfl,by kernel_rfl⟩
noncomputable def envO9:EnvX:=envO8
end
section
open Pm
attribute [local irreducible] condK LoopA regA powI scal isI putL doR mayV numsB viewHV numB deriveW fourB mulI askW nonceW sigE sigS verW paperV admB
def appE(e:Int)(zs:List Int)(ad:List Bool)(k:Int)(who s fr:Int)(ops:List Int)(n:Nat):Int:=
 if n=0 then 1 else if(doR e ⟨zs,ad,k,F8,F8⟩ fr ops n).1≠0 then(doR e ⟨zs,ad,k,F8,F8⟩ fr ops n).1 else if admB ad who=false then 6 else if powI 4 s≠zs.getD (who.toNat*2) 0 then 10 else 0
def appS(e:Int)(zs:List Int)(ad:List Bool)(k:Int)(ch:List UInt8)(who s fr:Int)(ops:List Int)(n:Nat):List A:=
 if appE e zs ad k who s fr ops n=0 then[.agg [.ints .i64 3 [who,sigE s (paperV e zs ad k ch fr ops),sigS s (paperV e zs ad k ch fr ops)]],.v (.int .i64 0)]else[.agg [.ints .i64 3 [0,0,0]],.v (.int .i64 (appE e zs ad k who s fr ops n))]
theorem adm_bd{ad:List Bool}{i:Int}(h:admB ad i=true):0≤i∧i<8:=by
 unfold admB leafB at h
 simp only[Bool.and_eq_true,decide_eq_true_eq]at h
 exact h.1
set_option maxHeartbeats 1000000 in
theorem approve_fn(e:Int)(zs:List Int)(ad:List Bool)(k:Int)(ch:List UInt8)(who s:Int)(hs:1≤s∧s<1073741789)(fr:Int)(ops:List Int)(n:Nat)(hn:n≤1000000):
  FnMO 41 2 (.obj (KeyP s)) [.agg (vSegs e zs ad k ch),.v (.int .i64 who),.v (.int .i64 fr),.row n [.ints .i64 (n*5) ops]] (.t (appS e zs ad k ch who s fr ops n)) (.obj (KeyP s)):=by
 refine fnMB (E:=envO9) Tryz.func41 Tryz.ntmps41 ?_
 have hs0:0≤s:=by omega
 have hpl:=paperV_length e zs ad k ch fr ops
 by_cases h0:n=0
 ·subst h0
  have hr:appE e zs ad k who s fr ops 0=1:=by simp[appE]
  rw[appS,if_neg (by rw[hr];decide),hr]
  clear hr
  refine agow ?_;(try exact⟨⟩)
 have h01:((n:Int)==0)=false:=by simpa using h0
 by_cases hd:(doR e ⟨zs,ad,k,F8,F8⟩ fr ops n).1=0
 ·have hd1:decide ((doR e ⟨zs,ad,k,F8,F8⟩ fr ops n).1=0)=true:=decide_eq_true hd
  cases ha:admB ad who with
  |false=>
   have hr:appE e zs ad k who s fr ops n=6:=by simp[appE,h0,hd,ha]
   rw[appS,if_neg (by rw[hr];decide),hr]
   clear hr hd h0
   refine agow ?_;(try exact⟨⟩)
  |true=>
   obtain⟨b0,b1⟩:=adm_bd ha
   by_cases hk:powI 4 s=zs.getD (who.toNat*2) 0
   ·have hr:appE e zs ad k who s fr ops n=0:=by unfold appE;rw[if_neg h0,if_neg (fun h=>h hd),if_neg (by rw[ha];decide),if_neg (fun h=>h hk)]
    rw[appS,if_pos hr]
    clear hr hd h0
    refine agow ?_;(try exact⟨⟩)
   ·have hr:appE e zs ad k who s fr ops n=10:=by unfold appE;rw[if_neg h0,if_neg (fun h=>h hd),if_neg (by rw[ha];decide),if_pos hk]
    rw[appS,if_neg (by rw[hr];decide),hr]
    have hk1:(powI 4 s !=zs.getD (who.toNat*2) 0)=true:=bne_iff_ne.2 hk
    clear hr hd h0 hk
    refine agow ?_;(try exact⟨⟩)
 ·have hd1:decide ((doR e ⟨zs,ad,k,F8,F8⟩ fr ops n).1=0)=false:=decide_eq_false hd
  have hr:appE e zs ad k who s fr ops n=(doR e ⟨zs,ad,k,F8,F8⟩ fr ops n).1:=by simp[appE,h0,hd]
  have hd2:((doR e ⟨zs,ad,k,F8,F8⟩ fr ops n).1 !=0)=true:=by simpa using hd
  rw[appS,if_neg (by rw[hr];exact hd),hr]
  clear hr hd h0
  refine agow ?_;(try exact⟨⟩)
end
section
open Pm
attribute [local irreducible] condK LoopA regA powI scal isI putL doR mayV numsB viewHV numB deriveW fourB mulI askW nonceW sigE sigS verW paperV admB
def lastJ(vs:List Int):Nat→Int
 |0=> -1
 |j+1=>vs.getD (j*3) 0
def passB(zs:List Int)(ad:List Bool)(p:List UInt8)(vs:List Int)(j:Nat):Bool:=
 admB ad (vs.getD (j*3) 0)&&decide (lastJ vs j<vs.getD (j*3) 0)&&verW (zs.getD ((vs.getD (j*3) 0).toNat*2) 0) p (vs.getD (j*3+1) 0) (vs.getD (j*3+2) 0)
def codeJ(ad:List Bool)(vs:List Int)(j:Nat):Int:=if(admB ad (vs.getD (j*3) 0)&&decide (lastJ vs j<vs.getD (j*3) 0))=true then 4 else 6
def chkE(zs:List Int)(ad:List Bool)(p:List UInt8)(vs:List Int)(m:Nat):Int:=
 if idxP (fun j=>!passB zs ad p vs j) m<0 then 0 else codeJ ad vs (idxP (fun j=>!passB zs ad p vs j) m).toNat
def chkV(e:Int)(zs:List Int)(ad:List Bool)(k:Int)(ch:List UInt8)(fr:Int)(ops:List Int)(n:Nat)(vs:List Int)(m:Nat):Int:=
 if n=0 then(if m=0 then 0 else 8)else if(doR e ⟨zs,ad,k,F8,F8⟩ fr ops n).1≠0 then(doR e ⟨zs,ad,k,F8,F8⟩ fr ops n).1 else
 if chkE zs ad (paperV e zs ad k ch fr ops) vs m≠0 then chkE zs ad (paperV e zs ad k ch fr ops) vs m else if(m:Int)<k then 8 else 0
theorem first_noO{p:Nat→Prop}:∀(n:Nat),∃N,N≤n∧(∀j,j<N→p j)∧(N=n∨(N<n∧¬p N))
 |0=>⟨0,Nat.le_refl _,fun j hj=>absurd hj (by omega),.inl rfl⟩
 |n+1=>by
  obtain⟨N,h1,h2,h3⟩:=first_noO (p:=p) n
  rcases h3 with rfl|⟨h3,h4⟩
  ·by_cases h:p N
   ·exact⟨N+1,Nat.le_refl _,fun j hj=>by
     rcases Nat.lt_or_ge j N with h5|h5
     ·exact h2 j h5
     ·exact(show j=N by omega)▸h,.inl rfl⟩
   ·exact⟨N,by omega,h2,.inr ⟨by omega,h⟩⟩
  ·exact⟨N,by omega,h2,.inr ⟨by omega,h4⟩⟩
theorem chkE_all{zs:List Int}{ad:List Bool}{p:List UInt8}{vs:List Int}{m:Nat}(h:∀j,j<m→passB zs ad p vs j=true):chkE zs ad p vs m=0:=by
 unfold chkE
 rw[idxP_none fun j hj=>by rw[h j hj];rfl,if_pos (by decide)]
theorem chkE_at{zs:List Int}{ad:List Bool}{p:List UInt8}{vs:List Int}{m N:Nat}(hN:N<m)(h:∀j,j<N→passB zs ad p vs j=true)(hf:¬passB zs ad p vs N=true):chkE zs ad p vs m=codeJ ad vs N:=by
 unfold chkE
 rw[idxP_at hN (by simpa using hf) fun j hj=>by rw[h j hj];rfl,if_neg (by omega),Int.toNat_natCast]
attribute [local irreducible] chkE
theorem codeJ_ne(ad:List Bool)(vs:List Int)(j:Nat):codeJ ad vs j≠0:=by unfold codeJ;split<;>decide
def votK:A→(Nat→List Int→Prop)→Prop
 | .row n [.ints .i64 m vs],K=>m=n*3∧n≤1000000∧K n vs
 | .v (.slice none 0 0),K=>K 0 []
 |_,_=>False
theorem votK_spec{x:A}{K:Nat→List Int→Prop}(h:votK x K):∃n vs,n≤1000000∧K n vs∧∀{S:Nat→Prop} {w:World} {v:Value},RA S w x v→RA S w (.row n [.ints .i64 (n*3) vs]) v:=by
 unfold votK at h
 split at h
 ·obtain⟨rfl,h1,h2⟩:=h
  exact⟨_,_,h1,h2,fun h=>h⟩
 ·refine⟨0,[],by omega,h,fun {S w v} hv=>?_⟩
  rw[RA.plain hv]
  exact .row (cs:=[]) (.ofInts (by simp) rfl) (Nat.le_refl _) (Nat.zero_le _) (fun _=>rfl) (.inl rfl)
 ·exact h.elim
def nothS:List A→(Res→Prop)→Prop
 |[x],K=>votK x fun m vs=>K (.d (.v (.int .i64 (if m=0 then 0 else 8))))
 |_,_=>False
theorem nothS_of{f:FuncId}(hx:∀vs m,m≤1000000→FnO f [.row m [.ints .i64 (m*3) vs]] (.d (.v (.int .i64 (if m=0 then 0 else 8))))):∀args K,nothS args K→∃r,FnO f args r∧K r:=by
 intro args K h
 unfold nothS at h
 split at h
 ·next x=>
  obtain⟨n,vs,hn,h,hv⟩:=votK_spec h
  refine⟨_,fun S w vs' hG ha=>?_,h⟩
  obtain⟨v,rfl,h1⟩:=ra_one ha
  exact hx vs n hn S w _ hG (.cons (hv h1) .nil)
 ·exact h.elim
theorem noth_fn(vs:List Int)(m:Nat)(hm:m≤1000000):FnO 160 [.row m [.ints .i64 (m*3) vs]] (.d (.v (.int .i64 (if m=0 then 0 else 8)))):=by
 refine fnA (E:=envO9) Tryz.func160 Tryz.ntmps160 ?_
 by_cases h:m=0
 ·subst h
  rw[if_pos rfl]
  refine agow ?_;(try exact⟨⟩)
 ·rw[if_neg h]
  have h1:(m:Int)>0:=by omega
  clear h
  refine agow ?_;(try exact⟨⟩)
noncomputable def envOa:EnvX:=envO9.add 160 nothS (nothS_of noth_fn) ⟨_,Tryz.func160,by kernel_rfl,by kernel_rfl⟩
set_option maxHeartbeats 1000000 in
theorem three_at{vs:List Int}{m j:Nat}(hv:vs.length=m*3)(hj:j<m):(vs.drop (j*3)).take 3=[vs.getD (j*3) 0,vs.getD (j*3+1) 0,vs.getD (j*3+2) 0]:=by
 refine List.ext_getElem (by simp;omega) fun i h1 h2=>?_
 simp only[List.length_cons,List.length_nil]at h2
 rw[List.getElem_take,List.getElem_drop]
 rcases i with _|_|_|i
 ·simp[List.getD_eq_getElem?_getD,List.getElem?_eq_getElem (show j*3<vs.length by omega)]
 ·simp[List.getD_eq_getElem?_getD,List.getElem?_eq_getElem (show j*3+1<vs.length by omega)]
 ·simp[List.getD_eq_getElem?_getD,List.getElem?_eq_getElem (show j*3+2<vs.length by omega)]
 ·omega
set_option maxHeartbeats 1000000 in
theorem check_fn(e:Int)(zs:List Int)(ad:List Bool)(k:Int)(ch:List UInt8)(fr:Int)(ops:List Int)(n:Nat)(hn:n≤1000000)(vs:List Int)(m:Nat)(hm:m≤1000000)(hv:vs.length=m*3):
  FnO 119 [.agg (vSegs e zs ad k ch),.v (.int .i64 fr),.row n [.ints .i64 (n*5) ops],.row m [.ints .i64 (m*3) vs]] (.d (.v (.int .i64 (chkV e zs ad k ch fr ops n vs m)))):=by
 refine fnA (E:=envOa) Tryz.func119 Tryz.ntmps119 ?_
 have hpl:=paperV_length e zs ad k ch fr ops
 by_cases h0:n=0
 ·subst h0
  have hr:chkV e zs ad k ch fr ops 0 vs m=if m=0 then 0 else 8:=by simp[chkV]
  rw[hr]
  clear hr
  refine agow ?_;(try exact⟨⟩)
 have h01:((n:Int)==0)=false:=by simpa using h0
 by_cases hd:(doR e ⟨zs,ad,k,F8,F8⟩ fr ops n).1=0
 ·have hd1:decide ((doR e ⟨zs,ad,k,F8,F8⟩ fr ops n).1=0)=true:=decide_eq_true hd
  obtain⟨N,hN,hok,hend⟩:=first_noO (p:=fun j=>passB zs ad (paperV e zs ad k ch fr ops) vs j=true) m
  have hC:chkV e zs ad k ch fr ops n vs m=if N=m then(if(m:Int)<k then 8 else 0)else codeJ ad vs N:=by
   rcases hend with rfl|⟨h1,h2⟩
   ·simp only[chkV,h0,hd,chkE_all hok];simp
   ·simp only[chkV,h0,hd,chkE_at h1 hok h2]
    rw[if_neg (show ¬N=m by omega)]
    simp[codeJ_ne]
  rw[hC]
  clear hC hd
  refine agow ?_;(try exact⟨⟩)
  refine StopL.mk (loop_forG [3,4,8,13,14,38,39,40] [0,4] N (fun j=>⟨[.dead,.dead,.dead,.d (.row m [.ints .i64 (m*3) vs]),.ptr 0 0,.dead,.dead,.dead,.d (.v (.int .i64 0)),.dead,.dead,.dead,.dead,.ptr 1 0,.d (.v (.int .i64 (lastJ vs j))),.dead,.dead,.dead,.dead,.dead,.dead,.dead,.dead,.dead,.dead,.dead,.dead,.dead,.dead,.dead,.dead,.dead,.dead,.dead,.dead,.dead,.dead,.dead,.d (.row m [.ints .i64 (m*3) vs]),.d (.v (.int .i64 (m:Nat))),.d (.v (.int .i64 (j:Nat))),.dead,.dead,.dead,.dead,.dead,.dead,.dead,.dead,.dead,.dead,.dead,.dead,.dead,.dead,.dead,.dead,.dead,.dead,.dead,.dead,.dead,.dead,.dead,.dead,.dead,.dead,.dead,.dead,.dead,.dead,.dead,.dead,.dead,.dead],[some (.var (vSegs e zs ad k ch)),some (.var [.bytes 32 (paperV e zs ad k ch fr ops)])]⟩) ?_)
  intro j hj hl
  by_cases h3:j<m
  ·have h2:(j:Int)<m:=by omega
   have hj3:=three_at hv h3
   refine agow ?_;(try exact⟨⟩)
   rw[hj3]
   clear hj3
   have eP:passB zs ad (paperV e zs ad k ch fr ops) vs j=(admB ad (vs.getD (j*3) 0)&&decide (lastJ vs j<vs.getD (j*3) 0)&&verW (zs.getD ((vs.getD (j*3) 0).toNat*2) 0) (paperV e zs ad k ch fr ops) (vs.getD (j*3+1) 0) (vs.getD (j*3+2) 0)):=rfl
   have eC:codeJ ad vs j=if(admB ad (vs.getD (j*3) 0)&&decide (lastJ vs j<vs.getD (j*3) 0))=true then 4 else 6:=rfl
   have eL:lastJ vs (j+1)=vs.getD (j*3) 0:=rfl
   generalize lastJ vs j=l0 at*
   generalize vs.getD (j*3) 0=a at*
   generalize vs.getD (j*3+1) 0=b at*
   generalize vs.getD (j*3+2) 0=c at*
   by_cases h1:j<N
   ·have hp:=hok j h1
    rw[eP,Bool.and_eq_true,Bool.and_eq_true,decide_eq_true_eq]at hp
    obtain⟨⟨p1,p2⟩,p3⟩:=hp
    obtain⟨b1,b2⟩:=adm_bd p1
    clear eP eC hok hend
    refine agow ?_;(try exact⟨⟩)
    refine hl.go h1 [3,4,8,13,14,38,39,40] [0,1] ?_
    show gather _ _ _=St.mk _ _
    rw[eL]
    rfl
   ·obtain rfl:N=j:=by omega
    have hf:¬passB zs ad (paperV e zs ad k ch fr ops) vs N=true:=by
     rcases hend with h|h
     ·omega
     ·exact h.2
    rw[eP]at hf
    rw[if_neg (show ¬N=m by omega)]
    clear eL hok hend hl h1
    cases ha:admB ad a with
    |false=>
     have eC6:codeJ ad vs N=6:=by rw[eC,ha];rfl
     rw[eC6]
     clear eC eC6 eP hf
     refine agow ?_;(try exact⟨⟩)
    |true=>
     obtain⟨b1,b2⟩:=adm_bd ha
     by_cases hlt:l0<a
     ·have eC4:codeJ ad vs N=4:=by rw[eC,ha,decide_eq_true hlt];rfl
      rw[eC4]
      have hver:verW (zs.getD (a.toNat*2) 0) (paperV e zs ad k ch fr ops) b c=false:=by
       rw[ha,decide_eq_true hlt,Bool.true_and,Bool.true_and]at hf
       exact Bool.eq_false_iff.2 hf
      clear eC eC4 eP hf
      refine agow ?_;(try exact⟨⟩)
     ·have eC6:codeJ ad vs N=6:=by rw[eC,ha,decide_eq_false hlt];rfl
      rw[eC6]
      clear eC eC6 eP hf
      refine agow ?_;(try exact⟨⟩)
  ·have h4:¬(j:Int)<m:=by omega
   rw[if_pos (show N=m by omega)]
   clear hok hend hl
   by_cases hk:(m:Int)<k
   ·rw[if_pos hk]
    refine agow ?_;(try exact⟨⟩)
   ·rw[if_neg hk]
    refine agow ?_;(try exact⟨⟩)
 ·have hd1:decide ((doR e ⟨zs,ad,k,F8,F8⟩ fr ops n).1=0)=false:=decide_eq_false hd
  have hr:chkV e zs ad k ch fr ops n vs m=(doR e ⟨zs,ad,k,F8,F8⟩ fr ops n).1:=by simp[chkV,h0,hd]
  have hd2:((doR e ⟨zs,ad,k,F8,F8⟩ fr ops n).1 !=0)=true:=by simpa using hd
  rw[hr]
  clear hr hd h0
  refine agow ?_;(try exact⟨⟩)
end
end Go.Proofs.YtbdmnobocecnfaaGreatDoor
