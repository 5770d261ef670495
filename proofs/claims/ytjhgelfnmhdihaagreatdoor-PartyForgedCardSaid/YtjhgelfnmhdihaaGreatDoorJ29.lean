/-
  The machine without memory: what a whnf alone doesn't decide. No program is named here.
-/
import Derived.Test.YtjhgelfnmhdihaaGreatDoorJ28
namespace Go.Proofs.YtjhgelfnmhdihaaGreatDoor
set_option linter.unusedVariables false
set_option linter.unusedSimpArgs false
set_option maxRecDepth 100000
open Go.RowKit
section
theorem pR{s:St}{b n m:Nat}{e:TypeId}{z:Nat}{l:List Seg}(h:s.bk b=some (.sl e z m l))(hn:n=m):PG s (.own b n)=some (.own b n):=by
 subst hn;unfold PG;simp only[h,if_true]
theorem lS{s:St}{x:Operand}{r:List (Nat×Operand)}{k:Nat}{t:T}{p:Pt}{l:List Pt}(h1:s.ev x=t)(h2:PG s t=some p)(h3:tZ s r (k+1)=some l):tZ s ((k,x)::r) k=some (p::l):=by
 rw[tZ,if_pos rfl,h1,h2,h3]
theorem Ak{s:St}{k:Nat}:tZ s [] k=some []:=rfl
theorem uw{p q:Prop}(left:q)(h:(Left q→p)∧Isq q:=by
  refine And.intro ?_ ?_
  ·intro sF
   (conv=>whnf);repeat ((first|((first|refine toA ?_|refine toE ?_|refine toD ?_);(try(conv=>arg 2;simp(disch:=omega) only[dR,Int.toNat_natCast,Seg.n,Wx,Wy,Wz,WA,WB,WC,WE,WG,WH,BK,BL,BN,BO,BP,BQ,BR,Int.reduceAdd,Int.zero_add,Seg.cell,Seg.sub,List.set_nil,iH,mO,List.take_append_drop,St.app,St.oF,St.ev,List.getD_cons_zero,List.getD_cons_succ,List.getD_nil,St.sl,St.bk,jl,iA,kS,gT,bF,weaken,lY,List.set_cons_zero,List.set_cons_succ,List.length_cons,List.length_nil,List.cons_append,List.nil_append,List.append_nil,List.map_cons,List.map_nil,List.replicate_succ,List.replicate_zero,List.take_succ_cons,List.take_zero,List.drop_succ_cons,List.drop_zero,List.take_nil,List.drop_nil,Nat.reduceAdd,Nat.reduceSub,Nat.reduceMul,Nat.reduceEqDiff,Nat.reduceLT,Nat.reduceLeDiff,Nat.zero_add,Nat.add_zero,Nat.sub_self,Nat.sub_zero,Nat.one_mul,Nat.mul_one,Nat.zero_mul,jk,mD,List.flatten_cons,List.flatten_nil,eq_self,ite_true,if_true,if_false,↓reduceIte,reduceCtorEq,Int.reduceToNat,iB,sM]));first|(refine ofA ?_;(conv=>arg 3;whnf);first|refine vW ?_|refine zo ?_)|(refine ofD ?_;(conv=>arg 5;whnf);first|refine vX ?_|refine zq ?_)|(refine ofE ?_;(conv=>arg 2;whnf);(refine qA _ rfl ?_ ?_);focus (kernel_rfl)))|(refine mR.mk ?_;first|(refine yF ?_ ?_;focus (first|rfl|assumption|(simp only[bne,Bool.true_beq,Bool.false_beq,beq_true,beq_false,Bool.not_true,Bool.not_false,Bool.true_and,Bool.and_true,Bool.false_and,Bool.and_false,Bool.true_or,Bool.or_true,Bool.false_or,Bool.or_false,beq_iff_eq,beq_eq_false_iff_ne,ne_eq,Bool.not_eq_true',Bool.not_eq_false',decide_eq_true_eq,decide_eq_false_iff_not,ge_iff_le,gt_iff_lt, *]<;>omega)|(simp[bf, *]<;>omega)))|(refine rW ?_ ?_;focus (first|rfl|assumption|(simp only[bne,Bool.true_beq,Bool.false_beq,beq_true,beq_false,Bool.not_true,Bool.not_false,Bool.true_and,Bool.and_true,Bool.false_and,Bool.and_false,Bool.true_or,Bool.or_true,Bool.false_or,Bool.or_false,beq_iff_eq,beq_eq_false_iff_ne,ne_eq,Bool.not_eq_true',Bool.not_eq_false',decide_eq_true_eq,decide_eq_false_iff_not,ge_iff_le,gt_iff_lt, *]<;>omega)|(simp[bf, *]<;>omega))))|(refine And.intro ?_ ?_;focus (first|exact rfl|exact Nat.le_of_ble_eq_true rfl|exact Or.inr rfl|exact Or.inl rfl|(intro hx;cases hx<;>fail)|(intro _;rfl)|exact⟨_,rfl,rfl⟩|omega|(simp only[Seg.n,fP,vg,vk,jl,iA,kS,gT,bF];omega)|(refine ar9 ?_;(try simp only[Seg.n,fP,vg,vk,jl,iA,kS,gT,bF]);omega)|assumption|decide|(simp[Seg.n,fP,vg,vk,jl,iA,kS,gT,bF, *]<;>omega)))|(refine Exists.intro _ (And.intro rfl ?_)));(conv=>whnf))
   all_goals exact sF.out
  ·first|with_reducible exact ar6|exact ar5):p:=h.1 ⟨left⟩
end
section
open Pm
attribute [local irreducible] aU aZ bR aA au cO dA cZ dU aN aR bZ aF bD dB rT jP jo jQ fV
def jZ(ad:List Bool)(i:Int):Bool:=aG i&&ad.getD i.toNat false
def dw(e:Int)(zs:List Int)(ad:List Bool)(k:Int)(ch:List UInt8)(fr:Int)(ops:List Int):List UInt8:=aF (aR e zs ad k ch) (sb ⟨#[118,111,116,101]⟩) (bZ fr++aN ops)
theorem qU(e:Int)(zs:List Int)(ad:List Bool)(k:Int)(ch:List UInt8)(fr:Int)(ops:List Int):(dw e zs ad k ch fr ops).length=32:=by
 rw[dw,aF];exact bO _
def Jm:List A→(bP→Prop)→Prop
 |[.agg [.ints .i64 1 [e],.ints .i64 31 zs,.bools 8 ad,.ints .i64 1 [k],.bytes 32 ch],.v (.int .i64 fr),x],K=>uS x fun n ops=>K (.d (.agg [.bytes 32 (dw e zs ad k ch fr ops)]))
 |_,_=>False
theorem GN{f:FuncId}(hx:∀e zs ad k ch fr ops n,ops.length=n*5→n≤1000000→aP f [.agg (bS e zs ad k ch),.v (.int .i64 fr),.row n [.ints .i64 (n*5) ops]] (.d (.agg [.bytes 32 (dw e zs ad k ch fr ops)]))):∀args K,Jm args K→∃r,aP f args r∧K r:=by
 intro args K h
 unfold Jm at h
 split at h
 ·next e zs ad k ch fr x=>
  obtain⟨n,ops,hn,h,hv⟩:=gM h
  refine⟨_,fun S w vs hG ha=>?_,h⟩
  obtain⟨v1,v2,v3,rfl,h1,h2,h3⟩:=jI ha
  exact iq (fun hl=>hx e zs ad k ch fr ops n hl.2.1.1 hn) S w _ hG (.cons h1 (.cons h2 (.cons (hv h3) .nil)))
 ·exact h.elim
attribute [local irreducible] dw
noncomputable def bb4:ay:=bi1.add 114 AJ (wD MX) ⟨_,Tryz.func114,by kernel_rfl,by kernel_rfl⟩
noncomputable def bb5:ay:=bb4.add 150 AJ (wD G9) ⟨_,Tryz.func150,by kernel_rfl,by kernel_rfl⟩
noncomputable def bb6:ay:=bb5.add 179 RV (LP ZV) ⟨_,Tryz.func179,by kernel_rfl,by kernel_rfl⟩
noncomputable def bb7:ay:=bb6.add 93 RV (LP Sk) ⟨_,Tryz.func93,by kernel_rfl,by kernel_rfl⟩
noncomputable def bb8:ay:=bb7.add 99 applyN (vE Ki) ⟨_,Tryz.func99,by kernel_rfl,by kernel_rfl⟩
noncomputable def KL:ay:=bb8.add 61 applyN (vE vU) ⟨_,Tryz.func61,by kernel_rfl,by kernel_rfl⟩
set_option maxHeartbeats 1000000 in
theorem ZY(e:Int)(zs:List Int)(ad:List Bool)(k:Int)(ch:List UInt8)(fr:Int)(ops:List Int)(n:Nat)(ho:ops.length=n*5)(hn:n≤1000000):
  aP 166 [.agg (bS e zs ad k ch),.v (.int .i64 fr),.row n [.ints .i64 (n*5) ops]] (.d (.agg [.bytes 32 (dw e zs ad k ch fr ops)])):=by
 refine dK (E:=KL) Tryz.func166 Tryz.ntmps166 ?_
 refine aj ?_;(try exact⟨⟩)
 generalize hp:tZ _ _ _=o
 obtain rfl:o=some [.own 2 8,.own 3 (n*40)]:=hp.symm.trans (lS rfl (pR rfl rfl) (lS rfl (pR rfl rfl) Ak))
 clear hp
 refine aj ?_;(try exact⟨⟩)
 rw[dw]
set_option maxHeartbeats 1000000 in
theorem Vl(e:Int)(zs:List Int)(ad:List Bool)(k:Int)(ch:List UInt8)(fr:Int)(ops:List Int)(n:Nat)(ho:ops.length=n*5)(hn:n≤1000000):
  aP 97 [.agg (bS e zs ad k ch),.v (.int .i64 fr),.row n [.ints .i64 (n*5) ops]] (.d (.agg [.bytes 32 (dw e zs ad k ch fr ops)])):=by
 refine dK (E:=KL) Tryz.func97 Tryz.ntmps97 ?_
 have h1:(bZ fr).length=8:=fF fr
 have h2:(aN ops).length=n*40:=by rw[jc,ho];omega
 refine aj ?_;(try exact⟨⟩)
 generalize hp:tZ _ _ _=o
 obtain rfl:o=some [.own 2 8,.own 3 (n*40)]:=hp.symm.trans (lS rfl (pR rfl rfl) (lS rfl (pR rfl rfl) Ak))
 clear hp
 refine aj ?_;(try exact⟨⟩)
 rw[dw]
noncomputable def bb9:ay:=KL.add 166 Jm (GN ZY) ⟨_,Tryz.func166,by kernel_rfl,by kernel_rfl⟩
noncomputable def bc4:ay:=bb9.add 97 Jm (GN Vl) ⟨_,Tryz.func97,by kernel_rfl,by kernel_rfl⟩
def al1:List A→(bP→Prop)→Prop
 |[.agg [.ints .i64 1 [e],.ints .i64 31 zs,.bools 8 ad,.ints .i64 1 [k],.bytes 32 ch],.v (.int .i64 i)],K=>K (.d (.v (.bool (jZ ad i))))
 |_,_=>False
theorem QY{f:FuncId}(hx:∀e zs ad k ch i,aP f [.agg (bS e zs ad k ch),.v (.int .i64 i)] (.d (.v (.bool (jZ ad i))))):∀args K,al1 args K→∃r,aP f args r∧K r:=by
 intro args K h
 unfold al1 at h
 split at h
 ·exact⟨_,hx _ _ _ _ _ _,h⟩
 ·exact h.elim
theorem aA7{ad:List Bool}{i:Int}(h0:0≤i)(h1:i<8):jZ ad i=ad.getD i.toNat false:=by
 unfold jZ aG;rw[decide_eq_true h0,decide_eq_true h1];rfl
theorem WU{ad:List Bool}{i:Int}(h:¬0≤i):jZ ad i=false:=by
 unfold jZ aG;rw[decide_eq_false h];rfl
theorem WT{ad:List Bool}{i:Int}(h:¬i<8):jZ ad i=false:=by
 unfold jZ aG;rw[decide_eq_false h,Bool.and_false];rfl
set_option maxHeartbeats 1000000 in
theorem OM(e:Int)(zs:List Int)(ad:List Bool)(k:Int)(ch:List UInt8)(i:Int):aP 167 [.agg (bS e zs ad k ch),.v (.int .i64 i)] (.d (.v (.bool (jZ ad i)))):=by
 refine dK (E:=KL) Tryz.func167 Tryz.ntmps167 ?_
 by_cases h0:0≤i
 ·by_cases h1:i<8
  ·rw[aA7 h0 h1]
   refine aj ?_;(try exact⟨⟩)
  ·rw[WT h1]
   refine aj ?_;(try exact⟨⟩)
 ·rw[WU h0]
  refine aj ?_;(try exact⟨⟩)
set_option maxHeartbeats 1000000 in
theorem Vd(e:Int)(zs:List Int)(ad:List Bool)(k:Int)(ch:List UInt8)(i:Int):aP 96 [.agg (bS e zs ad k ch),.v (.int .i64 i)] (.d (.v (.bool (jZ ad i)))):=by
 refine dK (E:=KL) Tryz.func96 Tryz.ntmps96 ?_
 by_cases h0:0≤i
 ·by_cases h1:i<8
  ·rw[aA7 h0 h1]
   refine aj ?_;(try exact⟨⟩)
  ·rw[WT h1]
   refine aj ?_;(try exact⟨⟩)
 ·rw[WU h0]
  refine aj ?_;(try exact⟨⟩)
noncomputable def bc5:ay:=bc4.add 167 al1 (QY OM) ⟨_,Tryz.func167,by kernel_rfl,by kernel_rfl⟩
noncomputable def X0:ay:=bc5.add 96 al1 (QY Vd) ⟨_,Tryz.func96,by kernel_rfl,by kernel_rfl⟩
end
section
open Pm
attribute [local irreducible] aU aZ bR aA au cO dA cZ dU aN aR bZ aF bD dB rT jP jo jQ fV dw jZ
def l8(e:Int)(zs:List Int)(ad:List Bool)(k:Int)(who s fr:Int)(ops:List Int)(n:Nat):Int:=
 if n=0 then 1 else if(cZ e ⟨zs,ad,k,F8,F8⟩ fr ops n).1≠0 then(cZ e ⟨zs,ad,k,F8,F8⟩ fr ops n).1 else if jZ ad who=false then 6 else if aA 4 s≠zs.getD (who.toNat*2) 0 then 10 else 0
def Kh(e:Int)(zs:List Int)(ad:List Bool)(k:Int)(ch:List UInt8)(who s fr:Int)(ops:List Int)(n:Nat):List A:=
 if l8 e zs ad k who s fr ops n=0 then[.agg [.ints .i64 3 [who,jo s (dw e zs ad k ch fr ops),jQ s (dw e zs ad k ch fr ops)]],.v (.int .i64 0)]else[.agg [.ints .i64 3 [0,0,0]],.v (.int .i64 (l8 e zs ad k who s fr ops n))]
theorem CQ{ad:List Bool}{i:Int}(h:jZ ad i=true):0≤i∧i<8:=by
 unfold jZ aG at h
 simp only[Bool.and_eq_true,decide_eq_true_eq]at h
 exact h.1
set_option maxHeartbeats 1000000 in
theorem Mi(e:Int)(zs:List Int)(ad:List Bool)(k:Int)(ch:List UInt8)(who s:Int)(hs:1≤s∧s<1073741789)(fr:Int)(ops:List Int)(n:Nat)(hn:n≤1000000):
  aP 41 [.agg (bS e zs ad k ch),.v (.int .i64 who),.agg [.ints .i64 2 [s,aA 4 s]],.v (.int .i64 fr),.row n [.ints .i64 (n*5) ops]] (.t (Kh e zs ad k ch who s fr ops n)):=by
 refine dK (E:=X0) Tryz.func41 Tryz.ntmps41 ?_
 have hs0:0≤s:=by omega
 have hpl:=qU e zs ad k ch fr ops
 by_cases h0:n=0
 ·subst h0
  have hr:l8 e zs ad k who s fr ops 0=1:=by simp[l8]
  rw[Kh,if_neg (by rw[hr];decide),hr]
  clear hr
  refine aj ?_;(try exact⟨⟩)
 have h01:((n:Int)==0)=false:=by simpa using h0
 by_cases hd:(cZ e ⟨zs,ad,k,F8,F8⟩ fr ops n).1=0
 ·have hd1:decide ((cZ e ⟨zs,ad,k,F8,F8⟩ fr ops n).1=0)=true:=decide_eq_true hd
  cases ha:jZ ad who with
  |false=>
   have hr:l8 e zs ad k who s fr ops n=6:=by simp[l8,h0,hd,ha]
   rw[Kh,if_neg (by rw[hr];decide),hr]
   clear hr hd h0
   refine aj ?_;(try exact⟨⟩)
  |true=>
   obtain⟨b0,b1⟩:=CQ ha
   by_cases hk:aA 4 s=zs.getD (who.toNat*2) 0
   ·have hr:l8 e zs ad k who s fr ops n=0:=by unfold l8;rw[if_neg h0,if_neg (fun h=>h hd),if_neg (by rw[ha];decide),if_neg (fun h=>h hk)]
    rw[Kh,if_pos hr]
    clear hr hd h0
    refine aj ?_;(try exact⟨⟩)
   ·have hr:l8 e zs ad k who s fr ops n=10:=by unfold l8;rw[if_neg h0,if_neg (fun h=>h hd),if_neg (by rw[ha];decide),if_pos hk]
    rw[Kh,if_neg (by rw[hr];decide),hr]
    have hk1:(aA 4 s !=zs.getD (who.toNat*2) 0)=true:=bne_iff_ne.2 hk
    clear hr hd h0 hk
    refine aj ?_;(try exact⟨⟩)
 ·have hd1:decide ((cZ e ⟨zs,ad,k,F8,F8⟩ fr ops n).1=0)=false:=decide_eq_false hd
  have hr:l8 e zs ad k who s fr ops n=(cZ e ⟨zs,ad,k,F8,F8⟩ fr ops n).1:=by simp[l8,h0,hd]
  have hd2:((cZ e ⟨zs,ad,k,F8,F8⟩ fr ops n).1 !=0)=true:=by simpa using hd
  rw[Kh,if_neg (by rw[hr];exact hd),hr]
  clear hr hd h0
  refine aj ?_;(try exact⟨⟩)
end
section
open Pm
attribute [local irreducible] aU aZ bR aA au cO dA cZ dU aN aR bZ aF bD dB rT jP jo jQ fV dw jZ
def oD(vs:List Int):Nat→Int
 |0=> -1
 |j+1=>vs.getD (j*3) 0
def mU(zs:List Int)(ad:List Bool)(p:List UInt8)(vs:List Int)(j:Nat):Bool:=
 jZ ad (vs.getD (j*3) 0)&&decide (oD vs j<vs.getD (j*3) 0)&&fV (zs.getD ((vs.getD (j*3) 0).toNat*2) 0) p (vs.getD (j*3+1) 0) (vs.getD (j*3+2) 0)
def qj(ad:List Bool)(vs:List Int)(j:Nat):Int:=if(jZ ad (vs.getD (j*3) 0)&&decide (oD vs j<vs.getD (j*3) 0))=true then 4 else 6
def Fx(zs:List Int)(ad:List Bool)(p:List UInt8)(vs:List Int)(m:Nat):Int:=
 if sw (fun j=>!mU zs ad p vs j) m<0 then 0 else qj ad vs (sw (fun j=>!mU zs ad p vs j) m).toNat
def bX(e:Int)(zs:List Int)(ad:List Bool)(k:Int)(ch:List UInt8)(fr:Int)(ops:List Int)(n:Nat)(vs:List Int)(m:Nat):Int:=
 if n=0 then(if m=0 then 0 else 8)else if(cZ e ⟨zs,ad,k,F8,F8⟩ fr ops n).1≠0 then(cZ e ⟨zs,ad,k,F8,F8⟩ fr ops n).1 else
 if Fx zs ad (dw e zs ad k ch fr ops) vs m≠0 then Fx zs ad (dw e zs ad k ch fr ops) vs m else if(m:Int)<k then 8 else 0
theorem zW{p:Nat→Prop}:∀(n:Nat),∃N,N≤n∧(∀j,j<N→p j)∧(N=n∨(N<n∧¬p N))
 |0=>⟨0,Nat.le_refl _,fun j hj=>absurd hj (by omega),.inl rfl⟩
 |n+1=>by
  obtain⟨N,h1,h2,h3⟩:=zW (p:=p) n
  rcases h3 with rfl|⟨h3,h4⟩
  ·by_cases h:p N
   ·exact⟨N+1,Nat.le_refl _,fun j hj=>by
     rcases Nat.lt_or_ge j N with h5|h5
     ·exact h2 j h5
     ·exact(show j=N by omega)▸h,.inl rfl⟩
   ·exact⟨N,by omega,h2,.inr ⟨by omega,h⟩⟩
  ·exact⟨N,by omega,h2,.inr ⟨by omega,h4⟩⟩
theorem yD{zs:List Int}{ad:List Bool}{p:List UInt8}{vs:List Int}{m:Nat}(h:∀j,j<m→mU zs ad p vs j=true):Fx zs ad p vs m=0:=by
 unfold Fx
 rw[vL fun j hj=>by rw[h j hj];rfl,if_pos (by decide)]
theorem Ra{zs:List Int}{ad:List Bool}{p:List UInt8}{vs:List Int}{m N:Nat}(hN:N<m)(h:∀j,j<N→mU zs ad p vs j=true)(hf:¬mU zs ad p vs N=true):Fx zs ad p vs m=qj ad vs N:=by
 unfold Fx
 rw[IL hN (by simpa using hf) fun j hj=>by rw[h j hj];rfl,if_neg (by omega),Int.toNat_natCast]
attribute [local irreducible] Fx
theorem Kw(ad:List Bool)(vs:List Int)(j:Nat):qj ad vs j≠0:=by unfold qj;split<;>decide
def E8:A→(Nat→List Int→Prop)→Prop
 | .row n [.ints .i64 m vs],K=>m=n*3∧n≤1000000∧K n vs
 | .v (.slice none 0 0),K=>K 0 []
 |_,_=>False
theorem kN{x:A}{K:Nat→List Int→Prop}(h:E8 x K):∃n vs,n≤1000000∧K n vs∧∀{S:Nat→Prop} {w:World} {v:Value},RA S w x v→RA S w (.row n [.ints .i64 (n*3) vs]) v:=by
 unfold E8 at h
 split at h
 ·obtain⟨rfl,h1,h2⟩:=h
  exact⟨_,_,h1,h2,fun h=>h⟩
 ·refine⟨0,[],by omega,h,fun {S w v} hv=>?_⟩
  rw[RA.plain hv]
  exact .row (cs:=[]) (.oq (by simp) rfl) (Nat.le_refl _) (Nat.zero_le _) (fun _=>rfl) (.inl rfl)
 ·exact h.elim
def Zy:List A→(bP→Prop)→Prop
 |[x],K=>E8 x fun m vs=>K (.d (.v (.int .i64 (if m=0 then 0 else 8))))
 |_,_=>False
theorem Zz{f:FuncId}(hx:∀vs m,m≤1000000→aP f [.row m [.ints .i64 (m*3) vs]] (.d (.v (.int .i64 (if m=0 then 0 else 8))))):∀args K,Zy args K→∃r,aP f args r∧K r:=by
 intro args K h
 unfold Zy at h
 split at h
 ·next x=>
  obtain⟨n,vs,hn,h,hv⟩:=kN h
  refine⟨_,fun S w vs' hG ha=>?_,h⟩
  obtain⟨v,rfl,h1⟩:=iP ha
  exact hx vs n hn S w _ hG (.cons (hv h1) .nil)
 ·exact h.elim
theorem at5(vs:List Int)(m:Nat)(hm:m≤1000000):aP 165 [.row m [.ints .i64 (m*3) vs]] (.d (.v (.int .i64 (if m=0 then 0 else 8)))):=by
 refine dK (E:=X0) Tryz.func165 Tryz.ntmps165 ?_
 by_cases h:m=0
 ·subst h
  rw[if_pos rfl]
  refine aj ?_;(try exact⟨⟩)
 ·rw[if_neg h]
  have h1:(m:Int)>0:=by omega
  clear h
  refine aj ?_;(try exact⟨⟩)
noncomputable def aC3:ay:=X0.add 165 Zy (Zz at5) ⟨_,Tryz.func165,by kernel_rfl,by kernel_rfl⟩
set_option maxHeartbeats 1000000 in
theorem ag2{vs:List Int}{m j:Nat}(hv:vs.length=m*3)(hj:j<m):(vs.drop (j*3)).take 3=[vs.getD (j*3) 0,vs.getD (j*3+1) 0,vs.getD (j*3+2) 0]:=by
 refine List.ext_getElem (by simp;omega) fun i h1 h2=>?_
 simp only[List.length_cons,List.length_nil]at h2
 rw[List.getElem_take,List.getElem_drop]
 rcases i with _|_|_|i
 ·simp[List.getD_eq_getElem?_getD,List.getElem?_eq_getElem (show j*3<vs.length by omega)]
 ·simp[List.getD_eq_getElem?_getD,List.getElem?_eq_getElem (show j*3+1<vs.length by omega)]
 ·simp[List.getD_eq_getElem?_getD,List.getElem?_eq_getElem (show j*3+2<vs.length by omega)]
 ·omega
theorem Qr{vs:List Int}{m j:Nat}(hv:vs.length=m*3)(hj:j<m):(vs.drop (j*3+1)).take 2=[vs.getD (j*3+1) 0,vs.getD (j*3+2) 0]:=by
 refine List.ext_getElem (by simp;omega) fun i h1 h2=>?_
 simp only[List.length_cons,List.length_nil]at h2
 rw[List.getElem_take,List.getElem_drop]
 rcases i with _|_|i
 ·simp[List.getD_eq_getElem?_getD,List.getElem?_eq_getElem (show j*3+1<vs.length by omega)]
 ·simp[List.getD_eq_getElem?_getD,List.getElem?_eq_getElem (show j*3+2<vs.length by omega)]
 ·omega
theorem Qu{zs:List Int}{ad:List Bool}{p:List UInt8}{vs:List Int}{m N j:Nat}(hv:vs.length=m*3)(hj:j≤N)(h3:j<m)(hok:∀j,j<N→mU zs ad p vs j=true)(hend:N=m∨(N<m∧¬mU zs ad p vs N=true))(x:Int):
  (jZ ad (vs.getD (j*3) 0)=false∧¬j<N∧(if N=m then x else qj ad vs N)=6)∨
  (jZ ad (vs.getD (j*3) 0)=true∧0≤vs.getD (j*3) 0∧vs.getD (j*3) 0<8∧¬oD vs j<vs.getD (j*3) 0∧¬j<N∧(if N=m then x else qj ad vs N)=6)∨
  (jZ ad (vs.getD (j*3) 0)=true∧0≤vs.getD (j*3) 0∧vs.getD (j*3) 0<8∧oD vs j<vs.getD (j*3) 0∧¬j<N∧fV (zs.getD ((vs.getD (j*3) 0).toNat*2) 0) p ((List.take 2 (List.drop (j*3+1) vs)).getD 0 0) ((List.take 2 (List.drop (j*3+1) vs)).getD 1 0)=false∧(if N=m then x else qj ad vs N)=4)∨
  (jZ ad (vs.getD (j*3) 0)=true∧0≤vs.getD (j*3) 0∧vs.getD (j*3) 0<8∧oD vs j<vs.getD (j*3) 0∧fV (zs.getD ((vs.getD (j*3) 0).toNat*2) 0) p ((List.take 2 (List.drop (j*3+1) vs)).getD 0 0) ((List.take 2 (List.drop (j*3+1) vs)).getD 1 0)=true∧j<N):=by
 rw[Qr hv h3]
 show(_∧_∧_)∨(_∧_∧_∧_∧_∧_)∨(_∧_∧_∧_∧_∧fV _ _ (vs.getD (j*3+1) 0) (vs.getD (j*3+2) 0)=false∧_)∨(_∧_∧_∧_∧fV _ _ (vs.getD (j*3+1) 0) (vs.getD (j*3+2) 0)=true∧_)
 by_cases h1:j<N
 ·have hp:=hok j h1
  rw[mU,Bool.and_eq_true,Bool.and_eq_true,decide_eq_true_eq]at hp
  obtain⟨⟨p1,p2⟩,p3⟩:=hp
  obtain⟨b1,b2⟩:=CQ p1
  exact .inr (.inr (.inr ⟨p1,b1,b2,p2,p3,h1⟩))
 ·obtain rfl:N=j:=by omega
  have hf:¬mU zs ad p vs N=true:=by
   rcases hend with h|h
   ·omega
   ·exact h.2
  rw[mU]at hf
  rw[if_neg (show ¬N=m by omega),qj]
  cases ha:jZ ad (vs.getD (N*3) 0)with
  |false=>exact .inl ⟨rfl,h1,rfl⟩
  |true=>
   obtain⟨b1,b2⟩:=CQ ha
   by_cases hlt:oD vs N<vs.getD (N*3) 0
   ·rw[ha,decide_eq_true hlt,Bool.true_and,Bool.true_and]at hf
    exact .inr (.inr (.inl ⟨rfl,b1,b2,hlt,h1,Bool.eq_false_iff.2 hf,by rw[decide_eq_true hlt];rfl⟩))
   ·exact .inr (.inl ⟨rfl,b1,b2,hlt,h1,by rw[decide_eq_false hlt];rfl⟩)
set_option maxHeartbeats 1000000 in
theorem Xj(e:Int)(zs:List Int)(ad:List Bool)(k:Int)(ch:List UInt8)(fr:Int)(ops:List Int)(n:Nat)(hn:n≤1000000)(vs:List Int)(m:Nat)(hm:m≤1000000)(hv:vs.length=m*3):
  aP 98 [.agg (bS e zs ad k ch),.v (.int .i64 fr),.row n [.ints .i64 (n*5) ops],.row m [.ints .i64 (m*3) vs]] (.d (.v (.int .i64 (bX e zs ad k ch fr ops n vs m)))):=by
 refine dK (E:=aC3) Tryz.func98 Tryz.ntmps98 ?_
 have hpl:=qU e zs ad k ch fr ops
 by_cases h0:n=0
 ·subst h0
  have hr:bX e zs ad k ch fr ops 0 vs m=if m=0 then 0 else 8:=by simp[bX]
  rw[hr]
  clear hr
  refine aj ?_;(try exact⟨⟩)
 have h01:((n:Int)==0)=false:=by simpa using h0
 by_cases hd:(cZ e ⟨zs,ad,k,F8,F8⟩ fr ops n).1=0
 ·have hd1:decide ((cZ e ⟨zs,ad,k,F8,F8⟩ fr ops n).1=0)=true:=decide_eq_true hd
  obtain⟨N,hN,hok,hend⟩:=zW (p:=fun j=>mU zs ad (dw e zs ad k ch fr ops) vs j=true) m
  have hC:bX e zs ad k ch fr ops n vs m=if N=m then(if(m:Int)<k then 8 else 0)else qj ad vs N:=by
   rcases hend with rfl|⟨h1,h2⟩
   ·simp only[bX,h0,hd,yD hok];simp
   ·simp only[bX,h0,hd,Ra h1 hok h2]
    rw[if_neg (show ¬N=m by omega)]
    simp[Kw]
  rw[hC]
  clear hC hd
  refine aj ?_;(try exact⟨⟩)
  refine aM.mk (bV [3,4,8,13,14,38,39,40] [0,4] N (fun j=>⟨[.ah,.ah,.ah,.d (.row m [.ints .i64 (m*3) vs]),.ptr 0 0,.ah,.ah,.ah,.d (.v (.int .i64 0)),.ah,.ah,.ah,.ah,.ptr 1 0,.d (.v (.int .i64 (oD vs j))),.ah,.ah,.ah,.ah,.ah,.ah,.ah,.ah,.ah,.ah,.ah,.ah,.ah,.ah,.ah,.ah,.ah,.ah,.ah,.ah,.ah,.ah,.ah,.d (.row m [.ints .i64 (m*3) vs]),.d (.v (.int .i64 (m:Nat))),.d (.v (.int .i64 (j:Nat))),.ah,.ah,.ah,.ah,.ah,.ah,.ah,.ah,.ah,.ah,.ah,.ah,.ah,.ah,.ah,.ah,.ah,.ah,.ah,.ah,.ah,.ah,.ah,.ah,.ah,.ah,.ah,.ah,.ah,.ah,.ah,.ah,.ah,.ah],[some (.var (bS e zs ad k ch)),some (.var [.bytes 32 (dw e zs ad k ch fr ops)])]⟩) ?_)
  intro j hj hl
  by_cases h3:j<m
  ·have h2:(j:Int)<m:=by omega
   have hj3:=ag2 hv h3
   refine aj ?_;(try exact⟨⟩)
   rw[hj3]
   clear hj3
   have eP:mU zs ad (dw e zs ad k ch fr ops) vs j=(jZ ad (vs.getD (j*3) 0)&&decide (oD vs j<vs.getD (j*3) 0)&&fV (zs.getD ((vs.getD (j*3) 0).toNat*2) 0) (dw e zs ad k ch fr ops) (vs.getD (j*3+1) 0) (vs.getD (j*3+2) 0)):=rfl
   have eC:qj ad vs j=if(jZ ad (vs.getD (j*3) 0)&&decide (oD vs j<vs.getD (j*3) 0))=true then 4 else 6:=rfl
   have eL:oD vs (j+1)=vs.getD (j*3) 0:=rfl
   generalize oD vs j=l0 at*
   generalize vs.getD (j*3) 0=a at*
   generalize vs.getD (j*3+1) 0=b at*
   generalize vs.getD (j*3+2) 0=c at*
   by_cases h1:j<N
   ·have hp:=hok j h1
    rw[eP,Bool.and_eq_true,Bool.and_eq_true,decide_eq_true_eq]at hp
    obtain⟨⟨p1,p2⟩,p3⟩:=hp
    obtain⟨b1,b2⟩:=CQ p1
    clear eP eC hok hend
    refine aj ?_;(try exact⟨⟩)
    refine hl.go h1 [3,4,8,13,14,38,39,40] [0,1] ?_
    show gather _ _ _=St.mk _ _
    rw[eL]
    rfl
   ·obtain rfl:N=j:=by omega
    have hf:¬mU zs ad (dw e zs ad k ch fr ops) vs N=true:=by
     rcases hend with h|h
     ·omega
     ·exact h.2
    rw[eP]at hf
    rw[if_neg (show ¬N=m by omega)]
    clear eL hok hend hl h1
    cases ha:jZ ad a with
    |false=>
     have eC6:qj ad vs N=6:=by rw[eC,ha];rfl
     rw[eC6]
     clear eC eC6 eP hf
     refine aj ?_;(try exact⟨⟩)
    |true=>
     obtain⟨b1,b2⟩:=CQ ha
     by_cases hlt:l0<a
     ·have eC4:qj ad vs N=4:=by rw[eC,ha,decide_eq_true hlt];rfl
      rw[eC4]
      have bP9:fV (zs.getD (a.toNat*2) 0) (dw e zs ad k ch fr ops) b c=false:=by
       rw[ha,decide_eq_true hlt,Bool.true_and,Bool.true_and]at hf
       exact Bool.eq_false_iff.2 hf
      clear eC eC4 eP hf
      refine aj ?_;(try exact⟨⟩)
     ·have eC6:qj ad vs N=6:=by rw[eC,ha,decide_eq_false hlt];rfl
      rw[eC6]
      clear eC eC6 eP hf
      refine aj ?_;(try exact⟨⟩)
  ·have h4:¬(j:Int)<m:=by omega
   rw[if_pos (show N=m by omega)]
   clear hok hend hl
   by_cases hk:(m:Int)<k
   ·rw[if_pos hk]
    refine aj ?_;(try exact⟨⟩)
   ·rw[if_neg hk]
    refine aj ?_;(try exact⟨⟩)
 ·have hd1:decide ((cZ e ⟨zs,ad,k,F8,F8⟩ fr ops n).1=0)=false:=decide_eq_false hd
  have hr:bX e zs ad k ch fr ops n vs m=(cZ e ⟨zs,ad,k,F8,F8⟩ fr ops n).1:=by simp[bX,h0,hd]
  have hd2:((cZ e ⟨zs,ad,k,F8,F8⟩ fr ops n).1 !=0)=true:=by simpa using hd
  rw[hr]
  clear hr hd h0
  refine aj ?_;(try exact⟨⟩)
end
end Go.Proofs.YtjhgelfnmhdihaaGreatDoor
