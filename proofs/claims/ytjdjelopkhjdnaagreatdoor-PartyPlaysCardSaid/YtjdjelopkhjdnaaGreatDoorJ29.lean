/-
  The machine without memory: what a whnf alone doesn't decide. No program is named here.
-/
import Derived.Test.YtjdjelopkhjdnaaGreatDoorJ28
namespace Go.Proofs.YtjdjelopkhjdnaaGreatDoor
set_option linter.unusedVariables false
set_option linter.unusedSimpArgs false
set_option maxRecDepth 100000
open Go.RowKit
section
theorem pJ{s:St}{b n m:Nat}{e:TypeId}{z:Nat}{l:List Seg}(h:s.bk b=some (.sl e z m l))(hn:n=m):Pf s (.own b n)=some (.own b n):=by
 subst hn;unfold Pf;simp only[h,if_true]
theorem lG{s:St}{x:Operand}{r:List (Nat×Operand)}{k:Nat}{t:T}{p:Pt}{l:List Pt}(h1:s.ev x=t)(h2:Pf s t=some p)(h3:tQ s r (k+1)=some l):tQ s ((k,x)::r) k=some (p::l):=by
 rw[tQ,if_pos rfl,h1,h2,h3]
theorem Ae{s:St}{k:Nat}:tQ s [] k=some []:=rfl
theorem uh{p q:Prop}(left:q)(h:(Left q→p)∧Isq q:=by
  refine And.intro ?_ ?_
  ·intro sD
   (conv=>whnf);repeat ((first|((first|refine toA ?_|refine toE ?_|refine toD ?_);(try(conv=>arg 2;simp(disch:=omega) only[dM,Int.toNat_natCast,Seg.n,Wh,Wi,Wj,Wm,Wn,Wo,Wp,Wq,Ws,BD,BF,BG,BH,BI,BJ,BK,Int.reduceAdd,Int.zero_add,Seg.cell,Seg.sub,List.set_nil,iD,mG,List.take_append_drop,St.app,St.oh,St.ev,List.getD_cons_zero,List.getD_cons_succ,List.getD_nil,St.sl,St.bk,jg,ig,kM,gM,bD,weaken,lN,List.set_cons_zero,List.set_cons_succ,List.length_cons,List.length_nil,List.cons_append,List.nil_append,List.append_nil,List.map_cons,List.map_nil,List.replicate_succ,List.replicate_zero,List.take_succ_cons,List.take_zero,List.drop_succ_cons,List.drop_zero,List.take_nil,List.drop_nil,Nat.reduceAdd,Nat.reduceSub,Nat.reduceMul,Nat.reduceEqDiff,Nat.reduceLT,Nat.reduceLeDiff,Nat.zero_add,Nat.add_zero,Nat.sub_self,Nat.sub_zero,Nat.one_mul,Nat.mul_one,Nat.zero_mul,je,l6,List.flatten_cons,List.flatten_nil,eq_self,ite_true,if_true,if_false,↓reduceIte,reduceCtorEq,Int.reduceToNat,iq,sK]));first|(refine ofA ?_;(conv=>arg 3;whnf);first|refine vR ?_|refine zh ?_)|(refine ofD ?_;(conv=>arg 5;whnf);first|refine vS ?_|refine zi ?_)|(refine ofE ?_;(conv=>arg 2;whnf);(refine qp _ rfl ?_ ?_);focus (kernel_rfl)))|(refine mI.mk ?_;first|(refine yC ?_ ?_;focus (first|rfl|assumption|(simp only[bne,Bool.true_beq,Bool.false_beq,beq_true,beq_false,Bool.not_true,Bool.not_false,Bool.true_and,Bool.and_true,Bool.false_and,Bool.and_false,Bool.true_or,Bool.or_true,Bool.false_or,Bool.or_false,beq_iff_eq,beq_eq_false_iff_ne,ne_eq,Bool.not_eq_true',Bool.not_eq_false',decide_eq_true_eq,decide_eq_false_iff_not,ge_iff_le,gt_iff_lt, *]<;>omega)|(simp[bf, *]<;>omega)))|(refine rW ?_ ?_;focus (first|rfl|assumption|(simp only[bne,Bool.true_beq,Bool.false_beq,beq_true,beq_false,Bool.not_true,Bool.not_false,Bool.true_and,Bool.and_true,Bool.false_and,Bool.and_false,Bool.true_or,Bool.or_true,Bool.false_or,Bool.or_false,beq_iff_eq,beq_eq_false_iff_ne,ne_eq,Bool.not_eq_true',Bool.not_eq_false',decide_eq_true_eq,decide_eq_false_iff_not,ge_iff_le,gt_iff_lt, *]<;>omega)|(simp[bf, *]<;>omega))))|(refine And.intro ?_ ?_;focus (first|exact rfl|exact Nat.le_of_ble_eq_true rfl|exact Or.inr rfl|exact Or.inl rfl|(intro hx;cases hx<;>fail)|(intro _;rfl)|exact⟨_,rfl,rfl⟩|omega|(simp only[Seg.n,fI,uW,uX,jg,ig,kM,gM,bD];omega)|(refine ar1 ?_;(try simp only[Seg.n,fI,uW,uX,jg,ig,kM,gM,bD]);omega)|assumption|decide|(simp[Seg.n,fI,uW,uX,jg,ig,kM,gM,bD, *]<;>omega)))|(refine Exists.intro _ (And.intro rfl ?_)));(conv=>whnf))
   all_goals exact sD.out
  ·first|with_reducible exact aq7|exact aq6):p:=h.1 ⟨left⟩
end
section
open Pm
attribute [local irreducible] aV aZ bQ aA au cK d9 dh dQ aN aT bW aF bC dA rT jJ jm jQ fO
def lD(ad:List Bool)(i:Int):Bool:=aG i&&ad.getD i.toNat false
def dB(e:Int)(zs:List Int)(ad:List Bool)(k:Int)(ch:List UInt8)(fr:Int)(ops:List Int):List UInt8:=aF (aT e zs ad k ch) (sb ⟨#[118,111,116,101]⟩) (bW fr++aN ops)
theorem qO(e:Int)(zs:List Int)(ad:List Bool)(k:Int)(ch:List UInt8)(fr:Int)(ops:List Int):(dB e zs ad k ch fr ops).length=32:=by
 rw[dB,aF];exact bM _
def I8:List A→(bP→Prop)→Prop
 |[.agg [.ints .i64 1 [e],.ints .i64 31 zs,.bools 8 ad,.ints .i64 1 [k],.bytes 32 ch],.v (.int .i64 fr),x],K=>uL x fun n ops=>K (.d (.agg [.bytes 32 (dB e zs ad k ch fr ops)]))
 |_,_=>False
theorem Gt{f:FuncId}(hx:∀e zs ad k ch fr ops n,ops.length=n*5→n≤1000000→aQ f [.agg (bR e zs ad k ch),.v (.int .i64 fr),.row n [.ints .i64 (n*5) ops]] (.d (.agg [.bytes 32 (dB e zs ad k ch fr ops)]))):∀args K,I8 args K→∃r,aQ f args r∧K r:=by
 intro args K h
 unfold I8 at h
 split at h
 ·next e zs ad k ch fr x=>
  obtain⟨n,ops,hn,h,hv⟩:=gJ h
  refine⟨_,fun S w vs hG ha=>?_,h⟩
  obtain⟨v1,v2,v3,rfl,h1,h2,h3⟩:=jC ha
  exact gY (fun hl=>hx e zs ad k ch fr ops n hl.2.1.1 hn) S w _ hG (.cons h1 (.cons h2 (.cons (hv h3) .nil)))
 ·exact h.elim
attribute [local irreducible] dB
noncomputable def aZ4:av:=bg4.add 89 Av (wm MJ) ⟨_,Tryz.func89,by kernel_rfl,by kernel_rfl⟩
noncomputable def aZ5:av:=aZ4.add 113 Av (wm GN) ⟨_,Tryz.func113,by kernel_rfl,by kernel_rfl⟩
noncomputable def aZ6:av:=aZ5.add 162 Rw (Lu ZN) ⟨_,Tryz.func162,by kernel_rfl,by kernel_rfl⟩
noncomputable def aZ7:av:=aZ6.add 143 Rw (Lu R3) ⟨_,Tryz.func143,by kernel_rfl,by kernel_rfl⟩
noncomputable def aZ8:av:=aZ7.add 77 applyN (vv JY) ⟨_,Tryz.func77,by kernel_rfl,by kernel_rfl⟩
noncomputable def Kq:av:=aZ8.add 44 applyN (vv vP) ⟨_,Tryz.func44,by kernel_rfl,by kernel_rfl⟩
set_option maxHeartbeats 1000000 in
theorem ZR(e:Int)(zs:List Int)(ad:List Bool)(k:Int)(ch:List UInt8)(fr:Int)(ops:List Int)(n:Nat)(ho:ops.length=n*5)(hn:n≤1000000):
  aQ 145 [.agg (bR e zs ad k ch),.v (.int .i64 fr),.row n [.ints .i64 (n*5) ops]] (.d (.agg [.bytes 32 (dB e zs ad k ch fr ops)])):=by
 refine dF (E:=Kq) Tryz.func145 Tryz.ntmps145 ?_
 refine aj ?_;(try exact⟨⟩)
 generalize hp:tQ _ _ _=o
 obtain rfl:o=some [.own 2 8,.own 3 (n*40)]:=hp.symm.trans (lG rfl (pJ rfl rfl) (lG rfl (pJ rfl rfl) Ae))
 clear hp
 refine aj ?_;(try exact⟨⟩)
 rw[dB]
set_option maxHeartbeats 1000000 in
theorem U7(e:Int)(zs:List Int)(ad:List Bool)(k:Int)(ch:List UInt8)(fr:Int)(ops:List Int)(n:Nat)(ho:ops.length=n*5)(hn:n≤1000000):
  aQ 75 [.agg (bR e zs ad k ch),.v (.int .i64 fr),.row n [.ints .i64 (n*5) ops]] (.d (.agg [.bytes 32 (dB e zs ad k ch fr ops)])):=by
 refine dF (E:=Kq) Tryz.func75 Tryz.ntmps75 ?_
 have h1:(bW fr).length=8:=fA fr
 have h2:(aN ops).length=n*40:=by rw[iX,ho];omega
 refine aj ?_;(try exact⟨⟩)
 generalize hp:tQ _ _ _=o
 obtain rfl:o=some [.own 2 8,.own 3 (n*40)]:=hp.symm.trans (lG rfl (pJ rfl rfl) (lG rfl (pJ rfl rfl) Ae))
 clear hp
 refine aj ?_;(try exact⟨⟩)
 rw[dB]
noncomputable def aZ9:av:=Kq.add 145 I8 (Gt ZR) ⟨_,Tryz.func145,by kernel_rfl,by kernel_rfl⟩
noncomputable def ba0:av:=aZ9.add 75 I8 (Gt U7) ⟨_,Tryz.func75,by kernel_rfl,by kernel_rfl⟩
def ak5:List A→(bP→Prop)→Prop
 |[.agg [.ints .i64 1 [e],.ints .i64 31 zs,.bools 8 ad,.ints .i64 1 [k],.bytes 32 ch],.v (.int .i64 i)],K=>K (.d (.v (.bool (lD ad i))))
 |_,_=>False
theorem QG{f:FuncId}(hx:∀e zs ad k ch i,aQ f [.agg (bR e zs ad k ch),.v (.int .i64 i)] (.d (.v (.bool (lD ad i))))):∀args K,ak5 args K→∃r,aQ f args r∧K r:=by
 intro args K h
 unfold ak5 at h
 split at h
 ·exact⟨_,hx _ _ _ _ _ _,h⟩
 ·exact h.elim
theorem az8{ad:List Bool}{i:Int}(h0:0≤i)(h1:i<8):lD ad i=ad.getD i.toNat false:=by
 unfold lD aG;rw[decide_eq_true h0,decide_eq_true h1];rfl
theorem WE{ad:List Bool}{i:Int}(h:¬0≤i):lD ad i=false:=by
 unfold lD aG;rw[decide_eq_false h];rfl
theorem WC{ad:List Bool}{i:Int}(h:¬i<8):lD ad i=false:=by
 unfold lD aG;rw[decide_eq_false h,Bool.and_false];rfl
set_option maxHeartbeats 1000000 in
theorem Ot(e:Int)(zs:List Int)(ad:List Bool)(k:Int)(ch:List UInt8)(i:Int):aQ 146 [.agg (bR e zs ad k ch),.v (.int .i64 i)] (.d (.v (.bool (lD ad i)))):=by
 refine dF (E:=Kq) Tryz.func146 Tryz.ntmps146 ?_
 by_cases h0:0≤i
 ·by_cases h1:i<8
  ·rw[az8 h0 h1]
   refine aj ?_;(try exact⟨⟩)
  ·rw[WC h1]
   refine aj ?_;(try exact⟨⟩)
 ·rw[WE h0]
  refine aj ?_;(try exact⟨⟩)
set_option maxHeartbeats 1000000 in
theorem UZ(e:Int)(zs:List Int)(ad:List Bool)(k:Int)(ch:List UInt8)(i:Int):aQ 74 [.agg (bR e zs ad k ch),.v (.int .i64 i)] (.d (.v (.bool (lD ad i)))):=by
 refine dF (E:=Kq) Tryz.func74 Tryz.ntmps74 ?_
 by_cases h0:0≤i
 ·by_cases h1:i<8
  ·rw[az8 h0 h1]
   refine aj ?_;(try exact⟨⟩)
  ·rw[WC h1]
   refine aj ?_;(try exact⟨⟩)
 ·rw[WE h0]
  refine aj ?_;(try exact⟨⟩)
noncomputable def ba1:av:=ba0.add 146 ak5 (QG Ot) ⟨_,Tryz.func146,by kernel_rfl,by kernel_rfl⟩
noncomputable def XP:av:=ba1.add 74 ak5 (QG UZ) ⟨_,Tryz.func74,by kernel_rfl,by kernel_rfl⟩
end
section
open Pm
attribute [local irreducible] aV aZ bQ aA au cK d9 dh dQ aN aT bW aF bC dA rT jJ jm jQ fO dB lD
def om(e:Int)(zs:List Int)(ad:List Bool)(k:Int)(who s fr:Int)(ops:List Int)(n:Nat):Int:=
 if n=0 then 1 else if(dh e ⟨zs,ad,k,F8,F8⟩ fr ops n).1≠0 then(dh e ⟨zs,ad,k,F8,F8⟩ fr ops n).1 else if lD ad who=false then 6 else if aA 4 s≠zs.getD (who.toNat*2) 0 then 10 else 0
def JX(e:Int)(zs:List Int)(ad:List Bool)(k:Int)(ch:List UInt8)(who s fr:Int)(ops:List Int)(n:Nat):List A:=
 if om e zs ad k who s fr ops n=0 then[.agg [.ints .i64 3 [who,jm s (dB e zs ad k ch fr ops),jQ s (dB e zs ad k ch fr ops)]],.v (.int .i64 0)]else[.agg [.ints .i64 3 [0,0,0]],.v (.int .i64 (om e zs ad k who s fr ops n))]
theorem Cy{ad:List Bool}{i:Int}(h:lD ad i=true):0≤i∧i<8:=by
 unfold lD aG at h
 simp only[Bool.and_eq_true,decide_eq_true_eq]at h
 exact h.1
set_option maxHeartbeats 1000000 in
theorem LX(e:Int)(zs:List Int)(ad:List Bool)(k:Int)(ch:List UInt8)(who s:Int)(hs:1≤s∧s<1073741789)(fr:Int)(ops:List Int)(n:Nat)(hn:n≤1000000):
  aQ 27 [.agg (bR e zs ad k ch),.v (.int .i64 who),.agg [.ints .i64 2 [s,aA 4 s]],.v (.int .i64 fr),.row n [.ints .i64 (n*5) ops]] (.t (JX e zs ad k ch who s fr ops n)):=by
 refine dF (E:=XP) Tryz.func27 Tryz.ntmps27 ?_
 have hs0:0≤s:=by omega
 have hpl:=qO e zs ad k ch fr ops
 by_cases h0:n=0
 ·subst h0
  have hr:om e zs ad k who s fr ops 0=1:=by simp[om]
  rw[JX,if_neg (by rw[hr];decide),hr]
  clear hr
  refine aj ?_;(try exact⟨⟩)
 have h01:((n:Int)==0)=false:=by simpa using h0
 by_cases hd:(dh e ⟨zs,ad,k,F8,F8⟩ fr ops n).1=0
 ·have hd1:decide ((dh e ⟨zs,ad,k,F8,F8⟩ fr ops n).1=0)=true:=decide_eq_true hd
  cases ha:lD ad who with
  |false=>
   have hr:om e zs ad k who s fr ops n=6:=by simp[om,h0,hd,ha]
   rw[JX,if_neg (by rw[hr];decide),hr]
   clear hr hd h0
   refine aj ?_;(try exact⟨⟩)
  |true=>
   obtain⟨b0,b1⟩:=Cy ha
   by_cases hk:aA 4 s=zs.getD (who.toNat*2) 0
   ·have hr:om e zs ad k who s fr ops n=0:=by unfold om;rw[if_neg h0,if_neg (fun h=>h hd),if_neg (by rw[ha];decide),if_neg (fun h=>h hk)]
    rw[JX,if_pos hr]
    clear hr hd h0
    refine aj ?_;(try exact⟨⟩)
   ·have hr:om e zs ad k who s fr ops n=10:=by unfold om;rw[if_neg h0,if_neg (fun h=>h hd),if_neg (by rw[ha];decide),if_pos hk]
    rw[JX,if_neg (by rw[hr];decide),hr]
    have hk1:(aA 4 s !=zs.getD (who.toNat*2) 0)=true:=bne_iff_ne.2 hk
    clear hr hd h0 hk
    refine aj ?_;(try exact⟨⟩)
 ·have hd1:decide ((dh e ⟨zs,ad,k,F8,F8⟩ fr ops n).1=0)=false:=decide_eq_false hd
  have hr:om e zs ad k who s fr ops n=(dh e ⟨zs,ad,k,F8,F8⟩ fr ops n).1:=by simp[om,h0,hd]
  have hd2:((dh e ⟨zs,ad,k,F8,F8⟩ fr ops n).1 !=0)=true:=by simpa using hd
  rw[JX,if_neg (by rw[hr];exact hd),hr]
  clear hr hd h0
  refine aj ?_;(try exact⟨⟩)
end
section
open Pm
attribute [local irreducible] aV aZ bQ aA au cK d9 dh dQ aN aT bW aF bC dA rT jJ jm jQ fO dB lD
def o8(vs:List Int):Nat→Int
 |0=> -1
 |j+1=>vs.getD (j*3) 0
def og(zs:List Int)(ad:List Bool)(p:List UInt8)(vs:List Int)(j:Nat):Bool:=
 lD ad (vs.getD (j*3) 0)&&decide (o8 vs j<vs.getD (j*3) 0)&&fO (zs.getD ((vs.getD (j*3) 0).toNat*2) 0) p (vs.getD (j*3+1) 0) (vs.getD (j*3+2) 0)
def qb(ad:List Bool)(vs:List Int)(j:Nat):Int:=if(lD ad (vs.getD (j*3) 0)&&decide (o8 vs j<vs.getD (j*3) 0))=true then 4 else 6
def H9(zs:List Int)(ad:List Bool)(p:List UInt8)(vs:List Int)(m:Nat):Int:=
 if sj (fun j=>!og zs ad p vs j) m<0 then 0 else qb ad vs (sj (fun j=>!og zs ad p vs j) m).toNat
def bX(e:Int)(zs:List Int)(ad:List Bool)(k:Int)(ch:List UInt8)(fr:Int)(ops:List Int)(n:Nat)(vs:List Int)(m:Nat):Int:=
 if n=0 then(if m=0 then 0 else 8)else if(dh e ⟨zs,ad,k,F8,F8⟩ fr ops n).1≠0 then(dh e ⟨zs,ad,k,F8,F8⟩ fr ops n).1 else
 if H9 zs ad (dB e zs ad k ch fr ops) vs m≠0 then H9 zs ad (dB e zs ad k ch fr ops) vs m else if(m:Int)<k then 8 else 0
theorem zQ{p:Nat→Prop}:∀(n:Nat),∃N,N≤n∧(∀j,j<N→p j)∧(N=n∨(N<n∧¬p N))
 |0=>⟨0,Nat.le_refl _,fun j hj=>absurd hj (by omega),.inl rfl⟩
 |n+1=>by
  obtain⟨N,h1,h2,h3⟩:=zQ (p:=p) n
  rcases h3 with rfl|⟨h3,h4⟩
  ·by_cases h:p N
   ·exact⟨N+1,Nat.le_refl _,fun j hj=>by
     rcases Nat.lt_or_ge j N with h5|h5
     ·exact h2 j h5
     ·exact(show j=N by omega)▸h,.inl rfl⟩
   ·exact⟨N,by omega,h2,.inr ⟨by omega,h⟩⟩
  ·exact⟨N,by omega,h2,.inr ⟨by omega,h4⟩⟩
theorem CJ{zs:List Int}{ad:List Bool}{p:List UInt8}{vs:List Int}{m:Nat}(h:∀j,j<m→og zs ad p vs j=true):H9 zs ad p vs m=0:=by
 unfold H9
 rw[vG fun j hj=>by rw[h j hj];rfl,if_pos (by decide)]
theorem QO{zs:List Int}{ad:List Bool}{p:List UInt8}{vs:List Int}{m N:Nat}(hN:N<m)(h:∀j,j<N→og zs ad p vs j=true)(hf:¬og zs ad p vs N=true):H9 zs ad p vs m=qb ad vs N:=by
 unfold H9
 rw[Iq hN (by simpa using hf) fun j hj=>by rw[h j hj];rfl,if_neg (by omega),Int.toNat_natCast]
attribute [local irreducible] H9
theorem Ke(ad:List Bool)(vs:List Int)(j:Nat):qb ad vs j≠0:=by unfold qb;split<;>decide
def EO:A→(Nat→List Int→Prop)→Prop
 | .row n [.ints .i64 m vs],K=>m=n*3∧n≤1000000∧K n vs
 | .v (.slice none 0 0),K=>K 0 []
 |_,_=>False
theorem kH{x:A}{K:Nat→List Int→Prop}(h:EO x K):∃n vs,n≤1000000∧K n vs∧∀{S:Nat→Prop} {w:World} {v:Value},RA S w x v→RA S w (.row n [.ints .i64 (n*3) vs]) v:=by
 unfold EO at h
 split at h
 ·obtain⟨rfl,h1,h2⟩:=h
  exact⟨_,_,h1,h2,fun h=>h⟩
 ·refine⟨0,[],by omega,h,fun {S w v} hv=>?_⟩
  rw[RA.plain hv]
  exact .row (cs:=[]) (.l9 (by simp) rfl) (Nat.le_refl _) (Nat.zero_le _) (fun _=>rfl) (.inl rfl)
 ·exact h.elim
def Zq:List A→(bP→Prop)→Prop
 |[x],K=>EO x fun m vs=>K (.d (.v (.int .i64 (if m=0 then 0 else 8))))
 |_,_=>False
theorem Zr{f:FuncId}(hx:∀vs m,m≤1000000→aQ f [.row m [.ints .i64 (m*3) vs]] (.d (.v (.int .i64 (if m=0 then 0 else 8))))):∀args K,Zq args K→∃r,aQ f args r∧K r:=by
 intro args K h
 unfold Zq at h
 split at h
 ·next x=>
  obtain⟨n,vs,hn,h,hv⟩:=kH h
  refine⟨_,fun S w vs' hG ha=>?_,h⟩
  obtain⟨v,rfl,h1⟩:=iL ha
  exact hx vs n hn S w _ hG (.cons (hv h1) .nil)
 ·exact h.elim
theorem as2(vs:List Int)(m:Nat)(hm:m≤1000000):aQ 144 [.row m [.ints .i64 (m*3) vs]] (.d (.v (.int .i64 (if m=0 then 0 else 8)))):=by
 refine dF (E:=XP) Tryz.func144 Tryz.ntmps144 ?_
 by_cases h:m=0
 ·subst h
  rw[if_pos rfl]
  refine aj ?_;(try exact⟨⟩)
 ·rw[if_neg h]
  have h1:(m:Int)>0:=by omega
  clear h
  refine aj ?_;(try exact⟨⟩)
noncomputable def aB5:av:=XP.add 144 Zq (Zr as2) ⟨_,Tryz.func144,by kernel_rfl,by kernel_rfl⟩
set_option maxHeartbeats 1000000 in
theorem af6{vs:List Int}{m j:Nat}(hv:vs.length=m*3)(hj:j<m):(vs.drop (j*3)).take 3=[vs.getD (j*3) 0,vs.getD (j*3+1) 0,vs.getD (j*3+2) 0]:=by
 refine List.ext_getElem (by simp;omega) fun i h1 h2=>?_
 simp only[List.length_cons,List.length_nil]at h2
 rw[List.getElem_take,List.getElem_drop]
 rcases i with _|_|_|i
 ·simp[List.getD_eq_getElem?_getD,List.getElem?_eq_getElem (show j*3<vs.length by omega)]
 ·simp[List.getD_eq_getElem?_getD,List.getElem?_eq_getElem (show j*3+1<vs.length by omega)]
 ·simp[List.getD_eq_getElem?_getD,List.getElem?_eq_getElem (show j*3+2<vs.length by omega)]
 ·omega
theorem Qb{vs:List Int}{m j:Nat}(hv:vs.length=m*3)(hj:j<m):(vs.drop (j*3+1)).take 2=[vs.getD (j*3+1) 0,vs.getD (j*3+2) 0]:=by
 refine List.ext_getElem (by simp;omega) fun i h1 h2=>?_
 simp only[List.length_cons,List.length_nil]at h2
 rw[List.getElem_take,List.getElem_drop]
 rcases i with _|_|i
 ·simp[List.getD_eq_getElem?_getD,List.getElem?_eq_getElem (show j*3+1<vs.length by omega)]
 ·simp[List.getD_eq_getElem?_getD,List.getElem?_eq_getElem (show j*3+2<vs.length by omega)]
 ·omega
theorem Qd{zs:List Int}{ad:List Bool}{p:List UInt8}{vs:List Int}{m N j:Nat}(hv:vs.length=m*3)(hj:j≤N)(h3:j<m)(hok:∀j,j<N→og zs ad p vs j=true)(hend:N=m∨(N<m∧¬og zs ad p vs N=true))(x:Int):
  (lD ad (vs.getD (j*3) 0)=false∧¬j<N∧(if N=m then x else qb ad vs N)=6)∨
  (lD ad (vs.getD (j*3) 0)=true∧0≤vs.getD (j*3) 0∧vs.getD (j*3) 0<8∧¬o8 vs j<vs.getD (j*3) 0∧¬j<N∧(if N=m then x else qb ad vs N)=6)∨
  (lD ad (vs.getD (j*3) 0)=true∧0≤vs.getD (j*3) 0∧vs.getD (j*3) 0<8∧o8 vs j<vs.getD (j*3) 0∧¬j<N∧fO (zs.getD ((vs.getD (j*3) 0).toNat*2) 0) p ((List.take 2 (List.drop (j*3+1) vs)).getD 0 0) ((List.take 2 (List.drop (j*3+1) vs)).getD 1 0)=false∧(if N=m then x else qb ad vs N)=4)∨
  (lD ad (vs.getD (j*3) 0)=true∧0≤vs.getD (j*3) 0∧vs.getD (j*3) 0<8∧o8 vs j<vs.getD (j*3) 0∧fO (zs.getD ((vs.getD (j*3) 0).toNat*2) 0) p ((List.take 2 (List.drop (j*3+1) vs)).getD 0 0) ((List.take 2 (List.drop (j*3+1) vs)).getD 1 0)=true∧j<N):=by
 rw[Qb hv h3]
 show(_∧_∧_)∨(_∧_∧_∧_∧_∧_)∨(_∧_∧_∧_∧_∧fO _ _ (vs.getD (j*3+1) 0) (vs.getD (j*3+2) 0)=false∧_)∨(_∧_∧_∧_∧fO _ _ (vs.getD (j*3+1) 0) (vs.getD (j*3+2) 0)=true∧_)
 by_cases h1:j<N
 ·have hp:=hok j h1
  rw[og,Bool.and_eq_true,Bool.and_eq_true,decide_eq_true_eq]at hp
  obtain⟨⟨p1,p2⟩,p3⟩:=hp
  obtain⟨b1,b2⟩:=Cy p1
  exact .inr (.inr (.inr ⟨p1,b1,b2,p2,p3,h1⟩))
 ·obtain rfl:N=j:=by omega
  have hf:¬og zs ad p vs N=true:=by
   rcases hend with h|h
   ·omega
   ·exact h.2
  rw[og]at hf
  rw[if_neg (show ¬N=m by omega),qb]
  cases ha:lD ad (vs.getD (N*3) 0)with
  |false=>exact .inl ⟨rfl,h1,rfl⟩
  |true=>
   obtain⟨b1,b2⟩:=Cy ha
   by_cases hlt:o8 vs N<vs.getD (N*3) 0
   ·rw[ha,decide_eq_true hlt,Bool.true_and,Bool.true_and]at hf
    exact .inr (.inr (.inl ⟨rfl,b1,b2,hlt,h1,Bool.eq_false_iff.2 hf,by rw[decide_eq_true hlt];rfl⟩))
   ·exact .inr (.inl ⟨rfl,b1,b2,hlt,h1,by rw[decide_eq_false hlt];rfl⟩)
set_option maxHeartbeats 1000000 in
theorem WY(e:Int)(zs:List Int)(ad:List Bool)(k:Int)(ch:List UInt8)(fr:Int)(ops:List Int)(n:Nat)(hn:n≤1000000)(vs:List Int)(m:Nat)(hm:m≤1000000)(hv:vs.length=m*3):
  aQ 76 [.agg (bR e zs ad k ch),.v (.int .i64 fr),.row n [.ints .i64 (n*5) ops],.row m [.ints .i64 (m*3) vs]] (.d (.v (.int .i64 (bX e zs ad k ch fr ops n vs m)))):=by
 refine dF (E:=aB5) Tryz.func76 Tryz.ntmps76 ?_
 have hpl:=qO e zs ad k ch fr ops
 by_cases h0:n=0
 ·subst h0
  have hr:bX e zs ad k ch fr ops 0 vs m=if m=0 then 0 else 8:=by simp[bX]
  rw[hr]
  clear hr
  refine aj ?_;(try exact⟨⟩)
 have h01:((n:Int)==0)=false:=by simpa using h0
 by_cases hd:(dh e ⟨zs,ad,k,F8,F8⟩ fr ops n).1=0
 ·have hd1:decide ((dh e ⟨zs,ad,k,F8,F8⟩ fr ops n).1=0)=true:=decide_eq_true hd
  obtain⟨N,hN,hok,hend⟩:=zQ (p:=fun j=>og zs ad (dB e zs ad k ch fr ops) vs j=true) m
  have hC:bX e zs ad k ch fr ops n vs m=if N=m then(if(m:Int)<k then 8 else 0)else qb ad vs N:=by
   rcases hend with rfl|⟨h1,h2⟩
   ·simp only[bX,h0,hd,CJ hok];simp
   ·simp only[bX,h0,hd,QO h1 hok h2]
    rw[if_neg (show ¬N=m by omega)]
    simp[Ke]
  rw[hC]
  clear hC hd
  refine aj ?_;(try exact⟨⟩)
  refine aM.mk (bV [3,4,8,13,14,38,39,40] [0,4] N (fun j=>⟨[.ah,.ah,.ah,.d (.row m [.ints .i64 (m*3) vs]),.ptr 0 0,.ah,.ah,.ah,.d (.v (.int .i64 0)),.ah,.ah,.ah,.ah,.ptr 1 0,.d (.v (.int .i64 (o8 vs j))),.ah,.ah,.ah,.ah,.ah,.ah,.ah,.ah,.ah,.ah,.ah,.ah,.ah,.ah,.ah,.ah,.ah,.ah,.ah,.ah,.ah,.ah,.ah,.d (.row m [.ints .i64 (m*3) vs]),.d (.v (.int .i64 (m:Nat))),.d (.v (.int .i64 (j:Nat))),.ah,.ah,.ah,.ah,.ah,.ah,.ah,.ah,.ah,.ah,.ah,.ah,.ah,.ah,.ah,.ah,.ah,.ah,.ah,.ah,.ah,.ah,.ah,.ah,.ah,.ah,.ah,.ah,.ah,.ah,.ah,.ah,.ah,.ah],[some (.var (bR e zs ad k ch)),some (.var [.bytes 32 (dB e zs ad k ch fr ops)])]⟩) ?_)
  intro j hj hl
  by_cases h3:j<m
  ·have h2:(j:Int)<m:=by omega
   have hj3:=af6 hv h3
   refine aj ?_;(try exact⟨⟩)
   rw[hj3]
   clear hj3
   have eP:og zs ad (dB e zs ad k ch fr ops) vs j=(lD ad (vs.getD (j*3) 0)&&decide (o8 vs j<vs.getD (j*3) 0)&&fO (zs.getD ((vs.getD (j*3) 0).toNat*2) 0) (dB e zs ad k ch fr ops) (vs.getD (j*3+1) 0) (vs.getD (j*3+2) 0)):=rfl
   have eC:qb ad vs j=if(lD ad (vs.getD (j*3) 0)&&decide (o8 vs j<vs.getD (j*3) 0))=true then 4 else 6:=rfl
   have eL:o8 vs (j+1)=vs.getD (j*3) 0:=rfl
   generalize o8 vs j=l0 at*
   generalize vs.getD (j*3) 0=a at*
   generalize vs.getD (j*3+1) 0=b at*
   generalize vs.getD (j*3+2) 0=c at*
   by_cases h1:j<N
   ·have hp:=hok j h1
    rw[eP,Bool.and_eq_true,Bool.and_eq_true,decide_eq_true_eq]at hp
    obtain⟨⟨p1,p2⟩,p3⟩:=hp
    obtain⟨b1,b2⟩:=Cy p1
    clear eP eC hok hend
    refine aj ?_;(try exact⟨⟩)
    refine hl.go h1 [3,4,8,13,14,38,39,40] [0,1] ?_
    show gather _ _ _=St.mk _ _
    rw[eL]
    rfl
   ·obtain rfl:N=j:=by omega
    have hf:¬og zs ad (dB e zs ad k ch fr ops) vs N=true:=by
     rcases hend with h|h
     ·omega
     ·exact h.2
    rw[eP]at hf
    rw[if_neg (show ¬N=m by omega)]
    clear eL hok hend hl h1
    cases ha:lD ad a with
    |false=>
     have eC6:qb ad vs N=6:=by rw[eC,ha];rfl
     rw[eC6]
     clear eC eC6 eP hf
     refine aj ?_;(try exact⟨⟩)
    |true=>
     obtain⟨b1,b2⟩:=Cy ha
     by_cases hlt:l0<a
     ·have eC4:qb ad vs N=4:=by rw[eC,ha,decide_eq_true hlt];rfl
      rw[eC4]
      have bN1:fO (zs.getD (a.toNat*2) 0) (dB e zs ad k ch fr ops) b c=false:=by
       rw[ha,decide_eq_true hlt,Bool.true_and,Bool.true_and]at hf
       exact Bool.eq_false_iff.2 hf
      clear eC eC4 eP hf
      refine aj ?_;(try exact⟨⟩)
     ·have eC6:qb ad vs N=6:=by rw[eC,ha,decide_eq_false hlt];rfl
      rw[eC6]
      clear eC eC6 eP hf
      refine aj ?_;(try exact⟨⟩)
  ·have h4:¬(j:Int)<m:=by omega
   rw[if_pos (show N=m by omega)]
   clear hok hend hl
   by_cases hk:(m:Int)<k
   ·rw[if_pos hk]
    refine aj ?_;(try exact⟨⟩)
   ·rw[if_neg hk]
    refine aj ?_;(try exact⟨⟩)
 ·have hd1:decide ((dh e ⟨zs,ad,k,F8,F8⟩ fr ops n).1=0)=false:=decide_eq_false hd
  have hr:bX e zs ad k ch fr ops n vs m=(dh e ⟨zs,ad,k,F8,F8⟩ fr ops n).1:=by simp[bX,h0,hd]
  have hd2:((dh e ⟨zs,ad,k,F8,F8⟩ fr ops n).1 !=0)=true:=by simpa using hd
  rw[hr]
  clear hr hd h0
  refine aj ?_;(try exact⟨⟩)
end
end Go.Proofs.YtjdjelopkhjdnaaGreatDoor
