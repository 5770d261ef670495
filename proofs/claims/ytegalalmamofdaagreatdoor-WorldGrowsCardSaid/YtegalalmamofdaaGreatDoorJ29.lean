/- -/
import Derived.Test.YtegalalmamofdaaGreatDoorJ28
namespace Go.Proofs.YtegalalmamofdaaGreatDoor
set_option linter.all false
set_option maxRecDepth 100000
open Go.RowKit
set_option maxHeartbeats 8000000
variable{ad:List Bool}
section
theorem oN{s:St}{b n m:Nat}{e:TypeId}{z:Nat}{l:List Seg}(h:s.bk b=some (.sl e z m l))(hn:n=m):TR s (.own b n)=some (.own b n):=by
 subst hn;unfold TR;simp only[h,if_true]
theorem iR{s:St}{x:Operand}{r:List (Nat×Operand)}{k:Nat}{t:T}{p:Pt}{l:List Pt}(h1:s.ev x=t)(h2:TR s t=some p)(h3:vL s r (k+1)=some l):vL s ((k,x)::r) k=some (p::l):=by
 rw[vL,if_pos rfl,h1,h2,h3]
theorem CP{s:St}{k:Nat}:vL s [] k=some []:=rfl
end
noncomputable section
open Pm
attribute [local irreducible] aN aQ bq aJ aI dL fM fC gF aF bR aC aD bP eY wE jP iV jI mh
def mQ(ad:List Bool)(i:Int):Bool:=aL i&&ad.getD i.toNat false
def bW(e:Int)(zs:List Int)(ad:List Bool)(k:Int)(ch:List UInt8)(fr:Int)(ops:List Int):List UInt8:=aD (bR e zs ad k ch) (sb ⟨#[118,111,116,101]⟩) (aC fr++aF ops)
theorem oh(e:Int)(zs:List Int)(ad:List Bool)(k:Int)(ch:List UInt8)(fr:Int)(ops:List Int):(bW e zs ad k ch fr ops).length=32:=by
 rw[bW,aD];exact bG _
def Mj:List A->(bC->Prop)->Prop
 |[.agg [.ints .i64 1 [e],.ints .i64 31 zs,.bools 8 ad,.ints .i64 1 [k],.bytes 32 ch],.v (.int .i64 fr),x],K=>IZ x fun n ops=>K (.d (.agg [.bytes 32 (bW e zs ad k ch fr ops)]))
 |_,_=>False
theorem Kl{f:FuncId}(hx:∀e zs ad k ch fr ops n,ops.length=n*5->n<=1000000->aV f [.agg (eD e zs ad k ch),.v (.int .i64 fr),.row n [.ints .i64 (n*5) ops]] (.d (.agg [.bytes 32 (bW e zs ad k ch fr ops)]))):∀args K,Mj args K->∃r,aV f args r/\K r:=by
 intro args K h
 unfold Mj at h
 split at h
 ·next e zs ad k ch fr x=>
  obtain⟨n,ops,hn,h,hv⟩:=mq h
  refine⟨_,fun S w vs hG ha=>?_,h⟩
  obtain⟨v1,v2,v3,rfl,h1,h2,h3⟩:=jH ha
  exact iY (fun hl=>hx e zs ad k ch fr ops n hl.2.1.1 hn) S w _ hG (.cons h1 (.cons h2 (.cons (hv h3) .nil)))
 ·exact h.elim
attribute [local irreducible] bW
def bS4:ak:=bZ3.add 79 MS (KL Qr) (.of Tryz.func79)
def bS5:ak:=bS4
def bS6:ak:=bS5.add 80 ax6 (ax7 ay1) (.of Tryz.func80)
def bS7:ak:=bS6
def bS8:ak:=bS7.add 75 applyN (Jg Ns) (.of Tryz.func75)
def ah8:ak:=bS8
theorem Gu(e:Int)(zs:List Int)(ad:List Bool)(k:Int)(ch:List UInt8)(fr:Int)(ops:List Int)(n:Nat)(ho:ops.length=n*5)(hn:n<=1000000):
  aV 49 [.agg (eD e zs ad k ch),.v (.int .i64 fr),.row n [.ints .i64 (n*5) ops]] (.d (.agg [.bytes 32 (bW e zs ad k ch fr ops)])):=by
 refine eO (E:=ah8) Tryz.func49 Tryz.ntmps49 ?_
 refine ah ?_
 generalize hp:vL _ _ _=o
 obtain rfl:o=some [.own 2 8,.own 3 (n*40)]:=hp.symm.trans (iR rfl (oN rfl rfl) (iR rfl (oN rfl rfl) CP))
 clear hp
 refine ah ?_
 rw[bW]
def bS9:ak:=ah8.add 49 Mj (Kl Gu) (.of Tryz.func49)
def bT0:ak:=bS9
def bp8:List A->(bC->Prop)->Prop
 |[.agg [.ints .i64 1 [e],.ints .i64 31 zs,.bools 8 ad,.ints .i64 1 [k],.bytes 32 ch],.v (.int .i64 i)],K=>K (.d (.v (.bool (mQ ad i))))
 |_,_=>False
theorem aK9{f:FuncId}(hx:∀e zs ad k ch i,aV f [.agg (eD e zs ad k ch),.v (.int .i64 i)] (.d (.v (.bool (mQ ad i))))):∀args K,bp8 args K->∃r,aV f args r/\K r:=by
 intro args K h
 unfold bp8 at h
 split at h
 ·exact⟨_,hx _ _ _ _ _ _,h⟩
 ·exact h.elim
theorem bM2{i:Int}(h0:0<=i)(h1:i<8):mQ ad i=ad.getD i.toNat false:=by
 unfold mQ aL;rw[decide_eq_true h0,decide_eq_true h1];rfl
theorem bq0{i:Int}(h:¬0<=i):mQ ad i=false:=by
 unfold mQ aL;rw[decide_eq_false h];rfl
theorem bp9{i:Int}(h:¬i<8):mQ ad i=false:=by
 unfold mQ aL;rw[decide_eq_false h,Bool.and_false];rfl
theorem Sw(e:Int)(zs:List Int)(ad:List Bool)(k:Int)(ch:List UInt8)(i:Int):aV 76 [.agg (eD e zs ad k ch),.v (.int .i64 i)] (.d (.v (.bool (mQ ad i)))):=by
 refine eO (E:=ah8) Tryz.func76 Tryz.ntmps76 ?_
 by_cases h0:0<=i
 ·by_cases h1:i<8
  ·rw[bM2 h0 h1]
   refine ah ?_;(try exact⟨⟩)
  ·rw[bp9 h1]
   refine ah ?_;(try exact⟨⟩)
 ·rw[bq0 h0]
  refine ah ?_;(try exact⟨⟩)
def bT1:ak:=bT0.add 76 bp8 (aK9 Sw) (.of Tryz.func76)
def ah9:ak:=bT1
end
section
open Pm
attribute [local irreducible] aN aQ bq aJ aI dL fM fC gF aF bR aC aD bP eY wE jP iV jI mh bW mQ
def uo(e:Int)(zs:List Int)(ad:List Bool)(k:Int)(who s fr:Int)(ops:List Int)(n:Nat):Int:=
 if n=0 then 1 else if(fC e ⟨zs,ad,k,F8,F8⟩ fr ops n).1≠0 then(fC e ⟨zs,ad,k,F8,F8⟩ fr ops n).1 else if mQ ad who=false then 6 else if aJ 4 s≠zs.getD (who.toNat*2) 0 then 10 else 0
def Np(e:Int)(zs:List Int)(ad:List Bool)(k:Int)(ch:List UInt8)(who s fr:Int)(ops:List Int)(n:Nat):List A:=
 if uo e zs ad k who s fr ops n=0 then[.agg [.ints .i64 3 [who,iV s (bW e zs ad k ch fr ops),jI s (bW e zs ad k ch fr ops)]],.v (.int .i64 0)]else[.agg [.ints .i64 3 [0,0,0]],.v (.int .i64 (uo e zs ad k who s fr ops n))]
theorem QW{i:Int}(h:mQ ad i=true):0<=i/\i<8:=by
 unfold mQ aL at h
 simp only[Bool.and_eq_true,decide_eq_true_eq]at h
 exact h.1
theorem Rb(e:Int)(zs:List Int)(ad:List Bool)(k:Int)(ch:List UInt8)(who s:Int)(hs:1<=s/\s<1073741789)(fr:Int)(ops:List Int)(n:Nat)(hn:n<=1000000):
  bV 47 2 (.obj (mO s)) [.agg (eD e zs ad k ch),.v (.int .i64 who),.v (.int .i64 fr),.row n [.ints .i64 (n*5) ops]] (.t (Np e zs ad k ch who s fr ops n)) (.obj (mO s)):=by
 refine cp3 (E:=ah9) Tryz.func47 Tryz.ntmps47 ?_
 have hs0:0<=s:=by omega
 have hpl:=oh e zs ad k ch fr ops
 by_cases h0:n=0
 ·subst h0
  have hr:uo e zs ad k who s fr ops 0=1:=by simp[uo]
  rw[Np,if_neg (by rw[hr];decide),hr]
  clear hr
  refine ah ?_;(try exact⟨⟩)
 have h01:((n:Int)==0)=false:=by simpa using h0
 by_cases hd:(fC e ⟨zs,ad,k,F8,F8⟩ fr ops n).1=0
 ·have hd1:decide ((fC e ⟨zs,ad,k,F8,F8⟩ fr ops n).1=0)=true:=decide_eq_true hd
  cases ha:mQ ad who with
  |false=>
   have hr:uo e zs ad k who s fr ops n=6:=by simp[uo,h0,hd,ha]
   rw[Np,if_neg (by rw[hr];decide),hr]
   clear hr hd h0
   refine ah ?_;(try exact⟨⟩)
  |true=>
   obtain⟨b0,b1⟩:=QW ha
   by_cases hk:aJ 4 s=zs.getD (who.toNat*2) 0
   ·have hr:uo e zs ad k who s fr ops n=0:=by unfold uo;rw[if_neg h0,if_neg (fun h=>h hd),if_neg (by rw[ha];decide),if_neg (fun h=>h hk)]
    rw[Np,if_pos hr]
    clear hr hd h0
    refine ah ?_;(try exact⟨⟩)
   ·have hr:uo e zs ad k who s fr ops n=10:=by unfold uo;rw[if_neg h0,if_neg (fun h=>h hd),if_neg (by rw[ha];decide),if_pos hk]
    rw[Np,if_neg (by rw[hr];decide),hr]
    have hk1:(aJ 4 s !=zs.getD (who.toNat*2) 0)=true:=bne_iff_ne.2 hk
    clear hr hd h0 hk
    refine ah ?_;(try exact⟨⟩)
 ·have hd1:decide ((fC e ⟨zs,ad,k,F8,F8⟩ fr ops n).1=0)=false:=decide_eq_false hd
  have hr:uo e zs ad k who s fr ops n=(fC e ⟨zs,ad,k,F8,F8⟩ fr ops n).1:=by simp[uo,h0,hd]
  have hd2:((fC e ⟨zs,ad,k,F8,F8⟩ fr ops n).1 !=0)=true:=by simpa using hd
  rw[Np,if_neg (by rw[hr];exact hd),hr]
  clear hr hd h0
  refine ah ?_;(try exact⟨⟩)
end
section
open Pm
attribute [local irreducible] aN aQ bq aJ aI dL fM fC gF aF bR aC aD bP eY wE jP iV jI mh bW mQ
def vK(vs:List Int):Nat->Int
 |0=> -1
 |j+1=>vs.getD (j*3) 0
def yQ(zs:List Int)(ad:List Bool)(p:List UInt8)(vs:List Int)(j:Nat):Bool:=
 mQ ad (vs.getD (j*3) 0)&&decide (vK vs j<vs.getD (j*3) 0)&&mh (zs.getD ((vs.getD (j*3) 0).toNat*2) 0) p (vs.getD (j*3+1) 0) (vs.getD (j*3+2) 0)
def Af(ad:List Bool)(vs:List Int)(j:Nat):Int:=if(mQ ad (vs.getD (j*3) 0)&&decide (vK vs j<vs.getD (j*3) 0))=true then 4 else 6
def Li(zs:List Int)(ad:List Bool)(p:List UInt8)(vs:List Int)(m:Nat):Int:=
 if lF (fun j=>!yQ zs ad p vs j) m<0 then 0 else Af ad vs (lF (fun j=>!yQ zs ad p vs j) m).toNat
def fu(e:Int)(zs:List Int)(ad:List Bool)(k:Int)(ch:List UInt8)(fr:Int)(ops:List Int)(n:Nat)(vs:List Int)(m:Nat):Int:=
 if n=0 then(if m=0 then 0 else 8)else if(fC e ⟨zs,ad,k,F8,F8⟩ fr ops n).1≠0 then(fC e ⟨zs,ad,k,F8,F8⟩ fr ops n).1 else
 if Li zs ad (bW e zs ad k ch fr ops) vs m≠0 then Li zs ad (bW e zs ad k ch fr ops) vs m else if(m:Int)<k then 8 else 0
theorem JF{p:Nat->Prop}:∀(n:Nat),∃N,N<=n/\(∀j,j<N->p j)/\(N=n\/(N<n/\¬p N))
 |0=>⟨0,Nat.le_refl _,fun j hj=>absurd hj (by omega),.inl rfl⟩
 |n+1=>by
  obtain⟨N,h1,h2,h3⟩:=JF (p:=p) n
  rcases h3 with rfl|⟨h3,h4⟩
  ·by_cases h:p N
   ·exact⟨N+1,Nat.le_refl _,fun j hj=>by
     rcases Nat.lt_or_ge j N with h5|h5
     ·exact h2 j h5
     ·exact(show j=N by omega)▸h,.inl rfl⟩
   ·exact⟨N,by omega,h2,.inr ⟨by omega,h⟩⟩
  ·exact⟨N,by omega,h2,.inr ⟨by omega,h4⟩⟩
theorem NK{zs:List Int}{p:List UInt8}{vs:List Int}{m:Nat}(h:∀j,j<m->yQ zs ad p vs j=true):Li zs ad p vs m=0:=by
 unfold Li
 rw[xV fun j hj=>by rw[h j hj];rfl,if_pos (by decide)]
theorem aM3{zs:List Int}{p:List UInt8}{vs:List Int}{m N:Nat}(hN:N<m)(h:∀j,j<N->yQ zs ad p vs j=true)(hf:¬yQ zs ad p vs N=true):Li zs ad p vs m=Af ad vs N:=by
 unfold Li
 rw[LM hN (by simpa using hf) fun j hj=>by rw[h j hj];rfl,if_neg (by omega),Int.toNat_natCast]
attribute [local irreducible] Li
theorem ae8(ad:List Bool)(vs:List Int)(j:Nat):Af ad vs j≠0:=by unfold Af;split<;>decide
def Qt:A->(Nat->List Int->Prop)->Prop
 | .row n [.ints .i64 m vs],K=>m=n*3/\n<=1000000/\K n vs
 | .v (.slice none 0 0),K=>K 0 []
 |_,_=>False
theorem qx{x:A}{K:Nat->List Int->Prop}(h:Qt x K):∃n vs,n<=1000000/\K n vs/\∀{S:Nat->Prop} {w:World} {v:Value},RA S w x v->RA S w (.row n [.ints .i64 (n*3) vs]) v:=by
 unfold Qt at h
 split at h
 ·obtain⟨rfl,h1,h2⟩:=h
  exact⟨_,_,h1,h2,fun h=>h⟩
 ·refine⟨0,[],by omega,h,fun {S w v} hv=>?_⟩
  rw[RA.plain hv]
  exact .row (cs:=[]) (.fI (by simp) rfl) (Nat.le_refl _) (Nat.zero_le _) (fun _=>rfl) (.inl rfl)
 ·exact h.elim
def au8:List A->(bC->Prop)->Prop
 |[x],K=>Qt x fun m vs=>K (.d (.v (.int .i64 (if m=0 then 0 else 8))))
 |_,_=>False
theorem au9{f:FuncId}(hx:∀vs m,m<=1000000->aV f [.row m [.ints .i64 (m*3) vs]] (.d (.v (.int .i64 (if m=0 then 0 else 8))))):∀args K,au8 args K->∃r,aV f args r/\K r:=by
 intro args K h
 unfold au8 at h
 split at h
 ·next x=>
  obtain⟨n,vs,hn,h,hv⟩:=qx h
  refine⟨_,fun S w vs' hG ha=>?_,h⟩
  obtain⟨v,rfl,h1⟩:=iC ha
  exact hx vs n hn S w _ hG (.cons (hv h1) .nil)
 ·exact h.elim
theorem aU5(vs:List Int)(m:Nat)(hm:m<=1000000):aV 164 [.row m [.ints .i64 (m*3) vs]] (.d (.v (.int .i64 (if m=0 then 0 else 8)))):=by
 refine eO (E:=ah9) Tryz.func164 Tryz.ntmps164 ?_
 by_cases h:m=0
 ·subst h
  rw[if_pos rfl]
  refine ah ?_;(try exact⟨⟩)
 ·rw[if_neg h]
  have h1:(m:Int)>0:=by omega
  clear h
  refine ah ?_;(try exact⟨⟩)
noncomputable def bT2:ak:=ah9.add 164 au8 (au9 aU5) (.of Tryz.func164)
theorem aF3{vs:List Int}{m j:Nat}(hv:vs.length=m*3)(hj:j<m):(vs.drop (j*3)).take 3=[vs.getD (j*3) 0,vs.getD (j*3+1) 0,vs.getD (j*3+2) 0]:=by
 refine List.ext_getElem (by simp;omega) fun i h1 h2=>?_
 simp only[List.length_cons,List.length_nil]at h2
 rw[List.getElem_take,List.getElem_drop]
 rcases i with _|_|_|i
 ·simp[List.getD_eq_getElem?_getD,List.getElem?_eq_getElem (show j*3<vs.length by omega)]
 ·simp[List.getD_eq_getElem?_getD,List.getElem?_eq_getElem (show j*3+1<vs.length by omega)]
 ·simp[List.getD_eq_getElem?_getD,List.getElem?_eq_getElem (show j*3+2<vs.length by omega)]
 ·omega
theorem ac9(e:Int)(zs:List Int)(ad:List Bool)(k:Int)(ch:List UInt8)(fr:Int)(ops:List Int)(n:Nat)(hn:n<=1000000)(vs:List Int)(m:Nat)(hm:m<=1000000)(hv:vs.length=m*3):
  aV 123 [.agg (eD e zs ad k ch),.v (.int .i64 fr),.row n [.ints .i64 (n*5) ops],.row m [.ints .i64 (m*3) vs]] (.d (.v (.int .i64 (fu e zs ad k ch fr ops n vs m)))):=by
 refine eO (E:=bT2) Tryz.func123 Tryz.ntmps123 ?_
 have hpl:=oh e zs ad k ch fr ops
 by_cases h0:n=0
 ·subst h0
  have hr:fu e zs ad k ch fr ops 0 vs m=if m=0 then 0 else 8:=by simp[fu]
  rw[hr]
  clear hr
  refine ah ?_;(try exact⟨⟩)
 have h01:((n:Int)==0)=false:=by simpa using h0
 by_cases hd:(fC e ⟨zs,ad,k,F8,F8⟩ fr ops n).1=0
 ·have hd1:decide ((fC e ⟨zs,ad,k,F8,F8⟩ fr ops n).1=0)=true:=decide_eq_true hd
  obtain⟨N,hN,hok,hend⟩:=JF (p:=fun j=>yQ zs ad (bW e zs ad k ch fr ops) vs j=true) m
  have hC:fu e zs ad k ch fr ops n vs m=if N=m then(if(m:Int)<k then 8 else 0)else Af ad vs N:=by
   rcases hend with rfl|⟨h1,h2⟩
   ·simp only[fu,h0,hd,NK hok];simp
   ·simp only[fu,h0,hd,aM3 h1 hok h2]
    rw[if_neg (show ¬N=m by omega)]
    simp[ae8]
  rw[hC]
  clear hC hd
  refine ah ?_
  refine aX.mk (cB [3,4,8,13,14,38,39,40] [0,4] N (fun j=>⟨.au::.au::.au::.d (.row m [.ints .i64 (m*3) vs])::.ptr 0 0::.au::.au::.au::.d (.v (.int .i64 0))::.au::.au::.au::.au::.ptr 1 0::.d (.v (.int .i64 (vK vs j)))::dz 23 (.d (.row m [.ints .i64 (m*3) vs])::.d (.v (.int .i64 (m:Nat)))::.d (.v (.int .i64 (j:Nat)))::dz 34 []),[some (.var (eD e zs ad k ch)),some (.var [.bytes 32 (bW e zs ad k ch fr ops)])]⟩) ?_)
  intro j hj hl
  by_cases h3:j<m
  ·have h2:(j:Int)<m:=by omega
   have hj3:=aF3 hv h3
   refine ah ?_
   rw[hj3]
   clear hj3
   have eP:yQ zs ad (bW e zs ad k ch fr ops) vs j=(mQ ad (vs.getD (j*3) 0)&&decide (vK vs j<vs.getD (j*3) 0)&&mh (zs.getD ((vs.getD (j*3) 0).toNat*2) 0) (bW e zs ad k ch fr ops) (vs.getD (j*3+1) 0) (vs.getD (j*3+2) 0)):=rfl
   have eC:Af ad vs j=if(mQ ad (vs.getD (j*3) 0)&&decide (vK vs j<vs.getD (j*3) 0))=true then 4 else 6:=rfl
   have eL:vK vs (j+1)=vs.getD (j*3) 0:=rfl
   generalize vK vs j=l0 at*
   generalize vs.getD (j*3) 0=a at*
   generalize vs.getD (j*3+1) 0=b at*
   generalize vs.getD (j*3+2) 0=c at*
   by_cases h1:j<N
   ·have hp:=hok j h1
    rw[eP,Bool.and_eq_true,Bool.and_eq_true,decide_eq_true_eq]at hp
    obtain⟨⟨p1,p2⟩,p3⟩:=hp
    obtain⟨b1,b2⟩:=QW p1
    clear eP eC hok hend
    refine ah ?_
    refine hl.go h1 [3,4,8,13,14,38,39,40] [0,1] ?_
    show gather _ _ _=St.mk _ _
    rw[eL]
    rfl
   ·obtain rfl:N=j:=by omega
    have hf:¬yQ zs ad (bW e zs ad k ch fr ops) vs N=true:=by
     rcases hend with h|h
     ·omega
     ·exact h.2
    rw[eP]at hf
    rw[if_neg (show ¬N=m by omega)]
    clear eL hok hend hl h1
    cases ha:mQ ad a with
    |false=>
     have eC6:Af ad vs N=6:=by rw[eC,ha];rfl
     rw[eC6]
     clear eC eC6 eP hf
     refine ah ?_;(try exact⟨⟩)
    |true=>
     obtain⟨b1,b2⟩:=QW ha
     by_cases hlt:l0<a
     ·have eC4:Af ad vs N=4:=by rw[eC,ha,decide_eq_true hlt];rfl
      rw[eC4]
      have cK7:mh (zs.getD (a.toNat*2) 0) (bW e zs ad k ch fr ops) b c=false:=by
       rw[ha,decide_eq_true hlt,Bool.true_and,Bool.true_and]at hf
       exact Bool.eq_false_iff.2 hf
      clear eC eC4 eP hf
      refine ah ?_;(try exact⟨⟩)
     ·have eC6:Af ad vs N=6:=by rw[eC,ha,decide_eq_false hlt];rfl
      rw[eC6]
      clear eC eC6 eP hf
      refine ah ?_;(try exact⟨⟩)
  ·have h4:¬(j:Int)<m:=by omega
   rw[if_pos (show N=m by omega)]
   clear hok hend hl
   by_cases hk:(m:Int)<k
   ·rw[if_pos hk]
    refine ah ?_;(try exact⟨⟩)
   ·rw[if_neg hk]
    refine ah ?_;(try exact⟨⟩)
 ·have hd1:decide ((fC e ⟨zs,ad,k,F8,F8⟩ fr ops n).1=0)=false:=decide_eq_false hd
  have hr:fu e zs ad k ch fr ops n vs m=(fC e ⟨zs,ad,k,F8,F8⟩ fr ops n).1:=by simp[fu,h0,hd]
  have hd2:((fC e ⟨zs,ad,k,F8,F8⟩ fr ops n).1 !=0)=true:=by simpa using hd
  rw[hr]
  clear hr hd h0
  refine ah ?_;(try exact⟨⟩)
end
end Go.Proofs.YtegalalmamofdaaGreatDoor
