/-
  The law of parties: steps as a table; the approval of one.
-/
import Derived.Test.YtjdjelopkhjdnaaGreatDoorJ51
import Derived.Test.YtjdjelopkhjdnaaGreatDoorDg
namespace Go.Proofs.YtjdjelopkhjdnaaGreatDoor
set_option linter.unusedVariables false
set_option linter.unusedSimpArgs false
set_option maxRecDepth 100000
open Go.RowKit
section
open Pm
theorem G9{G:List (Option PS)}{fr:Int}{ops:List Int}{o:Nat}(h0:1≤G.length){p:PS}(hp:jS G 0=some p)(ha:om p.e p.zs p.ad p.k p.lf (au p.sg) fr ops o=0):bO G fr ops o 1 G.length=[G8 p fr ops]:=by
 have h1:bO G fr ops o 1 1=[G8 p fr ops]:=by
  have hb:WI p fr ops o=true:=decide_eq_true ha
  rw[bO,if_pos (by rw[bO];decide),hp]
  dsimp only
  rw[if_pos hb,bO]
  rfl
 have:=tq (G:=G) (fr:=fr) (ops:=ops) (o:=o) (cap:=1) (i:=1) (by rw[h1];exact Nat.lt_irrefl 1) (G.length-1)
 rw[show 1+(G.length-1)=G.length by omega]at this
 rw[this,h1]
def u6(G:List (Option PS))(q:PS)(o:Nat)(ops:List Int)(cap:Nat):List (List Int):=bO G q.lf ops o cap G.length
def wU(G:List (Option PS))(fr:Nat)(q:PS)(o:Nat)(ops:List Int)(cap:Nat)(dr:Int):List (Option PS):=stepM G fr o ops (u6 G q o ops cap).length (u6 G q o ops cap).flatten (wF dr)
def af2:List A→(bP→Prop)→Prop
 |[.row n [.gen m l],.v (.int .i64 fr),x,.v (.int .i64 cap),.v (.int .i64 dr),.v (.bool st)],K=>∃G,n=G.length∧m=G.length*2∧l=gL G∧uL x fun o ops=>
  ∃q,Nf G∧0≤fr∧fr<G.length∧jS G fr.toNat=some q∧G.length≤64∧o≤3000∧0≤cap∧cap≤3000∧(st=true→bZ q o ops (u6 G q o ops cap.toNat).length (u6 G q o ops cap.toNat).flatten=0)∧
   ∀H,H=wU G fr.toNat q o ops cap.toNat dr→K (.d (.row H.length [.gen (H.length*2) (gL H)]))
 |_,_=>False
theorem aR4{S:Nat→Prop}{w:World}{a b c d e f:A}{vs:List Value}(h:lK S w [a,b,c,d,e,f] vs):∃x y z u t r,vs=[x,y,z,u,t,r]∧RA S w a x∧RA S w b y∧RA S w c z∧RA S w d u∧RA S w e t∧RA S w f r:=by
 cases h with|cons h r=>cases r with|cons h2 r=>cases r with|cons h3 r=>cases r with|cons h4 r=>cases r with|cons h5 r=>cases r with|cons h6 r=>cases r;exact⟨_,_,_,_,_,_,rfl,h,h2,h3,h4,h5,h6⟩
theorem af3:∀args K,af2 args K→∃r,aQ 5 args r∧K r:=by
 intro args K h
 unfold af2 at h
 split at h
 ·next n m l fr x cap dr st=>
  obtain⟨G,rfl,rfl,rfl,h⟩:=h
  obtain⟨o,ops,_,⟨q,hg,f0,f1,hq,hG,ho,c0,c1,hst,h⟩,hv⟩:=gJ h
  obtain⟨fn,rfl⟩:=Int.eq_ofNat_of_zero_le f0
  obtain⟨cn,rfl⟩:=Int.eq_ofNat_of_zero_le c0
  refine⟨_,fun S w vs' hG' ha=>?_,h _ rfl⟩
  obtain⟨v1,v2,v3,v4,v5,v6,rfl,k1,k2,k3,k4,k5,k6⟩:=aR4 ha
  have hfn:aQ 5 [.row G.length [.gen (G.length*2) (gL G)],.v (.int .i64 (fn:Nat)),.row o [.ints .i64 (o*5) ops],.v (.int .i64 (cn:Nat)),.v (.int .i64 dr),.v (.bool st)] (.d (.row (wU G fn q o ops cn dr).length [.gen ((wU G fn q o ops cn dr).length*2) (gL (wU G fn q o ops cn dr))])):=by
   by_cases z:bZ q o ops (u6 G q o ops cn).length (u6 G q o ops cn).flatten=0
   ·exact ae9 G hg fn q hq (by omega) hG o ops ho cn (by omega) dr st _ rfl z rfl
   ·obtain rfl:st=false:=by cases st with
     |false=>rfl
     |true=>exact absurd (hst rfl) z
    have e:wU G fn q o ops cn dr=G:=af0 hq z
    rw[e]
    exact ae8 G hg fn q hq (by omega) hG o ops ho cn (by omega) dr _ rfl z
  exact hfn S w _ hG' (.cons k1 (.cons k2 (.cons (hv k3) (.cons k4 (.cons k5 (.cons k6 .nil))))))
 ·exact h.elim
theorem WK{G:List (Option PS)}(h:Nf G){fr:Nat}{q:PS}(hq:jS G fr=some q)(o:Nat)(ops:List Int)(cap:Nat)(dr:Int):Nf (wU G fr q o ops cap dr):=Dv h hq _ _ _ _ _
theorem Yt{A i:Nat}(a0:1≤A)(hi:i+1<6):let G:=dR A i
  let pr:=decide (i+1<A)
  Nf G∧G.length=i+1∧jS G 0=some (iV G)∧bZ (iV G) (kD pr) (opsV (nP (i+1)) (oP (i+1)) (i+1) pr) (u6 G (iV G) (kD pr) (opsV (nP (i+1)) (oP (i+1)) (i+1) pr) 1).length (u6 G (iV G) (kD pr) (opsV (nP (i+1)) (oP (i+1)) (i+1) pr) 1).flatten=0∧
  wU G 0 (iV G) (kD pr) (opsV (nP (i+1)) (oP (i+1)) (i+1) pr) 1 ((i+1:Nat):Int)=dR A (i+1):=by
 intro G pr
 have g:=rZ a0 i (by omega)
 have hf:=Dq g (by omega)
 obtain⟨c1,c2,c3⟩:=KI g (by omega) hi a0
 have hl:G.length=i+1:=g.full.len
 have hv:u6 G (iV G) (kD pr) (opsV (nP (i+1)) (oP (i+1)) (i+1) pr) 1=[ko (iV G) (opsV (nP (i+1)) (oP (i+1)) (i+1) pr)]:=by
  unfold u6
  rw[G9 (G:=G) (show 1≤G.length by rw[hl];omega) hf c1]
  have hz:(iV G).lf=0:=(g.v _ hf).lf
  unfold G8 ko
  rw[hz]
 refine⟨g.full.grp,hl,hf,?_,?_⟩
 ·rw[hv]
  show bZ _ _ _ 1 ([ko _ _]:List (List Int)).flatten=0
  rw[List.flatten_singleton]
  exact c2
 ·unfold wU
  rw[hv]
  show stepM G 0 _ _ 1 ([ko _ _]:List (List Int)).flatten _=_
  rw[List.flatten_singleton]
  rfl
theorem Du{A i:Nat}(a0:1≤A)(hi:i<6):Nf (dR A i)∧(dR A i).length=i+1∧jS (dR A i) 0=some (iV (dR A i)):=
 ⟨(rZ a0 i hi).full.grp,(rZ a0 i hi).full.len,Dq (rZ a0 i hi) (by omega)⟩
theorem ar5{A i:Nat}{k:Int}(a0:1≤A)(hi:i<6)(k0:1≤k)(k1:k≤A)(k2:k≤(i+1:Nat)):bZ (iV (dR A i)) 1 (opsL k) (u6 (dR A i) (iV (dR A i)) 1 (opsL k) 1).length (u6 (dR A i) (iV (dR A i)) 1 (opsL k) 1).flatten=0∧
  wU (dR A i) 0 (iV (dR A i)) 1 (opsL k) 1 99=Zd k (dR A i):=by
 have g:=rZ a0 i hi
 have hf:=Dq g (by omega)
 obtain⟨c1,c2,c3⟩:=F3 g (by omega) (by omega) k0 k1 k2
 have hl:(dR A i).length=i+1:=g.full.len
 have hv:u6 (dR A i) (iV (dR A i)) 1 (opsL k) 1=[ko (iV (dR A i)) (opsL k)]:=by
  unfold u6
  rw[G9 (by omega) hf c1]
  have hz:(iV (dR A i)).lf=0:=(g.v _ hf).lf
  unfold G8 ko
  rw[hz]
 refine⟨?_,?_⟩
 ·rw[hv]
  show bZ _ _ _ 1 ([ko _ _]:List (List Int)).flatten=0
  rw[List.flatten_singleton]
  exact c2
 ·unfold wU
  rw[hv]
  show stepM (dR A i) 0 _ _ 1 ([ko _ _]:List (List Int)).flatten _=_
  rw[List.flatten_singleton]
  rfl
noncomputable def aK9:av:=Ih.add 5 af2 af3 ⟨_,Tryz.func5,by kernel_rfl,by kernel_rfl⟩
noncomputable def NQ:av:=aK9.add 7 BQ CQ ⟨_,Tryz.func7,by kernel_rfl,by kernel_rfl⟩
end
section
open Pm
attribute [local irreducible] aV aZ bQ aA au dA cK aF bW aN aU ay ak aT dh bX aR bI fU iC aD bB aP jR dZ bZ bS aJ bT fJ bH bg gV aI nE qU kI bn fO eD dQ fu bq aC cO fF dN gD xX bO dR stepM wU u6 aY iV
set_option maxHeartbeats 8000000 in
theorem Yq(N A k:Nat)(m2:N+2≤6)(a0:1≤A)(a1:A≤N+2)(k0:1≤k)(k1:k≤A){H:List (Option PS)}(hH:H=qK (N+2) A (k:Int)):
  aQ 4 [.v (.int .i64 ((N+2:Nat):Int)),.v (.int .i64 (A:Nat)),.v (.int .i64 (k:Nat))] (.d (.row H.length [.gen (H.length*2) (gL H)])):=by
 refine dF (E:=NQ) Tryz.func4 Tryz.ntmps4 ?_
 have HH:=Lib.hid hH
 have hG0:dR A 0=[some (aY (cO 0))]:=by unfold dR;rfl
 have HG0:=Lib.hid hG0
 clear hH hG0
 refine aj ?_;(try exact⟨⟩)
 intro h hh
 obtain rfl:h=cO 0:=hh
 refine aj ?_;(try exact⟨⟩)
 intro p hp
 have HP:=Lib.hid hp
 clear hp
 refine aj ?_;(try exact⟨⟩)
 intro h hh
 obtain rfl:h=cO 0:=hh
 refine aj ?_;(try exact⟨⟩)
 intro x hx
 obtain rfl:x=dN p:=by rw[HP.out];exact hx
 clear hx
 refine aj ?_;(try exact⟨⟩)
 refine aM.mk (Un [0,1,2,7,8] [0] 0 (N+1) (fun j=>⟨[.d (.v (.int .i64 ((N+2:Nat):Int))),.d (.v (.int .i64 (A:Nat))),.d (.v (.int .i64 (k:Nat))),.ah,.ah,.ah,.ah,.d (.row (dR A j).length [.gen ((dR A j).length*2) (gL (dR A j))]),.d (.v (.int .i64 ((j+1:Nat):Int))),.ah,.ah,.ah,.ah,.ah,.ah,.ah,.ah,.ah,.ah,.ah,.ah,.ah,.ah,.ah,.ah,.ah,.ah,.ah,.ah,.ah,.ah,.ah,.ah,.ah,.ah,.ah,.ah,.ah,.ah,.ah,.ah,.ah,.ah,.ah,.ah,.ah,.ah,.ah],[none]⟩) ?_ (h2:=by dsimp only;rw[HG0.out,←HP.out];exact rfl))
 intro j hj hl
 by_cases h:j<N+1
 ·have i1:((j+1:Nat):Int)<((N+2:Nat):Int):=by omega
  obtain⟨q1,q2,q3,q4,q5⟩:=Yt (A:=A) (i:=j) a0 (by omega)
  have q2:(dR A j).length=j+1:=q2
  refine aj ?_;(try exact⟨⟩)
  intro h' hh
  obtain rfl:h'=cO ((j+1:Nat):Int):=hh
  refine aj ?_;(try exact⟨⟩)
  intro L hL
  obtain rfl:L=[nP (j+1),oP (j+1)]:=hL.trans (Ro (j+1))
  clear hL
  by_cases pr:j+1<A
  ·have p1:((j+1:Nat):Int)<(A:Int):=by omega
   refine aj ?_;(try exact⟨⟩)
   rw[decide_eq_true pr]at q4 q5
   refine⟨iV (dR A j),q1,by omega,by omega,q3,by omega,by omega,by omega,by omega,fun _=>q4,?_⟩
   intro H' KJ
   obtain rfl:H'=dR A (j+1):=KJ.trans q5
   clear KJ q4 q5
   have n1:(dR A (j+1)).length≠0:=by rw[(Du (A:=A) (i:=j+1) a0 (by omega)).2.1];omega
   have n2:dR A (j+1)≠[]:=fun e=>n1 (by rw[e];rfl)
   refine aj ?_;(try exact⟨⟩)
   refine hl.go h [0,1,2,7,8] [0] ?_
   rfl
  ·have p1:¬((j+1:Nat):Int)<(A:Int):=by omega
   refine aj ?_;(try exact⟨⟩)
   rw[decide_eq_false pr]at q4 q5
   refine⟨iV (dR A j),q1,by omega,by omega,q3,by omega,by omega,by omega,by omega,fun _=>q4,?_⟩
   intro H' KJ
   obtain rfl:H'=dR A (j+1):=KJ.trans q5
   clear KJ q4 q5
   have n1:(dR A (j+1)).length≠0:=by rw[(Du (A:=A) (i:=j+1) a0 (by omega)).2.1];omega
   have n2:dR A (j+1)≠[]:=fun e=>n1 (by rw[e];rfl)
   refine aj ?_;(try exact⟨⟩)
   refine hl.go h [0,1,2,7,8] [0] ?_
   rfl
 ·obtain rfl:j=N+1:=by omega
  have i1:¬((N+1+1:Nat):Int)<((N+2:Nat):Int):=by omega
  obtain⟨q1,q2,q3⟩:=Du (A:=A) (i:=N+1) a0 (by omega)
  by_cases k2:k>1
  ·have k3:(k:Int)>1:=by omega
   obtain⟨q4,q5⟩:=ar5 (A:=A) (i:=N+1) (k:=(k:Int)) a0 (by omega) (by omega) (by omega) (by omega)
   have hHe:H=Zd (k:Int) (dR A (N+1)):=by rw[HH.out];exact if_pos k3
   rw[hHe]
   clear hHe
   refine aj ?_;(try exact⟨⟩)
   refine⟨iV (dR A (N+1)),q1,by omega,by omega,q3,by omega,by omega,by omega,by omega,fun _=>q4,?_⟩
   intro H' KJ
   obtain rfl:H'=Zd (k:Int) (dR A (N+1)):=KJ.trans q5
   clear KJ q4 q5
   refine aj ?_;(try exact⟨⟩)
  ·have k3:¬(k:Int)>1:=by omega
   have hHe:H=dR A (N+1):=by rw[HH.out];exact if_neg k3
   rw[hHe]
   clear hHe
   refine aj ?_;(try exact⟨⟩)
end
section
open Pm
attribute [local irreducible] aV aZ bQ aA au dA cK aF bW aN aU ay ak aT dh bX aR bI fU iC aD bB aP jR dZ bZ bS aJ bT fJ bH bg gV aI nE qU kI bn fO eD dQ fu bq aC cO fF dN gD xX bO dR stepM wU u6 aY iV
set_option maxHeartbeats 2000000 in
theorem TU:aQ 4 [.v (.int .i64 1),.v (.int .i64 1),.v (.int .i64 1)] (.d (.row 1 [.gen 2 (gL [some (aY (cO 0))])])):=by
 refine mQ (e:=31) (sz:=2) (dF (E:=NQ) Tryz.func4 Tryz.ntmps4 ?_)
 refine aj ?_;(try exact⟨⟩)
 intro h hh
 obtain rfl:h=cO 0:=hh
 refine aj ?_;(try exact⟨⟩)
 intro p hp
 have HP:=Lib.hid hp
 clear hp
 refine aj ?_;(try exact⟨⟩)
 intro h hh
 obtain rfl:h=cO 0:=hh
 refine aj ?_;(try exact⟨⟩)
 intro x hx
 obtain rfl:x=dN p:=by rw[HP.out];exact hx
 clear hx
 refine aj ?_;(try exact⟨⟩)
 refine aM.mk (aB 1 ?_)
 refine aj ?_;(try exact⟨⟩)
 try(rw[←HP.out];rfl)
def Oh:List A→(bP→Prop)→Prop
 |[.v (.int .i64 m),.v (.int .i64 a),.v (.int .i64 k)],K=>1≤m∧m≤5∧1≤a∧a≤m∧1≤k∧k≤a∧∀H,H=qK m.toNat a.toNat k→K (.d (.row H.length [.gen (H.length*2) (gL H)]))
 |_,_=>False
theorem groupM_1:qK 1 1 1=[some (aY (cO 0))]:=by
 unfold qK
 rw[if_neg (by decide)]
 unfold dR
 rfl
theorem TW:∀args K,Oh args K→∃r,aQ 4 args r∧K r:=by
 intro args K h
 unfold Oh at h
 split at h
 ·next m a k=>
  obtain⟨h1,h2,h3,h4,h5,h6,h⟩:=h
  refine⟨_,?_,h _ rfl⟩
  obtain⟨M,rfl⟩:=Int.eq_ofNat_of_zero_le (show 0≤m by omega)
  obtain⟨A,rfl⟩:=Int.eq_ofNat_of_zero_le (show 0≤a by omega)
  obtain⟨k,rfl⟩:=Int.eq_ofNat_of_zero_le (show 0≤k by omega)
  rw[Int.toNat_natCast,Int.toNat_natCast]
  by_cases hM:M=1
  ·obtain rfl:A=1:=by omega
   obtain rfl:k=1:=by omega
   subst hM
   have e:qK 1 1 ((1:Nat):Int)=[some (aY (cO 0))]:=groupM_1
   rw[e]
   exact TU
  ·obtain⟨N,rfl⟩:∃N,M=N+2:=⟨M-2,by omega⟩
   exact Yq N A k (by omega) (by omega) (by omega) (by omega) (by omega) rfl
 ·exact h.elim
noncomputable def aL0:av:=NQ.add 4 Oh TW ⟨_,Tryz.func4,by kernel_rfl,by kernel_rfl⟩
end
section
open Pm
structure Mv where
 fr:Int
 n:Nat
 ops:List Int
 dr:Int
def mvF(m:Mv):List Seg:=[.ints .i64 1 [m.fr],.gen 1 [.row m.n [.ints .i64 (m.n*5) m.ops]],.ints .i64 1 [m.dr]]
def K6(m:Mv)(G:List (Option PS)):Option PS:=if 0≤m.fr∧m.fr<(G.length:Int)∧m.n≤4 then jS G m.fr.toNat else none
def pz(m:Mv)(G:List (Option PS)):List (Option PS):=match K6 m G with
 |some q=>wU G m.fr.toNat q m.n m.ops 8 m.dr
 |none=>G
def nN(mv:Nat→Mv)(G:List (Option PS)):Nat→List (Option PS)
 |0=>G
 |j+1=>pz (mv j) (nN mv G j)
theorem Vo(G:List (Option PS))(fr n:Nat)(ops:List Int)(m:Nat)(vs:List Int)(d:List UInt8):G.length≤(stepM G fr n ops m vs d).length∧(stepM G fr n ops m vs d).length≤G.length+8:=by
 unfold stepM
 split
 ·omega
 ·split
  ·omega
  ·rw[List.length_append,pI,List.length_map]
   have:(V9 (dZ ‹PS› (‹PS›).lf n ops).ng (aJ ‹PS› (dZ ‹PS› (‹PS›).lf n ops) n ops m vs d).zs).length≤8:=by
    unfold V9
    exact Nat.le_trans (List.length_filter_le _ _) (by simp)
   omega
theorem ar8(m:Mv){G:List (Option PS)}(h:Nf G):Nf (pz m G)∧G.length≤(pz m G).length∧(pz m G).length≤G.length+8:=by
 unfold pz
 split
 ·next q hq=>
  unfold K6 at hq
  split at hq
  ·exact⟨WK h hq _ _ _ _,Vo _ _ _ _ _ _ _⟩
  ·cases hq
 ·exact⟨h,Nat.le_refl _,by omega⟩
theorem RJ(mv:Nat→Mv){G:List (Option PS)}(h:Nf G):∀j:Nat,Nf (nN mv G j)∧G.length≤(nN mv G j).length∧(nN mv G j).length≤G.length+8*j
 |0=>⟨h,Nat.le_refl _,by rw[nN];omega⟩
 |j+1=>by
  obtain⟨h1,h2,h3⟩:=RJ mv h j
  obtain⟨k1,k2,k3⟩:=ar8 (mv j) h1
  rw[nN]
  exact⟨k1,by omega,by omega⟩
theorem TV{M A:Nat}{k:Int}(m0:1≤M)(m1:M≤6)(a0:1≤A)(a1:A≤M)(k0:1≤k)(k1:k≤A):Nf (qK M A k)∧(qK M A k).length=M:=
 ⟨(Dr m0 m1 a0 a1 k0 k1).grp,(Dr m0 m1 a0 a1 k0 k1).len⟩
end
section
open Pm
noncomputable def aL1:av:=aL0.add 6 IC (Gb Gw) ⟨_,Tryz.func6,by kernel_rfl,by kernel_rfl⟩
attribute [local irreducible] aV aZ bQ aA au dA cK aF bW aN aU ay ak aT dh bX aR bI fU iC aD bB aP jR dZ bZ bS aJ bT fJ bH bg gV aI nE qU kI bn fO eD dQ fu bq aC cO fF dN gD xX bO dR stepM wU u6 aY iV qK nN pz
set_option maxHeartbeats 8000000 in
theorem Fu(M A k:Int)(n:Nat)(mv:Nat→Mv)(hn:n≤140737488355328)(hmv:∀j,j<n→(mv j).n≤140737488355328):
  aQ 3 [.v (.int .i64 M),.v (.int .i64 A),.v (.int .i64 k),.recs n 3 (fun j=>mvF (mv j))] (.d (.v (.bool true))):=by
 refine dF (E:=aL1) Tryz.func3 Tryz.ntmps3 ?_
 by_cases m1:M<1
 ·refine aj ?_;(try exact⟨⟩)
 by_cases m2:M>5
 ·refine aj ?_;(try exact⟨⟩)
 by_cases a1:A<1
 ·refine aj ?_;(try exact⟨⟩)
 by_cases a2:A>M
 ·refine aj ?_;(try exact⟨⟩)
 by_cases k1:k<1
 ·refine aj ?_;(try exact⟨⟩)
 by_cases k2:k>A
 ·refine aj ?_;(try exact⟨⟩)
 by_cases n4:(n:Int)>4
 ·refine aj ?_;(try exact⟨⟩)
 obtain⟨gg,gl⟩:=TV (M:=M.toNat) (A:=A.toNat) (k:=k) (by omega) (by omega) (by omega) (by omega) (by omega) (by omega)
 have m1':1≤M:=by omega
 have m2':M≤5:=by omega
 have a1':1≤A:=by omega
 have a2':A≤M:=by omega
 have k1':1≤k:=by omega
 have k2':k≤A:=by omega
 refine aj ?_;(try exact⟨⟩)
 intro H hH
 rw[←hH]at gg gl
 clear hH
 have n1:H.length≠0:=by rw[gl];omega
 have n2:H≠[]:=fun e=>n1 (by rw[e];rfl)
 have hP:=RJ mv gg
 have hg6:H.length≤5:=by rw[gl];omega
 have HPO:=Lib.hid hP
 have hp0:nN mv H 0=H:=by rw[nN]
 have hps:∀j,nN mv H (j+1)=pz (mv j) (nN mv H j):=fun j=>by rw[nN]
 have HP0:=Lib.hid hp0
 have HPS:=Lib.hid hps
 have HMV:=Lib.hid hmv
 clear hP hp0 hps hmv gg gl
 refine aj ?_;(try exact⟨⟩)
 refine aM.mk (bV [3,9,10] [0] n (fun j=>⟨[.ah,.ah,.ah,.d (.recs n 3 (fun j=>mvF (mv j))),.ah,.ah,.ah,.ah,.ah,.d (.row (nN mv H j).length [.gen ((nN mv H j).length*2) (gL (nN mv H j))]),.d (.v (.int .i64 (j:Nat))),.ah,.ah,.ah,.ah,.ah,.ah,.ah,.ah,.ah,.ah,.ah,.ah,.ah,.ah,.ah,.ah,.ah,.ah,.ah,.ah,.ah,.ah,.ah,.ah,.ah,.ah,.ah,.ah,.ah,.ah,.ah,.ah,.ah,.ah,.ah,.ah,.ah,.ah,.ah,.ah,.ah,.ah,.ah,.ah,.ah,.ah,.ah,.ah,.ah,.ah,.ah,.ah,.ah,.ah,.ah,.ah,.ah,.ah,.ah,.ah,.ah,.ah,.ah,.ah,.ah,.ah,.ah,.ah,.ah,.ah,.ah,.ah,.ah,.ah,.ah,.ah,.ah,.ah,.ah,.ah,.ah,.ah,.ah,.ah,.ah,.ah,.ah,.ah,.ah,.ah,.ah,.ah,.ah,.ah,.ah,.ah,.ah,.ah],[none]⟩) ?_ (h2:=by dsimp only;rw[HP0.out];exact rfl))
 intro j hj hl
 by_cases h:j<n
 ·have i1:(j:Int)<(n:Int):=by omega
  obtain⟨q1,q2,q3⟩:=HPO.out j
  obtain⟨G,hG⟩:∃G,G=nN mv H j:=⟨_,rfl⟩
  rw[←hG]at q1 q2 q3
  have e1:nN mv H (j+1)=pz (mv j) G:=by rw[HPS.out,hG]
  have E1:=Lib.hid e1
  have HGG:=Lib.hid hG
  have ho:=HMV.out j h
  rw[←hG]
  clear e1 hG
  have hl0:G.length≤64:=by omega
  have no:K6 (mv j) G=none→pz (mv j) G=G:=fun e=>by unfold pz;rw[e]
  have NO:=Lib.hid no
  clear no
  by_cases f0:(mv j).fr<0
  ·have E2:=Lib.hid (NO.out (by unfold K6;rw[if_neg (by omega)]))
   refine aj ?_;(try exact⟨⟩)
   refine hl.go h [3,9,10] [0] ?_
   dsimp only
   rw[E1.out,E2.out]
   rfl
  by_cases f1:(mv j).fr≥(G.length:Int)
  ·have E2:=Lib.hid (NO.out (by unfold K6;rw[if_neg (by omega)]))
   refine aj ?_;(try exact⟨⟩)
   refine hl.go h [3,9,10] [0] ?_
   dsimp only
   rw[E1.out,E2.out]
   rfl
  have f0':0≤(mv j).fr:=by omega
  have f1':(mv j).fr<(G.length:Int):=by omega
  have v2:=(TS G (mv j).fr.toNat (by omega)).2
  cases hq:jS G (mv j).fr.toNat with
  |none=>
   have E2:=Lib.hid (NO.out (by unfold K6;split;exact hq;rfl))
   rw[hq]at v2
   refine aj ?_;(try exact⟨⟩)
   rw[v2]
   refine aj ?_;(try exact⟨⟩)
   refine hl.go h [3,9,10] [0] ?_
   dsimp only
   rw[E1.out,E2.out]
   rfl
  |some q=>
   rw[hq]at v2
   by_cases o4:((mv j).n:Int)>4
   ·have E2:=Lib.hid (NO.out (by unfold K6;rw[if_neg (by omega)]))
    refine aj ?_;(try exact⟨⟩)
    rw[v2]
    refine aj ?_;(try exact⟨⟩)
    refine hl.go h [3,9,10] [0] ?_
    dsimp only
    rw[E1.out,E2.out]
    rfl
   ·have E2:=Lib.hid (show pz (mv j) G=wU G (mv j).fr.toNat q (mv j).n (mv j).ops 8 (mv j).dr by
     unfold pz K6
     rw[if_pos ⟨f0',f1',by omega⟩,hq])
    refine aj ?_;(try exact⟨⟩)
    rw[v2]
    refine aj ?_;(try exact⟨⟩)
    refine⟨q,q1,f0',f1',hq,hl0,by omega,by omega,by omega,fun e=>(by cases e),?_⟩
    intro H' KJ
    obtain rfl:H'=pz (mv j) G:=KJ.trans E2.out.symm
    have q4:=(HPO.out (j+1)).2.1
    rw[E1.out]at q4
    have n3:(pz (mv j) G).length≠0:=by omega
    have n4:pz (mv j) G≠[]:=fun e=>n3 (by rw[e];rfl)
    clear KJ q4
    refine aj ?_;(try exact⟨⟩)
    refine hl.go h [3,9,10] [0] ?_
    dsimp only
    rw[E1.out]
    rfl
 ·obtain rfl:j=n:=by omega
  have i1:¬(j:Int)<(j:Int):=by omega
  refine aj ?_;(try exact⟨⟩)
end
end Go.Proofs.YtjdjelopkhjdnaaGreatDoor
namespace Go.Proofs.YtjdjelopkhjdnaaGreatDoor
set_option maxRecDepth 100000
open Go.RowKit Go.ChangeShapes Pm
set_option linter.unusedVariables false
set_option linter.unusedSimpArgs false
instance bF6:Inhabited Mv:=⟨⟨0,0,[],0⟩⟩
theorem aF2{l:List Value}{i:Nat}{v:Value}(h:l[i]?=some v):(l.drop i).take 1=[v]:=by
 obtain⟨hlt,hg⟩:=List.getElem?_eq_some_iff.1 h
 rw[List.drop_eq_getElem_cons hlt,hg];rfl
set_option maxHeartbeats 1000000 in
theorem OX{H:Type}{enc:TypeId×Value→H}{w:World}{base b0:Nat}{held:Bool}{r:Reach}{v:Value}{d:DataW H}{ps:List MemPlace}
  (hval:Value.okWide Tryz.prog w r b0 22 v)(h:DataW.Trod enc Tryz.prog w base (fun _=>true) held 22 v d ps)(hlt:∀n∈d.weights Tryz.prog 22,n≤140737488351232):
  ∃(n:Nat) (mv:Nat→Mv),n≤140737488351232∧(∀j,j<n→(mv j).n≤140737488351232)∧RA (fun _=>True) w (.recs n 3 fun j=>mvF (mv j)) v:=by
 refine OY (P:=Tryz.prog) (e:=27) (K:=3) (B:=40) Tryz.underlying22 (by kernel_rfl) (by omega) (by kernel_rfl) (by omega) mvF (fun m=>m.n≤140737488351232) (fun fuel cs y hf hw hlen=>?_) hval h hlt
 obtain⟨k0,w0⟩:=FV hf hw (i:=0) (off:=0) (n:=1) (u:=3) (sg:=List.replicate 1 (some .i64)) (by kernel_rfl) (by kernel_rfl) (by kernel_rfl) rfl (by omega)
 obtain⟨k2,w2⟩:=FV hf hw (i:=2) (off:=2) (n:=1) (u:=3) (sg:=List.replicate 1 (some .i64)) (by kernel_rfl) (by kernel_rfl) (by kernel_rfl) rfl (by omega)
 obtain⟨v1,hv1⟩:∃v,cs[1]?=some v:=⟨_,List.getElem?_eq_getElem (by omega)⟩
 obtain⟨k,y1,h2,h3⟩:=Kv hf hw (i:=1) (off:=1) (n:=1) (u:=25) (by kernel_rfl) (by kernel_rfl)
 rw[aF2 hv1]at h2
 obtain⟨n,ops,hn,r1⟩:=Ls (P:=Tryz.prog) (e:=44) (K:=5) Tryz.underlying25 (by kernel_rfl) (by omega) (by kernel_rfl) h2 h3
 obtain⟨z0,y0,l0,_⟩:=xA k0 w0
 obtain⟨z2,y2,l2,_⟩:=xA k2 w2
 have sp:∀a b,cs.drop a=(cs.drop a).take b++cs.drop (a+b):=fun a b=>by rw[←List.drop_drop,List.take_append_drop]
 have l22:cs.drop 2=(cs.drop 2).take 1:=(List.take_of_length_le (by simp[hlen])).symm
 have e:cs=(cs.drop 0).take 1++((cs.drop 1).take 1++(cs.drop 2).take 1):=by
  rw[←l22,←sp 1 1,←sp 0 1]
  rfl
 rw[y0,y2,aF2 hv1]at e
 obtain⟨e0,rfl⟩:∃a,z0=[a]:=by rcases z0 with _|⟨a,_|⟨b,l⟩⟩<;>first|(simp at l0;done)|exact⟨a,rfl⟩
 obtain⟨e2,rfl⟩:∃a,z2=[a]:=by rcases z2 with _|⟨a,_|⟨b,l⟩⟩<;>first|(simp at l2;done)|exact⟨a,rfl⟩
 refine⟨⟨e0,n,ops,e2⟩,hn,?_⟩
 rw[e]
 have R1:v1.oneCell'=true:=by cases r1;rfl
 exact .ints (zs:=[e0]) rfl (.gen (vs:=[v1]) (.cons r1 R1 .nil) rfl (.ints (zs:=[e2]) rfl .nil))
theorem Bv{w:World}(M:Int)(hM:(Lit.int .i64 M).wf=true)(A:Int)(hA:(Lit.int .i64 A).wf=true)(k:Int)(hk:(Lit.int .i64 k).wf=true)(v:Value)(n:Nat)(mv:Nat→Mv)(hn:n≤140737488351232)(hmv:∀j,j<n→(mv j).n≤140737488351232)(hv:RA (fun _=>True) w (.recs n 3 fun j=>mvF (mv j)) v)(hG:Sz gTab (fun _=>True) w):
  Calls Tryz.prog 3 #[.int .i64 M,.int .i64 A,.int .i64 k,v] w fun e w'=>e=.returned (.bool true)∧Below w.heap.size w w':=
 Ul (Fu M A k n mv (by omega) (fun j hj=>by have:=hmv j hj;omega)) hG (.cons (.v _) (.cons (.v _) (.cons (.v _) (.cons hv .nil))))
end Go.Proofs.YtjdjelopkhjdnaaGreatDoor
