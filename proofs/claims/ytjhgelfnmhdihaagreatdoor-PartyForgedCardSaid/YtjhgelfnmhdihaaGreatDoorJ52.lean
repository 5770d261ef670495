/-
  The law of parties: steps as a table; the approval of one.
-/
import Derived.Test.YtjhgelfnmhdihaaGreatDoorJ51
namespace Go.Proofs.YtjhgelfnmhdihaaGreatDoor
set_option linter.unusedVariables false
set_option linter.unusedSimpArgs false
set_option maxRecDepth 100000
open Go.RowKit
section
open Pm
theorem Hz{G:List (Option PS)}{fr:Int}{ops:List Int}{o:Nat}(h0:1≤G.length){p:PS}(hp:iE G 0=some p)(ha:l8 p.e p.zs p.ad p.k p.lf (au p.sg) fr ops o=0):bE G fr ops o 1 G.length=[wQ p fr ops]:=by
 have h1:bE G fr ops o 1 1=[wQ p fr ops]:=by
  have hb:Ti p fr ops o=true:=decide_eq_true ha
  rw[bE,if_pos (by rw[bE];decide),hp]
  dsimp only
  rw[if_pos hb,bE]
  rfl
 have:=tH (G:=G) (fr:=fr) (ops:=ops) (o:=o) (cap:=1) (i:=1) (by rw[h1];exact Nat.lt_irrefl 1) (G.length-1)
 rw[show 1+(G.length-1)=G.length by omega]at this
 rw[this,h1]
def uo(G:List (Option PS))(q:PS)(o:Nat)(ops:List Int)(cap:Nat):List (List Int):=bE G q.lf ops o cap G.length
def wE(G:List (Option PS))(fr:Nat)(q:PS)(o:Nat)(ops:List Int)(cap:Nat)(dr:Int):List (Option PS):=stepM G fr o ops (uo G q o ops cap).length (uo G q o ops cap).flatten (wL dr)
def af8:List A→(bP→Prop)→Prop
 |[.row n [.gen m l],.v (.int .i64 fr),x,.v (.int .i64 cap),.v (.int .i64 dr),.v (.bool st)],K=>∃G,n=G.length∧m=G.length*2∧l=gL G∧uS x fun o ops=>
  ∃q,Ig G∧0≤fr∧fr<G.length∧iE G fr.toNat=some q∧G.length≤64∧o≤3000∧0≤cap∧cap≤3000∧(st=true→bW q o ops (uo G q o ops cap.toNat).length (uo G q o ops cap.toNat).flatten=0)∧
   ∀H,H=wE G fr.toNat q o ops cap.toNat dr→K (.d (.row H.length [.gen (H.length*2) (gL H)]))
 |_,_=>False
theorem aS9{S:Nat→Prop}{w:World}{a b c d e f:A}{vs:List Value}(h:lW S w [a,b,c,d,e,f] vs):∃x y z u t r,vs=[x,y,z,u,t,r]∧RA S w a x∧RA S w b y∧RA S w c z∧RA S w d u∧RA S w e t∧RA S w f r:=by
 cases h with|cons h r=>cases r with|cons h2 r=>cases r with|cons h3 r=>cases r with|cons h4 r=>cases r with|cons h5 r=>cases r with|cons h6 r=>cases r;exact⟨_,_,_,_,_,_,rfl,h,h2,h3,h4,h5,h6⟩
theorem af9:∀args K,af8 args K→∃r,aP 16 args r∧K r:=by
 intro args K h
 unfold af8 at h
 split at h
 ·next n m l fr x cap dr st=>
  obtain⟨G,rfl,rfl,rfl,h⟩:=h
  obtain⟨o,ops,_,⟨q,hg,f0,f1,hq,hG,ho,c0,c1,hst,h⟩,hv⟩:=gM h
  obtain⟨fn,rfl⟩:=Int.eq_ofNat_of_zero_le f0
  obtain⟨cn,rfl⟩:=Int.eq_ofNat_of_zero_le c0
  refine⟨_,fun S w vs' hG' ha=>?_,h _ rfl⟩
  obtain⟨v1,v2,v3,v4,v5,v6,rfl,k1,k2,k3,k4,k5,k6⟩:=aS9 ha
  have hfn:aP 16 [.row G.length [.gen (G.length*2) (gL G)],.v (.int .i64 (fn:Nat)),.row o [.ints .i64 (o*5) ops],.v (.int .i64 (cn:Nat)),.v (.int .i64 dr),.v (.bool st)] (.d (.row (wE G fn q o ops cn dr).length [.gen ((wE G fn q o ops cn dr).length*2) (gL (wE G fn q o ops cn dr))])):=by
   by_cases z:bW q o ops (uo G q o ops cn).length (uo G q o ops cn).flatten=0
   ·exact af6 G hg fn q hq (by omega) hG o ops ho cn (by omega) dr st _ rfl z rfl
   ·obtain rfl:st=false:=by cases st with
     |false=>rfl
     |true=>exact absurd (hst rfl) z
    have e:wE G fn q o ops cn dr=G:=af7 hq z
    rw[e]
    exact af5 G hg fn q hq (by omega) hG o ops ho cn (by omega) dr _ rfl z
  exact hfn S w _ hG' (.cons k1 (.cons k2 (.cons (hv k3) (.cons k4 (.cons k5 (.cons k6 .nil))))))
 ·exact h.elim
theorem WY{G:List (Option PS)}(h:Ig G){fr:Nat}{q:PS}(hq:iE G fr=some q)(o:Nat)(ops:List Int)(cap:Nat)(dr:Int):Ig (wE G fr q o ops cap dr):=uJ h hq _ _ _ _ _
theorem YB{A i:Nat}(a0:1≤A)(hi:i+1<6):let G:=dV A i
  let pr:=decide (i+1<A)
  Ig G∧G.length=i+1∧iE G 0=some (iW G)∧bW (iW G) (kJ pr) (opsV (jX (i+1)) (l7 (i+1)) (i+1) pr) (uo G (iW G) (kJ pr) (opsV (jX (i+1)) (l7 (i+1)) (i+1) pr) 1).length (uo G (iW G) (kJ pr) (opsV (jX (i+1)) (l7 (i+1)) (i+1) pr) 1).flatten=0∧
  wE G 0 (iW G) (kJ pr) (opsV (jX (i+1)) (l7 (i+1)) (i+1) pr) 1 ((i+1:Nat):Int)=dV A (i+1):=by
 intro G pr
 have g:=r9 a0 i (by omega)
 have hf:=Dz g (by omega)
 obtain⟨c1,c2,c3⟩:=K4 g (by omega) hi a0
 have hl:G.length=i+1:=g.full.len
 have hv:uo G (iW G) (kJ pr) (opsV (jX (i+1)) (l7 (i+1)) (i+1) pr) 1=[fZ (iW G) (opsV (jX (i+1)) (l7 (i+1)) (i+1) pr)]:=by
  unfold uo
  rw[Hz (G:=G) (show 1≤G.length by rw[hl];omega) hf c1]
  have hz:(iW G).lf=0:=(g.v _ hf).lf
  unfold wQ fZ
  rw[hz]
 refine⟨g.full.FC,hl,hf,?_,?_⟩
 ·rw[hv]
  show bW _ _ _ 1 ([fZ _ _]:List (List Int)).flatten=0
  rw[List.flatten_singleton]
  exact c2
 ·unfold wE
  rw[hv]
  show stepM G 0 _ _ 1 ([fZ _ _]:List (List Int)).flatten _=_
  rw[List.flatten_singleton]
  rfl
theorem DF{A i:Nat}(a0:1≤A)(hi:i<6):Ig (dV A i)∧(dV A i).length=i+1∧iE (dV A i) 0=some (iW (dV A i)):=
 ⟨(r9 a0 i hi).full.FC,(r9 a0 i hi).full.len,Dz (r9 a0 i hi) (by omega)⟩
theorem as2{A i:Nat}{k:Int}(a0:1≤A)(hi:i<6)(k0:1≤k)(k1:k≤A)(k2:k≤(i+1:Nat)):bW (iW (dV A i)) 1 (opsL k) (uo (dV A i) (iW (dV A i)) 1 (opsL k) 1).length (uo (dV A i) (iW (dV A i)) 1 (opsL k) 1).flatten=0∧
  wE (dV A i) 0 (iW (dV A i)) 1 (opsL k) 1 99=Zk k (dV A i):=by
 have g:=r9 a0 i hi
 have hf:=Dz g (by omega)
 obtain⟨c1,c2,c3⟩:=Gh g (by omega) (by omega) k0 k1 k2
 have hl:(dV A i).length=i+1:=g.full.len
 have hv:uo (dV A i) (iW (dV A i)) 1 (opsL k) 1=[fZ (iW (dV A i)) (opsL k)]:=by
  unfold uo
  rw[Hz (by omega) hf c1]
  have hz:(iW (dV A i)).lf=0:=(g.v _ hf).lf
  unfold wQ fZ
  rw[hz]
 refine⟨?_,?_⟩
 ·rw[hv]
  show bW _ _ _ 1 ([fZ _ _]:List (List Int)).flatten=0
  rw[List.flatten_singleton]
  exact c2
 ·unfold wE
  rw[hv]
  show stepM (dV A i) 0 _ _ 1 ([fZ _ _]:List (List Int)).flatten _=_
  rw[List.flatten_singleton]
  rfl
noncomputable def aM2:ay:=Iz.add 16 af8 af9 ⟨_,Tryz.func16,by kernel_rfl,by kernel_rfl⟩
noncomputable def Ob:ay:=aM2.add 38 Ca C8 ⟨_,Tryz.func38,by kernel_rfl,by kernel_rfl⟩
end
section
open Pm
attribute [local irreducible] aU aZ bR aA au dB cO aF bZ aN aT av ak aR cZ bX aQ bK gB iC aD bA aO jW dJ bW bH aH bT fU bJ bg gY aJ nk qP kF bn fV eD dU eT bq aC bU fE dQ eF wH bE dV stepM wE uo aY iW
set_option maxHeartbeats 8000000 in
theorem Yz(N A k:Nat)(m2:N+2≤6)(a0:1≤A)(a1:A≤N+2)(k0:1≤k)(k1:k≤A){H:List (Option PS)}(hH:H=pG (N+2) A (k:Int)):
  aP 15 [.v (.int .i64 ((N+2:Nat):Int)),.v (.int .i64 (A:Nat)),.v (.int .i64 (k:Nat))] (.d (.row H.length [.gen (H.length*2) (gL H)])):=by
 refine dK (E:=Ob) Tryz.func15 Tryz.ntmps15 ?_
 have HH:=Lib.hid hH
 have hG0:dV A 0=[some (aY (bU 0))]:=by unfold dV;rfl
 have HG0:=Lib.hid hG0
 clear hH hG0
 refine aj ?_;(try exact⟨⟩)
 intro h hh
 obtain rfl:h=bU 0:=hh
 refine aj ?_;(try exact⟨⟩)
 intro p hp
 have HP:=Lib.hid hp
 clear hp
 refine aj ?_;(try exact⟨⟩)
 intro h hh
 obtain rfl:h=bU 0:=hh
 refine aj ?_;(try exact⟨⟩)
 intro x hx
 obtain rfl:x=dQ p:=by rw[HP.out];exact hx
 clear hx
 refine aj ?_;(try exact⟨⟩)
 refine aM.mk (UC [0,1,2,7,8] [0] 0 (N+1) (fun j=>⟨[.d (.v (.int .i64 ((N+2:Nat):Int))),.d (.v (.int .i64 (A:Nat))),.d (.v (.int .i64 (k:Nat))),.ah,.ah,.ah,.ah,.d (.row (dV A j).length [.gen ((dV A j).length*2) (gL (dV A j))]),.d (.v (.int .i64 ((j+1:Nat):Int))),.ah,.ah,.ah,.ah,.ah,.ah,.ah,.ah,.ah,.ah,.ah,.ah,.ah,.ah,.ah,.ah,.ah,.ah,.ah,.ah,.ah,.ah,.ah,.ah,.ah,.ah,.ah,.ah,.ah,.ah,.ah,.ah,.ah,.ah,.ah,.ah,.ah,.ah,.ah],[none]⟩) ?_ (h2:=by dsimp only;rw[HG0.out,←HP.out];exact rfl))
 intro j hj hl
 by_cases h:j<N+1
 ·have i1:((j+1:Nat):Int)<((N+2:Nat):Int):=by omega
  obtain⟨q1,q2,q3,q4,q5⟩:=YB (A:=A) (i:=j) a0 (by omega)
  have q2:(dV A j).length=j+1:=q2
  refine aj ?_;(try exact⟨⟩)
  intro h' hh
  obtain rfl:h'=bU ((j+1:Nat):Int):=hh
  refine aj ?_;(try exact⟨⟩)
  intro L hL
  obtain rfl:L=[jX (j+1),l7 (j+1)]:=hL.trans (I6 (j+1))
  clear hL
  by_cases pr:j+1<A
  ·have p1:((j+1:Nat):Int)<(A:Int):=by omega
   refine aj ?_;(try exact⟨⟩)
   rw[decide_eq_true pr]at q4 q5
   refine⟨iW (dV A j),q1,by omega,by omega,q3,by omega,by omega,by omega,by omega,fun _=>q4,?_⟩
   intro H' K5
   obtain rfl:H'=dV A (j+1):=K5.trans q5
   clear K5 q4 q5
   have n1:(dV A (j+1)).length≠0:=by rw[(DF (A:=A) (i:=j+1) a0 (by omega)).2.1];omega
   have n2:dV A (j+1)≠[]:=fun e=>n1 (by rw[e];rfl)
   refine aj ?_;(try exact⟨⟩)
   refine hl.go h [0,1,2,7,8] [0] ?_
   rfl
  ·have p1:¬((j+1:Nat):Int)<(A:Int):=by omega
   refine aj ?_;(try exact⟨⟩)
   rw[decide_eq_false pr]at q4 q5
   refine⟨iW (dV A j),q1,by omega,by omega,q3,by omega,by omega,by omega,by omega,fun _=>q4,?_⟩
   intro H' K5
   obtain rfl:H'=dV A (j+1):=K5.trans q5
   clear K5 q4 q5
   have n1:(dV A (j+1)).length≠0:=by rw[(DF (A:=A) (i:=j+1) a0 (by omega)).2.1];omega
   have n2:dV A (j+1)≠[]:=fun e=>n1 (by rw[e];rfl)
   refine aj ?_;(try exact⟨⟩)
   refine hl.go h [0,1,2,7,8] [0] ?_
   rfl
 ·obtain rfl:j=N+1:=by omega
  have i1:¬((N+1+1:Nat):Int)<((N+2:Nat):Int):=by omega
  obtain⟨q1,q2,q3⟩:=DF (A:=A) (i:=N+1) a0 (by omega)
  by_cases k2:k>1
  ·have k3:(k:Int)>1:=by omega
   obtain⟨q4,q5⟩:=as2 (A:=A) (i:=N+1) (k:=(k:Int)) a0 (by omega) (by omega) (by omega) (by omega)
   have hHe:H=Zk (k:Int) (dV A (N+1)):=by rw[HH.out];exact if_pos k3
   rw[hHe]
   clear hHe
   refine aj ?_;(try exact⟨⟩)
   refine⟨iW (dV A (N+1)),q1,by omega,by omega,q3,by omega,by omega,by omega,by omega,fun _=>q4,?_⟩
   intro H' K5
   obtain rfl:H'=Zk (k:Int) (dV A (N+1)):=K5.trans q5
   clear K5 q4 q5
   refine aj ?_;(try exact⟨⟩)
  ·have k3:¬(k:Int)>1:=by omega
   have hHe:H=dV A (N+1):=by rw[HH.out];exact if_neg k3
   rw[hHe]
   clear hHe
   refine aj ?_;(try exact⟨⟩)
end
section
open Pm
attribute [local irreducible] aU aZ bR aA au dB cO aF bZ aN aT av ak aR cZ bX aQ bK gB iC aD bA aO jW dJ bW bH aH bT fU bJ bg gY aJ nk qP kF bn fV eD dU eT bq aC bU fE dQ eF wH bE dV stepM wE uo aY iW
set_option maxHeartbeats 2000000 in
theorem Ui:aP 15 [.v (.int .i64 1),.v (.int .i64 1),.v (.int .i64 1)] (.d (.row 1 [.gen 2 (gL [some (aY (bU 0))])])):=by
 refine mZ (e:=31) (sz:=2) (dK (E:=Ob) Tryz.func15 Tryz.ntmps15 ?_)
 refine aj ?_;(try exact⟨⟩)
 intro h hh
 obtain rfl:h=bU 0:=hh
 refine aj ?_;(try exact⟨⟩)
 intro p hp
 have HP:=Lib.hid hp
 clear hp
 refine aj ?_;(try exact⟨⟩)
 intro h hh
 obtain rfl:h=bU 0:=hh
 refine aj ?_;(try exact⟨⟩)
 intro x hx
 obtain rfl:x=dQ p:=by rw[HP.out];exact hx
 clear hx
 refine aj ?_;(try exact⟨⟩)
 refine aM.mk (aB 1 ?_)
 refine aj ?_;(try exact⟨⟩)
 try(rw[←HP.out];rfl)
def OC:List A→(bP→Prop)→Prop
 |[.v (.int .i64 m),.v (.int .i64 a),.v (.int .i64 k)],K=>1≤m∧m≤6∧1≤a∧a≤m∧1≤k∧k≤a∧∀H,H=pG m.toNat a.toNat k→K (.d (.row H.length [.gen (H.length*2) (gL H)]))
 |_,_=>False
theorem groupM_1:pG 1 1 1=[some (aY (bU 0))]:=by
 unfold pG
 rw[if_neg (by decide)]
 unfold dV
 rfl
theorem Uk:∀args K,OC args K→∃r,aP 15 args r∧K r:=by
 intro args K h
 unfold OC at h
 split at h
 ·next m a k=>
  obtain⟨h1,h2,h3,h4,h5,h6,h⟩:=h
  refine⟨_,?_,h _ rfl⟩
  obtain⟨M,rfl⟩:=Int.eq_ofNat_of_zero_le (show 0≤m by omega)
  obtain⟨A,rfl⟩:=Int.eq_ofNat_of_zero_le (show 0≤a by omega)
  obtain⟨k,rfl⟩:=Int.eq_ofNat_of_zero_le (show 0≤k by omega)
  rw[Int.toNat_natCast,Int.toNat_natCast]
  by_cases hM:M=1
  ·obtain rfl:A=1:=by omega
   obtain rfl:k=1:=by omega
   subst hM
   have e:pG 1 1 ((1:Nat):Int)=[some (aY (bU 0))]:=groupM_1
   rw[e]
   exact Ui
  ·obtain⟨N,rfl⟩:∃N,M=N+2:=⟨M-2,by omega⟩
   exact Yz N A k (by omega) (by omega) (by omega) (by omega) (by omega) rfl
 ·exact h.elim
noncomputable def aM3:ay:=Ob.add 15 OC Uk ⟨_,Tryz.func15,by kernel_rfl,by kernel_rfl⟩
noncomputable def Oc:ay:=aM3.add 17 IZ (Gq GU) ⟨_,Tryz.func17,by kernel_rfl,by kernel_rfl⟩
end
end Go.Proofs.YtjhgelfnmhdihaaGreatDoor
