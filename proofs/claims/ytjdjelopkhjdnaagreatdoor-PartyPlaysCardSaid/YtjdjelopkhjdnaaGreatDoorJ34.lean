/-
  Parties: how commits and parties are handed in; bodies, what is signed.
-/
import Derived.Test.YtjdjelopkhjdnaaGreatDoorJ33
import Derived.Test.YtjdjelopkhjdnaaGreatDoorJ32
namespace Go.Proofs.YtjdjelopkhjdnaaGreatDoor
set_option linter.unusedVariables false
set_option linter.unusedSimpArgs false
set_option maxRecDepth 100000
open Go.RowKit
section
open Pm
attribute [local irreducible] aV aZ bQ aA au dA cK bC aF bW aN aU
def qA(bx:Nat→List UInt8)(k:Nat):List A:=(List.range k).map fun j=>.row (bx j).length [.bytes (bx j).length (bx j)]
def bxK:A→(Nat→(Nat→List UInt8)→Prop)→Prop
 | .recs k s f,K=>s=1∧∃bx,f=Hz bx∧K k bx
 | .row k [.gen m l],K=>m=k∧∃bx,l=qA bx k∧K k bx
 | .v (.slice none 0 0),K=>K 0 fun _=>[]
 |_,_=>False
theorem ab8(bx:Nat→List UInt8){k j:Nat}(h:j<k):(qA bx k).getD j (.v undef)=.row (bx j).length [.bytes (bx j).length (bx j)]:=by
 simp[qA,List.getD_eq_getElem?_getD,h]
theorem WT{x:A}{K:Nat→(Nat→List UInt8)→Prop}(h:bxK x K):∃k bx,K k bx∧∀{S:Nat→Prop} {w:World} {v:Value},RA S w x v→RA S w (.recs k 1 (Hz bx)) v:=by
 unfold bxK at h
 split at h
 ·obtain⟨rfl,bx,rfl,h⟩:=h
  exact⟨_,_,h,fun h=>h⟩
 ·obtain⟨rfl,bx,rfl,h⟩:=h
  exact⟨_,_,h,fun hv=>av9 (fun j hj=>by rw[ab8 bx hj];rfl) hv⟩
 ·refine⟨_,_,h,fun {S w v} hv=>?_⟩
  rw[RA.plain hv]
  exact .recs (cs:=fun _=>[]) (fun j hj=>absurd hj (by omega)) (Nat.le_refl _) (Nat.zero_le _) (fun _=>rfl) (.inl rfl)
 ·exact h.elim
def oW:A→(CS→Prop)→Prop
 | .agg [.ints .i64 2 [e,fr],.gen 2 [x,y],.ints .i64 4 [sl,a,b,c],.gen 1 [z],.bytes 32 tg,.ints .i64 2 [sE,sS]],K=>
  uL x fun n ops=>EO y fun m vs=>bxK z fun k bx=>n≤3000∧m≤3000∧k≤3000∧(∀j,j<k→(bx j).length≤6000)∧K ⟨e,fr,n,ops,m,vs,sl,a,b,c,k,bx,tg,sE,sS⟩
 |_,_=>False
theorem gG{x:A}{K:CS→Prop}(h:oW x K):∃c,K c∧∀{S:Nat→Prop} {w:World} {v:Value},RA S w x v→RA S w (.agg (gW c)) v∧qH c∧c.tag.length=32:=by
 unfold oW at h
 split at h
 ·next e fr x y sl a b c z tg sE sS=>
  obtain⟨n,ops,hn,h,hx⟩:=gJ h
  obtain⟨m,vs,hm,h,hy⟩:=kH h
  obtain⟨k,bx,⟨h1,h2,h3,h4,h⟩,hz⟩:=WT h
  refine⟨_,h,fun {S w v} hv=>?_⟩
  cases hv with
  |agg hl=>
   cases hl with
   |ints q1 r1=>
    cases r1 with
    |gen g1 q2 r2=>
     cases r2 with
     |ints q3 r3=>
      cases r3 with
      |gen g2 q4 r4=>
       cases r4 with
       |bytes q5 r5=>
        cases r5 with
        |ints q6 r6=>
         cases r6
         cases g1 with
         |cons gx gx1 g1=>
          cases g1 with
          |cons gy gy1 g1=>
           cases g1
           cases g2 with
           |cons gz gz1 g2=>
            cases g2
            have kx:=hx gx
            have ky:=hy gy
            have lx:ops.length=n*5:=by cases kx with|row k1 _ _ _ _=>exact k1.kN.1
            have ly:vs.length=m*3:=by cases ky with|row k1 _ _ _ _=>exact k1.kN.1
            exact⟨.agg (.ints q1 (.gen (.cons kx gx1 (.cons ky gy1 .nil)) rfl (.ints q3 (.gen (.cons (hz gz) gz1 .nil) rfl (.bytes q5 (.ints q6 .nil)))))),⟨h1,h2,h3,lx,ly,h4⟩,q5⟩
 ·exact h.elim
def Xl(g:CS→bP):List A→(bP→Prop)→Prop
 |[x],K=>oW x fun c=>K (g c)
 |_,_=>False
theorem Ic{f:FuncId}{g:CS→bP}(hx:∀c,qH c→c.tag.length=32→aQ f [.agg (gW c)] (g c)):∀args K,Xl g args K→∃r,aQ f args r∧K r:=by
 intro args K h
 unfold Xl at h
 split at h
 ·obtain⟨c,h,hc⟩:=gG h
  refine⟨_,fun S w vs hG ha=>?_,h⟩
  obtain⟨v,rfl,h1⟩:=iL ha
  obtain⟨k1,k2,k3⟩:=hc h1
  exact hx c k2 k3 S w _ hG (.cons k1 .nil)
 ·exact h.elim
def aA1(c:CS):bP:=.o 5 1 (eD c) [.bytes (eD c) (aU c)]
def vX(c:CS):bP:=.o 5 1 (eD c+32) [.bytes (eD c+32) (aU c++c.tag)]
def QK:List A→(bP→Prop)→Prop
 |[x],K=>oW x fun c=>K (aA1 c)∨K (.d (.row (eD c) [.bytes (eD c) (aU c)]))
 |_,_=>False
theorem J3{f:FuncId}(hx:∀c,qH c→aQ f [.agg (gW c)] (aA1 c)):∀args K,QK args K→∃r,aQ f args r∧K r:=by
 intro args K h
 unfold QK at h
 split at h
 ·obtain⟨c,h,hc⟩:=gG h
  rcases h with h|h
  ·refine⟨_,fun S w vs hG ha=>?_,h⟩
   obtain⟨v,rfl,h1⟩:=iL ha
   obtain⟨k1,k2,k3⟩:=hc h1
   exact hx c k2 S w _ hG (.cons k1 .nil)
  ·refine⟨_,fun S w vs hG ha=>?_,h⟩
   obtain⟨v,rfl,h1⟩:=iL ha
   obtain⟨k1,k2,k3⟩:=hc h1
   exact mQ (hx c k2) S w _ hG (.cons k1 .nil)
 ·exact h.elim
noncomputable def bb5:av:=aY5.add 87 QK (J3 ah3) ⟨_,Tryz.func87,by kernel_rfl,by kernel_rfl⟩
noncomputable def XW:av:=bb5.add 112 QK (J3 aa8) ⟨_,Tryz.func112,by kernel_rfl,by kernel_rfl⟩
theorem yw{c:CS}(h:qH c):eD c≤30000000:=by
 have:=wW (bx:=c.bx) (k:=c.k) h.bx
 have h1:=h.n;have h2:=h.m;have h3:=h.k
 unfold eD
 omega
attribute [local irreducible] eD
set_option maxHeartbeats 1000000 in
theorem Vk(c:CS)(hc:qH c)(ht:c.tag.length=32):aQ 41 [.agg (gW c)] (vX c):=by
 refine dF (E:=XW) Tryz.func41 Tryz.ntmps41 ?_
 have hb:=yw hc
 have hl:=iT hc
 obtain⟨e,fr,n,ops,m,vs,sl,a,b,d,k,bx,tg,sE,sS⟩:=c
 obtain⟨h1,h2,h3,h4,h5,h6⟩:=id hc
 simp only at h1 h2 h3 h4 h5 h6 ht
 refine aj ?_;(try exact⟨⟩)
 refine Or.inl ?_
 refine aj ?_;(try exact⟨⟩)
 rfl
set_option maxHeartbeats 1000000 in
theorem Eb(c:CS)(hc:qH c)(ht:c.tag.length=32):aQ 55 [.agg (gW c)] (vX c):=by
 refine dF (E:=XW) Tryz.func55 Tryz.ntmps55 ?_
 have hb:=yw hc
 have hl:=iT hc
 obtain⟨e,fr,n,ops,m,vs,sl,a,b,d,k,bx,tg,sE,sS⟩:=c
 obtain⟨h1,h2,h3,h4,h5,h6⟩:=id hc
 simp only at h1 h2 h3 h4 h5 h6 ht
 refine aj ?_;(try exact⟨⟩)
 refine Or.inr ?_
 refine aj ?_;(try exact⟨⟩)
 simp only[vX,List.length_append,hl,ht]
noncomputable def bb6:av:=XW.add 41 (Xl vX) (Ic Vk) ⟨_,Tryz.func41,by kernel_rfl,by kernel_rfl⟩
noncomputable def aB9:av:=bb6.add 55 (Xl vX) (Ic Eb) ⟨_,Tryz.func55,by kernel_rfl,by kernel_rfl⟩
end
section
open Pm
attribute [local irreducible] aV aZ bQ aA au dA cK bC aF bW aN aU ay ak aT
def Wd:A→(PS→Prop)→Prop
 | .sref [.ints .i64 1 [e],.ints .i64 31 zs,.bools 8 ad,.ints .i64 1 [k],.bytes 32 ch,.ints .i64 1 [lf],.bytes 32 sg,.bytes 32 sc,.bytes 96 ab,.bytes 32 ep,.bytes 32 jE] 0,K=>K ⟨e,zs,ad,k,ch,lf,sg,sc,ab,ep,jE⟩
 |_,_=>False
theorem qQ{x:A}{K:PS→Prop}(h:Wd x K):∃p,x=.sref (bL p) 0∧K p:=by
 unfold Wd at h
 split at h
 ·exact⟨_,rfl,h⟩
 ·exact h.elim
def prM:Bk→(PS→Prop)→Prop
 | .var [.ints .i64 1 [e],.ints .i64 31 zs,.bools 8 ad,.ints .i64 1 [k],.bytes 32 ch,.ints .i64 1 [lf],.bytes 32 sg,.bytes 32 sc,.bytes 96 ab,.bytes 32 ep,.bytes 32 jE],K=>K ⟨e,zs,ad,k,ch,lf,sg,sc,ab,ep,jE⟩
 |_,_=>False
theorem xO{x:Bk}{K:PS→Prop}(h:prM x K):∃p,x=.var (bL p)∧K p:=by
 unfold prM at h
 split at h
 ·exact⟨_,rfl,h⟩
 ·exact h.elim
def ofP(g:PS→bP)(g0:bP):List A→(bP→Prop)→Prop
 |[.v (.pointer none)],K=>K g0
 |[x],K=>Wd x fun p=>K (g p)
 |_,_=>False
theorem OJ{f:FuncId}{g:PS→bP}{g0:bP}(h0:aQ f [.v (.pointer none)] g0)(hx:∀p,aQ f [.sref (bL p) 0] (g p)):∀args K,ofP g g0 args K→∃r,aQ f args r∧K r:=by
 intro args K h
 unfold ofP at h
 split at h
 ·exact⟨_,h0,h⟩
 ·obtain⟨p,rfl,h⟩:=qQ h
  exact⟨_,hx p,h⟩
 ·exact h.elim
set_option maxHeartbeats 1000000 in
theorem Te(h:List UInt8):aQ 20 [.agg [.bytes 32 h]] (.p (.var (bL (by0 h)))):=by
 refine dF (E:=aB9) Tryz.func20 Tryz.ntmps20 ?_
 refine aj ?_;(try exact⟨⟩)
 rfl
def newP(g:List UInt8→PS):List A→(bP→Prop)→Prop
 |[.agg [.bytes 32 h]],K=>K (.p (.var (bL (g h))))∨K (.d (.sref (bL (g h)) 0))
 |_,_=>False
theorem Rs{f:FuncId}{g:List UInt8→PS}(hx:∀h,aQ f [.agg [.bytes 32 h]] (.p (.var (bL (g h))))):∀args K,newP g args K→∃r,aQ f args r∧K r:=by
 intro args K h
 unfold newP at h
 split at h
 ·rcases h with h|h
  ·exact⟨_,hx _,h⟩
  ·exact⟨_,BR (hx _),h⟩
 ·exact h.elim
noncomputable def bb7:av:=aB9.add 20 (newP by0) (Rs Te) ⟨_,Tryz.func20,by kernel_rfl,by kernel_rfl⟩
noncomputable def bb8:av:=bb7.add 34 IL Gi ⟨_,Tryz.func34,by kernel_rfl,by kernel_rfl⟩
noncomputable def bb9:av:=bb8.add 26 zn xR ⟨_,Tryz.func26,by kernel_rfl,by kernel_rfl⟩
noncomputable def bc4:av:=bb9.add 148 Gh (y5 Rt) ⟨_,Tryz.func148,by kernel_rfl,by kernel_rfl⟩
noncomputable def bc5:av:=bc4.add 102 Gh (y5 L6) ⟨_,Tryz.func102,by kernel_rfl,by kernel_rfl⟩
noncomputable def bc6:av:=bc5.add 78 Vv ax8 ⟨_,Tryz.func78,by kernel_rfl,by kernel_rfl⟩
noncomputable def bc7:av:=bc6.add 45 Vv Mi ⟨_,Tryz.func45,by kernel_rfl,by kernel_rfl⟩
noncomputable def bc8:av:=bc7.add 89 Av (wm MJ) ⟨_,Tryz.func89,by kernel_rfl,by kernel_rfl⟩
noncomputable def qZ:av:=bc8.add 113 Av (wm GN) ⟨_,Tryz.func113,by kernel_rfl,by kernel_rfl⟩
set_option maxHeartbeats 1000000 in
theorem Vl(p:PS):aQ 40 [.sref (bL p) 0] (.p (.obj (pX (au p.sg)))):=by
 refine dF (E:=qZ) Tryz.func40 Tryz.ntmps40 ?_
 refine aj ?_;(try exact⟨⟩)
theorem P5:aQ 40 [.v (.pointer none)] (.d (.v (.pointer none))):=by
 refine dF (E:=qZ) Tryz.func40 Tryz.ntmps40 ?_
 refine aj ?_;(try exact⟨⟩)
theorem ay0(p:PS):aQ 19 [.sref (bL p) 0] (.d (.agg (bR p.e p.zs p.ad p.k p.ch))):=by
 refine dF (E:=qZ) Tryz.func19 Tryz.ntmps19 ?_
 refine aj ?_;(try exact⟨⟩)
theorem ah1:aQ 19 [.v (.pointer none)] (.d (.agg wL)):=by
 refine dF (E:=qZ) Tryz.func19 Tryz.ntmps19 ?_
 refine aj ?_;(try exact⟨⟩)
 rfl
theorem Z4(p:PS):aQ 18 [.sref (bL p) 0] (.d (.v (.int .i64 p.lf))):=by
 refine dF (E:=qZ) Tryz.func18 Tryz.ntmps18 ?_
 refine aj ?_;(try exact⟨⟩)
theorem UN:aQ 18 [.v (.pointer none)] (.d (.v (.int .i64 0))):=by
 refine dF (E:=qZ) Tryz.func18 Tryz.ntmps18 ?_
 refine aj ?_;(try exact⟨⟩)
theorem QT(p:PS):aQ 30 [.sref (bL p) 0] (.p (.var (bL p))):=by
 refine dF (E:=qZ) Tryz.func30 Tryz.ntmps30 ?_
 refine aj ?_;(try exact⟨⟩)
theorem Xr:aQ 30 [.v (.pointer none)] (.d (.v (.pointer none))):=by
 refine dF (E:=qZ) Tryz.func30 Tryz.ntmps30 ?_
 refine aj ?_;(try exact⟨⟩)
theorem TF(p:PS)(l:ByteArray)(hl:l.size≤1000000):aQ 140 [.sref (bL p) 0,.v (.string l)] (.d (.agg [.bytes 32 (TD p.ep (sb l))])):=by
 refine dF (E:=qZ) Tryz.func140 Tryz.ntmps140 ?_
 refine aj ?_;(try exact⟨⟩)
 rfl
theorem NU(l:ByteArray):aQ 140 [.v (.pointer none),.v (.string l)] (.d (.agg [.bytes 32 (zB 32)])):=by
 refine dF (E:=qZ) Tryz.func140 Tryz.ntmps140 ?_
 refine aj ?_;(try exact⟨⟩)
 rfl
theorem Uf(p:PS):aQ 29 [.sref (bL p) 0] (.d (.v (.bool (decide (p.e≥1099511627776))))):=by
 refine dF (E:=qZ) Tryz.func29 Tryz.ntmps29 ?_
 refine aj ?_;(try exact⟨⟩)
noncomputable def aC0:av:=qZ.add 40 (ofP (fun p=>.p (.obj (pX (au p.sg)))) (.d (.v (.pointer none)))) (OJ P5 Vl) ⟨_,Tryz.func40,by kernel_rfl,by kernel_rfl⟩
set_option maxHeartbeats 1000000 in
theorem ar2(h:List UInt8):aQ 21 [.agg [.bytes 32 h]] (.d (.agg [.ints .i64 2 (fu h)])):=by
 refine dF (E:=aC0) Tryz.func21 Tryz.ntmps21 ?_
 have h1:=fZ (jP h)
 have h2:=fZ (ay (aC h))
 obtain⟨a1,a2⟩:=h1
 obtain⟨a3,a4⟩:=h2
 have a5:0≤au (jP h):=by omega
 have a6:0≤au (ay (aC h)):=by omega
 refine aj ?_;(try exact⟨⟩)
 refine Or.inr ?_
 refine aj ?_;(try exact⟨⟩)
 try rfl
theorem XC(p:PS)(h:List UInt8):fK 22 0 (.var (bL p)) [.agg [.bytes 32 h]] (.t []) (.var (bL (dU p h))):=by
 refine mP (E:=qZ) Tryz.func22 Tryz.ntmps22 ?_
 refine aj ?_;(try exact⟨⟩)
end
section
open Pm
attribute [local irreducible] aV aZ bQ aA au dA cK bC aF bW aN aU ay ak aT dh bX
def Zm(g:PS→List UInt8→bP)(g':PS→List UInt8→PS):Nat→Bk→List A→(bP→Bk→Prop)→Prop
 |0,b,[.agg [.bytes 32 h]],K=>prM b fun p=>K (g p h) (.var (bL (g' p h)))
 |_,_,_,_=>False
theorem IJ{f:FuncId}{g:PS→List UInt8→bP}{g':PS→List UInt8→PS}(hx:∀p h,fK f 0 (.var (bL p)) [.agg [.bytes 32 h]] (g p h) (.var (bL (g' p h)))):∀pos x args K,Zm g g' pos x args K→∃r x',fK f pos x args r x'∧K r x':=by
 intro pos x args K h
 unfold Zm at h
 split at h
 ·obtain⟨p,rfl,h⟩:=xO h
  exact⟨_,_,hx p _,h⟩
 ·exact h.elim
noncomputable def bc9:av:=aC0.kr 22 (Zm (fun _ _=>.t []) dU) (IJ XC) ⟨_,Tryz.func22,by kernel_rfl,by kernel_rfl⟩
def Zb:List A→(bP→Prop)→Prop
 |[.agg [.bytes 32 h]],K=>∀L,L=fu h→K (.d (.agg [.ints .i64 2 L]))
 |_,_=>False
theorem Zc:∀args K,Zb args K→∃r,aQ 21 args r∧K r:=by
 intro args K h
 unfold Zb at h
 split at h
 ·exact⟨_,ar2 _,h _ rfl⟩
 ·exact h.elim
noncomputable def XY:av:=bc9.add 21 Zb Zc ⟨_,Tryz.func21,by kernel_rfl,by kernel_rfl⟩
set_option maxHeartbeats 1000000 in
theorem FL(h:List UInt8):aQ 7 [.agg [.bytes 32 h]] (.p (.var (bL (aY h)))):=by
 refine dF (E:=XY) Tryz.func7 Tryz.ntmps7 ?_
 refine aj ?_;(try exact⟨⟩)
 refine Or.inl ?_
 refine aj ?_;(try exact⟨⟩)
 intro L hL
 refine aj ?_;(try exact⟨⟩)
 have e:aY h=dU ⟨0,L++List.drop 2 (List.replicate 31 0),(List.replicate 8 false).set 0 true,1,zB 32,0,jP h,aC h,zB 96,zB 32,zB 32⟩ (Od (aC h)):=by rw[hL];rfl
 rw[e]
 rfl
set_option maxHeartbeats 1000000 in
theorem aa9(p:PS)(h:List UInt8):fK 38 0 (.var (bL p)) [.agg [.bytes 32 h]] (.d (.agg [.bytes 32 (dY (bG p h).ep)])) (.var (bL (bG p h))):=by
 refine mP (E:=XY) Tryz.func38 Tryz.ntmps38 ?_
 have hv:(aT p.e p.zs p.ad p.k p.ch).length=32:=EN _ _ _ _ _
 refine aj ?_;(try exact⟨⟩)
 rfl
noncomputable def aC1:av:=XY.kr 38 (Zm (fun p h=>.d (.agg [.bytes 32 (dY (bG p h).ep)])) bG) (IJ aa9) ⟨_,Tryz.func38,by kernel_rfl,by kernel_rfl⟩
set_option maxHeartbeats 1000000 in
theorem ab2(p:PS)(h:List UInt8):fK 31 0 (.var (bL p)) [.agg [.bytes 32 h]] (.d (.agg [.bytes 32 (uY (aC h))])) (.var (bL (iM p h))):=by
 refine mP (E:=aC1) Tryz.func31 Tryz.ntmps31 ?_
 refine aj ?_;(try exact⟨⟩)
 rfl
noncomputable def bd0:av:=aC1.kr 31 (Zm (fun p h=>.d (.agg [.bytes 32 (uY (aC h))])) iM) (IJ ab2) ⟨_,Tryz.func31,by kernel_rfl,by kernel_rfl⟩
noncomputable def bd1:av:=bd0.add 7 (newP aY) (Rs FL) ⟨_,Tryz.func7,by kernel_rfl,by kernel_rfl⟩
def al5:List A→(bP→Prop)→Prop
 |[.agg [.ints .i64 1 [e],.ints .i64 31 zs,.bools 8 ad,.ints .i64 1 [k],.bytes 32 ch],.v (.int .i64 fr),x,y],K=>uL x fun n ops=>EO y fun m vs=>K (.d (.v (.int .i64 (bX e zs ad k ch fr ops n vs m))))
 |_,_=>False
theorem mh{S:Nat→Prop}{w:World}{a b c d:A}{vs:List Value}(h:lK S w [a,b,c,d] vs):∃x y z u,vs=[x,y,z,u]∧RA S w a x∧RA S w b y∧RA S w c z∧RA S w d u:=by
 cases h with|cons h r=>cases r with|cons h2 r=>cases r with|cons h3 r=>cases r with|cons h4 r=>cases r;exact⟨_,_,_,_,rfl,h,h2,h3,h4⟩
theorem QN{f:FuncId}(hx:∀e zs ad k ch fr ops n,n≤1000000→∀vs m,m≤1000000→vs.length=m*3→aQ f [.agg (bR e zs ad k ch),.v (.int .i64 fr),.row n [.ints .i64 (n*5) ops],.row m [.ints .i64 (m*3) vs]] (.d (.v (.int .i64 (bX e zs ad k ch fr ops n vs m))))):∀args K,al5 args K→∃r,aQ f args r∧K r:=by
 intro args K h
 unfold al5 at h
 split at h
 ·obtain⟨n,ops,hn,h,hp⟩:=gJ h
  obtain⟨m,vs,hm,h,hq⟩:=kH h
  refine⟨_,fun S w vs' hG ha=>?_,h⟩
  obtain⟨v1,v2,v3,v4,rfl,k1,k2,k3,k4⟩:=mh ha
  have k5:=hq k4
  have hl:vs.length=m*3:=by cases k5 with|row k6 _ _ _ _=>exact k6.kN.1
  exact hx _ _ _ _ _ _ _ _ hn _ _ hm hl S w _ hG (.cons k1 (.cons k2 (.cons (hp k3) (.cons k5 .nil))))
 ·exact h.elim
noncomputable def bd2:av:=bd1.add 76 al5 (QN WY) ⟨_,Tryz.func76,by kernel_rfl,by kernel_rfl⟩
noncomputable def bd3:av:=bd2.add 43 al5 (QN Ai) ⟨_,Tryz.func43,by kernel_rfl,by kernel_rfl⟩
noncomputable def bd4:av:=bd3.add 77 applyN (vv JY) ⟨_,Tryz.func77,by kernel_rfl,by kernel_rfl⟩
noncomputable def AJ:av:=bd4.add 44 applyN (vv vP) ⟨_,Tryz.func44,by kernel_rfl,by kernel_rfl⟩
def jR(p:PS)(fr:Int)(n:Nat)(ops:List Int)(m:Nat)(vs:List Int):Int:=
 if bX p.e p.zs p.ad p.k p.ch fr ops n vs m≠0 then bX p.e p.zs p.ad p.k p.ch fr ops n vs m else(dh p.e ⟨p.zs,p.ad,p.k,F8,F8⟩ fr ops n).1
def dZ(p:PS)(fr:Int)(n:Nat)(ops:List Int):Vw:=(dh p.e ⟨p.zs,p.ad,p.k,F8,F8⟩ fr ops n).2
def apR(p:PS)(fr:Int)(n:Nat)(ops:List Int)(m:Nat)(vs:List Int):List A:=
 if jR p fr n ops m vs=0 then[.agg (bR p.e (dZ p fr n ops).zs (dZ p fr n ops).ad (dZ p fr n ops).k p.ch),.agg [.bools 8 (dZ p fr n ops).ng],.agg [.bools 8 (dZ p fr n ops).gn],.v (.int .i64 0)]
 else[.agg wL,.agg [.bools 8 F8],.agg [.bools 8 F8],.v (.int .i64 (jR p fr n ops m vs))]
set_option maxHeartbeats 1000000 in
theorem UE(p:PS)(fr:Int)(n:Nat)(ops:List Int)(hn:n≤1000000)(m:Nat)(vs:List Int)(hm:m≤1000000):
  aQ 28 [.sref (bL p) 0,.v (.int .i64 fr),.row n [.ints .i64 (n*5) ops],.row m [.ints .i64 (m*3) vs]] (.t (apR p fr n ops m vs)):=by
 refine dF (E:=AJ) Tryz.func28 Tryz.ntmps28 ?_
 unfold apR
 by_cases h1:bX p.e p.zs p.ad p.k p.ch fr ops n vs m=0
 ·have h2:(bX p.e p.zs p.ad p.k p.ch fr ops n vs m !=0)=false:=by rw[h1];rfl
  have e:jR p fr n ops m vs=(dh p.e ⟨p.zs,p.ad,p.k,F8,F8⟩ fr ops n).1:=by unfold jR;rw[if_neg (fun h=>h h1)]
  rw[e]
  clear e h1
  unfold dZ
  by_cases h3:(dh p.e ⟨p.zs,p.ad,p.k,F8,F8⟩ fr ops n).1=0
  ·have h4:=decide_eq_true h3
   rw[if_pos h3]
   clear h3
   refine aj ?_;(try exact⟨⟩)
  ·have h4:=decide_eq_false h3
   rw[if_neg h3]
   clear h3
   refine aj ?_;(try exact⟨⟩)
   rfl
 ·have h2:(bX p.e p.zs p.ad p.k p.ch fr ops n vs m !=0)=true:=by simpa using h1
  have e:jR p fr n ops m vs=bX p.e p.zs p.ad p.k p.ch fr ops n vs m:=by unfold jR;rw[if_pos h1]
  rw[e,if_neg h1]
  clear e h1
  refine aj ?_;(try exact⟨⟩)
  rfl
end
section
open Pm
attribute [local irreducible] aV aZ bQ aA au dA cK bC aF bW aN aU ay ak aT dh bX
set_option maxHeartbeats 1000000 in
theorem Ka(n:Nat)(zs:List Int)(hn:n≤100000):aQ 32 [.row n [.ints .i64 (n*5) zs]] (.d (.row n [.ints .i64 (n*5) zs])):=by
 intro S w vs hG ha
 obtain⟨v,rfl,hv⟩:=iL ha
 have hl:zs.length=n*5:=by cases hv with|row k1 _ _ _ _=>exact k1.kN.1
 by_cases h0:n=0
 ·subst h0
  obtain rfl:zs=[]:=List.length_eq_zero_iff.1 (by omega)
  obtain⟨ad,c,rfl,hc⟩:∃ad c,v=.slice ad 0 c∧(ad=none→c=0):=by cases hv with|row k1 k2 k3 k4 k5=>exact⟨_,_,rfl,k4⟩
  cases ad with
  |none=>
   obtain rfl:=hc rfl
   have h:aQ 32 [.v (.slice none 0 0)] (.d (.v (.slice none 0 0))):=by
    refine dF (E:=AJ) Tryz.func32 Tryz.ntmps32 ?_
    refine aj ?_;(try exact⟨⟩)
   refine Yj (fun {S w v} hr=>?_) h S w _ hG (.cons (.v _) .nil)
   rw[RA.plain hr]
   exact .row (cs:=[]) (.l9 rfl rfl) (Nat.le_refl _) (Nat.zero_le _) (fun _=>rfl) (.inl rfl)
  |some a=>
   have h:aQ 32 [.v (.slice (some a) 0 c)] (.d (.row 0 [.ints .i64 (0*5) []])):=by
    refine mQ (e:=44) (sz:=5) ?_
    refine dF (E:=AJ) Tryz.func32 Tryz.ntmps32 ?_
    refine aj ?_;(try exact⟨⟩)
    try rfl
   exact h S w _ hG (.cons (.v _) .nil)
 ·have h:aQ 32 [.row n [.ints .i64 (n*5) zs]] (.d (.row n [.ints .i64 (n*5) zs])):=by
   refine mQ (e:=44) (sz:=5) ?_
   refine dF (E:=AJ) Tryz.func32 Tryz.ntmps32 ?_
   refine aj ?_;(try exact⟨⟩)
  exact h S w _ hG ha
set_option maxHeartbeats 1000000 in
theorem Fg(n:Nat)(zs:List Int)(hn:n≤100000):aQ 33 [.row n [.ints .i64 (n*3) zs]] (.d (.row n [.ints .i64 (n*3) zs])):=by
 intro S w vs hG ha
 obtain⟨v,rfl,hv⟩:=iL ha
 have hl:zs.length=n*3:=by cases hv with|row k1 _ _ _ _=>exact k1.kN.1
 by_cases h0:n=0
 ·subst h0
  obtain rfl:zs=[]:=List.length_eq_zero_iff.1 (by omega)
  obtain⟨ad,c,rfl,hc⟩:∃ad c,v=.slice ad 0 c∧(ad=none→c=0):=by cases hv with|row k1 k2 k3 k4 k5=>exact⟨_,_,rfl,k4⟩
  cases ad with
  |none=>
   obtain rfl:=hc rfl
   have h:aQ 33 [.v (.slice none 0 0)] (.d (.v (.slice none 0 0))):=by
    refine dF (E:=AJ) Tryz.func33 Tryz.ntmps33 ?_
    refine aj ?_;(try exact⟨⟩)
   refine Yj (fun {S w v} hr=>?_) h S w _ hG (.cons (.v _) .nil)
   rw[RA.plain hr]
   exact .row (cs:=[]) (.l9 rfl rfl) (Nat.le_refl _) (Nat.zero_le _) (fun _=>rfl) (.inl rfl)
  |some a=>
   have h:aQ 33 [.v (.slice (some a) 0 c)] (.d (.row 0 [.ints .i64 (0*3) []])):=by
    refine mQ (e:=91) (sz:=3) ?_
    refine dF (E:=AJ) Tryz.func33 Tryz.ntmps33 ?_
    refine aj ?_;(try exact⟨⟩)
    try rfl
   exact h S w _ hG (.cons (.v _) .nil)
 ·have h:aQ 33 [.row n [.ints .i64 (n*3) zs]] (.d (.row n [.ints .i64 (n*3) zs])):=by
   refine mQ (e:=91) (sz:=3) ?_
   refine dF (E:=AJ) Tryz.func33 Tryz.ntmps33 ?_
   refine aj ?_;(try exact⟨⟩)
  exact h S w _ hG ha
def Xd:List A→(bP→Prop)→Prop
 |[x],K=>uL x fun n ops=>n≤100000∧K (.d (.row n [.ints .i64 (n*5) ops]))
 |_,_=>False
theorem Xe:∀args K,Xd args K→∃r,aQ 32 args r∧K r:=by
 intro args K h
 unfold Xd at h
 split at h
 ·obtain⟨n,ops,hn,⟨h1,h⟩,hp⟩:=gJ h
  refine⟨_,fun S w vs hG ha=>?_,h⟩
  obtain⟨v,rfl,k⟩:=iL ha
  exact Ka n ops h1 S w _ hG (.cons (hp k) .nil)
 ·exact h.elim
def Xf:List A→(bP→Prop)→Prop
 |[x],K=>EO x fun n ops=>n≤100000∧K (.d (.row n [.ints .i64 (n*3) ops]))
 |_,_=>False
theorem Xg:∀args K,Xf args K→∃r,aQ 33 args r∧K r:=by
 intro args K h
 unfold Xf at h
 split at h
 ·obtain⟨n,ops,hn,⟨h1,h⟩,hp⟩:=kH h
  refine⟨_,fun S w vs hG ha=>?_,h⟩
  obtain⟨v,rfl,k⟩:=iL ha
  exact Fg n ops h1 S w _ hG (.cons (hp k) .nil)
 ·exact h.elim
noncomputable def bd5:av:=AJ.add 32 Xd Xe ⟨_,Tryz.func32,by kernel_rfl,by kernel_rfl⟩
noncomputable def bd6:av:=bd5.add 33 Xf Xg ⟨_,Tryz.func33,by kernel_rfl,by kernel_rfl⟩
def LD:List A→(bP→Prop)→Prop
 |[.v (.int .i64 x)],K=>aG x=true∧K (.d (.agg [.ints .i64 3 [x / 2*4+1,x / 4*8+3,7]]))
 |_,_=>False
theorem Ed{f:FuncId}(hx:∀x,aQ f [.v (.int .i64 x)] (.d (.agg [.ints .i64 3 (uN x)]))):∀args K,LD args K→∃r,aQ f args r∧K r:=by
 intro args K h
 unfold LD at h
 split at h
 ·next x=>
  have h2:=hx x
  rw[uN,if_pos h.1]at h2
  exact⟨_,h2,h.2⟩
 ·exact h.elim
noncomputable def bd7:av:=bd6.add 88 LD (Ed RF) ⟨_,Tryz.func88,by kernel_rfl,by kernel_rfl⟩
noncomputable def bd8:av:=bd7.add 46 LD (Ed Ev) ⟨_,Tryz.func46,by kernel_rfl,by kernel_rfl⟩
noncomputable def bd9:av:=bd8.add 168 aq0 (Ri Y0) ⟨_,Tryz.func168,by kernel_rfl,by kernel_rfl⟩
noncomputable def be0:av:=bd9.add 95 vB (rV FH) ⟨_,Tryz.func95,by kernel_rfl,by kernel_rfl⟩
noncomputable def be1:av:=be0.add 85 DK (uF Y7) ⟨_,Tryz.func85,by kernel_rfl,by kernel_rfl⟩
noncomputable def aC2:av:=be1.add 86 Uq (Ce Zv) ⟨_,Tryz.func86,by kernel_rfl,by kernel_rfl⟩
set_option maxHeartbeats 1000000 in
theorem O5(lf node:Int)(h:aG lf=true):aQ 94 [.v (.int .i64 lf),.v (.int .i64 node)] (.d (.v (.int .i64 (aP lf node)))):=by
 refine dF (E:=aC2) Tryz.func94 Tryz.ntmps94 ?_
 refine aj ?_;(try exact⟨⟩)
 try rfl
def O6:List A→(bP→Prop)→Prop
 |[.v (.int .i64 lf),.v (.int .i64 node)],K=>aG lf=true∧K (.d (.v (.int .i64 (aP lf node))))
 |_,_=>False
theorem UL:∀args K,O6 args K→∃r,aQ 94 args r∧K r:=by
 intro args K h
 unfold O6 at h
 split at h
 ·exact⟨_,O5 _ _ h.1,h.2⟩
 ·exact h.elim
noncomputable def aC3:av:=aC2.add 94 O6 UL ⟨_,Tryz.func94,by kernel_rfl,by kernel_rfl⟩
set_option maxHeartbeats 2000000 in
theorem SX(e:Int)(zs:List Int)(ad:List Bool)(k:Int)(ch:List UInt8)(e2:Int)(zs2:List Int)(M5:List Bool)(k2:Int)(ch2:List UInt8)(c:CS)(hc:qH c)(ht:c.tag.length=32)(hf:aG c.fr=true)(he: -4611686018427387904≤e∧e≤4611686018427387904):
  aQ 37 [.agg (bR e zs ad k ch),.agg (bR e2 zs2 M5 k2 ch2),.agg (gW c)] (.d (.agg (bR (e+1) (fM zs2 c.fr c.sl c.p0 c.p1 c.p2) M5 k2 (tY ch (aU c))))):=by
 refine dF (E:=aC3) Tryz.func37 Tryz.ntmps37 ?_
 obtain⟨h1,h2,h3,h4,h5,h6⟩:=id hc
 obtain⟨f0,f1⟩:=cZ hf
 obtain⟨he0,he1⟩:=he
 have hb:=yw hc
 refine aj ?_;(try exact⟨⟩)
 refine Or.inr ?_
 refine aj ?_;(try exact⟨⟩)
 refine aM.mk (aB 4 ?_)
 refine aj ?_;(try exact⟨⟩)
 rfl
def aI2:List A→(bP→Prop)→Prop
 |[.agg [.ints .i64 1 [e],.ints .i64 31 zs,.bools 8 ad,.ints .i64 1 [k],.bytes 32 ch],.agg [.ints .i64 1 [e2],.ints .i64 31 zs2,.bools 8 M5,.ints .i64 1 [k2],.bytes 32 ch2],x],K=>
  oW x fun c=>aG c.fr=true∧ -4611686018427387904≤e∧e≤4611686018427387904∧K (.d (.agg (bR (e+1) (fM zs2 c.fr c.sl c.p0 c.p1 c.p2) M5 k2 (tY ch (aU c)))))
 |_,_=>False
theorem al1:∀args K,aI2 args K→∃r,aQ 37 args r∧K r:=by
 intro args K h
 unfold aI2 at h
 split at h
 ·obtain⟨c,⟨h1,h2,h3,h⟩,hc⟩:=gG h
  refine⟨_,fun S w vs hG ha=>?_,h⟩
  obtain⟨v1,v2,v3,rfl,k1,k2,k3⟩:=jC ha
  obtain⟨q1,q2,q3⟩:=hc k3
  exact SX _ _ _ _ _ _ _ _ _ _ c q2 q3 h1 ⟨h2,h3⟩ S w _ hG (.cons k1 (.cons k2 (.cons q1 .nil)))
 ·exact h.elim
noncomputable def be2:av:=aC3.add 37 aI2 al1 ⟨_,Tryz.func37,by kernel_rfl,by kernel_rfl⟩
end
end Go.Proofs.YtjdjelopkhjdnaaGreatDoor
