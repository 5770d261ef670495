/-
  Parties: how commits and parties are handed in; bodies, what is signed.
-/
import Derived.Test.YtjhgelfnmhdihaaGreatDoorJ33
import Derived.Test.YtjhgelfnmhdihaaGreatDoorJ32
namespace Go.Proofs.YtjhgelfnmhdihaaGreatDoor
set_option linter.unusedVariables false
set_option linter.unusedSimpArgs false
set_option maxRecDepth 100000
open Go.RowKit
section
open Pm
attribute [local irreducible] aU aZ bR aA au dB cO bD aF bZ aN aT
def qE(bx:Nat→List UInt8)(k:Nat):List A:=(List.range k).map fun j=>.row (bx j).length [.bytes (bx j).length (bx j)]
def bxK:A→(Nat→(Nat→List UInt8)→Prop)→Prop
 | .recs k s f,K=>s=1∧∃bx,f=Im bx∧K k bx
 | .row k [.gen m l],K=>m=k∧∃bx,l=qE bx k∧K k bx
 | .v (.slice none 0 0),K=>K 0 fun _=>[]
 |_,_=>False
theorem ac4(bx:Nat→List UInt8){k j:Nat}(h:j<k):(qE bx k).getD j (.v undef)=.row (bx j).length [.bytes (bx j).length (bx j)]:=by
 simp[qE,List.getD_eq_getElem?_getD,h]
theorem Xe{x:A}{K:Nat→(Nat→List UInt8)→Prop}(h:bxK x K):∃k bx,K k bx∧∀{S:Nat→Prop} {w:World} {v:Value},RA S w x v→RA S w (.recs k 1 (Im bx)) v:=by
 unfold bxK at h
 split at h
 ·obtain⟨rfl,bx,rfl,h⟩:=h
  exact⟨_,_,h,fun h=>h⟩
 ·obtain⟨rfl,bx,rfl,h⟩:=h
  exact⟨_,_,h,fun hv=>aw8 (fun j hj=>by rw[ac4 bx hj];rfl) hv⟩
 ·refine⟨_,_,h,fun {S w v} hv=>?_⟩
  rw[RA.plain hv]
  exact .recs (cs:=fun _=>[]) (fun j hj=>absurd hj (by omega)) (Nat.le_refl _) (Nat.zero_le _) (fun _=>rfl) (.inl rfl)
 ·exact h.elim
def pz:A→(CS→Prop)→Prop
 | .agg [.ints .i64 2 [e,fr],.gen 2 [x,y],.ints .i64 4 [sl,a,b,c],.gen 1 [z],.bytes 32 tg,.ints .i64 2 [sE,sS]],K=>
  uS x fun n ops=>E8 y fun m vs=>bxK z fun k bx=>n≤3000∧m≤3000∧k≤3000∧(∀j,j<k→(bx j).length≤6000)∧K ⟨e,fr,n,ops,m,vs,sl,a,b,c,k,bx,tg,sE,sS⟩
 |_,_=>False
theorem gI{x:A}{K:CS→Prop}(h:pz x K):∃c,K c∧∀{S:Nat→Prop} {w:World} {v:Value},RA S w x v→RA S w (.agg (gZ c)) v∧qL c∧c.tag.length=32:=by
 unfold pz at h
 split at h
 ·next e fr x y sl a b c z tg sE sS=>
  obtain⟨n,ops,hn,h,hx⟩:=gM h
  obtain⟨m,vs,hm,h,hy⟩:=kN h
  obtain⟨k,bx,⟨h1,h2,h3,h4,h⟩,hz⟩:=Xe h
  refine⟨_,h,fun {S w v} hv=>?_⟩
  cases hv with
  |agg hl=>
   cases hl with
   |ints q1 r1=>
    cases r1 with
    |gen g1 q2 r2=>
     cases r2 with
     |ints q3 r3=>
      cases r3 with
      |gen g2 q4 r4=>
       cases r4 with
       |bytes q5 r5=>
        cases r5 with
        |ints q6 r6=>
         cases r6
         cases g1 with
         |cons gx gx1 g1=>
          cases g1 with
          |cons gy gy1 g1=>
           cases g1
           cases g2 with
           |cons gz gz1 g2=>
            cases g2
            have kx:=hx gx
            have ky:=hy gy
            have lx:ops.length=n*5:=by cases kx with|row k1 _ _ _ _=>exact k1.kT.1
            have ly:vs.length=m*3:=by cases ky with|row k1 _ _ _ _=>exact k1.kT.1
            exact⟨.agg (.ints q1 (.gen (.cons kx gx1 (.cons ky gy1 .nil)) rfl (.ints q3 (.gen (.cons (hz gz) gz1 .nil) rfl (.bytes q5 (.ints q6 .nil)))))),⟨h1,h2,h3,lx,ly,h4⟩,q5⟩
 ·exact h.elim
def Xx(g:CS→bP):List A→(bP→Prop)→Prop
 |[x],K=>pz x fun c=>K (g c)
 |_,_=>False
theorem Iu{f:FuncId}{g:CS→bP}(hx:∀c,qL c→c.tag.length=32→aP f [.agg (gZ c)] (g c)):∀args K,Xx g args K→∃r,aP f args r∧K r:=by
 intro args K h
 unfold Xx at h
 split at h
 ·obtain⟨c,h,hc⟩:=gI h
  refine⟨_,fun S w vs hG ha=>?_,h⟩
  obtain⟨v,rfl,h1⟩:=iP ha
  obtain⟨k1,k2,k3⟩:=hc h1
  exact hx c k2 k3 S w _ hG (.cons k1 .nil)
 ·exact h.elim
def aB0(c:CS):bP:=.o 5 1 (eD c) [.bytes (eD c) (aT c)]
def wo(c:CS):bP:=.o 5 1 (eD c+32) [.bytes (eD c+32) (aT c++c.tag)]
def Q6:List A→(bP→Prop)→Prop
 |[x],K=>pz x fun c=>K (aB0 c)∨K (.d (.row (eD c) [.bytes (eD c) (aT c)]))
 |_,_=>False
theorem Kl{f:FuncId}(hx:∀c,qL c→aP f [.agg (gZ c)] (aB0 c)):∀args K,Q6 args K→∃r,aP f args r∧K r:=by
 intro args K h
 unfold Q6 at h
 split at h
 ·obtain⟨c,h,hc⟩:=gI h
  rcases h with h|h
  ·refine⟨_,fun S w vs hG ha=>?_,h⟩
   obtain⟨v,rfl,h1⟩:=iP ha
   obtain⟨k1,k2,k3⟩:=hc h1
   exact hx c k2 S w _ hG (.cons k1 .nil)
  ·refine⟨_,fun S w vs hG ha=>?_,h⟩
   obtain⟨v,rfl,h1⟩:=iP ha
   obtain⟨k1,k2,k3⟩:=hc h1
   exact mZ (hx c k2) S w _ hG (.cons k1 .nil)
 ·exact h.elim
noncomputable def bd5:ay:=ba1.add 109 Q6 (Kl ah9) ⟨_,Tryz.func109,by kernel_rfl,by kernel_rfl⟩
noncomputable def X8:ay:=bd5.add 37 Q6 (Kl ab4) ⟨_,Tryz.func37,by kernel_rfl,by kernel_rfl⟩
theorem yA{c:CS}(h:qL c):eD c≤30000000:=by
 have:=w9 (bx:=c.bx) (k:=c.k) h.bx
 have h1:=h.n;have h2:=h.m;have h3:=h.k
 unfold eD
 omega
attribute [local irreducible] eD
set_option maxHeartbeats 1000000 in
theorem Vy(c:CS)(hc:qL c)(ht:c.tag.length=32):aP 55 [.agg (gZ c)] (wo c):=by
 refine dK (E:=X8) Tryz.func55 Tryz.ntmps55 ?_
 have hb:=yA hc
 have hl:=iX hc
 obtain⟨e,fr,n,ops,m,vs,sl,a,b,d,k,bx,tg,sE,sS⟩:=c
 obtain⟨h1,h2,h3,h4,h5,h6⟩:=id hc
 simp only at h1 h2 h3 h4 h5 h6 ht
 refine aj ?_;(try exact⟨⟩)
 refine Or.inl ?_
 refine aj ?_;(try exact⟨⟩)
 rfl
set_option maxHeartbeats 1000000 in
theorem En(c:CS)(hc:qL c)(ht:c.tag.length=32):aP 74 [.agg (gZ c)] (wo c):=by
 refine dK (E:=X8) Tryz.func74 Tryz.ntmps74 ?_
 have hb:=yA hc
 have hl:=iX hc
 obtain⟨e,fr,n,ops,m,vs,sl,a,b,d,k,bx,tg,sE,sS⟩:=c
 obtain⟨h1,h2,h3,h4,h5,h6⟩:=id hc
 simp only at h1 h2 h3 h4 h5 h6 ht
 refine aj ?_;(try exact⟨⟩)
 refine Or.inr ?_
 refine aj ?_;(try exact⟨⟩)
 simp only[wo,List.length_append,hl,ht]
noncomputable def bd6:ay:=X8.add 55 (Xx wo) (Iu Vy) ⟨_,Tryz.func55,by kernel_rfl,by kernel_rfl⟩
noncomputable def aC7:ay:=bd6.add 74 (Xx wo) (Iu En) ⟨_,Tryz.func74,by kernel_rfl,by kernel_rfl⟩
end
section
open Pm
attribute [local irreducible] aU aZ bR aA au dB cO bD aF bZ aN aT av ak aR
def Ww:A→(PS→Prop)→Prop
 | .sref [.ints .i64 1 [e],.ints .i64 31 zs,.bools 8 ad,.ints .i64 1 [k],.bytes 32 ch,.ints .i64 1 [lf],.bytes 32 sg,.bytes 32 sc,.bytes 96 ab,.bytes 32 ep,.bytes 32 jK] 0,K=>K ⟨e,zs,ad,k,ch,lf,sg,sc,ab,ep,jK⟩
 |_,_=>False
theorem qW{x:A}{K:PS→Prop}(h:Ww x K):∃p,x=.sref (bN p) 0∧K p:=by
 unfold Ww at h
 split at h
 ·exact⟨_,rfl,h⟩
 ·exact h.elim
def prM:Bk→(PS→Prop)→Prop
 | .var [.ints .i64 1 [e],.ints .i64 31 zs,.bools 8 ad,.ints .i64 1 [k],.bytes 32 ch,.ints .i64 1 [lf],.bytes 32 sg,.bytes 32 sc,.bytes 96 ab,.bytes 32 ep,.bytes 32 jK],K=>K ⟨e,zs,ad,k,ch,lf,sg,sc,ab,ep,jK⟩
 |_,_=>False
theorem xQ{x:Bk}{K:PS→Prop}(h:prM x K):∃p,x=.var (bN p)∧K p:=by
 unfold prM at h
 split at h
 ·exact⟨_,rfl,h⟩
 ·exact h.elim
def ofP(g:PS→bP)(g0:bP):List A→(bP→Prop)→Prop
 |[.v (.pointer none)],K=>K g0
 |[x],K=>Ww x fun p=>K (g p)
 |_,_=>False
theorem O8{f:FuncId}{g:PS→bP}{g0:bP}(h0:aP f [.v (.pointer none)] g0)(hx:∀p,aP f [.sref (bN p) 0] (g p)):∀args K,ofP g g0 args K→∃r,aP f args r∧K r:=by
 intro args K h
 unfold ofP at h
 split at h
 ·exact⟨_,h0,h⟩
 ·obtain⟨p,rfl,h⟩:=qW h
  exact⟨_,hx p,h⟩
 ·exact h.elim
set_option maxHeartbeats 1000000 in
theorem Tz(h:List UInt8):aP 84 [.agg [.bytes 32 h]] (.p (.var (bN (by0 h)))):=by
 refine dK (E:=aC7) Tryz.func84 Tryz.ntmps84 ?_
 refine aj ?_;(try exact⟨⟩)
 rfl
def newP(g:List UInt8→PS):List A→(bP→Prop)→Prop
 |[.agg [.bytes 32 h]],K=>K (.p (.var (bN (g h))))∨K (.d (.sref (bN (g h)) 0))
 |_,_=>False
theorem RO{f:FuncId}{g:List UInt8→PS}(hx:∀h,aP f [.agg [.bytes 32 h]] (.p (.var (bN (g h))))):∀args K,newP g args K→∃r,aP f args r∧K r:=by
 intro args K h
 unfold newP at h
 split at h
 ·rcases h with h|h
  ·exact⟨_,hx _,h⟩
  ·exact⟨_,Cb (hx _),h⟩
 ·exact h.elim
noncomputable def bd7:ay:=aC7.add 84 (newP by0) (RO Tz) ⟨_,Tryz.func84,by kernel_rfl,by kernel_rfl⟩
noncomputable def bd8:ay:=bd7.add 47 Ja Gw ⟨_,Tryz.func47,by kernel_rfl,by kernel_rfl⟩
noncomputable def bd9:ay:=bd8.add 65 zy xU ⟨_,Tryz.func65,by kernel_rfl,by kernel_rfl⟩
noncomputable def be0:ay:=bd9.add 163 Gv (y9 RQ) ⟨_,Tryz.func163,by kernel_rfl,by kernel_rfl⟩
noncomputable def be1:ay:=be0.add 139 Gv (y9 Ml) ⟨_,Tryz.func139,by kernel_rfl,by kernel_rfl⟩
noncomputable def be2:ay:=be1.add 100 VK ay7 ⟨_,Tryz.func100,by kernel_rfl,by kernel_rfl⟩
noncomputable def be3:ay:=be2.add 63 VK MF ⟨_,Tryz.func63,by kernel_rfl,by kernel_rfl⟩
noncomputable def be4:ay:=be3.add 114 AJ (wD MX) ⟨_,Tryz.func114,by kernel_rfl,by kernel_rfl⟩
noncomputable def ru:ay:=be4.add 150 AJ (wD G9) ⟨_,Tryz.func150,by kernel_rfl,by kernel_rfl⟩
set_option maxHeartbeats 1000000 in
theorem Vz(p:PS):aP 54 [.sref (bN p) 0] (.p (.obj (p9 (au p.sg)))):=by
 refine dK (E:=ru) Tryz.func54 Tryz.ntmps54 ?_
 refine aj ?_;(try exact⟨⟩)
theorem Qk:aP 54 [.v (.pointer none)] (.d (.v (.pointer none))):=by
 refine dK (E:=ru) Tryz.func54 Tryz.ntmps54 ?_
 refine aj ?_;(try exact⟨⟩)
theorem ay9(p:PS):aP 23 [.sref (bN p) 0] (.d (.agg (bS p.e p.zs p.ad p.k p.ch))):=by
 refine dK (E:=ru) Tryz.func23 Tryz.ntmps23 ?_
 refine aj ?_;(try exact⟨⟩)
theorem ah7:aP 23 [.v (.pointer none)] (.d (.agg wP)):=by
 refine dK (E:=ru) Tryz.func23 Tryz.ntmps23 ?_
 refine aj ?_;(try exact⟨⟩)
 rfl
theorem aa0(p:PS):aP 36 [.sref (bN p) 0] (.d (.v (.int .i64 p.lf))):=by
 refine dK (E:=ru) Tryz.func36 Tryz.ntmps36 ?_
 refine aj ?_;(try exact⟨⟩)
theorem U5:aP 36 [.v (.pointer none)] (.d (.v (.int .i64 0))):=by
 refine dK (E:=ru) Tryz.func36 Tryz.ntmps36 ?_
 refine aj ?_;(try exact⟨⟩)
theorem Rc(p:PS):aP 29 [.sref (bN p) 0] (.p (.var (bN p))):=by
 refine dK (E:=ru) Tryz.func29 Tryz.ntmps29 ?_
 refine aj ?_;(try exact⟨⟩)
theorem XD:aP 29 [.v (.pointer none)] (.d (.v (.pointer none))):=by
 refine dK (E:=ru) Tryz.func29 Tryz.ntmps29 ?_
 refine aj ?_;(try exact⟨⟩)
theorem TU(p:PS)(l:ByteArray)(hl:l.size≤1000000):aP 28 [.sref (bN p) 0,.v (.string l)] (.d (.agg [.bytes 32 (Oh p.ep (sb l))])):=by
 refine dK (E:=ru) Tryz.func28 Tryz.ntmps28 ?_
 refine aj ?_;(try exact⟨⟩)
 rfl
theorem Oi(l:ByteArray):aP 28 [.v (.pointer none),.v (.string l)] (.d (.agg [.bytes 32 (zB 32)])):=by
 refine dK (E:=ru) Tryz.func28 Tryz.ntmps28 ?_
 refine aj ?_;(try exact⟨⟩)
 rfl
theorem Ut(p:PS):aP 43 [.sref (bN p) 0] (.d (.v (.bool (decide (p.e≥1099511627776))))):=by
 refine dK (E:=ru) Tryz.func43 Tryz.ntmps43 ?_
 refine aj ?_;(try exact⟨⟩)
noncomputable def aC8:ay:=ru.add 54 (ofP (fun p=>.p (.obj (p9 (au p.sg)))) (.d (.v (.pointer none)))) (O8 Qk Vz) ⟨_,Tryz.func54,by kernel_rfl,by kernel_rfl⟩
set_option maxHeartbeats 1000000 in
theorem as0(h:List UInt8):aP 94 [.agg [.bytes 32 h]] (.d (.agg [.ints .i64 2 (eT h)])):=by
 refine dK (E:=aC8) Tryz.func94 Tryz.ntmps94 ?_
 have h1:=dL (jm h)
 have h2:=dL (av (aC h))
 obtain⟨a1,a2⟩:=h1
 obtain⟨a3,a4⟩:=h2
 have a5:0≤au (jm h):=by omega
 have a6:0≤au (av (aC h)):=by omega
 refine aj ?_;(try exact⟨⟩)
 refine Or.inr ?_
 refine aj ?_;(try exact⟨⟩)
 try rfl
theorem XL(p:PS)(h:List UInt8):gq 95 0 (.var (bN p)) [.agg [.bytes 32 h]] (.t []) (.var (bN (dG p h))):=by
 refine mY (E:=ru) Tryz.func95 Tryz.ntmps95 ?_
 refine aj ?_;(try exact⟨⟩)
end
section
open Pm
attribute [local irreducible] aU aZ bR aA au dB cO bD aF bZ aN aT av ak aR cZ bX
def Zt(g:PS→List UInt8→bP)(g':PS→List UInt8→PS):Nat→Bk→List A→(bP→Bk→Prop)→Prop
 |0,b,[.agg [.bytes 32 h]],K=>prM b fun p=>K (g p h) (.var (bN (g' p h)))
 |_,_,_,_=>False
theorem I8{f:FuncId}{g:PS→List UInt8→bP}{g':PS→List UInt8→PS}(hx:∀p h,gq f 0 (.var (bN p)) [.agg [.bytes 32 h]] (g p h) (.var (bN (g' p h)))):∀pos x args K,Zt g g' pos x args K→∃r x',gq f pos x args r x'∧K r x':=by
 intro pos x args K h
 unfold Zt at h
 split at h
 ·obtain⟨p,rfl,h⟩:=xQ h
  exact⟨_,_,hx p _,h⟩
 ·exact h.elim
noncomputable def be5:ay:=aC8.kG 95 (Zt (fun _ _=>.t []) dG) (I8 XL) ⟨_,Tryz.func95,by kernel_rfl,by kernel_rfl⟩
def Zi:List A→(bP→Prop)→Prop
 |[.agg [.bytes 32 h]],K=>∀L,L=eT h→K (.d (.agg [.ints .i64 2 L]))
 |_,_=>False
theorem Zj:∀args K,Zi args K→∃r,aP 94 args r∧K r:=by
 intro args K h
 unfold Zi at h
 split at h
 ·exact⟨_,as0 _,h _ rfl⟩
 ·exact h.elim
noncomputable def X9:ay:=be5.add 94 Zi Zj ⟨_,Tryz.func94,by kernel_rfl,by kernel_rfl⟩
set_option maxHeartbeats 1000000 in
theorem FY(h:List UInt8):aP 38 [.agg [.bytes 32 h]] (.p (.var (bN (aY h)))):=by
 refine dK (E:=X9) Tryz.func38 Tryz.ntmps38 ?_
 refine aj ?_;(try exact⟨⟩)
 refine Or.inl ?_
 refine aj ?_;(try exact⟨⟩)
 intro L hL
 refine aj ?_;(try exact⟨⟩)
 have e:aY h=dG ⟨0,L++List.drop 2 (List.replicate 31 0),(List.replicate 8 false).set 0 true,1,zB 32,0,jm h,aC h,zB 96,zB 32,zB 32⟩ (Oy (aC h)):=by rw[hL];rfl
 rw[e]
 rfl
set_option maxHeartbeats 1000000 in
theorem ab5(p:PS)(h:List UInt8):gq 52 0 (.var (bN p)) [.agg [.bytes 32 h]] (.d (.agg [.bytes 32 (eB (bC p h).ep)])) (.var (bN (bC p h))):=by
 refine mY (E:=X9) Tryz.func52 Tryz.ntmps52 ?_
 have hv:(aR p.e p.zs p.ad p.k p.ch).length=32:=EZ _ _ _ _ _
 refine aj ?_;(try exact⟨⟩)
 rfl
noncomputable def aC9:ay:=X9.kG 52 (Zt (fun p h=>.d (.agg [.bytes 32 (eB (bC p h).ep)])) bC) (I8 ab5) ⟨_,Tryz.func52,by kernel_rfl,by kernel_rfl⟩
set_option maxHeartbeats 1000000 in
theorem ab8(p:PS)(h:List UInt8):gq 44 0 (.var (bN p)) [.agg [.bytes 32 h]] (.d (.agg [.bytes 32 (vo (aC h))])) (.var (bN (gN p h))):=by
 refine mY (E:=aC9) Tryz.func44 Tryz.ntmps44 ?_
 refine aj ?_;(try exact⟨⟩)
 rfl
noncomputable def be6:ay:=aC9.kG 44 (Zt (fun p h=>.d (.agg [.bytes 32 (vo (aC h))])) gN) (I8 ab8) ⟨_,Tryz.func44,by kernel_rfl,by kernel_rfl⟩
noncomputable def be7:ay:=be6.add 38 (newP aY) (RO FY) ⟨_,Tryz.func38,by kernel_rfl,by kernel_rfl⟩
def am2:List A→(bP→Prop)→Prop
 |[.agg [.ints .i64 1 [e],.ints .i64 31 zs,.bools 8 ad,.ints .i64 1 [k],.bytes 32 ch],.v (.int .i64 fr),x,y],K=>uS x fun n ops=>E8 y fun m vs=>K (.d (.v (.int .i64 (bX e zs ad k ch fr ops n vs m))))
 |_,_=>False
theorem mG{S:Nat→Prop}{w:World}{a b c d:A}{vs:List Value}(h:lW S w [a,b,c,d] vs):∃x y z u,vs=[x,y,z,u]∧RA S w a x∧RA S w b y∧RA S w c z∧RA S w d u:=by
 cases h with|cons h r=>cases r with|cons h2 r=>cases r with|cons h3 r=>cases r with|cons h4 r=>cases r;exact⟨_,_,_,_,rfl,h,h2,h3,h4⟩
theorem Q9{f:FuncId}(hx:∀e zs ad k ch fr ops n,n≤1000000→∀vs m,m≤1000000→vs.length=m*3→aP f [.agg (bS e zs ad k ch),.v (.int .i64 fr),.row n [.ints .i64 (n*5) ops],.row m [.ints .i64 (m*3) vs]] (.d (.v (.int .i64 (bX e zs ad k ch fr ops n vs m))))):∀args K,am2 args K→∃r,aP f args r∧K r:=by
 intro args K h
 unfold am2 at h
 split at h
 ·obtain⟨n,ops,hn,h,hp⟩:=gM h
  obtain⟨m,vs,hm,h,hq⟩:=kN h
  refine⟨_,fun S w vs' hG ha=>?_,h⟩
  obtain⟨v1,v2,v3,v4,rfl,k1,k2,k3,k4⟩:=mG ha
  have k5:=hq k4
  have hl:vs.length=m*3:=by cases k5 with|row k6 _ _ _ _=>exact k6.kT.1
  exact hx _ _ _ _ _ _ _ _ hn _ _ hm hl S w _ hG (.cons k1 (.cons k2 (.cons (hp k3) (.cons k5 .nil))))
 ·exact h.elim
noncomputable def be8:ay:=be7.add 98 am2 (Q9 Xj) ⟨_,Tryz.func98,by kernel_rfl,by kernel_rfl⟩
noncomputable def be9:ay:=be8.add 60 am2 (Q9 Ap) ⟨_,Tryz.func60,by kernel_rfl,by kernel_rfl⟩
noncomputable def bf0:ay:=be9.add 99 applyN (vE Ki) ⟨_,Tryz.func99,by kernel_rfl,by kernel_rfl⟩
noncomputable def AV:ay:=bf0.add 61 applyN (vE vU) ⟨_,Tryz.func61,by kernel_rfl,by kernel_rfl⟩
def jW(p:PS)(fr:Int)(n:Nat)(ops:List Int)(m:Nat)(vs:List Int):Int:=
 if bX p.e p.zs p.ad p.k p.ch fr ops n vs m≠0 then bX p.e p.zs p.ad p.k p.ch fr ops n vs m else(cZ p.e ⟨p.zs,p.ad,p.k,F8,F8⟩ fr ops n).1
def dJ(p:PS)(fr:Int)(n:Nat)(ops:List Int):Vw:=(cZ p.e ⟨p.zs,p.ad,p.k,F8,F8⟩ fr ops n).2
def apR(p:PS)(fr:Int)(n:Nat)(ops:List Int)(m:Nat)(vs:List Int):List A:=
 if jW p fr n ops m vs=0 then[.agg (bS p.e (dJ p fr n ops).zs (dJ p fr n ops).ad (dJ p fr n ops).k p.ch),.agg [.bools 8 (dJ p fr n ops).ng],.agg [.bools 8 (dJ p fr n ops).gn],.v (.int .i64 0)]
 else[.agg wP,.agg [.bools 8 F8],.agg [.bools 8 F8],.v (.int .i64 (jW p fr n ops m vs))]
set_option maxHeartbeats 1000000 in
theorem UW(p:PS)(fr:Int)(n:Nat)(ops:List Int)(hn:n≤1000000)(m:Nat)(vs:List Int)(hm:m≤1000000):
  aP 42 [.sref (bN p) 0,.v (.int .i64 fr),.row n [.ints .i64 (n*5) ops],.row m [.ints .i64 (m*3) vs]] (.t (apR p fr n ops m vs)):=by
 refine dK (E:=AV) Tryz.func42 Tryz.ntmps42 ?_
 unfold apR
 by_cases h1:bX p.e p.zs p.ad p.k p.ch fr ops n vs m=0
 ·have h2:(bX p.e p.zs p.ad p.k p.ch fr ops n vs m !=0)=false:=by rw[h1];rfl
  have e:jW p fr n ops m vs=(cZ p.e ⟨p.zs,p.ad,p.k,F8,F8⟩ fr ops n).1:=by unfold jW;rw[if_neg (fun h=>h h1)]
  rw[e]
  clear e h1
  unfold dJ
  by_cases h3:(cZ p.e ⟨p.zs,p.ad,p.k,F8,F8⟩ fr ops n).1=0
  ·have h4:=decide_eq_true h3
   rw[if_pos h3]
   clear h3
   refine aj ?_;(try exact⟨⟩)
  ·have h4:=decide_eq_false h3
   rw[if_neg h3]
   clear h3
   refine aj ?_;(try exact⟨⟩)
   rfl
 ·have h2:(bX p.e p.zs p.ad p.k p.ch fr ops n vs m !=0)=true:=by simpa using h1
  have e:jW p fr n ops m vs=bX p.e p.zs p.ad p.k p.ch fr ops n vs m:=by unfold jW;rw[if_pos h1]
  rw[e,if_neg h1]
  clear e h1
  refine aj ?_;(try exact⟨⟩)
  rfl
end
section
open Pm
attribute [local irreducible] aU aZ bR aA au dB cO bD aF bZ aN aT av ak aR cZ bX
set_option maxHeartbeats 1000000 in
theorem Ku(n:Nat)(zs:List Int)(hn:n≤100000):aP 45 [.row n [.ints .i64 (n*5) zs]] (.d (.row n [.ints .i64 (n*5) zs])):=by
 intro S w vs hG ha
 obtain⟨v,rfl,hv⟩:=iP ha
 have hl:zs.length=n*5:=by cases hv with|row k1 _ _ _ _=>exact k1.kT.1
 by_cases h0:n=0
 ·subst h0
  obtain rfl:zs=[]:=List.length_eq_zero_iff.1 (by omega)
  obtain⟨ad,c,rfl,hc⟩:∃ad c,v=.slice ad 0 c∧(ad=none→c=0):=by cases hv with|row k1 k2 k3 k4 k5=>exact⟨_,_,rfl,k4⟩
  cases ad with
  |none=>
   obtain rfl:=hc rfl
   have h:aP 45 [.v (.slice none 0 0)] (.d (.v (.slice none 0 0))):=by
    refine dK (E:=AV) Tryz.func45 Tryz.ntmps45 ?_
    refine aj ?_;(try exact⟨⟩)
   refine Yr (fun {S w v} hr=>?_) h S w _ hG (.cons (.v _) .nil)
   rw[RA.plain hr]
   exact .row (cs:=[]) (.oq rfl rfl) (Nat.le_refl _) (Nat.zero_le _) (fun _=>rfl) (.inl rfl)
  |some a=>
   have h:aP 45 [.v (.slice (some a) 0 c)] (.d (.row 0 [.ints .i64 (0*5) []])):=by
    refine mZ (e:=40) (sz:=5) ?_
    refine dK (E:=AV) Tryz.func45 Tryz.ntmps45 ?_
    refine aj ?_;(try exact⟨⟩)
    try rfl
   exact h S w _ hG (.cons (.v _) .nil)
 ·have h:aP 45 [.row n [.ints .i64 (n*5) zs]] (.d (.row n [.ints .i64 (n*5) zs])):=by
   refine mZ (e:=40) (sz:=5) ?_
   refine dK (E:=AV) Tryz.func45 Tryz.ntmps45 ?_
   refine aj ?_;(try exact⟨⟩)
  exact h S w _ hG ha
set_option maxHeartbeats 1000000 in
theorem Fy(n:Nat)(zs:List Int)(hn:n≤100000):aP 46 [.row n [.ints .i64 (n*3) zs]] (.d (.row n [.ints .i64 (n*3) zs])):=by
 intro S w vs hG ha
 obtain⟨v,rfl,hv⟩:=iP ha
 have hl:zs.length=n*3:=by cases hv with|row k1 _ _ _ _=>exact k1.kT.1
 by_cases h0:n=0
 ·subst h0
  obtain rfl:zs=[]:=List.length_eq_zero_iff.1 (by omega)
  obtain⟨ad,c,rfl,hc⟩:∃ad c,v=.slice ad 0 c∧(ad=none→c=0):=by cases hv with|row k1 k2 k3 k4 k5=>exact⟨_,_,rfl,k4⟩
  cases ad with
  |none=>
   obtain rfl:=hc rfl
   have h:aP 46 [.v (.slice none 0 0)] (.d (.v (.slice none 0 0))):=by
    refine dK (E:=AV) Tryz.func46 Tryz.ntmps46 ?_
    refine aj ?_;(try exact⟨⟩)
   refine Yr (fun {S w v} hr=>?_) h S w _ hG (.cons (.v _) .nil)
   rw[RA.plain hr]
   exact .row (cs:=[]) (.oq rfl rfl) (Nat.le_refl _) (Nat.zero_le _) (fun _=>rfl) (.inl rfl)
  |some a=>
   have h:aP 46 [.v (.slice (some a) 0 c)] (.d (.row 0 [.ints .i64 (0*3) []])):=by
    refine mZ (e:=99) (sz:=3) ?_
    refine dK (E:=AV) Tryz.func46 Tryz.ntmps46 ?_
    refine aj ?_;(try exact⟨⟩)
    try rfl
   exact h S w _ hG (.cons (.v _) .nil)
 ·have h:aP 46 [.row n [.ints .i64 (n*3) zs]] (.d (.row n [.ints .i64 (n*3) zs])):=by
   refine mZ (e:=99) (sz:=3) ?_
   refine dK (E:=AV) Tryz.func46 Tryz.ntmps46 ?_
   refine aj ?_;(try exact⟨⟩)
  exact h S w _ hG ha
def Xp:List A→(bP→Prop)→Prop
 |[x],K=>uS x fun n ops=>n≤100000∧K (.d (.row n [.ints .i64 (n*5) ops]))
 |_,_=>False
theorem Xq:∀args K,Xp args K→∃r,aP 45 args r∧K r:=by
 intro args K h
 unfold Xp at h
 split at h
 ·obtain⟨n,ops,hn,⟨h1,h⟩,hp⟩:=gM h
  refine⟨_,fun S w vs hG ha=>?_,h⟩
  obtain⟨v,rfl,k⟩:=iP ha
  exact Ku n ops h1 S w _ hG (.cons (hp k) .nil)
 ·exact h.elim
def Xr:List A→(bP→Prop)→Prop
 |[x],K=>E8 x fun n ops=>n≤100000∧K (.d (.row n [.ints .i64 (n*3) ops]))
 |_,_=>False
theorem Xt:∀args K,Xr args K→∃r,aP 46 args r∧K r:=by
 intro args K h
 unfold Xr at h
 split at h
 ·obtain⟨n,ops,hn,⟨h1,h⟩,hp⟩:=kN h
  refine⟨_,fun S w vs hG ha=>?_,h⟩
  obtain⟨v,rfl,k⟩:=iP ha
  exact Fy n ops h1 S w _ hG (.cons (hp k) .nil)
 ·exact h.elim
noncomputable def bf1:ay:=AV.add 45 Xp Xq ⟨_,Tryz.func45,by kernel_rfl,by kernel_rfl⟩
noncomputable def bf2:ay:=bf1.add 46 Xr Xt ⟨_,Tryz.func46,by kernel_rfl,by kernel_rfl⟩
def LY:List A→(bP→Prop)→Prop
 |[.v (.int .i64 x)],K=>aG x=true∧K (.d (.agg [.ints .i64 3 [x / 2*4+1,x / 4*8+3,7]]))
 |_,_=>False
theorem Ep{f:FuncId}(hx:∀x,aP f [.v (.int .i64 x)] (.d (.agg [.ints .i64 3 (uT x)]))):∀args K,LY args K→∃r,aP f args r∧K r:=by
 intro args K h
 unfold LY at h
 split at h
 ·next x=>
  have h2:=hx x
  rw[uT,if_pos h.1]at h2
  exact⟨_,h2,h.2⟩
 ·exact h.elim
noncomputable def bf3:ay:=bf2.add 110 LY (Ep R4) ⟨_,Tryz.func110,by kernel_rfl,by kernel_rfl⟩
noncomputable def bf4:ay:=bf3.add 64 LY (Ep EH) ⟨_,Tryz.func64,by kernel_rfl,by kernel_rfl⟩
noncomputable def bf5:ay:=bf4.add 186 aq9 (Rz Y6) ⟨_,Tryz.func186,by kernel_rfl,by kernel_rfl⟩
noncomputable def bf6:ay:=bf5.add 120 vG (rV FU) ⟨_,Tryz.func120,by kernel_rfl,by kernel_rfl⟩
noncomputable def bf7:ay:=bf6.add 107 DY (uM Ze) ⟨_,Tryz.func107,by kernel_rfl,by kernel_rfl⟩
noncomputable def aD0:ay:=bf7.add 108 UE (Cn ZC) ⟨_,Tryz.func108,by kernel_rfl,by kernel_rfl⟩
set_option maxHeartbeats 1000000 in
theorem Pp(lf node:Int)(h:aG lf=true):aP 119 [.v (.int .i64 lf),.v (.int .i64 node)] (.d (.v (.int .i64 (aO lf node)))):=by
 refine dK (E:=aD0) Tryz.func119 Tryz.ntmps119 ?_
 refine aj ?_;(try exact⟨⟩)
 try rfl
def Pq:List A→(bP→Prop)→Prop
 |[.v (.int .i64 lf),.v (.int .i64 node)],K=>aG lf=true∧K (.d (.v (.int .i64 (aO lf node))))
 |_,_=>False
theorem U3:∀args K,Pq args K→∃r,aP 119 args r∧K r:=by
 intro args K h
 unfold Pq at h
 split at h
 ·exact⟨_,Pp _ _ h.1,h.2⟩
 ·exact h.elim
noncomputable def aD1:ay:=aD0.add 119 Pq U3 ⟨_,Tryz.func119,by kernel_rfl,by kernel_rfl⟩
set_option maxHeartbeats 2000000 in
theorem Tp(e:Int)(zs:List Int)(ad:List Bool)(k:Int)(ch:List UInt8)(e2:Int)(zs2:List Int)(Nk:List Bool)(k2:Int)(ch2:List UInt8)(c:CS)(hc:qL c)(ht:c.tag.length=32)(hf:aG c.fr=true)(he: -4611686018427387904≤e∧e≤4611686018427387904):
  aP 50 [.agg (bS e zs ad k ch),.agg (bS e2 zs2 Nk k2 ch2),.agg (gZ c)] (.d (.agg (bS (e+1) (gu zs2 c.fr c.sl c.p0 c.p1 c.p2) Nk k2 (uh ch (aT c))))):=by
 refine dK (E:=aD1) Tryz.func50 Tryz.ntmps50 ?_
 obtain⟨h1,h2,h3,h4,h5,h6⟩:=id hc
 obtain⟨f0,f1⟩:=dh hf
 obtain⟨he0,he1⟩:=he
 have hb:=yA hc
 refine aj ?_;(try exact⟨⟩)
 refine Or.inr ?_
 refine aj ?_;(try exact⟨⟩)
 refine aM.mk (aB 4 ?_)
 refine aj ?_;(try exact⟨⟩)
 rfl
def aJ4:List A→(bP→Prop)→Prop
 |[.agg [.ints .i64 1 [e],.ints .i64 31 zs,.bools 8 ad,.ints .i64 1 [k],.bytes 32 ch],.agg [.ints .i64 1 [e2],.ints .i64 31 zs2,.bools 8 Nk,.ints .i64 1 [k2],.bytes 32 ch2],x],K=>
  pz x fun c=>aG c.fr=true∧ -4611686018427387904≤e∧e≤4611686018427387904∧K (.d (.agg (bS (e+1) (gu zs2 c.fr c.sl c.p0 c.p1 c.p2) Nk k2 (uh ch (aT c)))))
 |_,_=>False
theorem al8:∀args K,aJ4 args K→∃r,aP 50 args r∧K r:=by
 intro args K h
 unfold aJ4 at h
 split at h
 ·obtain⟨c,⟨h1,h2,h3,h⟩,hc⟩:=gI h
  refine⟨_,fun S w vs hG ha=>?_,h⟩
  obtain⟨v1,v2,v3,rfl,k1,k2,k3⟩:=jI ha
  obtain⟨q1,q2,q3⟩:=hc k3
  exact Tp _ _ _ _ _ _ _ _ _ _ c q2 q3 h1 ⟨h2,h3⟩ S w _ hG (.cons k1 (.cons k2 (.cons q1 .nil)))
 ·exact h.elim
noncomputable def bf8:ay:=aD1.add 50 aJ4 al8 ⟨_,Tryz.func50,by kernel_rfl,by kernel_rfl⟩
end
end Go.Proofs.YtjhgelfnmhdihaaGreatDoor
