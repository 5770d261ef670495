/-
  Parties: how commits and parties are handed in; bodies, what is signed.
-/
import Derived.Test.YtbdmnobocecnfaaGreatDoorJ33
import Derived.Test.YtbdmnobocecnfaaGreatDoorJ32
namespace Go.Proofs.YtbdmnobocecnfaaGreatDoor
set_option linter.unusedVariables false
set_option linter.unusedSimpArgs false
set_option maxRecDepth 100000
open Go.RowKit
section
open Pm
attribute [local irreducible] condK LoopA regA powI scal mulI isI fourB deriveW numB numsB bodyB
def rowsF(bx:Nat→List UInt8)(k:Nat):List A:=(List.range k).map fun j=>.row (bx j).length [.bytes (bx j).length (bx j)]
def bxK:A→(Nat→(Nat→List UInt8)→Prop)→Prop
 | .recs k s f,K=>s=1∧∃bx,f=boxF bx∧K k bx
 | .row k [.gen m l],K=>m=k∧∃bx,l=rowsF bx k∧K k bx
 | .v (.slice none 0 0),K=>K 0 fun _=>[]
 |_,_=>False
theorem rowsF_at(bx:Nat→List UInt8){k j:Nat}(h:j<k):(rowsF bx k).getD j (.v undef)=.row (bx j).length [.bytes (bx j).length (bx j)]:=by
 simp[rowsF,List.getD_eq_getElem?_getD,h]
theorem bxK_spec{x:A}{K:Nat→(Nat→List UInt8)→Prop}(h:bxK x K):∃k bx,K k bx∧∀{S:Nat→Prop} {w:World} {v:Value},RA S w x v→RA S w (.recs k 1 (boxF bx)) v:=by
 unfold bxK at h
 split at h
 ·obtain⟨rfl,bx,rfl,h⟩:=h
  exact⟨_,_,h,fun h=>h⟩
 ·obtain⟨rfl,bx,rfl,h⟩:=h
  exact⟨_,_,h,fun hv=>ra_recs (fun j hj=>by rw[rowsF_at bx hj];rfl) hv⟩
 ·refine⟨_,_,h,fun {S w v} hv=>?_⟩
  rw[RA.plain hv]
  exact .recs (cs:=fun _=>[]) (fun j hj=>absurd hj (by omega)) (Nat.le_refl _) (Nat.zero_le _) (fun _=>rfl) (.inl rfl)
 ·exact h.elim
def cArgK:A→(CS→Prop)→Prop
 | .agg [.ints .i64 2 [e,fr],.gen 2 [x,y],.ints .i64 4 [sl,a,b,c],.gen 1 [z],.bytes 32 tg,.ints .i64 2 [sE,sS]],K=>
  opsK x fun n ops=>votK y fun m vs=>bxK z fun k bx=>n≤3000∧m≤3000∧k≤3000∧(∀j,j<k→(bx j).length≤6000)∧K ⟨e,fr,n,ops,m,vs,sl,a,b,c,k,bx,tg,sE,sS⟩
 |_,_=>False
theorem cArgK_spec{x:A}{K:CS→Prop}(h:cArgK x K):∃c,K c∧∀{S:Nat→Prop} {w:World} {v:Value},RA S w x v→RA S w (.agg (cSegs c)) v∧CSok c∧c.tag.length=32:=by
 unfold cArgK at h
 split at h
 ·next e fr x y sl a b c z tg sE sS=>
  obtain⟨n,ops,hn,h,hx⟩:=opsK_spec h
  obtain⟨m,vs,hm,h,hy⟩:=votK_spec h
  obtain⟨k,bx,⟨h1,h2,h3,h4,h⟩,hz⟩:=bxK_spec h
  refine⟨_,h,fun {S w v} hv=>?_⟩
  cases hv with
  |agg hl=>
   cases hl with
   |ints q1 r1=>
    cases r1 with
    |gen g1 q2 r2=>
     cases r2 with
     |ints q3 r3=>
      cases r3 with
      |gen g2 q4 r4=>
       cases r4 with
       |bytes q5 r5=>
        cases r5 with
        |ints q6 r6=>
         cases r6
         cases g1 with
         |cons gx gx1 g1=>
          cases g1 with
          |cons gy gy1 g1=>
           cases g1
           cases g2 with
           |cons gz gz1 g2=>
            cases g2
            have kx:=hx gx
            have ky:=hy gy
            have lx:ops.length=n*5:=by cases kx with|row k1 _ _ _ _=>exact k1.toInts.1
            have ly:vs.length=m*3:=by cases ky with|row k1 _ _ _ _=>exact k1.toInts.1
            exact⟨.agg (.ints q1 (.gen (.cons kx gx1 (.cons ky gy1 .nil)) rfl (.ints q3 (.gen (.cons (hz gz) gz1 .nil) rfl (.bytes q5 (.ints q6 .nil)))))),⟨h1,h2,h3,lx,ly,h4⟩,q5⟩
 ·exact h.elim
def comS(g:CS→Res):List A→(Res→Prop)→Prop
 |[x],K=>cArgK x fun c=>K (g c)
 |_,_=>False
theorem comS_of{f:FuncId}{g:CS→Res}(hx:∀c,CSok c→c.tag.length=32→FnO f [.agg (cSegs c)] (g c)):∀args K,comS g args K→∃r,FnO f args r∧K r:=by
 intro args K h
 unfold comS at h
 split at h
 ·obtain⟨c,h,hc⟩:=cArgK_spec h
  refine⟨_,fun S w vs hG ha=>?_,h⟩
  obtain⟨v,rfl,h1⟩:=ra_one ha
  obtain⟨k1,k2,k3⟩:=hc h1
  exact hx c k2 k3 S w _ hG (.cons k1 .nil)
 ·exact h.elim
def bodyR(c:CS):Res:=.o 5 1 (bodyN c) [.bytes (bodyN c) (bodyB c)]
def signedR(c:CS):Res:=.o 5 1 (bodyN c+32) [.bytes (bodyN c+32) (bodyB c++c.tag)]
def bodyS:List A→(Res→Prop)→Prop
 |[x],K=>cArgK x fun c=>K (bodyR c)∨K (.d (.row (bodyN c) [.bytes (bodyN c) (bodyB c)]))
 |_,_=>False
theorem bodyS_of{f:FuncId}(hx:∀c,CSok c→FnO f [.agg (cSegs c)] (bodyR c)):∀args K,bodyS args K→∃r,FnO f args r∧K r:=by
 intro args K h
 unfold bodyS at h
 split at h
 ·obtain⟨c,h,hc⟩:=cArgK_spec h
  rcases h with h|h
  ·refine⟨_,fun S w vs hG ha=>?_,h⟩
   obtain⟨v,rfl,h1⟩:=ra_one ha
   obtain⟨k1,k2,k3⟩:=hc h1
   exact hx c k2 S w _ hG (.cons k1 .nil)
  ·refine⟨_,fun S w vs hG ha=>?_,h⟩
   obtain⟨v,rfl,h1⟩:=ra_one ha
   obtain⟨k1,k2,k3⟩:=hc h1
   exact fn_row (hx c k2) S w _ hG (.cons k1 .nil)
 ·exact h.elim
noncomputable def envQ0:EnvX:=envBn.add 124 bodyS (bodyS_of wbody_ok) ⟨_,Tryz.func124,by kernel_rfl,by kernel_rfl⟩
noncomputable def envQ1:EnvX:=envQ0
theorem bodyN_le{c:CS}(h:CSok c):bodyN c≤30000000:=by
 have:=bxN_le (bx:=c.bx) (k:=c.k) h.bx
 have h1:=h.n;have h2:=h.m;have h3:=h.k
 unfold bodyN
 omega
attribute [local irreducible] bodyN
set_option maxHeartbeats 1000000 in
theorem signed_fn(c:CS)(hc:CSok c)(ht:c.tag.length=32):FnO 87 [.agg (cSegs c)] (signedR c):=by
 refine fnA (E:=envQ1) Tryz.func87 Tryz.ntmps87 ?_
 have hb:=bodyN_le hc
 have hl:=body_length hc
 obtain⟨e,fr,n,ops,m,vs,sl,a,b,d,k,bx,tg,sE,sS⟩:=c
 obtain⟨h1,h2,h3,h4,h5,h6⟩:=id hc
 simp only at h1 h2 h3 h4 h5 h6 ht
 refine agow ?_;(try exact⟨⟩)
 refine Or.inl ?_
 refine agow ?_;(try exact⟨⟩)
 rfl
noncomputable def envQ2:EnvX:=envQ1.add 87 (comS signedR) (comS_of signed_fn) ⟨_,Tryz.func87,by kernel_rfl,by kernel_rfl⟩
noncomputable def envQ3:EnvX:=envQ2
end
section
open Pm
attribute [local irreducible] condK LoopA regA powI scal mulI isI fourB deriveW numB numsB bodyB nodeW nextW viewHV
def prK:A→(PS→Prop)→Prop
 | .sref [.ints .i64 1 [e],.ints .i64 31 zs,.bools 8 ad,.ints .i64 1 [k],.bytes 32 ch,.ints .i64 1 [lf],.bytes 32 sg,.bytes 32 sc,.bytes 96 ab,.bytes 32 ep,.bytes 32 ini] 0,K=>K ⟨e,zs,ad,k,ch,lf,sg,sc,ab,ep,ini⟩
 |_,_=>False
theorem prK_eq{x:A}{K:PS→Prop}(h:prK x K):∃p,x=.sref (pSegs p) 0∧K p:=by
 unfold prK at h
 split at h
 ·exact⟨_,rfl,h⟩
 ·exact h.elim
def prM:Bk→(PS→Prop)→Prop
 | .var [.ints .i64 1 [e],.ints .i64 31 zs,.bools 8 ad,.ints .i64 1 [k],.bytes 32 ch,.ints .i64 1 [lf],.bytes 32 sg,.bytes 32 sc,.bytes 96 ab,.bytes 32 ep,.bytes 32 ini],K=>K ⟨e,zs,ad,k,ch,lf,sg,sc,ab,ep,ini⟩
 |_,_=>False
theorem prM_eq{x:Bk}{K:PS→Prop}(h:prM x K):∃p,x=.var (pSegs p)∧K p:=by
 unfold prM at h
 split at h
 ·exact⟨_,rfl,h⟩
 ·exact h.elim
def ofP(g:PS→Res)(g0:Res):List A→(Res→Prop)→Prop
 |[.v (.pointer none)],K=>K g0
 |[x],K=>prK x fun p=>K (g p)
 |_,_=>False
theorem ofP_of{f:FuncId}{g:PS→Res}{g0:Res}(h0:FnO f [.v (.pointer none)] g0)(hx:∀p,FnO f [.sref (pSegs p) 0] (g p)):∀args K,ofP g g0 args K→∃r,FnO f args r∧K r:=by
 intro args K h
 unfold ofP at h
 split at h
 ·exact⟨_,h0,h⟩
 ·obtain⟨p,rfl,h⟩:=prK_eq h
  exact⟨_,hx p,h⟩
 ·exact h.elim
set_option maxHeartbeats 1000000 in
theorem bySeed_fn(h:List UInt8):FnO 31 [.agg [.bytes 32 h]] (.p (.var (pSegs (by0 h)))):=by
 refine fnA (E:=envQ3) Tryz.func31 Tryz.ntmps31 ?_
 refine agow ?_;(try exact⟨⟩)
 rfl
def newP(g:List UInt8→PS):List A→(Res→Prop)→Prop
 |[.agg [.bytes 32 h]],K=>K (.p (.var (pSegs (g h))))∨K (.d (.sref (pSegs (g h)) 0))
 |_,_=>False
theorem newP_of{f:FuncId}{g:List UInt8→PS}(hx:∀h,FnO f [.agg [.bytes 32 h]] (.p (.var (pSegs (g h))))):∀args K,newP g args K→∃r,FnO f args r∧K r:=by
 intro args K h
 unfold newP at h
 split at h
 ·rcases h with h|h
  ·exact⟨_,hx _,h⟩
  ·exact⟨_,fn_sref (hx _),h⟩
 ·exact h.elim
noncomputable def envQ4:EnvX:=envQ3.add 31 (newP by0) (newP_of bySeed_fn) ⟨_,Tryz.func31,by kernel_rfl,by kernel_rfl⟩
noncomputable def envQ5:EnvX:=envQ4.add 56 nodeS8 nodeS8_ok ⟨_,Tryz.func56,by kernel_rfl,by kernel_rfl⟩
noncomputable def envQ6:EnvX:=envQ5.add 15 rnodeS8 rnodeS8_ok ⟨_,Tryz.func15,by kernel_rfl,by kernel_rfl⟩
noncomputable def envQ7:EnvX:=envQ6.add 162 nextS (nextS_of next_ok) ⟨_,Tryz.func162,by kernel_rfl,by kernel_rfl⟩
noncomputable def envQ8:EnvX:=envQ7
noncomputable def envQ9:EnvX:=envQ8.add 120 upS8 upS8_ok ⟨_,Tryz.func120,by kernel_rfl,by kernel_rfl⟩
noncomputable def envQa:EnvX:=envQ9
noncomputable def envQb:EnvX:=envQa.add 75 vHashS (vHashS_of vHash_ok) ⟨_,Tryz.func75,by kernel_rfl,by kernel_rfl⟩
noncomputable def envQc:EnvX:=envQb
set_option maxHeartbeats 1000000 in
theorem signer_fn(p:PS):FnO 43 [.sref (pSegs p) 0] (.p (.obj (KeyP (scal p.sg)))):=by
 refine fnA (E:=envQc) Tryz.func43 Tryz.ntmps43 ?_
 refine agow ?_;(try exact⟨⟩)
theorem signer0_fn:FnO 43 [.v (.pointer none)] (.d (.v (.pointer none))):=by
 refine fnA (E:=envQc) Tryz.func43 Tryz.ntmps43 ?_
 refine agow ?_;(try exact⟨⟩)
theorem view_fn(p:PS):FnO 30 [.sref (pSegs p) 0] (.d (.agg (vSegs p.e p.zs p.ad p.k p.ch))):=by
 refine fnA (E:=envQc) Tryz.func30 Tryz.ntmps30 ?_
 refine agow ?_;(try exact⟨⟩)
theorem view0_fn:FnO 30 [.v (.pointer none)] (.d (.agg vZero)):=by
 refine fnA (E:=envQc) Tryz.func30 Tryz.ntmps30 ?_
 refine agow ?_;(try exact⟨⟩)
 rfl
theorem pleaf_fn(p:PS):FnO 42 [.sref (pSegs p) 0] (.d (.v (.int .i64 p.lf))):=by
 refine fnA (E:=envQc) Tryz.func42 Tryz.ntmps42 ?_
 refine agow ?_;(try exact⟨⟩)
theorem pleaf0_fn:FnO 42 [.v (.pointer none)] (.d (.v (.int .i64 0))):=by
 refine fnA (E:=envQc) Tryz.func42 Tryz.ntmps42 ?_
 refine agow ?_;(try exact⟨⟩)
theorem copy_fn(p:PS):FnO 54 [.sref (pSegs p) 0] (.p (.var (pSegs p))):=by
 refine fnA (E:=envQc) Tryz.func54 Tryz.ntmps54 ?_
 refine agow ?_;(try exact⟨⟩)
theorem copy0_fn:FnO 54 [.v (.pointer none)] (.d (.v (.pointer none))):=by
 refine fnA (E:=envQc) Tryz.func54 Tryz.ntmps54 ?_
 refine agow ?_;(try exact⟨⟩)
theorem isLast_fn(p:PS):FnO 80 [.sref (pSegs p) 0] (.d (.v (.bool (decide (p.e≥1099511627776))))):=by
 refine fnA (E:=envQc) Tryz.func80 Tryz.ntmps80 ?_
 refine agow ?_;(try exact⟨⟩)
noncomputable def envQd:EnvX:=envQc.add 43 (ofP (fun p=>.p (.obj (KeyP (scal p.sg)))) (.d (.v (.pointer none)))) (ofP_of signer0_fn signer_fn) ⟨_,Tryz.func43,by kernel_rfl,by kernel_rfl⟩
set_option maxHeartbeats 1000000 in
theorem leaf_fn(h:List UInt8):FnO 32 [.agg [.bytes 32 h]] (.d (.agg [.ints .i64 2 (leafZ h)])):=by
 refine fnA (E:=envQd) Tryz.func32 Tryz.ntmps32 ?_
 have h1:=scal_bd (sgnW h)
 have h2:=scal_bd (nodeW (lefW h))
 obtain⟨a1,a2⟩:=h1
 obtain⟨a3,a4⟩:=h2
 have a5:0≤scal (sgnW h):=by omega
 have a6:0≤scal (nodeW (lefW h)):=by omega
 refine agow ?_;(try exact⟨⟩)
 refine Or.inr ?_
 refine agow ?_;(try exact⟨⟩)
 try rfl
theorem enter_fn(p:PS)(h:List UInt8):FnMO 33 0 (.var (pSegs p)) [.agg [.bytes 32 h]] (.t []) (.var (pSegs (enterP p h))):=by
 refine fnMA (E:=envQc) Tryz.func33 Tryz.ntmps33 ?_
 refine agow ?_;(try exact⟨⟩)
end
section
open Pm
attribute [local irreducible] condK LoopA regA powI scal mulI isI fourB deriveW numB numsB bodyB nodeW nextW viewHV doR chkV
def memP(g:PS→List UInt8→Res)(g':PS→List UInt8→PS):Nat→Bk→List A→(Res→Bk→Prop)→Prop
 |0,b,[.agg [.bytes 32 h]],K=>prM b fun p=>K (g p h) (.var (pSegs (g' p h)))
 |_,_,_,_=>False
theorem memP_of{f:FuncId}{g:PS→List UInt8→Res}{g':PS→List UInt8→PS}(hx:∀p h,FnMO f 0 (.var (pSegs p)) [.agg [.bytes 32 h]] (g p h) (.var (pSegs (g' p h)))):∀pos x args K,memP g g' pos x args K→∃r x',FnMO f pos x args r x'∧K r x':=by
 intro pos x args K h
 unfold memP at h
 split at h
 ·obtain⟨p,rfl,h⟩:=prM_eq h
  exact⟨_,_,hx p _,h⟩
 ·exact h.elim
noncomputable def envQe:EnvX:=envQd.addM 33 (memP (fun _ _=>.t []) enterP) (memP_of enter_fn) ⟨_,Tryz.func33,by kernel_rfl,by kernel_rfl⟩
def leafA:List A→(Res→Prop)→Prop
 |[.agg [.bytes 32 h]],K=>∀L,L=leafZ h→K (.d (.agg [.ints .i64 2 L]))
 |_,_=>False
theorem leafA_ok:∀args K,leafA args K→∃r,FnO 32 args r∧K r:=by
 intro args K h
 unfold leafA at h
 split at h
 ·exact⟨_,leaf_fn _,h _ rfl⟩
 ·exact h.elim
noncomputable def envQf:EnvX:=envQe.add 32 leafA leafA_ok ⟨_,Tryz.func32,by kernel_rfl,by kernel_rfl⟩
set_option maxHeartbeats 1000000 in
theorem create_fn(h:List UInt8):FnO 12 [.agg [.bytes 32 h]] (.p (.var (pSegs (createP h)))):=by
 refine fnA (E:=envQf) Tryz.func12 Tryz.ntmps12 ?_
 refine agow ?_;(try exact⟨⟩)
 refine Or.inl ?_
 refine agow ?_;(try exact⟨⟩)
 intro L hL
 refine agow ?_;(try exact⟨⟩)
 have e:createP h=enterP ⟨0,L++List.drop 2 (List.replicate 31 0),(List.replicate 8 false).set 0 true,1,zB 32,0,sgnW h,lefW h,zB 96,zB 32,zB 32⟩ (fstW (lefW h)):=by rw[hL];rfl
 rw[e]
 rfl
set_option maxHeartbeats 1000000 in
theorem reach_fn(p:PS)(h:List UInt8):FnMO 86 0 (.var (pSegs p)) [.agg [.bytes 32 h]] (.d (.agg [.bytes 32 (tagE (reachP p h).ep)])) (.var (pSegs (reachP p h))):=by
 refine fnMA (E:=envQf) Tryz.func86 Tryz.ntmps86 ?_
 have hv:(viewHV p.e p.zs p.ad p.k p.ch).length=32:=viewHV_len _ _ _ _ _
 refine agow ?_;(try exact⟨⟩)
 rfl
noncomputable def envQg:EnvX:=envQf.addM 86 (memP (fun p h=>.d (.agg [.bytes 32 (tagE (reachP p h).ep)])) reachP) (memP_of reach_fn) ⟨_,Tryz.func86,by kernel_rfl,by kernel_rfl⟩
set_option maxHeartbeats 1000000 in
theorem renew_fn(p:PS)(h:List UInt8):FnMO 81 0 (.var (pSegs p)) [.agg [.bytes 32 h]] (.d (.agg [.bytes 32 (topW (lefW h))])) (.var (pSegs (renewP p h))):=by
 refine fnMA (E:=envQg) Tryz.func81 Tryz.ntmps81 ?_
 refine agow ?_;(try exact⟨⟩)
 rfl
noncomputable def envQh:EnvX:=envQg.addM 81 (memP (fun p h=>.d (.agg [.bytes 32 (topW (lefW h))])) renewP) (memP_of renew_fn) ⟨_,Tryz.func81,by kernel_rfl,by kernel_rfl⟩
noncomputable def envQi:EnvX:=envQh.add 12 (newP createP) (newP_of create_fn) ⟨_,Tryz.func12,by kernel_rfl,by kernel_rfl⟩
def chkA:List A→(Res→Prop)→Prop
 |[.agg [.ints .i64 1 [e],.ints .i64 31 zs,.bools 8 ad,.ints .i64 1 [k],.bytes 32 ch],.v (.int .i64 fr),x,y],K=>opsK x fun n ops=>votK y fun m vs=>K (.d (.v (.int .i64 (chkV e zs ad k ch fr ops n vs m))))
 |_,_=>False
theorem ra_four{S:Nat→Prop}{w:World}{a b c d:A}{vs:List Value}(h:RAs S w [a,b,c,d] vs):∃x y z u,vs=[x,y,z,u]∧RA S w a x∧RA S w b y∧RA S w c z∧RA S w d u:=by
 cases h with|cons h r=>cases r with|cons h2 r=>cases r with|cons h3 r=>cases r with|cons h4 r=>cases r;exact⟨_,_,_,_,rfl,h,h2,h3,h4⟩
theorem chkA_of{f:FuncId}(hx:∀e zs ad k ch fr ops n,n≤1000000→∀vs m,m≤1000000→vs.length=m*3→FnO f [.agg (vSegs e zs ad k ch),.v (.int .i64 fr),.row n [.ints .i64 (n*5) ops],.row m [.ints .i64 (m*3) vs]] (.d (.v (.int .i64 (chkV e zs ad k ch fr ops n vs m))))):∀args K,chkA args K→∃r,FnO f args r∧K r:=by
 intro args K h
 unfold chkA at h
 split at h
 ·obtain⟨n,ops,hn,h,hp⟩:=opsK_spec h
  obtain⟨m,vs,hm,h,hq⟩:=votK_spec h
  refine⟨_,fun S w vs' hG ha=>?_,h⟩
  obtain⟨v1,v2,v3,v4,rfl,k1,k2,k3,k4⟩:=ra_four ha
  have k5:=hq k4
  have hl:vs.length=m*3:=by cases k5 with|row k6 _ _ _ _=>exact k6.toInts.1
  exact hx _ _ _ _ _ _ _ _ hn _ _ hm hl S w _ hG (.cons k1 (.cons k2 (.cons (hp k3) (.cons k5 .nil))))
 ·exact h.elim
noncomputable def envQj:EnvX:=envQi.add 119 chkA (chkA_of check_fn) ⟨_,Tryz.func119,by kernel_rfl,by kernel_rfl⟩
noncomputable def envQk:EnvX:=envQj
noncomputable def envQl:EnvX:=envQk.add 71 applyN (applyN_of apply_ok) ⟨_,Tryz.func71,by kernel_rfl,by kernel_rfl⟩
noncomputable def envQm:EnvX:=envQl
def apE(p:PS)(fr:Int)(n:Nat)(ops:List Int)(m:Nat)(vs:List Int):Int:=
 if chkV p.e p.zs p.ad p.k p.ch fr ops n vs m≠0 then chkV p.e p.zs p.ad p.k p.ch fr ops n vs m else(doR p.e ⟨p.zs,p.ad,p.k,F8,F8⟩ fr ops n).1
def doP(p:PS)(fr:Int)(n:Nat)(ops:List Int):Vw:=(doR p.e ⟨p.zs,p.ad,p.k,F8,F8⟩ fr ops n).2
def apR(p:PS)(fr:Int)(n:Nat)(ops:List Int)(m:Nat)(vs:List Int):List A:=
 if apE p fr n ops m vs=0 then[.agg (vSegs p.e (doP p fr n ops).zs (doP p fr n ops).ad (doP p fr n ops).k p.ch),.agg [.bools 8 (doP p fr n ops).ng],.agg [.bools 8 (doP p fr n ops).gn],.v (.int .i64 0)]
 else[.agg vZero,.agg [.bools 8 F8],.agg [.bools 8 F8],.v (.int .i64 (apE p fr n ops m vs))]
set_option maxHeartbeats 1000000 in
theorem papply_fn(p:PS)(fr:Int)(n:Nat)(ops:List Int)(hn:n≤1000000)(m:Nat)(vs:List Int)(hm:m≤1000000):
  FnO 79 [.sref (pSegs p) 0,.v (.int .i64 fr),.row n [.ints .i64 (n*5) ops],.row m [.ints .i64 (m*3) vs]] (.t (apR p fr n ops m vs)):=by
 refine fnA (E:=envQm) Tryz.func79 Tryz.ntmps79 ?_
 unfold apR
 by_cases h1:chkV p.e p.zs p.ad p.k p.ch fr ops n vs m=0
 ·have h2:(chkV p.e p.zs p.ad p.k p.ch fr ops n vs m !=0)=false:=by rw[h1];rfl
  have e:apE p fr n ops m vs=(doR p.e ⟨p.zs,p.ad,p.k,F8,F8⟩ fr ops n).1:=by unfold apE;rw[if_neg (fun h=>h h1)]
  rw[e]
  clear e h1
  unfold doP
  by_cases h3:(doR p.e ⟨p.zs,p.ad,p.k,F8,F8⟩ fr ops n).1=0
  ·have h4:=decide_eq_true h3
   rw[if_pos h3]
   clear h3
   refine agow ?_;(try exact⟨⟩)
  ·have h4:=decide_eq_false h3
   rw[if_neg h3]
   clear h3
   refine agow ?_;(try exact⟨⟩)
   rfl
 ·have h2:(chkV p.e p.zs p.ad p.k p.ch fr ops n vs m !=0)=true:=by simpa using h1
  have e:apE p fr n ops m vs=chkV p.e p.zs p.ad p.k p.ch fr ops n vs m:=by unfold apE;rw[if_pos h1]
  rw[e,if_neg h1]
  clear e h1
  refine agow ?_;(try exact⟨⟩)
  rfl
end
section
open Pm
attribute [local irreducible] condK LoopA regA powI scal mulI isI fourB deriveW numB numsB bodyB nodeW nextW viewHV doR chkV
set_option maxHeartbeats 1000000 in
theorem cloneOps_fn(n:Nat)(zs:List Int)(hn:n≤100000):FnO 82 [.row n [.ints .i64 (n*5) zs]] (.d (.row n [.ints .i64 (n*5) zs])):=by
 intro S w vs hG ha
 obtain⟨v,rfl,hv⟩:=ra_one ha
 have hl:zs.length=n*5:=by cases hv with|row k1 _ _ _ _=>exact k1.toInts.1
 by_cases h0:n=0
 ·subst h0
  obtain rfl:zs=[]:=List.length_eq_zero_iff.1 (by omega)
  obtain⟨ad,c,rfl,hc⟩:∃ad c,v=.slice ad 0 c∧(ad=none→c=0):=by cases hv with|row k1 k2 k3 k4 k5=>exact⟨_,_,rfl,k4⟩
  cases ad with
  |none=>
   obtain rfl:=hc rfl
   have h:FnO 82 [.v (.slice none 0 0)] (.d (.v (.slice none 0 0))):=by
    refine fnA (E:=envQm) Tryz.func82 Tryz.ntmps82 ?_
    refine agow ?_;(try exact⟨⟩)
   refine fn_res (fun {S w v} hr=>?_) h S w _ hG (.cons (.v _) .nil)
   rw[RA.plain hr]
   exact .row (cs:=[]) (.ofInts rfl rfl) (Nat.le_refl _) (Nat.zero_le _) (fun _=>rfl) (.inl rfl)
  |some a=>
   have h:FnO 82 [.v (.slice (some a) 0 c)] (.d (.row 0 [.ints .i64 (0*5) []])):=by
    refine fn_row (e:=31) (sz:=5) ?_
    refine fnA (E:=envQm) Tryz.func82 Tryz.ntmps82 ?_
    refine agow ?_;(try exact⟨⟩)
    try rfl
   exact h S w _ hG (.cons (.v _) .nil)
 ·have h:FnO 82 [.row n [.ints .i64 (n*5) zs]] (.d (.row n [.ints .i64 (n*5) zs])):=by
   refine fn_row (e:=31) (sz:=5) ?_
   refine fnA (E:=envQm) Tryz.func82 Tryz.ntmps82 ?_
   refine agow ?_;(try exact⟨⟩)
  exact h S w _ hG ha
set_option maxHeartbeats 1000000 in
theorem cloneVotes_fn(n:Nat)(zs:List Int)(hn:n≤100000):FnO 83 [.row n [.ints .i64 (n*3) zs]] (.d (.row n [.ints .i64 (n*3) zs])):=by
 intro S w vs hG ha
 obtain⟨v,rfl,hv⟩:=ra_one ha
 have hl:zs.length=n*3:=by cases hv with|row k1 _ _ _ _=>exact k1.toInts.1
 by_cases h0:n=0
 ·subst h0
  obtain rfl:zs=[]:=List.length_eq_zero_iff.1 (by omega)
  obtain⟨ad,c,rfl,hc⟩:∃ad c,v=.slice ad 0 c∧(ad=none→c=0):=by cases hv with|row k1 k2 k3 k4 k5=>exact⟨_,_,rfl,k4⟩
  cases ad with
  |none=>
   obtain rfl:=hc rfl
   have h:FnO 83 [.v (.slice none 0 0)] (.d (.v (.slice none 0 0))):=by
    refine fnA (E:=envQm) Tryz.func83 Tryz.ntmps83 ?_
    refine agow ?_;(try exact⟨⟩)
   refine fn_res (fun {S w v} hr=>?_) h S w _ hG (.cons (.v _) .nil)
   rw[RA.plain hr]
   exact .row (cs:=[]) (.ofInts rfl rfl) (Nat.le_refl _) (Nat.zero_le _) (fun _=>rfl) (.inl rfl)
  |some a=>
   have h:FnO 83 [.v (.slice (some a) 0 c)] (.d (.row 0 [.ints .i64 (0*3) []])):=by
    refine fn_row (e:=99) (sz:=3) ?_
    refine fnA (E:=envQm) Tryz.func83 Tryz.ntmps83 ?_
    refine agow ?_;(try exact⟨⟩)
    try rfl
   exact h S w _ hG (.cons (.v _) .nil)
 ·have h:FnO 83 [.row n [.ints .i64 (n*3) zs]] (.d (.row n [.ints .i64 (n*3) zs])):=by
   refine fn_row (e:=99) (sz:=3) ?_
   refine fnA (E:=envQm) Tryz.func83 Tryz.ntmps83 ?_
   refine agow ?_;(try exact⟨⟩)
  exact h S w _ hG ha
def clonO:List A→(Res→Prop)→Prop
 |[x],K=>opsK x fun n ops=>n≤100000∧K (.d (.row n [.ints .i64 (n*5) ops]))
 |_,_=>False
theorem clonO_ok:∀args K,clonO args K→∃r,FnO 82 args r∧K r:=by
 intro args K h
 unfold clonO at h
 split at h
 ·obtain⟨n,ops,hn,⟨h1,h⟩,hp⟩:=opsK_spec h
  refine⟨_,fun S w vs hG ha=>?_,h⟩
  obtain⟨v,rfl,k⟩:=ra_one ha
  exact cloneOps_fn n ops h1 S w _ hG (.cons (hp k) .nil)
 ·exact h.elim
def clonV:List A→(Res→Prop)→Prop
 |[x],K=>votK x fun n ops=>n≤100000∧K (.d (.row n [.ints .i64 (n*3) ops]))
 |_,_=>False
theorem clonV_ok:∀args K,clonV args K→∃r,FnO 83 args r∧K r:=by
 intro args K h
 unfold clonV at h
 split at h
 ·obtain⟨n,ops,hn,⟨h1,h⟩,hp⟩:=votK_spec h
  refine⟨_,fun S w vs hG ha=>?_,h⟩
  obtain⟨v,rfl,k⟩:=ra_one ha
  exact cloneVotes_fn n ops h1 S w _ hG (.cons (hp k) .nil)
 ·exact h.elim
noncomputable def envQn:EnvX:=envQm.add 82 clonO clonO_ok ⟨_,Tryz.func82,by kernel_rfl,by kernel_rfl⟩
noncomputable def envQo:EnvX:=envQn.add 83 clonV clonV_ok ⟨_,Tryz.func83,by kernel_rfl,by kernel_rfl⟩
def pathQ:List A→(Res→Prop)→Prop
 |[.v (.int .i64 x)],K=>leafB x=true∧K (.d (.agg [.ints .i64 3 [x / 2*4+1,x / 4*8+3,7]]))
 |_,_=>False
theorem pathQ_of{f:FuncId}(hx:∀x,FnO f [.v (.int .i64 x)] (.d (.agg [.ints .i64 3 (pathL x)]))):∀args K,pathQ args K→∃r,FnO f args r∧K r:=by
 intro args K h
 unfold pathQ at h
 split at h
 ·next x=>
  have h2:=hx x
  rw[pathL,if_pos h.1]at h2
  exact⟨_,h2,h.2⟩
 ·exact h.elim
noncomputable def envQp:EnvX:=envQo.add 125 pathQ (pathQ_of path_ok) ⟨_,Tryz.func125,by kernel_rfl,by kernel_rfl⟩
noncomputable def envQq:EnvX:=envQp
noncomputable def envQr:EnvX:=envQq.add 173 idxS (idxS_ok idx_ok) ⟨_,Tryz.func173,by kernel_rfl,by kernel_rfl⟩
noncomputable def envQs:EnvX:=envQr.add 127 commonS (commonS_ok common_ok) ⟨_,Tryz.func127,by kernel_rfl,by kernel_rfl⟩
noncomputable def envQt:EnvX:=envQs.add 123 keyTS (keyTS_ok key_ok) ⟨_,Tryz.func123,by kernel_rfl,by kernel_rfl⟩
noncomputable def envQu:EnvX:=envQt.add 35 numS (numS_of num_fn) ⟨_,Tryz.func35,by kernel_rfl,by kernel_rfl⟩
set_option maxHeartbeats 1000000 in
theorem placeOf_fn(lf node:Int)(h:leafB lf=true):FnO 126 [.v (.int .i64 lf),.v (.int .i64 node)] (.d (.v (.int .i64 (placeI lf node)))):=by
 refine fnA (E:=envQu) Tryz.func126 Tryz.ntmps126 ?_
 refine agow ?_;(try exact⟨⟩)
 try rfl
def placeS:List A→(Res→Prop)→Prop
 |[.v (.int .i64 lf),.v (.int .i64 node)],K=>leafB lf=true∧K (.d (.v (.int .i64 (placeI lf node))))
 |_,_=>False
theorem placeS_ok:∀args K,placeS args K→∃r,FnO 126 args r∧K r:=by
 intro args K h
 unfold placeS at h
 split at h
 ·exact⟨_,placeOf_fn _ _ h.1,h.2⟩
 ·exact h.elim
noncomputable def envQv:EnvX:=envQu.add 126 placeS placeS_ok ⟨_,Tryz.func126,by kernel_rfl,by kernel_rfl⟩
set_option maxHeartbeats 2000000 in
theorem behind_fn(e:Int)(zs:List Int)(ad:List Bool)(k:Int)(ch:List UInt8)(e2:Int)(zs2:List Int)(ad2:List Bool)(k2:Int)(ch2:List UInt8)(c:CS)(hc:CSok c)(ht:c.tag.length=32)(hf:leafB c.fr=true)(he: -4611686018427387904≤e∧e≤4611686018427387904):
  FnO 85 [.agg (vSegs e zs ad k ch),.agg (vSegs e2 zs2 ad2 k2 ch2),.agg (cSegs c)] (.d (.agg (vSegs (e+1) (behZ zs2 c.fr c.sl c.p0 c.p1 c.p2) ad2 k2 (chnW ch (bodyB c))))):=by
 refine fnA (E:=envQv) Tryz.func85 Tryz.ntmps85 ?_
 obtain⟨h1,h2,h3,h4,h5,h6⟩:=id hc
 obtain⟨f0,f1⟩:=leafB_t hf
 obtain⟨he0,he1⟩:=he
 have hb:=bodyN_le hc
 refine agow ?_;(try exact⟨⟩)
 refine Or.inr ?_
 refine agow ?_;(try exact⟨⟩)
 refine StopL.mk (loop_unroll 4 ?_)
 refine agow ?_;(try exact⟨⟩)
 rfl
def behS:List A→(Res→Prop)→Prop
 |[.agg [.ints .i64 1 [e],.ints .i64 31 zs,.bools 8 ad,.ints .i64 1 [k],.bytes 32 ch],.agg [.ints .i64 1 [e2],.ints .i64 31 zs2,.bools 8 ad2,.ints .i64 1 [k2],.bytes 32 ch2],x],K=>
  cArgK x fun c=>leafB c.fr=true∧ -4611686018427387904≤e∧e≤4611686018427387904∧K (.d (.agg (vSegs (e+1) (behZ zs2 c.fr c.sl c.p0 c.p1 c.p2) ad2 k2 (chnW ch (bodyB c)))))
 |_,_=>False
theorem behS_ok:∀args K,behS args K→∃r,FnO 85 args r∧K r:=by
 intro args K h
 unfold behS at h
 split at h
 ·obtain⟨c,⟨h1,h2,h3,h⟩,hc⟩:=cArgK_spec h
  refine⟨_,fun S w vs hG ha=>?_,h⟩
  obtain⟨v1,v2,v3,rfl,k1,k2,k3⟩:=ra_three ha
  obtain⟨q1,q2,q3⟩:=hc k3
  exact behind_fn _ _ _ _ _ _ _ _ _ _ c q2 q3 h1 ⟨h2,h3⟩ S w _ hG (.cons k1 (.cons k2 (.cons q1 .nil)))
 ·exact h.elim
noncomputable def envQw:EnvX:=envQv.add 85 behS behS_ok ⟨_,Tryz.func85,by kernel_rfl,by kernel_rfl⟩
end
end Go.Proofs.YtbdmnobocecnfaaGreatDoor
