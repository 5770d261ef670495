/-
  Parties: how commits and parties are handed in; bodies, what is signed.
-/
import Derived.Test.YtefgbmdmmhkeaaaGreatDoorJ33
import Derived.Test.YtefgbmdmmhkeaaaGreatDoorJ32
namespace Go.Proofs.YtefgbmdmmhkeaaaGreatDoor
set_option linter.unusedVariables false
set_option linter.unusedSimpArgs false
set_option maxRecDepth 100000
open Go.RowKit
section
open Pm
attribute [local irreducible] condK LoopA regA powI scal mulI isI fourB deriveW numB numsB bodyB
def rowsF(bx:Nat→List UInt8)(k:Nat):List A:=(List.range k).map fun j=>.row (bx j).length [.bytes (bx j).length (bx j)]
def bxK:A→(Nat→(Nat→List UInt8)→Prop)→Prop
 | .recs k s f,K=>s=1∧∃bx,f=boxF bx∧K k bx
 | .row k [.gen m l],K=>m=k∧∃bx,l=rowsF bx k∧K k bx
 | .v (.slice none 0 0),K=>K 0 fun _=>[]
 |_,_=>False
theorem rowsF_at(bx:Nat→List UInt8){k j:Nat}(h:j<k):(rowsF bx k).getD j (.v undef)=.row (bx j).length [.bytes (bx j).length (bx j)]:=by
 simp[rowsF,List.getD_eq_getElem?_getD,h]
theorem bxK_spec{x:A}{K:Nat→(Nat→List UInt8)→Prop}(h:bxK x K):∃k bx,K k bx∧∀{S:Nat→Prop} {w:World} {v:Value},RA S w x v→RA S w (.recs k 1 (boxF bx)) v:=by
 unfold bxK at h
 split at h
 ·obtain⟨rfl,bx,rfl,h⟩:=h
  exact⟨_,_,h,fun h=>h⟩
 ·obtain⟨rfl,bx,rfl,h⟩:=h
  exact⟨_,_,h,fun hv=>ra_recs (fun j hj=>by rw[rowsF_at bx hj];rfl) hv⟩
 ·refine⟨_,_,h,fun {S w v} hv=>?_⟩
  rw[RA.plain hv]
  exact .recs (cs:=fun _=>[]) (fun j hj=>absurd hj (by omega)) (Nat.le_refl _) (Nat.zero_le _) (fun _=>rfl) (.inl rfl)
 ·exact h.elim
def cArgK:A→(CS→Prop)→Prop
 | .agg [.ints .i64 2 [e,fr],.gen 2 [x,y],.ints .i64 4 [sl,a,b,c],.gen 1 [z],.bytes 32 tg,.ints .i64 2 [sE,sS]],K=>
  opsK x fun n ops=>votK y fun m vs=>bxK z fun k bx=>n≤3000∧m≤3000∧k≤3000∧(∀j,j<k→(bx j).length≤6000)∧K ⟨e,fr,n,ops,m,vs,sl,a,b,c,k,bx,tg,sE,sS⟩
 |_,_=>False
theorem cArgK_spec{x:A}{K:CS→Prop}(h:cArgK x K):∃c,K c∧∀{S:Nat→Prop} {w:World} {v:Value},RA S w x v→RA S w (.agg (cSegs c)) v∧CSok c∧c.tag.length=32:=by
 unfold cArgK at h
 split at h
 ·next e fr x y sl a b c z tg sE sS=>
  obtain⟨n,ops,hn,h,hx⟩:=opsK_spec h
  obtain⟨m,vs,hm,h,hy⟩:=votK_spec h
  obtain⟨k,bx,⟨h1,h2,h3,h4,h⟩,hz⟩:=bxK_spec h
  refine⟨_,h,fun {S w v} hv=>?_⟩
  cases hv with
  |agg hl=>
   cases hl with
   |ints q1 r1=>
    cases r1 with
    |gen g1 q2 r2=>
     cases r2 with
     |ints q3 r3=>
      cases r3 with
      |gen g2 q4 r4=>
       cases r4 with
       |bytes q5 r5=>
        cases r5 with
        |ints q6 r6=>
         cases r6
         cases g1 with
         |cons gx gx1 g1=>
          cases g1 with
          |cons gy gy1 g1=>
           cases g1
           cases g2 with
           |cons gz gz1 g2=>
            cases g2
            have kx:=hx gx
            have ky:=hy gy
            have lx:ops.length=n*5:=by cases kx with|row k1 _ _ _ _=>exact k1.toInts.1
            have ly:vs.length=m*3:=by cases ky with|row k1 _ _ _ _=>exact k1.toInts.1
            exact⟨.agg (.ints q1 (.gen (.cons kx gx1 (.cons ky gy1 .nil)) rfl (.ints q3 (.gen (.cons (hz gz) gz1 .nil) rfl (.bytes q5 (.ints q6 .nil)))))),⟨h1,h2,h3,lx,ly,h4⟩,q5⟩
 ·exact h.elim
def comS(g:CS→Res):List A→(Res→Prop)→Prop
 |[x],K=>cArgK x fun c=>K (g c)
 |_,_=>False
theorem comS_of{f:FuncId}{g:CS→Res}(hx:∀c,CSok c→c.tag.length=32→FnO f [.agg (cSegs c)] (g c)):∀args K,comS g args K→∃r,FnO f args r∧K r:=by
 intro args K h
 unfold comS at h
 split at h
 ·obtain⟨c,h,hc⟩:=cArgK_spec h
  refine⟨_,fun S w vs hG ha=>?_,h⟩
  obtain⟨v,rfl,h1⟩:=ra_one ha
  obtain⟨k1,k2,k3⟩:=hc h1
  exact hx c k2 k3 S w _ hG (.cons k1 .nil)
 ·exact h.elim
def bodyR(c:CS):Res:=.o 5 1 (bodyN c) [.bytes (bodyN c) (bodyB c)]
def signedR(c:CS):Res:=.o 5 1 (bodyN c+32) [.bytes (bodyN c+32) (bodyB c++c.tag)]
def bodyS:List A→(Res→Prop)→Prop
 |[x],K=>cArgK x fun c=>K (bodyR c)∨K (.d (.row (bodyN c) [.bytes (bodyN c) (bodyB c)]))
 |_,_=>False
theorem bodyS_of{f:FuncId}(hx:∀c,CSok c→FnO f [.agg (cSegs c)] (bodyR c)):∀args K,bodyS args K→∃r,FnO f args r∧K r:=by
 intro args K h
 unfold bodyS at h
 split at h
 ·obtain⟨c,h,hc⟩:=cArgK_spec h
  rcases h with h|h
  ·refine⟨_,fun S w vs hG ha=>?_,h⟩
   obtain⟨v,rfl,h1⟩:=ra_one ha
   obtain⟨k1,k2,k3⟩:=hc h1
   exact hx c k2 S w _ hG (.cons k1 .nil)
  ·refine⟨_,fun S w vs hG ha=>?_,h⟩
   obtain⟨v,rfl,h1⟩:=ra_one ha
   obtain⟨k1,k2,k3⟩:=hc h1
   exact fn_row (hx c k2) S w _ hG (.cons k1 .nil)
 ·exact h.elim
noncomputable def envQ0:EnvX:=envBn.add 116 bodyS (bodyS_of wbody_ok) ⟨_,Tryz.func116,by kernel_rfl,by kernel_rfl⟩
noncomputable def envQ1:EnvX:=envQ0
theorem bodyN_le{c:CS}(h:CSok c):bodyN c≤30000000:=by
 have:=bxN_le (bx:=c.bx) (k:=c.k) h.bx
 have h1:=h.n;have h2:=h.m;have h3:=h.k
 unfold bodyN
 omega
attribute [local irreducible] bodyN
set_option maxHeartbeats 1000000 in
theorem signed_fn(c:CS)(hc:CSok c)(ht:c.tag.length=32):FnO 81 [.agg (cSegs c)] (signedR c):=by
 refine fnA (E:=envQ1) Tryz.func81 Tryz.ntmps81 ?_
 have hb:=bodyN_le hc
 have hl:=body_length hc
 obtain⟨e,fr,n,ops,m,vs,sl,a,b,d,k,bx,tg,sE,sS⟩:=c
 obtain⟨h1,h2,h3,h4,h5,h6⟩:=id hc
 simp only at h1 h2 h3 h4 h5 h6 ht
 refine agow ?_;(try exact⟨⟩)
 refine Or.inl ?_
 refine agow ?_;(try exact⟨⟩)
 rfl
noncomputable def envQ2:EnvX:=envQ1.add 81 (comS signedR) (comS_of signed_fn) ⟨_,Tryz.func81,by kernel_rfl,by kernel_rfl⟩
noncomputable def envQ3:EnvX:=envQ2
end
section
open Pm
attribute [local irreducible] condK LoopA regA powI scal mulI isI fourB deriveW numB numsB bodyB nodeW nextW viewHV
def prK:A→(PS→Prop)→Prop
 | .sref [.ints .i64 1 [e],.ints .i64 31 zs,.bools 8 ad,.ints .i64 1 [k],.bytes 32 ch,.ints .i64 1 [lf],.bytes 32 sg,.bytes 32 sc,.bytes 96 ab,.bytes 32 ep,.bytes 32 ini] 0,K=>K ⟨e,zs,ad,k,ch,lf,sg,sc,ab,ep,ini⟩
 |_,_=>False
theorem prK_eq{x:A}{K:PS→Prop}(h:prK x K):∃p,x=.sref (pSegs p) 0∧K p:=by
 unfold prK at h
 split at h
 ·exact⟨_,rfl,h⟩
 ·exact h.elim
def prM:Bk→(PS→Prop)→Prop
 | .var [.ints .i64 1 [e],.ints .i64 31 zs,.bools 8 ad,.ints .i64 1 [k],.bytes 32 ch,.ints .i64 1 [lf],.bytes 32 sg,.bytes 32 sc,.bytes 96 ab,.bytes 32 ep,.bytes 32 ini],K=>K ⟨e,zs,ad,k,ch,lf,sg,sc,ab,ep,ini⟩
 |_,_=>False
theorem prM_eq{x:Bk}{K:PS→Prop}(h:prM x K):∃p,x=.var (pSegs p)∧K p:=by
 unfold prM at h
 split at h
 ·exact⟨_,rfl,h⟩
 ·exact h.elim
def ofP(g:PS→Res)(g0:Res):List A→(Res→Prop)→Prop
 |[.v (.pointer none)],K=>K g0
 |[x],K=>prK x fun p=>K (g p)
 |_,_=>False
theorem ofP_of{f:FuncId}{g:PS→Res}{g0:Res}(h0:FnO f [.v (.pointer none)] g0)(hx:∀p,FnO f [.sref (pSegs p) 0] (g p)):∀args K,ofP g g0 args K→∃r,FnO f args r∧K r:=by
 intro args K h
 unfold ofP at h
 split at h
 ·exact⟨_,h0,h⟩
 ·obtain⟨p,rfl,h⟩:=prK_eq h
  exact⟨_,hx p,h⟩
 ·exact h.elim
set_option maxHeartbeats 1000000 in
theorem bySeed_fn(h:List UInt8):FnO 89 [.agg [.bytes 32 h]] (.p (.var (pSegs (by0 h)))):=by
 refine fnA (E:=envQ3) Tryz.func89 Tryz.ntmps89 ?_
 refine agow ?_;(try exact⟨⟩)
 rfl
def newP(g:List UInt8→PS):List A→(Res→Prop)→Prop
 |[.agg [.bytes 32 h]],K=>K (.p (.var (pSegs (g h))))∨K (.d (.sref (pSegs (g h)) 0))
 |_,_=>False
theorem newP_of{f:FuncId}{g:List UInt8→PS}(hx:∀h,FnO f [.agg [.bytes 32 h]] (.p (.var (pSegs (g h))))):∀args K,newP g args K→∃r,FnO f args r∧K r:=by
 intro args K h
 unfold newP at h
 split at h
 ·rcases h with h|h
  ·exact⟨_,hx _,h⟩
  ·exact⟨_,fn_sref (hx _),h⟩
 ·exact h.elim
noncomputable def envQ4:EnvX:=envQ3.add 89 (newP by0) (newP_of bySeed_fn) ⟨_,Tryz.func89,by kernel_rfl,by kernel_rfl⟩
noncomputable def envQ5:EnvX:=envQ4.add 77 nodeS8 nodeS8_ok ⟨_,Tryz.func77,by kernel_rfl,by kernel_rfl⟩
noncomputable def envQ6:EnvX:=envQ5
noncomputable def envQ7:EnvX:=envQ6.add 155 nextS (nextS_of next_ok) ⟨_,Tryz.func155,by kernel_rfl,by kernel_rfl⟩
noncomputable def envQ8:EnvX:=envQ7
noncomputable def envQ9:EnvX:=envQ8.add 112 upS8 upS8_ok ⟨_,Tryz.func112,by kernel_rfl,by kernel_rfl⟩
noncomputable def envQa:EnvX:=envQ9
noncomputable def envQb:EnvX:=envQa.add 65 vHashS (vHashS_of vHash_ok) ⟨_,Tryz.func65,by kernel_rfl,by kernel_rfl⟩
noncomputable def envQc:EnvX:=envQb
set_option maxHeartbeats 1000000 in
theorem signer_fn(p:PS):FnO 35 [.sref (pSegs p) 0] (.p (.obj (KeyP (scal p.sg)))):=by
 refine fnA (E:=envQc) Tryz.func35 Tryz.ntmps35 ?_
 refine agow ?_;(try exact⟨⟩)
theorem signer0_fn:FnO 35 [.v (.pointer none)] (.d (.v (.pointer none))):=by
 refine fnA (E:=envQc) Tryz.func35 Tryz.ntmps35 ?_
 refine agow ?_;(try exact⟨⟩)
theorem copy_fn(p:PS):FnO 20 [.sref (pSegs p) 0] (.p (.var (pSegs p))):=by
 refine fnA (E:=envQc) Tryz.func20 Tryz.ntmps20 ?_
 refine agow ?_;(try exact⟨⟩)
theorem copy0_fn:FnO 20 [.v (.pointer none)] (.d (.v (.pointer none))):=by
 refine fnA (E:=envQc) Tryz.func20 Tryz.ntmps20 ?_
 refine agow ?_;(try exact⟨⟩)
noncomputable def envQd:EnvX:=envQc.add 35 (ofP (fun p=>.p (.obj (KeyP (scal p.sg)))) (.d (.v (.pointer none)))) (ofP_of signer0_fn signer_fn) ⟨_,Tryz.func35,by kernel_rfl,by kernel_rfl⟩
set_option maxHeartbeats 1000000 in
theorem leaf_fn(h:List UInt8):FnO 90 [.agg [.bytes 32 h]] (.d (.agg [.ints .i64 2 (leafZ h)])):=by
 refine fnA (E:=envQd) Tryz.func90 Tryz.ntmps90 ?_
 have h1:=scal_bd (sgnW h)
 have h2:=scal_bd (nodeW (lefW h))
 obtain⟨a1,a2⟩:=h1
 obtain⟨a3,a4⟩:=h2
 have a5:0≤scal (sgnW h):=by omega
 have a6:0≤scal (nodeW (lefW h)):=by omega
 refine agow ?_;(try exact⟨⟩)
 refine Or.inr ?_
 refine agow ?_;(try exact⟨⟩)
 try rfl
theorem enter_fn(p:PS)(h:List UInt8):FnMO 91 0 (.var (pSegs p)) [.agg [.bytes 32 h]] (.t []) (.var (pSegs (enterP p h))):=by
 refine fnMA (E:=envQc) Tryz.func91 Tryz.ntmps91 ?_
 refine agow ?_;(try exact⟨⟩)
end
section
open Pm
attribute [local irreducible] condK LoopA regA powI scal mulI isI fourB deriveW numB numsB bodyB nodeW nextW viewHV
def memP(g:PS→List UInt8→Res)(g':PS→List UInt8→PS):Nat→Bk→List A→(Res→Bk→Prop)→Prop
 |0,b,[.agg [.bytes 32 h]],K=>prM b fun p=>K (g p h) (.var (pSegs (g' p h)))
 |_,_,_,_=>False
theorem memP_of{f:FuncId}{g:PS→List UInt8→Res}{g':PS→List UInt8→PS}(hx:∀p h,FnMO f 0 (.var (pSegs p)) [.agg [.bytes 32 h]] (g p h) (.var (pSegs (g' p h)))):∀pos x args K,memP g g' pos x args K→∃r x',FnMO f pos x args r x'∧K r x':=by
 intro pos x args K h
 unfold memP at h
 split at h
 ·obtain⟨p,rfl,h⟩:=prM_eq h
  exact⟨_,_,hx p _,h⟩
 ·exact h.elim
noncomputable def envQe:EnvX:=envQd.addM 91 (memP (fun _ _=>.t []) enterP) (memP_of enter_fn) ⟨_,Tryz.func91,by kernel_rfl,by kernel_rfl⟩
def leafA:List A→(Res→Prop)→Prop
 |[.agg [.bytes 32 h]],K=>∀L,L=leafZ h→K (.d (.agg [.ints .i64 2 L]))
 |_,_=>False
theorem leafA_ok:∀args K,leafA args K→∃r,FnO 90 args r∧K r:=by
 intro args K h
 unfold leafA at h
 split at h
 ·exact⟨_,leaf_fn _,h _ rfl⟩
 ·exact h.elim
noncomputable def envQf:EnvX:=envQe.add 90 leafA leafA_ok ⟨_,Tryz.func90,by kernel_rfl,by kernel_rfl⟩
set_option maxHeartbeats 1000000 in
theorem create_fn(h:List UInt8):FnO 49 [.agg [.bytes 32 h]] (.p (.var (pSegs (createP h)))):=by
 refine fnA (E:=envQf) Tryz.func49 Tryz.ntmps49 ?_
 refine agow ?_;(try exact⟨⟩)
 refine Or.inl ?_
 refine agow ?_;(try exact⟨⟩)
 intro L hL
 refine agow ?_;(try exact⟨⟩)
 have e:createP h=enterP ⟨0,L++List.drop 2 (List.replicate 31 0),(List.replicate 8 false).set 0 true,1,zB 32,0,sgnW h,lefW h,zB 96,zB 32,zB 32⟩ (fstW (lefW h)):=by rw[hL];rfl
 rw[e]
 rfl
end
section
open Pm
attribute [local irreducible] condK LoopA regA powI scal mulI isI fourB deriveW numB numsB bodyB nodeW nextW viewHV
end
end Go.Proofs.YtefgbmdmmhkeaaaGreatDoor
