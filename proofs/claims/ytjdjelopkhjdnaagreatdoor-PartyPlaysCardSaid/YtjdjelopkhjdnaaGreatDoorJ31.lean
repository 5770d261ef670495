/-
  The machine without memory: answers told as data: a new variable as an address among cells that stay; a slice of one's own as a row; rows as records. No program is named here.
-/
import Derived.Test.YtjdjelopkhjdnaaGreatDoorJ30
namespace Go.Proofs.YtjdjelopkhjdnaaGreatDoor
set_option linter.unusedVariables false
set_option linter.unusedSimpArgs false
set_option maxRecDepth 100000
open Go.RowKit
section
theorem aw9{S:Nat→Prop}{B:Nat}{w:World}{l:List Seg}{v:Value}(h:RR S B w (.p (.var l)) v):RR S B w (.d (.sref l 0)) v:=by
 obtain⟨r,rfl,hB,cs,t,h1,h2⟩:=h
 refine .sref (o:=0) (h2.up ⟨Nat.le_refl _,fun q _ hq=>⟨hq.1,fun _=>rfl⟩⟩) (.inr ⟨r,0,rfl,.inr hB,(Array.getElem?_eq_some_iff.1 h1).1,fun i hi=>?_⟩)
 rw[Nat.zero_add,iU h1,List.getElem?_eq_getElem hi]
theorem Py{S:Nat→Prop}{B:Nat}{w:World}{e:TypeId}{sz n:Nat}{l:List Seg}{v:Value}(h:RR S B w (.o e sz n l) v):RR S B w (.d (.row n l)) v:=by
 obtain⟨cs,h2,h3⟩:=h
 have k3:RL (fun r=>S r∨B≤r) w l cs:=h3.up ⟨Nat.le_refl _,fun q _ hq=>⟨hq.1,fun _=>rfl⟩⟩
 rcases h2.2 with⟨e1,e2⟩|⟨r,cap,cur,e1,e3,e4,e5,e6,e7,e8⟩
 ·rw[e1,e2]
  have hcs:cs=[]:=by have:=h2.1;rw[e2,Nat.zero_mul]at this;exact List.length_eq_zero_iff.1 this
  exact .row k3 (Nat.le_refl _) (Nat.zero_le _) (fun _=>rfl) (.inl hcs)
 ·rw[e1]
  refine .row k3 e5 e6 (fun e=>by cases e) (.inr ⟨r,0,rfl,.inr e3,(Array.getElem?_eq_some_iff.1 e4).1,fun j hj=>?_⟩)
  rw[Nat.zero_add,cell_of_row w r j cur _ (0,0) e4]
  have:(cur.toList.take (n*sz))[j]?=cs[j]?:=by rw[e8]
  rw[List.getElem?_take,if_pos (by have:=h2.1;omega),Array.getElem?_toList,List.getElem?_eq_getElem hj]at this
  exact this
section
variable {P : Program} {G : Nat → Option (List Seg)} {f : FuncId} {args : List A} {pos : Nat} {x x' : Bk}
theorem BR{l:List Seg}(h:lC P G f args (.p (.var l))):lC P G f args (.d (.sref l 0)):=fun S w vs hG hv=>(h S w vs hG hv).mono fun e w' ⟨v,h1,h2,h3⟩=>⟨v,h1,aw9 h2,h3⟩
theorem mQ{e:TypeId}{sz n:Nat}{l:List Seg}(h:lC P G f args (.o e sz n l)):lC P G f args (.d (.row n l)):=fun S w vs hG hv=>(h S w vs hG hv).mono fun e w' ⟨v,h1,h2,h3⟩=>⟨v,h1,Py h2,h3⟩
theorem Q8{e:TypeId}{sz n:Nat}{l:List Seg}(h:Sy P G f pos x args (.o e sz n l) x'):Sy P G f pos x args (.d (.row n l)) x':=fun S w r vs hr hG hx hv=>(h S w r vs hr hG hx hv).mono fun e w' ⟨v,h1,h2,h3⟩=>⟨v,h1,Py h2,h3⟩
theorem Yj{a b:A}(hab:∀{S:Nat→Prop} {w:World} {v:Value},RA S w a v→RA S w b v)(h:lC P G f args (.d a)):lC P G f args (.d b):=fun S w vs hG hv=>(h S w vs hG hv).mono fun e w' ⟨v,h1,h2,h3⟩=>⟨v,h1,hab h2,h3⟩
end
theorem av9{S:Nat→Prop}{w:World}{v:Value}{n:Nat}{l:List A}{f:Nat→List Seg}(hf:∀j,j<n→f j=[.gen 1 [l.getD j (.v undef)]])(h:RA S w (.row n [.gen n l]) v):RA S w (.recs n 1 f) v:=by
 cases h with
 |row h h1 h2 h3 h4=>
  rename_i c cs a
  obtain⟨e1,g⟩:=h.pU
  have hcl:cs.length=n:=by rw[g.len,e1]
  refine .recs (cs:=fun j=>[cs.getD j undef]) (fun j hj=>?_) h1 h2 h3 ?_
  ·rw[hf j hj]
   obtain⟨u,k1,k2,k3⟩:=g.at j (by omega)
   have k4:cs.getD j undef=u:=by rw[List.getD_eq_getElem?_getD,k1];rfl
   show RL S w _ [cs.getD j undef]
   rw[k4]
   exact .l8 rfl (.cons k2 k3 .nil)
  ·rcases h4 with h4|⟨b,o,h5,h6,h7,h8⟩
   ·left;rw[h4]at hcl;simpa using hcl.symm
   ·refine .inr ⟨b,o,h5,fun j hj=>.inr ⟨b,o+j*1,rfl,h6,h7,fun i hi=>?_⟩⟩
    simp at hi;subst hi
    rw[Nat.mul_one,Nat.add_zero,h8 j (by omega)]
    simp[List.getD_eq_getElem?_getD,List.getElem?_eq_getElem (show j<cs.length by omega)]
end
section
def gV:List UInt8:=List.replicate 480 0
def MX(t0:TypeId):Option TI:=
 match t0 with
 |85=>some (bD 298 [.ints .i64 1 [0],.ints .i64 31 (List.replicate 31 0),.bools 8 (List.replicate 8 false),.ints .i64 1 [0],.bytes 32 (List.replicate 32 0),.ints .i64 1 [0],.bytes 32 (List.replicate 32 0),.bytes 32 (List.replicate 32 0),.bytes 96 (List.replicate 96 0),.bytes 32 (List.replicate 32 0),.bytes 32 (List.replicate 32 0)] [0,73,74,106,138,234,266] [53,3,37,37,83,37,37] 536 false [(0,73),(73,1),(74,32),(106,32),(138,96),(234,32),(266,32)])
 |28=>some (uX)
 |56=>some (gM 15 37 32 [.bytes 480 gV] 480)
 |57=>some (gM 15 4 1 [.bools 15 (List.replicate 15 false)] 15)
 |59=>some (bD 635 [.ints .i64 1 [0],.ints .i64 31 (List.replicate 31 0),.bools 8 (List.replicate 8 false),.ints .i64 1 [0],.bytes 32 (List.replicate 32 0),.ints .i64 1 [0],.ints .i64 2 [0,0],.bytes 480 gV,.bools 15 (List.replicate 15 false),.bytes 32 (List.replicate 32 0),.bytes 32 (List.replicate 32 0)] [0,73,74,76,556,571,603] [53,3,55,56,57,37,37] 888 false [(0,73),(73,1),(74,2),(76,480),(556,15),(571,32),(603,32)])
 |29=>some (uX)
 |66=>some (kM 79 108)
 |31=>some (bD 2 [.gen 2 [.v (.pointer none),.v (.pointer none)]] [0,1] [28,29] 16 false [(0,1),(1,1)])
 |23=>some (kM 31 2)
 |27=>some (bD 3 [.ints .i64 1 [0],.gen 1 [.v (.slice none 0 0)],.ints .i64 1 [0]] [0,1,2] [3,25,3] 40 false [(0,1),(1,1),(2,1)])
 |22=>some (kM 27 3)
 |_=>EX t0
set_option maxRecDepth 100000 in
theorem bA7:∀t i,MX t=some i→Cu Tryz.prog t i:=by
 intro t i h
 unfold MX at h
 split at h<;>first|(cases h;exact EL (by kernel_rfl))|exact aS8 _ _ h
set_option maxRecDepth 100000 in
theorem bA6:∀t i,MX t=some i→i.eq=true→EqT Tryz.prog t i:=by
 intro t i h
 unfold MX at h
 split at h<;>first|(cases h;intro he;cases he;done)|(cases h;intro _;exact C9 (by kernel_rfl))|exact aS7 _ _ h
end
section
open Pm
attribute [local irreducible] aV aZ bQ aA au dA cK bC aF bW
def Jt:Nat→Bk→List A→(bP→Bk→Prop)→Prop
 |0,.obj p,[.v (.int .i64 y)],K=>∃s,p=pX s∧K (.t [.agg [.bytes 32 (ug y s)],.v (.bool (cK y))]) (.obj (pX s))
 |_,_,_,_=>False
theorem PY:∀pos x args K,Jt pos x args K→∃r x',fK 156 pos x args r x'∧K r x':=by
 intro pos x args K hd
 unfold Jt at hd
 split at hd
 ·next p y=>
  obtain⟨s,rfl,hK⟩:=hd
  refine⟨_,_,fun S w r vs hr _ hx ha=>?_,hK⟩
  obtain⟨v,rfl,h1⟩:=iL ha
  rw[RA.plain h1]
  obtain⟨cs,t,h2,rfl,d,us,h3⟩:=hx
  have hb:bK w r (CD s d us) 167:=by unfold bK;rw[h2,←h3]
  refine(PZ r s us y d w hb).mono ?_
  rintro e w' ⟨rfl,⟨us',h4⟩,h5⟩
  exact⟨_,rfl,⟨[_,_],rfl,.cons (Ci (ED _ _)) (.cons (.v _) .nil)⟩,⟨(CD s d us').toList,_,h4,rfl,d,us',rfl⟩,h5⟩
 ·exact hd.elim
def Ew:List A→(bP→Prop)→Prop
 |[.agg [.ints .i64 2 [s,y0]],.v (.int .i64 y)],K=>K (.t [.agg [.bytes 32 (ug y s)],.v (.bool (cK y))])
 |_,_=>False
theorem Md:∀args K,Ew args K→∃r,aQ 107 args r∧K r:=by
 intro args K hd
 unfold Ew at hd
 split at hd
 ·next s y0 y=>
  refine⟨_,fun S w vs _ ha=>?_,hd⟩
  obtain⟨v1,v2,rfl,h1,h2⟩:=lH ha
  obtain rfl:v1=.agg #[.int .i64 s,.int .i64 y0]:=by
   cases h1 with|agg k=>obtain⟨_,rfl⟩:=k.kN;rfl
  rw[RA.plain h2]
  refine(PE s y0 y w).mono ?_
  rintro e w' ⟨rfl,hB⟩
  exact⟨_,rfl,⟨[_,_],rfl,.cons (Ci (ED _ _)) (.cons (.v _) .nil)⟩,hB⟩
 ·exact hd.elim
def Q9:List A→(bP→Prop)→Prop
 |[.v (.int .i64 n)],K=>K (.d (.row 4 [.bytes 4 (bC n)]))
 |_,_=>False
theorem Kw{f:FuncId}(h:∀args K,Ky args K→∃r,aQ f args r∧K r):∀args K,Q9 args K→∃r,aQ f args r∧K r:=by
 intro args K hd
 unfold Q9 at hd
 split at hd
 ·next n=>
  obtain⟨r,h1,h2⟩:=h [.v (.int .i64 n)] (fun r=>r=.o 5 1 4 [.bytes 4 (bC n)]) rfl
  subst h2
  exact⟨_,mQ h1,hd⟩
 ·exact hd.elim
noncomputable def aA8:av:=uq.ah5 MX bA7 bA6
noncomputable def aW8:av:=aA8.add 155 (FB cK) (yx zT) ⟨_,Tryz.func155,by kernel_rfl,by kernel_rfl⟩
noncomputable def aW9:av:=aW8.add 106 (FB cK) (yx vT) ⟨_,Tryz.func106,by kernel_rfl,by kernel_rfl⟩
noncomputable def aX0:av:=aW9.add 79 KA Dl ⟨_,Tryz.func79,by kernel_rfl,by kernel_rfl⟩
noncomputable def aX1:av:=aX0.add 73 Es Al ⟨_,Tryz.func73,by kernel_rfl,by kernel_rfl⟩
noncomputable def aX2:av:=aX1.kr 35 zf sO ⟨_,Tryz.func35,by kernel_rfl,by kernel_rfl⟩
noncomputable def aX3:av:=aX2.kr 156 Jt PY ⟨_,Tryz.func156,by kernel_rfl,by kernel_rfl⟩
noncomputable def aX4:av:=aX3.add 107 Ew Md ⟨_,Tryz.func107,by kernel_rfl,by kernel_rfl⟩
noncomputable def aX5:av:=aX4.add 92 Q9 (Kw (yL Dh)) ⟨_,Tryz.func92,by kernel_rfl,by kernel_rfl⟩
noncomputable def aX6:av:=aX5.add 109 Q9 (Kw (yL Ak)) ⟨_,Tryz.func109,by kernel_rfl,by kernel_rfl⟩
noncomputable def aX7:av:=aX6.add 23 yD wY ⟨_,Tryz.func23,by kernel_rfl,by kernel_rfl⟩
noncomputable def aX8:av:=aX7.add 50 rF qo ⟨_,Tryz.func50,by kernel_rfl,by kernel_rfl⟩
noncomputable def aX9:av:=aX8.add 96 sw CP ⟨_,Tryz.func96,by kernel_rfl,by kernel_rfl⟩
noncomputable def XH:av:=aX9.add 57 sw DI ⟨_,Tryz.func57,by kernel_rfl,by kernel_rfl⟩
def R6(g:List UInt8→List UInt8→List UInt8→bP):List A→(bP→Prop)→Prop
 |[.agg [.bytes 32 h],x,y],K=>pO x fun p=>pO y fun q=>p.length≤1000000∧q.length≤1000000∧K (g h p q)
 |_,_=>False
theorem Ma{f:FuncId}{g:List UInt8→List UInt8→List UInt8→bP}(hx:∀h p q,p.length≤1000000→q.length≤1000000→aQ f [.agg [.bytes 32 h],.row p.length [.bytes p.length p],.row q.length [.bytes q.length q]] (g h p q)):∀args K,R6 g args K→∃r,aQ f args r∧K r:=by
 intro args K h
 unfold R6 at h
 split at h
 ·obtain⟨p,h,hp⟩:=iw h
  obtain⟨q,⟨h1,h2,h⟩,hq⟩:=iw h
  refine⟨_,fun S w vs hG ha=>?_,h⟩
  obtain⟨v1,v2,v3,rfl,k1,k2,k3⟩:=jC ha
  exact hx _ p q h1 h2 S w _ hG (.cons k1 (.cons (hp k2) (.cons (hq k3) .nil)))
 ·exact h.elim
set_option maxHeartbeats 1000000 in
theorem aS2(h p q:List UInt8)(hp:p.length≤1000000)(hq:q.length≤1000000):aQ 158 [.agg [.bytes 32 h],.row p.length [.bytes p.length p],.row q.length [.bytes q.length q]] (.d (.row 8 [.bytes 8 (wB h p q)])):=by
 refine dF (E:=XH) Tryz.func158 Tryz.ntmps158 ?_
 refine aj ?_;(try exact⟨⟩)
 rfl
set_option maxHeartbeats 1000000 in
theorem ax0(h p q:List UInt8)(hp:p.length≤1000000)(hq:q.length≤1000000):aQ 110 [.agg [.bytes 32 h],.row p.length [.bytes p.length p],.row q.length [.bytes q.length q]] (.o 5 1 8 [.bytes 8 (wB h p q)]):=by
 refine dF (E:=XH) Tryz.func110 Tryz.ntmps110 ?_
 refine aj ?_;(try exact⟨⟩)
 rfl
noncomputable def aY0:av:=XH.add 158 (R6 fun h p q=>.d (.row 8 [.bytes 8 (wB h p q)])) (Ma aS2) ⟨_,Tryz.func158,by kernel_rfl,by kernel_rfl⟩
noncomputable def XI:av:=aY0.add 110 (R6 fun h p q=>.d (.row 8 [.bytes 8 (wB h p q)])) (Ma fun h p q h1 h2=>mQ (ax0 h p q h1 h2)) ⟨_,Tryz.func110,by kernel_rfl,by kernel_rfl⟩
end
section
def Ye(l:List Seg):Bool:=l.all fun s=>match s with| .gen _ l=>l.all uO|_=>true
def Dk(s:St):List ResultVar→Bool
 |[]=>true
 | .tmp t::r=>(match s.sl t with| .d a=>oZ a| .own b _=>(match s.bk b with|some (.sl _ _ _ l)=>Ye l|_=>false)|_=>false)&&Dk s r
 | .cell _ _::_=>false
section
variable {E : av} {base : Nat} {w0 : W0 E.G}
theorem xQ{s:St}{ρ:Nat→Option Value}{a:Act}{w:World}{S:Nat→Prop}(g:Good S base w0 s ρ a w):∀{l:List ResultVar} {K:List A→Prop},Dk s l=true→Aj E s l K→
  ∃gN vs,K gN∧vs.length=l.length∧(l.mapM (qx a.tmps)).run E.P w=.ok vs w∧lK (fun r=>False∨base≤r) w gN vs
 |[],K,hf,h=>⟨[],[],h,rfl,by simp,.nil⟩
 | .cell p ty::r,K,hf,h=>by cases hf
 | .tmp t::r,K,hf,h=>by
  rw[Dk,Bool.and_eq_true]at hf
  obtain⟨hf1,hf2⟩:=hf
  unfold Aj at h
  split at h
  ·next d hd=>
   rw[hd]at hf1
   obtain⟨gN,vs,h1,hlen,h2,h3⟩:=xQ g hf2 h
   refine⟨d::gN,a.tmps.getD t undef::vs,h1,by simp[hlen],by simp[Sem.run_bind,h2,qx],.cons ?_ h3⟩
   have:=g.ev (.tmp t)
   rw[show s.ev (.tmp t)=.d d from hd]at this
   exact ou hf1 this
  ·next b n hd=>
   rw[hd]at hf1
   split at h
   ·next ty sz m l hk=>
    simp only[hk]at hf1
    obtain⟨rfl,h⟩:=h
    obtain⟨gN,vs,h1,hlen,h2,h3⟩:=xQ g hf2 h
    have k:=g.ev (.tmp t)
    rw[show s.ev (.tmp t)=.own b n from hd]at k
    obtain⟨cs,k1,k2,k3⟩:=mg g hk k
    refine⟨.row n l::gN,a.tmps.getD t undef::vs,h1,by simp[hlen],by simp[Sem.run_bind,h2,qx],.cons ?_ h3⟩
    have hv:a.tmps.getD t undef=a.eval (.tmp t):=rfl
    rw[hv]
    have k4:RL (fun r=>False∨base≤r) w l cs:=lg hf1 k3
    rcases k2.2 with⟨e1,e2⟩|⟨r,cap,cur,e1,e3,e4,e5,e6,e7,e8⟩
    ·rw[e1,e2]
     have hcs:cs=[]:=by have:=k2.1;rw[e2,Nat.zero_mul]at this;exact List.length_eq_zero_iff.1 this
     exact .row k4 (Nat.le_refl _) (Nat.zero_le _) (fun _=>rfl) (.inl hcs)
    ·rw[e1]
     refine .row k4 e5 e6 (fun e=>by cases e) (.inr ⟨r,0,rfl,.inr e3,(Array.getElem?_eq_some_iff.1 e4).1,fun j hj=>?_⟩)
     rw[Nat.zero_add,cell_of_row w r j cur _ (0,0) e4]
     have:(cur.toList.take (n*sz))[j]?=cs[j]?:=by rw[e8]
     rw[List.getElem?_take,if_pos (by have:=k2.1;omega),Array.getElem?_toList,List.getElem?_eq_getElem hj]at this
     exact this
   ·exact h.elim
  ·next b hd=>rw[hd]at hf1;cases hf1
  ·exact h.elim
theorem NZ{f:FuncId}{fn:Func}{c:Code}{args:List A}{res:List A}(hf:E.P.funcs[f]?=some fn)(hb:fn.body=some c)(hn:args.length≤fn.ntmps)(h2:2≤fn.results.toList.length)
  (h:Fx E c ⟨args.map T.d++List.replicate (fn.ntmps-args.length) (.d (.v undef)),[]⟩ fun e s=>(e=.normal∨e=.ret)∧Dk s fn.results.toList=true∧Aj E s fn.results.toList fun r=>r=res):FnF E.P E.G f args (.t res):=by
 intro S w vs hG hv
 have hlen:∀{l:List A} {vs:List Value},lK S w l vs→vs.length=l.length:=by
  intro l vs h
  induction h with
  |nil=>rfl
  |cons _ _ ih=>simp[ih]
 have hl:=hlen hv
 refine calls_of_wp hf hb ?_
 have g:=oV (G:=E.G) fn.ntmps hn hG hv
 refine wp_mono (jH c h g) ?_
 rintro e a' w' ⟨s',ρ',⟨he,hfr,hr⟩,hg⟩
 obtain⟨gN,vs',rfl,hlen',hm,hr'⟩:=xQ hg hfr hr
 have hne:vs'.length≠1:=by omega
 have hrun:(results fn a'.tmps).run E.P w'=.ok (.tuple vs'.toArray) w':=by
  rw[sQ]
  have h2:fn.results=fn.results.toList.toArray:=by simp
  rw[h2,List.mapM_toArray]
  simp[Sem.run_bind,hm,hne]
 rcases he with rfl|rfl
 ·exact⟨hg.defs,_,hrun,_,rfl,⟨vs',rfl,hr'⟩,hg.wo.below fun _ h=>h⟩
 ·exact⟨hg.defs,_,hrun,_,rfl,⟨vs',rfl,hr'⟩,hg.wo.below fun _ h=>h⟩
end
end
section
theorem TJ{E:av}{f:FuncId}{fn:Func}{c:Code}{args res:List A}{n:Nat}{t:List T}(hf:E.P.funcs[f]?=some fn)(hnt:fn.ntmps=n)
  (left:Fx E c ⟨t,[]⟩ fun e s=>(e=.normal∨e=.ret)∧Dk s fn.results.toList=true∧Aj E s fn.results.toList fun r=>r=res)(hb:fn.body=some c:=by exact rfl)(hn:args.length≤n:=by exact Nat.le_of_ble_eq_true rfl)
  (ht:args.map T.d++List.replicate (n-args.length) (.d (.v undef))=t:=by(conv=>lhs;simp only[Seg.n,Wh,Wi,Wj,Wm,Wn,Wo,Wp,Wq,Ws,BD,BF,BG,BH,BI,BJ,BK,Int.reduceAdd,Int.zero_add,Seg.cell,Seg.sub,List.set_nil,iD,mG,List.take_append_drop,St.app,St.oh,St.ev,List.getD_cons_zero,List.getD_cons_succ,List.getD_nil,St.sl,St.bk,jg,ig,kM,gM,bD,weaken,lN,List.set_cons_zero,List.set_cons_succ,List.length_cons,List.length_nil,List.cons_append,List.nil_append,List.append_nil,List.map_cons,List.map_nil,List.replicate_succ,List.replicate_zero,List.take_succ_cons,List.take_zero,List.drop_succ_cons,List.drop_zero,List.take_nil,List.drop_nil,Nat.reduceAdd,Nat.reduceSub,Nat.reduceMul,Nat.reduceEqDiff,Nat.reduceLT,Nat.reduceLeDiff,Nat.zero_add,Nat.add_zero,Nat.sub_self,Nat.sub_zero,Nat.one_mul,Nat.mul_one,Nat.zero_mul,je,l6,List.flatten_cons,List.flatten_nil,eq_self,ite_true,if_true,if_false,↓reduceIte,reduceCtorEq,Int.reduceToNat]);all_goals exact rfl)(h2:2≤fn.results.toList.length:=by exact Nat.le_of_ble_eq_true rfl):FnF E.P E.G f args (.t res):=by
 subst hnt;subst ht;exact NZ hf hb hn h2 left
theorem FnF.okT{P:Program}{G:Nat→Option (List Seg)}{f:FuncId}{args l:List A}(h:FnF P G f args (.t l)):lC P G f args (.t l):=fun S w vs hG hv=>(h S w vs hG hv).mono fun e w' ⟨v,h1,⟨vs',h2,h3⟩,h4⟩=>⟨v,h1,⟨vs',h2,h3.up ⟨Nat.le_refl _,fun q _ hq=>⟨.inr (hq.elim False.elim id),fun _=>rfl⟩⟩⟩,h4⟩
end
end Go.Proofs.YtjdjelopkhjdnaaGreatDoor
