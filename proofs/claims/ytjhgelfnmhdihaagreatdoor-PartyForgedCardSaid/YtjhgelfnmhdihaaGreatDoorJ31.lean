/-
  The machine without memory: answers told as data: a new variable as an address among cells that stay; a slice of one's own as a row; rows as records. No program is named here.
-/
import Derived.Test.YtjhgelfnmhdihaaGreatDoorJ30
namespace Go.Proofs.YtjhgelfnmhdihaaGreatDoor
set_option linter.unusedVariables false
set_option linter.unusedSimpArgs false
set_option maxRecDepth 100000
open Go.RowKit
section
theorem ax8{S:Nat→Prop}{B:Nat}{w:World}{l:List Seg}{v:Value}(h:RR S B w (.p (.var l)) v):RR S B w (.d (.sref l 0)) v:=by
 obtain⟨r,rfl,hB,cs,t,h1,h2⟩:=h
 refine .sref (o:=0) (h2.up ⟨Nat.le_refl _,fun q _ hq=>⟨hq.1,fun _=>rfl⟩⟩) (.inr ⟨r,0,rfl,.inr hB,(Array.getElem?_eq_some_iff.1 h1).1,fun i hi=>?_⟩)
 rw[Nat.zero_add,iY h1,List.getElem?_eq_getElem hi]
theorem P6{S:Nat→Prop}{B:Nat}{w:World}{e:TypeId}{sz n:Nat}{l:List Seg}{v:Value}(h:RR S B w (.o e sz n l) v):RR S B w (.d (.row n l)) v:=by
 obtain⟨cs,h2,h3⟩:=h
 have k3:RL (fun r=>S r∨B≤r) w l cs:=h3.up ⟨Nat.le_refl _,fun q _ hq=>⟨hq.1,fun _=>rfl⟩⟩
 rcases h2.2 with⟨e1,e2⟩|⟨r,cap,cur,e1,e3,e4,e5,e6,e7,e8⟩
 ·rw[e1,e2]
  have hcs:cs=[]:=by have:=h2.1;rw[e2,Nat.zero_mul]at this;exact List.length_eq_zero_iff.1 this
  exact .row k3 (Nat.le_refl _) (Nat.zero_le _) (fun _=>rfl) (.inl hcs)
 ·rw[e1]
  refine .row k3 e5 e6 (fun e=>by cases e) (.inr ⟨r,0,rfl,.inr e3,(Array.getElem?_eq_some_iff.1 e4).1,fun j hj=>?_⟩)
  rw[Nat.zero_add,cell_of_row w r j cur _ (0,0) e4]
  have:(cur.toList.take (n*sz))[j]?=cs[j]?:=by rw[e8]
  rw[List.getElem?_take,if_pos (by have:=h2.1;omega),Array.getElem?_toList,List.getElem?_eq_getElem hj]at this
  exact this
section
variable {P : Program} {G : Nat → Option (List Seg)} {f : FuncId} {args : List A} {pos : Nat} {x x' : Bk}
theorem Cb{l:List Seg}(h:lM P G f args (.p (.var l))):lM P G f args (.d (.sref l 0)):=fun S w vs hG hv=>(h S w vs hG hv).mono fun e w' ⟨v,h1,h2,h3⟩=>⟨v,h1,ax8 h2,h3⟩
theorem mZ{e:TypeId}{sz n:Nat}{l:List Seg}(h:lM P G f args (.o e sz n l)):lM P G f args (.d (.row n l)):=fun S w vs hG hv=>(h S w vs hG hv).mono fun e w' ⟨v,h1,h2,h3⟩=>⟨v,h1,P6 h2,h3⟩
theorem Rs{e:TypeId}{sz n:Nat}{l:List Seg}(h:SQ P G f pos x args (.o e sz n l) x'):SQ P G f pos x args (.d (.row n l)) x':=fun S w r vs hr hG hx hv=>(h S w r vs hr hG hx hv).mono fun e w' ⟨v,h1,h2,h3⟩=>⟨v,h1,P6 h2,h3⟩
theorem Yr{a b:A}(hab:∀{S:Nat→Prop} {w:World} {v:Value},RA S w a v→RA S w b v)(h:lM P G f args (.d a)):lM P G f args (.d b):=fun S w vs hG hv=>(h S w vs hG hv).mono fun e w' ⟨v,h1,h2,h3⟩=>⟨v,h1,hab h2,h3⟩
end
theorem aw8{S:Nat→Prop}{w:World}{v:Value}{n:Nat}{l:List A}{f:Nat→List Seg}(hf:∀j,j<n→f j=[.gen 1 [l.getD j (.v undef)]])(h:RA S w (.row n [.gen n l]) v):RA S w (.recs n 1 f) v:=by
 cases h with
 |row h h1 h2 h3 h4=>
  rename_i c cs a
  obtain⟨e1,g⟩:=h.pX
  have hcl:cs.length=n:=by rw[g.len,e1]
  refine .recs (cs:=fun j=>[cs.getD j undef]) (fun j hj=>?_) h1 h2 h3 ?_
  ·rw[hf j hj]
   obtain⟨u,k1,k2,k3⟩:=g.at j (by omega)
   have k4:cs.getD j undef=u:=by rw[List.getD_eq_getElem?_getD,k1];rfl
   show RL S w _ [cs.getD j undef]
   rw[k4]
   exact .mE rfl (.cons k2 k3 .nil)
  ·rcases h4 with h4|⟨b,o,h5,h6,h7,h8⟩
   ·left;rw[h4]at hcl;simpa using hcl.symm
   ·refine .inr ⟨b,o,h5,fun j hj=>.inr ⟨b,o+j*1,rfl,h6,h7,fun i hi=>?_⟩⟩
    simp at hi;subst hi
    rw[Nat.mul_one,Nat.add_zero,h8 j (by omega)]
    simp[List.getD_eq_getElem?_getD,List.getElem?_eq_getElem (show j<cs.length by omega)]
end
section
def gY:List UInt8:=List.replicate 480 0
def Ng(t0:TypeId):Option TI:=
 match t0 with
 |106=>some (bF 298 [.ints .i64 1 [0],.ints .i64 31 (List.replicate 31 0),.bools 8 (List.replicate 8 false),.ints .i64 1 [0],.bytes 32 (List.replicate 32 0),.ints .i64 1 [0],.bytes 32 (List.replicate 32 0),.bytes 32 (List.replicate 32 0),.bytes 96 (List.replicate 96 0),.bytes 32 (List.replicate 32 0),.bytes 32 (List.replicate 32 0)] [0,73,74,106,138,234,266] [50,3,48,48,104,48,48] 536 false [(0,73),(73,1),(74,32),(106,32),(138,96),(234,32),(266,32)])
 |28=>some (vk)
 |53=>some (gT 15 48 32 [.bytes 480 gY] 480)
 |54=>some (gT 15 4 1 [.bools 15 (List.replicate 15 false)] 15)
 |56=>some (bF 635 [.ints .i64 1 [0],.ints .i64 31 (List.replicate 31 0),.bools 8 (List.replicate 8 false),.ints .i64 1 [0],.bytes 32 (List.replicate 32 0),.ints .i64 1 [0],.ints .i64 2 [0,0],.bytes 480 gY,.bools 15 (List.replicate 15 false),.bytes 32 (List.replicate 32 0),.bytes 32 (List.replicate 32 0)] [0,73,74,76,556,571,603] [50,3,52,53,54,48,48] 888 false [(0,73),(73,1),(74,2),(76,480),(556,15),(571,32),(603,32)])
 |29=>some (vk)
 |66=>some (kS 88 108)
 |31=>some (bF 2 [.gen 2 [.v (.pointer none),.v (.pointer none)]] [0,1] [28,29] 16 false [(0,1),(1,1)])
 |23=>some (kS 31 2)
 |27=>some (bF 3 [.ints .i64 1 [0],.gen 1 [.v (.slice none 0 0)],.ints .i64 1 [0]] [0,1,2] [3,25,3] 40 false [(0,1),(1,1),(2,1)])
 |22=>some (kS 27 3)
 |_=>Fh t0
set_option maxRecDepth 100000 in
theorem bD4:∀t i,Ng t=some i→CG Tryz.prog t i:=by
 intro t i h
 unfold Ng at h
 split at h<;>first|(cases h;exact EX (by kernel_rfl))|exact aU3 _ _ h
set_option maxRecDepth 100000 in
theorem bD3:∀t i,Ng t=some i→i.eq=true→EqT Tryz.prog t i:=by
 intro t i h
 unfold Ng at h
 split at h<;>first|(cases h;intro he;cases he;done)|(cases h;intro _;exact Di (by kernel_rfl))|exact aU2 _ _ h
end
section
open Pm
attribute [local irreducible] aU aZ bR aA au dB cO bD aF bZ
def JJ:Nat→Bk→List A→(bP→Bk→Prop)→Prop
 |0,.obj p,[.v (.int .i64 y)],K=>∃s,p=p9 s∧K (.t [.agg [.bytes 32 (uq y s)],.v (.bool (cO y))]) (.obj (p9 s))
 |_,_,_,_=>False
theorem Qi:∀pos x args K,JJ pos x args K→∃r x',gq 158 pos x args r x'∧K r x':=by
 intro pos x args K hd
 unfold JJ at hd
 split at hd
 ·next p y=>
  obtain⟨s,rfl,hK⟩:=hd
  refine⟨_,_,fun S w r vs hr _ hx ha=>?_,hK⟩
  obtain⟨v,rfl,h1⟩:=iP ha
  rw[RA.plain h1]
  obtain⟨cs,t,h2,rfl,d,us,h3⟩:=hx
  have hb:bM w r (CD s d us) 182:=by unfold bM;rw[h2,←h3]
  refine(Qj r s us y d w hb).mono ?_
  rintro e w' ⟨rfl,⟨us',h4⟩,h5⟩
  exact⟨_,rfl,⟨[_,_],rfl,.cons (Cr (EO _ _)) (.cons (.v _) .nil)⟩,⟨(CD s d us').toList,_,h4,rfl,d,us',rfl⟩,h5⟩
 ·exact hd.elim
def EI:List A→(bP→Prop)→Prop
 |[.agg [.ints .i64 2 [s,y0]],.v (.int .i64 y)],K=>K (.t [.agg [.bytes 32 (uq y s)],.v (.bool (cO y))])
 |_,_=>False
theorem Mw:∀args K,EI args K→∃r,aP 145 args r∧K r:=by
 intro args K hd
 unfold EI at hd
 split at hd
 ·next s y0 y=>
  refine⟨_,fun S w vs _ ha=>?_,hd⟩
  obtain⟨v1,v2,rfl,h1,h2⟩:=lT ha
  obtain rfl:v1=.agg #[.int .i64 s,.int .i64 y0]:=by
   cases h1 with|agg k=>obtain⟨_,rfl⟩:=k.kT;rfl
  rw[RA.plain h2]
  refine(P8 s y0 y w).mono ?_
  rintro e w' ⟨rfl,hB⟩
  exact⟨_,rfl,⟨[_,_],rfl,.cons (Cr (EO _ _)) (.cons (.v _) .nil)⟩,hB⟩
 ·exact hd.elim
def Rt:List A→(bP→Prop)→Prop
 |[.v (.int .i64 n)],K=>K (.d (.row 4 [.bytes 4 (bD n)]))
 |_,_=>False
theorem KS{f:FuncId}(h:∀args K,KT args K→∃r,aP f args r∧K r):∀args K,Rt args K→∃r,aP f args r∧K r:=by
 intro args K hd
 unfold Rt at hd
 split at hd
 ·next n=>
  obtain⟨r,h1,h2⟩:=h [.v (.int .i64 n)] (fun r=>r=.o 5 1 4 [.bytes 4 (bD n)]) rfl
  subst h2
  exact⟨_,mZ h1,hd⟩
 ·exact hd.elim
noncomputable def aB6:ay:=uF.ai1 Ng bD4 bD3
noncomputable def aY4:ay:=aB6.add 175 (FP cO) (yB zZ) ⟨_,Tryz.func175,by kernel_rfl,by kernel_rfl⟩
noncomputable def aY5:ay:=aY4.add 144 (FP cO) (yB vY) ⟨_,Tryz.func144,by kernel_rfl,by kernel_rfl⟩
noncomputable def aY6:ay:=aY5.add 101 KV Dv ⟨_,Tryz.func101,by kernel_rfl,by kernel_rfl⟩
noncomputable def aY7:ay:=aY6.add 141 ED Au ⟨_,Tryz.func141,by kernel_rfl,by kernel_rfl⟩
noncomputable def aY8:ay:=aY7.kG 48 zn sV ⟨_,Tryz.func48,by kernel_rfl,by kernel_rfl⟩
noncomputable def aY9:ay:=aY8.kG 158 JJ Qi ⟨_,Tryz.func158,by kernel_rfl,by kernel_rfl⟩
noncomputable def aZ0:ay:=aY9.add 145 EI Mw ⟨_,Tryz.func145,by kernel_rfl,by kernel_rfl⟩
noncomputable def aZ1:ay:=aZ0.add 117 Rt (KS (yO Dp)) ⟨_,Tryz.func117,by kernel_rfl,by kernel_rfl⟩
noncomputable def aZ2:ay:=aZ1.add 147 Rt (KS (yO Ar)) ⟨_,Tryz.func147,by kernel_rfl,by kernel_rfl⟩
noncomputable def aZ3:ay:=aZ2.add 51 yG xk ⟨_,Tryz.func51,by kernel_rfl,by kernel_rfl⟩
noncomputable def aZ4:ay:=aZ3.add 69 rG qy ⟨_,Tryz.func69,by kernel_rfl,by kernel_rfl⟩
noncomputable def aZ5:ay:=aZ4.add 121 sD CZ ⟨_,Tryz.func121,by kernel_rfl,by kernel_rfl⟩
noncomputable def XR:ay:=aZ5.add 76 sD DW ⟨_,Tryz.func76,by kernel_rfl,by kernel_rfl⟩
def Sn(g:List UInt8→List UInt8→List UInt8→bP):List A→(bP→Prop)→Prop
 |[.agg [.bytes 32 h],x,y],K=>pV x fun p=>pV y fun q=>p.length≤1000000∧q.length≤1000000∧K (g h p q)
 |_,_=>False
theorem Ms{f:FuncId}{g:List UInt8→List UInt8→List UInt8→bP}(hx:∀h p q,p.length≤1000000→q.length≤1000000→aP f [.agg [.bytes 32 h],.row p.length [.bytes p.length p],.row q.length [.bytes q.length q]] (g h p q)):∀args K,Sn g args K→∃r,aP f args r∧K r:=by
 intro args K h
 unfold Sn at h
 split at h
 ·obtain⟨p,h,hp⟩:=iD h
  obtain⟨q,⟨h1,h2,h⟩,hq⟩:=iD h
  refine⟨_,fun S w vs hG ha=>?_,h⟩
  obtain⟨v1,v2,v3,rfl,k1,k2,k3⟩:=jI ha
  exact hx _ p q h1 h2 S w _ hG (.cons k1 (.cons (hp k2) (.cons (hq k3) .nil)))
 ·exact h.elim
set_option maxHeartbeats 1000000 in
theorem aT7(h p q:List UInt8)(hp:p.length≤1000000)(hq:q.length≤1000000):aP 161 [.agg [.bytes 32 h],.row p.length [.bytes p.length p],.row q.length [.bytes q.length q]] (.d (.row 8 [.bytes 8 (wG h p q)])):=by
 refine dK (E:=XR) Tryz.func161 Tryz.ntmps161 ?_
 refine aj ?_;(try exact⟨⟩)
 rfl
set_option maxHeartbeats 1000000 in
theorem ax9(h p q:List UInt8)(hp:p.length≤1000000)(hq:q.length≤1000000):aP 148 [.agg [.bytes 32 h],.row p.length [.bytes p.length p],.row q.length [.bytes q.length q]] (.o 5 1 8 [.bytes 8 (wG h p q)]):=by
 refine dK (E:=XR) Tryz.func148 Tryz.ntmps148 ?_
 refine aj ?_;(try exact⟨⟩)
 rfl
noncomputable def aZ6:ay:=XR.add 161 (Sn fun h p q=>.d (.row 8 [.bytes 8 (wG h p q)])) (Ms aT7) ⟨_,Tryz.func161,by kernel_rfl,by kernel_rfl⟩
noncomputable def XT:ay:=aZ6.add 148 (Sn fun h p q=>.d (.row 8 [.bytes 8 (wG h p q)])) (Ms fun h p q h1 h2=>mZ (ax9 h p q h1 h2)) ⟨_,Tryz.func148,by kernel_rfl,by kernel_rfl⟩
end
section
def Yn(l:List Seg):Bool:=l.all fun s=>match s with| .gen _ l=>l.all uU|_=>true
def Du(s:St):List ResultVar→Bool
 |[]=>true
 | .tmp t::r=>(match s.sl t with| .d a=>pE a| .own b _=>(match s.bk b with|some (.sl _ _ _ l)=>Yn l|_=>false)|_=>false)&&Du s r
 | .cell _ _::_=>false
section
variable {E : ay} {base : Nat} {w0 : W0 E.G}
theorem xS{s:St}{ρ:Nat→Option Value}{a:Act}{w:World}{S:Nat→Prop}(g:Good S base w0 s ρ a w):∀{l:List ResultVar} {K:List A→Prop},Du s l=true→Aq E s l K→
  ∃gU vs,K gU∧vs.length=l.length∧(l.mapM (qC a.tmps)).run E.P w=.ok vs w∧lW (fun r=>False∨base≤r) w gU vs
 |[],K,hf,h=>⟨[],[],h,rfl,by simp,.nil⟩
 | .cell p ty::r,K,hf,h=>by cases hf
 | .tmp t::r,K,hf,h=>by
  rw[Du,Bool.and_eq_true]at hf
  obtain⟨hf1,hf2⟩:=hf
  unfold Aq at h
  split at h
  ·next d hd=>
   rw[hd]at hf1
   obtain⟨gU,vs,h1,hlen,h2,h3⟩:=xS g hf2 h
   refine⟨d::gU,a.tmps.getD t undef::vs,h1,by simp[hlen],by simp[Sem.run_bind,h2,qC],.cons ?_ h3⟩
   have:=g.ev (.tmp t)
   rw[show s.ev (.tmp t)=.d d from hd]at this
   exact oI hf1 this
  ·next b n hd=>
   rw[hd]at hf1
   split at h
   ·next ty sz m l hk=>
    simp only[hk]at hf1
    obtain⟨rfl,h⟩:=h
    obtain⟨gU,vs,h1,hlen,h2,h3⟩:=xS g hf2 h
    have k:=g.ev (.tmp t)
    rw[show s.ev (.tmp t)=.own b n from hd]at k
    obtain⟨cs,k1,k2,k3⟩:=mF g hk k
    refine⟨.row n l::gU,a.tmps.getD t undef::vs,h1,by simp[hlen],by simp[Sem.run_bind,h2,qC],.cons ?_ h3⟩
    have hv:a.tmps.getD t undef=a.eval (.tmp t):=rfl
    rw[hv]
    have k4:RL (fun r=>False∨base≤r) w l cs:=lJ hf1 k3
    rcases k2.2 with⟨e1,e2⟩|⟨r,cap,cur,e1,e3,e4,e5,e6,e7,e8⟩
    ·rw[e1,e2]
     have hcs:cs=[]:=by have:=k2.1;rw[e2,Nat.zero_mul]at this;exact List.length_eq_zero_iff.1 this
     exact .row k4 (Nat.le_refl _) (Nat.zero_le _) (fun _=>rfl) (.inl hcs)
    ·rw[e1]
     refine .row k4 e5 e6 (fun e=>by cases e) (.inr ⟨r,0,rfl,.inr e3,(Array.getElem?_eq_some_iff.1 e4).1,fun j hj=>?_⟩)
     rw[Nat.zero_add,cell_of_row w r j cur _ (0,0) e4]
     have:(cur.toList.take (n*sz))[j]?=cs[j]?:=by rw[e8]
     rw[List.getElem?_take,if_pos (by have:=k2.1;omega),Array.getElem?_toList,List.getElem?_eq_getElem hj]at this
     exact this
   ·exact h.elim
  ·next b hd=>rw[hd]at hf1;cases hf1
  ·exact h.elim
theorem Oo{f:FuncId}{fn:Func}{c:Code}{args:List A}{res:List A}(hf:E.P.funcs[f]?=some fn)(hb:fn.body=some c)(hn:args.length≤fn.ntmps)(h2:2≤fn.results.toList.length)
  (h:FL E c ⟨args.map T.d++List.replicate (fn.ntmps-args.length) (.d (.v undef)),[]⟩ fun e s=>(e=.normal∨e=.ret)∧Du s fn.results.toList=true∧Aq E s fn.results.toList fun r=>r=res):FnF E.P E.G f args (.t res):=by
 intro S w vs hG hv
 have hlen:∀{l:List A} {vs:List Value},lW S w l vs→vs.length=l.length:=by
  intro l vs h
  induction h with
  |nil=>rfl
  |cons _ _ ih=>simp[ih]
 have hl:=hlen hv
 refine calls_of_wp hf hb ?_
 have g:=pq (G:=E.G) fn.ntmps hn hG hv
 refine wp_mono (jN c h g) ?_
 rintro e a' w' ⟨s',ρ',⟨he,hfr,hr⟩,hg⟩
 obtain⟨gU,vs',rfl,hlen',hm,hr'⟩:=xS hg hfr hr
 have hne:vs'.length≠1:=by omega
 have hrun:(results fn a'.tmps).run E.P w'=.ok (.tuple vs'.toArray) w':=by
  rw[sW]
  have h2:fn.results=fn.results.toList.toArray:=by simp
  rw[h2,List.mapM_toArray]
  simp[Sem.run_bind,hm,hne]
 rcases he with rfl|rfl
 ·exact⟨hg.defs,_,hrun,_,rfl,⟨vs',rfl,hr'⟩,hg.zS.below fun _ h=>h⟩
 ·exact⟨hg.defs,_,hrun,_,rfl,⟨vs',rfl,hr'⟩,hg.zS.below fun _ h=>h⟩
end
end
section
theorem T9{E:ay}{f:FuncId}{fn:Func}{c:Code}{args res:List A}{n:Nat}{t:List T}(hf:E.P.funcs[f]?=some fn)(hnt:fn.ntmps=n)
  (left:FL E c ⟨t,[]⟩ fun e s=>(e=.normal∨e=.ret)∧Du s fn.results.toList=true∧Aq E s fn.results.toList fun r=>r=res)(hb:fn.body=some c:=by exact rfl)(hn:args.length≤n:=by exact Nat.le_of_ble_eq_true rfl)
  (ht:args.map T.d++List.replicate (n-args.length) (.d (.v undef))=t:=by(conv=>lhs;simp only[Seg.n,Wx,Wy,Wz,WA,WB,WC,WE,WG,WH,BK,BL,BN,BO,BP,BQ,BR,Int.reduceAdd,Int.zero_add,Seg.cell,Seg.sub,List.set_nil,iH,mO,List.take_append_drop,St.app,St.oF,St.ev,List.getD_cons_zero,List.getD_cons_succ,List.getD_nil,St.sl,St.bk,jl,iA,kS,gT,bF,weaken,lY,List.set_cons_zero,List.set_cons_succ,List.length_cons,List.length_nil,List.cons_append,List.nil_append,List.append_nil,List.map_cons,List.map_nil,List.replicate_succ,List.replicate_zero,List.take_succ_cons,List.take_zero,List.drop_succ_cons,List.drop_zero,List.take_nil,List.drop_nil,Nat.reduceAdd,Nat.reduceSub,Nat.reduceMul,Nat.reduceEqDiff,Nat.reduceLT,Nat.reduceLeDiff,Nat.zero_add,Nat.add_zero,Nat.sub_self,Nat.sub_zero,Nat.one_mul,Nat.mul_one,Nat.zero_mul,jk,mD,List.flatten_cons,List.flatten_nil,eq_self,ite_true,if_true,if_false,↓reduceIte,reduceCtorEq,Int.reduceToNat]);all_goals exact rfl)(h2:2≤fn.results.toList.length:=by exact Nat.le_of_ble_eq_true rfl):FnF E.P E.G f args (.t res):=by
 subst hnt;subst ht;exact Oo hf hb hn h2 left
theorem FnF.okT{P:Program}{G:Nat→Option (List Seg)}{f:FuncId}{args l:List A}(h:FnF P G f args (.t l)):lM P G f args (.t l):=fun S w vs hG hv=>(h S w vs hG hv).mono fun e w' ⟨v,h1,⟨vs',h2,h3⟩,h4⟩=>⟨v,h1,⟨vs',h2,h3.up ⟨Nat.le_refl _,fun q _ hq=>⟨.inr (hq.elim False.elim id),fun _=>rfl⟩⟩⟩,h4⟩
end
end Go.Proofs.YtjhgelfnmhdihaaGreatDoor
