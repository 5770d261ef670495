/-
  The machine without memory: answers told as data: a new variable as an address among cells that stay; a slice of one's own as a row; rows as records. No program is named here.
-/
import Derived.Test.YtbdmnobocecnfaaGreatDoorJ30
namespace Go.Proofs.YtbdmnobocecnfaaGreatDoor
set_option linter.unusedVariables false
set_option linter.unusedSimpArgs false
set_option maxRecDepth 100000
open Go.RowKit
section
theorem rr_sref{S:Nat→Prop}{B:Nat}{w:World}{l:List Seg}{v:Value}(h:RR S B w (.p (.var l)) v):RR S B w (.d (.sref l 0)) v:=by
 obtain⟨r,rfl,hB,cs,t,h1,h2⟩:=h
 refine .sref (o:=0) (h2.up ⟨Nat.le_refl _,fun q _ hq=>⟨hq.1,fun _=>rfl⟩⟩) (.inr ⟨r,0,rfl,.inr hB,(Array.getElem?_eq_some_iff.1 h1).1,fun i hi=>?_⟩)
 rw[Nat.zero_add,cells_of h1,List.getElem?_eq_getElem hi]
theorem rr_row{S:Nat→Prop}{B:Nat}{w:World}{e:TypeId}{sz n:Nat}{l:List Seg}{v:Value}(h:RR S B w (.o e sz n l) v):RR S B w (.d (.row n l)) v:=by
 obtain⟨cs,h2,h3⟩:=h
 have k3:RL (fun r=>S r∨B≤r) w l cs:=h3.up ⟨Nat.le_refl _,fun q _ hq=>⟨hq.1,fun _=>rfl⟩⟩
 rcases h2.2 with⟨e1,e2⟩|⟨r,cap,cur,e1,e3,e4,e5,e6,e7,e8⟩
 ·rw[e1,e2]
  have hcs:cs=[]:=by have:=h2.1;rw[e2,Nat.zero_mul]at this;exact List.length_eq_zero_iff.1 this
  exact .row k3 (Nat.le_refl _) (Nat.zero_le _) (fun _=>rfl) (.inl hcs)
 ·rw[e1]
  refine .row k3 e5 e6 (fun e=>by cases e) (.inr ⟨r,0,rfl,.inr e3,(Array.getElem?_eq_some_iff.1 e4).1,fun j hj=>?_⟩)
  rw[Nat.zero_add,cell_of_row w r j cur _ (0,0) e4]
  have:(cur.toList.take (n*sz))[j]?=cs[j]?:=by rw[e8]
  rw[List.getElem?_take,if_pos (by have:=h2.1;omega),Array.getElem?_toList,List.getElem?_eq_getElem hj]at this
  exact this
section
variable {P : Program} {G : Nat → Option (List Seg)} {f : FuncId} {args : List A} {pos : Nat} {x x' : Bk}
theorem fn_sref{l:List Seg}(h:FnOK P G f args (.p (.var l))):FnOK P G f args (.d (.sref l 0)):=fun S w vs hG hv=>(h S w vs hG hv).mono fun e w' ⟨v,h1,h2,h3⟩=>⟨v,h1,rr_sref h2,h3⟩
theorem fn_row{e:TypeId}{sz n:Nat}{l:List Seg}(h:FnOK P G f args (.o e sz n l)):FnOK P G f args (.d (.row n l)):=fun S w vs hG hv=>(h S w vs hG hv).mono fun e w' ⟨v,h1,h2,h3⟩=>⟨v,h1,rr_row h2,h3⟩
theorem fnM_row{e:TypeId}{sz n:Nat}{l:List Seg}(h:FnM P G f pos x args (.o e sz n l) x'):FnM P G f pos x args (.d (.row n l)) x':=fun S w r vs hr hG hx hv=>(h S w r vs hr hG hx hv).mono fun e w' ⟨v,h1,h2,h3⟩=>⟨v,h1,rr_row h2,h3⟩
theorem fn_res{a b:A}(hab:∀{S:Nat→Prop} {w:World} {v:Value},RA S w a v→RA S w b v)(h:FnOK P G f args (.d a)):FnOK P G f args (.d b):=fun S w vs hG hv=>(h S w vs hG hv).mono fun e w' ⟨v,h1,h2,h3⟩=>⟨v,h1,hab h2,h3⟩
end
theorem ra_recs{S:Nat→Prop}{w:World}{v:Value}{n:Nat}{l:List A}{f:Nat→List Seg}(hf:∀j,j<n→f j=[.gen 1 [l.getD j (.v undef)]])(h:RA S w (.row n [.gen n l]) v):RA S w (.recs n 1 f) v:=by
 cases h with
 |row h h1 h2 h3 h4=>
  rename_i c cs a
  obtain⟨e1,g⟩:=h.toGen
  have hcl:cs.length=n:=by rw[g.len,e1]
  refine .recs (cs:=fun j=>[cs.getD j undef]) (fun j hj=>?_) h1 h2 h3 ?_
  ·rw[hf j hj]
   obtain⟨u,k1,k2,k3⟩:=g.at j (by omega)
   have k4:cs.getD j undef=u:=by rw[List.getD_eq_getElem?_getD,k1];rfl
   show RL S w _ [cs.getD j undef]
   rw[k4]
   exact .ofGen rfl (.cons k2 k3 .nil)
  ·rcases h4 with h4|⟨b,o,h5,h6,h7,h8⟩
   ·left;rw[h4]at hcl;simpa using hcl.symm
   ·refine .inr ⟨b,o,h5,fun j hj=>.inr ⟨b,o+j*1,rfl,h6,h7,fun i hi=>?_⟩⟩
    simp at hi;subst hi
    rw[Nat.mul_one,Nat.add_zero,h8 j (by omega)]
    simp[List.getD_eq_getElem?_getD,List.getElem?_eq_getElem (show j<cs.length by omega)]
end
section
def yTab3(t0:TypeId):Option TI:=
 match t0 with
 |87=>some (tiStruct 298 [.ints .i64 1 [0],.ints .i64 31 (List.replicate 31 0),.bools 8 (List.replicate 8 false),.ints .i64 1 [0],.bytes 32 (List.replicate 32 0),.ints .i64 1 [0],.bytes 32 (List.replicate 32 0),.bytes 32 (List.replicate 32 0),.bytes 96 (List.replicate 96 0),.bytes 32 (List.replicate 32 0),.bytes 32 (List.replicate 32 0)] [0,73,74,106,138,234,266] [80,3,28,28,85,28,28] 536 false [(0,73),(73,1),(74,32),(106,32),(138,96),(234,32),(266,32)])
 |52=>some (tiPtr)
 |113=>some (tiSl 165 108)
 |_=>yTab2 t0
set_option maxRecDepth 100000 in
theorem yOK3:∀t i,yTab3 t=some i→TyOK Tryz.prog t i:=by
 intro t i h
 unfold yTab3 at h
 split at h<;>first|(cases h;exact tyB_spec (by kernel_rfl))|exact yOK2 _ _ h
set_option maxRecDepth 100000 in
theorem yEq3:∀t i,yTab3 t=some i→i.eq=true→EqT Tryz.prog t i:=by
 intro t i h
 unfold yTab3 at h
 split at h<;>first|(cases h;intro he;cases he;done)|(cases h;intro _;exact eqB_spec (by kernel_rfl))|exact yEq2 _ _ h
end
section
open Pm
attribute [local irreducible] condK LoopA regA powI scal mulI isI fourB deriveW numB
def sharedM:Nat→Bk→List A→(Res→Bk→Prop)→Prop
 |0,.obj p,[.v (.int .i64 y)],K=>∃s,p=KeyP s∧K (.t [.agg [.bytes 32 (shW y s)],.v (.bool (isI y))]) (.obj (KeyP s))
 |_,_,_,_=>False
theorem sharedM_ok:∀pos x args K,sharedM pos x args K→∃r x',FnMO 167 pos x args r x'∧K r x':=by
 intro pos x args K hd
 unfold sharedM at hd
 split at hd
 ·next p y=>
  obtain⟨s,rfl,hK⟩:=hd
  refine⟨_,_,fun S w r vs hr _ hx ha=>?_,hK⟩
  obtain⟨v,rfl,h1⟩:=ra_one ha
  rw[RA.plain h1]
  obtain⟨cs,t,h2,rfl,d,us,h3⟩:=hx
  have hb:Blk w r (CD s d us) 180:=by unfold Blk;rw[h2,←h3]
  refine(shared_stW r s us y d w hb).mono ?_
  rintro e w' ⟨rfl,⟨us',h4⟩,h5⟩
  exact⟨_,rfl,⟨[_,_],rfl,.cons (ra_hash (shW_length _ _)) (.cons (.v _) .nil)⟩,⟨(CD s d us').toList,_,h4,rfl,d,us',rfl⟩,h5⟩
 ·exact hd.elim
def fourD:List A→(Res→Prop)→Prop
 |[.v (.int .i64 n)],K=>K (.d (.row 4 [.bytes 4 (fourB n)]))
 |_,_=>False
theorem fourD_of{f:FuncId}(h:∀args K,fourS args K→∃r,FnO f args r∧K r):∀args K,fourD args K→∃r,FnO f args r∧K r:=by
 intro args K hd
 unfold fourD at hd
 split at hd
 ·next n=>
  obtain⟨r,h1,h2⟩:=h [.v (.int .i64 n)] (fun r=>r=.o 5 1 4 [.bytes 4 (fourB n)]) rfl
  subst h2
  exact⟨_,fn_row h1,hd⟩
 ·exact hd.elim
noncomputable def envB0:EnvX:=env0.withY yTab3 yOK3 yEq3
noncomputable def envB1:EnvX:=envB0.add 166 (boolS isI) (boolS_of is_any) ⟨_,Tryz.func166,by kernel_rfl,by kernel_rfl⟩
noncomputable def envB2:EnvX:=envB1
noncomputable def envB3:EnvX:=envB2.add 74 fromS fromS_ok ⟨_,Tryz.func74,by kernel_rfl,by kernel_rfl⟩
noncomputable def envB4:EnvX:=envB3.add 36 rfromS rfromS_ok ⟨_,Tryz.func36,by kernel_rfl,by kernel_rfl⟩
noncomputable def envB5:EnvX:=envB4.addM 55 publicS publicS_ok ⟨_,Tryz.func55,by kernel_rfl,by kernel_rfl⟩
noncomputable def envB6:EnvX:=envB5.addM 167 sharedM sharedM_ok ⟨_,Tryz.func167,by kernel_rfl,by kernel_rfl⟩
noncomputable def envB7:EnvX:=envB6
noncomputable def envB8:EnvX:=envB7.add 116 fourD (fourD_of (fourS_of four_any)) ⟨_,Tryz.func116,by kernel_rfl,by kernel_rfl⟩
noncomputable def envB9:EnvX:=envB8
noncomputable def envBa:EnvX:=envB9.add 34 deriveS deriveS_ok ⟨_,Tryz.func34,by kernel_rfl,by kernel_rfl⟩
noncomputable def envBb:EnvX:=envBa.add 17 rderiveS rderiveS_ok ⟨_,Tryz.func17,by kernel_rfl,by kernel_rfl⟩
noncomputable def envBc:EnvX:=envBb.add 128 joinS' concatS_ok ⟨_,Tryz.func128,by kernel_rfl,by kernel_rfl⟩
noncomputable def envBd:EnvX:=envBc
def row2S(g:List UInt8→List UInt8→List UInt8→Res):List A→(Res→Prop)→Prop
 |[.agg [.bytes 32 h],x,y],K=>rowK x fun p=>rowK y fun q=>p.length≤1000000∧q.length≤1000000∧K (g h p q)
 |_,_=>False
theorem row2S_of{f:FuncId}{g:List UInt8→List UInt8→List UInt8→Res}(hx:∀h p q,p.length≤1000000→q.length≤1000000→FnO f [.agg [.bytes 32 h],.row p.length [.bytes p.length p],.row q.length [.bytes q.length q]] (g h p q)):∀args K,row2S g args K→∃r,FnO f args r∧K r:=by
 intro args K h
 unfold row2S at h
 split at h
 ·obtain⟨p,h,hp⟩:=rowK_row h
  obtain⟨q,⟨h1,h2,h⟩,hq⟩:=rowK_row h
  refine⟨_,fun S w vs hG ha=>?_,h⟩
  obtain⟨v1,v2,v3,rfl,k1,k2,k3⟩:=ra_three ha
  exact hx _ p q h1 h2 S w _ hG (.cons k1 (.cons (hp k2) (.cons (hq k3) .nil)))
 ·exact h.elim
set_option maxHeartbeats 1000000 in
theorem tag_fn(h p q:List UInt8)(hp:p.length≤1000000)(hq:q.length≤1000000):FnO 169 [.agg [.bytes 32 h],.row p.length [.bytes p.length p],.row q.length [.bytes q.length q]] (.d (.row 8 [.bytes 8 (tagW h p q)])):=by
 refine fnA (E:=envBd) Tryz.func169 Tryz.ntmps169 ?_
 refine agow ?_;(try exact⟨⟩)
 rfl
noncomputable def envBe:EnvX:=envBd.add 169 (row2S fun h p q=>.d (.row 8 [.bytes 8 (tagW h p q)])) (row2S_of tag_fn) ⟨_,Tryz.func169,by kernel_rfl,by kernel_rfl⟩
noncomputable def envBf:EnvX:=envBe
end
section
def flatL(l:List Seg):Bool:=l.all fun s=>match s with| .gen _ l=>l.all plainA|_=>true
def freshB(s:St):List ResultVar→Bool
 |[]=>true
 | .tmp t::r=>(match s.sl t with| .d a=>flatA a| .own b _=>(match s.bk b with|some (.sl _ _ _ l)=>flatL l|_=>false)|_=>false)&&freshB s r
 | .cell _ _::_=>false
section
variable {E : EnvX} {base : Nat} {w0 : W0 E.G}
theorem resL_fresh{s:St}{ρ:Nat→Option Value}{a:Act}{w:World}{S:Nat→Prop}(g:Good S base w0 s ρ a w):∀{l:List ResultVar} {K:List A→Prop},freshB s l=true→resL E s l K→
  ∃asx vs,K asx∧vs.length=l.length∧(l.mapM (resOf a.tmps)).run E.P w=.ok vs w∧RAs (fun r=>False∨base≤r) w asx vs
 |[],K,hf,h=>⟨[],[],h,rfl,by simp,.nil⟩
 | .cell p ty::r,K,hf,h=>by cases hf
 | .tmp t::r,K,hf,h=>by
  rw[freshB,Bool.and_eq_true]at hf
  obtain⟨hf1,hf2⟩:=hf
  unfold resL at h
  split at h
  ·next d hd=>
   rw[hd]at hf1
   obtain⟨asx,vs,h1,hlen,h2,h3⟩:=resL_fresh g hf2 h
   refine⟨d::asx,a.tmps.getD t undef::vs,h1,by simp[hlen],by simp[Sem.run_bind,h2,resOf],.cons ?_ h3⟩
   have:=g.ev (.tmp t)
   rw[show s.ev (.tmp t)=.d d from hd]at this
   exact flat_RA hf1 this
  ·next b n hd=>
   rw[hd]at hf1
   split at h
   ·next ty sz m l hk=>
    simp only[hk]at hf1
    obtain⟨rfl,h⟩:=h
    obtain⟨asx,vs,h1,hlen,h2,h3⟩:=resL_fresh g hf2 h
    have k:=g.ev (.tmp t)
    rw[show s.ev (.tmp t)=.own b n from hd]at k
    obtain⟨cs,k1,k2,k3⟩:=own_now g hk k
    refine⟨.row n l::asx,a.tmps.getD t undef::vs,h1,by simp[hlen],by simp[Sem.run_bind,h2,resOf],.cons ?_ h3⟩
    have hv:a.tmps.getD t undef=a.eval (.tmp t):=rfl
    rw[hv]
    have k4:RL (fun r=>False∨base≤r) w l cs:=flat_RL hf1 k3
    rcases k2.2 with⟨e1,e2⟩|⟨r,cap,cur,e1,e3,e4,e5,e6,e7,e8⟩
    ·rw[e1,e2]
     have hcs:cs=[]:=by have:=k2.1;rw[e2,Nat.zero_mul]at this;exact List.length_eq_zero_iff.1 this
     exact .row k4 (Nat.le_refl _) (Nat.zero_le _) (fun _=>rfl) (.inl hcs)
    ·rw[e1]
     refine .row k4 e5 e6 (fun e=>by cases e) (.inr ⟨r,0,rfl,.inr e3,(Array.getElem?_eq_some_iff.1 e4).1,fun j hj=>?_⟩)
     rw[Nat.zero_add,cell_of_row w r j cur _ (0,0) e4]
     have:(cur.toList.take (n*sz))[j]?=cs[j]?:=by rw[e8]
     rw[List.getElem?_take,if_pos (by have:=k2.1;omega),Array.getElem?_toList,List.getElem?_eq_getElem hj]at this
     exact this
   ·exact h.elim
  ·next b hd=>rw[hd]at hf1;cases hf1
  ·exact h.elim
theorem fnF_of_wpA{f:FuncId}{fn:Func}{c:Code}{args:List A}{res:List A}(hf:E.P.funcs[f]?=some fn)(hb:fn.body=some c)(hn:args.length≤fn.ntmps)(h2:2≤fn.results.toList.length)
  (h:wpA E c ⟨args.map T.d++List.replicate (fn.ntmps-args.length) (.d (.v undef)),[]⟩ fun e s=>(e=.normal∨e=.ret)∧freshB s fn.results.toList=true∧resL E s fn.results.toList fun r=>r=res):FnF E.P E.G f args (.t res):=by
 intro S w vs hG hv
 have hlen:∀{l:List A} {vs:List Value},RAs S w l vs→vs.length=l.length:=by
  intro l vs h
  induction h with
  |nil=>rfl
  |cons _ _ ih=>simp[ih]
 have hl:=hlen hv
 refine calls_of_wp hf hb ?_
 have g:=begin_good (G:=E.G) fn.ntmps hn hG hv
 refine wp_mono (wpA_sound c h g) ?_
 rintro e a' w' ⟨s',ρ',⟨he,hfr,hr⟩,hg⟩
 obtain⟨asx,vs',rfl,hlen',hm,hr'⟩:=resL_fresh hg hfr hr
 have hne:vs'.length≠1:=by omega
 have hrun:(results fn a'.tmps).run E.P w'=.ok (.tuple vs'.toArray) w':=by
  rw[results_eq]
  have h2:fn.results=fn.results.toList.toArray:=by simp
  rw[h2,List.mapM_toArray]
  simp[Sem.run_bind,hm,hne]
 rcases he with rfl|rfl
 ·exact⟨hg.defs,_,hrun,_,rfl,⟨vs',rfl,hr'⟩,hg.bel.below fun _ h=>h⟩
 ·exact⟨hg.defs,_,hrun,_,rfl,⟨vs',rfl,hr'⟩,hg.bel.below fun _ h=>h⟩
end
end
section
theorem fnAF{E:EnvX}{f:FuncId}{fn:Func}{c:Code}{args res:List A}{n:Nat}{t:List T}(hf:E.P.funcs[f]?=some fn)(hnt:fn.ntmps=n)
  (left:wpA E c ⟨t,[]⟩ fun e s=>(e=.normal∨e=.ret)∧freshB s fn.results.toList=true∧resL E s fn.results.toList fun r=>r=res)(hb:fn.body=some c:=by exact rfl)(hn:args.length≤n:=by exact Nat.le_of_ble_eq_true rfl)
  (ht:args.map T.d++List.replicate (n-args.length) (.d (.v undef))=t:=by(conv=>lhs;simp only[Seg.n,wn1,wn2,wn3,wn4,wn5,wn6,wn7,wn8,wn9,wn10,wn11,wn12,wn13,wn14,wn15,wn16,Int.reduceAdd,Int.zero_add,Seg.cell,Seg.sub,List.set_nil,isAlloc,trimH,List.take_append_drop,St.app,St.app2,St.ev,List.getD_cons_zero,List.getD_cons_succ,List.getD_nil,St.sl,St.bk,tiInt,tiBool,tiSl,tiArr,tiStruct,weaken,keepT,List.set_cons_zero,List.set_cons_succ,List.length_cons,List.length_nil,List.cons_append,List.nil_append,List.append_nil,List.map_cons,List.map_nil,List.replicate_succ,List.replicate_zero,List.take_succ_cons,List.take_zero,List.drop_succ_cons,List.drop_zero,List.take_nil,List.drop_nil,Nat.reduceAdd,Nat.reduceSub,Nat.reduceMul,Nat.reduceEqDiff,Nat.reduceLT,Nat.reduceLeDiff,Nat.zero_add,Nat.add_zero,Nat.sub_self,Nat.sub_zero,Nat.one_mul,Nat.mul_one,Nat.zero_mul,joinS,manyS,List.flatten_cons,List.flatten_nil,eq_self,ite_true,if_true,if_false,↓reduceIte,reduceCtorEq,Int.reduceToNat]);all_goals exact rfl)(h2:2≤fn.results.toList.length:=by exact Nat.le_of_ble_eq_true rfl):FnF E.P E.G f args (.t res):=by
 subst hnt;subst ht;exact fnF_of_wpA hf hb hn h2 left
theorem FnF.okT{P:Program}{G:Nat→Option (List Seg)}{f:FuncId}{args l:List A}(h:FnF P G f args (.t l)):FnOK P G f args (.t l):=fun S w vs hG hv=>(h S w vs hG hv).mono fun e w' ⟨v,h1,⟨vs',h2,h3⟩,h4⟩=>⟨v,h1,⟨vs',h2,h3.up ⟨Nat.le_refl _,fun q _ hq=>⟨.inr (hq.elim False.elim id),fun _=>rfl⟩⟩⟩,h4⟩
end
end Go.Proofs.YtbdmnobocecnfaaGreatDoor
