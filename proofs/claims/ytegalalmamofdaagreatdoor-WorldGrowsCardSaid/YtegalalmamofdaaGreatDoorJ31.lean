/- -/
import Derived.Test.YtegalalmamofdaaGreatDoorJ30
namespace Go.Proofs.YtegalalmamofdaaGreatDoor
set_option linter.all false
set_option maxRecDepth 100000
open Go.RowKit
variable{S:Nat->Prop}{l:List Seg}{f:FuncId}
section
theorem aZ2{B:Nat}{w:World}{v:Value}(h:RR S B w (.p (.var l)) v):RR S B w (.d (.sref l 0)) v:=by
 obtain⟨r,rfl,hB,cs,t,h1,h2⟩:=h
 refine .sref (o:=0) (h2.up ⟨Nat.le_refl _,fun q _ hq=>⟨hq.1,fun _=>rfl⟩⟩) (.inr ⟨r,0,rfl,.inr hB,(Array.getElem?_eq_some_iff.1 h1).1,fun i hi=>?_⟩)
 rw[Nat.zero_add,fU h1,List.getElem?_eq_getElem hi]
theorem ME{B:Nat}{w:World}{e:TypeId}{sz n:Nat}{v:Value}(h:RR S B w (.o e sz n l) v):RR S B w (.d (.row n l)) v:=by
 obtain⟨cs,h2,h3⟩:=h
 have k3:RL (fun r=>S r\/B<=r) w l cs:=h3.up ⟨Nat.le_refl _,fun q _ hq=>⟨hq.1,fun _=>rfl⟩⟩
 rcases h2.2 with⟨e1,e2⟩|⟨r,cap,cur,e1,e3,e4,e5,e6,e7,e8⟩
 ·rw[e1,e2]
  have hcs:cs=[]:=by have:=h2.1;rw[e2,Nat.zero_mul]at this;exact List.length_eq_zero_iff.1 this
  exact .row k3 (Nat.le_refl _) (Nat.zero_le _) (fun _=>rfl) (.inl hcs)
 ·rw[e1]
  refine .row k3 e5 e6 (fun e=>by cases e) (.inr ⟨r,0,rfl,.inr e3,(Array.getElem?_eq_some_iff.1 e4).1,fun j hj=>?_⟩)
  rw[Nat.zero_add,cell_of_row w r j cur _ (0,0) e4]
  have:(cur.toList.take (n*sz))[j]?=cs[j]?:=by rw[e8]
  rw[List.getElem?_take,if_pos (by have:=h2.1;omega),Array.getElem?_toList,List.getElem?_eq_getElem hj]at this
  exact this
section
variable {P : Program} {G : Nat -> Option (List Seg)} {f : FuncId} {args : List A} {pos : Nat} {x x' : Bk}
theorem uH(h:mG P G f args (.p (.var l))):mG P G f args (.d (.sref l 0)):=fun S w vs hG hv=>(h S w vs hG hv).mono fun e w' ⟨v,h1,h2,h3⟩=>⟨v,h1,aZ2 h2,h3⟩
theorem sw{e:TypeId}{sz n:Nat}(h:mG P G f args (.o e sz n l)):mG P G f args (.d (.row n l)):=fun S w vs hG hv=>(h S w vs hG hv).mono fun e w' ⟨v,h1,h2,h3⟩=>⟨v,h1,ME h2,h3⟩
theorem Vu{e:TypeId}{sz n:Nat}(h:QK P G f pos x args (.o e sz n l) x'):QK P G f pos x args (.d (.row n l)) x':=fun S w r vs hr hG hx hv=>(h S w r vs hr hG hx hv).mono fun e w' ⟨v,h1,h2,h3⟩=>⟨v,h1,ME h2,h3⟩
theorem al7{a b:A}(hab:∀{S:Nat->Prop} {w:World} {v:Value},RA S w a v->RA S w b v)(h:mG P G f args (.d a)):mG P G f args (.d b):=fun S w vs hG hv=>(h S w vs hG hv).mono fun e w' ⟨v,h1,h2,h3⟩=>⟨v,h1,hab h2,h3⟩
end
theorem aX5{w:World}{v:Value}{n:Nat}{l:List A}{f:Nat->List Seg}(hf:∀j,j<n->f j=[.gen 1 [l.getD j (.v undef)]])(h:RA S w (.row n [.gen n l]) v):RA S w (.recs n 1 f) v:=by
 cases h with
 |row h h1 h2 h3 h4=>
  rename_i c cs a
  obtain⟨e1,g⟩:=h.gB
  have hcl:cs.length=n:=by rw[g.len,e1]
  refine .recs (cs:=fun j=>[cs.getD j undef]) (fun j hj=>?_) h1 h2 h3 ?_
  ·rw[hf j hj]
   obtain⟨u,k1,k2,k3⟩:=g.at j (by omega)
   have k4:cs.getD j undef=u:=by rw[List.getD_eq_getElem?_getD,k1];rfl
   show RL S w _ [cs.getD j undef]
   rw[k4]
   exact .iL rfl (.cons k2 k3 .nil)
  ·rcases h4 with h4|⟨b,o,h5,h6,h7,h8⟩
   ·left;rw[h4]at hcl;simpa using hcl.symm
   ·refine .inr ⟨b,o,h5,fun j hj=>.inr ⟨b,o+j*1,rfl,h6,h7,fun i hi=>?_⟩⟩
    simp at hi;subst hi
    rw[Nat.mul_one,Nat.add_zero,h8 j (by omega)]
    simp[List.getD_eq_getElem?_getD,List.getElem?_eq_getElem (show j<cs.length by omega)]
end
section
def KU(t0:TypeId):Option TI:=
 match t0 with
 |86=>some (bU 298 [.ints .i64 1 [0],.ints .i64 31 (List.replicate 31 0),.bools 8 (List.replicate 8 false),.ints .i64 1 [0],.bytes 32 (List.replicate 32 0),.ints .i64 1 [0],.bytes 32 (List.replicate 32 0),.bytes 32 (List.replicate 32 0),.bytes 96 (List.replicate 96 0),.bytes 32 (List.replicate 32 0),.bytes 32 (List.replicate 32 0)] [0,73,74,106,138,234,266] [48,3,28,28,84,28,28] 536 false [(0,73),(73,1),(74,32),(106,32),(138,96),(234,32),(266,32)])
 |40=>some (yU)
 |117=>some (pG 168 108)
 |_=>D6 t0
theorem ch9:∀t i,KU t=some i->D7 Tryz.prog t i:=by
 intro t i h
 unfold KU at h
 split at h<;>first|(cases h;exact Bu (by kernel_rfl))|exact bd8 _ _ h
theorem ch7:∀t i,KU t=some i->i.eq=true->EqT Tryz.prog t i:=by
 intro t i h
 unfold KU at h
 split at h<;>first|(cases h;intro he;cases he;done)|(cases h;intro _;exact Aj (by kernel_rfl))|exact bd7 _ _ h
end
noncomputable section
open Pm
attribute [local irreducible] aN aQ bq aJ aI eY dL bP aD aC
def MI:Nat->Bk->List A->(bC->Bk->Prop)->Prop
 |0,.obj p,[.v (.int .i64 y)],K=>∃s,p=mO s/\K (.t [.agg [.bytes 32 (DR y s)],.v (.bool (dL y))]) (.obj (mO s))
 |_,_,_,_=>False
theorem Ug:∀pos x args K,MI pos x args K->∃r x',bV 171 pos x args r x'/\K r x':=by
 intro pos x args K hd
 unfold MI at hd
 split at hd
 ·next p y=>
  obtain⟨s,rfl,hK⟩:=hd
  refine⟨_,_,fun S w r vs hr _ hx ha=>?_,hK⟩
  obtain⟨v,rfl,h1⟩:=iC ha
  rw[RA.plain h1]
  obtain⟨cs,t,h2,rfl,d,us,h3⟩:=hx
  have hb:aM w r (CD s d us) 184:=by unfold aM;rw[h2,<-h3]
  refine(Uh r s us y d w hb).mono ?_
  rintro e w' ⟨rfl,⟨us',h4⟩,h5⟩
  exact⟨_,rfl,⟨[_,_],rfl,.cons (Ez (Uf _ _)) (.cons (.v _) .nil)⟩,⟨(CD s d us').toList,_,h4,rfl,d,us',rfl⟩,h5⟩
 ·exact hd.elim
def am1:List A->(bC->Prop)->Prop
 |[.v (.int .i64 n)],K=>K (.d (.row 4 [.bytes 4 (bP n)]))
 |_,_=>False
theorem am2(h:∀args K,Vv args K->∃r,aV f args r/\K r):∀args K,am1 args K->∃r,aV f args r/\K r:=by
 intro args K hd
 unfold am1 at hd
 split at hd
 ·next n=>
  obtain⟨r,h1,h2⟩:=h [.v (.int .i64 n)] (fun r=>r=.o 5 1 4 [.bytes 4 (bP n)]) rfl
  subst h2
  exact⟨_,sw h1,hd⟩
 ·exact hd.elim
def bO8:ak:=sV.KR KU ch9 ch7
def bO9:ak:=bO8.add 170 (U5 dL) (Nw Ch) (.of Tryz.func170)
def bP0:ak:=bO9
def bP1:ak:=bP0.add 78 Oi FK (.of Tryz.func78)
def bP2:ak:=bP1.add 42 He C8 (.of Tryz.func42)
def bP3:ak:=bP2.gI 62 Bh uW (.of Tryz.func62)
def bP4:ak:=bP3.gI 171 MI Ug (.of Tryz.func171)
def bP5:ak:=bP4
def bP6:ak:=bP5.add 120 am1 (am2 (Og FH)) (.of Tryz.func120)
def bP7:ak:=bP6
def bP8:ak:=bP7.add 37 Ah zm (.of Tryz.func37)
def bP9:ak:=bP8.add 22 xA xB (.of Tryz.func22)
def bQ0:ak:=bP9.add 132 FV zi (.of Tryz.func132)
def bf6:ak:=bQ0
def aB6(g:List UInt8->List UInt8->List UInt8->bC):List A->(bC->Prop)->Prop
 |[.agg [.bytes 32 h],x,y],K=>sH x fun p=>sH y fun q=>p.length<=1000000/\q.length<=1000000/\K (g h p q)
 |_,_=>False
theorem aB7{g:List UInt8->List UInt8->List UInt8->bC}(hx:∀h p q,p.length<=1000000->q.length<=1000000->aV f [.agg [.bytes 32 h],.row p.length [.bytes p.length p],.row q.length [.bytes q.length q]] (g h p q)):∀args K,aB6 g args K->∃r,aV f args r/\K r:=by
 intro args K h
 unfold aB6 at h
 split at h
 ·obtain⟨p,h,hp⟩:=ji h
  obtain⟨q,⟨h1,h2,h⟩,hq⟩:=ji h
  refine⟨_,fun S w vs hG ha=>?_,h⟩
  obtain⟨v1,v2,v3,rfl,k1,k2,k3⟩:=jH ha
  exact hx _ p q h1 h2 S w _ hG (.cons k1 (.cons (hp k2) (.cons (hq k3) .nil)))
 ·exact h.elim
set_option maxHeartbeats 1000000 in
theorem bG4(h p q:List UInt8)(hp:p.length<=1000000)(hq:q.length<=1000000):aV 173 [.agg [.bytes 32 h],.row p.length [.bytes p.length p],.row q.length [.bytes q.length q]] (.d (.row 8 [.bytes 8 (Hz h p q)])):=by
 refine eO (E:=bf6) Tryz.func173 Tryz.ntmps173 ?_
 refine ah ?_;(try exact⟨⟩)
 rfl
def bQ1:ak:=bf6.add 173 (aB6 fun h p q=>.d (.row 8 [.bytes 8 (Hz h p q)])) (aB7 bG4) (.of Tryz.func173)
def bf7:ak:=bQ1
end
section
def cc5(l:List Seg):Bool:=l.all fun s=>match s with| .gen _ l=>l.all wZ|_=>true
def FJ(s:St):List ResultVar->Bool
 |[]=>true
 | .tmp t::r=>(match s.sl t with| .d a=>Ao a| .own b _=>(match s.bk b with|some (.sl _ _ _ l)=>cc5 l|_=>false)|_=>false)&&FJ s r
 | .cell _ _::_=>false
section
variable {E : ak} {base : Nat} {w0 : W0 E.G}
theorem zJ{s:St}{ρ:Nat->Option Value}{a:Act}{w:World}{S:Nat->Prop}(g:Good S base w0 s ρ a w):∀{l:List ResultVar} {K:List A->Prop},FJ s l=true->Eb E s l K->
  ∃jq vs,K jq/\vs.length=l.length/\(l.mapM (yT a.tmps)).run E.P w=.ok vs w/\mH (fun r=>False\/base<=r) w jq vs
 |[],K,hf,h=>⟨[],[],h,rfl,by simp,.nil⟩
 | .cell p ty::r,K,hf,h=>by cases hf
 | .tmp t::r,K,hf,h=>by
  rw[FJ,Bool.and_eq_true]at hf
  obtain⟨hf1,hf2⟩:=hf
  unfold Eb at h
  split at h
  ·next d hd=>
   rw[hd]at hf1
   obtain⟨jq,vs,h1,hlen,h2,h3⟩:=zJ g hf2 h
   refine⟨d::jq,a.tmps.getD t undef::vs,h1,by simp[hlen],by simp[Sem.run_bind,h2,yT],.cons ?_ h3⟩
   have:=g.ev (.tmp t)
   rw[show s.ev (.tmp t)=.d d from hd]at this
   exact rE hf1 this
  ·next b n hd=>
   rw[hd]at hf1
   split at h
   ·next ty sz m l hk=>
    simp only[hk]at hf1
    obtain⟨rfl,h⟩:=h
    obtain⟨jq,vs,h1,hlen,h2,h3⟩:=zJ g hf2 h
    have k:=g.ev (.tmp t)
    rw[show s.ev (.tmp t)=.own b n from hd]at k
    obtain⟨cs,k1,k2,k3⟩:=lM g hk k
    refine⟨.row n l::jq,a.tmps.getD t undef::vs,h1,by simp[hlen],by simp[Sem.run_bind,h2,yT],.cons ?_ h3⟩
    have hv:a.tmps.getD t undef=a.eval (.tmp t):=rfl
    rw[hv]
    have k4:RL (fun r=>False\/base<=r) w l cs:=pW hf1 k3
    rcases k2.2 with⟨e1,e2⟩|⟨r,cap,cur,e1,e3,e4,e5,e6,e7,e8⟩
    ·rw[e1,e2]
     have hcs:cs=[]:=by have:=k2.1;rw[e2,Nat.zero_mul]at this;exact List.length_eq_zero_iff.1 this
     exact .row k4 (Nat.le_refl _) (Nat.zero_le _) (fun _=>rfl) (.inl hcs)
    ·rw[e1]
     refine .row k4 e5 e6 (fun e=>by cases e) (.inr ⟨r,0,rfl,.inr e3,(Array.getElem?_eq_some_iff.1 e4).1,fun j hj=>?_⟩)
     rw[Nat.zero_add,cell_of_row w r j cur _ (0,0) e4]
     have:(cur.toList.take (n*sz))[j]?=cs[j]?:=by rw[e8]
     rw[List.getElem?_take,if_pos (by have:=k2.1;omega),Array.getElem?_toList,List.getElem?_eq_getElem hj]at this
     exact this
   ·exact h.elim
  ·next b hd=>rw[hd]at hf1;cases hf1
  ·exact h.elim
theorem R5{fn:Func}{c:Code}{args:List A}{res:List A}(hf:E.P.funcs[f]?=some fn)(hb:fn.body=some c)(hn:args.length<=fn.ntmps)(h2:2<=fn.results.toList.length)
  (h:IG E c ⟨args.map T.d++List.replicate (fn.ntmps-args.length) (.d (.v undef)),[]⟩ fun e s=>(e=.normal\/e=.ret)/\FJ s fn.results.toList=true/\Eb E s fn.results.toList fun r=>r=res):FnF E.P E.G f args (.t res):=by
 intro S w vs hG hv
 have hlen:∀{l:List A} {vs:List Value},mH S w l vs->vs.length=l.length:=by
  intro l vs h
  induction h with
  |nil=>rfl
  |cons _ _ ih=>simp[ih]
 have hl:=hlen hv
 refine calls_of_wp hf hb ?_
 have g:=zf (G:=E.G) fn.ntmps hn hG hv
 refine wp_mono (iD c h g) ?_
 rintro e a' w' ⟨s',ρ',⟨he,hfr,hr⟩,hg⟩
 obtain⟨jq,vs',rfl,hlen',hm,hr'⟩:=zJ hg hfr hr
 have hne:vs'.length≠1:=by omega
 have hrun:(results fn a'.tmps).run E.P w'=.ok (.tuple vs'.toArray) w':=by
  rw[G6]
  have h2:fn.results=fn.results.toList.toArray:=by simp
  rw[h2,List.mapM_toArray]
  simp[Sem.run_bind,hm,hne]
 rcases he with rfl|rfl
 ·exact⟨hg.defs,_,hrun,_,rfl,⟨vs',rfl,hr'⟩,hg.iE.below fun _ h=>h⟩
 ·exact⟨hg.defs,_,hrun,_,rfl,⟨vs',rfl,hr'⟩,hg.iE.below fun _ h=>h⟩
end
end
section
theorem bz2{E:ak}{fn:Func}{c:Code}{args res:List A}{n:Nat}{t:List T}(hf:E.P.funcs[f]?=some fn)(hnt:fn.ntmps=n)
  (left:IG E c ⟨t,[]⟩ fun e s=>(e=.normal\/e=.ret)/\FJ s fn.results.toList=true/\Eb E s fn.results.toList fun r=>r=res)(hb:fn.body=some c:=by exact rfl)(hn:args.length<=n:=by exact Nat.le_of_ble_eq_true rfl)
  (ht:args.map T.d++List.replicate (n-args.length) (.d (.v undef))=t:=by exact nm)(h2:2<=fn.results.toList.length:=by exact Nat.le_of_ble_eq_true rfl):FnF E.P E.G f args (.t res):=by
 subst hnt;subst ht;exact R5 hf hb hn h2 left
theorem FnF.okT{P:Program}{G:Nat->Option (List Seg)}{args l:List A}(h:FnF P G f args (.t l)):mG P G f args (.t l):=fun S w vs hG hv=>(h S w vs hG hv).mono fun e w' ⟨v,h1,⟨vs',h2,h3⟩,h4⟩=>⟨v,h1,⟨vs',h2,h3.up ⟨Nat.le_refl _,fun q _ hq=>⟨.inr (hq.elim False.elim id),fun _=>rfl⟩⟩⟩,h4⟩
end
end Go.Proofs.YtegalalmamofdaaGreatDoor
