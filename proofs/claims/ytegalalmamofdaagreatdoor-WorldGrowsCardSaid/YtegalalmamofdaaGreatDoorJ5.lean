/- -/
import Derived.Test.YtegalalmamofdaaGreatDoorJ4
import Derived.Great.BuildSlice
import Derived.Laws.OwnMore
import Derived.Still
namespace Go.Proofs.YtegalalmamofdaaGreatDoor
set_option linter.all false
set_option maxRecDepth 100000
open Go.RowKit
variable{l:List Seg}{ρ:Nat->Option Value}{a:Act}{w:World}{vals:Nat->Value}{o:Oper}{ops:Array Oper}
section
section
variable {S : Nat -> Prop} {w : World}
theorem RL.join{l m:List Seg}{cs ds:List Value}(h:RL S w l cs)(k:RL S w m ds):RL S w (kT l m) (cs++ds):=by
 unfold kT
 split
 ·rw[h.qb];exact k
 ·split
  ·next e=>
   subst e
   obtain⟨h1,rfl⟩:=h.fB
   obtain⟨h2,rfl⟩:=k.fB
   exact .fI (by simp[h1,h2]) (by simp)
  ·exact h.append k
 ·obtain⟨h1,rfl⟩:=h.iZ
  obtain⟨h2,rfl⟩:=k.iZ
  exact .ofBytes (by simp[h1,h2]) (by simp[HL])
 ·obtain⟨h1,rfl⟩:=h.rY
  obtain⟨h2,rfl⟩:=k.rY
  exact .yg (by simp[h1,h2]) (by simp)
 ·obtain⟨h1,g⟩:=h.gB
  obtain⟨h2,g2⟩:=k.gB
  exact .iL (by simp[h1,h2]) (g.append g2)
 ·exact h.append k
theorem RL.many{cs:List Value}(h:RL S w l cs)(m:Nat):RL S w (qH m l) (List.replicate m cs).flatten:=by
 unfold qH
 split
 ·obtain⟨h1,rfl⟩:=h.fB
  refine .fI (by simp[h1]) ?_
  simp[List.map_flatten]
 ·obtain⟨h1,rfl⟩:=h.iZ
  refine .ofBytes (by simp[h1]) ?_
  simp[HL,List.map_flatten]
 ·obtain⟨h1,rfl⟩:=h.rY
  refine .yg (by simp[h1]) ?_
  simp[List.map_flatten]
 ·obtain⟨h1,g⟩:=h.gB
  refine .iL (by simp[h1]) ?_
  induction m with
  |zero=>exact .nil
  |succ m ih=>simpa[List.replicate_succ]using g.append ih
 ·rename_i l' _ _ _ _
  induction m with
  |zero=>exact .nil
  |succ m ih=>simpa[List.replicate_succ]using h.append ih
end
theorem uN(zs:Array Value)(hz:zs.size≠0)(m:Nat):(((Array.range (m*zs.size)).map (zs[·%zs.size]!)).toList)=(List.replicate m zs.toList).flatten:=by
 have key:∀m,(List.range (m*zs.size)).map (fun i=>zs[i%zs.size]!)=(List.replicate m zs.toList).flatten:=by
  intro m
  induction m with
  |zero=>simp
  |succ m ih=>
   rw[List.replicate_succ',List.flatten_append,<-ih,Nat.add_mul,Nat.one_mul,List.range_add,List.map_append]
   congr 1
   simp only[List.flatten_cons,List.flatten_nil,List.append_nil,List.map_map]
   refine List.ext_getElem (by simp) fun i h1 h2=>?_
   simp at h1
   simp[Nat.add_comm (m*zs.size),Nat.add_mul_mod_self_right,Nat.mod_eq_of_lt h1,getElem!_pos zs i h1]
 rw[Array.toList_map,<-key]
 simp
section
variable {E : ak} {o : Oper} {s : St} {fr : Nat}
theorem Good.J5{G:Nat->Option (List Seg)}{S:Nat->Prop}{base:Nat}{w0:W0 G}{s:St}{w w':World}(g:Good S base w0 s ρ a w){fr:Nat}(hfr:s.bk fr=none)(hlt:fr<s.h.length)(hw:w.grownBy w' none)
  {e:TypeId}{sz n:Nat}{cs:List Value}{v:Value}(hown:w'.ownsRow w.heap.size e sz v n cs)
  (hl:RL (Dt S base (upd ρ fr (some v))) w' l cs)(d:Option Nat):Good S base w0 (s.app d (.own fr n) (some (fr,.sl e sz n l))) (upd ρ fr (some v)) (a.put d v) w':=by
 have hform:∃ad c,v=.slice ad n c:=by
  rcases hown.2 with⟨e1,e2⟩|⟨q,cap,cur,e1,_⟩
  ·exact⟨_,_,by rw[e1,e2]⟩
  ·exact⟨_,_,e1⟩
 have AB:∀q,Rl v q->w.heap.size<=q/\q<w'.heap.size:=by
  intro q hq
  rcases hown.2 with⟨e1,e2⟩|⟨q',cap,cur,e1,e3,e4,_⟩
  ·rw[e1]at hq;cases hq
  ·rw[e1]at hq;cases hq
   exact⟨e3,(Array.getElem?_eq_some_iff.1 e4).1⟩
 have g2:=g.change fr hlt v (.sl e sz n l) none hw (by simp) (fun q hq=>⟨.inl (AB q hq).1,(AB q hq).2⟩) (by
   intro K0
   refine⟨v,cs,by simp[upd],⟨hown.1,?_⟩,hl⟩
   rcases hown.2 with h|⟨q',cap,cur,e1,e3,e4⟩
   ·exact .inl h
   ·exact .inr ⟨q',cap,cur,e1,Nat.le_trans g.size e3,e4⟩) (by
   intro _ i hi hm
   exact absurd hfr (g.ru i fr hm)) (fun q hq=>by have h0:=g.b fr;rw[hfr]at h0;have h0':ρ fr=none:=h0;rw[h0']at hq;cases hq)
 refine g2.put' d (t:=.own fr n) ?_ ?_
 ·intro u hu
  simp[upd]at hu
  obtain⟨ad,c',e1⟩:=hform
  exact⟨ad,n,c',by rw[<-hu,e1],Nat.le_refl _,fun _=>hu⟩
 ·intro b hb
  simp[T.refs]at hb
  subst hb
  simp[St.bk,aB,hlt]
theorem Dt.new{S:Nat->Prop}{base:Nat}{w w':World}{v:Value}{fr:Nat}(hw:w.grownBy w' none)(hv:∀q,Rl v q->w.heap.size<=q)(hfr:ρ fr=none):Keeps (Dt S base ρ) w (Dt S base (upd ρ fr (some v))) w':=by
 refine⟨hw.size,fun r hr hd=>⟨⟨hd.1,fun b u hb hu=>?_⟩,fun o=>World.cell?_of_block (hw.block r hr (by simp))⟩⟩
 by_cases e:b=fr
 ·subst e
  simp[upd]at hb;subst hb
  have:=hv r hu;omega
 ·simp[upd,e]at hb
  exact hd.2 b u hb hu
theorem JD{off:Nat->Option (Nat×Nat)}:∀{l:List (Nat×Value)} {cs cs':Array Value},Instr.fill off cs l=some cs'->cs'.size=cs.size
 |[],cs,cs',h=>by simp[Instr.fill]at h;rw[h]
 |(i,v)::r,cs,cs',h=>by
  unfold Instr.fill at h
  split at h
  ·cases h
  ·next q n hq=>
   split at h
   ·cases h
   ·have:=JD h
    rw[this]
    have key:∀(l:List (Value×Nat)) (cs:Array Value),(l.foldl (fun cs (x:Value×Nat)=>cs.setIfInBounds (q+x.2) x.1) cs).size=cs.size:=by
     intro l
     induction l with
     |nil=>intro cs;rfl
     |cons x l ih=>intro cs;rw[List.foldl_cons,ih];simp
    rw[<-Array.foldl_toList]
    exact key _ _
theorem yP{t:TypeId}{len:Nat}{parts:Array (Nat×Operand)}{i j:TI}{K:List Seg->Prop}(ho:o.op=.buildSlice t len parts)(hY:E.Y t=some i)(hs1:i.sl=true)(he:i.bY≠0)(hl:len≠0)(hm:len*i.bY<=16777216)(hj:E.Y i.elem=some j)(hjs:dM j.zero=i.bY)
  (h:Dm (fun f=>some (f*i.bY,i.bY)) s parts.toList (qH len j.zero) K):∃l,K l/\cO E o s fr (.own fr len) (some (fr,.sl i.elem i.bY len l)):=by
 obtain⟨l,hK,hf⟩:=lV h
 refine⟨l,hK,fun b hb=>.inl ⟨by simpa[T.refs]using hb,_,rfl⟩,fun b x e=>by cases e;exact .inl rfl,fun S base w0 s' ρ a w K' Q hs g hfr hlt hK'=>?_⟩
 obtain⟨f,z,h1,h2,_,h3,h4⟩:=(E.hY _ j hj).info
 obtain⟨_,f',h5,h6⟩:=(E.hY t i hY).arr he
 rw[h1]at h5;cases h5
 have hu:=(E.hY t i hY).sl hs1
 have hz:=cZ (S:=Dt S base ρ) (w:=w) h4
 have hzl:z.cells.size=f.size:=by have:=hz.len;rw[hjs,<-h6]at this;simpa using this
 have hpos:f.size≠0:=by rw[h6];exact he
 have hzn:z.cells.size≠0:=by rw[hzl];exact hpos
 have hc:=uN z.cells hzn len
 obtain⟨cs',h7,h8⟩:=hf (D:=Dt S base ρ) (w:=w) (ρ:=ρ) a.eval ((Array.range (len*f.size)).map (z.cells[·%z.cells.size]!)) (fun p hp=>by
  have hm:p.2∈o.op.operands:=by rw[ho];simp only[Op.operands,List.mem_toArray,List.mem_map];exact⟨p,hp,rfl⟩
  have:=g.ev p.2;rwa [(hs _ hm).1]at this) (by rw[<-hzl,hc];exact hz.many len)
 have hsz:cs'.size=len*f.size:=by
  rw[JD h7];simp
 have hr:=run_buildSlice (P:=E.P) w t i.elem len (parts.map fun(i,x)=>(i,a.eval x)) cs' f z hu h1 h3 (by rw[h6];omega) (by rw[h6];exact Nat.mul_ne_zero hl he) (by
  rw[Array.toList_map,h6];rw[h6]at h7;exact h7)
 have hw:w.grownBy (w.alloc (.cells cs' i.elem)) none:=⟨rfl,rfl,rfl,by rw[size_alloc];omega,fun k hk _=>Below.heap_alloc _ _ _ hk⟩
 have hρ:ρ fr=none:=by have:=g.b fr;rw[hfr]at this;exact this
 unfold Oper.wp execOp
 simp only[ho,Sem.run_bind,hr,Result.andThen_ok,Sem.run_pure]
 refine hK' _ _ _ (g.J5 hfr hlt hw (cs:=cs'.toList) ⟨?_,.inr ⟨w.heap.size,len,cs',rfl,Nat.le_refl _,heap_alloc_new _ _,Nat.le_refl _,?_,?_,?_⟩⟩ (h8.up (Dt.new hw (fun q hq=>by simp[Rl]at hq;omega) hρ)) o.dst)
 ·rw[Array.length_toList,hsz,h6]
 ·have:len<=len*i.bY:=Nat.le_mul_of_pos_right _ (Nat.pos_of_ne_zero he)
  unfold maxLen;omega
 ·rw[hsz,h6]
 ·rw[List.take_of_length_le (by rw[Array.length_toList,hsz,h6];exact Nat.le_refl _)]
theorem YC{t:TypeId}{parts:Array (Nat×Operand)}{i j:TI}(ho:o.op=.buildSlice t 0 parts)(hY:E.Y t=some i)(hs1:i.sl=true)(he:i.bY≠0)(hj:E.Y i.elem=some j)(hp:parts.toList=[]):
  cO E o s fr (.own fr 0) (some (fr,.sl i.elem i.bY 0 (qH 0 j.zero))):=by
 refine⟨fun b hb=>.inl ⟨by simpa[T.refs]using hb,_,rfl⟩,fun b x e=>by cases e;exact .inl rfl,fun S base w0 s' ρ a w K' Q hs g hfr hlt hK'=>?_⟩
 obtain⟨f,z,h1,h2,_,h3,h4⟩:=(E.hY _ j hj).info
 obtain⟨_,f',h5,h6⟩:=(E.hY t i hY).arr he
 rw[h1]at h5;cases h5
 have hu:=(E.hY t i hY).sl hs1
 have hz:=cZ (S:=Dt S base ρ) (w:=w) h4
 have hpa:parts=#[]:=by cases parts;simp_all
 subst hpa
 have hr:(Instr.buildSlice t 0 (#[].map fun(p:Nat×Operand)=>(p.1,a.eval p.2))).run E.P w=.ok (.slice (some ⟨w.heap.size,0,none⟩) 0 0) (w.alloc (.cells #[] i.elem)):=by
  simp[Instr.buildSlice,run_underlying hu,sizeOf,typeInfo,h1,Instr.fill,newRow]
  exact congrArg (fun c=>w.alloc (.cells c i.elem)) (Array.eq_empty_of_size_eq_zero (by simp))
 have hw:w.grownBy (w.alloc (.cells #[] i.elem)) none:=⟨rfl,rfl,rfl,by rw[size_alloc];omega,fun k hk _=>Below.heap_alloc _ _ _ hk⟩
 have hρ:ρ fr=none:=by have:=g.b fr;rw[hfr]at this;exact this
 have hm:=hz.many 0
 rw[List.replicate_zero,List.flatten_nil]at hm
 unfold Oper.wp execOp
 simp only[ho,Sem.run_bind,hr,Result.andThen_ok,Sem.run_pure]
 refine hK' _ _ _ (g.J5 hfr hlt hw (cs:=[]) ⟨by simp,.inr ⟨w.heap.size,0,#[],rfl,Nat.le_refl _,heap_alloc_new _ _,Nat.le_refl _,Nat.zero_le _,by simp,by simp⟩⟩ (hm.up (Dt.new hw (fun q hq=>by simp[Rl]at hq;omega) hρ)) o.dst)
theorem xO{D:Nat->Prop}{ρ:Nat->Option Value}{w:World}:∀{ps:List Pt} {l:List A} {vs:List Value},wK ps=some l->QM D ρ w ps vs->l.length=ps.length/\RG D w l vs
 |[],l,vs,h,hp=>by cases h;cases hp;exact⟨rfl,.nil⟩
 | .dat (.row n m)::r,l,vs,h,hp=>by
  cases hp with
  |cons h1 hr=>
  unfold wK at h
  cases hq:wK r with
  |none=>rw[hq]at h;cases h
  |some l'=>
   rw[hq]at h;cases h
   obtain⟨e,g⟩:=xO hq hr
   have h2:RA D w (.row n m) _:=h1
   exact⟨by simp[e],.cons h2 (by cases h2;rfl) g⟩
 | .dat (.v x)::r,l,vs,h,hp=>by
  cases hp with
  |cons h1 hr=>
  unfold wK at h
  split at h
  ·next e=>cases e
  ·next e=>cases e
  ·next e=>
   cases e
   cases hq:wK r with
   |none=>rw[hq]at h;cases h
   |some l'=>
    rw[hq]at h;cases h
    obtain⟨e,g⟩:=xO hq hr
    have h2:RA D w (.v (.slice none 0 0)) _:=h1
    exact⟨by simp[e],.cons h2 (by cases h2;rfl) g⟩
  ·cases h
 | .dat (.agg _)::r,l,vs,h,hp=>by simp[wK]at h
 | .dat (.ref _ _)::r,l,vs,h,hp=>by simp[wK]at h
 | .dat (.sref _ _)::r,l,vs,h,hp=>by simp[wK]at h
 | .dat (.recs _ _ _)::r,l,vs,h,hp=>by simp[wK]at h
 | .dat (.NM _ _)::r,l,vs,h,hp=>by simp[wK]at h
 | .own _ _::r,l,vs,h,hp=>by simp[wK]at h
 | .win _ _ _::r,l,vs,h,hp=>by simp[wK]at h
theorem KE{y:Operand}{K:Nat->List Seg->Prop}(h:aZ7 s (s.ev y) K):∃m news,K m news/\
  ∀(S:Nat->Prop) (base:Nat) (w0:W0 E.G) (s':St) (ρ:Nat->Option Value) (a:Act) (w:World),s'.ev y=s.ev y->(∀b∈(s.ev y).refs,s'.bk b=s.bk b)->Good S base w0 s' ρ a w->
   ∃ad c cs,a.eval y=.slice ad m c/\RL (Dt S base ρ) w news cs/\((ad=none/\c=0/\m=0/\cs=[])\/∃a',ad=some a'/\∀j u,cs[j]?=some u->w.cell? (a'.add j)=some u):=by
 unfold aZ7 at h
 split at h
 ·next n l hy=>
  refine⟨n,l,h,fun S base w0 s' ρ a w h1 h2 g=>?_⟩
  have hv:=g.ev y
  rw[h1,hy]at hv
  generalize a.eval y=v at hv
  cases hv with
  |row k k1 k2 k3 k4=>
   rename_i c cs ad
   refine⟨ad,c,cs,rfl,k,?_⟩
   rcases k4 with k4|⟨b,q,rfl,k5,k6,k7⟩
   ·subst k4
    cases ad with
    |none=>have:=k3 rfl;exact .inl ⟨rfl,this,by omega,rfl⟩
    |some a'=>exact .inr ⟨a',rfl,fun j u hj=>by simp at hj⟩
   ·refine .inr ⟨_,rfl,fun j u hj=>?_⟩
    obtain⟨hlt,e⟩:=List.getElem?_eq_some_iff.1 hj
    rw[mP,k7 j hlt,e]
 ·next b n hy=>
  split at h
  ·next e sz m l hk=>
   obtain⟨rfl,h⟩:=h
   refine⟨n,l,h,fun S base w0 s' ρ a w h1 h2 g=>?_⟩
   have hv:=g.ev y
   rw[h1,hy]at hv
   obtain⟨cs,k1,k2,k3⟩:=lM g ((h2 b (by rw[hy];simp[T.refs])).trans hk) hv
   rcases k2.2 with⟨e1,e2⟩|⟨r,cap,cur,e1,e3,e4,e5,e6,e7,e8⟩
   ·refine⟨none,0,cs,by rw[e1,e2],k3,.inl ⟨rfl,rfl,e2,?_⟩⟩
    have:=k2.1;rw[e2,Nat.zero_mul]at this;exact List.length_eq_zero_iff.1 this
   ·refine⟨_,cap,cs,e1,k3,.inr ⟨_,rfl,k2.cells (g:=r) (by rw[e1];rfl)⟩⟩
  ·exact h.elim
 ·next b q n hy=>
  split at h
  ·next l hk=>
   split at h
   ·next m hm=>
    obtain⟨hle,h⟩:=h
    refine⟨n,m,h,fun S base w0 s' ρ a w h1 h2 g=>?_⟩
    have hv:=g.ev y
    rw[h1,hy]at hv
    obtain⟨r,cs,ty,k1,k2,k3,k4⟩:=g.var ((h2 b (by rw[hy];simp[T.refs])).trans hk)
    obtain⟨r',c,e1,e2,e3,e4⟩:=hv _ k1
    obtain rfl:=e1.ptr
    refine⟨_,c,_,e2,(k4.cut hm).1,.inr ⟨_,rfl,fun j u hj=>?_⟩⟩
    rw[mP,fU k3]
    rw[List.getElem?_take]at hj
    split at hj
    ·rw[List.getElem?_drop]at hj;exact hj
    ·cases hj
   ·exact h.elim
  ·exact h.elim
 ·next hy=>
  refine⟨0,[],h,fun S base w0 s' ρ a w h1 h2 g=>?_⟩
  have hv:=g.ev y
  rw[h1,hy]at hv
  exact⟨none,0,[],RA.plain hv,.nil,.inl ⟨rfl,rfl,rfl,rfl⟩⟩
 ·next ad c hy=>
  refine⟨0,[],h,fun S base w0 s' ρ a w h1 h2 g=>?_⟩
  have hv:=g.ev y
  rw[h1,hy]at hv
  exact⟨some ad,c,[],RA.plain hv,.nil,.inr ⟨ad,rfl,fun j u hj=>by simp at hj⟩⟩
 ·next ps hy=>
  split at h
  ·next l hl=>
   refine⟨_,_,h,fun S base w0 s' ρ a w h1 h2 g=>?_⟩
   have hv:=g.ev y
   rw[h1,hy]at hv
   obtain⟨vs,hp,r,hr,hne,hle,hD,hlt,hc⟩:=hv
   have hlen:=hp.len
   obtain⟨e1,hg⟩:=xO hl hp
   refine⟨some ⟨r,0,none⟩,vs.length,vs,by rw[hr,hlen],.iL e1 hg,.inr ⟨_,rfl,fun j u hj=>?_⟩⟩
   rw[mP,Nat.zero_add]
   obtain⟨h9,h10⟩:=List.getElem?_eq_some_iff.1 hj
   rw[hc j h9,h10]
  ·exact h.elim
 ·exact h.elim
theorem kZ{P:Program}(base:Nat)(t ty e:TypeId)(i:TypeInfo)(size:Nat)(ht:P.underlying t=some (.slice e))(hi:P.info? e=some i)(hsize:i.size=size)
  (v:Value)(n:Nat)(xs:List Value)(hown:w.ownsRow base e size v n xs)(a:Addr)(c:Nat):(Builtin.append_ #[t,t] ty #[v,.slice (some a) 0 c]).run P w=.ok v w:=by
 subst hsize
 rcases hown.2 with⟨rfl,rfl⟩|⟨g,cap,cur,rfl,hbg,hg,hnc,hcm,hcs,htake⟩
 ·simp[Builtin.append_,run_underlying ht,sizeOf,typeInfo,hi,Builtin.lenOf,Builtin.firstCells,loadCells,loadCellsFrom]
 ·have hr:=run_append_room (P:=P) w t ty e i ht hi g n cap cur hg a 0 c [] (by simp) (by simp) (by simp) (by omega) (by simp[hcs];exact Nat.mul_le_mul_right _ hnc)
  rw[hr]
  have:(List.take (n*i.size) cur.toList++[]++List.drop (n*i.size+([]:List Value).length) cur.toList).toArray=cur:=by simp
  rw[this,setRow_self w g cur e (0,0) hg]
  simp
theorem Yz{c:Call}{x y:Operand}{t:TypeId}{i j:TI}{b n:Nat}(ho:o.op=.call c)(hc:c.callee=.builtin .append)(ha:c.args.toList=[x,y])(ht:c.argTypes.toList=[t,t])(hY:E.Y t=some i)(hs1:i.sl=true)(he:i.bY≠0)
  (hj:E.Y i.elem=some j)(hjb:j.bytes≠0)(hjs:dM j.zero=i.bY){m:Nat}{news:List Seg}
  (hsrc:∀(S:Nat->Prop) (base:Nat) (w0:W0 E.G) (s':St) (ρ:Nat->Option Value) (a:Act) (w:World),s'.ev y=s.ev y->(∀b∈(s.ev y).refs,s'.bk b=s.bk b)->Good S base w0 s' ρ a w->
   ∃ad c cs,a.eval y=.slice ad m c/\RL (Dt S base ρ) w news cs/\((ad=none/\c=0/\m=0/\cs=[])\/∃a',ad=some a'/\∀j u,cs[j]?=some u->w.cell? (a'.add j)=some u))
  (hseg:dM news=m*i.bY)(hx:s.ev x=.own b n)(hk:s.bk b=some (.sl i.elem i.bY n l))(hb:(n+m)*j.bytes<=140737488355328):
  cO E o s fr (.own b (n+m)) (some (b,.sl i.elem i.bY (n+m) (kT l news))):=by
 have hca:c.args=#[x,y]:=by cases hq:c.args;simp_all
 have hct:c.argTypes=#[t,t]:=by cases hq:c.argTypes;simp_all
 have hmx:x∈o.op.operands:=by rw[ho];simp[Op.operands,Call.operands,hc,hca]
 have IV:y∈o.op.operands:=by rw[ho];simp[Op.operands,Call.operands,hc,hca]
 have hlk:looks o=true:=by simp[looks,ho]
 refine⟨fun q hq=>.inr ⟨x,hmx,by rw[hx];simpa[T.refs]using hq⟩,fun q z e=>by cases e;exact .inr ⟨x,hmx,by rw[hx];simp[T.refs]⟩,fun S base w0 s' ρ a w K' Q hs g hfr hlt hK'=>?_⟩
 obtain⟨ad,c',ns,h1,h2,h3⟩:=hsrc S base w0 s' ρ a w (hs y IV).1 (fun q hq=>hs.bk IV hlk hq) g
 have hbk:s'.bk b=some (.sl i.elem i.bY n l):=(hs.bk hmx hlk (by rw[hx];simp[T.refs])).trans hk
 obtain⟨cs,k1,k2,k3⟩:=lM g hbk (bB hs g hmx hx)
 obtain⟨_,f,h5,h6⟩:=(E.hY t i hY).arr he
 obtain⟨f',z,h7,h8,h9,h10,h11⟩:=(E.hY _ j hj).info
 rw[h5]at h7;cases h7
 have hu:=(E.hY t i hY).sl hs1
 have hns:ns.length=m*i.bY:=by rw[h2.len,hseg]
 have hform:∃ad c,a.eval x=.slice ad n c:=by
  rcases k2.2 with⟨e1,e2⟩|⟨q,cap,cur,e1,_⟩
  ·exact⟨_,_,by rw[e1,e2]⟩
  ·exact⟨_,_,e1⟩
 have hbl:=sQ hbk
 have hrun:∀{v' w'},(Builtin.append_ #[t,t] o.type #[a.eval x,a.eval y]).run E.P w=.ok v' w'->(∀ρ',Good S base w0 (s'.app o.dst (.own b (n+m)) (some (b,.sl i.elem i.bY (n+m) (kT l news)))) ρ' (a.put o.dst v') w'->o.wp E.P a w K' Q):=by
  intro v' w' hr ρ' hg
  unfold Oper.wp execOp
  simp only[ho,hc,hca,hct,resolve,invoke,builtin,Sem.run_bind,Sem.run_pure,Result.andThen_ok,List.map_toArray,List.map_cons,List.map_nil,hr]
  exact hK' _ _ _ hg
 -- nothing is appended
 have same:m=0->ns=[]->(Builtin.append_ #[t,t] o.type #[a.eval x,a.eval y]).run E.P w=.ok (a.eval x) w->o.wp E.P a w K' Q:=by
  intro hm hn hr
  subst hm;subst hn
  have zu:upd ρ b (some (a.eval x))=ρ:=by
   funext q;unfold upd;split
   ·next e=>rw[e,k1]
   ·rfl
  have g2:=g.change b hbl (a.eval x) (.sl i.elem i.bY (n+0) (kT l news)) none ⟨rfl,rfl,rfl,Nat.le_refl _,fun _ _ _=>rfl⟩ (by simp) (fun r hr=>⟨.inr ⟨_,k1,hr⟩,(g.low b _ r k1 hr).2⟩) (by
   rw[zu]
   intro K0
   refine⟨a.eval x,cs++[],k1,?_,k3.join h2⟩
   rw[List.append_nil];exact k2) (by
   rw[zu]
   intro _ q hq _
   exact g.t q hq) (fun q hq=>by rw[k1]at hq;exact Option.some.inj hq)
  rw[zu]at g2
  refine hrun hr ρ (g2.put' o.dst (t:=.own b (n+0)) ?_ ?_)
  ·intro u hu
   rw[k1]at hu;cases hu
   obtain⟨ad,c',e⟩:=hform
   exact⟨ad,n,c',e,Nat.le_refl _,fun _=>rfl⟩
  ·intro q hq
   simp[T.refs]at hq;subst hq
   simp[St.bk,aB,hbl]
 rcases h3 with⟨rfl,rfl,hm,hn⟩|⟨a',rfl,h12⟩
 ·refine same hm hn ?_
  rw[h1,hm]
  exact run_append_owned_none (P:=E.P) (w:=w) base t o.type i.elem f i.bY hu h5 _ n cs k2
 ·by_cases hm:m=0
  ·refine same hm (by rw[hm,Nat.zero_mul]at hns;exact List.length_eq_zero_iff.1 hns) ?_
   rw[h1,hm]
   exact kZ base t o.type i.elem f i.bY hu h5 h6 _ n cs k2 a' c'
  ·have hz:=(cZ (S:=S) (w:=w) h11).len
   have h63:n+m<=maxLen:=by
    have:n+m<=(n+m)*j.bytes:=Nat.le_mul_of_pos_right _ (Nat.pos_of_ne_zero hjb)
    unfold maxLen;omega
   obtain⟨v',w',hr,k4,k5,k6,k7⟩:=run_append_own_at (P:=E.P) w base t o.type i.elem f z i.bY j.bytes hu h5 h10 h6 h9 (by
     rw[hjs]at hz;simpa using hz) (Nat.pos_of_ne_zero he) _ n cs k2 a' m c' ns hns h12 h2.one h63 hb g.size
   have hform':∃ad c,v'=.slice ad (n+m) c:=by
    rcases k4.2 with⟨e1,e2⟩|⟨q,cap,cur,e1,_⟩
    ·exact⟨_,_,by rw[e1,e2]⟩
    ·exact⟨_,_,e1⟩
   obtain⟨ad1,c1,f1⟩:=hform
   obtain⟨Nk,c2,f2⟩:=hform'
   have g2:=g.change b hbl v' (.sl i.elem i.bY (n+m) (kT l news)) (a.eval x).ownBlock k5 (fun r hr=>⟨_,k1,(uZ ⟨_,_,_,f1⟩).2 hr⟩) (fun r hr=>by
     rw[uZ ⟨_,_,_,f2⟩]at hr
     refine⟨?_,?_⟩
     ·rcases k7 with k7|k7
      ·exact .inr ⟨_,k1,(uZ ⟨_,_,_,f1⟩).2 (by rw[<-k7];exact hr)⟩
      ·rw[k7]at hr;cases hr;exact .inl (Nat.le_refl _)
     ·exact(k4.lt r hr).2) (by
     intro K0
     exact⟨v',cs++ns,by simp[upd],k4,(k3.up K0).join (h2.up K0)⟩) (by
     intro K0 q hq hrf
     have hold:=g.t q hq
     have nop:∀r:Nat,∀o',a.eval x=.pointer (some ⟨r,o',none⟩)->False:=fun r o' e=>by rw[f1]at e;cases e
     cases hT:s'.sl q with
     |d _=>rw[hT]at hrf;simp[T.refs]at hrf
     |yE _=>rw[hT]at hrf;simp[T.refs]at hrf
     |au=>rw[hT]at hrf;simp[T.refs]at hrf
     |ob b'=>rw[hT]at hrf hold;simp[T.refs]at hrf;subst hrf;obtain⟨r,F,e,_⟩:=hold _ k1;rw[f1]at e;exact(mV.2 _ _ _ e.symm).elim
     |mp b'=>rw[hT]at hrf hold;simp[T.refs]at hrf;subst hrf;obtain⟨r,F,e,_⟩:=hold _ k1;rw[f1]at e;exact(mV.2 _ _ _ e.symm).elim
     |ptr b' o'=>rw[hT]at hrf hold;simp[T.refs]at hrf;subst hrf;obtain⟨r,e,_⟩:=hold _ k1;rw[f1]at e;exact e.slice.elim
     |hsl b' n'=>rw[hT]at hrf hold;simp[T.refs]at hrf;subst hrf;rcases hold _ k1 with⟨r,a2,n2,c2,e,_⟩|⟨r,e⟩;(rw[f1]at e;exact(kE.2 _ _ _ e.symm).elim);(exact(nop _ _ e).elim)
     |xg b' o' r'=>rw[hT]at hrf hold;simp[T.refs]at hrf;subst hrf;obtain⟨r,e,_⟩:=hold _ k1;rw[f1]at e;exact e.slice.elim
     |NC b' c'=>
      rw[hT]at hold
      intro u hu
      by_cases e:b'=b
      ·subst e;obtain⟨r,e,_⟩:=hold _ k1;rw[f1]at e;exact e.slice.elim
      ·simp[upd,e]at hu;exact hold u hu
     |win b' o' r'=>rw[hT]at hrf hold;simp[T.refs]at hrf;subst hrf;obtain⟨r,_,e,_⟩:=hold _ k1;rw[f1]at e;exact e.slice.elim
     |own b' n'=>
      rw[hT]at hrf hold;simp[T.refs]at hrf;subst hrf
      obtain⟨_,n2,_,e,e2,_⟩:=hold _ k1
      rw[f1]at e;cases e
      intro u hu
      simp[upd]at hu;subst hu
      exact⟨Nk,n+m,c2,f2,by omega,fun e=>by omega⟩
     |BX b' n' off=>
      rw[hT]at hrf hold;simp[T.refs]at hrf;subst hrf
      obtain⟨_,n2,_,e,e2,_⟩:=hold _ k1
      rw[f1]at e;cases e
      intro u hu
      simp[upd]at hu;subst hu
      exact⟨Nk,n+m,c2,f2,by omega,fun e=>by omega⟩
     |pre b' n0 n'=>
      rw[hT]at hrf hold;simp[T.refs]at hrf;subst hrf
      obtain⟨_,n2,_,e,e2,_⟩:=hold _ k1
      rw[f1]at e;cases e
      intro u hu
      simp[upd]at hu;subst hu
      exact⟨Nk,n+m,c2,f2,by omega,fun e=>by omega⟩
     |rows ps=>
      rw[hT]at hold
      obtain⟨vs,hp,hr⟩:=hold
      refine⟨vs,hp.map fun p hp v hv=>?_,hr.up K0⟩
      by_cases hbp:b∈p.refs
      ·cases p with
       |dat a'=>simp[Pt.refs]at hbp
       |win b' o' n'=>simp[Pt.refs]at hbp;subst hbp;obtain⟨r,_,e,_⟩:=hv _ k1;rw[f1]at e;exact e.slice.elim
       |own b' n'=>
        simp[Pt.refs]at hbp;subst hbp
        obtain⟨_,n2,_,e,e2,_⟩:=hv _ k1
        rw[f1]at e;cases e
        intro u hu
        simp[upd]at hu;subst hu
        exact⟨Nk,n+m,c2,f2,by omega,fun e=>by omega⟩
      ·exact hv.up K0 fun q hq=>by
        have:q≠b:=fun e=>hbp (e▸hq)
        simp[upd,this]) (fun q hq=>by rw[k1,f1]at hq;cases hq)
   refine hrun (by rw[h1];exact hr) _ (g2.put' o.dst (t:=.own b (n+m)) ?_ ?_)
   ·intro u hu
    simp[upd]at hu;subst hu
    exact⟨Nk,n+m,c2,f2,Nat.le_refl _,fun _=>rfl⟩
   ·intro q hq
    simp[T.refs]at hq;subst hq
    simp[St.bk,aB,hbl]
theorem Me{c:Call}{x y:Operand}{t:TypeId}{i j:TI}(ho:o.op=.call c)(hc:c.callee=.builtin .append)(ha:c.args.toList=[x,y])(ht:c.argTypes.toList=[t,t])(hY:E.Y t=some i)(hs1:i.sl=true)(he:i.bY≠0)
  (hj:E.Y i.elem=some j)(hjb:j.bytes≠0)(hjs:dM j.zero=i.bY){m:Nat}{news:List Seg}
  (hsrc:∀(S:Nat->Prop) (base:Nat) (w0:W0 E.G) (s':St) (ρ:Nat->Option Value) (a:Act) (w:World),s'.ev y=s.ev y->(∀b∈(s.ev y).refs,s'.bk b=s.bk b)->Good S base w0 s' ρ a w->
   ∃ad c cs,a.eval y=.slice ad m c/\RL (Dt S base ρ) w news cs/\((ad=none/\c=0/\m=0/\cs=[])\/∃a',ad=some a'/\∀j u,cs[j]?=some u->w.cell? (a'.add j)=some u))
  (hseg:dM news=m*i.bY)(hx:s.ev x=.d (.v (.slice none 0 0)))(hb:m*j.bytes<=140737488355328):
  cO E o s fr (.own fr m) (some (fr,.sl i.elem i.bY m news)):=by
 have hca:c.args=#[x,y]:=by cases hq:c.args;simp_all
 have hct:c.argTypes=#[t,t]:=by cases hq:c.argTypes;simp_all
 have hmx:x∈o.op.operands:=by rw[ho];simp[Op.operands,Call.operands,hc,hca]
 have IV:y∈o.op.operands:=by rw[ho];simp[Op.operands,Call.operands,hc,hca]
 have hlk:looks o=true:=by simp[looks,ho]
 refine⟨fun b hb=>.inl ⟨by simpa[T.refs]using hb,_,rfl⟩,fun b x e=>by cases e;exact .inl rfl,fun S base w0 s' ρ a w K' Q hs g hfr hlt hK'=>?_⟩
 obtain⟨ad,c',ns,h1,h2,h3⟩:=hsrc S base w0 s' ρ a w (hs y IV).1 (fun q hq=>hs.bk IV hlk hq) g
 obtain⟨_,f,h5,h6⟩:=(E.hY t i hY).arr he
 obtain⟨f',z,h7,h8,h9,h10,h11⟩:=(E.hY _ j hj).info
 rw[h5]at h7;cases h7
 have hu:=(E.hY t i hY).sl hs1
 have hns:ns.length=m*i.bY:=by rw[h2.len,hseg]
 have hxv:=bA hs g hmx hx
 have hρ:ρ fr=none:=by have:=g.b fr;rw[hfr]at this;exact this
 have hnil:w.ownsRow w.heap.size i.elem i.bY (.slice none 0 0) 0 []:=World.ownsRow_nil _ _ _ _
 have hrun:∀{v' w'},(Builtin.append_ #[t,t] o.type #[a.eval x,a.eval y]).run E.P w=.ok v' w'->(∀ρ',Good S base w0 (s'.app o.dst (.own fr m) (some (fr,.sl i.elem i.bY m news))) ρ' (a.put o.dst v') w'->o.wp E.P a w K' Q):=by
  intro v' w' hr ρ' hg
  unfold Oper.wp execOp
  simp only[ho,hc,hca,hct,resolve,invoke,builtin,Sem.run_bind,Sem.run_pure,Result.andThen_ok,List.map_toArray,List.map_cons,List.map_nil,hr]
  exact hK' _ _ _ hg
 have none':w.grownBy w none:=⟨rfl,rfl,rfl,Nat.le_refl _,fun _ _ _=>rfl⟩
 have same:m=0->ns=[]->(Builtin.append_ #[t,t] o.type #[a.eval x,a.eval y]).run E.P w=.ok (.slice none 0 0) w->o.wp E.P a w K' Q:=by
  intro hm hn hr
  subst hm;subst hn
  exact hrun hr _ (g.J5 hfr hlt none' hnil (h2.up (Dt.new none' (fun q hq=>by simp[Rl]at hq) hρ)) o.dst)
 rcases h3 with⟨rfl,rfl,hm,hn⟩|⟨a',rfl,h12⟩
 ·refine same hm hn ?_
  rw[h1,hm,hxv]
  exact run_append_owned_none (P:=E.P) (w:=w) w.heap.size t o.type i.elem f i.bY hu h5 _ 0 [] hnil
 ·by_cases hm:m=0
  ·refine same hm (by rw[hm,Nat.zero_mul]at hns;exact List.length_eq_zero_iff.1 hns) ?_
   rw[h1,hm,hxv]
   exact kZ w.heap.size t o.type i.elem f i.bY hu h5 h6 _ 0 [] hnil a' c'
  ·have hz:=(cZ (S:=S) (w:=w) h11).len
   have h63:0+m<=maxLen:=by
    have:m<=m*j.bytes:=Nat.le_mul_of_pos_right _ (Nat.pos_of_ne_zero hjb)
    unfold maxLen;omega
   obtain⟨v',w',hr,k4,k5,k6,k7⟩:=run_append_own_at (P:=E.P) w w.heap.size t o.type i.elem f z i.bY j.bytes hu h5 h10 h6 h9 (by
     rw[hjs]at hz;simpa using hz) (Nat.pos_of_ne_zero he) _ 0 [] hnil a' m c' ns hns h12 h2.one h63 (by rw[Nat.zero_add];exact hb) (Nat.le_refl _)
   rw[Nat.zero_add,List.nil_append]at k4
   have hgr:w.grownBy w' none:=k5
   refine hrun (by rw[h1,hxv];exact hr) _ (g.J5 hfr hlt hgr k4 (h2.up (Dt.new hgr (fun q hq=>?_) hρ)) o.dst)
   rw[uZ (by rcases k4.2 with⟨e1,e2⟩|⟨q,cap,cur,e1,_⟩<;>exact⟨_,_,_,e1⟩)]at hq
   exact(k4.lt q hq).1
end
end
section
section
variable {P : Program}
def keeps(d:Option Tmp)(v:Value):Value:=match d with|none=>undef|some _=>v
theorem CQ(a:Act)(d:Option Tmp)(v:Value):a.put d (keeps d v)=a.put d v:=by cases d<;>rfl
def mX(P:Program)(ops:Array Oper)(R:World->World->Prop)(o:Oper)(a:Act)(w:World)(F:Value->World->Prop):Prop:=
 if Region.wanted o (yielded ops a.tmps)then
  match(execOp a.eval o).run P w with
  | .ok (.value v) w'=>R w w'/\F (keeps o.dst v) w'
  | .ok .skip w'=>R w w'/\F undef w'
  | .ok (.enter f args) w'=>Calls P f args w' fun e w''=>∃v,e=.returned v/\R w w''/\F (keeps o.dst v) w''
  | .ok (.row r args) w'=>Rows P r args w' fun v w''=>R w w''/\F (keeps o.dst v) w''
  |_=>False
 else F undef w
def aG(ops:Array Oper)(vals:Nat->Value):List Nat->Act->Act
 |[],a=>a
 |j::r,a=>aG ops vals r (a.put ((ops[j]?).bind (·.dst)) (vals j))
def Vr(Φ:Nat->(Nat->Value)->World->Prop)(vals:Nat->Value)(w:World):List Nat->Prop
 |[]=>True
 |j::r=>Φ j vals w/\Vr Φ vals w r
def sel(ks:List Nat)(vals:Nat->Value):Nat->Value:=fun k=>if ks.contains k then vals k else undef
def phi(L:List ((Nat->Value)->World->Prop))(D:List (List Nat))(j:Nat)(vals:Nat->Value)(w:World):Prop:=
 (L.getD j fun _ _=>True) (sel (j::D.getD j []) vals) w
theorem YS{L:List ((Nat->Value)->World->Prop)}{D:List (List Nat)}{j:Nat}{vals vals':Nat->Value}(h:∀k,k=j\/k∈D.getD j []->vals k=vals' k)(hp:phi L D j vals w):phi L D j vals' w:=by
 have e:sel (j::D.getD j []) vals=sel (j::D.getD j []) vals':=by
  funext k
  unfold sel
  by_cases hc:(j::D.getD j []).contains k=true
  ·rw[if_pos hc,if_pos hc]
   refine h k ?_
   simpa using hc
  ·rw[if_neg hc,if_neg hc]
 unfold phi at*
 rw[<-e];exact hp
def kS(l:List Oper)(i:Nat):Option Tmp:=(l[i]?).bind (·.dst)
def VX (l : List Oper) (D : List (List Nat)) : Bool :=
  (List.range l.length).all fun i =>
    match l[i]? with
    | none => false
    | some o =>
      ((D.getD i []).all fun j => o.after.toList.any (fun e => Region.binds .any e && e.on == j) || o.after.toList.any (fun e => Region.binds .any e && (D.getD e.on []).contains j)) &&
      (o.after.toList.all fun e => !Region.binds .any e || decide (e.on < i)) &&
      ((D.getD i []).all fun j => decide (j < i)) &&
      ((List.range l.length).all fun j => j == i ||
        (match kS l j with
         | none => true
         | some t => (kS l i != some t) && (!(o.looksAt l.toArray).contains t || (D.getD i []).contains j || (D.getD j []).contains i)))
theorem Mv(a:Act)(d:Option Tmp)(v:Value)(t:Tmp)(h:d≠some t):(a.put d v).tmps[t]?=a.tmps[t]?:=by
 cases d with
 |none=>rfl
 |some d=>
  show(a.tmps.setIfInBounds d v)[t]?=_
  rw[Array.getElem?_setIfInBounds_ne (fun e=>h (by rw[e]))]
theorem GA(a:Act)(d:Option Tmp)(v:Value):(a.put d v).tmps.size=a.tmps.size:=by cases d<;>simp[Act.put]
theorem PG(a:Act)(t:Tmp)(v:Value)(h:t<a.tmps.size):(a.put (some t) v).tmps[t]?=some v:=by
 show(a.tmps.setIfInBounds t v)[t]?=_
 simp[h]
theorem Wn(a:Act)(d:Option Tmp)(v:Value):(a.put d v).defers=a.defers:=by cases d<;>rfl
theorem Gz(ops:Array Oper)(vals:Nat->Value):∀(l:List Nat) (a:Act),(aG ops vals l a).defers=a.defers
 |[],_=>rfl
 |j::r,a=>by rw[aG,Gz ops vals r,Wn]
theorem xq(ops:Array Oper)(vals:Nat->Value):∀(l:List Nat) (a:Act),(aG ops vals l a).tmps.size=a.tmps.size
 |[],_=>rfl
 |j::r,a=>by rw[aG,xq ops vals r,GA]
theorem oO(ops:Array Oper)(vals:Nat->Value)(t:Tmp):∀(l:List Nat) (a:Act),(∀j∈l,(ops[j]?).bind (·.dst)≠some t)->(aG ops vals l a).tmps[t]?=a.tmps[t]?
 |[],_,_=>rfl
 |j::r,a,h=>by rw[aG,oO ops vals t r _ (fun k hk=>h k (by simp[hk])),Mv _ _ _ _ (h j (by simp))]
theorem xu(ops:Array Oper)(vals:Nat->Value)(t:Tmp)(i:Nat)(hi:(ops[i]?).bind (·.dst)=some t)(hu:∀j,(ops[j]?).bind (·.dst)=some t->j=i):
  ∀(l:List Nat) (a:Act),t<a.tmps.size->i∈l->(aG ops vals l a).tmps[t]?=some (vals i)
 |[],_,_,h=>by cases h
 |j::r,a,ht,h=>by
  rw[aG]
  by_cases hr:i∈r
  ·exact xu ops vals t i hi hu r _ (by rw[GA];exact ht) hr
  ·have hji:j=i:=by rcases List.mem_cons.1 h with h1|h1;exact h1.symm;exact absurd h1 hr
   subst hji
   rw[oO ops vals t r _ (fun k hk e=>hr (hu k e▸hk)),hi,PG _ _ _ ht]
theorem Act.ext'{a b:Act}(h:a.tmps=b.tmps)(k:a.defers=b.defers):a=b:=by cases a;cases b;simp_all
structure y7(l:List Oper)(R:World->World->Prop)(Φ:Nat->(Nat->Value)->World->Prop)(D:List (List Nat))(a0:Act)(w0:World)(listed:Array Bool)(a:Act)(w:World)(vals:Nat->Value):Prop where
 size:listed.size=l.length
 reach:R w0 w
 facts:∀j,listed.getD j false=true->Φ j vals w
 closed:∀i,listed.getD i false=true->∀j∈D.getD i [],listed.getD j false=true
 WM:a.tmps.size=a0.tmps.size
 defs:a.defers=a0.defers
 old:∀t,(∀j,listed.getD j false=true->kS l j≠some t)->a.tmps[t]?=a0.tmps[t]?
 new:∀j t,listed.getD j false=true->kS l j=some t->t<a0.tmps.size->a.tmps[t]?=some (vals j)
structure Fits(l:List Oper)(D:List (List Nat))(i:Nat)(o:Oper):Prop where
 dep:∀j∈D.getD i [],(∃e∈o.after,Region.binds .any e=true/\e.on=j)\/(∃e∈o.after,Region.binds .any e=true/\j∈D.getD e.on [])
 aft:∀e∈o.after,Region.binds .any e=true->e.on<i
 lt:∀j∈D.getD i [],j<i
 one:∀j t,j≠i->kS l j=some t->kS l i≠some t
 clean:∀j t,j≠i->kS l j=some t->t∈o.looksAt l.toArray->j∈D.getD i []\/i∈D.getD j []
theorem sU{l:List Oper}{j:Nat}{t:Tmp}(h:kS l j=some t):j<l.length:=by
 unfold kS at h
 rcases Nat.lt_or_ge j l.length with h1|h1
 ·exact h1
 ·rw[List.getElem?_eq_none h1]at h;cases h
theorem Gn{l:List Oper}{D:List (List Nat)}(h:VX l D=true){i:Nat}(ho:l[i]?=some o):Fits l D i o:=by
 have hi:i<l.length:=(List.getElem?_eq_some_iff.1 ho).1
 have h1:=List.all_eq_true.1 h i (List.mem_range.2 hi)
 rw[ho]at h1
 simp only[Bool.and_eq_true,List.all_eq_true,decide_eq_true_eq,List.mem_range]at h1
 obtain⟨⟨⟨h2,h3⟩,h4⟩,h5⟩:=h1
 refine⟨fun j hj=>?_,fun e he hb=>by have h6:=h3 e (by simpa using he);rw[hb]at h6;simpa using h6,h4,fun j t hji hd=>?_,fun j t hji hd ht=>?_⟩
 ·have:=h2 j hj
  simp only[Bool.or_eq_true,List.any_eq_true,Bool.and_eq_true,beq_iff_eq,List.contains_iff_mem]at this
  rcases this with⟨e,he,hb,h⟩|⟨e,he,hb,h⟩
  ·exact .inl ⟨e,by simpa using he,hb,h⟩
  ·exact .inr ⟨e,by simpa using he,hb,h⟩
 ·have:=h5 j (sU hd)
  rw[hd]at this
  simp only[Bool.or_eq_true,beq_iff_eq,Bool.and_eq_true,bne_iff_ne]at this
  rcases this with h|h
  ·exact absurd h hji
  ·exact h.1
 ·have:=h5 j (sU hd)
  rw[hd]at this
  simp only[Bool.or_eq_true,beq_iff_eq,Bool.and_eq_true,bne_iff_ne,Bool.not_eq_true',List.contains_iff_mem]at this
  rcases this with h|⟨_,(h|h)|h⟩
  ·exact absurd h hji
  ·exfalso
   rw[<-Bool.not_eq_true,List.contains_iff_mem]at h
   exact h ht
  ·exact .inl h
  ·exact .inr h
section
variable {l : List Oper} {R : World -> World -> Prop} {L : List ((Nat -> Value) -> World -> Prop)} {D : List (List Nat)} {a0 : Act} {w0 : World}
theorem uD(i:Nat):(l.toArray[i]?).bind (·.dst)=kS l i:=by unfold kS;simp
theorem uniq(hall:∀(i:Nat) (o:Oper),l[i]?=some o->Fits l D i o){j k:Nat}{t:Tmp}(hj:kS l j=some t)(hk:kS l k=some t):j=k:=by
 apply Decidable.byContradiction
 intro hne
 obtain⟨ok,hok⟩:∃ok,l[k]?=some ok:=⟨_,List.getElem?_eq_getElem (sU hk)⟩
 exact(hall k ok hok).one j t hne hj hk
theorem y7.look{listed:Array Bool}{i:Nat}(S:y7 l R (phi L D) D a0 w0 listed a w vals)
  (hall:∀(i:Nat) (o:Oper),l[i]?=some o->Fits l D i o)(ho:l[i]?=some o)
  (hD:∀j∈D.getD i [],listed.getD j false=true)(hi:listed.getD i false=false):
  ∀t∈o.looksAt l.toArray,a.tmps[t]?=(aG l.toArray vals (D.getD i []) a0).tmps[t]?:=by
 intro t ht
 have F:=hall i o ho
 have plain:∀j,kS l j=some t->listed.getD j false=false->j∉D.getD i []->a.tmps[t]?=(aG l.toArray vals (D.getD i []) a0).tmps[t]?:=by
  intro j hj hl hn
  rw[S.old t (fun k hk hd=>by rw[uniq hall hd hj,hl]at hk;cases hk),oO]
  intro k hk hd
  rw[uD]at hd
  exact hn (uniq hall hd hj▸hk)
 by_cases hw:∃j,kS l j=some t
 ·obtain⟨j,hj⟩:=hw
  by_cases hji:j=i
  ·subst hji
   exact plain j hj hi (fun h=>Nat.lt_irrefl _ (F.lt j h))
  ·rcases F.clean j t hji hj ht with h|h
   ·by_cases hsz:t<a0.tmps.size
    ·rw[S.new j t (hD j h) hj hsz,xu _ _ t j (by rw[uD];exact hj) (fun k hk=>by rw[uD]at hk;exact uniq hall hk hj) _ _ hsz h]
    ·rw[Array.getElem?_eq_none (Nat.le_of_not_lt (by rw[S.WM];exact hsz)),Array.getElem?_eq_none (Nat.le_of_not_lt (by rw[xq];exact hsz))]
   ·refine plain j hj ?_ (fun hd=>?_)
    ·rcases hb:listed.getD j false with _|_
     ·rfl
     ·rw[S.closed j hb i h]at hi;cases hi
    ·obtain⟨oj,hoj⟩:∃oj,l[j]?=some oj:=⟨_,List.getElem?_eq_getElem (sU hj)⟩
     have h1:=(hall j oj hoj).lt i h
     have h2:=F.lt j hd
     omega
 ·rw[S.old t (fun k _ hd=>hw ⟨k,hd⟩),oO]
  intro k _ hd
  rw[uD]at hd
  exact hw ⟨k,hd⟩
theorem XQ{a b:Act}(h:∀t∈o.looksAt ops,a.tmps[t]?=b.tmps[t]?):∀x∈o.op.operands,a.eval x=b.eval x:=by
 intro x hx
 cases x with
 |tmp t=>
  have:=h t (List.mem_append_left _ (List.mem_filterMap.2 ⟨.tmp t,by simpa using hx,rfl⟩))
  simp only[Act.eval,Array.getD_eq_getD_getElem?,this]
 |_=>rfl
theorem Qw{a b:Act}(h:∀t∈o.looksAt ops,a.tmps[t]?=b.tmps[t]?):Region.wanted o (yielded ops a.tmps)=Region.wanted o (yielded ops b.tmps):=by
 unfold Region.wanted
 cases hg:o.guard with
 |none=>rfl
 |some g=>
  obtain⟨j,want⟩:=g
  have e:yielded ops a.tmps j=yielded ops b.tmps j:=by
   unfold yielded
   cases hd:(ops[j]?).bind (·.dst)with
   |none=>simp
   |some d=>
    have:=h d (List.mem_append_right _ (by rw[hg];simp[hd]))
    simp[this]
  simp only[e]
theorem Po{a b:Act}{F:Value->World->Prop}(hs:∀cs bb,o.op≠ .select cs bb)(h:∀t∈o.looksAt ops,a.tmps[t]?=b.tmps[t]?)(hr:mX P ops R o b w F):mX P ops R o a w F:=by
 unfold mX at*
 rw[Qw h,execOp_congr o hs (XQ h)]
 exact hr
theorem uG{p q:Nat->Bool}(hpq:∀j,q j=true->p j=true){i:Nat}(hp:p i=true)(hq:q i=false):∀(l:List Nat),i∈l->(l.filter q).length<(l.filter p).length
 |[],h=>by cases h
 |j::r,h=>by
  have hle:∀(r:List Nat),(r.filter q).length<=(r.filter p).length:=by
   intro r
   induction r with
   |nil=>simp
   |cons k r ih=>
    rcases hk:q k with _|_
    ·rw[List.filter_cons_of_neg (by rw[hk];decide)]
     rcases hk2:p k with _|_
     ·rw[List.filter_cons_of_neg (by rw[hk2];decide)];exact ih
     ·rw[List.filter_cons_of_pos hk2,List.length_cons];omega
    ·rw[List.filter_cons_of_pos hk,List.filter_cons_of_pos (hpq k hk),List.length_cons,List.length_cons];omega
  rcases List.mem_cons.1 h with rfl|h
  ·rw[List.filter_cons_of_neg (by rw[hq];decide),List.filter_cons_of_pos hp,List.length_cons]
   have:=hle r;omega
  ·have ih:=uG hpq hp hq r h
   rcases hk:q j with _|_
   ·rw[List.filter_cons_of_neg (by rw[hk];decide)]
    rcases hk2:p j with _|_
    ·rw[List.filter_cons_of_neg (by rw[hk2];decide)];exact ih
    ·rw[List.filter_cons_of_pos hk2,List.length_cons];omega
   ·rw[List.filter_cons_of_pos hk,List.filter_cons_of_pos (hpq j hk),List.length_cons,List.length_cons];omega
theorem y7.step{listed:Array Bool}{i:Nat}(S:y7 l R (phi L D) D a0 w0 listed a w vals)
  (hall:∀(i:Nat) (o:Oper),l[i]?=some o->Fits l D i o)(ho:l[i]?=some o)
  (hD:∀j∈D.getD i [],listed.getD j false=true)(hi:listed.getD i false=false)
  (hR:∀{x y z},R x y->R y z->R x z)(hst:∀φ∈L,∀vals w w',R w w'->φ vals w->φ vals w')
  (v:Value)(w':World)(hw:R w w')(hv:phi L D i (fun j=>if j=i then v else vals j) w'):
  y7 l R (phi L D) D a0 w0 (listed.setIfInBounds i true) (a.put o.dst v) w' (fun j=>if j=i then v else vals j):=by
 have hil:i<listed.size:=by rw[S.size];exact(List.getElem?_eq_some_iff.1 ho).1
 have hset:∀j,(listed.setIfInBounds i true).getD j false=true->j=i\/(j≠i/\listed.getD j false=true):=by
  intro j hj
  by_cases hji:j=i
  ·exact .inl hji
  ·rw[getD_set_ne false (Ne.symm hji)]at hj;exact .inr ⟨hji,hj⟩
 have hdi:kS l i=o.dst:=by unfold kS;rw[ho];rfl
 refine⟨by simp[S.size],hR S.reach hw,?_,?_,by rw[GA,S.WM],by rw[Wn,S.defs],?_,?_⟩
 ·intro j hj
  rcases hset j hj with rfl|⟨hji,hj2⟩
  ·exact hv
  ·have h1:=S.facts j hj2
   have h2:phi L D j (fun j=>if j=i then v else vals j) w:=by
    refine YS (fun k hk=>?_) h1
    have hki:k≠i:=by
     rintro rfl
     rcases hk with h|h
     ·exact hji h.symm
     ·have:=S.closed j hj2 _ h;rw[hi]at this;cases this
    rw[if_neg hki]
   unfold phi at*
   by_cases hjL:j<L.length
   ·rw[List.getD_eq_getElem?_getD,List.getElem?_eq_getElem hjL]at h2 ⊢
    exact hst _ (List.getElem_mem hjL) _ _ _ hw h2
   ·rw[List.getD_eq_getElem?_getD,List.getElem?_eq_none (Nat.le_of_not_lt hjL)]
    trivial
 ·intro j hj k hk
  rcases hset j hj with rfl|⟨hji,hj⟩
  ·exact getD_set_true (hD k hk)
  ·exact getD_set_true (S.closed j hj k hk)
 ·intro t ht
  have hti:o.dst≠some t:=by rw[<-hdi];exact ht i (by simp[hil])
  rw[Mv _ _ _ _ hti]
  exact S.old t (fun j hj=>ht j (getD_set_true hj))
 ·intro j t hj hd hsz
  rcases hset j hj with rfl|⟨hji,hj⟩
  ·rw[hdi]at hd
   rw[hd,PG _ _ _ (by rw[S.WM];exact hsz),if_pos rfl]
  ·have hne:o.dst≠some t:=by rw[<-hdi];exact fun e=>hji (uniq hall hd e)
   rw[Mv _ _ _ _ hne,S.new j t hj hd hsz,if_neg hji]
theorem oL(n j:Nat):(Array.replicate n false).getD j false=false:=by
 by_cases h:j<n<;>simp[h]
def leans(L:List ((Nat->Value)->World->Prop))(D:List (List Nat))(vals:Nat->Value)(w:World):List Nat->Prop:=Vr (phi L D) vals w
end
end
end
section
structure II(w:World)(a:Option Addr)(len:Nat)(L:List (List UInt8)):Prop where
 len_eq:len=L.length
 small:L.length<=maxLen
 cells:L=[]\/∃b off,a=some ⟨b,off,none⟩/\∀(i:Nat) (h:i<L.length),∃a' l' c',w.cell? ⟨b,off+i,none⟩=some (.slice a' l' c')/\fP w a' l' L[i]
theorem fP.lt{a:Option Addr}{len:Nat}{bs:List UInt8}(h:fP w a len bs):∀x:Addr,a=some x->bs≠[]->x.block<w.heap.size:=by
 intro x hx hn
 rcases h.cells with h1|⟨b,off,rfl,hc⟩
 ·exact absurd h1 hn
 ·injection hx with hx
  subst hx
  have h0:0<bs.length:=List.length_pos_iff.2 hn
  exact block_lt_of_cell (hc 0 h0)
end
end Go.Proofs.YtegalalmamofdaaGreatDoor
