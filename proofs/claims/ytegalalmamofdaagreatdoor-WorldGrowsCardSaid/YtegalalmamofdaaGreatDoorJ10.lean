/- -/
import Derived.Test.YtegalalmamofdaaGreatDoorJ9
import Derived.Test.YtegalalmamofdaaGreatDoorChecked
import Derived.ChangeSame
namespace Go.Proofs.YtegalalmamofdaaGreatDoor
set_option linter.all false
set_option maxRecDepth 100000
open Go.RowKit
variable{a:List (Option IntKind)}{P:Program}{f:FuncId}{E:ak}{ops r:List Oper}{s:St}{k:St->Prop}{acc:List uh}{body:St->(Exit->St->Prop)->Prop}{args:List A}{G:Nat->Option (List Seg)}
section
def aD4(r:TypeId->Option (List (Option IntKind))):Nat->List Field->Option (List (Option IntKind))
 |off,[]=>some []
 |off,f::fs=>if f.name≠ "_"/\f.offset=off then(match r f.type with|some s=>(aD4 r (off+s.length) fs).map (s++·)|none=>none)else none
def zN(P:Program):Nat->TypeId->Option (List (Option IntKind))
 |0,_=>none
 |d+1,t=>
  let s:=match P.underlying t with
   |some .bool=>some [none]
   |some (.int k)=>some [some k]
   |some (.array n e)=>(zN P d e).map fun s=>(List.replicate n s).flatten
   |some (.struct fs)=>if P.stoodInHeld t=true then none else aD4 (zN P d) 0 fs.toList
   |_=>none
  match s with
  |some s=>(match P.info? t with|some i=>if i.size=s.length then some s else none|none=>none)
  |none=>none
def mkV(P:Program)(t:TypeId)(xs:List Value):Value:=if lu P t=true then .agg xs.toArray else xs.headD undef
section
variable {P : Program}
theorem Kz{d:Nat}{t:TypeId}{s:List (Option IntKind)}(h:zN P d t=some s):∃i,P.info? t=some i/\i.size=s.length/\P.cellsOf t=s.length/\∃u,P.underlying t=some u:=by
 cases d with
 |zero=>cases h
 |succ d=>
  unfold zN at h
  simp only at h
  split at h
  ·next s' hs=>
   split at h
   ·next i hi=>
    split at h
    ·next hsz=>
     cases h
     refine⟨i,hi,hsz,by simp[Program.cellsOf,hi,hsz],?_⟩
     cases hu:P.underlying t with
     |none=>rw[hu]at hs;cases hs
     |some u=>exact⟨u,rfl⟩
    ·cases h
   ·cases h
  ·cases h
theorem rV{d:Nat}{t:TypeId}{s:List (Option IntKind)}(h:zN P d t=some s)(w:World)(xs:List Value)(off:Nat)(hl:off+s.length<=xs.length)(h1:lu P t=false->s.length=1):
  (part t xs.toArray off).run P w=.ok (mkV P t ((xs.drop off).take s.length)) w:=by
 obtain⟨i,hi,hsz,hc,u,hu⟩:=Kz h
 have hag:(isAgg t).run P w=.ok (lu P t) w:=by
  unfold isAgg lu
  rw[Sem.run_bind,run_underlying hu w,hu]
  cases u<;>simp
 cases ha:lu P t with
 |true=>
  simp only[part,Sem.run_bind,hag,ha,Result.andThen_ok,if_true,run_sizeOf w hi,hc,mkV,Sem.run_pure]
  congr 2
  apply Array.ext_getElem?
  intro m
  simp only[Array.getElem?_extract,List.getElem?_toArray,List.getElem?_take,List.getElem?_drop,List.size_toArray]
  by_cases hm:m<s.length
  ·rw[if_pos (by omega),if_pos hm]
  ·rw[if_neg (by omega),if_neg hm]
 |false=>
  have h2:=h1 ha
  have h3:off<xs.length:=by omega
  simp only[part,Sem.run_bind,hag,ha,Result.andThen_ok,Bool.false_eq_true,if_false,mkV]
  rw[h2,List.drop_eq_getElem_cons h3,List.take_succ_cons]
  simp[h3]
theorem xX{xs:List Value}{a b:List (Option IntKind)}{off:Nat}(h:(xs.drop off).map aR=(a++b).map some):((xs.drop off).take a.length).map aR=a.map some/\(xs.drop (off+a.length)).map aR=b.map some:=by
 rw[List.map_append]at h
 constructor
 ·rw[List.map_take,h,List.take_append_of_le_length (by simp),List.take_of_length_le (by simp)]
 ·rw[<-List.drop_drop,List.map_drop,h,List.drop_append_of_le_length (by simp),List.drop_of_length_le (by simp)];simp
theorem p9{xs:List Value}(h:xs.map aR=a.map some):xs.length=a.length:=by
 have:=congrArg List.length h;simpa using this
def ZY(P:Program)(d:Nat)(t:TypeId)(s:List (Option IntKind)):Prop:=
 (lu P t=false->s.length=1)/\∀(m:Nat) (w:World) (xs ys:List Value),xs.map aR=s.map some->ys.map aR=s.map some->
  ∃b:Bool,(Op.equalIn (d+m) t (mkV P t xs) (mkV P t ys)).run P w=.ok b w/\(b=true↔xs=ys)
theorem Ak{d:Nat}(ih:∀t s,zN P d t=some s->ZY P d t s)(m:Nat)(w:World)(xs ys:List Value):∀(fs:List Field) (off:Nat) (s:List (Option IntKind)),aD4 (zN P d) off fs=some s->
  (xs.drop off).map aR=s.map some->(ys.drop off).map aR=s.map some->off<=xs.length->off<=ys.length->∃b:Bool,(Op.eqFields (d+m) xs.toArray ys.toArray fs).run P w=.ok b w/\(b=true↔xs.drop off=ys.drop off)
 |[],off,s,h,hx,hy,_,_=>by
  cases h
  refine⟨true,by simp[Op.eqFields],?_⟩
  have h1:xs.drop off=[]:=by simpa using hx
  have h2:ys.drop off=[]:=by simpa using hy
  rw[h1,h2];simp
 |f::fs,off,s,h,hx,hy,lx,ly=>by
  unfold aD4 at h
  split at h
  ·next hf=>
   obtain⟨hn,ho⟩:=hf
   cases hs:zN P d f.type with
   |none=>rw[hs]at h;cases h
   |some a=>
    rw[hs]at h
    cases hr:aD4 (zN P d) (off+a.length) fs with
    |none=>simp[hr]at h
    |some b=>
     simp only[hr,Option.map_some,Option.some.injEq]at h
     subst h
     obtain⟨k1,k2⟩:=xX hx
     obtain⟨k3,k4⟩:=xX hy
     have l1:=p9 hx
     have l2:=p9 hy
     simp at l1 l2
     obtain⟨e1,e2⟩:=ih f.type a hs
     obtain⟨r,hrun,hiff⟩:=e2 m w _ _ k1 k3
     obtain⟨r',hrun',hiff'⟩:=Ak ih m w xs ys fs (off+a.length) b hr k2 k4 (by omega) (by omega)
     have p1:=rV hs w xs off (by omega) e1
     have p2:=rV hs w ys off (by omega) e1
     simp only[Op.eqFields,hn,ne_eq,not_false_eq_true,if_true,Sem.run_bind,ho,p1,p2,hrun,Result.andThen_ok]
     have split:∀zs:List Value,zs.drop off=(zs.drop off).take a.length++zs.drop (off+a.length):=fun zs=>by rw[<-List.drop_drop,List.take_append_drop]
     cases r with
     |false=>
      refine⟨false,by simp,?_⟩
      constructor
      ·intro h;cases h
      ·intro h;exact absurd (hiff.2 (by rw[h])) (by simp)
     |true=>
      refine⟨r',by simpa using hrun',?_⟩
      rw[hiff',split xs,split ys,hiff.1 rfl]
      constructor
      ·intro h;rw[h]
      ·intro h;exact List.append_cancel_left h
  ·cases h
theorem Dl{d:Nat}{e:TypeId}{a:List (Option IntKind)}(he:zN P d e=some a)(ih:ZY P d e a)(m:Nat)(w:World)(xs ys:List Value):∀(n k:Nat),
  (xs.drop (k*a.length)).map aR=((List.replicate n a).flatten).map some->(ys.drop (k*a.length)).map aR=((List.replicate n a).flatten).map some->k*a.length<=xs.length->k*a.length<=ys.length->
  ∃b:Bool,(Op.eqItems (d+m) e a.length xs.toArray ys.toArray (List.range' k n)).run P w=.ok b w/\(b=true↔xs.drop (k*a.length)=ys.drop (k*a.length))
 |0,k,hx,hy,_,_=>by
  refine⟨true,by simp[Op.eqItems],?_⟩
  have h1:xs.drop (k*a.length)=[]:=by simpa using hx
  have h2:ys.drop (k*a.length)=[]:=by simpa using hy
  rw[h1,h2];simp
 |n+1,k,hx,hy,lx,ly=>by
  rw[List.replicate_succ,List.flatten_cons]at hx hy
  obtain⟨k1,k2⟩:=xX hx
  obtain⟨k3,k4⟩:=xX hy
  have l1:=p9 hx
  have l2:=p9 hy
  simp at l1 l2
  obtain⟨e1,e2⟩:=ih
  obtain⟨r,hrun,hiff⟩:=e2 m w _ _ k1 k3
  have hk:k*a.length+a.length=(k+1)*a.length:=by rw[Nat.add_mul,Nat.one_mul]
  rw[hk]at k2 k4
  obtain⟨r',hrun',hiff'⟩:=Dl he ⟨e1,e2⟩ m w xs ys n (k+1) k2 k4 (by omega) (by omega)
  have p1:=rV he w xs (k*a.length) (by omega) e1
  have p2:=rV he w ys (k*a.length) (by omega) e1
  rw[List.range'_succ]
  simp only[Op.eqItems,Sem.run_bind,p1,p2,hrun,Result.andThen_ok]
  have split:∀zs:List Value,zs.drop (k*a.length)=(zs.drop (k*a.length)).take a.length++zs.drop ((k+1)*a.length):=fun zs=>by rw[<-hk,<-List.drop_drop,List.take_append_drop]
  cases r with
  |false=>
   refine⟨false,by simp,?_⟩
   constructor
   ·intro h;cases h
   ·intro h;exact absurd (hiff.2 (by rw[h])) (by simp)
  |true=>
   refine⟨r',by simpa using hrun',?_⟩
   rw[hiff',split xs,split ys,hiff.1 rfl]
   constructor
   ·intro h;rw[h]
   ·intro h;exact List.append_cancel_left h
theorem aj9:∀(d:Nat) (t:TypeId) (s:List (Option IntKind)),zN P d t=some s->ZY P d t s
 |0,t,s,h=>by cases h
 |d+1,t,s,h=>by
  have ih:=aj9 d
  have h':=h
  unfold zN at h
  simp only at h
  split at h
  case h_2=>cases h
  next s' hs=>
  split at h
  case h_2=>cases h
  next i hi=>
  split at h
  case isFalse=>cases h
  next hsz=>
  cases h
  split at hs
  ·next hu=>
   cases hs
   have ha:lu P t=false:=by unfold lu;rw[hu]
   refine⟨fun _=>rfl,fun m w xs ys hx hy=>?_⟩
   match xs,ys,hx,hy with
   |[.bool x],[.bool y],_,_=>
    refine⟨x==y,?_,by simp⟩
    rw[show d+1+m=(d+m)+1 by omega]
    simp only[mkV,ha,Bool.false_eq_true,if_false,List.headD_cons]
    exact run_equalIn_bool w (d+m) t x y hu
   |[],_,hx,_=>simp at hx
   |_::_::_,_,hx,_=>simp at hx
   |[_],[],_,hy=>simp at hy
   |[_],_::_::_,_,hy=>simp at hy
   |[.int _ _],[_],hx,_=>simp[aR]at hx
   |[.float _ _],[_],hx,_=>simp[aR]at hx
   |[.complex _ _ _],[_],hx,_=>simp[aR]at hx
   |[.string _],[_],hx,_=>simp[aR]at hx
   |[.pointer _],[_],hx,_=>simp[aR]at hx
   |[.slice _ _ _],[_],hx,_=>simp[aR]at hx
   |[.map _],[_],hx,_=>simp[aR]at hx
   |[.chan _],[_],hx,_=>simp[aR]at hx
   |[.func _ _ _],[_],hx,_=>simp[aR]at hx
   |[.nilFunc],[_],hx,_=>simp[aR]at hx
   |[.iface _ _],[_],hx,_=>simp[aR]at hx
   |[.nilIface],[_],hx,_=>simp[aR]at hx
   |[.agg _],[_],hx,_=>simp[aR]at hx
   |[.tuple _],[_],hx,_=>simp[aR]at hx
   |[.bool _],[.int _ _],_,hy=>simp[aR]at hy
   |[.bool _],[.float _ _],_,hy=>simp[aR]at hy
   |[.bool _],[.complex _ _ _],_,hy=>simp[aR]at hy
   |[.bool _],[.string _],_,hy=>simp[aR]at hy
   |[.bool _],[.pointer _],_,hy=>simp[aR]at hy
   |[.bool _],[.slice _ _ _],_,hy=>simp[aR]at hy
   |[.bool _],[.map _],_,hy=>simp[aR]at hy
   |[.bool _],[.chan _],_,hy=>simp[aR]at hy
   |[.bool _],[.func _ _ _],_,hy=>simp[aR]at hy
   |[.bool _],[.nilFunc],_,hy=>simp[aR]at hy
   |[.bool _],[.iface _ _],_,hy=>simp[aR]at hy
   |[.bool _],[.nilIface],_,hy=>simp[aR]at hy
   |[.bool _],[.agg _],_,hy=>simp[aR]at hy
   |[.bool _],[.tuple _],_,hy=>simp[aR]at hy
  ·next k hu=>
   cases hs
   have ha:lu P t=false:=by unfold lu;rw[hu]
   refine⟨fun _=>rfl,fun m w xs ys hx hy=>?_⟩
   have one:∀zs:List Value,zs.map aR=[some k].map some->∃z,zs=[.int k z]:=by
    intro zs hz
    match zs,hz with
    |[v],hz=>
     cases v<;>simp[aR]at hz
     subst hz;exact⟨_,rfl⟩
    |[],hz=>simp at hz
    |_::_::_,hz=>simp at hz
   obtain⟨x,rfl⟩:=one xs hx
   obtain⟨y,rfl⟩:=one ys hy
   refine⟨x==y,?_,by simp⟩
   rw[show d+1+m=(d+m)+1 by omega]
   simp only[mkV,ha,Bool.false_eq_true,if_false,List.headD_cons]
   exact run_equalIn_int w (d+m) t k k x y hu
  ·next n e hu=>
   have ha:lu P t=true:=by unfold lu;rw[hu]
   cases he:zN P d e with
   |none=>rw[he]at hs;cases hs
   |some a=>
    rw[he]at hs
    cases hs
    refine⟨fun h=>(by rw[ha]at h;cases h),fun m w xs ys hx hy=>?_⟩
    obtain⟨ie,hie,_,hce,_⟩:=Kz he
    obtain⟨b,hb,hbi⟩:=Dl he (ih e a he) m w xs ys n 0 (by simpa using hx) (by simpa using hy) (by simp) (by simp)
    refine⟨b,?_,by simpa using hbi⟩
    rw[show d+1+m=(d+m)+1 by omega]
    simp only[mkV,ha,if_true]
    rw[run_equalIn_array w (d+m) _ _ hu hie,hce,List.range_eq_range']
    exact hb
  ·next fs hu=>
   have ha:lu P t=true:=by unfold lu;rw[hu]
   split at hs
   ·cases hs
   ·next hst=>
    refine⟨fun h=>(by rw[ha]at h;cases h),fun m w xs ys hx hy=>?_⟩
    obtain⟨b,hb,hbi⟩:=Ak ih m w xs ys fs.toList 0 _ hs (by simpa using hx) (by simpa using hy) (by simp) (by simp)
    refine⟨b,?_,by simpa using hbi⟩
    have hfo:P.fieldsOf t=fs:=by unfold Program.fieldsOf;rw[hu]
    rw[show d+1+m=(d+m)+1 by omega]
    simp only[mkV,ha,if_true]
    rw[run_equalIn_struct w (d+m) t _ _ (by rw[hfo];exact hu) (by simpa using hst),hfo]
    exact hb
  ·cases hs
def o9:List Seg->List (Option (Option IntKind))
 |[]=>[]
 | .ints k n _::l=>List.replicate n (some (some k))++o9 l
 | .bytes n _::l=>List.replicate n (some (some .u8))++o9 l
 | .bools n _::l=>List.replicate n (some none)++o9 l
 | .gen n jq::l=>[none]++o9 l
def eqB(P:Program)(t:TypeId)(i:TI):Bool:=
 !P.eqGuardType P.depth t&&lu P t&&(match zN P 20 t with|some s=>decide (o9 i.zero=s.map some)|none=>false)
theorem xW{S:Nat->Prop}{w:World}:∀{l:List Seg} {cs:List Value} {s:List (Option IntKind)},o9 l=s.map some->RL S w l cs->cs.map aR=o9 l
 |_,_,_,_,.nil=>rfl
 | .ints k n zs::l,_,s,h,.ints h1 r=>by
  obtain⟨s1,s2,rfl,h2,h3⟩:=List.map_eq_append_iff.1 h.symm
  rw[List.map_append,o9,xW h3.symm r]
  congr 1
  refine List.ext_getElem (by simp[h1]) fun i _ _=>by simp[aR]
 | .bytes n bs::l,_,s,h,.bytes h1 r=>by
  obtain⟨s1,s2,rfl,h2,h3⟩:=List.map_eq_append_iff.1 h.symm
  rw[List.map_append,o9,xW h3.symm r]
  congr 1
  refine List.ext_getElem (by simp[HL,h1]) fun i _ _=>by simp[HL,aR]
 | .bools n bs::l,_,s,h,.bools h1 r=>by
  obtain⟨s1,s2,rfl,h2,h3⟩:=List.map_eq_append_iff.1 h.symm
  rw[List.map_append,o9,xW h3.symm r]
  congr 1
  refine List.ext_getElem (by simp[h1]) fun i _ _=>by simp[aR]
 | .gen n jq::l,_,s,h,.gen g h1 r=>by
  exfalso
  rw[o9]at h
  cases s with
  |nil=>simp at h
  |cons a s=>simp at h
theorem Aj{t:TypeId}{i:TI}(h:eqB P t i=true):EqT P t i:=by
 unfold eqB at h
 simp only[Bool.and_eq_true,Bool.not_eq_true']at h
 obtain⟨⟨h1,h2⟩,h3⟩:=h
 cases hs:zN P 20 t with
 |none=>rw[hs]at h3;cases h3
 |some s=>
  rw[hs]at h3
  have h4:o9 i.zero=s.map some:=by simpa using h3
  refine⟨h1,fun w xs ys z hz hx hy=>?_⟩
  have hzk:=xW (S:=fun _=>True) (w:=w) h4 (cZ hz)
  obtain⟨b,hb,hbi⟩:=(aj9 20 t s hs).2 9980 w xs ys (by rw[hx,hzk,h4]) (by rw[hy,hzk,h4])
  refine⟨b,?_,hbi⟩
  simpa[mkV,h2]using hb
end
end
noncomputable section
def mF(k:IntKind)(bytes:Nat):TI:=⟨1,false,[.ints k 1 [0]],[],[],0,0,false,0,some k,bytes,false,[]⟩
def H9:TI:=⟨1,false,[.bytes 1 [0]],[],[],0,0,false,0,some .u8,1,false,[]⟩
def kD:TI:=⟨1,false,[.bools 1 [false]],[],[],0,0,false,0,none,1,false,[]⟩
def bG5:TI:=⟨1,false,[.gen 1 [.v (.string .empty)]],[],[],0,0,false,0,none,16,false,[]⟩
def yU:TI:=⟨1,false,[.gen 1 [.v (.pointer none)]],[],[],0,0,false,0,none,8,false,[]⟩
def pG(elem:TypeId)(bY:Nat):TI:=⟨1,false,[.gen 1 [.v (.slice none 0 0)]],[],[],bY,0,true,elem,none,24,false,[]⟩
def iX(n:Nat)(elem:TypeId)(bY:Nat)(zero:List Seg)(bytes:Nat):TI:=⟨n*bY,true,zero,[],[],bY,n,false,elem,none,bytes,true,[]⟩
def bU(sz:Nat)(zero:List Seg)(QN:List Nat)(fty:List TypeId)(bytes:Nat)(eq:Bool)(Ko:List (Nat×Nat)):TI:=⟨sz,true,zero,QN,fty,0,0,false,0,none,bytes,eq,Ko⟩
def dz(n:Nat)(l:List T):List T:=Nat.rec l (fun _ r=>T.au::r) n
theorem dz_0(l:List T):dz 0 l=l:=rfl
theorem RU(n:Nat)(l:List T):dz (n+1) l=T.au::dz n l:=rfl
structure ug(P:Program)(f:FuncId):Prop where
 out:∃fn,P.funcs[f]?=some fn/\fn.body.isNone=false/\(fn.name== "runtime.NumGoroutine")=false
theorem ug.of{fn:Func}(h:P.funcs[f]?=some fn)(a:fn.body.isNone=false:=by kernel_rfl)(b:(fn.name== "runtime.NumGoroutine")=false:=by kernel_rfl):ug P f:=⟨fn,h,a,b⟩
def ak.add (E : ak) (f0 : FuncId) (spec : List A -> (bC -> Prop) -> Prop) (h : ∀ args K, spec args K -> ∃ r, mG E.P E.G f0 args r /\ K r) (hf : ug E.P f0) : ak :=
  { P := E.P, Y := E.Y, G := E.G, C := fun f args K => if f = f0 then spec args K else E.C f args K, M := E.M, B := E.B, hY := E.hY, Ya := E.Ya, hB := E.hB,
    hC := fun f args K hc => by
      by_cases e : f = f0
      · subst e; rw [if_pos rfl] at hc; exact h args K hc
      · rw [if_neg e] at hc; exact E.hC f args K hc
    hF := fun f args K hc => by
      by_cases e : f = f0
      · subst e; exact hf.out
      · rw [if_neg e] at hc; exact E.hF f args K hc
    fr := fun f => if f = f0 then false else E.fr f
    hfr := fun f args K h hc => by
      by_cases e : f = f0
      · subst e; rw [if_pos rfl] at h; cases h
      · rw [if_neg e] at h hc; exact E.hfr f args K h hc
    hE := E.hE, hM := E.hM }
def ak.bM1 (E : ak) (f0 : FuncId) (spec : List A -> (bC -> Prop) -> Prop) (h : ∀ args K, spec args K -> ∃ r, mG E.P E.G f0 args r /\ FnF E.P E.G f0 args r /\ K r) (hf : ug E.P f0) : ak :=
  { P := E.P, Y := E.Y, G := E.G, C := fun f args K => if f = f0 then spec args K else E.C f args K, M := E.M, B := E.B, hY := E.hY, Ya := E.Ya, hB := E.hB,
    hC := fun f args K hc => by
      by_cases e : f = f0
      · subst e; rw [if_pos rfl] at hc; obtain ⟨r, h1, _, h2⟩ := h args K hc; exact ⟨r, h1, h2⟩
      · rw [if_neg e] at hc; exact E.hC f args K hc
    hF := fun f args K hc => by
      by_cases e : f = f0
      · subst e; exact hf.out
      · rw [if_neg e] at hc; exact E.hF f args K hc
    fr := fun f => if f = f0 then true else E.fr f
    hfr := fun f args K h1 hc => by
      by_cases e : f = f0
      · subst e; rw [if_pos rfl] at hc; exact h args K hc
      · rw [if_neg e] at h1 hc; exact E.hfr f args K h1 hc
    hE := E.hE, hM := E.hM }
def ak.gI (E : ak) (f0 : FuncId) (spec : Nat -> Bk -> List A -> (bC -> Bk -> Prop) -> Prop) (h : ∀ pos x args K, spec pos x args K -> ∃ r x', QK E.P E.G f0 pos x args r x' /\ K r x') (hf : ug E.P f0) : ak :=
  { P := E.P, Y := E.Y, G := E.G, C := E.C, M := fun f pos x args K => if f = f0 then spec pos x args K else E.M f pos x args K, B := E.B, hB := E.hB, hY := E.hY,
    Ya := fun f pos x args K hc => by
      by_cases e : f = f0
      · subst e; rw [if_pos rfl] at hc; exact ⟨h pos x args K hc, hf.out⟩
      · rw [if_neg e] at hc; exact E.Ya f pos x args K hc
    fr := E.fr, hfr := E.hfr, hC := E.hC, hF := E.hF, hE := E.hE, hM := E.hM }
def ak.zU (E : ak) (f0 : FuncId) (spec : Nat -> OP -> List A -> (bC -> OP -> Prop) -> Prop) (h : ∀ pos p args K, spec pos p args K -> ∃ r p', vC E.P E.G f0 pos p args r p' /\ K r p') (hf : ug E.P f0) : ak :=
  { P := E.P, Y := E.Y, G := E.G, C := E.C, M := E.M, B := fun f pos p args K => if f = f0 then spec pos p args K else E.B f pos p args K, hY := E.hY,
    hB := fun f pos p args K hc => by
      by_cases e : f = f0
      · subst e; rw [if_pos rfl] at hc; exact ⟨h pos p args K hc, hf.out⟩
      · rw [if_neg e] at hc; exact E.hB f pos p args K hc
    fr := E.fr, hfr := E.hfr, Ya := E.Ya, hC := E.hC, hF := E.hF, hE := E.hE, hM := E.hM }
theorem bB7{a b:Nat}(h:a<=b):Nat.le a b:=h
theorem wn1:IntKind.i64.wrap 1=1:=by decide
theorem wn2:IntKind.i64.wrap 2=2:=by decide
theorem wn3:IntKind.i64.wrap 3=3:=by decide
theorem wn4:IntKind.i64.wrap 4=4:=by decide
theorem wn5:IntKind.i64.wrap 5=5:=by decide
theorem wn6:IntKind.i64.wrap 6=6:=by decide
theorem wn7:IntKind.i64.wrap 7=7:=by decide
theorem wn8:IntKind.i64.wrap 8=8:=by decide
theorem wn9:IntKind.i64.wrap 9=9:=by decide
theorem UG:IntKind.i64.wrap 10=10:=by decide
theorem UH:IntKind.i64.wrap 11=11:=by decide
theorem UJ:IntKind.i64.wrap 12=12:=by decide
theorem UK:IntKind.i64.wrap 13=13:=by decide
theorem UL:IntKind.i64.wrap 14=14:=by decide
theorem UM:IntKind.i64.wrap 15=15:=by decide
theorem UN:IntKind.i64.wrap 16=16:=by decide
theorem Fj{b:Bool}{x y:Prop}(h:b=true)(hx:x):aN b x y:=by rw[h];exact hx
theorem zk{b:Bool}{x y:Prop}(h:b=false)(hy:y):aN b x y:=by rw[h];exact hy
theorem GK(h:k s):bq E ops [] s k:=h
theorem CX{o:Oper}(h:aT9 E o s (fun s'=>Stop (bq E ops r s' k)) (KG E ops o s s.h.length fun t blk=>Stop (bq E ops r (s.qW o.dst t blk) k))):bq E ops (o::r) s k:=h
theorem xC{l:List Oper}(n:Nat)(hn:gZ l=n)(h1:aE9 l=true)
  (h2:U3 (Ea E l s.h.length n l 0 ⟨s.t,s.h++List.replicate (n+1) none⟩ [] fun acc s'=>aM2 (Vk l) s.h.length (s.h.length+n) acc=true/\k ⟨s'.t,rZ s'.h⟩)):GU E l s k:=by
 subst hn
 exact⟨h1,h2.out⟩
def Nrm{α:Type}(f:α->Prop)(x:α):Prop:=f x
theorem toA(h:Nrm (fun s=>bq E ops r s k) s):Stop (bq E ops r s k):=⟨h⟩
theorem ofA(h:bq E ops r s k):Nrm (fun s=>bq E ops r s k) s:=h
theorem toE{l:List Oper}(h:Nrm (fun s=>GU E l s k) s):bd9 (GU E l s k):=⟨h⟩
theorem ofE{l:List Oper}(h:GU E l s k):Nrm (fun s=>GU E l s k) s:=h
theorem toD{n0 tot c:Nat}{k:List uh->St->Prop}(h:Nrm (fun p:Nat×Nat×Nat×St×List uh=>Ea E ops p.1 p.2.1 r p.2.2.1 p.2.2.2.1 p.2.2.2.2 k) (n0,tot,c,s,acc)):U3 (Ea E ops n0 tot r c s acc k):=⟨h⟩
theorem ofD{n0 tot c:Nat}{k:List uh->St->Prop}(h:Ea E ops n0 tot r c s acc k):Nrm (fun p:Nat×Nat×Nat×St×List uh=>Ea E ops p.1 p.2.1 r p.2.2.1 p.2.2.2.1 p.2.2.2.2 k) (n0,tot,c,s,acc):=h
theorem CY{n0 tot:Nat}{o:Oper}{c:Nat}{k:List uh->St->Prop}
  (h:KG E ops o s (if jS o=true then n0+c else n0+tot) fun t blk=>
   U3 (Ea E ops n0 tot r (if jS o=true then c+1 else c) (s.app o.dst t blk) (acc++[(wW s o,blk.map (·.1),if jS o=true then n0+c else n0+tot)]) k)):Ea E ops n0 tot (o::r) c s acc k:=h
theorem GR{n0 tot:Nat}{c:Nat}{k:List uh->St->Prop}(h:k acc s):Ea E ops n0 tot [] c s acc k:=h
theorem aH{k:Exit->St->Prop}(n:Nat)(h:U1 body k n s):aQ body s k\/Dh body s k:=.inl (.inl ⟨n,h⟩)
theorem lG{k:Exit->St->Prop}(live:List Nat)(m:Nat)(I:St->Prop)(μ:St->Nat)(h1:sG live m s)(h2:I (weaken live m s))
  (h3:∀s,I s->body s fun e s'=>match e with| .normal=>sG live m s'/\I (weaken live m s')/\μ (weaken live m s')<μ s|e=>k e s')(h0:0<m:=by decide):aQ body s k\/Dh body s k:=.inl (.inr ⟨s,live,m,I,μ,.refl s,h0,h1,h2,h3⟩)
theorem OT{k:Exit->St->Prop}(live:List Nat)(m:Nat)(i:Nat)(e:TypeId)(sz:Nat)(l:List Seg)(I:St->Prop)(μ:St->Nat)(h1:sG live m s)(hn:(weaken live m s).sl i=.d (.v (.slice none 0 0)))(hl:l.all pF=true)
  (h1':sG live (m+1) (CG (weaken live m s) i e sz l))(h2:I (weaken live (m+1) (CG (weaken live m s) i e sz l)))
  (h3:∀s,I s->body s fun e s'=>match e with| .normal=>sG live (m+1) s'/\I (weaken live (m+1) s')/\μ (weaken live (m+1) s')<μ s|e=>k e s')(h0:0<m:=by decide):aQ body s k\/Dh body s k:=
 .inl (.inr ⟨CG (weaken live m s) i e sz l,live,m+1,I,μ,(Dg.weaken h0 h1).trans (.nil hn hl),by omega,h1',h2,h3⟩)
structure Left(q:Prop):Prop where
 out:q
structure Isq(q:Prop):Prop where
 out:True
theorem bB5:Isq True:=⟨trivial⟩
theorem bB4{q:Prop}:Isq q:=⟨trivial⟩
theorem ago{p q:Prop}(left:q)(h:(Left q->p)/\Isq q:=by
  refine And.intro ?_ ?_
  ·intro AP
   (conv=>whnf);repeat ((first|(refine And.intro ?_ ?_;focus (first|exact rfl|exact Nat.le_of_ble_eq_true rfl|exact Or.inr rfl|exact Or.inl rfl|(intro hx;cases hx<;>fail)|(intro _;rfl)|exact⟨_,rfl,rfl⟩|omega|(simp only[Seg.n,dM,mF,kD,pG,iX,bU];omega)|(refine bB7 ?_;(try simp only[Seg.n,dM,mF,kD,pG,iX,bU]);omega)|assumption|decide|(simp[Seg.n,dM,mF,kD,pG,iX,bU, *]<;>omega)))|(refine⟨_,And.intro rfl ?_⟩)|(refine vE.mk ?_;first|(refine Fj ?_ ?_;focus (first|rfl|assumption|(simp only[bne,beq_iff_eq,beq_eq_false_iff_ne,ne_eq,Bool.not_eq_true',Bool.not_eq_false',decide_eq_true_eq,decide_eq_false_iff_not,ge_iff_le,gt_iff_lt, *]<;>omega)|(simp[bM, *]<;>omega)))|(refine zk ?_ ?_;focus (first|rfl|assumption|(simp only[bne,beq_iff_eq,beq_eq_false_iff_ne,ne_eq,Bool.not_eq_true',Bool.not_eq_false',decide_eq_true_eq,decide_eq_false_iff_not,ge_iff_le,gt_iff_lt, *]<;>omega)|(simp[bM, *]<;>omega))))|((first|refine toA ?_|refine toE ?_|refine toD ?_);(try(conv=>arg 2;simp only[dz_0,RU,Seg.n,wn1,wn2,wn3,wn4,wn5,wn6,wn7,wn8,wn9,UG,UH,UJ,UK,UL,UM,UN,Int.reduceAdd,Int.zero_add,Seg.cell,Seg.sub,List.set_nil,jS,rZ,List.take_append_drop,St.app,St.qW,St.ev,List.getD_cons_zero,List.getD_cons_succ,List.getD_nil,St.sl,St.bk,mF,kD,pG,iX,bU,weaken,qF,List.set_cons_zero,List.set_cons_succ,List.length_cons,List.length_nil,List.cons_append,List.nil_append,List.append_nil,List.map_cons,List.map_nil,List.replicate_succ,List.replicate_zero,List.take_succ_cons,List.take_zero,List.drop_succ_cons,List.drop_zero,List.take_nil,List.drop_nil,Nat.reduceAdd,Nat.reduceSub,Nat.reduceMul,Nat.reduceEqDiff,Nat.reduceLT,Nat.reduceLeDiff,Nat.zero_add,Nat.add_zero,Nat.sub_self,Nat.sub_zero,Nat.one_mul,Nat.mul_one,Nat.zero_mul,kT,qH,List.flatten_cons,List.flatten_nil,eq_self,ite_true,if_true,if_false,↓reduceIte,reduceCtorEq,Int.reduceToNat,gZ,wW]));first|(refine ofA ?_;(conv=>arg 3;whnf);first|refine CX ?_|refine GK ?_)|(refine ofD ?_;(conv=>arg 5;whnf);first|refine CY ?_|refine GR ?_)|(refine ofE ?_;(conv=>arg 2;whnf);(refine xC _ rfl ?_ ?_);focus (kernel_rfl))));(conv=>whnf))
   all_goals exact AP.out
  ·first|with_reducible exact bB5|exact bB4):p:=h.1 ⟨left⟩
theorem dG{p q:Prop}(left:q)(h:(Left q->p)/\Isq q:=by
  refine And.intro ?_ ?_
  ·intro AP
   (conv=>whnf);repeat ((first|(refine And.intro ?_ ?_;focus (first|exact rfl|exact Nat.le_of_ble_eq_true rfl|exact Or.inr rfl|exact Or.inl rfl|(intro hx;cases hx<;>fail)|(intro _;rfl)|exact⟨_,rfl,rfl⟩|omega|(simp only[Seg.n,dM,mF,kD,pG,iX,bU];omega)|(refine bB7 ?_;(try simp only[Seg.n,dM,mF,kD,pG,iX,bU]);omega)|assumption|decide|(simp[Seg.n,dM,mF,kD,pG,iX,bU, *]<;>omega)))|(refine⟨_,And.intro rfl ?_⟩)|(refine vE.mk ?_;first|(refine Fj ?_ ?_;focus (first|rfl|assumption|(simp only[bne,beq_iff_eq,beq_eq_false_iff_ne,ne_eq,Bool.not_eq_true',Bool.not_eq_false',decide_eq_true_eq,decide_eq_false_iff_not,ge_iff_le,gt_iff_lt, *]<;>omega)|(simp[bM, *]<;>omega)))|(refine zk ?_ ?_;focus (first|rfl|assumption|(simp only[bne,beq_iff_eq,beq_eq_false_iff_ne,ne_eq,Bool.not_eq_true',Bool.not_eq_false',decide_eq_true_eq,decide_eq_false_iff_not,ge_iff_le,gt_iff_lt, *]<;>omega)|(simp[bM, *]<;>omega))))|((first|refine toA ?_|refine toE ?_|refine toD ?_);(try(conv=>arg 2;simp only[Int.toNat_natCast,dz_0,RU,Seg.n,wn1,wn2,wn3,wn4,wn5,wn6,wn7,wn8,wn9,UG,UH,UJ,UK,UL,UM,UN,Int.reduceAdd,Int.zero_add,Seg.cell,Seg.sub,List.set_nil,jS,rZ,List.take_append_drop,St.app,St.qW,St.ev,List.getD_cons_zero,List.getD_cons_succ,List.getD_nil,St.sl,St.bk,mF,kD,pG,iX,bU,weaken,qF,List.set_cons_zero,List.set_cons_succ,List.length_cons,List.length_nil,List.cons_append,List.nil_append,List.append_nil,List.map_cons,List.map_nil,List.replicate_succ,List.replicate_zero,List.take_succ_cons,List.take_zero,List.drop_succ_cons,List.drop_zero,List.take_nil,List.drop_nil,Nat.reduceAdd,Nat.reduceSub,Nat.reduceMul,Nat.reduceEqDiff,Nat.reduceLT,Nat.reduceLeDiff,Nat.zero_add,Nat.add_zero,Nat.sub_self,Nat.sub_zero,Nat.one_mul,Nat.mul_one,Nat.zero_mul,kT,qH,List.flatten_cons,List.flatten_nil,eq_self,ite_true,if_true,if_false,↓reduceIte,reduceCtorEq,Int.reduceToNat,gZ,wW]));first|(refine ofA ?_;(conv=>arg 3;whnf);first|refine CX ?_|refine GK ?_)|(refine ofD ?_;(conv=>arg 5;whnf);first|refine CY ?_|refine GR ?_)|(refine ofE ?_;(conv=>arg 2;whnf);(refine xC _ rfl ?_ ?_);focus (kernel_rfl))));(conv=>whnf))
   all_goals exact AP.out
  ·first|with_reducible exact bB5|exact bB4):p:=h.1 ⟨left⟩
theorem nm{α:Type}{l t:α}(h:l=t:=by(conv=>lhs;simp only[List.insertIdx_succ_cons,List.insertIdx_zero,dz_0,RU,Seg.n,wn1,wn2,wn3,wn4,wn5,wn6,wn7,wn8,wn9,UG,UH,UJ,UK,UL,UM,UN,Int.reduceAdd,Int.zero_add,Seg.cell,Seg.sub,List.set_nil,jS,rZ,List.take_append_drop,St.app,St.qW,St.ev,List.getD_cons_zero,List.getD_cons_succ,List.getD_nil,St.sl,St.bk,mF,kD,pG,iX,bU,weaken,qF,List.set_cons_zero,List.set_cons_succ,List.length_cons,List.length_nil,List.cons_append,List.nil_append,List.append_nil,List.map_cons,List.map_nil,List.replicate_succ,List.replicate_zero,List.take_succ_cons,List.take_zero,List.drop_succ_cons,List.drop_zero,List.take_nil,List.drop_nil,Nat.reduceAdd,Nat.reduceSub,Nat.reduceMul,Nat.reduceEqDiff,Nat.reduceLT,Nat.reduceLeDiff,Nat.zero_add,Nat.add_zero,Nat.sub_self,Nat.sub_zero,Nat.one_mul,Nat.mul_one,Nat.zero_mul,kT,qH,List.flatten_cons,List.flatten_nil,eq_self,ite_true,if_true,if_false,↓reduceIte,reduceCtorEq,Int.reduceToNat]);all_goals exact rfl):l=t:=h
theorem eO{fn:Func}{c:Code}{res:bC}{n:Nat}{t:List T}(hf:E.P.funcs[f]?=some fn)(hnt:fn.ntmps=n)
  (left:IG E c ⟨t,[]⟩ fun e s=>(e=.normal\/e=.ret)/\yS E s fn.results.toList fun r=>r=res)(hb:fn.body=some c:=by exact rfl)(hn:args.length<=n:=by exact Nat.le_of_ble_eq_true rfl)
  (ht:args.map T.d++List.replicate (n-args.length) (.d (.v undef))=t:=by exact nm):mG E.P E.G f args res:=by
 subst hnt;subst ht;exact XZ hf hb hn left
theorem iH{fn:Func}{c:Code}{pos:Nat}{x x':Bk}{res:bC}{n:Nat}{t:List T}(hf:E.P.funcs[f]?=some fn)(hnt:fn.ntmps=n)
  (left:IG E c ⟨t,[some x]⟩ fun e s=>(e=.normal\/e=.ret)/\s.bk 0=some x'/\yS E s fn.results.toList fun r=>r=res)(hb:fn.body=some c:=by exact rfl)(hn:args.length+1<=n:=by exact Nat.le_of_ble_eq_true rfl)(hp:pos<=args.length:=by exact Nat.zero_le _)
  (hx:∀e sz n l,x≠ .sl e sz n l:=by intro _ _ _ _ h;cases h)(hres:∀y,res≠ .p y:=by intro y h;cases h)
  (ht:(args.map T.d).insertIdx pos (.ptr 0 0)++List.replicate (n- (args.length+1)) (.d (.v undef))=t:=by exact nm):QK E.P E.G f pos x args res x':=by
 subst hnt;subst ht;exact FD hf hb hn hp hx left hres
end
section
def aE8:List UInt8:=[0,1,56,2,57,49,28,3,61,58,42,50,38,29,17,4,62,47,59,36,45,43,51,22,53,39,33,30,24,18,12,5,63,55,48,27,60,41,37,16,46,35,44,21,52,32,23,11,54,26,40,15,34,20,31,10,25,14,19,9,13,8,7,6]
def gTab:Nat->Option (List Seg)
 |1=>some [.bytes 64 aE8]
 |_=>none
end
section
def U0:TypeId->Option TI
 |3=>some (mF .i64 8)
 |4=>some kD
 |25=>some (bU 2 [.ints .i64 2 [0,0]] [0,1] [3,3] 16 true [(0,1),(1,1)])
 |42=>some (iX 8 25 2 [.ints .i64 16 [0,0,0,0,0,0,0,0,0,0,0,0,0,0,0,0]] 128)
 |43=>some (iX 15 3 1 [.ints .i64 15 [0,0,0,0,0,0,0,0,0,0,0,0,0,0,0]] 120)
 |45=>some (bU 31 [.ints .i64 31 [0,0,0,0,0,0,0,0,0,0,0,0,0,0,0,0,0,0,0,0,0,0,0,0,0,0,0,0,0,0,0]] [0,16] [42,43] 248 true [(0,16),(16,15)])
 |114=>some (iX 3 3 1 [.ints .i64 3 [0,0,0]] 24)
 |239=>some (pG 3 1)
 |95=>some (mF .u64 8)
 |127=>some (mF .u64 8)
 |5=>some H9
 |283=>some (iX 64 5 1 [.bytes 64 (List.replicate 64 0)] 64)
 |204=>some (iX 2 3 1 [.ints .i64 2 [0,0]] 16)
 |202=>some (pG 204 2)
 |46=>some (iX 8 4 1 [.bools 8 (List.replicate 8 false)] 8)
 |28=>some (iX 32 5 1 [.bytes 32 (List.replicate 32 0)] 32)
 |84=>some (iX 3 28 32 [.bytes 96 (List.replicate 96 0)] 96)
 |75=>some (bU 2 [.ints .i64 2 [0,0]] [0,1] [3,3] 16 true [(0,1),(1,1)])
 |9=>some bG5
 |35=>some (pG 5 1)
 |50=>some (pG 35 1)
 |196=>some (iX 8 5 1 [.bytes 8 (List.replicate 8 0)] 8)
 |198=>some (iX 5 3 1 [.ints .i64 5 [0,0,0,0,0]] 40)
 |33=>some (mF .i64 8)
 |31=>some (bU 5 [.ints .i64 5 [0,0,0,0,0]] [0,1,2,3] [3,3,3,25] 40 true [(0,1),(1,1),(2,1),(3,2)])
 |32=>some (pG 31 5)
 |48=>some (bU 73 [.ints .i64 1 [0],.ints .i64 31 (List.replicate 31 0),.bools 8 (List.replicate 8 false),.ints .i64 1 [0],.bytes 32 (List.replicate 32 0)] [0,1,32,40,41] [3,45,46,3,28] 304 true [(0,1),(1,31),(32,8),(40,1),(41,32)])
 |193=>some (bU 90 [.ints .i64 1 [0],.ints .i64 31 (List.replicate 31 0),.bools 8 (List.replicate 8 false),.ints .i64 1 [0],.bytes 32 (List.replicate 32 0),.ints .i64 1 [0],.bools 8 (List.replicate 8 false),.bools 8 (List.replicate 8 false)] [0,73,74,82] [48,3,46,46] 328 true [(0,73),(73,1),(74,8),(82,8)])
 |229=>some yU
 |106=>some yU
 |154=>some (bU 33 [.ints .i64 1 [0],.bytes 32 (List.replicate 32 0)] [0,1] [3,28] 40 true [(0,1),(1,32)])
 |90=>some (pG 154 33)
 |92=>some (bU 5 [.ints .i32 1 [0],.ints .u32 1 [0],.gen 1 [.v (.slice none 0 0)],.ints .i64 2 [0,0]] [0,2,3,4] [65,90,3,59] 48 false [(0,2),(2,1),(3,1),(4,1)])
 |67=>some yU
 |_=>none
theorem yOK:∀t i,U0 t=some i->D7 Tryz.prog t i:=by
 intro t i h
 unfold U0 at h
 split at h<;>first|(cases h;exact Bu (by kernel_rfl))|cases h
theorem yEq:∀t i,U0 t=some i->i.eq=true->EqT Tryz.prog t i:=by
 intro t i h
 unfold U0 at h
 split at h<;>first|(cases h;intro he;cases he;done)|(cases h;intro _;exact Aj (by kernel_rfl))|cases h
abbrev aV(f:FuncId)(args:List A)(res:bC):Prop:=mG Tryz.prog gTab f args res
abbrev bV(f:FuncId)(pos:Nat)(x:Bk)(args:List A)(res:bC)(x':Bk):Prop:=QK Tryz.prog gTab f pos x args res x'
noncomputable def sV:ak:={ P:=Tryz.prog,Y:=U0,G:=gTab,C:=fun _ _ _=>False,M:=fun _ _ _ _ _=>False,hY:=yOK,hC:=fun _ _ _ h=>h.elim,Ya:=fun _ _ _ _ _ h=>h.elim,hF:=fun _ _ _ h=>h.elim,hE:=yEq,hM:=by kernel_rfl }
end
section
open Go.ChangeShapes Go.WideShapes
section
variable {H : Type} {enc : TypeId × Value -> H} {P : Program} {w : World} {base b0 : Nat} {held : Bool}
end
end
section
open Go.ChangeShapes Go.WideShapes
section
variable {H : Type} {enc : TypeId × Value -> H} {P : Program} {w : World} {base b0 : Nat} {spare : Nat -> Bool} {held : Bool}
end
theorem bk6{e:TypeId}{sz:Nat}{l:List Seg}(h:mG P G f args (.d (.v (.slice none 0 0))))(hl:l.all pF=true):mG P G f args (.o e sz 0 l):=by
 intro S w vs hG ha
 refine(h S w vs hG ha).mono ?_
 rintro e' w' ⟨v,rfl,h1,h2⟩
 refine⟨v,rfl,⟨[],?_,Hf hl⟩,h2⟩
 rw[RA.plain h1]
 exact World.ownsRow_nil _ _ _ _
theorem Ci{vs:List Value}{w:World}(h:mG P G f args (.d (.v (.bool true))))(hG:pI G (fun _=>True) w)(ha:mH (fun _=>True) w args vs):
  Calls P f vs.toArray w fun e w'=>e=.returned (.bool true)/\Below w.heap.size w w':=by
 refine(h _ w vs hG ha).mono ?_
 rintro e w' ⟨v,rfl,h1,h2⟩
 rw[RA.plain h1]
 exact⟨rfl,h2⟩
theorem aX4{S:Nat->Prop}{w:World}{k:IntKind}{n:Nat}{zs:List Int}(h:zs.length=n):RA S w (.agg [.ints k n zs]) (.agg (zs.map (Value.int k)).toArray):=.agg (.fI h rfl)
theorem Ca{x v:Value}(h:∀w,Calls P f #[x] w fun e w'=>e=.returned v/\w=w'):mG P G f [.v x] (.d (.v v)):=by
 intro S w vs _ ha
 cases ha with
 |cons h1 r=>
  cases r
  rw[RA.plain h1]
  refine(h w).mono ?_
  rintro e w' ⟨rfl,rfl⟩
  exact⟨v,rfl,.v v,Below.refl _ _⟩
theorem X0{x y v:Value}(h:∀w,Calls P f #[x,y] w fun e w'=>e=.returned v/\w=w'):mG P G f [.v x,.v y] (.d (.v v)):=by
 intro S w vs _ ha
 cases ha with
 |cons h1 r=>
  cases r with
  |cons h2 r=>
   cases r
   rw[RA.plain h1,RA.plain h2]
   refine(h w).mono ?_
   rintro e w' ⟨rfl,rfl⟩
   exact⟨v,rfl,.v v,Below.refl _ _⟩
theorem gH{z:Int}(h0: -9223372036854775808<=z)(h1:z<=9223372036854775807):IntKind.i64.wrap z=z:=by
 have e1:(2:Int)^64=18446744073709551616:=by decide
 have e2:(2:Int)^(64-1)=9223372036854775808:=by decide
 simp only[IntKind.wrap,IntKind.signed,IntKind.bits,Bool.true_and,decide_eq_true_eq,e1,e2]
 split<;>omega
end
end Go.Proofs.YtegalalmamofdaaGreatDoor
