/-
  '==' on structs and arrays of numbers and truths: cell by cell. No program is named here.
-/
import Derived.Test.YtbdmnobocecnfaaGreatDoorJ9
import Derived.Test.YtbdmnobocecnfaaGreatDoorChecked
import Derived.ChangeSame
namespace Go.Proofs.YtbdmnobocecnfaaGreatDoor
set_option linter.unusedVariables false
set_option linter.unusedSimpArgs false
set_option maxRecDepth 100000
open Go.RowKit
section
def sigF(r:TypeId→Option (List (Option IntKind))):Nat→List Field→Option (List (Option IntKind))
 |off,[]=>some []
 |off,f::fs=>if f.name≠ "_"∧f.offset=off then(match r f.type with|some s=>(sigF r (off+s.length) fs).map (s++·)|none=>none)else none
def sigT(P:Program):Nat→TypeId→Option (List (Option IntKind))
 |0,_=>none
 |d+1,t=>
  let s:=match P.underlying t with
   |some .bool=>some [none]
   |some (.int k)=>some [some k]
   |some (.array n e)=>(sigT P d e).map fun s=>(List.replicate n s).flatten
   |some (.struct fs)=>if P.stoodInHeld t=true then none else sigF (sigT P d) 0 fs.toList
   |_=>none
  match s with
  |some s=>(match P.info? t with|some i=>if i.size=s.length then some s else none|none=>none)
  |none=>none
def mkV(P:Program)(t:TypeId)(xs:List Value):Value:=if aggOf P t=true then .agg xs.toArray else xs.headD undef
section
variable {P : Program}
theorem sigT_info{d:Nat}{t:TypeId}{s:List (Option IntKind)}(h:sigT P d t=some s):∃i,P.info? t=some i∧i.size=s.length∧P.cellsOf t=s.length∧∃u,P.underlying t=some u:=by
 cases d with
 |zero=>cases h
 |succ d=>
  unfold sigT at h
  simp only at h
  split at h
  ·next s' hs=>
   split at h
   ·next i hi=>
    split at h
    ·next hsz=>
     cases h
     refine⟨i,hi,hsz,by simp[Program.cellsOf,hi,hsz],?_⟩
     cases hu:P.underlying t with
     |none=>rw[hu]at hs;cases hs
     |some u=>exact⟨u,rfl⟩
    ·cases h
   ·cases h
  ·cases h
theorem run_part_mk{d:Nat}{t:TypeId}{s:List (Option IntKind)}(h:sigT P d t=some s)(w:World)(xs:List Value)(off:Nat)(hl:off+s.length≤xs.length)(h1:aggOf P t=false→s.length=1):
  (part t xs.toArray off).run P w=.ok (mkV P t ((xs.drop off).take s.length)) w:=by
 obtain⟨i,hi,hsz,hc,u,hu⟩:=sigT_info h
 have hag:(isAgg t).run P w=.ok (aggOf P t) w:=by
  unfold isAgg aggOf
  rw[Sem.run_bind,run_underlying hu w,hu]
  cases u<;>simp
 cases ha:aggOf P t with
 |true=>
  simp only[part,Sem.run_bind,hag,ha,Result.andThen_ok,if_true,run_sizeOf w hi,hc,mkV,Sem.run_pure]
  congr 2
  apply Array.ext_getElem?
  intro m
  simp only[Array.getElem?_extract,List.getElem?_toArray,List.getElem?_take,List.getElem?_drop,List.size_toArray]
  by_cases hm:m<s.length
  ·rw[if_pos (by omega),if_pos hm]
  ·rw[if_neg (by omega),if_neg hm]
 |false=>
  have h2:=h1 ha
  have h3:off<xs.length:=by omega
  simp only[part,Sem.run_bind,hag,ha,Result.andThen_ok,Bool.false_eq_true,if_false,mkV]
  rw[h2,List.drop_eq_getElem_cons h3,List.take_succ_cons]
  simp[h3]
theorem kinds_sub{xs:List Value}{a b:List (Option IntKind)}{off:Nat}(h:(xs.drop off).map cellKind=(a++b).map some):((xs.drop off).take a.length).map cellKind=a.map some∧(xs.drop (off+a.length)).map cellKind=b.map some:=by
 rw[List.map_append]at h
 constructor
 ·rw[List.map_take,h,List.take_append_of_le_length (by simp),List.take_of_length_le (by simp)]
 ·rw[←List.drop_drop,List.map_drop,h,List.drop_append_of_le_length (by simp),List.drop_of_length_le (by simp)];simp
theorem len_of_kinds{xs:List Value}{a:List (Option IntKind)}(h:xs.map cellKind=a.map some):xs.length=a.length:=by
 have:=congrArg List.length h;simpa using this
def EqAtT(P:Program)(d:Nat)(t:TypeId)(s:List (Option IntKind)):Prop:=
 (aggOf P t=false→s.length=1)∧∀(m:Nat) (w:World) (xs ys:List Value),xs.map cellKind=s.map some→ys.map cellKind=s.map some→
  ∃b:Bool,(Op.equalIn (d+m) t (mkV P t xs) (mkV P t ys)).run P w=.ok b w∧(b=true↔xs=ys)
theorem eqFields_sig{d:Nat}(ih:∀t s,sigT P d t=some s→EqAtT P d t s)(m:Nat)(w:World)(xs ys:List Value):∀(fs:List Field) (off:Nat) (s:List (Option IntKind)),sigF (sigT P d) off fs=some s→
  (xs.drop off).map cellKind=s.map some→(ys.drop off).map cellKind=s.map some→off≤xs.length→off≤ys.length→∃b:Bool,(Op.eqFields (d+m) xs.toArray ys.toArray fs).run P w=.ok b w∧(b=true↔xs.drop off=ys.drop off)
 |[],off,s,h,hx,hy,_,_=>by
  cases h
  refine⟨true,by simp[Op.eqFields],?_⟩
  have h1:xs.drop off=[]:=by simpa using hx
  have h2:ys.drop off=[]:=by simpa using hy
  rw[h1,h2];simp
 |f::fs,off,s,h,hx,hy,lx,ly=>by
  unfold sigF at h
  split at h
  ·next hf=>
   obtain⟨hn,ho⟩:=hf
   cases hs:sigT P d f.type with
   |none=>rw[hs]at h;cases h
   |some a=>
    rw[hs]at h
    cases hr:sigF (sigT P d) (off+a.length) fs with
    |none=>simp[hr]at h
    |some b=>
     simp only[hr,Option.map_some,Option.some.injEq]at h
     subst h
     obtain⟨k1,k2⟩:=kinds_sub hx
     obtain⟨k3,k4⟩:=kinds_sub hy
     have l1:=len_of_kinds hx
     have l2:=len_of_kinds hy
     simp at l1 l2
     obtain⟨e1,e2⟩:=ih f.type a hs
     obtain⟨r,hrun,hiff⟩:=e2 m w _ _ k1 k3
     obtain⟨r',hrun',hiff'⟩:=eqFields_sig ih m w xs ys fs (off+a.length) b hr k2 k4 (by omega) (by omega)
     have p1:=run_part_mk hs w xs off (by omega) e1
     have p2:=run_part_mk hs w ys off (by omega) e1
     simp only[Op.eqFields,hn,ne_eq,not_false_eq_true,if_true,Sem.run_bind,ho,p1,p2,hrun,Result.andThen_ok]
     have split:∀zs:List Value,zs.drop off=(zs.drop off).take a.length++zs.drop (off+a.length):=fun zs=>by rw[←List.drop_drop,List.take_append_drop]
     cases r with
     |false=>
      refine⟨false,by simp,?_⟩
      constructor
      ·intro h;cases h
      ·intro h;exact absurd (hiff.2 (by rw[h])) (by simp)
     |true=>
      refine⟨r',by simpa using hrun',?_⟩
      rw[hiff',split xs,split ys,hiff.1 rfl]
      constructor
      ·intro h;rw[h]
      ·intro h;exact List.append_cancel_left h
  ·cases h
theorem eqItems_sig{d:Nat}{e:TypeId}{a:List (Option IntKind)}(he:sigT P d e=some a)(ih:EqAtT P d e a)(m:Nat)(w:World)(xs ys:List Value):∀(n k:Nat),
  (xs.drop (k*a.length)).map cellKind=((List.replicate n a).flatten).map some→(ys.drop (k*a.length)).map cellKind=((List.replicate n a).flatten).map some→k*a.length≤xs.length→k*a.length≤ys.length→
  ∃b:Bool,(Op.eqItems (d+m) e a.length xs.toArray ys.toArray (List.range' k n)).run P w=.ok b w∧(b=true↔xs.drop (k*a.length)=ys.drop (k*a.length))
 |0,k,hx,hy,_,_=>by
  refine⟨true,by simp[Op.eqItems],?_⟩
  have h1:xs.drop (k*a.length)=[]:=by simpa using hx
  have h2:ys.drop (k*a.length)=[]:=by simpa using hy
  rw[h1,h2];simp
 |n+1,k,hx,hy,lx,ly=>by
  rw[List.replicate_succ,List.flatten_cons]at hx hy
  obtain⟨k1,k2⟩:=kinds_sub hx
  obtain⟨k3,k4⟩:=kinds_sub hy
  have l1:=len_of_kinds hx
  have l2:=len_of_kinds hy
  simp at l1 l2
  obtain⟨e1,e2⟩:=ih
  obtain⟨r,hrun,hiff⟩:=e2 m w _ _ k1 k3
  have hk:k*a.length+a.length=(k+1)*a.length:=by rw[Nat.add_mul,Nat.one_mul]
  rw[hk]at k2 k4
  obtain⟨r',hrun',hiff'⟩:=eqItems_sig he ⟨e1,e2⟩ m w xs ys n (k+1) k2 k4 (by omega) (by omega)
  have p1:=run_part_mk he w xs (k*a.length) (by omega) e1
  have p2:=run_part_mk he w ys (k*a.length) (by omega) e1
  rw[List.range'_succ]
  simp only[Op.eqItems,Sem.run_bind,p1,p2,hrun,Result.andThen_ok]
  have split:∀zs:List Value,zs.drop (k*a.length)=(zs.drop (k*a.length)).take a.length++zs.drop ((k+1)*a.length):=fun zs=>by rw[←hk,←List.drop_drop,List.take_append_drop]
  cases r with
  |false=>
   refine⟨false,by simp,?_⟩
   constructor
   ·intro h;cases h
   ·intro h;exact absurd (hiff.2 (by rw[h])) (by simp)
  |true=>
   refine⟨r',by simpa using hrun',?_⟩
   rw[hiff',split xs,split ys,hiff.1 rfl]
   constructor
   ·intro h;rw[h]
   ·intro h;exact List.append_cancel_left h
theorem eq_sig:∀(d:Nat) (t:TypeId) (s:List (Option IntKind)),sigT P d t=some s→EqAtT P d t s
 |0,t,s,h=>by cases h
 |d+1,t,s,h=>by
  have ih:=eq_sig d
  have h':=h
  unfold sigT at h
  simp only at h
  split at h
  case h_2=>cases h
  next s' hs=>
  split at h
  case h_2=>cases h
  next i hi=>
  split at h
  case isFalse=>cases h
  next hsz=>
  cases h
  split at hs
  ·next hu=>
   cases hs
   have ha:aggOf P t=false:=by unfold aggOf;rw[hu]
   refine⟨fun _=>rfl,fun m w xs ys hx hy=>?_⟩
   match xs,ys,hx,hy with
   |[.bool x],[.bool y],_,_=>
    refine⟨x==y,?_,by simp⟩
    rw[show d+1+m=(d+m)+1 by omega]
    simp only[mkV,ha,Bool.false_eq_true,if_false,List.headD_cons]
    exact run_equalIn_bool w (d+m) t x y hu
   |[],_,hx,_=>simp at hx
   |_::_::_,_,hx,_=>simp at hx
   |[_],[],_,hy=>simp at hy
   |[_],_::_::_,_,hy=>simp at hy
   |[.int _ _],[_],hx,_=>simp[cellKind]at hx
   |[.float _ _],[_],hx,_=>simp[cellKind]at hx
   |[.complex _ _ _],[_],hx,_=>simp[cellKind]at hx
   |[.string _],[_],hx,_=>simp[cellKind]at hx
   |[.pointer _],[_],hx,_=>simp[cellKind]at hx
   |[.slice _ _ _],[_],hx,_=>simp[cellKind]at hx
   |[.map _],[_],hx,_=>simp[cellKind]at hx
   |[.chan _],[_],hx,_=>simp[cellKind]at hx
   |[.func _ _ _],[_],hx,_=>simp[cellKind]at hx
   |[.nilFunc],[_],hx,_=>simp[cellKind]at hx
   |[.iface _ _],[_],hx,_=>simp[cellKind]at hx
   |[.nilIface],[_],hx,_=>simp[cellKind]at hx
   |[.agg _],[_],hx,_=>simp[cellKind]at hx
   |[.tuple _],[_],hx,_=>simp[cellKind]at hx
   |[.bool _],[.int _ _],_,hy=>simp[cellKind]at hy
   |[.bool _],[.float _ _],_,hy=>simp[cellKind]at hy
   |[.bool _],[.complex _ _ _],_,hy=>simp[cellKind]at hy
   |[.bool _],[.string _],_,hy=>simp[cellKind]at hy
   |[.bool _],[.pointer _],_,hy=>simp[cellKind]at hy
   |[.bool _],[.slice _ _ _],_,hy=>simp[cellKind]at hy
   |[.bool _],[.map _],_,hy=>simp[cellKind]at hy
   |[.bool _],[.chan _],_,hy=>simp[cellKind]at hy
   |[.bool _],[.func _ _ _],_,hy=>simp[cellKind]at hy
   |[.bool _],[.nilFunc],_,hy=>simp[cellKind]at hy
   |[.bool _],[.iface _ _],_,hy=>simp[cellKind]at hy
   |[.bool _],[.nilIface],_,hy=>simp[cellKind]at hy
   |[.bool _],[.agg _],_,hy=>simp[cellKind]at hy
   |[.bool _],[.tuple _],_,hy=>simp[cellKind]at hy
  ·next k hu=>
   cases hs
   have ha:aggOf P t=false:=by unfold aggOf;rw[hu]
   refine⟨fun _=>rfl,fun m w xs ys hx hy=>?_⟩
   have one:∀zs:List Value,zs.map cellKind=[some k].map some→∃z,zs=[.int k z]:=by
    intro zs hz
    match zs,hz with
    |[v],hz=>
     cases v<;>simp[cellKind]at hz
     subst hz;exact⟨_,rfl⟩
    |[],hz=>simp at hz
    |_::_::_,hz=>simp at hz
   obtain⟨x,rfl⟩:=one xs hx
   obtain⟨y,rfl⟩:=one ys hy
   refine⟨x==y,?_,by simp⟩
   rw[show d+1+m=(d+m)+1 by omega]
   simp only[mkV,ha,Bool.false_eq_true,if_false,List.headD_cons]
   exact run_equalIn_int w (d+m) t k k x y hu
  ·next n e hu=>
   have ha:aggOf P t=true:=by unfold aggOf;rw[hu]
   cases he:sigT P d e with
   |none=>rw[he]at hs;cases hs
   |some a=>
    rw[he]at hs
    cases hs
    refine⟨fun h=>(by rw[ha]at h;cases h),fun m w xs ys hx hy=>?_⟩
    obtain⟨ie,hie,_,hce,_⟩:=sigT_info he
    obtain⟨b,hb,hbi⟩:=eqItems_sig he (ih e a he) m w xs ys n 0 (by simpa using hx) (by simpa using hy) (by simp) (by simp)
    refine⟨b,?_,by simpa using hbi⟩
    rw[show d+1+m=(d+m)+1 by omega]
    simp only[mkV,ha,if_true]
    rw[run_equalIn_array w (d+m) _ _ hu hie,hce,List.range_eq_range']
    exact hb
  ·next fs hu=>
   have ha:aggOf P t=true:=by unfold aggOf;rw[hu]
   split at hs
   ·cases hs
   ·next hst=>
    refine⟨fun h=>(by rw[ha]at h;cases h),fun m w xs ys hx hy=>?_⟩
    obtain⟨b,hb,hbi⟩:=eqFields_sig ih m w xs ys fs.toList 0 _ hs (by simpa using hx) (by simpa using hy) (by simp) (by simp)
    refine⟨b,?_,by simpa using hbi⟩
    have hfo:P.fieldsOf t=fs:=by unfold Program.fieldsOf;rw[hu]
    rw[show d+1+m=(d+m)+1 by omega]
    simp only[mkV,ha,if_true]
    rw[run_equalIn_struct w (d+m) t _ _ (by rw[hfo];exact hu) (by simpa using hst),hfo]
    exact hb
  ·cases hs
def kindsS:List Seg→List (Option (Option IntKind))
 |[]=>[]
 | .ints k n _::l=>List.replicate n (some (some k))++kindsS l
 | .bytes n _::l=>List.replicate n (some (some .u8))++kindsS l
 | .bools n _::l=>List.replicate n (some none)++kindsS l
 | .gen n asx::l=>[none]++kindsS l
def eqB(P:Program)(t:TypeId)(i:TI):Bool:=
 !P.eqGuardType P.depth t&&aggOf P t&&(match sigT P 20 t with|some s=>decide (kindsS i.zero=s.map some)|none=>false)
theorem kindsS_of{S:Nat→Prop}{w:World}:∀{l:List Seg} {cs:List Value} {s:List (Option IntKind)},kindsS l=s.map some→RL S w l cs→cs.map cellKind=kindsS l
 |_,_,_,_,.nil=>rfl
 | .ints k n zs::l,_,s,h,.ints h1 r=>by
  obtain⟨s1,s2,rfl,h2,h3⟩:=List.map_eq_append_iff.1 h.symm
  rw[List.map_append,kindsS,kindsS_of h3.symm r]
  congr 1
  refine List.ext_getElem (by simp[h1]) fun i _ _=>by simp[cellKind]
 | .bytes n bs::l,_,s,h,.bytes h1 r=>by
  obtain⟨s1,s2,rfl,h2,h3⟩:=List.map_eq_append_iff.1 h.symm
  rw[List.map_append,kindsS,kindsS_of h3.symm r]
  congr 1
  refine List.ext_getElem (by simp[HL,h1]) fun i _ _=>by simp[HL,cellKind]
 | .bools n bs::l,_,s,h,.bools h1 r=>by
  obtain⟨s1,s2,rfl,h2,h3⟩:=List.map_eq_append_iff.1 h.symm
  rw[List.map_append,kindsS,kindsS_of h3.symm r]
  congr 1
  refine List.ext_getElem (by simp[h1]) fun i _ _=>by simp[cellKind]
 | .gen n asx::l,_,s,h,.gen g h1 r=>by
  exfalso
  rw[kindsS]at h
  cases s with
  |nil=>simp at h
  |cons a s=>simp at h
theorem eqB_spec{t:TypeId}{i:TI}(h:eqB P t i=true):EqT P t i:=by
 unfold eqB at h
 simp only[Bool.and_eq_true,Bool.not_eq_true']at h
 obtain⟨⟨h1,h2⟩,h3⟩:=h
 cases hs:sigT P 20 t with
 |none=>rw[hs]at h3;cases h3
 |some s=>
  rw[hs]at h3
  have h4:kindsS i.zero=s.map some:=by simpa using h3
  refine⟨h1,fun w xs ys z hz hx hy=>?_⟩
  have hzk:=kindsS_of (S:=fun _=>True) (w:=w) h4 (zeroB_spec hz)
  obtain⟨b,hb,hbi⟩:=(eq_sig 20 t s hs).2 9980 w xs ys (by rw[hx,hzk,h4]) (by rw[hy,hzk,h4])
  refine⟨b,?_,hbi⟩
  simpa[mkV,h2]using hb
end
end
section
def tiInt(k:IntKind)(bytes:Nat):TI:=⟨1,false,[.ints k 1 [0]],[],[],0,0,false,0,some k,bytes,false,[]⟩
def tiByte:TI:=⟨1,false,[.bytes 1 [0]],[],[],0,0,false,0,some .u8,1,false,[]⟩
def tiBool:TI:=⟨1,false,[.bools 1 [false]],[],[],0,0,false,0,none,1,false,[]⟩
def tiStr':TI:=⟨1,false,[.gen 1 [.v (.string .empty)]],[],[],0,0,false,0,none,16,false,[]⟩
def tiPtr:TI:=⟨1,false,[.gen 1 [.v (.pointer none)]],[],[],0,0,false,0,none,8,false,[]⟩
def tiSl(elem:TypeId)(esz:Nat):TI:=⟨1,false,[.gen 1 [.v (.slice none 0 0)]],[],[],esz,0,true,elem,none,24,false,[]⟩
def tiArr(n:Nat)(elem:TypeId)(esz:Nat)(zero:List Seg)(bytes:Nat):TI:=⟨n*esz,true,zero,[],[],esz,n,false,elem,none,bytes,true,[]⟩
def tiStruct(sz:Nat)(zero:List Seg)(fld:List Nat)(fty:List TypeId)(bytes:Nat)(eq:Bool)(plc:List (Nat×Nat)):TI:=⟨sz,true,zero,fld,fty,0,0,false,0,none,bytes,eq,plc⟩
structure FnThere(P:Program)(f:FuncId):Prop where
 out:∃fn,P.funcs[f]?=some fn∧fn.body.isNone=false∧(fn.name== "runtime.NumGoroutine")=false
noncomputable def EnvX.add (E : EnvX) (f0 : FuncId) (spec : List A → (Res → Prop) → Prop) (h : ∀ args K, spec args K → ∃ r, FnOK E.P E.G f0 args r ∧ K r) (hf : FnThere E.P f0) : EnvX :=
  { P := E.P, Y := E.Y, G := E.G, C := fun f args K => if f = f0 then spec args K else E.C f args K, M := E.M, B := E.B, hY := E.hY, hMu := E.hMu, hB := E.hB,
    hC := fun f args K hc => by
      by_cases e : f = f0
      · subst e; rw [if_pos rfl] at hc; exact h args K hc
      · rw [if_neg e] at hc; exact E.hC f args K hc
    hF := fun f args K hc => by
      by_cases e : f = f0
      · subst e; exact hf.out
      · rw [if_neg e] at hc; exact E.hF f args K hc
    fr := fun f => if f = f0 then false else E.fr f
    hfr := fun f args K h hc => by
      by_cases e : f = f0
      · subst e; rw [if_pos rfl] at h; cases h
      · rw [if_neg e] at h hc; exact E.hfr f args K h hc
    hE := E.hE, hM := E.hM }
noncomputable def EnvX.addF (E : EnvX) (f0 : FuncId) (spec : List A → (Res → Prop) → Prop) (h : ∀ args K, spec args K → ∃ r, FnOK E.P E.G f0 args r ∧ FnF E.P E.G f0 args r ∧ K r) (hf : FnThere E.P f0) : EnvX :=
  { P := E.P, Y := E.Y, G := E.G, C := fun f args K => if f = f0 then spec args K else E.C f args K, M := E.M, B := E.B, hY := E.hY, hMu := E.hMu, hB := E.hB,
    hC := fun f args K hc => by
      by_cases e : f = f0
      · subst e; rw [if_pos rfl] at hc; obtain ⟨r, h1, _, h2⟩ := h args K hc; exact ⟨r, h1, h2⟩
      · rw [if_neg e] at hc; exact E.hC f args K hc
    hF := fun f args K hc => by
      by_cases e : f = f0
      · subst e; exact hf.out
      · rw [if_neg e] at hc; exact E.hF f args K hc
    fr := fun f => if f = f0 then true else E.fr f
    hfr := fun f args K h1 hc => by
      by_cases e : f = f0
      · subst e; rw [if_pos rfl] at hc; exact h args K hc
      · rw [if_neg e] at h1 hc; exact E.hfr f args K h1 hc
    hE := E.hE, hM := E.hM }
noncomputable def EnvX.addM (E : EnvX) (f0 : FuncId) (spec : Nat → Bk → List A → (Res → Bk → Prop) → Prop) (h : ∀ pos x args K, spec pos x args K → ∃ r x', FnM E.P E.G f0 pos x args r x' ∧ K r x') (hf : FnThere E.P f0) : EnvX :=
  { P := E.P, Y := E.Y, G := E.G, C := E.C, M := fun f pos x args K => if f = f0 then spec pos x args K else E.M f pos x args K, B := E.B, hB := E.hB, hY := E.hY,
    hMu := fun f pos x args K hc => by
      by_cases e : f = f0
      · subst e; rw [if_pos rfl] at hc; exact ⟨h pos x args K hc, hf.out⟩
      · rw [if_neg e] at hc; exact E.hMu f pos x args K hc
    fr := E.fr, hfr := E.hfr, hC := E.hC, hF := E.hF, hE := E.hE, hM := E.hM }
noncomputable def EnvX.addB (E : EnvX) (f0 : FuncId) (spec : Nat → OP → List A → (Res → OP → Prop) → Prop) (h : ∀ pos p args K, spec pos p args K → ∃ r p', FnB E.P E.G f0 pos p args r p' ∧ K r p') (hf : FnThere E.P f0) : EnvX :=
  { P := E.P, Y := E.Y, G := E.G, C := E.C, M := E.M, B := fun f pos p args K => if f = f0 then spec pos p args K else E.B f pos p args K, hY := E.hY,
    hB := fun f pos p args K hc => by
      by_cases e : f = f0
      · subst e; rw [if_pos rfl] at hc; exact ⟨h pos p args K hc, hf.out⟩
      · rw [if_neg e] at hc; exact E.hB f pos p args K hc
    fr := E.fr, hfr := E.hfr, hMu := E.hMu, hC := E.hC, hF := E.hF, hE := E.hE, hM := E.hM }
theorem leLe{a b:Nat}(h:a≤b):Nat.le a b:=h
theorem wn1:IntKind.i64.wrap 1=1:=by decide
theorem wn2:IntKind.i64.wrap 2=2:=by decide
theorem wn3:IntKind.i64.wrap 3=3:=by decide
theorem wn4:IntKind.i64.wrap 4=4:=by decide
theorem wn5:IntKind.i64.wrap 5=5:=by decide
theorem wn6:IntKind.i64.wrap 6=6:=by decide
theorem wn7:IntKind.i64.wrap 7=7:=by decide
theorem wn8:IntKind.i64.wrap 8=8:=by decide
theorem wn9:IntKind.i64.wrap 9=9:=by decide
theorem wn10:IntKind.i64.wrap 10=10:=by decide
theorem wn11:IntKind.i64.wrap 11=11:=by decide
theorem wn12:IntKind.i64.wrap 12=12:=by decide
theorem wn13:IntKind.i64.wrap 13=13:=by decide
theorem wn14:IntKind.i64.wrap 14=14:=by decide
theorem wn15:IntKind.i64.wrap 15=15:=by decide
theorem wn16:IntKind.i64.wrap 16=16:=by decide
theorem condK_is{b:Bool}{x y:Prop}(h:b=true)(hx:x):condK b x y:=by rw[h];exact hx
theorem condK_isnt{b:Bool}{x y:Prop}(h:b=false)(hy:y):condK b x y:=by rw[h];exact hy
theorem regA_nil{E:EnvX}{ops:List Oper}{s:St}{k:St→Prop}(h:k s):regA E ops [] s k:=h
theorem regA_cons{E:EnvX}{ops:List Oper}{o:Oper}{r:List Oper}{s:St}{k:St→Prop}(h:mutK E o s (fun s'=>Stop (regA E ops r s' k)) (stepK E ops o s s.h.length fun t blk=>Stop (regA E ops r (s.app2 o.dst t blk) k))):regA E ops (o::r) s k:=h
theorem regDr_intro{E:EnvX}{l:List Oper}{s:St}{k:St→Prop}(n:Nat)(hn:cntAlloc l=n)(h1:tabOK l=true)
  (h2:StopD (regD E l s.h.length n l 0 ⟨s.t,s.h++List.replicate (n+1) none⟩ [] fun acc s'=>chkB (depsL l) s.h.length (s.h.length+n) acc=true∧k ⟨s'.t,trimH s'.h⟩)):regDr E l s k:=by
 subst hn
 exact⟨h1,h2.out⟩
def Nrm{α:Type}(f:α→Prop)(x:α):Prop:=f x
theorem toA{E:EnvX}{ops r:List Oper}{s:St}{k:St→Prop}(h:Nrm (fun s=>regA E ops r s k) s):Stop (regA E ops r s k):=⟨h⟩
theorem ofA{E:EnvX}{ops r:List Oper}{s:St}{k:St→Prop}(h:regA E ops r s k):Nrm (fun s=>regA E ops r s k) s:=h
theorem toE{E:EnvX}{l:List Oper}{s:St}{k:St→Prop}(h:Nrm (fun s=>regDr E l s k) s):StopE (regDr E l s k):=⟨h⟩
theorem ofE{E:EnvX}{l:List Oper}{s:St}{k:St→Prop}(h:regDr E l s k):Nrm (fun s=>regDr E l s k) s:=h
theorem toD{E:EnvX}{ops r:List Oper}{n0 tot c:Nat}{s:St}{acc:List Foot}{k:List Foot→St→Prop}(h:Nrm (fun p:Nat×Nat×Nat×St×List Foot=>regD E ops p.1 p.2.1 r p.2.2.1 p.2.2.2.1 p.2.2.2.2 k) (n0,tot,c,s,acc)):StopD (regD E ops n0 tot r c s acc k):=⟨h⟩
theorem ofD{E:EnvX}{ops r:List Oper}{n0 tot c:Nat}{s:St}{acc:List Foot}{k:List Foot→St→Prop}(h:regD E ops n0 tot r c s acc k):Nrm (fun p:Nat×Nat×Nat×St×List Foot=>regD E ops p.1 p.2.1 r p.2.2.1 p.2.2.2.1 p.2.2.2.2 k) (n0,tot,c,s,acc):=h
theorem regD_cons{E:EnvX}{ops:List Oper}{n0 tot:Nat}{o:Oper}{r:List Oper}{c:Nat}{s:St}{acc:List Foot}{k:List Foot→St→Prop}
  (h:stepK E ops o s (if isAlloc o=true then n0+c else n0+tot) fun t blk=>
   StopD (regD E ops n0 tot r (if isAlloc o=true then c+1 else c) (s.app o.dst t blk) (acc++[(opRefs s o,blk.map (·.1),if isAlloc o=true then n0+c else n0+tot)]) k)):regD E ops n0 tot (o::r) c s acc k:=h
theorem regD_nil{E:EnvX}{ops:List Oper}{n0 tot:Nat}{c:Nat}{s:St}{acc:List Foot}{k:List Foot→St→Prop}(h:k acc s):regD E ops n0 tot [] c s acc k:=h
theorem loop_unroll{body:St→(Exit→St→Prop)→Prop}{s:St}{k:Exit→St→Prop}(n:Nat)(h:LoopU body k n s):LoopA body s k∨LoopI body s k:=.inl (.inl ⟨n,h⟩)
theorem loop_inv{body:St→(Exit→St→Prop)→Prop}{s:St}{k:Exit→St→Prop}(live:List Nat)(m:Nat)(I:St→Prop)(μ:St→Nat)(h1:liveOK live m s)(h2:I (weaken live m s))
  (h3:∀s,I s→body s fun e s'=>match e with| .normal=>liveOK live m s'∧I (weaken live m s')∧μ (weaken live m s')<μ s|e=>k e s')(h0:0<m:=by decide):LoopA body s k∨LoopI body s k:=.inl (.inr ⟨s,live,m,I,μ,.refl s,h0,h1,h2,h3⟩)
theorem loop_nil{body:St→(Exit→St→Prop)→Prop}{s:St}{k:Exit→St→Prop}(live:List Nat)(m:Nat)(i:Nat)(e:TypeId)(sz:Nat)(l:List Seg)(I:St→Prop)(μ:St→Nat)(h1:liveOK live m s)(hn:(weaken live m s).sl i=.d (.v (.slice none 0 0)))(hl:l.all segNil=true)
  (h1':liveOK live (m+1) (ownNil (weaken live m s) i e sz l))(h2:I (weaken live (m+1) (ownNil (weaken live m s) i e sz l)))
  (h3:∀s,I s→body s fun e s'=>match e with| .normal=>liveOK live (m+1) s'∧I (weaken live (m+1) s')∧μ (weaken live (m+1) s')<μ s|e=>k e s')(h0:0<m:=by decide):LoopA body s k∨LoopI body s k:=
 .inl (.inr ⟨ownNil (weaken live m s) i e sz l,live,m+1,I,μ,(Ent.weaken h0 h1).trans (.nil hn hl),by omega,h1',h2,h3⟩)
structure Left(q:Prop):Prop where
 out:q
structure Isq(q:Prop):Prop where
 out:True
theorem isqT:Isq True:=⟨trivial⟩
theorem isqA{q:Prop}:Isq q:=⟨trivial⟩
theorem ago{p q:Prop}(left:q)(h:(Left q→p)∧Isq q:=by
  refine And.intro ?_ ?_
  ·intro left_is
   (conv=>whnf);repeat ((first|(refine And.intro ?_ ?_;focus (first|exact rfl|exact Nat.le_of_ble_eq_true rfl|exact Or.inr rfl|exact Or.inl rfl|(intro hx;cases hx<;>fail)|(intro _;rfl)|exact⟨_,rfl,rfl⟩|omega|(simp only[Seg.n,segN,tiInt,tiBool,tiSl,tiArr,tiStruct];omega)|(refine leLe ?_;(try simp only[Seg.n,segN,tiInt,tiBool,tiSl,tiArr,tiStruct]);omega)|assumption|decide|(simp[Seg.n,segN,tiInt,tiBool,tiSl,tiArr,tiStruct, *]<;>omega)))|(refine⟨_,And.intro rfl ?_⟩)|(refine StopC.mk ?_;first|(refine condK_is ?_ ?_;focus (first|rfl|assumption|(simp only[bne,beq_iff_eq,beq_eq_false_iff_ne,ne_eq,Bool.not_eq_true',Bool.not_eq_false',decide_eq_true_eq,decide_eq_false_iff_not,ge_iff_le,gt_iff_lt, *]<;>omega)|(simp[eqSegs, *]<;>omega)))|(refine condK_isnt ?_ ?_;focus (first|rfl|assumption|(simp only[bne,beq_iff_eq,beq_eq_false_iff_ne,ne_eq,Bool.not_eq_true',Bool.not_eq_false',decide_eq_true_eq,decide_eq_false_iff_not,ge_iff_le,gt_iff_lt, *]<;>omega)|(simp[eqSegs, *]<;>omega))))|((first|refine toA ?_|refine toE ?_|refine toD ?_);(try(conv=>arg 2;simp only[Seg.n,wn1,wn2,wn3,wn4,wn5,wn6,wn7,wn8,wn9,wn10,wn11,wn12,wn13,wn14,wn15,wn16,Int.reduceAdd,Int.zero_add,Seg.cell,Seg.sub,List.set_nil,isAlloc,trimH,List.take_append_drop,St.app,St.app2,St.ev,List.getD_cons_zero,List.getD_cons_succ,List.getD_nil,St.sl,St.bk,tiInt,tiBool,tiSl,tiArr,tiStruct,weaken,keepT,List.set_cons_zero,List.set_cons_succ,List.length_cons,List.length_nil,List.cons_append,List.nil_append,List.append_nil,List.map_cons,List.map_nil,List.replicate_succ,List.replicate_zero,List.take_succ_cons,List.take_zero,List.drop_succ_cons,List.drop_zero,List.take_nil,List.drop_nil,Nat.reduceAdd,Nat.reduceSub,Nat.reduceMul,Nat.reduceEqDiff,Nat.reduceLT,Nat.reduceLeDiff,Nat.zero_add,Nat.add_zero,Nat.sub_self,Nat.sub_zero,Nat.one_mul,Nat.mul_one,Nat.zero_mul,joinS,manyS,List.flatten_cons,List.flatten_nil,eq_self,ite_true,if_true,if_false,↓reduceIte,reduceCtorEq,Int.reduceToNat,cntAlloc,opRefs]));first|(refine ofA ?_;(conv=>arg 3;whnf);first|refine regA_cons ?_|refine regA_nil ?_)|(refine ofD ?_;(conv=>arg 5;whnf);first|refine regD_cons ?_|refine regD_nil ?_)|(refine ofE ?_;(conv=>arg 2;whnf);(refine regDr_intro _ rfl ?_ ?_);focus (kernel_rfl))));(conv=>whnf))
   all_goals exact left_is.out
  ·first|with_reducible exact isqT|exact isqA):p:=h.1 ⟨left⟩
theorem agom{p q:Prop}(left:q)(h:(Left q→p)∧Isq q:=by
  refine And.intro ?_ ?_
  ·intro left_is
   (conv=>whnf);repeat ((first|(refine And.intro ?_ ?_;focus (first|exact rfl|exact Nat.le_of_ble_eq_true rfl|exact Or.inr rfl|exact Or.inl rfl|(intro hx;cases hx<;>fail)|(intro _;rfl)|exact⟨_,rfl,rfl⟩|omega|(simp only[Seg.n,segN,tiInt,tiBool,tiSl,tiArr,tiStruct];omega)|(refine leLe ?_;(try simp only[Seg.n,segN,tiInt,tiBool,tiSl,tiArr,tiStruct]);omega)|assumption|decide|(simp[Seg.n,segN,tiInt,tiBool,tiSl,tiArr,tiStruct, *]<;>omega)))|(refine⟨_,And.intro rfl ?_⟩)|(refine StopC.mk ?_;first|(refine condK_is ?_ ?_;focus (first|rfl|assumption|(simp only[bne,beq_iff_eq,beq_eq_false_iff_ne,ne_eq,Bool.not_eq_true',Bool.not_eq_false',decide_eq_true_eq,decide_eq_false_iff_not,ge_iff_le,gt_iff_lt, *]<;>omega)|(simp[eqSegs, *]<;>omega)))|(refine condK_isnt ?_ ?_;focus (first|rfl|assumption|(simp only[bne,beq_iff_eq,beq_eq_false_iff_ne,ne_eq,Bool.not_eq_true',Bool.not_eq_false',decide_eq_true_eq,decide_eq_false_iff_not,ge_iff_le,gt_iff_lt, *]<;>omega)|(simp[eqSegs, *]<;>omega))))|((first|refine toA ?_|refine toE ?_|refine toD ?_);(try(conv=>arg 2;simp only[Int.toNat_natCast,Seg.n,wn1,wn2,wn3,wn4,wn5,wn6,wn7,wn8,wn9,wn10,wn11,wn12,wn13,wn14,wn15,wn16,Int.reduceAdd,Int.zero_add,Seg.cell,Seg.sub,List.set_nil,isAlloc,trimH,List.take_append_drop,St.app,St.app2,St.ev,List.getD_cons_zero,List.getD_cons_succ,List.getD_nil,St.sl,St.bk,tiInt,tiBool,tiSl,tiArr,tiStruct,weaken,keepT,List.set_cons_zero,List.set_cons_succ,List.length_cons,List.length_nil,List.cons_append,List.nil_append,List.append_nil,List.map_cons,List.map_nil,List.replicate_succ,List.replicate_zero,List.take_succ_cons,List.take_zero,List.drop_succ_cons,List.drop_zero,List.take_nil,List.drop_nil,Nat.reduceAdd,Nat.reduceSub,Nat.reduceMul,Nat.reduceEqDiff,Nat.reduceLT,Nat.reduceLeDiff,Nat.zero_add,Nat.add_zero,Nat.sub_self,Nat.sub_zero,Nat.one_mul,Nat.mul_one,Nat.zero_mul,joinS,manyS,List.flatten_cons,List.flatten_nil,eq_self,ite_true,if_true,if_false,↓reduceIte,reduceCtorEq,Int.reduceToNat,cntAlloc,opRefs]));first|(refine ofA ?_;(conv=>arg 3;whnf);first|refine regA_cons ?_|refine regA_nil ?_)|(refine ofD ?_;(conv=>arg 5;whnf);first|refine regD_cons ?_|refine regD_nil ?_)|(refine ofE ?_;(conv=>arg 2;whnf);(refine regDr_intro _ rfl ?_ ?_);focus (kernel_rfl))));(conv=>whnf))
   all_goals exact left_is.out
  ·first|with_reducible exact isqT|exact isqA):p:=h.1 ⟨left⟩
theorem fnA{E:EnvX}{f:FuncId}{fn:Func}{c:Code}{args:List A}{res:Res}{n:Nat}{t:List T}(hf:E.P.funcs[f]?=some fn)(hnt:fn.ntmps=n)
  (left:wpA E c ⟨t,[]⟩ fun e s=>(e=.normal∨e=.ret)∧resK' E s fn.results.toList fun r=>r=res)(hb:fn.body=some c:=by exact rfl)(hn:args.length≤n:=by exact Nat.le_of_ble_eq_true rfl)
  (ht:args.map T.d++List.replicate (n-args.length) (.d (.v undef))=t:=by(conv=>lhs;simp only[Seg.n,wn1,wn2,wn3,wn4,wn5,wn6,wn7,wn8,wn9,wn10,wn11,wn12,wn13,wn14,wn15,wn16,Int.reduceAdd,Int.zero_add,Seg.cell,Seg.sub,List.set_nil,isAlloc,trimH,List.take_append_drop,St.app,St.app2,St.ev,List.getD_cons_zero,List.getD_cons_succ,List.getD_nil,St.sl,St.bk,tiInt,tiBool,tiSl,tiArr,tiStruct,weaken,keepT,List.set_cons_zero,List.set_cons_succ,List.length_cons,List.length_nil,List.cons_append,List.nil_append,List.append_nil,List.map_cons,List.map_nil,List.replicate_succ,List.replicate_zero,List.take_succ_cons,List.take_zero,List.drop_succ_cons,List.drop_zero,List.take_nil,List.drop_nil,Nat.reduceAdd,Nat.reduceSub,Nat.reduceMul,Nat.reduceEqDiff,Nat.reduceLT,Nat.reduceLeDiff,Nat.zero_add,Nat.add_zero,Nat.sub_self,Nat.sub_zero,Nat.one_mul,Nat.mul_one,Nat.zero_mul,joinS,manyS,List.flatten_cons,List.flatten_nil,eq_self,ite_true,if_true,if_false,↓reduceIte,reduceCtorEq,Int.reduceToNat]);all_goals exact rfl):FnOK E.P E.G f args res:=by
 subst hnt;subst ht;exact fn_of_wpA hf hb hn left
theorem fnMA{E:EnvX}{f:FuncId}{fn:Func}{c:Code}{pos:Nat}{x x':Bk}{args:List A}{res:Res}{n:Nat}{t:List T}(hf:E.P.funcs[f]?=some fn)(hnt:fn.ntmps=n)
  (left:wpA E c ⟨t,[some x]⟩ fun e s=>(e=.normal∨e=.ret)∧s.bk 0=some x'∧resK' E s fn.results.toList fun r=>r=res)(hb:fn.body=some c:=by exact rfl)(hn:args.length+1≤n:=by exact Nat.le_of_ble_eq_true rfl)(hp:pos≤args.length:=by exact Nat.zero_le _)
  (hx:∀e sz n l,x≠ .sl e sz n l:=by intro _ _ _ _ h;cases h)(hres:∀y,res≠ .p y:=by intro y h;cases h)
  (ht:(args.map T.d).insertIdx pos (.ptr 0 0)++List.replicate (n- (args.length+1)) (.d (.v undef))=t:=by(conv=>lhs;simp only[List.insertIdx_zero,Seg.n,wn1,wn2,wn3,wn4,wn5,wn6,wn7,wn8,wn9,wn10,wn11,wn12,wn13,wn14,wn15,wn16,Int.reduceAdd,Int.zero_add,Seg.cell,Seg.sub,List.set_nil,isAlloc,trimH,List.take_append_drop,St.app,St.app2,St.ev,List.getD_cons_zero,List.getD_cons_succ,List.getD_nil,St.sl,St.bk,tiInt,tiBool,tiSl,tiArr,tiStruct,weaken,keepT,List.set_cons_zero,List.set_cons_succ,List.length_cons,List.length_nil,List.cons_append,List.nil_append,List.append_nil,List.map_cons,List.map_nil,List.replicate_succ,List.replicate_zero,List.take_succ_cons,List.take_zero,List.drop_succ_cons,List.drop_zero,List.take_nil,List.drop_nil,Nat.reduceAdd,Nat.reduceSub,Nat.reduceMul,Nat.reduceEqDiff,Nat.reduceLT,Nat.reduceLeDiff,Nat.zero_add,Nat.add_zero,Nat.sub_self,Nat.sub_zero,Nat.one_mul,Nat.mul_one,Nat.zero_mul,joinS,manyS,List.flatten_cons,List.flatten_nil,eq_self,ite_true,if_true,if_false,↓reduceIte,reduceCtorEq,Int.reduceToNat]);all_goals exact rfl):FnM E.P E.G f pos x args res x':=by
 subst hnt;subst ht;exact fnM_of_wpA hf hb hn hp hx left hres
end
section
def tab64:List UInt8:=[0,1,56,2,57,49,28,3,61,58,42,50,38,29,17,4,62,47,59,36,45,43,51,22,53,39,33,30,24,18,12,5,63,55,48,27,60,41,37,16,46,35,44,21,52,32,23,11,54,26,40,15,34,20,31,10,25,14,19,9,13,8,7,6]
def gTab:Nat→Option (List Seg)
 |1=>some [.bytes 64 tab64]
 |_=>none
end
section
def yTab:TypeId→Option TI
 |3=>some (tiInt .i64 8)
 |4=>some tiBool
 |25=>some (tiStruct 2 [.ints .i64 2 [0,0]] [0,1] [3,3] 16 true [(0,1),(1,1)])
 |74=>some (tiArr 8 25 2 [.ints .i64 16 [0,0,0,0,0,0,0,0,0,0,0,0,0,0,0,0]] 128)
 |75=>some (tiArr 15 3 1 [.ints .i64 15 [0,0,0,0,0,0,0,0,0,0,0,0,0,0,0]] 120)
 |77=>some (tiStruct 31 [.ints .i64 31 [0,0,0,0,0,0,0,0,0,0,0,0,0,0,0,0,0,0,0,0,0,0,0,0,0,0,0,0,0,0,0]] [0,16] [74,75] 248 true [(0,16),(16,15)])
 |110=>some (tiArr 3 3 1 [.ints .i64 3 [0,0,0]] 24)
 |237=>some (tiSl 3 1)
 |91=>some (tiInt .u64 8)
 |125=>some (tiInt .u64 8)
 |5=>some tiByte
 |281=>some (tiArr 64 5 1 [.bytes 64 (List.replicate 64 0)] 64)
 |201=>some (tiArr 2 3 1 [.ints .i64 2 [0,0]] 16)
 |199=>some (tiSl 201 2)
 |78=>some (tiArr 8 4 1 [.bools 8 (List.replicate 8 false)] 8)
 |28=>some (tiArr 32 5 1 [.bytes 32 (List.replicate 32 0)] 32)
 |85=>some (tiArr 3 28 32 [.bytes 96 (List.replicate 96 0)] 96)
 |63=>some (tiStruct 2 [.ints .i64 2 [0,0]] [0,1] [3,3] 16 true [(0,1),(1,1)])
 |9=>some tiStr'
 |35=>some (tiSl 5 1)
 |56=>some (tiSl 35 1)
 |193=>some (tiArr 8 5 1 [.bytes 8 (List.replicate 8 0)] 8)
 |195=>some (tiArr 5 3 1 [.ints .i64 5 [0,0,0,0,0]] 40)
 |33=>some (tiInt .i64 8)
 |31=>some (tiStruct 5 [.ints .i64 5 [0,0,0,0,0]] [0,1,2,3] [3,3,3,25] 40 true [(0,1),(1,1),(2,1),(3,2)])
 |32=>some (tiSl 31 5)
 |80=>some (tiStruct 73 [.ints .i64 1 [0],.ints .i64 31 (List.replicate 31 0),.bools 8 (List.replicate 8 false),.ints .i64 1 [0],.bytes 32 (List.replicate 32 0)] [0,1,32,40,41] [3,77,78,3,28] 304 true [(0,1),(1,31),(32,8),(40,1),(41,32)])
 |190=>some (tiStruct 90 [.ints .i64 1 [0],.ints .i64 31 (List.replicate 31 0),.bools 8 (List.replicate 8 false),.ints .i64 1 [0],.bytes 32 (List.replicate 32 0),.ints .i64 1 [0],.bools 8 (List.replicate 8 false),.bools 8 (List.replicate 8 false)] [0,73,74,82] [80,3,78,78] 328 true [(0,73),(73,1),(74,8),(82,8)])
 |227=>some tiPtr
 |102=>some tiPtr
 |151=>some (tiStruct 33 [.ints .i64 1 [0],.bytes 32 (List.replicate 32 0)] [0,1] [3,28] 40 true [(0,1),(1,32)])
 |82=>some (tiSl 151 33)
 |84=>some (tiStruct 5 [.ints .i32 1 [0],.ints .u32 1 [0],.gen 1 [.v (.slice none 0 0)],.ints .i64 2 [0,0]] [0,2,3,4] [51,82,3,45] 48 false [(0,2),(2,1),(3,1),(4,1)])
 |54=>some tiPtr
 |_=>none
set_option maxRecDepth 100000 in
theorem yOK:∀t i,yTab t=some i→TyOK Tryz.prog t i:=by
 intro t i h
 unfold yTab at h
 split at h<;>first|(cases h;exact tyB_spec (by kernel_rfl))|cases h
set_option maxRecDepth 100000 in
theorem yEq:∀t i,yTab t=some i→i.eq=true→EqT Tryz.prog t i:=by
 intro t i h
 unfold yTab at h
 split at h<;>first|(cases h;intro he;cases he;done)|(cases h;intro _;exact eqB_spec (by kernel_rfl))|cases h
abbrev FnO(f:FuncId)(args:List A)(res:Res):Prop:=FnOK Tryz.prog gTab f args res
abbrev FnMO(f:FuncId)(pos:Nat)(x:Bk)(args:List A)(res:Res)(x':Bk):Prop:=FnM Tryz.prog gTab f pos x args res x'
noncomputable def env0:EnvX:={ P:=Tryz.prog,Y:=yTab,G:=gTab,C:=fun _ _ _=>False,M:=fun _ _ _ _ _=>False,hY:=yOK,hC:=fun _ _ _ h=>h.elim,hMu:=fun _ _ _ _ _ h=>h.elim,hF:=fun _ _ _ h=>h.elim,hE:=yEq,hM:=by kernel_rfl }
end
section
open Go.ChangeShapes Go.WideShapes
structure ArgI(w:World)(a:Option Addr)(l c:Nat)(zs:List Int):Prop where
 len_eq:l=zs.length
 nil:a=none→c=0
 le:l≤c
 small:c≤140737488351232
 cells:zs=[]∨∃b off,a=some ⟨b,off,none⟩∧∀(i:Nat) (h:i<zs.length),w.cell? ⟨b,off+i,none⟩=some (.int .i64 zs[i])∧(Lit.int .i64 zs[i]).wf=true
theorem ArgI.below{w w':World}{a:Option Addr}{l c:Nat}{zs:List Int}(h:ArgI w a l c zs)(b:Below w.heap.size w w'):ArgI w' a l c zs:=by
 refine⟨h.len_eq,h.nil,h.le,h.small,?_⟩
 rcases h.cells with h1|⟨g,off,rfl,hc⟩
 ·exact .inl h1
 ·exact .inr ⟨g,off,rfl,fun i hi=>⟨(b.cell (block_lt_of_cell (hc i hi).1)).trans (hc i hi).1,(hc i hi).2⟩⟩
theorem ArgI.at_{w:World}{a:Option Addr}{l c:Nat}{zs:List Int}(h:ArgI w a l c zs)(i:Nat)(hi:i<zs.length):∃b off,a=some ⟨b,off,none⟩∧w.cell? ⟨b,off+i,none⟩=some (.int .i64 zs[i])∧(Lit.int .i64 zs[i]).wf=true:=by
 rcases h.cells with h1|⟨g,off,h2,hc⟩
 ·subst h1;simp at hi
 ·exact⟨g,off,h2,hc i hi⟩
section
variable {H : Type} {enc : TypeId × Value → H} {P : Program} {w : World} {base b0 : Nat} {held : Bool}
end
end
section
open Go.ChangeShapes Go.WideShapes
section
variable {H : Type} {enc : TypeId × Value → H} {P : Program} {w : World} {base b0 : Nat} {spare : Nat → Bool} {held : Bool}
end
theorem fnNil{P:Program}{G:Nat→Option (List Seg)}{f:FuncId}{args:List A}{e:TypeId}{sz:Nat}{l:List Seg}(h:FnOK P G f args (.d (.v (.slice none 0 0))))(hl:l.all segNil=true):FnOK P G f args (.o e sz 0 l):=by
 intro S w vs hG ha
 refine(h S w vs hG ha).mono ?_
 rintro e' w' ⟨v,rfl,h1,h2⟩
 refine⟨v,rfl,⟨[],?_,rl_nil hl⟩,h2⟩
 rw[RA.plain h1]
 exact World.ownsRow_nil _ _ _ _
theorem law_of_fn{P:Program}{G:Nat→Option (List Seg)}{f:FuncId}{args:List A}{vs:List Value}{w:World}(h:FnOK P G f args (.d (.v (.bool true))))(hG:GOK G (fun _=>True) w)(ha:RAs (fun _=>True) w args vs):
  Calls P f vs.toArray w fun e w'=>e=.returned (.bool true)∧Below w.heap.size w w':=by
 refine(h _ w vs hG ha).mono ?_
 rintro e w' ⟨v,rfl,h1,h2⟩
 rw[RA.plain h1]
 exact⟨rfl,h2⟩
theorem ra_ints{S:Nat→Prop}{w:World}{k:IntKind}{n:Nat}{zs:List Int}(h:zs.length=n):RA S w (.agg [.ints k n zs]) (.agg (zs.map (Value.int k)).toArray):=.agg (.ofInts h rfl)
theorem fn_plain1{P:Program}{G:Nat→Option (List Seg)}{f:FuncId}{x v:Value}(h:∀w,Calls P f #[x] w fun e w'=>e=.returned v∧w=w'):FnOK P G f [.v x] (.d (.v v)):=by
 intro S w vs _ ha
 cases ha with
 |cons h1 r=>
  cases r
  rw[RA.plain h1]
  refine(h w).mono ?_
  rintro e w' ⟨rfl,rfl⟩
  exact⟨v,rfl,.v v,Below.refl _ _⟩
theorem fn_plain2{P:Program}{G:Nat→Option (List Seg)}{f:FuncId}{x y v:Value}(h:∀w,Calls P f #[x,y] w fun e w'=>e=.returned v∧w=w'):FnOK P G f [.v x,.v y] (.d (.v v)):=by
 intro S w vs _ ha
 cases ha with
 |cons h1 r=>
  cases r with
  |cons h2 r=>
   cases r
   rw[RA.plain h1,RA.plain h2]
   refine(h w).mono ?_
   rintro e w' ⟨rfl,rfl⟩
   exact⟨v,rfl,.v v,Below.refl _ _⟩
theorem wrapS{z:Int}(h0: -9223372036854775808≤z)(h1:z≤9223372036854775807):IntKind.i64.wrap z=z:=by
 have e1:(2:Int)^64=18446744073709551616:=by decide
 have e2:(2:Int)^(64-1)=9223372036854775808:=by decide
 simp only[IntKind.wrap,IntKind.signed,IntKind.bits,Bool.true_and,decide_eq_true_eq,e1,e2]
 split<;>omega
end
end Go.Proofs.YtbdmnobocecnfaaGreatDoor
