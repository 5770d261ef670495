/-
  Boxes, as the machine without memory reckons them: streams laid over bytes.
-/
import Derived.Test.YtbdmnobocecnfaaGreatDoorJ31
namespace Go.Proofs.YtbdmnobocecnfaaGreatDoor
set_option linter.unusedVariables false
set_option linter.unusedSimpArgs false
set_option maxRecDepth 100000
open Go.RowKit
section
open Pm
attribute [local irreducible] condK LoopA regA powI scal mulI isI fourB deriveW numB
def heldS(s:List UInt8)(k:Nat):List UInt8:=if k=0 then List.replicate 32 0 else streamW s ((k-1) / 32)
theorem heldS_same(s:List UInt8)(k:Nat)(h:¬k%32=0):heldS s k=streamW s (k / 32):=by
 unfold heldS;rw[if_neg (by omega),show(k-1) / 32=k / 32 by omega]
theorem heldS_next(s:List UInt8)(k:Nat):heldS s (k+1)=streamW s (k / 32):=by
 unfold heldS;rw[if_neg (by omega),Nat.add_sub_cancel]
theorem tdivS(k:Nat):Int.tdiv (k:Int) 32=((k / 32:Nat):Int):=by rw[Int.tdiv_eq_ediv_of_nonneg (by omega)];omega
theorem tmodS(k:Nat):Int.tmod (k:Int) 32=((k%32:Nat):Int):=by rw[Int.tmod_eq_emod_of_nonneg (by omega)];omega
theorem stream_eq(s:List UInt8)(k:Nat):deriveW s (sb ⟨#[115,116,114,101,97,109]⟩) (fourB ((k / 32:Nat):Int))=streamW s (k / 32):=rfl
theorem flat_rep(n:Nat):(List.replicate n [(0:UInt8)]).flatten=List.replicate n 0:=by
 induction n with
 |zero=>rfl
 |succ n ih=>rw[List.replicate_succ,List.flatten_cons,ih];rfl
theorem xor_bd(a b:UInt8):0≤bits .xor .u8 (Bt a) (Bt b)∧bits .xor .u8 (Bt a) (Bt b)<256∧UInt8.ofNat (bits .xor .u8 (Bt a) (Bt b)).toNat=a^^^b:=by
 rw[Bt_xor]
 have:=UInt8.toNat_lt (a^^^b)
 unfold Bt
 refine⟨by omega,by omega,?_⟩
 rw[Int.toNat_natCast,UInt8.ofNat_toNat]
theorem zeros_bytes(n:Nat):zerosK n tiByte.zero=[.bytes n (List.replicate n 0)]:=by
 show[Seg.bytes (n*1) (List.replicate n [(0:UInt8)]).flatten]=_
 rw[Nat.mul_one,flat_rep]
set_option maxHeartbeats 1000000 in
theorem veil_fn(s p:List UInt8)(hp:p.length≤100000):FnO 168 [.agg [.bytes 32 s],.row p.length [.bytes p.length p]] (.o 5 1 p.length [.bytes p.length (xorW s p)]):=by
 refine fnA (E:=envBf) Tryz.func168 Tryz.ntmps168 ?_
 refine agow ?_;(try exact⟨⟩)
 refine StopL.mk (loop_forG [2,5,6,12,13,14] [0,1,2] p.length (fun j=>⟨[.dead,.dead,.ptr 0 0,.dead,.dead,.own 1 p.length,.ptr 2 0,.dead,.dead,.dead,.dead,.dead,.d (.row p.length [.bytes p.length p]),.d (.v (.int .i64 p.length)),.d (.v (.int .i64 (j:Nat))),.dead,.dead,.dead,.dead,.dead,.dead,.dead,.dead,.dead,.dead,.dead,.dead,.dead,.dead,.dead,.dead,.dead,.dead,.dead,.dead,.dead,.dead,.dead,.dead],[some (.var [.bytes 32 s]),some (.sl 5 1 p.length [.bytes p.length (partX s p j)]),some (.var [.bytes 32 (heldS s j)])]⟩) ?_ (h2:=by rw[zeros_bytes,partX_zero];rfl))
 intro j hj hl
 by_cases h:j<p.length
 ·have h1:(j:Int)<(p.length:Int):=by omega
  have hm:=tmodS j
  have hd:=tdivS j
  have hst:=stream_eq s j
  have hnx:=heldS_next s j
  obtain⟨x0,x1,x2⟩:=xor_bd (p.getD j 0) ((streamW s (j / 32)).getD (j%32) 0)
  have hps:=partX_set s p j h
  have hb1:((j%32:Nat):Int)<32:=by omega
  have hgp:p[j]=p.getD j 0:=by rw[List.getD_eq_getElem?_getD,List.getElem?_eq_getElem h];rfl
  rw[hgp]at hps
  obtain⟨N,hN⟩:∃N,p.length=N+1:=⟨p.length-1,by omega⟩
  by_cases h3:j%32=0
  ·have e:((j:Int).tmod 32==0)=true:=by rw[hm,h3];rfl
   rw[hN]at hl h1 ⊢
   refine agow ?_;(try exact⟨⟩)
   rw[hd,hst,hm,Int.toNat_natCast]
   refine agow ?_;(try exact⟨⟩)
   refine hl.go (hN▸h) [2,5,6,12,13,14] [0,1,2] ?_
   show gather _ _ _=St.mk _ _
   rw[←hps,←x2,hnx]
   rfl
  ·have e:((j:Int).tmod 32==0)=false:=by rw[hm];simp;omega
   have hh:=heldS_same s j h3
   rw[hN]at hl h1 ⊢
   refine agow ?_;(try exact⟨⟩)
   rw[hh,hm,Int.toNat_natCast]
   refine agow ?_;(try exact⟨⟩)
   refine hl.go (hN▸h) [2,5,6,12,13,14] [0,1,2] ?_
   show gather _ _ _=St.mk _ _
   rw[←hps,←x2,hnx]
   rfl
 ·obtain rfl:j=p.length:=by omega
  have h1:¬(p.length:Int)<(p.length:Int):=by omega
  rw[partX_all]
  refine agow ?_;(try exact⟨⟩)
def row1S(g:List UInt8→List UInt8→Res):List A→(Res→Prop)→Prop
 |[.agg [.bytes 32 h],x],K=>rowK x fun p=>p.length≤100000∧K (g h p)
 |_,_=>False
theorem row1S_of{f:FuncId}{g:List UInt8→List UInt8→Res}(hx:∀h p,p.length≤100000→FnO f [.agg [.bytes 32 h],.row p.length [.bytes p.length p]] (g h p)):∀args K,row1S g args K→∃r,FnO f args r∧K r:=by
 intro args K h
 unfold row1S at h
 split at h
 ·obtain⟨p,⟨h1,h⟩,hp⟩:=rowK_row h
  refine⟨_,fun S w vs hG ha=>?_,h⟩
  obtain⟨v1,v2,rfl,k1,k2⟩:=ra_two ha
  exact hx _ p h1 S w _ hG (.cons k1 (.cons (hp k2) .nil))
 ·exact h.elim
noncomputable def envBg:EnvX:=envBf.add 168 (row1S fun h p=>.d (.row p.length [.bytes p.length (xorW h p)])) (row1S_of fun s p hp=>fn_row (veil_fn s p hp)) ⟨_,Tryz.func168,by kernel_rfl,by kernel_rfl⟩
noncomputable def envBh:EnvX:=envBg
abbrev FnFO(f:FuncId)(args:List A)(res:Res):Prop:=FnF Tryz.prog gTab f args res
def sealR(y x:Int)(p:List UInt8):List A:=[.row (sealB y x p).length [.bytes (sealB y x p).length (sealB y x p)],.v (.int .i64 (sealE y p))]
theorem sealOk_no{y:Int}{p:List UInt8}(h:¬(isI y=true∧p.length≤200)):sealOk y p=false:=by
 unfold sealOk
 cases h1:isI y with
 |false=>rfl
 |true=>rw[Bool.true_and];exact decide_eq_false fun h2=>h ⟨h1,h2⟩
theorem seal_nil{f:FuncId}{args:List A}{y x:Int}{p:List UInt8}(hs:sealOk y p=false)(h:FnFO f args (.t [.v (.slice none 0 0),.v (.int .i64 1)])):FnFO f args (.t (sealR y x p)):=by
 unfold sealR sealB sealE
 rw[hs]
 intro S w vs hG ha
 refine(h S w vs hG ha).mono ?_
 rintro e w' ⟨v,h1,⟨vs',h2,h3⟩,h4⟩
 refine⟨v,h1,⟨vs',h2,?_⟩,h4⟩
 cases h3 with
 |cons k r=>
  rw[RA.plain k]
  exact .cons (.row (cs:=[]) (.ofBytes rfl rfl) (Nat.le_refl _) (Nat.zero_le _) (fun _=>rfl) (.inl rfl)) r
theorem boxW_length(y x:Int)(p:List UInt8):(boxW y x p).length=12+p.length:=by
 unfold boxW
 rw[List.length_append,List.length_append,tagW_length,xorW_length,show(fourB (powI 4 x)).length=4 by unfold fourB;rfl]
theorem seal_yes{y x:Int}{p:List UInt8}(h:isI y=true)(h2:p.length≤200):sealB y x p=boxW y x p∧sealE y p=0:=by
 have hs:sealOk y p=true:=by unfold sealOk;rw[h,decide_eq_true h2];rfl
 unfold sealB sealE
 rw[hs]
 exact⟨rfl,rfl⟩
attribute [local irreducible] xorW tagW
set_option maxHeartbeats 1000000 in
theorem seal_fn(y:Int)(d p:List UInt8)(hp:p.length≤1000000):FnFO 122 [.v (.int .i64 y),.agg [.bytes 32 d],.row p.length [.bytes p.length p]] (.t (sealR y (scal d) p)):=by
 by_cases hy:isI y=true
 ·by_cases hl:p.length≤200
  ·have hn:¬(p.length:Int)>200:=by omega
   have hb:=scal_bd d
   have hb0:0≤scal d:=by omega
   have hb1:scal d<1073741789:=hb.2
   have e:=boxW_length y (scal d) p
   have hx:=xorW_length (shW y (scal d)) p
   have ht:=tagW_length (shW y (scal d)) (fourB (powI 4 (scal d))) (xorW (shW y (scal d)) p)
   have hf:(fourB (powI 4 (scal d))).length=4:=by unfold fourB;rfl
   obtain⟨e1,e2⟩:=seal_yes (x:=scal d) hy hl
   unfold sealR
   rw[e1,e2]
   clear e1 e2
   refine fnAF (E:=envBh) Tryz.func122 Tryz.ntmps122 ?_
   refine agow ?_;(try exact⟨⟩)
   unfold boxW
   rw[List.append_assoc]
  ·refine seal_nil (sealOk_no fun h=>hl h.2) ?_
   have hn:(p.length:Int)>200:=by omega
   clear hl
   refine fnAF (E:=envBh) Tryz.func122 Tryz.ntmps122 ?_
   refine agow ?_;(try exact⟨⟩)
 ·refine seal_nil (sealOk_no fun h=>hy h.1) ?_
  have hy:=Bool.eq_false_iff.2 hy
  refine fnAF (E:=envBh) Tryz.func122 Tryz.ntmps122 ?_
  refine agow ?_;(try exact⟨⟩)
def sealS:List A→(Res→Prop)→Prop
 |[.v (.int .i64 y),.agg [.bytes 32 d],x],K=>rowK x fun p=>p.length≤1000000∧K (.t (sealR y (scal d) p))
 |_,_=>False
theorem sealS_of{f:FuncId}(hx:∀y d p,p.length≤1000000→FnFO f [.v (.int .i64 y),.agg [.bytes 32 d],.row p.length [.bytes p.length p]] (.t (sealR y (scal d) p))):∀args K,sealS args K→∃r,FnO f args r∧FnFO f args r∧K r:=by
 intro args K h
 unfold sealS at h
 split at h
 ·obtain⟨p,⟨h1,h⟩,hp⟩:=rowK_row h
  refine⟨_,fun S w vs hG ha=>?_,fun S w vs hG ha=>?_,h⟩
  ·obtain⟨v1,v2,v3,rfl,k1,k2,k3⟩:=ra_three ha
   exact FnF.okT (hx _ _ p h1) S w _ hG (.cons k1 (.cons k2 (.cons (hp k3) .nil)))
  ·obtain⟨v1,v2,v3,rfl,k1,k2,k3⟩:=ra_three ha
   exact hx _ _ p h1 S w _ hG (.cons k1 (.cons k2 (.cons (hp k3) .nil)))
 ·exact h.elim
noncomputable def envBi:EnvX:=envBh.addF 122 sealS (sealS_of seal_fn) ⟨_,Tryz.func122,by kernel_rfl,by kernel_rfl⟩
noncomputable def envBj:EnvX:=envBi
end
section
open Pm
attribute [local irreducible] condK LoopA regA powI scal mulI isI fourB deriveW numB xorW tagW shW
def num4(b:List UInt8):Int:=((((b.getD 0 0).toNat*256+(b.getD 1 0).toNat)*256+(b.getD 2 0).toNat)*256+(b.getD 3 0).toNat:Nat)
theorem or_at(a b i:Nat)(hb:b<2^i)(hs:a*2^i+b<9223372036854775808):bits .or .i64 ((a*2^i:Nat):Int) (b:Int)=((a*2^i+b:Nat):Int):=by
 show IntKind.i64.wrap ((BitVec.ofInt 64 ((a*2^i:Nat):Int)|||BitVec.ofInt 64 (b:Int)).toNat:Int)=_
 rw[BitVec.ofInt_natCast,BitVec.ofInt_natCast,BitVec.toNat_or,BitVec.toNat_ofNat,BitVec.toNat_ofNat,Nat.mod_eq_of_lt (by omega),Nat.mod_eq_of_lt (by omega)]
 have h:=Nat.shiftLeft_add_eq_or_of_lt hb a
 rw[Nat.shiftLeft_eq]at h
 rw[←h,IntWalk.i64_in _ (by omega)]
theorem or_step(n:Nat)(hn:n<1099511627776)(x:UInt8):bits .or .i64 (IntKind.i64.wrap ((n:Int)*2^min 8 IntKind.i64.bits)) (IntKind.i64.wrap (Bt x))=((n*256+x.toNat:Nat):Int):=by
 have hx:=UInt8.toNat_lt x
 have e1:((n:Int)*2^min 8 IntKind.i64.bits)=((n*2^8:Nat):Int):=by
  show(n:Int)*2^8=_
  omega
 rw[e1,wrapS (by omega) (by omega),wrapS (z:=Bt x) (by unfold Bt;omega) (by unfold Bt;omega)]
 exact or_at n x.toNat 8 hx (by omega)
theorem num4_or(b:List UInt8):bits .or .i64 (IntKind.i64.wrap (bits .or .i64 (IntKind.i64.wrap (bits .or .i64 (IntKind.i64.wrap (bits .or .i64 (0*2^min 8 IntKind.i64.bits) (IntKind.i64.wrap (Bt (b.getD 0 0)))*2^min 8 IntKind.i64.bits)) (IntKind.i64.wrap (Bt (b.getD 1 0)))*2^min 8 IntKind.i64.bits)) (IntKind.i64.wrap (Bt (b.getD 2 0)))*2^min 8 IntKind.i64.bits)) (IntKind.i64.wrap (Bt (b.getD 3 0)))=num4 b:=by
 have h0:=UInt8.toNat_lt (b.getD 0 0)
 have h1:=UInt8.toNat_lt (b.getD 1 0)
 have h2:=UInt8.toNat_lt (b.getD 2 0)
 have s0:bits .or .i64 (0*2^min 8 IntKind.i64.bits) (IntKind.i64.wrap (Bt (b.getD 0 0)))=(((b.getD 0 0).toNat:Nat):Int):=by
  have h:=or_step 0 (by omega) (b.getD 0 0)
  rw[Nat.zero_mul,Nat.zero_add]at h
  rw[←h]
  congr 1
 rw[s0,or_step _ (by omega),or_step _ (by omega),or_step _ (by omega),num4]
theorem beq_toList(p q:List UInt8):((ByteArray.mk p.toArray).toList==(ByteArray.mk q.toArray).toList)=(p==q):=by rw[ByteArray.toList_mk,ByteArray.toList_mk]
set_option maxHeartbeats 1000000 in
theorem equal_fn(p q:List UInt8)(hp:p.length≤1000000)(hq:q.length≤1000000):FnO 202 [.row p.length [.bytes p.length p],.row q.length [.bytes q.length q]] (.d (.v (.bool (p==q)))):=by
 refine fnA (E:=envBj) Tryz.func202 Tryz.ntmps202 ?_
 have e1:(ByteArray.mk p.toArray).size=p.length:=by show p.toArray.size=_;simp
 have e2:(ByteArray.mk q.toArray).size=q.length:=by show q.toArray.size=_;simp
 refine agow ?_;(try exact⟨⟩)
 rw[beq_toList]
def equalS:List A→(Res→Prop)→Prop
 |[x,y],K=>rowK x fun p=>rowK y fun q=>p.length≤1000000∧q.length≤1000000∧K (.d (.v (.bool (p==q))))
 |_,_=>False
theorem equalS_ok:∀args K,equalS args K→∃r,FnO 202 args r∧K r:=by
 intro args K h
 unfold equalS at h
 split at h
 ·obtain⟨p,h,hp⟩:=rowK_row h
  obtain⟨q,⟨h1,h2,h⟩,hq⟩:=rowK_row h
  refine⟨_,fun S w vs hG ha=>?_,h⟩
  obtain⟨v1,v2,rfl,k1,k2⟩:=ra_two ha
  exact equal_fn p q h1 h2 S w _ hG (.cons (hp k1) (.cons (hq k2) .nil))
 ·exact h.elim
set_option maxHeartbeats 1000000 in
theorem number_fn(b:List UInt8):FnO 201 [.row 4 [.bytes 4 b]] (.d (.v (.int .i64 (num4 b)))):=by
 refine fnA (E:=envBj) Tryz.func201 Tryz.ntmps201 ?_
 refine agow ?_;(try exact⟨⟩)
 refine StopL.mk (loop_unroll 5 ?_)
 refine agow ?_;(try exact⟨⟩)
 rw[num4_or]
def numberS:List A→(Res→Prop)→Prop
 |[.row 4 [.bytes 4 b]],K=>K (.d (.v (.int .i64 (num4 b))))
 |_,_=>False
theorem numberS_ok:∀args K,numberS args K→∃r,FnO 201 args r∧K r:=by
 intro args K h
 unfold numberS at h
 split at h
 ·exact⟨_,number_fn _,h⟩
 ·exact h.elim
noncomputable def envBk:EnvX:=envBj.add 202 equalS equalS_ok ⟨_,Tryz.func202,by kernel_rfl,by kernel_rfl⟩
noncomputable def envBl:EnvX:=envBk.add 201 numberS numberS_ok ⟨_,Tryz.func201,by kernel_rfl,by kernel_rfl⟩
def openOk(x:Int)(b:List UInt8):Bool:=isI (num4 b)&&((b.drop 4).take 8==tagW (shW (num4 b) x) (b.take 4) (b.drop 12))
def openE(x:Int)(b:List UInt8):Int:=if b.length<12∨b.length>212 then 2 else if openOk x b=true then 0 else 3
def openB(x:Int)(b:List UInt8):List UInt8:=xorW (shW (num4 b) x) (b.drop 12)
def openR(x:Int)(b:List UInt8):List A:=if openE x b=0 then[.row (b.length-12) [.bytes (b.length-12) (openB x b)],.v (.int .i64 0)]else[.v (.slice none 0 0),.v (.int .i64 (openE x b))]
theorem num4_take(b:List UInt8):num4 (b.take 4)=num4 b:=by
 have h:∀i,i<4→(b.take 4).getD i 0=b.getD i 0:=fun i hi=>by simp[List.getD_eq_getElem?_getD,List.getElem?_take,hi]
 unfold num4
 rw[h 0 (by omega),h 1 (by omega),h 2 (by omega),h 3 (by omega)]
attribute [local irreducible] num4
set_option maxHeartbeats 1000000 in
theorem open_fn(s:Int)(b:List UInt8)(hb:b.length≤1000000):FnMO 141 0 (.obj (KeyP s)) [.row b.length [.bytes b.length b]] (.t (openR s b)) (.obj (KeyP s)):=by
 refine fnMA (E:=envBl) Tryz.func141 Tryz.ntmps141 ?_
 by_cases h1:b.length<12
 ·have e:openE s b=2:=by unfold openE;rw[if_pos (.inl h1)]
  have h2:(b.length:Int)<12:=by omega
  rw[openR,if_neg (by rw[e];decide),e]
  clear e h1
  refine agow ?_;(try exact⟨⟩)
 by_cases h3:b.length>212
 ·have e:openE s b=2:=by unfold openE;rw[if_pos (.inr h3)]
  have h2:¬(b.length:Int)<12:=by omega
  have h4:(b.length:Int)>212:=by omega
  rw[openR,if_neg (by rw[e];decide),e]
  clear e h1 h3
  refine agow ?_;(try exact⟨⟩)
 have h2:¬(b.length:Int)<12:=by omega
 have h4:¬(b.length:Int)>212:=by omega
 have e4:(b.take 4).length=4:=by simp;omega
 have e8:((b.drop 4).take 8).length=8:=by simp;omega
 have ed:(b.drop 12).take (b.length-12)=b.drop 12:=List.take_of_length_le (by simp)
 have el:(b.drop 12).length=b.length-12:=by simp
 have en:=num4_take b
 have hE:openE s b=if openOk s b=true then 0 else 3:=by unfold openE;rw[if_neg (by omega)]
 have ht:=tagW_length (shW (num4 b) s) (b.take 4) (b.drop 12)
 cases hi:isI (num4 b)with
 |false=>
  have e:openE s b=3:=by rw[hE,openOk,hi];rfl
  rw[openR,if_neg (by rw[e];decide),e]
  clear e hE ht h1 h3
  refine agow ?_;(try exact⟨⟩)
 |true=>
  refine agow ?_;(try exact⟨⟩)
  rw[en,ed]
  cases hq:(b.drop 4).take 8==tagW (shW (num4 b) s) (b.take 4) (b.drop 12)with
  |true=>
   have e:openE s b=0:=by rw[hE,openOk,hi,hq];rfl
   rw[openR,if_pos e]
   clear e hE h1 h3
   refine agow ?_;(try exact⟨⟩)
   rw[openB,el]
  |false=>
   have e:openE s b=3:=by rw[hE,openOk,hi,hq];rfl
   rw[openR,if_neg (by rw[e];decide),e]
   clear e hE h1 h3
   refine agow ?_;(try exact⟨⟩)
def opnK(s:Int)(b:List UInt8)(K:List A→Prop):Prop:=
 StopC (condK (decide (openE s b=0)) (K [.row (b.length-12) [.bytes (b.length-12) (openB s b)],.v (.int .i64 0)]) (K [.v (.slice none 0 0),.v (.int .i64 (openE s b))]))
theorem opnK_spec{s:Int}{b:List UInt8}{K:List A→Prop}(h:opnK s b K):K (openR s b):=by
 have h:=h.out
 unfold openR
 by_cases he:openE s b=0
 ·rw[decide_eq_true he,condK_true]at h
  rw[if_pos he]
  exact h
 ·rw[decide_eq_false he,condK_false]at h
  rw[if_neg he]
  exact h
def openM:Nat→Bk→List A→(Res→Bk→Prop)→Prop
 |0,.obj P,[x],K=>∃s,P=KeyP s∧rowK x fun b=>b.length≤1000000∧opnK s b fun l=>K (.t l) (.obj (KeyP s))
 |_,_,_,_=>False
theorem openM_ok:∀pos x args K,openM pos x args K→∃r x',FnMO 141 pos x args r x'∧K r x':=by
 intro pos x args K h
 unfold openM at h
 split at h
 ·obtain⟨s,rfl,h⟩:=h
  obtain⟨b,⟨hb,h⟩,hv⟩:=rowK_row h
  refine⟨_,_,fun S w r vs hr hG hx ha=>?_,opnK_spec h⟩
  obtain⟨v,rfl,h3⟩:=ra_one ha
  exact open_fn s b hb S w r _ hr hG hx (.cons (hv h3) .nil)
 ·exact h.elim
noncomputable def envBm:EnvX:=envBl.addM 141 openM openM_ok ⟨_,Tryz.func141,by kernel_rfl,by kernel_rfl⟩
noncomputable def envBn:EnvX:=envBm
end
end Go.Proofs.YtbdmnobocecnfaaGreatDoor
