/-
  Boxes, as the machine without memory reckons them: streams laid over bytes.
-/
import Derived.Test.YtjdjelopkhjdnaaGreatDoorJ31
namespace Go.Proofs.YtjdjelopkhjdnaaGreatDoor
set_option linter.unusedVariables false
set_option linter.unusedSimpArgs false
set_option maxRecDepth 100000
open Go.RowKit
section
open Pm
attribute [local irreducible] aV aZ bQ aA au dA cK bC aF bW
def F5(s:List UInt8)(k:Nat):List UInt8:=if k=0 then List.replicate 32 0 else mE s ((k-1) / 32)
theorem Dy(s:List UInt8)(k:Nat)(h:¬k%32=0):F5 s k=mE s (k / 32):=by
 unfold F5;rw[if_neg (by omega),show(k-1) / 32=k / 32 by omega]
theorem Dx(s:List UInt8)(k:Nat):F5 s (k+1)=mE s (k / 32):=by
 unfold F5;rw[if_neg (by omega),Nat.add_sub_cancel]
theorem aF7(k:Nat):Int.tdiv (k:Int) 32=((k / 32:Nat):Int):=by rw[Int.tdiv_eq_ediv_of_nonneg (by omega)];omega
theorem aF8(k:Nat):Int.tmod (k:Int) 32=((k%32:Nat):Int):=by rw[Int.tmod_eq_emod_of_nonneg (by omega)];omega
theorem GU(s:List UInt8)(k:Nat):aF s (sb ⟨#[115,116,114,101,97,109]⟩) (bC ((k / 32:Nat):Int))=mE s (k / 32):=rfl
theorem Yf(n:Nat):(List.replicate n [(0:UInt8)]).flatten=List.replicate n 0:=by
 induction n with
 |zero=>rfl
 |succ n ih=>rw[List.replicate_succ,List.flatten_cons,ih];rfl
theorem ai7(a b:UInt8):0≤bits .xor .u8 (Bt a) (Bt b)∧bits .xor .u8 (Bt a) (Bt b)<256∧UInt8.ofNat (bits .xor .u8 (Bt a) (Bt b)).toNat=a^^^b:=by
 rw[aG6]
 have:=UInt8.toNat_lt (a^^^b)
 unfold Bt
 refine⟨by omega,by omega,?_⟩
 rw[Int.toNat_natCast,UInt8.ofNat_toNat]
theorem VT(s p:List UInt8)(k:Nat)(h:k<p.length):(kP s p).take (k+1)=(kP s p).take k++[p.getD k 0^^^(mE s (k / 32)).getD (k%32) 0]:=by
 have hl:k<(kP s p).length:=by rw[fD];exact h
 rw[List.take_succ_eq_append_getElem hl]
 have h4:=zH s p k h
 rw[List.getElem?_eq_getElem hl]at h4
 rw[Option.some.inj h4,List.getD_eq_getElem?_getD (l:=p),List.getElem?_eq_getElem h]
 rfl
theorem MZ(n:Nat):QC n uW.zero=[.bytes n (List.replicate n 0)]:=by
 show[Seg.bytes (n*1) (List.replicate n [(0:UInt8)]).flatten]=_
 rw[Nat.mul_one,Yf]
set_option maxHeartbeats 1000000 in
theorem ax9(s p:List UInt8)(hp:p.length≤100000):aQ 157 [.agg [.bytes 32 s],.row p.length [.bytes p.length p]] (.o 5 1 p.length [.bytes p.length (kP s p)]):=by
 refine dF (E:=XI) Tryz.func157 Tryz.ntmps157 ?_
 refine aj ?_;(try exact⟨⟩)
 refine aM.mk (bV [2,5,6,12,13,14] [0,1,2] p.length (fun j=>⟨[.ah,.ah,.ptr 0 0,.ah,.ah,.own 1 p.length,.ptr 2 0,.ah,.ah,.ah,.ah,.ah,.d (.row p.length [.bytes p.length p]),.d (.v (.int .i64 p.length)),.d (.v (.int .i64 (j:Nat))),.ah,.ah,.ah,.ah,.ah,.ah,.ah,.ah,.ah,.ah,.ah,.ah,.ah,.ah,.ah,.ah,.ah,.ah,.ah,.ah,.ah,.ah,.ah,.ah],[some (.var [.bytes 32 s]),some (.sl 5 1 p.length [.bytes p.length (Bc s p j)]),some (.var [.bytes 32 (F5 s j)])]⟩) ?_ (h2:=by rw[MZ,O4];rfl))
 intro j hj hl
 by_cases h:j<p.length
 ·have h1:(j:Int)<(p.length:Int):=by omega
  have hm:=aF8 j
  have hd:=aF7 j
  have hst:=GU s j
  have hnx:=Dx s j
  obtain⟨x0,x1,x2⟩:=ai7 (p.getD j 0) ((mE s (j / 32)).getD (j%32) 0)
  have hps:=UJ s p j h
  have hb1:((j%32:Nat):Int)<32:=by omega
  have hgp:p[j]=p.getD j 0:=by rw[List.getD_eq_getElem?_getD,List.getElem?_eq_getElem h];rfl
  rw[hgp]at hps
  obtain⟨N,hN⟩:∃N,p.length=N+1:=⟨p.length-1,by omega⟩
  by_cases h3:j%32=0
  ·have e:((j:Int).tmod 32==0)=true:=by rw[hm,h3];rfl
   rw[hN]at hl h1 ⊢
   refine aj ?_;(try exact⟨⟩)
   rw[hd,hst,hm,Int.toNat_natCast]
   refine aj ?_;(try exact⟨⟩)
   refine hl.go (hN▸h) [2,5,6,12,13,14] [0,1,2] ?_
   show gather _ _ _=St.mk _ _
   rw[←hps,←x2,hnx]
   rfl
  ·have e:((j:Int).tmod 32==0)=false:=by rw[hm];simp;omega
   have hh:=Dy s j h3
   rw[hN]at hl h1 ⊢
   refine aj ?_;(try exact⟨⟩)
   rw[hh,hm,Int.toNat_natCast]
   refine aj ?_;(try exact⟨⟩)
   refine hl.go (hN▸h) [2,5,6,12,13,14] [0,1,2] ?_
   show gather _ _ _=St.mk _ _
   rw[←hps,←x2,hnx]
   rfl
 ·obtain rfl:j=p.length:=by omega
  have h1:¬(p.length:Int)<(p.length:Int):=by omega
  rw[UH]
  refine aj ?_;(try exact⟨⟩)
set_option maxHeartbeats 1000000 in
theorem aw3(s p:List UInt8)(hp:p.length≤100000):aQ 108 [.agg [.bytes 32 s],.row p.length [.bytes p.length p]] (.o 5 1 p.length [.bytes p.length (kP s p)]):=by
 refine dF (E:=XI) Tryz.func108 Tryz.ntmps108 ?_
 refine aj ?_;(try exact⟨⟩)
 refine aM.mk (jk [1,2,5,6,7] [0,1,2] 5 5 1 [.bytes 0 []] p.length (fun j=>⟨[.ah,.d (.row p.length [.bytes p.length p]),.ptr 0 0,.ah,.ah,.own 2 j,.ptr 1 0,.d (.v (.int .i64 (j:Nat))),.ah,.ah,.ah,.ah,.ah,.ah,.ah,.ah,.ah,.ah,.ah,.ah,.ah,.ah,.ah,.ah,.ah,.ah,.ah,.ah,.ah,.ah,.ah,.ah,.ah,.ah,.ah,.ah],[some (.var [.bytes 32 s]),some (.var [.bytes 32 (F5 s j)]),some (.sl 5 1 j [.bytes j ((kP s p).take j)])]⟩) ?_ (h2:=by rw[List.take_zero];rfl))
 intro j hj hl
 by_cases h:j<p.length
 ·have h1:(j:Int)<(p.length:Int):=by omega
  have hm:=aF8 j
  have hd:=aF7 j
  have hst:=GU s j
  have hnx:=Dx s j
  have hf4:(bC ((j / 32:Nat):Int)).length=4:=by unfold bC;rfl
  obtain⟨x0,x1,x2⟩:=ai7 (p.getD j 0) ((mE s (j / 32)).getD (j%32) 0)
  have hps:=VT s p j h
  have hb1:((j%32:Nat):Int)<32:=by omega
  by_cases h3:j%32=0
  ·have e:((j:Int).tmod 32==0)=true:=by rw[hm,h3];rfl
   rw[←hd]at hf4
   refine aj ?_;(try exact⟨⟩)
   rw[hd,hst,hm,Int.toNat_natCast]
   refine aj ?_;(try exact⟨⟩)
   refine hl.go h [1,2,5,6,7] [0,1,2] ?_
   show gather _ _ _=St.mk _ _
   rw[hps,←x2,hnx]
   rfl
  ·have e:((j:Int).tmod 32==0)=false:=by rw[hm];simp;omega
   have hh:=Dy s j h3
   refine aj ?_;(try exact⟨⟩)
   rw[hh,hm,Int.toNat_natCast]
   refine aj ?_;(try exact⟨⟩)
   refine hl.go h [1,2,5,6,7] [0,1,2] ?_
   show gather _ _ _=St.mk _ _
   rw[hps,←x2,hnx]
   rfl
 ·obtain rfl:j=p.length:=by omega
  have h1:¬(p.length:Int)<(p.length:Int):=by omega
  rw[List.take_of_length_le (Nat.le_of_eq (fD s p))]
  refine aj ?_;(try exact⟨⟩)
def R5(g:List UInt8→List UInt8→bP):List A→(bP→Prop)→Prop
 |[.agg [.bytes 32 h],x],K=>pO x fun p=>p.length≤100000∧K (g h p)
 |_,_=>False
theorem L9{f:FuncId}{g:List UInt8→List UInt8→bP}(hx:∀h p,p.length≤100000→aQ f [.agg [.bytes 32 h],.row p.length [.bytes p.length p]] (g h p)):∀args K,R5 g args K→∃r,aQ f args r∧K r:=by
 intro args K h
 unfold R5 at h
 split at h
 ·obtain⟨p,⟨h1,h⟩,hp⟩:=iw h
  refine⟨_,fun S w vs hG ha=>?_,h⟩
  obtain⟨v1,v2,rfl,k1,k2⟩:=lH ha
  exact hx _ p h1 S w _ hG (.cons k1 (.cons (hp k2) .nil))
 ·exact h.elim
noncomputable def aY1:av:=XI.add 157 (R5 fun h p=>.d (.row p.length [.bytes p.length (kP h p)])) (L9 fun s p hp=>mQ (ax9 s p hp)) ⟨_,Tryz.func157,by kernel_rfl,by kernel_rfl⟩
noncomputable def CZ:av:=aY1.add 108 (R5 fun h p=>.d (.row p.length [.bytes p.length (kP h p)])) (L9 fun s p hp=>mQ (aw3 s p hp)) ⟨_,Tryz.func108,by kernel_rfl,by kernel_rfl⟩
abbrev Sw(f:FuncId)(args:List A)(res:bP):Prop:=FnF Tryz.prog gTab f args res
def Bl(y x:Int)(p:List UInt8):List A:=[.row (bI y x p).length [.bytes (bI y x p).length (bI y x p)],.v (.int .i64 (Sc y p))]
theorem vW{y:Int}{p:List UInt8}(h:¬(cK y=true∧p.length≤200)):qR y p=false:=by
 unfold qR
 cases h1:cK y with
 |false=>rfl
 |true=>rw[Bool.true_and];exact decide_eq_false fun h2=>h ⟨h1,h2⟩
theorem zu{f:FuncId}{args:List A}{y x:Int}{p:List UInt8}(hs:qR y p=false)(h:Sw f args (.t [.v (.slice none 0 0),.v (.int .i64 1)])):Sw f args (.t (Bl y x p)):=by
 unfold Bl bI Sc
 rw[hs]
 intro S w vs hG ha
 refine(h S w vs hG ha).mono ?_
 rintro e w' ⟨v,h1,⟨vs',h2,h3⟩,h4⟩
 refine⟨v,h1,⟨vs',h2,?_⟩,h4⟩
 cases h3 with
 |cons k r=>
  rw[RA.plain k]
  exact .cons (.row (cs:=[]) (.ofBytes rfl rfl) (Nat.le_refl _) (Nat.zero_le _) (fun _=>rfl) (.inl rfl)) r
theorem p9(y x:Int)(p:List UInt8):(um y x p).length=12+p.length:=by
 unfold um
 rw[List.length_append,List.length_append,jv,fD,show(bC (aA 4 x)).length=4 by unfold bC;rfl]
theorem Mj{y x:Int}{p:List UInt8}(h:cK y=true)(h2:p.length≤200):bI y x p=um y x p∧Sc y p=0:=by
 have hs:qR y p=true:=by unfold qR;rw[h,decide_eq_true h2];rfl
 unfold bI Sc
 rw[hs]
 exact⟨rfl,rfl⟩
attribute [local irreducible] kP wB
set_option maxHeartbeats 1000000 in
theorem Sd(y:Int)(d p:List UInt8)(hp:p.length≤1000000):Sw 84 [.v (.int .i64 y),.agg [.bytes 32 d],.row p.length [.bytes p.length p]] (.t (Bl y (au d) p)):=by
 by_cases hy:cK y=true
 ·by_cases hl:p.length≤200
  ·have hn:¬(p.length:Int)>200:=by omega
   have hb:=fZ d
   have hb0:0≤au d:=by omega
   have hb1:au d<1073741789:=hb.2
   have e:=p9 y (au d) p
   have hx:=fD (ug y (au d)) p
   have ht:=jv (ug y (au d)) (bC (aA 4 (au d))) (kP (ug y (au d)) p)
   have hf:(bC (aA 4 (au d))).length=4:=by unfold bC;rfl
   obtain⟨e1,e2⟩:=Mj (x:=au d) hy hl
   unfold Bl
   rw[e1,e2]
   clear e1 e2
   refine TJ (E:=CZ) Tryz.func84 Tryz.ntmps84 ?_
   refine aj ?_;(try exact⟨⟩)
   unfold um
   rw[List.append_assoc]
  ·refine zu (vW fun h=>hl h.2) ?_
   have hn:(p.length:Int)>200:=by omega
   clear hl
   refine TJ (E:=CZ) Tryz.func84 Tryz.ntmps84 ?_
   refine aj ?_;(try exact⟨⟩)
 ·refine zu (vW fun h=>hy h.1) ?_
  have hy:=Bool.eq_false_iff.2 hy
  refine TJ (E:=CZ) Tryz.func84 Tryz.ntmps84 ?_
  refine aj ?_;(try exact⟨⟩)
set_option maxHeartbeats 1000000 in
theorem Mc(y:Int)(d p:List UInt8)(hp:p.length≤1000000):Sw 48 [.v (.int .i64 y),.agg [.bytes 32 d],.row p.length [.bytes p.length p]] (.t (Bl y (au d) p)):=by
 by_cases hy:cK y=true
 ·by_cases hl:p.length≤200
  ·have hn:¬(p.length:Int)>200:=by omega
   have hb:=fZ d
   have hb0:0≤au d:=by omega
   have hb1:au d<1073741789:=hb.2
   have e:=p9 y (au d) p
   have hx:=fD (ug y (au d)) p
   have ht:=jv (ug y (au d)) (bC (aA 4 (au d))) (kP (ug y (au d)) p)
   have hf:(bC (aA 4 (au d))).length=4:=by unfold bC;rfl
   obtain⟨e1,e2⟩:=Mj (x:=au d) hy hl
   unfold Bl
   rw[e1,e2]
   clear e1 e2
   refine TJ (E:=CZ) Tryz.func48 Tryz.ntmps48 ?_
   refine aj ?_;(try exact⟨⟩)
   unfold um
   rw[List.append_assoc]
  ·refine zu (vW fun h=>hl h.2) ?_
   have hn:(p.length:Int)>200:=by omega
   clear hl
   refine TJ (E:=CZ) Tryz.func48 Tryz.ntmps48 ?_
   refine aj ?_;(try exact⟨⟩)
 ·refine zu (vW fun h=>hy h.1) ?_
  have hy:=Bool.eq_false_iff.2 hy
  refine TJ (E:=CZ) Tryz.func48 Tryz.ntmps48 ?_
  refine aj ?_;(try exact⟨⟩)
def GQ:List A→(bP→Prop)→Prop
 |[.v (.int .i64 y),.agg [.bytes 32 d],x],K=>pO x fun p=>p.length≤1000000∧K (.t (Bl y (au d) p))
 |_,_=>False
theorem zq{f:FuncId}(hx:∀y d p,p.length≤1000000→Sw f [.v (.int .i64 y),.agg [.bytes 32 d],.row p.length [.bytes p.length p]] (.t (Bl y (au d) p))):∀args K,GQ args K→∃r,aQ f args r∧Sw f args r∧K r:=by
 intro args K h
 unfold GQ at h
 split at h
 ·obtain⟨p,⟨h1,h⟩,hp⟩:=iw h
  refine⟨_,fun S w vs hG ha=>?_,fun S w vs hG ha=>?_,h⟩
  ·obtain⟨v1,v2,v3,rfl,k1,k2,k3⟩:=jC ha
   exact FnF.okT (hx _ _ p h1) S w _ hG (.cons k1 (.cons k2 (.cons (hp k3) .nil)))
  ·obtain⟨v1,v2,v3,rfl,k1,k2,k3⟩:=jC ha
   exact hx _ _ p h1 S w _ hG (.cons k1 (.cons k2 (.cons (hp k3) .nil)))
 ·exact h.elim
noncomputable def aY2:av:=CZ.ak4 84 GQ (zq Sd) ⟨_,Tryz.func84,by kernel_rfl,by kernel_rfl⟩
noncomputable def XJ:av:=aY2.ak4 48 GQ (zq Mc) ⟨_,Tryz.func48,by kernel_rfl,by kernel_rfl⟩
end
section
open Pm
attribute [local irreducible] aV aZ bQ aA au dA cK bC aF bW kP wB ug
def pF(b:List UInt8):Int:=((((b.getD 0 0).toNat*256+(b.getD 1 0).toNat)*256+(b.getD 2 0).toNat)*256+(b.getD 3 0).toNat:Nat)
theorem Ry(a b i:Nat)(hb:b<2^i)(hs:a*2^i+b<9223372036854775808):bits .or .i64 ((a*2^i:Nat):Int) (b:Int)=((a*2^i+b:Nat):Int):=by
 show IntKind.i64.wrap ((BitVec.ofInt 64 ((a*2^i:Nat):Int)|||BitVec.ofInt 64 (b:Int)).toNat:Int)=_
 rw[BitVec.ofInt_natCast,BitVec.ofInt_natCast,BitVec.toNat_or,BitVec.toNat_ofNat,BitVec.toNat_ofNat,Nat.mod_eq_of_lt (by omega),Nat.mod_eq_of_lt (by omega)]
 have h:=Nat.shiftLeft_add_eq_or_of_lt hb a
 rw[Nat.shiftLeft_eq]at h
 rw[←h,IntWalk.i64_in _ (by omega)]
theorem Cg(n:Nat)(hn:n<1099511627776)(x:UInt8):bits .or .i64 (IntKind.i64.wrap ((n:Int)*2^min 8 IntKind.i64.bits)) (IntKind.i64.wrap (Bt x))=((n*256+x.toNat:Nat):Int):=by
 have hx:=UInt8.toNat_lt x
 have e1:((n:Int)*2^min 8 IntKind.i64.bits)=((n*2^8:Nat):Int):=by
  show(n:Int)*2^8=_
  omega
 rw[e1,dM (by omega) (by omega),dM (z:=Bt x) (by unfold Bt;omega) (by unfold Bt;omega)]
 exact Ry n x.toNat 8 hx (by omega)
theorem as3(b:List UInt8):bits .or .i64 (IntKind.i64.wrap (bits .or .i64 (IntKind.i64.wrap (bits .or .i64 (IntKind.i64.wrap (bits .or .i64 (0*2^min 8 IntKind.i64.bits) (IntKind.i64.wrap (Bt (b.getD 0 0)))*2^min 8 IntKind.i64.bits)) (IntKind.i64.wrap (Bt (b.getD 1 0)))*2^min 8 IntKind.i64.bits)) (IntKind.i64.wrap (Bt (b.getD 2 0)))*2^min 8 IntKind.i64.bits)) (IntKind.i64.wrap (Bt (b.getD 3 0)))=pF b:=by
 have h0:=UInt8.toNat_lt (b.getD 0 0)
 have h1:=UInt8.toNat_lt (b.getD 1 0)
 have h2:=UInt8.toNat_lt (b.getD 2 0)
 have s0:bits .or .i64 (0*2^min 8 IntKind.i64.bits) (IntKind.i64.wrap (Bt (b.getD 0 0)))=(((b.getD 0 0).toNat:Nat):Int):=by
  have h:=Cg 0 (by omega) (b.getD 0 0)
  rw[Nat.zero_mul,Nat.zero_add]at h
  rw[←h]
  congr 1
 rw[s0,Cg _ (by omega),Cg _ (by omega),Cg _ (by omega),pF]
theorem Zt(b:List UInt8):bits .or .i64 (bits .or .i64 (bits .or .i64 (IntKind.i64.wrap (IntKind.i64.wrap (Bt (b.getD 0 0))*2^min 24 IntKind.i64.bits)) (IntKind.i64.wrap (IntKind.i64.wrap (Bt (b.getD 1 0))*2^min 16 IntKind.i64.bits))) (IntKind.i64.wrap (IntKind.i64.wrap (Bt (b.getD 2 0))*2^min 8 IntKind.i64.bits))) (IntKind.i64.wrap (Bt (b.getD 3 0)))=pF b:=by
 have h0:=UInt8.toNat_lt (b.getD 0 0)
 have h1:=UInt8.toNat_lt (b.getD 1 0)
 have h2:=UInt8.toNat_lt (b.getD 2 0)
 have h3:=UInt8.toNat_lt (b.getD 3 0)
 have w:∀x:UInt8,IntKind.i64.wrap (Bt x)=(x.toNat:Int):=fun x=>by have:=UInt8.toNat_lt x;exact dM (by unfold Bt;omega) (by unfold Bt;omega)
 have e0:IntKind.i64.wrap (((b.getD 0 0).toNat:Int)*2^min 24 IntKind.i64.bits)=(((b.getD 0 0).toNat*2^24:Nat):Int):=by
  rw[show((b.getD 0 0).toNat:Int)*2^min 24 IntKind.i64.bits=(((b.getD 0 0).toNat*2^24:Nat):Int) by show _*2^24=_;omega]
  exact dM (by omega) (by omega)
 have e1:IntKind.i64.wrap (((b.getD 1 0).toNat:Int)*2^min 16 IntKind.i64.bits)=(((b.getD 1 0).toNat*2^16:Nat):Int):=by
  rw[show((b.getD 1 0).toNat:Int)*2^min 16 IntKind.i64.bits=(((b.getD 1 0).toNat*2^16:Nat):Int) by show _*2^16=_;omega]
  exact dM (by omega) (by omega)
 have e2:IntKind.i64.wrap (((b.getD 2 0).toNat:Int)*2^min 8 IntKind.i64.bits)=(((b.getD 2 0).toNat*2^8:Nat):Int):=by
  rw[show((b.getD 2 0).toNat:Int)*2^min 8 IntKind.i64.bits=(((b.getD 2 0).toNat*2^8:Nat):Int) by show _*2^8=_;omega]
  exact dM (by omega) (by omega)
 rw[w,w,w,w,e0,e1,e2,Ry _ _ 24 (by omega) (by omega)]
 rw[show(b.getD 0 0).toNat*2^24+(b.getD 1 0).toNat*2^16=((b.getD 0 0).toNat*256+(b.getD 1 0).toNat)*2^16 by omega,Ry _ _ 16 (by omega) (by omega)]
 rw[show((b.getD 0 0).toNat*256+(b.getD 1 0).toNat)*2^16+(b.getD 2 0).toNat*2^8=(((b.getD 0 0).toNat*256+(b.getD 1 0).toNat)*256+(b.getD 2 0).toNat)*2^8 by omega,Ry _ _ 8 (by omega) (by omega),pF]
theorem beq_toList(p q:List UInt8):((ByteArray.mk p.toArray).toList==(ByteArray.mk q.toArray).toList)=(p==q):=by rw[ByteArray.toList_mk,ByteArray.toList_mk]
set_option maxHeartbeats 1000000 in
theorem X8(p q:List UInt8)(hp:p.length≤1000000)(hq:q.length≤1000000):aQ 184 [.row p.length [.bytes p.length p],.row q.length [.bytes q.length q]] (.d (.v (.bool (p==q)))):=by
 refine dF (E:=XJ) Tryz.func184 Tryz.ntmps184 ?_
 have e1:(ByteArray.mk p.toArray).size=p.length:=by show p.toArray.size=_;simp
 have e2:(ByteArray.mk q.toArray).size=q.length:=by show q.toArray.size=_;simp
 refine aj ?_;(try exact⟨⟩)
 rw[beq_toList]
def equalS:List A→(bP→Prop)→Prop
 |[x,y],K=>pO x fun p=>pO y fun q=>p.length≤1000000∧q.length≤1000000∧K (.d (.v (.bool (p==q))))
 |_,_=>False
theorem TB:∀args K,equalS args K→∃r,aQ 184 args r∧K r:=by
 intro args K h
 unfold equalS at h
 split at h
 ·obtain⟨p,h,hp⟩:=iw h
  obtain⟨q,⟨h1,h2,h⟩,hq⟩:=iw h
  refine⟨_,fun S w vs hG ha=>?_,h⟩
  obtain⟨v1,v2,rfl,k1,k2⟩:=lH ha
  exact X8 p q h1 h2 S w _ hG (.cons (hp k1) (.cons (hq k2) .nil))
 ·exact h.elim
set_option maxHeartbeats 1000000 in
theorem Ur(b:List UInt8):aQ 183 [.row 4 [.bytes 4 b]] (.d (.v (.int .i64 (pF b)))):=by
 refine dF (E:=XJ) Tryz.func183 Tryz.ntmps183 ?_
 refine aj ?_;(try exact⟨⟩)
 refine aM.mk (aB 5 ?_)
 refine aj ?_;(try exact⟨⟩)
 rw[as3]
def IU:List A→(bP→Prop)→Prop
 |[.row 4 [.bytes 4 b]],K=>K (.d (.v (.int .i64 (pF b))))
 |_,_=>False
theorem OH:∀args K,IU args K→∃r,aQ 183 args r∧K r:=by
 intro args K h
 unfold IU at h
 split at h
 ·exact⟨_,Ur _,h⟩
 ·exact h.elim
noncomputable def aY3:av:=XJ.add 184 equalS TB ⟨_,Tryz.func184,by kernel_rfl,by kernel_rfl⟩
noncomputable def XK:av:=aY3.add 183 IU OH ⟨_,Tryz.func183,by kernel_rfl,by kernel_rfl⟩
def pG(x:Int)(b:List UInt8):Bool:=cK (pF b)&&((b.drop 4).take 8==wB (ug (pF b) x) (b.take 4) (b.drop 12))
def bH(x:Int)(b:List UInt8):Int:=if b.length<12∨b.length>212 then 2 else if pG x b=true then 0 else 3
def bg(x:Int)(b:List UInt8):List UInt8:=kP (ug (pF b) x) (b.drop 12)
def qm(x:Int)(b:List UInt8):List A:=if bH x b=0 then[.row (b.length-12) [.bytes (b.length-12) (bg x b)],.v (.int .i64 0)]else[.v (.slice none 0 0),.v (.int .i64 (bH x b))]
theorem zZ(b:List UInt8):pF (b.take 4)=pF b:=by
 have h:∀i,i<4→(b.take 4).getD i 0=b.getD i 0:=fun i hi=>by simp[List.getD_eq_getElem?_getD,List.getElem?_take,hi]
 unfold pF
 rw[h 0 (by omega),h 1 (by omega),h 2 (by omega),h 3 (by omega)]
attribute [local irreducible] pF
set_option maxHeartbeats 1000000 in
theorem at7(s:Int)(b:List UInt8)(hb:b.length≤1000000):fK 138 0 (.obj (pX s)) [.row b.length [.bytes b.length b]] (.t (qm s b)) (.obj (pX s)):=by
 refine mP (E:=XK) Tryz.func138 Tryz.ntmps138 ?_
 by_cases h1:b.length<12
 ·have e:bH s b=2:=by unfold bH;rw[if_pos (.inl h1)]
  have h2:(b.length:Int)<12:=by omega
  rw[qm,if_neg (by rw[e];decide),e]
  clear e h1
  refine aj ?_;(try exact⟨⟩)
 by_cases h3:b.length>212
 ·have e:bH s b=2:=by unfold bH;rw[if_pos (.inr h3)]
  have h2:¬(b.length:Int)<12:=by omega
  have h4:(b.length:Int)>212:=by omega
  rw[qm,if_neg (by rw[e];decide),e]
  clear e h1 h3
  refine aj ?_;(try exact⟨⟩)
 have h2:¬(b.length:Int)<12:=by omega
 have h4:¬(b.length:Int)>212:=by omega
 have e4:(b.take 4).length=4:=by simp;omega
 have e8:((b.drop 4).take 8).length=8:=by simp;omega
 have ed:(b.drop 12).take (b.length-12)=b.drop 12:=List.take_of_length_le (by simp)
 have el:(b.drop 12).length=b.length-12:=by simp
 have en:=zZ b
 have hE:bH s b=if pG s b=true then 0 else 3:=by unfold bH;rw[if_neg (by omega)]
 have ht:=jv (ug (pF b) s) (b.take 4) (b.drop 12)
 cases hi:cK (pF b)with
 |false=>
  have e:bH s b=3:=by rw[hE,pG,hi];rfl
  rw[qm,if_neg (by rw[e];decide),e]
  clear e hE ht h1 h3
  refine aj ?_;(try exact⟨⟩)
 |true=>
  refine aj ?_;(try exact⟨⟩)
  rw[en,ed]
  cases hq:(b.drop 4).take 8==wB (ug (pF b) s) (b.take 4) (b.drop 12)with
  |true=>
   have e:bH s b=0:=by rw[hE,pG,hi,hq];rfl
   rw[qm,if_pos e]
   clear e hE h1 h3
   refine aj ?_;(try exact⟨⟩)
   rw[bg,el]
  |false=>
   have e:bH s b=3:=by rw[hE,pG,hi,hq];rfl
   rw[qm,if_neg (by rw[e];decide),e]
   clear e hE h1 h3
   refine aj ?_;(try exact⟨⟩)
set_option maxHeartbeats 1000000 in
theorem ab7(s y:Int)(b:List UInt8)(hb:b.length≤1000000):aQ 134 [.agg [.ints .i64 2 [s,y]],.row b.length [.bytes b.length b]] (.t (qm s b)):=by
 refine dF (E:=XK) Tryz.func134 Tryz.ntmps134 ?_
 by_cases h1:b.length<12
 ·have e:bH s b=2:=by unfold bH;rw[if_pos (.inl h1)]
  have h2:(b.length:Int)<12:=by omega
  rw[qm,if_neg (by rw[e];decide),e]
  clear e h1
  refine aj ?_;(try exact⟨⟩)
 by_cases h3:b.length>212
 ·have e:bH s b=2:=by unfold bH;rw[if_pos (.inr h3)]
  have h2:¬(b.length:Int)<12:=by omega
  have h4:(b.length:Int)>212:=by omega
  rw[qm,if_neg (by rw[e];decide),e]
  clear e h1 h3
  refine aj ?_;(try exact⟨⟩)
 have h2:¬(b.length:Int)<12:=by omega
 have h4:¬(b.length:Int)>212:=by omega
 have e4:(b.take 4).length=4:=by simp;omega
 have e8:((b.drop 4).take 8).length=8:=by simp;omega
 have ed:(b.drop 12).take (b.length-12)=b.drop 12:=List.take_of_length_le (by simp)
 have el:(b.drop 12).length=b.length-12:=by simp
 have en:=zZ b
 have hE:bH s b=if pG s b=true then 0 else 3:=by unfold bH;rw[if_neg (by omega)]
 have ht:=jv (ug (pF b) s) (b.take 4) (b.drop 12)
 have en2:=Zt b
 cases hi:cK (pF b)with
 |false=>
  have e:bH s b=3:=by rw[hE,pG,hi];rfl
  rw[qm,if_neg (by rw[e];decide),e]
  clear e hE ht h1 h3
  refine aj ?_;(try exact⟨⟩)
 |true=>
  have hz1:(ByteArray.mk (wB (ug (pF b) s) (b.take 4) (b.drop 12)).toArray).size=8:=by show(wB (ug (pF b) s) (b.take 4) (b.drop 12)).toArray.size=_;rw[List.size_toArray,ht]
  have hz2:(ByteArray.mk ((b.drop 4).take 8).toArray).size=8:=by show((b.drop 4).take 8).toArray.size=_;rw[List.size_toArray,e8]
  refine aj ?_;(try exact⟨⟩)
  rw[en2]
  refine aj ?_;(try exact⟨⟩)
  rw[ed]
  refine aj ?_;(try exact⟨⟩)
  rw[beq_toList,BEq.comm]
  clear hz1 hz2 en2
  cases hq:(b.drop 4).take 8==wB (ug (pF b) s) (b.take 4) (b.drop 12)with
  |true=>
   have e:bH s b=0:=by rw[hE,pG,hi,hq];rfl
   rw[qm,if_pos e]
   clear e hE h1 h3
   refine aj ?_;(try exact⟨⟩)
   rw[bg,ed,el]
  |false=>
   have e:bH s b=3:=by rw[hE,pG,hi,hq];rfl
   rw[qm,if_neg (by rw[e];decide),e]
   clear e hE h1 h3
   refine aj ?_;(try exact⟨⟩)
def aQ2(s:Int)(b:List UInt8)(K:List A→Prop):Prop:=
 mI (aV (decide (bH s b=0)) (K [.row (b.length-12) [.bytes (b.length-12) (bg s b)],.v (.int .i64 0)]) (K [.v (.slice none 0 0),.v (.int .i64 (bH s b))]))
theorem Gs{s:Int}{b:List UInt8}{K:List A→Prop}(h:aQ2 s b K):K (qm s b):=by
 have h:=h.out
 unfold qm
 by_cases he:bH s b=0
 ·rw[decide_eq_true he,iI]at h
  rw[if_pos he]
  exact h
 ·rw[decide_eq_false he,gQ]at h
  rw[if_neg he]
  exact h
def ZL:Nat→Bk→List A→(bP→Bk→Prop)→Prop
 |0,.obj P,[x],K=>∃s,P=pX s∧pO x fun b=>b.length≤1000000∧aQ2 s b fun l=>K (.t l) (.obj (pX s))
 |_,_,_,_=>False
theorem ZM:∀pos x args K,ZL pos x args K→∃r x',fK 138 pos x args r x'∧K r x':=by
 intro pos x args K h
 unfold ZL at h
 split at h
 ·obtain⟨s,rfl,h⟩:=h
  obtain⟨b,⟨hb,h⟩,hv⟩:=iw h
  refine⟨_,_,fun S w r vs hr hG hx ha=>?_,Gs h⟩
  obtain⟨v,rfl,h3⟩:=iL ha
  exact at7 s b hb S w r _ hr hG hx (.cons (hv h3) .nil)
 ·exact h.elim
def Pw:List A→(bP→Prop)→Prop
 |[.agg [.ints .i64 2 [s,y]],x],K=>pO x fun b=>b.length≤1000000∧aQ2 s b fun l=>K (.t l)
 |_,_=>False
theorem U6:∀args K,Pw args K→∃r,aQ 134 args r∧K r:=by
 intro args K h
 unfold Pw at h
 split at h
 ·obtain⟨b,⟨hb,h⟩,hv⟩:=iw h
  refine⟨_,fun S w vs hG ha=>?_,Gs h⟩
  obtain⟨v1,v2,rfl,k1,k2⟩:=lH ha
  exact ab7 _ _ b hb S w _ hG (.cons k1 (.cons (hv k2) .nil))
 ·exact h.elim
noncomputable def aY4:av:=XK.kr 138 ZL ZM ⟨_,Tryz.func138,by kernel_rfl,by kernel_rfl⟩
noncomputable def aY5:av:=aY4.add 134 Pw U6 ⟨_,Tryz.func134,by kernel_rfl,by kernel_rfl⟩
end
end Go.Proofs.YtjdjelopkhjdnaaGreatDoor
