/-
  Boxes, as the machine without memory reckons them: streams laid over bytes.
-/
import Derived.Test.YtjhgelfnmhdihaaGreatDoorJ31
namespace Go.Proofs.YtjhgelfnmhdihaaGreatDoor
set_option linter.unusedVariables false
set_option linter.unusedSimpArgs false
set_option maxRecDepth 100000
open Go.RowKit
section
open Pm
attribute [local irreducible] aU aZ bR aA au dB cO bD aF bZ
def Gj(s:List UInt8)(k:Nat):List UInt8:=if k=0 then List.replicate 32 0 else mK s ((k-1) / 32)
theorem DL(s:List UInt8)(k:Nat)(h:¬k%32=0):Gj s k=mK s (k / 32):=by
 unfold Gj;rw[if_neg (by omega),show(k-1) / 32=k / 32 by omega]
theorem DK(s:List UInt8)(k:Nat):Gj s (k+1)=mK s (k / 32):=by
 unfold Gj;rw[if_neg (by omega),Nat.add_sub_cancel]
theorem aH0(k:Nat):Int.tdiv (k:Int) 32=((k / 32:Nat):Int):=by rw[Int.tdiv_eq_ediv_of_nonneg (by omega)];omega
theorem aH1(k:Nat):Int.tmod (k:Int) 32=((k%32:Nat):Int):=by rw[Int.tmod_eq_emod_of_nonneg (by omega)];omega
theorem Hl(s:List UInt8)(k:Nat):aF s (sb ⟨#[115,116,114,101,97,109]⟩) (bD ((k / 32:Nat):Int))=mK s (k / 32):=rfl
theorem Yo(n:Nat):(List.replicate n [(0:UInt8)]).flatten=List.replicate n 0:=by
 induction n with
 |zero=>rfl
 |succ n ih=>rw[List.replicate_succ,List.flatten_cons,ih];rfl
theorem aj3(a b:UInt8):0≤bits .xor .u8 (Bt a) (Bt b)∧bits .xor .u8 (Bt a) (Bt b)<256∧UInt8.ofNat (bits .xor .u8 (Bt a) (Bt b)).toNat=a^^^b:=by
 rw[aH8]
 have:=UInt8.toNat_lt (a^^^b)
 unfold Bt
 refine⟨by omega,by omega,?_⟩
 rw[Int.toNat_natCast,UInt8.ofNat_toNat]
theorem Wd(s p:List UInt8)(k:Nat)(h:k<p.length):(kU s p).take (k+1)=(kU s p).take k++[p.getD k 0^^^(mK s (k / 32)).getD (k%32) 0]:=by
 have hl:k<(kU s p).length:=by rw[fJ];exact h
 rw[List.take_succ_eq_append_getElem hl]
 have h4:=zN s p k h
 rw[List.getElem?_eq_getElem hl]at h4
 rw[Option.some.inj h4,List.getD_eq_getElem?_getD (l:=p),List.getElem?_eq_getElem h]
 rfl
theorem Nh(n:Nat):QU n vg.zero=[.bytes n (List.replicate n 0)]:=by
 show[Seg.bytes (n*1) (List.replicate n [(0:UInt8)]).flatten]=_
 rw[Nat.mul_one,Yo]
set_option maxHeartbeats 1000000 in
theorem ay8(s p:List UInt8)(hp:p.length≤100000):aP 162 [.agg [.bytes 32 s],.row p.length [.bytes p.length p]] (.o 5 1 p.length [.bytes p.length (kU s p)]):=by
 refine dK (E:=XT) Tryz.func162 Tryz.ntmps162 ?_
 refine aj ?_;(try exact⟨⟩)
 refine aM.mk (bV [2,5,6,12,13,14] [0,1,2] p.length (fun j=>⟨[.ah,.ah,.ptr 0 0,.ah,.ah,.own 1 p.length,.ptr 2 0,.ah,.ah,.ah,.ah,.ah,.d (.row p.length [.bytes p.length p]),.d (.v (.int .i64 p.length)),.d (.v (.int .i64 (j:Nat))),.ah,.ah,.ah,.ah,.ah,.ah,.ah,.ah,.ah,.ah,.ah,.ah,.ah,.ah,.ah,.ah,.ah,.ah,.ah,.ah,.ah,.ah,.ah,.ah],[some (.var [.bytes 32 s]),some (.sl 5 1 p.length [.bytes p.length (Bn s p j)]),some (.var [.bytes 32 (Gj s j)])]⟩) ?_ (h2:=by rw[Nh,Po];rfl))
 intro j hj hl
 by_cases h:j<p.length
 ·have h1:(j:Int)<(p.length:Int):=by omega
  have hm:=aH1 j
  have hd:=aH0 j
  have hst:=Hl s j
  have hnx:=DK s j
  obtain⟨x0,x1,x2⟩:=aj3 (p.getD j 0) ((mK s (j / 32)).getD (j%32) 0)
  have hps:=U1 s p j h
  have hb1:((j%32:Nat):Int)<32:=by omega
  have hgp:p[j]=p.getD j 0:=by rw[List.getD_eq_getElem?_getD,List.getElem?_eq_getElem h];rfl
  rw[hgp]at hps
  obtain⟨N,hN⟩:∃N,p.length=N+1:=⟨p.length-1,by omega⟩
  by_cases h3:j%32=0
  ·have e:((j:Int).tmod 32==0)=true:=by rw[hm,h3];rfl
   rw[hN]at hl h1 ⊢
   refine aj ?_;(try exact⟨⟩)
   rw[hd,hst,hm,Int.toNat_natCast]
   refine aj ?_;(try exact⟨⟩)
   refine hl.go (hN▸h) [2,5,6,12,13,14] [0,1,2] ?_
   show gather _ _ _=St.mk _ _
   rw[←hps,←x2,hnx]
   rfl
  ·have e:((j:Int).tmod 32==0)=false:=by rw[hm];simp;omega
   have hh:=DL s j h3
   rw[hN]at hl h1 ⊢
   refine aj ?_;(try exact⟨⟩)
   rw[hh,hm,Int.toNat_natCast]
   refine aj ?_;(try exact⟨⟩)
   refine hl.go (hN▸h) [2,5,6,12,13,14] [0,1,2] ?_
   show gather _ _ _=St.mk _ _
   rw[←hps,←x2,hnx]
   rfl
 ·obtain rfl:j=p.length:=by omega
  have h1:¬(p.length:Int)<(p.length:Int):=by omega
  rw[U0]
  refine aj ?_;(try exact⟨⟩)
set_option maxHeartbeats 1000000 in
theorem ax2(s p:List UInt8)(hp:p.length≤100000):aP 146 [.agg [.bytes 32 s],.row p.length [.bytes p.length p]] (.o 5 1 p.length [.bytes p.length (kU s p)]):=by
 refine dK (E:=XT) Tryz.func146 Tryz.ntmps146 ?_
 refine aj ?_;(try exact⟨⟩)
 refine aM.mk (jw [1,2,5,6,7] [0,1,2] 5 5 1 [.bytes 0 []] p.length (fun j=>⟨[.ah,.d (.row p.length [.bytes p.length p]),.ptr 0 0,.ah,.ah,.own 2 j,.ptr 1 0,.d (.v (.int .i64 (j:Nat))),.ah,.ah,.ah,.ah,.ah,.ah,.ah,.ah,.ah,.ah,.ah,.ah,.ah,.ah,.ah,.ah,.ah,.ah,.ah,.ah,.ah,.ah,.ah,.ah,.ah,.ah,.ah,.ah],[some (.var [.bytes 32 s]),some (.var [.bytes 32 (Gj s j)]),some (.sl 5 1 j [.bytes j ((kU s p).take j)])]⟩) ?_ (h2:=by rw[List.take_zero];rfl))
 intro j hj hl
 by_cases h:j<p.length
 ·have h1:(j:Int)<(p.length:Int):=by omega
  have hm:=aH1 j
  have hd:=aH0 j
  have hst:=Hl s j
  have hnx:=DK s j
  have hf4:(bD ((j / 32:Nat):Int)).length=4:=by unfold bD;rfl
  obtain⟨x0,x1,x2⟩:=aj3 (p.getD j 0) ((mK s (j / 32)).getD (j%32) 0)
  have hps:=Wd s p j h
  have hb1:((j%32:Nat):Int)<32:=by omega
  by_cases h3:j%32=0
  ·have e:((j:Int).tmod 32==0)=true:=by rw[hm,h3];rfl
   rw[←hd]at hf4
   refine aj ?_;(try exact⟨⟩)
   rw[hd,hst,hm,Int.toNat_natCast]
   refine aj ?_;(try exact⟨⟩)
   refine hl.go h [1,2,5,6,7] [0,1,2] ?_
   show gather _ _ _=St.mk _ _
   rw[hps,←x2,hnx]
   rfl
  ·have e:((j:Int).tmod 32==0)=false:=by rw[hm];simp;omega
   have hh:=DL s j h3
   refine aj ?_;(try exact⟨⟩)
   rw[hh,hm,Int.toNat_natCast]
   refine aj ?_;(try exact⟨⟩)
   refine hl.go h [1,2,5,6,7] [0,1,2] ?_
   show gather _ _ _=St.mk _ _
   rw[hps,←x2,hnx]
   rfl
 ·obtain rfl:j=p.length:=by omega
  have h1:¬(p.length:Int)<(p.length:Int):=by omega
  rw[List.take_of_length_le (Nat.le_of_eq (fJ s p))]
  refine aj ?_;(try exact⟨⟩)
def Sm(g:List UInt8→List UInt8→bP):List A→(bP→Prop)→Prop
 |[.agg [.bytes 32 h],x],K=>pV x fun p=>p.length≤100000∧K (g h p)
 |_,_=>False
theorem Mr{f:FuncId}{g:List UInt8→List UInt8→bP}(hx:∀h p,p.length≤100000→aP f [.agg [.bytes 32 h],.row p.length [.bytes p.length p]] (g h p)):∀args K,Sm g args K→∃r,aP f args r∧K r:=by
 intro args K h
 unfold Sm at h
 split at h
 ·obtain⟨p,⟨h1,h⟩,hp⟩:=iD h
  refine⟨_,fun S w vs hG ha=>?_,h⟩
  obtain⟨v1,v2,rfl,k1,k2⟩:=lT ha
  exact hx _ p h1 S w _ hG (.cons k1 (.cons (hp k2) .nil))
 ·exact h.elim
noncomputable def aZ7:ay:=XT.add 162 (Sm fun h p=>.d (.row p.length [.bytes p.length (kU h p)])) (Mr fun s p hp=>mZ (ay8 s p hp)) ⟨_,Tryz.func162,by kernel_rfl,by kernel_rfl⟩
noncomputable def Dg:ay:=aZ7.add 146 (Sm fun h p=>.d (.row p.length [.bytes p.length (kU h p)])) (Mr fun s p hp=>mZ (ax2 s p hp)) ⟨_,Tryz.func146,by kernel_rfl,by kernel_rfl⟩
abbrev SN(f:FuncId)(args:List A)(res:bP):Prop:=FnF Tryz.prog gTab f args res
def Bv(y x:Int)(p:List UInt8):List A:=[.row (bK y x p).length [.bytes (bK y x p).length (bK y x p)],.v (.int .i64 (Sy y p))]
theorem wm{y:Int}{p:List UInt8}(h:¬(cO y=true∧p.length≤200)):qX y p=false:=by
 unfold qX
 cases h1:cO y with
 |false=>rfl
 |true=>rw[Bool.true_and];exact decide_eq_false fun h2=>h ⟨h1,h2⟩
theorem zD{f:FuncId}{args:List A}{y x:Int}{p:List UInt8}(hs:qX y p=false)(h:SN f args (.t [.v (.slice none 0 0),.v (.int .i64 1)])):SN f args (.t (Bv y x p)):=by
 unfold Bv bK Sy
 rw[hs]
 intro S w vs hG ha
 refine(h S w vs hG ha).mono ?_
 rintro e w' ⟨v,h1,⟨vs',h2,h3⟩,h4⟩
 refine⟨v,h1,⟨vs',h2,?_⟩,h4⟩
 cases h3 with
 |cons k r=>
  rw[RA.plain k]
  exact .cons (.row (cs:=[]) (.ofBytes rfl rfl) (Nat.le_refl _) (Nat.zero_le _) (fun _=>rfl) (.inl rfl)) r
theorem qh(y x:Int)(p:List UInt8):(uz y x p).length=12+p.length:=by
 unfold uz
 rw[List.length_append,List.length_append,jD,fJ,show(bD (aA 4 x)).length=4 by unfold bD;rfl]
theorem MG{y x:Int}{p:List UInt8}(h:cO y=true)(h2:p.length≤200):bK y x p=uz y x p∧Sy y p=0:=by
 have hs:qX y p=true:=by unfold qX;rw[h,decide_eq_true h2];rfl
 unfold bK Sy
 rw[hs]
 exact⟨rfl,rfl⟩
attribute [local irreducible] kU wG
set_option maxHeartbeats 1000000 in
theorem Sz(y:Int)(d p:List UInt8)(hp:p.length≤1000000):SN 106 [.v (.int .i64 y),.agg [.bytes 32 d],.row p.length [.bytes p.length p]] (.t (Bv y (au d) p)):=by
 by_cases hy:cO y=true
 ·by_cases hl:p.length≤200
  ·have hn:¬(p.length:Int)>200:=by omega
   have hb:=dL d
   have hb0:0≤au d:=by omega
   have hb1:au d<1073741789:=hb.2
   have e:=qh y (au d) p
   have hx:=fJ (uq y (au d)) p
   have ht:=jD (uq y (au d)) (bD (aA 4 (au d))) (kU (uq y (au d)) p)
   have hf:(bD (aA 4 (au d))).length=4:=by unfold bD;rfl
   obtain⟨e1,e2⟩:=MG (x:=au d) hy hl
   unfold Bv
   rw[e1,e2]
   clear e1 e2
   refine T9 (E:=Dg) Tryz.func106 Tryz.ntmps106 ?_
   refine aj ?_;(try exact⟨⟩)
   unfold uz
   rw[List.append_assoc]
  ·refine zD (wm fun h=>hl h.2) ?_
   have hn:(p.length:Int)>200:=by omega
   clear hl
   refine T9 (E:=Dg) Tryz.func106 Tryz.ntmps106 ?_
   refine aj ?_;(try exact⟨⟩)
 ·refine zD (wm fun h=>hy h.1) ?_
  have hy:=Bool.eq_false_iff.2 hy
  refine T9 (E:=Dg) Tryz.func106 Tryz.ntmps106 ?_
  refine aj ?_;(try exact⟨⟩)
set_option maxHeartbeats 1000000 in
theorem Mt(y:Int)(d p:List UInt8)(hp:p.length≤1000000):SN 67 [.v (.int .i64 y),.agg [.bytes 32 d],.row p.length [.bytes p.length p]] (.t (Bv y (au d) p)):=by
 by_cases hy:cO y=true
 ·by_cases hl:p.length≤200
  ·have hn:¬(p.length:Int)>200:=by omega
   have hb:=dL d
   have hb0:0≤au d:=by omega
   have hb1:au d<1073741789:=hb.2
   have e:=qh y (au d) p
   have hx:=fJ (uq y (au d)) p
   have ht:=jD (uq y (au d)) (bD (aA 4 (au d))) (kU (uq y (au d)) p)
   have hf:(bD (aA 4 (au d))).length=4:=by unfold bD;rfl
   obtain⟨e1,e2⟩:=MG (x:=au d) hy hl
   unfold Bv
   rw[e1,e2]
   clear e1 e2
   refine T9 (E:=Dg) Tryz.func67 Tryz.ntmps67 ?_
   refine aj ?_;(try exact⟨⟩)
   unfold uz
   rw[List.append_assoc]
  ·refine zD (wm fun h=>hl h.2) ?_
   have hn:(p.length:Int)>200:=by omega
   clear hl
   refine T9 (E:=Dg) Tryz.func67 Tryz.ntmps67 ?_
   refine aj ?_;(try exact⟨⟩)
 ·refine zD (wm fun h=>hy h.1) ?_
  have hy:=Bool.eq_false_iff.2 hy
  refine T9 (E:=Dg) Tryz.func67 Tryz.ntmps67 ?_
  refine aj ?_;(try exact⟨⟩)
def He:List A→(bP→Prop)→Prop
 |[.v (.int .i64 y),.agg [.bytes 32 d],x],K=>pV x fun p=>p.length≤1000000∧K (.t (Bv y (au d) p))
 |_,_=>False
theorem zC{f:FuncId}(hx:∀y d p,p.length≤1000000→SN f [.v (.int .i64 y),.agg [.bytes 32 d],.row p.length [.bytes p.length p]] (.t (Bv y (au d) p))):∀args K,He args K→∃r,aP f args r∧SN f args r∧K r:=by
 intro args K h
 unfold He at h
 split at h
 ·obtain⟨p,⟨h1,h⟩,hp⟩:=iD h
  refine⟨_,fun S w vs hG ha=>?_,fun S w vs hG ha=>?_,h⟩
  ·obtain⟨v1,v2,v3,rfl,k1,k2,k3⟩:=jI ha
   exact FnF.okT (hx _ _ p h1) S w _ hG (.cons k1 (.cons k2 (.cons (hp k3) .nil)))
  ·obtain⟨v1,v2,v3,rfl,k1,k2,k3⟩:=jI ha
   exact hx _ _ p h1 S w _ hG (.cons k1 (.cons k2 (.cons (hp k3) .nil)))
 ·exact h.elim
noncomputable def aZ8:ay:=Dg.al0 106 He (zC Sz) ⟨_,Tryz.func106,by kernel_rfl,by kernel_rfl⟩
noncomputable def XU:ay:=aZ8.al0 67 He (zC Mt) ⟨_,Tryz.func67,by kernel_rfl,by kernel_rfl⟩
end
section
open Pm
attribute [local irreducible] aU aZ bR aA au dB cO bD aF bZ kU wG uq
def pO(b:List UInt8):Int:=((((b.getD 0 0).toNat*256+(b.getD 1 0).toNat)*256+(b.getD 2 0).toNat)*256+(b.getD 3 0).toNat:Nat)
theorem RY(a b i:Nat)(hb:b<2^i)(hs:a*2^i+b<9223372036854775808):bits .or .i64 ((a*2^i:Nat):Int) (b:Int)=((a*2^i+b:Nat):Int):=by
 show IntKind.i64.wrap ((BitVec.ofInt 64 ((a*2^i:Nat):Int)|||BitVec.ofInt 64 (b:Int)).toNat:Int)=_
 rw[BitVec.ofInt_natCast,BitVec.ofInt_natCast,BitVec.toNat_or,BitVec.toNat_ofNat,BitVec.toNat_ofNat,Nat.mod_eq_of_lt (by omega),Nat.mod_eq_of_lt (by omega)]
 have h:=Nat.shiftLeft_add_eq_or_of_lt hb a
 rw[Nat.shiftLeft_eq]at h
 rw[←h,IntWalk.i64_in _ (by omega)]
theorem Co(n:Nat)(hn:n<1099511627776)(x:UInt8):bits .or .i64 (IntKind.i64.wrap ((n:Int)*2^min 8 IntKind.i64.bits)) (IntKind.i64.wrap (Bt x))=((n*256+x.toNat:Nat):Int):=by
 have hx:=UInt8.toNat_lt x
 have e1:((n:Int)*2^min 8 IntKind.i64.bits)=((n*2^8:Nat):Int):=by
  show(n:Int)*2^8=_
  omega
 rw[e1,dR (by omega) (by omega),dR (z:=Bt x) (by unfold Bt;omega) (by unfold Bt;omega)]
 exact RY n x.toNat 8 hx (by omega)
theorem at6(b:List UInt8):bits .or .i64 (IntKind.i64.wrap (bits .or .i64 (IntKind.i64.wrap (bits .or .i64 (IntKind.i64.wrap (bits .or .i64 (0*2^min 8 IntKind.i64.bits) (IntKind.i64.wrap (Bt (b.getD 0 0)))*2^min 8 IntKind.i64.bits)) (IntKind.i64.wrap (Bt (b.getD 1 0)))*2^min 8 IntKind.i64.bits)) (IntKind.i64.wrap (Bt (b.getD 2 0)))*2^min 8 IntKind.i64.bits)) (IntKind.i64.wrap (Bt (b.getD 3 0)))=pO b:=by
 have h0:=UInt8.toNat_lt (b.getD 0 0)
 have h1:=UInt8.toNat_lt (b.getD 1 0)
 have h2:=UInt8.toNat_lt (b.getD 2 0)
 have s0:bits .or .i64 (0*2^min 8 IntKind.i64.bits) (IntKind.i64.wrap (Bt (b.getD 0 0)))=(((b.getD 0 0).toNat:Nat):Int):=by
  have h:=Co 0 (by omega) (b.getD 0 0)
  rw[Nat.zero_mul,Nat.zero_add]at h
  rw[←h]
  congr 1
 rw[s0,Co _ (by omega),Co _ (by omega),Co _ (by omega),pO]
theorem ZA(b:List UInt8):bits .or .i64 (bits .or .i64 (bits .or .i64 (IntKind.i64.wrap (IntKind.i64.wrap (Bt (b.getD 0 0))*2^min 24 IntKind.i64.bits)) (IntKind.i64.wrap (IntKind.i64.wrap (Bt (b.getD 1 0))*2^min 16 IntKind.i64.bits))) (IntKind.i64.wrap (IntKind.i64.wrap (Bt (b.getD 2 0))*2^min 8 IntKind.i64.bits))) (IntKind.i64.wrap (Bt (b.getD 3 0)))=pO b:=by
 have h0:=UInt8.toNat_lt (b.getD 0 0)
 have h1:=UInt8.toNat_lt (b.getD 1 0)
 have h2:=UInt8.toNat_lt (b.getD 2 0)
 have h3:=UInt8.toNat_lt (b.getD 3 0)
 have w:∀x:UInt8,IntKind.i64.wrap (Bt x)=(x.toNat:Int):=fun x=>by have:=UInt8.toNat_lt x;exact dR (by unfold Bt;omega) (by unfold Bt;omega)
 have e0:IntKind.i64.wrap (((b.getD 0 0).toNat:Int)*2^min 24 IntKind.i64.bits)=(((b.getD 0 0).toNat*2^24:Nat):Int):=by
  rw[show((b.getD 0 0).toNat:Int)*2^min 24 IntKind.i64.bits=(((b.getD 0 0).toNat*2^24:Nat):Int) by show _*2^24=_;omega]
  exact dR (by omega) (by omega)
 have e1:IntKind.i64.wrap (((b.getD 1 0).toNat:Int)*2^min 16 IntKind.i64.bits)=(((b.getD 1 0).toNat*2^16:Nat):Int):=by
  rw[show((b.getD 1 0).toNat:Int)*2^min 16 IntKind.i64.bits=(((b.getD 1 0).toNat*2^16:Nat):Int) by show _*2^16=_;omega]
  exact dR (by omega) (by omega)
 have e2:IntKind.i64.wrap (((b.getD 2 0).toNat:Int)*2^min 8 IntKind.i64.bits)=(((b.getD 2 0).toNat*2^8:Nat):Int):=by
  rw[show((b.getD 2 0).toNat:Int)*2^min 8 IntKind.i64.bits=(((b.getD 2 0).toNat*2^8:Nat):Int) by show _*2^8=_;omega]
  exact dR (by omega) (by omega)
 rw[w,w,w,w,e0,e1,e2,RY _ _ 24 (by omega) (by omega)]
 rw[show(b.getD 0 0).toNat*2^24+(b.getD 1 0).toNat*2^16=((b.getD 0 0).toNat*256+(b.getD 1 0).toNat)*2^16 by omega,RY _ _ 16 (by omega) (by omega)]
 rw[show((b.getD 0 0).toNat*256+(b.getD 1 0).toNat)*2^16+(b.getD 2 0).toNat*2^8=(((b.getD 0 0).toNat*256+(b.getD 1 0).toNat)*256+(b.getD 2 0).toNat)*2^8 by omega,RY _ _ 8 (by omega) (by omega),pO]
theorem beq_toList(p q:List UInt8):((ByteArray.mk p.toArray).toList==(ByteArray.mk q.toArray).toList)=(p==q):=by rw[ByteArray.toList_mk,ByteArray.toList_mk]
set_option maxHeartbeats 1000000 in
theorem Yh(p q:List UInt8)(hp:p.length≤1000000)(hq:q.length≤1000000):aP 160 [.row p.length [.bytes p.length p],.row q.length [.bytes q.length q]] (.d (.v (.bool (p==q)))):=by
 refine dK (E:=XU) Tryz.func160 Tryz.ntmps160 ?_
 have e1:(ByteArray.mk p.toArray).size=p.length:=by show p.toArray.size=_;simp
 have e2:(ByteArray.mk q.toArray).size=q.length:=by show q.toArray.size=_;simp
 refine aj ?_;(try exact⟨⟩)
 rw[beq_toList]
def equalS:List A→(bP→Prop)→Prop
 |[x,y],K=>pV x fun p=>pV y fun q=>p.length≤1000000∧q.length≤1000000∧K (.d (.v (.bool (p==q))))
 |_,_=>False
theorem TT:∀args K,equalS args K→∃r,aP 160 args r∧K r:=by
 intro args K h
 unfold equalS at h
 split at h
 ·obtain⟨p,h,hp⟩:=iD h
  obtain⟨q,⟨h1,h2,h⟩,hq⟩:=iD h
  refine⟨_,fun S w vs hG ha=>?_,h⟩
  obtain⟨v1,v2,rfl,k1,k2⟩:=lT ha
  exact Yh p q h1 h2 S w _ hG (.cons (hp k1) (.cons (hq k2) .nil))
 ·exact h.elim
set_option maxHeartbeats 1000000 in
theorem UF(b:List UInt8):aP 159 [.row 4 [.bytes 4 b]] (.d (.v (.int .i64 (pO b)))):=by
 refine dK (E:=XU) Tryz.func159 Tryz.ntmps159 ?_
 refine aj ?_;(try exact⟨⟩)
 refine aM.mk (aB 5 ?_)
 refine aj ?_;(try exact⟨⟩)
 rw[at6]
def Jc:List A→(bP→Prop)→Prop
 |[.row 4 [.bytes 4 b]],K=>K (.d (.v (.int .i64 (pO b))))
 |_,_=>False
theorem O6:∀args K,Jc args K→∃r,aP 159 args r∧K r:=by
 intro args K h
 unfold Jc at h
 split at h
 ·exact⟨_,UF _,h⟩
 ·exact h.elim
noncomputable def aZ9:ay:=XU.add 160 equalS TT ⟨_,Tryz.func160,by kernel_rfl,by kernel_rfl⟩
noncomputable def XV:ay:=aZ9.add 159 Jc O6 ⟨_,Tryz.func159,by kernel_rfl,by kernel_rfl⟩
def pQ(x:Int)(b:List UInt8):Bool:=cO (pO b)&&((b.drop 4).take 8==wG (uq (pO b) x) (b.take 4) (b.drop 12))
def bJ(x:Int)(b:List UInt8):Int:=if b.length<12∨b.length>212 then 2 else if pQ x b=true then 0 else 3
def bg(x:Int)(b:List UInt8):List UInt8:=kU (uq (pO b) x) (b.drop 12)
def qx(x:Int)(b:List UInt8):List A:=if bJ x b=0 then[.row (b.length-12) [.bytes (b.length-12) (bg x b)],.v (.int .i64 0)]else[.v (.slice none 0 0),.v (.int .i64 (bJ x b))]
theorem Ae(b:List UInt8):pO (b.take 4)=pO b:=by
 have h:∀i,i<4→(b.take 4).getD i 0=b.getD i 0:=fun i hi=>by simp[List.getD_eq_getElem?_getD,List.getElem?_take,hi]
 unfold pO
 rw[h 0 (by omega),h 1 (by omega),h 2 (by omega),h 3 (by omega)]
attribute [local irreducible] pO
set_option maxHeartbeats 1000000 in
theorem au8(s:Int)(b:List UInt8)(hb:b.length≤1000000):gq 85 0 (.obj (p9 s)) [.row b.length [.bytes b.length b]] (.t (qx s b)) (.obj (p9 s)):=by
 refine mY (E:=XV) Tryz.func85 Tryz.ntmps85 ?_
 by_cases h1:b.length<12
 ·have e:bJ s b=2:=by unfold bJ;rw[if_pos (.inl h1)]
  have h2:(b.length:Int)<12:=by omega
  rw[qx,if_neg (by rw[e];decide),e]
  clear e h1
  refine aj ?_;(try exact⟨⟩)
 by_cases h3:b.length>212
 ·have e:bJ s b=2:=by unfold bJ;rw[if_pos (.inr h3)]
  have h2:¬(b.length:Int)<12:=by omega
  have h4:(b.length:Int)>212:=by omega
  rw[qx,if_neg (by rw[e];decide),e]
  clear e h1 h3
  refine aj ?_;(try exact⟨⟩)
 have h2:¬(b.length:Int)<12:=by omega
 have h4:¬(b.length:Int)>212:=by omega
 have e4:(b.take 4).length=4:=by simp;omega
 have e8:((b.drop 4).take 8).length=8:=by simp;omega
 have ed:(b.drop 12).take (b.length-12)=b.drop 12:=List.take_of_length_le (by simp)
 have el:(b.drop 12).length=b.length-12:=by simp
 have en:=Ae b
 have hE:bJ s b=if pQ s b=true then 0 else 3:=by unfold bJ;rw[if_neg (by omega)]
 have ht:=jD (uq (pO b) s) (b.take 4) (b.drop 12)
 cases hi:cO (pO b)with
 |false=>
  have e:bJ s b=3:=by rw[hE,pQ,hi];rfl
  rw[qx,if_neg (by rw[e];decide),e]
  clear e hE ht h1 h3
  refine aj ?_;(try exact⟨⟩)
 |true=>
  refine aj ?_;(try exact⟨⟩)
  rw[en,ed]
  cases hq:(b.drop 4).take 8==wG (uq (pO b) s) (b.take 4) (b.drop 12)with
  |true=>
   have e:bJ s b=0:=by rw[hE,pQ,hi,hq];rfl
   rw[qx,if_pos e]
   clear e hE h1 h3
   refine aj ?_;(try exact⟨⟩)
   rw[bg,el]
  |false=>
   have e:bJ s b=3:=by rw[hE,pQ,hi,hq];rfl
   rw[qx,if_neg (by rw[e];decide),e]
   clear e hE h1 h3
   refine aj ?_;(try exact⟨⟩)
set_option maxHeartbeats 1000000 in
theorem ac3(s y:Int)(b:List UInt8)(hb:b.length≤1000000):aP 89 [.agg [.ints .i64 2 [s,y]],.row b.length [.bytes b.length b]] (.t (qx s b)):=by
 refine dK (E:=XV) Tryz.func89 Tryz.ntmps89 ?_
 by_cases h1:b.length<12
 ·have e:bJ s b=2:=by unfold bJ;rw[if_pos (.inl h1)]
  have h2:(b.length:Int)<12:=by omega
  rw[qx,if_neg (by rw[e];decide),e]
  clear e h1
  refine aj ?_;(try exact⟨⟩)
 by_cases h3:b.length>212
 ·have e:bJ s b=2:=by unfold bJ;rw[if_pos (.inr h3)]
  have h2:¬(b.length:Int)<12:=by omega
  have h4:(b.length:Int)>212:=by omega
  rw[qx,if_neg (by rw[e];decide),e]
  clear e h1 h3
  refine aj ?_;(try exact⟨⟩)
 have h2:¬(b.length:Int)<12:=by omega
 have h4:¬(b.length:Int)>212:=by omega
 have e4:(b.take 4).length=4:=by simp;omega
 have e8:((b.drop 4).take 8).length=8:=by simp;omega
 have ed:(b.drop 12).take (b.length-12)=b.drop 12:=List.take_of_length_le (by simp)
 have el:(b.drop 12).length=b.length-12:=by simp
 have en:=Ae b
 have hE:bJ s b=if pQ s b=true then 0 else 3:=by unfold bJ;rw[if_neg (by omega)]
 have ht:=jD (uq (pO b) s) (b.take 4) (b.drop 12)
 have en2:=ZA b
 cases hi:cO (pO b)with
 |false=>
  have e:bJ s b=3:=by rw[hE,pQ,hi];rfl
  rw[qx,if_neg (by rw[e];decide),e]
  clear e hE ht h1 h3
  refine aj ?_;(try exact⟨⟩)
 |true=>
  have hz1:(ByteArray.mk (wG (uq (pO b) s) (b.take 4) (b.drop 12)).toArray).size=8:=by show(wG (uq (pO b) s) (b.take 4) (b.drop 12)).toArray.size=_;rw[List.size_toArray,ht]
  have hz2:(ByteArray.mk ((b.drop 4).take 8).toArray).size=8:=by show((b.drop 4).take 8).toArray.size=_;rw[List.size_toArray,e8]
  refine aj ?_;(try exact⟨⟩)
  rw[en2]
  refine aj ?_;(try exact⟨⟩)
  rw[ed]
  refine aj ?_;(try exact⟨⟩)
  rw[beq_toList,BEq.comm]
  clear hz1 hz2 en2
  cases hq:(b.drop 4).take 8==wG (uq (pO b) s) (b.take 4) (b.drop 12)with
  |true=>
   have e:bJ s b=0:=by rw[hE,pQ,hi,hq];rfl
   rw[qx,if_pos e]
   clear e hE h1 h3
   refine aj ?_;(try exact⟨⟩)
   rw[bg,ed,el]
  |false=>
   have e:bJ s b=3:=by rw[hE,pQ,hi,hq];rfl
   rw[qx,if_neg (by rw[e];decide),e]
   clear e hE h1 h3
   refine aj ?_;(try exact⟨⟩)
def aR7(s:Int)(b:List UInt8)(K:List A→Prop):Prop:=
 mR (aU (decide (bJ s b=0)) (K [.row (b.length-12) [.bytes (b.length-12) (bg s b)],.v (.int .i64 0)]) (K [.v (.slice none 0 0),.v (.int .i64 (bJ s b))]))
theorem GK{s:Int}{b:List UInt8}{K:List A→Prop}(h:aR7 s b K):K (qx s b):=by
 have h:=h.out
 unfold qx
 by_cases he:bJ s b=0
 ·rw[decide_eq_true he,iM]at h
  rw[if_pos he]
  exact h
 ·rw[decide_eq_false he,gW]at h
  rw[if_neg he]
  exact h
def ZT:Nat→Bk→List A→(bP→Bk→Prop)→Prop
 |0,.obj P,[x],K=>∃s,P=p9 s∧pV x fun b=>b.length≤1000000∧aR7 s b fun l=>K (.t l) (.obj (p9 s))
 |_,_,_,_=>False
theorem ZU:∀pos x args K,ZT pos x args K→∃r x',gq 85 pos x args r x'∧K r x':=by
 intro pos x args K h
 unfold ZT at h
 split at h
 ·obtain⟨s,rfl,h⟩:=h
  obtain⟨b,⟨hb,h⟩,hv⟩:=iD h
  refine⟨_,_,fun S w r vs hr hG hx ha=>?_,GK h⟩
  obtain⟨v,rfl,h3⟩:=iP ha
  exact au8 s b hb S w r _ hr hG hx (.cons (hv h3) .nil)
 ·exact h.elim
def PZ:List A→(bP→Prop)→Prop
 |[.agg [.ints .i64 2 [s,y]],x],K=>pV x fun b=>b.length≤1000000∧aR7 s b fun l=>K (.t l)
 |_,_=>False
theorem Vk:∀args K,PZ args K→∃r,aP 89 args r∧K r:=by
 intro args K h
 unfold PZ at h
 split at h
 ·obtain⟨b,⟨hb,h⟩,hv⟩:=iD h
  refine⟨_,fun S w vs hG ha=>?_,GK h⟩
  obtain⟨v1,v2,rfl,k1,k2⟩:=lT ha
  exact ac3 _ _ b hb S w _ hG (.cons k1 (.cons (hv k2) .nil))
 ·exact h.elim
noncomputable def ba0:ay:=XV.kG 85 ZT ZU ⟨_,Tryz.func85,by kernel_rfl,by kernel_rfl⟩
noncomputable def ba1:ay:=ba0.add 89 PZ Vk ⟨_,Tryz.func89,by kernel_rfl,by kernel_rfl⟩
end
end Go.Proofs.YtjhgelfnmhdihaaGreatDoor
