/- -/
import Derived.Test.YtegalalmamofdaaGreatDoorJ31
namespace Go.Proofs.YtegalalmamofdaaGreatDoor
set_option linter.all false
set_option maxRecDepth 100000
open Go.RowKit
set_option maxHeartbeats 8000000
noncomputable section
open Pm
attribute [local irreducible] aN aQ bq aJ aI eY dL bP aD aC
def Ov(s:List UInt8)(k:Nat):List UInt8:=if k=0 then List.replicate 32 0 else qh s ((k-1) / 32)
theorem Sl(s:List UInt8)(k:Nat)(h:¬k%32=0):Ov s k=qh s (k / 32):=by
 unfold Ov;rw[if_neg (by omega),show(k-1) / 32=k / 32 by omega]
theorem Sk(s:List UInt8)(k:Nat):Ov s (k+1)=qh s (k / 32):=by
 unfold Ov;rw[if_neg (by omega),Nat.add_sub_cancel]
theorem cg6(k:Nat):Int.tdiv (k:Int) 32=((k / 32:Nat):Int):=by rw[Int.tdiv_eq_ediv_of_nonneg (by omega)];omega
theorem cg7(k:Nat):Int.tmod (k:Int) 32=((k%32:Nat):Int):=by rw[Int.tmod_eq_emod_of_nonneg (by omega)];omega
theorem Zh(s:List UInt8)(k:Nat):aD s (sb ⟨#[115,116,114,101,97,109]⟩) (bP ((k / 32:Nat):Int))=qh s (k / 32):=rfl
theorem al1(n:Nat):(List.replicate n [(0:UInt8)]).flatten=List.replicate n 0:=by
 induction n with
 |zero=>rfl
 |succ n ih=>rw[List.replicate_succ,List.flatten_cons,ih];rfl
theorem bJ0(a b:UInt8):0<=bits .xor .u8 (Bt a) (Bt b)/\bits .xor .u8 (Bt a) (Bt b)<256/\UInt8.ofNat (bits .xor .u8 (Bt a) (Bt b)).toNat=a^^^b:=by
 rw[bn3]
 have:=UInt8.toNat_lt (a^^^b)
 unfold Bt
 refine⟨by omega,by omega,?_⟩
 rw[Int.toNat_natCast,UInt8.ofNat_toNat]
theorem QJ(n:Nat):Nf n H9.zero=[.bytes n (List.replicate n 0)]:=by
 show[Seg.bytes (n*1) (List.replicate n [(0:UInt8)]).flatten]=_
 rw[Nat.mul_one,al1]
theorem bb5(s p:List UInt8)(hp:p.length<=100000):aV 172 [.agg [.bytes 32 s],.row p.length [.bytes p.length p]] (.o 5 1 p.length [.bytes p.length (oV s p)]):=by
 refine eO (E:=bf7) Tryz.func172 Tryz.ntmps172 ?_
 refine ah ?_
 refine aX.mk (cB [2,5,6,12,13,14] [0,1,2] p.length (fun j=>⟨.au::.au::.ptr 0 0::.au::.au::.own 1 p.length::.ptr 2 0::.au::.au::.au::.au::.au::.d (.row p.length [.bytes p.length p])::.d (.v (.int .i64 p.length))::.d (.v (.int .i64 (j:Nat)))::dz 24 [],[some (.var [.bytes 32 s]),some (.sl 5 1 p.length [.bytes p.length (Dy s p j)]),some (.var [.bytes 32 (Ov s j)])]⟩) ?_ (h2:=by rw[QJ,TD];rfl))
 intro j hj hl
 by_cases h:j<p.length
 ·have h1:(j:Int)<(p.length:Int):=by omega
  have hm:=cg7 j
  have hd:=cg6 j
  have hst:=Zh s j
  have hnx:=Sk s j
  obtain⟨x0,x1,x2⟩:=bJ0 (p.getD j 0) ((qh s (j / 32)).getD (j%32) 0)
  have hps:=YP s p j h
  have hb1:((j%32:Nat):Int)<32:=by omega
  have hgp:p[j]=p.getD j 0:=by rw[List.getD_eq_getElem?_getD,List.getElem?_eq_getElem h];rfl
  rw[hgp]at hps
  obtain⟨N,hN⟩:∃N,p.length=N+1:=⟨p.length-1,by omega⟩
  by_cases h3:j%32=0
  ·have e:((j:Int).tmod 32==0)=true:=by rw[hm,h3];rfl
   rw[hN]at hl h1 ⊢
   refine ah ?_
   rw[hd,hst,hm,Int.toNat_natCast]
   refine ah ?_
   refine hl.go (hN▸h) [2,5,6,12,13,14] [0,1,2] ?_
   show gather _ _ _=St.mk _ _
   rw[<-hps,<-x2,hnx]
   rfl
  ·have e:((j:Int).tmod 32==0)=false:=by rw[hm];simp;omega
   have hh:=Sl s j h3
   rw[hN]at hl h1 ⊢
   refine ah ?_
   rw[hh,hm,Int.toNat_natCast]
   refine ah ?_
   refine hl.go (hN▸h) [2,5,6,12,13,14] [0,1,2] ?_
   show gather _ _ _=St.mk _ _
   rw[<-hps,<-x2,hnx]
   rfl
 ·obtain rfl:j=p.length:=by omega
  have h1:¬(p.length:Int)<(p.length:Int):=by omega
  rw[YO]
  refine ah ?_;(try exact⟨⟩)
def aB4(g:List UInt8->List UInt8->bC):List A->(bC->Prop)->Prop
 |[.agg [.bytes 32 h],x],K=>sH x fun p=>p.length<=100000/\K (g h p)
 |_,_=>False
theorem aB5{f:FuncId}{g:List UInt8->List UInt8->bC}(hx:∀h p,p.length<=100000->aV f [.agg [.bytes 32 h],.row p.length [.bytes p.length p]] (g h p)):∀args K,aB4 g args K->∃r,aV f args r/\K r:=by
 intro args K h
 unfold aB4 at h
 split at h
 ·obtain⟨p,⟨h1,h⟩,hp⟩:=ji h
  refine⟨_,fun S w vs hG ha=>?_,h⟩
  obtain⟨v1,v2,rfl,k1,k2⟩:=CV ha
  exact hx _ p h1 S w _ hG (.cons k1 (.cons (hp k2) .nil))
 ·exact h.elim
def bQ2:ak:=bf7.add 172 (aB4 fun h p=>.d (.row p.length [.bytes p.length (oV h p)])) (aB5 fun s p hp=>sw (bb5 s p hp)) (.of Tryz.func172)
def Vl:ak:=bQ2
abbrev Z0(f:FuncId)(args:List A)(res:bC):Prop:=FnF Tryz.prog gTab f args res
def Ky(y x:Int)(p:List UInt8):List A:=[.row (dH y x p).length [.bytes (dH y x p).length (dH y x p)],.v (.int .i64 (WB y p))]
theorem Kw{y:Int}{p:List UInt8}(h:¬(dL y=true/\p.length<=200)):vw y p=false:=by
 unfold vw
 cases h1:dL y with
 |false=>rfl
 |true=>rw[Bool.true_and];exact decide_eq_false fun h2=>h ⟨h1,h2⟩
theorem P7{f:FuncId}{args:List A}{y x:Int}{p:List UInt8}(hs:vw y p=false)(h:Z0 f args (.t [.v (.slice none 0 0),.v (.int .i64 1)])):Z0 f args (.t (Ky y x p)):=by
 unfold Ky dH WB
 rw[hs]
 intro S w vs hG ha
 refine(h S w vs hG ha).mono ?_
 rintro e w' ⟨v,h1,⟨vs',h2,h3⟩,h4⟩
 refine⟨v,h1,⟨vs',h2,?_⟩,h4⟩
 cases h3 with
 |cons k r=>
  rw[RA.plain k]
  exact .cons (.row (cs:=[]) (.ofBytes rfl rfl) (Nat.le_refl _) (Nat.zero_le _) (fun _=>rfl) (.inl rfl)) r
theorem wH(y x:Int)(p:List UInt8):(zh y x p).length=12+p.length:=by
 unfold zh
 rw[List.length_append,List.length_append,oU,iP,show(bP (aJ 4 x)).length=4 by unfold bP;rfl]
theorem aC5{y x:Int}{p:List UInt8}(h:dL y=true)(h2:p.length<=200):dH y x p=zh y x p/\WB y p=0:=by
 have hs:vw y p=true:=by unfold vw;rw[h,decide_eq_true h2];rfl
 unfold dH WB
 rw[hs]
 exact⟨rfl,rfl⟩
attribute [local irreducible] oV Hz
theorem WE(y:Int)(d p:List UInt8)(hp:p.length<=1000000):Z0 126 [.v (.int .i64 y),.agg [.bytes 32 d],.row p.length [.bytes p.length p]] (.t (Ky y (aI d) p)):=by
 by_cases hy:dL y=true
 ·by_cases hl:p.length<=200
  ·have hn:¬(p.length:Int)>200:=by omega
   have hb:=iq d
   have hb0:0<=aI d:=by omega
   have hb1:aI d<1073741789:=hb.2
   have e:=wH y (aI d) p
   have hx:=iP (DR y (aI d)) p
   have ht:=oU (DR y (aI d)) (bP (aJ 4 (aI d))) (oV (DR y (aI d)) p)
   have hf:(bP (aJ 4 (aI d))).length=4:=by unfold bP;rfl
   obtain⟨e1,e2⟩:=aC5 (x:=aI d) hy hl
   unfold Ky
   rw[e1,e2]
   clear e1 e2
   refine bz2 (E:=Vl) Tryz.func126 Tryz.ntmps126 ?_
   refine ah ?_
   unfold zh
   rw[List.append_assoc]
  ·refine P7 (Kw fun h=>hl h.2) ?_
   have hn:(p.length:Int)>200:=by omega
   clear hl
   refine bz2 (E:=Vl) Tryz.func126 Tryz.ntmps126 ?_
   refine ah ?_;(try exact⟨⟩)
 ·refine P7 (Kw fun h=>hy h.1) ?_
  have hy:=Bool.eq_false_iff.2 hy
  refine bz2 (E:=Vl) Tryz.func126 Tryz.ntmps126 ?_
  refine ah ?_;(try exact⟨⟩)
def WC:List A->(bC->Prop)->Prop
 |[.v (.int .i64 y),.agg [.bytes 32 d],x],K=>sH x fun p=>p.length<=1000000/\K (.t (Ky y (aI d) p))
 |_,_=>False
theorem P6{f:FuncId}(hx:∀y d p,p.length<=1000000->Z0 f [.v (.int .i64 y),.agg [.bytes 32 d],.row p.length [.bytes p.length p]] (.t (Ky y (aI d) p))):∀args K,WC args K->∃r,aV f args r/\Z0 f args r/\K r:=by
 intro args K h
 unfold WC at h
 split at h
 ·obtain⟨p,⟨h1,h⟩,hp⟩:=ji h
  refine⟨_,fun S w vs hG ha=>?_,fun S w vs hG ha=>?_,h⟩
  ·obtain⟨v1,v2,v3,rfl,k1,k2,k3⟩:=jH ha
   exact FnF.okT (hx _ _ p h1) S w _ hG (.cons k1 (.cons k2 (.cons (hp k3) .nil)))
  ·obtain⟨v1,v2,v3,rfl,k1,k2,k3⟩:=jH ha
   exact hx _ _ p h1 S w _ hG (.cons k1 (.cons k2 (.cons (hp k3) .nil)))
 ·exact h.elim
def bQ3:ak:=Vl.bM1 126 WC (P6 WE) (.of Tryz.func126)
def ah1:ak:=bQ3
end
noncomputable section
open Pm
attribute [local irreducible] aN aQ bq aJ aI eY dL bP aD aC oV Hz DR
def yC(b:List UInt8):Int:=((((b.getD 0 0).toNat*256+(b.getD 1 0).toNat)*256+(b.getD 2 0).toNat)*256+(b.getD 3 0).toNat:Nat)
theorem cf8(a b i:Nat)(hb:b<2^i)(hs:a*2^i+b<9223372036854775808):bits .or .i64 ((a*2^i:Nat):Int) (b:Int)=((a*2^i+b:Nat):Int):=by
 show IntKind.i64.wrap ((BitVec.ofInt 64 ((a*2^i:Nat):Int)|||BitVec.ofInt 64 (b:Int)).toNat:Int)=_
 rw[BitVec.ofInt_natCast,BitVec.ofInt_natCast,BitVec.toNat_or,BitVec.toNat_ofNat,BitVec.toNat_ofNat,Nat.mod_eq_of_lt (by omega),Nat.mod_eq_of_lt (by omega)]
 have h:=Nat.shiftLeft_add_eq_or_of_lt hb a
 rw[Nat.shiftLeft_eq]at h
 rw[<-h,IntWalk.i64_in _ (by omega)]
theorem Ey(n:Nat)(hn:n<1099511627776)(x:UInt8):bits .or .i64 (IntKind.i64.wrap ((n:Int)*2^min 8 IntKind.i64.bits)) (IntKind.i64.wrap (Bt x))=((n*256+x.toNat:Nat):Int):=by
 have hx:=UInt8.toNat_lt x
 have e1:((n:Int)*2^min 8 IntKind.i64.bits)=((n*2^8:Nat):Int):=by
  show(n:Int)*2^8=_
  omega
 rw[e1,gH (by omega) (by omega),gH (z:=Bt x) (by unfold Bt;omega) (by unfold Bt;omega)]
 exact cf8 n x.toNat 8 hx (by omega)
theorem aU6(b:List UInt8):bits .or .i64 (IntKind.i64.wrap (bits .or .i64 (IntKind.i64.wrap (bits .or .i64 (IntKind.i64.wrap (bits .or .i64 (0*2^min 8 IntKind.i64.bits) (IntKind.i64.wrap (Bt (b.getD 0 0)))*2^min 8 IntKind.i64.bits)) (IntKind.i64.wrap (Bt (b.getD 1 0)))*2^min 8 IntKind.i64.bits)) (IntKind.i64.wrap (Bt (b.getD 2 0)))*2^min 8 IntKind.i64.bits)) (IntKind.i64.wrap (Bt (b.getD 3 0)))=yC b:=by
 have h0:=UInt8.toNat_lt (b.getD 0 0)
 have h1:=UInt8.toNat_lt (b.getD 1 0)
 have h2:=UInt8.toNat_lt (b.getD 2 0)
 have s0:bits .or .i64 (0*2^min 8 IntKind.i64.bits) (IntKind.i64.wrap (Bt (b.getD 0 0)))=(((b.getD 0 0).toNat:Nat):Int):=by
  have h:=Ey 0 (by omega) (b.getD 0 0)
  rw[Nat.zero_mul,Nat.zero_add]at h
  rw[<-h]
  congr 1
 rw[s0,Ey _ (by omega),Ey _ (by omega),Ey _ (by omega),yC]
theorem beq_toList(p q:List UInt8):((ByteArray.mk p.toArray).toList==(ByteArray.mk q.toArray).toList)=(p==q):=by rw[ByteArray.toList_mk,ByteArray.toList_mk]
theorem ak0(p q:List UInt8)(hp:p.length<=1000000)(hq:q.length<=1000000):aV 206 [.row p.length [.bytes p.length p],.row q.length [.bytes q.length q]] (.d (.v (.bool (p==q)))):=by
 refine eO (E:=ah1) Tryz.func206 Tryz.ntmps206 ?_
 have e1:(ByteArray.mk p.toArray).size=p.length:=by show p.toArray.size=_;simp
 have e2:(ByteArray.mk q.toArray).size=q.length:=by show q.toArray.size=_;simp
 refine ah ?_
 rw[beq_toList]
def equalS:List A->(bC->Prop)->Prop
 |[x,y],K=>sH x fun p=>sH y fun q=>p.length<=1000000/\q.length<=1000000/\K (.d (.v (.bool (p==q))))
 |_,_=>False
theorem XP:∀args K,equalS args K->∃r,aV 206 args r/\K r:=by
 intro args K h
 unfold equalS at h
 split at h
 ·obtain⟨p,h,hp⟩:=ji h
  obtain⟨q,⟨h1,h2,h⟩,hq⟩:=ji h
  refine⟨_,fun S w vs hG ha=>?_,h⟩
  obtain⟨v1,v2,rfl,k1,k2⟩:=CV ha
  exact ak0 p q h1 h2 S w _ hG (.cons (hp k1) (.cons (hq k2) .nil))
 ·exact h.elim
theorem Yt(b:List UInt8):aV 205 [.row 4 [.bytes 4 b]] (.d (.v (.int .i64 (yC b)))):=by
 refine eO (E:=ah1) Tryz.func205 Tryz.ntmps205 ?_
 refine ah ?_
 refine aX.mk (aH 5 ?_)
 refine ah ?_
 rw[aU6]
def Ma:List A->(bC->Prop)->Prop
 |[.row 4 [.bytes 4 b]],K=>K (.d (.v (.int .i64 (yC b))))
 |_,_=>False
theorem Td:∀args K,Ma args K->∃r,aV 205 args r/\K r:=by
 intro args K h
 unfold Ma at h
 split at h
 ·exact⟨_,Yt _,h⟩
 ·exact h.elim
def bQ4:ak:=ah1.add 206 equalS XP (.of Tryz.func206)
def bf8:ak:=bQ4.add 205 Ma Td (.of Tryz.func205)
def zC(x:Int)(b:List UInt8):Bool:=dL (yC b)&&((b.drop 4).take 8==Hz (DR (yC b) x) (b.take 4) (b.drop 12))
def gU(x:Int)(b:List UInt8):Int:=if b.length<12\/b.length>212 then 2 else if zC x b=true then 0 else 3
def fF(x:Int)(b:List UInt8):List UInt8:=oV (DR (yC b) x) (b.drop 12)
def Dw(x:Int)(b:List UInt8):List A:=if gU x b=0 then[.row (b.length-12) [.bytes (b.length-12) (fF x b)],.v (.int .i64 0)]else[.v (.slice none 0 0),.v (.int .i64 (gU x b))]
theorem J9(b:List UInt8):yC (b.take 4)=yC b:=by
 have h:∀i,i<4->(b.take 4).getD i 0=b.getD i 0:=fun i hi=>by simp[List.getD_eq_getElem?_getD,List.getElem?_take,hi]
 unfold yC
 rw[h 0 (by omega),h 1 (by omega),h 2 (by omega),h 3 (by omega)]
attribute [local irreducible] yC
theorem aV9(s:Int)(b:List UInt8)(hb:b.length<=1000000):bV 145 0 (.obj (mO s)) [.row b.length [.bytes b.length b]] (.t (Dw s b)) (.obj (mO s)):=by
 refine iH (E:=bf8) Tryz.func145 Tryz.ntmps145 ?_
 by_cases h1:b.length<12
 ·have e:gU s b=2:=by unfold gU;rw[if_pos (.inl h1)]
  have h2:(b.length:Int)<12:=by omega
  rw[Dw,if_neg (by rw[e];decide),e]
  clear e h1
  refine ah ?_;(try exact⟨⟩)
 by_cases h3:b.length>212
 ·have e:gU s b=2:=by unfold gU;rw[if_pos (.inr h3)]
  have h2:¬(b.length:Int)<12:=by omega
  have h4:(b.length:Int)>212:=by omega
  rw[Dw,if_neg (by rw[e];decide),e]
  clear e h1 h3
  refine ah ?_;(try exact⟨⟩)
 have h2:¬(b.length:Int)<12:=by omega
 have h4:¬(b.length:Int)>212:=by omega
 have e4:(b.take 4).length=4:=by simp;omega
 have e8:((b.drop 4).take 8).length=8:=by simp;omega
 have ed:(b.drop 12).take (b.length-12)=b.drop 12:=List.take_of_length_le (by simp)
 have el:(b.drop 12).length=b.length-12:=by simp
 have en:=J9 b
 have hE:gU s b=if zC s b=true then 0 else 3:=by unfold gU;rw[if_neg (by omega)]
 have ht:=oU (DR (yC b) s) (b.take 4) (b.drop 12)
 cases hi:dL (yC b)with
 |false=>
  have e:gU s b=3:=by rw[hE,zC,hi];rfl
  rw[Dw,if_neg (by rw[e];decide),e]
  clear e hE ht h1 h3
  refine ah ?_;(try exact⟨⟩)
 |true=>
  refine ah ?_
  rw[en,ed]
  cases hq:(b.drop 4).take 8==Hz (DR (yC b) s) (b.take 4) (b.drop 12)with
  |true=>
   have e:gU s b=0:=by rw[hE,zC,hi,hq];rfl
   rw[Dw,if_pos e]
   clear e hE h1 h3
   refine ah ?_
   rw[fF,el]
  |false=>
   have e:gU s b=3:=by rw[hE,zC,hi,hq];rfl
   rw[Dw,if_neg (by rw[e];decide),e]
   clear e hE h1 h3
   refine ah ?_;(try exact⟨⟩)
def cf6(s:Int)(b:List UInt8)(K:List A->Prop):Prop:=
 vE (aN (decide (gU s b=0)) (K [.row (b.length-12) [.bytes (b.length-12) (fF s b)],.v (.int .i64 0)]) (K [.v (.slice none 0 0),.v (.int .i64 (gU s b))]))
theorem YJ{s:Int}{b:List UInt8}{K:List A->Prop}(h:cf6 s b K):K (Dw s b):=by
 have h:=h.out
 unfold Dw
 by_cases he:gU s b=0
 ·rw[decide_eq_true he,qD]at h
  rw[if_pos he]
  exact h
 ·rw[decide_eq_false he,oG]at h
  rw[if_neg he]
  exact h
def ax4:Nat->Bk->List A->(bC->Bk->Prop)->Prop
 |0,.obj P,[x],K=>∃s,P=mO s/\sH x fun b=>b.length<=1000000/\cf6 s b fun l=>K (.t l) (.obj (mO s))
 |_,_,_,_=>False
theorem ax5:∀pos x args K,ax4 pos x args K->∃r x',bV 145 pos x args r x'/\K r x':=by
 intro pos x args K h
 unfold ax4 at h
 split at h
 ·obtain⟨s,rfl,h⟩:=h
  obtain⟨b,⟨hb,h⟩,hv⟩:=ji h
  refine⟨_,_,fun S w r vs hr hG hx ha=>?_,YJ h⟩
  obtain⟨v,rfl,h3⟩:=iC ha
  exact aV9 s b hb S w r _ hr hG hx (.cons (hv h3) .nil)
 ·exact h.elim
def bQ5:ak:=bf8.gI 145 ax4 ax5 (.of Tryz.func145)
def bQ6:ak:=bQ5
end
end Go.Proofs.YtegalalmamofdaaGreatDoor
