/- -/
import Derived.Test.YtegalalmamofdaaGreatDoorKWorldGrows
import Derived.Test.YtegalalmamofdaaGreatDoorJ38
import Derived.WalkSpells
import Derived.Test.YtegalalmamofdaaGreatDoorJ32
namespace Go.Proofs.YtegalalmamofdaaGreatDoor
set_option linter.all false
set_option maxRecDepth 100000
open Go.RowKit
set_option maxHeartbeats 8000000
variable{n:Nat}{m:Int}{t b:List UInt8}{f:FuncId}{c:CS}
section
theorem OB(n:Int)(h:0<=n/\n<=9223372036854775807):isNum (aC n)=true:=by
 unfold isNum
 rw[fE]
 have h1:((kV n 56).toNat:Int)=(n / 2^56)%256:=xY n 56
 have h2:(aC n).getD 0 0=kV n 56:=rfl
 rw[h2]
 have:(kV n 56).toNat<=127:=by
  have e:(2:Int)^56=72057594037927936:=by decide
  rw[e]at h1
  omega
 rw[decide_eq_true this];rfl
theorem Ta(n:Int)(h:0<=n/\n<=9223372036854775807):(qJ (aC n):Int)=n:=by
 have e:∀s,((kV n s).toNat:Int)=(n / 2^s)%256:=fun s=>xY n s
 have e56:=e 56;have e48:=e 48;have e40:=e 40;have e32:=e 32;have e24:=e 24;have e16:=e 16;have e8:=e 8;have e0:=e 0
 have p56:(2:Int)^56=72057594037927936:=by decide
 have p48:(2:Int)^48=281474976710656:=by decide
 have p40:(2:Int)^40=1099511627776:=by decide
 have p32:(2:Int)^32=4294967296:=by decide
 have p24:(2:Int)^24=16777216:=by decide
 have p16:(2:Int)^16=65536:=by decide
 have p8:(2:Int)^8=256:=by decide
 have p0:(2:Int)^0=1:=by decide
 rw[p56]at e56;rw[p48]at e48;rw[p40]at e40;rw[p32]at e32;rw[p24]at e24;rw[p16]at e16;rw[p8]at e8;rw[p0]at e0
 simp only[qJ,aC,List.foldl_cons,List.foldl_nil]
 omega
theorem Aa{a b:UInt8}(h:a.toNat=b.toNat):a=b:=UInt8.toNat_inj.1 h
theorem Yq(b:List UInt8)(h:isNum b=true):aC (qJ b)=b:=by
 unfold isNum at h
 simp only[Bool.and_eq_true,beq_iff_eq,decide_eq_true_eq]at h
 obtain⟨h8,h0⟩:=h
 match b,h8 with
 |[a0,a1,a2,a3,a4,a5,a6,a7],_=>
 have l0:=UInt8.toNat_lt a0;have l1:=UInt8.toNat_lt a1;have l2:=UInt8.toNat_lt a2;have l3:=UInt8.toNat_lt a3
 have l4:=UInt8.toNat_lt a4;have l5:=UInt8.toNat_lt a5;have l6:=UInt8.toNat_lt a6;have l7:=UInt8.toNat_lt a7
 have e:qJ [a0,a1,a2,a3,a4,a5,a6,a7]=((((((a0.toNat*256+a1.toNat)*256+a2.toNat)*256+a3.toNat)*256+a4.toNat)*256+a5.toNat)*256+a6.toNat)*256+a7.toNat:=by
  simp only[qJ,List.foldl_cons,List.foldl_nil,Nat.zero_mul,Nat.zero_add]
 rw[e]
 generalize hN:((((((a0.toNat*256+a1.toNat)*256+a2.toNat)*256+a3.toNat)*256+a4.toNat)*256+a5.toNat)*256+a6.toNat)*256+a7.toNat=N
 have lw:∀s (a:UInt8),((N:Int) / 2^s)%256=(a.toNat:Int)->kV (N:Int) s=a:=fun s a h=>Aa (by
  have:=xY (N:Int) s
  have h2:((kV (N:Int) s).toNat:Int)=(a.toNat:Int):=by rw[<-h];exact this
  omega)
 have p56:(2:Int)^56=72057594037927936:=by decide
 have p48:(2:Int)^48=281474976710656:=by decide
 have p40:(2:Int)^40=1099511627776:=by decide
 have p32:(2:Int)^32=4294967296:=by decide
 have p24:(2:Int)^24=16777216:=by decide
 have p16:(2:Int)^16=65536:=by decide
 have p8:(2:Int)^8=256:=by decide
 have p0:(2:Int)^0=1:=by decide
 unfold aC
 rw[lw 56 a0 (by rw[p56];omega),lw 48 a1 (by rw[p48];omega),lw 40 a2 (by rw[p40];omega),lw 32 a3 (by rw[p32];omega),lw 24 a4 (by rw[p24];omega),lw 16 a5 (by rw[p16];omega),lw 8 a6 (by rw[p8];omega),lw 0 a7 (by rw[p0];omega)]
theorem Gh(b:List UInt8)(h:isNum b=true):qJ b<=9223372036854775807:=by
 unfold isNum at h
 simp only[Bool.and_eq_true,beq_iff_eq,decide_eq_true_eq]at h
 have:=L8 b h.2 7 (by omega)
 rw[List.take_of_length_le (by omega)]at this
 have e:(128:Nat)*256^7=9223372036854775808:=by decide
 omega
structure Rd where
 bs:List UInt8
 bad:Bool
def Rd.ok(R:Rd)(n:Nat):Bool:=!R.bad&&decide (n<=R.bs.length)
def ni(n:Nat)(R:Rd):List UInt8:=if R.ok n=true then R.bs.take n else[]
def mM(n:Nat)(R:Rd):Rd:=if R.ok n=true then⟨R.bs.drop n,false⟩else⟨R.bs,true⟩
def fV(R:Rd):Int:=pq (ni 8 R)
def bQ(R:Rd):Rd:=if isNum (ni 8 R)=true then mM 8 R else⟨(mM 8 R).bs,true⟩
def cK(m:Int)(R:Rd):Int:=if fV R<=m then fV R else 0
def jd(m:Int)(R:Rd):Rd:=if fV R<=m then bQ R else⟨(bQ R).bs,true⟩
def gN:Nat->Rd->List Int
 |0,_=>[]
 |k+1,R=>fV R::gN k (bQ R)
def dY:Nat->Rd->Rd
 |0,R=>R
 |k+1,R=>dY k (bQ R)
theorem mo:∀(k:Nat) (R:Rd),(gN k R).length=k
 |0,_=>rfl
 |k+1,R=>by simp[gN,mo k]
theorem AV:∀(a b:Nat) (R:Rd),dY (a+b) R=dY b (dY a R)
 |0,b,R=>by rw[Nat.zero_add];rfl
 |a+1,b,R=>by rw[Nat.succ_add];exact AV a b (bQ R)
theorem AY:∀(a b:Nat) (R:Rd),gN (a+b) R=gN a R++gN b (dY a R)
 |0,b,R=>by rw[Nat.zero_add];rfl
 |a+1,b,R=>by rw[Nat.succ_add];show fV R::gN (a+b) (bQ R)=_;rw[AY a b];rfl
def gT(R:Rd):List UInt8:=if R.ok 32=true then R.bs.take 32 else List.replicate 32 0
theorem uJ(R:Rd):(gT R).length=32:=by
 unfold gT
 split
 ·next h=>unfold Rd.ok at h;simp at h;simp;omega
 ·simp
def mR(m:Int)(R:Rd):List UInt8:=ni (cK m R).toNat (jd m R)
def lC(m:Int)(R:Rd):Rd:=mM (cK m R).toNat (jd m R)
def jV(m:Int):Nat->Rd->List (List UInt8)
 |0,_=>[]
 |k+1,R=>mR m R::jV m k (lC m R)
def kU(m:Int):Nat->Rd->Rd
 |0,R=>R
 |k+1,R=>kU m k (lC m R)
theorem rC(m:Int):∀(k:Nat) (R:Rd),(jV m k R).length=k
 |0,_=>rfl
 |k+1,R=>by simp[jV,rC m k]
theorem ND(m:Int):∀(a b:Nat) (R:Rd),kU m (a+b) R=kU m b (kU m a R)
 |0,b,R=>by rw[Nat.zero_add];rfl
 |a+1,b,R=>by rw[Nat.succ_add];exact ND m a b (lC m R)
theorem NG(m:Int):∀(a b:Nat) (R:Rd),jV m (a+b) R=jV m a R++jV m b (kU m a R)
 |0,b,R=>by rw[Nat.zero_add];rfl
 |a+1,b,R=>by rw[Nat.succ_add];show mR m R::jV m (a+b) (lC m R)=_;rw[NG m a b];rfl
theorem qR{R:Rd}(h:(mM n R).bad=false):R.bad=false/\R.bs=ni n R++(mM n R).bs/\(ni n R).length=n:=by
 unfold mM ni at*
 by_cases h1:R.ok n=true
 ·rw[if_pos h1,if_pos h1]
  unfold Rd.ok at h1
  simp at h1
  refine⟨h1.1,(List.take_append_drop n R.bs).symm,?_⟩
  rw[List.length_take];omega
 ·rw[if_neg h1]at h;cases h
theorem iJ{R:Rd}(h:(bQ R).bad=false):R.bad=false/\R.bs=aC (fV R)++(bQ R).bs/\0<=fV R/\fV R<=9223372036854775807:=by
 unfold bQ at*
 by_cases h1:isNum (ni 8 R)=true
 ·rw[if_pos h1]at*
  obtain⟨h2,h3,h4⟩:=qR h
  have e:fV R=(qJ (ni 8 R):Int):=by unfold fV pq;rw[if_pos h1]
  have:=Gh _ h1
  refine⟨h2,?_,by omega,by omega⟩
  rw[e,Yq _ h1];exact h3
 ·rw[if_neg h1]at h;cases h
theorem xK{R:Rd}(h:(jd m R).bad=false):R.bad=false/\R.bs=aC (cK m R)++(jd m R).bs/\0<=cK m R/\cK m R<=m/\cK m R<=9223372036854775807:=by
 unfold jd cK at*
 by_cases h1:fV R<=m
 ·rw[if_pos h1]at*
  rw[if_pos h1]
  obtain⟨h2,h3,h4,h5⟩:=iJ h
  exact⟨h2,h3,h4,h1,h5⟩
 ·rw[if_neg h1]at h;cases h
theorem yc:∀{k:Nat} {R:Rd},(dY k R).bad=false->R.bad=false/\R.bs=aF (gN k R)++(dY k R).bs/\∀z∈gN k R,0<=z/\z<=9223372036854775807
 |0,R,h=>⟨h,rfl,by simp[gN]⟩
 |k+1,R,h=>by
  obtain⟨h1,h2,h3⟩:=yc (k:=k) (R:=bQ R) h
  obtain⟨h4,h5,h6⟩:=iJ h1
  refine⟨h4,?_,?_⟩
  ·show R.bs=aF (fV R::gN k (bQ R))++(dY k (bQ R)).bs
   rw[kr,List.append_assoc,<-h2];exact h5
  ·intro z hz
   rcases List.mem_cons.1 hz with rfl|hz
   ·exact h6
   ·exact h3 z hz
theorem zq{R:Rd}(h:(mM 32 R).bad=false):R.bad=false/\R.bs=gT R++(mM 32 R).bs:=by
 obtain⟨h1,h2,h3⟩:=qR h
 refine⟨h1,?_⟩
 have e:gT R=ni 32 R:=by
  unfold gT ni
  split
  ·rfl
  ·next h4=>unfold mM at h;rw[if_neg h4]at h;cases h
 rw[e];exact h2
theorem Jj{R:Rd}(h:(lC m R).bad=false):R.bad=false/\R.bs=(aC ((mR m R).length:Int)++mR m R)++(lC m R).bs/\((mR m R).length:Int)<=m/\(mR m R).length<=9223372036854775807:=by
 obtain⟨h1,h2,h3⟩:=qR h
 obtain⟨h4,h5,h6,h7,h8⟩:=xK h1
 have e:((mR m R).length:Int)=cK m R:=by unfold mR;rw[h3];omega
 rw[e]
 refine⟨h4,?_,h7,by omega⟩
 rw[List.append_assoc]
 show R.bs=aC (cK m R)++(ni (cK m R).toNat (jd m R)++(mM (cK m R).toNat (jd m R)).bs)
 rw[<-h2];exact h5
def oD(L:List (List UInt8)):List UInt8:=L.flatMap fun p=>aC (p.length:Int)++p
theorem Jk{m:Int}:∀{k:Nat} {R:Rd},(kU m k R).bad=false->R.bad=false/\R.bs=oD (jV m k R)++(kU m k R).bs/\∀p∈jV m k R,(p.length:Int)<=m
 |0,R,h=>⟨h,rfl,by simp[jV]⟩
 |k+1,R,h=>by
  obtain⟨h1,h2,h3⟩:=Jk (k:=k) (R:=lC m R) h
  obtain⟨h4,h5,h6,_⟩:=Jj h1
  refine⟨h4,?_,?_⟩
  ·show R.bs=oD (mR m R::jV m k (lC m R))++(kU m k (lC m R)).bs
   unfold oD at*
   rw[List.flatMap_cons,List.append_assoc,<-h2];exact h5
  ·intro z hz
   rcases List.mem_cons.1 hz with rfl|hz
   ·exact h6
   ·exact h3 z hz
theorem Ib{p t:List UInt8}(h:p.length=n):ni n ⟨p++t,false⟩=p/\mM n ⟨p++t,false⟩=⟨t,false⟩:=by
 have h1:Rd.ok ⟨p++t,false⟩ n=true:=by unfold Rd.ok;simp;omega
 unfold ni mM
 rw[if_pos h1,if_pos h1]
 subst h
 simp
theorem jT{z:Int}(h:0<=z/\z<=9223372036854775807):fV ⟨aC z++t,false⟩=z/\bQ ⟨aC z++t,false⟩=⟨t,false⟩:=by
 obtain⟨h1,h2⟩:=Ib (n:=8) (p:=aC z) (t:=t) (fE z)
 unfold fV bQ pq
 rw[h1,h2,OB z h,if_pos rfl,if_pos rfl]
 exact⟨Ta z h,rfl⟩
theorem Eh{m z:Int}(h:0<=z/\z<=9223372036854775807)(hm:z<=m):cK m ⟨aC z++t,false⟩=z/\jd m ⟨aC z++t,false⟩=⟨t,false⟩:=by
 obtain⟨h1,h2⟩:=jT (t:=t) h
 unfold cK jd
 rw[h1,if_pos hm,if_pos hm,h2]
 exact⟨rfl,rfl⟩
theorem AZ:∀{zs:List Int} {t:List UInt8},(∀z∈zs,0<=z/\z<=9223372036854775807)->gN zs.length ⟨aF zs++t,false⟩=zs/\dY zs.length ⟨aF zs++t,false⟩=⟨t,false⟩
 |[],t,_=>⟨rfl,rfl⟩
 |z::zs,t,h=>by
  obtain⟨h1,h2⟩:=jT (t:=aF zs++t) (h z (by simp))
  obtain⟨h3,h4⟩:=AZ (zs:=zs) (t:=t) fun y hy=>h y (List.mem_cons_of_mem _ hy)
  rw[kr,List.append_assoc]
  show fV _::gN zs.length (bQ _)=_/\dY zs.length (bQ _)=_
  rw[h1,h2,h3,h4]
  exact⟨rfl,rfl⟩
theorem FN{p t:List UInt8}(h:p.length=32):gT ⟨p++t,false⟩=p/\mM 32 ⟨p++t,false⟩=⟨t,false⟩:=by
 obtain⟨h1,h2⟩:=Ib (t:=t) h
 refine⟨?_,h2⟩
 have h3:Rd.ok ⟨p++t,false⟩ 32=true:=by unfold Rd.ok;simp;omega
 unfold gT
 unfold ni at h1
 rw[if_pos h3]at*
 exact h1
theorem U6{p t:List UInt8}(h:(p.length:Int)<=m)(h2:p.length<=9223372036854775807):mR m ⟨(aC (p.length:Int)++p)++t,false⟩=p/\lC m ⟨(aC (p.length:Int)++p)++t,false⟩=⟨t,false⟩:=by
 rw[List.append_assoc]
 obtain⟨h3,h4⟩:=Eh (m:=m) (z:=(p.length:Int)) (t:=p++t) (by omega) h
 unfold mR lC
 rw[h3,h4,Int.toNat_natCast]
 exact Ib rfl
theorem U7{m:Int}:∀{L:List (List UInt8)} {t:List UInt8},(∀p∈L,(p.length:Int)<=m/\p.length<=9223372036854775807)->jV m L.length ⟨oD L++t,false⟩=L/\kU m L.length ⟨oD L++t,false⟩=⟨t,false⟩
 |[],t,_=>⟨rfl,rfl⟩
 |p::L,t,h=>by
  obtain⟨h1,h2⟩:=U6 (t:=oD L++t) (h p (by simp)).1 (h p (by simp)).2
  obtain⟨h3,h4⟩:=U7 (L:=L) (t:=t) fun y hy=>h y (List.mem_cons_of_mem _ hy)
  have e:oD (p::L)++t=(aC (p.length:Int)++p)++(oD L++t):=by unfold oD;rw[List.flatMap_cons,List.append_assoc]
  rw[e]
  show mR m _::jV m L.length (lC m _)=_/\kU m L.length (lC m _)=_
  rw[h1,h2,h3,h4]
  exact⟨rfl,rfl⟩
end
noncomputable section
open Pm
attribute [local irreducible] aN aQ bq aC aF
def Lv:ak:=sV.KR D6 bd8 bd7
def mY(R:Rd):List Seg:=[.gen 1 [.row R.bs.length [.bytes R.bs.length R.bs]],.bools 1 [R.bad]]
abbrev aU3:A:=.v (.slice none 0 0)
theorem au3{S:Nat->Prop}{w:World}{l:List Seg}(h:RL S w l []):RA S w (.row 0 l) (.slice none 0 0):=.row h (yLr _) (Nat.zero_le _) (fun _=>rfl) (.inl rfl)
theorem al5{pos:Nat}{x x':Bk}{args:List A}{e:TypeId}{sz n:Nat}{l:List Seg}(h:bV f pos x args (.o e sz n l) x'):bV f pos x args (.d (.row n l)) x':=by
 intro S w r vs h1 h2 h3 h4
 refine(h S w r vs h1 h2 h3 h4).mono ?_
 rintro e' w' ⟨v,rfl,⟨cs,h5,h6⟩,h7,h8⟩
 refine⟨v,rfl,zK h5 (h6.up ⟨yLr _,fun q _ hq=>⟨hq.1,fun _=>rfl⟩⟩) fun q hq=>?_,h7,h8⟩
 exact .inr (iM h5 hq).1
theorem aP0{pos:Nat}{x x':Bk}{args:List A}{l:List Seg}(h:bV f pos x args (.d aU3) x')(hl:l.all pF=true):bV f pos x args (.d (.row 0 l)) x':=by
 intro S w r vs h1 h2 h3 h4
 refine(h S w r vs h1 h2 h3 h4).mono ?_
 rintro e' w' ⟨v,rfl,h5,h7,h8⟩
 refine⟨v,rfl,?_,h7,h8⟩
 have h5:RA _ _ aU3 v:=h5
 rw[RA.plain h5]
 exact au3 (Hf hl)
def PL(res:Rd->bC)(nx:Rd->Rd):Nat->Bk->List A->(bC->Bk->Prop)->Prop
 |0,.var l,[],K=>∃R:Rd,l=mY R/\R.bs.length<=1000000/\K (res R) (.var (mY (nx R)))
 |_,_,_,_=>False
theorem lZ{res:Rd->bC}{nx:Rd->Rd}(h:∀R:Rd,R.bs.length<=1000000->bV f 0 (.var (mY R)) [] (res R) (.var (mY (nx R)))):∀pos x args K,PL res nx pos x args K->∃r x',bV f pos x args r x'/\K r x':=by
 intro pos x args K hd
 unfold PL at hd
 split at hd
 ·obtain⟨R,rfl,h1,hd⟩:=hd;exact⟨_,_,h R h1,hd⟩
 ·exact hd.elim
def aX6(p:Int->Prop)(res:Int->Rd->bC)(nx:Int->Rd->Rd):Nat->Bk->List A->(bC->Bk->Prop)->Prop
 |0,.var l,[.v (.int .i64 z)],K=>∃R:Rd,l=mY R/\R.bs.length<=1000000/\p z/\K (res z R) (.var (mY (nx z R)))
 |_,_,_,_=>False
theorem Wq{p:Int->Prop}{res:Int->Rd->bC}{nx:Int->Rd->Rd}(h:∀(z:Int) (R:Rd),R.bs.length<=1000000->p z->bV f 0 (.var (mY R)) [.v (.int .i64 z)] (res z R) (.var (mY (nx z R)))):∀pos x args K,aX6 p res nx pos x args K->∃r x',bV f pos x args r x'/\K r x':=by
 intro pos x args K hd
 unfold aX6 at hd
 split at hd
 ·obtain⟨R,rfl,h1,h2,hd⟩:=hd;exact⟨_,_,h _ R h1 h2,hd⟩
 ·exact hd.elim
def WJ(n:Nat)(R:Rd):bC:=.d (.row (ni n R).length [.bytes (ni n R).length (ni n R)])
theorem aX7{R:Rd}(hb:R.bad=false):[Seg.gen 1 [.row (R.bs.length-n) [.bytes (R.bs.length-n) (List.take (R.bs.length-n) (List.drop n R.bs))]],Seg.bools 1 [R.bad]]=mY ⟨R.bs.drop n,false⟩:=by
 unfold mY
 rw[hb,List.take_of_length_le (by rw[List.length_drop];omega),List.length_drop]
theorem aF0(hb:∀(z:Int) (R:Rd),R.bad=true->bV f 0 (.var (mY R)) [.v (.int .i64 z)] (.d aU3) (.var (mY ⟨R.bs,true⟩)))
  (hs:∀(z:Int) (R:Rd),R.bad=false->(R.bs.length:Int)<z->R.bs.length<=1000000->bV f 0 (.var (mY R)) [.v (.int .i64 z)] (.d aU3) (.var (mY ⟨R.bs,true⟩)))
  (hg:∀(n:Nat) (R:Rd),R.bad=false->n<=R.bs.length->R.bs.length<=1000000->bV f 0 (.var (mY R)) [.v (.int .i64 n)] (.d (.row n [.bytes n (R.bs.take n)])) (.var (mY ⟨R.bs.drop n,false⟩)))
  (z:Int)(R:Rd)(hR:R.bs.length<=1000000)(hz:0<=z):bV f 0 (.var (mY R)) [.v (.int .i64 z)] (WJ z.toNat R) (.var (mY (mM z.toNat R))):=by
 obtain⟨n,rfl⟩:∃n:Nat,z=n:=⟨z.toNat,by omega⟩
 rw[Int.toNat_natCast]
 unfold WJ ni mM
 by_cases h:R.ok n=true
 ·rw[if_pos h,if_pos h]
  unfold Rd.ok at h
  simp at h
  have:=hg n R h.1 h.2 hR
  have e:(R.bs.take n).length=n:=by rw[List.length_take];omega
  rw[e];exact this
 ·rw[if_neg h,if_neg h]
  refine aP0 ?_ rfl
  cases hbad:R.bad with
  |true=>exact hb _ R hbad
  |false=>
   refine hs _ R hbad ?_ hR
   unfold Rd.ok at h
   simp[hbad]at h
   omega
theorem aI8(z:Int)(R:Rd)(hR:R.bs.length<=1000000)(hz:0<=z):bV 188 0 (.var (mY R)) [.v (.int .i64 z)] (WJ z.toNat R) (.var (mY (mM z.toNat R))):=by
 refine aF0 (fun z R hb=>?_) (fun z R hb hs hR=>?_) (fun n R hb hs hR=>?_) z R hR hz
 ·refine iH (E:=Lv) Tryz.func188 Tryz.ntmps188 ?_
  refine ah ?_;(try exact⟨⟩)
 ·refine iH (E:=Lv) Tryz.func188 Tryz.ntmps188 ?_
  have h1:z>(R.bs.length:Int):=hs
  refine ah ?_;(try exact⟨⟩)
 ·refine iH (E:=Lv) Tryz.func188 Tryz.ntmps188 ?_
  have h1:¬(n:Int)>(R.bs.length:Int):=by omega
  refine ah ?_
  exact⟨congrArg (fun l=>some (Bk.var l)) (aX7 hb),rfl⟩
def bt9:ak:=Lv.gI 188 (aX6 (fun z=>0<=z) (fun z R=>WJ z.toNat R) (fun z R=>mM z.toNat R)) (Wq aI8) (.of Tryz.func188)
def Lx:ak:=bt9
theorem Zp(hs:∀(b:List UInt8),((b.length:Int)==8)=false->aV f [.row b.length [.bytes b.length b]] (.t [.v (.int .i64 0),.v (.bool false)]))
  (hh:∀(b:List UInt8),b.length=8->¬(b.getD 0 0).toNat<=127->aV f [.row 8 [.bytes 8 b]] (.t [.v (.int .i64 0),.v (.bool false)]))
  (hg:∀(b:List UInt8),b.length=8->(b.getD 0 0).toNat<=127->aV f [.row 8 [.bytes 8 b]] (.t [.v (.int .i64 (qJ b:Int)),.v (.bool true)]))
  (b:List UInt8):aV f [.row b.length [.bytes b.length b]] (.t [.v (.int .i64 (pq b)),.v (.bool (isNum b))]):=by
 by_cases h8:b.length=8
 ·by_cases h:(b.getD 0 0).toNat<=127
  ·have h1:isNum b=true:=by unfold isNum;rw[h8,decide_eq_true h];rfl
   have h2:pq b=(qJ b:Int):=by unfold pq;rw[if_pos h1]
   rw[h1,h2,h8];exact hg b h8 h
  ·have h1:isNum b=false:=by unfold isNum;rw[decide_eq_false h,Bool.and_false]
   have h2:pq b=0:=by unfold pq;rw[h1];rfl
   rw[h1,h2,h8];exact hh b h8 h
 ·have h1:isNum b=false:=by unfold isNum;simp[h8]
  have h2:pq b=0:=by unfold pq;rw[h1];rfl
  rw[h1,h2];exact hs b (by simp;omega)
attribute [local irreducible] qJ
theorem Yr{k:Nat}(h8:b.length=8)(h0:(b.getD 0 0).toNat<=127)(hk:k<8):
  IntKind.i64.wrap (((qJ (b.take k):Nat):Int)*2^(min 8 IntKind.i64.bits))=((qJ (b.take k):Nat):Int)*256/\IntKind.i64.wrap (Bt (b.getD k 0))=Bt (b.getD k 0)/\
  bits .or .i64 (((qJ (b.take k):Nat):Int)*256) (Bt (b.getD k 0))=((qJ (b.take (k+1)):Nat):Int):=by
 have hlim:=av1 b h0 h8 k hk
 have hb:b.getD k 0=b[k]'(by omega):=by rw[yGd,yGe (by omega)];rfl
 have hlt:=UInt8.toNat_lt (b[k]'(by omega))
 have e:(2:Int)^(min 8 IntKind.i64.bits)=256:=by decide
 rw[e,hb,Cu b k (by omega)]
 refine⟨IntWalk.i64_in _ (by omega),IntWalk.i64_in _ (by have:=Nh (b[k]'(by omega));omega),?_⟩
 exact aW0 _ _ hlt (by omega)
theorem ZJ(b:List UInt8):aV 220 [.row b.length [.bytes b.length b]] (.t [.v (.int .i64 (pq b)),.v (.bool (isNum b))]):=by
 refine Zp (fun b h=>?_) (fun b h8 h=>?_) (fun b h8 h=>?_) b
 ·refine eO (E:=Lx) Tryz.func220 Tryz.ntmps220 ?_
  have h1:((b.length:Int) !=8)=true:=by unfold bne;rw[h];rfl
  refine ah ?_;(try exact⟨⟩)
 ·refine eO (E:=Lx) Tryz.func220 Tryz.ntmps220 ?_
  have h1:Bt (b.getD 0 0)>127:=by unfold Bt;omega
  refine ah ?_;(try exact⟨⟩)
 ·refine eO (E:=Lx) Tryz.func220 Tryz.ntmps220 ?_
  have h1:decide (Bt (b.getD 0 0)>127)=false:=decide_eq_false (by unfold Bt;omega)
  refine ah ?_
  refine aX.mk (cB [4,16,17,18] [0] 8 (fun j=>⟨.au::.au::.au::.au::.d (.v (.int .i64 ((qJ (b.take j):Nat):Int)))::dz 11 (.d (.row 8 [.bytes 8 b])::.d (.v (.int .i64 ((8:Nat):Int)))::.d (.v (.int .i64 (j:Nat)))::dz 10 []),[none]⟩) ?_ (h2:=by rw[Cv];exact rfl))
  intro j hj hl
  by_cases hj8:j<8
  ·have h2:(j:Int)<((8:Nat):Int):=by omega
   obtain⟨e1,e2,e3⟩:=Yr h8 h hj8
   refine ah ?_
   rw[e1,e2,e3]
   refine hl.go hj8 [4,16,17,18] [0] ?_
   rfl
  ·obtain rfl:j=8:=by omega
   refine ah ?_
   rw[List.take_of_length_le (by omega)]
def Ur:List A->(bC->Prop)->Prop
 |[.row n [.bytes m b]],K=>n=b.length/\m=b.length/\K (.t [.v (.int .i64 (pq b)),.v (.bool (isNum b))])
 |_,_=>False
theorem Zo(h:∀b:List UInt8,aV f [.row b.length [.bytes b.length b]] (.t [.v (.int .i64 (pq b)),.v (.bool (isNum b))])):∀args K,Ur args K->∃r,aV f args r/\K r:=by
 intro args K hd
 unfold Ur at hd
 split at hd
 ·obtain⟨rfl,rfl,hd⟩:=hd;exact⟨_,h _,hd⟩
 ·exact hd.elim
def bu0:ak:=Lx.add 220 Ur (Zo ZJ) (.of Tryz.func220)
def ai4:ak:=bu0
end
noncomputable section
open Pm
attribute [local irreducible] aN aQ bq aC aF ni mM pq isNum fV bQ cK jd gT
theorem lQ(n:Nat)(R:Rd):(mM n R).bs.length<=R.bs.length:=by
 unfold mM;split<;>simp
theorem dD(R:Rd):(bQ R).bs.length<=R.bs.length:=by
 unfold bQ;split
 ·exact lQ 8 R
 ·exact lQ 8 R
theorem oF(m:Int)(R:Rd):(jd m R).bs.length<=R.bs.length:=by
 unfold jd;split
 ·exact dD R
 ·exact dD R
theorem lH:∀(k:Nat) (R:Rd),(dY k R).bs.length<=R.bs.length
 |0,R=>yLr _
 |k+1,R=>yLt (lH k (bQ R)) (dD R)
theorem E8(m:Int)(R:Rd):(lC m R).bs.length<=R.bs.length:=yLt (lQ _ _) (oF m R)
theorem zZ(m:Int):∀(k:Nat) (R:Rd),(kU m k R).bs.length<=R.bs.length
 |0,R=>yLr _
 |k+1,R=>yLt (zZ m k (lC m R)) (E8 m R)
theorem Zy(z:Int)(R:Rd)(hR:R.bs.length<=1000000)(hz:0<=z):bV 190 0 (.var (mY R)) [.v (.int .i64 z)] (.d (.v (.int .i64 (cK z R)))) (.var (mY (jd z R))):=by
 refine iH (E:=ai4) Tryz.func190 Tryz.ntmps190 ?_
 cases h:isNum (ni 8 R)with
 |false=>
  have e0:pq (ni 8 R)=0:=by unfold pq;rw[h];rfl
  have eV:cK z R=0:=by unfold cK fV;rw[e0];simp
  have eN:jd z R=⟨(mM 8 R).bs,true⟩:=by unfold jd fV bQ;rw[e0,if_pos hz,h];rfl
  rw[eV,eN]
  clear eV eN e0
  refine ah ?_;(try exact⟨⟩)
 |true=>
  have e1:bQ R=mM 8 R:=by unfold bQ;rw[if_pos h]
  by_cases h2:pq (ni 8 R)>z
  ·have eV:cK z R=0:=by unfold cK fV;rw[if_neg (by omega)]
   have eN:jd z R=⟨(mM 8 R).bs,true⟩:=by unfold jd fV;rw[if_neg (by omega),e1]
   rw[eV,eN]
   clear eV eN e1
   refine ah ?_;(try exact⟨⟩)
  ·have eV:cK z R=pq (ni 8 R):=by unfold cK fV;rw[if_pos (by omega)]
   have eN:jd z R=mM 8 R:=by unfold jd fV;rw[if_pos (by omega),e1]
   rw[eV,eN]
   clear eV eN e1
   refine ah ?_;(try exact⟨⟩)
def ai5:ak:=ai4.gI 190 (aX6 (fun z=>0<=z) (fun z R=>.d (.v (.int .i64 (cK z R)))) (fun z R=>jd z R)) (Wq Zy) (.of Tryz.func190)
theorem av3(b:List UInt8):pq b<=9223372036854775807:=by
 unfold pq
 split
 ·next h=>have:=Gh b h;omega
 ·decide
theorem bd3(R:Rd)(hR:R.bs.length<=1000000):bV 189 0 (.var (mY R)) [] (.d (.v (.int .i64 (fV R)))) (.var (mY (bQ R))):=by
 refine iH (E:=ai5) Tryz.func189 Tryz.ntmps189 ?_
 have h:fV R<=9223372036854775807:=by unfold fV;exact av3 _
 have eV:fV R=cK 9223372036854775807 R:=by unfold cK;rw[if_pos h]
 have eN:bQ R=jd 9223372036854775807 R:=by unfold jd;rw[if_pos h]
 rw[eV,eN]
 clear eV eN h
 refine ah ?_;(try exact⟨⟩)
def bu1:ak:=ai5.gI 189 (PL (fun R=>.d (.v (.int .i64 (fV R)))) bQ) (lZ bd3) (.of Tryz.func189)
def RV:ak:=bu1
abbrev uQ(k:Nat)(R:Rd):bC:=.d (.agg [.ints .i64 k (gN k R)])
theorem bd6(R:Rd)(hR:R.bs.length<=1000000):bV 195 0 (.var (mY R)) [] (.d (.agg [.ints .i64 2 [fV R,fV (bQ R)]])) (.var (mY (bQ (bQ R)))):=by
 refine iH (E:=RV) Tryz.func195 Tryz.ntmps195 ?_
 have h1:=dD R
 refine ah ?_;(try exact⟨⟩)
theorem QC(R:Rd)(hR:R.bs.length<=1000000):bV 221 0 (.var (mY R)) [] (uQ 2 R) (.var (mY (dY 2 R))):=by
 refine iH (E:=RV) Tryz.func221 Tryz.ntmps221 ?_
 have h1:=dD R
 refine ah ?_;(try exact⟨⟩)
 rfl
def bu2:ak:=RV.gI 195 (PL (fun R=>.d (.agg [.ints .i64 2 [fV R,fV (bQ R)]])) (fun R=>bQ (bQ R))) (lZ bd6) (.of Tryz.func195)
def bu3:ak:=bu2.gI 221 (PL (uQ 2) (dY 2)) (lZ QC) (.of Tryz.func221)
def bX3:ak:=bu3
def Vo:ak:=bX3
theorem bI7(R:Rd)(hR:R.bs.length<=1000000):bV 191 0 (.var (mY R)) [] (uQ 5 R) (.var (mY (dY 5 R))):=by
 refine iH (E:=Vo) Tryz.func191 Tryz.ntmps191 ?_
 have h1:=dD R
 have h2:=dD (bQ R)
 have h3:=dD (bQ (bQ R))
 refine ah ?_;(try exact⟨⟩)
 rfl
theorem aJ0(R:Rd)(hR:R.bs.length<=1000000):bV 192 0 (.var (mY R)) [] (uQ 3 R) (.var (mY (dY 3 R))):=by
 refine iH (E:=Vo) Tryz.func192 Tryz.ntmps192 ?_
 have h1:=dD R
 have h2:=dD (bQ R)
 refine ah ?_;(try exact⟨⟩)
 rfl
theorem aI3(R:Rd)(hR:R.bs.length<=1000000):bV 194 0 (.var (mY R)) [] (.d (.agg [.bytes 32 (gT R)])) (.var (mY (mM 32 R))):=by
 refine iH (E:=Vo) Tryz.func194 Tryz.ntmps194 ?_
 by_cases h:R.ok 32=true
 ·have e1:ni 32 R=R.bs.take 32:=by unfold ni;rw[if_pos h]
  have e2:gT R=ni 32 R:=by unfold gT;rw[if_pos h,e1]
  have e3:(ni 32 R).length=32:=by
   rw[e1,List.length_take]
   unfold Rd.ok at h;simp at h;omega
  rw[e2]
  clear e1 e2
  refine ah ?_
  rw[e3]
  refine ah ?_;(try exact⟨⟩)
  try rfl
 ·have e1:ni 32 R=[]:=by unfold ni;rw[if_neg h]
  have e2:gT R=List.replicate 32 0:=by unfold gT;rw[if_neg h]
  have e3:(ni 32 R).length=0:=by rw[e1];rfl
  rw[e2]
  clear e2
  refine ah ?_
  rw[e1]
  refine ah ?_;(try exact⟨⟩)
  try rfl
def bX4:ak:=Vo.gI 191 (PL (uQ 5) (dY 5)) (lZ bI7) (.of Tryz.func191)
def bX5:ak:=bX4.gI 192 (PL (uQ 3) (dY 3)) (lZ aJ0) (.of Tryz.func192)
def bX6:ak:=bX5
def bX7:ak:=bX6.gI 194 (PL (fun R=>.d (.agg [.bytes 32 (gT R)])) (mM 32)) (lZ aI3) (.of Tryz.func194)
def bX8:ak:=bX7
theorem XH (a : Option Addr) (n c : Nat) (bs : List UInt8) (w : World) (hp : fP w a n bs) (hc : a = none -> c = 0) (hs : bs.length <= 1000000) :
    Calls Tryz.prog 36 #[.slice a n c] w fun e w' => ∃ v, e = .returned v /\ iA w' w.heap.size 5 v bs /\ Below w.heap.size w w' := by
  have qT : ∀ (w : World) (a : Option Addr) (n c : Nat), (binOp .eql 35 (.slice a n c) (.slice none 0 0)).run Tryz.prog w = .ok (.bool a.isNone) w := fun w a n c => Lib.run_eql_slice_nil w _ _ a n c 0 0 Tryz.underlying35
  rcases ha : a.isNone with _ | _
  · have hn := hp.len_eq
    subst hn
    have hnn : a = none -> False := fun h => by rw [h] at ha; cases ha
    have HP := yHd hp; have HS := yHd hs; have HN := yHd hnn; have HC := yHd hc
    clear hp hs hnn hc
    go_enter Tryz.func36, Tryz.ntmps36
    go_wp2_with (at_builtin
                 refine eF rfl (.tmp 5) (.tmp 6) 35 rfl w.heap.size 5 Tryz.underlying35 info8 (.slice (some ⟨w.heap.size, 0, none⟩) 0 0) [] rfl (iA.yN [] _ rfl rfl rfl (yLr _) (Db _ (by simp))) _ _ _ bs rfl (HP.out.below ((Below.refl _ _).next (yLr _) _)) (fun e => (HN.out e).elim) (by have := HS.out; simp only [List.length_nil]; omega) (by simp) ?_
                 intro v2 w2 hown hg hb
                 rw [List.nil_append] at hown
                 have hb2 := ((Below.refl _ w).next (yLr _) (.cells #[] 5)).trans hb
                 have HO := yHd hown; have HB := yHd hb2
                 clear hown hg hb hb2)
    refine bodyPost_ret (results_tmp rfl _ _ _) rfl ?_
    exact ⟨_, rfl, HO.out, HB.out⟩
  · have hnn : a = none := by cases a with
      | none => rfl
      | some x => cases ha
    have hb : bs = [] := by
      rcases hp.cells with h1 | ⟨b, off, h1, _⟩
      · exact h1
      · rw [hnn] at h1; cases h1
    have hn : n = 0 := by rw [hp.len_eq, hb]; rfl
    subst hn
    have HB := yHd hb
    clear hp hnn hb hs hc
    go_enter Tryz.func36, Tryz.ntmps36
    go_wp2
    refine bodyPost_ret (results_tmp rfl _ _ _) rfl ?_
    exact ⟨_, rfl, by rw [HB.out]; exact World.ownsRow_nil _ _ _ _, Below.refl _ _⟩
theorem ae5(bs:List UInt8)(hs:bs.length<=1000000):aV 36 [.row bs.length [.bytes bs.length bs]] (.o 5 1 bs.length [.bytes bs.length bs]):=by
 refine Au fun S w vs ha=>?_
 obtain⟨v,rfl,h1⟩:=iC ha
 obtain⟨b,hb,h2⟩:=C9 (x:=.row bs.length [.bytes bs.length bs]) (K:=fun b=>b=bs) (by unfold sH;exact⟨rfl,rfl⟩)
 subst hb
 obtain⟨a,n,c,rfl,h3,h4⟩:=h2 h1
 exact XH a n c b w h3 h4 hs
def Rt:List A->(bC->Prop)->Prop
 |[.row n [.bytes m b]],K=>n=b.length/\m=b.length/\b.length<=1000000/\K (.o 5 1 b.length [.bytes b.length b])
 |_,_=>False
theorem XG:∀args K,Rt args K->∃r,aV 36 args r/\K r:=by
 intro args K hd
 unfold Rt at hd
 split at hd
 ·obtain⟨rfl,rfl,h1,hd⟩:=hd;exact⟨_,ae5 _ h1,hd⟩
 ·exact hd.elim
def bi8:ak:=bX8.add 36 Rt XG (.of Tryz.func36)
theorem ba6(n:Nat)(R:Rd):(ni n R).length<=R.bs.length:=by
 unfold ni;split
 ·rw[List.length_take];omega
 ·simp
theorem NQ{R:Rd}:0<=cK m R:=by
 have h:0<=fV R:=by unfold fV pq;split;omega;exact Int.le_refl 0
 unfold cK;split
 ·exact h
 ·exact Int.le_refl 0
abbrev ac0(m:Int)(R:Rd):bC:=.d (.row (mR m R).length [.bytes (mR m R).length (mR m R)])
theorem bc7(R:Rd)(hR:R.bs.length<=1000000):bV 193 0 (.var (mY R)) [] (ac0 300 R) (.var (mY (lC 300 R))):=by
 refine al5 (e:=5) (sz:=1) ?_
 refine iH (E:=bi8) Tryz.func193 Tryz.ntmps193 ?_
 have h1:=oF 300 R
 have h2:=ba6 (cK 300 R).toNat (jd 300 R)
 have h3:=NQ (m:=300) (R:=R)
 refine ah ?_;(try exact⟨⟩)
 rfl
def bi9:ak:=bi8.gI 193 (PL (ac0 300) (lC 300)) (lZ bc7) (.of Tryz.func193)
end
section
open Pm
attribute [local irreducible] aN aQ bq aC aF ni mM pq isNum fV bQ cK jd gT mR lC gN dY jV kU
def Hr(b:List UInt8):A:=.row b.length [.bytes b.length b]
def KS(R:Rd):Rd:=jd 4 (bQ (bQ R))
def wo(R:Rd):Nat:=(cK 4 (bQ (bQ R))).toNat
def M7(R:Rd):Rd:=dY (wo R*5) (KS R)
def Df(R:Rd):Rd:=jd 8 (M7 R)
def wv(R:Rd):Nat:=(cK 8 (M7 R)).toNat
def yH(R:Rd):Rd:=dY (wv R*3) (Df R)
def M8(R:Rd):Rd:=bQ (bQ (bQ (bQ (yH R))))
def BK(R:Rd):Rd:=jd 16 (M8 R)
def wb(R:Rd):Nat:=(cK 16 (M8 R)).toNat
def Xa(R:Rd):Rd:=kU 300 (wb R) (BK R)
def yG(R:Rd):Rd:=mM 32 (Xa R)
def xF(R:Rd):Rd:=bQ (bQ (yG R))
def aH7(R:Rd):List Seg:=[.ints .i64 2 [fV R,fV (bQ R)],.gen 2 [.row (wo R) [.ints .i64 (wo R*5) (gN (wo R*5) (KS R))],.row (wv R) [.ints .i64 (wv R*3) (gN (wv R*3) (Df R))]],
 .ints .i64 4 [fV (yH R),fV (bQ (yH R)),fV (bQ (bQ (yH R))),fV (bQ (bQ (bQ (yH R))))],.gen 1 [.row (wb R) [.gen (wb R) ((jV 300 (wb R) (BK R)).map Hr)]],.bytes 32 (gT (Xa R)),.ints .i64 2 [fV (yG R),fV (bQ (yG R))]]
theorem qm{R:Rd}:((cK m R).toNat:Int)=cK m R:=by have:=NQ (m:=m) (R:=R);omega
theorem rD{R:Rd}(hm:0<=m):cK m R<=m:=by unfold cK;split;assumption;exact hm
theorem tC(R:Rd):dY 0 R=R:=by unfold dY;rfl
theorem tF(R:Rd):gN 0 R=[]:=by unfold gN;rfl
theorem Jl(m:Int)(R:Rd):kU m 0 R=R:=by unfold kU;rfl
theorem Jm(m:Int)(R:Rd):jV m 0 R=[]:=by unfold jV;rfl
theorem ac4(m:Int)(j:Nat)(R:Rd):kU m (j+1) R=lC m (kU m j R):=by
 rw[ND]
 generalize kU m j R=Q
 unfold kU
 exact Jl _ _
theorem ac5(m:Int)(j:Nat)(R:Rd):(jV m (j+1) R).map Hr=(jV m j R).map Hr++[Hr (mR m (kU m j R))]:=by
 rw[NG,List.map_append]
 congr 1
 show(jV m (0+1) (kU m j R)).map Hr=_
 unfold jV
 rw[Jm]
 rfl
theorem ak9(j:Nat):(j+1)*5=j*5+5:=by omega
theorem Zn(j:Nat):(j+1)*3=j*3+3:=by omega
def cs1(R:Rd):List Seg:=[.ints .i64 2 [fV R,fV (bQ R)],.gen 2 [.v (.slice none 0 0),.v (.slice none 0 0)],.ints .i64 4 [0,0,0,0],.gen 1 [.v (.slice none 0 0)],.bytes 32 (List.replicate 32 0),.ints .i64 2 [0,0]]
def cs2(R:Rd):List Seg:=[.ints .i64 2 [fV R,fV (bQ R)],.gen 2 [.row (wo R) [.ints .i64 (wo R*5) (gN (wo R*5) (KS R))],.v (.slice none 0 0)],.ints .i64 4 [0,0,0,0],.gen 1 [.v (.slice none 0 0)],.bytes 32 (List.replicate 32 0),.ints .i64 2 [0,0]]
def cs3(R:Rd):List Seg:=[.ints .i64 2 [fV R,fV (bQ R)],.gen 2 [.row (wo R) [.ints .i64 (wo R*5) (gN (wo R*5) (KS R))],.row (wv R) [.ints .i64 (wv R*3) (gN (wv R*3) (Df R))]],
 .ints .i64 4 [fV (yH R),fV (bQ (yH R)),fV (bQ (bQ (yH R))),fV (bQ (bQ (bQ (yH R))))],.gen 1 [.v (.slice none 0 0)],.bytes 32 (List.replicate 32 0),.ints .i64 2 [0,0]]
def br9:List Seg:=[.ints .i64 2 [0,0],.gen 2 [.v (.slice none 0 0),.v (.slice none 0 0)],.ints .i64 4 [0,0,0,0],.gen 1 [.v (.slice none 0 0)],.bytes 32 (List.replicate 32 0),.ints .i64 2 [0,0]]
theorem Ip(R:Rd)(hR:R.bs.length<=1000000):bV 139 0 (.var (mY R)) [] (.d (.agg (aH7 R))) (.var (mY (xF R))):=by
 refine iH (E:=bi9) Tryz.func139 Tryz.ntmps139 ?_
 have l1:=dD R
 have l2:=dD (bQ R)
 have l3:(KS R).bs.length<=1000000:=by have:(KS R).bs.length<=(bQ (bQ R)).bs.length:=oF _ _;omega
 have n4:((wo R:Nat):Int)=cK 4 (bQ (bQ R)):=qm
 have m4:cK 4 (bQ (bQ R))<=4:=rD (by decide)
 refine ah ?_
 refine aX.mk (Co [0,2,3,12,13] [0,1,2] 2 2 31 5 [.ints .i64 0 []] (wo R) (fun j=>⟨.ptr 0 0::.au::.ptr 1 0::.ptr 2 0::dz 8 (.d (.v (.int .i64 (cK 4 (bQ (bQ R)))))::.d (.v (.int .i64 (j:Nat)))::dz 52 []),[some (.var (mY (dY (j*5) (KS R)))),some (.var br9),some (.vh (cs1 R) 2 true 31 5 j [.ints .i64 (j*5) (gN (j*5) (KS R))])]⟩) ?_ (h2:=by rw[Nat.zero_mul,tC,tF];exact rfl))
 intro j hj hl
 by_cases h:j<wo R
 ·have h1:(j:Int)<cK 4 (bQ (bQ R)):=by omega
  have h2:(dY (j*5) (KS R)).bs.length<=1000000:=by have:=lH (j*5) (KS R);omega
  refine ah ?_
  refine hl.go h [0,2,3,12,13] [0,1,2] ?_
  rw[ak9,AV,AY]
  rfl
 obtain rfl:j=wo R:=by omega
 have h1:¬((wo R:Nat):Int)<cK 4 (bQ (bQ R)):=by omega
 have l4:(M7 R).bs.length<=1000000:=by have:(M7 R).bs.length<=(KS R).bs.length:=lH _ _;omega
 have l4':(dY (wo R*5) (KS R)).bs.length<=1000000:=l4
 have l5:(Df R).bs.length<=1000000:=by have:(Df R).bs.length<=(M7 R).bs.length:=oF _ _;omega
 have n8:((wv R:Nat):Int)=cK 8 (M7 R):=qm
 have m8:cK 8 (M7 R)<=8:=rD (by decide)
 refine ah ?_
 refine aX.mk (Co [0,2,3,24,25] [0,1,2] 2 3 103 3 [.ints .i64 0 []] (wv R) (fun j=>⟨.ptr 0 0::.au::.ptr 1 0::.ptr 2 0::dz 20 (.d (.v (.int .i64 (cK 8 (M7 R))))::.d (.v (.int .i64 (j:Nat)))::dz 40 []),[some (.var (mY (dY (j*3) (Df R)))),some (.var br9),some (.vh (cs2 R) 3 true 103 3 j [.ints .i64 (j*3) (gN (j*3) (Df R))])]⟩) ?_ (h2:=by rw[Nat.zero_mul,tC,tF];exact rfl))
 clear l1 l2 l3 l4 l4' hl h1 h hj
 intro j hj hl
 by_cases h:j<wv R
 ·have h1:(j:Int)<cK 8 (M7 R):=by omega
  have h2:(dY (j*3) (Df R)).bs.length<=1000000:=by have:=lH (j*3) (Df R);omega
  refine ah ?_
  refine hl.go h [0,2,3,24,25] [0,1,2] ?_
  rw[Zn,AV,AY]
  rfl
 obtain rfl:j=wv R:=by omega
 have h1:¬((wv R:Nat):Int)<cK 8 (M7 R):=by omega
 have l6:(yH R).bs.length<=1000000:=by have:(yH R).bs.length<=(Df R).bs.length:=lH _ _;omega
 have l6':(dY (wv R*3) (Df R)).bs.length<=1000000:=l6
 have l6a:(bQ (dY (wv R*3) (Df R))).bs.length<=1000000:=by have:=dD (dY (wv R*3) (Df R));omega
 have l6b:(bQ (bQ (dY (wv R*3) (Df R)))).bs.length<=1000000:=by have:=dD (bQ (dY (wv R*3) (Df R)));omega
 have l6c:(bQ (bQ (bQ (dY (wv R*3) (Df R))))).bs.length<=1000000:=by have:=dD (bQ (bQ (dY (wv R*3) (Df R))));omega
 have l7:(M8 R).bs.length<=1000000:=by have:(M8 R).bs.length<=(bQ (bQ (bQ (dY (wv R*3) (Df R))))).bs.length:=dD _;omega
 have l7':(bQ (bQ (bQ (bQ (dY (wv R*3) (Df R)))))).bs.length<=1000000:=l7
 have l8:(BK R).bs.length<=1000000:=by have:(BK R).bs.length<=(M8 R).bs.length:=oF _ _;omega
 have n16:((wb R:Nat):Int)=cK 16 (M8 R):=qm
 have m16:cK 16 (M8 R)<=16:=rD (by decide)
 refine ah ?_
 refine aX.mk (aH 4 ?_)
 refine ah ?_
 refine aX.mk (Co [0,2,3,48,49] [0,1,2] 2 8 35 1 [.gen 0 []] (wb R) (fun j=>⟨.ptr 0 0::.au::.ptr 1 0::.ptr 2 0::dz 44 (.d (.v (.int .i64 (cK 16 (M8 R))))::.d (.v (.int .i64 (j:Nat)))::dz 16 []),[some (.var (mY (kU 300 j (BK R)))),some (.var br9),some (.vh (cs3 R) 8 true 35 1 j [.gen j ((jV 300 j (BK R)).map Hr)])]⟩) ?_ (h2:=by rw[Jl,Jm];exact rfl))
 clear l6 l6' l6a l6b l6c l7 l7' hl h1 h hj
 intro j hj hl
 by_cases h:j<wb R
 ·have h1:(j:Int)<cK 16 (M8 R):=by omega
  have h2:(kU 300 j (BK R)).bs.length<=1000000:=by have:=zZ 300 j (BK R);omega
  refine ah ?_
  refine hl.go h [0,2,3,48,49] [0,1,2] ?_
  rw[ac4,ac5]
  rfl
 obtain rfl:j=wb R:=by omega
 have h1:¬((wb R:Nat):Int)<cK 16 (M8 R):=by omega
 have l9:(Xa R).bs.length<=1000000:=by have:(Xa R).bs.length<=(BK R).bs.length:=zZ _ _ _;omega
 have l9':(kU 300 (wb R) (BK R)).bs.length<=1000000:=l9
 have l10:(mM 32 (kU 300 (wb R) (BK R))).bs.length<=1000000:=by have:=lQ 32 (kU 300 (wb R) (BK R));omega
 refine ah ?_;(try exact⟨⟩)
 rfl
noncomputable def Vp:ak:=bi9.gI 139 (PL (fun R=>.d (.agg (aH7 R))) xF) (lZ Ip) (.of Tryz.func139)
end
section
open Pm
abbrev Je(z:Int):Prop:=0<=z/\z<=9223372036854775807
structure MF(c:CS):Prop where
 e:Je c.e
 fr:Je c.fr
 sl:Je c.sl
 p0:Je c.p0
 p1:Je c.p1
 p2:Je c.p2
 sE:Je c.sE
 sS:Je c.sS
 ops:∀z∈c.ops,Je z
 vs:∀z∈c.vs,Je z
 n4:c.n<=4
 m8:c.m<=8
 k16:c.k<=16
 bx:∀j,j<c.k->(c.bx j).length<=300
theorem gD{z m:Int}(h:aU z m=true)(hm:m<=9223372036854775807):Je z:=by
 unfold aU at h;simp at h;exact⟨h.1,by omega⟩
theorem MK{e s:Int}(h:nV e s=true):Je e/\Je s:=by
 unfold nV at h;simp only[Bool.and_eq_true]at h;exact⟨gD h.1 (by decide),gD h.2 (by decide)⟩
theorem Ym(h:dA c=true)(hc:lS c):MF c:=by
 unfold dA at h
 simp only[Bool.and_eq_true,Bool.not_eq_true',decide_eq_true_eq]at h
 obtain⟨h1,h2,h3,h4,h5,h6,h7,h8,h9,h10,h11,h12,JQ⟩:=h
 have a9:∀j,j<c.n->dh (qX 5 c.ops j)=false:=fun j hj=>by
  cases e:dh (qX 5 c.ops j)with
  |false=>rfl
  |true=>rw[(oz _ _).2 ⟨j,hj,e⟩]at h9;cases h9
 have a11:∀j,j<c.m->bL (qX 3 c.vs j)=false:=fun j hj=>by
  cases e:bL (qX 3 c.vs j)with
  |false=>rfl
  |true=>rw[(oz _ _).2 ⟨j,hj,e⟩]at h11;cases h11
 refine⟨gD h1 (by decide),gD h2 (by decide),gD h4 (by decide),gD h5 (by decide),gD h6 (by decide),gD h7 (by decide),(MK h3).1,(MK h3).2,fun z hz=>?_,fun z hz=>?_,by omega,by omega,by omega,fun j hj=>?_⟩
 ·obtain⟨i,hi,rfl⟩:=List.getElem_of_mem hz
  have hl:=hc.ops
  have JU:=a9 (i / 5) (by omega)
  unfold dh at JU
  rw[List.any_eq_false]at JU
  have h15:c.ops[i]∈qX 5 c.ops (i / 5):=by
   unfold qX
   have h16:((c.ops.drop (i / 5*5)).take 5)[i%5]?=some c.ops[i]:=by
    rw[List.getElem?_take,if_pos (by omega),List.getElem?_drop,show i / 5*5+i%5=i by omega,yGe hi]
   exact List.mem_of_getElem? h16
  have Sg:=JU _ h15
  simp only[Bool.not_eq_true',Bool.not_eq_false]at Sg
  exact gD Sg (by decide)
 ·obtain⟨i,hi,rfl⟩:=List.getElem_of_mem hz
  have hl:=hc.vs
  have JU:=a11 (i / 3) (by omega)
  unfold bL at JU
  simp only[Bool.or_eq_false_iff,Bool.not_eq_false']at JU
  have h16:∀r,r<3->(qX 3 c.vs (i / 3)).getD r 0=c.vs.getD (i / 3*3+r) 0:=fun r hr=>by
   unfold qX
   rw[yGd,List.getElem?_take,if_pos hr,List.getElem?_drop,<-yGd]
  rw[h16 0 (by omega),h16 1 (by omega),h16 2 (by omega)]at JU
  obtain⟨k1,k2⟩:=JU
  obtain⟨k3,k4⟩:=MK k2
  have k1:=gD k1 (by decide)
  have e:c.vs[i]=c.vs.getD i 0:=by rw[yGd,yGe hi];rfl
  rw[e]
  rcases(show i%3=0\/i%3=1\/i%3=2 by omega)with h|h|h
  ·rw[show i=i / 3*3+0 by omega];exact k1
  ·rw[show i=i / 3*3+1 by omega];exact k3
  ·rw[show i=i / 3*3+2 by omega];exact k4
 ·cases e:decide (((c.bx j).length:Int)>300)with
  |false=>have:=of_decide_eq_false e;omega
  |true=>rw[(oz _ _).2 ⟨j,hj,e⟩]at JQ;cases JQ
def qZ(c:CS):List (List UInt8):=(List.range c.k).map c.bx
theorem Ny(c:CS):(qZ c).length=c.k:=by simp[qZ]
theorem ac2(bx:Nat->List UInt8):∀k,bxB bx k=oD ((List.range k).map bx)
 |0=>rfl
 |k+1=>by
  show bxB bx k++pU (bx k)=_
  rw[ac2 bx k,List.range_succ,List.map_append]
  unfold oD pU
  rw[List.flatMap_append,Cw]
  simp
def DJ(c:CS)(t:List UInt8):List UInt8:=
 aC c.e++(aC c.fr++(aC (c.n:Int)++(aF c.ops++(aC (c.m:Int)++(aF c.vs++(aC c.sl++(aC c.p0++(aC c.p1++(aC c.p2++(aC (c.k:Int)++(oD (qZ c)++(c.tag++(aC c.sE++(aC c.sS++t))))))))))))))
theorem Dj(c:CS)(t:List UInt8):bS c++t=1::DJ c t:=by
 unfold bS DJ bn pR qC
 rw[ac2]
 simp only[kr,jL,List.append_assoc,List.append_nil,List.nil_append,List.cons_append,qZ]
theorem Ia(n:Nat)(R:Rd):(ni n R).length<=n:=by unfold ni;split;rw[List.length_take];omega;simp
theorem NH(m:Int)(hm:0<=m):∀(k:Nat) (R:Rd),∀p∈jV m k R,(p.length:Int)<=m
 |0,_,p,hp=>by simp[jV]at hp
 |k+1,R,p,hp=>by
  rcases List.mem_cons.1 hp with rfl|hp
  ·have:=Ia (cK m R).toNat (jd m R)
   have h2:=rD (m:=m) (R:=R) hm
   unfold mR
   omega
  ·exact NH m hm k _ p hp
attribute [local irreducible] fV bQ cK jd ni mM gN dY jV kU gT aC aF oD mR lC
theorem bI8(c:CS)(t:List UInt8)(h:MF c)(hc:lS c)(ht:c.tag.length=32)(R:Rd)(hR:R=⟨DJ c t,false⟩):
  (fV R=c.e/\fV (bQ R)=c.fr/\wo R=c.n/\gN (wo R*5) (KS R)=c.ops/\wv R=c.m/\gN (wv R*3) (Df R)=c.vs)/\
  (fV (yH R)=c.sl/\fV (bQ (yH R))=c.p0/\fV (bQ (bQ (yH R)))=c.p1/\fV (bQ (bQ (bQ (yH R))))=c.p2/\wb R=c.k/\jV 300 (wb R) (BK R)=qZ c)/\
  (gT (Xa R)=c.tag/\fV (yG R)=c.sE/\fV (bQ (yG R))=c.sS/\xF R=⟨t,false⟩):=by
 subst hR
 unfold DJ
 obtain⟨a1,b1⟩:=jT (t:=aC c.fr++(aC (c.n:Int)++(aF c.ops++(aC (c.m:Int)++(aF c.vs++(aC c.sl++(aC c.p0++(aC c.p1++(aC c.p2++(aC (c.k:Int)++(oD (qZ c)++(c.tag++(aC c.sE++(aC c.sS++t)))))))))))))) h.e
 generalize(⟨aC c.e++_,false⟩:Rd)=R at*
 obtain⟨a2,b2⟩:=jT (t:=aC (c.n:Int)++(aF c.ops++(aC (c.m:Int)++(aF c.vs++(aC c.sl++(aC c.p0++(aC c.p1++(aC c.p2++(aC (c.k:Int)++(oD (qZ c)++(c.tag++(aC c.sE++(aC c.sS++t))))))))))))) h.fr
 rw[<-b1]at a2 b2
 have n4:=h.n4
 have m8:=h.m8
 have k16:=h.k16
 obtain⟨a3,b3⟩:=Eh (m:=4) (z:=(c.n:Int)) (t:=aF c.ops++(aC (c.m:Int)++(aF c.vs++(aC c.sl++(aC c.p0++(aC c.p1++(aC c.p2++(aC (c.k:Int)++(oD (qZ c)++(c.tag++(aC c.sE++(aC c.sS++t)))))))))))) (by omega) (by omega)
 rw[<-b2]at a3 b3
 have e1:wo R=c.n:=by unfold wo;rw[a3];omega
 have e1':wo R*5=c.ops.length:=by rw[e1,hc.ops]
 obtain⟨a4,b4⟩:=AZ (zs:=c.ops) (t:=aC (c.m:Int)++(aF c.vs++(aC c.sl++(aC c.p0++(aC c.p1++(aC c.p2++(aC (c.k:Int)++(oD (qZ c)++(c.tag++(aC c.sE++(aC c.sS++t))))))))))) h.ops
 rw[<-b3,<-e1']at a4 b4
 have q4:M7 R=dY (wo R*5) (jd 4 (bQ (bQ R))):=rfl
 obtain⟨a5,b5⟩:=Eh (m:=8) (z:=(c.m:Int)) (t:=aF c.vs++(aC c.sl++(aC c.p0++(aC c.p1++(aC c.p2++(aC (c.k:Int)++(oD (qZ c)++(c.tag++(aC c.sE++(aC c.sS++t)))))))))) (by omega) (by omega)
 rw[<-b4,<-q4]at a5 b5
 have e2:wv R=c.m:=by unfold wv;rw[a5];omega
 have e2':wv R*3=c.vs.length:=by rw[e2,hc.vs]
 obtain⟨a6,b6⟩:=AZ (zs:=c.vs) (t:=aC c.sl++(aC c.p0++(aC c.p1++(aC c.p2++(aC (c.k:Int)++(oD (qZ c)++(c.tag++(aC c.sE++(aC c.sS++t))))))))) h.vs
 rw[<-b5,<-e2']at a6 b6
 have q6:yH R=dY (wv R*3) (jd 8 (M7 R)):=rfl
 rw[<-q6]at b6
 obtain⟨a7,b7⟩:=jT (t:=aC c.p0++(aC c.p1++(aC c.p2++(aC (c.k:Int)++(oD (qZ c)++(c.tag++(aC c.sE++(aC c.sS++t)))))))) h.sl
 rw[<-b6]at a7 b7
 obtain⟨a8,b8⟩:=jT (t:=aC c.p1++(aC c.p2++(aC (c.k:Int)++(oD (qZ c)++(c.tag++(aC c.sE++(aC c.sS++t))))))) h.p0
 rw[<-b7]at a8 b8
 obtain⟨a9,b9⟩:=jT (t:=aC c.p2++(aC (c.k:Int)++(oD (qZ c)++(c.tag++(aC c.sE++(aC c.sS++t)))))) h.p1
 rw[<-b8]at a9 b9
 obtain⟨a10,b10⟩:=jT (t:=aC (c.k:Int)++(oD (qZ c)++(c.tag++(aC c.sE++(aC c.sS++t))))) h.p2
 rw[<-b9]at a10 b10
 have q7:M8 R=bQ (bQ (bQ (bQ (yH R)))):=rfl
 obtain⟨a11,b11⟩:=Eh (m:=16) (z:=(c.k:Int)) (t:=oD (qZ c)++(c.tag++(aC c.sE++(aC c.sS++t)))) (by omega) (by omega)
 rw[<-b10,<-q7]at a11 b11
 have e3:wb R=c.k:=by unfold wb;rw[a11];omega
 have e3':wb R=(qZ c).length:=by rw[e3,Ny]
 obtain⟨a12,b12⟩:=U7 (m:=300) (L:=qZ c) (t:=c.tag++(aC c.sE++(aC c.sS++t))) (fun p hp=>by
  unfold qZ at hp
  obtain⟨j,hj,rfl⟩:=List.mem_map.1 hp
  have:=h.bx j (List.mem_range.1 hj)
  omega)
 rw[<-b11,<-e3']at a12 b12
 have q9:Xa R=kU 300 (wb R) (jd 16 (M8 R)):=rfl
 rw[<-q9]at b12
 obtain⟨a13,b13⟩:=FN (t:=aC c.sE++(aC c.sS++t)) ht
 rw[<-b12]at a13 b13
 have q10:yG R=mM 32 (Xa R):=rfl
 rw[<-q10]at b13
 obtain⟨a14,b14⟩:=jT (t:=aC c.sS++t) h.sE
 rw[<-b13]at a14 b14
 obtain⟨a15,b15⟩:=jT (t:=t) h.sS
 rw[<-b14]at a15 b15
 exact⟨⟨a1,a2,e1,a4,e2,a6⟩,⟨a7,a8,a9,a10,e3,a12⟩,a13,a14,a15,b15⟩
def wC(R:Rd):CS:=⟨fV R,fV (bQ R),wo R,gN (wo R*5) (KS R),wv R,gN (wv R*3) (Df R),fV (yH R),fV (bQ (yH R)),fV (bQ (bQ (yH R))),fV (bQ (bQ (bQ (yH R)))),wb R,fun j=>(jV 300 (wb R) (BK R)).getD j [],gT (Xa R),fV (yG R),fV (bQ (yG R))⟩
theorem bc4(R:Rd):qZ (wC R)=jV 300 (wb R) (BK R):=by
 unfold qZ
 show(List.range (wb R)).map (fun j=>(jV 300 (wb R) (BK R)).getD j [])=_
 have hl:=rC 300 (wb R) (BK R)
 refine List.ext_getElem (by simp[hl]) fun i h1 h2=>?_
 simp only[List.getElem_map,List.getElem_range,yGd,yGe h2,Option.getD_some]
theorem bn1(R:Rd):lS (wC R)/\(wC R).tag.length=32/\wo R<=4/\wv R<=8/\wb R<=16:=by
 have h4:=rD (m:=4) (R:=bQ (bQ R)) (by decide)
 have h8:=rD (m:=8) (R:=M7 R) (by decide)
 have h16:=rD (m:=16) (R:=M8 R) (by decide)
 have e4:wo R<=4:=by unfold wo;omega
 have e8:wv R<=8:=by unfold wv;omega
 have e16:wb R<=16:=by unfold wb;omega
 refine⟨⟨by show wo R<=_;omega,by show wv R<=_;omega,by show wb R<=_;omega,mo _ _,mo _ _,fun j hj=>?_⟩,uJ _,e4,e8,e16⟩
 have hl:=rC 300 (wb R) (BK R)
 have hj':j<(jV 300 (wb R) (BK R)).length:=by rw[hl];exact hj
 show((jV 300 (wb R) (BK R)).getD j []).length<=_
 rw[yGd,yGe hj',Option.getD_some]
 have:=NH 300 (by decide) (wb R) (BK R) _ (List.getElem_mem hj')
 omega
theorem ch4(R:Rd)(h:(xF R).bad=false):R.bad=false/\R.bs=DJ (wC R) (xF R).bs:=by
 obtain⟨h15,e15,_⟩:=iJ (R:=bQ (yG R)) h
 obtain⟨JU,e14,_⟩:=iJ h15
 obtain⟨JQ,e13⟩:=zq (R:=Xa R) JU
 obtain⟨h12,e12,_⟩:=Jk (R:=BK R) JQ
 obtain⟨h11,e11,z11,_⟩:=xK (R:=M8 R) h12
 obtain⟨h10,e10,_⟩:=iJ (R:=bQ (bQ (bQ (yH R)))) h11
 obtain⟨h9,e9,_⟩:=iJ h10
 obtain⟨h8,e8,_⟩:=iJ h9
 obtain⟨h7,e7,_⟩:=iJ h8
 obtain⟨h6,e6,_⟩:=yc (R:=Df R) h7
 obtain⟨h5,e5,z5,_⟩:=xK (R:=M7 R) h6
 obtain⟨h4,e4,_⟩:=yc (R:=KS R) h5
 obtain⟨h3,e3,z3,_⟩:=xK (R:=bQ (bQ R)) h4
 obtain⟨h2,e2,_⟩:=iJ h3
 obtain⟨h1,e1,_⟩:=iJ h2
 refine⟨h1,?_⟩
 unfold DJ
 rw[bc4]
 show R.bs=aC (fV R)++(aC (fV (bQ R))++(aC (((cK 4 (bQ (bQ R))).toNat:Nat):Int)++(aF (gN (wo R*5) (KS R))++(aC (((cK 8 (M7 R)).toNat:Nat):Int)++(aF (gN (wv R*3) (Df R))++(aC (fV (yH R))++(aC (fV (bQ (yH R)))++(aC (fV (bQ (bQ (yH R))))++(aC (fV (bQ (bQ (bQ (yH R)))))++(aC (((cK 16 (M8 R)).toNat:Nat):Int)++(oD (jV 300 (wb R) (BK R))++(gT (Xa R)++(aC (fV (yG R))++(aC (fV (bQ (yG R)))++(xF R).bs))))))))))))))
 rw[qm,qm,qm]
 have q15:(xF R).bs=(bQ (bQ (yG R))).bs:=rfl
 rw[q15,<-e15,<-e14]
 have q13:yG R=mM 32 (Xa R):=rfl
 rw[q13,<-e13]
 have q12:Xa R=kU 300 (wb R) (BK R):=rfl
 rw[q12,<-e12]
 have q11:BK R=jd 16 (M8 R):=rfl
 rw[q11,<-e11]
 have q10:M8 R=bQ (bQ (bQ (bQ (yH R)))):=rfl
 rw[q10,<-e10,<-e9,<-e8,<-e7]
 have q6:yH R=dY (wv R*3) (Df R):=rfl
 rw[q6,<-e6]
 have q5:Df R=jd 8 (M7 R):=rfl
 rw[q5,<-e5]
 have q4:M7 R=dY (wo R*5) (KS R):=rfl
 rw[q4,<-e4]
 have q3:KS R=jd 4 (bQ (bQ R)):=rfl
 rw[q3,<-e3,<-e2,<-e1]
def uL(k:UInt8)(R:Rd):Rd:=if(mM 1 R).bad=false/\(ni 1 R).getD 0 0≠k then⟨(mM 1 R).bs,true⟩else mM 1 R
def NI(b:List UInt8):CS:=wC (uL 1 ⟨b,false⟩)
def Yy(b:List UInt8):Bool:=!(xF (uL 1 ⟨b,false⟩)).bad&&(decide ((xF (uL 1 ⟨b,false⟩)).bs.length=0)&&dA (NI b))
theorem VJ{k:UInt8}(h:(uL k ⟨b,false⟩).bad=false):b=k::(uL k ⟨b,false⟩).bs:=by
 unfold uL at*
 split at h
 ·cases h
 ·next h1=>
  rw[if_neg h1]
  obtain⟨h2,h3,h4⟩:=qR h
  have h5:(ni 1 ⟨b,false⟩).getD 0 0=k:=Decidable.byContradiction fun h6=>h1 ⟨h,h6⟩
  match hv:ni 1 ⟨b,false⟩,h4 with
  |[x],_=>
   rw[hv]at h3 h5
   have h6:x=k:=h5
   subst h6
   exact h3
theorem aq6(k:UInt8)(t:List UInt8):uL k ⟨k::t,false⟩=⟨t,false⟩:=by
 obtain⟨h1,h2⟩:=Ib (n:=1) (p:=[k]) (t:=t) rfl
 have e:(⟨k::t,false⟩:Rd)=⟨[k]++t,false⟩:=rfl
 unfold uL
 rw[e,h1,h2]
 rw[if_neg (fun h=>h.2 rfl)]
theorem aw0(h:Yy b=true):dA (NI b)=true/\lS (NI b)/\(NI b).tag.length=32/\b=bS (NI b):=by
 unfold Yy at h
 simp only[Bool.and_eq_true,Bool.not_eq_true',decide_eq_true_eq]at h
 obtain⟨h1,h2,h3⟩:=h
 obtain⟨h4,h5⟩:=ch4 _ h1
 have h6:=VJ h4
 obtain⟨h7,h8,_⟩:=bn1 (uL 1 ⟨b,false⟩)
 refine⟨h3,h7,h8,?_⟩
 have h9:(xF (uL 1 ⟨b,false⟩)).bs=[]:=List.length_eq_zero_iff.1 h2
 rw[h9]at h5
 rw[h5]at h6
 have h10:=Dj (NI b) []
 rw[List.append_nil]at h10
 rw[h10]
 exact h6
structure rz(c d:CS):Prop where
 e:c.e=d.e
 fr:c.fr=d.fr
 n:c.n=d.n
 ops:c.ops=d.ops
 m:c.m=d.m
 vs:c.vs=d.vs
 sl:c.sl=d.sl
 p0:c.p0=d.p0
 p1:c.p1=d.p1
 p2:c.p2=d.p2
 k:c.k=d.k
 bx:∀j,j<d.k->c.bx j=d.bx j
 tag:c.tag=d.tag
 sE:c.sE=d.sE
 sS:c.sS=d.sS
theorem bc5(h:MF c)(hc:lS c)(ht:c.tag.length=32):rz (wC ⟨DJ c t,false⟩) c/\xF ⟨DJ c t,false⟩=⟨t,false⟩:=by
 obtain⟨⟨a1,a2,a3,a4,a5,a6⟩,⟨a7,a8,a9,a10,a11,a12⟩,a13,a14,a15,a16⟩:=bI8 c t h hc ht _ rfl
 refine⟨⟨a1,a2,a3,a4,a5,a6,a7,a8,a9,a10,a11,fun j hj=>?_,a13,a14,a15⟩,a16⟩
 show(jV 300 (wb _) (BK _)).getD j []=_
 rw[a12]
 unfold qZ
 rw[yGd,yGe (by simp;exact hj)]
 simp
theorem Yl{c d:CS}(h:rz c d):dA c=dA d:=by
 obtain⟨h1,h2,h3,h4,h5,h6,h7,h8,h9,h10,h11,h12,JQ,JU,h15⟩:=h
 have e:jN (fun i=>decide (((c.bx i).length:Int)>300)) c.k=jN (fun i=>decide (((d.bx i).length:Int)>300)) d.k:=by
  rw[h11]
  rw[Bool.eq_iff_iff,oz,oz]
  constructor
  ·rintro⟨j,hj,hp⟩;exact⟨j,hj,by rw[<-h12 j hj];exact hp⟩
  ·rintro⟨j,hj,hp⟩;exact⟨j,hj,by rw[h12 j hj];exact hp⟩
 unfold dA
 rw[h1,h2,h3,h4,h5,h6,h7,h8,h9,h10,JU,h15,e,h11]
theorem aV0(h:dA c=true)(hc:lS c)(ht:c.tag.length=32):Yy (bS c)=true/\rz (NI (bS c)) c:=by
 have hm:=Ym h hc
 have h1:=Dj c []
 rw[List.append_nil]at h1
 obtain⟨h2,h3⟩:=bc5 (t:=[]) hm hc ht
 unfold Yy NI
 rw[h1,aq6,h3]
 refine⟨?_,h2⟩
 rw[Yl h2,h]
 rfl
theorem rz.symm{c d:CS}(h:rz c d):rz d c:=by
 obtain⟨h1,h2,h3,h4,h5,h6,h7,h8,h9,h10,h11,h12,JQ,JU,h15⟩:=h
 exact⟨h1.symm,h2.symm,h3.symm,h4.symm,h5.symm,h6.symm,h7.symm,h8.symm,h9.symm,h10.symm,h11.symm,fun j hj=>(h12 j (by omega)).symm,JQ.symm,JU.symm,h15.symm⟩
theorem rz.trans{c d e:CS}(h:rz c d)(k:rz d e):rz c e:=
 ⟨h.e.trans k.e,h.fr.trans k.fr,h.n.trans k.n,h.ops.trans k.ops,h.m.trans k.m,h.vs.trans k.vs,h.sl.trans k.sl,h.p0.trans k.p0,h.p1.trans k.p1,h.p2.trans k.p2,h.k.trans k.k,fun j hj=>(h.bx j (by rw[k.k];exact hj)).trans (k.bx j hj),h.tag.trans k.tag,h.sE.trans k.sE,h.sS.trans k.sS⟩
end
section
open Pm
abbrev cu1:Int:=9223372036854775807
def s1(b:List UInt8):Rd:=mM 1 ⟨b,false⟩
def s4(b:List UInt8):Rd:=bQ (bQ (bQ (s1 b)))
def s6(b:List UInt8)(N:Nat):Rd:=bQ (dY (N*5) (s4 b))
def s7(b:List UInt8)(N M:Nat):Rd:=dY (M*3) (s6 b N)
def s8(b:List UInt8)(N M:Nat):Rd:=bQ (bQ (bQ (bQ (s7 b N M))))
def s9(b:List UInt8)(N M:Nat):Rd:=bQ (s8 b N M)
def s10(b:List UInt8)(N M B:Nat):Rd:=kU cu1 B (s9 b N M)
def s11(b:List UInt8)(N M B:Nat):Rd:=mM 32 (s10 b N M B)
def s12(b:List UInt8)(N M B:Nat):Rd:=bQ (bQ (s11 b N M B))
attribute [local irreducible] fV bQ cK jd ni mM gN dY jV kU gT aC aF oD mR lC
end
section
open Pm
attribute [local irreducible] aN aQ bq aC aF pU jN lF dA aU nV dh bL bn
abbrev bC3:A:=.v (.slice none 0 0)
end
section
open Pm
attribute [local irreducible] aN aQ bq aC aF pU jN lF dA aU nV dh bL bn
abbrev Lm:A:=.agg [.ints .i64 2 [0,0],.gen 2 [bC3,bC3],.ints .i64 4 [0,0,0,0],.gen 1 [bC3],.bytes 32 (List.replicate 32 0),.ints .i64 2 [0,0]]
end
section
open Pm
attribute [local irreducible] aN aQ bq jN lF
def cs0:CS:=⟨0,0,0,[],0,[],0,0,0,0,0,fun _=>[],List.replicate 32 0,0,0⟩
end
section
open Pm
attribute [local irreducible] aN aQ bq aC aF pU jN lF aU nV dh bL dA bn
theorem yK(hc:lS c)(ht:c.tag.length=32):(bS c).length=bE c:=by
 unfold bS bE
 simp only[List.length_append,iK,oC hc,ht,List.length_cons,List.length_nil]
attribute [local irreducible] xM bS bE jr
end
noncomputable section
open Pm
attribute [local irreducible] aN aQ bq aC aF pU jN lF dA aU nV dh bL bn ni mM pq isNum fV bQ cK jd gT mR lC gN dY jV kU
theorem Y7{S:Nat->Prop}{w:World}{k:Nat}{X:List (List UInt8)}{v:Value}(hX:X.length=k)(h:RA S w (.row k [.gen k (X.map Hr)]) v):RA S w (.recs k 1 (E5 fun j=>X.getD j [])) v:=by
 cases h with
 |row h h1 h2 h3 h4=>
  rename_i c cs a
  obtain⟨_,g⟩:=h.gB
  have hl:cs.length=k:=by rw[g.len];simpa using hX
  have at':∀j,j<k->∃u,cs[j]?=some u/\RA S w (Hr (X.getD j [])) u/\u.oneCell'=true:=fun j hj=>by
   obtain⟨u,e1,e2,e3⟩:=g.at j (by simpa[hX]using hj)
   refine⟨u,e1,?_,e3⟩
   have:(X.map Hr).getD j (.v undef)=Hr (X.getD j []):=by
    rw[yGd,yGd,List.getElem?_map,yGe (by omega)];rfl
   rwa [this]at e2
  refine .recs (cs:=fun j=>[cs.getD j undef]) (fun j hj=>?_) h1 h2 h3 ?_
  ·obtain⟨u,e1,e2,e3⟩:=at' j hj
   rw[show cs.getD j undef=u by rw[yGd,e1];rfl]
   exact .iL rfl (.cons e2 e3 .nil)
  ·rcases h4 with h4|⟨b,o,h5,h6,h7,h8⟩
   ·left;rw[h4]at hl;exact hl.symm
   ·refine .inr ⟨b,o,h5,fun j hj=>.inr ⟨b,o+j*1,rfl,h6,h7,fun i hi=>?_⟩⟩
    have hi0:i=0:=by simpa using hi
    subst hi0
    have h9:=h8 j (by omega)
    rw[Nat.mul_one,Nat.add_zero,h9]
    simp only[List.getElem_cons_zero,yGd,yGe (show j<cs.length by omega),Option.getD_some]
theorem aA3{S:Nat->Prop}{w:World}{s1 s3 s5 s6:List Seg}{x:A}{k:Nat}{X:List (List UInt8)}{v:Value}{i1 i2 i3 i4 i5 i6:Int}{y z:A}{e1 e2:Int}(hX:X.length=k)
  (h:RA S w (.agg [.ints .i64 2 [i1,i2],.gen 2 [y,z],.ints .i64 4 [i3,i4,i5,i6],.gen 1 [.row k [.gen k (X.map Hr)]],.bytes 32 t,.ints .i64 2 [e1,e2]]) v):
  RA S w (.agg [.ints .i64 2 [i1,i2],.gen 2 [y,z],.ints .i64 4 [i3,i4,i5,i6],.gen 1 [.recs k 1 (E5 fun j=>X.getD j [])],.bytes 32 t,.ints .i64 2 [e1,e2]]) v:=by
 cases h with
 |agg h=>
 cases h with
 |ints h1 r1=>
 cases r1 with
 |gen g1 h2 r2=>
 cases r2 with
 |ints h3 r3=>
 cases r3 with
 |gen g2 h4 r4=>
 cases g2 with
 |cons a1 b1 r=>
 exact .agg (.ints h1 (.gen g1 h2 (.ints h3 (.gen (.cons (Y7 hX a1) b1 r) rfl r4))))
theorem bz3{pos:Nat}{x x':Bk}{args:List A}{a a':A}(h:bV f pos x args (.d a) x')(k:∀(S:Nat->Prop) (w:World) (v:Value),RA S w a v->RA S w a' v):bV f pos x args (.d a') x':=by
 intro S w r vs h1 h2 h3 h4
 refine(h S w r vs h1 h2 h3 h4).mono ?_
 rintro e' w' ⟨v,rfl,h5,h7,h8⟩
 exact⟨v,rfl,k _ _ _ h5,h7,h8⟩
theorem UA(R:Rd)(hR:R.bs.length<=1000000):bV 139 0 (.var (mY R)) [] (.d (.agg (kR (wC R)))) (.var (mY (xF R))):=
 bz3 (Ip R hR) fun S w v h=>aA3 (s1:=[]) (s3:=[]) (s5:=[]) (s6:=[]) (x:=.v undef) (rC _ _ _) h
theorem aS9(k:UInt8)(R:Rd)(hR:R.bs.length<=1000000):bV 138 0 (.var (mY R)) [.v (.int .u8 (Bt k))] (.t []) (.var (mY (uL k R))):=by
 refine iH (E:=Vp) Tryz.func138 Tryz.ntmps138 ?_
 cases hb:(mM 1 R).bad with
 |true=>
  have e:uL k R=mM 1 R:=by unfold uL;rw[if_neg (fun h=>by rw[hb]at h;cases h.1)]
  rw[e]
  clear e
  refine ah ?_;(try exact⟨⟩)
 |false=>
  have hl:=(qR hb).2.2
  by_cases h1:(ni 1 R).getD 0 0=k
  ·have e:uL k R=mM 1 R:=by unfold uL;rw[if_neg (fun h=>h.2 h1)]
   have h2:(Bt ((ni 1 R).getD 0 0) !=Bt k)=false:=by rw[h1];simp
   rw[e]
   clear e h1
   refine ah ?_;(try exact⟨⟩)
  ·have e:uL k R=⟨(mM 1 R).bs,true⟩:=by unfold uL;rw[if_pos ⟨hb,h1⟩]
   have h2:(Bt ((ni 1 R).getD 0 0) !=Bt k)=true:=by
    simp only[bne_iff_ne,ne_eq]
    intro h3
    exact h1 (Aa (by unfold Bt at h3;omega))
   rw[e]
   clear e h1
   refine ah ?_;(try exact⟨⟩)
theorem NZ(R:Rd)(hR:R.bs.length<=1000000):bV 140 0 (.var (mY R)) [] (.d (.v (.bool (!R.bad&&decide (R.bs.length=0))))) (.var (mY R)):=by
 refine iH (E:=Vp) Tryz.func140 Tryz.ntmps140 ?_
 cases hb:R.bad with
 |true=>
  refine ah ?_;(try exact⟨⟩)
  rfl
 |false=>
  refine ah ?_
  have e:((R.bs.length:Int)==0)=decide (R.bs.length=0):=by rw[Bool.eq_iff_iff];simp
  rw[e]
  rfl
def VL:Nat->Bk->List A->(bC->Bk->Prop)->Prop
 |0,.var [.gen 1 [.row n [.bytes m bs]],.bools 1 [bad]],[.v (.int .u8 z)],K=>n=bs.length/\m=bs.length/\bs.length<=1000000/\∃k,z=Bt k/\K (.t []) (.var (mY (uL k ⟨bs,bad⟩)))
 |_,_,_,_=>False
theorem OJ:∀pos x args K,VL pos x args K->∃r x',bV 138 pos x args r x'/\K r x':=by
 intro pos x args K hd
 unfold VL at hd
 split at hd
 ·next n m bs bad z=>
  obtain⟨rfl,rfl,h1,k,rfl,hd⟩:=hd
  exact⟨_,_,aS9 k ⟨bs,bad⟩ h1,hd⟩
 ·exact hd.elim
def cb5:ak:=ah3.gI 138 VL OJ (.of Tryz.func138)
def cb6:ak:=cb5.gI 139 (PL (fun R=>.d (.agg (kR (wC R)))) xF) (lZ UA) (.of Tryz.func139)
def cb7:ak:=cb6.gI 140 (PL (fun R=>.d (.v (.bool (!R.bad&&decide (R.bs.length=0))))) (fun R=>R)) (lZ NZ) (.of Tryz.func140)
theorem KV:Bt 1=1:=by decide
def A8(b:List UInt8):bC:=if Yy b=true then .t [.agg (kR (NI b)),.v (.int .i64 0)]else .t [Lm,.v (.int .i64 2)]
theorem VI(k:UInt8)(R:Rd):(uL k R).bs.length<=R.bs.length:=by
 unfold uL;split
 ·exact lQ 1 R
 ·exact lQ 1 R
theorem BI(b:List UInt8)(hb:b.length<=1000000):aV 95 [.row b.length [.bytes b.length b]] (A8 b):=by
 refine eO (E:=cb7) Tryz.func95 Tryz.ntmps95 ?_
 have h1:=VI 1 ⟨b,false⟩
 have h1':(uL 1 ⟨b,false⟩).bs.length<=1000000:=yLt h1 hb
 have h2:(xF (uL 1 ⟨b,false⟩)).bs.length<=1000000:=by
  refine yLt ?_ h1'
  generalize uL 1 ⟨b,false⟩=R
  have i2:=dD R;have i3:=dD (bQ R);have i4:(KS R).bs.length<=(bQ (bQ R)).bs.length:=oF _ _
  have i5:(M7 R).bs.length<=(KS R).bs.length:=lH _ _
  have i6:(Df R).bs.length<=(M7 R).bs.length:=oF _ _
  have i7:(yH R).bs.length<=(Df R).bs.length:=lH _ _
  have i8:=dD (yH R);have i9:=dD (bQ (yH R));have i10:=dD (bQ (bQ (yH R)));have i11:(M8 R).bs.length<=(bQ (bQ (bQ (yH R)))).bs.length:=dD _
  have i12:(BK R).bs.length<=(M8 R).bs.length:=oF _ _
  have i13:(Xa R).bs.length<=(BK R).bs.length:=zZ _ _ _
  have i14:(yG R).bs.length<=(Xa R).bs.length:=lQ _ _
  have i15:=dD (yG R);have i16:(xF R).bs.length<=(bQ (yG R)).bs.length:=dD _
  exact yLt i16 (yLt i15 (yLt i14 (yLt i13 (yLt i12 (yLt i11 (yLt i10 (yLt i9 (yLt i8 (yLt i7 (yLt i6 (yLt i5 (yLt i4 (yLt i3 i2)))))))))))))
 have hc:=(bn1 (uL 1 ⟨b,false⟩)).1
 have e1:=KV
 cases h3:(!(xF (uL 1 ⟨b,false⟩)).bad&&decide ((xF (uL 1 ⟨b,false⟩)).bs.length=0))with
 |false=>
  have e:A8 b=.t [Lm,.v (.int .i64 2)]:=by
   unfold A8 Yy
   rw[<-Bool.and_assoc,h3];rfl
  rw[e]
  clear e
  refine ah ?_
  refine⟨1,KV.symm,?_⟩
  refine ah ?_;(try exact⟨⟩)
  try rfl
 |true=>
  cases h4:dA (wC (uL 1 ⟨b,false⟩))with
  |false=>
   have e:A8 b=.t [Lm,.v (.int .i64 2)]:=by
    unfold A8 Yy NI
    rw[<-Bool.and_assoc,h3,h4];rfl
   rw[e]
   clear e
   refine ah ?_
   refine⟨1,KV.symm,?_⟩
   refine ah ?_;(try exact⟨⟩)
   try rfl
  |true=>
   have e:A8 b=.t [.agg (kR (NI b)),.v (.int .i64 0)]:=by
    unfold A8 Yy NI
    rw[<-Bool.and_assoc,h3,h4];rfl
   rw[e]
   clear e
   refine ah ?_
   refine⟨1,KV.symm,?_⟩
   refine ah ?_;(try exact⟨⟩)
   try rfl
end
noncomputable section
open Pm
def yV(e:Int)(zs:List Int)(ad:List Bool)(k:Int)(ch:List UInt8):List UInt8:=((aF [e,k]++dR ad)++ch)++(aF (zs.take 16)++aF ((zs.drop 16).take 15))
theorem FB(ad:List Bool){j:Nat}(h:j<ad.length):dR (ad.take (j+1))=dR (ad.take j)++[if ad.getD j false=true then 1 else 0]:=by
 unfold dR
 rw[List.take_add_one,List.map_append,yGe h,yGd,yGe h]
 rfl
theorem XU(ad:List Bool):dR (ad.take 0)=[]:=rfl
attribute [local irreducible] aN aQ bq aC aF dR pU jN lF dA
theorem MV(e:Int)(zs:List Int)(ad:List Bool)(k:Int)(ch:List UInt8):aV 136 [.agg (eD e zs ad k ch)] (.o 5 1 304 [.bytes 304 (yV e zs ad k ch)]):=by
 refine iY fun hl=>?_
 have hz:zs.length=31:=hl.1.2.1
 have ha:ad.length=8:=hl.1.2.2.1
 have hch:ch.length=32:=hl.1.2.2.2.2.1
 clear hl
 refine eO (E:=ah3) Tryz.func136 Tryz.ntmps136 ?_
 refine ah ?_
 refine aX.mk (cB [1,3,15,16] [0,2] 8 (fun j=>⟨.au::.ptr 0 0::.au::.own 1 (16+j)::dz 11 (.d (.agg [.bools 8 ad])::.d (.v (.int .i64 (j:Nat)))::dz 35 []),[some (.var (eD e zs ad k ch)),some (.sl 5 1 (16+j) [.bytes (16+j) (aF [e,k]++dR (ad.take j))])]⟩) ?_ (h2:=by rw[XU,List.append_nil];exact rfl))
 intro j hj hl
 by_cases h:j<8
 ·have h1:(j:Int)<8:=by omega
  cases hb:ad.getD j false with
  |true=>
   refine ah ?_
   refine hl.go h [1,3,15,16] [0,1] ?_
   rw[FB ad (by omega),hb,if_pos rfl,<-List.append_assoc]
   rfl
  |false=>
   refine ah ?_
   refine hl.go h [1,3,15,16] [0,1] ?_
   rw[FB ad (by omega),hb,if_neg (by decide),<-List.append_assoc]
   rfl
 obtain rfl:j=8:=by omega
 rw[List.take_of_length_le (show ad.length<=8 by omega)]
 clear hl h hj
 refine ah ?_
 have hL:(zs.take 16).length=16:=by simp[hz]
 have hD:((zs.drop 16).take 15).length=15:=by simp[hz]
 refine aX.mk (cB [1,3,33,34] [0,1] 8 (fun j=>⟨.au::.ptr 0 0::.au::.own 1 (56+j*16)::dz 29 (.d (.agg [.ints .i64 16 (zs.take 16)])::.d (.v (.int .i64 (j:Nat)))::dz 17 []),[some (.var (eD e zs ad k ch)),some (.sl 5 1 (56+j*16) [.bytes (56+j*16) (((aF [e,k]++dR ad)++ch)++aF ((zs.take 16).take (j*2)))])]⟩) ?_ (h2:=by rw[Nat.zero_mul,List.take_zero,jL,List.append_nil];exact rfl))
 intro j hj hl
 by_cases h:j<8
 ·have h1:(j:Int)<8:=by omega
  refine ah ?_
  refine hl.go h [1,3,33,34] [0,1] ?_
  rw[show(j+1)*2=j*2+2 by omega,Ka _ (by omega),show(j+1)*16=j*16+16 by omega,<-List.append_assoc,<-Nat.add_assoc,<-EH _ (j*2) 1 (by omega),show ∀(L:List Int),L.getD (j*2) 0=L.getD (j*2+0) 0 from fun _=>rfl,<-EH _ (j*2) 0 (by omega),show ∀a b:Int,aC a++aC b=aF [a,b]from fun a b=>by rw[kr,Cw]]
  rfl
 obtain rfl:j=8:=by omega
 rw[show(zs.take 16).take (8*2)=zs.take 16 from List.take_of_length_le (by omega)]
 clear hl h hj
 refine ah ?_
 rw[hD]
 unfold yV
 rw[<-List.append_assoc ((aF [e,k]++dR ad)++ch)]
def Uu:List A->(bC->Prop)->Prop
 |[.agg [.ints .i64 1 [e],.ints .i64 31 zs,.bools 8 ad,.ints .i64 1 [k],.bytes 32 ch]],K=>K (.o 5 1 304 [.bytes 304 (yV e zs ad k ch)])
 |_,_=>False
theorem Zx:∀args K,Uu args K->∃r,aV 136 args r/\K r:=by
 intro args K h
 unfold Uu at h
 split at h
 ·exact⟨_,MV _ _ _ _ _,h⟩
 ·exact h.elim
structure WS where
 leaf:Int
 fr:Int
 e:Int
 zs:List Int
 ad:List Bool
 k:Int
 ch:List UInt8
 box:List UInt8
 tag:List UInt8
def kJ(w:WS):List Seg:=[.ints .i64 2 [w.leaf,w.fr],.ints .i64 1 [w.e],.ints .i64 31 w.zs,.bools 8 w.ad,.ints .i64 1 [w.k],.bytes 32 w.ch,.gen 1 [.row w.box.length [.bytes w.box.length w.box]],.bytes 32 w.tag]
structure sM(w:WS):Prop where
 zs:w.zs.length=31
 ad:w.ad.length=8
 ch:w.ch.length=32
 tag:w.tag.length=32
 box:w.box.length<=6000
def kW(w:WS):Bool:=aU w.leaf 7&&(aU w.fr 7&&(gF w.e w.zs w.ad w.k&&decide ((w.box.length:Int)<=300)))
def IE(w:WS):List UInt8:=([2]++aF [w.leaf,w.fr])++(yV w.e w.zs w.ad w.k w.ch++(pU w.box++w.tag))
def ZC(w:WS):Nat:=17+(304+((8+w.box.length)+32))
def wlR(w:WS):bC:=if kW w=true then .t [.row (ZC w) [.bytes (ZC w) (IE w)],.v (.int .i64 0)]else .t [.v (.slice none 0 0),.v (.int .i64 1)]
theorem Bw{e:Int}{zs:List Int}{ad:List Bool}{k:Int}{ch:List UInt8}(h1:zs.length=31)(h2:ad.length=8)(h3:ch.length=32):(yV e zs ad k ch).length=304:=by
 have h4:(dR ad).length=8:=by unfold dR;rw[List.length_map];exact h2
 unfold yV
 simp only[List.length_append,iK,h3,h4,List.length_take,List.length_drop,h1,List.length_cons,List.length_nil]
 rfl
theorem zQ{w:WS}(h:sM w):(IE w).length=ZC w:=by
 unfold IE ZC
 simp only[List.length_append,iK,Bw h.zs h.ad h.ch,wG,h.tag,List.length_cons,List.length_nil]
def cc1:ak:=ah3.add 156 aH0 (MU Ut) (.of Tryz.func156)
def cc2:ak:=cc1
def bj8:ak:=cc2.add 136 Uu Zx (.of Tryz.func136)
attribute [local irreducible] yV aU gF
theorem IW(w:WS)(hw:sM w):aV 135 [.agg (kJ w)] (.d (.v (.bool (kW w)))):=by
 refine eO (E:=bj8) Tryz.func135 Tryz.ntmps135 ?_
 cases h1:aU w.leaf 7
 case false=>
  have e1:kW w=false:=by simp[kW,h1]
  rw[e1]
  clear e1
  refine ah ?_;(try exact⟨⟩)
 cases h2:aU w.fr 7
 case false=>
  have e1:kW w=false:=by simp[kW,h2]
  rw[e1]
  clear e1
  refine ah ?_;(try exact⟨⟩)
 cases h3:gF w.e w.zs w.ad w.k
 case false=>
  have e1:kW w=false:=by simp[kW,h3]
  rw[e1]
  clear e1
  refine ah ?_;(try exact⟨⟩)
 have e1:kW w=!decide ((w.box.length:Int)>300):=by
  simp only[kW,h1,h2,h3,Bool.true_and]
  rw[Bool.eq_iff_iff];simp
 rw[e1]
 clear e1
 refine ah ?_;(try exact⟨⟩)
def wlS(res:WS->bC):List A->(bC->Prop)->Prop
 |[.agg l],K=>∃w,l=kJ w/\sM w/\K (res w)
 |_,_=>False
theorem bH6{res:WS->bC}(h:∀w,sM w->aV f [.agg (kJ w)] (res w)):∀args K,wlS res args K->∃r,aV f args r/\K r:=by
 intro args K hd
 unfold wlS at hd
 split at hd
 ·obtain⟨w,rfl,h1,hd⟩:=hd;exact⟨_,h _ h1,hd⟩
 ·exact hd.elim
def cc3:ak:=bj8.add 135 (wlS fun w=>.d (.v (.bool (kW w)))) (bH6 IW) (.of Tryz.func135)
def bj9:ak:=cc3
attribute [local irreducible] kW
theorem QH(w:WS)(hw:sM w):aV 94 [.agg (kJ w)] (wlR w):=by
 refine eO (E:=bj9) Tryz.func94 Tryz.ntmps94 ?_
 have hl:=zQ hw
 have hb:=hw.box
 have hv:=Bw (e:=w.e) (k:=w.k) hw.zs hw.ad hw.ch
 have htg:=hw.tag
 have hn2:(aF [w.leaf,w.fr]).length=16:=by rw[iK];rfl
 have hbx:=wG w.box
 unfold wlR
 cases hm:kW w with
 |false=>
  refine ah ?_;(try exact⟨⟩)
  rfl
 |true=>
  refine ah ?_
  generalize hp:vL _ _ _=o
  obtain rfl:o=some [.own 1 17,.own 4 304,.own 5 (8+w.box.length),.win 0 76 32]:=hp.symm.trans (iR rfl (oN rfl rfl) (iR rfl (oN rfl rfl) (iR rfl (oN rfl rfl) (iR rfl rfl CP))))
  clear hp
  refine ah ?_
  have e:(aF [w.leaf,w.fr]++(yV w.e w.zs w.ad w.k w.ch++(pU w.box++w.tag))).length+1=ZC w:=by
   simp only[List.length_append,hn2,hv,hbx,htg,ZC];omega
  rw[e,if_pos rfl]
  rfl
attribute [local irreducible] wlR
end
noncomputable section
open Pm
attribute [local irreducible] aN aQ bq aC aF pU ni mM pq isNum fV bQ cK jd gT mR lC gN dY jV kU
def Oc(R:Rd):Bool:=Bt ((ni 1 R).getD 0 0)==1
def Dn(R:Rd):Rd:=if(mM 1 R).bad=false/\((ni 1 R).getD 0 0).toNat<=1 then mM 1 R else⟨(mM 1 R).bs,true⟩
def o7:Nat->Rd->List Bool
 |0,_=>[]
 |k+1,R=>Oc R::o7 k (Dn R)
def pX:Nat->Rd->Rd
 |0,R=>R
 |k+1,R=>pX k (Dn R)
theorem wM:∀(k:Nat) (R:Rd),(o7 k R).length=k
 |0,_=>rfl
 |k+1,R=>by simp[o7,wM k]
theorem Od:∀(a b:Nat) (R:Rd),pX (a+b) R=pX b (pX a R)
 |0,b,R=>by rw[Nat.zero_add];rfl
 |a+1,b,R=>by rw[Nat.succ_add];exact Od a b (Dn R)
theorem Oe:∀(a b:Nat) (R:Rd),o7 (a+b) R=o7 a R++o7 b (pX a R)
 |0,b,R=>by rw[Nat.zero_add];rfl
 |a+1,b,R=>by rw[Nat.succ_add];show Oc R::o7 (a+b) (Dn R)=_;rw[Oe a b];rfl
theorem aO8(R:Rd):(Dn R).bs.length<=R.bs.length:=by
 unfold Dn;split
 ·exact lQ 1 R
 ·exact lQ 1 R
theorem Aq:∀(k:Nat) (R:Rd),(pX k R).bs.length<=R.bs.length
 |0,R=>yLr _
 |k+1,R=>yLt (Aq k (Dn R)) (aO8 R)
theorem one_byte(h:b.length=1):b=[b.getD 0 0]:=by
 match b,h with
 |[x],_=>rfl
theorem al0{R:Rd}(h:(Dn R).bad=false):R.bad=false/\R.bs=(if Oc R=true then 1 else 0)::(Dn R).bs:=by
 unfold Dn at*
 split at h
 ·next h1=>
  rw[if_pos h1]
  obtain⟨h2,h3,h4⟩:=qR h
  refine⟨h2,?_⟩
  have h5:=one_byte h4
  have h6:(ni 1 R).getD 0 0=if Oc R=true then 1 else 0:=by
   unfold Oc Bt
   have h7:=h1.2
   generalize(ni 1 R).getD 0 0=x at*
   split
   ·next h8=>simp only[beq_iff_eq]at h8;exact Aa (by show x.toNat=1;omega)
   ·next h8=>simp only[beq_iff_eq]at h8;exact Aa (by show x.toNat=0;omega)
  rw[<-h6]
  show R.bs=[(ni 1 R).getD 0 0]++_
  rw[<-h5];exact h3
 ·cases h
theorem JG:∀{k:Nat} {R:Rd},(pX k R).bad=false->R.bad=false/\R.bs=dR (o7 k R)++(pX k R).bs
 |0,R,h=>⟨h,rfl⟩
 |k+1,R,h=>by
  obtain⟨h1,h2⟩:=JG (k:=k) (R:=Dn R) h
  obtain⟨h4,h5⟩:=al0 h1
  refine⟨h4,?_⟩
  rw[h5,h2]
  rfl
theorem bz1{b:Bool}:Oc ⟨(if b=true then 1 else 0)::t,false⟩=b/\Dn ⟨(if b=true then 1 else 0)::t,false⟩=⟨t,false⟩:=by
 obtain⟨h1,h2⟩:=Ib (n:=1) (p:=[if b=true then(1:UInt8)else 0]) (t:=t) rfl
 have h1':ni 1 ⟨(if b=true then 1 else 0)::t,false⟩=[if b=true then(1:UInt8)else 0]:=h1
 have h2':mM 1 ⟨(if b=true then 1 else 0)::t,false⟩=⟨t,false⟩:=h2
 unfold Oc Dn
 rw[h1',h2']
 cases b with
 |true=>exact⟨by decide,if_pos ⟨rfl,by decide⟩⟩
 |false=>exact⟨by decide,if_pos ⟨rfl,by decide⟩⟩
theorem Vs:∀{ad:List Bool} {t:List UInt8},o7 ad.length ⟨dR ad++t,false⟩=ad/\pX ad.length ⟨dR ad++t,false⟩=⟨t,false⟩
 |[],t=>⟨rfl,rfl⟩
 |b::ad,t=>by
  obtain⟨h1,h2⟩:=bz1 (b:=b) (t:=dR ad++t)
  obtain⟨h3,h4⟩:=Vs (ad:=ad) (t:=t)
  have e:dR (b::ad)++t=(if b=true then 1 else 0)::(dR ad++t):=rfl
  rw[e]
  show Oc _::o7 ad.length (Dn _)=_/\pX ad.length (Dn _)=_
  rw[h1,h2,h3,h4]
  exact⟨rfl,rfl⟩
theorem WG{α:Type}{X:List α}{n m:Nat}{z v:α}(h:X.length=n):(X++List.replicate (m+1) z).set n v=(X++[v])++List.replicate m z:=by
 subst h
 rw[List.set_append_right _ _ (yLr _),Nat.sub_self,List.replicate_succ,List.set_cons_zero,List.append_assoc]
 rfl
theorem aO9(R:Rd)(hR:R.bs.length<=1000000):bV 222 0 (.var (mY R)) [] (.d (.v (.bool (Oc R)))) (.var (mY (Dn R))):=by
 refine iH (E:=Vp) Tryz.func222 Tryz.ntmps222 ?_
 cases hb:(mM 1 R).bad with
 |true=>
  have e:Dn R=⟨(mM 1 R).bs,true⟩:=by unfold Dn;rw[if_neg (fun h=>by rw[hb]at h;cases h.1)]
  have h0:ni 1 R=[]:=by
   unfold ni;unfold mM at hb
   split
   ·next h1=>rw[if_pos h1]at hb;cases hb
   ·rfl
  have e2:Oc R=false:=by unfold Oc;rw[h0];decide
  rw[e,e2]
  clear e e2 h0
  refine ah ?_;(try exact⟨⟩)
 |false=>
  have hl:=(qR hb).2.2
  have e2:Oc R=(Bt ((ni 1 R).getD 0 0)==1):=rfl
  by_cases h1:((ni 1 R).getD 0 0).toNat<=1
  ·have e:Dn R=mM 1 R:=by unfold Dn;rw[if_pos ⟨hb,h1⟩]
   have h2:decide (Bt ((ni 1 R).getD 0 0)>1)=false:=by unfold Bt;rw[decide_eq_false_iff_not];omega
   rw[e,e2]
   clear e e2 h1
   refine ah ?_;(try exact⟨⟩)
  ·have e:Dn R=⟨(mM 1 R).bs,true⟩:=by unfold Dn;rw[if_neg (fun h=>h1 h.2)]
   have h2:Bt ((ni 1 R).getD 0 0)>1:=by unfold Bt;omega
   have e3:Oc R=false:=by rw[e2];unfold Bt;rw[beq_eq_false_iff_ne];omega
   rw[e,e3]
   clear e e2 e3 h1
   refine ah ?_;(try exact⟨⟩)
def bu4:ak:=Vp.gI 222 (PL (fun R=>.d (.v (.bool (Oc R)))) Dn) (lZ aO9) (.of Tryz.func222)
def va(R:Rd):Rd:=bQ (bQ R)
def vc(R:Rd):Rd:=pX 8 (va R)
def vd(R:Rd):Rd:=mM 32 (vc R)
def ve(R:Rd):Rd:=dY 31 (vd R)
def vwZ:List Seg:=eD 0 (List.replicate 31 0) (List.replicate 8 false) 0 (List.replicate 32 0)
def aH6(R:Rd):List Seg:=eD (fV R) (gN 31 (vd R)) (o7 8 (va R)) (fV (bQ R)) (gT (vc R))
theorem XV(R:Rd):pX 0 R=R:=by unfold pX;rfl
theorem XW(R:Rd):o7 0 R=[]:=by unfold o7;rfl
theorem al2(j:Nat)(R:Rd):pX (j+1) R=Dn (pX j R):=by
 rw[Od];rfl
theorem al3(j:Nat)(R:Rd):o7 (j+1) R=o7 j R++[Oc (pX j R)]:=by
 rw[Oe];rfl
theorem AX(j:Nat)(R:Rd):dY (j+1) R=bQ (dY j R):=by
 rw[AV]
 generalize dY j R=Q
 unfold dY
 exact tC _
theorem Gd(j:Nat)(R:Rd):gN (j+1) R=gN j R++[fV (dY j R)]:=by
 rw[AY]
 generalize dY j R=Q
 show _++gN (0+1) Q=_
 unfold gN
 rw[tF]
theorem OZ(j:Nat)(R:Rd):dY (j+2) R=bQ (bQ (dY j R)):=by rw[show j+2=j+1+1 from rfl,AX,AX]
theorem O1(j:Nat)(R:Rd):gN (j+2) R=gN j R++[fV (dY j R),fV (bQ (dY j R))]:=by rw[show j+2=j+1+1 from rfl,Gd,Gd,AX,List.append_assoc];rfl
theorem bH7(R:Rd)(hR:R.bs.length<=1000000):bV 221 0 (.var (mY R)) [] (.d (.agg [.ints .i64 2 [fV R,fV (bQ R)]])) (.var (mY (bQ (bQ R)))):=by
 have h:=QC R hR
 unfold uQ at h
 rw[O1 0 R,OZ 0 R,tF,tC]at h
 exact h
def ai6:ak:=bu4.gI 221 (PL (fun R=>.d (.agg [.ints .i64 2 [fV R,fV (bQ R)]])) (fun R=>bQ (bQ R))) (lZ bH7) (.of Tryz.func221)
theorem ay3{α:Type}{X:List α}{n m:Nat}{z a b:α}(h:X.length=n):(X++List.replicate (m+2) z).take n++([a,b]++(X++List.replicate (m+2) z).drop (n+2))=(X++[a,b])++List.replicate m z:=by
 subst h
 rw[List.take_left' rfl,List.drop_append,List.drop_eq_nil_of_le (by omega),List.nil_append,show X.length+2-X.length=2 by omega,List.replicate_succ,List.replicate_succ]
 simp
attribute [local irreducible] Oc Dn o7 pX
theorem aI9(R:Rd)(hR:R.bs.length<=1000000):bV 204 0 (.var (mY R)) [] (.d (.agg (aH6 R))) (.var (mY (ve R))):=by
 refine iH (E:=ai6) Tryz.func204 Tryz.ntmps204 ?_
 have l1:=dD R
 have l2:(va R).bs.length<=1000000:=by have:(va R).bs.length<=(bQ R).bs.length:=dD _;omega
 refine ah ?_
 refine aX.mk (cB [0,2,3,13] [0,1,2] 8 (fun j=>⟨.ptr 0 0::.au::.ptr 1 0::.ptr 2 0::dz 9 (.d (.v (.int .i64 (j:Nat)))::dz 32 []),[some (.var (mY (pX j (va R)))),some (.var vwZ),some (.var (eD (fV R) (List.replicate 31 0) (o7 j (va R)++List.replicate (8-j) false) (fV (bQ R)) (List.replicate 32 0)))]⟩) ?_ (h2:=by rw[XV,XW];exact rfl))
 intro j hj hl
 by_cases h:j<8
 ·have h1:(j:Int)<8:=by omega
  have h2:(pX j (va R)).bs.length<=1000000:=by have:=Aq j (va R);omega
  refine ah ?_
  refine hl.go h [0,2,3,13] [0,1,2] ?_
  rw[al2,al3,<-WG (wM j (va R)),show 8- (j+1)+1=8-j by omega]
  rfl
 obtain rfl:j=8:=by omega
 rw[show o7 8 (va R)++List.replicate (8-8) false=o7 8 (va R) by simp]
 have l3:(vc R).bs.length<=1000000:=by have:(vc R).bs.length<=(va R).bs.length:=Aq _ _;omega
 have l3':(pX 8 (va R)).bs.length<=1000000:=l3
 clear hl h hj
 refine ah ?_
 have l4:(vd R).bs.length<=1000000:=by have:(vd R).bs.length<=(vc R).bs.length:=lQ _ _;omega
 refine aX.mk (cB [0,2,3,25] [0,1,2] 8 (fun j=>⟨.ptr 0 0::.au::.ptr 1 0::.ptr 2 0::dz 21 (.d (.v (.int .i64 (j:Nat)))::dz 20 []),[some (.var (mY (dY (j*2) (vd R)))),some (.var vwZ),some (.var (eD (fV R) (gN (j*2) (vd R)++List.replicate (31-j*2) 0) (o7 8 (va R)) (fV (bQ R)) (gT (vc R))))]⟩) ?_ (h2:=by rw[Nat.zero_mul,tC,tF];exact rfl))
 intro j hj hl
 by_cases h:j<8
 ·have h1:(j:Int)<8:=by omega
  have h2:(dY (j*2) (vd R)).bs.length<=1000000:=by have:=lH (j*2) (vd R);omega
  refine ah ?_
  refine hl.go h [0,2,3,25] [0,1,2] ?_
  rw[show(j+1)*2=j*2+2 by omega,OZ,O1,<-ay3 (mo (j*2) (vd R)),show 31- (j*2+2)+2=31-j*2 by omega]
  rfl
 obtain rfl:j=8:=by omega
 clear hl h hj
 refine ah ?_
 refine aX.mk (cB [0,2,3,35] [0,1,2] 15 (fun j=>⟨.ptr 0 0::.au::.ptr 1 0::.ptr 2 0::dz 31 (.d (.v (.int .i64 (j:Nat)))::dz 10 []),[some (.var (mY (dY (16+j) (vd R)))),some (.var vwZ),some (.var (eD (fV R) (gN (16+j) (vd R)++List.replicate (15-j) 0) (o7 8 (va R)) (fV (bQ R)) (gT (vc R))))]⟩) ?_)
 intro j hj hl
 by_cases h:j<15
 ·have h1:(j:Int)<15:=by omega
  have h2:(dY (16+j) (vd R)).bs.length<=1000000:=by have:=lH (16+j) (vd R);omega
  refine ah ?_
  refine hl.go h [0,2,3,35] [0,1,2] ?_
  rw[show 16+(j+1)=16+j+1 by omega,AX,Gd,<-WG (mo (16+j) (vd R)),show 15- (j+1)+1=15-j by omega]
  rfl
 obtain rfl:j=15:=by omega
 rw[show gN (16+15) (vd R)++List.replicate (15-15) 0=gN 31 (vd R) by simp]
 clear hl h hj
 refine ah ?_;(try exact⟨⟩)
 rfl
def bu5:ak:=ai6.gI 204 (PL (fun R=>.d (.agg (aH6 R))) ve) (lZ aI9) (.of Tryz.func204)
def vg(R:Rd):Rd:=ve (bQ (bQ R))
def BD(R:Rd):Rd:=mM 32 (lC 300 (vg R))
def QB(R:Rd):WS:=⟨fV R,fV (bQ R),fV (va R),gN 31 (vd (va R)),o7 8 (va (va R)),fV (bQ (va R)),gT (vc (va R)),mR 300 (vg R),gT (lC 300 (vg R))⟩
theorem aH2(R:Rd):(ve R).bs.length<=R.bs.length:=by
 have h1:(ve R).bs.length<=(vd R).bs.length:=lH _ _
 have h2:(vd R).bs.length<=(vc R).bs.length:=lQ _ _
 have h3:(vc R).bs.length<=(va R).bs.length:=Aq _ _
 have h4:(va R).bs.length<=(bQ R).bs.length:=dD _
 have h5:=dD R
 omega
attribute [local irreducible] ve
theorem QI(R:Rd)(hR:R.bs.length<=1000000):bV 143 0 (.var (mY R)) [] (.d (.agg (kJ (QB R)))) (.var (mY (BD R))):=by
 refine iH (E:=bu5) Tryz.func143 Tryz.ntmps143 ?_
 have l1:=dD R
 have l2:=dD (bQ R)
 have l3:=aH2 (bQ (bQ R))
 have l4:=E8 300 (ve (bQ (bQ R)))
 refine ah ?_;(try exact⟨⟩)
 rfl
end
noncomputable section
open Pm
attribute [local irreducible] aN aQ bq aC aF ni mM pq isNum fV bQ cK jd gT mR lC gN dY Oc Dn o7 pX ve
theorem numsB_31{zs:List Int}(h:zs.length=31):aF (zs.take 16)++aF ((zs.drop 16).take 15)=aF zs:=by
 rw[List.take_of_length_le (show(zs.drop 16).length<=15 by rw[List.length_drop];omega),<-mW,List.take_append_drop]
theorem Uv{e:Int}{zs:List Int}{ad:List Bool}{k:Int}{ch:List UInt8}(h:zs.length=31)(t:List UInt8):yV e zs ad k ch++t=aC e++(aC k++(dR ad++(ch++(aF zs++t)))):=by
 unfold yV
 rw[numsB_31 h]
 simp only[kr,jL,List.append_assoc,List.append_nil]
def G5(w:WS)(t:List UInt8):List UInt8:=
 aC w.leaf++(aC w.fr++(aC w.e++(aC w.k++(dR w.ad++(w.ch++(aF w.zs++((aC (w.box.length:Int)++w.box)++(w.tag++t))))))))
theorem WZ{w:WS}(h:w.zs.length=31)(t:List UInt8):IE w++t=2::G5 w t:=by
 unfold IE G5 pU
 rw[List.append_assoc,List.append_assoc,List.append_assoc,Uv h]
 simp only[kr,jL,List.append_assoc,List.append_nil]
 rfl
theorem bd1(R:Rd)(h:(BD R).bad=false):R.bad=false/\R.bs=G5 (QB R) (BD R).bs:=by
 obtain⟨h10,e10⟩:=zq (R:=lC 300 (vg R)) h
 obtain⟨h9,e9,_⟩:=Jj (R:=vg R) h10
 have q9:vg R=dY 31 (vd (va R)):=by unfold vg va;unfold ve;rfl
 rw[q9]at h9
 obtain⟨h8,e8,_⟩:=yc (R:=vd (va R)) h9
 obtain⟨h7,e7⟩:=zq (R:=vc (va R)) h8
 obtain⟨h6,e6⟩:=JG (R:=va (va R)) h7
 obtain⟨h5,e5,_⟩:=iJ (R:=bQ (va R)) h6
 obtain⟨h4,e4,_⟩:=iJ h5
 obtain⟨h3,e3,_⟩:=iJ (R:=bQ R) h4
 obtain⟨h2,e2,_⟩:=iJ h3
 refine⟨h2,?_⟩
 unfold G5
 show R.bs=aC (fV R)++(aC (fV (bQ R))++(aC (fV (va R))++(aC (fV (bQ (va R)))++(dR (o7 8 (va (va R)))++(gT (vc (va R))++(aF (gN 31 (vd (va R)))++((aC ((mR 300 (vg R)).length:Int)++mR 300 (vg R))++(gT (lC 300 (vg R))++(BD R).bs))))))))
 have p10:(BD R).bs=(mM 32 (lC 300 (vg R))).bs:=rfl
 rw[p10,<-e10,<-e9,q9,<-e8]
 have p8:vd (va R)=mM 32 (vc (va R)):=rfl
 rw[p8,<-e7]
 have p7:vc (va R)=pX 8 (va (va R)):=rfl
 rw[p7,<-e6]
 have p6:va (va R)=bQ (bQ (va R)):=rfl
 rw[p6,<-e5,<-e4]
 have p4:va R=bQ (bQ R):=rfl
 rw[p4,<-e3,<-e2]
def yF(b:List UInt8):WS:=QB (uL 2 ⟨b,false⟩)
def Cy(b:List UInt8):Bool:=!(BD (uL 2 ⟨b,false⟩)).bad&&(decide ((BD (uL 2 ⟨b,false⟩)).bs.length=0)&&kW (yF b))
theorem WY(R:Rd):sM (QB R):=by
 refine⟨mo _ _,wM _ _,uJ _,uJ _,?_⟩
 show(mR 300 (vg R)).length<=6000
 have h1:=Ia (cK 300 (vg R)).toNat (jd 300 (vg R))
 have h2:=rD (m:=300) (R:=vg R) (by decide)
 unfold mR
 omega
theorem aw1(h:Cy b=true):kW (yF b)=true/\sM (yF b)/\b=IE (yF b):=by
 unfold Cy at h
 simp only[Bool.and_eq_true,Bool.not_eq_true',decide_eq_true_eq]at h
 obtain⟨h1,h2,h3⟩:=h
 obtain⟨h4,h5⟩:=bd1 _ h1
 have h6:=VJ h4
 have h7:=WY (uL 2 ⟨b,false⟩)
 refine⟨h3,h7,?_⟩
 have h9:(BD (uL 2 ⟨b,false⟩)).bs=[]:=List.length_eq_zero_iff.1 h2
 rw[h9]at h5
 rw[h5]at h6
 have h10:=WZ (w:=yF b) h7.zs []
 rw[List.append_nil]at h10
 rw[h10]
 exact h6
def cb8:ak:=bj9.gI 138 VL OJ (.of Tryz.func138)
def cb9:ak:=cb8.gI 143 (PL (fun R=>.d (.agg (kJ (QB R)))) BD) (lZ QI) (.of Tryz.func143)
def cc0:ak:=cb9.gI 140 (PL (fun R=>.d (.v (.bool (!R.bad&&decide (R.bs.length=0))))) (fun R=>R)) (lZ NZ) (.of Tryz.func140)
theorem KW:Bt 2=2:=by decide
def Iu:A:=.agg [.ints .i64 2 [0,0],.ints .i64 1 [0],.ints .i64 31 (List.replicate 31 0),.bools 8 (List.replicate 8 false),.ints .i64 1 [0],.bytes 32 (List.replicate 32 0),.gen 1 [.v (.slice none 0 0)],.bytes 32 (List.replicate 32 0)]
def Bc(b:List UInt8):bC:=if Cy b=true then .t [.agg (kJ (yF b)),.v (.int .i64 0)]else .t [Iu,.v (.int .i64 2)]
attribute [local irreducible] kW
theorem yY(b:List UInt8)(hb:b.length<=1000000):aV 97 [.row b.length [.bytes b.length b]] (Bc b):=by
 refine eO (E:=cc0) Tryz.func97 Tryz.ntmps97 ?_
 have h1':(uL 2 ⟨b,false⟩).bs.length<=1000000:=yLt (VI 2 ⟨b,false⟩) hb
 have h2:(BD (uL 2 ⟨b,false⟩)).bs.length<=1000000:=by
  refine yLt ?_ h1'
  generalize uL 2 ⟨b,false⟩=R
  have i1:=dD R;have i2:=dD (bQ R)
  have i3:=aH2 (bQ (bQ R))
  have i4:(lC 300 (vg R)).bs.length<=(ve (bQ (bQ R))).bs.length:=E8 300 _
  have i5:(BD R).bs.length<=(lC 300 (vg R)).bs.length:=lQ _ _
  omega
 have hc:=WY (uL 2 ⟨b,false⟩)
 have e1:=KW
 cases h3:(!(BD (uL 2 ⟨b,false⟩)).bad&&decide ((BD (uL 2 ⟨b,false⟩)).bs.length=0))with
 |false=>
  have e:Bc b=.t [Iu,.v (.int .i64 2)]:=by
   unfold Bc Cy
   rw[<-Bool.and_assoc,h3];rfl
  rw[e]
  clear e
  refine ah ?_
  refine⟨2,KW.symm,?_⟩
  refine ah ?_;(try exact⟨⟩)
  try rfl
 |true=>
  cases h4:kW (QB (uL 2 ⟨b,false⟩))with
  |false=>
   have e:Bc b=.t [Iu,.v (.int .i64 2)]:=by
    unfold Bc Cy yF
    rw[<-Bool.and_assoc,h3,h4];rfl
   rw[e]
   clear e
   refine ah ?_
   refine⟨2,KW.symm,?_⟩
   refine ah ?_;(try exact⟨⟩)
   try rfl
  |true=>
   have e:Bc b=.t [.agg (kJ (yF b)),.v (.int .i64 0)]:=by
    unfold Bc Cy yF
    rw[<-Bool.and_assoc,h3,h4];rfl
   rw[e]
   clear e
   refine ah ?_
   refine⟨2,KW.symm,?_⟩
   refine ah ?_;(try exact⟨⟩)
   try rfl
end
end Go.Proofs.YtegalalmamofdaaGreatDoor
