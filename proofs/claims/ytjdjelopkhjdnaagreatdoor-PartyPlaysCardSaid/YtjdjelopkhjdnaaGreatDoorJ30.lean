/-
  Commits as bytes: numbers, boxes.
-/
import Derived.Test.YtjdjelopkhjdnaaGreatDoorJ29
import Derived.Lib.AppendZeros
namespace Go.Proofs.YtjdjelopkhjdnaaGreatDoor
set_option linter.unusedVariables false
set_option linter.unusedSimpArgs false
set_option maxRecDepth 100000
open Go.RowKit
section
open Pm
attribute [local irreducible] aV aZ bQ bW aN
noncomputable def aY6:av:=aB3.ah5 EX aS8 aS7
def Rx:List A→(bP→Prop)→Prop
 |[.row n [.ints .i64 m zs]],K=>m=n*5∧n≤1000000∧zs.length=n*5∧K (.o 5 1 (n*40) [.bytes (n*40) (aN zs)])
 |_,_=>False
theorem Lv{f:FuncId}(h:∀(zs:List Int) (n:Nat),zs.length=n*5→n≤1000000→aQ f [.row n [.ints .i64 (n*5) zs]] (.o 5 1 (n*40) [.bytes (n*40) (aN zs)])):∀args K,Rx args K→∃r,aQ f args r∧K r:=by
 intro args K hd
 unfold Rx at hd
 split at hd
 ·obtain⟨rfl,h1,h2,h3⟩:=hd
  exact⟨_,h _ _ h2 h1,h3⟩
 ·exact hd.elim
noncomputable def aY7:av:=aY6.add 162 Rx (Lv ZN) ⟨_,Tryz.func162,by kernel_rfl,by kernel_rfl⟩
noncomputable def aA9:av:=aY7.add 143 Rx (Lv R3) ⟨_,Tryz.func143,by kernel_rfl,by kernel_rfl⟩
set_option maxHeartbeats 4000000 in
theorem ah6(zs:List Int)(hz:zs.length≤1000000):aQ 161 [.row zs.length [.ints .i64 zs.length zs]] (.o 5 1 (zs.length*8) [.bytes (zs.length*8) (aN zs)]):=by
 refine dF (E:=aA9) Tryz.func161 Tryz.ntmps161 ?_
 refine aj ?_;(try exact⟨⟩)
 refine aM.mk (jk [3,6,7,8] [0] 3 5 1 [.bytes 0 []] zs.length (fun j=>⟨[.ah,.ah,.ah,.own 0 (j*8),.ah,.ah,.d (.row zs.length [.ints .i64 zs.length zs]),.d (.v (.int .i64 zs.length)),.d (.v (.int .i64 (j:Nat))),.ah,.ah,.ah,.ah,.ah,.ah,.ah,.ah,.ah],[some (.sl 5 1 (j*8) [.bytes (j*8) (aN (zs.take j))])]⟩) ?_ (h2:=by rw[List.take_zero,jl];exact rfl))
 intro j hj hl
 by_cases hjz:j<zs.length
 ·have h1:(j:Int)<(zs.length:Int):=by omega
  refine aj ?_;(try exact⟨⟩)
  refine hl.go hjz [3,6,7,8] [0] ?_
  rw[mX zs hjz,Nat.add_mul,Nat.one_mul]
  rfl
 ·obtain rfl:j=zs.length:=by omega
  have e:zs.take zs.length=zs:=List.take_length
  have h1:¬(zs.length:Int)<(zs.length:Int):=by omega
  rw[e]
  refine aj ?_;(try exact⟨⟩)
theorem VD:∀args K,Gl args K→∃r,aQ 161 args r∧K r:=by
 intro args K h
 unfold Gl at h
 split at h
 ·obtain⟨rfl,rfl,h1,h2⟩:=h
  exact⟨_,ah6 _ h1,h2⟩
 ·exact h.elim
noncomputable def aB0:av:=aA9.add 161 Gl VD ⟨_,Tryz.func161,by kernel_rfl,by kernel_rfl⟩
def wV(bs:List UInt8):List UInt8:=aN [(bs.length:Int)]++bs
set_option maxHeartbeats 4000000 in
theorem ay2(bs:List UInt8)(hb:bs.length≤1000000):aQ 163 [.row bs.length [.bytes bs.length bs]] (.o 5 1 (8+bs.length) [.bytes (8+bs.length) (wV bs)]):=by
 refine dF (E:=aB0) Tryz.func163 Tryz.ntmps163 ?_
 refine aj ?_;(try exact⟨⟩)
 rfl
def aI4:List A→(bP→Prop)→Prop
 |[.row n [.bytes m bs]],K=>n=bs.length∧m=bs.length∧bs.length≤1000000∧K (.o 5 1 (8+bs.length) [.bytes (8+bs.length) (wV bs)])
 |_,_=>False
theorem al4:∀args K,aI4 args K→∃r,aQ 163 args r∧K r:=by
 intro args K h
 unfold aI4 at h
 split at h
 ·obtain⟨rfl,rfl,h1,h2⟩:=h
  exact⟨_,ay2 _ h1,h2⟩
 ·exact h.elim
noncomputable def aB1:av:=aB0.add 163 aI4 al4 ⟨_,Tryz.func163,by kernel_rfl,by kernel_rfl⟩
structure CS where
 e:Int
 fr:Int
 n:Nat
 ops:List Int
 m:Nat
 vs:List Int
 sl:Int
 p0:Int
 p1:Int
 p2:Int
 k:Nat
 bx:Nat→List UInt8
 tag:List UInt8
 sE:Int
 sS:Int
def Hz(bx:Nat→List UInt8)(j:Nat):List Seg:=[.gen 1 [.row (bx j).length [.bytes (bx j).length (bx j)]]]
def gW(c:CS):List Seg:=[.ints .i64 2 [c.e,c.fr],.gen 2 [.row c.n [.ints .i64 (c.n*5) c.ops],.row c.m [.ints .i64 (c.m*3) c.vs]],.ints .i64 4 [c.sl,c.p0,c.p1,c.p2],.gen 1 [.recs c.k 1 (Hz c.bx)],.bytes 32 c.tag,.ints .i64 2 [c.sE,c.sS]]
structure qH(c:CS):Prop where
 n:c.n≤3000
 m:c.m≤3000
 k:c.k≤3000
 ops:c.ops.length=c.n*5
 vs:c.vs.length=c.m*3
 bx:∀j,j<c.k→(c.bx j).length≤6000
def Fe(bx:Nat→List UInt8):Nat→Nat
 |0=>0
 |j+1=>Fe bx j+(8+(bx j).length)
def bxB(bx:Nat→List UInt8):Nat→List UInt8
 |0=>[]
 |j+1=>bxB bx j++wV (bx j)
def lV(c:CS):List UInt8:=(aN [c.e,c.fr,(c.n:Int)]++aN c.ops)++aN [(c.m:Int)]
def kY(c:CS):List UInt8:=(lV c++aN c.vs)++aN [c.sl,c.p0,c.p1,c.p2,(c.k:Int)]
def aU(c:CS):List UInt8:=kY c++bxB c.bx c.k
def eD(c:CS):Nat:=24+c.n*40+8+c.m*24+40+Fe c.bx c.k
theorem wW{bx:Nat→List UInt8}:∀{k:Nat},(∀j,j<k→(bx j).length≤6000)→Fe bx k≤k*6008
 |0,_=>Nat.zero_le _
 |k+1,h=>by
  have h1:=wW (k:=k) fun j hj=>h j (by omega)
  have h2:=h k (by omega)
  show Fe bx k+(8+(bx k).length)≤_
  omega
theorem Vr{o:List Int}(h:o.length=3):o=[o.getD 0 0,o.getD 1 0,o.getD 2 0]:=by
 rcases o with _|⟨a,_|⟨b,_|⟨c,_|⟨d,l⟩⟩⟩⟩<;>first|(simp at h;done)|rfl
theorem AZ(zs:List Int){i:Nat}(h:i+3≤zs.length):aN (zs.take (i+3))=aN (zs.take i)++aN [((zs.drop i).take 3).getD 0 0,((zs.drop i).take 3).getD 1 0,((zs.drop i).take 3).getD 2 0]:=by
 rw[←Vr (o:=(zs.drop i).take 3) (by simp;omega),←oF,List.take_add]
attribute [local irreducible] wV
set_option maxHeartbeats 8000000 in
theorem ah3(c:CS)(hc:qH c):aQ 87 [.agg (gW c)] (.o 5 1 (eD c) [.bytes (eD c) (aU c)]):=by
 refine dF (E:=aB1) Tryz.func87 Tryz.ntmps87 ?_
 obtain⟨h1,h2,h3,h4,h5,h6⟩:=hc
 refine aj ?_;(try exact⟨⟩)
 refine aM.mk (bV [1,3,30,31,32] [0,2] c.m (fun j=>⟨[.ah,.ptr 0 0,.ah,.own 1 (24+c.n*40+8+j*24),.ah,.ah,.ah,.ah,.ah,.ah,.ah,.ah,.ah,.ah,.ah,.ah,.ah,.ah,.ah,.ah,.ah,.ah,.ah,.ah,.ah,.ah,.ah,.ah,.ah,.ah,.d (.row c.m [.ints .i64 (c.m*3) c.vs]),.d (.v (.int .i64 c.m)),.d (.v (.int .i64 (j:Nat))),.ah,.ah,.ah,.ah,.ah,.ah,.ah,.ah,.ah,.ah,.ah,.ah,.ah,.ah,.ah,.ah,.ah,.ah,.ah,.ah,.ah,.ah,.ah,.ah,.ah,.ah,.ah,.ah,.ah,.ah,.ah,.ah,.ah,.ah,.ah,.ah,.ah,.ah,.ah,.ah,.ah,.ah,.ah,.ah,.ah,.ah,.ah],[some (.var (gW c)),some (.sl 5 1 (24+c.n*40+8+j*24) [.bytes (24+c.n*40+8+j*24) (lV c++aN (c.vs.take (j*3)))])]⟩) ?_ (h2:=by simp only[Nat.zero_mul,List.take_zero,jl,List.append_nil,Nat.add_zero];exact rfl))
 intro j hj hl
 by_cases hjm:j<c.m
 ·have g1:(j:Int)<(c.m:Int):=by omega
  refine aj ?_;(try exact⟨⟩)
  refine hl.go hjm [1,3,30,31,32] [0,1] ?_
  rw[show(j+1)*3=j*3+3 by omega,AZ c.vs (by omega),show(j+1)*24=j*24+24 by omega,←List.append_assoc,←Nat.add_assoc]
  rfl
 ·obtain rfl:j=c.m:=by omega
  have g1:¬(c.m:Int)<(c.m:Int):=by omega
  rw[show c.vs.take (c.m*3)=c.vs from List.take_of_length_le (by omega)]
  refine aj ?_;(try exact⟨⟩)
  refine aM.mk (bV [3,68,69,70] [0,1] c.k (fun j=>⟨[.ah,.ah,.ah,.own 1 (24+c.n*40+8+c.m*24+40+Fe c.bx j),.ah,.ah,.ah,.ah,.ah,.ah,.ah,.ah,.ah,.ah,.ah,.ah,.ah,.ah,.ah,.ah,.ah,.ah,.ah,.ah,.ah,.ah,.ah,.ah,.ah,.ah,.ah,.ah,.ah,.ah,.ah,.ah,.ah,.ah,.ah,.ah,.ah,.ah,.ah,.ah,.ah,.ah,.ah,.ah,.ah,.ah,.ah,.ah,.ah,.ah,.ah,.ah,.ah,.ah,.ah,.ah,.ah,.ah,.ah,.ah,.ah,.ah,.ah,.ah,.d (.recs c.k 1 (Hz c.bx)),.d (.v (.int .i64 c.k)),.d (.v (.int .i64 (j:Nat))),.ah,.ah,.ah,.ah,.ah,.ah,.ah,.ah,.ah],[some (.var (gW c)),some (.sl 5 1 (24+c.n*40+8+c.m*24+40+Fe c.bx j) [.bytes (24+c.n*40+8+c.m*24+40+Fe c.bx j) (kY c++bxB c.bx j)])]⟩) ?_ (h2:=by simp only[Fe,bxB,List.append_nil,Nat.add_zero];exact rfl))
  intro i hi hl2
  by_cases hik:i<c.k
  ·have g2:(i:Int)<(c.k:Int):=by omega
   have g3:=h6 i hik
   have g4:(c.bx i).length≤1000000:=by omega
   have g5:Fe c.bx i≤18030000:=by have:=wW (bx:=c.bx) (k:=i) (fun j hj=>h6 j (by omega));omega
   refine aj ?_;(try exact⟨⟩)
   refine hl2.go hik [3,68,69,70] [0,1] ?_
   have e1:24+c.n*40+8+c.m*24+40+Fe c.bx (i+1)=24+c.n*40+8+c.m*24+40+Fe c.bx i+(8+(c.bx i).length):=(Nat.add_assoc _ _ _).symm
   have e2:kY c++bxB c.bx (i+1)=(kY c++bxB c.bx i)++wV (c.bx i):=(List.append_assoc _ _ _).symm
   rw[e1,e2]
   rfl
  ·obtain rfl:i=c.k:=by omega
   have g2:¬(c.k:Int)<(c.k:Int):=by omega
   refine aj ?_;(try exact⟨⟩)
   rfl
end
section
open Pm
attribute [local go_sem] FQ aE9 aE8
theorem raised(r s:Int)(hr:0≤r∧r<1073741789)(hs:0≤s∧s<1073741789):aA (aA 4 r) s=aA (aA 4 s) r:=by
 obtain⟨m,rfl⟩:=Int.eq_ofNat_of_zero_le hr.1
 obtain⟨n,rfl⟩:=Int.eq_ofNat_of_zero_le hs.1
 have h1:aA 4 (m:Int)=(pw 4 m:Int):=iY 4 m (by decide) (by omega)
 have h2:aA 4 (n:Int)=(pw 4 n:Int):=iY 4 n (by decide) (by omega)
 rw[h1,h2,iY (pw 4 m) n (wK _ _) (by omega),iY (pw 4 n) m (wK _ _) (by omega),Ej,Ej,Nat.mul_comm]
theorem nD(s:Int)(hs:1≤s∧s<1073741789):cK (aA 4 s)=true:=by
 obtain⟨n,rfl⟩:=Int.eq_ofNat_of_zero_le (show 0≤s by omega)
 rw[show aA 4 (n:Int)=(pw 4 n:Int)from iY 4 n (by decide) (by omega)]
 exact yN n (by omega) (by omega)
end
section
open Pm
def mE(s:List UInt8)(j:Nat):List UInt8:=aF s (sb ⟨#[115,116,114,101,97,109]⟩) (bC (j:Int))
def kP(s p:List UInt8):List UInt8:=p.mapIdx fun i c=>c^^^(mE s (i / 32)).getD (i%32) 0
theorem fD(s p:List UInt8):(kP s p).length=p.length:=by simp[kP]
theorem zH(s p:List UInt8)(i:Nat)(h:i<p.length):(kP s p)[i]?=some (p[i]^^^(mE s (i / 32)).getD (i%32) 0):=by
 simp[kP,List.getElem?_mapIdx,List.getElem?_eq_getElem h]
theorem VR(s p:List UInt8):kP s (kP s p)=p:=by
 refine List.ext_getElem? fun i=>?_
 by_cases h:i<p.length
 ·have h2:i<(kP s p).length:=by rw[fD];exact h
  rw[zH s (kP s p) i h2,List.getElem?_eq_getElem h]
  have h3:(kP s p)[i]=p[i]^^^(mE s (i / 32)).getD (i%32) 0:=by
   have h4:=zH s p i h
   rw[List.getElem?_eq_getElem h2]at h4
   exact Option.some.inj h4
  rw[h3,UInt8.xor_assoc,UInt8.xor_self,UInt8.xor_zero]
 ·rw[List.getElem?_eq_none (by rw[fD,fD];omega),List.getElem?_eq_none (by omega)]
def Bc(s p:List UInt8)(k:Nat):List UInt8:=(kP s p).take k++List.replicate (p.length-k) 0
theorem O4(s p:List UInt8):Bc s p 0=List.replicate p.length 0:=by simp[Bc]
theorem UH(s p:List UInt8):Bc s p p.length=kP s p:=by simp[Bc,List.take_of_length_le (Nat.le_of_eq (fD s p))]
theorem UJ(s p:List UInt8)(k:Nat)(h:k<p.length):(Bc s p k).set k (p[k]^^^(mE s (k / 32)).getD (k%32) 0)=Bc s p (k+1):=by
 refine List.ext_getElem? fun i=>?_
 have hl:(kP s p).length=p.length:=fD s p
 rw[List.getElem?_set]
 unfold Bc
 by_cases hik:k=i
 ·subst hik
  rw[if_pos rfl,if_pos (by simp[hl];omega)]
  rw[List.getElem?_append_left (by simp[hl];omega),List.getElem?_take,if_pos (by omega),zH s p k h]
 ·rw[if_neg hik]
  by_cases h1:i<k
  ·rw[List.getElem?_append_left (by simp[hl];omega),List.getElem?_append_left (by simp[hl];omega),List.getElem?_take,List.getElem?_take,if_pos h1,if_pos (by omega)]
  ·rw[List.getElem?_append_right (by simp[hl];omega),List.getElem?_append_right (by simp[hl];omega)]
   have e1:(List.take k (kP s p)).length=k:=by simp[hl];omega
   have e2:(List.take (k+1) (kP s p)).length=k+1:=by simp[hl];omega
   rw[e1,e2,List.getElem?_replicate,List.getElem?_replicate]
   by_cases h2:i<p.length
   ·rw[if_pos (by omega),if_pos (by omega)]
   ·rw[if_neg (by omega),if_neg (by omega)]
theorem aG6(a b:UInt8):bits .xor .u8 (Bt a) (Bt b)=Bt (a^^^b):=by
 show IntKind.u8.wrap ((BitVec.ofInt 8 (a.toNat:Int)^^^BitVec.ofInt 8 (b.toNat:Int)).toNat:Int)=_
 rw[BitVec.ofInt_natCast,BitVec.ofInt_natCast]
 unfold Bt
 rw[UInt8.toNat_xor,BitVec.toNat_xor,BitVec.toNat_ofNat,BitVec.toNat_ofNat,IntKind.wrap_u8]
 have ha:=UInt8.toNat_lt a
 have hb:=UInt8.toNat_lt b
 rw[Nat.mod_eq_of_lt (by omega),Nat.mod_eq_of_lt (by omega)]
 have hx:a.toNat^^^b.toNat<2^8:=Nat.xor_lt_two_pow (by omega) (by omega)
 omega
def wB(s own body:List UInt8):List UInt8:=(aF s (sb ⟨#[116,97,103]⟩) (own++body)).take 8
theorem jv(s own body:List UInt8):(wB s own body).length=8:=by
 unfold wB
 rw[List.length_take,show(aF s (sb ⟨#[116,97,103]⟩) (own++body)).length=32 from bM _]
 rfl
end
section
open Pm
structure PS where
 e:Int
 zs:List Int
 ad:List Bool
 k:Int
 ch:List UInt8
 lf:Int
 sg:List UInt8
 sc:List UInt8
 ab:List UInt8
 ep:List UInt8
 jE:List UInt8
abbrev bL(p:PS):List Seg:=[.ints .i64 1 [p.e],.ints .i64 31 p.zs,.bools 8 p.ad,.ints .i64 1 [p.k],.bytes 32 p.ch,.ints .i64 1 [p.lf],.bytes 32 p.sg,.bytes 32 p.sc,.bytes 96 p.ab,.bytes 32 p.ep,.bytes 32 p.jE]
def jP(h:List UInt8):List UInt8:=aF h (sb ⟨#[115,105,103,110]⟩) []
def aC(h:List UInt8):List UInt8:=aF h (sb ⟨#[108,101,97,102]⟩) []
def Od(h:List UInt8):List UInt8:=aF h (sb ⟨#[102,105,114,115,116]⟩) []
def zS(h:List UInt8):List UInt8:=aF h (sb ⟨#[105,110,105,116]⟩) []
def dY(h:List UInt8):List UInt8:=aF h (sb ⟨#[116,97,103]⟩) []
def mO(j h:List UInt8):List UInt8:=aF j (sb ⟨#[101,112,111,99,104]⟩) h
def kV(i u:List UInt8):List UInt8:=aF i (sb ⟨#[106,111,105,110,116]⟩) u
def tY(c b:List UInt8):List UInt8:=aF c (sb ⟨#[99,104,97,105,110]⟩) b
def fU(d:List UInt8)(n:Int):List UInt8:=aF d (sb ⟨#[98,111,120]⟩) (bW n)
def iC(d:List UInt8)(n:Int):List UInt8:=aF d (sb ⟨#[104,101,108,108,111]⟩) (bW n)
def TD(e l:List UInt8):List UInt8:=aF e (sb ⟨#[101,120,112,111,114,116]⟩) l
theorem Mq(h:List UInt8):(jP h).length=32:=bM _
theorem nM(h:List UInt8):(aC h).length=32:=bM _
theorem Yo(h:List UInt8):(Od h).length=32:=bM _
theorem KT(h:List UInt8):(zS h).length=32:=bM _
theorem MB(h:List UInt8):(dY h).length=32:=bM _
theorem X6(j h:List UInt8):(mO j h).length=32:=bM _
theorem KW(j h:List UInt8):(kV j h).length=32:=bM _
theorem WZ(j h:List UInt8):(tY j h).length=32:=bM _
theorem EN(e:Int)(zs:List Int)(ad:List Bool)(k:Int)(ch:List UInt8):(aT e zs ad k ch).length=32:=bM _
theorem wh(h:List UInt8):(fJ h).length=96:=by simp[fJ,dV]
def aH(h:List UInt8):Int:=aA 4 (au (ay h))
def fu(seed:List UInt8):List Int:=[aA 4 (au (jP seed)),aH (aC seed)]
abbrev zB(n:Nat):List UInt8:=List.replicate n 0
def by0(seed:List UInt8):PS:=⟨0,List.replicate 31 0,F8,0,zB 32,0,jP seed,aC seed,zB 96,zB 32,zB 32⟩
def dU(p:PS)(ep:List UInt8):PS:={ p with ep:=ep,jE:=zS ep }
def bG(p:PS)(joint:List UInt8):PS:=dU p (mO joint (aT p.e p.zs p.ad p.k p.ch))
def aY(seed:List UInt8):PS:=dU ⟨0,fu seed++List.replicate 29 0,[true,false,false,false,false,false,false,false],1,zB 32,0,jP seed,aC seed,zB 96,zB 32,zB 32⟩ (Od (aC seed))
def iM(p:PS)(draw:List UInt8):PS:={ p with sc:=aC draw,ab:=fJ (aC draw) }
def uY(h:List UInt8):List UInt8:=ak (ak (ak (ak h)))
def dO(ab:List UInt8)(k:Nat):List UInt8:=(ab.drop (k*32)).take 32
def fM(zs:List Int)(fr sl a b c:Int):List Int:=
 (((zs.set (fr.toNat*2+1) sl).set (16+(fr / 2*4+1).toNat) a).set (16+(fr / 4*8+3).toNat) b).set 23 c
def um(y x:Int)(p:List UInt8):List UInt8:=
 bC (aA 4 x)++wB (ug y x) (bC (aA 4 x)) (kP (ug y x) p)++kP (ug y x) p
def qR(y:Int)(p:List UInt8):Bool:=cK y&&decide (p.length≤200)
def bI(y x:Int)(p:List UInt8):List UInt8:=if qR y p then um y x p else[]
def Sc(y:Int)(p:List UInt8):Int:=if qR y p then 0 else 1
def Az(zs:List Int)(up draw:List UInt8)(j:Nat)(x:Int×Int):List UInt8:=bI (bB zs x.2) (au (fU draw j)) (dO up x.1.toNat)
def qJ(zs:List Int)(lf:Int)(ng:List Bool)(up draw:List UInt8)(j:Nat):List UInt8:=Az zs up draw j ((aR zs lf ng).getD j (0,0))
def iH (p : PS) (s : Vw) (n : Nat) (ops : List Int) (m : Nat) (vs : List Int) (draw : List UInt8) : CS :=
  { e := p.e, fr := p.lf, n := n, ops := ops, m := m, vs := vs, sl := aH (aC draw), p0 := aH (ak (aC draw)), p1 := aH (ak (ak (aC draw))), p2 := aH (ak (ak (ak (aC draw)))),
    k := (aR s.zs p.lf s.ng).length, bx := qJ s.zs p.lf s.ng (fJ (aC draw)) draw, tag := zB 32, sE := 0, sS := 0 }
def gu(p:PS)(s:Vw)(c:CS):PS:={ p with e:=p.e+1,zs:=fM s.zs c.fr c.sl c.p0 c.p1 c.p2,ad:=s.ad,k:=s.k,ch:=tY p.ch (aU c) }
def bT(p:PS)(draw:List UInt8):List UInt8:=kV p.jE (uY (aC draw))
def aJ(p:PS)(s:Vw)(n:Nat)(ops:List Int)(m:Nat)(vs:List Int)(draw:List UInt8):PS:=
 bG (gu (iM p draw) s (iH p s n ops m vs draw)) (bT p draw)
def bS(p:PS)(s:Vw)(n:Nat)(ops:List Int)(m:Nat)(vs:List Int)(draw:List UInt8):CS:=
 let c:=iH p s n ops m vs draw
 let tg:=dY (aJ p s n ops m vs draw).ep
 { c with tag:=tg,sE:=jm (au p.sg) (aU c++tg),sS:=jQ (au p.sg) (aU c++tg) }
def bZ(p:PS)(n:Nat)(ops:List Int)(m:Nat)(vs:List Int):Int:=
 if bX p.e p.zs p.ad p.k p.ch p.lf ops n vs m≠0 then bX p.e p.zs p.ad p.k p.ch p.lf ops n vs m else
 if(dh p.e ⟨p.zs,p.ad,p.k,F8,F8⟩ p.lf ops n).1≠0 then(dh p.e ⟨p.zs,p.ad,p.k,F8,F8⟩ p.lf ops n).1 else if p.e≥1099511627776 then 12 else 0
def aP(lf node:Int):Int:=pY (lf / 2*4+1) (lf / 4*8+3) 7 node
def nu(q:PS)(ab joint draw:List UInt8)(j:Nat):List UInt8:=
 bI (q.zs.getD (j*2+1) 0) (au (iC draw j)) (joint++dO ab (aP q.lf (aD j q.lf)).toNat)
def ji(q:PS)(ab joint tag draw:List UInt8)(j:Nat):List Seg:=
 [.ints .i64 2 [(j:Int),q.lf],.ints .i64 1 [q.e],.ints .i64 31 q.zs,.bools 8 q.ad,.ints .i64 1 [q.k],.bytes 32 q.ch,.gen 1 [.row (nu q ab joint draw j).length [.bytes (nu q ab joint draw j).length (nu q ab joint draw j)]],.bytes 32 tag]
def fP(ng:List Bool):Nat→Nat
 |0=>0
 |j+1=>if ng.getD j false=true then fP ng j+1 else fP ng j
def jO(f:Nat→List Seg)(ng:List Bool):Nat→List Seg
 |0=>[]
 |j+1=>if ng.getD j false=true then jO f ng j++f j else jO f ng j
end
section
open Pm
attribute [local irreducible] aV aZ bQ bW aN wV
theorem Db(p:Nat→Bool):∀(n:Nat),∃N,N≤n∧(∀j,j<N→p j=false)∧(N=n∨(N<n∧p N=true))
 |0=>⟨0,Nat.le_refl _,fun j hj=>absurd hj (by omega),.inl rfl⟩
 |n+1=>by
  obtain⟨N,h1,h2,h3⟩:=Db p n
  rcases h3 with rfl|⟨h3,h4⟩
  ·cases h:p N with
   |false=>
    exact⟨N+1,Nat.le_refl _,fun j hj=>by
     rcases Nat.lt_or_ge j N with h5|h5
     ·exact h2 j h5
     ·exact(show j=N by omega)▸h,.inl rfl⟩
   |true=>exact⟨N,by omega,h2,.inr ⟨by omega,h⟩⟩
  ·exact⟨N,by omega,h2,.inr ⟨by omega,h4⟩⟩
theorem Im(p:Nat→Bool)(n:Nat):∃N,N≤n∧(∀j,j<N→p j=false)∧(N=n∧sj p n= -1∨N<n∧p N=true∧sj p n=(N:Int)):=by
 obtain⟨N,h1,h2,h3⟩:=Db p n
 refine⟨N,h1,h2,?_⟩
 rcases h3 with rfl|⟨h3,h4⟩
 ·exact .inl ⟨rfl,vG h2⟩
 ·exact .inr ⟨h3,h4,Iq h3 h4 h2⟩
attribute [local irreducible] sj
def atK(K:Nat)(zs:List Int)(j:Nat):List Int:=(zs.drop (j*K)).take K
end
section
open Pm
attribute [local irreducible] aV aZ bQ bW aN wV sj
end
section
theorem yA(L:List (List UInt8))(k:Nat)(h:k<L.length):(L.take (k+1)).flatten=(L.take k).flatten++L[k]:=by
 rw[List.take_succ_eq_append_getElem h,List.flatten_append];simp
theorem WW(L:List (List UInt8))(k:Nat):(L.take k).flatten.length≤L.flatten.length:=by
 have h:(L.take k++L.drop k).flatten.length=L.flatten.length:=by rw[List.take_append_drop]
 simp only[List.flatten_append,List.length_append]at h
 omega
theorem EY(n:Nat):Builtin.zeroCells (Value.int .u8 0).cells n=HC (List.replicate n 0):=by
 refine Array.toList_inj.1 (List.ext_getElem? fun i=>?_)
 rw[vo]
 simp only[Builtin.zeroCells,HL,Value.cells,List.getElem?_map,List.getElem?_replicate]
 by_cases h:i<n
 ·simp[h,Bt,Nat.mod_one]
 ·simp[h]
theorem SA(a b:List UInt8):HC a++HC b=HC (a++b):=by simp[HC]
set_option maxHeartbeats 2000000 in
theorem Yr(n:Nat)(hn:n≤140737488354000)(w:World):
  Calls Tryz.prog 169 #[.slice none 0 0,.int .i64 n] w fun e w'=>∃v,e=.returned v∧gP w' w.heap.size 5 v []∧Below w.heap.size w w':=by
 by_cases h0:n=0
 ·subst h0
  go_enter Tryz.func169,Tryz.ntmps169
  go_wp2
  go_ret
  exact⟨_,rfl,World.ownsRow_nil _ _ _ _,Below.refl _ _⟩
 obtain⟨i0,hi,hz0,hz1,hz2⟩:=info_parts info8
 have hr:∀ty,(Builtin.append_ #[77,3] ty #[.slice none 0 0,.int .i64 n]).run Tryz.prog w=_:=fun ty=>
  Lib.run_append_nil_zeros w 77 3 ty 5 i0 (.int .u8 0) .i64 .i64 Tryz.underlying77 Tryz.underlying3 hi hz0 n (by omega) (by omega) (by omega) (by rw[hz2];omega)
 have hG1:=grownCap_ge w n 0 5
 have hG2:=grownCap_le_maxLen w n 0 5 (by unfold maxLen;omega)
 obtain⟨G,hG⟩:∃G,G=grownCap w n 0 5:=⟨_,rfl⟩
 rw[←hG]at hr hG1 hG2
 have hG0:List.replicate n (0:UInt8)++List.replicate (G-n) 0=List.replicate G 0:=by rw[List.replicate_append_replicate];congr 1;omega
 rw[EY,EY,SA,hG0]at hr
 clear hG
 have hG63:G≤9223372036854775807:=by unfold maxLen at hG2;omega
 have h4:(n:Int)>0:=by omega
 have H1:=Lib.hid hG1;have H2:=Lib.hid hG2
 clear hG2
 go_enter Tryz.func169,Tryz.ntmps169
 go_wp2_with (at_builtin;refine Lib.wpList_append_run _ rfl _ _ _ _ rfl _ _ rfl rfl _ _ (hr _) ?_)
 go_ret
 refine⟨_,rfl,⟨rfl,.inr ⟨w.heap.size,G,HC (List.replicate G 0),rfl,Nat.le_refl _,?_,Nat.zero_le _,H2.out,?_,?_⟩⟩,((Below.refl _ _).next (Nat.le_refl _) _).drew⟩
 ·exact heap_alloc_new w _
 ·rw[eB];simp
 ·simp[HL]
set_option maxRecDepth 100000 in
set_option maxHeartbeats 2000000 in
theorem NC (a : Option Addr) (len cap : Nat) (L : List (List UInt8)) (w : World) (hp : zL w a len L) (hbound : L.flatten.length ≤ 140737488354000) :
    Calls Tryz.prog 96 #[.slice a len cap] w fun e w' => ∃ v, e = .returned v ∧ gP w' w.heap.size 5 v L.flatten ∧ Below w.heap.size w w' := by
  have hlen := hp.len_eq
  have hsm := hp.small
  unfold maxLen at hsm
  subst hlen
  have hcells : ∀ (k : Nat) (hlt : k < L.length) (wr : World), Below w.heap.size w wr → ∃ b off, a = some ⟨b, off, none⟩ ∧ ∃ a' l' c', wr.cell? ⟨b, off + k, none⟩ = some (.slice a' l' c') ∧ Br w a' l' c' L[k] := by
    intro k hlt wr hB
    rcases hp.cells with h1 | ⟨b, off, rfl, hc⟩
    · simp [h1] at hlt
    · obtain ⟨a', l', c', h2, h3⟩ := hc k hlt
      exact ⟨b, off, rfl, a', l', c', (hB.cell (block_lt_of_cell h2)).trans h2, h3⟩
  have HP := Lib.hid hcells; have HBD := Lib.hid hbound
  clear hp hbound hcells
  go_enter Tryz.func96, Tryz.ntmps96
  go_wp2
  go_loopw [3, 5, 11] (fun z s i wr => ∃ k : Nat, k ≤ L.length ∧ i = .int .i64 k ∧ z = .int .i64 ((L.take k).flatten.length : Nat) ∧ w = wr) (fun _ _ i _ => L.length - (intOf i).toNat)
  case atStart => exact ⟨0, Nat.zero_le _, rfl, rfl, rfl⟩
  case round =>
    obtain ⟨k, hk, rfl, rfl, rfl⟩ := hrel
    by_cases hlt : k < L.length
    · obtain ⟨b, off, rfl, a', l', c', hcell, hrow⟩ := HP.out k hlt w (Below.refl _ _)
      have hl' := hrow.row.len_eq
      subst hl'
      have hle : (L.take k).flatten.length + L[k].length ≤ 140737488354000 := by
        have h1 := WW L (k + 1)
        rw [yA L k hlt, List.length_append] at h1
        have := HBD.out; omega
      clear hrow
      obtain ⟨m, hm⟩ : ∃ m, (L.take k).flatten.length = m := ⟨_, rfl⟩
      obtain ⟨m2, hm2⟩ : ∃ m, L[k].length = m := ⟨_, rfl⟩
      rw [hm, hm2] at hle
      rw [hm]
      rw [hm2] at hcell
      have HM := Lib.hid hm; have HM2 := Lib.hid hm2
      clear hm hm2
      have hw : RowKit.wrap64 ((m : Int) + (m2 : Int)) = ((m + m2 : Nat) : Int) := by rw [IntWalk.wrap64_in _ (by omega)]; omega
      have hn : ¬ (((m + m2 : Nat) : Int) < 0) := by omega
      go_wp2
      go_roundw
      case rel =>
        refine ⟨k + 1, by omega, by go_num, ?_, by first | trivial | rfl⟩
        rw [yA L k hlt, List.length_append, HM.out, HM2.out, Int.natCast_add]
      case measure => simp [intOf]; omega
    · have hkl : k = L.length := by omega
      subst hkl
      rw [List.take_length]
      obtain ⟨m, hm⟩ : ∃ m, L.flatten.length = m := ⟨_, rfl⟩
      rw [hm]
      have hmb : m ≤ 140737488354000 := by have := HBD.out; omega
      have HM := Lib.hid hm
      clear hm
      go_wp2_with (go_at_call 169; refine (Yr m (by omega) _).mono ?_; rintro e w1 ⟨v1, rfl, hO1, hB1⟩
                   have HO1 := Lib.hid hO1; have HB1 := Lib.hid hB1
                   clear hO1 hB1)
      go_loopw [6, 8, 27] (fun b s i w2 => ∃ k : Nat, k ≤ L.length ∧ i = .int .i64 k ∧ gP w2 w.heap.size 5 b (L.take k).flatten ∧ Below w.heap.size w w2) (fun _ _ i _ => L.length - (intOf i).toNat)
      case atStart => exact ⟨0, Nat.zero_le _, rfl, HO1.out, HB1.out⟩
      case round =>
        obtain ⟨k, hk, rfl, hO, hB⟩ := hrel
        by_cases hlt : k < L.length
        · obtain ⟨b, off, rfl, a', l', c', hcell, hrow⟩ := HP.out k hlt _ hB
          have hrow2 := hrow.row.below hB
          have hle : (L.take k).flatten.length + L[k].length ≤ 140737488355328 := by
            have h1 := WW L (k + 1)
            rw [yA L k hlt, List.length_append] at h1
            have := HBD.out; omega
          have HO := Lib.hid hO; have HB := Lib.hid hB; have HW := Lib.hid hrow2; have HN := Lib.hid hrow.nil; have HLE := Lib.hid hle
          clear hO hB hrow hrow2 hle
          go_wp2_with (at_builtin
                       refine eO rfl (.tmp 31) (.tmp 32) 77 rfl w.heap.size 5 Tryz.underlying77 info8 _ (L.take k).flatten rfl HO.out _ _ _ L[k] rfl HW.out HN.out HLE.out HB.out.size ?_
                       intro v3 w3 hown3 hg3 hb3
                       have Ng := Lib.hid hown3; have HB3 := Lib.hid hb3
                       clear hown3 hg3 hb3)
          go_roundw
          case rel =>
            refine ⟨k + 1, by omega, by go_num, ?_, HB.out.trans HB3.out⟩
            rw [yA L k hlt]; exact Ng.out
          case measure => simp [intOf]; omega
        · rw [List.take_of_length_le (by omega)] at hO
          have HO := Lib.hid hO; have HB := Lib.hid hB
          clear hO hB
          go_wp2
          go_ret
          exact ⟨_, rfl, HO.out, HB.out⟩
end
section
open Pm
attribute [local irreducible] aV aZ bQ bW aN wV sj
theorem CP:∀args K,sw args K→∃r,aQ 96 args r∧K r:=by
 intro args K hd
 unfold sw at hd
 split at hd
 ·next x=>
  obtain⟨L,⟨hb,hK⟩,hL⟩:=sV hd
  refine⟨_,yK (f:=96) (args:=[x]) (bs:=L.flatten) fun S w vs ha=>?_,hK⟩
  obtain⟨v,rfl,h1⟩:=iL ha
  obtain⟨a,n,c,rfl,h2,h3,h4⟩:=hL h1
  refine NC a n c L w ⟨h2.len_eq,h2.small,?_⟩ (by omega)
  rcases h4 with h4|⟨b,off,h5,h6⟩
  ·exact .inl h4
  ·refine .inr ⟨b,off,h5,fun i hi=>?_⟩
   obtain⟨a',l',c',e1,e2,e3⟩:=h6 i hi
   exact⟨a',l',c',e1,⟨e2,e3⟩⟩
 ·exact hd.elim
theorem J4(bs:List UInt8):(wV bs).length=8+bs.length:=by
 unfold wV;rw[List.length_append,iX];rfl
theorem CB(bx:Nat→List UInt8):∀k,(bxB bx k).length=Fe bx k
 |0=>rfl
 |k+1=>by
  show(bxB bx k++wV (bx k)).length=Fe bx k+(8+(bx k).length)
  rw[List.length_append,CB bx k,J4]
theorem iT{c:CS}(hc:qH c):(aU c).length=eD c:=by
 unfold aU kY lV eD
 simp only[List.length_append,iX,CB,hc.ops,hc.vs,List.length_cons,List.length_nil]
 omega
attribute [local irreducible] aU
end
end Go.Proofs.YtjdjelopkhjdnaaGreatDoor
