/-
  Commits as bytes: numbers, boxes.
-/
import Derived.Test.YtjhgelfnmhdihaaGreatDoorJ29
import Derived.Lib.AppendZeros
namespace Go.Proofs.YtjhgelfnmhdihaaGreatDoor
set_option linter.unusedVariables false
set_option linter.unusedSimpArgs false
set_option maxRecDepth 100000
open Go.RowKit
section
open Pm
attribute [local irreducible] aU aZ bR bZ aN
noncomputable def ba2:ay:=aC1.ai1 Fh aU3 aU2
def RX:List A→(bP→Prop)→Prop
 |[.row n [.ints .i64 m zs]],K=>m=n*5∧n≤1000000∧zs.length=n*5∧K (.o 5 1 (n*40) [.bytes (n*40) (aN zs)])
 |_,_=>False
theorem LQ{f:FuncId}(h:∀(zs:List Int) (n:Nat),zs.length=n*5→n≤1000000→aP f [.row n [.ints .i64 (n*5) zs]] (.o 5 1 (n*40) [.bytes (n*40) (aN zs)])):∀args K,RX args K→∃r,aP f args r∧K r:=by
 intro args K hd
 unfold RX at hd
 split at hd
 ·obtain⟨rfl,h1,h2,h3⟩:=hd
  exact⟨_,h _ _ h2 h1,h3⟩
 ·exact hd.elim
noncomputable def ba3:ay:=ba2.add 179 RX (LQ ZV) ⟨_,Tryz.func179,by kernel_rfl,by kernel_rfl⟩
noncomputable def aB7:ay:=ba3.add 93 RX (LQ Sk) ⟨_,Tryz.func93,by kernel_rfl,by kernel_rfl⟩
set_option maxHeartbeats 4000000 in
theorem ai2(zs:List Int)(hz:zs.length≤1000000):aP 178 [.row zs.length [.ints .i64 zs.length zs]] (.o 5 1 (zs.length*8) [.bytes (zs.length*8) (aN zs)]):=by
 refine dK (E:=aB7) Tryz.func178 Tryz.ntmps178 ?_
 refine aj ?_;(try exact⟨⟩)
 refine aM.mk (jw [3,6,7,8] [0] 3 5 1 [.bytes 0 []] zs.length (fun j=>⟨[.ah,.ah,.ah,.own 0 (j*8),.ah,.ah,.d (.row zs.length [.ints .i64 zs.length zs]),.d (.v (.int .i64 zs.length)),.d (.v (.int .i64 (j:Nat))),.ah,.ah,.ah,.ah,.ah,.ah,.ah,.ah,.ah],[some (.sl 5 1 (j*8) [.bytes (j*8) (aN (zs.take j))])]⟩) ?_ (h2:=by rw[List.take_zero,jy];exact rfl))
 intro j hj hl
 by_cases hjz:j<zs.length
 ·have h1:(j:Int)<(zs.length:Int):=by omega
  refine aj ?_;(try exact⟨⟩)
  refine hl.go hjz [3,6,7,8] [0] ?_
  rw[nD zs hjz,Nat.add_mul,Nat.one_mul]
  rfl
 ·obtain rfl:j=zs.length:=by omega
  have e:zs.take zs.length=zs:=List.take_length
  have h1:¬(zs.length:Int)<(zs.length:Int):=by omega
  rw[e]
  refine aj ?_;(try exact⟨⟩)
theorem VQ:∀args K,Gy args K→∃r,aP 178 args r∧K r:=by
 intro args K h
 unfold Gy at h
 split at h
 ·obtain⟨rfl,rfl,h1,h2⟩:=h
  exact⟨_,ai2 _ h1,h2⟩
 ·exact h.elim
noncomputable def aB8:ay:=aB7.add 178 Gy VQ ⟨_,Tryz.func178,by kernel_rfl,by kernel_rfl⟩
def wZ(bs:List UInt8):List UInt8:=aN [(bs.length:Int)]++bs
set_option maxHeartbeats 4000000 in
theorem az1(bs:List UInt8)(hb:bs.length≤1000000):aP 180 [.row bs.length [.bytes bs.length bs]] (.o 5 1 (8+bs.length) [.bytes (8+bs.length) (wZ bs)]):=by
 refine dK (E:=aB8) Tryz.func180 Tryz.ntmps180 ?_
 refine aj ?_;(try exact⟨⟩)
 rfl
def aJ6:List A→(bP→Prop)→Prop
 |[.row n [.bytes m bs]],K=>n=bs.length∧m=bs.length∧bs.length≤1000000∧K (.o 5 1 (8+bs.length) [.bytes (8+bs.length) (wZ bs)])
 |_,_=>False
theorem am1:∀args K,aJ6 args K→∃r,aP 180 args r∧K r:=by
 intro args K h
 unfold aJ6 at h
 split at h
 ·obtain⟨rfl,rfl,h1,h2⟩:=h
  exact⟨_,az1 _ h1,h2⟩
 ·exact h.elim
noncomputable def aB9:ay:=aB8.add 180 aJ6 am1 ⟨_,Tryz.func180,by kernel_rfl,by kernel_rfl⟩
structure CS where
 e:Int
 fr:Int
 n:Nat
 ops:List Int
 m:Nat
 vs:List Int
 sl:Int
 p0:Int
 p1:Int
 p2:Int
 k:Nat
 bx:Nat→List UInt8
 tag:List UInt8
 sE:Int
 sS:Int
def Im(bx:Nat→List UInt8)(j:Nat):List Seg:=[.gen 1 [.row (bx j).length [.bytes (bx j).length (bx j)]]]
def gZ(c:CS):List Seg:=[.ints .i64 2 [c.e,c.fr],.gen 2 [.row c.n [.ints .i64 (c.n*5) c.ops],.row c.m [.ints .i64 (c.m*3) c.vs]],.ints .i64 4 [c.sl,c.p0,c.p1,c.p2],.gen 1 [.recs c.k 1 (Im c.bx)],.bytes 32 c.tag,.ints .i64 2 [c.sE,c.sS]]
structure qL(c:CS):Prop where
 n:c.n≤3000
 m:c.m≤3000
 k:c.k≤3000
 ops:c.ops.length=c.n*5
 vs:c.vs.length=c.m*3
 bx:∀j,j<c.k→(c.bx j).length≤6000
def Fw(bx:Nat→List UInt8):Nat→Nat
 |0=>0
 |j+1=>Fw bx j+(8+(bx j).length)
def bxB(bx:Nat→List UInt8):Nat→List UInt8
 |0=>[]
 |j+1=>bxB bx j++wZ (bx j)
def l9(c:CS):List UInt8:=(aN [c.e,c.fr,(c.n:Int)]++aN c.ops)++aN [(c.m:Int)]
def lH(c:CS):List UInt8:=(l9 c++aN c.vs)++aN [c.sl,c.p0,c.p1,c.p2,(c.k:Int)]
def aT(c:CS):List UInt8:=lH c++bxB c.bx c.k
def eD(c:CS):Nat:=24+c.n*40+8+c.m*24+40+Fw c.bx c.k
theorem w9{bx:Nat→List UInt8}:∀{k:Nat},(∀j,j<k→(bx j).length≤6000)→Fw bx k≤k*6008
 |0,_=>Nat.zero_le _
 |k+1,h=>by
  have h1:=w9 (k:=k) fun j hj=>h j (by omega)
  have h2:=h k (by omega)
  show Fw bx k+(8+(bx k).length)≤_
  omega
theorem VG{o:List Int}(h:o.length=3):o=[o.getD 0 0,o.getD 1 0,o.getD 2 0]:=by
 rcases o with _|⟨a,_|⟨b,_|⟨c,_|⟨d,l⟩⟩⟩⟩<;>first|(simp at h;done)|rfl
theorem Bf(zs:List Int){i:Nat}(h:i+3≤zs.length):aN (zs.take (i+3))=aN (zs.take i)++aN [((zs.drop i).take 3).getD 0 0,((zs.drop i).take 3).getD 1 0,((zs.drop i).take 3).getD 2 0]:=by
 rw[←VG (o:=(zs.drop i).take 3) (by simp;omega),←oM,List.take_add]
attribute [local irreducible] wZ
set_option maxHeartbeats 8000000 in
theorem ah9(c:CS)(hc:qL c):aP 109 [.agg (gZ c)] (.o 5 1 (eD c) [.bytes (eD c) (aT c)]):=by
 refine dK (E:=aB9) Tryz.func109 Tryz.ntmps109 ?_
 obtain⟨h1,h2,h3,h4,h5,h6⟩:=hc
 refine aj ?_;(try exact⟨⟩)
 refine aM.mk (bV [1,3,30,31,32] [0,2] c.m (fun j=>⟨[.ah,.ptr 0 0,.ah,.own 1 (24+c.n*40+8+j*24),.ah,.ah,.ah,.ah,.ah,.ah,.ah,.ah,.ah,.ah,.ah,.ah,.ah,.ah,.ah,.ah,.ah,.ah,.ah,.ah,.ah,.ah,.ah,.ah,.ah,.ah,.d (.row c.m [.ints .i64 (c.m*3) c.vs]),.d (.v (.int .i64 c.m)),.d (.v (.int .i64 (j:Nat))),.ah,.ah,.ah,.ah,.ah,.ah,.ah,.ah,.ah,.ah,.ah,.ah,.ah,.ah,.ah,.ah,.ah,.ah,.ah,.ah,.ah,.ah,.ah,.ah,.ah,.ah,.ah,.ah,.ah,.ah,.ah,.ah,.ah,.ah,.ah,.ah,.ah,.ah,.ah,.ah,.ah,.ah,.ah,.ah,.ah,.ah,.ah],[some (.var (gZ c)),some (.sl 5 1 (24+c.n*40+8+j*24) [.bytes (24+c.n*40+8+j*24) (l9 c++aN (c.vs.take (j*3)))])]⟩) ?_ (h2:=by simp only[Nat.zero_mul,List.take_zero,jy,List.append_nil,Nat.add_zero];exact rfl))
 intro j hj hl
 by_cases hjm:j<c.m
 ·have g1:(j:Int)<(c.m:Int):=by omega
  refine aj ?_;(try exact⟨⟩)
  refine hl.go hjm [1,3,30,31,32] [0,1] ?_
  rw[show(j+1)*3=j*3+3 by omega,Bf c.vs (by omega),show(j+1)*24=j*24+24 by omega,←List.append_assoc,←Nat.add_assoc]
  rfl
 ·obtain rfl:j=c.m:=by omega
  have g1:¬(c.m:Int)<(c.m:Int):=by omega
  rw[show c.vs.take (c.m*3)=c.vs from List.take_of_length_le (by omega)]
  refine aj ?_;(try exact⟨⟩)
  refine aM.mk (bV [3,68,69,70] [0,1] c.k (fun j=>⟨[.ah,.ah,.ah,.own 1 (24+c.n*40+8+c.m*24+40+Fw c.bx j),.ah,.ah,.ah,.ah,.ah,.ah,.ah,.ah,.ah,.ah,.ah,.ah,.ah,.ah,.ah,.ah,.ah,.ah,.ah,.ah,.ah,.ah,.ah,.ah,.ah,.ah,.ah,.ah,.ah,.ah,.ah,.ah,.ah,.ah,.ah,.ah,.ah,.ah,.ah,.ah,.ah,.ah,.ah,.ah,.ah,.ah,.ah,.ah,.ah,.ah,.ah,.ah,.ah,.ah,.ah,.ah,.ah,.ah,.ah,.ah,.ah,.ah,.ah,.ah,.d (.recs c.k 1 (Im c.bx)),.d (.v (.int .i64 c.k)),.d (.v (.int .i64 (j:Nat))),.ah,.ah,.ah,.ah,.ah,.ah,.ah,.ah,.ah],[some (.var (gZ c)),some (.sl 5 1 (24+c.n*40+8+c.m*24+40+Fw c.bx j) [.bytes (24+c.n*40+8+c.m*24+40+Fw c.bx j) (lH c++bxB c.bx j)])]⟩) ?_ (h2:=by simp only[Fw,bxB,List.append_nil,Nat.add_zero];exact rfl))
  intro i hi hl2
  by_cases hik:i<c.k
  ·have g2:(i:Int)<(c.k:Int):=by omega
   have g3:=h6 i hik
   have g4:(c.bx i).length≤1000000:=by omega
   have g5:Fw c.bx i≤18030000:=by have:=w9 (bx:=c.bx) (k:=i) (fun j hj=>h6 j (by omega));omega
   refine aj ?_;(try exact⟨⟩)
   refine hl2.go hik [3,68,69,70] [0,1] ?_
   have e1:24+c.n*40+8+c.m*24+40+Fw c.bx (i+1)=24+c.n*40+8+c.m*24+40+Fw c.bx i+(8+(c.bx i).length):=(Nat.add_assoc _ _ _).symm
   have e2:lH c++bxB c.bx (i+1)=(lH c++bxB c.bx i)++wZ (c.bx i):=(List.append_assoc _ _ _).symm
   rw[e1,e2]
   rfl
  ·obtain rfl:i=c.k:=by omega
   have g2:¬(c.k:Int)<(c.k:Int):=by omega
   refine aj ?_;(try exact⟨⟩)
   rfl
end
section
open Pm
attribute [local go_sem] F5 aF9 aF8
theorem raised(r s:Int)(hr:0≤r∧r<1073741789)(hs:0≤s∧s<1073741789):aA (aA 4 r) s=aA (aA 4 s) r:=by
 obtain⟨m,rfl⟩:=Int.eq_ofNat_of_zero_le hr.1
 obtain⟨n,rfl⟩:=Int.eq_ofNat_of_zero_le hs.1
 have h1:aA 4 (m:Int)=(pw 4 m:Int):=jd 4 m (by decide) (by omega)
 have h2:aA 4 (n:Int)=(pw 4 n:Int):=jd 4 n (by decide) (by omega)
 rw[h1,h2,jd (pw 4 m) n (wO _ _) (by omega),jd (pw 4 n) m (wO _ _) (by omega),Ev,Ev,Nat.mul_comm]
theorem nO(s:Int)(hs:1≤s∧s<1073741789):cO (aA 4 s)=true:=by
 obtain⟨n,rfl⟩:=Int.eq_ofNat_of_zero_le (show 0≤s by omega)
 rw[show aA 4 (n:Int)=(pw 4 n:Int)from jd 4 n (by decide) (by omega)]
 exact yQ n (by omega) (by omega)
end
section
open Pm
def mK(s:List UInt8)(j:Nat):List UInt8:=aF s (sb ⟨#[115,116,114,101,97,109]⟩) (bD (j:Int))
def kU(s p:List UInt8):List UInt8:=p.mapIdx fun i c=>c^^^(mK s (i / 32)).getD (i%32) 0
theorem fJ(s p:List UInt8):(kU s p).length=p.length:=by simp[kU]
theorem zN(s p:List UInt8)(i:Nat)(h:i<p.length):(kU s p)[i]?=some (p[i]^^^(mK s (i / 32)).getD (i%32) 0):=by
 simp[kU,List.getElem?_mapIdx,List.getElem?_eq_getElem h]
theorem V9(s p:List UInt8):kU s (kU s p)=p:=by
 refine List.ext_getElem? fun i=>?_
 by_cases h:i<p.length
 ·have h2:i<(kU s p).length:=by rw[fJ];exact h
  rw[zN s (kU s p) i h2,List.getElem?_eq_getElem h]
  have h3:(kU s p)[i]=p[i]^^^(mK s (i / 32)).getD (i%32) 0:=by
   have h4:=zN s p i h
   rw[List.getElem?_eq_getElem h2]at h4
   exact Option.some.inj h4
  rw[h3,UInt8.xor_assoc,UInt8.xor_self,UInt8.xor_zero]
 ·rw[List.getElem?_eq_none (by rw[fJ,fJ];omega),List.getElem?_eq_none (by omega)]
def Bn(s p:List UInt8)(k:Nat):List UInt8:=(kU s p).take k++List.replicate (p.length-k) 0
theorem Po(s p:List UInt8):Bn s p 0=List.replicate p.length 0:=by simp[Bn]
theorem U0(s p:List UInt8):Bn s p p.length=kU s p:=by simp[Bn,List.take_of_length_le (Nat.le_of_eq (fJ s p))]
theorem U1(s p:List UInt8)(k:Nat)(h:k<p.length):(Bn s p k).set k (p[k]^^^(mK s (k / 32)).getD (k%32) 0)=Bn s p (k+1):=by
 refine List.ext_getElem? fun i=>?_
 have hl:(kU s p).length=p.length:=fJ s p
 rw[List.getElem?_set]
 unfold Bn
 by_cases hik:k=i
 ·subst hik
  rw[if_pos rfl,if_pos (by simp[hl];omega)]
  rw[List.getElem?_append_left (by simp[hl];omega),List.getElem?_take,if_pos (by omega),zN s p k h]
 ·rw[if_neg hik]
  by_cases h1:i<k
  ·rw[List.getElem?_append_left (by simp[hl];omega),List.getElem?_append_left (by simp[hl];omega),List.getElem?_take,List.getElem?_take,if_pos h1,if_pos (by omega)]
  ·rw[List.getElem?_append_right (by simp[hl];omega),List.getElem?_append_right (by simp[hl];omega)]
   have e1:(List.take k (kU s p)).length=k:=by simp[hl];omega
   have e2:(List.take (k+1) (kU s p)).length=k+1:=by simp[hl];omega
   rw[e1,e2,List.getElem?_replicate,List.getElem?_replicate]
   by_cases h2:i<p.length
   ·rw[if_pos (by omega),if_pos (by omega)]
   ·rw[if_neg (by omega),if_neg (by omega)]
theorem aH8(a b:UInt8):bits .xor .u8 (Bt a) (Bt b)=Bt (a^^^b):=by
 show IntKind.u8.wrap ((BitVec.ofInt 8 (a.toNat:Int)^^^BitVec.ofInt 8 (b.toNat:Int)).toNat:Int)=_
 rw[BitVec.ofInt_natCast,BitVec.ofInt_natCast]
 unfold Bt
 rw[UInt8.toNat_xor,BitVec.toNat_xor,BitVec.toNat_ofNat,BitVec.toNat_ofNat,IntKind.wrap_u8]
 have ha:=UInt8.toNat_lt a
 have hb:=UInt8.toNat_lt b
 rw[Nat.mod_eq_of_lt (by omega),Nat.mod_eq_of_lt (by omega)]
 have hx:a.toNat^^^b.toNat<2^8:=Nat.xor_lt_two_pow (by omega) (by omega)
 omega
def wG(s own body:List UInt8):List UInt8:=(aF s (sb ⟨#[116,97,103]⟩) (own++body)).take 8
theorem jD(s own body:List UInt8):(wG s own body).length=8:=by
 unfold wG
 rw[List.length_take,show(aF s (sb ⟨#[116,97,103]⟩) (own++body)).length=32 from bO _]
 rfl
end
section
open Pm
structure PS where
 e:Int
 zs:List Int
 ad:List Bool
 k:Int
 ch:List UInt8
 lf:Int
 sg:List UInt8
 sc:List UInt8
 ab:List UInt8
 ep:List UInt8
 jK:List UInt8
abbrev bN(p:PS):List Seg:=[.ints .i64 1 [p.e],.ints .i64 31 p.zs,.bools 8 p.ad,.ints .i64 1 [p.k],.bytes 32 p.ch,.ints .i64 1 [p.lf],.bytes 32 p.sg,.bytes 32 p.sc,.bytes 96 p.ab,.bytes 32 p.ep,.bytes 32 p.jK]
def jm(h:List UInt8):List UInt8:=aF h (sb ⟨#[115,105,103,110]⟩) []
def aC(h:List UInt8):List UInt8:=aF h (sb ⟨#[108,101,97,102]⟩) []
def Oy(h:List UInt8):List UInt8:=aF h (sb ⟨#[102,105,114,115,116]⟩) []
def zY(h:List UInt8):List UInt8:=aF h (sb ⟨#[105,110,105,116]⟩) []
def eB(h:List UInt8):List UInt8:=aF h (sb ⟨#[116,97,103]⟩) []
def mX(j h:List UInt8):List UInt8:=aF j (sb ⟨#[101,112,111,99,104]⟩) h
def lg(i u:List UInt8):List UInt8:=aF i (sb ⟨#[106,111,105,110,116]⟩) u
def uh(c b:List UInt8):List UInt8:=aF c (sb ⟨#[99,104,97,105,110]⟩) b
def gB(d:List UInt8)(n:Int):List UInt8:=aF d (sb ⟨#[98,111,120]⟩) (bZ n)
def iC(d:List UInt8)(n:Int):List UInt8:=aF d (sb ⟨#[104,101,108,108,111]⟩) (bZ n)
def Oh(e l:List UInt8):List UInt8:=aF e (sb ⟨#[101,120,112,111,114,116]⟩) l
theorem MJ(h:List UInt8):(jm h).length=32:=bO _
theorem nV(h:List UInt8):(aC h).length=32:=bO _
theorem Yx(h:List UInt8):(Oy h).length=32:=bO _
theorem Lb(h:List UInt8):(zY h).length=32:=bO _
theorem MP(h:List UInt8):(eB h).length=32:=bO _
theorem Yf(j h:List UInt8):(mX j h).length=32:=bO _
theorem Ld(j h:List UInt8):(lg j h).length=32:=bO _
theorem Xk(j h:List UInt8):(uh j h).length=32:=bO _
theorem EZ(e:Int)(zs:List Int)(ad:List Bool)(k:Int)(ch:List UInt8):(aR e zs ad k ch).length=32:=bO _
theorem wC(h:List UInt8):(fU h).length=96:=by simp[fU,dY]
def aI(h:List UInt8):Int:=aA 4 (au (av h))
def eT(seed:List UInt8):List Int:=[aA 4 (au (jm seed)),aI (aC seed)]
abbrev zB(n:Nat):List UInt8:=List.replicate n 0
def by0(seed:List UInt8):PS:=⟨0,List.replicate 31 0,F8,0,zB 32,0,jm seed,aC seed,zB 96,zB 32,zB 32⟩
def dG(p:PS)(ep:List UInt8):PS:={ p with ep:=ep,jK:=zY ep }
def bC(p:PS)(joint:List UInt8):PS:=dG p (mX joint (aR p.e p.zs p.ad p.k p.ch))
def aY(seed:List UInt8):PS:=dG ⟨0,eT seed++List.replicate 29 0,[true,false,false,false,false,false,false,false],1,zB 32,0,jm seed,aC seed,zB 96,zB 32,zB 32⟩ (Oy (aC seed))
def gN(p:PS)(draw:List UInt8):PS:={ p with sc:=aC draw,ab:=fU (aC draw) }
def vo(h:List UInt8):List UInt8:=ak (ak (ak (ak h)))
def dS(ab:List UInt8)(k:Nat):List UInt8:=(ab.drop (k*32)).take 32
def gu(zs:List Int)(fr sl a b c:Int):List Int:=
 (((zs.set (fr.toNat*2+1) sl).set (16+(fr / 2*4+1).toNat) a).set (16+(fr / 4*8+3).toNat) b).set 23 c
def uz(y x:Int)(p:List UInt8):List UInt8:=
 bD (aA 4 x)++wG (uq y x) (bD (aA 4 x)) (kU (uq y x) p)++kU (uq y x) p
def qX(y:Int)(p:List UInt8):Bool:=cO y&&decide (p.length≤200)
def bK(y x:Int)(p:List UInt8):List UInt8:=if qX y p then uz y x p else[]
def Sy(y:Int)(p:List UInt8):Int:=if qX y p then 0 else 1
def AP(zs:List Int)(up draw:List UInt8)(j:Nat)(x:Int×Int):List UInt8:=bK (bA zs x.2) (au (gB draw j)) (dS up x.1.toNat)
def qO(zs:List Int)(lf:Int)(ng:List Bool)(up draw:List UInt8)(j:Nat):List UInt8:=AP zs up draw j ((aQ zs lf ng).getD j (0,0))
def iL (p : PS) (s : Vw) (n : Nat) (ops : List Int) (m : Nat) (vs : List Int) (draw : List UInt8) : CS :=
  { e := p.e, fr := p.lf, n := n, ops := ops, m := m, vs := vs, sl := aI (aC draw), p0 := aI (ak (aC draw)), p1 := aI (ak (ak (aC draw))), p2 := aI (ak (ak (ak (aC draw)))),
    k := (aQ s.zs p.lf s.ng).length, bx := qO s.zs p.lf s.ng (fU (aC draw)) draw, tag := zB 32, sE := 0, sS := 0 }
def fK(p:PS)(s:Vw)(c:CS):PS:={ p with e:=p.e+1,zs:=gu s.zs c.fr c.sl c.p0 c.p1 c.p2,ad:=s.ad,k:=s.k,ch:=uh p.ch (aT c) }
def bT(p:PS)(draw:List UInt8):List UInt8:=lg p.jK (vo (aC draw))
def aH(p:PS)(s:Vw)(n:Nat)(ops:List Int)(m:Nat)(vs:List Int)(draw:List UInt8):PS:=
 bC (fK (gN p draw) s (iL p s n ops m vs draw)) (bT p draw)
def bH(p:PS)(s:Vw)(n:Nat)(ops:List Int)(m:Nat)(vs:List Int)(draw:List UInt8):CS:=
 let c:=iL p s n ops m vs draw
 let tg:=eB (aH p s n ops m vs draw).ep
 { c with tag:=tg,sE:=jo (au p.sg) (aT c++tg),sS:=jQ (au p.sg) (aT c++tg) }
def bW(p:PS)(n:Nat)(ops:List Int)(m:Nat)(vs:List Int):Int:=
 if bX p.e p.zs p.ad p.k p.ch p.lf ops n vs m≠0 then bX p.e p.zs p.ad p.k p.ch p.lf ops n vs m else
 if(cZ p.e ⟨p.zs,p.ad,p.k,F8,F8⟩ p.lf ops n).1≠0 then(cZ p.e ⟨p.zs,p.ad,p.k,F8,F8⟩ p.lf ops n).1 else if p.e≥1099511627776 then 12 else 0
def aO(lf node:Int):Int:=qc (lf / 2*4+1) (lf / 4*8+3) 7 node
def nK(q:PS)(ab joint draw:List UInt8)(j:Nat):List UInt8:=
 bK (q.zs.getD (j*2+1) 0) (au (iC draw j)) (joint++dS ab (aO q.lf (aD j q.lf)).toNat)
def jr(q:PS)(ab joint tag draw:List UInt8)(j:Nat):List Seg:=
 [.ints .i64 2 [(j:Int),q.lf],.ints .i64 1 [q.e],.ints .i64 31 q.zs,.bools 8 q.ad,.ints .i64 1 [q.k],.bytes 32 q.ch,.gen 1 [.row (nK q ab joint draw j).length [.bytes (nK q ab joint draw j).length (nK q ab joint draw j)]],.bytes 32 tag]
def gD(ng:List Bool):Nat→Nat
 |0=>0
 |j+1=>if ng.getD j false=true then gD ng j+1 else gD ng j
def jV(f:Nat→List Seg)(ng:List Bool):Nat→List Seg
 |0=>[]
 |j+1=>if ng.getD j false=true then jV f ng j++f j else jV f ng j
end
section
open Pm
attribute [local irreducible] aU aZ bR bZ aN wZ
theorem Dk(p:Nat→Bool):∀(n:Nat),∃N,N≤n∧(∀j,j<N→p j=false)∧(N=n∨(N<n∧p N=true))
 |0=>⟨0,Nat.le_refl _,fun j hj=>absurd hj (by omega),.inl rfl⟩
 |n+1=>by
  obtain⟨N,h1,h2,h3⟩:=Dk p n
  rcases h3 with rfl|⟨h3,h4⟩
  ·cases h:p N with
   |false=>
    exact⟨N+1,Nat.le_refl _,fun j hj=>by
     rcases Nat.lt_or_ge j N with h5|h5
     ·exact h2 j h5
     ·exact(show j=N by omega)▸h,.inl rfl⟩
   |true=>exact⟨N,by omega,h2,.inr ⟨by omega,h⟩⟩
  ·exact⟨N,by omega,h2,.inr ⟨by omega,h4⟩⟩
theorem II(p:Nat→Bool)(n:Nat):∃N,N≤n∧(∀j,j<N→p j=false)∧(N=n∧sw p n= -1∨N<n∧p N=true∧sw p n=(N:Int)):=by
 obtain⟨N,h1,h2,h3⟩:=Dk p n
 refine⟨N,h1,h2,?_⟩
 rcases h3 with rfl|⟨h3,h4⟩
 ·exact .inl ⟨rfl,vL h2⟩
 ·exact .inr ⟨h3,h4,IL h3 h4 h2⟩
attribute [local irreducible] sw
def atK(K:Nat)(zs:List Int)(j:Nat):List Int:=(zs.drop (j*K)).take K
end
section
open Pm
attribute [local irreducible] aU aZ bR bZ aN wZ sw
end
section
theorem yC(L:List (List UInt8))(k:Nat)(h:k<L.length):(L.take (k+1)).flatten=(L.take k).flatten++L[k]:=by
 rw[List.take_succ_eq_append_getElem h,List.flatten_append];simp
theorem Xh(L:List (List UInt8))(k:Nat):(L.take k).flatten.length≤L.flatten.length:=by
 have h:(L.take k++L.drop k).flatten.length=L.flatten.length:=by rw[List.take_append_drop]
 simp only[List.flatten_append,List.length_append]at h
 omega
theorem Fj(n:Nat):Builtin.zeroCells (Value.int .u8 0).cells n=HC (List.replicate n 0):=by
 refine Array.toList_inj.1 (List.ext_getElem? fun i=>?_)
 rw[vD]
 simp only[Builtin.zeroCells,HL,Value.cells,List.getElem?_map,List.getElem?_replicate]
 by_cases h:i<n
 ·simp[h,Bt,Nat.mod_one]
 ·simp[h]
theorem SX(a b:List UInt8):HC a++HC b=HC (a++b):=by simp[HC]
set_option maxHeartbeats 2000000 in
theorem YA(n:Nat)(hn:n≤140737488354000)(w:World):
  Calls Tryz.prog 187 #[.slice none 0 0,.int .i64 n] w fun e w'=>∃v,e=.returned v∧gV w' w.heap.size 5 v []∧Below w.heap.size w w':=by
 by_cases h0:n=0
 ·subst h0
  go_enter Tryz.func187,Tryz.ntmps187
  go_wp2
  go_ret
  exact⟨_,rfl,World.ownsRow_nil _ _ _ _,Below.refl _ _⟩
 obtain⟨i0,hi,hz0,hz1,hz2⟩:=info_parts info8
 have hr:∀ty,(Builtin.append_ #[78,3] ty #[.slice none 0 0,.int .i64 n]).run Tryz.prog w=_:=fun ty=>
  Lib.run_append_nil_zeros w 78 3 ty 5 i0 (.int .u8 0) .i64 .i64 Tryz.underlying78 Tryz.underlying3 hi hz0 n (by omega) (by omega) (by omega) (by rw[hz2];omega)
 have hG1:=grownCap_ge w n 0 5
 have hG2:=grownCap_le_maxLen w n 0 5 (by unfold maxLen;omega)
 obtain⟨G,hG⟩:∃G,G=grownCap w n 0 5:=⟨_,rfl⟩
 rw[←hG]at hr hG1 hG2
 have hG0:List.replicate n (0:UInt8)++List.replicate (G-n) 0=List.replicate G 0:=by rw[List.replicate_append_replicate];congr 1;omega
 rw[Fj,Fj,SX,hG0]at hr
 clear hG
 have hG63:G≤9223372036854775807:=by unfold maxLen at hG2;omega
 have h4:(n:Int)>0:=by omega
 have H1:=Lib.hid hG1;have H2:=Lib.hid hG2
 clear hG2
 go_enter Tryz.func187,Tryz.ntmps187
 go_wp2_with (at_builtin;refine Lib.wpList_append_run _ rfl _ _ _ _ rfl _ _ rfl rfl _ _ (hr _) ?_)
 go_ret
 refine⟨_,rfl,⟨rfl,.inr ⟨w.heap.size,G,HC (List.replicate G 0),rfl,Nat.le_refl _,?_,Nat.zero_le _,H2.out,?_,?_⟩⟩,((Below.refl _ _).next (Nat.le_refl _) _).drew⟩
 ·exact heap_alloc_new w _
 ·rw[eO];simp
 ·simp[HL]
set_option maxRecDepth 100000 in
set_option maxHeartbeats 2000000 in
theorem NU (a : Option Addr) (len cap : Nat) (L : List (List UInt8)) (w : World) (hp : zQ w a len L) (hbound : L.flatten.length ≤ 140737488354000) :
    Calls Tryz.prog 121 #[.slice a len cap] w fun e w' => ∃ v, e = .returned v ∧ gV w' w.heap.size 5 v L.flatten ∧ Below w.heap.size w w' := by
  have hlen := hp.len_eq
  have hsm := hp.small
  unfold maxLen at hsm
  subst hlen
  have hcells : ∀ (k : Nat) (hlt : k < L.length) (wr : World), Below w.heap.size w wr → ∃ b off, a = some ⟨b, off, none⟩ ∧ ∃ a' l' c', wr.cell? ⟨b, off + k, none⟩ = some (.slice a' l' c') ∧ BF w a' l' c' L[k] := by
    intro k hlt wr hB
    rcases hp.cells with h1 | ⟨b, off, rfl, hc⟩
    · simp [h1] at hlt
    · obtain ⟨a', l', c', h2, h3⟩ := hc k hlt
      exact ⟨b, off, rfl, a', l', c', (hB.cell (block_lt_of_cell h2)).trans h2, h3⟩
  have HP := Lib.hid hcells; have HBD := Lib.hid hbound
  clear hp hbound hcells
  go_enter Tryz.func121, Tryz.ntmps121
  go_wp2
  go_loopw [3, 5, 11] (fun z s i wr => ∃ k : Nat, k ≤ L.length ∧ i = .int .i64 k ∧ z = .int .i64 ((L.take k).flatten.length : Nat) ∧ w = wr) (fun _ _ i _ => L.length - (intOf i).toNat)
  case atStart => exact ⟨0, Nat.zero_le _, rfl, rfl, rfl⟩
  case round =>
    obtain ⟨k, hk, rfl, rfl, rfl⟩ := hrel
    by_cases hlt : k < L.length
    · obtain ⟨b, off, rfl, a', l', c', hcell, hrow⟩ := HP.out k hlt w (Below.refl _ _)
      have hl' := hrow.row.len_eq
      subst hl'
      have hle : (L.take k).flatten.length + L[k].length ≤ 140737488354000 := by
        have h1 := Xh L (k + 1)
        rw [yC L k hlt, List.length_append] at h1
        have := HBD.out; omega
      clear hrow
      obtain ⟨m, hm⟩ : ∃ m, (L.take k).flatten.length = m := ⟨_, rfl⟩
      obtain ⟨m2, hm2⟩ : ∃ m, L[k].length = m := ⟨_, rfl⟩
      rw [hm, hm2] at hle
      rw [hm]
      rw [hm2] at hcell
      have HM := Lib.hid hm; have HM2 := Lib.hid hm2
      clear hm hm2
      have hw : RowKit.wrap64 ((m : Int) + (m2 : Int)) = ((m + m2 : Nat) : Int) := by rw [IntWalk.wrap64_in _ (by omega)]; omega
      have hn : ¬ (((m + m2 : Nat) : Int) < 0) := by omega
      go_wp2
      go_roundw
      case rel =>
        refine ⟨k + 1, by omega, by go_num, ?_, by first | trivial | rfl⟩
        rw [yC L k hlt, List.length_append, HM.out, HM2.out, Int.natCast_add]
      case measure => simp [intOf]; omega
    · have hkl : k = L.length := by omega
      subst hkl
      rw [List.take_length]
      obtain ⟨m, hm⟩ : ∃ m, L.flatten.length = m := ⟨_, rfl⟩
      rw [hm]
      have hmb : m ≤ 140737488354000 := by have := HBD.out; omega
      have HM := Lib.hid hm
      clear hm
      go_wp2_with (go_at_call 187; refine (YA m (by omega) _).mono ?_; rintro e w1 ⟨v1, rfl, hO1, hB1⟩
                   have HO1 := Lib.hid hO1; have HB1 := Lib.hid hB1
                   clear hO1 hB1)
      go_loopw [6, 8, 27] (fun b s i w2 => ∃ k : Nat, k ≤ L.length ∧ i = .int .i64 k ∧ gV w2 w.heap.size 5 b (L.take k).flatten ∧ Below w.heap.size w w2) (fun _ _ i _ => L.length - (intOf i).toNat)
      case atStart => exact ⟨0, Nat.zero_le _, rfl, HO1.out, HB1.out⟩
      case round =>
        obtain ⟨k, hk, rfl, hO, hB⟩ := hrel
        by_cases hlt : k < L.length
        · obtain ⟨b, off, rfl, a', l', c', hcell, hrow⟩ := HP.out k hlt _ hB
          have hrow2 := hrow.row.below hB
          have hle : (L.take k).flatten.length + L[k].length ≤ 140737488355328 := by
            have h1 := Xh L (k + 1)
            rw [yC L k hlt, List.length_append] at h1
            have := HBD.out; omega
          have HO := Lib.hid hO; have HB := Lib.hid hB; have HW := Lib.hid hrow2; have HN := Lib.hid hrow.nil; have HLE := Lib.hid hle
          clear hO hB hrow hrow2 hle
          go_wp2_with (at_builtin
                       refine eZ rfl (.tmp 31) (.tmp 32) 78 rfl w.heap.size 5 Tryz.underlying78 info8 _ (L.take k).flatten rfl HO.out _ _ _ L[k] rfl HW.out HN.out HLE.out HB.out.size ?_
                       intro v3 w3 hown3 hg3 hb3
                       have Nu := Lib.hid hown3; have HB3 := Lib.hid hb3
                       clear hown3 hg3 hb3)
          go_roundw
          case rel =>
            refine ⟨k + 1, by omega, by go_num, ?_, HB.out.trans HB3.out⟩
            rw [yC L k hlt]; exact Nu.out
          case measure => simp [intOf]; omega
        · rw [List.take_of_length_le (by omega)] at hO
          have HO := Lib.hid hO; have HB := Lib.hid hB
          clear hO hB
          go_wp2
          go_ret
          exact ⟨_, rfl, HO.out, HB.out⟩
end
section
open Pm
attribute [local irreducible] aU aZ bR bZ aN wZ sw
theorem CZ:∀args K,sD args K→∃r,aP 121 args r∧K r:=by
 intro args K hd
 unfold sD at hd
 split at hd
 ·next x=>
  obtain⟨L,⟨hb,hK⟩,hL⟩:=tq hd
  refine⟨_,yN (f:=121) (args:=[x]) (bs:=L.flatten) fun S w vs ha=>?_,hK⟩
  obtain⟨v,rfl,h1⟩:=iP ha
  obtain⟨a,n,c,rfl,h2,h3,h4⟩:=hL h1
  refine NU a n c L w ⟨h2.len_eq,h2.small,?_⟩ (by omega)
  rcases h4 with h4|⟨b,off,h5,h6⟩
  ·exact .inl h4
  ·refine .inr ⟨b,off,h5,fun i hi=>?_⟩
   obtain⟨a',l',c',e1,e2,e3⟩:=h6 i hi
   exact⟨a',l',c',e1,⟨e2,e3⟩⟩
 ·exact hd.elim
theorem Km(bs:List UInt8):(wZ bs).length=8+bs.length:=by
 unfold wZ;rw[List.length_append,jc];rfl
theorem CV(bx:Nat→List UInt8):∀k,(bxB bx k).length=Fw bx k
 |0=>rfl
 |k+1=>by
  show(bxB bx k++wZ (bx k)).length=Fw bx k+(8+(bx k).length)
  rw[List.length_append,CV bx k,Km]
theorem iX{c:CS}(hc:qL c):(aT c).length=eD c:=by
 unfold aT lH l9 eD
 simp only[List.length_append,jc,CV,hc.ops,hc.vs,List.length_cons,List.length_nil]
 omega
attribute [local irreducible] aT
end
end Go.Proofs.YtjhgelfnmhdihaaGreatDoor
