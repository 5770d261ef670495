/- -/
import Derived.Test.YtegalalmamofdaaGreatDoorJ29
import Derived.Lib.AppendZeros
namespace Go.Proofs.YtegalalmamofdaaGreatDoor
set_option linter.all false
set_option maxRecDepth 100000
open Go.RowKit
set_option maxHeartbeats 8000000
noncomputable section
open Pm
attribute [local irreducible] aN aQ bq aC aF
def bQ7:ak:=bS2.KR D6 bd8 bd7
def ax8:List A->(bC->Prop)->Prop
 |[.row n [.ints .i64 m zs]],K=>m=n*5/\n<=1000000/\zs.length=n*5/\K (.o 5 1 (n*40) [.bytes (n*40) (aF zs)])
 |_,_=>False
theorem ax9{f:FuncId}(h:∀(zs:List Int) (n:Nat),zs.length=n*5->n<=1000000->aV f [.row n [.ints .i64 (n*5) zs]] (.o 5 1 (n*40) [.bytes (n*40) (aF zs)])):∀args K,ax8 args K->∃r,aV f args r/\K r:=by
 intro args K hd
 unfold ax8 at hd
 split at hd
 ·obtain⟨rfl,h1,h2,h3⟩:=hd
  exact⟨_,h _ _ h2 h1,h3⟩
 ·exact hd.elim
def bQ8:ak:=bQ7.add 80 ax8 (ax9 ay1) (.of Tryz.func80)
def bf9:ak:=bQ8
theorem aI5(zs:List Int)(hz:zs.length<=1000000):aV 134 [.row zs.length [.ints .i64 zs.length zs]] (.o 5 1 (zs.length*8) [.bytes (zs.length*8) (aF zs)]):=by
 refine eO (E:=bf9) Tryz.func134 Tryz.ntmps134 ?_
 refine ah ?_
 refine aX.mk (qp [3,6,7,8] [0] 3 5 1 [.bytes 0 []] zs.length (fun j=>⟨.au::.au::.au::.own 0 (j*8)::.au::.au::.d (.row zs.length [.ints .i64 zs.length zs])::.d (.v (.int .i64 zs.length))::.d (.v (.int .i64 (j:Nat)))::dz 9 [],[some (.sl 5 1 (j*8) [.bytes (j*8) (aF (zs.take j))])]⟩) ?_ (h2:=by rw[List.take_zero,jL];exact rfl))
 intro j hj hl
 by_cases hjz:j<zs.length
 ·have h1:(j:Int)<(zs.length:Int):=by omega
  refine ah ?_
  refine hl.go hjz [3,6,7,8] [0] ?_
  rw[uP zs hjz,Nat.add_mul,Nat.one_mul]
  rfl
 ·obtain rfl:j=zs.length:=by omega
  have e:zs.take zs.length=zs:=List.take_length
  have h1:¬(zs.length:Int)<(zs.length:Int):=by omega
  rw[e]
  refine ah ?_;(try exact⟨⟩)
theorem ZF:∀args K,av4 args K->∃r,aV 134 args r/\K r:=by
 intro args K h
 unfold av4 at h
 split at h
 ·obtain⟨rfl,rfl,h1,h2⟩:=h
  exact⟨_,aI5 _ h1,h2⟩
 ·exact h.elim
def bg0:ak:=bf9.add 134 av4 ZF (.of Tryz.func134)
def pU(bs:List UInt8):List UInt8:=aF [(bs.length:Int)]++bs
theorem bc6(bs:List UInt8)(hb:bs.length<=1000000):aV 137 [.row bs.length [.bytes bs.length bs]] (.o 5 1 (8+bs.length) [.bytes (8+bs.length) (pU bs)]):=by
 refine eO (E:=bg0) Tryz.func137 Tryz.ntmps137 ?_
 refine ah ?_;(try exact⟨⟩)
 rfl
def bq7:List A->(bC->Prop)->Prop
 |[.row n [.bytes m bs]],K=>n=bs.length/\m=bs.length/\bs.length<=1000000/\K (.o 5 1 (8+bs.length) [.bytes (8+bs.length) (pU bs)])
 |_,_=>False
theorem aL7:∀args K,bq7 args K->∃r,aV 137 args r/\K r:=by
 intro args K h
 unfold bq7 at h
 split at h
 ·obtain⟨rfl,rfl,h1,h2⟩:=h
  exact⟨_,bc6 _ h1,h2⟩
 ·exact h.elim
def ah2:ak:=bg0.add 137 bq7 aL7 (.of Tryz.func137)
structure CS where
 e:Int
 fr:Int
 n:Nat
 ops:List Int
 m:Nat
 vs:List Int
 sl:Int
 p0:Int
 p1:Int
 p2:Int
 k:Nat
 bx:Nat->List UInt8
 tag:List UInt8
 sE:Int
 sS:Int
def E5(bx:Nat->List UInt8)(j:Nat):List Seg:=[.gen 1 [.row (bx j).length [.bytes (bx j).length (bx j)]]]
def kR(c:CS):List Seg:=[.ints .i64 2 [c.e,c.fr],.gen 2 [.row c.n [.ints .i64 (c.n*5) c.ops],.row c.m [.ints .i64 (c.m*3) c.vs]],.ints .i64 4 [c.sl,c.p0,c.p1,c.p2],.gen 1 [.recs c.k 1 (E5 c.bx)],.bytes 32 c.tag,.ints .i64 2 [c.sE,c.sS]]
structure lS(c:CS):Prop where
 n:c.n<=3000
 m:c.m<=3000
 k:c.k<=3000
 ops:c.ops.length=c.n*5
 vs:c.vs.length=c.m*3
 bx:∀j,j<c.k->(c.bx j).length<=6000
def Xw(bx:Nat->List UInt8):Nat->Nat
 |0=>0
 |j+1=>Xw bx j+(8+(bx j).length)
def bxB(bx:Nat->List UInt8):Nat->List UInt8
 |0=>[]
 |j+1=>bxB bx j++pU (bx j)
def qC(c:CS):List UInt8:=(aF [c.e,c.fr,(c.n:Int)]++aF c.ops)++aF [(c.m:Int)]
def pR(c:CS):List UInt8:=(qC c++aF c.vs)++aF [c.sl,c.p0,c.p1,c.p2,(c.k:Int)]
def bn(c:CS):List UInt8:=pR c++bxB c.bx c.k
def jr(c:CS):Nat:=24+c.n*40+8+c.m*24+40+Xw c.bx c.k
theorem BQ{bx:Nat->List UInt8}:∀{k:Nat},(∀j,j<k->(bx j).length<=6000)->Xw bx k<=k*6008
 |0,_=>Nat.zero_le _
 |k+1,h=>by
  have h1:=BQ (k:=k) fun j hj=>h j (by omega)
  have h2:=h k (by omega)
  show Xw bx k+(8+(bx k).length)<=_
  omega
theorem Zm{o:List Int}(h:o.length=3):o=[o.getD 0 0,o.getD 1 0,o.getD 2 0]:=by
 rcases o with _|⟨a,_|⟨b,_|⟨c,_|⟨d,l⟩⟩⟩⟩<;>first|(simp at h;done)|rfl
theorem O4(zs:List Int){i:Nat}(h:i+3<=zs.length):aF (zs.take (i+3))=aF (zs.take i)++aF [((zs.drop i).take 3).getD 0 0,((zs.drop i).take 3).getD 1 0,((zs.drop i).take 3).getD 2 0]:=by
 rw[<-Zm (o:=(zs.drop i).take 3) (by simp;omega),<-mW,List.take_add]
attribute [local irreducible] pU
theorem Qx(c:CS)(hc:lS c):aV 128 [.agg (kR c)] (.o 5 1 (jr c) [.bytes (jr c) (bn c)]):=by
 refine eO (E:=ah2) Tryz.func128 Tryz.ntmps128 ?_
 obtain⟨h1,h2,h3,h4,h5,h6⟩:=hc
 refine ah ?_
 refine aX.mk (cB [1,3,30,31,32] [0,2] c.m (fun j=>⟨.au::.ptr 0 0::.au::.own 1 (24+c.n*40+8+j*24)::dz 26 (.d (.row c.m [.ints .i64 (c.m*3) c.vs])::.d (.v (.int .i64 c.m))::.d (.v (.int .i64 (j:Nat)))::dz 47 []),[some (.var (kR c)),some (.sl 5 1 (24+c.n*40+8+j*24) [.bytes (24+c.n*40+8+j*24) (qC c++aF (c.vs.take (j*3)))])]⟩) ?_ (h2:=by simp only[Nat.zero_mul,List.take_zero,jL,List.append_nil,Nat.add_zero];exact rfl))
 intro j hj hl
 by_cases hjm:j<c.m
 ·have g1:(j:Int)<(c.m:Int):=by omega
  refine ah ?_
  refine hl.go hjm [1,3,30,31,32] [0,1] ?_
  rw[show(j+1)*3=j*3+3 by omega,O4 c.vs (by omega),show(j+1)*24=j*24+24 by omega,<-List.append_assoc,<-Nat.add_assoc]
  rfl
 ·obtain rfl:j=c.m:=by omega
  have g1:¬(c.m:Int)<(c.m:Int):=by omega
  rw[show c.vs.take (c.m*3)=c.vs from List.take_of_length_le (by omega)]
  refine ah ?_
  refine aX.mk (cB [3,68,69,70] [0,1] c.k (fun j=>⟨.au::.au::.au::.own 1 (24+c.n*40+8+c.m*24+40+Xw c.bx j)::dz 64 (.d (.recs c.k 1 (E5 c.bx))::.d (.v (.int .i64 c.k))::.d (.v (.int .i64 (j:Nat)))::dz 9 []),[some (.var (kR c)),some (.sl 5 1 (24+c.n*40+8+c.m*24+40+Xw c.bx j) [.bytes (24+c.n*40+8+c.m*24+40+Xw c.bx j) (pR c++bxB c.bx j)])]⟩) ?_ (h2:=by simp only[Xw,bxB,List.append_nil,Nat.add_zero];exact rfl))
  intro i hi hl2
  by_cases hik:i<c.k
  ·have g2:(i:Int)<(c.k:Int):=by omega
   have g3:=h6 i hik
   have g4:(c.bx i).length<=1000000:=by omega
   have g5:Xw c.bx i<=18030000:=by have:=BQ (bx:=c.bx) (k:=i) (fun j hj=>h6 j (by omega));omega
   refine ah ?_
   refine hl2.go hik [3,68,69,70] [0,1] ?_
   have e1:24+c.n*40+8+c.m*24+40+Xw c.bx (i+1)=24+c.n*40+8+c.m*24+40+Xw c.bx i+(8+(c.bx i).length):=(Nat.add_assoc _ _ _).symm
   have e2:pR c++bxB c.bx (i+1)=(pR c++bxB c.bx i)++pU (c.bx i):=(List.append_assoc _ _ _).symm
   rw[e1,e2]
   rfl
  ·obtain rfl:i=c.k:=by omega
   have g2:¬(c.k:Int)<(c.k:Int):=by omega
   refine ah ?_;(try exact⟨⟩)
   rfl
end
section
open Pm
attribute [local go_sem] xP bm0 bl9
theorem raised(r s:Int)(hr:0<=r/\r<1073741789)(hs:0<=s/\s<1073741789):aJ (aJ 4 r) s=aJ (aJ 4 s) r:=by
 obtain⟨m,rfl⟩:=Int.eq_ofNat_of_zero_le hr.1
 obtain⟨n,rfl⟩:=Int.eq_ofNat_of_zero_le hs.1
 have h1:aJ 4 (m:Int)=(pw 4 m:Int):=iN 4 m (by decide) (by omega)
 have h2:aJ 4 (n:Int)=(pw 4 n:Int):=iN 4 n (by decide) (by omega)
 rw[h1,h2,iN (pw 4 m) n (yR _ _) (by omega),iN (pw 4 n) m (yR _ _) (by omega),GD,GD,Nat.mul_comm]
theorem pY(s:Int)(hs:1<=s/\s<1073741789):dL (aJ 4 s)=true:=by
 obtain⟨n,rfl⟩:=Int.eq_ofNat_of_zero_le (show 0<=s by omega)
 rw[show aJ 4 (n:Int)=(pw 4 n:Int)from iN 4 n (by decide) (by omega)]
 exact AJ n (by omega) (by omega)
end
section
open Pm
def qh(s:List UInt8)(j:Nat):List UInt8:=aD s (sb ⟨#[115,116,114,101,97,109]⟩) (bP (j:Int))
def oV(s p:List UInt8):List UInt8:=p.mapIdx fun i c=>c^^^(qh s (i / 32)).getD (i%32) 0
theorem iP(s p:List UInt8):(oV s p).length=p.length:=by simp[oV]
theorem Iz(s p:List UInt8)(i:Nat)(h:i<p.length):(oV s p)[i]?=some (p[i]^^^(qh s (i / 32)).getD (i%32) 0):=by
 simp[oV,List.getElem?_mapIdx,List.getElem?_eq_getElem h]
theorem ZM(s p:List UInt8):oV s (oV s p)=p:=by
 refine List.ext_getElem? fun i=>?_
 by_cases h:i<p.length
 ·have h2:i<(oV s p).length:=by rw[iP];exact h
  rw[Iz s (oV s p) i h2,List.getElem?_eq_getElem h]
  have h3:(oV s p)[i]=p[i]^^^(qh s (i / 32)).getD (i%32) 0:=by
   have h4:=Iz s p i h
   rw[List.getElem?_eq_getElem h2]at h4
   exact Option.some.inj h4
  rw[h3,UInt8.xor_assoc,UInt8.xor_self,UInt8.xor_zero]
 ·rw[List.getElem?_eq_none (by rw[iP,iP];omega),List.getElem?_eq_none (by omega)]
def Dy(s p:List UInt8)(k:Nat):List UInt8:=(oV s p).take k++List.replicate (p.length-k) 0
theorem TD(s p:List UInt8):Dy s p 0=List.replicate p.length 0:=by simp[Dy]
theorem YO(s p:List UInt8):Dy s p p.length=oV s p:=by simp[Dy,List.take_of_length_le (Nat.le_of_eq (iP s p))]
theorem YP(s p:List UInt8)(k:Nat)(h:k<p.length):(Dy s p k).set k (p[k]^^^(qh s (k / 32)).getD (k%32) 0)=Dy s p (k+1):=by
 refine List.ext_getElem? fun i=>?_
 have hl:(oV s p).length=p.length:=iP s p
 rw[List.getElem?_set]
 unfold Dy
 by_cases hik:k=i
 ·subst hik
  rw[if_pos rfl,if_pos (by simp[hl];omega)]
  rw[List.getElem?_append_left (by simp[hl];omega),List.getElem?_take,if_pos (by omega),Iz s p k h]
 ·rw[if_neg hik]
  by_cases h1:i<k
  ·rw[List.getElem?_append_left (by simp[hl];omega),List.getElem?_append_left (by simp[hl];omega),List.getElem?_take,List.getElem?_take,if_pos h1,if_pos (by omega)]
  ·rw[List.getElem?_append_right (by simp[hl];omega),List.getElem?_append_right (by simp[hl];omega)]
   have e1:(List.take k (oV s p)).length=k:=by simp[hl];omega
   have e2:(List.take (k+1) (oV s p)).length=k+1:=by simp[hl];omega
   rw[e1,e2,List.getElem?_replicate,List.getElem?_replicate]
   by_cases h2:i<p.length
   ·rw[if_pos (by omega),if_pos (by omega)]
   ·rw[if_neg (by omega),if_neg (by omega)]
theorem bn3(a b:UInt8):bits .xor .u8 (Bt a) (Bt b)=Bt (a^^^b):=by
 show IntKind.u8.wrap ((BitVec.ofInt 8 (a.toNat:Int)^^^BitVec.ofInt 8 (b.toNat:Int)).toNat:Int)=_
 rw[BitVec.ofInt_natCast,BitVec.ofInt_natCast]
 unfold Bt
 rw[UInt8.toNat_xor,BitVec.toNat_xor,BitVec.toNat_ofNat,BitVec.toNat_ofNat,IntKind.wrap_u8]
 have ha:=UInt8.toNat_lt a
 have hb:=UInt8.toNat_lt b
 rw[Nat.mod_eq_of_lt (by omega),Nat.mod_eq_of_lt (by omega)]
 have hx:a.toNat^^^b.toNat<2^8:=Nat.xor_lt_two_pow (by omega) (by omega)
 omega
def Hz(s own body:List UInt8):List UInt8:=(aD s (sb ⟨#[116,97,103]⟩) (own++body)).take 8
theorem oU(s own body:List UInt8):(Hz s own body).length=8:=by
 unfold Hz
 rw[List.length_take,show(aD s (sb ⟨#[116,97,103]⟩) (own++body)).length=32 from bG _]
 rfl
end
section
open Pm
structure PS where
 e:Int
 zs:List Int
 ad:List Bool
 k:Int
 ch:List UInt8
 lf:Int
 sg:List UInt8
 sc:List UInt8
 ab:List UInt8
 ep:List UInt8
 sD:List UInt8
abbrev aP(p:PS):List Seg:=[.ints .i64 1 [p.e],.ints .i64 31 p.zs,.bools 8 p.ad,.ints .i64 1 [p.k],.bytes 32 p.ch,.ints .i64 1 [p.lf],.bytes 32 p.sg,.bytes 32 p.sc,.bytes 96 p.ab,.bytes 32 p.ep,.bytes 32 p.sD]
def kQ(h:List UInt8):List UInt8:=aD h (sb ⟨#[115,105,103,110]⟩) []
def aK(h:List UInt8):List UInt8:=aD h (sb ⟨#[108,101,97,102]⟩) []
def am5(h:List UInt8):List UInt8:=aD h (sb ⟨#[102,105,114,115,116]⟩) []
def Oy(h:List UInt8):List UInt8:=aD h (sb ⟨#[105,110,105,116]⟩) []
def eB(h:List UInt8):List UInt8:=aD h (sb ⟨#[116,97,103]⟩) []
def RY(j h:List UInt8):List UInt8:=aD j (sb ⟨#[101,112,111,99,104]⟩) h
def FU(i u:List UInt8):List UInt8:=aD i (sb ⟨#[106,111,105,110,116]⟩) u
def ad3(c b:List UInt8):List UInt8:=aD c (sb ⟨#[99,104,97,105,110]⟩) b
def jm(d:List UInt8)(n:Int):List UInt8:=aD d (sb ⟨#[98,111,120]⟩) (aC n)
def jO(d:List UInt8)(n:Int):List UInt8:=aD d (sb ⟨#[104,101,108,108,111]⟩) (aC n)
def aO4(e l:List UInt8):List UInt8:=aD e (sb ⟨#[101,120,112,111,114,116]⟩) l
theorem Qa(h:List UInt8):(kQ h).length=32:=bG _
theorem FX(h:List UInt8):(aK h).length=32:=bG _
theorem am6(h:List UInt8):(am5 h).length=32:=bG _
theorem Oz(h:List UInt8):(Oy h).length=32:=bG _
theorem Bp(h:List UInt8):(eB h).length=32:=bG _
theorem aj6(j h:List UInt8):(RY j h).length=32:=bG _
theorem aq5(j h:List UInt8):(FU j h).length=32:=bG _
theorem ad4(j h:List UInt8):(ad3 j h).length=32:=bG _
theorem Uw(e:Int)(zs:List Int)(ad:List Bool)(k:Int)(ch:List UInt8):(bR e zs ad k ch).length=32:=bG _
theorem Bv(h:List UInt8):(jF h).length=96:=by simp[jF,fD]
def aS(h:List UInt8):Int:=aJ 4 (aI (aY h))
def pK(seed:List UInt8):List Int:=[aJ 4 (aI (kQ seed)),aS (aK seed)]
abbrev zB(n:Nat):List UInt8:=List.replicate n 0
def by0(seed:List UInt8):PS:=⟨0,List.replicate 31 0,F8,0,zB 32,0,kQ seed,aK seed,zB 96,zB 32,zB 32⟩
def fG(p:PS)(ep:List UInt8):PS:={ p with ep:=ep,sD:=Oy ep }
def eT(p:PS)(joint:List UInt8):PS:=fG p (RY joint (bR p.e p.zs p.ad p.k p.ch))
def bD(seed:List UInt8):PS:=fG ⟨0,pK seed++List.replicate 29 0,[true,false,false,false,false,false,false,false],1,zB 32,0,kQ seed,aK seed,zB 96,zB 32,zB 32⟩ (am5 (aK seed))
def qM(p:PS)(draw:List UInt8):PS:={ p with sc:=aK draw,ab:=jF (aK draw) }
def MQ(h:List UInt8):List UInt8:=aj (aj (aj (aj h)))
def jl(ab:List UInt8)(k:Nat):List UInt8:=(ab.drop (k*32)).take 32
def qY(zs:List Int)(fr sl a b c:Int):List Int:=
 (((zs.set (fr.toNat*2+1) sl).set (16+(fr / 2*4+1).toNat) a).set (16+(fr / 4*8+3).toNat) b).set 23 c
def zh(y x:Int)(p:List UInt8):List UInt8:=
 bP (aJ 4 x)++Hz (DR y x) (bP (aJ 4 x)) (oV (DR y x) p)++oV (DR y x) p
def vw(y:Int)(p:List UInt8):Bool:=dL y&&decide (p.length<=200)
def dH(y x:Int)(p:List UInt8):List UInt8:=if vw y p then zh y x p else[]
def WB(y:Int)(p:List UInt8):Int:=if vw y p then 0 else 1
def Di(zs:List Int)(up draw:List UInt8)(j:Nat)(x:Int×Int):List UInt8:=dH (eG zs x.2) (aI (jm draw j)) (jl up x.1.toNat)
def uw(zs:List Int)(lf:Int)(ng:List Bool)(up draw:List UInt8)(j:Nat):List UInt8:=Di zs up draw j ((bT zs lf ng).getD j (0,0))
def fJ (p : PS) (s : Vw) (n : Nat) (ops : List Int) (m : Nat) (vs : List Int) (draw : List UInt8) : CS :=
  { e := p.e, fr := p.lf, n := n, ops := ops, m := m, vs := vs, sl := aS (aK draw), p0 := aS (aj (aK draw)), p1 := aS (aj (aj (aK draw))), p2 := aS (aj (aj (aj (aK draw)))),
    k := (bT s.zs p.lf s.ng).length, bx := uw s.zs p.lf s.ng (jF (aK draw)) draw, tag := zB 32, sE := 0, sS := 0 }
def nu(p:PS)(s:Vw)(c:CS):PS:={ p with e:=p.e+1,zs:=qY s.zs c.fr c.sl c.p0 c.p1 c.p2,ad:=s.ad,k:=s.k,ch:=ad3 p.ch (bn c) }
def dB(p:PS)(draw:List UInt8):List UInt8:=FU p.sD (MQ (aK draw))
def aT(p:PS)(s:Vw)(n:Nat)(ops:List Int)(m:Nat)(vs:List Int)(draw:List UInt8):PS:=
 eT (nu (qM p draw) s (fJ p s n ops m vs draw)) (dB p draw)
def bJ(p:PS)(s:Vw)(n:Nat)(ops:List Int)(m:Nat)(vs:List Int)(draw:List UInt8):CS:=
 let c:=fJ p s n ops m vs draw
 let tg:=eB (aT p s n ops m vs draw).ep
 { c with tag:=tg,sE:=iV (aI p.sg) (bn c++tg),sS:=jI (aI p.sg) (bn c++tg) }
def eX(p:PS)(n:Nat)(ops:List Int)(m:Nat)(vs:List Int):Int:=
 if fu p.e p.zs p.ad p.k p.ch p.lf ops n vs m≠0 then fu p.e p.zs p.ad p.k p.ch p.lf ops n vs m else
 if(fC p.e ⟨p.zs,p.ad,p.k,F8,F8⟩ p.lf ops n).1≠0 then(fC p.e ⟨p.zs,p.ad,p.k,F8,F8⟩ p.lf ops n).1 else if p.e>=1099511627776 then 12 else 0
def aZ(lf node:Int):Int:=vV (lf / 2*4+1) (lf / 4*8+3) 7 node
def kF(q:PS)(ab joint draw:List UInt8)(j:Nat):List UInt8:=
 dH (q.zs.getD (j*2+1) 0) (aI (jO draw j)) (joint++jl ab (aZ q.lf (bg j q.lf)).toNat)
def dK(q:PS)(ab joint tag draw:List UInt8)(j:Nat):List Seg:=
 [.ints .i64 2 [(j:Int),q.lf],.ints .i64 1 [q.e],.ints .i64 31 q.zs,.bools 8 q.ad,.ints .i64 1 [q.k],.bytes 32 q.ch,.gen 1 [.row (kF q ab joint draw j).length [.bytes (kF q ab joint draw j).length (kF q ab joint draw j)]],.bytes 32 tag]
def fO(ng:List Bool):Nat->Nat
 |0=>0
 |j+1=>if ng.getD j false=true then fO ng j+1 else fO ng j
def sj(f:Nat->List Seg)(ng:List Bool):Nat->List Seg
 |0=>[]
 |j+1=>if ng.getD j false=true then sj f ng j++f j else sj f ng j
end
noncomputable section
open Pm
attribute [local irreducible] aN aQ bq aC aF pU
theorem Ob(p:Nat->Bool):∀(n:Nat),∃N,N<=n/\(∀j,j<N->p j=false)/\(N=n\/(N<n/\p N=true))
 |0=>⟨0,Nat.le_refl _,fun j hj=>absurd hj (by omega),.inl rfl⟩
 |n+1=>by
  obtain⟨N,h1,h2,h3⟩:=Ob p n
  rcases h3 with rfl|⟨h3,h4⟩
  ·cases h:p N with
   |false=>
    exact⟨N+1,Nat.le_refl _,fun j hj=>by
     rcases Nat.lt_or_ge j N with h5|h5
     ·exact h2 j h5
     ·exact(show j=N by omega)▸h,.inl rfl⟩
   |true=>exact⟨N,by omega,h2,.inr ⟨by omega,h⟩⟩
  ·exact⟨N,by omega,h2,.inr ⟨by omega,h4⟩⟩
theorem xQ(p:Nat->Bool)(n:Nat):∃N,N<=n/\(∀j,j<N->p j=false)/\(N=n/\lF p n= -1\/N<n/\p N=true/\lF p n=(N:Int)):=by
 obtain⟨N,h1,h2,h3⟩:=Ob p n
 refine⟨N,h1,h2,?_⟩
 rcases h3 with rfl|⟨h3,h4⟩
 ·exact .inl ⟨rfl,xV h2⟩
 ·exact .inr ⟨h3,h4,LM h3 h4 h2⟩
def jN(p:Nat->Bool)(n:Nat):Bool:=decide (lF p n>=0)
theorem Ce(p:Nat->Bool)(n:Nat):decide (lF p n>=0)=jN p n:=rfl
theorem oz(p:Nat->Bool)(n:Nat):jN p n=true↔∃j,j<n/\p j=true:=by
 unfold jN
 rw[decide_eq_true_iff]
 obtain⟨N,h1,h2,h3⟩:=xQ p n
 rcases h3 with⟨h3,h4⟩|⟨h3,h4,h5⟩
 ·rw[h4]
  constructor
  ·intro h;omega
  ·rintro⟨j,hj,hp⟩;rw[h2 j (by omega)]at hp;cases hp
 ·rw[h5]
  exact⟨fun _=>⟨N,h3,h4⟩,fun _=>by omega⟩
attribute [local irreducible] jN lF
def aU(n m:Int):Bool:=decide (n>=0)&&decide (n<=m)
theorem Zz(n m:Int):aV 180 [.v (.int .i64 n),.v (.int .i64 m)] (.d (.v (.bool (aU n m)))):=by
 refine eO (E:=ah2) Tryz.func180 Tryz.ntmps180 ?_
 by_cases h0:n>=0
 ·have e:aU n m=decide (n<=m):=by simp[aU,h0]
  rw[e]
  clear e
  refine ah ?_;(try exact⟨⟩)
 ·have e:aU n m=false:=by simp[aU,h0]
  rw[e]
  clear e
  refine ah ?_;(try exact⟨⟩)
def M4:List A->(bC->Prop)->Prop
 |[.v (.int .i64 n),.v (.int .i64 m)],K=>K (.d (.v (.bool (aU n m))))
 |_,_=>False
theorem UE:∀args K,M4 args K->∃r,aV 180 args r/\K r:=by
 intro args K h
 unfold M4 at h
 split at h
 ·exact⟨_,Zz _ _,h⟩
 ·exact h.elim
attribute [local irreducible] aU
def bg1:ak:=ah2.add 180 M4 UE (.of Tryz.func180)
theorem Yg(n:Int):aV 181 [.v (.int .i64 n)] (.d (.v (.bool (aU n 7)))):=by
 refine eO (E:=bg1) Tryz.func181 Tryz.ntmps181 ?_
 refine ah ?_;(try exact⟨⟩)
def LU:List A->(bC->Prop)->Prop
 |[.v (.int .i64 n)],K=>K (.d (.v (.bool (aU n 7))))
 |_,_=>False
theorem Sz:∀args K,LU args K->∃r,aV 181 args r/\K r:=by
 intro args K h
 unfold LU at h
 split at h
 ·exact⟨_,Yg _,h⟩
 ·exact h.elim
def bg2:ak:=bg1.add 181 LU Sz (.of Tryz.func181)
def nV(e s:Int):Bool:=aU e 1073741788&&aU s 1073741788
theorem aq4(e s:Int):aV 182 [.agg [.ints .i64 2 [e,s]]] (.d (.v (.bool (nV e s)))):=by
 refine eO (E:=bg2) Tryz.func182 Tryz.ntmps182 ?_
 cases h:aU e 1073741788 with
 |true=>
  have e1:nV e s=aU s 1073741788:=by simp[nV,h]
  rw[e1]
  clear e1
  refine ah ?_;(try exact⟨⟩)
 |false=>
  have e1:nV e s=false:=by simp[nV,h]
  rw[e1]
  clear e1
  refine ah ?_;(try exact⟨⟩)
def aD6:List A->(bC->Prop)->Prop
 |[.agg [.ints .i64 2 o]],K=>K (.d (.v (.bool (nV (o.getD 0 0) (o.getD 1 0)))))
 |_,_=>False
theorem aD7:∀args K,aD6 args K->∃r,aV 182 args r/\K r:=by
 intro args K h
 unfold aD6 at h
 split at h
 ·next o=>
  refine⟨_,iY fun hl=>?_,h⟩
  have hl2:o.length=2:=hl.1.1
  match o,hl2 with
  |[a,b],_=>exact aq4 a b
 ·exact h.elim
attribute [local irreducible] nV
def bg3:ak:=bg2.add 182 aD6 aD7 (.of Tryz.func182)
def dh(o:List Int):Bool:=o.any fun z=>!aU z 1099511627776
theorem av7(o:List Int):aV 183 [.agg [.ints .i64 5 o]] (.d (.v (.bool (dh o)))):=by
 refine iY fun hl=>?_
 have hl5:o.length=5:=hl.1.1
 match o,hl5 with
 |[a,b,c,d,e],_=>
 clear hl
 refine eO (E:=bg3) Tryz.func183 Tryz.ntmps183 ?_
 refine ah ?_
 refine aX.mk (aH 6 ?_)
 cases ha:aU a 1099511627776 with
 |false=>
  have e1:dh [a,b,c,d,e]=true:=by simp[dh,ha]
  rw[e1]
  clear e1
  refine ah ?_;(try exact⟨⟩)
 |true=>
 cases hb:aU b 1099511627776 with
 |false=>
  have e1:dh [a,b,c,d,e]=true:=by simp[dh,hb]
  rw[e1]
  clear e1
  refine ah ?_;(try exact⟨⟩)
 |true=>
 cases hc:aU c 1099511627776 with
 |false=>
  have e1:dh [a,b,c,d,e]=true:=by simp[dh,hc]
  rw[e1]
  clear e1
  refine ah ?_;(try exact⟨⟩)
 |true=>
 cases hd:aU d 1099511627776 with
 |false=>
  have e1:dh [a,b,c,d,e]=true:=by simp[dh,hd]
  rw[e1]
  clear e1
  refine ah ?_;(try exact⟨⟩)
 |true=>
 cases he:aU e 1099511627776 with
 |false=>
  have e1:dh [a,b,c,d,e]=true:=by simp[dh,he]
  rw[e1]
  clear e1
  refine ah ?_;(try exact⟨⟩)
 |true=>
  have e1:dh [a,b,c,d,e]=false:=by simp[dh,ha,hb,hc,hd,he]
  rw[e1]
  clear e1
  refine ah ?_;(try exact⟨⟩)
def Tg:List A->(bC->Prop)->Prop
 |[.agg [.ints .i64 5 o]],K=>K (.d (.v (.bool (dh o))))
 |_,_=>False
theorem Yv:∀args K,Tg args K->∃r,aV 183 args r/\K r:=by
 intro args K h
 unfold Tg at h
 split at h
 ·exact⟨_,av7 _,h⟩
 ·exact h.elim
attribute [local irreducible] dh
def bg4:ak:=bg3.add 183 Tg Yv (.of Tryz.func183)
def bL(o:List Int):Bool:=!aU (o.getD 0 0) 7|| !nV (o.getD 1 0) (o.getD 2 0)
theorem Ti(o:List Int):aV 185 [.agg [.ints .i64 3 o]] (.d (.v (.bool (bL o)))):=by
 refine iY fun hl=>?_
 have hl3:o.length=3:=hl.1.1
 match o,hl3 with
 |[a,b,c],_=>
 clear hl
 refine eO (E:=bg4) Tryz.func185 Tryz.ntmps185 ?_
 cases ha:aU a 7 with
 |false=>
  have e1:bL [a,b,c]=true:=by simp[bL,ha]
  rw[e1]
  clear e1
  refine ah ?_;(try exact⟨⟩)
 |true=>
  have e1:bL [a,b,c]=!nV b c:=by simp[bL,ha]
  rw[e1]
  clear e1
  refine ah ?_;(try exact⟨⟩)
  try rfl
def Gj:List A->(bC->Prop)->Prop
 |[.agg [.ints .i64 3 o]],K=>K (.d (.v (.bool (bL o))))
 |_,_=>False
theorem O5:∀args K,Gj args K->∃r,aV 185 args r/\K r:=by
 intro args K h
 unfold Gj at h
 split at h
 ·exact⟨_,Ti _,h⟩
 ·exact h.elim
attribute [local irreducible] bL
def bg5:ak:=bg4.add 185 Gj O5 (.of Tryz.func185)
theorem Yu(n:Nat)(bs:List UInt8):aV 187 [.row n [.bytes n bs]] (.d (.v (.bool (decide ((n:Int)>300))))):=by
 refine eO (E:=bg5) Tryz.func187 Tryz.ntmps187 ?_
 refine ah ?_;(try exact⟨⟩)
def Mc:List A->(bC->Prop)->Prop
 |[.row n [.bytes m bs]],K=>m=n/\K (.d (.v (.bool (decide ((n:Int)>300)))))
 |_,_=>False
theorem Tf:∀args K,Mc args K->∃r,aV 187 args r/\K r:=by
 intro args K h
 unfold Mc at h
 split at h
 ·obtain⟨rfl,h⟩:=h;exact⟨_,Yu _ _,h⟩
 ·exact h.elim
def bg6:ak:=bg5.add 187 Mc Tf (.of Tryz.func187)
def qX(K:Nat)(zs:List Int)(j:Nat):List Int:=(zs.drop (j*K)).take K
theorem ax3(zs:List Int)(n:Nat)(hn:n<=3000):aV 210 [.row n [.ints .i64 (n*5) zs],.v (.func (.func 183) #[] #[])] (.d (.v (.int .i64 (lF (fun i=>dh (qX 5 zs i)) n)))):=by
 refine iY fun hl=>?_
 have hz:zs.length=n*5:=hl.1.1
 clear hl
 refine eO (E:=bg6) Tryz.func210 Tryz.ntmps210 ?_
 obtain⟨N,hN,hno,hend⟩:=xQ (fun i=>dh (qX 5 zs i)) n
 refine ah ?_
 refine aX.mk (cB [0,1,7,8] [0] N (fun j=>⟨.d (.row n [.ints .i64 (n*5) zs])::.d (.v (.func (.func 183) #[] #[]))::.au::.au::.au::.au::.au::.d (.v (.int .i64 n))::.d (.v (.int .i64 (j:Nat)))::dz 10 [],[none]⟩) ?_)
 intro j hj hl
 by_cases h:j<N
 ·have h1:(j:Int)<(n:Int):=by omega
  have h2:dh ((zs.drop (j*5)).take 5)=false:=hno j h
  clear hend hno
  refine ah ?_
  refine hl.go h [0,1,7,8] [0] ?_
  rfl
 ·obtain rfl:j=N:=by omega
  rcases hend with⟨rfl,h4⟩|⟨h3,h4,h5⟩
  ·have h1:¬(j:Int)<(j:Int):=by omega
   rw[h4]
   clear h4 hno
   refine ah ?_;(try exact⟨⟩)
  ·have h1:(j:Int)<(n:Int):=by omega
   have h2:dh ((zs.drop (j*5)).take 5)=true:=h4
   rw[h5]
   clear h4 h5 hno
   refine ah ?_;(try exact⟨⟩)
def Tx:List A->(bC->Prop)->Prop
 |[.row n [.ints .i64 m zs],.v (.func (.func g) a b)],K=>m=n*5/\n<=3000/\g=183/\a=#[]/\b=#[]/\K (.d (.v (.int .i64 (lF (fun i=>dh (qX 5 zs i)) n))))
 |_,_=>False
theorem YH:∀args K,Tx args K->∃r,aV 210 args r/\K r:=by
 intro args K h
 unfold Tx at h
 split at h
 ·obtain⟨rfl,h1,rfl,rfl,rfl,h⟩:=h
  exact⟨_,ax3 _ _ h1,h⟩
 ·exact h.elim
def bg7:ak:=bg6.add 210 Tx YH (.of Tryz.func210)
theorem ax2(zs:List Int)(n:Nat)(hn:n<=3000):aV 157 [.row n [.ints .i64 (n*5) zs],.v (.func (.func 183) #[] #[])] (.d (.v (.bool (jN (fun i=>dh (qX 5 zs i)) n)))):=by
 refine eO (E:=bg7) Tryz.func157 Tryz.ntmps157 ?_
 refine ah ?_
 rw[Ce]
def Tw:List A->(bC->Prop)->Prop
 |[.row n [.ints .i64 m zs],.v (.func (.func g) a b)],K=>m=n*5/\n<=3000/\g=183/\a=#[]/\b=#[]/\K (.d (.v (.bool (jN (fun i=>dh (qX 5 zs i)) n))))
 |_,_=>False
theorem YG:∀args K,Tw args K->∃r,aV 157 args r/\K r:=by
 intro args K h
 unfold Tw at h
 split at h
 ·obtain⟨rfl,h1,rfl,rfl,rfl,h⟩:=h
  exact⟨_,ax2 _ _ h1,h⟩
 ·exact h.elim
def bg8:ak:=bg7.add 157 Tw YG (.of Tryz.func157)
theorem Uy(zs:List Int)(n:Nat)(hn:n<=3000):aV 218 [.row n [.ints .i64 (n*3) zs],.v (.func (.func 185) #[] #[])] (.d (.v (.int .i64 (lF (fun i=>bL (qX 3 zs i)) n)))):=by
 refine iY fun hl=>?_
 have hz:zs.length=n*3:=hl.1.1
 clear hl
 refine eO (E:=bg8) Tryz.func218 Tryz.ntmps218 ?_
 obtain⟨N,hN,hno,hend⟩:=xQ (fun i=>bL (qX 3 zs i)) n
 refine ah ?_
 refine aX.mk (cB [0,1,7,8] [0] N (fun j=>⟨.d (.row n [.ints .i64 (n*3) zs])::.d (.v (.func (.func 185) #[] #[]))::.au::.au::.au::.au::.au::.d (.v (.int .i64 n))::.d (.v (.int .i64 (j:Nat)))::dz 10 [],[none]⟩) ?_)
 intro j hj hl
 by_cases h:j<N
 ·have h1:(j:Int)<(n:Int):=by omega
  have h2:bL ((zs.drop (j*3)).take 3)=false:=hno j h
  clear hend hno
  refine ah ?_
  refine hl.go h [0,1,7,8] [0] ?_
  rfl
 ·obtain rfl:j=N:=by omega
  rcases hend with⟨rfl,h4⟩|⟨h3,h4,h5⟩
  ·have h1:¬(j:Int)<(j:Int):=by omega
   rw[h4]
   clear h4 hno
   refine ah ?_;(try exact⟨⟩)
  ·have h1:(j:Int)<(n:Int):=by omega
   have h2:bL ((zs.drop (j*3)).take 3)=true:=h4
   rw[h5]
   clear h4 h5 hno
   refine ah ?_;(try exact⟨⟩)
def Il:List A->(bC->Prop)->Prop
 |[.row n [.ints .i64 m zs],.v (.func (.func g) a b)],K=>m=n*3/\n<=3000/\g=185/\a=#[]/\b=#[]/\K (.d (.v (.int .i64 (lF (fun i=>bL (qX 3 zs i)) n))))
 |_,_=>False
theorem Qv:∀args K,Il args K->∃r,aV 218 args r/\K r:=by
 intro args K h
 unfold Il at h
 split at h
 ·obtain⟨rfl,h1,rfl,rfl,rfl,h⟩:=h
  exact⟨_,Uy _ _ h1,h⟩
 ·exact h.elim
def bg9:ak:=bg8.add 218 Il Qv (.of Tryz.func218)
theorem Ux(zs:List Int)(n:Nat)(hn:n<=3000):aV 184 [.row n [.ints .i64 (n*3) zs],.v (.func (.func 185) #[] #[])] (.d (.v (.bool (jN (fun i=>bL (qX 3 zs i)) n)))):=by
 refine eO (E:=bg9) Tryz.func184 Tryz.ntmps184 ?_
 refine ah ?_
 rw[Ce]
def Ik:List A->(bC->Prop)->Prop
 |[.row n [.ints .i64 m zs],.v (.func (.func g) a b)],K=>m=n*3/\n<=3000/\g=185/\a=#[]/\b=#[]/\K (.d (.v (.bool (jN (fun i=>bL (qX 3 zs i)) n))))
 |_,_=>False
theorem Qu:∀args K,Ik args K->∃r,aV 184 args r/\K r:=by
 intro args K h
 unfold Ik at h
 split at h
 ·obtain⟨rfl,h1,rfl,rfl,rfl,h⟩:=h
  exact⟨_,Ux _ _ h1,h⟩
 ·exact h.elim
def bh0:ak:=bg9.add 184 Ik Qu (.of Tryz.func184)
theorem Xq(bx:Nat->List UInt8)(n:Nat)(hn:n<=3000):aV 219 [.recs n 1 (E5 bx),.v (.func (.func 187) #[] #[])] (.d (.v (.int .i64 (lF (fun i=>decide (((bx i).length:Int)>300)) n)))):=by
 skip
 refine eO (E:=bh0) Tryz.func219 Tryz.ntmps219 ?_
 obtain⟨N,hN,hno,hend⟩:=xQ (fun i=>decide (((bx i).length:Int)>300)) n
 refine ah ?_
 refine aX.mk (cB [0,1,7,8] [0] N (fun j=>⟨.d (.recs n 1 (E5 bx))::.d (.v (.func (.func 187) #[] #[]))::.au::.au::.au::.au::.au::.d (.v (.int .i64 n))::.d (.v (.int .i64 (j:Nat)))::dz 10 [],[none]⟩) ?_)
 intro j hj hl
 by_cases h:j<N
 ·have h1:(j:Int)<(n:Int):=by omega
  have h2:decide (((bx j).length:Int)>300)=false:=hno j h
  clear hend hno
  refine ah ?_
  refine hl.go h [0,1,7,8] [0] ?_
  rfl
 ·obtain rfl:j=N:=by omega
  rcases hend with⟨rfl,h4⟩|⟨h3,h4,h5⟩
  ·have h1:¬(j:Int)<(j:Int):=by omega
   rw[h4]
   clear h4 hno
   refine ah ?_;(try exact⟨⟩)
  ·have h1:(j:Int)<(n:Int):=by omega
   have h2:decide (((bx j).length:Int)>300)=true:=h4
   rw[h5]
   clear h4 h5 hno
   refine ah ?_;(try exact⟨⟩)
def Lf:List A->(bC->Prop)->Prop
 |[.recs n s f,.v (.func (.func g) a b)],K=>s=1/\n<=3000/\∃bx,f=E5 bx/\g=187/\a=#[]/\b=#[]/\K (.d (.v (.int .i64 (lF (fun i=>decide (((bx i).length:Int)>300)) n))))
 |_,_=>False
theorem Rk:∀args K,Lf args K->∃r,aV 219 args r/\K r:=by
 intro args K h
 unfold Lf at h
 split at h
 ·obtain⟨rfl,h1,bx,rfl,rfl,rfl,rfl,h⟩:=h
  exact⟨_,Xq _ _ h1,h⟩
 ·exact h.elim
def bh2:ak:=bh0.add 219 Lf Rk (.of Tryz.func219)
theorem Xp(bx:Nat->List UInt8)(n:Nat)(hn:n<=3000):aV 186 [.recs n 1 (E5 bx),.v (.func (.func 187) #[] #[])] (.d (.v (.bool (jN (fun i=>decide (((bx i).length:Int)>300)) n)))):=by
 refine eO (E:=bh2) Tryz.func186 Tryz.ntmps186 ?_
 refine ah ?_
 rw[Ce]
def Le:List A->(bC->Prop)->Prop
 |[.recs n s f,.v (.func (.func g) a b)],K=>s=1/\n<=3000/\∃bx,f=E5 bx/\g=187/\a=#[]/\b=#[]/\K (.d (.v (.bool (jN (fun i=>decide (((bx i).length:Int)>300)) n))))
 |_,_=>False
theorem Rj:∀args K,Le args K->∃r,aV 186 args r/\K r:=by
 intro args K h
 unfold Le at h
 split at h
 ·obtain⟨rfl,h1,bx,rfl,rfl,rfl,rfl,h⟩:=h
  exact⟨_,Xp _ _ h1,h⟩
 ·exact h.elim
def bh3:ak:=bh2.add 186 Le Rj (.of Tryz.func186)
end
section
open Pm
attribute [local irreducible] aN aQ bq aC aF pU jN lF aU nV dh bL
def dA(c:CS):Bool:=aU c.e 1099511627776&&(aU c.fr 7&&(nV c.sE c.sS&&(aU c.sl 2147483579&&(aU c.p0 2147483579&&(aU c.p1 2147483579&&(aU c.p2 2147483579&&(decide ((c.n:Int)<=4)&&((!jN (fun i=>dh (qX 5 c.ops i)) c.n)&&(decide ((c.m:Int)<=8)&&((!jN (fun i=>bL (qX 3 c.vs i)) c.m)&&(decide ((c.k:Int)<=16)&&((!jN (fun i=>decide (((c.bx i).length:Int)>300)) c.k)))))))))))))
theorem as6(c:CS)(hc:lS c):aV 133 [.agg (kR c)] (.d (.v (.bool (dA c)))):=by
 refine eO (E:=bh3) Tryz.func133 Tryz.ntmps133 ?_
 obtain⟨b1,b2,b3,b4,b5,b6⟩:=hc
 cases h1:aU c.e 1099511627776
 case false=>
  have e1:dA c=false:=by simp[dA,h1]
  rw[e1]
  clear e1
  refine ah ?_;(try exact⟨⟩)
 cases h2:aU c.fr 7
 case false=>
  have e1:dA c=false:=by simp[dA,h2]
  rw[e1]
  clear e1
  refine ah ?_;(try exact⟨⟩)
 cases h3:nV c.sE c.sS
 case false=>
  have e1:dA c=false:=by simp[dA,h3]
  rw[e1]
  clear e1
  refine ah ?_;(try exact⟨⟩)
 cases h4:aU c.sl 2147483579
 case false=>
  have e1:dA c=false:=by simp[dA,h4]
  rw[e1]
  clear e1
  refine ah ?_;(try exact⟨⟩)
 cases h5:aU c.p0 2147483579
 case false=>
  have e1:dA c=false:=by simp[dA,h5]
  rw[e1]
  clear e1
  refine ah ?_
  refine aX.mk (aH 4 ?_)
  refine ah ?_;(try exact⟨⟩)
 cases h6:aU c.p1 2147483579
 case false=>
  have e1:dA c=false:=by simp[dA,h6]
  rw[e1]
  clear e1
  refine ah ?_
  refine aX.mk (aH 4 ?_)
  refine ah ?_;(try exact⟨⟩)
 cases h7:aU c.p2 2147483579
 case false=>
  have e1:dA c=false:=by simp[dA,h7]
  rw[e1]
  clear e1
  refine ah ?_
  refine aX.mk (aH 4 ?_)
  refine ah ?_;(try exact⟨⟩)
 by_cases h8:((c.n:Int)<=4)
 case neg=>
  have e1:dA c=false:=by simp[dA,h8]
  rw[e1]
  clear e1
  refine ah ?_
  refine aX.mk (aH 4 ?_)
  refine ah ?_;(try exact⟨⟩)
 cases h9:jN (fun i=>dh (qX 5 c.ops i)) c.n
 case true=>
  have e1:dA c=false:=by simp[dA,h9]
  rw[e1]
  clear e1
  refine ah ?_
  refine aX.mk (aH 4 ?_)
  refine ah ?_;(try exact⟨⟩)
 by_cases ha:((c.m:Int)<=8)
 case neg=>
  have e1:dA c=false:=by simp[dA,ha]
  rw[e1]
  clear e1
  refine ah ?_
  refine aX.mk (aH 4 ?_)
  refine ah ?_;(try exact⟨⟩)
 cases hb:jN (fun i=>bL (qX 3 c.vs i)) c.m
 case true=>
  have e1:dA c=false:=by simp[dA,hb]
  rw[e1]
  clear e1
  refine ah ?_
  refine aX.mk (aH 4 ?_)
  refine ah ?_;(try exact⟨⟩)
 by_cases hc:((c.k:Int)<=16)
 case neg=>
  have e1:dA c=false:=by simp[dA,hc]
  rw[e1]
  clear e1
  refine ah ?_
  refine aX.mk (aH 4 ?_)
  refine ah ?_;(try exact⟨⟩)
 cases hd:jN (fun i=>decide (((c.bx i).length:Int)>300)) c.k
 case true=>
  have e1:dA c=false:=by simp[dA,hd]
  rw[e1]
  clear e1
  refine ah ?_
  refine aX.mk (aH 4 ?_)
  refine ah ?_
  rw[hd];rfl
 have e1:dA c=true:=by simp[dA,h1,h2,h3,h4,h5,h6,h7,h8,h9,ha,hb,hc,hd]
 rw[e1]
 clear e1
 refine ah ?_
 refine aX.mk (aH 4 ?_)
 refine ah ?_
 rw[hd];rfl
end
section
theorem Ad(L:List (List UInt8))(k:Nat)(h:k<L.length):(L.take (k+1)).flatten=(L.take k).flatten++L[k]:=by
 rw[List.take_succ_eq_append_getElem h,List.flatten_append];simp
theorem ac8(L:List (List UInt8))(k:Nat):(L.take k).flatten.length<=L.flatten.length:=by
 have h:(L.take k++L.drop k).flatten.length=L.flatten.length:=by rw[List.take_append_drop]
 simp only[List.flatten_append,List.length_append]at h
 omega
theorem IC(n:Nat):Builtin.zeroCells (Value.int .u8 0).cells n=HC (List.replicate n 0):=by
 refine Array.toList_inj.1 (List.ext_getElem? fun i=>?_)
 rw[xH]
 simp only[Builtin.zeroCells,HL,Value.cells,List.getElem?_map,List.getElem?_replicate]
 by_cases h:i<n
 ·simp[h,Bt,Nat.mod_one]
 ·simp[h]
theorem Xc(a b:List UInt8):HC a++HC b=HC (a++b):=by simp[HC]
theorem an2(n:Nat)(hn:n<=140737488354000)(w:World):
  Calls Tryz.prog 179 #[.slice none 0 0,.int .i64 n] w fun e w'=>∃v,e=.returned v/\iA w' w.heap.size 5 v []/\Below w.heap.size w w':=by
 by_cases h0:n=0
 ·subst h0
  go_enter Tryz.func179,Tryz.ntmps179
  go_wp2
  go_ret
  exact⟨_,rfl,World.ownsRow_nil _ _ _ _,Below.refl _ _⟩
 obtain⟨i0,hi,hz0,hz1,hz2⟩:=info_parts info8
 have hr:∀ty,(Builtin.append_ #[35,3] ty #[.slice none 0 0,.int .i64 n]).run Tryz.prog w=_:=fun ty=>
  Lib.run_append_nil_zeros w 35 3 ty 5 i0 (.int .u8 0) .i64 .i64 Tryz.underlying35 Tryz.underlying3 hi hz0 n (by omega) (by omega) (by omega) (by rw[hz2];omega)
 have hG1:=grownCap_ge w n 0 5
 have hG2:=grownCap_le_maxLen w n 0 5 (by unfold maxLen;omega)
 obtain⟨G,hG⟩:∃G,G=grownCap w n 0 5:=⟨_,rfl⟩
 rw[<-hG]at hr hG1 hG2
 have hG0:List.replicate n (0:UInt8)++List.replicate (G-n) 0=List.replicate G 0:=by rw[List.replicate_append_replicate];congr 1;omega
 rw[IC,IC,Xc,hG0]at hr
 clear hG
 have hG63:G<=9223372036854775807:=by unfold maxLen at hG2;omega
 have h4:(n:Int)>0:=by omega
 have H1:=Lib.hid hG1;have H2:=Lib.hid hG2
 clear hG2
 go_enter Tryz.func179,Tryz.ntmps179
 go_wp2_with (at_builtin;refine Lib.wpList_append_run _ rfl _ _ _ _ rfl _ _ rfl rfl _ _ (hr _) ?_)
 go_ret
 refine⟨_,rfl,⟨rfl,.inr ⟨w.heap.size,G,HC (List.replicate G 0),rfl,Nat.le_refl _,?_,Nat.zero_le _,H2.out,?_,?_⟩⟩,((Below.refl _ _).next (Nat.le_refl _) _).drew⟩
 ·exact heap_alloc_new w _
 ·rw[dO];simp
 ·simp[HL]
theorem RF (a : Option Addr) (len cap : Nat) (L : List (List UInt8)) (w : World) (hp : cn3 w a len L) (hbound : L.flatten.length <= 140737488354000) :
    Calls Tryz.prog 132 #[.slice a len cap] w fun e w' => ∃ v, e = .returned v /\ iA w' w.heap.size 5 v L.flatten /\ Below w.heap.size w w' := by
  have hlen := hp.len_eq
  have hsm := hp.small
  unfold maxLen at hsm
  subst hlen
  have hcells : ∀ (k : Nat) (hlt : k < L.length) (wr : World), Below w.heap.size w wr -> ∃ b off, a = some ⟨b, off, none⟩ /\ ∃ a' l' c', wr.cell? ⟨b, off + k, none⟩ = some (.slice a' l' c') /\ bL7 w a' l' c' L[k] := by
    intro k hlt wr hB
    rcases hp.cells with h1 | ⟨b, off, rfl, hc⟩
    · simp [h1] at hlt
    · obtain ⟨a', l', c', h2, h3⟩ := hc k hlt
      exact ⟨b, off, rfl, a', l', c', (hB.cell (block_lt_of_cell h2)).trans h2, h3⟩
  have HP := Lib.hid hcells; have HBD := Lib.hid hbound
  clear hp hbound hcells
  go_enter Tryz.func132, Tryz.ntmps132
  go_wp2
  go_loopw [3, 5, 11] (fun z s i wr => ∃ k : Nat, k <= L.length /\ i = .int .i64 k /\ z = .int .i64 ((L.take k).flatten.length : Nat) /\ w = wr) (fun _ _ i _ => L.length - (intOf i).toNat)
  case atStart => exact ⟨0, Nat.zero_le _, rfl, rfl, rfl⟩
  case round =>
    obtain ⟨k, hk, rfl, rfl, rfl⟩ := hrel
    by_cases hlt : k < L.length
    · obtain ⟨b, off, rfl, a', l', c', hcell, hrow⟩ := HP.out k hlt w (Below.refl _ _)
      have hl' := hrow.row.len_eq
      subst hl'
      have hle : (L.take k).flatten.length + L[k].length <= 140737488354000 := by
        have h1 := ac8 L (k + 1)
        rw [Ad L k hlt, List.length_append] at h1
        have := HBD.out; omega
      clear hrow
      obtain ⟨m, hm⟩ : ∃ m, (L.take k).flatten.length = m := ⟨_, rfl⟩
      obtain ⟨m2, hm2⟩ : ∃ m, L[k].length = m := ⟨_, rfl⟩
      rw [hm, hm2] at hle
      rw [hm]
      rw [hm2] at hcell
      have HM := Lib.hid hm; have HM2 := Lib.hid hm2
      clear hm hm2
      have hw : RowKit.wrap64 ((m : Int) + (m2 : Int)) = ((m + m2 : Nat) : Int) := by rw [IntWalk.wrap64_in _ (by omega)]; omega
      have hn : ¬ (((m + m2 : Nat) : Int) < 0) := by omega
      go_wp2
      go_roundw
      case rel =>
        refine ⟨k + 1, by omega, by go_num, ?_, by first | trivial | rfl⟩
        rw [Ad L k hlt, List.length_append, HM.out, HM2.out, Int.natCast_add]
      case measure => simp [intOf]; omega
    · have hkl : k = L.length := by omega
      subst hkl
      rw [List.take_length]
      obtain ⟨m, hm⟩ : ∃ m, L.flatten.length = m := ⟨_, rfl⟩
      rw [hm]
      have hmb : m <= 140737488354000 := by have := HBD.out; omega
      have HM := Lib.hid hm
      clear hm
      go_wp2_with (go_at_call 179; refine (an2 m (by omega) _).mono ?_; rintro e w1 ⟨v1, rfl, hO1, hB1⟩
                   have HO1 := Lib.hid hO1; have HB1 := Lib.hid hB1
                   clear hO1 hB1)
      go_loopw [6, 8, 27] (fun b s i w2 => ∃ k : Nat, k <= L.length /\ i = .int .i64 k /\ iA w2 w.heap.size 5 b (L.take k).flatten /\ Below w.heap.size w w2) (fun _ _ i _ => L.length - (intOf i).toNat)
      case atStart => exact ⟨0, Nat.zero_le _, rfl, HO1.out, HB1.out⟩
      case round =>
        obtain ⟨k, hk, rfl, hO, hB⟩ := hrel
        by_cases hlt : k < L.length
        · obtain ⟨b, off, rfl, a', l', c', hcell, hrow⟩ := HP.out k hlt _ hB
          have hrow2 := hrow.row.below hB
          have hle : (L.take k).flatten.length + L[k].length <= 140737488355328 := by
            have h1 := ac8 L (k + 1)
            rw [Ad L k hlt, List.length_append] at h1
            have := HBD.out; omega
          have HO := Lib.hid hO; have HB := Lib.hid hB; have HW := Lib.hid hrow2; have HN := Lib.hid hrow.nil; have HLE := Lib.hid hle
          clear hO hB hrow hrow2 hle
          go_wp2_with (at_builtin
                       refine eF rfl (.tmp 31) (.tmp 32) 35 rfl w.heap.size 5 Tryz.underlying35 info8 _ (L.take k).flatten rfl HO.out _ _ _ L[k] rfl HW.out HN.out HLE.out HB.out.size ?_
                       intro v3 w3 hown3 hg3 hb3
                       have QL := Lib.hid hown3; have HB3 := Lib.hid hb3
                       clear hown3 hg3 hb3)
          go_roundw
          case rel =>
            refine ⟨k + 1, by omega, by go_num, ?_, HB.out.trans HB3.out⟩
            rw [Ad L k hlt]; exact QL.out
          case measure => simp [intOf]; omega
        · rw [List.take_of_length_le (by omega)] at hO
          have HO := Lib.hid hO; have HB := Lib.hid hB
          clear hO hB
          go_wp2
          go_ret
          exact ⟨_, rfl, HO.out, HB.out⟩
end
noncomputable section
open Pm
attribute [local irreducible] aN aQ bq aC aF pU jN lF aU nV dh bL
theorem zi:∀args K,FV args K->∃r,aV 132 args r/\K r:=by
 intro args K hd
 unfold FV at hd
 split at hd
 ·next x=>
  obtain⟨L,⟨hb,hK⟩,hL⟩:=vk hd
  refine⟨_,Au (f:=132) (args:=[x]) (bs:=L.flatten) fun S w vs ha=>?_,hK⟩
  obtain⟨v,rfl,h1⟩:=iC ha
  obtain⟨a,n,c,rfl,h2,h3,h4⟩:=hL h1
  refine RF a n c L w ⟨h2.len_eq,h2.small,?_⟩ (by omega)
  rcases h4 with h4|⟨b,off,h5,h6⟩
  ·exact .inl h4
  ·refine .inr ⟨b,off,h5,fun i hi=>?_⟩
   obtain⟨a',l',c',e1,e2,e3⟩:=h6 i hi
   exact⟨a',l',c',e1,⟨e2,e3⟩⟩
 ·exact hd.elim
def cS(res:CS->bC):List A->(bC->Prop)->Prop
 |[.agg l],K=>∃c,l=kR c/\lS c/\K (res c)
 |_,_=>False
theorem bf1{f:FuncId}{res:CS->bC}(h:∀c,lS c->aV f [.agg (kR c)] (res c)):∀args K,cS res args K->∃r,aV f args r/\K r:=by
 intro args K hd
 unfold cS at hd
 split at hd
 ·obtain⟨c,rfl,h1,h2⟩:=hd
  exact⟨_,h c h1,h2⟩
 ·exact hd.elim
def bQ9:ak:=bh3.add 132 FV zi (.of Tryz.func132)
def bR0:ak:=bQ9.add 133 (cS fun c=>.d (.v (.bool (dA c)))) (bf1 as6) (.of Tryz.func133)
def bh4:ak:=bR0.add 128 (cS fun c=>.o 5 1 (jr c) [.bytes (jr c) (bn c)]) (bf1 Qx) (.of Tryz.func128)
def bS(c:CS):List UInt8:=[1]++(bn c++(c.tag++aF [c.sE,c.sS]))
def bE(c:CS):Nat:=1+(jr c+(32+16))
def xM(c:CS):bC:=if dA c=true then .t [.row (bE c) [.bytes (bE c) (bS c)],.v (.int .i64 0)]else .t [.v (.slice none 0 0),.v (.int .i64 1)]
theorem wG(bs:List UInt8):(pU bs).length=8+bs.length:=by
 unfold pU;rw[List.length_append,iK];rfl
theorem E9(bx:Nat->List UInt8):∀k,(bxB bx k).length=Xw bx k
 |0=>rfl
 |k+1=>by
  show(bxB bx k++pU (bx k)).length=Xw bx k+(8+(bx k).length)
  rw[List.length_append,E9 bx k,wG]
theorem oC{c:CS}(hc:lS c):(bn c).length=jr c:=by
 unfold bn pR qC jr
 simp only[List.length_append,iK,E9,hc.ops,hc.vs,List.length_cons,List.length_nil]
 omega
attribute [local irreducible] dA bn
theorem Io(c:CS)(hc:lS c)(ht:c.tag.length=32):aV 93 [.agg (kR c)] (xM c):=by
 refine eO (E:=bh4) Tryz.func93 Tryz.ntmps93 ?_
 have hl:=oC hc
 have hbn:jr c<=20000000:=by
  have:=BQ (bx:=c.bx) (k:=c.k) hc.bx
  have h1:=hc.n;have h2:=hc.m;have h3:=hc.k
  unfold jr;omega
 have hnl:(aF [c.sE,c.sS]).length=16:=by rw[iK];rfl
 unfold xM
 cases hm:dA c with
 |false=>
  refine ah ?_;(try exact⟨⟩)
  rfl
 |true=>
  refine ah ?_
  generalize hp:vL _ _ _=o
  obtain rfl:o=some [.own 1 1,.own 2 (jr c),.win 0 9 32,.own 4 16]:=hp.symm.trans (iR rfl (oN rfl rfl) (iR rfl (oN rfl rfl) (iR rfl rfl (iR rfl (oN rfl rfl) CP))))
  clear hp
  refine ah ?_
  have e:(bn c++(c.tag++aF [c.sE,c.sS])).length+1=bE c:=by
   rw[List.length_append,List.length_append,hl,ht,hnl,bE];omega
  rw[e,if_pos rfl]
  rfl
def Lp:List A->(bC->Prop)->Prop
 |[.agg l],K=>∃c,l=kR c/\lS c/\c.tag.length=32/\K (xM c)
 |_,_=>False
theorem Rz{f:FuncId}(h:∀c,lS c->c.tag.length=32->aV f [.agg (kR c)] (xM c)):∀args K,Lp args K->∃r,aV f args r/\K r:=by
 intro args K hd
 unfold Lp at hd
 split at hd
 ·obtain⟨c,rfl,h1,h2,h3⟩:=hd
  exact⟨_,h c h1 h2,h3⟩
 ·exact hd.elim
def bR1:ak:=bh4.add 93 Lp (Rz Io) (.of Tryz.func93)
end
end Go.Proofs.YtegalalmamofdaaGreatDoor
