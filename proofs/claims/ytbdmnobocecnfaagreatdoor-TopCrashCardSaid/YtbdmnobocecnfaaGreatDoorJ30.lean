/-
  Commits as bytes: numbers, boxes.
-/
import Derived.Test.YtbdmnobocecnfaaGreatDoorJ29
import Derived.Lib.AppendZeros
namespace Go.Proofs.YtbdmnobocecnfaaGreatDoor
set_option linter.unusedVariables false
set_option linter.unusedSimpArgs false
set_option maxRecDepth 100000
open Go.RowKit
section
open Pm
attribute [local irreducible] condK LoopA regA numB numsB
noncomputable def envC0:EnvX:=envK9.withY yTab2 yOK2 yEq2
def opsCS:List A→(Res→Prop)→Prop
 |[.row n [.ints .i64 m zs]],K=>m=n*5∧n≤1000000∧zs.length=n*5∧K (.o 5 1 (n*40) [.bytes (n*40) (numsB zs)])
 |_,_=>False
theorem opsCS_of{f:FuncId}(h:∀(zs:List Int) (n:Nat),zs.length=n*5→n≤1000000→FnO f [.row n [.ints .i64 (n*5) zs]] (.o 5 1 (n*40) [.bytes (n*40) (numsB zs)])):∀args K,opsCS args K→∃r,FnO f args r∧K r:=by
 intro args K hd
 unfold opsCS at hd
 split at hd
 ·obtain⟨rfl,h1,h2,h3⟩:=hd
  exact⟨_,h _ _ h2 h1,h3⟩
 ·exact hd.elim
noncomputable def envC1:EnvX:=envC0.add 76 opsCS (opsCS_of ops_ok) ⟨_,Tryz.func76,by kernel_rfl,by kernel_rfl⟩
noncomputable def envC2:EnvX:=envC1
set_option maxHeartbeats 4000000 in
theorem wnums_ok(zs:List Int)(hz:zs.length≤1000000):FnO 130 [.row zs.length [.ints .i64 zs.length zs]] (.o 5 1 (zs.length*8) [.bytes (zs.length*8) (numsB zs)]):=by
 refine fnA (E:=envC2) Tryz.func130 Tryz.ntmps130 ?_
 refine agow ?_;(try exact⟨⟩)
 refine StopL.mk (loop_forN [3,6,7,8] [0] 3 5 1 [.bytes 0 []] zs.length (fun j=>⟨[.dead,.dead,.dead,.own 0 (j*8),.dead,.dead,.d (.row zs.length [.ints .i64 zs.length zs]),.d (.v (.int .i64 zs.length)),.d (.v (.int .i64 (j:Nat))),.dead,.dead,.dead,.dead,.dead,.dead,.dead,.dead,.dead],[some (.sl 5 1 (j*8) [.bytes (j*8) (numsB (zs.take j))])]⟩) ?_ (h2:=by rw[List.take_zero,numsB_nil];exact rfl))
 intro j hj hl
 by_cases hjz:j<zs.length
 ·have h1:(j:Int)<(zs.length:Int):=by omega
  refine agow ?_;(try exact⟨⟩)
  refine hl.go hjz [3,6,7,8] [0] ?_
  rw[numsB_take zs hjz,Nat.add_mul,Nat.one_mul]
  rfl
 ·obtain rfl:j=zs.length:=by omega
  have e:zs.take zs.length=zs:=List.take_length
  have h1:¬(zs.length:Int)<(zs.length:Int):=by omega
  rw[e]
  refine agow ?_;(try exact⟨⟩)
theorem wnumsS_ok:∀args K,numsS args K→∃r,FnO 130 args r∧K r:=by
 intro args K h
 unfold numsS at h
 split at h
 ·obtain⟨rfl,rfl,h1,h2⟩:=h
  exact⟨_,wnums_ok _ h1,h2⟩
 ·exact h.elim
noncomputable def envC3:EnvX:=envC2.add 130 numsS wnumsS_ok ⟨_,Tryz.func130,by kernel_rfl,by kernel_rfl⟩
def boxB(bs:List UInt8):List UInt8:=numsB [(bs.length:Int)]++bs
set_option maxHeartbeats 4000000 in
theorem wbox_ok(bs:List UInt8)(hb:bs.length≤1000000):FnO 133 [.row bs.length [.bytes bs.length bs]] (.o 5 1 (8+bs.length) [.bytes (8+bs.length) (boxB bs)]):=by
 refine fnA (E:=envC3) Tryz.func133 Tryz.ntmps133 ?_
 refine agow ?_;(try exact⟨⟩)
 rfl
def boxS:List A→(Res→Prop)→Prop
 |[.row n [.bytes m bs]],K=>n=bs.length∧m=bs.length∧bs.length≤1000000∧K (.o 5 1 (8+bs.length) [.bytes (8+bs.length) (boxB bs)])
 |_,_=>False
theorem boxS_ok:∀args K,boxS args K→∃r,FnO 133 args r∧K r:=by
 intro args K h
 unfold boxS at h
 split at h
 ·obtain⟨rfl,rfl,h1,h2⟩:=h
  exact⟨_,wbox_ok _ h1,h2⟩
 ·exact h.elim
noncomputable def envC4:EnvX:=envC3.add 133 boxS boxS_ok ⟨_,Tryz.func133,by kernel_rfl,by kernel_rfl⟩
structure CS where
 e:Int
 fr:Int
 n:Nat
 ops:List Int
 m:Nat
 vs:List Int
 sl:Int
 p0:Int
 p1:Int
 p2:Int
 k:Nat
 bx:Nat→List UInt8
 tag:List UInt8
 sE:Int
 sS:Int
def boxF(bx:Nat→List UInt8)(j:Nat):List Seg:=[.gen 1 [.row (bx j).length [.bytes (bx j).length (bx j)]]]
def cSegs(c:CS):List Seg:=[.ints .i64 2 [c.e,c.fr],.gen 2 [.row c.n [.ints .i64 (c.n*5) c.ops],.row c.m [.ints .i64 (c.m*3) c.vs]],.ints .i64 4 [c.sl,c.p0,c.p1,c.p2],.gen 1 [.recs c.k 1 (boxF c.bx)],.bytes 32 c.tag,.ints .i64 2 [c.sE,c.sS]]
structure CSok(c:CS):Prop where
 n:c.n≤3000
 m:c.m≤3000
 k:c.k≤3000
 ops:c.ops.length=c.n*5
 vs:c.vs.length=c.m*3
 bx:∀j,j<c.k→(c.bx j).length≤6000
def bxN(bx:Nat→List UInt8):Nat→Nat
 |0=>0
 |j+1=>bxN bx j+(8+(bx j).length)
def bxB(bx:Nat→List UInt8):Nat→List UInt8
 |0=>[]
 |j+1=>bxB bx j++boxB (bx j)
def bodyHead(c:CS):List UInt8:=(numsB [c.e,c.fr,(c.n:Int)]++numsB c.ops)++numsB [(c.m:Int)]
def bodyMid(c:CS):List UInt8:=(bodyHead c++numsB c.vs)++numsB [c.sl,c.p0,c.p1,c.p2,(c.k:Int)]
def bodyB(c:CS):List UInt8:=bodyMid c++bxB c.bx c.k
def bodyN(c:CS):Nat:=24+c.n*40+8+c.m*24+40+bxN c.bx c.k
theorem bxN_le{bx:Nat→List UInt8}:∀{k:Nat},(∀j,j<k→(bx j).length≤6000)→bxN bx k≤k*6008
 |0,_=>Nat.zero_le _
 |k+1,h=>by
  have h1:=bxN_le (k:=k) fun j hj=>h j (by omega)
  have h2:=h k (by omega)
  show bxN bx k+(8+(bx k).length)≤_
  omega
theorem three_eqC{o:List Int}(h:o.length=3):o=[o.getD 0 0,o.getD 1 0,o.getD 2 0]:=by
 rcases o with _|⟨a,_|⟨b,_|⟨c,_|⟨d,l⟩⟩⟩⟩<;>first|(simp at h;done)|rfl
theorem numsB_three(zs:List Int){i:Nat}(h:i+3≤zs.length):numsB (zs.take (i+3))=numsB (zs.take i)++numsB [((zs.drop i).take 3).getD 0 0,((zs.drop i).take 3).getD 1 0,((zs.drop i).take 3).getD 2 0]:=by
 rw[←three_eqC (o:=(zs.drop i).take 3) (by simp;omega),←numsB_append,List.take_add]
attribute [local irreducible] boxB
set_option maxHeartbeats 8000000 in
theorem wbody_ok(c:CS)(hc:CSok c):FnO 124 [.agg (cSegs c)] (.o 5 1 (bodyN c) [.bytes (bodyN c) (bodyB c)]):=by
 refine fnA (E:=envC4) Tryz.func124 Tryz.ntmps124 ?_
 obtain⟨h1,h2,h3,h4,h5,h6⟩:=hc
 refine agow ?_;(try exact⟨⟩)
 refine StopL.mk (loop_forG [1,3,30,31,32] [0,2] c.m (fun j=>⟨[.dead,.ptr 0 0,.dead,.own 1 (24+c.n*40+8+j*24),.dead,.dead,.dead,.dead,.dead,.dead,.dead,.dead,.dead,.dead,.dead,.dead,.dead,.dead,.dead,.dead,.dead,.dead,.dead,.dead,.dead,.dead,.dead,.dead,.dead,.dead,.d (.row c.m [.ints .i64 (c.m*3) c.vs]),.d (.v (.int .i64 c.m)),.d (.v (.int .i64 (j:Nat))),.dead,.dead,.dead,.dead,.dead,.dead,.dead,.dead,.dead,.dead,.dead,.dead,.dead,.dead,.dead,.dead,.dead,.dead,.dead,.dead,.dead,.dead,.dead,.dead,.dead,.dead,.dead,.dead,.dead,.dead,.dead,.dead,.dead,.dead,.dead,.dead,.dead,.dead,.dead,.dead,.dead,.dead,.dead,.dead,.dead,.dead,.dead],[some (.var (cSegs c)),some (.sl 5 1 (24+c.n*40+8+j*24) [.bytes (24+c.n*40+8+j*24) (bodyHead c++numsB (c.vs.take (j*3)))])]⟩) ?_ (h2:=by simp only[Nat.zero_mul,List.take_zero,numsB_nil,List.append_nil,Nat.add_zero];exact rfl))
 intro j hj hl
 by_cases hjm:j<c.m
 ·have g1:(j:Int)<(c.m:Int):=by omega
  refine agow ?_;(try exact⟨⟩)
  refine hl.go hjm [1,3,30,31,32] [0,1] ?_
  rw[show(j+1)*3=j*3+3 by omega,numsB_three c.vs (by omega),show(j+1)*24=j*24+24 by omega,←List.append_assoc,←Nat.add_assoc]
  rfl
 ·obtain rfl:j=c.m:=by omega
  have g1:¬(c.m:Int)<(c.m:Int):=by omega
  rw[show c.vs.take (c.m*3)=c.vs from List.take_of_length_le (by omega)]
  refine agow ?_;(try exact⟨⟩)
  refine StopL.mk (loop_forG [3,68,69,70] [0,1] c.k (fun j=>⟨[.dead,.dead,.dead,.own 1 (24+c.n*40+8+c.m*24+40+bxN c.bx j),.dead,.dead,.dead,.dead,.dead,.dead,.dead,.dead,.dead,.dead,.dead,.dead,.dead,.dead,.dead,.dead,.dead,.dead,.dead,.dead,.dead,.dead,.dead,.dead,.dead,.dead,.dead,.dead,.dead,.dead,.dead,.dead,.dead,.dead,.dead,.dead,.dead,.dead,.dead,.dead,.dead,.dead,.dead,.dead,.dead,.dead,.dead,.dead,.dead,.dead,.dead,.dead,.dead,.dead,.dead,.dead,.dead,.dead,.dead,.dead,.dead,.dead,.dead,.dead,.d (.recs c.k 1 (boxF c.bx)),.d (.v (.int .i64 c.k)),.d (.v (.int .i64 (j:Nat))),.dead,.dead,.dead,.dead,.dead,.dead,.dead,.dead,.dead],[some (.var (cSegs c)),some (.sl 5 1 (24+c.n*40+8+c.m*24+40+bxN c.bx j) [.bytes (24+c.n*40+8+c.m*24+40+bxN c.bx j) (bodyMid c++bxB c.bx j)])]⟩) ?_ (h2:=by simp only[bxN,bxB,List.append_nil,Nat.add_zero];exact rfl))
  intro i hi hl2
  by_cases hik:i<c.k
  ·have g2:(i:Int)<(c.k:Int):=by omega
   have g3:=h6 i hik
   have g4:(c.bx i).length≤1000000:=by omega
   have g5:bxN c.bx i≤18030000:=by have:=bxN_le (bx:=c.bx) (k:=i) (fun j hj=>h6 j (by omega));omega
   refine agow ?_;(try exact⟨⟩)
   refine hl2.go hik [3,68,69,70] [0,1] ?_
   have e1:24+c.n*40+8+c.m*24+40+bxN c.bx (i+1)=24+c.n*40+8+c.m*24+40+bxN c.bx i+(8+(c.bx i).length):=(Nat.add_assoc _ _ _).symm
   have e2:bodyMid c++bxB c.bx (i+1)=(bodyMid c++bxB c.bx i)++boxB (c.bx i):=(List.append_assoc _ _ _).symm
   rw[e1,e2]
   rfl
  ·obtain rfl:i=c.k:=by omega
   have g2:¬(c.k:Int)<(c.k:Int):=by omega
   refine agow ?_;(try exact⟨⟩)
   rfl
end
section
open Pm
attribute [local go_sem] eqh_guard key_y key_x
theorem isI_pub(s:Int)(hs:1≤s∧s<1073741789):isI (powI 4 s)=true:=by
 obtain⟨n,rfl⟩:=Int.eq_ofNat_of_zero_le (show 0≤s by omega)
 rw[show powI 4 (n:Int)=(pw 4 n:Int)from powI_nat 4 n (by decide) (by omega)]
 exact isI_four n (by omega) (by omega)
end
section
open Pm
def streamW(s:List UInt8)(j:Nat):List UInt8:=deriveW s (sb ⟨#[115,116,114,101,97,109]⟩) (fourB (j:Int))
def xorW(s p:List UInt8):List UInt8:=p.mapIdx fun i c=>c^^^(streamW s (i / 32)).getD (i%32) 0
theorem xorW_length(s p:List UInt8):(xorW s p).length=p.length:=by simp[xorW]
theorem xorW_get(s p:List UInt8)(i:Nat)(h:i<p.length):(xorW s p)[i]?=some (p[i]^^^(streamW s (i / 32)).getD (i%32) 0):=by
 simp[xorW,List.getElem?_mapIdx,List.getElem?_eq_getElem h]
def partX(s p:List UInt8)(k:Nat):List UInt8:=(xorW s p).take k++List.replicate (p.length-k) 0
theorem partX_zero(s p:List UInt8):partX s p 0=List.replicate p.length 0:=by simp[partX]
theorem partX_all(s p:List UInt8):partX s p p.length=xorW s p:=by simp[partX,List.take_of_length_le (Nat.le_of_eq (xorW_length s p))]
theorem partX_set(s p:List UInt8)(k:Nat)(h:k<p.length):(partX s p k).set k (p[k]^^^(streamW s (k / 32)).getD (k%32) 0)=partX s p (k+1):=by
 refine List.ext_getElem? fun i=>?_
 have hl:(xorW s p).length=p.length:=xorW_length s p
 rw[List.getElem?_set]
 unfold partX
 by_cases hik:k=i
 ·subst hik
  rw[if_pos rfl,if_pos (by simp[hl];omega)]
  rw[List.getElem?_append_left (by simp[hl];omega),List.getElem?_take,if_pos (by omega),xorW_get s p k h]
 ·rw[if_neg hik]
  by_cases h1:i<k
  ·rw[List.getElem?_append_left (by simp[hl];omega),List.getElem?_append_left (by simp[hl];omega),List.getElem?_take,List.getElem?_take,if_pos h1,if_pos (by omega)]
  ·rw[List.getElem?_append_right (by simp[hl];omega),List.getElem?_append_right (by simp[hl];omega)]
   have e1:(List.take k (xorW s p)).length=k:=by simp[hl];omega
   have e2:(List.take (k+1) (xorW s p)).length=k+1:=by simp[hl];omega
   rw[e1,e2,List.getElem?_replicate,List.getElem?_replicate]
   by_cases h2:i<p.length
   ·rw[if_pos (by omega),if_pos (by omega)]
   ·rw[if_neg (by omega),if_neg (by omega)]
theorem Bt_xor(a b:UInt8):bits .xor .u8 (Bt a) (Bt b)=Bt (a^^^b):=by
 show IntKind.u8.wrap ((BitVec.ofInt 8 (a.toNat:Int)^^^BitVec.ofInt 8 (b.toNat:Int)).toNat:Int)=_
 rw[BitVec.ofInt_natCast,BitVec.ofInt_natCast]
 unfold Bt
 rw[UInt8.toNat_xor,BitVec.toNat_xor,BitVec.toNat_ofNat,BitVec.toNat_ofNat,IntKind.wrap_u8]
 have ha:=UInt8.toNat_lt a
 have hb:=UInt8.toNat_lt b
 rw[Nat.mod_eq_of_lt (by omega),Nat.mod_eq_of_lt (by omega)]
 have hx:a.toNat^^^b.toNat<2^8:=Nat.xor_lt_two_pow (by omega) (by omega)
 omega
def tagW(s own body:List UInt8):List UInt8:=(deriveW s (sb ⟨#[116,97,103]⟩) (own++body)).take 8
theorem tagW_length(s own body:List UInt8):(tagW s own body).length=8:=by
 unfold tagW
 rw[List.length_take,show(deriveW s (sb ⟨#[116,97,103]⟩) (own++body)).length=32 from sumW_length _]
 rfl
end
section
open Pm
structure PS where
 e:Int
 zs:List Int
 ad:List Bool
 k:Int
 ch:List UInt8
 lf:Int
 sg:List UInt8
 sc:List UInt8
 ab:List UInt8
 ep:List UInt8
 ini:List UInt8
abbrev pSegs(p:PS):List Seg:=[.ints .i64 1 [p.e],.ints .i64 31 p.zs,.bools 8 p.ad,.ints .i64 1 [p.k],.bytes 32 p.ch,.ints .i64 1 [p.lf],.bytes 32 p.sg,.bytes 32 p.sc,.bytes 96 p.ab,.bytes 32 p.ep,.bytes 32 p.ini]
def sgnW(h:List UInt8):List UInt8:=deriveW h (sb ⟨#[115,105,103,110]⟩) []
def lefW(h:List UInt8):List UInt8:=deriveW h (sb ⟨#[108,101,97,102]⟩) []
def fstW(h:List UInt8):List UInt8:=deriveW h (sb ⟨#[102,105,114,115,116]⟩) []
def iniW(h:List UInt8):List UInt8:=deriveW h (sb ⟨#[105,110,105,116]⟩) []
def tagE(h:List UInt8):List UInt8:=deriveW h (sb ⟨#[116,97,103]⟩) []
def epoW(j h:List UInt8):List UInt8:=deriveW j (sb ⟨#[101,112,111,99,104]⟩) h
def joiW(i u:List UInt8):List UInt8:=deriveW i (sb ⟨#[106,111,105,110,116]⟩) u
def chnW(c b:List UInt8):List UInt8:=deriveW c (sb ⟨#[99,104,97,105,110]⟩) b
def boxD(d:List UInt8)(n:Int):List UInt8:=deriveW d (sb ⟨#[98,111,120]⟩) (numB n)
def helD(d:List UInt8)(n:Int):List UInt8:=deriveW d (sb ⟨#[104,101,108,108,111]⟩) (numB n)
theorem sgnW_len(h:List UInt8):(sgnW h).length=32:=sumW_length _
theorem lefW_len(h:List UInt8):(lefW h).length=32:=sumW_length _
theorem fstW_len(h:List UInt8):(fstW h).length=32:=sumW_length _
theorem iniW_len(h:List UInt8):(iniW h).length=32:=sumW_length _
theorem tagE_len(h:List UInt8):(tagE h).length=32:=sumW_length _
theorem epoW_len(j h:List UInt8):(epoW j h).length=32:=sumW_length _
theorem chnW_len(j h:List UInt8):(chnW j h).length=32:=sumW_length _
theorem viewHV_len(e:Int)(zs:List Int)(ad:List Bool)(k:Int)(ch:List UInt8):(viewHV e zs ad k ch).length=32:=sumW_length _
theorem upW_len(h:List UInt8):(upW h).length=96:=by simp[upW,nextW_len]
def nodeY(h:List UInt8):Int:=powI 4 (scal (nodeW h))
def leafZ(seed:List UInt8):List Int:=[powI 4 (scal (sgnW seed)),nodeY (lefW seed)]
abbrev zB(n:Nat):List UInt8:=List.replicate n 0
def by0(seed:List UInt8):PS:=⟨0,List.replicate 31 0,F8,0,zB 32,0,sgnW seed,lefW seed,zB 96,zB 32,zB 32⟩
def enterP(p:PS)(ep:List UInt8):PS:={ p with ep:=ep,ini:=iniW ep }
def reachP(p:PS)(joint:List UInt8):PS:=enterP p (epoW joint (viewHV p.e p.zs p.ad p.k p.ch))
def createP(seed:List UInt8):PS:=enterP ⟨0,leafZ seed++List.replicate 29 0,[true,false,false,false,false,false,false,false],1,zB 32,0,sgnW seed,lefW seed,zB 96,zB 32,zB 32⟩ (fstW (lefW seed))
def renewP(p:PS)(draw:List UInt8):PS:={ p with sc:=lefW draw,ab:=upW (lefW draw) }
def topW(h:List UInt8):List UInt8:=nextW (nextW (nextW (nextW h)))
def abK(ab:List UInt8)(k:Nat):List UInt8:=(ab.drop (k*32)).take 32
def behZ(zs:List Int)(fr sl a b c:Int):List Int:=
 (((zs.set (fr.toNat*2+1) sl).set (16+(fr / 2*4+1).toNat) a).set (16+(fr / 4*8+3).toNat) b).set 23 c
def boxW(y x:Int)(p:List UInt8):List UInt8:=
 fourB (powI 4 x)++tagW (shW y x) (fourB (powI 4 x)) (xorW (shW y x) p)++xorW (shW y x) p
def sealOk(y:Int)(p:List UInt8):Bool:=isI y&&decide (p.length≤200)
def sealB(y x:Int)(p:List UInt8):List UInt8:=if sealOk y p then boxW y x p else[]
def sealE(y:Int)(p:List UInt8):Int:=if sealOk y p then 0 else 1
def boxOf(zs:List Int)(up draw:List UInt8)(j:Nat)(x:Int×Int):List UInt8:=sealB (keyZ zs x.2) (scal (boxD draw j)) (abK up x.1.toNat)
def boxesP(zs:List Int)(lf:Int)(ng:List Bool)(up draw:List UInt8)(j:Nat):List UInt8:=boxOf zs up draw j ((planL zs lf ng).getD j (0,0))
def com0 (p : PS) (s : Vw) (n : Nat) (ops : List Int) (m : Nat) (vs : List Int) (draw : List UInt8) : CS :=
  { e := p.e, fr := p.lf, n := n, ops := ops, m := m, vs := vs, sl := nodeY (lefW draw), p0 := nodeY (nextW (lefW draw)), p1 := nodeY (nextW (nextW (lefW draw))), p2 := nodeY (nextW (nextW (nextW (lefW draw)))),
    k := (planL s.zs p.lf s.ng).length, bx := boxesP s.zs p.lf s.ng (upW (lefW draw)) draw, tag := zB 32, sE := 0, sS := 0 }
def behP(p:PS)(s:Vw)(c:CS):PS:={ p with e:=p.e+1,zs:=behZ s.zs c.fr c.sl c.p0 c.p1 c.p2,ad:=s.ad,k:=s.k,ch:=chnW p.ch (bodyB c) }
def joinP(p:PS)(draw:List UInt8):List UInt8:=joiW p.ini (topW (lefW draw))
def nextP(p:PS)(s:Vw)(n:Nat)(ops:List Int)(m:Nat)(vs:List Int)(draw:List UInt8):PS:=
 reachP (behP (renewP p draw) s (com0 p s n ops m vs draw)) (joinP p draw)
def comP(p:PS)(s:Vw)(n:Nat)(ops:List Int)(m:Nat)(vs:List Int)(draw:List UInt8):CS:=
 let c:=com0 p s n ops m vs draw
 let tg:=tagE (nextP p s n ops m vs draw).ep
 { c with tag:=tg,sE:=sigE (scal p.sg) (bodyB c++tg),sS:=sigS (scal p.sg) (bodyB c++tg) }
def comE(p:PS)(n:Nat)(ops:List Int)(m:Nat)(vs:List Int):Int:=
 if chkV p.e p.zs p.ad p.k p.ch p.lf ops n vs m≠0 then chkV p.e p.zs p.ad p.k p.ch p.lf ops n vs m else
 if(doR p.e ⟨p.zs,p.ad,p.k,F8,F8⟩ p.lf ops n).1≠0 then(doR p.e ⟨p.zs,p.ad,p.k,F8,F8⟩ p.lf ops n).1 else if p.e≥1099511627776 then 12 else 0
def placeI(lf node:Int):Int:=idx3 (lf / 2*4+1) (lf / 4*8+3) 7 node
def welBox(q:PS)(ab joint draw:List UInt8)(j:Nat):List UInt8:=
 sealB (q.zs.getD (j*2+1) 0) (scal (helD draw j)) (joint++abK ab (placeI q.lf (commonI j q.lf)).toNat)
def welSegs(q:PS)(ab joint tag draw:List UInt8)(j:Nat):List Seg:=
 [.ints .i64 2 [(j:Int),q.lf],.ints .i64 1 [q.e],.ints .i64 31 q.zs,.bools 8 q.ad,.ints .i64 1 [q.k],.bytes 32 q.ch,.gen 1 [.row (welBox q ab joint draw j).length [.bytes (welBox q ab joint draw j).length (welBox q ab joint draw j)]],.bytes 32 tag]
def welN(ng:List Bool):Nat→Nat
 |0=>0
 |j+1=>if ng.getD j false=true then welN ng j+1 else welN ng j
def welTo(f:Nat→List Seg)(ng:List Bool):Nat→List Seg
 |0=>[]
 |j+1=>if ng.getD j false=true then welTo f ng j++f j else welTo f ng j
end
section
open Pm
attribute [local irreducible] condK LoopA regA numB numsB boxB
theorem first_P0(p:Nat→Bool):∀(n:Nat),∃N,N≤n∧(∀j,j<N→p j=false)∧(N=n∨(N<n∧p N=true))
 |0=>⟨0,Nat.le_refl _,fun j hj=>absurd hj (by omega),.inl rfl⟩
 |n+1=>by
  obtain⟨N,h1,h2,h3⟩:=first_P0 p n
  rcases h3 with rfl|⟨h3,h4⟩
  ·cases h:p N with
   |false=>
    exact⟨N+1,Nat.le_refl _,fun j hj=>by
     rcases Nat.lt_or_ge j N with h5|h5
     ·exact h2 j h5
     ·exact(show j=N by omega)▸h,.inl rfl⟩
   |true=>exact⟨N,by omega,h2,.inr ⟨by omega,h⟩⟩
  ·exact⟨N,by omega,h2,.inr ⟨by omega,h4⟩⟩
theorem first_P(p:Nat→Bool)(n:Nat):∃N,N≤n∧(∀j,j<N→p j=false)∧(N=n∧idxP p n= -1∨N<n∧p N=true∧idxP p n=(N:Int)):=by
 obtain⟨N,h1,h2,h3⟩:=first_P0 p n
 refine⟨N,h1,h2,?_⟩
 rcases h3 with rfl|⟨h3,h4⟩
 ·exact .inl ⟨rfl,idxP_none h2⟩
 ·exact .inr ⟨h3,h4,idxP_at h3 h4 h2⟩
def anyP(p:Nat→Bool)(n:Nat):Bool:=decide (idxP p n≥0)
theorem idxP_anyP(p:Nat→Bool)(n:Nat):decide (idxP p n≥0)=anyP p n:=rfl
theorem anyP_iff(p:Nat→Bool)(n:Nat):anyP p n=true↔∃j,j<n∧p j=true:=by
 unfold anyP
 rw[decide_eq_true_iff]
 obtain⟨N,h1,h2,h3⟩:=first_P p n
 rcases h3 with⟨h3,h4⟩|⟨h3,h4,h5⟩
 ·rw[h4]
  constructor
  ·intro h;omega
  ·rintro⟨j,hj,hp⟩;rw[h2 j (by omega)]at hp;cases hp
 ·rw[h5]
  exact⟨fun _=>⟨N,h3,h4⟩,fun _=>by omega⟩
attribute [local irreducible] anyP idxP
def withinB(n m:Int):Bool:=decide (n≥0)&&decide (n≤m)
theorem within_ok(n m:Int):FnO 176 [.v (.int .i64 n),.v (.int .i64 m)] (.d (.v (.bool (withinB n m)))):=by
 refine fnA (E:=envC4) Tryz.func176 Tryz.ntmps176 ?_
 by_cases h0:n≥0
 ·have e:withinB n m=decide (n≤m):=by simp[withinB,h0]
  rw[e]
  clear e
  refine agow ?_;(try exact⟨⟩)
 ·have e:withinB n m=false:=by simp[withinB,h0]
  rw[e]
  clear e
  refine agow ?_;(try exact⟨⟩)
def withinS:List A→(Res→Prop)→Prop
 |[.v (.int .i64 n),.v (.int .i64 m)],K=>K (.d (.v (.bool (withinB n m))))
 |_,_=>False
theorem withinS_ok:∀args K,withinS args K→∃r,FnO 176 args r∧K r:=by
 intro args K h
 unfold withinS at h
 split at h
 ·exact⟨_,within_ok _ _,h⟩
 ·exact h.elim
attribute [local irreducible] withinB
noncomputable def envC5:EnvX:=envC4.add 176 withinS withinS_ok ⟨_,Tryz.func176,by kernel_rfl,by kernel_rfl⟩
theorem isLeaf_ok(n:Int):FnO 177 [.v (.int .i64 n)] (.d (.v (.bool (withinB n 7)))):=by
 refine fnA (E:=envC5) Tryz.func177 Tryz.ntmps177 ?_
 refine agow ?_;(try exact⟨⟩)
def isLeafS:List A→(Res→Prop)→Prop
 |[.v (.int .i64 n)],K=>K (.d (.v (.bool (withinB n 7))))
 |_,_=>False
theorem isLeafS_ok:∀args K,isLeafS args K→∃r,FnO 177 args r∧K r:=by
 intro args K h
 unfold isLeafS at h
 split at h
 ·exact⟨_,isLeaf_ok _,h⟩
 ·exact h.elim
noncomputable def envC6:EnvX:=envC5.add 177 isLeafS isLeafS_ok ⟨_,Tryz.func177,by kernel_rfl,by kernel_rfl⟩
def sigB(e s:Int):Bool:=withinB e 1073741788&&withinB s 1073741788
theorem isSig_ok(e s:Int):FnO 178 [.agg [.ints .i64 2 [e,s]]] (.d (.v (.bool (sigB e s)))):=by
 refine fnA (E:=envC6) Tryz.func178 Tryz.ntmps178 ?_
 cases h:withinB e 1073741788 with
 |true=>
  have e1:sigB e s=withinB s 1073741788:=by simp[sigB,h]
  rw[e1]
  clear e1
  refine agow ?_;(try exact⟨⟩)
 |false=>
  have e1:sigB e s=false:=by simp[sigB,h]
  rw[e1]
  clear e1
  refine agow ?_;(try exact⟨⟩)
def sigSp:List A→(Res→Prop)→Prop
 |[.agg [.ints .i64 2 o]],K=>K (.d (.v (.bool (sigB (o.getD 0 0) (o.getD 1 0)))))
 |_,_=>False
theorem sigSp_ok:∀args K,sigSp args K→∃r,FnO 178 args r∧K r:=by
 intro args K h
 unfold sigSp at h
 split at h
 ·next o=>
  refine⟨_,fn_lens fun hl=>?_,h⟩
  have hl2:o.length=2:=hl.1.1
  match o,hl2 with
  |[a,b],_=>exact isSig_ok a b
 ·exact h.elim
attribute [local irreducible] sigB
noncomputable def envC7:EnvX:=envC6.add 178 sigSp sigSp_ok ⟨_,Tryz.func178,by kernel_rfl,by kernel_rfl⟩
def oddOpB(o:List Int):Bool:=o.any fun z=>!withinB z 1099511627776
set_option maxHeartbeats 4000000 in
theorem oddOp_ok(o:List Int):FnO 179 [.agg [.ints .i64 5 o]] (.d (.v (.bool (oddOpB o)))):=by
 refine fn_lens fun hl=>?_
 have hl5:o.length=5:=hl.1.1
 match o,hl5 with
 |[a,b,c,d,e],_=>
 clear hl
 refine fnA (E:=envC7) Tryz.func179 Tryz.ntmps179 ?_
 refine agow ?_;(try exact⟨⟩)
 refine StopL.mk (loop_unroll 6 ?_)
 cases ha:withinB a 1099511627776 with
 |false=>
  have e1:oddOpB [a,b,c,d,e]=true:=by simp[oddOpB,ha]
  rw[e1]
  clear e1
  refine agow ?_;(try exact⟨⟩)
 |true=>
 cases hb:withinB b 1099511627776 with
 |false=>
  have e1:oddOpB [a,b,c,d,e]=true:=by simp[oddOpB,hb]
  rw[e1]
  clear e1
  refine agow ?_;(try exact⟨⟩)
 |true=>
 cases hc:withinB c 1099511627776 with
 |false=>
  have e1:oddOpB [a,b,c,d,e]=true:=by simp[oddOpB,hc]
  rw[e1]
  clear e1
  refine agow ?_;(try exact⟨⟩)
 |true=>
 cases hd:withinB d 1099511627776 with
 |false=>
  have e1:oddOpB [a,b,c,d,e]=true:=by simp[oddOpB,hd]
  rw[e1]
  clear e1
  refine agow ?_;(try exact⟨⟩)
 |true=>
 cases he:withinB e 1099511627776 with
 |false=>
  have e1:oddOpB [a,b,c,d,e]=true:=by simp[oddOpB,he]
  rw[e1]
  clear e1
  refine agow ?_;(try exact⟨⟩)
 |true=>
  have e1:oddOpB [a,b,c,d,e]=false:=by simp[oddOpB,ha,hb,hc,hd,he]
  rw[e1]
  clear e1
  refine agow ?_;(try exact⟨⟩)
def oddOpS:List A→(Res→Prop)→Prop
 |[.agg [.ints .i64 5 o]],K=>K (.d (.v (.bool (oddOpB o))))
 |_,_=>False
theorem oddOpS_ok:∀args K,oddOpS args K→∃r,FnO 179 args r∧K r:=by
 intro args K h
 unfold oddOpS at h
 split at h
 ·exact⟨_,oddOp_ok _,h⟩
 ·exact h.elim
attribute [local irreducible] oddOpB
noncomputable def envC8:EnvX:=envC7.add 179 oddOpS oddOpS_ok ⟨_,Tryz.func179,by kernel_rfl,by kernel_rfl⟩
def oddVoteB(o:List Int):Bool:=!withinB (o.getD 0 0) 7|| !sigB (o.getD 1 0) (o.getD 2 0)
theorem oddVote_ok(o:List Int):FnO 181 [.agg [.ints .i64 3 o]] (.d (.v (.bool (oddVoteB o)))):=by
 refine fn_lens fun hl=>?_
 have hl3:o.length=3:=hl.1.1
 match o,hl3 with
 |[a,b,c],_=>
 clear hl
 refine fnA (E:=envC8) Tryz.func181 Tryz.ntmps181 ?_
 cases ha:withinB a 7 with
 |false=>
  have e1:oddVoteB [a,b,c]=true:=by simp[oddVoteB,ha]
  rw[e1]
  clear e1
  refine agow ?_;(try exact⟨⟩)
 |true=>
  have e1:oddVoteB [a,b,c]=!sigB b c:=by simp[oddVoteB,ha]
  rw[e1]
  clear e1
  refine agow ?_;(try exact⟨⟩)
  try rfl
def oddVoteS:List A→(Res→Prop)→Prop
 |[.agg [.ints .i64 3 o]],K=>K (.d (.v (.bool (oddVoteB o))))
 |_,_=>False
theorem oddVoteS_ok:∀args K,oddVoteS args K→∃r,FnO 181 args r∧K r:=by
 intro args K h
 unfold oddVoteS at h
 split at h
 ·exact⟨_,oddVote_ok _,h⟩
 ·exact h.elim
attribute [local irreducible] oddVoteB
noncomputable def envC9:EnvX:=envC8.add 181 oddVoteS oddVoteS_ok ⟨_,Tryz.func181,by kernel_rfl,by kernel_rfl⟩
theorem oddBox_ok(n:Nat)(bs:List UInt8):FnO 183 [.row n [.bytes n bs]] (.d (.v (.bool (decide ((n:Int)>300))))):=by
 refine fnA (E:=envC9) Tryz.func183 Tryz.ntmps183 ?_
 refine agow ?_;(try exact⟨⟩)
def oddBoxS:List A→(Res→Prop)→Prop
 |[.row n [.bytes m bs]],K=>m=n∧K (.d (.v (.bool (decide ((n:Int)>300)))))
 |_,_=>False
theorem oddBoxS_ok:∀args K,oddBoxS args K→∃r,FnO 183 args r∧K r:=by
 intro args K h
 unfold oddBoxS at h
 split at h
 ·obtain⟨rfl,h⟩:=h;exact⟨_,oddBox_ok _ _,h⟩
 ·exact h.elim
noncomputable def envCa:EnvX:=envC9.add 183 oddBoxS oddBoxS_ok ⟨_,Tryz.func183,by kernel_rfl,by kernel_rfl⟩
def atK(K:Nat)(zs:List Int)(j:Nat):List Int:=(zs.drop (j*K)).take K
set_option maxHeartbeats 4000000 in
theorem opIdx_ok(zs:List Int)(n:Nat)(hn:n≤3000):FnO 206 [.row n [.ints .i64 (n*5) zs],.v (.func (.func 179) #[] #[])] (.d (.v (.int .i64 (idxP (fun i=>oddOpB (atK 5 zs i)) n)))):=by
 refine fn_lens fun hl=>?_
 have hz:zs.length=n*5:=hl.1.1
 clear hl
 refine fnA (E:=envCa) Tryz.func206 Tryz.ntmps206 ?_
 obtain⟨N,hN,hno,hend⟩:=first_P (fun i=>oddOpB (atK 5 zs i)) n
 refine agow ?_;(try exact⟨⟩)
 refine StopL.mk (loop_forG [0,1,7,8] [0] N (fun j=>⟨[.d (.row n [.ints .i64 (n*5) zs]),.d (.v (.func (.func 179) #[] #[])),.dead,.dead,.dead,.dead,.dead,.d (.v (.int .i64 n)),.d (.v (.int .i64 (j:Nat))),.dead,.dead,.dead,.dead,.dead,.dead,.dead,.dead,.dead,.dead],[none]⟩) ?_)
 intro j hj hl
 by_cases h:j<N
 ·have h1:(j:Int)<(n:Int):=by omega
  have h2:oddOpB ((zs.drop (j*5)).take 5)=false:=hno j h
  clear hend hno
  refine agow ?_;(try exact⟨⟩)
  refine hl.go h [0,1,7,8] [0] ?_
  rfl
 ·obtain rfl:j=N:=by omega
  rcases hend with⟨rfl,h4⟩|⟨h3,h4,h5⟩
  ·have h1:¬(j:Int)<(j:Int):=by omega
   rw[h4]
   clear h4 hno
   refine agow ?_;(try exact⟨⟩)
  ·have h1:(j:Int)<(n:Int):=by omega
   have h2:oddOpB ((zs.drop (j*5)).take 5)=true:=h4
   rw[h5]
   clear h4 h5 hno
   refine agow ?_;(try exact⟨⟩)
def opIdxS:List A→(Res→Prop)→Prop
 |[.row n [.ints .i64 m zs],.v (.func (.func g) a b)],K=>m=n*5∧n≤3000∧g=179∧a=#[]∧b=#[]∧K (.d (.v (.int .i64 (idxP (fun i=>oddOpB (atK 5 zs i)) n))))
 |_,_=>False
theorem opIdxS_ok:∀args K,opIdxS args K→∃r,FnO 206 args r∧K r:=by
 intro args K h
 unfold opIdxS at h
 split at h
 ·obtain⟨rfl,h1,rfl,rfl,rfl,h⟩:=h
  exact⟨_,opIdx_ok _ _ h1,h⟩
 ·exact h.elim
noncomputable def envCb:EnvX:=envCa.add 206 opIdxS opIdxS_ok ⟨_,Tryz.func206,by kernel_rfl,by kernel_rfl⟩
theorem opHas_ok(zs:List Int)(n:Nat)(hn:n≤3000):FnO 153 [.row n [.ints .i64 (n*5) zs],.v (.func (.func 179) #[] #[])] (.d (.v (.bool (anyP (fun i=>oddOpB (atK 5 zs i)) n)))):=by
 refine fnA (E:=envCb) Tryz.func153 Tryz.ntmps153 ?_
 refine agow ?_;(try exact⟨⟩)
 rw[idxP_anyP]
def opHasS:List A→(Res→Prop)→Prop
 |[.row n [.ints .i64 m zs],.v (.func (.func g) a b)],K=>m=n*5∧n≤3000∧g=179∧a=#[]∧b=#[]∧K (.d (.v (.bool (anyP (fun i=>oddOpB (atK 5 zs i)) n))))
 |_,_=>False
theorem opHasS_ok:∀args K,opHasS args K→∃r,FnO 153 args r∧K r:=by
 intro args K h
 unfold opHasS at h
 split at h
 ·obtain⟨rfl,h1,rfl,rfl,rfl,h⟩:=h
  exact⟨_,opHas_ok _ _ h1,h⟩
 ·exact h.elim
noncomputable def envCc:EnvX:=envCb.add 153 opHasS opHasS_ok ⟨_,Tryz.func153,by kernel_rfl,by kernel_rfl⟩
set_option maxHeartbeats 4000000 in
theorem voteIdx_ok(zs:List Int)(n:Nat)(hn:n≤3000):FnO 214 [.row n [.ints .i64 (n*3) zs],.v (.func (.func 181) #[] #[])] (.d (.v (.int .i64 (idxP (fun i=>oddVoteB (atK 3 zs i)) n)))):=by
 refine fn_lens fun hl=>?_
 have hz:zs.length=n*3:=hl.1.1
 clear hl
 refine fnA (E:=envCc) Tryz.func214 Tryz.ntmps214 ?_
 obtain⟨N,hN,hno,hend⟩:=first_P (fun i=>oddVoteB (atK 3 zs i)) n
 refine agow ?_;(try exact⟨⟩)
 refine StopL.mk (loop_forG [0,1,7,8] [0] N (fun j=>⟨[.d (.row n [.ints .i64 (n*3) zs]),.d (.v (.func (.func 181) #[] #[])),.dead,.dead,.dead,.dead,.dead,.d (.v (.int .i64 n)),.d (.v (.int .i64 (j:Nat))),.dead,.dead,.dead,.dead,.dead,.dead,.dead,.dead,.dead,.dead],[none]⟩) ?_)
 intro j hj hl
 by_cases h:j<N
 ·have h1:(j:Int)<(n:Int):=by omega
  have h2:oddVoteB ((zs.drop (j*3)).take 3)=false:=hno j h
  clear hend hno
  refine agow ?_;(try exact⟨⟩)
  refine hl.go h [0,1,7,8] [0] ?_
  rfl
 ·obtain rfl:j=N:=by omega
  rcases hend with⟨rfl,h4⟩|⟨h3,h4,h5⟩
  ·have h1:¬(j:Int)<(j:Int):=by omega
   rw[h4]
   clear h4 hno
   refine agow ?_;(try exact⟨⟩)
  ·have h1:(j:Int)<(n:Int):=by omega
   have h2:oddVoteB ((zs.drop (j*3)).take 3)=true:=h4
   rw[h5]
   clear h4 h5 hno
   refine agow ?_;(try exact⟨⟩)
def voteIdxS:List A→(Res→Prop)→Prop
 |[.row n [.ints .i64 m zs],.v (.func (.func g) a b)],K=>m=n*3∧n≤3000∧g=181∧a=#[]∧b=#[]∧K (.d (.v (.int .i64 (idxP (fun i=>oddVoteB (atK 3 zs i)) n))))
 |_,_=>False
theorem voteIdxS_ok:∀args K,voteIdxS args K→∃r,FnO 214 args r∧K r:=by
 intro args K h
 unfold voteIdxS at h
 split at h
 ·obtain⟨rfl,h1,rfl,rfl,rfl,h⟩:=h
  exact⟨_,voteIdx_ok _ _ h1,h⟩
 ·exact h.elim
noncomputable def envCd:EnvX:=envCc.add 214 voteIdxS voteIdxS_ok ⟨_,Tryz.func214,by kernel_rfl,by kernel_rfl⟩
theorem voteHas_ok(zs:List Int)(n:Nat)(hn:n≤3000):FnO 180 [.row n [.ints .i64 (n*3) zs],.v (.func (.func 181) #[] #[])] (.d (.v (.bool (anyP (fun i=>oddVoteB (atK 3 zs i)) n)))):=by
 refine fnA (E:=envCd) Tryz.func180 Tryz.ntmps180 ?_
 refine agow ?_;(try exact⟨⟩)
 rw[idxP_anyP]
def voteHasS:List A→(Res→Prop)→Prop
 |[.row n [.ints .i64 m zs],.v (.func (.func g) a b)],K=>m=n*3∧n≤3000∧g=181∧a=#[]∧b=#[]∧K (.d (.v (.bool (anyP (fun i=>oddVoteB (atK 3 zs i)) n))))
 |_,_=>False
theorem voteHasS_ok:∀args K,voteHasS args K→∃r,FnO 180 args r∧K r:=by
 intro args K h
 unfold voteHasS at h
 split at h
 ·obtain⟨rfl,h1,rfl,rfl,rfl,h⟩:=h
  exact⟨_,voteHas_ok _ _ h1,h⟩
 ·exact h.elim
noncomputable def envCe:EnvX:=envCd.add 180 voteHasS voteHasS_ok ⟨_,Tryz.func180,by kernel_rfl,by kernel_rfl⟩
set_option maxHeartbeats 4000000 in
theorem boxIdx_ok(bx:Nat→List UInt8)(n:Nat)(hn:n≤3000):FnO 215 [.recs n 1 (boxF bx),.v (.func (.func 183) #[] #[])] (.d (.v (.int .i64 (idxP (fun i=>decide (((bx i).length:Int)>300)) n)))):=by
 skip
 refine fnA (E:=envCe) Tryz.func215 Tryz.ntmps215 ?_
 obtain⟨N,hN,hno,hend⟩:=first_P (fun i=>decide (((bx i).length:Int)>300)) n
 refine agow ?_;(try exact⟨⟩)
 refine StopL.mk (loop_forG [0,1,7,8] [0] N (fun j=>⟨[.d (.recs n 1 (boxF bx)),.d (.v (.func (.func 183) #[] #[])),.dead,.dead,.dead,.dead,.dead,.d (.v (.int .i64 n)),.d (.v (.int .i64 (j:Nat))),.dead,.dead,.dead,.dead,.dead,.dead,.dead,.dead,.dead,.dead],[none]⟩) ?_)
 intro j hj hl
 by_cases h:j<N
 ·have h1:(j:Int)<(n:Int):=by omega
  have h2:decide (((bx j).length:Int)>300)=false:=hno j h
  clear hend hno
  refine agow ?_;(try exact⟨⟩)
  refine hl.go h [0,1,7,8] [0] ?_
  rfl
 ·obtain rfl:j=N:=by omega
  rcases hend with⟨rfl,h4⟩|⟨h3,h4,h5⟩
  ·have h1:¬(j:Int)<(j:Int):=by omega
   rw[h4]
   clear h4 hno
   refine agow ?_;(try exact⟨⟩)
  ·have h1:(j:Int)<(n:Int):=by omega
   have h2:decide (((bx j).length:Int)>300)=true:=h4
   rw[h5]
   clear h4 h5 hno
   refine agow ?_;(try exact⟨⟩)
def boxIdxS:List A→(Res→Prop)→Prop
 |[.recs n s f,.v (.func (.func g) a b)],K=>s=1∧n≤3000∧∃bx,f=boxF bx∧g=183∧a=#[]∧b=#[]∧K (.d (.v (.int .i64 (idxP (fun i=>decide (((bx i).length:Int)>300)) n))))
 |_,_=>False
theorem boxIdxS_ok:∀args K,boxIdxS args K→∃r,FnO 215 args r∧K r:=by
 intro args K h
 unfold boxIdxS at h
 split at h
 ·obtain⟨rfl,h1,bx,rfl,rfl,rfl,rfl,h⟩:=h
  exact⟨_,boxIdx_ok _ _ h1,h⟩
 ·exact h.elim
noncomputable def envCf:EnvX:=envCe.add 215 boxIdxS boxIdxS_ok ⟨_,Tryz.func215,by kernel_rfl,by kernel_rfl⟩
theorem boxHas_ok(bx:Nat→List UInt8)(n:Nat)(hn:n≤3000):FnO 182 [.recs n 1 (boxF bx),.v (.func (.func 183) #[] #[])] (.d (.v (.bool (anyP (fun i=>decide (((bx i).length:Int)>300)) n)))):=by
 refine fnA (E:=envCf) Tryz.func182 Tryz.ntmps182 ?_
 refine agow ?_;(try exact⟨⟩)
 rw[idxP_anyP]
def boxHasS:List A→(Res→Prop)→Prop
 |[.recs n s f,.v (.func (.func g) a b)],K=>s=1∧n≤3000∧∃bx,f=boxF bx∧g=183∧a=#[]∧b=#[]∧K (.d (.v (.bool (anyP (fun i=>decide (((bx i).length:Int)>300)) n))))
 |_,_=>False
theorem boxHasS_ok:∀args K,boxHasS args K→∃r,FnO 182 args r∧K r:=by
 intro args K h
 unfold boxHasS at h
 split at h
 ·obtain⟨rfl,h1,bx,rfl,rfl,rfl,rfl,h⟩:=h
  exact⟨_,boxHas_ok _ _ h1,h⟩
 ·exact h.elim
noncomputable def envCg:EnvX:=envCf.add 182 boxHasS boxHasS_ok ⟨_,Tryz.func182,by kernel_rfl,by kernel_rfl⟩
end
section
open Pm
attribute [local irreducible] condK LoopA regA numB numsB boxB anyP idxP withinB sigB oddOpB oddVoteB
def mayB(c:CS):Bool:=withinB c.e 1099511627776&&(withinB c.fr 7&&(sigB c.sE c.sS&&(withinB c.sl 2147483579&&(withinB c.p0 2147483579&&(withinB c.p1 2147483579&&(withinB c.p2 2147483579&&(decide ((c.n:Int)≤4)&&((!anyP (fun i=>oddOpB (atK 5 c.ops i)) c.n)&&(decide ((c.m:Int)≤8)&&((!anyP (fun i=>oddVoteB (atK 3 c.vs i)) c.m)&&(decide ((c.k:Int)≤16)&&((!anyP (fun i=>decide (((c.bx i).length:Int)>300)) c.k)))))))))))))
set_option maxHeartbeats 8000000 in
theorem mayBe_ok(c:CS)(hc:CSok c):FnO 129 [.agg (cSegs c)] (.d (.v (.bool (mayB c)))):=by
 refine fnA (E:=envCg) Tryz.func129 Tryz.ntmps129 ?_
 obtain⟨b1,b2,b3,b4,b5,b6⟩:=hc
 cases h1:withinB c.e 1099511627776
 case false=>
  have e1:mayB c=false:=by simp[mayB,h1]
  rw[e1]
  clear e1
  refine agow ?_;(try exact⟨⟩)
 cases h2:withinB c.fr 7
 case false=>
  have e1:mayB c=false:=by simp[mayB,h2]
  rw[e1]
  clear e1
  refine agow ?_;(try exact⟨⟩)
 cases h3:sigB c.sE c.sS
 case false=>
  have e1:mayB c=false:=by simp[mayB,h3]
  rw[e1]
  clear e1
  refine agow ?_;(try exact⟨⟩)
 cases h4:withinB c.sl 2147483579
 case false=>
  have e1:mayB c=false:=by simp[mayB,h4]
  rw[e1]
  clear e1
  refine agow ?_;(try exact⟨⟩)
 cases h5:withinB c.p0 2147483579
 case false=>
  have e1:mayB c=false:=by simp[mayB,h5]
  rw[e1]
  clear e1
  refine agow ?_;(try exact⟨⟩)
  refine StopL.mk (loop_unroll 4 ?_)
  refine agow ?_;(try exact⟨⟩)
 cases h6:withinB c.p1 2147483579
 case false=>
  have e1:mayB c=false:=by simp[mayB,h6]
  rw[e1]
  clear e1
  refine agow ?_;(try exact⟨⟩)
  refine StopL.mk (loop_unroll 4 ?_)
  refine agow ?_;(try exact⟨⟩)
 cases h7:withinB c.p2 2147483579
 case false=>
  have e1:mayB c=false:=by simp[mayB,h7]
  rw[e1]
  clear e1
  refine agow ?_;(try exact⟨⟩)
  refine StopL.mk (loop_unroll 4 ?_)
  refine agow ?_;(try exact⟨⟩)
 by_cases h8:((c.n:Int)≤4)
 case neg=>
  have e1:mayB c=false:=by simp[mayB,h8]
  rw[e1]
  clear e1
  refine agow ?_;(try exact⟨⟩)
  refine StopL.mk (loop_unroll 4 ?_)
  refine agow ?_;(try exact⟨⟩)
 cases h9:anyP (fun i=>oddOpB (atK 5 c.ops i)) c.n
 case true=>
  have e1:mayB c=false:=by simp[mayB,h9]
  rw[e1]
  clear e1
  refine agow ?_;(try exact⟨⟩)
  refine StopL.mk (loop_unroll 4 ?_)
  refine agow ?_;(try exact⟨⟩)
 by_cases ha:((c.m:Int)≤8)
 case neg=>
  have e1:mayB c=false:=by simp[mayB,ha]
  rw[e1]
  clear e1
  refine agow ?_;(try exact⟨⟩)
  refine StopL.mk (loop_unroll 4 ?_)
  refine agow ?_;(try exact⟨⟩)
 cases hb:anyP (fun i=>oddVoteB (atK 3 c.vs i)) c.m
 case true=>
  have e1:mayB c=false:=by simp[mayB,hb]
  rw[e1]
  clear e1
  refine agow ?_;(try exact⟨⟩)
  refine StopL.mk (loop_unroll 4 ?_)
  refine agow ?_;(try exact⟨⟩)
 by_cases hc:((c.k:Int)≤16)
 case neg=>
  have e1:mayB c=false:=by simp[mayB,hc]
  rw[e1]
  clear e1
  refine agow ?_;(try exact⟨⟩)
  refine StopL.mk (loop_unroll 4 ?_)
  refine agow ?_;(try exact⟨⟩)
 cases hd:anyP (fun i=>decide (((c.bx i).length:Int)>300)) c.k
 case true=>
  have e1:mayB c=false:=by simp[mayB,hd]
  rw[e1]
  clear e1
  refine agow ?_;(try exact⟨⟩)
  refine StopL.mk (loop_unroll 4 ?_)
  refine agow ?_;(try exact⟨⟩)
  rw[hd];rfl
 have e1:mayB c=true:=by simp[mayB,h1,h2,h3,h4,h5,h6,h7,h8,h9,ha,hb,hc,hd]
 rw[e1]
 clear e1
 refine agow ?_;(try exact⟨⟩)
 refine StopL.mk (loop_unroll 4 ?_)
 refine agow ?_;(try exact⟨⟩)
 rw[hd];rfl
end
section
theorem cat_flat(L:List (List UInt8))(k:Nat)(h:k<L.length):(L.take (k+1)).flatten=(L.take k).flatten++L[k]:=by
 rw[List.take_succ_eq_append_getElem h,List.flatten_append];simp
theorem cat_le(L:List (List UInt8))(k:Nat):(L.take k).flatten.length≤L.flatten.length:=by
 have h:(L.take k++L.drop k).flatten.length=L.flatten.length:=by rw[List.take_append_drop]
 simp only[List.flatten_append,List.length_append]at h
 omega
theorem zeroCells8(n:Nat):Builtin.zeroCells (Value.int .u8 0).cells n=HC (List.replicate n 0):=by
 refine Array.toList_inj.1 (List.ext_getElem? fun i=>?_)
 rw[HC_toList]
 simp only[Builtin.zeroCells,HL,Value.cells,List.getElem?_map,List.getElem?_replicate]
 by_cases h:i<n
 ·simp[h,Bt,Nat.mod_one]
 ·simp[h]
theorem HC_append(a b:List UInt8):HC a++HC b=HC (a++b):=by simp[HC]
set_option maxHeartbeats 2000000 in
theorem grow_any(n:Nat)(hn:n≤140737488354000)(w:World):
  Calls Tryz.prog 175 #[.slice none 0 0,.int .i64 n] w fun e w'=>∃v,e=.returned v∧Own8 w' w.heap.size 5 v []∧Below w.heap.size w w':=by
 by_cases h0:n=0
 ·subst h0
  go_enter Tryz.func175,Tryz.ntmps175
  go_wp2
  go_ret
  exact⟨_,rfl,World.ownsRow_nil _ _ _ _,Below.refl _ _⟩
 obtain⟨i0,hi,hz0,hz1,hz2⟩:=info_parts info8
 have hr:∀ty,(Builtin.append_ #[35,3] ty #[.slice none 0 0,.int .i64 n]).run Tryz.prog w=_:=fun ty=>
  Lib.run_append_nil_zeros w 35 3 ty 5 i0 (.int .u8 0) .i64 .i64 Tryz.underlying35 Tryz.underlying3 hi hz0 n (by omega) (by omega) (by omega) (by rw[hz2];omega)
 have hG1:=grownCap_ge w n 0 5
 have hG2:=grownCap_le_maxLen w n 0 5 (by unfold maxLen;omega)
 obtain⟨G,hG⟩:∃G,G=grownCap w n 0 5:=⟨_,rfl⟩
 rw[←hG]at hr hG1 hG2
 have hG0:List.replicate n (0:UInt8)++List.replicate (G-n) 0=List.replicate G 0:=by rw[List.replicate_append_replicate];congr 1;omega
 rw[zeroCells8,zeroCells8,HC_append,hG0]at hr
 clear hG
 have hG63:G≤9223372036854775807:=by unfold maxLen at hG2;omega
 have h4:(n:Int)>0:=by omega
 have H1:=Lib.hid hG1;have H2:=Lib.hid hG2
 clear hG2
 go_enter Tryz.func175,Tryz.ntmps175
 go_wp2_with (at_builtin;refine Lib.wpList_append_run _ rfl _ _ _ _ rfl _ _ rfl rfl _ _ (hr _) ?_)
 go_ret
 refine⟨_,rfl,⟨rfl,.inr ⟨w.heap.size,G,HC (List.replicate G 0),rfl,Nat.le_refl _,?_,Nat.zero_le _,H2.out,?_,?_⟩⟩,((Below.refl _ _).next (Nat.le_refl _) _).drew⟩
 ·exact heap_alloc_new w _
 ·rw[HC_size];simp
 ·simp[HL]
set_option maxRecDepth 100000 in
set_option maxHeartbeats 2000000 in
theorem concat_any (a : Option Addr) (len cap : Nat) (L : List (List UInt8)) (w : World) (hp : RowN w a len L) (hbound : L.flatten.length ≤ 140737488354000) :
    Calls Tryz.prog 128 #[.slice a len cap] w fun e w' => ∃ v, e = .returned v ∧ Own8 w' w.heap.size 5 v L.flatten ∧ Below w.heap.size w w' := by
  have hlen := hp.len_eq
  have hsm := hp.small
  unfold maxLen at hsm
  subst hlen
  have hcells : ∀ (k : Nat) (hlt : k < L.length) (wr : World), Below w.heap.size w wr → ∃ b off, a = some ⟨b, off, none⟩ ∧ ∃ a' l' c', wr.cell? ⟨b, off + k, none⟩ = some (.slice a' l' c') ∧ RowC w a' l' c' L[k] := by
    intro k hlt wr hB
    rcases hp.cells with h1 | ⟨b, off, rfl, hc⟩
    · simp [h1] at hlt
    · obtain ⟨a', l', c', h2, h3⟩ := hc k hlt
      exact ⟨b, off, rfl, a', l', c', (hB.cell (block_lt_of_cell h2)).trans h2, h3⟩
  have HP := Lib.hid hcells; have HBD := Lib.hid hbound
  clear hp hbound hcells
  go_enter Tryz.func128, Tryz.ntmps128
  go_wp2
  go_loopw [3, 5, 11] (fun z s i wr => ∃ k : Nat, k ≤ L.length ∧ i = .int .i64 k ∧ z = .int .i64 ((L.take k).flatten.length : Nat) ∧ w = wr) (fun _ _ i _ => L.length - (intOf i).toNat)
  case atStart => exact ⟨0, Nat.zero_le _, rfl, rfl, rfl⟩
  case round =>
    obtain ⟨k, hk, rfl, rfl, rfl⟩ := hrel
    by_cases hlt : k < L.length
    · obtain ⟨b, off, rfl, a', l', c', hcell, hrow⟩ := HP.out k hlt w (Below.refl _ _)
      have hl' := hrow.row.len_eq
      subst hl'
      have hle : (L.take k).flatten.length + L[k].length ≤ 140737488354000 := by
        have h1 := cat_le L (k + 1)
        rw [cat_flat L k hlt, List.length_append] at h1
        have := HBD.out; omega
      clear hrow
      obtain ⟨m, hm⟩ : ∃ m, (L.take k).flatten.length = m := ⟨_, rfl⟩
      obtain ⟨m2, hm2⟩ : ∃ m, L[k].length = m := ⟨_, rfl⟩
      rw [hm, hm2] at hle
      rw [hm]
      rw [hm2] at hcell
      have HM := Lib.hid hm; have HM2 := Lib.hid hm2
      clear hm hm2
      have hw : RowKit.wrap64 ((m : Int) + (m2 : Int)) = ((m + m2 : Nat) : Int) := by rw [IntWalk.wrap64_in _ (by omega)]; omega
      have hn : ¬ (((m + m2 : Nat) : Int) < 0) := by omega
      go_wp2
      go_roundw
      case rel =>
        refine ⟨k + 1, by omega, by go_num, ?_, by first | trivial | rfl⟩
        rw [cat_flat L k hlt, List.length_append, HM.out, HM2.out, Int.natCast_add]
      case measure => simp [intOf]; omega
    · have hkl : k = L.length := by omega
      subst hkl
      rw [List.take_length]
      obtain ⟨m, hm⟩ : ∃ m, L.flatten.length = m := ⟨_, rfl⟩
      rw [hm]
      have hmb : m ≤ 140737488354000 := by have := HBD.out; omega
      have HM := Lib.hid hm
      clear hm
      go_wp2_with (go_at_call 175; refine (grow_any m (by omega) _).mono ?_; rintro e w1 ⟨v1, rfl, hO1, hB1⟩
                   have HO1 := Lib.hid hO1; have HB1 := Lib.hid hB1
                   clear hO1 hB1)
      go_loopw [6, 8, 27] (fun b s i w2 => ∃ k : Nat, k ≤ L.length ∧ i = .int .i64 k ∧ Own8 w2 w.heap.size 5 b (L.take k).flatten ∧ Below w.heap.size w w2) (fun _ _ i _ => L.length - (intOf i).toNat)
      case atStart => exact ⟨0, Nat.zero_le _, rfl, HO1.out, HB1.out⟩
      case round =>
        obtain ⟨k, hk, rfl, hO, hB⟩ := hrel
        by_cases hlt : k < L.length
        · obtain ⟨b, off, rfl, a', l', c', hcell, hrow⟩ := HP.out k hlt _ hB
          have hrow2 := hrow.row.below hB
          have hle : (L.take k).flatten.length + L[k].length ≤ 140737488355328 := by
            have h1 := cat_le L (k + 1)
            rw [cat_flat L k hlt, List.length_append] at h1
            have := HBD.out; omega
          have HO := Lib.hid hO; have HB := Lib.hid hB; have HW := Lib.hid hrow2; have HN := Lib.hid hrow.nil; have HLE := Lib.hid hle
          clear hO hB hrow hrow2 hle
          go_wp2_with (at_builtin
                       refine wpList_append8 rfl (.tmp 31) (.tmp 32) 35 rfl w.heap.size 5 Tryz.underlying35 info8 _ (L.take k).flatten rfl HO.out _ _ _ L[k] rfl HW.out HN.out HLE.out HB.out.size ?_
                       intro v3 w3 hown3 hg3 hb3
                       have HO3 := Lib.hid hown3; have HB3 := Lib.hid hb3
                       clear hown3 hg3 hb3)
          go_roundw
          case rel =>
            refine ⟨k + 1, by omega, by go_num, ?_, HB.out.trans HB3.out⟩
            rw [cat_flat L k hlt]; exact HO3.out
          case measure => simp [intOf]; omega
        · rw [List.take_of_length_le (by omega)] at hO
          have HO := Lib.hid hO; have HB := Lib.hid hB
          clear hO hB
          go_wp2
          go_ret
          exact ⟨_, rfl, HO.out, HB.out⟩
end
section
open Pm
attribute [local irreducible] condK LoopA regA numB numsB boxB anyP idxP withinB sigB oddOpB oddVoteB
theorem concatS_ok:∀args K,joinS' args K→∃r,FnO 128 args r∧K r:=by
 intro args K hd
 unfold joinS' at hd
 split at hd
 ·next x=>
  obtain⟨L,⟨hb,hK⟩,hL⟩:=rowsOfK_spec hd
  refine⟨_,fn_own8 (f:=128) (args:=[x]) (bs:=L.flatten) fun S w vs ha=>?_,hK⟩
  obtain⟨v,rfl,h1⟩:=ra_one ha
  obtain⟨a,n,c,rfl,h2,h3,h4⟩:=hL h1
  refine concat_any a n c L w ⟨h2.len_eq,h2.small,?_⟩ (by omega)
  rcases h4 with h4|⟨b,off,h5,h6⟩
  ·exact .inl h4
  ·refine .inr ⟨b,off,h5,fun i hi=>?_⟩
   obtain⟨a',l',c',e1,e2,e3⟩:=h6 i hi
   exact⟨a',l',c',e1,⟨e2,e3⟩⟩
 ·exact hd.elim
def cS(res:CS→Res):List A→(Res→Prop)→Prop
 |[.agg l],K=>∃c,l=cSegs c∧CSok c∧K (res c)
 |_,_=>False
theorem cS_of{f:FuncId}{res:CS→Res}(h:∀c,CSok c→FnO f [.agg (cSegs c)] (res c)):∀args K,cS res args K→∃r,FnO f args r∧K r:=by
 intro args K hd
 unfold cS at hd
 split at hd
 ·obtain⟨c,rfl,h1,h2⟩:=hd
  exact⟨_,h c h1,h2⟩
 ·exact hd.elim
noncomputable def envCh:EnvX:=envCg.add 128 joinS' concatS_ok ⟨_,Tryz.func128,by kernel_rfl,by kernel_rfl⟩
noncomputable def envCi:EnvX:=envCh.add 129 (cS fun c=>.d (.v (.bool (mayB c)))) (cS_of mayBe_ok) ⟨_,Tryz.func129,by kernel_rfl,by kernel_rfl⟩
noncomputable def envCj:EnvX:=envCi.add 124 (cS fun c=>.o 5 1 (bodyN c) [.bytes (bodyN c) (bodyB c)]) (cS_of wbody_ok) ⟨_,Tryz.func124,by kernel_rfl,by kernel_rfl⟩
def commitB(c:CS):List UInt8:=[1]++(bodyB c++(c.tag++numsB [c.sE,c.sS]))
def commitN(c:CS):Nat:=1+(bodyN c+(32+16))
def commitR(c:CS):Res:=if mayB c=true then .t [.row (commitN c) [.bytes (commitN c) (commitB c)],.v (.int .i64 0)]else .t [.v (.slice none 0 0),.v (.int .i64 1)]
theorem boxB_length(bs:List UInt8):(boxB bs).length=8+bs.length:=by
 unfold boxB;rw[List.length_append,numsB_length];rfl
theorem bxB_length(bx:Nat→List UInt8):∀k,(bxB bx k).length=bxN bx k
 |0=>rfl
 |k+1=>by
  show(bxB bx k++boxB (bx k)).length=bxN bx k+(8+(bx k).length)
  rw[List.length_append,bxB_length bx k,boxB_length]
theorem body_length{c:CS}(hc:CSok c):(bodyB c).length=bodyN c:=by
 unfold bodyB bodyMid bodyHead bodyN
 simp only[List.length_append,numsB_length,bxB_length,hc.ops,hc.vs,List.length_cons,List.length_nil]
 omega
attribute [local irreducible] mayB bodyB
set_option maxHeartbeats 8000000 in
theorem wcommit_ok(c:CS)(hc:CSok c)(ht:c.tag.length=32):FnO 89 [.agg (cSegs c)] (commitR c):=by
 refine fnA (E:=envCj) Tryz.func89 Tryz.ntmps89 ?_
 have hl:=body_length hc
 have hbn:bodyN c≤20000000:=by
  have:=bxN_le (bx:=c.bx) (k:=c.k) hc.bx
  have h1:=hc.n;have h2:=hc.m;have h3:=hc.k
  unfold bodyN;omega
 have hnl:(numsB [c.sE,c.sS]).length=16:=by rw[numsB_length];rfl
 unfold commitR
 cases hm:mayB c with
 |false=>
  refine agow ?_;(try exact⟨⟩)
  rfl
 |true=>
  refine agow ?_;(try exact⟨⟩)
  generalize hp:ptsOf _ _ _=o
  obtain rfl:o=some [.own 1 1,.own 2 (bodyN c),.win 0 9 32,.own 4 16]:=hp.symm.trans (ptsOf_cons rfl (ptOf_own rfl rfl) (ptsOf_cons rfl (ptOf_own rfl rfl) (ptsOf_cons rfl rfl (ptsOf_cons rfl (ptOf_own rfl rfl) ptsOf_nil))))
  clear hp
  refine agow ?_;(try exact⟨⟩)
  have e:(bodyB c++(c.tag++numsB [c.sE,c.sS])).length+1=commitN c:=by
   rw[List.length_append,List.length_append,hl,ht,hnl,commitN];omega
  rw[e,if_pos rfl]
  rfl
def commitS:List A→(Res→Prop)→Prop
 |[.agg l],K=>∃c,l=cSegs c∧CSok c∧c.tag.length=32∧K (commitR c)
 |_,_=>False
theorem commitS_of{f:FuncId}(h:∀c,CSok c→c.tag.length=32→FnO f [.agg (cSegs c)] (commitR c)):∀args K,commitS args K→∃r,FnO f args r∧K r:=by
 intro args K hd
 unfold commitS at hd
 split at hd
 ·obtain⟨c,rfl,h1,h2,h3⟩:=hd
  exact⟨_,h c h1 h2,h3⟩
 ·exact hd.elim
noncomputable def envCk:EnvX:=envCj.add 89 commitS (commitS_of wcommit_ok) ⟨_,Tryz.func89,by kernel_rfl,by kernel_rfl⟩
end
end Go.Proofs.YtbdmnobocecnfaaGreatDoor
