/-
  Commits as bytes: numbers, boxes.
-/
import Derived.Test.YtefgbmdmmhkeaaaGreatDoorJ29
import Derived.Lib.AppendZeros
namespace Go.Proofs.YtefgbmdmmhkeaaaGreatDoor
set_option linter.unusedVariables false
set_option linter.unusedSimpArgs false
set_option maxRecDepth 100000
open Go.RowKit
section
open Pm
attribute [local irreducible] condK LoopA regA numB numsB
noncomputable def envC0:EnvX:=envK9.withY yTab2 yOK2 yEq2
def opsCS:List A→(Res→Prop)→Prop
 |[.row n [.ints .i64 m zs]],K=>m=n*5∧n≤1000000∧zs.length=n*5∧K (.o 5 1 (n*40) [.bytes (n*40) (numsB zs)])
 |_,_=>False
theorem opsCS_of{f:FuncId}(h:∀(zs:List Int) (n:Nat),zs.length=n*5→n≤1000000→FnO f [.row n [.ints .i64 (n*5) zs]] (.o 5 1 (n*40) [.bytes (n*40) (numsB zs)])):∀args K,opsCS args K→∃r,FnO f args r∧K r:=by
 intro args K hd
 unfold opsCS at hd
 split at hd
 ·obtain⟨rfl,h1,h2,h3⟩:=hd
  exact⟨_,h _ _ h2 h1,h3⟩
 ·exact hd.elim
noncomputable def envC1:EnvX:=envC0.add 66 opsCS (opsCS_of ops_ok) ⟨_,Tryz.func66,by kernel_rfl,by kernel_rfl⟩
noncomputable def envC2:EnvX:=envC1
set_option maxHeartbeats 4000000 in
theorem wnums_ok(zs:List Int)(hz:zs.length≤1000000):FnO 122 [.row zs.length [.ints .i64 zs.length zs]] (.o 5 1 (zs.length*8) [.bytes (zs.length*8) (numsB zs)]):=by
 refine fnA (E:=envC2) Tryz.func122 Tryz.ntmps122 ?_
 refine agow ?_;(try exact⟨⟩)
 refine StopL.mk (loop_forN [3,6,7,8] [0] 3 5 1 [.bytes 0 []] zs.length (fun j=>⟨[.dead,.dead,.dead,.own 0 (j*8),.dead,.dead,.d (.row zs.length [.ints .i64 zs.length zs]),.d (.v (.int .i64 zs.length)),.d (.v (.int .i64 (j:Nat))),.dead,.dead,.dead,.dead,.dead,.dead,.dead,.dead,.dead],[some (.sl 5 1 (j*8) [.bytes (j*8) (numsB (zs.take j))])]⟩) ?_ (h2:=by rw[List.take_zero,numsB_nil];exact rfl))
 intro j hj hl
 by_cases hjz:j<zs.length
 ·have h1:(j:Int)<(zs.length:Int):=by omega
  refine agow ?_;(try exact⟨⟩)
  refine hl.go hjz [3,6,7,8] [0] ?_
  rw[numsB_take zs hjz,Nat.add_mul,Nat.one_mul]
  rfl
 ·obtain rfl:j=zs.length:=by omega
  have e:zs.take zs.length=zs:=List.take_length
  have h1:¬(zs.length:Int)<(zs.length:Int):=by omega
  rw[e]
  refine agow ?_;(try exact⟨⟩)
theorem wnumsS_ok:∀args K,numsS args K→∃r,FnO 122 args r∧K r:=by
 intro args K h
 unfold numsS at h
 split at h
 ·obtain⟨rfl,rfl,h1,h2⟩:=h
  exact⟨_,wnums_ok _ h1,h2⟩
 ·exact h.elim
noncomputable def envC3:EnvX:=envC2.add 122 numsS wnumsS_ok ⟨_,Tryz.func122,by kernel_rfl,by kernel_rfl⟩
def boxB(bs:List UInt8):List UInt8:=numsB [(bs.length:Int)]++bs
set_option maxHeartbeats 4000000 in
theorem wbox_ok(bs:List UInt8)(hb:bs.length≤1000000):FnO 125 [.row bs.length [.bytes bs.length bs]] (.o 5 1 (8+bs.length) [.bytes (8+bs.length) (boxB bs)]):=by
 refine fnA (E:=envC3) Tryz.func125 Tryz.ntmps125 ?_
 refine agow ?_;(try exact⟨⟩)
 rfl
def boxS:List A→(Res→Prop)→Prop
 |[.row n [.bytes m bs]],K=>n=bs.length∧m=bs.length∧bs.length≤1000000∧K (.o 5 1 (8+bs.length) [.bytes (8+bs.length) (boxB bs)])
 |_,_=>False
theorem boxS_ok:∀args K,boxS args K→∃r,FnO 125 args r∧K r:=by
 intro args K h
 unfold boxS at h
 split at h
 ·obtain⟨rfl,rfl,h1,h2⟩:=h
  exact⟨_,wbox_ok _ h1,h2⟩
 ·exact h.elim
noncomputable def envC4:EnvX:=envC3.add 125 boxS boxS_ok ⟨_,Tryz.func125,by kernel_rfl,by kernel_rfl⟩
structure CS where
 e:Int
 fr:Int
 n:Nat
 ops:List Int
 m:Nat
 vs:List Int
 sl:Int
 p0:Int
 p1:Int
 p2:Int
 k:Nat
 bx:Nat→List UInt8
 tag:List UInt8
 sE:Int
 sS:Int
def boxF(bx:Nat→List UInt8)(j:Nat):List Seg:=[.gen 1 [.row (bx j).length [.bytes (bx j).length (bx j)]]]
def cSegs(c:CS):List Seg:=[.ints .i64 2 [c.e,c.fr],.gen 2 [.row c.n [.ints .i64 (c.n*5) c.ops],.row c.m [.ints .i64 (c.m*3) c.vs]],.ints .i64 4 [c.sl,c.p0,c.p1,c.p2],.gen 1 [.recs c.k 1 (boxF c.bx)],.bytes 32 c.tag,.ints .i64 2 [c.sE,c.sS]]
structure CSok(c:CS):Prop where
 n:c.n≤3000
 m:c.m≤3000
 k:c.k≤3000
 ops:c.ops.length=c.n*5
 vs:c.vs.length=c.m*3
 bx:∀j,j<c.k→(c.bx j).length≤6000
def bxN(bx:Nat→List UInt8):Nat→Nat
 |0=>0
 |j+1=>bxN bx j+(8+(bx j).length)
def bxB(bx:Nat→List UInt8):Nat→List UInt8
 |0=>[]
 |j+1=>bxB bx j++boxB (bx j)
def bodyHead(c:CS):List UInt8:=(numsB [c.e,c.fr,(c.n:Int)]++numsB c.ops)++numsB [(c.m:Int)]
def bodyMid(c:CS):List UInt8:=(bodyHead c++numsB c.vs)++numsB [c.sl,c.p0,c.p1,c.p2,(c.k:Int)]
def bodyB(c:CS):List UInt8:=bodyMid c++bxB c.bx c.k
def bodyN(c:CS):Nat:=24+c.n*40+8+c.m*24+40+bxN c.bx c.k
theorem bxN_le{bx:Nat→List UInt8}:∀{k:Nat},(∀j,j<k→(bx j).length≤6000)→bxN bx k≤k*6008
 |0,_=>Nat.zero_le _
 |k+1,h=>by
  have h1:=bxN_le (k:=k) fun j hj=>h j (by omega)
  have h2:=h k (by omega)
  show bxN bx k+(8+(bx k).length)≤_
  omega
theorem three_eqC{o:List Int}(h:o.length=3):o=[o.getD 0 0,o.getD 1 0,o.getD 2 0]:=by
 rcases o with _|⟨a,_|⟨b,_|⟨c,_|⟨d,l⟩⟩⟩⟩<;>first|(simp at h;done)|rfl
theorem numsB_three(zs:List Int){i:Nat}(h:i+3≤zs.length):numsB (zs.take (i+3))=numsB (zs.take i)++numsB [((zs.drop i).take 3).getD 0 0,((zs.drop i).take 3).getD 1 0,((zs.drop i).take 3).getD 2 0]:=by
 rw[←three_eqC (o:=(zs.drop i).take 3) (by simp;omega),←numsB_append,List.take_add]
attribute [local irreducible] boxB
set_option maxHeartbeats 8000000 in
theorem wbody_ok(c:CS)(hc:CSok c):FnO 116 [.agg (cSegs c)] (.o 5 1 (bodyN c) [.bytes (bodyN c) (bodyB c)]):=by
 refine fnA (E:=envC4) Tryz.func116 Tryz.ntmps116 ?_
 obtain⟨h1,h2,h3,h4,h5,h6⟩:=hc
 refine agow ?_;(try exact⟨⟩)
 refine StopL.mk (loop_forG [1,3,30,31,32] [0,2] c.m (fun j=>⟨[.dead,.ptr 0 0,.dead,.own 1 (24+c.n*40+8+j*24),.dead,.dead,.dead,.dead,.dead,.dead,.dead,.dead,.dead,.dead,.dead,.dead,.dead,.dead,.dead,.dead,.dead,.dead,.dead,.dead,.dead,.dead,.dead,.dead,.dead,.dead,.d (.row c.m [.ints .i64 (c.m*3) c.vs]),.d (.v (.int .i64 c.m)),.d (.v (.int .i64 (j:Nat))),.dead,.dead,.dead,.dead,.dead,.dead,.dead,.dead,.dead,.dead,.dead,.dead,.dead,.dead,.dead,.dead,.dead,.dead,.dead,.dead,.dead,.dead,.dead,.dead,.dead,.dead,.dead,.dead,.dead,.dead,.dead,.dead,.dead,.dead,.dead,.dead,.dead,.dead,.dead,.dead,.dead,.dead,.dead,.dead,.dead,.dead,.dead],[some (.var (cSegs c)),some (.sl 5 1 (24+c.n*40+8+j*24) [.bytes (24+c.n*40+8+j*24) (bodyHead c++numsB (c.vs.take (j*3)))])]⟩) ?_ (h2:=by simp only[Nat.zero_mul,List.take_zero,numsB_nil,List.append_nil,Nat.add_zero];exact rfl))
 intro j hj hl
 by_cases hjm:j<c.m
 ·have g1:(j:Int)<(c.m:Int):=by omega
  refine agow ?_;(try exact⟨⟩)
  refine hl.go hjm [1,3,30,31,32] [0,1] ?_
  rw[show(j+1)*3=j*3+3 by omega,numsB_three c.vs (by omega),show(j+1)*24=j*24+24 by omega,←List.append_assoc,←Nat.add_assoc]
  rfl
 ·obtain rfl:j=c.m:=by omega
  have g1:¬(c.m:Int)<(c.m:Int):=by omega
  rw[show c.vs.take (c.m*3)=c.vs from List.take_of_length_le (by omega)]
  refine agow ?_;(try exact⟨⟩)
  refine StopL.mk (loop_forG [3,68,69,70] [0,1] c.k (fun j=>⟨[.dead,.dead,.dead,.own 1 (24+c.n*40+8+c.m*24+40+bxN c.bx j),.dead,.dead,.dead,.dead,.dead,.dead,.dead,.dead,.dead,.dead,.dead,.dead,.dead,.dead,.dead,.dead,.dead,.dead,.dead,.dead,.dead,.dead,.dead,.dead,.dead,.dead,.dead,.dead,.dead,.dead,.dead,.dead,.dead,.dead,.dead,.dead,.dead,.dead,.dead,.dead,.dead,.dead,.dead,.dead,.dead,.dead,.dead,.dead,.dead,.dead,.dead,.dead,.dead,.dead,.dead,.dead,.dead,.dead,.dead,.dead,.dead,.dead,.dead,.dead,.d (.recs c.k 1 (boxF c.bx)),.d (.v (.int .i64 c.k)),.d (.v (.int .i64 (j:Nat))),.dead,.dead,.dead,.dead,.dead,.dead,.dead,.dead,.dead],[some (.var (cSegs c)),some (.sl 5 1 (24+c.n*40+8+c.m*24+40+bxN c.bx j) [.bytes (24+c.n*40+8+c.m*24+40+bxN c.bx j) (bodyMid c++bxB c.bx j)])]⟩) ?_ (h2:=by simp only[bxN,bxB,List.append_nil,Nat.add_zero];exact rfl))
  intro i hi hl2
  by_cases hik:i<c.k
  ·have g2:(i:Int)<(c.k:Int):=by omega
   have g3:=h6 i hik
   have g4:(c.bx i).length≤1000000:=by omega
   have g5:bxN c.bx i≤18030000:=by have:=bxN_le (bx:=c.bx) (k:=i) (fun j hj=>h6 j (by omega));omega
   refine agow ?_;(try exact⟨⟩)
   refine hl2.go hik [3,68,69,70] [0,1] ?_
   have e1:24+c.n*40+8+c.m*24+40+bxN c.bx (i+1)=24+c.n*40+8+c.m*24+40+bxN c.bx i+(8+(c.bx i).length):=(Nat.add_assoc _ _ _).symm
   have e2:bodyMid c++bxB c.bx (i+1)=(bodyMid c++bxB c.bx i)++boxB (c.bx i):=(List.append_assoc _ _ _).symm
   rw[e1,e2]
   rfl
  ·obtain rfl:i=c.k:=by omega
   have g2:¬(c.k:Int)<(c.k:Int):=by omega
   refine agow ?_;(try exact⟨⟩)
   rfl
end
section
open Pm
attribute [local go_sem] eqh_guard
end
section
open Pm
def streamW(s:List UInt8)(j:Nat):List UInt8:=deriveW s (sb ⟨#[115,116,114,101,97,109]⟩) (fourB (j:Int))
def xorW(s p:List UInt8):List UInt8:=p.mapIdx fun i c=>c^^^(streamW s (i / 32)).getD (i%32) 0
theorem xorW_length(s p:List UInt8):(xorW s p).length=p.length:=by simp[xorW]
theorem xorW_get(s p:List UInt8)(i:Nat)(h:i<p.length):(xorW s p)[i]?=some (p[i]^^^(streamW s (i / 32)).getD (i%32) 0):=by
 simp[xorW,List.getElem?_mapIdx,List.getElem?_eq_getElem h]
def partX(s p:List UInt8)(k:Nat):List UInt8:=(xorW s p).take k++List.replicate (p.length-k) 0
theorem partX_zero(s p:List UInt8):partX s p 0=List.replicate p.length 0:=by simp[partX]
theorem partX_all(s p:List UInt8):partX s p p.length=xorW s p:=by simp[partX,List.take_of_length_le (Nat.le_of_eq (xorW_length s p))]
theorem partX_set(s p:List UInt8)(k:Nat)(h:k<p.length):(partX s p k).set k (p[k]^^^(streamW s (k / 32)).getD (k%32) 0)=partX s p (k+1):=by
 refine List.ext_getElem? fun i=>?_
 have hl:(xorW s p).length=p.length:=xorW_length s p
 rw[List.getElem?_set]
 unfold partX
 by_cases hik:k=i
 ·subst hik
  rw[if_pos rfl,if_pos (by simp[hl];omega)]
  rw[List.getElem?_append_left (by simp[hl];omega),List.getElem?_take,if_pos (by omega),xorW_get s p k h]
 ·rw[if_neg hik]
  by_cases h1:i<k
  ·rw[List.getElem?_append_left (by simp[hl];omega),List.getElem?_append_left (by simp[hl];omega),List.getElem?_take,List.getElem?_take,if_pos h1,if_pos (by omega)]
  ·rw[List.getElem?_append_right (by simp[hl];omega),List.getElem?_append_right (by simp[hl];omega)]
   have e1:(List.take k (xorW s p)).length=k:=by simp[hl];omega
   have e2:(List.take (k+1) (xorW s p)).length=k+1:=by simp[hl];omega
   rw[e1,e2,List.getElem?_replicate,List.getElem?_replicate]
   by_cases h2:i<p.length
   ·rw[if_pos (by omega),if_pos (by omega)]
   ·rw[if_neg (by omega),if_neg (by omega)]
theorem Bt_xor(a b:UInt8):bits .xor .u8 (Bt a) (Bt b)=Bt (a^^^b):=by
 show IntKind.u8.wrap ((BitVec.ofInt 8 (a.toNat:Int)^^^BitVec.ofInt 8 (b.toNat:Int)).toNat:Int)=_
 rw[BitVec.ofInt_natCast,BitVec.ofInt_natCast]
 unfold Bt
 rw[UInt8.toNat_xor,BitVec.toNat_xor,BitVec.toNat_ofNat,BitVec.toNat_ofNat,IntKind.wrap_u8]
 have ha:=UInt8.toNat_lt a
 have hb:=UInt8.toNat_lt b
 rw[Nat.mod_eq_of_lt (by omega),Nat.mod_eq_of_lt (by omega)]
 have hx:a.toNat^^^b.toNat<2^8:=Nat.xor_lt_two_pow (by omega) (by omega)
 omega
def tagW(s own body:List UInt8):List UInt8:=(deriveW s (sb ⟨#[116,97,103]⟩) (own++body)).take 8
theorem tagW_length(s own body:List UInt8):(tagW s own body).length=8:=by
 unfold tagW
 rw[List.length_take,show(deriveW s (sb ⟨#[116,97,103]⟩) (own++body)).length=32 from sumW_length _]
 rfl
end
section
open Pm
structure PS where
 e:Int
 zs:List Int
 ad:List Bool
 k:Int
 ch:List UInt8
 lf:Int
 sg:List UInt8
 sc:List UInt8
 ab:List UInt8
 ep:List UInt8
 ini:List UInt8
abbrev pSegs(p:PS):List Seg:=[.ints .i64 1 [p.e],.ints .i64 31 p.zs,.bools 8 p.ad,.ints .i64 1 [p.k],.bytes 32 p.ch,.ints .i64 1 [p.lf],.bytes 32 p.sg,.bytes 32 p.sc,.bytes 96 p.ab,.bytes 32 p.ep,.bytes 32 p.ini]
def sgnW(h:List UInt8):List UInt8:=deriveW h (sb ⟨#[115,105,103,110]⟩) []
def lefW(h:List UInt8):List UInt8:=deriveW h (sb ⟨#[108,101,97,102]⟩) []
def fstW(h:List UInt8):List UInt8:=deriveW h (sb ⟨#[102,105,114,115,116]⟩) []
def iniW(h:List UInt8):List UInt8:=deriveW h (sb ⟨#[105,110,105,116]⟩) []
def nodeY(h:List UInt8):Int:=powI 4 (scal (nodeW h))
def leafZ(seed:List UInt8):List Int:=[powI 4 (scal (sgnW seed)),nodeY (lefW seed)]
abbrev zB(n:Nat):List UInt8:=List.replicate n 0
def by0(seed:List UInt8):PS:=⟨0,List.replicate 31 0,F8,0,zB 32,0,sgnW seed,lefW seed,zB 96,zB 32,zB 32⟩
def enterP(p:PS)(ep:List UInt8):PS:={ p with ep:=ep,ini:=iniW ep }
def createP(seed:List UInt8):PS:=enterP ⟨0,leafZ seed++List.replicate 29 0,[true,false,false,false,false,false,false,false],1,zB 32,0,sgnW seed,lefW seed,zB 96,zB 32,zB 32⟩ (fstW (lefW seed))
def boxW(y x:Int)(p:List UInt8):List UInt8:=
 fourB (powI 4 x)++tagW (shW y x) (fourB (powI 4 x)) (xorW (shW y x) p)++xorW (shW y x) p
def sealOk(y:Int)(p:List UInt8):Bool:=isI y&&decide (p.length≤200)
def sealB(y x:Int)(p:List UInt8):List UInt8:=if sealOk y p then boxW y x p else[]
def sealE(y:Int)(p:List UInt8):Int:=if sealOk y p then 0 else 1
end
section
open Pm
attribute [local irreducible] condK LoopA regA numB numsB boxB
end
section
open Pm
attribute [local irreducible] condK LoopA regA numB numsB boxB
end
section
theorem cat_flat(L:List (List UInt8))(k:Nat)(h:k<L.length):(L.take (k+1)).flatten=(L.take k).flatten++L[k]:=by
 rw[List.take_succ_eq_append_getElem h,List.flatten_append];simp
theorem cat_le(L:List (List UInt8))(k:Nat):(L.take k).flatten.length≤L.flatten.length:=by
 have h:(L.take k++L.drop k).flatten.length=L.flatten.length:=by rw[List.take_append_drop]
 simp only[List.flatten_append,List.length_append]at h
 omega
theorem zeroCells8(n:Nat):Builtin.zeroCells (Value.int .u8 0).cells n=HC (List.replicate n 0):=by
 refine Array.toList_inj.1 (List.ext_getElem? fun i=>?_)
 rw[HC_toList]
 simp only[Builtin.zeroCells,HL,Value.cells,List.getElem?_map,List.getElem?_replicate]
 by_cases h:i<n
 ·simp[h,Bt,Nat.mod_one]
 ·simp[h]
theorem HC_append(a b:List UInt8):HC a++HC b=HC (a++b):=by simp[HC]
set_option maxHeartbeats 2000000 in
theorem grow_any(n:Nat)(hn:n≤140737488354000)(w:World):
  Calls Tryz.prog 168 #[.slice none 0 0,.int .i64 n] w fun e w'=>∃v,e=.returned v∧Own8 w' w.heap.size 5 v []∧Below w.heap.size w w':=by
 by_cases h0:n=0
 ·subst h0
  go_enter Tryz.func168,Tryz.ntmps168
  go_wp2
  go_ret
  exact⟨_,rfl,World.ownsRow_nil _ _ _ _,Below.refl _ _⟩
 obtain⟨i0,hi,hz0,hz1,hz2⟩:=info_parts info8
 have hr:∀ty,(Builtin.append_ #[23,3] ty #[.slice none 0 0,.int .i64 n]).run Tryz.prog w=_:=fun ty=>
  Lib.run_append_nil_zeros w 23 3 ty 5 i0 (.int .u8 0) .i64 .i64 Tryz.underlying23 Tryz.underlying3 hi hz0 n (by omega) (by omega) (by omega) (by rw[hz2];omega)
 have hG1:=grownCap_ge w n 0 5
 have hG2:=grownCap_le_maxLen w n 0 5 (by unfold maxLen;omega)
 obtain⟨G,hG⟩:∃G,G=grownCap w n 0 5:=⟨_,rfl⟩
 rw[←hG]at hr hG1 hG2
 have hG0:List.replicate n (0:UInt8)++List.replicate (G-n) 0=List.replicate G 0:=by rw[List.replicate_append_replicate];congr 1;omega
 rw[zeroCells8,zeroCells8,HC_append,hG0]at hr
 clear hG
 have hG63:G≤9223372036854775807:=by unfold maxLen at hG2;omega
 have h4:(n:Int)>0:=by omega
 have H1:=Lib.hid hG1;have H2:=Lib.hid hG2
 clear hG2
 go_enter Tryz.func168,Tryz.ntmps168
 go_wp2_with (at_builtin;refine Lib.wpList_append_run _ rfl _ _ _ _ rfl _ _ rfl rfl _ _ (hr _) ?_)
 go_ret
 refine⟨_,rfl,⟨rfl,.inr ⟨w.heap.size,G,HC (List.replicate G 0),rfl,Nat.le_refl _,?_,Nat.zero_le _,H2.out,?_,?_⟩⟩,((Below.refl _ _).next (Nat.le_refl _) _).drew⟩
 ·exact heap_alloc_new w _
 ·rw[HC_size];simp
 ·simp[HL]
set_option maxRecDepth 100000 in
set_option maxHeartbeats 2000000 in
theorem concat_any (a : Option Addr) (len cap : Nat) (L : List (List UInt8)) (w : World) (hp : RowN w a len L) (hbound : L.flatten.length ≤ 140737488354000) :
    Calls Tryz.prog 120 #[.slice a len cap] w fun e w' => ∃ v, e = .returned v ∧ Own8 w' w.heap.size 5 v L.flatten ∧ Below w.heap.size w w' := by
  have hlen := hp.len_eq
  have hsm := hp.small
  unfold maxLen at hsm
  subst hlen
  have hcells : ∀ (k : Nat) (hlt : k < L.length) (wr : World), Below w.heap.size w wr → ∃ b off, a = some ⟨b, off, none⟩ ∧ ∃ a' l' c', wr.cell? ⟨b, off + k, none⟩ = some (.slice a' l' c') ∧ RowC w a' l' c' L[k] := by
    intro k hlt wr hB
    rcases hp.cells with h1 | ⟨b, off, rfl, hc⟩
    · simp [h1] at hlt
    · obtain ⟨a', l', c', h2, h3⟩ := hc k hlt
      exact ⟨b, off, rfl, a', l', c', (hB.cell (block_lt_of_cell h2)).trans h2, h3⟩
  have HP := Lib.hid hcells; have HBD := Lib.hid hbound
  clear hp hbound hcells
  go_enter Tryz.func120, Tryz.ntmps120
  go_wp2
  go_loopw [3, 5, 11] (fun z s i wr => ∃ k : Nat, k ≤ L.length ∧ i = .int .i64 k ∧ z = .int .i64 ((L.take k).flatten.length : Nat) ∧ w = wr) (fun _ _ i _ => L.length - (intOf i).toNat)
  case atStart => exact ⟨0, Nat.zero_le _, rfl, rfl, rfl⟩
  case round =>
    obtain ⟨k, hk, rfl, rfl, rfl⟩ := hrel
    by_cases hlt : k < L.length
    · obtain ⟨b, off, rfl, a', l', c', hcell, hrow⟩ := HP.out k hlt w (Below.refl _ _)
      have hl' := hrow.row.len_eq
      subst hl'
      have hle : (L.take k).flatten.length + L[k].length ≤ 140737488354000 := by
        have h1 := cat_le L (k + 1)
        rw [cat_flat L k hlt, List.length_append] at h1
        have := HBD.out; omega
      clear hrow
      obtain ⟨m, hm⟩ : ∃ m, (L.take k).flatten.length = m := ⟨_, rfl⟩
      obtain ⟨m2, hm2⟩ : ∃ m, L[k].length = m := ⟨_, rfl⟩
      rw [hm, hm2] at hle
      rw [hm]
      rw [hm2] at hcell
      have HM := Lib.hid hm; have HM2 := Lib.hid hm2
      clear hm hm2
      have hw : RowKit.wrap64 ((m : Int) + (m2 : Int)) = ((m + m2 : Nat) : Int) := by rw [IntWalk.wrap64_in _ (by omega)]; omega
      have hn : ¬ (((m + m2 : Nat) : Int) < 0) := by omega
      go_wp2
      go_roundw
      case rel =>
        refine ⟨k + 1, by omega, by go_num, ?_, by first | trivial | rfl⟩
        rw [cat_flat L k hlt, List.length_append, HM.out, HM2.out, Int.natCast_add]
      case measure => simp [intOf]; omega
    · have hkl : k = L.length := by omega
      subst hkl
      rw [List.take_length]
      obtain ⟨m, hm⟩ : ∃ m, L.flatten.length = m := ⟨_, rfl⟩
      rw [hm]
      have hmb : m ≤ 140737488354000 := by have := HBD.out; omega
      have HM := Lib.hid hm
      clear hm
      go_wp2_with (go_at_call 168; refine (grow_any m (by omega) _).mono ?_; rintro e w1 ⟨v1, rfl, hO1, hB1⟩
                   have HO1 := Lib.hid hO1; have HB1 := Lib.hid hB1
                   clear hO1 hB1)
      go_loopw [6, 8, 27] (fun b s i w2 => ∃ k : Nat, k ≤ L.length ∧ i = .int .i64 k ∧ Own8 w2 w.heap.size 5 b (L.take k).flatten ∧ Below w.heap.size w w2) (fun _ _ i _ => L.length - (intOf i).toNat)
      case atStart => exact ⟨0, Nat.zero_le _, rfl, HO1.out, HB1.out⟩
      case round =>
        obtain ⟨k, hk, rfl, hO, hB⟩ := hrel
        by_cases hlt : k < L.length
        · obtain ⟨b, off, rfl, a', l', c', hcell, hrow⟩ := HP.out k hlt _ hB
          have hrow2 := hrow.row.below hB
          have hle : (L.take k).flatten.length + L[k].length ≤ 140737488355328 := by
            have h1 := cat_le L (k + 1)
            rw [cat_flat L k hlt, List.length_append] at h1
            have := HBD.out; omega
          have HO := Lib.hid hO; have HB := Lib.hid hB; have HW := Lib.hid hrow2; have HN := Lib.hid hrow.nil; have HLE := Lib.hid hle
          clear hO hB hrow hrow2 hle
          go_wp2_with (at_builtin
                       refine wpList_append8 rfl (.tmp 31) (.tmp 32) 23 rfl w.heap.size 5 Tryz.underlying23 info8 _ (L.take k).flatten rfl HO.out _ _ _ L[k] rfl HW.out HN.out HLE.out HB.out.size ?_
                       intro v3 w3 hown3 hg3 hb3
                       have HO3 := Lib.hid hown3; have HB3 := Lib.hid hb3
                       clear hown3 hg3 hb3)
          go_roundw
          case rel =>
            refine ⟨k + 1, by omega, by go_num, ?_, HB.out.trans HB3.out⟩
            rw [cat_flat L k hlt]; exact HO3.out
          case measure => simp [intOf]; omega
        · rw [List.take_of_length_le (by omega)] at hO
          have HO := Lib.hid hO; have HB := Lib.hid hB
          clear hO hB
          go_wp2
          go_ret
          exact ⟨_, rfl, HO.out, HB.out⟩
end
section
open Pm
attribute [local irreducible] condK LoopA regA numB numsB boxB
theorem concatS_ok:∀args K,joinS' args K→∃r,FnO 120 args r∧K r:=by
 intro args K hd
 unfold joinS' at hd
 split at hd
 ·next x=>
  obtain⟨L,⟨hb,hK⟩,hL⟩:=rowsOfK_spec hd
  refine⟨_,fn_own8 (f:=120) (args:=[x]) (bs:=L.flatten) fun S w vs ha=>?_,hK⟩
  obtain⟨v,rfl,h1⟩:=ra_one ha
  obtain⟨a,n,c,rfl,h2,h3,h4⟩:=hL h1
  refine concat_any a n c L w ⟨h2.len_eq,h2.small,?_⟩ (by omega)
  rcases h4 with h4|⟨b,off,h5,h6⟩
  ·exact .inl h4
  ·refine .inr ⟨b,off,h5,fun i hi=>?_⟩
   obtain⟨a',l',c',e1,e2,e3⟩:=h6 i hi
   exact⟨a',l',c',e1,⟨e2,e3⟩⟩
 ·exact hd.elim
theorem boxB_length(bs:List UInt8):(boxB bs).length=8+bs.length:=by
 unfold boxB;rw[List.length_append,numsB_length];rfl
theorem bxB_length(bx:Nat→List UInt8):∀k,(bxB bx k).length=bxN bx k
 |0=>rfl
 |k+1=>by
  show(bxB bx k++boxB (bx k)).length=bxN bx k+(8+(bx k).length)
  rw[List.length_append,bxB_length bx k,boxB_length]
theorem body_length{c:CS}(hc:CSok c):(bodyB c).length=bodyN c:=by
 unfold bodyB bodyMid bodyHead bodyN
 simp only[List.length_append,numsB_length,bxB_length,hc.ops,hc.vs,List.length_cons,List.length_nil]
 omega
attribute [local irreducible] bodyB
end
end Go.Proofs.YtefgbmdmmhkeaaaGreatDoor
