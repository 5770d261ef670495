/-
  The document's parties: a commit; its welcomes.
-/
import Derived.Test.YtjhgelfnmhdihaaGreatDoorJ40
import Derived.Test.YtjhgelfnmhdihaaGreatDoorJ38
import Derived.Test.YtjhgelfnmhdihaaGreatDoorJ37
namespace Go.Proofs.YtjhgelfnmhdihaaGreatDoor
set_option linter.unusedVariables false
set_option linter.unusedSimpArgs false
set_option maxRecDepth 100000
open Go.RowKit
section
open Pm
attribute [local irreducible] aU aZ bR aA au dB cO aF bZ aN aT av ak aR cZ bX aQ bK gB iC aD bA aO jW dJ bW bH aH bT fU gY
abbrev cS0(p:XS)(n:Nat)(ops:List Int)(m:Nat)(vs:List Int)(c:List Int):List Seg:=[.ints .i64 2 [p.e,p.lf],.gen 2 [.row n [.ints .i64 (n*5) ops],.row m [.ints .i64 (m*3) vs]],.ints .i64 4 c,.gen 1 [.v (.slice none 0 0)],.bytes 32 (List.replicate 32 0),.ints .i64 2 [0,0]]
abbrev cSZ:List Seg:=[.ints .i64 2 [0,0],.gen 2 [.v (.slice none 0 0),.v (.slice none 0 0)],.ints .i64 4 [0,0,0,0],.gen 1 [.v (.slice none 0 0)],.bytes 32 (List.replicate 32 0),.ints .i64 2 [0,0]]
abbrev bq7(p:XS)(s:List UInt8)(h:List Bool):List Seg:=[.ints .i64 1 [0],.ints .i64 31 (List.replicate 31 0),.bools 8 (List.replicate 8 false),.ints .i64 1 [0],.bytes 32 (List.replicate 32 0),.ints .i64 1 [p.lf],.ints .i64 2 [p.x,p.y],.bytes 480 s,.bools 15 h,.bytes 32 (List.replicate 32 0),.bytes 32 (List.replicate 32 0)]
theorem ay1{α:Type}(a:α)(f g h:α→α):∃J:Nat→α,J 0=a∧J 1=f (J 0)∧J 2=g (J 1)∧J 3=h (J 2):=⟨fun j=>match j with|0=>a|1=>f a|2=>g (f a)|_=>h (g (f a)),rfl,rfl,rfl,rfl⟩
abbrev N8(R:bP):Exit→St→Prop:=fun e s=>(e=.normal∨e=.ret)∧qB yJ s (Tryz.f24).results.toList fun r=>r=R
theorem an8{U:List UInt8}{x:Nat}(h:x<3):cut [.bytes 96 U] (x*32) 32=some [.bytes 32 ((U.drop (x*32)).take 32)]:=by
 unfold cut
 rw[if_neg (by decide),if_neg (show ¬(Seg.bytes 96 U).n≤x*32 from by simp only[Seg.n];omega),if_pos (show x*32+32≤(Seg.bytes 96 U).n from by simp only[Seg.n];omega),if_neg (show ¬(x*32=0∧32=(Seg.bytes 96 U).n)from by simp only[Seg.n];omega)]
 rfl
theorem TM:∀a:Nat,a<8→∀b:Nat,b<8→0≤(if aG (a:Int)=true∧aG (b:Int)=true then(if(a:Int)=b then 2*(a:Int)else if(a:Int) / 2=b / 2 then(a:Int) / 2*4+1 else if(a:Int) / 4=b / 4 then(a:Int) / 4*8+3 else 7)else 0)∧(if aG (a:Int)=true∧aG (b:Int)=true then(if(a:Int)=b then 2*(a:Int)else if(a:Int) / 2=b / 2 then(a:Int) / 2*4+1 else if(a:Int) / 4=b / 4 then(a:Int) / 4*8+3 else 7)else 0)<15:=by decide
theorem TL{j:Nat}(hj:j<8){lf:Int}(h0:0≤lf)(h1:lf<8):0≤aD (j:Nat) lf∧aD (j:Nat) lf<15:=by
 obtain⟨n,rfl⟩:=Int.eq_ofNat_of_zero_le h0
 have h:=TM j hj n (by omega)
 unfold aD
 exact h
abbrev c4F(p:XS)(d:List UInt8)(ne:Int)(Z:List Int)(ad:List Bool)(k:Int)(wJ:List UInt8)(ng:List Bool)(q:XS)(C:CS)(J:List UInt8)(W:Nat→List Seg)(j:Nat):St:=
 ⟨[.d (.sref (dM p) 0),.ah,.ah,.ah,.ah,.ah,.ah,.ptr 0 0,.ptr 7 0,.ah,.ah,.ah,.ah,.ptr 1 0,.ptr 2 0,.ah,.ah,.ptr 3 0,.ah,.ah,.ah,.ah,.ptr 4 0,.ah,.ah,.ah,.ah,.ah,.ptr 5 0,.ptr 6 0,.own 8 (gD ng j),.d (.v (.int .i64 (j:Nat))),.ah,.ah,.ah,.ah,.ah,.ah,.ah,.ah,.ah,.ah,.ah,.ah,.ah,.ah,.ah,.ah,.ah,.ah,.ah,.ah,.ah,.ah,.ah,.ah,.ah,.ah,.ah,.ah,.ah,.ah,.ah,.ah,.ah,.ah,.ah,.ah,.ah,.ah,.ah,.ah,.ah,.ah,.ah,.ah,.ah,.ah,.ah,.ah,.ah,.ah,.ah,.ah,.ah,.ah,.ah,.ah,.ah,.ah,.ah,.ah,.ah,.ah,.ah,.ah,.ah,.ah,.ah,.ah,.ah,.ah,.ah,.ah,.ah,.ah,.ah,.ah,.ah,.ah,.ah,.ah,.ah,.ah,.ah,.ah,.ah,.ah,.ah,.ah,.ah,.ah,.ah,.ah,.ah,.ah,.ah,.ah,.ah,.ah,.ah,.ah,.ah,.ah,.ah,.ah,.ah,.ah,.ah,.ah,.ah,.ah,.ah,.ah,.ah,.ah,.ah,.ah,.ah,.ah,.ah,.ah,.ah,.ah,.ah,.ah,.ah,.ah,.ah,.ah,.ah,.ah,.ah,.ah,.ah,.ah,.ah,.ah,.ah,.ah,.ah,.ah,.ah,.ah,.ah,.ah,.ah,.ah,.ah,.ah,.ah,.ah,.ah,.ah,.ah,.ah,.ah,.ah,.ah,.ah,.ah,.ah,.ah,.ah,.ah,.ah,.ah,.ah,.ah,.ah,.ah,.ah,.ah,.ah,.ah,.ah,.ah,.ah,.ah,.ah,.ah,.ah,.ah,.ah,.ah,.ah,.ah,.ah,.ah,.ah,.ah,.ah,.ah,.ah,.ah,.ah,.ah,.ah,.ah,.ah,.ah,.ah,.ah,.ah,.ah,.ah,.ah,.ah,.ah,.ah,.ah,.ah,.ah,.ah,.ah,.ah,.ah,.ah,.ah,.ah,.ah,.ah,.ah,.ah,.ah,.ah,.ah,.ah,.ah,.ah,.ah,.ah,.ah,.ah,.ah,.ah,.ah,.ah,.ah,.ah,.ah,.ah,.ah,.ah,.ah,.ah,.ah,.ah,.ah,.ah,.ah,.ah,.ah,.ah,.ah,.ah,.ah,.ah,.ah,.ah,.ah,.ah,.ah,.ah,.ah,.ah,.ah],[some (.var [.bytes 32 d]),some (.var [.ints .i64 1 [p.e],.ints .i64 31 Z,.bools 8 ad,.ints .i64 1 [k],.bytes 32 p.ch]),some (.var [.bools 8 ng]),some (.var (dM q)),some (.var [.ints .i64 2 [C.e,C.fr],.gen 2 [.row C.n [.ints .i64 (C.n*5) C.ops],.row C.m [.ints .i64 (C.m*3) C.vs]],.ints .i64 4 [C.sl,C.p0,C.p1,C.p2],.gen 1 [.row C.k [.gen C.k (qE C.bx C.k)]],.bytes 32 C.tag,.ints .i64 2 [C.sE,C.sS]]),some (.var [.ints .i64 1 [ne],.ints .i64 31 Z,.bools 8 ad,.ints .i64 1 [k],.bytes 32 wJ]),some (.var [.bytes 32 J]),some (.var cSZ),some (.sl 88 108 (gD ng j) (jV W ng j))]⟩
set_option maxHeartbeats 16000000 in
theorem bs6(p:XS)(d:List UInt8)(f0:0≤p.lf)(f1:p.lf<8)(ne:Int)(Z:List Int)(ad:List Bool)(k:Int)(wJ:List UInt8)(ng:List Bool)(q:XS)(C:CS)(J:List UInt8)(W:Nat→List Seg)(B:Nat→List UInt8)
  (pI:∀j:Nat,ng.getD j false=true→(j:Int)≠p.lf)(bA6:J.length=32)(hs:q.s.length=480)
  (hB:∀j,B j=bK (Z.getD (j*2+1) 0) (au (iC d j)) (J++blk q.s (aD (j:Nat) p.lf).toNat))
  (hW:∀j,W j=[.ints .i64 2 [(j:Int),p.lf],.ints .i64 1 [ne],.ints .i64 31 Z,.bools 8 ad,.ints .i64 1 [k],.bytes 32 wJ,.gen 1 [.row (B j).length [.bytes (B j).length (B j)]],.bytes 32 C.tag])
  :Ws yJ (M4 23 0b11111111111111111111010) ((Tryz.f24).body.getD .skip) (N8 (.t [.agg (jO C),.row (gD ng 8) (jV W ng 8),.sref (dM q) 0,.v (.int .i64 0)])) (aI4 8 (c4F p d ne Z ad k wJ ng q C J W)):=by
 unfold N8
 intro j hj hl
 by_cases h:j<8
 ·have h1:(j:Int)<8:=by omega
  cases hb:ng.getD j false with
  |false=>
   have e1:gD ng (j+1)=gD ng j:=by rw[gD,hb];rfl
   have e2:jV W ng (j+1)=jV W ng j:=by rw[jV,hb];rfl
   refine aj ?_;(try exact⟨⟩)
   refine hl.go h [0,7,8,13,14,17,22,28,29,30,31] [0,1,2,3,4,5,6,7,8] ?_
   unfold c4F
   rw[e1,e2]
   rfl
  |true=>
   have e1:gD ng (j+1)=gD ng j+1:=by rw[gD,hb];rfl
   have e2:jV W ng (j+1)=jk (jV W ng j) (W j):=by rw[jV,hb,if_pos rfl,Gm (by rw[hW];simp)]
   obtain⟨p0,p1⟩:=TL h f0 f1
   have hwn:=J3 ng j
   have hne:=pI j hb
   refine aj ?_;(try exact⟨⟩)
   refine⟨by rw[fF];decide,?_⟩
   refine aj ?_;(try exact⟨⟩)
   refine hl.go h [0,7,8,13,14,17,22,28,29,30,31] [0,1,2,3,4,5,6,7,8] ?_
   unfold c4F
   rw[e1,e2,hW,hB]
   unfold iC blk
   rfl
 ·obtain rfl:j=8:=by omega
  have h1:¬(8:Int)<8:=by omega
  refine aj ?_;(try exact⟨⟩)
  rfl
end
section
open Pm
attribute [local irreducible] aU aZ bR aA au dB cO aF bZ aN aT av ak aR cZ bX aQ bK gB iC aD bA aO jW dJ bW bH aH bT fU gY
theorem Fg(y x:Int)(p:List UInt8):(bK y x p).length≤212:=by
 unfold bK
 split
 ·next h=>
  unfold qX at h
  simp only[Bool.and_eq_true,decide_eq_true_eq]at h
  unfold uz
  rw[List.length_append,List.length_append,jD,fJ]
  have:(bD (aA 4 x)).length=4:=rfl
  omega
 ·simp
theorem VR{c:CS}{t:List UInt8}(hn:c.n≤3000)(hm:c.m≤3000)(hk:c.k≤24)(ho:c.ops.length=c.n*5)(hv:c.vs.length=c.m*3)(hb:∀j,j<c.k→(c.bx j).length≤6000)(ht:t.length=32):(aT c++t).length≤1000000:=by
 rw[List.length_append,ht,iX ⟨hn,hm,by omega,ho,hv,hb⟩]
 have:=w9 hb
 unfold eD
 omega
abbrev c3F(p:XS)(n:Nat)(ops:List Int)(m:Nat)(vs:List Int)(d:List UInt8)(s:Vw)(own U T:List UInt8)(Z:List Int)(SS:List UInt8)(HH:List Bool)(pl:List (Int×Int))(bx:Nat→List UInt8)(j:Nat):St:=⟨[.d (.sref (dM p) 0),.ah,.ah,.ah,.ah,.ah,.ah,.ptr 0 0,.ptr 1 0,.ah,.ah,.ah,.ah,.ptr 2 0,.ptr 3 0,.ah,.ah,.ptr 4 0,.ah,.ptr 5 0,.ptr 6 0,.ah,.ptr 7 0,.ah,.own 8 pl.length,.d (.v (.int .i64 (j:Nat))),.ah,.ah,.ah,.ah,.ah,.ah,.ah,.ah,.ah,.ah,.ah,.ah,.ah,.ah,.ah,.ah,.ah,.ah,.ah,.ah,.ah,.ah,.ah,.ah,.ah,.ah,.ah,.ah,.ah,.ah,.ah,.ah,.ah,.ah,.ah,.ah,.ah,.ah,.ah,.ah,.ah,.ah,.ah,.ah,.ah,.ah,.ah,.ah,.ah,.ah,.ah,.ah,.ah,.ah,.ah,.ah,.ah,.ah,.ah,.ah,.ah,.ah,.ah,.ah,.ah,.ah,.ah,.ah,.ah,.ah,.ah,.ah,.ah,.ah,.ah,.ah,.ah,.ah,.ah,.ah,.ah,.ah,.ah,.ah,.ah,.ah,.ah,.ah,.ah,.ah,.ah,.ah,.ah,.ah,.ah,.ah,.ah,.ah,.ah,.ah,.ah,.ah,.ah,.ah,.ah,.ah,.ah,.ah,.ah,.ah,.ah,.ah,.ah,.ah,.ah,.ah,.ah,.ah,.ah,.ah,.ah,.ah,.ah,.ah,.ah,.ah,.ah,.ah,.ah,.ah,.ah,.ah,.ah,.ah,.ah,.ah,.ah,.ah,.ah,.ah,.ah,.ah,.ah,.ah,.ah,.ah,.ah,.ah,.ah,.ah,.ah,.ah,.ah,.ah,.ah,.ah,.ah,.ah,.ah,.ah,.ah,.ah,.ah,.ah,.ah,.ah,.ah,.ah,.ah,.ah,.ah,.ah,.ah,.ah,.ah,.ah,.ah,.ah,.ah,.ah,.ah,.ah,.ah,.ah,.ah,.ah,.ah,.ah,.ah,.ah,.ah,.ah,.ah,.ah,.ah,.ah,.ah,.ah,.ah,.ah,.ah,.ah,.ah,.ah,.ah,.ah,.ah,.ah,.ah,.ah,.ah,.ah,.ah,.ah,.ah,.ah,.ah,.ah,.ah,.ah,.ah,.ah,.ah,.ah,.ah,.ah,.ah,.ah,.ah,.ah,.ah,.ah,.ah,.ah,.ah,.ah,.ah,.ah,.ah,.ah,.ah,.ah,.ah,.ah,.ah,.ah,.ah,.ah,.ah,.ah,.ah,.ah,.ah,.ah,.ah,.ah,.ah,.ah,.ah,.ah,.ah,.ah,.ah,.ah,.ah,.ah,.ah,.ah,.ah,.ah,.ah],[some (.var [.bytes 32 d]),some (.var cSZ),some (.var [.ints .i64 1 [p.e],.ints .i64 31 Z,.bools 8 s.ad,.ints .i64 1 [s.k],.bytes 32 p.ch]),some (.var [.bools 8 s.ng]),some (.var (bq7 p SS HH)),some (.var [.bytes 96 U]),some (.var [.bytes 32 T]),some (.vh (cS0 p n ops m vs [aA 4 (au (av own)),aA 4 (au (av (List.take 32 U))),aA 4 (au (av (List.take 32 (List.drop 32 U)))),aA 4 (au (av (List.take 32 (List.drop 64 U))))]) 8 true 78 1 j [.gen j (qE bx j)]),some (.sl 134 2 pl.length [.ints .i64 (pl.length*2) (bI pl)])]⟩
abbrev Xi(p:XS)(n:Nat)(ops:List Int)(m:Nat)(vs:List Int)(own U:List UInt8)(pl:List (Int×Int))(bx:Nat→List UInt8)(tag:List UInt8)(sE sS:Int):CS:=
 { e:=p.e,fr:=p.lf,n:=n,ops:=ops,m:=m,vs:=vs,sl:=aA 4 (au (av own)),p0:=aA 4 (au (av (List.take 32 U))),p1:=aA 4 (au (av (List.take 32 (List.drop 32 U)))),p2:=aA 4 (au (av (List.take 32 (List.drop 64 U)))),k:=pl.length,bx:=bx,tag:=tag,sE:=sE,sS:=sS }
abbrev cch(p:XS)(n:Nat)(ops:List Int)(m:Nat)(vs:List Int)(own U:List UInt8)(pl:List (Int×Int))(bx:Nat→List UInt8):List UInt8:=uh p.ch (aT (Xi p n ops m vs own U pl bx (List.replicate 32 0) 0 0))
abbrev cq(p:XS)(s:Vw)(wJ T:List UInt8)(Z:List Int)(SS:List UInt8)(HH:List Bool):XS:=
 Iy ⟨0,List.replicate 31 0,List.replicate 8 false,0,List.replicate 32 0,p.lf,p.x,p.y,SS,HH,List.replicate 32 0,List.replicate 32 0⟩ (p.e+1) Z s.ad s.k wJ (lg p.jK T)
abbrev ctg(p:XS)(s:Vw)(wJ T:List UInt8)(Z:List Int):List UInt8:=eB (mX (lg p.jK T) (aR (p.e+1) Z s.ad s.k wJ))
abbrev cC(p:XS)(n:Nat)(ops:List Int)(m:Nat)(vs:List Int)(own U:List UInt8)(pl:List (Int×Int))(bx:Nat→List UInt8)(tg:List UInt8):CS:=
 Xi p n ops m vs own U pl bx tg (jo p.x (aT (Xi p n ops m vs own U pl bx tg 0 0)++tg)) (jQ p.x (aT (Xi p n ops m vs own U pl bx tg 0 0)++tg))
abbrev cB(p:XS)(d:List UInt8)(Z:List Int)(J:List UInt8)(q:XS)(j:Nat):List UInt8:=bK (Z.getD (j*2+1) 0) (au (iC d j)) (J++blk q.s (aD (j:Nat) p.lf).toNat)
abbrev cW(p:XS)(Z:List Int)(s:Vw)(wJ tg:List UInt8)(B:Nat→List UInt8)(j:Nat):List Seg:=
 [.ints .i64 2 [(j:Int),p.lf],.ints .i64 1 [p.e+1],.ints .i64 31 Z,.bools 8 s.ad,.ints .i64 1 [s.k],.bytes 32 wJ,.gen 1 [.row (B j).length [.bytes (B j).length (B j)]],.bytes 32 tg]
set_option maxHeartbeats 4000000 in
theorem bs5(p:XS)(n:Nat)(ops:List Int)(hn:n≤3000)(m:Nat)(vs:List Int)(hm:m≤3000)(ho:ops.length=n*5)(hv:vs.length=m*3)(d:List UInt8)(f0:0≤p.lf)(f1:p.lf<8)(he: -4611686018427387904≤p.e∧p.e≤4611686018427387904)(hx0:1≤p.x)(hx1:p.x<1073741789)(hy:p.y=aA 4 p.x)(s:Vw)(own U T:List UInt8)(Z:List Int)(SS:List UInt8)(HH:List Bool)(pl:List (Int×Int))(bx:Nat→List UInt8)
  (bp5:pl.length≤24)(hin:∀q∈pl,0≤q.1∧q.1<3∧0≤q.2∧q.2<15)(hbx:∀j,bx j=bK (bA Z (pl.getD j (0,0)).2) (au (gB d (j:Nat))) (dS U (pl.getD j (0,0)).1.toNat))(hSS:SS.length=480)(pI:∀j:Nat,s.ng.getD j false=true→(j:Int)≠p.lf)
  (wJ tg:List UInt8)(q:XS)(W:Nat→List Seg)(hch:wJ=cch p n ops m vs own U pl bx)(htg:tg=ctg p s wJ T Z)(hq:q=cq p s wJ T Z SS HH)(hW:W=cW p Z s wJ tg (cB p d Z (lg p.jK T) q)):
  Ws yJ (M4 18 0b111111111111111010) ((Tryz.f24).body.getD .skip) (N8 (.t [.agg (jO (cC p n ops m vs own U pl bx tg)),.row (gD s.ng 8) (jV W s.ng 8),.sref (dM q) 0,.v (.int .i64 0)])) (aI4 pl.length (c3F p n ops m vs d s own U T Z SS HH pl bx)):=by
 unfold N8
 intro j hj hl
 by_cases h:j<pl.length
 ·have h1:(j:Int)<(pl.length:Int):=by omega
  have hf2:=uH pl j h
  have hg2:=(rz pl j).1
  have hm2:pl.getD j (0,0)∈pl:=by rw[List.getD_eq_getElem?_getD,List.getElem?_eq_getElem h];exact List.getElem_mem h
  obtain⟨a0,a1,b0,b1⟩:=hin _ hm2
  have hbj:=hbx j
  have hsucc:=sZ bx j
  have YT:=(rz pl j).1
  have YU:=(rz pl j).2
  clear hbx hin hm2 hf2 hg2
  generalize pl.getD j (0,0)=q at*
  obtain⟨q,mm⟩:=q
  simp only at a0 a1 b0 b1 YT YU hbj
  rw[←YT]at a0 a1
  rw[←YU]at b0 b1
  refine aj ?_;(try exact⟨⟩)
  refine⟨by rw[fF];decide,?_⟩
  refine aj ?_;(try exact⟨⟩)
  rw[an8 (show((bI pl).getD (j*2) 0).toNat<3 by omega)]
  refine aj ?_;(try exact⟨⟩)
  refine hl.go h [0,7,8,13,14,17,19,20,22,24,25] [0,1,2,3,4,5,6,7,8] ?_
  unfold c3F
  rw[hsucc,hbj,←YT,←YU]
  unfold gB dS
  rfl
 ·obtain rfl:j=pl.length:=by omega
  have h1:¬(pl.length:Int)<(pl.length:Int):=by omega
  refine aj ?_;(try exact⟨⟩)
  refine⟨fun j _=>(hbx j).symm▸Nat.le_trans (Fg _ _ _) (by decide),he.1,he.2,?_⟩
  refine aj ?_;(try exact⟨⟩)
  refine⟨fun j _=>(hbx j).symm▸Nat.le_trans (Fg _ _ _) (by decide),?_⟩
  refine aj ?_;(try exact⟨⟩)
  refine⟨VR hn hm bp5 ho hv (fun j _=>by show(bx j).length≤6000;rw[hbx];exact Nat.le_trans (Fg _ _ _) (by decide)) (MP _),?_⟩
  refine aj ?_;(try exact⟨⟩)
  subst hW hq htg hch
  exact aM.mk (jw [0,7,8,13,14,17,22,28,29,30,31] [0,2,3,4,7,9,10,1,12] 30 88 108 [] 8 _ (bs6 p d f0 f1 (p.e+1) Z s.ad s.k (cch p n ops m vs own U pl bx) s.ng (cq p s (cch p n ops m vs own U pl bx) T Z SS HH) (cC p n ops m vs own U pl bx (ctg p s (cch p n ops m vs own U pl bx) T Z)) (lg p.jK T) _ (cB p d Z (lg p.jK T) (cq p s (cch p n ops m vs own U pl bx) T Z SS HH)) pI (Ld _ _) hSS (fun _=>rfl) (fun _=>rfl)))
end
end Go.Proofs.YtjhgelfnmhdihaaGreatDoor
