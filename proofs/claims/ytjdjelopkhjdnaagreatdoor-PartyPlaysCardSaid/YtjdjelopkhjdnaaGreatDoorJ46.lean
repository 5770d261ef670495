/-
  The document's parties: climbing, by its program.
-/
import Derived.Test.YtjdjelopkhjdnaaGreatDoorJ40
import Derived.Test.YtjdjelopkhjdnaaGreatDoorJ41
namespace Go.Proofs.YtjdjelopkhjdnaaGreatDoor
set_option linter.unusedVariables false
set_option linter.unusedSimpArgs false
set_option maxRecDepth 100000
open Go.RowKit
section
open Pm
attribute [local irreducible] aV aZ bQ aA au dA cK aF bW aN aU ay ak aT dh bX aR bI fU iC aD bB aP jR dZ bZ bS aJ bT fJ bH bg gV
def Qg(p:XS)(x:Bool×List UInt8×List UInt8×List Bool):XS:={ p with s:=x.2.2.1,has:=x.2.2.2 }
set_option maxHeartbeats 4000000 in
theorem Qj(p:XS)(zs:List Int)(lf:Int)(h:List UInt8)(hf:aG lf=true):fK 135 0 (.var (dH p)) [.agg [.ints .i64 31 zs],.v (.int .i64 lf),.v (.int .i64 (7)),.agg [.bytes 32 h]] (.t [.agg [.bytes 32 (BL zs lf h p.s p.has).2.1],.v (.bool (BL zs lf h p.s p.has).1)]) (.var (dH (Qg p (BL zs lf h p.s p.has)))):=by
 refine mP (E:=Q0) Tryz.func135 Tryz.ntmps135 ?_
 obtain⟨f0,f1⟩:=cZ hf
 have m0:(lf / 2*4+1 !=7)=true:=by simp;omega
 have m1:(lf / 4*8+3 !=7)=true:=by simp;omega
 unfold Qg BL
 cases c2:(aA 4 (au (ay h)) !=zs.getD 23 0)with
 |true=>
  rw[if_pos rfl]
  have g2:(aA 4 (au (ay h)) !=zs.getD 23 0)=true:=c2
  refine aj ?_;(try exact⟨⟩)
  refine aM.mk (aB 4 ?_)
  refine aj ?_;(try exact⟨⟩)
  refine aM.mk (aB 4 ?_)
  refine aj ?_;(try exact⟨⟩)
  try unfold fC
  try rfl
 |false=>
  rw[if_neg (by decide)]
  have g2:(aA 4 (au (ay h)) !=zs.getD 23 0)=false:=c2
  refine aj ?_;(try exact⟨⟩)
  refine aM.mk (aB 4 ?_)
  refine aj ?_;(try exact⟨⟩)
  refine aM.mk (aB 4 ?_)
  refine aj ?_;(try exact⟨⟩)
  try unfold fC
  try rfl
set_option maxHeartbeats 4000000 in
theorem Qi(p:XS)(zs:List Int)(lf:Int)(h:List UInt8)(hf:aG lf=true):fK 135 0 (.var (dH p)) [.agg [.ints .i64 31 zs],.v (.int .i64 lf),.v (.int .i64 (lf / 4*8+3)),.agg [.bytes 32 h]] (.t [.agg [.bytes 32 (ES zs lf h p.s p.has).2.1],.v (.bool (ES zs lf h p.s p.has).1)]) (.var (dH (Qg p (ES zs lf h p.s p.has)))):=by
 refine mP (E:=Q0) Tryz.func135 Tryz.ntmps135 ?_
 obtain⟨f0,f1⟩:=cZ hf
 have m0:(lf / 2*4+1 !=lf / 4*8+3)=true:=by simp;omega
 have m1:(lf / 4*8+3 !=lf / 4*8+3)=false:=by simp
 unfold Qg ES
 cases c1:(aA 4 (au (ay h)) !=zs.getD (16+n2 lf) 0)with
 |true=>
  rw[if_pos rfl]
  have g1:(aA 4 (au (ay h)) !=zs.getD (16+(lf / 4*8+3).toNat) 0)=true:=c1
  refine aj ?_;(try exact⟨⟩)
  refine aM.mk (aB 4 ?_)
  refine aj ?_;(try exact⟨⟩)
  refine aM.mk (aB 4 ?_)
  refine aj ?_;(try exact⟨⟩)
  try unfold fC
  try rfl
 |false=>
  rw[if_neg (by decide)]
  have g1:(aA 4 (au (ay h)) !=zs.getD (16+(lf / 4*8+3).toNat) 0)=false:=c1
  unfold BL
  cases c2:(aA 4 (au (ay (ak h))) !=zs.getD 23 0)with
  |true=>
   rw[if_pos rfl]
   have g2:(aA 4 (au (ay (ak h))) !=zs.getD 23 0)=true:=c2
   refine aj ?_;(try exact⟨⟩)
   refine aM.mk (aB 4 ?_)
   refine aj ?_;(try exact⟨⟩)
   refine aM.mk (aB 4 ?_)
   refine aj ?_;(try exact⟨⟩)
   try unfold fC
   try rfl
  |false=>
   rw[if_neg (by decide)]
   have g2:(aA 4 (au (ay (ak h))) !=zs.getD 23 0)=false:=c2
   refine aj ?_;(try exact⟨⟩)
   refine aM.mk (aB 4 ?_)
   refine aj ?_;(try exact⟨⟩)
   refine aM.mk (aB 4 ?_)
   refine aj ?_;(try exact⟨⟩)
   try unfold fC
   try rfl
set_option maxHeartbeats 4000000 in
theorem Qh(p:XS)(zs:List Int)(lf:Int)(h:List UInt8)(hf:aG lf=true):fK 135 0 (.var (dH p)) [.agg [.ints .i64 31 zs],.v (.int .i64 lf),.v (.int .i64 (lf / 2*4+1)),.agg [.bytes 32 h]] (.t [.agg [.bytes 32 (JM zs lf h p.s p.has).2.1],.v (.bool (JM zs lf h p.s p.has).1)]) (.var (dH (Qg p (JM zs lf h p.s p.has)))):=by
 refine mP (E:=Q0) Tryz.func135 Tryz.ntmps135 ?_
 obtain⟨f0,f1⟩:=cZ hf
 have m0:(lf / 2*4+1 !=lf / 2*4+1)=false:=by simp
 unfold Qg JM
 cases c0:(aA 4 (au (ay h)) !=zs.getD (16+n1 lf) 0)with
 |true=>
  rw[if_pos rfl]
  have g0:(aA 4 (au (ay h)) !=zs.getD (16+(lf / 2*4+1).toNat) 0)=true:=c0
  refine aj ?_;(try exact⟨⟩)
  refine aM.mk (aB 4 ?_)
  refine aj ?_;(try exact⟨⟩)
  refine aM.mk (aB 4 ?_)
  refine aj ?_;(try exact⟨⟩)
  try unfold fC
  try rfl
 |false=>
  rw[if_neg (by decide)]
  have g0:(aA 4 (au (ay h)) !=zs.getD (16+(lf / 2*4+1).toNat) 0)=false:=c0
  unfold ES
  cases c1:(aA 4 (au (ay (ak h))) !=zs.getD (16+n2 lf) 0)with
  |true=>
   rw[if_pos rfl]
   have g1:(aA 4 (au (ay (ak h))) !=zs.getD (16+(lf / 4*8+3).toNat) 0)=true:=c1
   refine aj ?_;(try exact⟨⟩)
   refine aM.mk (aB 4 ?_)
   refine aj ?_;(try exact⟨⟩)
   refine aM.mk (aB 4 ?_)
   refine aj ?_;(try exact⟨⟩)
   try unfold fC
   try rfl
  |false=>
   rw[if_neg (by decide)]
   have g1:(aA 4 (au (ay (ak h))) !=zs.getD (16+(lf / 4*8+3).toNat) 0)=false:=c1
   unfold BL
   cases c2:(aA 4 (au (ay (ak (ak h)))) !=zs.getD 23 0)with
   |true=>
    rw[if_pos rfl]
    have g2:(aA 4 (au (ay (ak (ak h)))) !=zs.getD 23 0)=true:=c2
    refine aj ?_;(try exact⟨⟩)
    refine aM.mk (aB 4 ?_)
    refine aj ?_;(try exact⟨⟩)
    refine aM.mk (aB 4 ?_)
    refine aj ?_;(try exact⟨⟩)
    try unfold fC
    try rfl
   |false=>
    rw[if_neg (by decide)]
    have g2:(aA 4 (au (ay (ak (ak h)))) !=zs.getD 23 0)=false:=c2
    refine aj ?_;(try exact⟨⟩)
    refine aM.mk (aB 4 ?_)
    refine aj ?_;(try exact⟨⟩)
    refine aM.mk (aB 4 ?_)
    refine aj ?_;(try exact⟨⟩)
    try unfold fC
    try rfl
end
section
open Pm
attribute [local irreducible] aV aZ bQ aA au dA cK aF bW aN aU ay ak aT dh bX aR bI fU iC aD bB aP jR dZ bZ bS aJ bT fJ bH bg gV aI
noncomputable def QW:av:=Q0.add 117 Au (vZ GK) ⟨_,Tryz.func117,by kernel_rfl,by kernel_rfl⟩
def aO5(x:Int)(zs:List Int)(n:Nat):Int:=sj (fun i=>aI ((atK 2 zs i).getD 1 0) x) n
theorem QJ(zs:List Int)(j:Nat):(atK 2 zs j).getD 1 0=zs.getD (j*2+1) 0:=by
 unfold atK
 simp[List.getD_eq_getElem?_getD,List.getElem?_take,List.getElem?_drop]
set_option maxHeartbeats 4000000 in
theorem VU(x:Int)(zs:List Int)(n:Nat)(hn:n≤3000):aQ 133 [.row n [.ints .i64 (n*2) zs],.v (.int .i64 x)] (.d (.v (.int .i64 (aO5 x zs n)))):=by
 refine gY fun hl=>?_
 have hz:zs.length=n*2:=hl.1.1
 clear hl
 refine dF (E:=QW) Tryz.func133 Tryz.ntmps133 ?_
 unfold aO5
 obtain⟨N,hN,hno,hend⟩:=Im (fun i=>aI ((atK 2 zs i).getD 1 0) x) n
 refine aj ?_;(try exact⟨⟩)
 refine aM.mk (bV [0,1,5] [0] N (fun j=>⟨[.d (.row n [.ints .i64 (n*2) zs]),.d (.v (.int .i64 x)),.ah,.ah,.ah,.d (.v (.int .i64 (j:Nat))),.ah,.ah,.ah,.ah,.ah,.ah,.ah,.ah,.ah,.ah,.ah,.ah,.ah,.ah],[none]⟩) ?_)
 intro j hj hl
 by_cases h:j<N
 ·have h1:(j:Int)<(n:Int):=by omega
  have h2:aI (zs.getD (j*2+1) 0) x=false:=QJ zs j▸hno j h
  clear hend hno
  refine aj ?_;(try exact⟨⟩)
  refine hl.go h [0,1,5] [0] ?_
  rfl
 ·obtain rfl:j=N:=by omega
  rcases hend with⟨rfl,h4⟩|⟨h3,h4,h5⟩
  ·have h1:¬(j:Int)<(j:Int):=by omega
   rw[h4]
   clear h4 hno
   refine aj ?_;(try exact⟨⟩)
  ·have h1:(j:Int)<(n:Int):=by omega
   have h2:aI (zs.getD (j*2+1) 0) x=true:=QJ zs j▸h4
   rw[h5]
   clear h4 h5 hno
   refine aj ?_;(try exact⟨⟩)
set_option maxHeartbeats 4000000 in
theorem ai5(e:Int)(zs:List Int)(ad:List Bool)(k:Int)(ch:List UInt8)(c:CS)(hf:aG c.fr=true):aQ 65 [.agg (bR e zs ad k ch),.agg (gW c)] (.t [.agg (bR e (fM zs c.fr c.sl c.p0 c.p1 c.p2) ad k ch),.v (.bool (lQ c))]):=by
 refine dF (E:=QW) Tryz.func65 Tryz.ntmps65 ?_
 obtain⟨f0,f1⟩:=cZ hf
 unfold lQ fM
 cases h1:cK c.sl with
 |false=>
  refine aj ?_;(try exact⟨⟩)
  refine aM.mk (aB 4 ?_)
  refine aj ?_;(try exact⟨⟩)
  try rfl
 |true=>
  cases h2:cK c.p0 with
  |false=>
   refine aj ?_;(try exact⟨⟩)
   refine aM.mk (aB 4 ?_)
   refine aj ?_;(try exact⟨⟩)
   try rfl
  |true=>
   cases h3:cK c.p1 with
   |false=>
    refine aj ?_;(try exact⟨⟩)
    refine aM.mk (aB 4 ?_)
    refine aj ?_;(try exact⟨⟩)
    try rfl
   |true=>
    cases h4:cK c.p2 with
    |false=>
     refine aj ?_;(try exact⟨⟩)
     refine aM.mk (aB 4 ?_)
     refine aj ?_;(try exact⟨⟩)
     rw[h4]
     rfl
    |true=>
     refine aj ?_;(try exact⟨⟩)
     refine aM.mk (aB 4 ?_)
     refine aj ?_;(try exact⟨⟩)
     rw[h4]
     rfl
theorem bz5(x:UInt8):UInt8.ofNat (Bt x).toNat=x:=by
 unfold Bt
 rw[Int.toNat_natCast,UInt8.ofNat_toNat]
theorem take_set(b:List UInt8)(j:Nat)(hj:j<32)(hb:32≤b.length):(b.take j++List.replicate (32-j) 0).set j (b.getD j 0)=b.take (j+1)++List.replicate (32- (j+1)) 0:=by
 have hl:(b.take j).length=j:=by simp;omega
 rw[List.set_append_right _ _ (by omega),hl,Nat.sub_self,show 32-j=(31-j)+1 by omega,List.replicate_succ,List.set_cons_zero,show 32- (j+1)=31-j by omega]
 rw[List.take_add_one,List.append_assoc,List.getElem?_eq_getElem (by omega),List.getD_eq_getElem?_getD,List.getElem?_eq_getElem (by omega)]
 rfl
set_option maxHeartbeats 4000000 in
theorem ai3(b:List UInt8)(hb:32≤b.length):aQ 136 [.row b.length [.bytes b.length b]] (.d (.agg [.bytes 32 (b.take 32)])):=by
 refine dF (E:=QW) Tryz.func136 Tryz.ntmps136 ?_
 refine aj ?_;(try exact⟨⟩)
 refine aM.mk (bV [0,2,3,4] [0,1] 32 (fun j=>⟨[.d (.row b.length [.bytes b.length b]),.ah,.ptr 0 0,.ptr 1 0,.d (.v (.int .i64 (j:Nat))),.ah,.ah,.ah,.ah,.ah,.ah,.ah,.ah,.ah,.ah,.ah,.ah],[some (.var [.bytes 32 (List.replicate 32 0)]),some (.var [.bytes 32 (b.take j++List.replicate (32-j) 0)])]⟩) ?_)
 intro j hj hl
 by_cases h:j<32
 ·have h1:(j:Int)<32:=by omega
  have h2:(j:Int)<(b.length:Int):=by omega
  have h3:0≤Bt (b.getD j 0):=Int.natCast_nonneg _
  have h4:Bt (b.getD j 0)<256:=by have:=(b.getD j 0).toNat_lt;show((b.getD j 0).toNat:Int)<256;omega
  refine aj ?_;(try exact⟨⟩)
  refine hl.go h [0,2,3,4] [0,1] ?_
  rw[←take_set b j h hb,bz5]
  rfl
 ·obtain rfl:j=32:=by omega
  have h1:¬(32:Int)<32:=by omega
  refine aj ?_;(try exact⟨⟩)
  try rfl
end
section
open Pm
attribute [local irreducible] aV aZ bQ aA au dA cK aF bW aN aU ay ak aT dh bX aR bI fU iC aD bB aP jR dZ bZ bS aJ bT fJ bH bg gV aI nE qU kI
theorem VF(p:XS)(zs:List Int)(lf:Int)(h:List UInt8)(hf:aG lf=true){k:Nat}(hk:k<3):fK 135 0 (.var (dH p)) [.agg [.ints .i64 31 zs],.v (.int .i64 lf),.v (.int .i64 ((jY lf).getD k 0)),.agg [.bytes 32 h]] (.t [.agg [.bytes 32 (kI zs lf h p.s p.has k).2.1],.v (.bool (kI zs lf h p.s p.has k).1)]) (.var (dH (Qg p (kI zs lf h p.s p.has k)))):=by
 have e:jY lf=[lf / 2*4+1,lf / 4*8+3,7]:=by unfold jY;rw[hf];rfl
 rw[e]
 rcases(show k=0∨k=1∨k=2 by omega)with rfl|rfl|rfl
 ·rw[xclR_0];exact Qh p zs lf h hf
 ·rw[xclR_1];exact Qi p zs lf h hf
 ·rw[xclR_2];exact Qj p zs lf h hf
def JN:Nat→Bk→List A→(bP→Bk→Prop)→Prop
 |0,b,[.agg [.ints .i64 31 zs],.v (.int .i64 lf),.v (.int .i64 m),.agg [.bytes 32 h]],K=>xM b fun p=>aG lf=true∧∃k,m=(jY lf).getD k 0∧k<3∧∀g r S H,(g,r,S,H)=kI zs lf h p.s p.has k→K (.t [.agg [.bytes 32 r],.v (.bool g)]) (.var (dH { p with s:=S,has:=H }))
 |_,_,_,_=>False
theorem Qk:∀pos x args K,JN pos x args K→∃r x',fK 135 pos x args r x'∧K r x':=by
 intro pos x args K h
 unfold JN at h
 split at h
 ·obtain⟨p,rfl,hf,k,rfl,hk,h⟩:=aG4 h
  exact⟨_,_,VF p _ _ _ hf hk,h _ _ _ _ rfl⟩
 ·exact h.elim
theorem Ue(x:Int)(l:List (Int×Int)):aO5 x (bF l) l.length=if dz l x=l.length then -1 else((dz l x:Nat):Int):=
 KS ⟨0,[],[],0,[],x,[],[],[],[],[]⟩ l
def JQ:List A→(bP→Prop)→Prop
 |[.row n [.ints .i64 m z],.v (.int .i64 x)],K=>∃l,n=l.length∧m=l.length*2∧z=bF l∧l.length≤3000∧∀a,a=(if dz l x=l.length then -1 else((dz l x:Nat):Int))→K (.d (.v (.int .i64 a)))
 |_,_=>False
theorem Qw:∀args K,JQ args K→∃r,aQ 133 args r∧K r:=by
 intro args K h
 unfold JQ at h
 split at h
 ·obtain⟨l,rfl,rfl,rfl,hl,h⟩:=h
  exact⟨_,VU _ _ _ hl,h _ (Ue _ _)⟩
 ·exact h.elim
def Qq:List A→(bP→Prop)→Prop
 |[x],K=>pO x fun b=>32≤b.length∧∀h,h=b.take 32→K (.d (.agg [.bytes 32 h]))
 |_,_=>False
theorem VI:∀args K,Qq args K→∃r,aQ 136 args r∧K r:=by
 intro args K h
 unfold Qq at h
 split at h
 ·obtain⟨b,⟨hb,h⟩,hv⟩:=iw h
  refine⟨_,fun S w vs hG ha=>?_,h _ rfl⟩
  obtain⟨v1,rfl,k1⟩:=iL ha
  exact ai3 b hb S w _ hG (.cons (hv k1) .nil)
 ·exact h.elim
noncomputable def bg5:av:=QW.kr 135 JN Qk ⟨_,Tryz.func135,by kernel_rfl,by kernel_rfl⟩
noncomputable def bg6:av:=bg5.add 133 JQ Qw ⟨_,Tryz.func133,by kernel_rfl,by kernel_rfl⟩
noncomputable def X3:av:=bg6.add 136 Qq VI ⟨_,Tryz.func136,by kernel_rfl,by kernel_rfl⟩
theorem uG{S:List UInt8}{has:List Bool}{zs:List Int}{j:Nat}(h:yT has zs j=false):nE S has zs (j+1)=nE S has zs j∧qU has zs (j+1)=qU has zs j:=by
 constructor
 ·rw[nE,if_neg (by rw[h];decide)]
 ·rw[qU,if_neg (by rw[h];decide)]
theorem BZ{S:List UInt8}{has:List Bool}{zs:List Int}{j:Nat}(h:yT has zs j=true):nE S has zs (j+1)=fC (nE S has zs j) j (blk S j)∧qU has zs (j+1)=(qU has zs j).set j true:=by
 constructor
 ·rw[nE,if_pos h]
 ·rw[qU,if_pos h]
abbrev Zn(p:XS)(s:List UInt8)(h:List Bool):List Seg:=[.ints .i64 1 [0],.ints .i64 31 (List.replicate 31 0),.bools 8 (List.replicate 8 false),.ints .i64 1 [0],.bytes 32 (List.replicate 32 0),.ints .i64 1 [p.lf],.ints .i64 2 [p.x,p.y],.bytes 480 s,.bools 15 h,.bytes 32 (List.replicate 32 0),.bytes 32 (List.replicate 32 0)]
theorem Rm(S:List UInt8)(has:List Bool)(zs:List Int):nE S has zs 0=gV∧qU has zs 0=List.replicate 15 false:=by
 constructor
 ·rw[nE]
 ·rw[qU]
abbrev opF(p:XS)(e:Int)(zs:List Int)(ad:List Bool)(k:Int)(ch:List UInt8)(c:CS)(l:List (Int×Int))(j:Nat):St:=
 ⟨[.d (.sref (dH p) 0),.d (.agg (bR e zs ad k ch)),.d (.agg (gW c)),.d (.row l.length [.ints .i64 (l.length*2) (bF l)]),.ah,.ptr 0 0,.ptr 1 0,.ah,.ah,.ptr 2 0,.ah,.ptr 3 0,.d (.v (.int .i64 (j:Nat))),.ah,.ah,.ah,.ah,.ah,.ah,.ah,.ah,.ah,.ah,.ah,.ah,.ah,.ah,.ah,.ah,.ah,.ah,.ah,.ah,.ah,.ah,.ah,.ah,.ah,.ah,.ah,.ah,.ah,.ah,.ah,.ah,.ah,.ah,.ah,.ah,.ah,.ah,.ah,.ah,.ah,.ah,.ah,.ah,.ah,.ah,.ah,.ah,.ah,.ah,.ah,.ah,.ah,.ah,.ah,.ah,.ah,.ah,.ah,.ah,.ah,.ah,.ah,.ah,.ah,.ah,.ah,.ah,.ah,.ah,.ah,.ah,.ah,.ah,.ah,.ah,.ah,.ah,.ah,.ah,.ah,.ah,.ah,.ah,.ah,.ah,.ah,.ah,.ah,.ah,.ah,.ah,.ah,.ah,.ah,.ah,.ah,.ah,.ah,.ah,.ah,.ah,.ah,.ah,.ah,.ah,.ah,.ah,.ah,.ah,.ah,.ah,.ah,.ah,.ah,.ah,.ah,.ah,.ah,.ah,.ah,.ah],[some (.var (bR e zs ad k ch)),some (.var (gW c)),some (.var [.bytes 32 (List.replicate 32 0)]),some (.var (Zn p (nE p.s p.has zs j) (qU p.has zs j)))]⟩
set_option maxHeartbeats 4000000 in
theorem OZ (p : XS) (e : Int) (zs : List Int) (ad : List Bool) (k : Int) (ch : List UInt8) (c : CS) (l : List (Int × Int)) (hc : qH c) (hl3 : l.length ≤ 3000) {N : Nat} (hN : dz l p.lf = N) {g : Int}
    (hno : (N = l.length ∧ g = 10) ∨ (N < l.length ∧ N < c.k ∧ 0 ≤ (bF l).getD (N * 2 + 1) 0 ∧ (bF l).getD (N * 2 + 1) 0 < 15 ∧ (qU p.has zs 15).getD ((bF l).getD (N * 2 + 1) 0).toNat false = true ∧
      ((g = 3 ∧ bH (au (ay (List.take 32 (List.drop (((bF l).getD (N * 2 + 1) 0).toNat * 32) (nE p.s p.has zs 15))))) (c.bx N) ≠ 0) ∨
       (g = 10 ∧ bH (au (ay (List.take 32 (List.drop (((bF l).getD (N * 2 + 1) 0).toNat * 32) (nE p.s p.has zs 15))))) (c.bx N) = 0 ∧ (c.bx N).length - 12 ≠ 32) ∨
       (g = 10 ∧ bH (au (ay (List.take 32 (List.drop (((bF l).getD (N * 2 + 1) 0).toNat * 32) (nE p.s p.has zs 15))))) (c.bx N) = 0 ∧ (c.bx N).length - 12 = 32 ∧ aG p.lf = true ∧ ∃ m, aD p.lf c.fr = (jY p.lf).getD m 0 ∧ m < 3 ∧
         (kI zs p.lf (bg (au (ay (List.take 32 (List.drop (((bF l).getD (N * 2 + 1) 0).toNat * 32) (nE p.s p.has zs 15))))) (c.bx N)) (nE p.s p.has zs 15) (qU p.has zs 15) m).1 = false)))) :
    aQ 66 [.sref (dH p) 0, .agg (bR e zs ad k ch), .agg (gW c), .row l.length [.ints .i64 (l.length * 2) (bF l)]] (.t [.v (.pointer none), .agg [.bytes 32 (zB 32)], .v (.int .i64 g)]) := by
  refine dF (E := X3) Tryz.func66 Tryz.ntmps66 ?_
  obtain ⟨h1, h2, h3, h4, h5, h6⟩ := id hc
  refine aj ?_; (try exact⟨⟩)
  refine aM.mk (bV [0, 1, 2, 3, 5, 6, 9, 11, 12] [0, 1, 2, 3] 15 (opF p e zs ad k ch c l) ?_ (h2 := by unfold opF; rw [(Rm p.s p.has zs).1, (Rm p.s p.has zs).2]; exact rfl))
  intro j hj hl
  by_cases h : j < 15
  · have h1 : (j : Int) < 15 := by omega
    clear hno
    cases a1 : p.has.getD j false with
    | false =>
      have hk : yT p.has zs j = false := by unfold yT; rw [a1]; rfl
      refine aj ?_; (try exact⟨⟩)
      refine hl.go h [0, 1, 2, 3, 5, 6, 9, 11, 12] [0, 1, 2, 3] ?_
      unfold opF
      rw [(uG (S := p.s) hk).1, (uG (S := p.s) hk).2]
      rfl
    | true =>
      cases a2 : (bB zs (j : Nat) != 0) with
      | false =>
        have hk : yT p.has zs j = false := by unfold yT; rw [a1, a2]; rfl
        refine aj ?_; (try exact⟨⟩)
        refine hl.go h [0, 1, 2, 3, 5, 6, 9, 11, 12] [0, 1, 2, 3] ?_
        unfold opF
        rw [(uG (S := p.s) hk).1, (uG (S := p.s) hk).2]
        rfl
      | true =>
        have hk : yT p.has zs j = true := by unfold yT; rw [a1, a2]; rfl
        refine aj ?_; (try exact⟨⟩)
        refine hl.go h [0, 1, 2, 3, 5, 6, 9, 11, 12] [0, 1, 2, 3] ?_
        unfold opF
        rw [(BZ (S := p.s) hk).1, (BZ (S := p.s) hk).2]
        unfold fC blk
        rfl
  · obtain rfl : j = 15 := by omega
    have h1 : ¬ (15 : Int) < 15 := by omega
    refine aj ?_; (try exact⟨⟩)
    intro a ha
    rcases hno with ⟨hn, rfl⟩ | ⟨hn, hnk, b0, b1, b2, hno⟩
    · obtain rfl : a = -1 := by rw [ha, hN, hn, if_pos rfl]
      refine aj ?_; (try exact⟨⟩)
      try rfl
    · obtain rfl : a = (N : Int) := by rw [ha, hN, if_neg (by omega)]
      have hbx : (c.bx N).length ≤ 1000000 := by have := h6 N hnk; omega
      have n0 : ¬ ((N : Nat) : Int) < 0 := by omega
      have n1 : ((N : Nat) : Int) < (l.length : Int) := by omega
      have n2 : ((N : Nat) : Int) < (c.k : Int) := by omega
      clear ha hN
      rcases hno with ⟨rfl, g1⟩ | ⟨rfl, g1, g2⟩ | ⟨rfl, g1, g2, hf, m, hm, hm3, g3⟩
      · have g4 := decide_eq_false g1
        have g5 : (bH (au (ay (List.take 32 (List.drop (((bF l).getD (N * 2 + 1) 0).toNat * 32) (nE p.s p.has zs 15))))) (c.bx N) != 0) = true := by simpa using g1
        clear g1
        refine aj ?_; (try exact⟨⟩)
        rfl
      · have g4 := decide_eq_true g1
        have g5 : ((((c.bx N).length - 12 : Nat) : Int) != 32) = true := by simp; omega
        clear g1 g2
        refine aj ?_; (try exact⟨⟩)
        rfl
      · have g4 := decide_eq_true g1
        have hBl := oL g1
        have hB2 : 32 ≤ (bg (au (ay (List.take 32 (List.drop (((bF l).getD (N * 2 + 1) 0).toNat * 32) (nE p.s p.has zs 15))))) (c.bx N)).length := by omega
        clear g1
        refine aj ?_; (try exact⟨⟩)
        intro h hh
        obtain rfl : h = bg (au (ay (List.take 32 (List.drop (((bF l).getD (N * 2 + 1) 0).toNat * 32) (nE p.s p.has zs 15))))) (c.bx N) := hh.trans (List.take_of_length_le (by omega))
        clear hh hBl hB2
        refine aj ?_; (try exact⟨⟩)
        refine ⟨m, hm, hm3, ?_⟩
        intro g r S H hx
        obtain rfl : g = false := (congrArg Prod.fst hx).trans g3
        clear hx g3
        refine aj ?_; (try exact⟨⟩)
        rfl
set_option maxHeartbeats 4000000 in
theorem UD(p:XS)(e:Int)(zs:List Int)(ad:List Bool)(k:Int)(ch:List UInt8)(c:CS)(l:List (Int×Int))(hc:qH c)(hl3:l.length≤3000){N:Nat}(hN:dz l p.lf=N)(hn:N<l.length)(hnk:N<c.k)
  (b0:0≤(bF l).getD (N*2+1) 0)(b1:(bF l).getD (N*2+1) 0<15)(b2:(qU p.has zs 15).getD ((bF l).getD (N*2+1) 0).toNat false=true)
  (g1:bH (au (ay (List.take 32 (List.drop (((bF l).getD (N*2+1) 0).toNat*32) (nE p.s p.has zs 15))))) (c.bx N)=0)(g2:(c.bx N).length-12=32)(hf:aG p.lf=true){m:Nat}(hm:aD p.lf c.fr=(jY p.lf).getD m 0)(hm3:m<3){u S:List UInt8}{H:List Bool}
  (hX:kI zs p.lf (bg (au (ay (List.take 32 (List.drop (((bF l).getD (N*2+1) 0).toNat*32) (nE p.s p.has zs 15))))) (c.bx N)) (nE p.s p.has zs 15) (qU p.has zs 15) m=(true,u,S,H)):
  aj7 Tryz.prog gTab 66 [.sref (dH p) 0,.agg (bR e zs ad k ch),.agg (gW c),.row l.length [.ints .i64 (l.length*2) (bF l)]] (Zn p S H) [.agg [.bytes 32 u],.v (.int .i64 0)]:=by
 refine ao1 (E:=X3) Tryz.func66 Tryz.ntmps66 rfl (by intro h;cases h) (GW.of ?_) rfl rfl
 obtain⟨h1,h2,h3,h4,h5,h6⟩:=id hc
 refine aj ?_;(try exact⟨⟩)
 refine aM.mk (bV [0,1,2,3,5,6,9,11,12] [0,1,2,3] 15 (opF p e zs ad k ch c l) ?_ (h2:=by unfold opF;rw[(Rm p.s p.has zs).1,(Rm p.s p.has zs).2];exact rfl))
 intro j hj hl
 by_cases h:j<15
 ·have h1:(j:Int)<15:=by omega
  clear hX b0 b1 b2 g1 g2 hm
  cases a1:p.has.getD j false with
  |false=>
   have hk:yT p.has zs j=false:=by unfold yT;rw[a1];rfl
   refine aj ?_;(try exact⟨⟩)
   refine hl.go h [0,1,2,3,5,6,9,11,12] [0,1,2,3] ?_
   unfold opF
   rw[(uG (S:=p.s) hk).1,(uG (S:=p.s) hk).2]
   rfl
  |true=>
   cases a2:(bB zs (j:Nat) !=0)with
   |false=>
    have hk:yT p.has zs j=false:=by unfold yT;rw[a1,a2];rfl
    refine aj ?_;(try exact⟨⟩)
    refine hl.go h [0,1,2,3,5,6,9,11,12] [0,1,2,3] ?_
    unfold opF
    rw[(uG (S:=p.s) hk).1,(uG (S:=p.s) hk).2]
    rfl
   |true=>
    have hk:yT p.has zs j=true:=by unfold yT;rw[a1,a2];rfl
    refine aj ?_;(try exact⟨⟩)
    refine hl.go h [0,1,2,3,5,6,9,11,12] [0,1,2,3] ?_
    unfold opF
    rw[(BZ (S:=p.s) hk).1,(BZ (S:=p.s) hk).2]
    unfold fC blk
    rfl
 ·obtain rfl:j=15:=by omega
  have h1:¬(15:Int)<15:=by omega
  refine aj ?_;(try exact⟨⟩)
  intro a ha
  obtain rfl:a=(N:Int):=by rw[ha,hN,if_neg (by omega)]
  have hbx:(c.bx N).length≤1000000:=by have:=h6 N hnk;omega
  have n0:¬((N:Nat):Int)<0:=by omega
  have n1:((N:Nat):Int)<(l.length:Int):=by omega
  have n2:((N:Nat):Int)<(c.k:Int):=by omega
  clear ha hN
  have g4:=decide_eq_true g1
  have hBl:=oL g1
  have hB2:32≤(bg (au (ay (List.take 32 (List.drop (((bF l).getD (N*2+1) 0).toNat*32) (nE p.s p.has zs 15))))) (c.bx N)).length:=by omega
  clear g1
  refine aj ?_;(try exact⟨⟩)
  intro h hh
  obtain rfl:h=bg (au (ay (List.take 32 (List.drop (((bF l).getD (N*2+1) 0).toNat*32) (nE p.s p.has zs 15))))) (c.bx N):=hh.trans (List.take_of_length_le (by omega))
  clear hh hBl hB2
  refine aj ?_;(try exact⟨⟩)
  refine⟨m,hm,hm3,?_⟩
  intro g r S' H' hx
  have hx:=hx.trans hX
  obtain⟨rfl,rfl,rfl,rfl⟩:g=true∧r=u∧S'=S∧H'=H:=by simpa using hx
  clear hx hX
  refine aj ?_;(try exact⟨⟩)
end
section
open Pm
attribute [local irreducible] aV aZ bQ aA au dA cK aF bW aN aU ay ak aT dh bX aR bI fU iC aD bB aP jR dZ bZ bS aJ bT fJ bH bg gV aI nE qU kI bn fO eD
def Qx:List A→(bP→Prop)→Prop
 |[.agg [.ints .i64 31 zs],.v (.int .i64 x),.agg [.bools 8 bt]],K=>aG x=true∧∀l,l=aR zs x bt→K (.d (.row l.length [.ints .i64 (l.length*2) (bF l)]))
 |_,_=>False
theorem VW:∀args K,Qx args K→∃r,aQ 47 args r∧K r:=by
 intro args K h
 unfold Qx at h
 split at h
 ·exact⟨_,mQ (MV _ _ _ h.1),h.2 _ rfl⟩
 ·exact h.elim
def Qt:List A→(bP→Prop)→Prop
 |[.agg [.ints .i64 1 [e],.ints .i64 31 zs,.bools 8 ad,.ints .i64 1 [k],.bytes 32 ch],y],K=>oW y fun c=>aG c.fr=true∧∀b Z,b=lQ c→Z=fM zs c.fr c.sl c.p0 c.p1 c.p2→K (.t [.agg (bR e Z ad k ch),.v (.bool b)])
 |_,_=>False
theorem VO:∀args K,Qt args K→∃r,aQ 65 args r∧K r:=by
 intro args K h
 unfold Qt at h
 split at h
 ·obtain⟨c,⟨h1,h⟩,hc⟩:=gG h
  refine⟨_,fun S w vs' hG ha=>?_,h _ _ rfl rfl⟩
  obtain⟨v1,v2,rfl,k1,k2⟩:=lH ha
  exact ai5 _ _ _ _ _ c h1 S w _ hG (.cons k1 (.cons (hc k2).1 .nil))
 ·exact h.elim
def aQ1 (p : XS) (zs : List Int) (c : CS) (l : List (Int × Int)) (g : Int) : Prop :=
  l.length ≤ 3000 ∧ ∃ N, dz l p.lf = N ∧ ((N = l.length ∧ g = 10) ∨ (N < l.length ∧ N < c.k ∧ 0 ≤ (bF l).getD (N * 2 + 1) 0 ∧ (bF l).getD (N * 2 + 1) 0 < 15 ∧ (qU p.has zs 15).getD ((bF l).getD (N * 2 + 1) 0).toNat false = true ∧
      ((g = 3 ∧ bH (au (ay (List.take 32 (List.drop (((bF l).getD (N * 2 + 1) 0).toNat * 32) (nE p.s p.has zs 15))))) (c.bx N) ≠ 0) ∨
       (g = 10 ∧ bH (au (ay (List.take 32 (List.drop (((bF l).getD (N * 2 + 1) 0).toNat * 32) (nE p.s p.has zs 15))))) (c.bx N) = 0 ∧ (c.bx N).length - 12 ≠ 32) ∨
       (g = 10 ∧ bH (au (ay (List.take 32 (List.drop (((bF l).getD (N * 2 + 1) 0).toNat * 32) (nE p.s p.has zs 15))))) (c.bx N) = 0 ∧ (c.bx N).length - 12 = 32 ∧ aG p.lf = true ∧ ∃ m, aD p.lf c.fr = (jY p.lf).getD m 0 ∧ m < 3 ∧
         (kI zs p.lf (bg (au (ay (List.take 32 (List.drop (((bF l).getD (N * 2 + 1) 0).toNat * 32) (nE p.s p.has zs 15))))) (c.bx N)) (nE p.s p.has zs 15) (qU p.has zs 15) m).1 = false))))
def Qv:List A→(bP→Prop)→Prop
 |[x,.agg [.ints .i64 1 [e],.ints .i64 31 zs,.bools 8 ad,.ints .i64 1 [k],.bytes 32 ch],y,.row n [.ints .i64 m z]],K=>xK x fun p=>oW y fun c=>∃l,n=l.length∧m=l.length*2∧z=bF l∧∃g,aQ1 p zs c l g∧K (.t [.v (.pointer none),.agg [.bytes 32 (zB 32)],.v (.int .i64 g)])
 |_,_=>False
theorem VQ:∀args K,Qv args K→∃r,aQ 66 args r∧K r:=by
 intro args K h
 unfold Qv at h
 split at h
 ·obtain⟨p,rfl,h⟩:=MP h
  obtain⟨c,⟨l,rfl,rfl,rfl,g,⟨h1,N,h2,h3⟩,h⟩,hc⟩:=gG h
  refine⟨_,fun S w vs' hG ha=>?_,h⟩
  obtain⟨v1,v2,v3,v4,rfl,k1,k2,k3,k4⟩:=mh ha
  obtain⟨q1,q2,q3⟩:=hc k3
  exact OZ p _ _ _ _ _ c l q2 h1 h2 h3 S w _ hG (.cons k1 (.cons k2 (.cons q1 (.cons k4 .nil))))
 ·exact h.elim
noncomputable def bg7:av:=X3.add 43 al7 (QS Ai) ⟨_,Tryz.func43,by kernel_rfl,by kernel_rfl⟩
noncomputable def bg8:av:=bg7.add 44 ak7 (QH vP) ⟨_,Tryz.func44,by kernel_rfl,by kernel_rfl⟩
noncomputable def bg9:av:=bg8.add 47 Qx VW ⟨_,Tryz.func47,by kernel_rfl,by kernel_rfl⟩
noncomputable def bh0:av:=bg9.add 65 Qt VO ⟨_,Tryz.func65,by kernel_rfl,by kernel_rfl⟩
noncomputable def bh2:av:=bh0.add 63 RS LV ⟨_,Tryz.func63,by kernel_rfl,by kernel_rfl⟩
noncomputable def bh3:av:=bh2.add 64 Vz (Cq EA) ⟨_,Tryz.func64,by kernel_rfl,by kernel_rfl⟩
noncomputable def QX:av:=bh3.add 66 Qv VQ ⟨_,Tryz.func66,by kernel_rfl,by kernel_rfl⟩
abbrev xdo(X:XS)(c:CS):Vw:=(dh X.e ⟨X.zs,X.ad,X.k,F8,F8⟩ c.fr c.ops c.n).2
abbrev xzs(X:XS)(c:CS):List Int:=fM (xdo X c).zs c.fr c.sl c.p0 c.p1 c.p2
end
end Go.Proofs.YtjdjelopkhjdnaaGreatDoor
