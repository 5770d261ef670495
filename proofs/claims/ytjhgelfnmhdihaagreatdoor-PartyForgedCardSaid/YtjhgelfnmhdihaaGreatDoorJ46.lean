/-
  The document's parties: climbing, by its program.
-/
import Derived.Test.YtjhgelfnmhdihaaGreatDoorJ40
import Derived.Test.YtjhgelfnmhdihaaGreatDoorJ41
namespace Go.Proofs.YtjhgelfnmhdihaaGreatDoor
set_option linter.unusedVariables false
set_option linter.unusedSimpArgs false
set_option maxRecDepth 100000
open Go.RowKit
section
open Pm
attribute [local irreducible] aU aZ bR aA au dB cO aF bZ aN aT av ak aR cZ bX aQ bK gB iC aD bA aO jW dJ bW bH aH bT fU bJ bg gY
def Qx(p:XS)(x:Bool×List UInt8×List UInt8×List Bool):XS:={ p with s:=x.2.2.1,has:=x.2.2.2 }
set_option maxHeartbeats 4000000 in
theorem QA(p:XS)(zs:List Int)(lf:Int)(h:List UInt8)(hf:aG lf=true):gq 90 0 (.var (dM p)) [.agg [.ints .i64 31 zs],.v (.int .i64 lf),.v (.int .i64 (7)),.agg [.bytes 32 h]] (.t [.agg [.bytes 32 (BS zs lf h p.s p.has).2.1],.v (.bool (BS zs lf h p.s p.has).1)]) (.var (dM (Qx p (BS zs lf h p.s p.has)))):=by
 refine mY (E:=Rn) Tryz.func90 Tryz.ntmps90 ?_
 obtain⟨f0,f1⟩:=dh hf
 have m0:(lf / 2*4+1 !=7)=true:=by simp;omega
 have m1:(lf / 4*8+3 !=7)=true:=by simp;omega
 unfold Qx BS
 cases c2:(aA 4 (au (av h)) !=zs.getD 23 0)with
 |true=>
  rw[if_pos rfl]
  have g2:(aA 4 (au (av h)) !=zs.getD 23 0)=true:=c2
  refine aj ?_;(try exact⟨⟩)
  refine aM.mk (aB 4 ?_)
  refine aj ?_;(try exact⟨⟩)
  refine aM.mk (aB 4 ?_)
  refine aj ?_;(try exact⟨⟩)
  try unfold fI
  try rfl
 |false=>
  rw[if_neg (by decide)]
  have g2:(aA 4 (au (av h)) !=zs.getD 23 0)=false:=c2
  refine aj ?_;(try exact⟨⟩)
  refine aM.mk (aB 4 ?_)
  refine aj ?_;(try exact⟨⟩)
  refine aM.mk (aB 4 ?_)
  refine aj ?_;(try exact⟨⟩)
  try unfold fI
  try rfl
set_option maxHeartbeats 4000000 in
theorem Qz(p:XS)(zs:List Int)(lf:Int)(h:List UInt8)(hf:aG lf=true):gq 90 0 (.var (dM p)) [.agg [.ints .i64 31 zs],.v (.int .i64 lf),.v (.int .i64 (lf / 4*8+3)),.agg [.bytes 32 h]] (.t [.agg [.bytes 32 (Fa zs lf h p.s p.has).2.1],.v (.bool (Fa zs lf h p.s p.has).1)]) (.var (dM (Qx p (Fa zs lf h p.s p.has)))):=by
 refine mY (E:=Rn) Tryz.func90 Tryz.ntmps90 ?_
 obtain⟨f0,f1⟩:=dh hf
 have m0:(lf / 2*4+1 !=lf / 4*8+3)=true:=by simp;omega
 have m1:(lf / 4*8+3 !=lf / 4*8+3)=false:=by simp
 unfold Qx Fa
 cases c1:(aA 4 (au (av h)) !=zs.getD (16+n2 lf) 0)with
 |true=>
  rw[if_pos rfl]
  have g1:(aA 4 (au (av h)) !=zs.getD (16+(lf / 4*8+3).toNat) 0)=true:=c1
  refine aj ?_;(try exact⟨⟩)
  refine aM.mk (aB 4 ?_)
  refine aj ?_;(try exact⟨⟩)
  refine aM.mk (aB 4 ?_)
  refine aj ?_;(try exact⟨⟩)
  try unfold fI
  try rfl
 |false=>
  rw[if_neg (by decide)]
  have g1:(aA 4 (au (av h)) !=zs.getD (16+(lf / 4*8+3).toNat) 0)=false:=c1
  unfold BS
  cases c2:(aA 4 (au (av (ak h))) !=zs.getD 23 0)with
  |true=>
   rw[if_pos rfl]
   have g2:(aA 4 (au (av (ak h))) !=zs.getD 23 0)=true:=c2
   refine aj ?_;(try exact⟨⟩)
   refine aM.mk (aB 4 ?_)
   refine aj ?_;(try exact⟨⟩)
   refine aM.mk (aB 4 ?_)
   refine aj ?_;(try exact⟨⟩)
   try unfold fI
   try rfl
  |false=>
   rw[if_neg (by decide)]
   have g2:(aA 4 (au (av (ak h))) !=zs.getD 23 0)=false:=c2
   refine aj ?_;(try exact⟨⟩)
   refine aM.mk (aB 4 ?_)
   refine aj ?_;(try exact⟨⟩)
   refine aM.mk (aB 4 ?_)
   refine aj ?_;(try exact⟨⟩)
   try unfold fI
   try rfl
set_option maxHeartbeats 4000000 in
theorem Qy(p:XS)(zs:List Int)(lf:Int)(h:List UInt8)(hf:aG lf=true):gq 90 0 (.var (dM p)) [.agg [.ints .i64 31 zs],.v (.int .i64 lf),.v (.int .i64 (lf / 2*4+1)),.agg [.bytes 32 h]] (.t [.agg [.bytes 32 (J5 zs lf h p.s p.has).2.1],.v (.bool (J5 zs lf h p.s p.has).1)]) (.var (dM (Qx p (J5 zs lf h p.s p.has)))):=by
 refine mY (E:=Rn) Tryz.func90 Tryz.ntmps90 ?_
 obtain⟨f0,f1⟩:=dh hf
 have m0:(lf / 2*4+1 !=lf / 2*4+1)=false:=by simp
 unfold Qx J5
 cases c0:(aA 4 (au (av h)) !=zs.getD (16+n1 lf) 0)with
 |true=>
  rw[if_pos rfl]
  have g0:(aA 4 (au (av h)) !=zs.getD (16+(lf / 2*4+1).toNat) 0)=true:=c0
  refine aj ?_;(try exact⟨⟩)
  refine aM.mk (aB 4 ?_)
  refine aj ?_;(try exact⟨⟩)
  refine aM.mk (aB 4 ?_)
  refine aj ?_;(try exact⟨⟩)
  try unfold fI
  try rfl
 |false=>
  rw[if_neg (by decide)]
  have g0:(aA 4 (au (av h)) !=zs.getD (16+(lf / 2*4+1).toNat) 0)=false:=c0
  unfold Fa
  cases c1:(aA 4 (au (av (ak h))) !=zs.getD (16+n2 lf) 0)with
  |true=>
   rw[if_pos rfl]
   have g1:(aA 4 (au (av (ak h))) !=zs.getD (16+(lf / 4*8+3).toNat) 0)=true:=c1
   refine aj ?_;(try exact⟨⟩)
   refine aM.mk (aB 4 ?_)
   refine aj ?_;(try exact⟨⟩)
   refine aM.mk (aB 4 ?_)
   refine aj ?_;(try exact⟨⟩)
   try unfold fI
   try rfl
  |false=>
   rw[if_neg (by decide)]
   have g1:(aA 4 (au (av (ak h))) !=zs.getD (16+(lf / 4*8+3).toNat) 0)=false:=c1
   unfold BS
   cases c2:(aA 4 (au (av (ak (ak h)))) !=zs.getD 23 0)with
   |true=>
    rw[if_pos rfl]
    have g2:(aA 4 (au (av (ak (ak h)))) !=zs.getD 23 0)=true:=c2
    refine aj ?_;(try exact⟨⟩)
    refine aM.mk (aB 4 ?_)
    refine aj ?_;(try exact⟨⟩)
    refine aM.mk (aB 4 ?_)
    refine aj ?_;(try exact⟨⟩)
    try unfold fI
    try rfl
   |false=>
    rw[if_neg (by decide)]
    have g2:(aA 4 (au (av (ak (ak h)))) !=zs.getD 23 0)=false:=c2
    refine aj ?_;(try exact⟨⟩)
    refine aM.mk (aB 4 ?_)
    refine aj ?_;(try exact⟨⟩)
    refine aM.mk (aB 4 ?_)
    refine aj ?_;(try exact⟨⟩)
    try unfold fI
    try rfl
end
section
open Pm
attribute [local irreducible] aU aZ bR aA au dB cO aF bZ aN aT av ak aR cZ bX aQ bK gB iC aD bA aO jW dJ bW bH aH bT fU bJ bg gY aJ
noncomputable def Ri:ay:=Rn.add 154 AB (wB G8) ⟨_,Tryz.func154,by kernel_rfl,by kernel_rfl⟩
def aP7(x:Int)(zs:List Int)(n:Nat):Int:=sw (fun i=>aJ ((atK 2 zs i).getD 1 0) x) n
theorem Q5(zs:List Int)(j:Nat):(atK 2 zs j).getD 1 0=zs.getD (j*2+1) 0:=by
 unfold atK
 simp[List.getD_eq_getElem?_getD,List.getElem?_take,List.getElem?_drop]
set_option maxHeartbeats 4000000 in
theorem Wh(x:Int)(zs:List Int)(n:Nat)(hn:n≤3000):aP 156 [.row n [.ints .i64 (n*2) zs],.v (.int .i64 x)] (.d (.v (.int .i64 (aP7 x zs n)))):=by
 refine iq fun hl=>?_
 have hz:zs.length=n*2:=hl.1.1
 clear hl
 refine dK (E:=Ri) Tryz.func156 Tryz.ntmps156 ?_
 unfold aP7
 obtain⟨N,hN,hno,hend⟩:=II (fun i=>aJ ((atK 2 zs i).getD 1 0) x) n
 refine aj ?_;(try exact⟨⟩)
 refine aM.mk (bV [0,1,5] [0] N (fun j=>⟨[.d (.row n [.ints .i64 (n*2) zs]),.d (.v (.int .i64 x)),.ah,.ah,.ah,.d (.v (.int .i64 (j:Nat))),.ah,.ah,.ah,.ah,.ah,.ah,.ah,.ah,.ah,.ah,.ah,.ah,.ah,.ah],[none]⟩) ?_)
 intro j hj hl
 by_cases h:j<N
 ·have h1:(j:Int)<(n:Int):=by omega
  have h2:aJ (zs.getD (j*2+1) 0) x=false:=Q5 zs j▸hno j h
  clear hend hno
  refine aj ?_;(try exact⟨⟩)
  refine hl.go h [0,1,5] [0] ?_
  rfl
 ·obtain rfl:j=N:=by omega
  rcases hend with⟨rfl,h4⟩|⟨h3,h4,h5⟩
  ·have h1:¬(j:Int)<(j:Int):=by omega
   rw[h4]
   clear h4 hno
   refine aj ?_;(try exact⟨⟩)
  ·have h1:(j:Int)<(n:Int):=by omega
   have h2:aJ (zs.getD (j*2+1) 0) x=true:=Q5 zs j▸h4
   rw[h5]
   clear h4 h5 hno
   refine aj ?_;(try exact⟨⟩)
set_option maxHeartbeats 4000000 in
theorem aj1(e:Int)(zs:List Int)(ad:List Bool)(k:Int)(ch:List UInt8)(c:CS)(hf:aG c.fr=true):aP 78 [.agg (bS e zs ad k ch),.agg (gZ c)] (.t [.agg (bS e (gu zs c.fr c.sl c.p0 c.p1 c.p2) ad k ch),.v (.bool (lZ c))]):=by
 refine dK (E:=Ri) Tryz.func78 Tryz.ntmps78 ?_
 obtain⟨f0,f1⟩:=dh hf
 unfold lZ gu
 cases h1:cO c.sl with
 |false=>
  refine aj ?_;(try exact⟨⟩)
  refine aM.mk (aB 4 ?_)
  refine aj ?_;(try exact⟨⟩)
  try rfl
 |true=>
  cases h2:cO c.p0 with
  |false=>
   refine aj ?_;(try exact⟨⟩)
   refine aM.mk (aB 4 ?_)
   refine aj ?_;(try exact⟨⟩)
   try rfl
  |true=>
   cases h3:cO c.p1 with
   |false=>
    refine aj ?_;(try exact⟨⟩)
    refine aM.mk (aB 4 ?_)
    refine aj ?_;(try exact⟨⟩)
    try rfl
   |true=>
    cases h4:cO c.p2 with
    |false=>
     refine aj ?_;(try exact⟨⟩)
     refine aM.mk (aB 4 ?_)
     refine aj ?_;(try exact⟨⟩)
     rw[h4]
     rfl
    |true=>
     refine aj ?_;(try exact⟨⟩)
     refine aM.mk (aB 4 ?_)
     refine aj ?_;(try exact⟨⟩)
     rw[h4]
     rfl
theorem bC1(x:UInt8):UInt8.ofNat (Bt x).toNat=x:=by
 unfold Bt
 rw[Int.toNat_natCast,UInt8.ofNat_toNat]
theorem take_set(b:List UInt8)(j:Nat)(hj:j<32)(hb:32≤b.length):(b.take j++List.replicate (32-j) 0).set j (b.getD j 0)=b.take (j+1)++List.replicate (32- (j+1)) 0:=by
 have hl:(b.take j).length=j:=by simp;omega
 rw[List.set_append_right _ _ (by omega),hl,Nat.sub_self,show 32-j=(31-j)+1 by omega,List.replicate_succ,List.set_cons_zero,show 32- (j+1)=31-j by omega]
 rw[List.take_add_one,List.append_assoc,List.getElem?_eq_getElem (by omega),List.getD_eq_getElem?_getD,List.getElem?_eq_getElem (by omega)]
 rfl
set_option maxHeartbeats 4000000 in
theorem ai9(b:List UInt8)(hb:32≤b.length):aP 91 [.row b.length [.bytes b.length b]] (.d (.agg [.bytes 32 (b.take 32)])):=by
 refine dK (E:=Ri) Tryz.func91 Tryz.ntmps91 ?_
 refine aj ?_;(try exact⟨⟩)
 refine aM.mk (bV [0,2,3,4] [0,1] 32 (fun j=>⟨[.d (.row b.length [.bytes b.length b]),.ah,.ptr 0 0,.ptr 1 0,.d (.v (.int .i64 (j:Nat))),.ah,.ah,.ah,.ah,.ah,.ah,.ah,.ah,.ah,.ah,.ah,.ah],[some (.var [.bytes 32 (List.replicate 32 0)]),some (.var [.bytes 32 (b.take j++List.replicate (32-j) 0)])]⟩) ?_)
 intro j hj hl
 by_cases h:j<32
 ·have h1:(j:Int)<32:=by omega
  have h2:(j:Int)<(b.length:Int):=by omega
  have h3:0≤Bt (b.getD j 0):=Int.natCast_nonneg _
  have h4:Bt (b.getD j 0)<256:=by have:=(b.getD j 0).toNat_lt;show((b.getD j 0).toNat:Int)<256;omega
  refine aj ?_;(try exact⟨⟩)
  refine hl.go h [0,2,3,4] [0,1] ?_
  rw[←take_set b j h hb,bC1]
  rfl
 ·obtain rfl:j=32:=by omega
  have h1:¬(32:Int)<32:=by omega
  refine aj ?_;(try exact⟨⟩)
  try rfl
end
section
open Pm
attribute [local irreducible] aU aZ bR aA au dB cO aF bZ aN aT av ak aR cZ bX aQ bK gB iC aD bA aO jW dJ bW bH aH bT fU bJ bg gY aJ nk qP kF
theorem VT(p:XS)(zs:List Int)(lf:Int)(h:List UInt8)(hf:aG lf=true){k:Nat}(hk:k<3):gq 90 0 (.var (dM p)) [.agg [.ints .i64 31 zs],.v (.int .i64 lf),.v (.int .i64 ((kr lf).getD k 0)),.agg [.bytes 32 h]] (.t [.agg [.bytes 32 (kF zs lf h p.s p.has k).2.1],.v (.bool (kF zs lf h p.s p.has k).1)]) (.var (dM (Qx p (kF zs lf h p.s p.has k)))):=by
 have e:kr lf=[lf / 2*4+1,lf / 4*8+3,7]:=by unfold kr;rw[hf];rfl
 rw[e]
 rcases(show k=0∨k=1∨k=2 by omega)with rfl|rfl|rfl
 ·rw[xclR_0];exact Qy p zs lf h hf
 ·rw[xclR_1];exact Qz p zs lf h hf
 ·rw[xclR_2];exact QA p zs lf h hf
def J6:Nat→Bk→List A→(bP→Bk→Prop)→Prop
 |0,b,[.agg [.ints .i64 31 zs],.v (.int .i64 lf),.v (.int .i64 m),.agg [.bytes 32 h]],K=>xM b fun p=>aG lf=true∧∃k,m=(kr lf).getD k 0∧k<3∧∀g r S H,(g,r,S,H)=kF zs lf h p.s p.has k→K (.t [.agg [.bytes 32 r],.v (.bool g)]) (.var (dM { p with s:=S,has:=H }))
 |_,_,_,_=>False
theorem QB:∀pos x args K,J6 pos x args K→∃r x',gq 90 pos x args r x'∧K r x':=by
 intro pos x args K h
 unfold J6 at h
 split at h
 ·obtain⟨p,rfl,hf,k,rfl,hk,h⟩:=aH6 h
  exact⟨_,_,VT p _ _ _ hf hk,h _ _ _ _ rfl⟩
 ·exact h.elim
theorem Us(x:Int)(l:List (Int×Int)):aP7 x (bI l) l.length=if dD l x=l.length then -1 else((dD l x:Nat):Int):=
 La ⟨0,[],[],0,[],x,[],[],[],[],[]⟩ l
def J8:List A→(bP→Prop)→Prop
 |[.row n [.ints .i64 m z],.v (.int .i64 x)],K=>∃l,n=l.length∧m=l.length*2∧z=bI l∧l.length≤3000∧∀a,a=(if dD l x=l.length then -1 else((dD l x:Nat):Int))→K (.d (.v (.int .i64 a)))
 |_,_=>False
theorem QL:∀args K,J8 args K→∃r,aP 156 args r∧K r:=by
 intro args K h
 unfold J8 at h
 split at h
 ·obtain⟨l,rfl,rfl,rfl,hl,h⟩:=h
  exact⟨_,Wh _ _ _ hl,h _ (Us _ _)⟩
 ·exact h.elim
def QG:List A→(bP→Prop)→Prop
 |[x],K=>pV x fun b=>32≤b.length∧∀h,h=b.take 32→K (.d (.agg [.bytes 32 h]))
 |_,_=>False
theorem VX:∀args K,QG args K→∃r,aP 91 args r∧K r:=by
 intro args K h
 unfold QG at h
 split at h
 ·obtain⟨b,⟨hb,h⟩,hv⟩:=iD h
  refine⟨_,fun S w vs hG ha=>?_,h _ rfl⟩
  obtain⟨v1,rfl,k1⟩:=iP ha
  exact ai9 b hb S w _ hG (.cons (hv k1) .nil)
 ·exact h.elim
noncomputable def bi2:ay:=Ri.kG 90 J6 QB ⟨_,Tryz.func90,by kernel_rfl,by kernel_rfl⟩
noncomputable def bi3:ay:=bi2.add 156 J8 QL ⟨_,Tryz.func156,by kernel_rfl,by kernel_rfl⟩
noncomputable def Yc:ay:=bi3.add 91 QG VX ⟨_,Tryz.func91,by kernel_rfl,by kernel_rfl⟩
theorem uN{S:List UInt8}{has:List Bool}{zs:List Int}{j:Nat}(h:yX has zs j=false):nk S has zs (j+1)=nk S has zs j∧qP has zs (j+1)=qP has zs j:=by
 constructor
 ·rw[nk,if_neg (by rw[h];decide)]
 ·rw[qP,if_neg (by rw[h];decide)]
theorem Ci{S:List UInt8}{has:List Bool}{zs:List Int}{j:Nat}(h:yX has zs j=true):nk S has zs (j+1)=fI (nk S has zs j) j (blk S j)∧qP has zs (j+1)=(qP has zs j).set j true:=by
 constructor
 ·rw[nk,if_pos h]
 ·rw[qP,if_pos h]
abbrev Zu(p:XS)(s:List UInt8)(h:List Bool):List Seg:=[.ints .i64 1 [0],.ints .i64 31 (List.replicate 31 0),.bools 8 (List.replicate 8 false),.ints .i64 1 [0],.bytes 32 (List.replicate 32 0),.ints .i64 1 [p.lf],.ints .i64 2 [p.x,p.y],.bytes 480 s,.bools 15 h,.bytes 32 (List.replicate 32 0),.bytes 32 (List.replicate 32 0)]
theorem RH(S:List UInt8)(has:List Bool)(zs:List Int):nk S has zs 0=gY∧qP has zs 0=List.replicate 15 false:=by
 constructor
 ·rw[nk]
 ·rw[qP]
abbrev opF(p:XS)(e:Int)(zs:List Int)(ad:List Bool)(k:Int)(ch:List UInt8)(c:CS)(l:List (Int×Int))(j:Nat):St:=
 ⟨[.d (.sref (dM p) 0),.d (.agg (bS e zs ad k ch)),.d (.agg (gZ c)),.d (.row l.length [.ints .i64 (l.length*2) (bI l)]),.ah,.ptr 0 0,.ptr 1 0,.ah,.ah,.ptr 2 0,.ah,.ptr 3 0,.d (.v (.int .i64 (j:Nat))),.ah,.ah,.ah,.ah,.ah,.ah,.ah,.ah,.ah,.ah,.ah,.ah,.ah,.ah,.ah,.ah,.ah,.ah,.ah,.ah,.ah,.ah,.ah,.ah,.ah,.ah,.ah,.ah,.ah,.ah,.ah,.ah,.ah,.ah,.ah,.ah,.ah,.ah,.ah,.ah,.ah,.ah,.ah,.ah,.ah,.ah,.ah,.ah,.ah,.ah,.ah,.ah,.ah,.ah,.ah,.ah,.ah,.ah,.ah,.ah,.ah,.ah,.ah,.ah,.ah,.ah,.ah,.ah,.ah,.ah,.ah,.ah,.ah,.ah,.ah,.ah,.ah,.ah,.ah,.ah,.ah,.ah,.ah,.ah,.ah,.ah,.ah,.ah,.ah,.ah,.ah,.ah,.ah,.ah,.ah,.ah,.ah,.ah,.ah,.ah,.ah,.ah,.ah,.ah,.ah,.ah,.ah,.ah,.ah,.ah,.ah,.ah,.ah,.ah,.ah,.ah,.ah,.ah,.ah,.ah,.ah,.ah],[some (.var (bS e zs ad k ch)),some (.var (gZ c)),some (.var [.bytes 32 (List.replicate 32 0)]),some (.var (Zu p (nk p.s p.has zs j) (qP p.has zs j)))]⟩
set_option maxHeartbeats 4000000 in
theorem Pk (p : XS) (e : Int) (zs : List Int) (ad : List Bool) (k : Int) (ch : List UInt8) (c : CS) (l : List (Int × Int)) (hc : qL c) (hl3 : l.length ≤ 3000) {N : Nat} (hN : dD l p.lf = N) {g : Int}
    (hno : (N = l.length ∧ g = 10) ∨ (N < l.length ∧ N < c.k ∧ 0 ≤ (bI l).getD (N * 2 + 1) 0 ∧ (bI l).getD (N * 2 + 1) 0 < 15 ∧ (qP p.has zs 15).getD ((bI l).getD (N * 2 + 1) 0).toNat false = true ∧
      ((g = 3 ∧ bJ (au (av (List.take 32 (List.drop (((bI l).getD (N * 2 + 1) 0).toNat * 32) (nk p.s p.has zs 15))))) (c.bx N) ≠ 0) ∨
       (g = 10 ∧ bJ (au (av (List.take 32 (List.drop (((bI l).getD (N * 2 + 1) 0).toNat * 32) (nk p.s p.has zs 15))))) (c.bx N) = 0 ∧ (c.bx N).length - 12 ≠ 32) ∨
       (g = 10 ∧ bJ (au (av (List.take 32 (List.drop (((bI l).getD (N * 2 + 1) 0).toNat * 32) (nk p.s p.has zs 15))))) (c.bx N) = 0 ∧ (c.bx N).length - 12 = 32 ∧ aG p.lf = true ∧ ∃ m, aD p.lf c.fr = (kr p.lf).getD m 0 ∧ m < 3 ∧
         (kF zs p.lf (bg (au (av (List.take 32 (List.drop (((bI l).getD (N * 2 + 1) 0).toNat * 32) (nk p.s p.has zs 15))))) (c.bx N)) (nk p.s p.has zs 15) (qP p.has zs 15) m).1 = false)))) :
    aP 79 [.sref (dM p) 0, .agg (bS e zs ad k ch), .agg (gZ c), .row l.length [.ints .i64 (l.length * 2) (bI l)]] (.t [.v (.pointer none), .agg [.bytes 32 (zB 32)], .v (.int .i64 g)]) := by
  refine dK (E := Yc) Tryz.func79 Tryz.ntmps79 ?_
  obtain ⟨h1, h2, h3, h4, h5, h6⟩ := id hc
  refine aj ?_; (try exact⟨⟩)
  refine aM.mk (bV [0, 1, 2, 3, 5, 6, 9, 11, 12] [0, 1, 2, 3] 15 (opF p e zs ad k ch c l) ?_ (h2 := by unfold opF; rw [(RH p.s p.has zs).1, (RH p.s p.has zs).2]; exact rfl))
  intro j hj hl
  by_cases h : j < 15
  · have h1 : (j : Int) < 15 := by omega
    clear hno
    cases a1 : p.has.getD j false with
    | false =>
      have hk : yX p.has zs j = false := by unfold yX; rw [a1]; rfl
      refine aj ?_; (try exact⟨⟩)
      refine hl.go h [0, 1, 2, 3, 5, 6, 9, 11, 12] [0, 1, 2, 3] ?_
      unfold opF
      rw [(uN (S := p.s) hk).1, (uN (S := p.s) hk).2]
      rfl
    | true =>
      cases a2 : (bA zs (j : Nat) != 0) with
      | false =>
        have hk : yX p.has zs j = false := by unfold yX; rw [a1, a2]; rfl
        refine aj ?_; (try exact⟨⟩)
        refine hl.go h [0, 1, 2, 3, 5, 6, 9, 11, 12] [0, 1, 2, 3] ?_
        unfold opF
        rw [(uN (S := p.s) hk).1, (uN (S := p.s) hk).2]
        rfl
      | true =>
        have hk : yX p.has zs j = true := by unfold yX; rw [a1, a2]; rfl
        refine aj ?_; (try exact⟨⟩)
        refine hl.go h [0, 1, 2, 3, 5, 6, 9, 11, 12] [0, 1, 2, 3] ?_
        unfold opF
        rw [(Ci (S := p.s) hk).1, (Ci (S := p.s) hk).2]
        unfold fI blk
        rfl
  · obtain rfl : j = 15 := by omega
    have h1 : ¬ (15 : Int) < 15 := by omega
    refine aj ?_; (try exact⟨⟩)
    intro a ha
    rcases hno with ⟨hn, rfl⟩ | ⟨hn, hnk, b0, b1, b2, hno⟩
    · obtain rfl : a = -1 := by rw [ha, hN, hn, if_pos rfl]
      refine aj ?_; (try exact⟨⟩)
      try rfl
    · obtain rfl : a = (N : Int) := by rw [ha, hN, if_neg (by omega)]
      have hbx : (c.bx N).length ≤ 1000000 := by have := h6 N hnk; omega
      have n0 : ¬ ((N : Nat) : Int) < 0 := by omega
      have n1 : ((N : Nat) : Int) < (l.length : Int) := by omega
      have n2 : ((N : Nat) : Int) < (c.k : Int) := by omega
      clear ha hN
      rcases hno with ⟨rfl, g1⟩ | ⟨rfl, g1, g2⟩ | ⟨rfl, g1, g2, hf, m, hm, hm3, g3⟩
      · have g4 := decide_eq_false g1
        have g5 : (bJ (au (av (List.take 32 (List.drop (((bI l).getD (N * 2 + 1) 0).toNat * 32) (nk p.s p.has zs 15))))) (c.bx N) != 0) = true := by simpa using g1
        clear g1
        refine aj ?_; (try exact⟨⟩)
        rfl
      · have g4 := decide_eq_true g1
        have g5 : ((((c.bx N).length - 12 : Nat) : Int) != 32) = true := by simp; omega
        clear g1 g2
        refine aj ?_; (try exact⟨⟩)
        rfl
      · have g4 := decide_eq_true g1
        have hBl := oV g1
        have hB2 : 32 ≤ (bg (au (av (List.take 32 (List.drop (((bI l).getD (N * 2 + 1) 0).toNat * 32) (nk p.s p.has zs 15))))) (c.bx N)).length := by omega
        clear g1
        refine aj ?_; (try exact⟨⟩)
        intro h hh
        obtain rfl : h = bg (au (av (List.take 32 (List.drop (((bI l).getD (N * 2 + 1) 0).toNat * 32) (nk p.s p.has zs 15))))) (c.bx N) := hh.trans (List.take_of_length_le (by omega))
        clear hh hBl hB2
        refine aj ?_; (try exact⟨⟩)
        refine ⟨m, hm, hm3, ?_⟩
        intro g r S H hx
        obtain rfl : g = false := (congrArg Prod.fst hx).trans g3
        clear hx g3
        refine aj ?_; (try exact⟨⟩)
        rfl
set_option maxHeartbeats 4000000 in
theorem UU(p:XS)(e:Int)(zs:List Int)(ad:List Bool)(k:Int)(ch:List UInt8)(c:CS)(l:List (Int×Int))(hc:qL c)(hl3:l.length≤3000){N:Nat}(hN:dD l p.lf=N)(hn:N<l.length)(hnk:N<c.k)
  (b0:0≤(bI l).getD (N*2+1) 0)(b1:(bI l).getD (N*2+1) 0<15)(b2:(qP p.has zs 15).getD ((bI l).getD (N*2+1) 0).toNat false=true)
  (g1:bJ (au (av (List.take 32 (List.drop (((bI l).getD (N*2+1) 0).toNat*32) (nk p.s p.has zs 15))))) (c.bx N)=0)(g2:(c.bx N).length-12=32)(hf:aG p.lf=true){m:Nat}(hm:aD p.lf c.fr=(kr p.lf).getD m 0)(hm3:m<3){u S:List UInt8}{H:List Bool}
  (hX:kF zs p.lf (bg (au (av (List.take 32 (List.drop (((bI l).getD (N*2+1) 0).toNat*32) (nk p.s p.has zs 15))))) (c.bx N)) (nk p.s p.has zs 15) (qP p.has zs 15) m=(true,u,S,H)):
  ak3 Tryz.prog gTab 79 [.sref (dM p) 0,.agg (bS e zs ad k ch),.agg (gZ c),.row l.length [.ints .i64 (l.length*2) (bI l)]] (Zu p S H) [.agg [.bytes 32 u],.v (.int .i64 0)]:=by
 refine ao8 (E:=Yc) Tryz.func79 Tryz.ntmps79 rfl (by intro h;cases h) (GW.of ?_) rfl rfl
 obtain⟨h1,h2,h3,h4,h5,h6⟩:=id hc
 refine aj ?_;(try exact⟨⟩)
 refine aM.mk (bV [0,1,2,3,5,6,9,11,12] [0,1,2,3] 15 (opF p e zs ad k ch c l) ?_ (h2:=by unfold opF;rw[(RH p.s p.has zs).1,(RH p.s p.has zs).2];exact rfl))
 intro j hj hl
 by_cases h:j<15
 ·have h1:(j:Int)<15:=by omega
  clear hX b0 b1 b2 g1 g2 hm
  cases a1:p.has.getD j false with
  |false=>
   have hk:yX p.has zs j=false:=by unfold yX;rw[a1];rfl
   refine aj ?_;(try exact⟨⟩)
   refine hl.go h [0,1,2,3,5,6,9,11,12] [0,1,2,3] ?_
   unfold opF
   rw[(uN (S:=p.s) hk).1,(uN (S:=p.s) hk).2]
   rfl
  |true=>
   cases a2:(bA zs (j:Nat) !=0)with
   |false=>
    have hk:yX p.has zs j=false:=by unfold yX;rw[a1,a2];rfl
    refine aj ?_;(try exact⟨⟩)
    refine hl.go h [0,1,2,3,5,6,9,11,12] [0,1,2,3] ?_
    unfold opF
    rw[(uN (S:=p.s) hk).1,(uN (S:=p.s) hk).2]
    rfl
   |true=>
    have hk:yX p.has zs j=true:=by unfold yX;rw[a1,a2];rfl
    refine aj ?_;(try exact⟨⟩)
    refine hl.go h [0,1,2,3,5,6,9,11,12] [0,1,2,3] ?_
    unfold opF
    rw[(Ci (S:=p.s) hk).1,(Ci (S:=p.s) hk).2]
    unfold fI blk
    rfl
 ·obtain rfl:j=15:=by omega
  have h1:¬(15:Int)<15:=by omega
  refine aj ?_;(try exact⟨⟩)
  intro a ha
  obtain rfl:a=(N:Int):=by rw[ha,hN,if_neg (by omega)]
  have hbx:(c.bx N).length≤1000000:=by have:=h6 N hnk;omega
  have n0:¬((N:Nat):Int)<0:=by omega
  have n1:((N:Nat):Int)<(l.length:Int):=by omega
  have n2:((N:Nat):Int)<(c.k:Int):=by omega
  clear ha hN
  have g4:=decide_eq_true g1
  have hBl:=oV g1
  have hB2:32≤(bg (au (av (List.take 32 (List.drop (((bI l).getD (N*2+1) 0).toNat*32) (nk p.s p.has zs 15))))) (c.bx N)).length:=by omega
  clear g1
  refine aj ?_;(try exact⟨⟩)
  intro h hh
  obtain rfl:h=bg (au (av (List.take 32 (List.drop (((bI l).getD (N*2+1) 0).toNat*32) (nk p.s p.has zs 15))))) (c.bx N):=hh.trans (List.take_of_length_le (by omega))
  clear hh hBl hB2
  refine aj ?_;(try exact⟨⟩)
  refine⟨m,hm,hm3,?_⟩
  intro g r S' H' hx
  have hx:=hx.trans hX
  obtain⟨rfl,rfl,rfl,rfl⟩:g=true∧r=u∧S'=S∧H'=H:=by simpa using hx
  clear hx hX
  refine aj ?_;(try exact⟨⟩)
end
section
open Pm
attribute [local irreducible] aU aZ bR aA au dB cO aF bZ aN aT av ak aR cZ bX aQ bK gB iC aD bA aO jW dJ bW bH aH bT fU bJ bg gY aJ nk qP kF bn fV eD
def QM:List A→(bP→Prop)→Prop
 |[.agg [.ints .i64 31 zs],.v (.int .i64 x),.agg [.bools 8 bt]],K=>aG x=true∧∀l,l=aQ zs x bt→K (.d (.row l.length [.ints .i64 (l.length*2) (bI l)]))
 |_,_=>False
theorem Wi:∀args K,QM args K→∃r,aP 66 args r∧K r:=by
 intro args K h
 unfold QM at h
 split at h
 ·exact⟨_,mZ (Nc _ _ _ h.1),h.2 _ rfl⟩
 ·exact h.elim
def QI:List A→(bP→Prop)→Prop
 |[.agg [.ints .i64 1 [e],.ints .i64 31 zs,.bools 8 ad,.ints .i64 1 [k],.bytes 32 ch],y],K=>pz y fun c=>aG c.fr=true∧∀b Z,b=lZ c→Z=gu zs c.fr c.sl c.p0 c.p1 c.p2→K (.t [.agg (bS e Z ad k ch),.v (.bool b)])
 |_,_=>False
theorem V6:∀args K,QI args K→∃r,aP 78 args r∧K r:=by
 intro args K h
 unfold QI at h
 split at h
 ·obtain⟨c,⟨h1,h⟩,hc⟩:=gI h
  refine⟨_,fun S w vs' hG ha=>?_,h _ _ rfl rfl⟩
  obtain⟨v1,v2,rfl,k1,k2⟩:=lT ha
  exact aj1 _ _ _ _ _ c h1 S w _ hG (.cons k1 (.cons (hc k2).1 .nil))
 ·exact h.elim
def aR4 (p : XS) (zs : List Int) (c : CS) (l : List (Int × Int)) (g : Int) : Prop :=
  l.length ≤ 3000 ∧ ∃ N, dD l p.lf = N ∧ ((N = l.length ∧ g = 10) ∨ (N < l.length ∧ N < c.k ∧ 0 ≤ (bI l).getD (N * 2 + 1) 0 ∧ (bI l).getD (N * 2 + 1) 0 < 15 ∧ (qP p.has zs 15).getD ((bI l).getD (N * 2 + 1) 0).toNat false = true ∧
      ((g = 3 ∧ bJ (au (av (List.take 32 (List.drop (((bI l).getD (N * 2 + 1) 0).toNat * 32) (nk p.s p.has zs 15))))) (c.bx N) ≠ 0) ∨
       (g = 10 ∧ bJ (au (av (List.take 32 (List.drop (((bI l).getD (N * 2 + 1) 0).toNat * 32) (nk p.s p.has zs 15))))) (c.bx N) = 0 ∧ (c.bx N).length - 12 ≠ 32) ∨
       (g = 10 ∧ bJ (au (av (List.take 32 (List.drop (((bI l).getD (N * 2 + 1) 0).toNat * 32) (nk p.s p.has zs 15))))) (c.bx N) = 0 ∧ (c.bx N).length - 12 = 32 ∧ aG p.lf = true ∧ ∃ m, aD p.lf c.fr = (kr p.lf).getD m 0 ∧ m < 3 ∧
         (kF zs p.lf (bg (au (av (List.take 32 (List.drop (((bI l).getD (N * 2 + 1) 0).toNat * 32) (nk p.s p.has zs 15))))) (c.bx N)) (nk p.s p.has zs 15) (qP p.has zs 15) m).1 = false))))
def QK:List A→(bP→Prop)→Prop
 |[x,.agg [.ints .i64 1 [e],.ints .i64 31 zs,.bools 8 ad,.ints .i64 1 [k],.bytes 32 ch],y,.row n [.ints .i64 m z]],K=>xK x fun p=>pz y fun c=>∃l,n=l.length∧m=l.length*2∧z=bI l∧∃g,aR4 p zs c l g∧K (.t [.v (.pointer none),.agg [.bytes 32 (zB 32)],.v (.int .i64 g)])
 |_,_=>False
theorem V8:∀args K,QK args K→∃r,aP 79 args r∧K r:=by
 intro args K h
 unfold QK at h
 split at h
 ·obtain⟨p,rfl,h⟩:=M7 h
  obtain⟨c,⟨l,rfl,rfl,rfl,g,⟨h1,N,h2,h3⟩,h⟩,hc⟩:=gI h
  refine⟨_,fun S w vs' hG ha=>?_,h⟩
  obtain⟨v1,v2,v3,v4,rfl,k1,k2,k3,k4⟩:=mG ha
  obtain⟨q1,q2,q3⟩:=hc k3
  exact Pk p _ _ _ _ _ c l q2 h1 h2 h3 S w _ hG (.cons k1 (.cons k2 (.cons q1 (.cons k4 .nil))))
 ·exact h.elim
noncomputable def bi4:ay:=Yc.add 60 am4 (Rb Ap) ⟨_,Tryz.func60,by kernel_rfl,by kernel_rfl⟩
noncomputable def bi5:ay:=bi4.add 61 al3 (QZ vU) ⟨_,Tryz.func61,by kernel_rfl,by kernel_rfl⟩
noncomputable def bi6:ay:=bi5.add 66 QM Wi ⟨_,Tryz.func66,by kernel_rfl,by kernel_rfl⟩
noncomputable def bi7:ay:=bi6.add 78 QI V6 ⟨_,Tryz.func78,by kernel_rfl,by kernel_rfl⟩
noncomputable def bi8:ay:=bi7.add 19 Sb Mg ⟨_,Tryz.func19,by kernel_rfl,by kernel_rfl⟩
noncomputable def bi9:ay:=bi8.add 77 VO (Cy EL) ⟨_,Tryz.func77,by kernel_rfl,by kernel_rfl⟩
noncomputable def Rj:ay:=bi9.add 79 QK V8 ⟨_,Tryz.func79,by kernel_rfl,by kernel_rfl⟩
abbrev xdo(X:XS)(c:CS):Vw:=(cZ X.e ⟨X.zs,X.ad,X.k,F8,F8⟩ c.fr c.ops c.n).2
abbrev xzs(X:XS)(c:CS):List Int:=gu (xdo X c).zs c.fr c.sl c.p0 c.p1 c.p2
end
end Go.Proofs.YtjhgelfnmhdihaaGreatDoor
