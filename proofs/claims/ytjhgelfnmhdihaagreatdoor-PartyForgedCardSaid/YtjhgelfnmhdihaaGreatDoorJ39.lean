/-
  Trees with new keys: whom a secret is for hangs on none of them. Mathematics; no function is named here.
-/
import Derived.Test.YtjhgelfnmhdihaaGreatDoorJ35
namespace Go.Proofs.YtjhgelfnmhdihaaGreatDoor
set_option linter.unusedVariables false
set_option linter.unusedSimpArgs false
set_option maxRecDepth 100000
open Go.RowKit
section
open Pm
def yw:Nat→Int→List Int
 |0,n=>[n]
 |d+1,n=>n::(if ko n=true then yw d (n-gQ n)++yw d (n+gQ n)else[])
theorem xR{zs zs':List Int}:∀(d:Nat) (n:Int),(∀m∈yw d n,bA zs m=bA zs' m)→dN d zs n=dN d zs' n
 |0,n,h=>by
  unfold dN
  rw[h n (by simp[yw])]
 |d+1,n,h=>by
  unfold dN
  rw[h n (by simp[yw])]
  by_cases ho:ko n=true
  ·have h1:∀m∈yw d (n-gQ n),bA zs m=bA zs' m:=fun m hm=>h m (by rw[yw,if_pos ho];simp[hm])
   have h2:∀m∈yw d (n+gQ n),bA zs m=bA zs' m:=fun m hm=>h m (by rw[yw,if_pos ho];simp[hm])
   rw[xR d _ h1,xR d _ h2]
  ·rw[if_neg ho,if_neg ho]
theorem Jz{zs:List Int}:∀(d:Nat) (n m:Int),m∈dN d zs n→m∈yw d n
 |0,n,m,h=>by
  unfold dN at h
  split at h
  ·cases h
  ·exact h
 |d+1,n,m,h=>by
  unfold dN at h
  rw[yw]
  split at h
  ·split at h
   ·next ho=>
    rw[if_pos ho]
    rcases List.mem_append.1 h with h|h
    ·exact List.mem_cons_of_mem _ (List.mem_append_left _ (Jz d _ m h))
    ·exact List.mem_cons_of_mem _ (List.mem_append_right _ (Jz d _ m h))
   ·cases h
  ·rw[List.mem_singleton.1 h]
   exact List.mem_cons_self
theorem yV(zs:List Int)(i:Nat)(v m:Int)(h:m%2=0→m.toNat+1≠i)(h':m%2≠0→16+m.toNat≠i):bA (zs.set i v) m=bA zs m:=by
 unfold bA
 split
 ·split
  ·next h1=>rw[aK,if_neg (fun e=>h h1 e.1.symm)]
  ·next h1=>rw[aK,if_neg (fun e=>h' h1 e.1.symm)]
 ·rfl
theorem Vx:∀x<8,∀k<3,((yw 3 ((dI ((x:Nat):Int)).getD k 0)).all fun m=>decide ((0≤m∧m<15)∧m≠2*(x:Int)∧m≠(x:Int) / 2*4+1∧m≠(x:Int) / 4*8+3∧m≠7))=true:=by decide+kernel
theorem ae5(x:Nat)(hx:x<8)(k:Nat)(hk:k<3)(m:Int)(hm:m∈yw 3 ((dI ((x:Nat):Int)).getD k 0)):(0≤m∧m<15)∧m≠2*(x:Int)∧m≠(x:Int) / 2*4+1∧m≠(x:Int) / 4*8+3∧m≠7:=of_decide_eq_true (List.all_eq_true.1 (Vx x hx k hk) m hm)
theorem Kj{fr:Int}(f0:0≤fr)(f1:fr<8)(zs:List Int)(sl a b c:Int){m:Int}(m0:0≤m)(m1:m<15)(h1:m≠2*fr)(h2:m≠fr / 2*4+1)(h3:m≠fr / 4*8+3)(h4:m≠7):bA (gu zs fr sl a b c) m=bA zs m:=by
 unfold gu
 rw[yV _ _ _ _ (by omega) (by omega),yV _ _ _ _ (by omega) (by omega),yV _ _ _ _ (by omega) (by omega),yV _ _ _ _ (by omega) (by omega)]
theorem MN{fr:Int}(f0:0≤fr)(f1:fr<8)(zs:List Int)(sl a b c:Int){k:Nat}(hk:k<3){m:Int}(hm:m∈yw 3 ((dI fr).getD k 0)):bA (gu zs fr sl a b c) m=bA zs m:=by
 obtain⟨n,rfl⟩:=Int.eq_ofNat_of_zero_le f0
 obtain⟨⟨m0,m1⟩,h1,h2,h3,h4⟩:=ae5 n (by omega) k hk m hm
 exact Kj f0 f1 zs sl a b c m0 m1 h1 h2 h3 h4
theorem Er{fr:Int}(f0:0≤fr)(f1:fr<8)(zs:List Int)(sl a b c:Int)(bt:List Bool):∀n,n≤3→bB (gu zs fr sl a b c) bt fr n=bB zs bt fr n
 |0,_=>rfl
 |n+1,h=>by
  rw[bB,bB,Er f0 f1 zs sl a b c bt n (by omega),xR 3 _ fun m hm=>MN f0 f1 zs sl a b c (by omega) hm]
theorem L6{fr:Int}(f0:0≤fr)(f1:fr<8)(zs:List Int)(sl a b c:Int)(bt:List Bool):aQ (gu zs fr sl a b c) fr bt=aQ zs fr bt:=by
 unfold aQ
 rw[Er f0 f1 zs sl a b c bt 3 (Nat.le_refl _)]
theorem Es{fr:Int}(f0:0≤fr)(f1:fr<8)(zs:List Int)(sl a b c:Int)(bt:List Bool):∀n,n≤3→∀p∈bB zs bt fr n,bA (gu zs fr sl a b c) p.2=bA zs p.2
 |0,_,p,h=>by simp[bB]at h
 |n+1,hn,p,h=>by
  rw[bB,List.mem_append]at h
  rcases h with h|h
  ·exact Es f0 f1 zs sl a b c bt n (by omega) p h
  ·unfold d9 at h
   obtain⟨m,hm,rfl⟩:=List.mem_map.1 h
   exact MN f0 f1 zs sl a b c (by omega) (Jz 3 _ m (List.mem_filter.1 hm).1)
theorem L8{fr:Int}(f0:0≤fr)(f1:fr<8)(zs:List Int)(sl a b c:Int){bt:List Bool}{p:Int×Int}(h:p∈aQ zs fr bt):bA (gu zs fr sl a b c) p.2=bA zs p.2:=by
 unfold aQ at h
 split at h
 ·exact Es f0 f1 zs sl a b c bt 3 (Nat.le_refl _) p h
 ·cases h
end
section
open Pm
def Wt(l:List (Int×Int))(i:Nat):Nat:=l.countP fun p=>aJ p.2 (i:Int)
theorem TR(bt:List Bool)(k:Int)(r:List Int)(i:Nat):Wt (d9 bt k r) i=(r.filter fun m=>!mJ bt m).countP fun m=>aJ m (i:Int):=by
 unfold Wt d9
 rw[List.countP_map]
 rfl
theorem EP{x i:Nat}(hx:x<8)(hi:i<8)(hne:i≠x):(if aJ ((dI x).getD 0 0) i=true then 1 else 0)+(if aJ ((dI x).getD 1 0) i=true then 1 else 0)+(if aJ ((dI x).getD 2 0) i=true then 1 else 0)=1∧
  ∀k<3,aJ ((dI x).getD k 0) i=true→(kr x).getD k 0=aD x i:=by
 have hx2:x=0∨x=1∨x=2∨x=3∨x=4∨x=5∨x=6∨x=7:=by omega
 have hi2:i=0∨i=1∨i=2∨i=3∨i=4∨i=5∨i=6∨i=7:=by omega
 clear hx hi
 rcases hx2 with rfl|rfl|rfl|rfl|rfl|rfl|rfl|rfl<;>rcases hi2 with rfl|rfl|rfl|rfl|rfl|rfl|rfl|rfl<;>first|exact absurd rfl hne|decide
theorem xP(zs:List Int)(bt:List Bool)(k s:Int){i:Nat}(hi:i<8):Wt (d9 bt k (dN 3 zs s)) i≤(if aJ s (i:Int)=true then 1 else 0)∧(bt.getD i false=false→aJ s (i:Int)=true→zs.getD (i*2+1) 0≠0→Wt (d9 bt k (dN 3 zs s)) i=1):=by
 obtain⟨h1,h2⟩:=FW zs hi 3 s (by simp[okD])
 rw[TR]
 have hle:((dN 3 zs s).filter fun m=>!mJ bt m).countP (fun m=>aJ m (i:Int))≤(dN 3 zs s).countP fun m=>aJ m (i:Int):=by
  rw[List.countP_filter]
  exact List.countP_mono_left fun m _ h=>by simp at h;exact h.1
 refine⟨Nat.le_trans hle h1,fun hb hu hk=>?_⟩
 have e:=h2 hu (by rw[Aa zs hi];exact hk)
 rw[←e]
 unfold cu
 rw[List.countP_filter]
 refine List.countP_congr fun m hm=>?_
 obtain⟨m0,m1⟩:=oZ zs 3 s m hm
 constructor
 ·intro h;simp at h;exact h.1
 ·intro h
  have hs:mJ bt m=false:=by
   cases hq:mJ bt m with
   |false=>rfl
   |true=>
    exfalso
    unfold mJ at hq
    rw[Int.tdiv_eq_ediv_of_nonneg m0,Int.tmod_eq_emod_of_nonneg m0]at hq
    simp only[Bool.and_eq_true,decide_eq_true_eq]at hq
    have hn:ko m=false:=by simp[ko];omega
    rw[EY hn hi]at h
    have hm2:m=2*(i:Int):=by simpa using h
    have:(m / 2).toNat=i:=by omega
    rw[this,hb]at hq
    simp at hq
  simp[h,hs]
theorem Jr(zs:List Int)(bt:List Bool){x i:Nat}(hx:x<8)(hi:i<8)(hne:i≠x):Wt (bB zs bt x 3) i≤1∧(bt.getD i false=false→zs.getD (i*2+1) 0≠0→Wt (bB zs bt x 3) i=1):=by
 obtain⟨s1,_⟩:=EP hx hi hne
 have e:Wt (bB zs bt x 3) i=Wt (d9 bt 0 (dN 3 zs ((dI x).getD 0 0))) i+Wt (d9 bt 1 (dN 3 zs ((dI x).getD 1 0))) i+Wt (d9 bt 2 (dN 3 zs ((dI x).getD 2 0))) i:=by
  simp[bB,Wt,Nat.add_assoc]
 obtain⟨a1,a2⟩:=xP zs bt 0 ((dI x).getD 0 0) hi
 obtain⟨b1,b2⟩:=xP zs bt 1 ((dI x).getD 1 0) hi
 obtain⟨c1,c2⟩:=xP zs bt 2 ((dI x).getD 2 0) hi
 rw[e]
 refine⟨by omega,fun hb hk=>?_⟩
 cases ha:aJ ((dI x).getD 0 0) i<;>cases hbb:aJ ((dI x).getD 1 0) i<;>cases hc:aJ ((dI x).getD 2 0) i<;>simp only[ha,hbb,hc,if_true,Bool.false_eq_true,if_false]at s1 a1 b1 c1<;>first|omega|(have:=a2 hb ha hk;omega)|(have:=b2 hb hbb hk;omega)|(have:=c2 hb hc hk;omega)
theorem Aj(zs:List Int)(bt:List Bool){x i:Nat}(hx:x<8)(hi:i<8)(hne:i≠x):∀n≤3,∀p∈bB zs bt x n,(0≤p.1∧p.1≤2)∧(aJ p.2 (i:Int)=true→(kr x).getD p.1.toNat 0=aD x i)
 |0,_,p,hp=>by simp[bB]at hp
 |n+1,hn,p,hp=>by
  rw[bB,List.mem_append]at hp
  rcases hp with hp|hp
  ·exact Aj zs bt hx hi hne n (by omega) p hp
  ·unfold d9 at hp
   rw[List.mem_map]at hp
   obtain⟨m,hm,rfl⟩:=hp
   rw[List.mem_filter]at hm
   refine⟨⟨by simp,by simp;omega⟩,fun hu=>?_⟩
   have hs:aJ ((dI x).getD n 0) i=true:=by
    cases hq:aJ ((dI x).getD n 0) i with
    |true=>rfl
    |false=>
     exfalso
     have h1:=(FW zs hi 3 ((dI x).getD n 0) (by simp[okD])).1
     rw[hq,if_neg (by simp)]at h1
     have:0<cu (dN 3 zs ((dI x).getD n 0)) i:=List.countP_pos_iff.2 ⟨m,hm.1,hu⟩
     omega
   simpa using(EP hx hi hne).2 n (by omega) hs
end
section
open Pm
theorem O5(n:Int)(h0:0≤n)(h1:n<4294967296):pO (bD n)=n:=by
 obtain⟨m,rfl⟩:∃m:Nat,n=m:=⟨n.toNat,by omega⟩
 have e:∀s,(ny (m:Int) s).toNat=m / 2^s%256:=fun s=>by
  unfold ny
  rw[UInt8.toNat_ofNat']
  have:((m:Int) / 2^s%256).toNat=m / 2^s%256:=by
   have h2:((m:Int) / 2^s%256)=((m / 2^s%256:Nat):Int):=by simp
   rw[h2];rfl
  rw[this];omega
 show((((ny m 24).toNat*256+(ny m 16).toNat)*256+(ny m 8).toNat)*256+(ny m 0).toNat:Nat)=(m:Int)
 rw[e,e,e,e]
 simp only[Nat.reducePow,Nat.div_one]
 omega
theorem Uf(n:Int):(bD n).length=4:=rfl
theorem Tv(y x:Int)(p:List UInt8):(uz y x p).take 4=bD (aA 4 x)∧((uz y x p).drop 4).take 8=wG (uq y x) (bD (aA 4 x)) (kU (uq y x) p)∧(uz y x p).drop 12=kU (uq y x) p:=by
 have hT:=jD (uq y x) (bD (aA 4 x)) (kU (uq y x) p)
 unfold uz
 obtain⟨T,hTe⟩:∃T,wG (uq y x) (bD (aA 4 x)) (kU (uq y x) p)=T:=⟨_,rfl⟩
 rw[hTe]at hT ⊢
 have hF:=Uf (aA 4 x)
 obtain⟨F,hFe⟩:∃F,bD (aA 4 x)=F:=⟨_,rfl⟩
 rw[hFe]at hF ⊢
 refine⟨?_,?_,?_⟩
 ·rw[List.append_assoc,List.take_left' hF]
 ·rw[List.append_assoc,List.drop_left' hF,List.take_left' hT]
 ·rw[List.drop_left' (by rw[List.length_append,hF,hT])]
theorem MK(x d:Int)(hx:1≤x∧x<1073741789)(hd:1≤d∧d<1073741789):uq (aA 4 d) x=uq (aA 4 x) d:=by
 unfold uq
 rw[nO d hd,nO x hx]
 unfold kC
 rw[raised d x ⟨by omega,hd.2⟩ ⟨by omega,hx.2⟩]
theorem Vo(x d:Int)(hx:1≤x∧x<1073741789)(hd:1≤d∧d<1073741789)(p:List UInt8)(hp:p.length≤200):bJ x (uz (aA 4 x) d p)=0∧bg x (uz (aA 4 x) d p)=p:=by
 have hl:=qh (aA 4 x) d p
 obtain⟨h1,h2,h3⟩:=Tv (aA 4 x) d p
 have hb:=av2 4 d
 have hY:pO (uz (aA 4 x) d p)=aA 4 d:=by rw[←Ae,h1,O5 _ hb.1 (by omega)]
 have hok:pQ x (uz (aA 4 x) d p)=true:=by
  unfold pQ
  rw[hY,h1,h2,h3,MK x d hx hd,nO d hd,beq_self_eq_true];rfl
 unfold bJ bg
 rw[if_neg (by omega),if_pos hok,hY,h3,MK x d hx hd,V9]
 exact⟨rfl,rfl⟩
theorem Ko(a b p:List UInt8)(hp:p.length≤200):bJ (au a) (bK (aA 4 (au a)) (au b) p)=0∧bg (au a) (bK (aA 4 (au a)) (au b) p)=p∧(bK (aA 4 (au a)) (au b) p).length=12+p.length:=by
 have ha:=dL a
 have hb:=dL b
 have e:bK (aA 4 (au a)) (au b) p=uz (aA 4 (au a)) (au b) p:=by
  unfold bK qX
  rw[nO _ ha,decide_eq_true hp];rfl
 rw[e]
 obtain⟨h1,h2⟩:=Vo (au a) (au b) ha hb p hp
 exact⟨h1,h2,qh _ _ _⟩
end
section
open Pm
def aL(zs:List Int)(m:Nat):Bool:=zs.getD m 0 !=0
abbrev n1(lf:Int):Nat:=(lf / 2*4+1).toNat
abbrev n2(lf:Int):Nat:=(lf / 4*8+3).toNat
def lZ(c:CS):Bool:=cO c.sl&&(cO c.p0&&(cO c.p1&&cO c.p2))
def lF(p:PS)(node:Int):List UInt8:=if node=2*p.lf then p.sc else dS p.ab (aO p.lf node).toNat
def qV(h b:List UInt8):Int:=if bJ (au (av h)) b≠0 then 3 else if b.length-12≠32 then 10 else 0
def JV(p:PS)(h:List UInt8)(m:Nat):Bool:=aA 4 (au (av h)) !=p.zs.getD m 0
def gH(p:PS)(q:Nat)(h:List UInt8):PS:={ p with ab:=p.ab.take (q*32)++(h++p.ab.drop (q*32+32)) }
def fu(p:PS)(h:List UInt8):Bool×List UInt8×PS:=if JV p h 23=true then(false,zB 32,p)else(true,ak h,gH p 2 h)
def dX(p:PS)(h:List UInt8):Bool×List UInt8×PS:=if JV p h (16+(p.lf / 4*8+3).toNat)=true then(false,zB 32,p)else fu (gH p 1 h) (ak h)
def iR(p:PS)(h:List UInt8):Bool×List UInt8×PS:=if JV p h (16+(p.lf / 2*4+1).toNat)=true then(false,zB 32,p)else dX (gH p 0 h) (ak h)
def aW(p:PS)(h:List UInt8)(k:Nat):Bool×List UInt8×PS:=if k=0 then iR p h else if k=1 then dX p h else fu p h
def jT(p:PS):PS:=if aL p.zs (16+n1 p.lf)=true then p else gH p 0 (zB 32)
def qm(p:PS):PS:=if aL p.zs (16+n2 p.lf)=true then p else gH p 1 (zB 32)
def gX(p:PS)(k:Nat):PS:=if k=0 then p else if k=1 then jT p else qm (jT p)
def dD(l:List (Int×Int))(lf:Int):Nat:=l.findIdx fun q=>aJ q.2 lf
def pF(p:PS)(c:CS)(l:List (Int×Int)):Int×List UInt8×PS:=
 if lZ c=false∨c.k≠l.length∨dD l p.lf=l.length then(10,zB 32,p)
 else if qV (lF p (l.getD (dD l p.lf) (0,0)).2) (c.bx (dD l p.lf))≠0 then(qV (lF p (l.getD (dD l p.lf) (0,0)).2) (c.bx (dD l p.lf)),zB 32,p)
 else if(aW (gX p (l.getD (dD l p.lf) (0,0)).1.toNat) (bg (au (av (lF p (l.getD (dD l p.lf) (0,0)).2))) (c.bx (dD l p.lf))) (l.getD (dD l p.lf) (0,0)).1.toNat).1=true
  then(0,(aW (gX p (l.getD (dD l p.lf) (0,0)).1.toNat) (bg (au (av (lF p (l.getD (dD l p.lf) (0,0)).2))) (c.bx (dD l p.lf))) (l.getD (dD l p.lf) (0,0)).1.toNat).2)
  else(10,zB 32,(aW (gX p (l.getD (dD l p.lf) (0,0)).1.toNat) (bg (au (av (lF p (l.getD (dD l p.lf) (0,0)).2))) (c.bx (dD l p.lf))) (l.getD (dD l p.lf) (0,0)).1.toNat).2.2)
def qb(p:PS)(c:CS):Int:=if c.e≠p.e then 5 else if c.fr=p.lf∨bn p.zs c.fr=false then 6 else if fV (p.zs.getD (c.fr.toNat*2) 0) (aT c++c.tag) c.sE c.sS=true then 0 else 4
def eF(p:PS)(c:CS):Int×Option PS:=
 if qb p c≠0 then(qb p c,none)
 else if jW p c.fr c.n c.ops c.m c.vs≠0 then(jW p c.fr c.n c.ops c.m c.vs,none)
 else if(dJ p c.fr c.n c.ops).gn.getD p.lf.toNat false=true then(0,none)
 else if p.e≥1099511627776 then(12,none)
 else if(pF (fK p (dJ p c.fr c.n c.ops) c) c (aQ (dJ p c.fr c.n c.ops).zs c.fr (dJ p c.fr c.n c.ops).ng)).1≠0
  then((pF (fK p (dJ p c.fr c.n c.ops) c) c (aQ (dJ p c.fr c.n c.ops).zs c.fr (dJ p c.fr c.n c.ops).ng)).1,none)
 else if eB (bC (pF (fK p (dJ p c.fr c.n c.ops) c) c (aQ (dJ p c.fr c.n c.ops).zs c.fr (dJ p c.fr c.n c.ops).ng)).2.2 (lg p.jK (pF (fK p (dJ p c.fr c.n c.ops) c) c (aQ (dJ p c.fr c.n c.ops).zs c.fr (dJ p c.fr c.n c.ops).ng)).2.1)).ep=c.tag
  then(0,some (bC (pF (fK p (dJ p c.fr c.n c.ops) c) c (aQ (dJ p c.fr c.n c.ops).zs c.fr (dJ p c.fr c.n c.ops).ng)).2.2 (lg p.jK (pF (fK p (dJ p c.fr c.n c.ops) c) c (aQ (dJ p c.fr c.n c.ops).zs c.fr (dJ p c.fr c.n c.ops).ng)).2.1)))
  else(11,none)
def Ah:Option PS→A
 |none=>.v (.pointer none)
 |some q=>.sref [.ints .i64 1 [q.e],.ints .i64 31 q.zs,.bools 8 q.ad,.ints .i64 1 [q.k],.bytes 32 q.ch,.ints .i64 1 [q.lf],.bytes 32 q.sg,.bytes 32 q.sc,.bytes 96 q.ab,.bytes 32 q.ep,.bytes 32 q.jK] 0
end
section
open Pm
theorem oO{zs xs:List Int}(hz:zs.length=31)(hx:xs.length=2){i:Nat}(hi:i<8){m:Nat}(hm:16≤m):(dA zs xs (i:Nat)).getD m 0=if m=16+n1 (i:Nat)∨m=16+n2 (i:Nat)∨m=23 then 0 else zs.getD m 0:=by
 have hlb:aG (i:Int)=true:=by simp[aG];omega
 have hl:(zs.take (i*2)++(xs++zs.drop (i*2+2))).length=31:=by simp[hx,hz];omega
 have e0:(zs.take (i*2)++(xs++zs.drop (i*2+2))).getD m 0=zs.getD m 0:=by rw[xX hx (by omega),if_neg (by omega)]
 unfold dA
 rw[if_pos hlb,Int.toNat_natCast,aK,aK,aK,e0]
 simp only[List.length_set,hl]
 unfold n1 n2
 by_cases e1:m=23
 ·rw[if_pos ⟨e1.symm,by decide⟩,if_pos (.inr (.inr e1))]
 ·rw[if_neg (fun h=>e1 h.1.symm)]
  by_cases e2:m=16+((i:Int) / 4*8+3).toNat
  ·rw[if_pos ⟨e2.symm,by omega⟩,if_pos (.inr (.inl e2))]
  ·rw[if_neg (fun h=>e2 h.1.symm)]
   by_cases e3:m=16+((i:Int) / 2*4+1).toNat
   ·rw[if_pos ⟨e3.symm,by omega⟩,if_pos (.inl e3)]
   ·rw[if_neg (fun h=>e3 h.1.symm),if_neg (by rintro(h|h|h);exact e3 h;exact e2 h;exact e1 h)]
theorem Kk{zs:List Int}(hz:zs.length=31)(fr sl a b c:Int):(gu zs fr sl a b c).length=31:=by unfold gu;simp[hz]
theorem j4{zs:List Int}(hz:zs.length=31){fr:Int}(f0:0≤fr)(f1:fr<8)(sl a b c:Int)(m:Nat):(gu zs fr sl a b c).getD m 0=if m=23 then c else if m=16+n2 fr then b else if m=16+n1 fr then a else if m=fr.toNat*2+1 then sl else zs.getD m 0:=by
 unfold gu
 rw[aK,aK,aK,aK]
 simp only[List.length_set,hz]
 unfold n1 n2
 by_cases e1:m=23
 ·rw[if_pos ⟨e1.symm,by decide⟩,if_pos e1]
 ·rw[if_neg (fun h=>e1 h.1.symm),if_neg e1]
  by_cases e2:m=16+(fr / 4*8+3).toNat
  ·rw[if_pos ⟨e2.symm,by omega⟩,if_pos e2]
  ·rw[if_neg (fun h=>e2 h.1.symm),if_neg e2]
   by_cases e3:m=16+(fr / 2*4+1).toNat
   ·rw[if_pos ⟨e3.symm,by omega⟩,if_pos e3]
   ·rw[if_neg (fun h=>e3 h.1.symm),if_neg e3]
    by_cases e4:m=fr.toNat*2+1
    ·rw[if_pos ⟨e4.symm,by omega⟩,if_pos e4]
    ·rw[if_neg (fun h=>e4 h.1.symm),if_neg e4]
structure Keep(zs0:List Int)(j:Nat)(s:Vw):Prop where
 zl:s.zs.length=31
 nl:s.ng.length=8
 gl:s.gn.length=8
 or:s.gn.getD j false=true∨(dF s.zs j=true∧bq s.zs j=bq zs0 j∧s.ng.getD j false=false)
theorem Keep.step{zs0:List Int}{j:Nat}(hj:j<8){s:Vw}(h:Keep zs0 j s)(fr:Int){o:List Int}(he:eX s fr o=0):Keep zs0 j (eG s o):=by
 obtain⟨h1,h2,h3,h4⟩:=h
 unfold eG
 unfold eX at he
 by_cases k1:o.getD 0 0=1
 ·rw[if_pos k1]at he ⊢
  obtain⟨hf,hi1,hi2⟩:=errAdd_0 he
  obtain⟨Fp,hfm⟩:=oJ hf
  refine⟨iI h1 rfl,by simp[h2],h3,?_⟩
  rcases h4 with h4|⟨h5,h6,h7⟩
  ·exact .inl h4
  ·have hne:j≠dH s.zs:=fun e=>by rw[←e,h5]at hfm;cases hfm
   refine .inr ⟨?_,?_,?_⟩
   ·rw[lu h1 rfl Fp hj,if_neg hne];exact h5
   ·rw[jv h1 rfl Fp hj,if_neg hne];exact h6
   ·show(s.ng.set (dH s.zs) true).getD j false=false
    rw[iK,if_neg (fun e=>hne e.1.symm)];exact h7
 rw[if_neg k1]at he ⊢
 by_cases k2:o.getD 0 0=2
 ·rw[if_pos k2]at he ⊢
  unfold fC at he
  have hw:¬(o.getD 1 0=fr∨bn s.zs (o.getD 1 0)=false):=fun hx=>by rw[if_pos hx]at he;cases he
  have hm:bn s.zs (o.getD 1 0)=true:=by
   cases hq:bn s.zs (o.getD 1 0)with
   |true=>rfl
   |false=>exact(hw (.inr hq)).elim
  obtain⟨hb0,hb1⟩:=fA hm
  obtain⟨n,hn⟩:=Int.eq_ofNat_of_zero_le hb0
  rw[hn]at hb1 ⊢
  refine⟨iI h1 rfl,by simp[h2],by simp[h3],?_⟩
  by_cases hne:j=n
  ·left
   show(s.gn.set (n:Int).toNat true).getD j false=true
   rw[Int.toNat_natCast,iK,if_pos ⟨hne.symm,by omega⟩]
  ·rcases h4 with h4|⟨h5,h6,h7⟩
   ·left
    show(s.gn.set (n:Int).toNat true).getD j false=true
    rw[Int.toNat_natCast,iK,if_neg (fun e=>hne e.1.symm)];exact h4
   ·refine .inr ⟨?_,?_,?_⟩
    ·rw[lu h1 rfl (by omega) hj,if_neg hne];exact h5
    ·rw[jv h1 rfl (by omega) hj,if_neg hne];exact h6
    ·show(s.ng.set (n:Int).toNat false).getD j false=false
     rw[Int.toNat_natCast,iK,if_neg (fun e=>hne e.1.symm)];exact h7
 rw[if_neg k2]
 by_cases k3:o.getD 0 0=3
 ·rw[if_pos k3];exact⟨h1,h2,h3,h4⟩
 rw[if_neg k3]
 by_cases k4:o.getD 0 0=4
 ·rw[if_pos k4];exact⟨h1,h2,h3,h4⟩
 rw[if_neg k4]
 exact⟨h1,h2,h3,h4⟩
structure Goes(zs0:List Int)(s:Vw):Prop where
 zl:s.zs.length=31
 al:s.ad.length=8
 nl:s.ng.length=8
 t:rQ s.zs=true
 adm:kV s.zs s.ad 8=true
 k:1≤s.k
 nd:∀m,16≤m→s.zs.getD m 0=0∨s.zs.getD m 0=zs0.getD m 0
 new:∀j,j<8→s.ng.getD j false=true→dF s.zs j=true∧s.zs.getD (16+n1 (j:Nat)) 0=0∧s.zs.getD (16+n2 (j:Nat)) 0=0∧s.zs.getD 23 0=0
theorem Ce(zs:List Int):rQ zs=true↔(∀k,k<8→eY zs k=true)∧∀k,k<15→gK zs k=true:=by
 unfold rQ
 rw[Bool.and_eq_true,List.all_eq_true,List.all_eq_true]
 simp only[List.mem_range]
theorem Gs{zs:List Int}{k:Nat}{a b:Int}(h:bq zs k=[a,b])(ha:cO a=true)(hb:cO b=true):eY zs k=true:=by
 unfold eY;rw[h];simp[ha,hb]
theorem Lg{zs:List Int}{k:Nat}(h:bq zs k=[0,0]):eY zs k=true:=by
 unfold eY;rw[h];rfl
theorem Gr{zs zs':List Int}{k:Nat}(h:bq zs k=bq zs' k):eY zs k=eY zs' k:=by
 unfold eY;rw[h]
theorem D9{zs:List Int}{k:Nat}(hk:k<15):gK zs k=(decide (zs.getD (16+k) 0=0)||(!((k:Int).tmod 2==0)&&cO (zs.getD (16+k) 0))):=by
 unfold gK;rw[Lr zs hk]
theorem Lc{zs xs:List Int}(hz:zs.length=31)(h:rQ zs=true){i:Nat}(hi:i<8)(hx:xs=[0,0]∨∃a b,xs=[a,b]∧cO a=true∧cO b=true):rQ (dA zs xs (i:Nat))=true:=by
 have hx2:xs.length=2:=by rcases hx with rfl|⟨a,b,rfl,_⟩<;>rfl
 obtain⟨h1,h2⟩:=(Ce zs).1 h
 refine(Ce _).2 ⟨fun k hk=>?_,fun k hk=>?_⟩
 ·have e:=jv hz hx2 hi hk
  by_cases hki:k=i
  ·rw[if_pos hki]at e
   rcases hx with rfl|⟨a,b,rfl,ha,hb⟩
   ·exact Lg e
   ·exact Gs e ha hb
  ·rw[if_neg hki]at e
   rw[Gr e];exact h1 k hk
 ·have:=h2 k hk
  rw[D9 hk]at this ⊢
  rw[oO hz hx2 hi (by omega)]
  split
  ·rfl
  ·exact this
theorem RN{zs:List Int}{k:Nat}{a b:Int}(h:bq zs k=[a,b])(ha:cO a=true):dF zs k=true:=by
 unfold dF;rw[h]
 have:=xC ha
 simp[this]
theorem Goes.step{zs0:List Int}{s:Vw}(h:Goes zs0 s)(fr:Int){o:List Int}(he:eX s fr o=0):Goes zs0 (eG s o):=by
 have hinv:Inv s:=⟨h.adm,h.zl,h.al⟩
 have hnx:=xH hinv fr he
 obtain⟨h1,h2,h3,h4,h5,h6,h7,h8⟩:=h
 refine⟨hnx.zl,hnx.al,?_,?_,hnx.adm,?_,?_,?_⟩<;>unfold eG<;>unfold eX at he<;>by_cases k1:o.getD 0 0=1
 ·rw[if_pos k1];simp[h3]
 ·rw[if_neg k1];split
  ·simp[h3]
  ·split
   ·exact h3
   ·split<;>exact h3
 ·rw[if_pos k1]at he ⊢
  obtain⟨hf,hi1,hi2⟩:=errAdd_0 he
  obtain⟨Fp,hfm⟩:=oJ hf
  exact Lc h1 h4 Fp (.inr ⟨_,_,rfl,hi1,hi2⟩)
 ·rw[if_neg k1]at he ⊢
  by_cases k2:o.getD 0 0=2
  ·rw[if_pos k2]at he ⊢
   unfold fC at he
   have hm:bn s.zs (o.getD 1 0)=true:=by
    cases hq:bn s.zs (o.getD 1 0)with
    |true=>rfl
    |false=>rw[if_pos (.inr hq)]at he;cases he
   obtain⟨hb0,hb1⟩:=fA hm
   obtain⟨n,hn⟩:=Int.eq_ofNat_of_zero_le hb0
   rw[hn]at hb1 ⊢
   exact Lc h1 h4 (by omega) (.inl rfl)
  ·rw[if_neg k2];split
   ·exact h4
   ·split<;>exact h4
 ·rw[if_pos k1];exact h6
 ·rw[if_neg k1]at he ⊢
  split
  ·exact h6
  ·next k2=>
   rw[if_neg k2]at he
   split
   ·exact h6
   ·next k3=>
    rw[if_neg k3]at he
    split
    ·exact h6
    ·next k4=>
     rw[if_neg k4]at he
     unfold iN at he
     show 1≤o.getD 2 0
     by_cases hk:o.getD 2 0<1∨o.getD 2 0>8
     ·rw[if_pos hk]at he;cases he
     ·omega
 ·rw[if_pos k1]at he ⊢
  obtain⟨hf,hi1,hi2⟩:=errAdd_0 he
  obtain⟨Fp,hfm⟩:=oJ hf
  intro m hm
  show(dA s.zs _ _).getD m 0=0∨(dA s.zs _ _).getD m 0=_
  rw[oO h1 rfl Fp hm]
  split
  ·exact .inl rfl
  ·exact h7 m hm
 ·rw[if_neg k1]at he ⊢
  by_cases k2:o.getD 0 0=2
  ·rw[if_pos k2]at he ⊢
   unfold fC at he
   have hm:bn s.zs (o.getD 1 0)=true:=by
    cases hq:bn s.zs (o.getD 1 0)with
    |true=>rfl
    |false=>rw[if_pos (.inr hq)]at he;cases he
   obtain⟨hb0,hb1⟩:=fA hm
   obtain⟨n,hn⟩:=Int.eq_ofNat_of_zero_le hb0
   rw[hn]at hb1 ⊢
   intro m hm
   show(dA s.zs _ _).getD m 0=0∨(dA s.zs _ _).getD m 0=_
   rw[oO h1 rfl (by omega) hm]
   split
   ·exact .inl rfl
   ·exact h7 m hm
  ·rw[if_neg k2];split
   ·exact h7
   ·split<;>exact h7
 ·rw[if_pos k1]at he ⊢
  obtain⟨hf,hi1,hi2⟩:=errAdd_0 he
  obtain⟨Fp,hfm⟩:=oJ hf
  intro j hj pI
  have pI:(s.ng.set (dH s.zs) true).getD j false=true:=pI
  show dF (dA s.zs _ _) j=true∧(dA s.zs _ _).getD _ 0=0∧(dA s.zs _ _).getD _ 0=0∧(dA s.zs _ _).getD _ 0=0
  rw[oO h1 rfl Fp (by omega),oO h1 rfl Fp (by omega),oO h1 rfl Fp (by omega)]
  by_cases hje:j=dH s.zs
  ·subst hje
   refine⟨RN (by rw[jv h1 rfl Fp Fp,if_pos rfl]) hi1,?_,?_,?_⟩
   ·rw[if_pos (.inl rfl)]
   ·rw[if_pos (.inr (.inl rfl))]
   ·rw[if_pos (.inr (.inr rfl))]
  ·rw[iK,if_neg (fun e=>hje e.1.symm)]at pI
   obtain⟨a1,a2,a3,a4⟩:=h8 j hj pI
   refine⟨by rw[lu h1 rfl Fp hj,if_neg hje];exact a1,?_,?_,?_⟩
   ·split
    ·rfl
    ·exact a2
   ·split
    ·rfl
    ·exact a3
   ·split
    ·rfl
    ·exact a4
 ·rw[if_neg k1]at he ⊢
  by_cases k2:o.getD 0 0=2
  ·rw[if_pos k2]at he ⊢
   unfold fC at he
   have hm:bn s.zs (o.getD 1 0)=true:=by
    cases hq:bn s.zs (o.getD 1 0)with
    |true=>rfl
    |false=>rw[if_pos (.inr hq)]at he;cases he
   obtain⟨hb0,hb1⟩:=fA hm
   obtain⟨n,hn⟩:=Int.eq_ofNat_of_zero_le hb0
   rw[hn]at hb1 ⊢
   intro j hj pI
   have pI:(s.ng.set (n:Int).toNat false).getD j false=true:=pI
   rw[Int.toNat_natCast]at pI
   show dF (dA s.zs _ _) j=true∧(dA s.zs _ _).getD _ 0=0∧(dA s.zs _ _).getD _ 0=0∧(dA s.zs _ _).getD _ 0=0
   rw[oO h1 rfl (by omega) (by omega),oO h1 rfl (by omega) (by omega),oO h1 rfl (by omega) (by omega)]
   by_cases hje:j=n
   ·subst hje
    rw[iK,if_pos ⟨rfl,by omega⟩]at pI
    cases pI
   ·rw[iK,if_neg (fun e=>hje e.1.symm)]at pI
    obtain⟨a1,a2,a3,a4⟩:=h8 j hj pI
    refine⟨by rw[lu h1 rfl (by omega) hj,if_neg hje];exact a1,?_,?_,?_⟩
    ·split
     ·rfl
     ·exact a2
    ·split
     ·rfl
     ·exact a3
    ·split
     ·rfl
     ·exact a4
  ·rw[if_neg k2];split
   ·exact h8
   ·split<;>exact h8
theorem nA{e:Int}{zs:List Int}{ad:List Bool}{k:Int}:dU e zs ad k=true↔0≤e∧e≤1099511627776∧rQ zs=true∧kV zs ad 8=true∧1≤k∧k≤((jh ad:Nat):Int):=by
 unfold dU
 simp only[Bool.and_eq_true,decide_eq_true_eq]
 constructor
 ·rintro⟨⟨⟨⟨⟨a,b⟩,c⟩,d⟩,e⟩,f⟩;exact⟨a,b,c,d,e,f⟩
 ·rintro⟨a,b,c,d,e,f⟩;exact⟨⟨⟨⟨⟨a,b⟩,c⟩,d⟩,e⟩,f⟩
theorem vJ{e:Int}{zs:List Int}{ad:List Bool}{k:Int}{fr:Int}{ops:List Int}{n:Nat}(hz:zs.length=31)(ha:ad.length=8)(h:(cZ e ⟨zs,ad,k,F8,F8⟩ fr ops n).1=0):
  Goes zs (cZ e ⟨zs,ad,k,F8,F8⟩ fr ops n).2∧(cZ e ⟨zs,ad,k,F8,F8⟩ fr ops n).2.k≤((jh (cZ e ⟨zs,ad,k,F8,F8⟩ fr ops n).2.ad:Nat):Int)∧dU e zs ad k=true∧bn zs fr=true:=by
 obtain⟨h1,h2,h3,h4,h5,h6,h7⟩:=yH h
 obtain⟨_,_,m3,m4,m5,_⟩:=nA.1 h1
 rw[h6]
 refine⟨tu (I:=Goes zs) (fun s o hs he=>hs.step fr he) _ _ _ ⟨hz,ha,rfl,m3,m4,m5,fun m _=>.inr rfl,fun j hj hn=>?_⟩ h5,h7,h1,h4⟩
 have:F8.getD j false=false:=by rcases j with _|_|_|_|_|_|_|_|j<;>first|rfl|omega
 rw[show(⟨zs,ad,k,F8,F8⟩:Vw).ng=F8 from rfl,this]at hn
 cases hn
theorem IX{e:Int}{zs:List Int}{ad:List Bool}{k:Int}{fr:Int}{ops:List Int}{n:Nat}(hz:zs.length=31){j:Nat}(hj:j<8)(hm:dF zs j=true)(h:(cZ e ⟨zs,ad,k,F8,F8⟩ fr ops n).1=0):Keep zs j (cZ e ⟨zs,ad,k,F8,F8⟩ fr ops n).2:=by
 obtain⟨h1,h2,h3,h4,h5,h6,h7⟩:=yH h
 rw[h6]
 have:F8.getD j false=false:=by rcases j with _|_|_|_|_|_|_|_|j<;>first|rfl|omega
 exact tu (I:=Keep zs j) (fun s o hs he=>hs.step hj fr he) _ _ _ ⟨hz,rfl,rfl,.inr ⟨hm,rfl,this⟩⟩ h5
end
section
open Pm
structure Kc(p:PS):Prop where
 lf0:0≤p.lf
 lf1:p.lf<8
 zl:p.zs.length=31
 al:p.ad.length=8
 cl:p.ch.length=32
 gl:p.sg.length=32
 sl:p.sc.length=32
 bl:p.ab.length=96
 el:p.ep.length=32
 il:p.jK.length=32
 a0:aL p.zs (16+n1 p.lf)=false→dS p.ab 0=zB 32
 a1:aL p.zs (16+n2 p.lf)=false→dS p.ab 1=zB 32
 a2:aL p.zs 23=false→dS p.ab 2=zB 32
theorem fq{ab:List UInt8}(h:ab.length=96){k:Nat}(hk:k<3):(dS ab k).length=32:=by unfold dS;simp;omega
structure Own(p:PS):Prop where
 inv:Kc p
 may:dU p.e p.zs p.ad p.k=true
 lf:bq p.zs p.lf.toNat=[aA 4 (au p.sg),aI p.sc]
 k0:aL p.zs (16+n1 p.lf)=true→p.zs.getD (16+n1 p.lf) 0=aI (dS p.ab 0)
 k1:aL p.zs (16+n2 p.lf)=true→p.zs.getD (16+n2 p.lf) 0=aI (dS p.ab 1)
 k2:aL p.zs 23=true→p.zs.getD 23 0=aI (dS p.ab 2)
structure Like(p q:PS):Prop where
 e:p.e=q.e
 zs:p.zs=q.zs
 ad:p.ad=q.ad
 k:p.k=q.k
 ch:p.ch=q.ch
 ep:p.ep=q.ep
 jK:p.jK=q.jK
theorem jL(h:List UInt8):cO (aI h)=true:=nO (au (av h)) (dL _)
theorem iZ(h:List UInt8):aI h≠0:=xC (jL h)
theorem eU(zs:List Int)(m:Nat):aL zs m=true↔zs.getD m 0≠0:=by unfold aL;simp
theorem dZ(zs:List Int)(m:Nat):aL zs m=false↔zs.getD m 0=0:=by unfold aL;simp
theorem ag7(h:List UInt8):dS (fU h) 0=ak h:=by
 unfold dS fU
 have h1:=dY h
 simp[List.take_append,h1]
theorem ag8(h:List UInt8):dS (fU h) 1=ak (ak h):=by
 unfold dS fU
 have h1:=dY h
 have h2:=dY (ak h)
 simp[List.take_append,List.drop_append,h1,h2]
theorem ag9(h:List UInt8):dS (fU h) 2=ak (ak (ak h)):=by
 unfold dS fU
 have h1:=dY h
 have h2:=dY (ak h)
 have h3:=dY (ak (ak h))
 have e1:List.drop 64 (ak h)=[]:=List.drop_eq_nil_of_le (by omega)
 have e2:List.take 32 (ak (ak (ak h)))=ak (ak (ak h)):=List.take_of_length_le (by omega)
 simp[List.take_append,List.drop_append,h1,h2,h3,e1,e2]
theorem nM{p:PS}(hb:p.ab.length=96){h:List UInt8}(hh:h.length=32){q k:Nat}(hq:q<3)(hk:k<3):dS (gH p q h).ab k=if k=q then h else dS p.ab k:=by
 show dS (p.ab.take (q*32)++(h++p.ab.drop (q*32+32))) k=_
 unfold dS
 have h1:(p.ab.take (q*32)).length=q*32:=by simp;omega
 by_cases e:k=q
 ·subst e
  rw[if_pos rfl,List.drop_append_of_le_length (by omega),List.drop_eq_nil_of_le (by omega),List.nil_append,List.take_append_of_le_length (by omega),List.take_of_length_le (by omega)]
 ·rw[if_neg e]
  rcases Nat.lt_or_ge k q with h2|h2
  ·rw[List.drop_append_of_le_length (by omega),List.take_append_of_le_length (by simp;omega),List.drop_take,List.take_take,show min 32 (q*32-k*32)=32 by omega]
  ·rw[List.drop_append,List.drop_eq_nil_of_le (by omega),List.nil_append,h1,List.drop_append,List.drop_eq_nil_of_le (by omega),List.nil_append,List.drop_drop,hh]
   congr 2
   omega
theorem rM{p:PS}(hb:p.ab.length=96){h:List UInt8}(hh:h.length=32){q:Nat}(hq:q<3):(gH p q h).ab.length=96:=by
 show(p.ab.take (q*32)++(h++p.ab.drop (q*32+32))).length=96
 simp;omega
structure jY(p p':PS):Prop where
 e:p'.e=p.e
 zs:p'.zs=p.zs
 ad:p'.ad=p.ad
 k:p'.k=p.k
 ch:p'.ch=p.ch
 lf:p'.lf=p.lf
 sg:p'.sg=p.sg
 sc:p'.sc=p.sc
 ep:p'.ep=p.ep
 jK:p'.jK=p.jK
theorem jY.refl(p:PS):jY p p:=⟨rfl,rfl,rfl,rfl,rfl,rfl,rfl,rfl,rfl,rfl⟩
theorem jY.trans{p q r:PS}(h:jY p q)(k:jY q r):jY p r:=⟨k.1.trans h.1,k.2.trans h.2,k.3.trans h.3,k.4.trans h.4,k.5.trans h.5,k.6.trans h.6,k.7.trans h.7,k.8.trans h.8,k.9.trans h.9,k.10.trans h.10⟩
theorem jY.set(p:PS)(q:Nat)(h:List UInt8):jY p (gH p q h):=⟨rfl,rfl,rfl,rfl,rfl,rfl,rfl,rfl,rfl,rfl⟩
theorem zX{p:PS}(hb:p.ab.length=96){k:Nat}(hk:k<3):jY p (gX p k)∧(gX p k).ab.length=96∧
  (0<k→dS (gX p k).ab 0=if aL p.zs (16+n1 p.lf)=true then dS p.ab 0 else zB 32)∧(1<k→dS (gX p k).ab 1=if aL p.zs (16+n2 p.lf)=true then dS p.ab 1 else zB 32):=by
 have hz:(zB 32).length=32:=by simp
 have l0:(jT p).ab.length=96:=by unfold jT;split;exact hb;exact rM hb hz (by decide)
 have s0:jY p (jT p):=by unfold jT;split;exact .refl p;exact .set p 0 _
 have a0:dS (jT p).ab 0=if aL p.zs (16+n1 p.lf)=true then dS p.ab 0 else zB 32:=by
  unfold jT;split
  ·rfl
  ·rw[nM hb hz (by decide) (by decide),if_pos rfl]
 have a1:dS (jT p).ab 1=dS p.ab 1:=by
  unfold jT;split
  ·rfl
  ·rw[nM hb hz (by decide) (by decide),if_neg (by decide)]
 have e1:(jT p).zs=p.zs:=s0.zs
 have e2:(jT p).lf=p.lf:=s0.lf
 have l1:(qm (jT p)).ab.length=96:=by unfold qm;split;exact l0;exact rM l0 hz (by decide)
 have s1:jY p (qm (jT p)):=by unfold qm;split;exact s0;exact s0.trans (.set _ 1 _)
 have b0:dS (qm (jT p)).ab 0=dS (jT p).ab 0:=by
  unfold qm;split
  ·rfl
  ·rw[nM l0 hz (by decide) (by decide),if_neg (by decide)]
 have b1:dS (qm (jT p)).ab 1=if aL p.zs (16+n2 p.lf)=true then dS p.ab 1 else zB 32:=by
  unfold qm;rw[e1,e2];split
  ·exact a1
  ·rw[nM l0 hz (by decide) (by decide),if_pos rfl]
 unfold gX
 rcases(show k=0∨k=1∨k=2 by omega)with rfl|rfl|rfl
 ·exact⟨.refl p,hb,fun h=>absurd h (by decide),fun h=>absurd h (by decide)⟩
 ·exact⟨s0,l0,fun _=>a0,fun h=>absurd h (by decide)⟩
 ·exact⟨s1,l1,fun _=>b0.trans a0,fun _=>b1⟩
theorem jg{p:PS}(hb:p.ab.length=96){h:List UInt8}(hh:h.length=32){k:Nat}(hk:k<3)
  (c0:k=0→p.zs.getD (16+n1 p.lf) 0=aI h)(c1:k≤1→p.zs.getD (16+n2 p.lf) 0=aI (if k=1 then h else ak h))(c2:p.zs.getD 23 0=aI (if k=2 then h else if k=1 then ak h else ak (ak h))):
  (aW p h k).1=true∧(aW p h k).2.1=(if k=2 then ak h else if k=1 then ak (ak h)else ak (ak (ak h)))∧jY p (aW p h k).2.2∧(aW p h k).2.2.ab.length=96∧
  dS (aW p h k).2.2.ab 0=(if k=0 then h else dS p.ab 0)∧dS (aW p h k).2.2.ab 1=(if k=0 then ak h else if k=1 then h else dS p.ab 1)∧dS (aW p h k).2.2.ab 2=(if k=0 then ak (ak h)else if k=1 then ak h else h):=by
 have no:∀(q:PS) (x:List UInt8) (m:Nat),q.zs.getD m 0=aI x→¬JV q x m=true:=fun q x m e=>by unfold JV;rw[e];simp[aI]
 have top:∀(q:PS) (x:List UInt8),q.ab.length=96→x.length=32→q.zs.getD 23 0=aI x→(fu q x).1=true∧(fu q x).2.1=ak x∧jY q (fu q x).2.2∧(fu q x).2.2.ab.length=96∧dS (fu q x).2.2.ab 0=dS q.ab 0∧dS (fu q x).2.2.ab 1=dS q.ab 1∧dS (fu q x).2.2.ab 2=x:=fun q x hq hx e=>by
  unfold fu
  rw[if_neg (no q x 23 e)]
  exact⟨rfl,rfl,.set _ _ _,rM hq hx (by decide),by rw[nM hq hx (by decide) (by decide),if_neg (by decide)],by rw[nM hq hx (by decide) (by decide),if_neg (by decide)],by rw[nM hq hx (by decide) (by decide),if_pos rfl]⟩
 have mid:∀(q:PS) (x:List UInt8),q.ab.length=96→x.length=32→q.zs.getD (16+n2 q.lf) 0=aI x→q.zs.getD 23 0=aI (ak x)→(dX q x).1=true∧(dX q x).2.1=ak (ak x)∧jY q (dX q x).2.2∧(dX q x).2.2.ab.length=96∧dS (dX q x).2.2.ab 0=dS q.ab 0∧dS (dX q x).2.2.ab 1=x∧dS (dX q x).2.2.ab 2=ak x:=fun q x hq hx e e2=>by
  unfold dX
  rw[if_neg (no q x _ e)]
  obtain⟨t1,t2,t3,t4,t5,t6,t7⟩:=top (gH q 1 x) (ak x) (rM hq hx (by decide)) (dY x) e2
  exact⟨t1,t2,(jY.set q 1 x).trans t3,t4,by rw[t5,nM hq hx (by decide) (by decide),if_neg (by decide)],by rw[t6,nM hq hx (by decide) (by decide),if_pos rfl],t7⟩
 rcases(show k=0∨k=1∨k=2 by omega)with rfl|rfl|rfl
 ·have e0:=c0 rfl
  have e1:p.zs.getD (16+n2 p.lf) 0=aI (ak h):=c1 (by decide)
  have e2:p.zs.getD 23 0=aI (ak (ak h)):=c2
  have e:aW p h 0=dX (gH p 0 h) (ak h):=by
   unfold aW
   rw[if_pos rfl]
   unfold iR
   rw[if_neg (no p h _ e0)]
  obtain⟨t1,t2,t3,t4,t5,t6,t7⟩:=mid (gH p 0 h) (ak h) (rM hb hh (by decide)) (dY h) e1 e2
  rw[e]
  refine⟨t1,t2.trans ?_,(jY.set p 0 h).trans t3,t4,?_,t6.trans ?_,t7.trans ?_⟩
  ·rw[if_neg (by decide),if_neg (by decide)]
  ·rw[t5,nM hb hh (by decide) (by decide),if_pos rfl]
  ·rw[if_pos rfl]
  ·rw[if_pos rfl]
 ·have e1:p.zs.getD (16+n2 p.lf) 0=aI h:=c1 (by decide)
  have e2:p.zs.getD 23 0=aI (ak h):=c2
  have e:aW p h 1=dX p h:=by unfold aW;rw[if_neg (by decide),if_pos rfl]
  obtain⟨t1,t2,t3,t4,t5,t6,t7⟩:=mid p h hb hh e1 e2
  rw[e]
  refine⟨t1,t2.trans ?_,t3,t4,t5.trans ?_,t6.trans ?_,t7.trans ?_⟩
  ·rw[if_neg (by decide),if_pos rfl]
  ·rw[if_neg (by decide)]
  ·rw[if_neg (by decide),if_pos rfl]
  ·rw[if_neg (by decide),if_pos rfl]
 ·have e2:p.zs.getD 23 0=aI h:=c2
  have e:aW p h 2=fu p h:=by unfold aW;rw[if_neg (by decide),if_neg (by decide)]
  obtain⟨t1,t2,t3,t4,t5,t6,t7⟩:=top p h hb hh e2
  rw[e]
  refine⟨t1,t2.trans ?_,t3,t4,t5.trans ?_,t6.trans ?_,t7.trans ?_⟩
  ·rw[if_pos rfl]
  ·rw[if_neg (by decide)]
  ·rw[if_neg (by decide),if_neg (by decide)]
  ·rw[if_neg (by decide),if_neg (by decide)]
end
section
open Pm
theorem EA{zs:List Int}:∀(d:Nat) (n m:Int),m∈dN d zs n→bA zs m≠0
 |0,n,m,h=>by
  unfold dN at h
  split at h
  ·cases h
  ·next hk=>rw[List.mem_singleton.1 h];exact hk
 |d+1,n,m,h=>by
  unfold dN at h
  split at h
  ·split at h
   ·rcases List.mem_append.1 h with h|h
    ·exact EA d _ m h
    ·exact EA d _ m h
   ·cases h
  ·next hk=>rw[List.mem_singleton.1 h];exact hk
theorem uV{zs:List Int}{bt:List Bool}{x:Int}:∀n,∀q∈bB zs bt x n,bA zs q.2≠0
 |0,q,h=>by simp[bB]at h
 |n+1,q,h=>by
  rw[bB,List.mem_append]at h
  rcases h with h|h
  ·exact uV n q h
  ·unfold d9 at h
   obtain⟨m,hm,rfl⟩:=List.mem_map.1 h
   exact EA 3 _ m (List.mem_filter.1 hm).1
theorem Qw{l:List (Int×Int)}{lf:Int}(h:∃q∈l,aJ q.2 lf=true):dD l lf<l.length∧aJ (l.getD (dD l lf) (0,0)).2 lf=true∧l.getD (dD l lf) (0,0)∈l:=by
 have h1:dD l lf<l.length:=List.findIdx_lt_length_of_exists h
 have h2:l.getD (dD l lf) (0,0)=l[dD l lf]:=by rw[List.getD_eq_getElem?_getD,List.getElem?_eq_getElem h1];rfl
 rw[h2]
 exact⟨h1,List.findIdx_getElem (w:=h1),List.getElem_mem h1⟩
theorem qK{m lf:Int}(h:aJ m lf=true):m=2*lf∨m=lf / 2*4+1∨m=lf / 4*8+3∨m=7:=by
 unfold aJ at h
 simp only[Bool.and_eq_true,Bool.or_eq_true,decide_eq_true_eq]at h
 rcases h.2 with((h|h)|h)|h<;>simp[h]
theorem nu{zs:List Int}(hz:zs.length=31){fr:Int}(f0:0≤fr)(f1:fr<8)(sl a b c:Int){j:Nat}(hj:j<8):bq (gu zs fr sl a b c) j=if j=fr.toNat then[zs.getD (fr.toNat*2) 0,sl]else bq zs j:=by
 have hl:=Kk hz fr sl a b c
 rw[gJ (by omega) hj,j4 hz f0 f1,j4 hz f0 f1,gJ (by omega) hj]
 unfold n1 n2
 by_cases e:j=fr.toNat
 ·rw[if_neg (by omega),if_neg (by omega),if_neg (by omega),if_neg (by omega),if_neg (by omega),if_neg (by omega),if_neg (by omega),if_pos (by omega),if_pos e,e]
 ·rw[if_neg (by omega),if_neg (by omega),if_neg (by omega),if_neg (by omega),if_neg (by omega),if_neg (by omega),if_neg (by omega),if_neg (by omega),if_neg e]
theorem ar3{zs:List Int}(hz:zs.length=31)(h:rQ zs=true){fr:Int}(f0:0≤fr)(f1:fr<8){sl a b c x y:Int}(hx:bq zs fr.toNat=[x,y])(ix:cO x=true)(i0:cO sl=true)(i1:cO a=true)(i2:cO b=true)(i3:cO c=true):rQ (gu zs fr sl a b c)=true:=by
 obtain⟨h1,h2⟩:=(Ce zs).1 h
 refine(Ce _).2 ⟨fun k hk=>?_,fun k hk=>?_⟩
 ·have e:=nu hz f0 f1 sl a b c hk
  by_cases hki:k=fr.toNat
  ·rw[if_pos hki]at e
   have hx2:=hx
   rw[gJ (by omega) (by omega)]at hx2
   have e1:zs.getD (fr.toNat*2) 0=x:=(List.cons.inj hx2).1
   rw[e1]at e
   exact Gs e ix i0
  ·rw[if_neg hki]at e
   rw[Gr e];exact h1 k hk
 ·have:=h2 k hk
  rw[D9 hk]at this ⊢
  rw[j4 hz f0 f1]
  unfold n1 n2
  have odd:∀v:Int,cO v=true→(k:Int)%2=1→(decide (v=0)||(!((k:Int).tmod 2==0)&&cO v))=true:=fun v hv ho=>by
   have:(k:Int).tmod 2=1:=by rw[Int.tmod_eq_emod_of_nonneg (by omega)];exact ho
   rw[this,hv];simp
  split
  ·exact odd c i3 (by omega)
  ·split
   ·exact odd b i2 (by omega)
   ·split
    ·exact odd a i1 (by omega)
    ·rw[if_neg (by omega)];exact this
theorem Lj{zs:List Int}(hz:zs.length=31){fr:Int}(f0:0≤fr)(f1:fr<8)(sl a b c:Int){j:Nat}(hj:j<8)(hs:sl≠0)(h:dF zs j=true):dF (gu zs fr sl a b c) j=true:=by
 unfold dF at h ⊢
 rw[nu hz f0 f1 sl a b c hj]
 split
 ·simp[hs]
 ·exact h
theorem as3{zs0:List Int}{s:Vw}(g:Goes zs0 s)(hk:s.k≤((jh s.ad:Nat):Int)){fr:Int}(f0:0≤fr)(f1:fr<8){sl a b c x y:Int}(hx:bq s.zs fr.toNat=[x,y])(ix:cO x=true)(i0:cO sl=true)(i1:cO a=true)(i2:cO b=true)(i3:cO c=true){e:Int}(e0:0≤e)(e1:e≤1099511627776):
  dU e (gu s.zs fr sl a b c) s.ad s.k=true:=by
 refine nA.2 ⟨e0,e1,ar3 g.zl g.t f0 f1 hx ix i0 i1 i2 i3,?_,g.k,hk⟩
 rw[kH]
 intro i hi ha
 exact Lj g.zl f0 f1 sl a b c hi (xC i0) ((kH _ _).1 g.adm i hi ha)
theorem comE_0{q:PS}{n:Nat}{ops:List Int}{m:Nat}{vs:List Int}(h:bW q n ops m vs=0):bX q.e q.zs q.ad q.k q.ch q.lf ops n vs m=0∧(cZ q.e ⟨q.zs,q.ad,q.k,F8,F8⟩ q.lf ops n).1=0∧q.e<1099511627776:=by
 unfold bW at h
 by_cases h1:bX q.e q.zs q.ad q.k q.ch q.lf ops n vs m=0
 ·rw[if_neg (fun x=>x h1)]at h
  by_cases h2:(cZ q.e ⟨q.zs,q.ad,q.k,F8,F8⟩ q.lf ops n).1=0
  ·rw[if_neg (fun x=>x h2)]at h
   refine⟨h1,h2,?_⟩
   by_cases h3:q.e≥1099511627776
   ·rw[if_pos h3]at h;cases h
   ·omega
  ·rw[if_pos h2]at h;exact absurd h h2
 ·rw[if_pos h1]at h;exact absurd h h1
theorem Own.mem{p:PS}(h:Own p):dF p.zs p.lf.toNat=true:=RN h.lf (nO _ (dL _))
theorem Own.bn{p:PS}(h:Own p):bn p.zs p.lf=true:=by
 unfold Go.Proofs.YtjhgelfnmhdihaaGreatDoor.bn
 rw[h.mem]
 have h0:=h.inv.lf0
 have h1:=h.inv.lf1
 simp[aG,h0,h1]
theorem Own.num{p:PS}(h:Own p):p.zs.getD (p.lf.toNat*2) 0=aA 4 (au p.sg)∧p.zs.getD (p.lf.toNat*2+1) 0=aI p.sc:=by
 have h1:=h.lf
 have z:=h.inv.zl
 have l0:=h.inv.lf0
 have l1:=h.inv.lf1
 rw[gJ (by omega) (by omega)]at h1
 exact⟨(List.cons.inj h1).1,(List.cons.inj (List.cons.inj h1).2).1⟩
theorem lC(p:PS)(s:Vw)(n:Nat)(ops:List Int)(m:Nat)(vs:List Int)(d:List UInt8):(aH p s n ops m vs d).zs=gu s.zs p.lf (aI (aC d)) (aI (ak (aC d))) (aI (ak (ak (aC d)))) (aI (ak (ak (ak (aC d))))):=by
 dsimp only[aH,bC,dG,fK,gN,iL]
theorem yE{q:PS}(hq:Own q){n:Nat}{ops:List Int}{m:Nat}{vs:List Int}(hc:bW q n ops m vs=0)(d:List UInt8):Own (aH q (dJ q q.lf n ops) n ops m vs d):=by
 obtain⟨h1,h2,h3⟩:=comE_0 hc
 obtain⟨g,gk,gm,_⟩:=vJ hq.inv.zl hq.inv.al h2
 obtain⟨l0,l1⟩:=(⟨hq.inv.lf0,hq.inv.lf1⟩:0≤q.lf∧q.lf<8)
 have hst:CF q.zs q.lf.toNat (dJ q q.lf n ops):=by
  have e:((q.lf.toNat:Nat):Int)=q.lf:=by omega
  have h2':=h2
  rw[←e]at h2'
  have:=(wu hq.inv.zl hq.inv.al h2').2
  rw[e]at this
  exact this
 obtain⟨e0,_⟩:=nA.1 gm
 have hg:Goes q.zs (dJ q q.lf n ops):=g
 have hgk:(dJ q q.lf n ops).k≤((jh (dJ q q.lf n ops).ad:Nat):Int):=gk
 generalize dJ q q.lf n ops=s at hst hg hgk
 have hx:bq s.zs q.lf.toNat=[aA 4 (au q.sg),aI q.sc]:=hst.own.trans hq.lf
 have ix:cO (aA 4 (au q.sg))=true:=nO _ (dL _)
 have y0:=jL (aC d)
 have y1:=jL (ak (aC d))
 have y2:=jL (ak (ak (aC d)))
 have y3:=jL (ak (ak (ak (aC d))))
 obtain⟨zs,hzs⟩:∃zs,zs=gu s.zs q.lf (aI (aC d)) (aI (ak (aC d))) (aI (ak (ak (aC d)))) (aI (ak (ak (ak (aC d))))):=⟨_,rfl⟩
 have ez:(aH q s n ops m vs d).zs=zs:=(lC q s n ops m vs d).trans hzs.symm
 have hlen:zs.length=31:=by rw[hzs];exact Kk hg.zl _ _ _ _ _
 have get:=j4 hg.zl l0 l1 (aI (aC d)) (aI (ak (aC d))) (aI (ak (ak (aC d)))) (aI (ak (ak (ak (aC d)))))
 rw[←hzs]at get
 have g0:zs.getD (16+n1 q.lf) 0=aI (ak (aC d)):=by rw[get];unfold n1 n2;rw[if_neg (by omega),if_neg (by omega),if_pos rfl]
 have g1:zs.getD (16+n2 q.lf) 0=aI (ak (ak (aC d))):=by rw[get];unfold n2;rw[if_neg (by omega),if_pos rfl]
 have g2:zs.getD 23 0=aI (ak (ak (ak (aC d)))):=by rw[get,if_pos rfl]
 have F3:(aH q s n ops m vs d).ab=fU (aC d):=rfl
 have KF:(aH q s n ops m vs d).lf=q.lf:=rfl
 have yes:∀{k:Nat} {x:List UInt8} {P:Prop},zs.getD k 0=aI x→aL zs k=false→P:=fun e h=>((iZ _) (e.symm.trans ((dZ _ _).1 h))).elim
 refine⟨⟨l0,l1,by rw[ez];exact hlen,hg.al,Xk _ _,hq.inv.gl,nV d,by rw[F3];exact wC _,Yf _ _,Lb _,?_,?_,?_⟩,?_,?_,?_,?_,?_⟩
 ·rw[ez,KF];exact yes g0
 ·rw[ez,KF];exact yes g1
 ·rw[ez];exact yes g2
 ·show dU (q.e+1) (aH q s n ops m vs d).zs s.ad s.k=true
  rw[ez,hzs]
  exact as3 hg hgk l0 l1 hx ix y0 y1 y2 y3 (by omega) (by omega)
 ·show bq (aH q s n ops m vs d).zs q.lf.toNat=[aA 4 (au q.sg),aI (aC d)]
  rw[ez,hzs,nu hg.zl l0 l1 _ _ _ _ (by omega),if_pos rfl]
  have h4:=hx
  rw[gJ (by have:=hg.zl;omega) (by omega)]at h4
  rw[(List.cons.inj h4).1]
 ·intro _;rw[ez,KF,F3,ag7];exact g0
 ·intro _;rw[ez,KF,F3,ag8];exact g1
 ·intro _;rw[ez,F3,ag9];exact g2
end
section
open Pm
section
variable (q : PS) (s : Vw) (n : Nat) (ops : List Int) (m : Nat) (vs : List Int) (d : List UInt8)
theorem NR:(bH q s n ops m vs d).e=q.e:=by dsimp only[bH,iL]
theorem Ir:(bH q s n ops m vs d).fr=q.lf:=by dsimp only[bH,iL]
theorem aK0:(bH q s n ops m vs d).n=n:=by dsimp only[bH,iL]
theorem Xw:(bH q s n ops m vs d).ops=ops:=by dsimp only[bH,iL]
theorem aJ9:(bH q s n ops m vs d).m=m:=by dsimp only[bH,iL]
theorem an5:(bH q s n ops m vs d).vs=vs:=by dsimp only[bH,iL]
theorem an4:(bH q s n ops m vs d).sl=aI (aC d):=by dsimp only[bH,iL]
theorem am9:(bH q s n ops m vs d).p0=aI (ak (aC d)):=by dsimp only[bH,iL]
theorem an0:(bH q s n ops m vs d).p1=aI (ak (ak (aC d))):=by dsimp only[bH,iL]
theorem an1:(bH q s n ops m vs d).p2=aI (ak (ak (ak (aC d)))):=by dsimp only[bH,iL]
theorem aJ8:(bH q s n ops m vs d).k=(aQ s.zs q.lf s.ng).length:=by dsimp only[bH,iL]
theorem am7(j:Nat):(bH q s n ops m vs d).bx j=bK (bA s.zs ((aQ s.zs q.lf s.ng).getD j (0,0)).2) (au (gB d (j:Nat))) (dS (fU (aC d)) ((aQ s.zs q.lf s.ng).getD j (0,0)).1.toNat):=by dsimp only[bH,iL,qO,AP]
theorem Ky:(bH q s n ops m vs d).tag=eB (aH q s n ops m vs d).ep:=by dsimp only[bH]
theorem FR:aT (bH q s n ops m vs d)=aT (iL q s n ops m vs d):=by unfold aT lH l9;dsimp only[bH]
theorem an2:(bH q s n ops m vs d).sE=jo (au q.sg) (aT (iL q s n ops m vs d)++eB (aH q s n ops m vs d).ep):=by dsimp only[bH]
theorem an3:(bH q s n ops m vs d).sS=jQ (au q.sg) (aT (iL q s n ops m vs d)++eB (aH q s n ops m vs d).ep):=by dsimp only[bH]
end
section
variable (q : PS) (s : Vw) (n : Nat) (ops : List Int) (m : Nat) (vs : List Int) (d : List UInt8)
theorem Lm:(aH q s n ops m vs d).ep=mX (bT q d) (aR (aH q s n ops m vs d).e (aH q s n ops m vs d).zs (aH q s n ops m vs d).ad (aH q s n ops m vs d).k (aH q s n ops m vs d).ch):=by
 dsimp only[aH,bC,dG]
theorem Gu:(aH q s n ops m vs d).jK=zY (aH q s n ops m vs d).ep:=by
 dsimp only[aH,bC,dG]
end
theorem Like.dJ{p q:PS}(h:Like p q)(fr:Int)(n:Nat)(ops:List Int):dJ p fr n ops=dJ q fr n ops:=by
 unfold Go.Proofs.YtjhgelfnmhdihaaGreatDoor.dJ;rw[h.e,h.zs,h.ad,h.k]
theorem Like.jW{p q:PS}(h:Like p q)(fr:Int)(n:Nat)(ops:List Int)(m:Nat)(vs:List Int):jW p fr n ops m vs=jW q fr n ops m vs:=by
 unfold Go.Proofs.YtjhgelfnmhdihaaGreatDoor.jW;rw[h.e,h.zs,h.ad,h.k,h.ch]
theorem apE_0{q:PS}{n:Nat}{ops:List Int}{m:Nat}{vs:List Int}(h:bW q n ops m vs=0):jW q q.lf n ops m vs=0:=by
 obtain⟨h1,h2,_⟩:=comE_0 h
 unfold jW
 rw[if_neg (fun x=>x h1)]
 exact h2
theorem aJ0{p q:PS}(hq:Own q)(hl:Like p q)(hne:p.lf≠q.lf)(s:Vw)(n:Nat)(ops:List Int)(m:Nat)(vs:List Int)(d:List UInt8):qb p (bH q s n ops m vs d)=0:=by
 obtain⟨c,hc⟩:∃c,c=bH q s n ops m vs d:=⟨_,rfl⟩
 have e1:c.e=q.e:=by rw[hc,NR]
 have e2:c.fr=q.lf:=by rw[hc,Ir]
 have e3:aT c=aT (iL q s n ops m vs d):=by rw[hc,FR]
 have e4:c.tag=eB (aH q s n ops m vs d).ep:=by rw[hc,Ky]
 have e5:c.sE=jo (au q.sg) (aT (iL q s n ops m vs d)++eB (aH q s n ops m vs d).ep):=by rw[hc,an2]
 have e6:c.sS=jQ (au q.sg) (aT (iL q s n ops m vs d)++eB (aH q s n ops m vs d).ep):=by rw[hc,an3]
 rw[←hc]
 unfold qb
 rw[e1,e2,e3,e4,e5,e6,hl.e,hl.zs,if_neg (fun h=>h rfl),hq.bn,hq.num.1,if_neg (by rintro(h|h);exact hne h.symm;cases h),ah4 _ _ (dL _),if_pos rfl]
theorem Le{zs:List Int}{k:Int}(k0:0≤k)(k1:k<15)(ho:k%2≠0):bA zs k=zs.getD (16+k.toNat) 0:=by
 unfold bA;rw[if_pos ⟨k0,k1⟩,if_neg ho]
theorem ay0{p:PS}(hp:Own p){s:Vw}(hg:Goes p.zs s)(hl:bq s.zs p.lf.toNat=bq p.zs p.lf.toNat)(pp:PS)(e1:pp.lf=p.lf)(e2:pp.sc=p.sc)(e3:pp.ab=p.ab){k:Int}(hu:aJ k p.lf=true)(hk:bA s.zs k≠0):bA s.zs k=aI (lF pp k)∧(lF pp k).length=32:=by
 have l0:=hp.inv.lf0
 have l1:=hp.inv.lf1
 unfold lF
 rw[e1,e2,e3]
 have node:∀(i:Nat) (t:Int),i<3→k=t→0≤t→t<15→t%2≠0→aO p.lf t=i→(aL p.zs (16+t.toNat)=true→p.zs.getD (16+t.toNat) 0=aI (dS p.ab i))→bA s.zs k=aI (if k=2*p.lf then p.sc else dS p.ab (aO p.lf k).toNat)∧(if k=2*p.lf then p.sc else dS p.ab (aO p.lf k).toNat).length=32:=by
  rintro i t hi rfl t0 t1 ho hpl hkey
  rw[Le t0 t1 ho]at hk ⊢
  rw[if_neg (by omega),hpl,Int.toNat_natCast]
  refine⟨?_,fq hp.inv.bl hi⟩
  rcases hg.nd (16+k.toNat) (by omega)with h|h
  ·exact absurd h hk
  ·rw[h]at hk ⊢
   exact hkey ((eU _ _).2 hk)
 rcases qK hu with h|h|h|h
 ·rw[if_pos h]
  refine⟨?_,hp.inv.sl⟩
  have e:k=2*((p.lf.toNat:Nat):Int):=by omega
  rw[e,Aa _ (by omega)]
  have h4:=hl.trans hp.lf
  rw[gJ (by have:=hg.zl;omega) (by omega)]at h4
  exact(List.cons.inj (List.cons.inj h4).2).1
 ·refine node 0 _ (by decide) h (by omega) (by omega) (by omega) ?_ hp.k0
  unfold aO qc;rw[if_pos rfl];rfl
 ·refine node 1 _ (by decide) h (by omega) (by omega) (by omega) ?_ hp.k1
  unfold aO qc;rw[if_neg (by omega),if_pos rfl];rfl
 ·refine node 2 7 (by decide) h (by omega) (by omega) (by omega) ?_ hp.k2
  unfold aO qc;rw[if_neg (by omega),if_neg (by omega),if_pos rfl];rfl
theorem RJ{a b:Int}(a0:0≤a)(a1:a<8)(b0:0≤b)(b1:b<8)(hne:b≠a){k:Nat}(hk:k<3)(h:(kr a).getD k 0=aD a b):(k=0→n1 b=n1 a∧n2 b=n2 a)∧(k=1→n2 b=n2 a∧n1 b≠n1 a)∧(k=2→n2 b≠n2 a∧n1 b≠n1 a):=by
 have la:aG a=true:=by simp[aG,a0,a1]
 have lb:aG b=true:=by simp[aG,b0,b1]
 unfold kr aD at h
 rw[la,lb]at h
 simp only[and_self,if_true]at h
 rw[if_neg (fun e=>hne e.symm)]at h
 unfold n1 n2
 rcases(show k=0∨k=1∨k=2 by omega)with rfl|rfl|rfl
 ·simp only[List.getD_cons_zero]at h
  refine⟨fun _=>?_,fun h=>absurd h (by decide),fun h=>absurd h (by decide)⟩
  split at h
  ·omega
  ·split at h<;>omega
 ·simp only[List.getD_cons_zero,List.getD_cons_succ]at h
  refine⟨fun h=>absurd h (by decide),fun _=>?_,fun h=>absurd h (by decide)⟩
  split at h
  ·omega
  ·split at h<;>omega
 ·simp only[List.getD_cons_zero,List.getD_cons_succ]at h
  refine⟨fun h=>absurd h (by decide),fun h=>absurd h (by decide),fun _=>?_⟩
  split at h
  ·omega
  ·split at h<;>omega
theorem aO1{p q:PS}(hp:Own p)(hq:Own q)(hl:Like p q)(hne:p.lf≠q.lf){n:Nat}{ops:List Int}{m:Nat}{vs:List Int}(hc:bW q n ops m vs=0)(d:List UInt8){s:Vw}(hs:s=dJ q q.lf n ops)(hgn:s.gn.getD p.lf.toNat false=false){c:CS}(hcm:c=bH q s n ops m vs d):
  ∃p2,pF (fK p s c) c (aQ s.zs q.lf s.ng)=(0,vo (aC d),p2)∧jY (fK p s c) p2∧p2.ab.length=96∧
   (∀i,i<3→(dS p2.ab i).length=32)∧
   (fK p s c).zs=gu s.zs q.lf (aI (aC d)) (aI (ak (aC d))) (aI (ak (ak (aC d)))) (aI (ak (ak (ak (aC d)))))∧
   Goes p.zs s∧bq s.zs p.lf.toNat=bq p.zs p.lf.toNat∧
   ((n1 p.lf=n1 q.lf∧dS p2.ab 0=ak (aC d))∨(n1 p.lf≠n1 q.lf∧dS p2.ab 0=if aL s.zs (16+n1 p.lf)=true then dS p.ab 0 else zB 32))∧
   ((n2 p.lf=n2 q.lf∧dS p2.ab 1=ak (ak (aC d)))∨(n2 p.lf≠n2 q.lf∧dS p2.ab 1=if aL s.zs (16+n2 p.lf)=true then dS p.ab 1 else zB 32))∧
   dS p2.ab 2=ak (ak (ak (aC d))):=by
 obtain⟨h1,h2,h3⟩:=comE_0 hc
 obtain⟨g,gk,gm,_⟩:=vJ hq.inv.zl hq.inv.al h2
 have hg:Goes p.zs s:=by rw[hl.zs,hs];exact g
 have p0:=hp.inv.lf0
 have p1:=hp.inv.lf1
 have q0:=hq.inv.lf0
 have q1:=hq.inv.lf1
 have hkp:Keep p.zs p.lf.toNat s:=by
  have:=IX (j:=p.lf.toNat) hq.inv.zl (by omega) (by rw[←hl.zs];exact hp.mem) h2
  rw[hl.zs,hs];exact this
 obtain⟨hm,hlf,pI⟩:dF s.zs p.lf.toNat=true∧bq s.zs p.lf.toNat=bq p.zs p.lf.toNat∧s.ng.getD p.lf.toNat false=false:=by
  rcases hkp.or with h|h
  ·rw[hgn]at h;cases h
  ·exact h
 have ei:((p.lf.toNat:Nat):Int)=p.lf:=by omega
 have ej:((q.lf.toNat:Nat):Int)=q.lf:=by omega
 obtain⟨l,hL⟩:∃l,l=aQ s.zs q.lf s.ng:=⟨_,rfl⟩
 have hL3:l=bB s.zs s.ng q.lf 3:=by rw[hL];unfold aQ;rw[if_pos (by simp[aG,q0,q1])]
 have hne2:p.lf.toNat≠q.lf.toNat:=by omega
 have hsl:s.zs.getD (p.lf.toNat*2+1) 0≠0:=by
  have h4:=hlf.trans hp.lf
  rw[gJ (by have:=hg.zl;omega) (by omega)]at h4
  rw[(List.cons.inj (List.cons.inj h4).2).1]
  exact iZ _
 have hcount:=(Jr s.zs s.ng (x:=q.lf.toNat) (i:=p.lf.toNat) (by omega) (by omega) hne2).2 pI hsl
 rw[ej,←hL3]at hcount
 have hex:∃r∈l,aJ r.2 p.lf=true:=by
  unfold Wt at hcount
  obtain⟨r,hr,hr2⟩:=List.countP_pos_iff.1 (by rw[hcount];decide:0<l.countP fun p_1=>aJ p_1.2 ((p.lf.toNat:Nat):Int))
  exact⟨r,hr,by rw[ei]at hr2;exact hr2⟩
 obtain⟨f1,f2,f3⟩:=Qw hex
 have hat:=Aj s.zs s.ng (x:=q.lf.toNat) (i:=p.lf.toNat) (by omega) (by omega) hne2 3 (Nat.le_refl _) (l.getD (dD l p.lf) (0,0)) (by rw[ej,←hL3];exact f3)
 rw[ei,ej]at hat
 obtain⟨⟨r0,r1⟩,DR⟩:=hat
 have Rx:bA s.zs (l.getD (dD l p.lf) (0,0)).2≠0:=uV (bt:=s.ng) (x:=q.lf) 3 _ (by rw[←hL3];exact f3)
 have YR:c.bx (dD l p.lf)=bK (bA s.zs (l.getD (dD l p.lf) (0,0)).2) (au (gB d (dD l p.lf:Nat))) (dS (fU (aC d)) (l.getD (dD l p.lf) (0,0)).1.toNat):=by
  rw[hcm,hL,am7]
 have ck:c.k=l.length:=by rw[hcm,hL,aJ8]
 have cfr:c.fr=q.lf:=by rw[hcm,Ir]
 have csl:c.sl=aI (aC d):=by rw[hcm,an4]
 have cp0:c.p0=aI (ak (aC d)):=by rw[hcm,am9]
 have cp1:c.p1=aI (ak (ak (aC d))):=by rw[hcm,an0]
 have cp2:c.p2=aI (ak (ak (ak (aC d)))):=by rw[hcm,an1]
 have hkeys:lZ c=true:=by unfold lZ;rw[csl,cp0,cp1,cp2,jL,jL,jL,jL];rfl
 obtain⟨pp,hpp⟩:∃pp,pp=fK p s c:=⟨_,rfl⟩
 have ppl:pp.lf=p.lf:=by rw[hpp];dsimp only[fK]
 have pps:pp.sc=p.sc:=by rw[hpp];dsimp only[fK]
 have ppa:pp.ab=p.ab:=by rw[hpp];dsimp only[fK]
 have ppz:pp.zs=gu s.zs q.lf (aI (aC d)) (aI (ak (aC d))) (aI (ak (ak (aC d)))) (aI (ak (ak (ak (aC d))))):=by
  have:pp.zs=gu s.zs c.fr c.sl c.p0 c.p1 c.p2:=by rw[hpp];dsimp only[fK]
  rw[this,cfr,csl,cp0,cp1,cp2]
 rw[←hpp,←hL]
 clear hcm hL hpp hcount hex f3 hL3
 obtain⟨i,hi⟩:∃i,dD l p.lf=i:=⟨_,rfl⟩
 rw[hi]at f1 f2 DR Rx YR r0 r1
 obtain⟨rk,rn,hr⟩:∃rk rn,l.getD i (0,0)=(rk,rn):=⟨_,_,rfl⟩
 rw[hr]at f2 DR Rx YR r0 r1
 simp only at f2 DR Rx YR r0 r1
 obtain⟨k,hk⟩:=Int.eq_ofNat_of_zero_le r0
 have hk3:k<3:=by omega
 have ek:rk.toNat=k:=by omega
 rw[ek]at DR YR
 obtain⟨u0,u1,u2⟩:=RJ q0 q1 p0 p1 hne hk3 (DR f2)
 obtain⟨s1,s2⟩:=ay0 hp hg hlf pp ppl pps ppa f2 Rx
 obtain⟨b1,b2,b3⟩:=Ko (av (lF pp rn)) (gB d (i:Nat)) (dS (fU (aC d)) k) (by rw[fq (wC _) hk3];decide)
 have hb:c.bx i=bK (aA 4 (au (av (lF pp rn)))) (au (gB d (i:Nat))) (dS (fU (aC d)) k):=by rw[YR,s1];rfl
 rw[←hb]at b1 b2 b3
 have bB0:qV (lF pp rn) (c.bx i)=0:=by
  unfold qV
  rw[if_neg (fun x=>x b1),b3,fq (wC _) hk3,if_neg (by decide)]
 have hbl:pp.ab.length=96:=by rw[ppa];exact hp.inv.bl
 obtain⟨w1,w2,w3,w4⟩:=zX hbl hk3
 have get:=j4 hg.zl q0 q1 (aI (aC d)) (aI (ak (aC d))) (aI (ak (ak (aC d)))) (aI (ak (ak (ak (aC d)))))
 rw[←ppz]at get
 have z2:pp.zs.getD 23 0=aI (ak (ak (ak (aC d)))):=by rw[get,if_pos rfl]
 have z1:n2 p.lf=n2 q.lf→pp.zs.getD (16+n2 p.lf) 0=aI (ak (ak (aC d))):=fun e=>by rw[get,e];unfold n2;rw[if_neg (by omega),if_pos rfl]
 have z0:n1 p.lf=n1 q.lf→pp.zs.getD (16+n1 p.lf) 0=aI (ak (aC d)):=fun e=>by rw[get,e];unfold n1 n2;rw[if_neg (by omega),if_neg (by omega),if_pos rfl]
 have y1:n2 p.lf≠n2 q.lf→aL pp.zs (16+n2 p.lf)=aL s.zs (16+n2 p.lf):=fun e=>by
  unfold aL;rw[get];unfold n1 n2 at*;rw[if_neg (by omega),if_neg (by omega),if_neg (by omega),if_neg (by omega)]
 have y0:n1 p.lf≠n1 q.lf→aL pp.zs (16+n1 p.lf)=aL s.zs (16+n1 p.lf):=fun e=>by
  unfold aL;rw[get];unfold n1 n2 at*;rw[if_neg (by omega),if_neg (by omega),if_neg (by omega),if_neg (by omega)]
 have hhl:(dS (fU (aC d)) k).length=32:=fq (wC _) hk3
 have hup:dS (fU (aC d)) k=(if k=0 then ak (aC d)else if k=1 then ak (ak (aC d))else ak (ak (ak (aC d)))):=by
  rcases(show k=0∨k=1∨k=2 by omega)with rfl|rfl|rfl
  ·exact ag7 _
  ·exact ag8 _
  ·exact ag9 _
 have flf:(gX pp k).lf=p.lf:=w1.lf.trans ppl
 obtain⟨t1,t2,t3,t4,t5,t6,t7⟩:=jg (p:=gX pp k) w2 hhl hk3 (fun e=>by rw[w1.zs,flf,z0 (u0 e).1,hup,if_pos e]) (fun e=>by
   rw[w1.zs,flf,hup]
   rcases(show k=0∨k=1 by omega)with rfl|rfl
   ·rw[z1 (u0 rfl).2];rfl
   ·rw[z1 (u1 rfl).1];rfl) (by
   rw[w1.zs,z2,hup]
   rcases(show k=0∨k=1∨k=2 by omega)with rfl|rfl|rfl<;>rfl)
 have bz9:pF pp c l=(0,(aW (gX pp k) (dS (fU (aC d)) k) k).2):=by
  unfold pF
  rw[ppl,hi,hr]
  show(if lZ c=false∨c.k≠l.length∨i=l.length then _ else if qV (lF pp rn) (c.bx i)≠0 then _ else if(aW (gX pp rk.toNat) (bg (au (av (lF pp rn))) (c.bx i)) rk.toNat).1=true then _ else _)=_
  rw[if_neg (by rw[hkeys];rintro(h|h|h);cases h;exact h ck;omega),bB0,if_neg (fun x=>x rfl),ek,b2,if_pos t1]
 have ht:(aW (gX pp k) (dS (fU (aC d)) k) k).2.1=vo (aC d):=by
  rw[t2,hup]
  rcases(show k=0∨k=1∨k=2 by omega)with rfl|rfl|rfl<;>rfl
 refine⟨(aW (gX pp k) (dS (fU (aC d)) k) k).2.2,bz9.trans (Prod.ext rfl (Prod.ext ht rfl)),w1.trans t3,t4,fun i hi=>fq t4 hi,ppz,hg,hlf,?_,?_,?_⟩
 ·rw[t5,hup]
  rcases(show k=0∨k=1∨k=2 by omega)with rfl|rfl|rfl
  ·exact .inl ⟨(u0 rfl).1,rfl⟩
  ·refine .inr ⟨(u1 rfl).2,?_⟩
   rw[if_neg (by decide),w3 (by decide),ppl,y0 (u1 rfl).2,ppa]
  ·refine .inr ⟨(u2 rfl).2,?_⟩
   rw[if_neg (by decide),w3 (by decide),ppl,y0 (u2 rfl).2,ppa]
 ·rw[t6,hup]
  rcases(show k=0∨k=1∨k=2 by omega)with rfl|rfl|rfl
  ·exact .inl ⟨(u0 rfl).2,rfl⟩
  ·exact .inl ⟨(u1 rfl).1,rfl⟩
  ·refine .inr ⟨(u2 rfl).1,?_⟩
   rw[if_neg (by decide),if_neg (by decide),w4 (by decide),ppl,y1 (u2 rfl).1,ppa]
 ·rw[t7,hup]
  rcases(show k=0∨k=1∨k=2 by omega)with rfl|rfl|rfl<;>rfl
theorem zm{p q:PS}(hp:Own p)(hq:Own q)(hl:Like p q)(hne:p.lf≠q.lf){n:Nat}{ops:List Int}{m:Nat}{vs:List Int}(hc:bW q n ops m vs=0)(d:List UInt8){s:Vw}(hs:s=dJ q q.lf n ops):
  (s.gn.getD p.lf.toNat false=true→eF p (bH q s n ops m vs d)=(0,none))∧
  (s.gn.getD p.lf.toNat false=false→∃p',eF p (bH q s n ops m vs d)=(0,some p')∧Own p'∧Like p' (aH q s n ops m vs d)∧p'.lf=p.lf∧p'.sg=p.sg):=by
 have hacc:=aJ0 hq hl hne s n ops m vs d
 obtain⟨h1,h2,h3⟩:=comE_0 hc
 have hap:jW p q.lf n ops m vs=0:=(hl.jW _ _ _ _ _).trans (apE_0 hc)
 have hdo:dJ p q.lf n ops=s:=(hl.dJ _ _ _).trans hs.symm
 obtain⟨c,hcm⟩:∃c,c=bH q s n ops m vs d:=⟨_,rfl⟩
 have c1:c.fr=q.lf:=by rw[hcm,Ir]
 have c2:c.n=n:=by rw[hcm,aK0]
 have c3:c.ops=ops:=by rw[hcm,Xw]
 have c4:c.m=m:=by rw[hcm,aJ9]
 have c5:c.vs=vs:=by rw[hcm,an5]
 have c6:c.tag=eB (aH q s n ops m vs d).ep:=by rw[hcm,Ky]
 have c7:aT c=aT (iL q s n ops m vs d):=by rw[hcm,FR]
 rw[←hcm]at hacc ⊢
 refine⟨fun hgn=>?_,fun hgn=>?_⟩
 ·unfold eF
  rw[if_neg (fun x=>x hacc),c1,c2,c3,c4,c5,hap,if_neg (fun x=>x rfl),hdo,if_pos hgn]
 obtain⟨p2,f1,f2,f3,f4,f5,f6,f7,f8,f9,f10⟩:=aO1 hp hq hl hne hc d hs hgn hcm
 obtain⟨g,gk,gm,_⟩:=vJ hq.inv.zl hq.inv.al h2
 have hgk:s.k≤((jh s.ad:Nat):Int):=by rw[hs];exact gk
 have hst:CF q.zs q.lf.toNat s:=by
  have e:((q.lf.toNat:Nat):Int)=q.lf:=by have:=hq.inv.lf0;omega
  have h2':=h2
  rw[←e]at h2'
  have:=(wu hq.inv.zl hq.inv.al h2').2
  rw[e]at this
  rw[hs];exact this
 have p0:=hp.inv.lf0
 have p1:=hp.inv.lf1
 have q0:=hq.inv.lf0
 have q1:=hq.inv.lf1
 obtain⟨e0,_⟩:=nA.1 gm
 obtain⟨p',hp'⟩:∃p',p'=bC p2 (lg p.jK (vo (aC d))):=⟨_,rfl⟩
 obtain⟨q',hq'⟩:∃q',q'=aH q s n ops m vs d:=⟨_,rfl⟩
 have iU:Like p' q':=by
  have a1:p'.e=q'.e:=by
   rw[hp',hq'];show p2.e=q.e+1;rw[f2.e];show p.e+1=_;rw[hl.e]
  have a2:p'.zs=q'.zs:=by
   rw[hp',hq',lC];exact f2.zs.trans f5
  have a3:p'.ad=q'.ad:=by
   rw[hp',hq'];show p2.ad=s.ad;rw[f2.ad];rfl
  have a4:p'.k=q'.k:=by
   rw[hp',hq'];show p2.k=s.k;rw[f2.k];rfl
  have a5:p'.ch=q'.ch:=by
   rw[hp',hq'];show p2.ch=uh q.ch (aT (iL q s n ops m vs d));rw[f2.ch,←c7,←hl.ch];rfl
  have a6:p'.ep=q'.ep:=by
   have b1:p'.ep=mX (lg p.jK (vo (aC d))) (aR p'.e p'.zs p'.ad p'.k p'.ch):=by rw[hp'];rfl
   have b2:q'.ep=mX (bT q d) (aR q'.e q'.zs q'.ad q'.k q'.ch):=by rw[hq'];exact Lm q s n ops m vs d
   rw[b1,b2,a1,a2,a3,a4,a5,hl.jK];dsimp only[bT]
  have a7:p'.jK=q'.jK:=by
   have b1:p'.jK=zY p'.ep:=by rw[hp'];rfl
   have b2:q'.jK=zY q'.ep:=by rw[hq'];exact Gu q s n ops m vs d
   rw[b1,b2,a6]
  exact⟨a1,a2,a3,a4,a5,a6,a7⟩
 have hown':=yE hq hc d
 rw[←hs,←hq']at hown'
 have KF:p'.lf=p.lf:=by rw[hp'];exact f2.lf
 have esg:p'.sg=p.sg:=by rw[hp'];exact f2.sg
 have esc:p'.sc=p.sc:=by rw[hp'];exact f2.sc
 have F3:p'.ab=p2.ab:=by rw[hp'];rfl
 have ezs:p'.zs=gu s.zs q.lf (aI (aC d)) (aI (ak (aC d))) (aI (ak (ak (aC d)))) (aI (ak (ak (ak (aC d))))):=by rw[hp'];exact f2.zs.trans f5
 have get:=j4 f6.zl q0 q1 (aI (aC d)) (aI (ak (aC d))) (aI (ak (ak (aC d)))) (aI (ak (ak (ak (aC d)))))
 rw[←ezs]at get
 have z2:p'.zs.getD 23 0=aI (ak (ak (ak (aC d)))):=by rw[get,if_pos rfl]
 have z1:n2 p.lf=n2 q.lf→p'.zs.getD (16+n2 p.lf) 0=aI (ak (ak (aC d))):=fun e=>by rw[get,e];unfold n2;rw[if_neg (by omega),if_pos rfl]
 have z0:n1 p.lf=n1 q.lf→p'.zs.getD (16+n1 p.lf) 0=aI (ak (aC d)):=fun e=>by rw[get,e];unfold n1 n2;rw[if_neg (by omega),if_neg (by omega),if_pos rfl]
 have y1:n2 p.lf≠n2 q.lf→p'.zs.getD (16+n2 p.lf) 0=s.zs.getD (16+n2 p.lf) 0:=fun e=>by
  rw[get];unfold n1 n2 at*;rw[if_neg (by omega),if_neg (by omega),if_neg (by omega),if_neg (by omega)]
 have y0:n1 p.lf≠n1 q.lf→p'.zs.getD (16+n1 p.lf) 0=s.zs.getD (16+n1 p.lf) 0:=fun e=>by
  rw[get];unfold n1 n2 at*;rw[if_neg (by omega),if_neg (by omega),if_neg (by omega),if_neg (by omega)]
 have kept:∀k,16≤k→s.zs.getD k 0≠0→s.zs.getD k 0=p.zs.getD k 0:=fun k hk hz=>(f6.nd k hk).resolve_left hz
 refine⟨p',?_,⟨⟨by rw[KF];exact p0,by rw[KF];exact p1,by rw[iU.zs];exact hown'.inv.zl,by rw[iU.ad];exact hown'.inv.al,by rw[iU.ch];exact hown'.inv.cl,by rw[esg];exact hp.inv.gl,by rw[esc];exact hp.inv.sl,by rw[F3];exact f3,by rw[iU.ep];exact hown'.inv.el,by rw[iU.jK];exact hown'.inv.il,?_,?_,?_⟩,?_,?_,?_,?_,?_⟩,hq'▸iU,KF,esg⟩
 ·unfold eF
  rw[if_neg (fun x=>x hacc),c1,c2,c3,c4,c5,hap,if_neg (fun x=>x rfl),hdo,hgn,if_neg (by decide),hl.e,if_neg (by omega),f1]
  show(if(0:Int)≠0 then _ else if eB (bC p2 (lg p.jK (vo (aC d)))).ep=c.tag then(0,some (bC p2 (lg p.jK (vo (aC d)))))else _)=_
  rw[if_neg (fun x=>x rfl),←hp',if_pos (by rw[c6,←hq',iU.ep])]
 ·rw[KF,F3]
  intro h
  rcases f8 with⟨a,b⟩|⟨a,b⟩
  ·exact(iZ _ ((z0 a).symm.trans ((dZ _ _).1 h))).elim
  ·rw[b,if_neg (by rw[show aL s.zs (16+n1 p.lf)=false from(dZ _ _).2 ((y0 a).symm.trans ((dZ _ _).1 h))];decide)]
 ·rw[KF,F3]
  intro h
  rcases f9 with⟨a,b⟩|⟨a,b⟩
  ·exact(iZ _ ((z1 a).symm.trans ((dZ _ _).1 h))).elim
  ·rw[b,if_neg (by rw[show aL s.zs (16+n2 p.lf)=false from(dZ _ _).2 ((y1 a).symm.trans ((dZ _ _).1 h))];decide)]
 ·intro h
  exact(iZ _ (z2.symm.trans ((dZ _ _).1 h))).elim
 ·rw[iU.e,iU.zs,iU.ad,iU.k];exact hown'.may
 ·rw[KF,esg,esc,ezs,nu f6.zl q0 q1 _ _ _ _ (by omega),if_neg (by omega),f7]
  exact hp.lf
 ·rw[KF,F3]
  intro h
  rcases f8 with⟨a,b⟩|⟨a,b⟩
  ·rw[z0 a,b]
  ·have h4:=(eU _ _).1 h
   rw[y0 a]at h4 ⊢
   rw[b,if_pos ((eU _ _).2 h4),kept _ (by omega) h4]
   exact hp.k0 ((eU _ _).2 (by rw[←kept _ (by omega) h4];exact h4))
 ·rw[KF,F3]
  intro h
  rcases f9 with⟨a,b⟩|⟨a,b⟩
  ·rw[z1 a,b]
  ·have h4:=(eU _ _).1 h
   rw[y1 a]at h4 ⊢
   rw[b,if_pos ((eU _ _).2 h4),kept _ (by omega) h4]
   exact hp.k1 ((eU _ _).2 (by rw[←kept _ (by omega) h4];exact h4))
 ·rw[F3,f10]
  intro _
  exact z2
end
section
open Pm
structure Wc where
 lf:Int
 fr:Int
 e:Int
 zs:List Int
 ad:List Bool
 k:Int
 ch:List UInt8
 bx:List UInt8
 tg:List UInt8
abbrev jH(w:Wc):List Seg:=[.ints .i64 2 [w.lf,w.fr],.ints .i64 1 [w.e],.ints .i64 31 w.zs,.bools 8 w.ad,.ints .i64 1 [w.k],.bytes 32 w.ch,.gen 1 [.row w.bx.length [.bytes w.bx.length w.bx]],.bytes 32 w.tg]
def jB(w:Wc):Int:=aO w.lf (aD w.fr w.lf)
def oC(w:Wc):Bool:=(decide (jB w<1)|| !aL w.zs (16+n1 w.lf))&&(decide (jB w<2)|| !aL w.zs (16+n2 w.lf))
def ji(h:List UInt8)(w:Wc):Bool:=dU w.e w.zs w.ad w.k&&(aG w.lf&&(decide (w.lf≠w.fr)&&(decide (bq w.zs w.lf.toNat=eT h)&&(bn w.zs w.fr&&oC w))))
def jF(h:List UInt8)(w:Wc):PS:=⟨w.e,w.zs,w.ad,w.k,w.ch,w.lf,jm h,aC h,zB 96,zB 32,zB 32⟩
def fE(h:List UInt8)(w:Wc):Int×Option PS:=
 if ji h w=false then(10,none)
 else if bJ (au (av (aC h))) w.bx≠0 then(3,none)
 else if w.bx.length-12≠64 then(10,none)
 else if(aW (jF h w) ((bg (au (av (aC h))) w.bx).drop 32) (jB w).toNat).1=true then
  (if eB (bC (aW (jF h w) ((bg (au (av (aC h))) w.bx).drop 32) (jB w).toNat).2.2 ((bg (au (av (aC h))) w.bx).take 32)).ep=w.tg
   then(0,some (bC (aW (jF h w) ((bg (au (av (aC h))) w.bx).drop 32) (jB w).toNat).2.2 ((bg (au (av (aC h))) w.bx).take 32)))
   else(11,none))
 else(10,none)
def nZ(q:PS)(ab joint tag draw:List UInt8)(j:Nat):Wc:=⟨j,q.lf,q.e,q.zs,q.ad,q.k,q.ch,nK q ab joint draw j,tag⟩
def aG1(a b k:Nat):Bool:=decide (aO (a:Int) (aD (b:Int) (a:Int))=(k:Int))&&decide (aO (b:Int) (aD (a:Int) (b:Int))=(k:Int))&&
 (if k=0 then decide (n1 (b:Int)=n1 (a:Int))&&decide (n2 (b:Int)=n2 (a:Int))else if k=1 then decide (n2 (b:Int)=n2 (a:Int))&&decide (n1 (b:Int)≠n1 (a:Int))else decide (n2 (b:Int)≠n2 (a:Int))&&decide (n1 (b:Int)≠n1 (a:Int)))
theorem aQ1:((List.range 8).all fun a=>(List.range 8).all fun b=>a==b||((List.range 3).any fun k=>aG1 a b k))=true:=by decide+kernel
theorem meets{a b:Int}(a0:0≤a)(a1:a<8)(b0:0≤b)(b1:b<8)(hne:a≠b):∃k:Nat,k<3∧aO a (aD b a)=k∧aO b (aD a b)=k∧
  (k=0→n1 b=n1 a∧n2 b=n2 a)∧(k=1→n2 b=n2 a∧n1 b≠n1 a)∧(k=2→n2 b≠n2 a∧n1 b≠n1 a):=by
 obtain⟨i,rfl⟩:=Int.eq_ofNat_of_zero_le a0
 obtain⟨j,rfl⟩:=Int.eq_ofNat_of_zero_le b0
 have h:=List.all_eq_true.1 (List.all_eq_true.1 aQ1 i (List.mem_range.2 (by omega))) j (List.mem_range.2 (by omega))
 have hij:(i==j)=false:=by simp;omega
 rw[hij,Bool.false_or,List.any_eq_true]at h
 obtain⟨k,hk,h⟩:=h
 have hk:=List.mem_range.1 hk
 unfold aG1 at h
 rw[Bool.and_eq_true,Bool.and_eq_true,decide_eq_true_eq,decide_eq_true_eq]at h
 obtain⟨⟨h1,h2⟩,h3⟩:=h
 refine⟨k,hk,h1,h2,fun e=>?_,fun e=>?_,fun e=>?_⟩
 ·rw[if_pos e,Bool.and_eq_true,decide_eq_true_eq,decide_eq_true_eq]at h3;exact h3
 ·rw[if_neg (by omega),if_pos e,Bool.and_eq_true,decide_eq_true_eq,decide_eq_true_eq]at h3;exact h3
 ·rw[if_neg (by omega),if_neg (by omega),Bool.and_eq_true,decide_eq_true_eq,decide_eq_true_eq]at h3;exact h3
theorem Cg{q:PS}(hq:Own q){n:Nat}{ops:List Int}{m:Nat}{vs:List Int}(hc:bW q n ops m vs=0)(d:List UInt8){s:Vw}(hs:s=dJ q q.lf n ops){q':PS}(hq':q'=aH q s n ops m vs d){j:Nat}(hj:j<8)(pI:s.ng.getD j false=true){h:List UInt8}(hh:bq q'.zs j=eT h):
  ∃p',fE h (nZ q' (fU (aC d)) (bT q d) (eB q'.ep) d j)=(0,some p')∧Own p'∧Like p' q'∧p'.lf=j∧p'.sg=jm h:=by
 obtain⟨h1,h2,h3⟩:=comE_0 hc
 obtain⟨g,gk,gm,_⟩:=vJ hq.inv.zl hq.inv.al h2
 have hg:Goes q.zs s:=by rw[hs];exact g
 have hst:CF q.zs q.lf.toNat s:=by
  have e:((q.lf.toNat:Nat):Int)=q.lf:=by have:=hq.inv.lf0;omega
  have h2':=h2
  rw[←e]at h2'
  have:=(wu hq.inv.zl hq.inv.al h2').2
  rw[e]at this
  rw[hs];exact this
 have hown:=yE hq hc d
 rw[←hs,←hq']at hown
 have q0:=hq.inv.lf0
 have q1:=hq.inv.lf1
 have hne:(j:Int)≠q.lf:=fun e=>by
  have:q.lf.toNat=j:=by omega
  rw[←this,hst.ng]at pI
  cases pI
 have KF:q'.lf=q.lf:=by rw[hq'];dsimp only[aH,bC,dG,fK,gN]
 have ezs:q'.zs=gu s.zs q.lf (aI (aC d)) (aI (ak (aC d))) (aI (ak (ak (aC d)))) (aI (ak (ak (ak (aC d))))):=by rw[hq'];exact lC q s n ops m vs d
 have eep:q'.ep=mX (bT q d) (aR q'.e q'.zs q'.ad q'.k q'.ch):=by rw[hq'];exact Lm q s n ops m vs d
 have ein:q'.jK=zY q'.ep:=by rw[hq'];exact Gu q s n ops m vs d
 obtain⟨m1,m2,m3,m4⟩:=hg.new j hj pI
 obtain⟨k,hk3,k1,k2,u0,u1,u2⟩:=meets (a:=(j:Int)) (b:=q.lf) (by omega) (by omega) q0 q1 hne
 have get:=j4 hg.zl q0 q1 (aI (aC d)) (aI (ak (aC d))) (aI (ak (ak (aC d)))) (aI (ak (ak (ak (aC d)))))
 rw[←ezs]at get
 have z2:q'.zs.getD 23 0=aI (ak (ak (ak (aC d)))):=by rw[get,if_pos rfl]
 have z1:n2 (j:Int)=n2 q.lf→q'.zs.getD (16+n2 (j:Int)) 0=aI (ak (ak (aC d))):=fun e=>by rw[get,e];unfold n2;rw[if_neg (by omega),if_pos rfl]
 have z0:n1 (j:Int)=n1 q.lf→q'.zs.getD (16+n1 (j:Int)) 0=aI (ak (aC d)):=fun e=>by rw[get,e];unfold n1 n2;rw[if_neg (by omega),if_neg (by omega),if_pos rfl]
 have y1:n2 (j:Int)≠n2 q.lf→q'.zs.getD (16+n2 (j:Int)) 0=0:=fun e=>by
  rw[get];unfold n1 n2 at*;rw[if_neg (by omega),if_neg (by omega),if_neg (by omega),if_neg (by omega)];exact m3
 have y0:n1 (j:Int)≠n1 q.lf→q'.zs.getD (16+n1 (j:Int)) 0=0:=fun e=>by
  rw[get];unfold n1 n2 at*;rw[if_neg (by omega),if_neg (by omega),if_neg (by omega),if_neg (by omega)];exact m2
 have hup:dS (fU (aC d)) k=(if k=0 then ak (aC d)else if k=1 then ak (ak (aC d))else ak (ak (ak (aC d)))):=by
  rcases(show k=0∨k=1∨k=2 by omega)with rfl|rfl|rfl
  ·exact ag7 _
  ·exact ag8 _
  ·exact ag9 _
 have hjl:(bT q d).length=32:=Ld _ _
 have hul:(dS (fU (aC d)) k).length=32:=fq (wC _) hk3
 have DN:q'.zs.getD (j*2+1) 0=aA 4 (au (av (aC h))):=by
  have h4:=hh
  rw[gJ (by have:=hown.inv.zl;omega) hj]at h4
  exact(List.cons.inj (List.cons.inj h4).2).1
 obtain⟨w,hw⟩:∃w,w=nZ q' (fU (aC d)) (bT q d) (eB q'.ep) d j:=⟨_,rfl⟩
 have wl:w.lf=(j:Int):=by rw[hw];dsimp only[nZ]
 have wf:w.fr=q.lf:=by rw[hw];dsimp only[nZ];exact KF
 have we:w.e=q'.e:=by rw[hw];dsimp only[nZ]
 have wz:w.zs=q'.zs:=by rw[hw];dsimp only[nZ]
 have wa:w.ad=q'.ad:=by rw[hw];dsimp only[nZ]
 have wk:w.k=q'.k:=by rw[hw];dsimp only[nZ]
 have wc:w.ch=q'.ch:=by rw[hw];dsimp only[nZ]
 have wt:w.tg=eB q'.ep:=by rw[hw];dsimp only[nZ]
 have wb:w.bx=bK (aA 4 (au (av (aC h)))) (au (iC d (j:Nat))) (bT q d++dS (fU (aC d)) k):=by
  have:w.bx=bK (q'.zs.getD (j*2+1) 0) (au (iC d (j:Nat))) (bT q d++dS (fU (aC d)) (aO q'.lf (aD (j:Nat) q'.lf)).toNat):=by rw[hw];dsimp only[nZ,nK]
  rw[this,DN,KF,k2,Int.toNat_natCast]
 rw[←hw]
 have hpl:jB w=k:=by unfold jB;rw[wl,wf];exact k1
 have hfits:ji h w=true:=by
  unfold ji oC
  have e1:dU w.e w.zs w.ad w.k=true:=by rw[we,wz,wa,wk];exact hown.may
  have e2:aG w.lf=true:=by rw[wl];simp[aG];omega
  have e3:w.lf≠w.fr:=by rw[wl,wf];exact hne
  have e4:bq w.zs w.lf.toNat=eT h:=by rw[wz,wl,Int.toNat_natCast];exact hh
  have e5:bn w.zs w.fr=true:=by rw[wz,wf,←KF];exact hown.bn
  have e6:(decide (jB w<1)|| !aL w.zs (16+n1 w.lf))=true:=by
   rw[hpl,wz,wl]
   rcases(show k=0∨k=1∨k=2 by omega)with rfl|rfl|rfl
   ·rfl
   ·rw[(dZ _ _).2 (y0 fun e=>(u1 rfl).2 e.symm)];rfl
   ·rw[(dZ _ _).2 (y0 fun e=>(u2 rfl).2 e.symm)];rfl
  have e7:(decide (jB w<2)|| !aL w.zs (16+n2 w.lf))=true:=by
   rw[hpl,wz,wl]
   rcases(show k=0∨k=1∨k=2 by omega)with rfl|rfl|rfl
   ·rfl
   ·rfl
   ·rw[(dZ _ _).2 (y1 fun e=>(u2 rfl).1 e.symm)];rfl
  rw[e1,e2,decide_eq_true e3,decide_eq_true e4,e5,e6,e7];rfl
 obtain⟨b1,b2,b3⟩:=Ko (av (aC h)) (iC d (j:Nat)) (bT q d++dS (fU (aC d)) k) (by rw[List.length_append,hjl,hul];decide)
 rw[←wb]at b1 b2 b3
 have bz1:(zB 96).length=96:=by simp
 have az:∀i,i<3→dS (zB 96) i=zB 32:=fun i hi=>by
  unfold dS
  rw[List.drop_replicate,List.take_replicate,show min 32 (96-i*32)=32 by omega]
 have ea:(jF h w).ab=zB 96:=rfl
 have el:(jF h w).lf=(j:Int):=wl
 have ez:(jF h w).zs=q'.zs:=wz
 obtain⟨t1,t2,t3,t4,t5,t6,t7⟩:=jg (p:=jF h w) bz1 hul hk3 (fun e=>by rw[ez,el,z0 (u0 e).1.symm,hup,if_pos e]) (fun e=>by
   rw[ez,el,hup]
   rcases(show k=0∨k=1 by omega)with rfl|rfl
   ·rw[z1 (u0 rfl).2.symm];rfl
   ·rw[z1 (u1 rfl).1.symm];rfl) (by
   rw[ez,z2,hup]
   rcases(show k=0∨k=1∨k=2 by omega)with rfl|rfl|rfl<;>rfl)
 obtain⟨p2,hp2⟩:∃p2,p2=(aW (jF h w) (dS (fU (aC d)) k) k).2.2:=⟨_,rfl⟩
 rw[←hp2]at t3 t4 t5 t6 t7
 obtain⟨p',hp'⟩:∃p',p'=bC p2 (bT q d):=⟨_,rfl⟩
 have iU:Like p' q':=by
  have a1:p'.e=q'.e:=by rw[hp'];exact t3.e.trans we
  have a2:p'.zs=q'.zs:=by rw[hp'];exact t3.zs.trans wz
  have a3:p'.ad=q'.ad:=by rw[hp'];exact t3.ad.trans wa
  have a4:p'.k=q'.k:=by rw[hp'];exact t3.k.trans wk
  have a5:p'.ch=q'.ch:=by rw[hp'];exact t3.ch.trans wc
  have a6:p'.ep=q'.ep:=by
   have b1:p'.ep=mX (bT q d) (aR p'.e p'.zs p'.ad p'.k p'.ch):=by rw[hp'];rfl
   rw[b1,eep,a1,a2,a3,a4,a5]
  have a7:p'.jK=q'.jK:=by
   have b1:p'.jK=zY p'.ep:=by rw[hp'];rfl
   rw[b1,ein,a6]
  exact⟨a1,a2,a3,a4,a5,a6,a7⟩
 have KG:p'.lf=(j:Int):=by rw[hp'];exact t3.lf.trans wl
 have esg:p'.sg=jm h:=by rw[hp'];exact t3.sg
 have esc:p'.sc=aC h:=by rw[hp'];exact t3.sc
 have F3:p'.ab=p2.ab:=by rw[hp'];rfl
 rw[ea,az 0 (by decide),hup]at t5
 rw[ea,az 1 (by decide),hup]at t6
 rw[hup]at t7
 refine⟨p',?_,⟨⟨by rw[KG];omega,by rw[KG];omega,by rw[iU.zs];exact hown.inv.zl,by rw[iU.ad];exact hown.inv.al,by rw[iU.ch];exact hown.inv.cl,by rw[esg];exact MJ h,by rw[esc];exact nV h,by rw[F3];exact t4,by rw[iU.ep];exact hown.inv.el,by rw[iU.jK];exact hown.inv.il,?_,?_,?_⟩,?_,?_,?_,?_,?_⟩,iU,KG,esg⟩
 ·unfold fE
  rw[hfits,if_neg (by decide),if_neg (fun x=>x b1),b3,List.length_append,hjl,hul,if_neg (by decide),b2,List.drop_left' hjl,List.take_left' hjl,hpl,Int.toNat_natCast,if_pos t1,←hp2,←hp',if_pos (by rw[wt,iU.ep])]
 ·rw[KG,F3,iU.zs,t5]
  intro x
  rcases(show k=0∨k=1∨k=2 by omega)with rfl|rfl|rfl
  ·exact(iZ _ ((z0 (u0 rfl).1.symm).symm.trans ((dZ _ _).1 x))).elim
  ·rfl
  ·rfl
 ·rw[KG,F3,iU.zs,t6]
  intro x
  rcases(show k=0∨k=1∨k=2 by omega)with rfl|rfl|rfl
  ·exact(iZ _ ((z1 (u0 rfl).2.symm).symm.trans ((dZ _ _).1 x))).elim
  ·exact(iZ _ ((z1 (u1 rfl).1.symm).symm.trans ((dZ _ _).1 x))).elim
  ·rfl
 ·rw[iU.zs]
  intro x
  exact(iZ _ (z2.symm.trans ((dZ _ _).1 x))).elim
 ·rw[iU.e,iU.zs,iU.ad,iU.k];exact hown.may
 ·rw[KG,esg,esc,iU.zs,Int.toNat_natCast];exact hh
 ·rw[KG,F3,iU.zs,t5]
  intro x
  rcases(show k=0∨k=1∨k=2 by omega)with rfl|rfl|rfl
  ·exact z0 (u0 rfl).1.symm
  ·exact((eU _ _).1 x (y0 fun e=>(u1 rfl).2 e.symm)).elim
  ·exact((eU _ _).1 x (y0 fun e=>(u2 rfl).2 e.symm)).elim
 ·rw[KG,F3,iU.zs,t6]
  intro x
  rcases(show k=0∨k=1∨k=2 by omega)with rfl|rfl|rfl
  ·exact z1 (u0 rfl).2.symm
  ·exact z1 (u1 rfl).1.symm
  ·exact((eU _ _).1 x (y1 fun e=>(u2 rfl).1 e.symm)).elim
 ·rw[F3,iU.zs,t7]
  intro x
  rcases(show k=0∨k=1∨k=2 by omega)with rfl|rfl|rfl<;>exact z2
end
section
open Pm
theorem Qt{p:PS}{h:List UInt8}{m:Nat}(e:¬JV p h m=true):p.zs.getD m 0=aI h:=by
 unfold JV at e
 unfold aI
 simp at e
 exact e.symm
theorem mW{p:PS}{h:List UInt8}{k:Nat}(hk:k<3)(ht:(aW p h k).1=true):(k=0→p.zs.getD (16+n1 p.lf) 0=aI h)∧(k≤1→p.zs.getD (16+n2 p.lf) 0=aI (if k=1 then h else ak h))∧p.zs.getD 23 0=aI (if k=2 then h else if k=1 then ak h else ak (ak h)):=by
 have top:∀(q:PS) (x:List UInt8),(fu q x).1=true→q.zs.getD 23 0=aI x:=fun q x e=>by
  unfold fu at e
  by_cases h1:JV q x 23=true
  ·rw[if_pos h1]at e;cases e
  ·exact Qt h1
 have mid:∀(q:PS) (x:List UInt8),(dX q x).1=true→q.zs.getD (16+n2 q.lf) 0=aI x∧q.zs.getD 23 0=aI (ak x):=fun q x e=>by
  unfold dX at e
  by_cases h1:JV q x (16+(q.lf / 4*8+3).toNat)=true
  ·rw[if_pos h1]at e;cases e
  ·rw[if_neg h1]at e
   exact⟨Qt h1,top (gH q 1 x) _ e⟩
 have low:∀(q:PS) (x:List UInt8),(iR q x).1=true→q.zs.getD (16+n1 q.lf) 0=aI x∧q.zs.getD (16+n2 q.lf) 0=aI (ak x)∧q.zs.getD 23 0=aI (ak (ak x)):=fun q x e=>by
  unfold iR at e
  by_cases h1:JV q x (16+(q.lf / 2*4+1).toNat)=true
  ·rw[if_pos h1]at e;cases e
  ·rw[if_neg h1]at e
   exact⟨Qt h1,mid (gH q 0 x) _ e⟩
 unfold aW at ht
 rcases(show k=0∨k=1∨k=2 by omega)with rfl|rfl|rfl
 ·rw[if_pos rfl]at ht
  obtain⟨a,b,d⟩:=low p h ht
  exact⟨fun _=>a,fun _=>b,d⟩
 ·rw[if_neg (by decide),if_pos rfl]at ht
  obtain⟨b,d⟩:=mid p h ht
  exact⟨fun e=>absurd e (by decide),fun _=>b,d⟩
 ·rw[if_neg (by decide),if_neg (by decide)]at ht
  exact⟨fun e=>absurd e (by decide),fun e=>absurd e (by decide),top p h ht⟩
structure bM5(p:PS)(s:Vw)(c:CS)(p2:PS):Prop where
 keys:lZ c=true
 same:jY (fK p s c) p2
 ab:p2.ab.length=96
 at0:(n1 p.lf=n1 c.fr∧c.p0=aI (dS p2.ab 0))∨(n1 p.lf≠n1 c.fr∧dS p2.ab 0=if aL s.zs (16+n1 p.lf)=true then dS p.ab 0 else zB 32)
 at1:(n2 p.lf=n2 c.fr∧c.p1=aI (dS p2.ab 1))∨(n2 p.lf≠n2 c.fr∧dS p2.ab 1=if aL s.zs (16+n2 p.lf)=true then dS p.ab 1 else zB 32)
 at2:c.p2=aI (dS p2.ab 2)
theorem oV{x:Int}{b:List UInt8}(h:bJ x b=0):(bg x b).length=b.length-12:=by
 unfold bg
 rw[fJ,List.length_drop]
end
section
open Pm
theorem accE_0{p:PS}{c:CS}(h:qb p c=0):c.e=p.e∧c.fr≠p.lf∧bn p.zs c.fr=true:=by
 unfold qb at h
 by_cases h1:c.e≠p.e
 ·rw[if_pos h1]at h;exact absurd h (by decide)
 rw[if_neg h1]at h
 by_cases h2:c.fr=p.lf∨bn p.zs c.fr=false
 ·rw[if_pos h2]at h;exact absurd h (by decide)
 refine⟨Decidable.byContradiction fun e=>h1 e,fun e=>h2 (.inl e),?_⟩
 cases hm:bn p.zs c.fr with
 |true=>rfl
 |false=>exact(h2 (.inr hm)).elim
theorem aJ2{p:PS}{fr:Int}{n:Nat}{ops:List Int}{m:Nat}{vs:List Int}(h:jW p fr n ops m vs=0):(cZ p.e ⟨p.zs,p.ad,p.k,F8,F8⟩ fr ops n).1=0:=by
 unfold jW at h
 by_cases h1:bX p.e p.zs p.ad p.k p.ch fr ops n vs m≠0
 ·rw[if_pos h1]at h;exact absurd h h1
 ·rw[if_neg h1]at h;exact h
end
section
open Pm
theorem TV{h:List UInt8}{w:Wc}(hf:ji h w=true):dU w.e w.zs w.ad w.k=true∧0≤w.lf∧w.lf<8∧w.lf≠w.fr∧bq w.zs w.lf.toNat=eT h∧bn w.zs w.fr=true∧oC w=true:=by
 unfold ji at hf
 simp only[Bool.and_eq_true,decide_eq_true_eq]at hf
 obtain⟨h1,h2,h3,h4,h5,h6⟩:=hf
 unfold aG at h2
 simp only[Bool.and_eq_true,decide_eq_true_eq]at h2
 exact⟨h1,h2.1,h2.2,h3,h4,h5,h6⟩
end
section
open Pm
def bU(n:Int):List UInt8:=UInt8.ofNat (IntKind.u8.wrap n).toNat::11::List.replicate 30 0
abbrev iE(G:List (Option PS))(i:Nat):Option PS:=G.getD i none
structure Ig(G:List (Option PS)):Prop where
 own:∀(i:Nat) (p:PS),iE G i=some p→Own p
 like:∀(i j:Nat) (p q:PS),iE G i=some p→iE G j=some q→Like p q
 leaf:∀(i j:Nat) (p q:PS),iE G i=some p→iE G j=some q→i≠j→p.lf≠q.lf
def kP(p:PS)(c:CS):Option PS:=if(eF p c).1=0 then(eF p c).2 else some p
def kY(zs:List Int)(j:Nat):Option Nat:=(List.range 64).find? fun s=>decide (bq zs j=eT (bU (s:Nat)))
def qd(G:List (Option PS))(fr:Nat)(q':PS)(c:CS):List (Option PS):=(List.range G.length).map fun i=>if i=fr then some q' else(iE G i).bind fun p=>kP p c
def Wu(ng:List Bool)(zs:List Int):List Nat:=(List.range 8).filter fun j=>ng.getD j false&&(kY zs j).isSome
def tQ(q':PS)(ab joint tag d:List UInt8)(j:Nat):Option PS:=match kY q'.zs j with
 |some s=>(fE (bU (s:Nat)) (nZ q' ab joint tag d j)).2
 |none=>none
def stepM(G:List (Option PS))(fr:Nat)(n:Nat)(ops:List Int)(m:Nat)(vs:List Int)(d:List UInt8):List (Option PS):=match iE G fr with
 |none=>G
 |some q=>if bW q n ops m vs≠0 then G else
  qd G fr (aH q (dJ q q.lf n ops) n ops m vs d) (bH q (dJ q q.lf n ops) n ops m vs d)++
   (Wu (dJ q q.lf n ops).ng (aH q (dJ q q.lf n ops) n ops m vs d).zs).map (tQ (aH q (dJ q q.lf n ops) n ops m vs d) (fU (aC d)) (bT q d) (eB (aH q (dJ q q.lf n ops) n ops m vs d).ep) d)
theorem Like.refl(p:PS):Like p p:=⟨rfl,rfl,rfl,rfl,rfl,rfl,rfl⟩
theorem Like.symm{p q:PS}(h:Like p q):Like q p:=⟨h.e.symm,h.zs.symm,h.ad.symm,h.k.symm,h.ch.symm,h.ep.symm,h.jK.symm⟩
theorem Like.trans{p q r:PS}(h:Like p q)(k:Like q r):Like p r:=⟨h.e.trans k.e,h.zs.trans k.zs,h.ad.trans k.ad,h.k.trans k.k,h.ch.trans k.ch,h.ep.trans k.ep,h.jK.trans k.jK⟩
theorem lD(G:List (Option PS))(fr:Nat)(q':PS)(c:CS):(qd G fr q' c).length=G.length:=by unfold qd;simp
theorem sO{G:List (Option PS)}{fr:Nat}{q':PS}{c:CS}{i:Nat}(hi:i<G.length):iE (qd G fr q' c) i=if i=fr then some q' else(iE G i).bind fun p=>kP p c:=by
 unfold iE qd
 rw[List.getD_eq_getElem?_getD,List.getElem?_map,List.getElem?_range hi]
 rfl
theorem rZ{zs:List Int}{j s:Nat}(h:kY zs j=some s):bq zs j=eT (bU (s:Nat)):=by
 have:=List.find?_some h
 exact of_decide_eq_true this
structure Behind(q q':PS)(s:Vw)(r:PS):Prop where
 own:Own r
 like:Like r q'
theorem uJ{G:List (Option PS)}(h:Ig G){fr:Nat}{q:PS}(hq:iE G fr=some q)(n:Nat)(ops:List Int)(m:Nat)(vs:List Int)(d:List UInt8):Ig (stepM G fr n ops m vs d):=by
 unfold stepM
 rw[hq]
 dsimp only
 by_cases hc:bW q n ops m vs=0
 case neg=>rw[if_pos hc];exact h
 rw[if_neg (fun e=>e hc)]
 obtain⟨s,hs⟩:∃s,s=dJ q q.lf n ops:=⟨_,rfl⟩
 rw[←hs]
 obtain⟨q',hq'⟩:∃q',q'=aH q s n ops m vs d:=⟨_,rfl⟩
 obtain⟨c,hcm⟩:∃c,c=bH q s n ops m vs d:=⟨_,rfl⟩
 rw[←hq',←hcm]
 have hown:=h.own fr q hq
 have hfr:fr<G.length:=by
  rcases Nat.lt_or_ge fr G.length with e|e
  ·exact e
  ·unfold iE at hq;rw[List.getD_eq_getElem?_getD,List.getElem?_eq_none e]at hq;cases hq
 have hown':Own q':=by rw[hq',hs];exact yE hown hc d
 have bp2:q'.lf=q.lf:=by rw[hq'];dsimp only[aH,bC,dG,fK,gN]
 obtain⟨c1,c2,c3⟩:=comE_0 hc
 have q0:=hown.inv.lf0
 have q1:=hown.inv.lf1
 have hst:CF q.zs q.lf.toNat s:=by
  have e:((q.lf.toNat:Nat):Int)=q.lf:=by omega
  have h2':=c2
  rw[←e]at h2'
  have:=(wu hown.inv.zl hown.inv.al h2').2
  rw[e]at this
  rw[hs];exact this
 -- those who were there
 have A:∀i r,i<G.length→iE (qd G fr q' c) i=some r→Own r∧Like r q'∧(∃p,iE G i=some p∧p.lf=r.lf)∧s.ng.getD r.lf.toNat false=false:=fun i r hi hr=>by
  rw[sO hi]at hr
  by_cases e:i=fr
  ·rw[if_pos e]at hr
   cases hr
   exact⟨hown',Like.refl _,⟨q,by rw[e];exact hq,bp2.symm⟩,by rw[bp2];exact hst.ng⟩
  ·rw[if_neg e]at hr
   cases hp:iE G i with
   |none=>rw[hp]at hr;cases hr
   |some p=>
    rw[hp]at hr
    have hr:kP p c=some r:=hr
    have po:=h.own i p hp
    have pl:=h.like i fr p q hp hq
    have pn:=h.leaf i fr p q hp hq e
    obtain⟨g1,g2⟩:=zm po hown pl pn hc d hs
    rw[←hcm]at g1 g2
    have p0:=po.inv.lf0
    have p1:=po.inv.lf1
    have hkp:Keep p.zs p.lf.toNat s:=by
     have:=IX (j:=p.lf.toNat) hown.inv.zl (by omega) (by rw[←pl.zs];exact po.mem) c2
     rw[pl.zs,hs];exact this
    unfold kP at hr
    cases hg:s.gn.getD p.lf.toNat false with
    |true=>
     rw[g1 hg]at hr
     simp at hr
    |false=>
     obtain⟨p',k1,k2,k3,k4,k5⟩:=g2 hg
     rw[k1]at hr
     have hr:p'=r:=by simpa using hr
     rw[←hr]
     rw[←hq']at k3
     refine⟨k2,k3,⟨p,rfl,k4.symm⟩,?_⟩
     rw[k4]
     rcases hkp.or with o|o
     ·rw[hg]at o;cases o
     ·exact o.2.2
 -- those who join
 obtain⟨J,hJ⟩:∃J,J=Wu s.ng q'.zs:=⟨_,rfl⟩
 rw[←hJ]
 have hnd:J.Nodup:=by rw[hJ];unfold Wu;exact List.Pairwise.filter _ List.nodup_range
 have B:∀j,j∈J→∃r,tQ q' (fU (aC d)) (bT q d) (eB q'.ep) d j=some r∧Own r∧Like r q'∧r.lf=j∧s.ng.getD j false=true:=fun j hj=>by
  rw[hJ]at hj
  unfold Wu at hj
  rw[List.mem_filter,List.mem_range,Bool.and_eq_true]at hj
  obtain⟨j1,j2,j3⟩:=hj
  obtain⟨sd,hsd⟩:=Option.isSome_iff_exists.1 j3
  obtain⟨r,k1,k2,k3,k4,_⟩:=Cg hown hc d hs hq' j1 j2 (rZ hsd)
  refine⟨r,?_,k2,k3,k4,j2⟩
  unfold tQ
  rw[hsd]
  show(fE _ _).2=_
  rw[k1]
 -- each of the new group
 have all:∀i r,iE (qd G fr q' c++J.map (tQ q' (fU (aC d)) (bT q d) (eB q'.ep) d)) i=some r→Own r∧Like r q'∧
   ((i<G.length∧(∃p,iE G i=some p∧p.lf=r.lf)∧s.ng.getD r.lf.toNat false=false)∨(∃hi:i-G.length<J.length,G.length≤i∧r.lf=(J[i-G.length]:Nat)∧s.ng.getD r.lf.toNat false=true)):=fun i r hr=>by
  unfold iE at hr
  rw[List.getD_eq_getElem?_getD]at hr
  rcases Nat.lt_or_ge i G.length with e|e
  ·rw[List.getElem?_append_left (by rw[lD];exact e),←List.getD_eq_getElem?_getD]at hr
   obtain⟨a1,a2,a3,a4⟩:=A i r e hr
   exact⟨a1,a2,.inl ⟨e,a3,a4⟩⟩
  ·rw[List.getElem?_append_right (by rw[lD];exact e),lD,List.getElem?_map]at hr
   rcases Nat.lt_or_ge (i-G.length) J.length with e2|e2
   ·rw[List.getElem?_eq_getElem e2]at hr
    obtain⟨r',b1,b2,b3,b4,b5⟩:=B _ (List.getElem_mem e2)
    simp only[Option.map_some,Option.getD_some]at hr
    rw[b1]at hr
    cases hr
    exact⟨b2,b3,.inr ⟨e2,e,b4,by rw[b4];simpa using b5⟩⟩
   ·rw[List.getElem?_eq_none e2]at hr;cases hr
 refine⟨fun i p hp=>(all i p hp).1,fun i j p r hp hr=>(all i p hp).2.1.trans (all j r hr).2.1.symm,fun i j p r hp hr hij hl=>?_⟩
 obtain⟨_,_,u⟩:=all i p hp
 obtain⟨_,_,v⟩:=all j r hr
 rcases u with⟨u1,⟨p1,u2,u3⟩,u4⟩|⟨u1,u2,u3,u4⟩
 ·rcases v with⟨v1,⟨r1,v2,v3⟩,v4⟩|⟨v1,v2,v3,v4⟩
  ·exact h.leaf i j p1 r1 u2 v2 hij (by rw[u3,v3,hl])
  ·rw[hl,v4]at u4;cases u4
 ·rcases v with⟨v1,⟨r1,v2,v3⟩,v4⟩|⟨v1,v2,v3,v4⟩
  ·rw[←hl,u4]at v4;cases v4
  ·have e:J[i-G.length]=J[j-G.length]:=by
    have:((J[i-G.length]:Nat):Int)=(J[j-G.length]:Nat):=by rw[←u3,←v3,hl]
    exact Int.ofNat_inj.1 this
   have P:=List.pairwise_iff_getElem.1 hnd
   rcases Nat.lt_trichotomy (i-G.length) (j-G.length)with o|o|o
   ·exact absurd e (P _ _ _ _ o)
   ·omega
   ·exact absurd e.symm (P _ _ _ _ o)
end
section
open Pm
theorem Et{a b:Nat}(ha:1≤a)(hab:a<b)(hb:b<1073741789):pw 4 a≠pw 4 b:=by
 intro h
 have e1:pw 4 (1073741789-a)*pw 4 a%2147483579=1:=by rw[Ao,show 1073741789-a+a=1073741789 by omega,Dn]
 have e2:pw 4 (1073741789-a)*pw 4 b%2147483579=pw 4 (b-a):=by
  rw[Ao,show 1073741789-a+b=1073741789+(b-a) by omega,←Ao,Dn,Nat.one_mul,Nat.mod_eq_of_lt (wO _ _)]
 rw[←h,e1]at e2
 exact Ru (b-a) (by omega) (by omega) e2.symm
theorem zi{a b:Int}(ha:1≤a∧a<1073741789)(hb:1≤b∧b<1073741789)(h:aA 4 a=aA 4 b):a=b:=by
 obtain⟨m,rfl⟩:=Int.eq_ofNat_of_zero_le (show 0≤a by omega)
 obtain⟨n,rfl⟩:=Int.eq_ofNat_of_zero_le (show 0≤b by omega)
 rw[show aA 4 (m:Int)=(pw 4 m:Int)from jd 4 m (by decide) (by omega),show aA 4 (n:Int)=(pw 4 n:Int)from jd 4 n (by decide) (by omega)]at h
 have h':pw 4 m=pw 4 n:=Int.ofNat_inj.1 h
 rcases Nat.lt_trichotomy m n with h1|h1|h1
 ·exact(Et (by omega) h1 (by omega) h').elim
 ·rw[h1]
 ·exact(Et (by omega) h1 (by omega) h'.symm).elim
theorem DU(s:Int)(hs:1≤s∧s<1073741789):cO (aA 4 s)=true:=by
 obtain⟨n,rfl⟩:=Int.eq_ofNat_of_zero_le (show 0≤s by omega)
 rw[show aA 4 (n:Int)=(pw 4 n:Int)from jd 4 n (by decide) (by omega)]
 exact yQ n (by omega) (by omega)
theorem ae7(s:Int)(p:List UInt8):0≤jQ s p∧jQ s p<1073741789:=by
 unfold jQ
 omega
theorem Hw(s:Int)(p:List UInt8)(hs:1≤s∧s<1073741789):fV (aA 4 s) p (jo s p) (jQ s p)=true:=by
 have hn:=Ac s p
 have hE:=JL s p
 unfold fV
 rw[DU s hs,decide_eq_true hE,decide_eq_true (ae7 s p)]
 have h:=begun s (jP s p) (jo s p) ⟨by omega,hs.2⟩ ⟨by omega,hn.2⟩ hE
 have h2:jQ s p=(jP s p+jo s p*s)%1073741789:=rfl
 rw[h2,h]
 simp[jo]
theorem DT{x:Int}(h:cO x=true):x≠0:=by
 rintro rfl
 revert h
 decide
theorem OT : ((List.range 6).map fun j : Nat => au (jm (bU (j : Nat)))).Pairwise (· ≠ ·) := by decide +kernel
abbrev jX(j:Nat):Int:=aA 4 (au (jm (bU (j:Nat))))
abbrev l7(j:Nat):Int:=aI (aC (bU (j:Nat)))
theorem ae2{i j:Nat}(hi:i<6)(hj:j<6)(h:i≠j):jX i≠jX j:=fun e=>by
 have P:=List.pairwise_iff_getElem.1 OT
 have q:=zi (dL _) (dL _) e
 rcases Nat.lt_or_ge i j with o|o
 ·have:=P i j (by simpa using hi) (by simpa using hj) o
  simp only[List.getElem_map,List.getElem_range]at this
  exact this q
 ·have:=P j i (by simpa using hj) (by simpa using hi) (by omega)
  simp only[List.getElem_map,List.getElem_range]at this
  exact this q.symm
theorem JI(i:Nat):cO (jX i)=true:=DU _ (dL _)
theorem Qd(i:Nat):cO (l7 i)=true:=jL _
theorem I6(i:Nat):eT (bU (i:Nat))=[jX i,l7 i]:=rfl
end
end Go.Proofs.YtjhgelfnmhdihaaGreatDoor
