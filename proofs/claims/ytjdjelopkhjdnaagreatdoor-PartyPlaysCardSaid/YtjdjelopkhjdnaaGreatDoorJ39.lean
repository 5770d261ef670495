/-
  Trees with new keys: whom a secret is for hangs on none of them. Mathematics; no function is named here.
-/
import Derived.Test.YtjdjelopkhjdnaaGreatDoorJ35
namespace Go.Proofs.YtjdjelopkhjdnaaGreatDoor
set_option linter.unusedVariables false
set_option linter.unusedSimpArgs false
set_option maxRecDepth 100000
open Go.RowKit
section
open Pm
def yj:Nat→Int→List Int
 |0,n=>[n]
 |d+1,n=>n::(if jX n=true then yj d (n-gK n)++yj d (n+gK n)else[])
theorem xP{zs zs':List Int}:∀(d:Nat) (n:Int),(∀m∈yj d n,bB zs m=bB zs' m)→dI d zs n=dI d zs' n
 |0,n,h=>by
  unfold dI
  rw[h n (by simp[yj])]
 |d+1,n,h=>by
  unfold dI
  rw[h n (by simp[yj])]
  by_cases ho:jX n=true
  ·have h1:∀m∈yj d (n-gK n),bB zs m=bB zs' m:=fun m hm=>h m (by rw[yj,if_pos ho];simp[hm])
   have h2:∀m∈yj d (n+gK n),bB zs m=bB zs' m:=fun m hm=>h m (by rw[yj,if_pos ho];simp[hm])
   rw[xP d _ h1,xP d _ h2]
  ·rw[if_neg ho,if_neg ho]
theorem Jj{zs:List Int}:∀(d:Nat) (n m:Int),m∈dI d zs n→m∈yj d n
 |0,n,m,h=>by
  unfold dI at h
  split at h
  ·cases h
  ·exact h
 |d+1,n,m,h=>by
  unfold dI at h
  rw[yj]
  split at h
  ·split at h
   ·next ho=>
    rw[if_pos ho]
    rcases List.mem_append.1 h with h|h
    ·exact List.mem_cons_of_mem _ (List.mem_append_left _ (Jj d _ m h))
    ·exact List.mem_cons_of_mem _ (List.mem_append_right _ (Jj d _ m h))
   ·cases h
  ·rw[List.mem_singleton.1 h]
   exact List.mem_cons_self
theorem yS(zs:List Int)(i:Nat)(v m:Int)(h:m%2=0→m.toNat+1≠i)(h':m%2≠0→16+m.toNat≠i):bB (zs.set i v) m=bB zs m:=by
 unfold bB
 split
 ·split
  ·next h1=>rw[aK,if_neg (fun e=>h h1 e.1.symm)]
  ·next h1=>rw[aK,if_neg (fun e=>h' h1 e.1.symm)]
 ·rfl
theorem Vj:∀x<8,∀k<3,((yj 3 ((dD ((x:Nat):Int)).getD k 0)).all fun m=>decide ((0≤m∧m<15)∧m≠2*(x:Int)∧m≠(x:Int) / 2*4+1∧m≠(x:Int) / 4*8+3∧m≠7))=true:=by decide+kernel
theorem ae0(x:Nat)(hx:x<8)(k:Nat)(hk:k<3)(m:Int)(hm:m∈yj 3 ((dD ((x:Nat):Int)).getD k 0)):(0≤m∧m<15)∧m≠2*(x:Int)∧m≠(x:Int) / 2*4+1∧m≠(x:Int) / 4*8+3∧m≠7:=of_decide_eq_true (List.all_eq_true.1 (Vj x hx k hk) m hm)
theorem JZ{fr:Int}(f0:0≤fr)(f1:fr<8)(zs:List Int)(sl a b c:Int){m:Int}(m0:0≤m)(m1:m<15)(h1:m≠2*fr)(h2:m≠fr / 2*4+1)(h3:m≠fr / 4*8+3)(h4:m≠7):bB (fM zs fr sl a b c) m=bB zs m:=by
 unfold fM
 rw[yS _ _ _ _ (by omega) (by omega),yS _ _ _ _ (by omega) (by omega),yS _ _ _ _ (by omega) (by omega),yS _ _ _ _ (by omega) (by omega)]
theorem Mt{fr:Int}(f0:0≤fr)(f1:fr<8)(zs:List Int)(sl a b c:Int){k:Nat}(hk:k<3){m:Int}(hm:m∈yj 3 ((dD fr).getD k 0)):bB (fM zs fr sl a b c) m=bB zs m:=by
 obtain⟨n,rfl⟩:=Int.eq_ofNat_of_zero_le f0
 obtain⟨⟨m0,m1⟩,h1,h2,h3,h4⟩:=ae0 n (by omega) k hk m hm
 exact JZ f0 f1 zs sl a b c m0 m1 h1 h2 h3 h4
theorem Ee{fr:Int}(f0:0≤fr)(f1:fr<8)(zs:List Int)(sl a b c:Int)(bt:List Bool):∀n,n≤3→bA (fM zs fr sl a b c) bt fr n=bA zs bt fr n
 |0,_=>rfl
 |n+1,h=>by
  rw[bA,bA,Ee f0 f1 zs sl a b c bt n (by omega),xP 3 _ fun m hm=>Mt f0 f1 zs sl a b c (by omega) hm]
theorem LH{fr:Int}(f0:0≤fr)(f1:fr<8)(zs:List Int)(sl a b c:Int)(bt:List Bool):aR (fM zs fr sl a b c) fr bt=aR zs fr bt:=by
 unfold aR
 rw[Ee f0 f1 zs sl a b c bt 3 (Nat.le_refl _)]
theorem Ef{fr:Int}(f0:0≤fr)(f1:fr<8)(zs:List Int)(sl a b c:Int)(bt:List Bool):∀n,n≤3→∀p∈bA zs bt fr n,bB (fM zs fr sl a b c) p.2=bB zs p.2
 |0,_,p,h=>by simp[bA]at h
 |n+1,hn,p,h=>by
  rw[bA,List.mem_append]at h
  rcases h with h|h
  ·exact Ef f0 f1 zs sl a b c bt n (by omega) p h
  ·unfold dX at h
   obtain⟨m,hm,rfl⟩:=List.mem_map.1 h
   exact Mt f0 f1 zs sl a b c (by omega) (Jj 3 _ m (List.mem_filter.1 hm).1)
theorem LJ{fr:Int}(f0:0≤fr)(f1:fr<8)(zs:List Int)(sl a b c:Int){bt:List Bool}{p:Int×Int}(h:p∈aR zs fr bt):bB (fM zs fr sl a b c) p.2=bB zs p.2:=by
 unfold aR at h
 split at h
 ·exact Ef f0 f1 zs sl a b c bt 3 (Nat.le_refl _) p h
 ·cases h
end
section
open Pm
def V8(l:List (Int×Int))(i:Nat):Nat:=l.countP fun p=>aI p.2 (i:Int)
theorem Tz(bt:List Bool)(k:Int)(r:List Int)(i:Nat):V8 (dX bt k r) i=(r.filter fun m=>!mD bt m).countP fun m=>aI m (i:Int):=by
 unfold V8 dX
 rw[List.countP_map]
 rfl
theorem EF{x i:Nat}(hx:x<8)(hi:i<8)(hne:i≠x):(if aI ((dD x).getD 0 0) i=true then 1 else 0)+(if aI ((dD x).getD 1 0) i=true then 1 else 0)+(if aI ((dD x).getD 2 0) i=true then 1 else 0)=1∧
  ∀k<3,aI ((dD x).getD k 0) i=true→(jY x).getD k 0=aD x i:=by
 have hx2:x=0∨x=1∨x=2∨x=3∨x=4∨x=5∨x=6∨x=7:=by omega
 have hi2:i=0∨i=1∨i=2∨i=3∨i=4∨i=5∨i=6∨i=7:=by omega
 clear hx hi
 rcases hx2 with rfl|rfl|rfl|rfl|rfl|rfl|rfl|rfl<;>rcases hi2 with rfl|rfl|rfl|rfl|rfl|rfl|rfl|rfl<;>first|exact absurd rfl hne|decide
theorem xL(zs:List Int)(bt:List Bool)(k s:Int){i:Nat}(hi:i<8):V8 (dX bt k (dI 3 zs s)) i≤(if aI s (i:Int)=true then 1 else 0)∧(bt.getD i false=false→aI s (i:Int)=true→zs.getD (i*2+1) 0≠0→V8 (dX bt k (dI 3 zs s)) i=1):=by
 obtain⟨h1,h2⟩:=FJ zs hi 3 s (by simp[okD])
 rw[Tz]
 have hle:((dI 3 zs s).filter fun m=>!mD bt m).countP (fun m=>aI m (i:Int))≤(dI 3 zs s).countP fun m=>aI m (i:Int):=by
  rw[List.countP_filter]
  exact List.countP_mono_left fun m _ h=>by simp at h;exact h.1
 refine⟨Nat.le_trans hle h1,fun hb hu hk=>?_⟩
 have e:=h2 hu (by rw[zV zs hi];exact hk)
 rw[←e]
 unfold cu
 rw[List.countP_filter]
 refine List.countP_congr fun m hm=>?_
 obtain⟨m0,m1⟩:=oN zs 3 s m hm
 constructor
 ·intro h;simp at h;exact h.1
 ·intro h
  have hs:mD bt m=false:=by
   cases hq:mD bt m with
   |false=>rfl
   |true=>
    exfalso
    unfold mD at hq
    rw[Int.tdiv_eq_ediv_of_nonneg m0,Int.tmod_eq_emod_of_nonneg m0]at hq
    simp only[Bool.and_eq_true,decide_eq_true_eq]at hq
    have hn:jX m=false:=by simp[jX];omega
    rw[EM hn hi]at h
    have hm2:m=2*(i:Int):=by simpa using h
    have:(m / 2).toNat=i:=by omega
    rw[this,hb]at hq
    simp at hq
  simp[h,hs]
theorem Jc(zs:List Int)(bt:List Bool){x i:Nat}(hx:x<8)(hi:i<8)(hne:i≠x):V8 (bA zs bt x 3) i≤1∧(bt.getD i false=false→zs.getD (i*2+1) 0≠0→V8 (bA zs bt x 3) i=1):=by
 obtain⟨s1,_⟩:=EF hx hi hne
 have e:V8 (bA zs bt x 3) i=V8 (dX bt 0 (dI 3 zs ((dD x).getD 0 0))) i+V8 (dX bt 1 (dI 3 zs ((dD x).getD 1 0))) i+V8 (dX bt 2 (dI 3 zs ((dD x).getD 2 0))) i:=by
  simp[bA,V8,Nat.add_assoc]
 obtain⟨a1,a2⟩:=xL zs bt 0 ((dD x).getD 0 0) hi
 obtain⟨b1,b2⟩:=xL zs bt 1 ((dD x).getD 1 0) hi
 obtain⟨c1,c2⟩:=xL zs bt 2 ((dD x).getD 2 0) hi
 rw[e]
 refine⟨by omega,fun hb hk=>?_⟩
 cases ha:aI ((dD x).getD 0 0) i<;>cases hbb:aI ((dD x).getD 1 0) i<;>cases hc:aI ((dD x).getD 2 0) i<;>simp only[ha,hbb,hc,if_true,Bool.false_eq_true,if_false]at s1 a1 b1 c1<;>first|omega|(have:=a2 hb ha hk;omega)|(have:=b2 hb hbb hk;omega)|(have:=c2 hb hc hk;omega)
theorem Ad(zs:List Int)(bt:List Bool){x i:Nat}(hx:x<8)(hi:i<8)(hne:i≠x):∀n≤3,∀p∈bA zs bt x n,(0≤p.1∧p.1≤2)∧(aI p.2 (i:Int)=true→(jY x).getD p.1.toNat 0=aD x i)
 |0,_,p,hp=>by simp[bA]at hp
 |n+1,hn,p,hp=>by
  rw[bA,List.mem_append]at hp
  rcases hp with hp|hp
  ·exact Ad zs bt hx hi hne n (by omega) p hp
  ·unfold dX at hp
   rw[List.mem_map]at hp
   obtain⟨m,hm,rfl⟩:=hp
   rw[List.mem_filter]at hm
   refine⟨⟨by simp,by simp;omega⟩,fun hu=>?_⟩
   have hs:aI ((dD x).getD n 0) i=true:=by
    cases hq:aI ((dD x).getD n 0) i with
    |true=>rfl
    |false=>
     exfalso
     have h1:=(FJ zs hi 3 ((dD x).getD n 0) (by simp[okD])).1
     rw[hq,if_neg (by simp)]at h1
     have:0<cu (dI 3 zs ((dD x).getD n 0)) i:=List.countP_pos_iff.2 ⟨m,hm.1,hu⟩
     omega
   simpa using(EF hx hi hne).2 n (by omega) hs
end
section
open Pm
theorem OG(n:Int)(h0:0≤n)(h1:n<4294967296):pF (bC n)=n:=by
 obtain⟨m,rfl⟩:∃m:Nat,n=m:=⟨n.toNat,by omega⟩
 have e:∀s,(mU (m:Int) s).toNat=m / 2^s%256:=fun s=>by
  unfold mU
  rw[UInt8.toNat_ofNat']
  have:((m:Int) / 2^s%256).toNat=m / 2^s%256:=by
   have h2:((m:Int) / 2^s%256)=((m / 2^s%256:Nat):Int):=by simp
   rw[h2];rfl
  rw[this];omega
 show((((mU m 24).toNat*256+(mU m 16).toNat)*256+(mU m 8).toNat)*256+(mU m 0).toNat:Nat)=(m:Int)
 rw[e,e,e,e]
 simp only[Nat.reducePow,Nat.div_one]
 omega
theorem TQ(n:Int):(bC n).length=4:=rfl
theorem Ta(y x:Int)(p:List UInt8):(um y x p).take 4=bC (aA 4 x)∧((um y x p).drop 4).take 8=wB (ug y x) (bC (aA 4 x)) (kP (ug y x) p)∧(um y x p).drop 12=kP (ug y x) p:=by
 have hT:=jv (ug y x) (bC (aA 4 x)) (kP (ug y x) p)
 unfold um
 obtain⟨T,hTe⟩:∃T,wB (ug y x) (bC (aA 4 x)) (kP (ug y x) p)=T:=⟨_,rfl⟩
 rw[hTe]at hT ⊢
 have hF:=TQ (aA 4 x)
 obtain⟨F,hFe⟩:∃F,bC (aA 4 x)=F:=⟨_,rfl⟩
 rw[hFe]at hF ⊢
 refine⟨?_,?_,?_⟩
 ·rw[List.append_assoc,List.take_left' hF]
 ·rw[List.append_assoc,List.drop_left' hF,List.take_left' hT]
 ·rw[List.drop_left' (by rw[List.length_append,hF,hT])]
theorem Mr(x d:Int)(hx:1≤x∧x<1073741789)(hd:1≤d∧d<1073741789):ug (aA 4 d) x=ug (aA 4 x) d:=by
 unfold ug
 rw[nD d hd,nD x hx]
 unfold j5
 rw[raised d x ⟨by omega,hd.2⟩ ⟨by omega,hx.2⟩]
theorem Va(x d:Int)(hx:1≤x∧x<1073741789)(hd:1≤d∧d<1073741789)(p:List UInt8)(hp:p.length≤200):bH x (um (aA 4 x) d p)=0∧bg x (um (aA 4 x) d p)=p:=by
 have hl:=p9 (aA 4 x) d p
 obtain⟨h1,h2,h3⟩:=Ta (aA 4 x) d p
 have hb:=au3 4 d
 have hY:pF (um (aA 4 x) d p)=aA 4 d:=by rw[←zZ,h1,OG _ hb.1 (by omega)]
 have hok:pG x (um (aA 4 x) d p)=true:=by
  unfold pG
  rw[hY,h1,h2,h3,Mr x d hx hd,nD d hd,beq_self_eq_true];rfl
 unfold bH bg
 rw[if_neg (by omega),if_pos hok,hY,h3,Mr x d hx hd,VR]
 exact⟨rfl,rfl⟩
theorem J6(a b p:List UInt8)(hp:p.length≤200):bH (au a) (bI (aA 4 (au a)) (au b) p)=0∧bg (au a) (bI (aA 4 (au a)) (au b) p)=p∧(bI (aA 4 (au a)) (au b) p).length=12+p.length:=by
 have ha:=fZ a
 have hb:=fZ b
 have e:bI (aA 4 (au a)) (au b) p=um (aA 4 (au a)) (au b) p:=by
  unfold bI qR
  rw[nD _ ha,decide_eq_true hp];rfl
 rw[e]
 obtain⟨h1,h2⟩:=Va (au a) (au b) ha hb p hp
 exact⟨h1,h2,p9 _ _ _⟩
end
section
open Pm
def aL(zs:List Int)(m:Nat):Bool:=zs.getD m 0 !=0
abbrev n1(lf:Int):Nat:=(lf / 2*4+1).toNat
abbrev n2(lf:Int):Nat:=(lf / 4*8+3).toNat
def lQ(c:CS):Bool:=cK c.sl&&(cK c.p0&&(cK c.p1&&cK c.p2))
def kW(p:PS)(node:Int):List UInt8:=if node=2*p.lf then p.sc else dO p.ab (aP p.lf node).toNat
def qP(h b:List UInt8):Int:=if bH (au (ay h)) b≠0 then 3 else if b.length-12≠32 then 10 else 0
def JE(p:PS)(h:List UInt8)(m:Nat):Bool:=aA 4 (au (ay h)) !=p.zs.getD m 0
def gF(p:PS)(q:Nat)(h:List UInt8):PS:={ p with ab:=p.ab.take (q*32)++(h++p.ab.drop (q*32+32)) }
def eU(p:PS)(h:List UInt8):Bool×List UInt8×PS:=if JE p h 23=true then(false,zB 32,p)else(true,ak h,gF p 2 h)
def dS(p:PS)(h:List UInt8):Bool×List UInt8×PS:=if JE p h (16+(p.lf / 4*8+3).toNat)=true then(false,zB 32,p)else eU (gF p 1 h) (ak h)
def iO(p:PS)(h:List UInt8):Bool×List UInt8×PS:=if JE p h (16+(p.lf / 2*4+1).toNat)=true then(false,zB 32,p)else dS (gF p 0 h) (ak h)
def aW(p:PS)(h:List UInt8)(k:Nat):Bool×List UInt8×PS:=if k=0 then iO p h else if k=1 then dS p h else eU p h
def jM(p:PS):PS:=if aL p.zs (16+n1 p.lf)=true then p else gF p 0 (zB 32)
def qc(p:PS):PS:=if aL p.zs (16+n2 p.lf)=true then p else gF p 1 (zB 32)
def gT(p:PS)(k:Nat):PS:=if k=0 then p else if k=1 then jM p else qc (jM p)
def dz(l:List (Int×Int))(lf:Int):Nat:=l.findIdx fun q=>aI q.2 lf
def o7(p:PS)(c:CS)(l:List (Int×Int)):Int×List UInt8×PS:=
 if lQ c=false∨c.k≠l.length∨dz l p.lf=l.length then(10,zB 32,p)
 else if qP (kW p (l.getD (dz l p.lf) (0,0)).2) (c.bx (dz l p.lf))≠0 then(qP (kW p (l.getD (dz l p.lf) (0,0)).2) (c.bx (dz l p.lf)),zB 32,p)
 else if(aW (gT p (l.getD (dz l p.lf) (0,0)).1.toNat) (bg (au (ay (kW p (l.getD (dz l p.lf) (0,0)).2))) (c.bx (dz l p.lf))) (l.getD (dz l p.lf) (0,0)).1.toNat).1=true
  then(0,(aW (gT p (l.getD (dz l p.lf) (0,0)).1.toNat) (bg (au (ay (kW p (l.getD (dz l p.lf) (0,0)).2))) (c.bx (dz l p.lf))) (l.getD (dz l p.lf) (0,0)).1.toNat).2)
  else(10,zB 32,(aW (gT p (l.getD (dz l p.lf) (0,0)).1.toNat) (bg (au (ay (kW p (l.getD (dz l p.lf) (0,0)).2))) (c.bx (dz l p.lf))) (l.getD (dz l p.lf) (0,0)).1.toNat).2.2)
def qX(p:PS)(c:CS):Int:=if c.e≠p.e then 5 else if c.fr=p.lf∨bn p.zs c.fr=false then 6 else if fO (p.zs.getD (c.fr.toNat*2) 0) (aU c++c.tag) c.sE c.sS=true then 0 else 4
def gD(p:PS)(c:CS):Int×Option PS:=
 if qX p c≠0 then(qX p c,none)
 else if jR p c.fr c.n c.ops c.m c.vs≠0 then(jR p c.fr c.n c.ops c.m c.vs,none)
 else if(dZ p c.fr c.n c.ops).gn.getD p.lf.toNat false=true then(0,none)
 else if p.e≥1099511627776 then(12,none)
 else if(o7 (gu p (dZ p c.fr c.n c.ops) c) c (aR (dZ p c.fr c.n c.ops).zs c.fr (dZ p c.fr c.n c.ops).ng)).1≠0
  then((o7 (gu p (dZ p c.fr c.n c.ops) c) c (aR (dZ p c.fr c.n c.ops).zs c.fr (dZ p c.fr c.n c.ops).ng)).1,none)
 else if dY (bG (o7 (gu p (dZ p c.fr c.n c.ops) c) c (aR (dZ p c.fr c.n c.ops).zs c.fr (dZ p c.fr c.n c.ops).ng)).2.2 (kV p.jE (o7 (gu p (dZ p c.fr c.n c.ops) c) c (aR (dZ p c.fr c.n c.ops).zs c.fr (dZ p c.fr c.n c.ops).ng)).2.1)).ep=c.tag
  then(0,some (bG (o7 (gu p (dZ p c.fr c.n c.ops) c) c (aR (dZ p c.fr c.n c.ops).zs c.fr (dZ p c.fr c.n c.ops).ng)).2.2 (kV p.jE (o7 (gu p (dZ p c.fr c.n c.ops) c) c (aR (dZ p c.fr c.n c.ops).zs c.fr (dZ p c.fr c.n c.ops).ng)).2.1)))
  else(11,none)
def Ab:Option PS→A
 |none=>.v (.pointer none)
 |some q=>.sref [.ints .i64 1 [q.e],.ints .i64 31 q.zs,.bools 8 q.ad,.ints .i64 1 [q.k],.bytes 32 q.ch,.ints .i64 1 [q.lf],.bytes 32 q.sg,.bytes 32 q.sc,.bytes 96 q.ab,.bytes 32 q.ep,.bytes 32 q.jE] 0
end
section
open Pm
theorem oH{zs xs:List Int}(hz:zs.length=31)(hx:xs.length=2){i:Nat}(hi:i<8){m:Nat}(hm:16≤m):(d9 zs xs (i:Nat)).getD m 0=if m=16+n1 (i:Nat)∨m=16+n2 (i:Nat)∨m=23 then 0 else zs.getD m 0:=by
 have hlb:aG (i:Int)=true:=by simp[aG];omega
 have hl:(zs.take (i*2)++(xs++zs.drop (i*2+2))).length=31:=by simp[hx,hz];omega
 have e0:(zs.take (i*2)++(xs++zs.drop (i*2+2))).getD m 0=zs.getD m 0:=by rw[xU hx (by omega),if_neg (by omega)]
 unfold d9
 rw[if_pos hlb,Int.toNat_natCast,aK,aK,aK,e0]
 simp only[List.length_set,hl]
 unfold n1 n2
 by_cases e1:m=23
 ·rw[if_pos ⟨e1.symm,by decide⟩,if_pos (.inr (.inr e1))]
 ·rw[if_neg (fun h=>e1 h.1.symm)]
  by_cases e2:m=16+((i:Int) / 4*8+3).toNat
  ·rw[if_pos ⟨e2.symm,by omega⟩,if_pos (.inr (.inl e2))]
  ·rw[if_neg (fun h=>e2 h.1.symm)]
   by_cases e3:m=16+((i:Int) / 2*4+1).toNat
   ·rw[if_pos ⟨e3.symm,by omega⟩,if_pos (.inl e3)]
   ·rw[if_neg (fun h=>e3 h.1.symm),if_neg (by rintro(h|h|h);exact e3 h;exact e2 h;exact e1 h)]
theorem J2{zs:List Int}(hz:zs.length=31)(fr sl a b c:Int):(fM zs fr sl a b c).length=31:=by unfold fM;simp[hz]
theorem kS{zs:List Int}(hz:zs.length=31){fr:Int}(f0:0≤fr)(f1:fr<8)(sl a b c:Int)(m:Nat):(fM zs fr sl a b c).getD m 0=if m=23 then c else if m=16+n2 fr then b else if m=16+n1 fr then a else if m=fr.toNat*2+1 then sl else zs.getD m 0:=by
 unfold fM
 rw[aK,aK,aK,aK]
 simp only[List.length_set,hz]
 unfold n1 n2
 by_cases e1:m=23
 ·rw[if_pos ⟨e1.symm,by decide⟩,if_pos e1]
 ·rw[if_neg (fun h=>e1 h.1.symm),if_neg e1]
  by_cases e2:m=16+(fr / 4*8+3).toNat
  ·rw[if_pos ⟨e2.symm,by omega⟩,if_pos e2]
  ·rw[if_neg (fun h=>e2 h.1.symm),if_neg e2]
   by_cases e3:m=16+(fr / 2*4+1).toNat
   ·rw[if_pos ⟨e3.symm,by omega⟩,if_pos e3]
   ·rw[if_neg (fun h=>e3 h.1.symm),if_neg e3]
    by_cases e4:m=fr.toNat*2+1
    ·rw[if_pos ⟨e4.symm,by omega⟩,if_pos e4]
    ·rw[if_neg (fun h=>e4 h.1.symm),if_neg e4]
structure Keep(zs0:List Int)(j:Nat)(s:Vw):Prop where
 zl:s.zs.length=31
 nl:s.ng.length=8
 gl:s.gn.length=8
 or:s.gn.getD j false=true∨(dK s.zs j=true∧bq s.zs j=bq zs0 j∧s.ng.getD j false=false)
theorem Keep.step{zs0:List Int}{j:Nat}(hj:j<8){s:Vw}(h:Keep zs0 j s)(fr:Int){o:List Int}(he:fq s fr o=0):Keep zs0 j (fV s o):=by
 obtain⟨h1,h2,h3,h4⟩:=h
 unfold fV
 unfold fq at he
 by_cases k1:o.getD 0 0=1
 ·rw[if_pos k1]at he ⊢
  obtain⟨hf,hi1,hi2⟩:=errAdd_0 he
  obtain⟨EZ,hfm⟩:=oz hf
  refine⟨jZ h1 rfl,by simp[h2],h3,?_⟩
  rcases h4 with h4|⟨h5,h6,h7⟩
  ·exact .inl h4
  ·have hne:j≠dG s.zs:=fun e=>by rw[←e,h5]at hfm;cases hfm
   refine .inr ⟨?_,?_,?_⟩
   ·rw[l7 h1 rfl EZ hj,if_neg hne];exact h5
   ·rw[lS h1 rfl EZ hj,if_neg hne];exact h6
   ·show(s.ng.set (dG s.zs) true).getD j false=false
    rw[iF,if_neg (fun e=>hne e.1.symm)];exact h7
 rw[if_neg k1]at he ⊢
 by_cases k2:o.getD 0 0=2
 ·rw[if_pos k2]at he ⊢
  unfold gH at he
  have hw:¬(o.getD 1 0=fr∨bn s.zs (o.getD 1 0)=false):=fun hx=>by rw[if_pos hx]at he;cases he
  have hm:bn s.zs (o.getD 1 0)=true:=by
   cases hq:bn s.zs (o.getD 1 0)with
   |true=>rfl
   |false=>exact(hw (.inr hq)).elim
  obtain⟨hb0,hb1⟩:=eX hm
  obtain⟨n,hn⟩:=Int.eq_ofNat_of_zero_le hb0
  rw[hn]at hb1 ⊢
  refine⟨jZ h1 rfl,by simp[h2],by simp[h3],?_⟩
  by_cases hne:j=n
  ·left
   show(s.gn.set (n:Int).toNat true).getD j false=true
   rw[Int.toNat_natCast,iF,if_pos ⟨hne.symm,by omega⟩]
  ·rcases h4 with h4|⟨h5,h6,h7⟩
   ·left
    show(s.gn.set (n:Int).toNat true).getD j false=true
    rw[Int.toNat_natCast,iF,if_neg (fun e=>hne e.1.symm)];exact h4
   ·refine .inr ⟨?_,?_,?_⟩
    ·rw[l7 h1 rfl (by omega) hj,if_neg hne];exact h5
    ·rw[lS h1 rfl (by omega) hj,if_neg hne];exact h6
    ·show(s.ng.set (n:Int).toNat false).getD j false=false
     rw[Int.toNat_natCast,iF,if_neg (fun e=>hne e.1.symm)];exact h7
 rw[if_neg k2]
 by_cases k3:o.getD 0 0=3
 ·rw[if_pos k3];exact⟨h1,h2,h3,h4⟩
 rw[if_neg k3]
 by_cases k4:o.getD 0 0=4
 ·rw[if_pos k4];exact⟨h1,h2,h3,h4⟩
 rw[if_neg k4]
 exact⟨h1,h2,h3,h4⟩
structure Goes(zs0:List Int)(s:Vw):Prop where
 zl:s.zs.length=31
 al:s.ad.length=8
 nl:s.ng.length=8
 t:rQ s.zs=true
 adm:kQ s.zs s.ad 8=true
 k:1≤s.k
 nd:∀m,16≤m→s.zs.getD m 0=0∨s.zs.getD m 0=zs0.getD m 0
 new:∀j,j<8→s.ng.getD j false=true→dK s.zs j=true∧s.zs.getD (16+n1 (j:Nat)) 0=0∧s.zs.getD (16+n2 (j:Nat)) 0=0∧s.zs.getD 23 0=0
theorem BU(zs:List Int):rQ zs=true↔(∀k,k<8→eG zs k=true)∧∀k,k<15→gI zs k=true:=by
 unfold rQ
 rw[Bool.and_eq_true,List.all_eq_true,List.all_eq_true]
 simp only[List.mem_range]
theorem Gd{zs:List Int}{k:Nat}{a b:Int}(h:bq zs k=[a,b])(ha:cK a=true)(hb:cK b=true):eG zs k=true:=by
 unfold eG;rw[h];simp[ha,hb]
theorem K4{zs:List Int}{k:Nat}(h:bq zs k=[0,0]):eG zs k=true:=by
 unfold eG;rw[h];rfl
theorem Gc{zs zs':List Int}{k:Nat}(h:bq zs k=bq zs' k):eG zs k=eG zs' k:=by
 unfold eG;rw[h]
theorem DW{zs:List Int}{k:Nat}(hk:k<15):gI zs k=(decide (zs.getD (16+k) 0=0)||(!((k:Int).tmod 2==0)&&cK (zs.getD (16+k) 0))):=by
 unfold gI;rw[La zs hk]
theorem KV{zs xs:List Int}(hz:zs.length=31)(h:rQ zs=true){i:Nat}(hi:i<8)(hx:xs=[0,0]∨∃a b,xs=[a,b]∧cK a=true∧cK b=true):rQ (d9 zs xs (i:Nat))=true:=by
 have hx2:xs.length=2:=by rcases hx with rfl|⟨a,b,rfl,_⟩<;>rfl
 obtain⟨h1,h2⟩:=(BU zs).1 h
 refine(BU _).2 ⟨fun k hk=>?_,fun k hk=>?_⟩
 ·have e:=lS hz hx2 hi hk
  by_cases hki:k=i
  ·rw[if_pos hki]at e
   rcases hx with rfl|⟨a,b,rfl,ha,hb⟩
   ·exact K4 e
   ·exact Gd e ha hb
  ·rw[if_neg hki]at e
   rw[Gc e];exact h1 k hk
 ·have:=h2 k hk
  rw[DW hk]at this ⊢
  rw[oH hz hx2 hi (by omega)]
  split
  ·rfl
  ·exact this
theorem Rq{zs:List Int}{k:Nat}{a b:Int}(h:bq zs k=[a,b])(ha:cK a=true):dK zs k=true:=by
 unfold dK;rw[h]
 have:=xw ha
 simp[this]
theorem Goes.step{zs0:List Int}{s:Vw}(h:Goes zs0 s)(fr:Int){o:List Int}(he:fq s fr o=0):Goes zs0 (fV s o):=by
 have hinv:Inv s:=⟨h.adm,h.zl,h.al⟩
 have hnx:=xE hinv fr he
 obtain⟨h1,h2,h3,h4,h5,h6,h7,h8⟩:=h
 refine⟨hnx.zl,hnx.al,?_,?_,hnx.adm,?_,?_,?_⟩<;>unfold fV<;>unfold fq at he<;>by_cases k1:o.getD 0 0=1
 ·rw[if_pos k1];simp[h3]
 ·rw[if_neg k1];split
  ·simp[h3]
  ·split
   ·exact h3
   ·split<;>exact h3
 ·rw[if_pos k1]at he ⊢
  obtain⟨hf,hi1,hi2⟩:=errAdd_0 he
  obtain⟨EZ,hfm⟩:=oz hf
  exact KV h1 h4 EZ (.inr ⟨_,_,rfl,hi1,hi2⟩)
 ·rw[if_neg k1]at he ⊢
  by_cases k2:o.getD 0 0=2
  ·rw[if_pos k2]at he ⊢
   unfold gH at he
   have hm:bn s.zs (o.getD 1 0)=true:=by
    cases hq:bn s.zs (o.getD 1 0)with
    |true=>rfl
    |false=>rw[if_pos (.inr hq)]at he;cases he
   obtain⟨hb0,hb1⟩:=eX hm
   obtain⟨n,hn⟩:=Int.eq_ofNat_of_zero_le hb0
   rw[hn]at hb1 ⊢
   exact KV h1 h4 (by omega) (.inl rfl)
  ·rw[if_neg k2];split
   ·exact h4
   ·split<;>exact h4
 ·rw[if_pos k1];exact h6
 ·rw[if_neg k1]at he ⊢
  split
  ·exact h6
  ·next k2=>
   rw[if_neg k2]at he
   split
   ·exact h6
   ·next k3=>
    rw[if_neg k3]at he
    split
    ·exact h6
    ·next k4=>
     rw[if_neg k4]at he
     unfold iJ at he
     show 1≤o.getD 2 0
     by_cases hk:o.getD 2 0<1∨o.getD 2 0>8
     ·rw[if_pos hk]at he;cases he
     ·omega
 ·rw[if_pos k1]at he ⊢
  obtain⟨hf,hi1,hi2⟩:=errAdd_0 he
  obtain⟨EZ,hfm⟩:=oz hf
  intro m hm
  show(d9 s.zs _ _).getD m 0=0∨(d9 s.zs _ _).getD m 0=_
  rw[oH h1 rfl EZ hm]
  split
  ·exact .inl rfl
  ·exact h7 m hm
 ·rw[if_neg k1]at he ⊢
  by_cases k2:o.getD 0 0=2
  ·rw[if_pos k2]at he ⊢
   unfold gH at he
   have hm:bn s.zs (o.getD 1 0)=true:=by
    cases hq:bn s.zs (o.getD 1 0)with
    |true=>rfl
    |false=>rw[if_pos (.inr hq)]at he;cases he
   obtain⟨hb0,hb1⟩:=eX hm
   obtain⟨n,hn⟩:=Int.eq_ofNat_of_zero_le hb0
   rw[hn]at hb1 ⊢
   intro m hm
   show(d9 s.zs _ _).getD m 0=0∨(d9 s.zs _ _).getD m 0=_
   rw[oH h1 rfl (by omega) hm]
   split
   ·exact .inl rfl
   ·exact h7 m hm
  ·rw[if_neg k2];split
   ·exact h7
   ·split<;>exact h7
 ·rw[if_pos k1]at he ⊢
  obtain⟨hf,hi1,hi2⟩:=errAdd_0 he
  obtain⟨EZ,hfm⟩:=oz hf
  intro j hj qd
  have qd:(s.ng.set (dG s.zs) true).getD j false=true:=qd
  show dK (d9 s.zs _ _) j=true∧(d9 s.zs _ _).getD _ 0=0∧(d9 s.zs _ _).getD _ 0=0∧(d9 s.zs _ _).getD _ 0=0
  rw[oH h1 rfl EZ (by omega),oH h1 rfl EZ (by omega),oH h1 rfl EZ (by omega)]
  by_cases hje:j=dG s.zs
  ·subst hje
   refine⟨Rq (by rw[lS h1 rfl EZ EZ,if_pos rfl]) hi1,?_,?_,?_⟩
   ·rw[if_pos (.inl rfl)]
   ·rw[if_pos (.inr (.inl rfl))]
   ·rw[if_pos (.inr (.inr rfl))]
  ·rw[iF,if_neg (fun e=>hje e.1.symm)]at qd
   obtain⟨a1,a2,a3,a4⟩:=h8 j hj qd
   refine⟨by rw[l7 h1 rfl EZ hj,if_neg hje];exact a1,?_,?_,?_⟩
   ·split
    ·rfl
    ·exact a2
   ·split
    ·rfl
    ·exact a3
   ·split
    ·rfl
    ·exact a4
 ·rw[if_neg k1]at he ⊢
  by_cases k2:o.getD 0 0=2
  ·rw[if_pos k2]at he ⊢
   unfold gH at he
   have hm:bn s.zs (o.getD 1 0)=true:=by
    cases hq:bn s.zs (o.getD 1 0)with
    |true=>rfl
    |false=>rw[if_pos (.inr hq)]at he;cases he
   obtain⟨hb0,hb1⟩:=eX hm
   obtain⟨n,hn⟩:=Int.eq_ofNat_of_zero_le hb0
   rw[hn]at hb1 ⊢
   intro j hj qd
   have qd:(s.ng.set (n:Int).toNat false).getD j false=true:=qd
   rw[Int.toNat_natCast]at qd
   show dK (d9 s.zs _ _) j=true∧(d9 s.zs _ _).getD _ 0=0∧(d9 s.zs _ _).getD _ 0=0∧(d9 s.zs _ _).getD _ 0=0
   rw[oH h1 rfl (by omega) (by omega),oH h1 rfl (by omega) (by omega),oH h1 rfl (by omega) (by omega)]
   by_cases hje:j=n
   ·subst hje
    rw[iF,if_pos ⟨rfl,by omega⟩]at qd
    cases qd
   ·rw[iF,if_neg (fun e=>hje e.1.symm)]at qd
    obtain⟨a1,a2,a3,a4⟩:=h8 j hj qd
    refine⟨by rw[l7 h1 rfl (by omega) hj,if_neg hje];exact a1,?_,?_,?_⟩
    ·split
     ·rfl
     ·exact a2
    ·split
     ·rfl
     ·exact a3
    ·split
     ·rfl
     ·exact a4
  ·rw[if_neg k2];split
   ·exact h8
   ·split<;>exact h8
theorem mV{e:Int}{zs:List Int}{ad:List Bool}{k:Int}:dQ e zs ad k=true↔0≤e∧e≤1099511627776∧rQ zs=true∧kQ zs ad 8=true∧1≤k∧k≤((jq ad:Nat):Int):=by
 unfold dQ
 simp only[Bool.and_eq_true,decide_eq_true_eq]
 constructor
 ·rintro⟨⟨⟨⟨⟨a,b⟩,c⟩,d⟩,e⟩,f⟩;exact⟨a,b,c,d,e,f⟩
 ·rintro⟨a,b,c,d,e,f⟩;exact⟨⟨⟨⟨⟨a,b⟩,c⟩,d⟩,e⟩,f⟩
theorem vE{e:Int}{zs:List Int}{ad:List Bool}{k:Int}{fr:Int}{ops:List Int}{n:Nat}(hz:zs.length=31)(ha:ad.length=8)(h:(dh e ⟨zs,ad,k,F8,F8⟩ fr ops n).1=0):
  Goes zs (dh e ⟨zs,ad,k,F8,F8⟩ fr ops n).2∧(dh e ⟨zs,ad,k,F8,F8⟩ fr ops n).2.k≤((jq (dh e ⟨zs,ad,k,F8,F8⟩ fr ops n).2.ad:Nat):Int)∧dQ e zs ad k=true∧bn zs fr=true:=by
 obtain⟨h1,h2,h3,h4,h5,h6,h7⟩:=yE h
 obtain⟨_,_,m3,m4,m5,_⟩:=mV.1 h1
 rw[h6]
 refine⟨sW (I:=Goes zs) (fun s o hs he=>hs.step fr he) _ _ _ ⟨hz,ha,rfl,m3,m4,m5,fun m _=>.inr rfl,fun j hj hn=>?_⟩ h5,h7,h1,h4⟩
 have:F8.getD j false=false:=by rcases j with _|_|_|_|_|_|_|_|j<;>first|rfl|omega
 rw[show(⟨zs,ad,k,F8,F8⟩:Vw).ng=F8 from rfl,this]at hn
 cases hn
theorem Iz{e:Int}{zs:List Int}{ad:List Bool}{k:Int}{fr:Int}{ops:List Int}{n:Nat}(hz:zs.length=31){j:Nat}(hj:j<8)(hm:dK zs j=true)(h:(dh e ⟨zs,ad,k,F8,F8⟩ fr ops n).1=0):Keep zs j (dh e ⟨zs,ad,k,F8,F8⟩ fr ops n).2:=by
 obtain⟨h1,h2,h3,h4,h5,h6,h7⟩:=yE h
 rw[h6]
 have:F8.getD j false=false:=by rcases j with _|_|_|_|_|_|_|_|j<;>first|rfl|omega
 exact sW (I:=Keep zs j) (fun s o hs he=>hs.step hj fr he) _ _ _ ⟨hz,rfl,rfl,.inr ⟨hm,rfl,this⟩⟩ h5
end
section
open Pm
structure JU(p:PS):Prop where
 lf0:0≤p.lf
 lf1:p.lf<8
 zl:p.zs.length=31
 al:p.ad.length=8
 cl:p.ch.length=32
 gl:p.sg.length=32
 sl:p.sc.length=32
 bl:p.ab.length=96
 el:p.ep.length=32
 il:p.jE.length=32
 a0:aL p.zs (16+n1 p.lf)=false→dO p.ab 0=zB 32
 a1:aL p.zs (16+n2 p.lf)=false→dO p.ab 1=zB 32
 a2:aL p.zs 23=false→dO p.ab 2=zB 32
theorem eT{ab:List UInt8}(h:ab.length=96){k:Nat}(hk:k<3):(dO ab k).length=32:=by unfold dO;simp;omega
structure Own(p:PS):Prop where
 inv:JU p
 may:dQ p.e p.zs p.ad p.k=true
 lf:bq p.zs p.lf.toNat=[aA 4 (au p.sg),aH p.sc]
 k0:aL p.zs (16+n1 p.lf)=true→p.zs.getD (16+n1 p.lf) 0=aH (dO p.ab 0)
 k1:aL p.zs (16+n2 p.lf)=true→p.zs.getD (16+n2 p.lf) 0=aH (dO p.ab 1)
 k2:aL p.zs 23=true→p.zs.getD 23 0=aH (dO p.ab 2)
structure Like(p q:PS):Prop where
 e:p.e=q.e
 zs:p.zs=q.zs
 ad:p.ad=q.ad
 k:p.k=q.k
 ch:p.ch=q.ch
 ep:p.ep=q.ep
 jE:p.jE=q.jE
theorem jF(h:List UInt8):cK (aH h)=true:=nD (au (ay h)) (fZ _)
theorem iW(h:List UInt8):aH h≠0:=xw (jF h)
theorem eF(zs:List Int)(m:Nat):aL zs m=true↔zs.getD m 0≠0:=by unfold aL;simp
theorem dW(zs:List Int)(m:Nat):aL zs m=false↔zs.getD m 0=0:=by unfold aL;simp
theorem ag1(h:List UInt8):dO (fJ h) 0=ak h:=by
 unfold dO fJ
 have h1:=dV h
 simp[List.take_append,h1]
theorem ag2(h:List UInt8):dO (fJ h) 1=ak (ak h):=by
 unfold dO fJ
 have h1:=dV h
 have h2:=dV (ak h)
 simp[List.take_append,List.drop_append,h1,h2]
theorem ag3(h:List UInt8):dO (fJ h) 2=ak (ak (ak h)):=by
 unfold dO fJ
 have h1:=dV h
 have h2:=dV (ak h)
 have h3:=dV (ak (ak h))
 have e1:List.drop 64 (ak h)=[]:=List.drop_eq_nil_of_le (by omega)
 have e2:List.take 32 (ak (ak (ak h)))=ak (ak (ak h)):=List.take_of_length_le (by omega)
 simp[List.take_append,List.drop_append,h1,h2,h3,e1,e2]
theorem nA{p:PS}(hb:p.ab.length=96){h:List UInt8}(hh:h.length=32){q k:Nat}(hq:q<3)(hk:k<3):dO (gF p q h).ab k=if k=q then h else dO p.ab k:=by
 show dO (p.ab.take (q*32)++(h++p.ab.drop (q*32+32))) k=_
 unfold dO
 have h1:(p.ab.take (q*32)).length=q*32:=by simp;omega
 by_cases e:k=q
 ·subst e
  rw[if_pos rfl,List.drop_append_of_le_length (by omega),List.drop_eq_nil_of_le (by omega),List.nil_append,List.take_append_of_le_length (by omega),List.take_of_length_le (by omega)]
 ·rw[if_neg e]
  rcases Nat.lt_or_ge k q with h2|h2
  ·rw[List.drop_append_of_le_length (by omega),List.take_append_of_le_length (by simp;omega),List.drop_take,List.take_take,show min 32 (q*32-k*32)=32 by omega]
  ·rw[List.drop_append,List.drop_eq_nil_of_le (by omega),List.nil_append,h1,List.drop_append,List.drop_eq_nil_of_le (by omega),List.nil_append,List.drop_drop,hh]
   congr 2
   omega
theorem rJ{p:PS}(hb:p.ab.length=96){h:List UInt8}(hh:h.length=32){q:Nat}(hq:q<3):(gF p q h).ab.length=96:=by
 show(p.ab.take (q*32)++(h++p.ab.drop (q*32+32))).length=96
 simp;omega
structure jT(p p':PS):Prop where
 e:p'.e=p.e
 zs:p'.zs=p.zs
 ad:p'.ad=p.ad
 k:p'.k=p.k
 ch:p'.ch=p.ch
 lf:p'.lf=p.lf
 sg:p'.sg=p.sg
 sc:p'.sc=p.sc
 ep:p'.ep=p.ep
 jE:p'.jE=p.jE
theorem jT.refl(p:PS):jT p p:=⟨rfl,rfl,rfl,rfl,rfl,rfl,rfl,rfl,rfl,rfl⟩
theorem jT.trans{p q r:PS}(h:jT p q)(k:jT q r):jT p r:=⟨k.1.trans h.1,k.2.trans h.2,k.3.trans h.3,k.4.trans h.4,k.5.trans h.5,k.6.trans h.6,k.7.trans h.7,k.8.trans h.8,k.9.trans h.9,k.10.trans h.10⟩
theorem jT.set(p:PS)(q:Nat)(h:List UInt8):jT p (gF p q h):=⟨rfl,rfl,rfl,rfl,rfl,rfl,rfl,rfl,rfl,rfl⟩
theorem zR{p:PS}(hb:p.ab.length=96){k:Nat}(hk:k<3):jT p (gT p k)∧(gT p k).ab.length=96∧
  (0<k→dO (gT p k).ab 0=if aL p.zs (16+n1 p.lf)=true then dO p.ab 0 else zB 32)∧(1<k→dO (gT p k).ab 1=if aL p.zs (16+n2 p.lf)=true then dO p.ab 1 else zB 32):=by
 have hz:(zB 32).length=32:=by simp
 have l0:(jM p).ab.length=96:=by unfold jM;split;exact hb;exact rJ hb hz (by decide)
 have s0:jT p (jM p):=by unfold jM;split;exact .refl p;exact .set p 0 _
 have a0:dO (jM p).ab 0=if aL p.zs (16+n1 p.lf)=true then dO p.ab 0 else zB 32:=by
  unfold jM;split
  ·rfl
  ·rw[nA hb hz (by decide) (by decide),if_pos rfl]
 have a1:dO (jM p).ab 1=dO p.ab 1:=by
  unfold jM;split
  ·rfl
  ·rw[nA hb hz (by decide) (by decide),if_neg (by decide)]
 have e1:(jM p).zs=p.zs:=s0.zs
 have e2:(jM p).lf=p.lf:=s0.lf
 have l1:(qc (jM p)).ab.length=96:=by unfold qc;split;exact l0;exact rJ l0 hz (by decide)
 have s1:jT p (qc (jM p)):=by unfold qc;split;exact s0;exact s0.trans (.set _ 1 _)
 have b0:dO (qc (jM p)).ab 0=dO (jM p).ab 0:=by
  unfold qc;split
  ·rfl
  ·rw[nA l0 hz (by decide) (by decide),if_neg (by decide)]
 have b1:dO (qc (jM p)).ab 1=if aL p.zs (16+n2 p.lf)=true then dO p.ab 1 else zB 32:=by
  unfold qc;rw[e1,e2];split
  ·exact a1
  ·rw[nA l0 hz (by decide) (by decide),if_pos rfl]
 unfold gT
 rcases(show k=0∨k=1∨k=2 by omega)with rfl|rfl|rfl
 ·exact⟨.refl p,hb,fun h=>absurd h (by decide),fun h=>absurd h (by decide)⟩
 ·exact⟨s0,l0,fun _=>a0,fun h=>absurd h (by decide)⟩
 ·exact⟨s1,l1,fun _=>b0.trans a0,fun _=>b1⟩
theorem jc{p:PS}(hb:p.ab.length=96){h:List UInt8}(hh:h.length=32){k:Nat}(hk:k<3)
  (c0:k=0→p.zs.getD (16+n1 p.lf) 0=aH h)(c1:k≤1→p.zs.getD (16+n2 p.lf) 0=aH (if k=1 then h else ak h))(c2:p.zs.getD 23 0=aH (if k=2 then h else if k=1 then ak h else ak (ak h))):
  (aW p h k).1=true∧(aW p h k).2.1=(if k=2 then ak h else if k=1 then ak (ak h)else ak (ak (ak h)))∧jT p (aW p h k).2.2∧(aW p h k).2.2.ab.length=96∧
  dO (aW p h k).2.2.ab 0=(if k=0 then h else dO p.ab 0)∧dO (aW p h k).2.2.ab 1=(if k=0 then ak h else if k=1 then h else dO p.ab 1)∧dO (aW p h k).2.2.ab 2=(if k=0 then ak (ak h)else if k=1 then ak h else h):=by
 have no:∀(q:PS) (x:List UInt8) (m:Nat),q.zs.getD m 0=aH x→¬JE q x m=true:=fun q x m e=>by unfold JE;rw[e];simp[aH]
 have top:∀(q:PS) (x:List UInt8),q.ab.length=96→x.length=32→q.zs.getD 23 0=aH x→(eU q x).1=true∧(eU q x).2.1=ak x∧jT q (eU q x).2.2∧(eU q x).2.2.ab.length=96∧dO (eU q x).2.2.ab 0=dO q.ab 0∧dO (eU q x).2.2.ab 1=dO q.ab 1∧dO (eU q x).2.2.ab 2=x:=fun q x hq hx e=>by
  unfold eU
  rw[if_neg (no q x 23 e)]
  exact⟨rfl,rfl,.set _ _ _,rJ hq hx (by decide),by rw[nA hq hx (by decide) (by decide),if_neg (by decide)],by rw[nA hq hx (by decide) (by decide),if_neg (by decide)],by rw[nA hq hx (by decide) (by decide),if_pos rfl]⟩
 have mid:∀(q:PS) (x:List UInt8),q.ab.length=96→x.length=32→q.zs.getD (16+n2 q.lf) 0=aH x→q.zs.getD 23 0=aH (ak x)→(dS q x).1=true∧(dS q x).2.1=ak (ak x)∧jT q (dS q x).2.2∧(dS q x).2.2.ab.length=96∧dO (dS q x).2.2.ab 0=dO q.ab 0∧dO (dS q x).2.2.ab 1=x∧dO (dS q x).2.2.ab 2=ak x:=fun q x hq hx e e2=>by
  unfold dS
  rw[if_neg (no q x _ e)]
  obtain⟨t1,t2,t3,t4,t5,t6,t7⟩:=top (gF q 1 x) (ak x) (rJ hq hx (by decide)) (dV x) e2
  exact⟨t1,t2,(jT.set q 1 x).trans t3,t4,by rw[t5,nA hq hx (by decide) (by decide),if_neg (by decide)],by rw[t6,nA hq hx (by decide) (by decide),if_pos rfl],t7⟩
 rcases(show k=0∨k=1∨k=2 by omega)with rfl|rfl|rfl
 ·have e0:=c0 rfl
  have e1:p.zs.getD (16+n2 p.lf) 0=aH (ak h):=c1 (by decide)
  have e2:p.zs.getD 23 0=aH (ak (ak h)):=c2
  have e:aW p h 0=dS (gF p 0 h) (ak h):=by
   unfold aW
   rw[if_pos rfl]
   unfold iO
   rw[if_neg (no p h _ e0)]
  obtain⟨t1,t2,t3,t4,t5,t6,t7⟩:=mid (gF p 0 h) (ak h) (rJ hb hh (by decide)) (dV h) e1 e2
  rw[e]
  refine⟨t1,t2.trans ?_,(jT.set p 0 h).trans t3,t4,?_,t6.trans ?_,t7.trans ?_⟩
  ·rw[if_neg (by decide),if_neg (by decide)]
  ·rw[t5,nA hb hh (by decide) (by decide),if_pos rfl]
  ·rw[if_pos rfl]
  ·rw[if_pos rfl]
 ·have e1:p.zs.getD (16+n2 p.lf) 0=aH h:=c1 (by decide)
  have e2:p.zs.getD 23 0=aH (ak h):=c2
  have e:aW p h 1=dS p h:=by unfold aW;rw[if_neg (by decide),if_pos rfl]
  obtain⟨t1,t2,t3,t4,t5,t6,t7⟩:=mid p h hb hh e1 e2
  rw[e]
  refine⟨t1,t2.trans ?_,t3,t4,t5.trans ?_,t6.trans ?_,t7.trans ?_⟩
  ·rw[if_neg (by decide),if_pos rfl]
  ·rw[if_neg (by decide)]
  ·rw[if_neg (by decide),if_pos rfl]
  ·rw[if_neg (by decide),if_pos rfl]
 ·have e2:p.zs.getD 23 0=aH h:=c2
  have e:aW p h 2=eU p h:=by unfold aW;rw[if_neg (by decide),if_neg (by decide)]
  obtain⟨t1,t2,t3,t4,t5,t6,t7⟩:=top p h hb hh e2
  rw[e]
  refine⟨t1,t2.trans ?_,t3,t4,t5.trans ?_,t6.trans ?_,t7.trans ?_⟩
  ·rw[if_pos rfl]
  ·rw[if_neg (by decide)]
  ·rw[if_neg (by decide),if_neg (by decide)]
  ·rw[if_neg (by decide),if_neg (by decide)]
end
section
open Pm
theorem Eo{zs:List Int}:∀(d:Nat) (n m:Int),m∈dI d zs n→bB zs m≠0
 |0,n,m,h=>by
  unfold dI at h
  split at h
  ·cases h
  ·next hk=>rw[List.mem_singleton.1 h];exact hk
 |d+1,n,m,h=>by
  unfold dI at h
  split at h
  ·split at h
   ·rcases List.mem_append.1 h with h|h
    ·exact Eo d _ m h
    ·exact Eo d _ m h
   ·cases h
  ·next hk=>rw[List.mem_singleton.1 h];exact hk
theorem uP{zs:List Int}{bt:List Bool}{x:Int}:∀n,∀q∈bA zs bt x n,bB zs q.2≠0
 |0,q,h=>by simp[bA]at h
 |n+1,q,h=>by
  rw[bA,List.mem_append]at h
  rcases h with h|h
  ·exact uP n q h
  ·unfold dX at h
   obtain⟨m,hm,rfl⟩:=List.mem_map.1 h
   exact Eo 3 _ m (List.mem_filter.1 hm).1
theorem Qf{l:List (Int×Int)}{lf:Int}(h:∃q∈l,aI q.2 lf=true):dz l lf<l.length∧aI (l.getD (dz l lf) (0,0)).2 lf=true∧l.getD (dz l lf) (0,0)∈l:=by
 have h1:dz l lf<l.length:=List.findIdx_lt_length_of_exists h
 have h2:l.getD (dz l lf) (0,0)=l[dz l lf]:=by rw[List.getD_eq_getElem?_getD,List.getElem?_eq_getElem h1];rfl
 rw[h2]
 exact⟨h1,List.findIdx_getElem (w:=h1),List.getElem_mem h1⟩
theorem qG{m lf:Int}(h:aI m lf=true):m=2*lf∨m=lf / 2*4+1∨m=lf / 4*8+3∨m=7:=by
 unfold aI at h
 simp only[Bool.and_eq_true,Bool.or_eq_true,decide_eq_true_eq]at h
 rcases h.2 with((h|h)|h)|h<;>simp[h]
theorem rA{zs:List Int}(hz:zs.length=31){fr:Int}(f0:0≤fr)(f1:fr<8)(sl a b c:Int){j:Nat}(hj:j<8):bq (fM zs fr sl a b c) j=if j=fr.toNat then[zs.getD (fr.toNat*2) 0,sl]else bq zs j:=by
 have hl:=J2 hz fr sl a b c
 rw[iG (by omega) hj,kS hz f0 f1,kS hz f0 f1,iG (by omega) hj]
 unfold n1 n2
 by_cases e:j=fr.toNat
 ·rw[if_neg (by omega),if_neg (by omega),if_neg (by omega),if_neg (by omega),if_neg (by omega),if_neg (by omega),if_neg (by omega),if_pos (by omega),if_pos e,e]
 ·rw[if_neg (by omega),if_neg (by omega),if_neg (by omega),if_neg (by omega),if_neg (by omega),if_neg (by omega),if_neg (by omega),if_neg (by omega),if_neg e]
theorem aq4{zs:List Int}(hz:zs.length=31)(h:rQ zs=true){fr:Int}(f0:0≤fr)(f1:fr<8){sl a b c x y:Int}(hx:bq zs fr.toNat=[x,y])(ix:cK x=true)(i0:cK sl=true)(i1:cK a=true)(i2:cK b=true)(i3:cK c=true):rQ (fM zs fr sl a b c)=true:=by
 obtain⟨h1,h2⟩:=(BU zs).1 h
 refine(BU _).2 ⟨fun k hk=>?_,fun k hk=>?_⟩
 ·have e:=rA hz f0 f1 sl a b c hk
  by_cases hki:k=fr.toNat
  ·rw[if_pos hki]at e
   have hx2:=hx
   rw[iG (by omega) (by omega)]at hx2
   have e1:zs.getD (fr.toNat*2) 0=x:=(List.cons.inj hx2).1
   rw[e1]at e
   exact Gd e ix i0
  ·rw[if_neg hki]at e
   rw[Gc e];exact h1 k hk
 ·have:=h2 k hk
  rw[DW hk]at this ⊢
  rw[kS hz f0 f1]
  unfold n1 n2
  have odd:∀v:Int,cK v=true→(k:Int)%2=1→(decide (v=0)||(!((k:Int).tmod 2==0)&&cK v))=true:=fun v hv ho=>by
   have:(k:Int).tmod 2=1:=by rw[Int.tmod_eq_emod_of_nonneg (by omega)];exact ho
   rw[this,hv];simp
  split
  ·exact odd c i3 (by omega)
  ·split
   ·exact odd b i2 (by omega)
   ·split
    ·exact odd a i1 (by omega)
    ·rw[if_neg (by omega)];exact this
theorem K7{zs:List Int}(hz:zs.length=31){fr:Int}(f0:0≤fr)(f1:fr<8)(sl a b c:Int){j:Nat}(hj:j<8)(hs:sl≠0)(h:dK zs j=true):dK (fM zs fr sl a b c) j=true:=by
 unfold dK at h ⊢
 rw[rA hz f0 f1 sl a b c hj]
 split
 ·simp[hs]
 ·exact h
theorem ar6{zs0:List Int}{s:Vw}(g:Goes zs0 s)(hk:s.k≤((jq s.ad:Nat):Int)){fr:Int}(f0:0≤fr)(f1:fr<8){sl a b c x y:Int}(hx:bq s.zs fr.toNat=[x,y])(ix:cK x=true)(i0:cK sl=true)(i1:cK a=true)(i2:cK b=true)(i3:cK c=true){e:Int}(e0:0≤e)(e1:e≤1099511627776):
  dQ e (fM s.zs fr sl a b c) s.ad s.k=true:=by
 refine mV.2 ⟨e0,e1,aq4 g.zl g.t f0 f1 hx ix i0 i1 i2 i3,?_,g.k,hk⟩
 rw[ku]
 intro i hi ha
 exact K7 g.zl f0 f1 sl a b c hi (xw i0) ((ku _ _).1 g.adm i hi ha)
theorem comE_0{q:PS}{n:Nat}{ops:List Int}{m:Nat}{vs:List Int}(h:bZ q n ops m vs=0):bX q.e q.zs q.ad q.k q.ch q.lf ops n vs m=0∧(dh q.e ⟨q.zs,q.ad,q.k,F8,F8⟩ q.lf ops n).1=0∧q.e<1099511627776:=by
 unfold bZ at h
 by_cases h1:bX q.e q.zs q.ad q.k q.ch q.lf ops n vs m=0
 ·rw[if_neg (fun x=>x h1)]at h
  by_cases h2:(dh q.e ⟨q.zs,q.ad,q.k,F8,F8⟩ q.lf ops n).1=0
  ·rw[if_neg (fun x=>x h2)]at h
   refine⟨h1,h2,?_⟩
   by_cases h3:q.e≥1099511627776
   ·rw[if_pos h3]at h;cases h
   ·omega
  ·rw[if_pos h2]at h;exact absurd h h2
 ·rw[if_pos h1]at h;exact absurd h h1
theorem Own.mem{p:PS}(h:Own p):dK p.zs p.lf.toNat=true:=Rq h.lf (nD _ (fZ _))
theorem Own.bn{p:PS}(h:Own p):bn p.zs p.lf=true:=by
 unfold Go.Proofs.YtjdjelopkhjdnaaGreatDoor.bn
 rw[h.mem]
 have h0:=h.inv.lf0
 have h1:=h.inv.lf1
 simp[aG,h0,h1]
theorem Own.num{p:PS}(h:Own p):p.zs.getD (p.lf.toNat*2) 0=aA 4 (au p.sg)∧p.zs.getD (p.lf.toNat*2+1) 0=aH p.sc:=by
 have h1:=h.lf
 have z:=h.inv.zl
 have l0:=h.inv.lf0
 have l1:=h.inv.lf1
 rw[iG (by omega) (by omega)]at h1
 exact⟨(List.cons.inj h1).1,(List.cons.inj (List.cons.inj h1).2).1⟩
theorem pE(p:PS)(s:Vw)(n:Nat)(ops:List Int)(m:Nat)(vs:List Int)(d:List UInt8):(aJ p s n ops m vs d).zs=fM s.zs p.lf (aH (aC d)) (aH (ak (aC d))) (aH (ak (ak (aC d)))) (aH (ak (ak (ak (aC d))))):=by
 dsimp only[aJ,bG,dU,gu,iM,iH]
theorem yB{q:PS}(hq:Own q){n:Nat}{ops:List Int}{m:Nat}{vs:List Int}(hc:bZ q n ops m vs=0)(d:List UInt8):Own (aJ q (dZ q q.lf n ops) n ops m vs d):=by
 obtain⟨h1,h2,h3⟩:=comE_0 hc
 obtain⟨g,gk,gm,_⟩:=vE hq.inv.zl hq.inv.al h2
 obtain⟨l0,l1⟩:=(⟨hq.inv.lf0,hq.inv.lf1⟩:0≤q.lf∧q.lf<8)
 have hst:Ct q.zs q.lf.toNat (dZ q q.lf n ops):=by
  have e:((q.lf.toNat:Nat):Int)=q.lf:=by omega
  have h2':=h2
  rw[←e]at h2'
  have:=(vY hq.inv.zl hq.inv.al h2').2
  rw[e]at this
  exact this
 obtain⟨e0,_⟩:=mV.1 gm
 have hg:Goes q.zs (dZ q q.lf n ops):=g
 have hgk:(dZ q q.lf n ops).k≤((jq (dZ q q.lf n ops).ad:Nat):Int):=gk
 generalize dZ q q.lf n ops=s at hst hg hgk
 have hx:bq s.zs q.lf.toNat=[aA 4 (au q.sg),aH q.sc]:=hst.own.trans hq.lf
 have ix:cK (aA 4 (au q.sg))=true:=nD _ (fZ _)
 have y0:=jF (aC d)
 have y1:=jF (ak (aC d))
 have y2:=jF (ak (ak (aC d)))
 have y3:=jF (ak (ak (ak (aC d))))
 obtain⟨zs,hzs⟩:∃zs,zs=fM s.zs q.lf (aH (aC d)) (aH (ak (aC d))) (aH (ak (ak (aC d)))) (aH (ak (ak (ak (aC d))))):=⟨_,rfl⟩
 have ez:(aJ q s n ops m vs d).zs=zs:=(pE q s n ops m vs d).trans hzs.symm
 have hlen:zs.length=31:=by rw[hzs];exact J2 hg.zl _ _ _ _ _
 have get:=kS hg.zl l0 l1 (aH (aC d)) (aH (ak (aC d))) (aH (ak (ak (aC d)))) (aH (ak (ak (ak (aC d)))))
 rw[←hzs]at get
 have g0:zs.getD (16+n1 q.lf) 0=aH (ak (aC d)):=by rw[get];unfold n1 n2;rw[if_neg (by omega),if_neg (by omega),if_pos rfl]
 have g1:zs.getD (16+n2 q.lf) 0=aH (ak (ak (aC d))):=by rw[get];unfold n2;rw[if_neg (by omega),if_pos rfl]
 have g2:zs.getD 23 0=aH (ak (ak (ak (aC d)))):=by rw[get,if_pos rfl]
 have FN:(aJ q s n ops m vs d).ab=fJ (aC d):=rfl
 have Kk:(aJ q s n ops m vs d).lf=q.lf:=rfl
 have yes:∀{k:Nat} {x:List UInt8} {P:Prop},zs.getD k 0=aH x→aL zs k=false→P:=fun e h=>((iW _) (e.symm.trans ((dW _ _).1 h))).elim
 refine⟨⟨l0,l1,by rw[ez];exact hlen,hg.al,WZ _ _,hq.inv.gl,nM d,by rw[FN];exact wh _,X6 _ _,KT _,?_,?_,?_⟩,?_,?_,?_,?_,?_⟩
 ·rw[ez,Kk];exact yes g0
 ·rw[ez,Kk];exact yes g1
 ·rw[ez];exact yes g2
 ·show dQ (q.e+1) (aJ q s n ops m vs d).zs s.ad s.k=true
  rw[ez,hzs]
  exact ar6 hg hgk l0 l1 hx ix y0 y1 y2 y3 (by omega) (by omega)
 ·show bq (aJ q s n ops m vs d).zs q.lf.toNat=[aA 4 (au q.sg),aH (aC d)]
  rw[ez,hzs,rA hg.zl l0 l1 _ _ _ _ (by omega),if_pos rfl]
  have h4:=hx
  rw[iG (by have:=hg.zl;omega) (by omega)]at h4
  rw[(List.cons.inj h4).1]
 ·intro _;rw[ez,Kk,FN,ag1];exact g0
 ·intro _;rw[ez,Kk,FN,ag2];exact g1
 ·intro _;rw[ez,FN,ag3];exact g2
end
section
open Pm
section
variable (q : PS) (s : Vw) (n : Nat) (ops : List Int) (m : Nat) (vs : List Int) (d : List UInt8)
theorem aI6:(bS q s n ops m vs d).e=q.e:=by dsimp only[bS,iH]
theorem Ib:(bS q s n ops m vs d).fr=q.lf:=by dsimp only[bS,iH]
theorem aI9:(bS q s n ops m vs d).n=n:=by dsimp only[bS,iH]
theorem Xk:(bS q s n ops m vs d).ops=ops:=by dsimp only[bS,iH]
theorem aI8:(bS q s n ops m vs d).m=m:=by dsimp only[bS,iH]
theorem am8:(bS q s n ops m vs d).vs=vs:=by dsimp only[bS,iH]
theorem am7:(bS q s n ops m vs d).sl=aH (aC d):=by dsimp only[bS,iH]
theorem am2:(bS q s n ops m vs d).p0=aH (ak (aC d)):=by dsimp only[bS,iH]
theorem am3:(bS q s n ops m vs d).p1=aH (ak (ak (aC d))):=by dsimp only[bS,iH]
theorem am4:(bS q s n ops m vs d).p2=aH (ak (ak (ak (aC d)))):=by dsimp only[bS,iH]
theorem aI7:(bS q s n ops m vs d).k=(aR s.zs q.lf s.ng).length:=by dsimp only[bS,iH]
theorem am0(j:Nat):(bS q s n ops m vs d).bx j=bI (bB s.zs ((aR s.zs q.lf s.ng).getD j (0,0)).2) (au (fU d (j:Nat))) (dO (fJ (aC d)) ((aR s.zs q.lf s.ng).getD j (0,0)).1.toNat):=by dsimp only[bS,iH,qJ,Az]
theorem Kg:(bS q s n ops m vs d).tag=dY (aJ q s n ops m vs d).ep:=by dsimp only[bS]
theorem FD:aU (bS q s n ops m vs d)=aU (iH q s n ops m vs d):=by unfold aU kY lV;dsimp only[bS]
theorem am5:(bS q s n ops m vs d).sE=jm (au q.sg) (aU (iH q s n ops m vs d)++dY (aJ q s n ops m vs d).ep):=by dsimp only[bS]
theorem am6:(bS q s n ops m vs d).sS=jQ (au q.sg) (aU (iH q s n ops m vs d)++dY (aJ q s n ops m vs d).ep):=by dsimp only[bS]
end
section
variable (q : PS) (s : Vw) (n : Nat) (ops : List Int) (m : Nat) (vs : List Int) (d : List UInt8)
theorem K9:(aJ q s n ops m vs d).ep=mO (bT q d) (aT (aJ q s n ops m vs d).e (aJ q s n ops m vs d).zs (aJ q s n ops m vs d).ad (aJ q s n ops m vs d).k (aJ q s n ops m vs d).ch):=by
 dsimp only[aJ,bG,dU]
theorem Gg:(aJ q s n ops m vs d).jE=zS (aJ q s n ops m vs d).ep:=by
 dsimp only[aJ,bG,dU]
end
theorem Like.dZ{p q:PS}(h:Like p q)(fr:Int)(n:Nat)(ops:List Int):dZ p fr n ops=dZ q fr n ops:=by
 unfold Go.Proofs.YtjdjelopkhjdnaaGreatDoor.dZ;rw[h.e,h.zs,h.ad,h.k]
theorem Like.jR{p q:PS}(h:Like p q)(fr:Int)(n:Nat)(ops:List Int)(m:Nat)(vs:List Int):jR p fr n ops m vs=jR q fr n ops m vs:=by
 unfold Go.Proofs.YtjdjelopkhjdnaaGreatDoor.jR;rw[h.e,h.zs,h.ad,h.k,h.ch]
theorem apE_0{q:PS}{n:Nat}{ops:List Int}{m:Nat}{vs:List Int}(h:bZ q n ops m vs=0):jR q q.lf n ops m vs=0:=by
 obtain⟨h1,h2,_⟩:=comE_0 h
 unfold jR
 rw[if_neg (fun x=>x h1)]
 exact h2
theorem aH8{p q:PS}(hq:Own q)(hl:Like p q)(hne:p.lf≠q.lf)(s:Vw)(n:Nat)(ops:List Int)(m:Nat)(vs:List Int)(d:List UInt8):qX p (bS q s n ops m vs d)=0:=by
 obtain⟨c,hc⟩:∃c,c=bS q s n ops m vs d:=⟨_,rfl⟩
 have e1:c.e=q.e:=by rw[hc,aI6]
 have e2:c.fr=q.lf:=by rw[hc,Ib]
 have e3:aU c=aU (iH q s n ops m vs d):=by rw[hc,FD]
 have e4:c.tag=dY (aJ q s n ops m vs d).ep:=by rw[hc,Kg]
 have e5:c.sE=jm (au q.sg) (aU (iH q s n ops m vs d)++dY (aJ q s n ops m vs d).ep):=by rw[hc,am5]
 have e6:c.sS=jQ (au q.sg) (aU (iH q s n ops m vs d)++dY (aJ q s n ops m vs d).ep):=by rw[hc,am6]
 rw[←hc]
 unfold qX
 rw[e1,e2,e3,e4,e5,e6,hl.e,hl.zs,if_neg (fun h=>h rfl),hq.bn,hq.num.1,if_neg (by rintro(h|h);exact hne h.symm;cases h),ag8 _ _ (fZ _),if_pos rfl]
theorem KX{zs:List Int}{k:Int}(k0:0≤k)(k1:k<15)(ho:k%2≠0):bB zs k=zs.getD (16+k.toNat) 0:=by
 unfold bB;rw[if_pos ⟨k0,k1⟩,if_neg ho]
theorem ax1{p:PS}(hp:Own p){s:Vw}(hg:Goes p.zs s)(hl:bq s.zs p.lf.toNat=bq p.zs p.lf.toNat)(pp:PS)(e1:pp.lf=p.lf)(e2:pp.sc=p.sc)(e3:pp.ab=p.ab){k:Int}(hu:aI k p.lf=true)(hk:bB s.zs k≠0):bB s.zs k=aH (kW pp k)∧(kW pp k).length=32:=by
 have l0:=hp.inv.lf0
 have l1:=hp.inv.lf1
 unfold kW
 rw[e1,e2,e3]
 have node:∀(i:Nat) (t:Int),i<3→k=t→0≤t→t<15→t%2≠0→aP p.lf t=i→(aL p.zs (16+t.toNat)=true→p.zs.getD (16+t.toNat) 0=aH (dO p.ab i))→bB s.zs k=aH (if k=2*p.lf then p.sc else dO p.ab (aP p.lf k).toNat)∧(if k=2*p.lf then p.sc else dO p.ab (aP p.lf k).toNat).length=32:=by
  rintro i t hi rfl t0 t1 ho hpl hkey
  rw[KX t0 t1 ho]at hk ⊢
  rw[if_neg (by omega),hpl,Int.toNat_natCast]
  refine⟨?_,eT hp.inv.bl hi⟩
  rcases hg.nd (16+k.toNat) (by omega)with h|h
  ·exact absurd h hk
  ·rw[h]at hk ⊢
   exact hkey ((eF _ _).2 hk)
 rcases qG hu with h|h|h|h
 ·rw[if_pos h]
  refine⟨?_,hp.inv.sl⟩
  have e:k=2*((p.lf.toNat:Nat):Int):=by omega
  rw[e,zV _ (by omega)]
  have h4:=hl.trans hp.lf
  rw[iG (by have:=hg.zl;omega) (by omega)]at h4
  exact(List.cons.inj (List.cons.inj h4).2).1
 ·refine node 0 _ (by decide) h (by omega) (by omega) (by omega) ?_ hp.k0
  unfold aP pY;rw[if_pos rfl];rfl
 ·refine node 1 _ (by decide) h (by omega) (by omega) (by omega) ?_ hp.k1
  unfold aP pY;rw[if_neg (by omega),if_pos rfl];rfl
 ·refine node 2 7 (by decide) h (by omega) (by omega) (by omega) ?_ hp.k2
  unfold aP pY;rw[if_neg (by omega),if_neg (by omega),if_pos rfl];rfl
theorem Rp{a b:Int}(a0:0≤a)(a1:a<8)(b0:0≤b)(b1:b<8)(hne:b≠a){k:Nat}(hk:k<3)(h:(jY a).getD k 0=aD a b):(k=0→n1 b=n1 a∧n2 b=n2 a)∧(k=1→n2 b=n2 a∧n1 b≠n1 a)∧(k=2→n2 b≠n2 a∧n1 b≠n1 a):=by
 have la:aG a=true:=by simp[aG,a0,a1]
 have lb:aG b=true:=by simp[aG,b0,b1]
 unfold jY aD at h
 rw[la,lb]at h
 simp only[and_self,if_true]at h
 rw[if_neg (fun e=>hne e.symm)]at h
 unfold n1 n2
 rcases(show k=0∨k=1∨k=2 by omega)with rfl|rfl|rfl
 ·simp only[List.getD_cons_zero]at h
  refine⟨fun _=>?_,fun h=>absurd h (by decide),fun h=>absurd h (by decide)⟩
  split at h
  ·omega
  ·split at h<;>omega
 ·simp only[List.getD_cons_zero,List.getD_cons_succ]at h
  refine⟨fun h=>absurd h (by decide),fun _=>?_,fun h=>absurd h (by decide)⟩
  split at h
  ·omega
  ·split at h<;>omega
 ·simp only[List.getD_cons_zero,List.getD_cons_succ]at h
  refine⟨fun h=>absurd h (by decide),fun h=>absurd h (by decide),fun _=>?_⟩
  split at h
  ·omega
  ·split at h<;>omega
theorem aM9{p q:PS}(hp:Own p)(hq:Own q)(hl:Like p q)(hne:p.lf≠q.lf){n:Nat}{ops:List Int}{m:Nat}{vs:List Int}(hc:bZ q n ops m vs=0)(d:List UInt8){s:Vw}(hs:s=dZ q q.lf n ops)(hgn:s.gn.getD p.lf.toNat false=false){c:CS}(hcm:c=bS q s n ops m vs d):
  ∃p2,o7 (gu p s c) c (aR s.zs q.lf s.ng)=(0,uY (aC d),p2)∧jT (gu p s c) p2∧p2.ab.length=96∧
   (∀i,i<3→(dO p2.ab i).length=32)∧
   (gu p s c).zs=fM s.zs q.lf (aH (aC d)) (aH (ak (aC d))) (aH (ak (ak (aC d)))) (aH (ak (ak (ak (aC d)))))∧
   Goes p.zs s∧bq s.zs p.lf.toNat=bq p.zs p.lf.toNat∧
   ((n1 p.lf=n1 q.lf∧dO p2.ab 0=ak (aC d))∨(n1 p.lf≠n1 q.lf∧dO p2.ab 0=if aL s.zs (16+n1 p.lf)=true then dO p.ab 0 else zB 32))∧
   ((n2 p.lf=n2 q.lf∧dO p2.ab 1=ak (ak (aC d)))∨(n2 p.lf≠n2 q.lf∧dO p2.ab 1=if aL s.zs (16+n2 p.lf)=true then dO p.ab 1 else zB 32))∧
   dO p2.ab 2=ak (ak (ak (aC d))):=by
 obtain⟨h1,h2,h3⟩:=comE_0 hc
 obtain⟨g,gk,gm,_⟩:=vE hq.inv.zl hq.inv.al h2
 have hg:Goes p.zs s:=by rw[hl.zs,hs];exact g
 have p0:=hp.inv.lf0
 have p1:=hp.inv.lf1
 have q0:=hq.inv.lf0
 have q1:=hq.inv.lf1
 have hkp:Keep p.zs p.lf.toNat s:=by
  have:=Iz (j:=p.lf.toNat) hq.inv.zl (by omega) (by rw[←hl.zs];exact hp.mem) h2
  rw[hl.zs,hs];exact this
 obtain⟨hm,hlf,qd⟩:dK s.zs p.lf.toNat=true∧bq s.zs p.lf.toNat=bq p.zs p.lf.toNat∧s.ng.getD p.lf.toNat false=false:=by
  rcases hkp.or with h|h
  ·rw[hgn]at h;cases h
  ·exact h
 have ei:((p.lf.toNat:Nat):Int)=p.lf:=by omega
 have ej:((q.lf.toNat:Nat):Int)=q.lf:=by omega
 obtain⟨l,hL⟩:∃l,l=aR s.zs q.lf s.ng:=⟨_,rfl⟩
 have hL3:l=bA s.zs s.ng q.lf 3:=by rw[hL];unfold aR;rw[if_pos (by simp[aG,q0,q1])]
 have hne2:p.lf.toNat≠q.lf.toNat:=by omega
 have hsl:s.zs.getD (p.lf.toNat*2+1) 0≠0:=by
  have h4:=hlf.trans hp.lf
  rw[iG (by have:=hg.zl;omega) (by omega)]at h4
  rw[(List.cons.inj (List.cons.inj h4).2).1]
  exact iW _
 have hcount:=(Jc s.zs s.ng (x:=q.lf.toNat) (i:=p.lf.toNat) (by omega) (by omega) hne2).2 qd hsl
 rw[ej,←hL3]at hcount
 have hex:∃r∈l,aI r.2 p.lf=true:=by
  unfold V8 at hcount
  obtain⟨r,hr,hr2⟩:=List.countP_pos_iff.1 (by rw[hcount];decide:0<l.countP fun p_1=>aI p_1.2 ((p.lf.toNat:Nat):Int))
  exact⟨r,hr,by rw[ei]at hr2;exact hr2⟩
 obtain⟨f1,f2,f3⟩:=Qf hex
 have hat:=Ad s.zs s.ng (x:=q.lf.toNat) (i:=p.lf.toNat) (by omega) (by omega) hne2 3 (Nat.le_refl _) (l.getD (dz l p.lf) (0,0)) (by rw[ej,←hL3];exact f3)
 rw[ei,ej]at hat
 obtain⟨⟨r0,r1⟩,DC⟩:=hat
 have Rf:bB s.zs (l.getD (dz l p.lf) (0,0)).2≠0:=uP (bt:=s.ng) (x:=q.lf) 3 _ (by rw[←hL3];exact f3)
 have YK:c.bx (dz l p.lf)=bI (bB s.zs (l.getD (dz l p.lf) (0,0)).2) (au (fU d (dz l p.lf:Nat))) (dO (fJ (aC d)) (l.getD (dz l p.lf) (0,0)).1.toNat):=by
  rw[hcm,hL,am0]
 have ck:c.k=l.length:=by rw[hcm,hL,aI7]
 have cfr:c.fr=q.lf:=by rw[hcm,Ib]
 have csl:c.sl=aH (aC d):=by rw[hcm,am7]
 have cp0:c.p0=aH (ak (aC d)):=by rw[hcm,am2]
 have cp1:c.p1=aH (ak (ak (aC d))):=by rw[hcm,am3]
 have cp2:c.p2=aH (ak (ak (ak (aC d)))):=by rw[hcm,am4]
 have hkeys:lQ c=true:=by unfold lQ;rw[csl,cp0,cp1,cp2,jF,jF,jF,jF];rfl
 obtain⟨pp,hpp⟩:∃pp,pp=gu p s c:=⟨_,rfl⟩
 have Z7:pp.lf=p.lf:=by rw[hpp];dsimp only[gu]
 have pps:pp.sc=p.sc:=by rw[hpp];dsimp only[gu]
 have ppa:pp.ab=p.ab:=by rw[hpp];dsimp only[gu]
 have ppz:pp.zs=fM s.zs q.lf (aH (aC d)) (aH (ak (aC d))) (aH (ak (ak (aC d)))) (aH (ak (ak (ak (aC d))))):=by
  have:pp.zs=fM s.zs c.fr c.sl c.p0 c.p1 c.p2:=by rw[hpp];dsimp only[gu]
  rw[this,cfr,csl,cp0,cp1,cp2]
 rw[←hpp,←hL]
 clear hcm hL hpp hcount hex f3 hL3
 obtain⟨i,hi⟩:∃i,dz l p.lf=i:=⟨_,rfl⟩
 rw[hi]at f1 f2 DC Rf YK r0 r1
 obtain⟨rk,rn,hr⟩:∃rk rn,l.getD i (0,0)=(rk,rn):=⟨_,_,rfl⟩
 rw[hr]at f2 DC Rf YK r0 r1
 simp only at f2 DC Rf YK r0 r1
 obtain⟨k,hk⟩:=Int.eq_ofNat_of_zero_le r0
 have hk3:k<3:=by omega
 have ek:rk.toNat=k:=by omega
 rw[ek]at DC YK
 obtain⟨u0,u1,u2⟩:=Rp q0 q1 p0 p1 hne hk3 (DC f2)
 obtain⟨s1,s2⟩:=ax1 hp hg hlf pp Z7 pps ppa f2 Rf
 obtain⟨b1,b2,b3⟩:=J6 (ay (kW pp rn)) (fU d (i:Nat)) (dO (fJ (aC d)) k) (by rw[eT (wh _) hk3];decide)
 have hb:c.bx i=bI (aA 4 (au (ay (kW pp rn)))) (au (fU d (i:Nat))) (dO (fJ (aC d)) k):=by rw[YK,s1];rfl
 rw[←hb]at b1 b2 b3
 have by4:qP (kW pp rn) (c.bx i)=0:=by
  unfold qP
  rw[if_neg (fun x=>x b1),b3,eT (wh _) hk3,if_neg (by decide)]
 have hbl:pp.ab.length=96:=by rw[ppa];exact hp.inv.bl
 obtain⟨w1,w2,w3,w4⟩:=zR hbl hk3
 have get:=kS hg.zl q0 q1 (aH (aC d)) (aH (ak (aC d))) (aH (ak (ak (aC d)))) (aH (ak (ak (ak (aC d)))))
 rw[←ppz]at get
 have z2:pp.zs.getD 23 0=aH (ak (ak (ak (aC d)))):=by rw[get,if_pos rfl]
 have z1:n2 p.lf=n2 q.lf→pp.zs.getD (16+n2 p.lf) 0=aH (ak (ak (aC d))):=fun e=>by rw[get,e];unfold n2;rw[if_neg (by omega),if_pos rfl]
 have z0:n1 p.lf=n1 q.lf→pp.zs.getD (16+n1 p.lf) 0=aH (ak (aC d)):=fun e=>by rw[get,e];unfold n1 n2;rw[if_neg (by omega),if_neg (by omega),if_pos rfl]
 have y1:n2 p.lf≠n2 q.lf→aL pp.zs (16+n2 p.lf)=aL s.zs (16+n2 p.lf):=fun e=>by
  unfold aL;rw[get];unfold n1 n2 at*;rw[if_neg (by omega),if_neg (by omega),if_neg (by omega),if_neg (by omega)]
 have y0:n1 p.lf≠n1 q.lf→aL pp.zs (16+n1 p.lf)=aL s.zs (16+n1 p.lf):=fun e=>by
  unfold aL;rw[get];unfold n1 n2 at*;rw[if_neg (by omega),if_neg (by omega),if_neg (by omega),if_neg (by omega)]
 have hhl:(dO (fJ (aC d)) k).length=32:=eT (wh _) hk3
 have hup:dO (fJ (aC d)) k=(if k=0 then ak (aC d)else if k=1 then ak (ak (aC d))else ak (ak (ak (aC d)))):=by
  rcases(show k=0∨k=1∨k=2 by omega)with rfl|rfl|rfl
  ·exact ag1 _
  ·exact ag2 _
  ·exact ag3 _
 have flf:(gT pp k).lf=p.lf:=w1.lf.trans Z7
 obtain⟨t1,t2,t3,t4,t5,t6,t7⟩:=jc (p:=gT pp k) w2 hhl hk3 (fun e=>by rw[w1.zs,flf,z0 (u0 e).1,hup,if_pos e]) (fun e=>by
   rw[w1.zs,flf,hup]
   rcases(show k=0∨k=1 by omega)with rfl|rfl
   ·rw[z1 (u0 rfl).2];rfl
   ·rw[z1 (u1 rfl).1];rfl) (by
   rw[w1.zs,z2,hup]
   rcases(show k=0∨k=1∨k=2 by omega)with rfl|rfl|rfl<;>rfl)
 have bx2:o7 pp c l=(0,(aW (gT pp k) (dO (fJ (aC d)) k) k).2):=by
  unfold o7
  rw[Z7,hi,hr]
  show(if lQ c=false∨c.k≠l.length∨i=l.length then _ else if qP (kW pp rn) (c.bx i)≠0 then _ else if(aW (gT pp rk.toNat) (bg (au (ay (kW pp rn))) (c.bx i)) rk.toNat).1=true then _ else _)=_
  rw[if_neg (by rw[hkeys];rintro(h|h|h);cases h;exact h ck;omega),by4,if_neg (fun x=>x rfl),ek,b2,if_pos t1]
 have ht:(aW (gT pp k) (dO (fJ (aC d)) k) k).2.1=uY (aC d):=by
  rw[t2,hup]
  rcases(show k=0∨k=1∨k=2 by omega)with rfl|rfl|rfl<;>rfl
 refine⟨(aW (gT pp k) (dO (fJ (aC d)) k) k).2.2,bx2.trans (Prod.ext rfl (Prod.ext ht rfl)),w1.trans t3,t4,fun i hi=>eT t4 hi,ppz,hg,hlf,?_,?_,?_⟩
 ·rw[t5,hup]
  rcases(show k=0∨k=1∨k=2 by omega)with rfl|rfl|rfl
  ·exact .inl ⟨(u0 rfl).1,rfl⟩
  ·refine .inr ⟨(u1 rfl).2,?_⟩
   rw[if_neg (by decide),w3 (by decide),Z7,y0 (u1 rfl).2,ppa]
  ·refine .inr ⟨(u2 rfl).2,?_⟩
   rw[if_neg (by decide),w3 (by decide),Z7,y0 (u2 rfl).2,ppa]
 ·rw[t6,hup]
  rcases(show k=0∨k=1∨k=2 by omega)with rfl|rfl|rfl
  ·exact .inl ⟨(u0 rfl).2,rfl⟩
  ·exact .inl ⟨(u1 rfl).1,rfl⟩
  ·refine .inr ⟨(u2 rfl).1,?_⟩
   rw[if_neg (by decide),if_neg (by decide),w4 (by decide),Z7,y1 (u2 rfl).1,ppa]
 ·rw[t7,hup]
  rcases(show k=0∨k=1∨k=2 by omega)with rfl|rfl|rfl<;>rfl
theorem RO{p q:PS}(hp:Own p)(hq:Own q)(hl:Like p q)(hne:p.lf≠q.lf){n:Nat}{ops:List Int}{m:Nat}{vs:List Int}(hc:bZ q n ops m vs=0)(d:List UInt8){s:Vw}(hs:s=dZ q q.lf n ops):
  (s.gn.getD p.lf.toNat false=true→gD p (bS q s n ops m vs d)=(0,none))∧
  (s.gn.getD p.lf.toNat false=false→∃p',gD p (bS q s n ops m vs d)=(0,some p')∧Own p'∧Like p' (aJ q s n ops m vs d)∧p'.lf=p.lf∧p'.sg=p.sg):=by
 have hacc:=aH8 hq hl hne s n ops m vs d
 obtain⟨h1,h2,h3⟩:=comE_0 hc
 have hap:jR p q.lf n ops m vs=0:=(hl.jR _ _ _ _ _).trans (apE_0 hc)
 have hdo:dZ p q.lf n ops=s:=(hl.dZ _ _ _).trans hs.symm
 obtain⟨c,hcm⟩:∃c,c=bS q s n ops m vs d:=⟨_,rfl⟩
 have c1:c.fr=q.lf:=by rw[hcm,Ib]
 have c2:c.n=n:=by rw[hcm,aI9]
 have c3:c.ops=ops:=by rw[hcm,Xk]
 have c4:c.m=m:=by rw[hcm,aI8]
 have c5:c.vs=vs:=by rw[hcm,am8]
 have c6:c.tag=dY (aJ q s n ops m vs d).ep:=by rw[hcm,Kg]
 have c7:aU c=aU (iH q s n ops m vs d):=by rw[hcm,FD]
 rw[←hcm]at hacc ⊢
 refine⟨fun hgn=>?_,fun hgn=>?_⟩
 ·unfold gD
  rw[if_neg (fun x=>x hacc),c1,c2,c3,c4,c5,hap,if_neg (fun x=>x rfl),hdo,if_pos hgn]
 obtain⟨p2,f1,f2,f3,f4,f5,f6,f7,f8,f9,f10⟩:=aM9 hp hq hl hne hc d hs hgn hcm
 obtain⟨g,gk,gm,_⟩:=vE hq.inv.zl hq.inv.al h2
 have hgk:s.k≤((jq s.ad:Nat):Int):=by rw[hs];exact gk
 have hst:Ct q.zs q.lf.toNat s:=by
  have e:((q.lf.toNat:Nat):Int)=q.lf:=by have:=hq.inv.lf0;omega
  have h2':=h2
  rw[←e]at h2'
  have:=(vY hq.inv.zl hq.inv.al h2').2
  rw[e]at this
  rw[hs];exact this
 have p0:=hp.inv.lf0
 have p1:=hp.inv.lf1
 have q0:=hq.inv.lf0
 have q1:=hq.inv.lf1
 obtain⟨e0,_⟩:=mV.1 gm
 obtain⟨p',hp'⟩:∃p',p'=bG p2 (kV p.jE (uY (aC d))):=⟨_,rfl⟩
 obtain⟨q',hq'⟩:∃q',q'=aJ q s n ops m vs d:=⟨_,rfl⟩
 have iQ:Like p' q':=by
  have a1:p'.e=q'.e:=by
   rw[hp',hq'];show p2.e=q.e+1;rw[f2.e];show p.e+1=_;rw[hl.e]
  have a2:p'.zs=q'.zs:=by
   rw[hp',hq',pE];exact f2.zs.trans f5
  have a3:p'.ad=q'.ad:=by
   rw[hp',hq'];show p2.ad=s.ad;rw[f2.ad];rfl
  have a4:p'.k=q'.k:=by
   rw[hp',hq'];show p2.k=s.k;rw[f2.k];rfl
  have a5:p'.ch=q'.ch:=by
   rw[hp',hq'];show p2.ch=tY q.ch (aU (iH q s n ops m vs d));rw[f2.ch,←c7,←hl.ch];rfl
  have a6:p'.ep=q'.ep:=by
   have b1:p'.ep=mO (kV p.jE (uY (aC d))) (aT p'.e p'.zs p'.ad p'.k p'.ch):=by rw[hp'];rfl
   have b2:q'.ep=mO (bT q d) (aT q'.e q'.zs q'.ad q'.k q'.ch):=by rw[hq'];exact K9 q s n ops m vs d
   rw[b1,b2,a1,a2,a3,a4,a5,hl.jE];dsimp only[bT]
  have a7:p'.jE=q'.jE:=by
   have b1:p'.jE=zS p'.ep:=by rw[hp'];rfl
   have b2:q'.jE=zS q'.ep:=by rw[hq'];exact Gg q s n ops m vs d
   rw[b1,b2,a6]
  exact⟨a1,a2,a3,a4,a5,a6,a7⟩
 have hown':=yB hq hc d
 rw[←hs,←hq']at hown'
 have Kk:p'.lf=p.lf:=by rw[hp'];exact f2.lf
 have esg:p'.sg=p.sg:=by rw[hp'];exact f2.sg
 have esc:p'.sc=p.sc:=by rw[hp'];exact f2.sc
 have FN:p'.ab=p2.ab:=by rw[hp'];rfl
 have ezs:p'.zs=fM s.zs q.lf (aH (aC d)) (aH (ak (aC d))) (aH (ak (ak (aC d)))) (aH (ak (ak (ak (aC d))))):=by rw[hp'];exact f2.zs.trans f5
 have get:=kS f6.zl q0 q1 (aH (aC d)) (aH (ak (aC d))) (aH (ak (ak (aC d)))) (aH (ak (ak (ak (aC d)))))
 rw[←ezs]at get
 have z2:p'.zs.getD 23 0=aH (ak (ak (ak (aC d)))):=by rw[get,if_pos rfl]
 have z1:n2 p.lf=n2 q.lf→p'.zs.getD (16+n2 p.lf) 0=aH (ak (ak (aC d))):=fun e=>by rw[get,e];unfold n2;rw[if_neg (by omega),if_pos rfl]
 have z0:n1 p.lf=n1 q.lf→p'.zs.getD (16+n1 p.lf) 0=aH (ak (aC d)):=fun e=>by rw[get,e];unfold n1 n2;rw[if_neg (by omega),if_neg (by omega),if_pos rfl]
 have y1:n2 p.lf≠n2 q.lf→p'.zs.getD (16+n2 p.lf) 0=s.zs.getD (16+n2 p.lf) 0:=fun e=>by
  rw[get];unfold n1 n2 at*;rw[if_neg (by omega),if_neg (by omega),if_neg (by omega),if_neg (by omega)]
 have y0:n1 p.lf≠n1 q.lf→p'.zs.getD (16+n1 p.lf) 0=s.zs.getD (16+n1 p.lf) 0:=fun e=>by
  rw[get];unfold n1 n2 at*;rw[if_neg (by omega),if_neg (by omega),if_neg (by omega),if_neg (by omega)]
 have kept:∀k,16≤k→s.zs.getD k 0≠0→s.zs.getD k 0=p.zs.getD k 0:=fun k hk hz=>(f6.nd k hk).resolve_left hz
 refine⟨p',?_,⟨⟨by rw[Kk];exact p0,by rw[Kk];exact p1,by rw[iQ.zs];exact hown'.inv.zl,by rw[iQ.ad];exact hown'.inv.al,by rw[iQ.ch];exact hown'.inv.cl,by rw[esg];exact hp.inv.gl,by rw[esc];exact hp.inv.sl,by rw[FN];exact f3,by rw[iQ.ep];exact hown'.inv.el,by rw[iQ.jE];exact hown'.inv.il,?_,?_,?_⟩,?_,?_,?_,?_,?_⟩,hq'▸iQ,Kk,esg⟩
 ·unfold gD
  rw[if_neg (fun x=>x hacc),c1,c2,c3,c4,c5,hap,if_neg (fun x=>x rfl),hdo,hgn,if_neg (by decide),hl.e,if_neg (by omega),f1]
  show(if(0:Int)≠0 then _ else if dY (bG p2 (kV p.jE (uY (aC d)))).ep=c.tag then(0,some (bG p2 (kV p.jE (uY (aC d)))))else _)=_
  rw[if_neg (fun x=>x rfl),←hp',if_pos (by rw[c6,←hq',iQ.ep])]
 ·rw[Kk,FN]
  intro h
  rcases f8 with⟨a,b⟩|⟨a,b⟩
  ·exact(iW _ ((z0 a).symm.trans ((dW _ _).1 h))).elim
  ·rw[b,if_neg (by rw[show aL s.zs (16+n1 p.lf)=false from(dW _ _).2 ((y0 a).symm.trans ((dW _ _).1 h))];decide)]
 ·rw[Kk,FN]
  intro h
  rcases f9 with⟨a,b⟩|⟨a,b⟩
  ·exact(iW _ ((z1 a).symm.trans ((dW _ _).1 h))).elim
  ·rw[b,if_neg (by rw[show aL s.zs (16+n2 p.lf)=false from(dW _ _).2 ((y1 a).symm.trans ((dW _ _).1 h))];decide)]
 ·intro h
  exact(iW _ (z2.symm.trans ((dW _ _).1 h))).elim
 ·rw[iQ.e,iQ.zs,iQ.ad,iQ.k];exact hown'.may
 ·rw[Kk,esg,esc,ezs,rA f6.zl q0 q1 _ _ _ _ (by omega),if_neg (by omega),f7]
  exact hp.lf
 ·rw[Kk,FN]
  intro h
  rcases f8 with⟨a,b⟩|⟨a,b⟩
  ·rw[z0 a,b]
  ·have h4:=(eF _ _).1 h
   rw[y0 a]at h4 ⊢
   rw[b,if_pos ((eF _ _).2 h4),kept _ (by omega) h4]
   exact hp.k0 ((eF _ _).2 (by rw[←kept _ (by omega) h4];exact h4))
 ·rw[Kk,FN]
  intro h
  rcases f9 with⟨a,b⟩|⟨a,b⟩
  ·rw[z1 a,b]
  ·have h4:=(eF _ _).1 h
   rw[y1 a]at h4 ⊢
   rw[b,if_pos ((eF _ _).2 h4),kept _ (by omega) h4]
   exact hp.k1 ((eF _ _).2 (by rw[←kept _ (by omega) h4];exact h4))
 ·rw[FN,f10]
  intro _
  exact z2
end
section
open Pm
structure Wc where
 lf:Int
 fr:Int
 e:Int
 zs:List Int
 ad:List Bool
 k:Int
 ch:List UInt8
 bx:List UInt8
 tg:List UInt8
abbrev jB(w:Wc):List Seg:=[.ints .i64 2 [w.lf,w.fr],.ints .i64 1 [w.e],.ints .i64 31 w.zs,.bools 8 w.ad,.ints .i64 1 [w.k],.bytes 32 w.ch,.gen 1 [.row w.bx.length [.bytes w.bx.length w.bx]],.bytes 32 w.tg]
def jr(w:Wc):Int:=aP w.lf (aD w.fr w.lf)
def nZ(w:Wc):Bool:=(decide (jr w<1)|| !aL w.zs (16+n1 w.lf))&&(decide (jr w<2)|| !aL w.zs (16+n2 w.lf))
def jd(h:List UInt8)(w:Wc):Bool:=dQ w.e w.zs w.ad w.k&&(aG w.lf&&(decide (w.lf≠w.fr)&&(decide (bq w.zs w.lf.toNat=fu h)&&(bn w.zs w.fr&&nZ w))))
def jy(h:List UInt8)(w:Wc):PS:=⟨w.e,w.zs,w.ad,w.k,w.ch,w.lf,jP h,aC h,zB 96,zB 32,zB 32⟩
def fF(h:List UInt8)(w:Wc):Int×Option PS:=
 if jd h w=false then(10,none)
 else if bH (au (ay (aC h))) w.bx≠0 then(3,none)
 else if w.bx.length-12≠64 then(10,none)
 else if(aW (jy h w) ((bg (au (ay (aC h))) w.bx).drop 32) (jr w).toNat).1=true then
  (if dY (bG (aW (jy h w) ((bg (au (ay (aC h))) w.bx).drop 32) (jr w).toNat).2.2 ((bg (au (ay (aC h))) w.bx).take 32)).ep=w.tg
   then(0,some (bG (aW (jy h w) ((bg (au (ay (aC h))) w.bx).drop 32) (jr w).toNat).2.2 ((bg (au (ay (aC h))) w.bx).take 32)))
   else(11,none))
 else(10,none)
def nR(q:PS)(ab joint tag draw:List UInt8)(j:Nat):Wc:=⟨j,q.lf,q.e,q.zs,q.ad,q.k,q.ch,nu q ab joint draw j,tag⟩
def aF0(a b k:Nat):Bool:=decide (aP (a:Int) (aD (b:Int) (a:Int))=(k:Int))&&decide (aP (b:Int) (aD (a:Int) (b:Int))=(k:Int))&&
 (if k=0 then decide (n1 (b:Int)=n1 (a:Int))&&decide (n2 (b:Int)=n2 (a:Int))else if k=1 then decide (n2 (b:Int)=n2 (a:Int))&&decide (n1 (b:Int)≠n1 (a:Int))else decide (n2 (b:Int)≠n2 (a:Int))&&decide (n1 (b:Int)≠n1 (a:Int)))
theorem aP0:((List.range 8).all fun a=>(List.range 8).all fun b=>a==b||((List.range 3).any fun k=>aF0 a b k))=true:=by decide+kernel
theorem meets{a b:Int}(a0:0≤a)(a1:a<8)(b0:0≤b)(b1:b<8)(hne:a≠b):∃k:Nat,k<3∧aP a (aD b a)=k∧aP b (aD a b)=k∧
  (k=0→n1 b=n1 a∧n2 b=n2 a)∧(k=1→n2 b=n2 a∧n1 b≠n1 a)∧(k=2→n2 b≠n2 a∧n1 b≠n1 a):=by
 obtain⟨i,rfl⟩:=Int.eq_ofNat_of_zero_le a0
 obtain⟨j,rfl⟩:=Int.eq_ofNat_of_zero_le b0
 have h:=List.all_eq_true.1 (List.all_eq_true.1 aP0 i (List.mem_range.2 (by omega))) j (List.mem_range.2 (by omega))
 have hij:(i==j)=false:=by simp;omega
 rw[hij,Bool.false_or,List.any_eq_true]at h
 obtain⟨k,hk,h⟩:=h
 have hk:=List.mem_range.1 hk
 unfold aF0 at h
 rw[Bool.and_eq_true,Bool.and_eq_true,decide_eq_true_eq,decide_eq_true_eq]at h
 obtain⟨⟨h1,h2⟩,h3⟩:=h
 refine⟨k,hk,h1,h2,fun e=>?_,fun e=>?_,fun e=>?_⟩
 ·rw[if_pos e,Bool.and_eq_true,decide_eq_true_eq,decide_eq_true_eq]at h3;exact h3
 ·rw[if_neg (by omega),if_pos e,Bool.and_eq_true,decide_eq_true_eq,decide_eq_true_eq]at h3;exact h3
 ·rw[if_neg (by omega),if_neg (by omega),Bool.and_eq_true,decide_eq_true_eq,decide_eq_true_eq]at h3;exact h3
theorem Iy{q:PS}(hq:Own q){n:Nat}{ops:List Int}{m:Nat}{vs:List Int}(hc:bZ q n ops m vs=0)(d:List UInt8){s:Vw}(hs:s=dZ q q.lf n ops){q':PS}(hq':q'=aJ q s n ops m vs d){j:Nat}(hj:j<8)(qd:s.ng.getD j false=true){h:List UInt8}(hh:bq q'.zs j=fu h):
  ∃p',fF h (nR q' (fJ (aC d)) (bT q d) (dY q'.ep) d j)=(0,some p')∧Own p'∧Like p' q'∧p'.lf=j∧p'.sg=jP h:=by
 obtain⟨h1,h2,h3⟩:=comE_0 hc
 obtain⟨g,gk,gm,_⟩:=vE hq.inv.zl hq.inv.al h2
 have hg:Goes q.zs s:=by rw[hs];exact g
 have hst:Ct q.zs q.lf.toNat s:=by
  have e:((q.lf.toNat:Nat):Int)=q.lf:=by have:=hq.inv.lf0;omega
  have h2':=h2
  rw[←e]at h2'
  have:=(vY hq.inv.zl hq.inv.al h2').2
  rw[e]at this
  rw[hs];exact this
 have hown:=yB hq hc d
 rw[←hs,←hq']at hown
 have q0:=hq.inv.lf0
 have q1:=hq.inv.lf1
 have hne:(j:Int)≠q.lf:=fun e=>by
  have:q.lf.toNat=j:=by omega
  rw[←this,hst.ng]at qd
  cases qd
 have Kk:q'.lf=q.lf:=by rw[hq'];dsimp only[aJ,bG,dU,gu,iM]
 have ezs:q'.zs=fM s.zs q.lf (aH (aC d)) (aH (ak (aC d))) (aH (ak (ak (aC d)))) (aH (ak (ak (ak (aC d))))):=by rw[hq'];exact pE q s n ops m vs d
 have eep:q'.ep=mO (bT q d) (aT q'.e q'.zs q'.ad q'.k q'.ch):=by rw[hq'];exact K9 q s n ops m vs d
 have ein:q'.jE=zS q'.ep:=by rw[hq'];exact Gg q s n ops m vs d
 obtain⟨m1,m2,m3,m4⟩:=hg.new j hj qd
 obtain⟨k,hk3,k1,k2,u0,u1,u2⟩:=meets (a:=(j:Int)) (b:=q.lf) (by omega) (by omega) q0 q1 hne
 have get:=kS hg.zl q0 q1 (aH (aC d)) (aH (ak (aC d))) (aH (ak (ak (aC d)))) (aH (ak (ak (ak (aC d)))))
 rw[←ezs]at get
 have z2:q'.zs.getD 23 0=aH (ak (ak (ak (aC d)))):=by rw[get,if_pos rfl]
 have z1:n2 (j:Int)=n2 q.lf→q'.zs.getD (16+n2 (j:Int)) 0=aH (ak (ak (aC d))):=fun e=>by rw[get,e];unfold n2;rw[if_neg (by omega),if_pos rfl]
 have z0:n1 (j:Int)=n1 q.lf→q'.zs.getD (16+n1 (j:Int)) 0=aH (ak (aC d)):=fun e=>by rw[get,e];unfold n1 n2;rw[if_neg (by omega),if_neg (by omega),if_pos rfl]
 have y1:n2 (j:Int)≠n2 q.lf→q'.zs.getD (16+n2 (j:Int)) 0=0:=fun e=>by
  rw[get];unfold n1 n2 at*;rw[if_neg (by omega),if_neg (by omega),if_neg (by omega),if_neg (by omega)];exact m3
 have y0:n1 (j:Int)≠n1 q.lf→q'.zs.getD (16+n1 (j:Int)) 0=0:=fun e=>by
  rw[get];unfold n1 n2 at*;rw[if_neg (by omega),if_neg (by omega),if_neg (by omega),if_neg (by omega)];exact m2
 have hup:dO (fJ (aC d)) k=(if k=0 then ak (aC d)else if k=1 then ak (ak (aC d))else ak (ak (ak (aC d)))):=by
  rcases(show k=0∨k=1∨k=2 by omega)with rfl|rfl|rfl
  ·exact ag1 _
  ·exact ag2 _
  ·exact ag3 _
 have hjl:(bT q d).length=32:=KW _ _
 have hul:(dO (fJ (aC d)) k).length=32:=eT (wh _) hk3
 have Dz:q'.zs.getD (j*2+1) 0=aA 4 (au (ay (aC h))):=by
  have h4:=hh
  rw[iG (by have:=hown.inv.zl;omega) hj]at h4
  exact(List.cons.inj (List.cons.inj h4).2).1
 obtain⟨w,hw⟩:∃w,w=nR q' (fJ (aC d)) (bT q d) (dY q'.ep) d j:=⟨_,rfl⟩
 have wl:w.lf=(j:Int):=by rw[hw];dsimp only[nR]
 have wf:w.fr=q.lf:=by rw[hw];dsimp only[nR];exact Kk
 have we:w.e=q'.e:=by rw[hw];dsimp only[nR]
 have wz:w.zs=q'.zs:=by rw[hw];dsimp only[nR]
 have wa:w.ad=q'.ad:=by rw[hw];dsimp only[nR]
 have wk:w.k=q'.k:=by rw[hw];dsimp only[nR]
 have wc:w.ch=q'.ch:=by rw[hw];dsimp only[nR]
 have wt:w.tg=dY q'.ep:=by rw[hw];dsimp only[nR]
 have wb:w.bx=bI (aA 4 (au (ay (aC h)))) (au (iC d (j:Nat))) (bT q d++dO (fJ (aC d)) k):=by
  have:w.bx=bI (q'.zs.getD (j*2+1) 0) (au (iC d (j:Nat))) (bT q d++dO (fJ (aC d)) (aP q'.lf (aD (j:Nat) q'.lf)).toNat):=by rw[hw];dsimp only[nR,nu]
  rw[this,Dz,Kk,k2,Int.toNat_natCast]
 rw[←hw]
 have hpl:jr w=k:=by unfold jr;rw[wl,wf];exact k1
 have hfits:jd h w=true:=by
  unfold jd nZ
  have e1:dQ w.e w.zs w.ad w.k=true:=by rw[we,wz,wa,wk];exact hown.may
  have e2:aG w.lf=true:=by rw[wl];simp[aG];omega
  have e3:w.lf≠w.fr:=by rw[wl,wf];exact hne
  have e4:bq w.zs w.lf.toNat=fu h:=by rw[wz,wl,Int.toNat_natCast];exact hh
  have e5:bn w.zs w.fr=true:=by rw[wz,wf,←Kk];exact hown.bn
  have e6:(decide (jr w<1)|| !aL w.zs (16+n1 w.lf))=true:=by
   rw[hpl,wz,wl]
   rcases(show k=0∨k=1∨k=2 by omega)with rfl|rfl|rfl
   ·rfl
   ·rw[(dW _ _).2 (y0 fun e=>(u1 rfl).2 e.symm)];rfl
   ·rw[(dW _ _).2 (y0 fun e=>(u2 rfl).2 e.symm)];rfl
  have e7:(decide (jr w<2)|| !aL w.zs (16+n2 w.lf))=true:=by
   rw[hpl,wz,wl]
   rcases(show k=0∨k=1∨k=2 by omega)with rfl|rfl|rfl
   ·rfl
   ·rfl
   ·rw[(dW _ _).2 (y1 fun e=>(u2 rfl).1 e.symm)];rfl
  rw[e1,e2,decide_eq_true e3,decide_eq_true e4,e5,e6,e7];rfl
 obtain⟨b1,b2,b3⟩:=J6 (ay (aC h)) (iC d (j:Nat)) (bT q d++dO (fJ (aC d)) k) (by rw[List.length_append,hjl,hul];decide)
 rw[←wb]at b1 b2 b3
 have bw2:(zB 96).length=96:=by simp
 have az:∀i,i<3→dO (zB 96) i=zB 32:=fun i hi=>by
  unfold dO
  rw[List.drop_replicate,List.take_replicate,show min 32 (96-i*32)=32 by omega]
 have ea:(jy h w).ab=zB 96:=rfl
 have el:(jy h w).lf=(j:Int):=wl
 have ez:(jy h w).zs=q'.zs:=wz
 obtain⟨t1,t2,t3,t4,t5,t6,t7⟩:=jc (p:=jy h w) bw2 hul hk3 (fun e=>by rw[ez,el,z0 (u0 e).1.symm,hup,if_pos e]) (fun e=>by
   rw[ez,el,hup]
   rcases(show k=0∨k=1 by omega)with rfl|rfl
   ·rw[z1 (u0 rfl).2.symm];rfl
   ·rw[z1 (u1 rfl).1.symm];rfl) (by
   rw[ez,z2,hup]
   rcases(show k=0∨k=1∨k=2 by omega)with rfl|rfl|rfl<;>rfl)
 obtain⟨p2,hp2⟩:∃p2,p2=(aW (jy h w) (dO (fJ (aC d)) k) k).2.2:=⟨_,rfl⟩
 rw[←hp2]at t3 t4 t5 t6 t7
 obtain⟨p',hp'⟩:∃p',p'=bG p2 (bT q d):=⟨_,rfl⟩
 have iQ:Like p' q':=by
  have a1:p'.e=q'.e:=by rw[hp'];exact t3.e.trans we
  have a2:p'.zs=q'.zs:=by rw[hp'];exact t3.zs.trans wz
  have a3:p'.ad=q'.ad:=by rw[hp'];exact t3.ad.trans wa
  have a4:p'.k=q'.k:=by rw[hp'];exact t3.k.trans wk
  have a5:p'.ch=q'.ch:=by rw[hp'];exact t3.ch.trans wc
  have a6:p'.ep=q'.ep:=by
   have b1:p'.ep=mO (bT q d) (aT p'.e p'.zs p'.ad p'.k p'.ch):=by rw[hp'];rfl
   rw[b1,eep,a1,a2,a3,a4,a5]
  have a7:p'.jE=q'.jE:=by
   have b1:p'.jE=zS p'.ep:=by rw[hp'];rfl
   rw[b1,ein,a6]
  exact⟨a1,a2,a3,a4,a5,a6,a7⟩
 have Kl:p'.lf=(j:Int):=by rw[hp'];exact t3.lf.trans wl
 have esg:p'.sg=jP h:=by rw[hp'];exact t3.sg
 have esc:p'.sc=aC h:=by rw[hp'];exact t3.sc
 have FN:p'.ab=p2.ab:=by rw[hp'];rfl
 rw[ea,az 0 (by decide),hup]at t5
 rw[ea,az 1 (by decide),hup]at t6
 rw[hup]at t7
 refine⟨p',?_,⟨⟨by rw[Kl];omega,by rw[Kl];omega,by rw[iQ.zs];exact hown.inv.zl,by rw[iQ.ad];exact hown.inv.al,by rw[iQ.ch];exact hown.inv.cl,by rw[esg];exact Mq h,by rw[esc];exact nM h,by rw[FN];exact t4,by rw[iQ.ep];exact hown.inv.el,by rw[iQ.jE];exact hown.inv.il,?_,?_,?_⟩,?_,?_,?_,?_,?_⟩,iQ,Kl,esg⟩
 ·unfold fF
  rw[hfits,if_neg (by decide),if_neg (fun x=>x b1),b3,List.length_append,hjl,hul,if_neg (by decide),b2,List.drop_left' hjl,List.take_left' hjl,hpl,Int.toNat_natCast,if_pos t1,←hp2,←hp',if_pos (by rw[wt,iQ.ep])]
 ·rw[Kl,FN,iQ.zs,t5]
  intro x
  rcases(show k=0∨k=1∨k=2 by omega)with rfl|rfl|rfl
  ·exact(iW _ ((z0 (u0 rfl).1.symm).symm.trans ((dW _ _).1 x))).elim
  ·rfl
  ·rfl
 ·rw[Kl,FN,iQ.zs,t6]
  intro x
  rcases(show k=0∨k=1∨k=2 by omega)with rfl|rfl|rfl
  ·exact(iW _ ((z1 (u0 rfl).2.symm).symm.trans ((dW _ _).1 x))).elim
  ·exact(iW _ ((z1 (u1 rfl).1.symm).symm.trans ((dW _ _).1 x))).elim
  ·rfl
 ·rw[iQ.zs]
  intro x
  exact(iW _ (z2.symm.trans ((dW _ _).1 x))).elim
 ·rw[iQ.e,iQ.zs,iQ.ad,iQ.k];exact hown.may
 ·rw[Kl,esg,esc,iQ.zs,Int.toNat_natCast];exact hh
 ·rw[Kl,FN,iQ.zs,t5]
  intro x
  rcases(show k=0∨k=1∨k=2 by omega)with rfl|rfl|rfl
  ·exact z0 (u0 rfl).1.symm
  ·exact((eF _ _).1 x (y0 fun e=>(u1 rfl).2 e.symm)).elim
  ·exact((eF _ _).1 x (y0 fun e=>(u2 rfl).2 e.symm)).elim
 ·rw[Kl,FN,iQ.zs,t6]
  intro x
  rcases(show k=0∨k=1∨k=2 by omega)with rfl|rfl|rfl
  ·exact z1 (u0 rfl).2.symm
  ·exact z1 (u1 rfl).1.symm
  ·exact((eF _ _).1 x (y1 fun e=>(u2 rfl).1 e.symm)).elim
 ·rw[FN,iQ.zs,t7]
  intro x
  rcases(show k=0∨k=1∨k=2 by omega)with rfl|rfl|rfl<;>exact z2
end
section
open Pm
theorem Qc{p:PS}{h:List UInt8}{m:Nat}(e:¬JE p h m=true):p.zs.getD m 0=aH h:=by
 unfold JE at e
 unfold aH
 simp at e
 exact e.symm
theorem mM{p:PS}{h:List UInt8}{k:Nat}(hk:k<3)(ht:(aW p h k).1=true):(k=0→p.zs.getD (16+n1 p.lf) 0=aH h)∧(k≤1→p.zs.getD (16+n2 p.lf) 0=aH (if k=1 then h else ak h))∧p.zs.getD 23 0=aH (if k=2 then h else if k=1 then ak h else ak (ak h)):=by
 have top:∀(q:PS) (x:List UInt8),(eU q x).1=true→q.zs.getD 23 0=aH x:=fun q x e=>by
  unfold eU at e
  by_cases h1:JE q x 23=true
  ·rw[if_pos h1]at e;cases e
  ·exact Qc h1
 have mid:∀(q:PS) (x:List UInt8),(dS q x).1=true→q.zs.getD (16+n2 q.lf) 0=aH x∧q.zs.getD 23 0=aH (ak x):=fun q x e=>by
  unfold dS at e
  by_cases h1:JE q x (16+(q.lf / 4*8+3).toNat)=true
  ·rw[if_pos h1]at e;cases e
  ·rw[if_neg h1]at e
   exact⟨Qc h1,top (gF q 1 x) _ e⟩
 have low:∀(q:PS) (x:List UInt8),(iO q x).1=true→q.zs.getD (16+n1 q.lf) 0=aH x∧q.zs.getD (16+n2 q.lf) 0=aH (ak x)∧q.zs.getD 23 0=aH (ak (ak x)):=fun q x e=>by
  unfold iO at e
  by_cases h1:JE q x (16+(q.lf / 2*4+1).toNat)=true
  ·rw[if_pos h1]at e;cases e
  ·rw[if_neg h1]at e
   exact⟨Qc h1,mid (gF q 0 x) _ e⟩
 unfold aW at ht
 rcases(show k=0∨k=1∨k=2 by omega)with rfl|rfl|rfl
 ·rw[if_pos rfl]at ht
  obtain⟨a,b,d⟩:=low p h ht
  exact⟨fun _=>a,fun _=>b,d⟩
 ·rw[if_neg (by decide),if_pos rfl]at ht
  obtain⟨b,d⟩:=mid p h ht
  exact⟨fun e=>absurd e (by decide),fun _=>b,d⟩
 ·rw[if_neg (by decide),if_neg (by decide)]at ht
  exact⟨fun e=>absurd e (by decide),fun e=>absurd e (by decide),top p h ht⟩
structure bJ7(p:PS)(s:Vw)(c:CS)(p2:PS):Prop where
 keys:lQ c=true
 same:jT (gu p s c) p2
 ab:p2.ab.length=96
 at0:(n1 p.lf=n1 c.fr∧c.p0=aH (dO p2.ab 0))∨(n1 p.lf≠n1 c.fr∧dO p2.ab 0=if aL s.zs (16+n1 p.lf)=true then dO p.ab 0 else zB 32)
 at1:(n2 p.lf=n2 c.fr∧c.p1=aH (dO p2.ab 1))∨(n2 p.lf≠n2 c.fr∧dO p2.ab 1=if aL s.zs (16+n2 p.lf)=true then dO p.ab 1 else zB 32)
 at2:c.p2=aH (dO p2.ab 2)
theorem oL{x:Int}{b:List UInt8}(h:bH x b=0):(bg x b).length=b.length-12:=by
 unfold bg
 rw[fD,List.length_drop]
end
section
open Pm
theorem accE_0{p:PS}{c:CS}(h:qX p c=0):c.e=p.e∧c.fr≠p.lf∧bn p.zs c.fr=true:=by
 unfold qX at h
 by_cases h1:c.e≠p.e
 ·rw[if_pos h1]at h;exact absurd h (by decide)
 rw[if_neg h1]at h
 by_cases h2:c.fr=p.lf∨bn p.zs c.fr=false
 ·rw[if_pos h2]at h;exact absurd h (by decide)
 refine⟨Decidable.byContradiction fun e=>h1 e,fun e=>h2 (.inl e),?_⟩
 cases hm:bn p.zs c.fr with
 |true=>rfl
 |false=>exact(h2 (.inr hm)).elim
theorem aI0{p:PS}{fr:Int}{n:Nat}{ops:List Int}{m:Nat}{vs:List Int}(h:jR p fr n ops m vs=0):(dh p.e ⟨p.zs,p.ad,p.k,F8,F8⟩ fr ops n).1=0:=by
 unfold jR at h
 by_cases h1:bX p.e p.zs p.ad p.k p.ch fr ops n vs m≠0
 ·rw[if_pos h1]at h;exact absurd h h1
 ·rw[if_neg h1]at h;exact h
end
section
open Pm
theorem TG{h:List UInt8}{w:Wc}(hf:jd h w=true):dQ w.e w.zs w.ad w.k=true∧0≤w.lf∧w.lf<8∧w.lf≠w.fr∧bq w.zs w.lf.toNat=fu h∧bn w.zs w.fr=true∧nZ w=true:=by
 unfold jd at hf
 simp only[Bool.and_eq_true,decide_eq_true_eq]at hf
 obtain⟨h1,h2,h3,h4,h5,h6⟩:=hf
 unfold aG at h2
 simp only[Bool.and_eq_true,decide_eq_true_eq]at h2
 exact⟨h1,h2.1,h2.2,h3,h4,h5,h6⟩
end
section
open Pm
def cO(n:Int):List UInt8:=UInt8.ofNat (IntKind.u8.wrap n).toNat::11::List.replicate 30 0
abbrev jS(G:List (Option PS))(i:Nat):Option PS:=G.getD i none
structure Nf(G:List (Option PS)):Prop where
 own:∀(i:Nat) (p:PS),jS G i=some p→Own p
 like:∀(i j:Nat) (p q:PS),jS G i=some p→jS G j=some q→Like p q
 leaf:∀(i j:Nat) (p q:PS),jS G i=some p→jS G j=some q→i≠j→p.lf≠q.lf
def mJ(p:PS)(c:CS):Option PS:=if(gD p c).1=0 then(gD p c).2 else some p
def lX(zs:List Int)(j:Nat):Option Nat:=(List.range 64).find? fun s=>decide (bq zs j=fu (cO (s:Nat)))
def uM(G:List (Option PS))(fr:Nat)(q':PS)(c:CS):List (Option PS):=(List.range G.length).map fun i=>if i=fr then some q' else(jS G i).bind fun p=>mJ p c
def V9(ng:List Bool)(zs:List Int):List Nat:=(List.range 8).filter fun j=>ng.getD j false&&(lX zs j).isSome
def wI(q':PS)(ab joint tag d:List UInt8)(j:Nat):Option PS:=match lX q'.zs j with
 |some s=>(fF (cO (s:Nat)) (nR q' ab joint tag d j)).2
 |none=>none
def stepM(G:List (Option PS))(fr:Nat)(n:Nat)(ops:List Int)(m:Nat)(vs:List Int)(d:List UInt8):List (Option PS):=match jS G fr with
 |none=>G
 |some q=>if bZ q n ops m vs≠0 then G else
  uM G fr (aJ q (dZ q q.lf n ops) n ops m vs d) (bS q (dZ q q.lf n ops) n ops m vs d)++
   (V9 (dZ q q.lf n ops).ng (aJ q (dZ q q.lf n ops) n ops m vs d).zs).map (wI (aJ q (dZ q q.lf n ops) n ops m vs d) (fJ (aC d)) (bT q d) (dY (aJ q (dZ q q.lf n ops) n ops m vs d).ep) d)
theorem Like.refl(p:PS):Like p p:=⟨rfl,rfl,rfl,rfl,rfl,rfl,rfl⟩
theorem Like.symm{p q:PS}(h:Like p q):Like q p:=⟨h.e.symm,h.zs.symm,h.ad.symm,h.k.symm,h.ch.symm,h.ep.symm,h.jE.symm⟩
theorem Like.trans{p q r:PS}(h:Like p q)(k:Like q r):Like p r:=⟨h.e.trans k.e,h.zs.trans k.zs,h.ad.trans k.ad,h.k.trans k.k,h.ch.trans k.ch,h.ep.trans k.ep,h.jE.trans k.jE⟩
theorem pI(G:List (Option PS))(fr:Nat)(q':PS)(c:CS):(uM G fr q' c).length=G.length:=by unfold uM;simp
theorem Rz{G:List (Option PS)}{fr:Nat}{q':PS}{c:CS}{i:Nat}(hi:i<G.length):jS (uM G fr q' c) i=if i=fr then some q' else(jS G i).bind fun p=>mJ p c:=by
 unfold jS uM
 rw[List.getD_eq_getElem?_getD,List.getElem?_map,List.getElem?_range hi]
 rfl
theorem xg{zs:List Int}{j s:Nat}(h:lX zs j=some s):bq zs j=fu (cO (s:Nat)):=by
 have:=List.find?_some h
 exact of_decide_eq_true this
structure Behind(q q':PS)(s:Vw)(r:PS):Prop where
 own:Own r
 like:Like r q'
theorem Dv{G:List (Option PS)}(h:Nf G){fr:Nat}{q:PS}(hq:jS G fr=some q)(n:Nat)(ops:List Int)(m:Nat)(vs:List Int)(d:List UInt8):Nf (stepM G fr n ops m vs d):=by
 unfold stepM
 rw[hq]
 dsimp only
 by_cases hc:bZ q n ops m vs=0
 case neg=>rw[if_pos hc];exact h
 rw[if_neg (fun e=>e hc)]
 obtain⟨s,hs⟩:∃s,s=dZ q q.lf n ops:=⟨_,rfl⟩
 rw[←hs]
 obtain⟨q',hq'⟩:∃q',q'=aJ q s n ops m vs d:=⟨_,rfl⟩
 obtain⟨c,hcm⟩:∃c,c=bS q s n ops m vs d:=⟨_,rfl⟩
 rw[←hq',←hcm]
 have hown:=h.own fr q hq
 have hfr:fr<G.length:=by
  rcases Nat.lt_or_ge fr G.length with e|e
  ·exact e
  ·unfold jS at hq;rw[List.getD_eq_getElem?_getD,List.getElem?_eq_none e]at hq;cases hq
 have hown':Own q':=by rw[hq',hs];exact yB hown hc d
 have bn4:q'.lf=q.lf:=by rw[hq'];dsimp only[aJ,bG,dU,gu,iM]
 obtain⟨c1,c2,c3⟩:=comE_0 hc
 have q0:=hown.inv.lf0
 have q1:=hown.inv.lf1
 have hst:Ct q.zs q.lf.toNat s:=by
  have e:((q.lf.toNat:Nat):Int)=q.lf:=by omega
  have h2':=c2
  rw[←e]at h2'
  have:=(vY hown.inv.zl hown.inv.al h2').2
  rw[e]at this
  rw[hs];exact this
 -- those who were there
 have A:∀i r,i<G.length→jS (uM G fr q' c) i=some r→Own r∧Like r q'∧(∃p,jS G i=some p∧p.lf=r.lf)∧s.ng.getD r.lf.toNat false=false:=fun i r hi hr=>by
  rw[Rz hi]at hr
  by_cases e:i=fr
  ·rw[if_pos e]at hr
   cases hr
   exact⟨hown',Like.refl _,⟨q,by rw[e];exact hq,bn4.symm⟩,by rw[bn4];exact hst.ng⟩
  ·rw[if_neg e]at hr
   cases hp:jS G i with
   |none=>rw[hp]at hr;cases hr
   |some p=>
    rw[hp]at hr
    have hr:mJ p c=some r:=hr
    have po:=h.own i p hp
    have pl:=h.like i fr p q hp hq
    have pn:=h.leaf i fr p q hp hq e
    obtain⟨g1,g2⟩:=RO po hown pl pn hc d hs
    rw[←hcm]at g1 g2
    have p0:=po.inv.lf0
    have p1:=po.inv.lf1
    have hkp:Keep p.zs p.lf.toNat s:=by
     have:=Iz (j:=p.lf.toNat) hown.inv.zl (by omega) (by rw[←pl.zs];exact po.mem) c2
     rw[pl.zs,hs];exact this
    unfold mJ at hr
    cases hg:s.gn.getD p.lf.toNat false with
    |true=>
     rw[g1 hg]at hr
     simp at hr
    |false=>
     obtain⟨p',k1,k2,k3,k4,k5⟩:=g2 hg
     rw[k1]at hr
     have hr:p'=r:=by simpa using hr
     rw[←hr]
     rw[←hq']at k3
     refine⟨k2,k3,⟨p,rfl,k4.symm⟩,?_⟩
     rw[k4]
     rcases hkp.or with o|o
     ·rw[hg]at o;cases o
     ·exact o.2.2
 -- those who join
 obtain⟨J,hJ⟩:∃J,J=V9 s.ng q'.zs:=⟨_,rfl⟩
 rw[←hJ]
 have hnd:J.Nodup:=by rw[hJ];unfold V9;exact List.Pairwise.filter _ List.nodup_range
 have B:∀j,j∈J→∃r,wI q' (fJ (aC d)) (bT q d) (dY q'.ep) d j=some r∧Own r∧Like r q'∧r.lf=j∧s.ng.getD j false=true:=fun j hj=>by
  rw[hJ]at hj
  unfold V9 at hj
  rw[List.mem_filter,List.mem_range,Bool.and_eq_true]at hj
  obtain⟨j1,j2,j3⟩:=hj
  obtain⟨sd,hsd⟩:=Option.isSome_iff_exists.1 j3
  obtain⟨r,k1,k2,k3,k4,_⟩:=Iy hown hc d hs hq' j1 j2 (xg hsd)
  refine⟨r,?_,k2,k3,k4,j2⟩
  unfold wI
  rw[hsd]
  show(fF _ _).2=_
  rw[k1]
 -- each of the new group
 have all:∀i r,jS (uM G fr q' c++J.map (wI q' (fJ (aC d)) (bT q d) (dY q'.ep) d)) i=some r→Own r∧Like r q'∧
   ((i<G.length∧(∃p,jS G i=some p∧p.lf=r.lf)∧s.ng.getD r.lf.toNat false=false)∨(∃hi:i-G.length<J.length,G.length≤i∧r.lf=(J[i-G.length]:Nat)∧s.ng.getD r.lf.toNat false=true)):=fun i r hr=>by
  unfold jS at hr
  rw[List.getD_eq_getElem?_getD]at hr
  rcases Nat.lt_or_ge i G.length with e|e
  ·rw[List.getElem?_append_left (by rw[pI];exact e),←List.getD_eq_getElem?_getD]at hr
   obtain⟨a1,a2,a3,a4⟩:=A i r e hr
   exact⟨a1,a2,.inl ⟨e,a3,a4⟩⟩
  ·rw[List.getElem?_append_right (by rw[pI];exact e),pI,List.getElem?_map]at hr
   rcases Nat.lt_or_ge (i-G.length) J.length with e2|e2
   ·rw[List.getElem?_eq_getElem e2]at hr
    obtain⟨r',b1,b2,b3,b4,b5⟩:=B _ (List.getElem_mem e2)
    simp only[Option.map_some,Option.getD_some]at hr
    rw[b1]at hr
    cases hr
    exact⟨b2,b3,.inr ⟨e2,e,b4,by rw[b4];simpa using b5⟩⟩
   ·rw[List.getElem?_eq_none e2]at hr;cases hr
 refine⟨fun i p hp=>(all i p hp).1,fun i j p r hp hr=>(all i p hp).2.1.trans (all j r hr).2.1.symm,fun i j p r hp hr hij hl=>?_⟩
 obtain⟨_,_,u⟩:=all i p hp
 obtain⟨_,_,v⟩:=all j r hr
 rcases u with⟨u1,⟨p1,u2,u3⟩,u4⟩|⟨u1,u2,u3,u4⟩
 ·rcases v with⟨v1,⟨r1,v2,v3⟩,v4⟩|⟨v1,v2,v3,v4⟩
  ·exact h.leaf i j p1 r1 u2 v2 hij (by rw[u3,v3,hl])
  ·rw[hl,v4]at u4;cases u4
 ·rcases v with⟨v1,⟨r1,v2,v3⟩,v4⟩|⟨v1,v2,v3,v4⟩
  ·rw[←hl,u4]at v4;cases v4
  ·have e:J[i-G.length]=J[j-G.length]:=by
    have:((J[i-G.length]:Nat):Int)=(J[j-G.length]:Nat):=by rw[←u3,←v3,hl]
    exact Int.ofNat_inj.1 this
   have P:=List.pairwise_iff_getElem.1 hnd
   rcases Nat.lt_trichotomy (i-G.length) (j-G.length)with o|o|o
   ·exact absurd e (P _ _ _ _ o)
   ·omega
   ·exact absurd e.symm (P _ _ _ _ o)
end
section
open Pm
theorem Eh{a b:Nat}(ha:1≤a)(hab:a<b)(hb:b<1073741789):pw 4 a≠pw 4 b:=by
 intro h
 have e1:pw 4 (1073741789-a)*pw 4 a%2147483579=1:=by rw[Ah,show 1073741789-a+a=1073741789 by omega,Dg]
 have e2:pw 4 (1073741789-a)*pw 4 b%2147483579=pw 4 (b-a):=by
  rw[Ah,show 1073741789-a+b=1073741789+(b-a) by omega,←Ah,Dg,Nat.one_mul,Nat.mod_eq_of_lt (wK _ _)]
 rw[←h,e1]at e2
 exact Ra (b-a) (by omega) (by omega) e2.symm
theorem Z6{a b:Int}(ha:1≤a∧a<1073741789)(hb:1≤b∧b<1073741789)(h:aA 4 a=aA 4 b):a=b:=by
 obtain⟨m,rfl⟩:=Int.eq_ofNat_of_zero_le (show 0≤a by omega)
 obtain⟨n,rfl⟩:=Int.eq_ofNat_of_zero_le (show 0≤b by omega)
 rw[show aA 4 (m:Int)=(pw 4 m:Int)from iY 4 m (by decide) (by omega),show aA 4 (n:Int)=(pw 4 n:Int)from iY 4 n (by decide) (by omega)]at h
 have h':pw 4 m=pw 4 n:=Int.ofNat_inj.1 h
 rcases Nat.lt_trichotomy m n with h1|h1|h1
 ·exact(Eh (by omega) h1 (by omega) h').elim
 ·rw[h1]
 ·exact(Eh (by omega) h1 (by omega) h'.symm).elim
theorem KU(s:Int)(hs:1≤s∧s<1073741789):cK (aA 4 s)=true:=by
 obtain⟨n,rfl⟩:=Int.eq_ofNat_of_zero_le (show 0≤s by omega)
 rw[show aA 4 (n:Int)=(pw 4 n:Int)from iY 4 n (by decide) (by omega)]
 exact yN n (by omega) (by omega)
theorem ae1(s:Int)(p:List UInt8):0≤jQ s p∧jQ s p<1073741789:=by
 unfold jQ
 omega
theorem VA(s:Int)(p:List UInt8)(hs:1≤s∧s<1073741789):fO (aA 4 s) p (jm s p) (jQ s p)=true:=by
 have hn:=zX s p
 have hE:=Jv s p
 unfold fO
 rw[KU s hs,decide_eq_true hE,decide_eq_true (ae1 s p)]
 have h:=begun s (jJ s p) (jm s p) ⟨by omega,hs.2⟩ ⟨by omega,hn.2⟩ hE
 have h2:jQ s p=(jJ s p+jm s p*s)%1073741789:=rfl
 rw[h2,h]
 simp[jm]
theorem Ou{x:Int}(h:cK x=true):x≠0:=by
 rintro rfl
 revert h
 decide
theorem Ox : ((List.range 6).map fun j : Nat => au (jP (cO (j : Nat)))).Pairwise (· ≠ ·) := by decide +kernel
abbrev nP(j:Nat):Int:=aA 4 (au (jP (cO (j:Nat))))
abbrev oP(j:Nat):Int:=aH (aC (cO (j:Nat)))
theorem ad7{i j:Nat}(hi:i<6)(hj:j<6)(h:i≠j):nP i≠nP j:=fun e=>by
 have P:=List.pairwise_iff_getElem.1 Ox
 have q:=Z6 (fZ _) (fZ _) e
 rcases Nat.lt_or_ge i j with o|o
 ·have:=P i j (by simpa using hi) (by simpa using hj) o
  simp only[List.getElem_map,List.getElem_range]at this
  exact this q
 ·have:=P j i (by simpa using hj) (by simpa using hi) (by omega)
  simp only[List.getElem_map,List.getElem_range]at this
  exact this q.symm
theorem PX(i:Nat):cK (nP i)=true:=KU _ (fZ _)
theorem ac6(i:Nat):cK (oP i)=true:=jF _
theorem Ro(i:Nat):fu (cO (i:Nat))=[nP i,oP i]:=rfl
end
end Go.Proofs.YtjdjelopkhjdnaaGreatDoor
