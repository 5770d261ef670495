/-
  The document's parties: another one's step, where it is refused.
-/
import Derived.Test.YtjhgelfnmhdihaaGreatDoorJ46
import Derived.Test.YtjhgelfnmhdihaaGreatDoorJ45
namespace Go.Proofs.YtjhgelfnmhdihaaGreatDoor
set_option linter.unusedVariables false
set_option linter.unusedSimpArgs false
set_option maxRecDepth 100000
open Go.RowKit
section
open Pm
attribute [local irreducible] aU aZ bR aA au dB cO aF bZ aN aT av ak aR cZ bX aQ bK gB iC aD bA aO jW dJ bW bH aH bT fU bJ bg gY aJ nk qP kF bn fV eD
set_option maxHeartbeats 8000000 in
theorem Wj(X:XS)(c:CS)(hc:qL c)(ht:c.tag.length=32)(hb:eD c≤900000)(hf:aG X.lf=true)(g:Int)
  (ho:(c.e≠X.e∧g=5)∨(c.e=X.e∧bn X.zs c.fr=false∧g=6)∨(c.e=X.e∧bn X.zs c.fr=true∧c.fr=X.lf∧g=6)∨(c.e=X.e∧bn X.zs c.fr=true∧c.fr≠X.lf∧fV (X.zs.getD (c.fr.toNat*2) 0) (aT c++c.tag) c.sE c.sS=false∧g=4)):
  aP 25 [.sref (dM X) 0,.agg (gZ c)] (.t [.v (.pointer none),.v (.int .i64 g)]):=by
 obtain⟨h1,h2,h3,h4,h5,h6⟩:=id hc
 obtain⟨f0,f1⟩:=dh hf
 have hl:=iX hc
 refine dK (E:=Rj) Tryz.func25 Tryz.ntmps25 ?_
 rcases ho with⟨a1,rfl⟩|⟨a1,a2,rfl⟩|⟨a1,a2,a3,rfl⟩|⟨a1,a2,a3,a4,rfl⟩
 ·have g1:(c.e !=X.e)=true:=by simpa using a1
  clear a1
  refine aj ?_;(try exact⟨⟩)
 ·have g1:(c.e !=X.e)=false:=by rw[a1];simp
  clear a1
  refine aj ?_;(try exact⟨⟩)
 ·have g1:(c.e !=X.e)=false:=by rw[a1];simp
  have g3:(c.fr==X.lf)=true:=by simpa using a3
  clear a1 a3
  refine aj ?_;(try exact⟨⟩)
 ·have g1:(c.e !=X.e)=false:=by rw[a1];simp
  have g3:(c.fr==X.lf)=false:=by simpa using a3
  obtain⟨m0,m1⟩:=fA a2
  clear a1 a3
  refine aj ?_;(try exact⟨⟩)
set_option maxHeartbeats 8000000 in
theorem Wm(X:XS)(c:CS)(hc:qL c)(ht:c.tag.length=32)(hb:eD c≤900000)(hf:aG X.lf=true)(a1:c.e=X.e)(a2:bn X.zs c.fr=true)(a3:c.fr≠X.lf)(a4:fV (X.zs.getD (c.fr.toNat*2) 0) (aT c++c.tag) c.sE c.sS=true)(g:Int)
  (ho:(bX X.e X.zs X.ad X.k X.ch c.fr c.ops c.n c.vs c.m≠0∧g=bX X.e X.zs X.ad X.k X.ch c.fr c.ops c.n c.vs c.m)∨
   (bX X.e X.zs X.ad X.k X.ch c.fr c.ops c.n c.vs c.m=0∧(((cZ X.e ⟨X.zs,X.ad,X.k,F8,F8⟩ c.fr c.ops c.n).1≠0∧g=(cZ X.e ⟨X.zs,X.ad,X.k,F8,F8⟩ c.fr c.ops c.n).1)∨
   ((cZ X.e ⟨X.zs,X.ad,X.k,F8,F8⟩ c.fr c.ops c.n).1=0∧(((xdo X c).gn.getD X.lf.toNat false=true∧g=0)∨
   ((xdo X c).gn.getD X.lf.toNat false=false∧((X.e≥1099511627776∧g=12)∨
   (¬X.e≥1099511627776∧((lZ c=false∧g=10)∨(lZ c=true∧((c.k≠(aQ (xzs X c) c.fr (xdo X c).ng).length∧g=10)∨
   (c.k=(aQ (xzs X c) c.fr (xdo X c).ng).length∧aR4 X (xzs X c) c (aQ (xzs X c) c.fr (xdo X c).ng) g∧g≠0)))))))))))):
  aP 25 [.sref (dM X) 0,.agg (gZ c)] (.t [.v (.pointer none),.v (.int .i64 g)]):=by
 obtain⟨h1,h2,h3,h4,h5,h6⟩:=id hc
 obtain⟨f0,f1⟩:=dh hf
 have hl:=iX hc
 have g1:(c.e !=X.e)=false:=by rw[a1];simp
 have g3:(c.fr==X.lf)=false:=by simpa using a3
 obtain⟨m0,m1⟩:=fA a2
 have hfc:aG c.fr=true:=by unfold aG;simp;omega
 have HO:=Lib.hid ho
 clear a1 a3 ho
 refine dK (E:=Rj) Tryz.func25 Tryz.ntmps25 ?_
 refine aj ?_;(try exact⟨⟩)
 intro er her
 by_cases z:er=0
 case neg=>
  have z2:(er !=0)=true:=by simpa using z
  have hg:g=er:=by
   rcases HO.out with⟨_,h⟩|⟨h,_⟩
   ·rw[h,her]
   ·exact absurd (her.trans h) z
  rw[hg]
  clear z hg
  refine aj ?_;(try exact⟨⟩)
 have z2:(er !=0)=false:=by rw[z];rfl
 have HO:=Lib.hid (HO.out.resolve_left fun h=>h.1 (her.symm.trans z)).2
 clear z her
 refine aj ?_;(try exact⟨⟩)
 intro e2 he2
 by_cases y:e2=0
 case neg=>
  have y1:=decide_eq_false y
  have y2:(e2 !=0)=true:=by simpa using y
  have hg:g=e2:=by
   rcases HO.out with⟨_,h⟩|⟨h,_⟩
   ·rw[h,he2]
   ·exact absurd (he2.trans h) y
  rw[hg]
  clear y hg
  refine aj ?_;(try exact⟨⟩)
 have y1:=decide_eq_true y
 have HO:=Lib.hid (HO.out.resolve_left fun h=>h.1 (he2.symm.trans y)).2
 clear y he2
 refine aj ?_;(try exact⟨⟩)
 intro s hs
 have hs:s=xdo X c:=hs
 rw[←hs]at HO
 have HS:=Lib.hid hs
 clear hs
 cases v1:s.gn.getD X.lf.toNat false with
 |true=>
  have hg:g=0:=by
   rcases HO.out with⟨_,h⟩|⟨h,_⟩
   ·exact h
   ·rw[v1]at h;cases h
  rw[hg]
  refine aj ?_;(try exact⟨⟩)
 |false=>
 have HO:=Lib.hid (HO.out.resolve_left fun h=>by rw[v1]at h;cases h.1).2
 by_cases v2:X.e≥1099511627776
 ·have hg:g=12:=by
   rcases HO.out with⟨_,h⟩|⟨h,_⟩
   ·exact h
   ·exact absurd v2 h
  rw[hg]
  refine aj ?_;(try exact⟨⟩)
 have HO:=Lib.hid (HO.out.resolve_left fun h=>v2 h.1).2
 refine aj ?_;(try exact⟨⟩)
 intro b Z hb hZ
 have hb:b=lZ c:=hb
 have hZ:Z=xzs X c:=hZ.trans (by rw[xzs,←HS.out])
 rw[←hZ,←hb]at HO
 clear hZ hb
 refine aj ?_;(try exact⟨⟩)
 intro l hl
 rw[←hl]at HO
 clear hl
 cases b with
 |false=>
  have hg:g=10:=by
   rcases HO.out with⟨_,h⟩|⟨h,_⟩
   ·exact h
   ·cases h
  rw[hg]
  refine aj ?_;(try exact⟨⟩)
 |true=>
 have HO:=Lib.hid (HO.out.resolve_left fun h=>by cases h.1).2
 by_cases v3:c.k=l.length
 ·obtain⟨_,ho,hg⟩:=HO.out.resolve_left fun h=>h.1 v3
  have z3:((l.length:Int) !=(c.k:Int))=false:=by simp;omega
  have z4:(g !=0)=true:=by simpa using hg
  clear v3 hg
  refine aj ?_;(try exact⟨⟩)
  refine⟨g,ho,?_⟩
  refine aj ?_;(try exact⟨⟩)
 ·have z3:((l.length:Int) !=(c.k:Int))=true:=by simp;omega
  have hg:g=10:=by
   rcases HO.out with⟨_,h⟩|⟨h,_⟩
   ·exact h
   ·exact absurd h v3
  rw[hg]
  clear v3
  refine aj ?_;(try exact⟨⟩)
end
section
open Pm
attribute [local irreducible] aU aZ bR aA au dB cO aF bZ aN aT av ak aR cZ bX aQ bK gB iC aD bA aO jW dJ bW bH aH bT fU bJ bg gY aJ nk qP kF bn fV eD
set_option maxHeartbeats 8000000 in
theorem Wo(X:XS)(c:CS)(hc:qL c)(ht:c.tag.length=32)(hb:eD c≤900000)(hf:aG X.lf=true)(a1:c.e=X.e)(a2:bn X.zs c.fr=true)(a3:c.fr≠X.lf)(a4:fV (X.zs.getD (c.fr.toNat*2) 0) (aT c++c.tag) c.sE c.sS=true)
  (k0:bX X.e X.zs X.ad X.k X.ch c.fr c.ops c.n c.vs c.m=0)(d0:(cZ X.e ⟨X.zs,X.ad,X.k,F8,F8⟩ c.fr c.ops c.n).1=0)(e0:0≤X.e){s:Vw}(hs:s=xdo X c)(v1:s.gn.getD X.lf.toNat false=false)(v2:¬X.e≥1099511627776)(kb:lZ c=true)
  {Z:List Int}(hZ:Z=xzs X c){l:List (Int×Int)}(hl:l=aQ Z c.fr s.ng)(hk:c.k=l.length){u S:List UInt8}{H:List Bool}
  (hop:ak3 Tryz.prog gTab 79 [.sref (dM X) 0,.agg (bS X.e Z s.ad s.k X.ch),.agg (gZ c),.row l.length [.ints .i64 (l.length*2) (bI l)]] (Zu X S H) [.agg [.bytes 32 u],.v (.int .i64 0)])
  {T:List UInt8}(hT:T=eB (mX (lg X.jK u) (aR (X.e+1) Z s.ad s.k (uh X.ch (aT c))))):
  aP 25 [.sref (dM X) 0,.agg (gZ c)] (.t (if T=c.tag then[.sref (dM ⟨X.e+1,Z,s.ad,s.k,uh X.ch (aT c),X.lf,X.x,X.y,S,H,mX (lg X.jK u) (aR (X.e+1) Z s.ad s.k (uh X.ch (aT c))),zY (mX (lg X.jK u) (aR (X.e+1) Z s.ad s.k (uh X.ch (aT c))))⟩) 0,.v (.int .i64 0)]else[.v (.pointer none),.v (.int .i64 11)])):=by
 obtain⟨h1,h2,h3,h4,h5,h6⟩:=id hc
 obtain⟨f0,f1⟩:=dh hf
 have hbl:=iX hc
 have g1:(c.e !=X.e)=false:=by rw[a1];simp
 have g3:(c.fr==X.lf)=false:=by simpa using a3
 obtain⟨m0,m1⟩:=fA a2
 have hfc:aG c.fr=true:=by unfold aG;simp;omega
 have K0:=Lib.hid k0
 have D0:=Lib.hid d0
 have HS:=Lib.hid hs
 have HZ:=Lib.hid hZ
 have HL:=Lib.hid hl
 have KB:=Lib.hid kb
 have HT:=Lib.hid hT
 have HOP:=Lib.hid hop
 have z3:((l.length:Int) !=(c.k:Int))=false:=by simp;omega
 clear a1 a3 k0 d0 hs hZ hl kb hk hT hop
 refine by3 (E:=Rj) Tryz.func25 Tryz.ntmps25 ?_
 refine GW.seq (GW.of ?_)
 refine aj ?_;(try exact⟨⟩)
 refine GW.seq (GW.of ?_)
 refine aj ?_;(try exact⟨⟩)
 refine GW.seq (GW.of ?_)
 refine aj ?_;(try exact⟨⟩)
 intro er her
 have z2:(er !=0)=false:=by rw[her,K0.out];rfl
 clear her
 refine aj ?_;(try exact⟨⟩)
 refine GW.seq (GW.of ?_)
 refine aj ?_;(try exact⟨⟩)
 refine GW.seq (GW.of ?_)
 refine aj ?_;(try exact⟨⟩)
 intro e2 he2
 have y1:decide (e2=0)=true:=by rw[he2,D0.out];rfl
 clear he2
 refine aj ?_;(try exact⟨⟩)
 intro s' hs'
 obtain rfl:s'=s:=hs'.trans HS.out.symm
 clear hs'
 refine aj ?_;(try exact⟨⟩)
 refine GW.seq (GW.of ?_)
 refine aj ?_;(try exact⟨⟩)
 refine GW.seq (GW.of ?_)
 refine aj ?_;(try exact⟨⟩)
 intro b Z' hb' hZ'
 obtain rfl:Z'=Z:=hZ'.trans (by rw[HZ.out,xzs,←HS.out])
 obtain rfl:b=true:=(show b=lZ c from hb').trans KB.out
 clear hZ' hb'
 refine aj ?_;(try exact⟨⟩)
 refine GW.seq (GW.of ?_)
 refine aj ?_;(try exact⟨⟩)
 intro l' hl'
 obtain rfl:l'=l:=hl'.trans HL.out.symm
 clear hl'
 refine aj ?_;(try exact⟨⟩)
 refine GW.seq (GW.of ?_)
 refine aj ?_;(try exact⟨⟩)
 have he0: -4611686018427387904≤X.e:=by omega
 have he1:X.e≤4611686018427387904:=by omega
 refine GW.seq (GW.region (GL.aS4 4 ?_))
 refine aj ?_;(try exact⟨⟩)
 refine GL.aJ7 rfl rfl rfl rfl (fun _=>rfl) rfl rfl rfl rfl rfl rfl rfl rfl rfl rfl rfl rfl rfl (Nat.le_of_ble_eq_true rfl) (Nat.le_of_ble_eq_true rfl) (by decide) (by decide) HOP.out rfl ⟨rfl,rfl⟩ ⟨_,Tryz.func79,by kernel_rfl,by kernel_rfl⟩ (GL.of (Stop.out ?_))
 refine aj ?_;(try exact⟨⟩)
 refine GW.of ?_
 refine aj ?_;(try exact⟨⟩)
 by_cases y:T=c.tag
 ·rw[if_pos y]
  have g5:bf [Seg.bytes 32 T] [Seg.bytes 32 c.tag]=true:=by
   show(decide (T=c.tag)&&true)=true
   rw[decide_eq_true y]
   rfl
  rw[HT.out]at g5
  have g6:=congrArg not g5
  clear y g5
  refine aj ?_;(try exact⟨⟩)
  rfl
 ·rw[if_neg y]
  have g5:bf [Seg.bytes 32 T] [Seg.bytes 32 c.tag]=false:=by
   show(decide (T=c.tag)&&true)=false
   rw[decide_eq_false y]
   rfl
  rw[HT.out]at g5
  have g6:=congrArg not g5
  clear y g5
  refine aj ?_;(try exact⟨⟩)
end
section
open Pm
theorem bq4:∀a:Nat,a<8→∀b:Nat,b<8→a≠b→∀k:Nat,k<3→(kr (b:Int)).getD k 0=aD (b:Int) a→aD (a:Int) b=(kr (a:Int)).getD k 0:=by decide+kernel
theorem bq5{a b:Int}(a0:0≤a)(a1:a<8)(b0:0≤b)(b1:b<8)(hne:a≠b){k:Nat}(hk:k<3)(h:(kr b).getD k 0=aD b a):aD a b=(kr a).getD k 0:=by
 obtain⟨i,rfl⟩:=Int.eq_ofNat_of_zero_le a0
 obtain⟨j,rfl⟩:=Int.eq_ofNat_of_zero_le b0
 exact bq4 i (by omega) j (by omega) (fun e=>hne (by rw[e])) k hk h
theorem az5(p:PS):(dQ p).e=p.e∧(dQ p).zs=p.zs∧(dQ p).ad=p.ad∧(dQ p).k=p.k∧(dQ p).ch=p.ch∧(dQ p).lf=p.lf∧(dQ p).s=sP p∧(dQ p).has=om p∧(dQ p).jK=p.jK∧(dQ p).x=au p.sg∧(dQ p).y=aA 4 (au p.sg):=by
 dsimp only[dQ]
 exact⟨rfl,rfl,rfl,rfl,rfl,rfl,rfl,rfl,rfl,rfl,rfl⟩
attribute [local irreducible] aA au dB cO aF bZ aN aT av ak aR cZ bX aQ bK gB iC aD bA aO bJ bg gY aJ nk qP kF bn fV eD dQ
theorem av8{p:PS}{c:CS}(h:qb p c≠0):eF p c=(qb p c,none):=by unfold eF;rw[if_pos h]
theorem R8{p:PS}{c:CS}(h:qb p c=0)(h2:jW p c.fr c.n c.ops c.m c.vs≠0):eF p c=(jW p c.fr c.n c.ops c.m c.vs,none):=by unfold eF;rw[if_neg (fun x=>x h),if_pos h2]
section
variable {p : PS} {c : CS} (h : qb p c = 0) (h2 : jW p c.fr c.n c.ops c.m c.vs = 0)
include h h2
theorem av9(h3:(dJ p c.fr c.n c.ops).gn.getD p.lf.toNat false=true):eF p c=(0,none):=by unfold eF;rw[if_neg (fun x=>x h),if_neg (fun x=>x h2),if_pos h3]
variable (h3 : (dJ p c.fr c.n c.ops).gn.getD p.lf.toNat false = false)
include h3
theorem aw0(h4:p.e≥1099511627776):eF p c=(12,none):=by unfold eF;rw[if_neg (fun x=>x h),if_neg (fun x=>x h2),if_neg (by rw[h3];decide),if_pos h4]
variable (h4 : ¬ p.e ≥ 1099511627776) {F : Int × List UInt8 × PS} (hF : F = pF (fK p (dJ p c.fr c.n c.ops) c) c (aQ (dJ p c.fr c.n c.ops).zs c.fr (dJ p c.fr c.n c.ops).ng))
include h4 hF
theorem aw1(h5:F.1≠0):eF p c=(F.1,none):=by unfold eF;rw[if_neg (fun x=>x h),if_neg (fun x=>x h2),if_neg (by rw[h3];decide),if_neg h4,←hF,if_pos h5]
theorem aw2(h5:F.1=0):eF p c=if eB (bC F.2.2 (lg p.jK F.2.1)).ep=c.tag then(0,some (bC F.2.2 (lg p.jK F.2.1)))else(11,none):=by unfold eF;rw[if_neg (fun x=>x h),if_neg (fun x=>x h2),if_neg (by rw[h3];decide),if_neg h4,←hF,if_neg (fun x=>x h5)]
end
theorem Nf(p:PS)(hp:Own p)(c:CS)(hc:qL c)(ht:c.tag.length=32)(hb:eD c≤900000):
  aP 25 [.sref (dM (dQ p)) 0,.agg (gZ c)] (.t [LV (eF p c).2,.v (.int .i64 (eF p c).1)]):=by
 have l0:=hp.inv.lf0
 have l1:=hp.inv.lf1
 have hf:aG p.lf=true:=by unfold aG;simp;omega
 obtain⟨X,hX⟩:∃X,X=dQ p:=⟨_,rfl⟩
 obtain⟨x1,x2,x3,x4,x5,x6,x7,x8,x9,xa⟩:=az5 p
 rw[←hX]at x1 x2 x3 x4 x5 x6 x7 x8 x9 xa
 rw[←hX]
 have hfX:aG X.lf=true:=by rw[x6];exact hf
 by_cases ha:qb p c=0
 case neg=>
  rw[av8 ha]
  refine Wj X c hc ht hb hfX (qb p c) ?_
  rw[x1,x2,x6]
  unfold qb
  by_cases a1:c.e=p.e
  ·cases a2:bn p.zs c.fr with
   |false=>exact .inr (.inl ⟨a1,rfl,by rw[if_neg (fun x=>x a1),if_pos (.inr rfl)]⟩)
   |true=>
    by_cases a3:c.fr=p.lf
    ·exact .inr (.inr (.inl ⟨a1,rfl,a3,by rw[if_neg (fun x=>x a1),if_pos (.inl a3)]⟩))
    ·cases a4:fV (p.zs.getD (c.fr.toNat*2) 0) (aT c++c.tag) c.sE c.sS with
     |false=>exact .inr (.inr (.inr ⟨a1,rfl,a3,rfl,by rw[if_neg (fun x=>x a1),if_neg (by rintro(h|h);exact a3 h;cases h),if_neg (by decide)]⟩))
     |true=>
      exfalso
      apply ha
      unfold qb
      rw[if_neg (fun x=>x a1),a2,if_neg (by rintro(h|h);exact a3 h;cases h),a4,if_pos rfl]
  ·exact .inl ⟨a1,by rw[if_pos a1]⟩
 obtain⟨a1,a3,a2⟩:=accE_0 ha
 have a4:fV (p.zs.getD (c.fr.toNat*2) 0) (aT c++c.tag) c.sE c.sS=true:=by
  have h:=ha
  unfold qb at h
  rw[if_neg (fun x=>x a1),a2,if_neg (by rintro(h|h);exact a3 h;cases h)]at h
  cases q:fV (p.zs.getD (c.fr.toNat*2) 0) (aT c++c.tag) c.sE c.sS with
  |true=>rfl
  |false=>rw[q]at h;cases h
 obtain⟨f0,f1⟩:=fA a2
 have B:∀g:Int,_→aP 25 [.sref (dM X) 0,.agg (gZ c)] (.t [.v (.pointer none),.v (.int .i64 g)]):=fun g=>Wm X c hc ht hb hfX (a1.trans x1.symm) (x2▸a2) (fun e=>a3 (e.trans x6)) (x2▸a4) g
 obtain⟨s,hs⟩:∃s,s=dJ p c.fr c.n c.ops:=⟨_,rfl⟩
 have hsX:xdo X c=s:=by rw[hs,xdo,x1,x2,x3,x4];rfl
 have hZX:xzs X c=gu s.zs c.fr c.sl c.p0 c.p1 c.p2:=by rw[xzs,hsX]
 rw[hsX,hZX,x1,x2,x3,x4,x5,x6]at B
 have hap:jW p c.fr c.n c.ops c.m c.vs=if bX p.e p.zs p.ad p.k p.ch c.fr c.ops c.n c.vs c.m≠0 then bX p.e p.zs p.ad p.k p.ch c.fr c.ops c.n c.vs c.m else(cZ p.e ⟨p.zs,p.ad,p.k,F8,F8⟩ c.fr c.ops c.n).1:=rfl
 by_cases k0:bX p.e p.zs p.ad p.k p.ch c.fr c.ops c.n c.vs c.m=0
 case neg=>
  rw[if_pos k0]at hap
  rw[R8 ha (by rw[hap];exact k0),hap]
  exact B _ (.inl ⟨k0,rfl⟩)
 rw[if_neg (fun x=>x k0)]at hap
 by_cases d0:(cZ p.e ⟨p.zs,p.ad,p.k,F8,F8⟩ c.fr c.ops c.n).1=0
 case neg=>
  rw[R8 ha (by rw[hap];exact d0),hap]
  exact B _ (.inr ⟨k0,.inl ⟨d0,rfl⟩⟩)
 have aq2:=hap.trans d0
 cases v1:s.gn.getD p.lf.toNat false with
 |true=>
  rw[av9 ha aq2 (by rw[←hs];exact v1)]
  exact B 0 (.inr ⟨k0,.inr ⟨d0,.inl ⟨v1,rfl⟩⟩⟩)
 |false=>
 by_cases v2:p.e≥1099511627776
 ·rw[aw0 ha aq2 (by rw[←hs];exact v1) v2]
  exact B 12 (.inr ⟨k0,.inr ⟨d0,.inr ⟨v1,.inl ⟨v2,rfl⟩⟩⟩⟩)
 obtain⟨F,hF⟩:∃F,F=pF (fK p s c) c (aQ s.zs c.fr s.ng):=⟨_,rfl⟩
 obtain⟨l,hl⟩:∃l,l=aQ s.zs c.fr s.ng:=⟨_,rfl⟩
 have hlZ:aQ (gu s.zs c.fr c.sl c.p0 c.p1 c.p2) c.fr s.ng=l:=by rw[hl,L6 f0 f1]
 rw[hlZ]at B
 have B2:∀g:Int,g≠0→F.1=g→((lZ c=false∧g=10)∨(lZ c=true∧((c.k≠l.length∧g=10)∨(c.k=l.length∧aR4 X (gu s.zs c.fr c.sl c.p0 c.p1 c.p2) c l g∧g≠0))))→
   aP 25 [.sref (dM X) 0,.agg (gZ c)] (.t [LV (eF p c).2,.v (.int .i64 (eF p c).1)]):=fun g hg hFg h=>by
  rw[aw1 ha aq2 (by rw[←hs];exact v1) v2 (F:=F) (by rw[←hs];exact hF) (by rw[hFg];exact hg),hFg]
  exact B g (.inr ⟨k0,.inr ⟨d0,.inr ⟨v1,.inr ⟨v2,h⟩⟩⟩⟩)
 rw[←hl]at hF
 have hF0:=hF
 have hgo:Goes p.zs s:=by rw[hs];exact(vJ hp.inv.zl hp.inv.al d0).1
 have hlen:l.length≤3000:=by rw[hl];have:=oW s.zs s.ng c.fr;omega
 have hkp:Keep p.zs p.lf.toNat s:=by rw[hs];exact IX hp.inv.zl (by omega) hp.mem d0
 have hlf:bq s.zs p.lf.toNat=bq p.zs p.lf.toNat:=by
  rcases hkp.or with o|o
  ·rw[v1]at o;cases o
  ·exact o.2.1
 have hne:p.lf≠c.fr:=fun e=>a3 e.symm
 obtain⟨N,hN⟩:∃N,dD l p.lf=N:=⟨_,rfl⟩
 have hNl:N≤l.length:=by rw[←hN];exact List.findIdx_le_length
 unfold pF at hF
 have hNb:dD l (fK p s c).lf=N:=hN
 rw[hNb]at hF
 cases kb:lZ c with
 |false=>
  rw[if_pos (.inl kb)]at hF
  exact B2 10 (by decide) (by rw[hF]) (.inl ⟨kb,rfl⟩)
 |true=>
 by_cases hk:c.k=l.length
 case neg=>
  rw[if_pos (.inr (.inl hk))]at hF
  exact B2 10 (by decide) (by rw[hF]) (.inr ⟨kb,.inl ⟨hk,rfl⟩⟩)
 by_cases hn:N=l.length
 ·rw[if_pos (.inr (.inr hn))]at hF
  refine B2 10 (by decide) (by rw[hF]) (.inr ⟨kb,.inr ⟨hk,⟨hlen,N,by rw[x6];exact hN,.inl ⟨hn,rfl⟩⟩,by decide⟩⟩)
 rw[if_neg (by rintro(h|h|h);rw[kb]at h;cases h;exact h hk;exact hn h)]at hF
 have hlt:N<l.length:=by omega
 have hmem:l.getD N (0,0)∈l:=by rw[List.getD_eq_getElem?_getD,List.getElem?_eq_getElem hlt];exact List.getElem_mem hlt
 have hun:aJ (l.getD N (0,0)).2 p.lf=true:=by
  have h3:=List.findIdx_getElem (p:=fun q:Int×Int=>aJ q.2 p.lf) (xs:=l) (w:=by show dD l p.lf<_;rw[hN];exact hlt)
  have e:l.getD N (0,0)=l[dD l p.lf]'(by rw[hN];exact hlt):=by
   rw[List.getD_eq_getElem?_getD,List.getElem?_eq_getElem hlt]
   simp only[Option.getD_some,hN]
  rw[e]
  exact h3
 obtain⟨q1,q2,q3,q4,q5,q6,q7⟩:=Z9 hp f0 f1 hne hgo hlf hl hmem hun
 have hfl:=(rz l N).2
 obtain⟨rk,rn,hr⟩:∃rk rn,l.getD N (0,0)=(rk,rn):=⟨_,_,rfl⟩
 rw[hr]at hF q1 q2 q3 q4 q5 q6 q7 hfl
 dsimp only at hF q1 q2 q3 q4 q5 q6 q7 hfl
 obtain⟨Z,hZ⟩:∃Z,Z=gu s.zs c.fr c.sl c.p0 c.p1 c.p2:=⟨_,rfl⟩
 rw[←hZ]at q6 hZX B2
 have hS:blk (nk X.s X.has Z 15) rn.toNat=lF p rn:=by
  rw[x7,x8,I5 (P9 hp.inv) _ _ 15 (by decide) _ (by omega),if_pos ⟨by omega,q6⟩,q7]
 have hS':List.take 32 (List.drop (((bI l).getD (N*2+1) 0).toNat*32) (nk X.s X.has Z 15))=lF p rn:=by rw[hfl];exact hS
 have hH:(qP X.has Z 15).getD ((bI l).getD (N*2+1) 0).toNat false=true:=by
  rw[hfl,x8,I4 _ _ 15 (by decide) _ (by omega),q6,decide_eq_true (by omega)]
  rfl
 have bB4:lF (fK p s c) rn=lF p rn:=rfl
 rw[bB4]at hF
 have b0:0≤(bI l).getD (N*2+1) 0:=by rw[hfl];exact q3
 have b1:(bI l).getD (N*2+1) 0<15:=by rw[hfl];exact q4
 have hrk:rk.toNat<3:=by omega
 have hcm:aD X.lf c.fr=(kr X.lf).getD rk.toNat 0:=by rw[x6];exact bq5 l0 l1 f0 f1 hne hrk q5
 have no:∀g:Int,g≠0→F.1=g→_→aP 25 [.sref (dM X) 0,.agg (gZ c)] (.t [LV (eF p c).2,.v (.int .i64 (eF p c).1)]):=
  fun g hg hFg h=>B2 g hg hFg (.inr ⟨kb,.inr ⟨hk,⟨hlen,N,by rw[x6];exact hN,.inr ⟨hlt,by omega,b0,b1,hH,h⟩⟩,hg⟩⟩)
 rw[hS']at no
 by_cases g1:bJ (au (av (lF p rn))) (c.bx N)=0
 case neg=>
  have hpe:qV (lF p rn) (c.bx N)=3:=by unfold qV;rw[if_pos g1]
  rw[hpe,if_pos (by decide)]at hF
  exact no 3 (by decide) (by rw[hF]) (.inl ⟨rfl,g1⟩)
 by_cases g2:(c.bx N).length-12=32
 case neg=>
  have hpe:qV (lF p rn) (c.bx N)=10:=by unfold qV;rw[if_neg (fun x=>x g1),if_pos g2]
  rw[hpe,if_pos (by decide)]at hF
  exact no 10 (by decide) (by rw[hF]) (.inr (.inl ⟨rfl,g1,g2⟩))
 have hpe:qV (lF p rn) (c.bx N)=0:=by unfold qV;rw[if_neg (fun x=>x g1),if_neg (fun x=>x g2)]
 rw[hpe,if_neg (show ¬(0:Int)≠0 from fun x=>x rfl)]at hF
 have hBl:(bg (au (av (lF p rn))) (c.bx N)).length=32:=(oV g1).trans g2
 obtain⟨o1,o2⟩:=UR hp f0 f1 hne hgo hlf (h:=bg (au (av (lF p rn))) (c.bx N)) hBl hrk q5
 rw[←hZ,←x7,←x8]at o1 o2
 cases hcl:(aW (gX (fK p s c) rk.toNat) (bg (au (av (lF p rn))) (c.bx N)) rk.toNat).1 with
 |false=>
  rw[hcl,if_neg (by decide)]at hF
  exact no 10 (by decide) (by rw[hF]) (.inr (.inr ⟨rfl,g1,g2,hfX,rk.toNat,hcm,hrk,by rw[x6];exact o1.trans hcl⟩))
 |true=>
 have o2:=o2 hcl
 rw[hcl,if_pos rfl]at hF
 have hop:=UU X X.e Z s.ad s.k X.ch c l hc hlen (N:=N) (by rw[x6];exact hN) hlt (by omega) b0 b1 hH (by rw[hS'];exact g1) g2 hfX hcm hrk (by rw[hS',x6];exact o2)
 obtain⟨P2,hP⟩:∃P2,P2=(aW (gX (fK p s c) rk.toNat) (bg (au (av (lF p rn))) (c.bx N)) rk.toNat).2:=⟨_,rfl⟩
 rw[←hP]at hop hF
 have hsame:jY (fK p s c) P2.2:=by rw[hP];exact Qb (show(fK p s c).ab.length=96 from hp.inv.bl) hBl hrk hcl
 have hfin:=aw2 ha aq2 (by rw[←hs];exact v1) v2 (F:=F) (by rw[←hs,←hl];exact hF0) (by rw[hF])
 have f1':F.2.1=P2.1:=by rw[hF]
 have f2':F.2.2=P2.2:=by rw[hF]
 rw[f1',f2']at hfin
 have hY:=Wo X c hc ht hb hfX (a1.trans x1.symm) (x2▸a2) (fun e=>a3 (e.trans x6)) (x2▸a4) (by rw[x1,x2,x3,x4,x5];exact k0) (by rw[x1,x2,x3,x4];exact d0)
  (by rw[x1];exact(nA.1 hp.may).1) hsX.symm (by rw[x6];exact v1) (by rw[x1];exact v2) kb hZX.symm (by rw[hZ];exact hlZ.symm) hk hop rfl
 have htag:eB (bC P2.2 (lg p.jK P2.1)).ep=eB (mX (lg X.jK P2.1) (aR (X.e+1) Z s.ad s.k (uh X.ch (aT c)))):=by
  rw[GY,hsame.e,hsame.zs,hsame.ad,hsame.k,hsame.ch,x9,x1,x5,hZ]
  rfl
 have hxo:=Ia hsame (lg p.jK P2.1)
 by_cases y:eB (bC P2.2 (lg p.jK P2.1)).ep=c.tag
 ·rw[if_pos y]at hfin
  rw[if_pos (htag.symm.trans y)]at hY
  rw[hfin]
  show aP _ _ (.t [.sref (dM (dQ (bC P2.2 (lg p.jK P2.1)))) 0,.v (.int .i64 0)])
  rw[hxo]
  rw[x1,x5,x6,x9,xa.1,xa.2,hZ]at hY
  exact hY
 ·rw[if_neg y]at hfin
  rw[if_neg (fun e=>y (htag.trans e))]at hY
  rw[hfin]
  exact hY
end
end Go.Proofs.YtjhgelfnmhdihaaGreatDoor
