/-
 The statement of PartyQuorum is proved: whatever the input, the law's call returns true, and each argument reads behind it as before. The listed package variables hold what the program's text lays (the card ties them).
-/
import Derived.Test.YtjhgelfnmhdihaaGreatDoorJ52
import Derived.Test.YtjhgelfnmhdihaaGreatDoorDg
import Derived.Test.YtjhgelfnmhdihaaGreatDoorCards
import Derived.Test.YtjhgelfnmhdihaaGreatDoorTie
import Derived.ShutString
import Derived.ChangeOld
import Derived.Below
import Derived.SevenTiedAt
namespace Go.Proofs.YtjhgelfnmhdihaaGreatDoor
set_option linter.unusedSectionVars false
set_option linter.unusedVariables false
set_option linter.unusedSimpArgs false
set_option maxRecDepth 100000
open Go.RowKit
section
open Pm
attribute [local irreducible] cO aA au jm aC dA gu dU bU aI
end
section
open Pm
theorem El{p:PS}(h:Own p):bn p.zs p.lf=true:=by
 have l0:=h.inv.lf0
 have l1:=h.inv.lf1
 have e:p.lf=((p.lf.toNat:Nat):Int):=by omega
 rw[e,Ba _ (by omega)]
 unfold dF
 rw[h.lf]
 exact decide_eq_true fun e=>DT (DU _ (dL p.sg)) (List.cons.inj e).1
theorem as8{p:PS}(h:Own p)(he:p.e<1099511627776):bW p 0 [] 0 []=0∧dJ p p.lf 0 []=⟨p.zs,p.ad,p.k,F8,F8⟩:=by
 have hd:=KE (e:=p.e) (s:=⟨p.zs,p.ad,p.k,F8,F8⟩) (fr:=p.lf) h.may (El h)
 refine⟨?_,?_⟩
 ·have hc:bX p.e p.zs p.ad p.k p.ch p.lf [] 0 [] 0=0:=by unfold bX;rw[if_pos rfl,if_pos rfl]
  unfold bW
  rw[if_neg (fun h=>h hc),hd,if_neg (fun h=>h rfl),if_neg (by omega)]
 ·unfold dJ;rw[hd]
theorem F8_0(k:Nat):F8.getD k false=false:=by rcases k with _|_|_|_|_|_|_|_|k<;>rfl
end
section
open Pm
attribute [local irreducible] cO aA au jm aC dA gu dU bU aI
section
variable {i : Nat} {q : PS} (h : GV i 1 q) (i0 : i < 7) {w : Nat} (w0 : 1 ≤ w) (w1 : w < i) {x y : Int} (hx : cO x = true) (hy : cO y = true) (hn : ∀ j, j < i → q.zs.getD (j * 2) 0 ≠ x)
include h i0 w0 w1 hx hy hn
end
end
section
open Pm
attribute [local irreducible] cO aA au jm aC dA gu dU bU aI
theorem Ga:∀(l:List (List Int)) (j r:Nat),(∀x∈l,x.length=3)→r<3→l.flatten.getD (j*3+r) 0=(l.getD j []).getD r 0
 |[],j,r,_,_=>by simp
 |x::l,0,r,h,hr=>by
  have hx:=h x (by simp)
  rw[List.flatten_cons,List.getD_eq_getElem?_getD,List.getElem?_append_left (by omega),←List.getD_eq_getElem?_getD,Nat.zero_mul,Nat.zero_add]
  rfl
 |x::l,j+1,r,h,hr=>by
  have hx:=h x (by simp)
  rw[List.flatten_cons,List.getD_eq_getElem?_getD,List.getElem?_append_right (by omega),hx,←List.getD_eq_getElem?_getD,show(j+1)*3+r-3=j*3+r by omega,Ga l j r (fun y hy=>h y (by simp[hy])) hr]
  rfl
def mP(G:List (Option PS))(fr:Int)(ops:List Int)(n:Nat):List Int:=((List.range n).map fun j=>match iE G j with|some p=>wQ p fr ops|none=>[0,0,0]).flatten
theorem tF{G:List (Option PS)}{fr:Int}{ops:List Int}{n j r:Nat}(hj:j<n)(hr:r<3){p:PS}(hp:iE G j=some p):(mP G fr ops n).getD (j*3+r) 0=(wQ p fr ops).getD r 0:=by
 unfold mP
 rw[Ga _ _ _ ?_ hr]
 ·have e:((List.range n).map fun j=>match iE G j with|some p=>wQ p fr ops|none=>[0,0,0]).getD j []=wQ p fr ops:=by
   rw[List.getD_eq_getElem?_getD,List.getElem?_map,List.getElem?_range hj]
   simp only[Option.map_some,Option.getD_some]
   rw[hp]
  rw[e]
 ·intro x hx
  obtain⟨k,_,rfl⟩:=List.mem_map.1 hx
  split<;>rfl
theorem R3{p:PS}(h:Own p):p.zs.getD (p.lf.toNat*2) 0=aA 4 (au p.sg):=by
 have l1:=h.inv.lf1
 have l0:=h.inv.lf0
 have:=h.lf
 rw[gJ (by rw[h.inv.zl];decide) (by omega)]at this
 exact(List.cons.inj this).1
section
variable {i : Nat} {G : List (Option PS)} (h : Full i G) (i1 : i ≤ 8) {q : PS} {f : Nat} (hf : f < i) (hq : iE G f = some q) (had : ∀ j, j < i → q.ad.getD j false = true)
include h i1 hf hq had
theorem ab0(ops:List Int){n:Nat}(hn:n≤i){j:Nat}(hj:j<n):mU q.zs q.ad (dw q.e q.zs q.ad q.k q.ch q.lf ops) (mP G q.lf ops n) j=true:=by
 obtain⟨p,hp,pl⟩:=h.at' j (by omega)
 have po:=h.FC.own j p hp
 have lk:=h.FC.like j f p q hp hq
 have g0:=tF (fr:=q.lf) (ops:=ops) hj (show 0<3 by decide) hp
 have g1:=tF (fr:=q.lf) (ops:=ops) hj (show 1<3 by decide) hp
 have g2:=tF (fr:=q.lf) (ops:=ops) hj (show 2<3 by decide) hp
 rw[Nat.add_zero]at g0
 have g0:(mP G q.lf ops n).getD (j*3) 0=(j:Nat):=g0.trans pl
 have g1:(mP G q.lf ops n).getD (j*3+1) 0=jo (au p.sg) (dw p.e p.zs p.ad p.k p.ch q.lf ops):=g1
 have g2:(mP G q.lf ops n).getD (j*3+2) 0=jQ (au p.sg) (dw p.e p.zs p.ad p.k p.ch q.lf ops):=g2
 have hk:=R3 po
 rw[pl,Int.toNat_natCast,lk.zs]at hk
 have hl:oD (mP G q.lf ops n) j<(j:Nat):=by
  rcases j with _|j
  ·show(-1:Int)<_;omega
  ·obtain⟨p2,hp2,pl2⟩:=h.at' j (by omega)
   have g0':=tF (n:=n) (fr:=q.lf) (ops:=ops) (show j<n by omega) (show 0<3 by decide) hp2
   rw[Nat.add_zero]at g0'
   have g0':(mP G q.lf ops n).getD (j*3) 0=(j:Nat):=g0'.trans pl2
   show(mP G q.lf ops n).getD (j*3) 0<_
   rw[g0'];omega
 have ha:jZ q.ad (j:Int)=true:=by
  unfold jZ aG
  rw[decide_eq_true (show(0:Int)≤(j:Int) by omega),decide_eq_true (show(j:Int)<8 by omega),Int.toNat_natCast,had j (by omega)]
  rfl
 unfold mU
 rw[g0,g1,g2,ha,decide_eq_true hl,Int.toNat_natCast,hk,lk.e,lk.zs,lk.ad,lk.k,lk.ch,Hw _ _ (dL _)]
 rfl
theorem bv1{ops:List Int}{n:Nat}(hn:n≤i){o:Nat}(ho:o≠0)(hd:(cZ q.e ⟨q.zs,q.ad,q.k,F8,F8⟩ q.lf ops o).1=0)(he:q.e<1099511627776):bW q o ops n (mP G q.lf ops n)=if(n:Int)<q.k then 8 else 0:=by
 have hc:Fx q.zs q.ad (dw q.e q.zs q.ad q.k q.ch q.lf ops) (mP G q.lf ops n) n=0:=yD fun j hj=>ab0 h i1 hf hq had ops hn hj
 have hv:bX q.e q.zs q.ad q.k q.ch q.lf ops o (mP G q.lf ops n) n=if(n:Int)<q.k then 8 else 0:=by
  unfold bX
  rw[if_neg ho,if_neg (fun h=>h hd),if_neg (fun h=>h hc)]
 unfold bW
 rw[hv]
 by_cases o:(n:Int)<q.k
 ·rw[if_pos o,if_pos (by decide)]
 ·rw[if_neg o,if_neg (fun h=>h rfl),if_neg (fun h=>h hd),if_neg (by omega)]
theorem bv0{ops:List Int}{o:Nat}(ho:o≠0)(hd:(cZ q.e ⟨q.zs,q.ad,q.k,F8,F8⟩ q.lf ops o).1=0){j:Nat}(hj:j<i){p:PS}(hp:iE G j=some p):l8 p.e p.zs p.ad p.k p.lf (au p.sg) q.lf ops o=0:=by
 have lk:=h.FC.like j f p q hp hq
 obtain⟨p',hp',pl⟩:=h.at' j hj
 rw[hp]at hp'
 cases hp'
 have hk:=R3 (h.FC.own j p hp)
 have ha:jZ p.ad p.lf=true:=by
  unfold jZ aG
  rw[pl,decide_eq_true (show(0:Int)≤(j:Int) by omega),decide_eq_true (show(j:Int)<8 by omega),Int.toNat_natCast,lk.ad,had j hj]
  rfl
 unfold l8
 rw[if_neg ho,if_neg (by rw[lk.e,lk.zs,lk.ad,lk.k];exact fun h=>h hd),if_neg (by rw[ha];decide),if_neg (fun h=>h hk.symm)]
end
theorem bC2{p:PS}(h:Own p):cZ p.e ⟨p.zs,p.ad,p.k,F8,F8⟩ p.lf (opsL 1) 1=(0,⟨p.zs,p.ad,1,F8,F8⟩):=by
 have hm:=h.may
 have hc:1≤((jh p.ad:Nat):Int):=by
  unfold dU at hm
  simp only[Bool.and_eq_true,decide_eq_true_eq]at hm
  omega
 refine KD hm (by decide) rfl (El h) ?_ hc
 show gP p.lf [5,0,1,0,0] (0+1) 0 _=_
 rw[runV_1 (d:=0) (o:=[5,0,1,0,0]) rfl (by rfl),runV_0]
 rfl
theorem bq2{i a:Nat}{G:List (Option PS)}(h:GI i a G)(i0:1≤i)(i1:i<8)(a0:1≤a)(a1:a≤8){k:Int}(k0:1≤k)(k1:k≤a){q:PS}(hq:iE G 0=some q)(d:List UInt8):
  ∃p,iE (stepM G 0 1 (opsL k) 1 (fZ q (opsL k)) d) 0=some p∧p.k=k∧p.e=q.e+1∧p.ad=q.ad:=by
 have g:=h.v q hq
 have hd:=aE6 g i0 a1 k0 k1
 obtain⟨c1,c2⟩:=uD (n:=1) (ops:=opsL k) (by decide) (by rw[hd]) (Em g.own g.lf) (DI g a0) g.k g.lf (by rw[g.e];omega)
 have hs2:dJ q q.lf 1 (opsL k)=⟨q.zs,q.ad,k,F8,F8⟩:=by unfold dJ;rw[hd]
 have e:stepM G 0 1 (opsL k) 1 (fZ q (opsL k)) d=qd G 0 (aH q ⟨q.zs,q.ad,k,F8,F8⟩ 1 (opsL k) 1 (fZ q (opsL k)) d) (bH q ⟨q.zs,q.ad,k,F8,F8⟩ 1 (opsL k) 1 (fZ q (opsL k)) d):=by
  unfold stepM
  rw[hq]
  dsimp only
  rw[if_neg (fun h=>h c2),hs2,IW]
  simp
 rw[e,sO (by rw[h.full.len];omega),if_pos rfl]
 exact⟨_,rfl,by dsimp only[aH,bC,dG,fK,gN],by dsimp only[aH,bC,dG,fK,gN],by dsimp only[aH,bC,dG,fK,gN]⟩
end
section
open Pm
theorem M0{G:List (Option PS)}{fr:Int}{ops:List Int}{o cap:Nat}:∀{i:Nat},(∀j,j<i→∃p,iE G j=some p∧l8 p.e p.zs p.ad p.k p.lf (au p.sg) fr ops o=0)→(bE G fr ops o cap i).length=min cap i∧(bE G fr ops o cap i).flatten=mP G fr ops (min cap i)
 |0,_=>by
  rw[Nat.min_zero]
  exact⟨rfl,rfl⟩
 |i+1,h=>by
  obtain⟨h1,h2⟩:=M0 (i:=i) (G:=G) (fr:=fr) (ops:=ops) (o:=o) (cap:=cap) fun j hj=>h j (by omega)
  obtain⟨p,hp,ha⟩:=h i (by omega)
  have hb:Ti p fr ops o=true:=decide_eq_true ha
  unfold bE
  by_cases c:i<cap
  ·rw[if_pos (by rw[h1];omega),hp]
   dsimp only
   rw[if_pos hb,show min cap (i+1)=i+1 by omega]
   rw[show min cap i=i by omega]at h1 h2
   refine⟨by simp[h1],?_⟩
   rw[List.flatten_append,h2]
   unfold mP
   rw[List.range_succ,List.map_append,List.flatten_append]
   simp only[List.map_cons,List.map_nil,hp]
  ·rw[if_neg (by rw[h1];omega),h1,h2,show min cap (i+1)=min cap i by omega]
   exact⟨rfl,rfl⟩
end
section
open Pm
attribute [local irreducible] cO aA au jm aC dA gu dU bU aI
theorem groupM_ad{M:Nat}{k:Int}(m0:1≤M)(m1:M≤6)(k0:1≤k)(k1:k≤M){i:Nat}{p:PS}(hp:iE (pG M M k) i=some p):p.k=k∧p.e<1000∧∀j,j<M→p.ad.getD j false=true:=by
 have fl:=DC m0 m1 m0 (Nat.le_refl M) k0 k1
 have g:=r9 (A:=M) m0 (M-1) (by omega)
 rw[show M-1+1=M by omega,show min M M=M by omega]at g
 have hf:=Dz g m0
 have gv:=g.v _ hf
 have key:∃q,iE (pG M M k) 0=some q∧q.k=k∧q.e<1000∧∀j,j<M→q.ad.getD j false=true:=by
  unfold pG
  by_cases o:k>1
  ·rw[if_pos o]
   obtain⟨q,h1,h2,h3,h4⟩:=bq2 g m0 (by omega) m0 (by omega) k0 k1 hf (wL 99)
   refine⟨q,h1,h2,by rw[h3,gv.e];omega,fun j hj=>?_⟩
   rw[h4,gv.ad j (by omega)]
   exact decide_eq_true hj
  ·rw[if_neg o]
   refine⟨_,hf,by rw[gv.k];omega,by rw[gv.e];omega,fun j hj=>?_⟩
   rw[gv.ad j (by omega)]
   exact decide_eq_true hj
 obtain⟨q,h1,h2,h3,h4⟩:=key
 have lk:=fl.FC.like _ _ _ _ hp h1
 exact⟨lk.k.trans h2,by rw[lk.e];exact h3,fun j hj=>by rw[lk.ad];exact h4 j hj⟩
theorem quo_all{M n f:Nat}{k:Int}(m0:1≤M)(m1:M≤6)(k0:1≤k)(k1:k≤M)(hn:n≤M)(hf:f<M){G:List (Option PS)}(hG:G=pG M M k):
  ∃q,iE G f=some q∧Own q∧q.lf=(f:Nat)∧q.e<1000∧(bE G (f:Nat) (opsL 1) 1 n G.length).length=n∧bW q 1 (opsL 1) n (bE G (f:Nat) (opsL 1) 1 n G.length).flatten=(if(n:Int)<k then 8 else 0)∧
   (¬(n:Int)<k→∀(s:Vw) (d:List UInt8),s=dJ q q.lf 1 (opsL 1)→∀i,i<M→i≠f→∃p p',iE G i=some p∧Own p∧eF p (bH q s 1 (opsL 1) n (bE G (f:Nat) (opsL 1) 1 n G.length).flatten d)=(0,some p')∧p'.k=1∧p'.ch=(aH q s 1 (opsL 1) n (bE G (f:Nat) (opsL 1) 1 n G.length).flatten d).ch):=by
 have fl:Full M G:=hG▸DC m0 m1 m0 (Nat.le_refl M) k0 k1
 obtain⟨q,hq,hl⟩:=fl.at' f hf
 obtain⟨a1,a2,a3⟩:=groupM_ad m0 m1 k0 k1 (hG▸hq)
 have own:=fl.FC.own _ _ hq
 have hd:=bC2 own
 have hd1:(cZ q.e ⟨q.zs,q.ad,q.k,F8,F8⟩ q.lf (opsL 1) 1).1=0:=by rw[hd]
 have had:∀j,j<M→q.ad.getD j false=true:=a3
 have hv:=M0 (G:=G) (fr:=q.lf) (ops:=opsL 1) (o:=1) (cap:=n) (i:=M) fun j hj=>by
  obtain⟨p,hp,_⟩:=fl.at' j hj
  exact⟨p,hp,bv0 fl (by omega) hf hq had (by decide) hd1 hj hp⟩
 have hlen:G.length=M:=fl.len
 rw[show min n M=n by omega]at hv
 obtain⟨hv1,hv2⟩:=hv
 rw[hl]at hv1 hv2
 rw[hlen]
 have hc:=bv1 fl (by omega) hf hq had hn (o:=1) (ops:=opsL 1) (by decide) hd1 (by omega)
 rw[hl,a1]at hc
 refine⟨q,hq,own,hl,a2,hv1,by rw[hv2];exact hc,fun hk s d hs i hi hne=>?_⟩
 obtain⟨p,hp,pl⟩:=fl.at' i hi
 rw[if_neg hk]at hc
 rw[hv2]
 obtain⟨_,g2⟩:=zm (fl.FC.own _ _ hp) own (fl.FC.like _ _ _ _ hp hq) (by rw[pl,hl];omega) hc d hs
 have hs2:s=⟨q.zs,q.ad,1,F8,F8⟩:=by rw[hs];unfold dJ;rw[hd]
 obtain⟨p',e1,e2,e3,e4,e5⟩:=g2 (by rw[hs2];exact F8_0 _)
 refine⟨p,p',hp,fl.FC.own _ _ hp,e1,?_,e3.ch⟩
 rw[e3.k,hs2]
 dsimp only[aH,bC,dG,fK,gN]
end
section
open Go.ChangeShapes Pm
theorem pr_eq{α β:Type}{a c:α}{b d:β}{x:α×β}(h:(a,b)=x)(k:x=(c,d)):a=c∧b=d:=by
 have:=h.trans k
 exact⟨congrArg Prod.fst this,congrArg Prod.snd this⟩
theorem own_lfB{p:PS}(h:Own p):aG p.lf=true:=by
 have:=h.inv.lf0
 have:=h.inv.lf1
 unfold aG
 simp;omega
attribute [local irreducible] aU aZ bR aA au dB cO aF bZ aN aT av ak aR cZ bX aQ bK gB iC aD bA aO jW dJ bW bH aH bT fU bJ bg gY aJ nk qP kF bn fV eD dU eT bq aC bU fE dQ eF wH bE dV stepM wE uo aY iW pG Oh
end
section
open Go.ChangeShapes Pm
attribute [local irreducible] aU aZ bR aA au dB cO aF bZ aN aT av ak aR cZ bX aQ bK gB iC aD bA aO jW dJ bW bH aH bT fU bJ bg gY aJ nk qP kF bn fV eD dU eT bq aC bU fE dQ eF wH bE dV stepM wE uo aY iW pG Oh
set_option maxHeartbeats 4000000 in
theorem partyQuorum_fn(M k n fr:Int):aP 6 [.v (.int .i64 M),.v (.int .i64 k),.v (.int .i64 n),.v (.int .i64 fr)] (.d (.v (.bool true))):=by
 refine dK (E:=Oc) Tryz.func6 Tryz.ntmps6 ?_
 by_cases m1:M<2
 ·refine aj ?_;(try exact⟨⟩)
 by_cases m2:M>4
 ·refine aj ?_;(try exact⟨⟩)
 by_cases k1:k<1
 ·refine aj ?_;(try exact⟨⟩)
 by_cases k2:k>M
 ·refine aj ?_;(try exact⟨⟩)
 by_cases n1:n<0
 ·refine aj ?_;(try exact⟨⟩)
 by_cases n2:n>M
 ·refine aj ?_;(try exact⟨⟩)
 by_cases f1:fr<0
 ·refine aj ?_;(try exact⟨⟩)
 by_cases f2:fr≥M
 ·refine aj ?_;(try exact⟨⟩)
 obtain⟨m,rfl⟩:=Int.eq_ofNat_of_zero_le (show 0≤M by omega)
 obtain⟨n,rfl⟩:=Int.eq_ofNat_of_zero_le (show 0≤n by omega)
 obtain⟨f,rfl⟩:=Int.eq_ofNat_of_zero_le (show 0≤fr by omega)
 obtain⟨H,hH⟩:∃H,H=pG m m k:=⟨_,rfl⟩
 have gf:=DC (M:=m) (A:=m) (k:=k) (by omega) (by omega) (by omega) (by omega) (by omega) (by omega)
 rw[←hH]at gf
 obtain⟨q,hq,own,hl,he,hv1,hc,hP⟩:=quo_all (M:=m) (n:=n) (f:=f) (k:=k) (by omega) (by omega) (by omega) (by omega) (by omega) (by omega) hH
 have bq:=own_lfB own
 have gl:=gf.len
 have l1:H.length≠0:=by rw[gl];omega
 have l2:H≠[]:=fun e=>l1 (by rw[e];rfl)
 have l3:H.length≤1000000:=by rw[gl];omega
 have i2:(f:Int)<(H.length:Int):=by rw[gl];omega
 have v0:=(OA H f (by omega)).1
 rw[hq]at v0
 have v0:(gL H).getD (f*2) (.v undef)=.sref (bN q) 0:=v0
 have HH:=Lib.hid hH
 have HC:=Lib.hid hc
 have HP:=Lib.hid hP
 have HV:=Lib.hid hv1
 have c0:=Lib.hid (as8 own (by omega)).1
 have HL:=Lib.hid hl
 clear hH gf hq own hl hc hP hv1
 refine aj ?_;(try exact⟨⟩)
 intro H' K5
 obtain rfl:H'=H:=by rw[HH.out,K5];rfl
 clear K5
 refine aj ?_;(try exact⟨⟩)
 intro V hV
 have hV:V=bE H' (f:Nat) (opsL 1) 1 n H'.length:=hV
 have lv:V.length=n:=by rw[hV];exact HV.out
 have ec:bW q 1 [5,0,1,0,0] V.length V.flatten=if(n:Int)<k then 8 else 0:=by rw[lv,hV];exact HC.out
 have EC:=Lib.hid ec
 have HVV:=Lib.hid hV
 have vl:V.length≤3000:=by omega
 clear hV ec
 refine aj ?_;(try exact⟨⟩)
 rw[v0]
 refine aj ?_;(try exact⟨⟩)
 intro e he
 have he:e=if(n:Int)<k then 8 else 0:=he.trans EC.out
 by_cases hk:(n:Int)<k
 ·rw[if_pos hk]at he
  obtain rfl:e=8:=he
  have g1:¬(V.length:Int)≥k:=by omega
  clear he
  refine aj ?_;(try exact⟨⟩)
  rw[decide_eq_false g1]
  refine aj ?_;(try exact⟨⟩)
  rw[v0]
  refine aj ?_;(try exact⟨⟩)
  intro e he
  obtain rfl:e=0:=he.trans c0.out
  clear he
  refine aj ?_;(try exact⟨⟩)
  intro s c q2 N C hs hc hq hN hC
  clear hs hc hq hN hC
  refine aj ?_;(try exact⟨⟩)
  refine aM.mk (aB 1 ?_)
  refine aj ?_;(try exact⟨⟩)
 ·rw[if_neg hk]at he
  obtain rfl:e=0:=he
  have g1:(V.length:Int)≥k:=by omega
  clear he
  refine aj ?_;(try exact⟨⟩)
  intro s c q' N C hs hc hq hN hC
  obtain⟨y1,y2,y3,y4,y5⟩:=am6 hc (by decide) vl
  have hc:c=bH q s 1 (opsL 1) n (bE H' (f:Nat) (opsL 1) 1 n H'.length).flatten (UInt8.ofNat 3::List.replicate 31 (0:UInt8)):=by rw[hc,lv,HVV.out];rfl
  have hq:q'=aH q s 1 (opsL 1) n (bE H' (f:Nat) (opsL 1) 1 n H'.length).flatten (UInt8.ofNat 3::List.replicate 31 (0:UInt8)):=by rw[hq,lv,HVV.out];rfl
  have PP:=HP.out hk s (UInt8.ofNat 3::List.replicate 31 (0:UInt8)) hs
  rw[←hc,←hq]at PP
  have P2:=Lib.hid PP
  clear hs hc hq hN hC PP
  refine aj ?_;(try exact⟨⟩)
  rw[decide_eq_true g1]
  refine aj ?_;(try exact⟨⟩)
  rw[v0]
  refine aj ?_;(try exact⟨⟩)
  intro e he
  obtain rfl:e=0:=he.trans c0.out
  clear he
  refine aj ?_;(try exact⟨⟩)
  intro s3 c3 q3 N3 C3 hs hc hq hN hC
  clear hs hc hq hN hC
  refine aj ?_;(try exact⟨⟩)
  refine aM.mk (bV [0,3,9,12,14,16,21] [0,1] m (fun j=>⟨[.d (.v (.int .i64 (m:Nat))),.ah,.ah,.d (.v (.int .i64 (f:Nat))),.ah,.ah,.ah,.ah,.ah,.d (.row H'.length [.gen (H'.length*2) (gL H')]),.ah,.ah,.ptr 1 0,.ah,.d (.sref (bN q') 0),.ah,.d (.v (.bool true)),.ah,.ah,.ah,.ah,.d (.v (.int .i64 (j:Nat))),.ah,.ah,.ah,.ah,.ah,.ah,.ah,.ah,.ah,.ah,.ah,.ah,.ah,.ah,.ah,.ah,.ah,.ah,.ah,.ah,.ah,.ah,.ah,.ah,.ah,.ah,.ah,.ah,.ah,.ah,.ah,.ah,.ah,.ah,.ah,.ah,.ah,.ah,.ah,.ah,.ah,.ah,.ah,.ah,.ah,.ah,.ah,.ah,.ah,.ah,.ah,.ah,.ah,.ah,.ah,.ah,.ah,.ah,.ah,.ah,.ah,.ah,.ah,.ah,.ah,.ah,.ah,.ah,.ah,.ah,.ah,.ah,.ah,.ah,.ah,.ah,.ah,.ah,.ah,.ah,.ah,.ah,.ah,.ah,.ah,.ah,.ah,.ah,.ah,.ah,.ah,.ah,.ah,.ah,.ah,.ah,.ah,.ah,.ah,.ah,.ah,.ah,.ah,.ah,.ah,.ah,.ah,.ah,.ah,.ah,.ah,.ah,.ah,.ah,.ah,.ah,.ah,.ah,.ah,.ah,.ah,.ah,.ah,.ah,.ah,.ah,.ah,.ah,.ah,.ah,.ah,.ah,.ah,.ah,.ah,.ah,.ah,.ah,.ah,.ah,.ah],[some .gone,some (.var (jO c))]⟩) ?_)
  intro j hj hl
  by_cases h:j<m
  ·have i1:(j:Int)<(m:Int):=by omega
   have i3:(j:Int)<(H'.length:Int):=by omega
   by_cases jf:j=f
   ·have c2:((j:Int)==(f:Int))=true:=by simp[jf]
    clear jf
    refine aj ?_;(try exact⟨⟩)
    refine hl.go h [0,3,9,12,14,16,21] [0,1] ?_
    rfl
   ·have c2:((j:Int)==(f:Int))=false:=by simp;omega
    obtain⟨p,p',hp,own,k3,k4,k5⟩:=P2.out j h jf
    have bp:=own_lfB own
    have w0:=(OA H' j (by omega)).1
    rw[hp]at w0
    have w0:(gL H').getD (j*2) (.v undef)=.sref (bN p) 0:=w0
    have K3:=Lib.hid k3
    have K5:=Lib.hid k5
    have d1:(p'.k !=1)=false:=by rw[k4];rfl
    clear jf hp own k3 k4 k5
    refine aj ?_;(try exact⟨⟩)
    rw[w0]
    refine aj ?_;(try exact⟨⟩)
    intro e o heo
    obtain⟨rfl,rfl⟩:=pr_eq heo (show eF p c=(0,some p')from K3.out)
    clear heo
    refine aj ?_;(try exact⟨⟩)
    rw[K5.out]
    refine aj ?_;(try exact⟨⟩)
    refine hl.go h [0,3,9,12,14,16,21] [0,1] ?_
    rfl
  ·obtain rfl:j=m:=by omega
   have i1:¬(j:Int)<(j:Int):=by omega
   refine aj ?_;(try exact⟨⟩)
theorem partyQuorum_walk{w:World}(M:Int)(hM:(Lit.int .i64 M).wf=true)(a:Int)(ha:(Lit.int .i64 a).wf=true)(b:Int)(hb:(Lit.int .i64 b).wf=true)(c:Int)(hc:(Lit.int .i64 c).wf=true)(hG:SV gTab (fun _=>True) w):
  Calls Tryz.prog 6 #[.int .i64 M,.int .i64 a,.int .i64 b,.int .i64 c] w fun e w'=>e=.returned (.bool true)∧Below w.heap.size w w':=
 Uz (partyQuorum_fn M a b c) hG (.cons (.v _) (.cons (.v _) (.cons (.v _) (.cons (.v _) .nil))))
end
end Go.Proofs.YtjhgelfnmhdihaaGreatDoor
namespace Go.Proofs.YtjhgelfnmhdihaaGreatDoor.lawPartyQuorum
open Go.ChangeShapes Go.WideShapes Go.ChangeAt Go.RowKit
open Go.ChangeMaps (open_string shut_string)
set_option linter.unusedVariables false
theorem own:ownKnob Tryz.prog.godebug=none:=by kernel_rfl
theorem laidOut:laidOutB Tryz.prog=true:=by kernel_rfl
set_option maxRecDepth 100000 in
theorem lifted (os : Os) (started : os.Started) (H : Type) (enc : TypeId × Value → H) :
    ReturnsInHanded {} Tryz.checked os 6 .any (fun w args => (Rows.partyQuorumSpec.pre enc Tryz.prog Tryz.f6 [] false w args ∧ laidMetH Tryz.prog aG0 w) ∧ sizedMet enc Tryz.prog Tryz.f6 (OpenSpec.ofChange Rows.partyQuorumSpec) false w args)
      (Rows.partyQuorumSpec.post enc Tryz.prog Tryz.f6 false true false false) := by
  refine returnsInHanded_of_change_and (C := Tryz.checked) (X := fun w _ => laidMetH Tryz.prog aG0 w) (fun _ _ _ hh h => h.of_heap hh) own started (by kernel_rfl) Tryz.func6
    (ChangeSpec.witness_shaped (enc := enc) (C := Tryz.checked) (os := os) (X := fun w _ => laidMetH Tryz.prog aG0 w) false (World.doorLaid Tryz.prog 19 os) #[.int .i64 0, .int .i64 0, .int .i64 0, .int .i64 0] 8 rfl (World.shaped_of_RefB (by kernel_rfl) (by kernel_rfl)) (by kernel_rfl) (by kernel_rfl) (by kernel_rfl) (aX2 os _)) ?_
  intro W base args ds gs before hval0 hW hcnd hsz0 hL _
  have hsz : (DataW.weightsEach Tryz.prog (Tryz.f6.params.toList ++ Rows.partyQuorumSpec.plain.varTypes Tryz.prog) (ds ++ gs)).all (· ≤ reachBytes) = true := hsz0
  have hval : ∀ (j : Nat) t v, Tryz.f6.params[j]? = some t → args[j]? = some v → Value.okWide Tryz.prog W .any base t v := hval0
  have hW' := hW
  obtain ⟨p, q, hA0, hV, rfl, hfz, hnd⟩ := hW
  have hA : DataW.TrodAll enc Tryz.prog W 0 (fun _ => true) true Tryz.f6.params.toList args.toList ds p := hA0
  rw [Tryz.params6] at hA hval hsz
  obtain ⟨v0, vs0, d0, ds0, p0, q0, hargs, rfl, rfl, h0, r0⟩ := trodAll_cons hA
  obtain ⟨v1, vs1, d1, ds1, p1, q1, rfl, rfl, rfl, h1, r1⟩ := trodAll_cons r0
  obtain ⟨v2, vs2, d2, ds2, p2, q2, rfl, rfl, rfl, h2, r2⟩ := trodAll_cons r1
  obtain ⟨v3, vs3, d3, ds3, p3, q3, rfl, rfl, rfl, h3, r3⟩ := trodAll_cons r2
  obtain ⟨rfl, rfl, rfl⟩ := trodAll_nil r3
  obtain rfl : args = #[v0, v1, v2, v3] := by cases args; simp_all
  obtain ⟨rfl, rfl⟩ := trodVars_none hV
  have k0 := h0
  have lt0 : ∀ x ∈ p0, x.block < W.heap.size := by obtain ⟨m, hm⟩ := k0; exact DataW.trod_lt m _ _ _ hm
  obtain ⟨a0, rfl, rfl, rfl, w0⟩ := open_int Tryz.underlying3 (hval 0 3 v0 rfl rfl) h0
  have k1 := h1
  have lt1 : ∀ x ∈ p1, x.block < W.heap.size := by obtain ⟨m, hm⟩ := k1; exact DataW.trod_lt m _ _ _ hm
  obtain ⟨a1, rfl, rfl, rfl, w1⟩ := open_int Tryz.underlying3 (hval 1 3 v1 rfl rfl) h1
  have k2 := h2
  have lt2 : ∀ x ∈ p2, x.block < W.heap.size := by obtain ⟨m, hm⟩ := k2; exact DataW.trod_lt m _ _ _ hm
  obtain ⟨a2, rfl, rfl, rfl, w2⟩ := open_int Tryz.underlying3 (hval 2 3 v2 rfl rfl) h2
  have k3 := h3
  have lt3 : ∀ x ∈ p3, x.block < W.heap.size := by obtain ⟨m, hm⟩ := k3; exact DataW.trod_lt m _ _ _ hm
  obtain ⟨a3, rfl, rfl, rfl, w3⟩ := open_int Tryz.underlying3 (hval 3 3 v3 rfl rfl) h3
  clear hA0 hval0
  refine (partyQuorum_walk a0 w0 a1 w1 a2 w2 a3 w3 (w := W) (aE7 hL)).mono fun e W' ⟨he, zS⟩ => ?_
  subst he
  exact ⟨_, rfl, _, _, _, [], _, [], hW', trodAll_mk1 (shut_bool Tryz.underlying4 _), (trodAll_cons_mk (Below.trod laidOut (by kernel_rfl) (of_decide_eq_true (by kernel_rfl)) k0 zS lt0) (trodAll_cons_mk (Below.trod laidOut (by kernel_rfl) (of_decide_eq_true (by kernel_rfl)) k1 zS lt1) (trodAll_cons_mk (Below.trod laidOut (by kernel_rfl) (of_decide_eq_true (by kernel_rfl)) k2 zS lt2) (trodAll_cons_mk (Below.trod laidOut (by kernel_rfl) (of_decide_eq_true (by kernel_rfl)) k3 zS lt3) trodAll_mk0)))), rfl, zS.frame _, fun h => by cases h⟩
theorem over:Rows.partyQuorumRow.holds Tryz.pinned (OpenSpec.ofChange Rows.partyQuorumSpec):=
 OpenClaim.holds_of_wide 6 Tryz.f6 rfl rfl rfl rfl rfl rfl rfl ⟨rfl,rfl,rfl,rfl,rfl⟩ rfl rfl rfl rfl rfl (by kernel_rfl) Tryz.func6 (by kernel_rfl)
  (of_decide_eq_true (by kernel_rfl)) (by unfold Func.isWrapper;first|(rw[if_pos (by decide+kernel)];kernel_rfl)|(rw[if_neg (by decide+kernel)];exact⟨rfl,rfl⟩))
  (fun os started H enc _=>lifted os started H enc)
theorem proved:Rows.PartyQuorumCardSaid:=
 Claim7.holds_tied_plain_at .later [] [.data,.data] true _ false
  over (fun _ h=>by cases h) (by kernel_rfl) (fun _ h=>by cases h) partyQuorum_row_tie rfl ⟨rfl,rfl⟩ (by kernel_rfl) rfl
  (fun f fn hf hfn=>by
   obtain rfl:f=6:=Option.some.inj ((show Tryz.prog.funcNamed "curia/curialaw13.PartyQuorum"=some 6 by kernel_rfl).symm.trans hf) |>.symm
   obtain rfl:fn=Tryz.f6:=(Option.some.inj (Tryz.func6.symm.trans hfn)).symm
   exact⟨by kernel_rfl,fun j t ht=>by
    rw[Tryz.params6]at ht
    have hm:t∈[3,3,3,3]:=by simpa using Array.mem_of_getElem? ht
    have hall:([3,3,3,3].all fun u=>!Tryz.prog.wantsStandIn u)=true:=by kernel_rfl
    exact(show Tryz.prog.wantsStandIn t=false by simpa using List.all_eq_true.1 hall t hm)⟩)
  (by kernel_rfl)
end Go.Proofs.YtjhgelfnmhdihaaGreatDoor.lawPartyQuorum
