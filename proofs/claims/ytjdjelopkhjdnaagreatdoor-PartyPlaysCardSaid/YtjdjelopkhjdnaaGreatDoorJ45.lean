/-
  The document's parties: a commit, its welcomes told one by one.
-/
import Derived.Test.YtjdjelopkhjdnaaGreatDoorJ44
namespace Go.Proofs.YtjdjelopkhjdnaaGreatDoor
set_option linter.unusedVariables false
set_option linter.unusedSimpArgs false
set_option maxRecDepth 100000
set_option linter.unusedSectionVars false
open Go.RowKit
section
open Pm
attribute [local irreducible] aV aZ bQ aA au dA cK aF bW aN aU ay ak aT dh bX aR bI fU iC aD bB aP jR dZ bZ bS aJ bT fJ gV
def am9(p:XS)(n:Nat)(ops:List Int)(m:Nat)(vs:List Int)(d:List UInt8)(s:Vw)(own U T:List UInt8)(Z:List Int)(SS:List UInt8)(HH:List Bool):List A:=
 let pl:=aR Z p.lf s.ng
 let bx:Nat→List UInt8:=fun j=>bI (bB Z (pl.getD j (0,0)).2) (au (fU d (j:Nat))) (dO U (pl.getD j (0,0)).1.toNat)
 let wD:=cch p n ops m vs own U pl bx
 let tg:=ctg p s wD T Z
 let q:=cq p s wD T Z SS HH
 [.agg (jI (cC p n ops m vs own U pl bx tg)),.recs (fP s.ng 8) 108 (pV (cW p Z s wD tg (cB p d Z (kV p.jE T) q)) s.ng 8),.sref (dH q) 0,.v (.int .i64 0)]
def Sn(p:XS)(n:Nat)(ops:List Int)(m:Nat)(vs:List Int)(d:List UInt8):List A:=
 if bX p.e p.zs p.ad p.k p.ch p.lf ops n vs m=0 then
  if(dh p.e ⟨p.zs,p.ad,p.k,F8,F8⟩ p.lf ops n).1=0 then
   if p.e≥1099511627776 then[.agg cSZ,.v (.slice none 0 0),.v (.pointer none),.v (.int .i64 12)]
   else am9 p n ops m vs d (dh p.e ⟨p.zs,p.ad,p.k,F8,F8⟩ p.lf ops n).2 (aF d (sb ⟨#[108,101,97,102]⟩) []) (fJ (aF d (sb ⟨#[108,101,97,102]⟩) [])) (uY (aF d (sb ⟨#[108,101,97,102]⟩) []))
    (wX p (dh p.e ⟨p.zs,p.ad,p.k,F8,F8⟩ p.lf ops n).2 (aF d (sb ⟨#[108,101,97,102]⟩) []) (fJ (aF d (sb ⟨#[108,101,97,102]⟩) []))) (AB p (aF d (sb ⟨#[108,101,97,102]⟩) []) (fJ (aF d (sb ⟨#[108,101,97,102]⟩) []))) (AA p)
  else[.agg cSZ,.v (.slice none 0 0),.v (.pointer none),.v (.int .i64 (dh p.e ⟨p.zs,p.ad,p.k,F8,F8⟩ p.lf ops n).1)]
 else[.agg cSZ,.v (.slice none 0 0),.v (.pointer none),.v (.int .i64 (bX p.e p.zs p.ad p.k p.ch p.lf ops n vs m))]
theorem bl4{P:Program}{G:Nat→Option (List Seg)}{f:FuncId}{args l l':List A}(h:∀{S:Nat→Prop} {w:World} {vs:List Value},lK S w l vs→lK S w l' vs)(hx:lC P G f args (.t l)):lC P G f args (.t l'):=by
 intro S w vs hG ha
 refine(hx S w vs hG ha).mono ?_
 rintro e w' ⟨v,h1,⟨vs',h2,h3⟩,h4⟩
 exact⟨v,h1,⟨vs',h2,h h3⟩,h4⟩
theorem MQ(p:XS)(n:Nat)(ops:List Int)(hn:n≤3000)(m:Nat)(vs:List Int)(hm:m≤3000)(d:List UInt8)(hf:aG p.lf=true)(he: -4611686018427387904≤p.e∧p.e≤4611686018427387904)(hx0:1≤p.x)(hx1:p.x<1073741789)(hy:p.y=aA 4 p.x)
  (qd:(dh p.e ⟨p.zs,p.ad,p.k,F8,F8⟩ p.lf ops n).1=0→∀j:Nat,(dh p.e ⟨p.zs,p.ad,p.k,F8,F8⟩ p.lf ops n).2.ng.getD j false=true→(j:Int)≠p.lf):
  aQ 13 [.sref (dH p) 0,.row n [.ints .i64 (n*5) ops],.row m [.ints .i64 (m*3) vs],.agg [.bytes 32 d]] (.t (Sn p n ops m vs d)):=by
 refine bl4 (fun {S w v} h=>?_) (Qn p n ops hn m vs hm d hf he hx0 hx1 hy qd)
 unfold Sq at h
 unfold Sn
 by_cases h1:bX p.e p.zs p.ad p.k p.ch p.lf ops n vs m=0
 ·rw[if_pos h1]at h ⊢
  by_cases h2:(dh p.e ⟨p.zs,p.ad,p.k,F8,F8⟩ p.lf ops n).1=0
  ·rw[if_pos h2]at h ⊢
   by_cases h3:p.e≥1099511627776
   ·rw[if_pos h3]at h ⊢;exact h
   ·rw[if_neg h3]at h ⊢
    unfold Tm at h
    unfold am9
    cases h with
    |cons k1 k=>cases k with
     |cons k2 k=>exact .cons k1 (.cons (aa6 (fun _=>rfl) k2) k)
  ·rw[if_neg h2]at h ⊢;exact h
 ·rw[if_neg h1]at h ⊢;exact h
end
section
open Pm
theorem xW{W W':Nat→List Seg}{ng:List Bool}(h:∀j,ng.getD j false=true→W j=W' j):∀k i,pV W ng k i=pV W' ng k i
 |0,_=>rfl
 |k+1,i=>by
  rw[pV,pV]
  by_cases hb:ng.getD k false=true
  ·rw[if_pos hb,if_pos hb,h k hb,xW h k i]
  ·rw[if_neg hb,if_neg hb,xW h k i]
theorem Tp:∀a:Nat,a<8→∀b:Nat,b<8→a≠b→(aD (a:Int) b=(b:Int) / 2*4+1∧aP b (aD a b)=0)∨(aD (a:Int) b=(b:Int) / 4*8+3∧aP b (aD a b)=1)∨(aD (a:Int) b=7∧aP b (aD a b)=2):=by
 unfold aD aP
 decide+kernel
theorem Nq{p:PS}(h:JU p){j:Nat}(hj:j<8)(hne:(j:Int)≠p.lf):blk (sP p) (aD (j:Nat) p.lf).toNat=dO p.ab (aP p.lf (aD (j:Nat) p.lf)).toNat:=by
 obtain⟨k1,k2,k3,k4,k5,k6,k7,k8,k9⟩:=tK h.lf0 h.lf1
 have hl0:=h.lf0
 have hl1:=h.lf1
 obtain⟨n,hn⟩:=Int.eq_ofNat_of_zero_le hl0
 have hc:=Tp j hj n (by omega) (by omega)
 rw[←hn]at hc
 rcases hc with⟨c,e⟩|⟨c,e⟩|⟨c,e⟩
 ·have c1:(aD (j:Nat) p.lf).toNat=n1 p.lf:=by rw[c];try rfl
  rw[e,c1,EB h k2,if_neg k8,if_neg k7,if_pos rfl];rfl
 ·have c1:(aD (j:Nat) p.lf).toNat=n2 p.lf:=by rw[c];try rfl
  rw[e,c1,EB h k3,if_neg k9,if_pos rfl];rfl
 ·have c1:(aD (j:Nat) p.lf).toNat=7:=by rw[c];rfl
  rw[e,c1,EB h (by decide),if_pos rfl];rfl
end
section
open Pm
theorem BP(p:PS)(s:Vw)(d:List UInt8):wX (dN p) s (aC d) (fJ (aC d))=fM s.zs p.lf (aH (aC d)) (aH (ak (aC d))) (aH (ak (ak (aC d)))) (aH (ak (ak (ak (aC d))))):=by
 unfold wX fM aH
 rw[JF,JG,zD]
 dsimp only[dN]
theorem Xo{p q:PS}{d:List UInt8}(hl:q.lf=p.lf)(hs:q.sc=aC d)(ha:q.ab=fJ (aC d)):AB (dN p) (aC d) (fJ (aC d))=sP q:=by
 unfold AB sP dO n1 n2
 rw[hl,hs,ha]
 dsimp only[dN]
 rw[show 0*32=0 from rfl,show 1*32=32 from rfl,show 2*32=64 from rfl,List.drop_zero]
theorem Xj{p q:PS}(hl:q.lf=p.lf)(h1:aL q.zs (16+n1 q.lf)=true)(h2:aL q.zs (16+n2 q.lf)=true)(h3:aL q.zs 23=true):AA (dN p)=nV q:=by
 unfold AA nV kU
 rw[h1,h2,h3,hl]
 unfold n1 n2
 dsimp only[dN]
theorem FC{f g:Nat→List UInt8}:∀{k:Nat},(∀j,j<k→f j=g j)→bxB f k=bxB g k
 |0,_=>rfl
 |k+1,h=>by
  have h1:=FC (k:=k) fun j hj=>h j (by omega)
  have h2:=h k (by omega)
  rw[bxB,bxB,h1,h2]
theorem Bg{f g:Nat→List UInt8}:∀{k:Nat},(∀j,j<k→f j=g j)→qA f k=qA g k
 |0,_=>rfl
 |k+1,h=>by
  rw[sU,sU,Bg (k:=k) fun j hj=>h j (by omega),h k (by omega)]
theorem WR{p:PS}(f0:0≤p.lf)(f1:p.lf<8)(s:Vw)(d:List UInt8){Z:List Int}(hZ:Z=wX (dN p) s (aC d) (fJ (aC d))):
  aR Z p.lf s.ng=aR s.zs p.lf s.ng∧∀j,j<(aR s.zs p.lf s.ng).length→bI (bB Z ((aR Z p.lf s.ng).getD j (0,0)).2) (au (fU d (j:Nat))) (dO (fJ (aC d)) ((aR Z p.lf s.ng).getD j (0,0)).1.toNat)=qJ s.zs p.lf s.ng (fJ (aC d)) d j:=by
 rw[BP]at hZ
 have h:=LH f0 f1 s.zs (aH (aC d)) (aH (ak (aC d))) (aH (ak (ak (aC d)))) (aH (ak (ak (ak (aC d))))) s.ng
 rw[←hZ]at h
 refine⟨h,fun j hj=>?_⟩
 have hm:(aR s.zs p.lf s.ng).getD j (0,0)∈aR s.zs p.lf s.ng:=by rw[List.getD_eq_getElem?_getD,List.getElem?_eq_getElem hj];exact List.getElem_mem hj
 have hk:=LJ f0 f1 s.zs (aH (aC d)) (aH (ak (aC d))) (aH (ak (ak (aC d)))) (aH (ak (ak (ak (aC d))))) hm
 rw[←hZ]at hk
 rw[h,hk]
 unfold qJ Az
 rfl
theorem Ns{c c':CS}(he:c.e=c'.e)(hf:c.fr=c'.fr)(hn:c.n=c'.n)(ho:c.ops=c'.ops)(hm:c.m=c'.m)(hv:c.vs=c'.vs)(h0:c.sl=c'.sl)(h1:c.p0=c'.p0)(h2:c.p1=c'.p1)(h3:c.p2=c'.p2)(hk:c.k=c'.k)(hb:∀j,j<c'.k→c.bx j=c'.bx j):aU c=aU c':=by
 unfold aU kY lV
 rw[he,hf,hn,ho,hm,hv,h0,h1,h2,h3,hk,FC hb]
theorem QL{p:PS}(f0:0≤p.lf)(f1:p.lf<8)(s:Vw)(n:Nat)(ops:List Int)(m:Nat)(vs:List Int)(d:List UInt8){Z:List Int}(hZ:Z=wX (dN p) s (aC d) (fJ (aC d)))(tag:List UInt8)(sE sS:Int):
  aU (WX (dN p) n ops m vs (aC d) (fJ (aC d)) (aR Z p.lf s.ng) (fun j=>bI (bB Z ((aR Z p.lf s.ng).getD j (0,0)).2) (au (fU d (j:Nat))) (dO (fJ (aC d)) ((aR Z p.lf s.ng).getD j (0,0)).1.toNat)) tag sE sS)=aU (iH p s n ops m vs d):=by
 obtain⟨k1,k2⟩:=WR f0 f1 s d hZ
 refine Ns rfl rfl rfl rfl rfl rfl rfl ?_ ?_ ?_ ?_ ?_
 ·dsimp only[WX,iH];rw[JF];rfl
 ·dsimp only[WX,iH];rw[JG];rfl
 ·dsimp only[WX,iH];rw[zD];rfl
 ·dsimp only[WX,iH];rw[k1]
 ·dsimp only[WX,iH];exact k2
theorem bz7{p:PS}{s:Vw}{n:Nat}{ops:List Int}{m:Nat}{vs:List Int}{d wD SS:List UInt8}{Z:List Int}{HH:List Bool}(hZ:Z=wX (dN p) s (aC d) (fJ (aC d)))(hc:wD=tY p.ch (aU (iH p s n ops m vs d)))(hS:SS=sP (aJ p s n ops m vs d))(hH:HH=nV (aJ p s n ops m vs d)):
  cq (dN p) s wD (uY (aC d)) Z SS HH=dN (aJ p s n ops m vs d):=by
 rw[BP]at hZ
 obtain⟨b,hb⟩:∃b,b=aU (iH p s n ops m vs d):=⟨_,rfl⟩
 unfold dN
 rw[←hS,←hH]
 unfold aJ bG gu
 rw[←hb]at hc ⊢
 rw[hZ,hc]
 dsimp only[cq,Ig,dN,iM,dU,iH,bT]
theorem bp8{p:PS}{s:Vw}{n:Nat}{ops:List Int}{m:Nat}{vs:List Int}{d wD:List UInt8}{Z:List Int}(hZ:Z=wX (dN p) s (aC d) (fJ (aC d)))(hc:wD=tY p.ch (aU (iH p s n ops m vs d))):
  ctg (dN p) s wD (uY (aC d)) Z=dY (aJ p s n ops m vs d).ep:=by
 rw[BP]at hZ
 obtain⟨b,hb⟩:∃b,b=aU (iH p s n ops m vs d):=⟨_,rfl⟩
 unfold aJ bG gu
 rw[←hb]at hc ⊢
 rw[hZ,hc]
 dsimp only[ctg,dN,iM,dU,iH,bT]
theorem bu6{p:PS}(f0:0≤p.lf)(f1:p.lf<8){s:Vw}{n:Nat}{ops:List Int}{m:Nat}{vs:List Int}{d tg:List UInt8}{Z:List Int}(hZ:Z=wX (dN p) s (aC d) (fJ (aC d)))(ht:tg=dY (aJ p s n ops m vs d).ep):
  jI (cC (dN p) n ops m vs (aC d) (fJ (aC d)) (aR Z p.lf s.ng) (fun j=>bI (bB Z ((aR Z p.lf s.ng).getD j (0,0)).2) (au (fU d (j:Nat))) (dO (fJ (aC d)) ((aR Z p.lf s.ng).getD j (0,0)).1.toNat)) tg)=jI (bS p s n ops m vs d):=by
 obtain⟨k1,k2⟩:=WR f0 f1 s d hZ
 have hb:=QL f0 f1 s n ops m vs d hZ tg 0 0
 obtain⟨b,hb2⟩:∃b,b=aU (iH p s n ops m vs d):=⟨_,rfl⟩
 unfold cC
 rw[hb,←hb2]
 unfold bS
 dsimp only
 rw[←ht,←hb2]
 unfold jI
 dsimp only[WX,iH]
 rw[k1]at k2
 have hr:=Bg k2
 rw[JF,JG,zD,k1,hr]
 rfl
theorem bA5{p Q:PS}{s:Vw}{d wD tg:List UInt8}{Z:List Int}(hQ:JU Q)(hl:Q.lf=p.lf)(he:Q.e=p.e+1)(hz:Q.zs=Z)(ha:Q.ad=s.ad)(hk:Q.k=s.k)(hc:Q.ch=wD)(hab:Q.ab=fJ (aC d))(ht:tg=dY Q.ep){j:Nat}(hj:j<8)(hne:(j:Int)≠p.lf):
  cW (dN p) Z s wD tg (cB (dN p) d Z (kV p.jE (uY (aC d))) (dN Q)) j=ji Q (fJ (aC d)) (bT p d) (dY Q.ep) d j:=by
 have hB:cB (dN p) d Z (kV p.jE (uY (aC d))) (dN Q) j=nu Q (fJ (aC d)) (bT p d) d j:=by
  have hb:=Nq hQ hj (by rw[hl];exact hne)
  unfold nu bT
  rw[hz,←hab,←hb,hl]
  rfl
 unfold cW ji
 rw[hB,he,hz,ha,hk,hc,hl,ht]
 rfl
theorem an0{p:PS}(f0:0≤p.lf)(f1:p.lf<8)(s:Vw)(n:Nat)(ops:List Int)(m:Nat)(vs:List Int)(d:List UInt8)(hQ:JU (aJ p s n ops m vs d))
  (h1:aL (aJ p s n ops m vs d).zs (16+n1 (aJ p s n ops m vs d).lf)=true)(h2:aL (aJ p s n ops m vs d).zs (16+n2 (aJ p s n ops m vs d).lf)=true)(h3:aL (aJ p s n ops m vs d).zs 23=true)
  (qd:∀j:Nat,s.ng.getD j false=true→j<8∧(j:Int)≠p.lf):
  am9 (dN p) n ops m vs d s (aC d) (fJ (aC d)) (uY (aC d)) (wX (dN p) s (aC d) (fJ (aC d))) (AB (dN p) (aC d) (fJ (aC d))) (AA (dN p))
   =[.agg (jI (bS p s n ops m vs d)),.recs (fP s.ng 8) 108 (pV (ji (aJ p s n ops m vs d) (fJ (aC d)) (bT p d) (dY (aJ p s n ops m vs d).ep) d) s.ng 8),.sref (dH (dN (aJ p s n ops m vs d))) 0,.v (.int .i64 0)]:=by
 have hl:(aJ p s n ops m vs d).lf=p.lf:=by dsimp only[aJ,bG,gu,iM,dU]
 have hs:(aJ p s n ops m vs d).sc=aC d:=by dsimp only[aJ,bG,gu,iM,dU]
 have ha:(aJ p s n ops m vs d).ab=fJ (aC d):=by dsimp only[aJ,bG,gu,iM,dU]
 have he:(aJ p s n ops m vs d).e=p.e+1:=by dsimp only[aJ,bG,gu,iM,dU]
 have had:(aJ p s n ops m vs d).ad=s.ad:=by dsimp only[aJ,bG,gu,iM,dU]
 have hk:(aJ p s n ops m vs d).k=s.k:=by dsimp only[aJ,bG,gu,iM,dU]
 have hch:(aJ p s n ops m vs d).ch=tY p.ch (aU (iH p s n ops m vs d)):=by dsimp only[aJ,bG,gu,iM,dU]
 have hzs:(aJ p s n ops m vs d).zs=wX (dN p) s (aC d) (fJ (aC d)):=by rw[BP];dsimp only[aJ,bG,gu,iM,dU,iH]
 rw[Xo hl hs ha,Xj hl h1 h2 h3]
 obtain⟨Z,hZ⟩:∃Z,Z=wX (dN p) s (aC d) (fJ (aC d)):=⟨_,rfl⟩
 rw[←hZ]at hzs ⊢
 have hb:=fun t=>QL f0 f1 s n ops m vs d hZ t 0 0
 have hc:cch (dN p) n ops m vs (aC d) (fJ (aC d)) (aR Z p.lf s.ng) (fun j=>bI (bB Z ((aR Z p.lf s.ng).getD j (0,0)).2) (au (fU d (j:Nat))) (dO (fJ (aC d)) ((aR Z p.lf s.ng).getD j (0,0)).1.toNat))=tY p.ch (aU (iH p s n ops m vs d)):=congrArg (tY p.ch) (hb _)
 have ht:=bp8 hZ hc
 have hq:=bz7 hZ hc rfl rfl
 unfold am9
 dsimp only
 rw[show(dN p).lf=p.lf from rfl,show(dN p).jE=p.jE from rfl,hq,ht,bu6 f0 f1 hZ rfl]
 refine congrArg (fun W=>[A.agg (jI (bS p s n ops m vs d)),A.recs (fP s.ng 8) 108 W,A.sref (dH (dN (aJ p s n ops m vs d))) 0,A.v (.int .i64 0)]) ?_
 funext i
 refine xW (fun j hj=>?_) 8 i
 obtain⟨j1,j2⟩:=qd j hj
 exact bA5 hQ hl he hzs had hk (hch.trans hc.symm) ha rfl j1 j2
end
section
open Pm
theorem wE(h:List UInt8):(aY h).e=0∧(aY h).zs=[aA 4 (au (jP h)),aH (aC h)]++List.replicate 29 0∧(aY h).ad=[true,false,false,false,false,false,false,false]∧(aY h).k=1∧(aY h).ch=zB 32∧(aY h).lf=0∧
  (aY h).sg=jP h∧(aY h).sc=aC h∧(aY h).ab=zB 96∧(aY h).ep=Od (aC h)∧(aY h).jE=zS (Od (aC h)):=by
 unfold aY dU fu
 exact⟨rfl,rfl,rfl,rfl,rfl,rfl,rfl,rfl,rfl,rfl,rfl⟩
theorem aQ5{p:PS}{x y:Int}(h1:p.zs=[x,y]++List.replicate 29 0)(h2:p.ad.length=8)(h3:p.ch.length=32)(h4:p.lf=0)(h5:p.sg.length=32)(h6:p.sc.length=32)(h7:p.ab=zB 96)(h8:p.ep.length=32)(h9:p.jE.length=32)(hm:dQ p.e p.zs p.ad p.k=true)(hx:x=aA 4 (au p.sg))(hy:y=aH p.sc):Own p:=by
 have z:∀k,k<3→dO (zB 96) k=zB 32:=fun k hk=>by
  unfold dO
  rw[List.drop_replicate,List.take_replicate,show min 32 (96-k*32)=32 by omega]
 have n:∀j:Nat,2≤j→j<31→p.zs.getD j 0=0:=fun j hj hj2=>by
  rw[h1,List.getD_eq_getElem?_getD,List.getElem?_append_right (by simp;omega),List.getElem?_replicate,if_pos (by simp;omega)]
  rfl
 have k1:aL p.zs (16+n1 p.lf)=false:=(dW _ _).2 (n _ (by unfold n1;omega) (by rw[h4];decide))
 have k2:aL p.zs (16+n2 p.lf)=false:=(dW _ _).2 (n _ (by unfold n2;omega) (by rw[h4];decide))
 have k3:aL p.zs 23=false:=(dW _ _).2 (n _ (by decide) (by decide))
 refine⟨⟨by omega,by omega,by rw[h1];simp,h2,h3,h5,h6,by rw[h7];simp,h8,h9,fun _=>by rw[h7];exact z 0 (by decide),fun _=>by rw[h7];exact z 1 (by decide),fun _=>by rw[h7];exact z 2 (by decide)⟩,hm,?_,fun h=>by(rw[k1]at h;cases h),fun h=>by(rw[k2]at h;cases h),fun h=>by(rw[k3]at h;cases h)⟩
 rw[h4,h1,hx,hy]
 rfl
theorem NI(h:List UInt8):Own (aY h):=by
 obtain⟨_,k2,k3,_,k5,k6,k7,k8,k9,k10,k11⟩:=wE h
 exact aQ5 k2 (by rw[k3];rfl) (by rw[k5];simp) k6 (by rw[k7];exact Mq _) (by rw[k8];exact nM _) k9 (by rw[k10];exact Yo _) (by rw[k11];exact KT _) (CU h) (by rw[k7]) (by rw[k8])
theorem Tn{q:PS}(hq:Own q){n:Nat}{ops:List Int}{m:Nat}{vs:List Int}(hc:bZ q n ops m vs=0)(d:List UInt8):
  aL (aJ q (dZ q q.lf n ops) n ops m vs d).zs (16+n1 q.lf)=true∧aL (aJ q (dZ q q.lf n ops) n ops m vs d).zs (16+n2 q.lf)=true∧aL (aJ q (dZ q q.lf n ops) n ops m vs d).zs 23=true:=by
 obtain⟨h1,h2,h3⟩:=comE_0 hc
 obtain⟨g,gk,gm,_⟩:=vE hq.inv.zl hq.inv.al h2
 have l0:=hq.inv.lf0
 have l1:=hq.inv.lf1
 have hg:Goes q.zs (dZ q q.lf n ops):=g
 rw[pE]
 generalize dZ q q.lf n ops=s at hg
 have get:=kS hg.zl l0 l1 (aH (aC d)) (aH (ak (aC d))) (aH (ak (ak (aC d)))) (aH (ak (ak (ak (aC d)))))
 have yes:∀{k:Nat} {x:List UInt8},(fM s.zs q.lf (aH (aC d)) (aH (ak (aC d))) (aH (ak (ak (aC d)))) (aH (ak (ak (ak (aC d)))))).getD k 0=aH x→aL (fM s.zs q.lf (aH (aC d)) (aH (ak (aC d))) (aH (ak (ak (aC d)))) (aH (ak (ak (ak (aC d)))))) k=true:=fun {k x} e=>by
  cases hk:aL (fM s.zs q.lf (aH (aC d)) (aH (ak (aC d))) (aH (ak (ak (aC d)))) (aH (ak (ak (ak (aC d)))))) k with
  |true=>rfl
  |false=>exact((iW _) (e.symm.trans ((dW _ _).1 hk))).elim
 refine⟨yes (x:=ak (aC d)) ?_,yes (x:=ak (ak (aC d))) ?_,yes (x:=ak (ak (ak (aC d)))) ?_⟩
 ·rw[get];unfold n1 n2;rw[if_neg (by omega),if_neg (by omega),if_pos rfl]
 ·rw[get];unfold n2;rw[if_neg (by omega),if_pos rfl]
 ·rw[get,if_pos rfl]
theorem ZP{q:PS}(hq:Own q){n:Nat}{ops:List Int}(h2:(dh q.e ⟨q.zs,q.ad,q.k,F8,F8⟩ q.lf ops n).1=0):∀j:Nat,(dh q.e ⟨q.zs,q.ad,q.k,F8,F8⟩ q.lf ops n).2.ng.getD j false=true→j<8∧(j:Int)≠q.lf:=by
 have l0:=hq.inv.lf0
 have e:((q.lf.toNat:Nat):Int)=q.lf:=by omega
 have hst:Ct q.zs q.lf.toNat (dh q.e ⟨q.zs,q.ad,q.k,F8,F8⟩ q.lf ops n).2:=by
  have h2':=h2
  rw[←e]at h2'
  have:=(vY hq.inv.zl hq.inv.al h2').2
  rw[e]at this
  exact this
 intro j hj
 refine⟨?_,fun he=>?_⟩
 ·rcases Nat.lt_or_ge j 8 with h|h
  ·exact h
  ·rw[List.getD_eq_getElem?_getD,List.getElem?_eq_none (by rw[hst.nl];omega)]at hj
   cases hj
 ·have:j=q.lf.toNat:=by omega
  rw[this,hst.ng]at hj
  cases hj
def Sm(p:PS)(n:Nat)(ops:List Int)(m:Nat)(vs:List Int)(d:List UInt8):List A:=
 if bZ p n ops m vs=0 then[.agg (jI (bS p (dZ p p.lf n ops) n ops m vs d)),.recs (fP (dZ p p.lf n ops).ng 8) 108 (pV (ji (aJ p (dZ p p.lf n ops) n ops m vs d) (fJ (aC d)) (bT p d) (dY (aJ p (dZ p p.lf n ops) n ops m vs d).ep) d) (dZ p p.lf n ops).ng 8),.sref (dH (dN (aJ p (dZ p p.lf n ops) n ops m vs d))) 0,.v (.int .i64 0)]
 else[.agg cSZ,.v (.slice none 0 0),.v (.pointer none),.v (.int .i64 (bZ p n ops m vs))]
theorem az1{p:PS}(hp:Own p)(n:Nat)(ops:List Int)(m:Nat)(vs:List Int)(d:List UInt8):Sn (dN p) n ops m vs d=Sm p n ops m vs d:=by
 unfold Sn Sm
 by_cases hc:bZ p n ops m vs=0
 ·obtain⟨h1,h2,h3⟩:=comE_0 hc
  obtain⟨k1,k2,k3⟩:=Tn hp hc d
  rw[if_pos hc,if_pos (show bX (dN p).e (dN p).zs (dN p).ad (dN p).k (dN p).ch (dN p).lf ops n vs m=0 from h1),if_pos (show(dh (dN p).e ⟨(dN p).zs,(dN p).ad,(dN p).k,F8,F8⟩ (dN p).lf ops n).1=0 from h2),if_neg (show ¬(dN p).e≥1099511627776 from by show ¬p.e≥_;omega)]
  exact an0 hp.inv.lf0 hp.inv.lf1 (dZ p p.lf n ops) n ops m vs d (yB hp hc d).inv k1 k2 k3 (ZP hp h2)
 ·rw[if_neg hc]
  unfold bZ at hc
  by_cases h1:bX p.e p.zs p.ad p.k p.ch p.lf ops n vs m=0
  ·rw[if_pos (show bX (dN p).e (dN p).zs (dN p).ad (dN p).k (dN p).ch (dN p).lf ops n vs m=0 from h1)]
   have e1:bZ p n ops m vs=if(dh p.e ⟨p.zs,p.ad,p.k,F8,F8⟩ p.lf ops n).1≠0 then(dh p.e ⟨p.zs,p.ad,p.k,F8,F8⟩ p.lf ops n).1 else if p.e≥1099511627776 then 12 else 0:=by unfold bZ;rw[if_neg (fun x=>x h1)]
   by_cases h2:(dh p.e ⟨p.zs,p.ad,p.k,F8,F8⟩ p.lf ops n).1=0
   ·rw[if_pos (show(dh (dN p).e ⟨(dN p).zs,(dN p).ad,(dN p).k,F8,F8⟩ (dN p).lf ops n).1=0 from h2)]
    rw[if_neg (fun x=>x h2)]at e1
    rw[if_neg (fun x=>x h1),if_neg (fun x=>x h2)]at hc
    have h3:p.e≥1099511627776:=by
     by_cases h3:p.e≥1099511627776
     ·exact h3
     ·rw[if_neg h3]at hc;exact(hc rfl).elim
    rw[if_pos (show(dN p).e≥1099511627776 from h3),e1,if_pos h3]
   ·rw[if_neg (show ¬(dh (dN p).e ⟨(dN p).zs,(dN p).ad,(dN p).k,F8,F8⟩ (dN p).lf ops n).1=0 from h2),e1,if_pos h2]
    rfl
  ·have e1:bZ p n ops m vs=bX p.e p.zs p.ad p.k p.ch p.lf ops n vs m:=by unfold bZ;rw[if_pos h1]
   rw[if_neg (show ¬bX (dN p).e (dN p).zs (dN p).ad (dN p).k (dN p).ch (dN p).lf ops n vs m=0 from h1),e1]
   rfl
theorem bq2(p:PS):(dN p).y=aA 4 (dN p).x:=by dsimp only[dN]
theorem ah8(p:PS)(hp:Own p)(n:Nat)(ops:List Int)(hn:n≤3000)(m:Nat)(vs:List Int)(hm:m≤3000)(d:List UInt8):
  aQ 13 [.sref (dH (dN p)) 0,.row n [.ints .i64 (n*5) ops],.row m [.ints .i64 (m*3) vs],.agg [.bytes 32 d]] (.t (Sm p n ops m vs d)):=by
 rw[←az1 hp]
 obtain⟨e0,e1,_⟩:=mV.1 hp.may
 have hs:=fZ p.sg
 have l0:=hp.inv.lf0
 have l1:=hp.inv.lf1
 exact MQ (dN p) n ops hn m vs hm d (by show aG p.lf=true;simp[aG,l0,l1]) (by show -4611686018427387904≤p.e∧p.e≤4611686018427387904;omega) (by show 1≤au p.sg;omega) (by show au p.sg<1073741789;omega) (bq2 p)
  (fun h j hj=>(ZP hp h j hj).2)
end
section
open Pm
attribute [local irreducible] cK aA au jP aC d9 fM dQ cO aH
structure GV(i a:Nat)(q:PS):Prop where
 own:Own q
 lf:q.lf=0
 mem:∀j,j<8→dK q.zs j=decide (j<i)
 sg:∀j,j<i→q.zs.getD (j*2) 0=nP j
 ad:∀j,j<8→q.ad.getD j false=decide (j<a)
 k:q.k=1
 e:q.e=(i:Int) -1
theorem TY:GV 1 1 (aY (cO (0:Nat))):=by
 obtain⟨k1,k2,k3,k4,_,k6,_⟩:=wE (cO (0:Nat))
 refine⟨NI _,k6,fun j hj=>?_,fun j hj=>?_,fun j hj=>?_,k4,by rw[k1];rfl⟩
 ·rw[k2]
  unfold dK
  rw[vJ]
  by_cases h:j=0
  ·have h0:nP 0≠0:=Ou (PX 0)
   rw[if_pos h,h,decide_eq_true (show(0:Nat)<1 by decide)]
   exact decide_eq_true fun e=>h0 (List.cons.inj e).1
  ·rw[if_neg h,if_pos hj]
   simp;omega
 ·obtain rfl:j=0:=by omega
  rw[k2]
  rfl
 ·rw[k3]
  rcases j with _|_|_|_|_|_|_|_|j<;>first|rfl|omega
def opsV(x y:Int)(i:Nat)(pr:Bool):List Int:=[1,0,0,x,y]++if pr=true then[3,(i:Int),0,0,0]else[]
def kD(pr:Bool):Nat:=if pr=true then 2 else 1
def kT(q:PS)(x y:Int)(i:Nat)(pr:Bool):Vw:=⟨d9 q.zs [x,y] (i:Nat),if pr=true then q.ad.set i true else q.ad,q.k,F8.set i true,F8⟩
theorem runV_1{fr:Int}{ops o:List Int}{d j:Nat}{s:Vw}(ho:opAt ops j=o)(h:fq s fr o=0):gU fr ops (d+1) j s=gU fr ops d (j+1) (fV s o):=by rw[gU,ho,if_pos h]
theorem runV_0(fr:Int)(ops:List Int)(j:Nat)(s:Vw):gU fr ops 0 j s=(0,s):=by rw[gU]
theorem Zl(zs:List Int){w:Nat}(hw:w<8):bn zs (w:Int)=dK zs w:=by
 unfold bn aG
 rw[decide_eq_true (show(0:Int)≤(w:Int) by omega),decide_eq_true (show(w:Int)<8 by omega),Int.toNat_natCast]
 rfl
theorem aA5{e:Int}{s s':Vw}{fr:Int}{ops:List Int}{n:Nat}(hv:dQ e s.zs s.ad s.k=true)(hn:n≤4)(ho:iR ops n=false)(hm:bn s.zs fr=true)(hr:gU fr ops n 0 s=(0,s'))(hc:s'.k≤((jq s'.ad:Nat):Int)):dh e s fr ops n=(0,s'):=by
 unfold dh
 rw[hv,ho,hm,hr,decide_eq_false (show ¬n>4 by omega)]
 show(if((jq s'.ad:Nat):Int)<s'.k then _ else _)=_
 rw[if_neg (by omega)]
theorem aV2{ad:List Bool}{a:Nat}(hl:ad.length=8)(h:∀j,j<8→ad.getD j false=decide (j<a)):ad=(List.range 8).map fun j=>decide (j<a):=by
 refine List.ext_getElem (by simp[hl]) fun i h1 h2=>?_
 have:=h i (by omega)
 rw[List.getD_eq_getElem?_getD,List.getElem?_eq_getElem h1]at this
 simpa using this
theorem Xh{ad:List Bool}{a:Nat}(hl:ad.length=8)(ha:a≤8)(h:∀j,j<8→ad.getD j false=decide (j<a)):jq ad=a:=by
 rw[aV2 hl h]
 have:a=0∨a=1∨a=2∨a=3∨a=4∨a=5∨a=6∨a=7∨a=8:=by omega
 rcases this with rfl|rfl|rfl|rfl|rfl|rfl|rfl|rfl|rfl<;>decide
section
variable {i a : Nat} {q : PS} (h : GV i a q) (i0 : 1 ≤ i) (i1 : i < 6) {x y : Int} (hx : cK x = true) (hy : cK y = true) (hn : ∀ j, j < i → q.zs.getD (j * 2) 0 ≠ x) (a0 : 1 ≤ a) (a1 : a ≤ i) {pr : Bool} (hp : pr = true → a = i)
include h i0 i1 hx hy hn
theorem ap1:kJ q.zs (x)=false:=by
 have z0:x≠0:=Ou hx
 unfold kJ
 rw[List.any_eq_false]
 intro j hj
 have hj:=List.mem_range.1 hj
 simp only[decide_eq_true_eq]
 rcases Nat.lt_or_ge j i with o|o
 ·exact hn j o
 ·have:=h.mem j hj
  unfold dK at this
  rw[iG (by rw[h.own.inv.zl];decide) hj,decide_eq_false (show ¬j<i by omega)]at this
  have:=of_decide_eq_false this
  have e:q.zs.getD (j*2) 0=0:=by
   have:=Classical.not_not.1 this
   exact(List.cons.inj this).1
  rw[e];exact z0.symm
theorem ao9:jN q.zs=false:=by
 unfold jN
 rw[List.all_eq_false]
 exact⟨i,by simp;omega,by rw[h.mem i (by omega)];simp⟩
theorem ao8:dG q.zs=i:=free_at (by omega) (by rw[h.mem i (by omega)];simp) fun j hj=>by rw[h.mem j (by omega)];simpa using hj
theorem Yw(ng gn:List Bool):fq ⟨q.zs,q.ad,q.k,ng,gn⟩ q.lf [1,0,0,x,y]=0:=by
 unfold fq
 rw[show([1,0,0,x,y]:List Int).getD 0 0=1 from rfl,if_pos rfl]
 show bY q.zs [x,y]=0
 unfold bY
 rw[show([x,y]:List Int).getD 0 0=x from rfl,show([x,y]:List Int).getD 1 0=y from rfl,hx,hy,ap1 h i0 i1 hx hy hn,ao9 h i0 i1 hx hy hn]
 rfl
theorem Yx:fV ⟨q.zs,q.ad,q.k,F8,F8⟩ [1,0,0,x,y]=⟨d9 q.zs [x,y] (i:Nat),q.ad,q.k,F8.set i true,F8⟩:=by
 unfold fV
 rw[show([1,0,0,x,y]:List Int).getD 0 0=1 from rfl,if_pos rfl]
 dsimp only
 rw[ao8 h i0 i1 hx hy hn]
 rfl
theorem Yy{j:Nat}(hj:j<8):dK (d9 q.zs [x,y] (i:Nat)) j=decide (j<i+1):=by
 have z0:x≠0:=Ou hx
 rw[l7 h.own.inv.zl rfl (by omega) hj]
 by_cases e:j=i
 ·rw[if_pos e,e]
  simp only[Nat.lt_succ_self,decide_true,decide_eq_true_eq]
  exact fun e=>z0 (List.cons.inj e).1
 ·rw[if_neg e,h.mem j hj]
  by_cases o:j<i
  ·rw[decide_eq_true o,decide_eq_true (by omega)]
  ·rw[decide_eq_false o,decide_eq_false (by omega)]
include a0 a1 hp
theorem aD8(j:Nat)(hj:j<8):(kT q x y i pr).ad.getD j false=decide (j<if pr=true then a+1 else a):=by
 unfold kT
 dsimp only
 cases pr with
 |false=>exact h.ad j hj
 |true=>
  obtain rfl:=hp rfl
  rw[if_pos rfl,if_pos rfl,List.getD_eq_getElem?_getD,List.getElem?_set]
  by_cases e:a=j
  ·rw[if_pos e,if_pos (by rw[h.own.inv.al];omega),decide_eq_true (by omega)];rfl
  ·rw[if_neg e,←List.getD_eq_getElem?_getD,h.ad j hj]
   by_cases o:j<a
   ·rw[decide_eq_true o,decide_eq_true (by omega)]
   ·rw[decide_eq_false o,decide_eq_false (by omega)]
theorem aD9:dh q.e ⟨q.zs,q.ad,q.k,F8,F8⟩ q.lf (opsV x y i pr) (kD pr)=(0,kT q x y i pr):=by
 have z:bn q.zs q.lf=true:=by
  rw[h.lf]
  have:=Zl q.zs (w:=0) (by decide)
  rw[h.mem 0 (by decide)]at this
  rw[show(0:Int)=((0:Nat):Int)from rfl,this]
  simp;omega
 have hc:(kT q x y i pr).k≤((jq (kT q x y i pr).ad:Nat):Int):=by
  have hl:(kT q x y i pr).ad.length=8:=by
   unfold kT
   dsimp only
   split
   ·rw[List.length_set];exact h.own.inv.al
   ·exact h.own.inv.al
  rw[Xh (a:=if pr=true then a+1 else a) hl (by split<;>omega) (aD8 h i0 i1 hx hy hn a0 a1 hp)]
  have hk:(kT q x y i pr).k=1:=h.k
  rw[hk]
  split<;>omega
 have ho:iR (opsV x y i pr) (kD pr)=false:=by
  cases pr<;>rfl
 refine aA5 h.own.may (by unfold kD;split<;>omega) ho z ?_ hc
 cases pr with
 |false=>
  show gU q.lf [1,0,0,x,y] (0+1) 0 _=_
  rw[runV_1 (d:=0) (o:=[1,0,0,x,y]) rfl (Yw h i0 i1 hx hy hn _ _),Yx h i0 i1 hx hy hn,runV_0]
  rfl
 |true=>
  obtain rfl:=hp rfl
  show gU q.lf [1,0,0,x,y,3,(a:Int),0,0,0] (1+1) 0 _=_
  rw[runV_1 (d:=1) (o:=[1,0,0,x,y]) rfl (Yw h i0 i1 hx hy hn _ _),Yx h i0 i1 hx hy hn,runV_1 (d:=0) (o:=[3,(a:Int),0,0,0]) rfl ?_,runV_0]
  ·rfl
  ·show iK (d9 q.zs [x,y] (a:Nat)) q.ad (a:Int)=0
   unfold iK
   rw[Zl _ (by omega),Yy h i0 i1 hx hy hn (by omega),Int.toNat_natCast,h.ad a (by omega)]
   simp
end
end
section
open Pm
attribute [local irreducible] cK aA au jP aC d9 fM dQ cO aH
def ko(p:PS)(ops:List Int):List Int:=[0,jm (au p.sg) (dB p.e p.zs p.ad p.k p.ch p.lf ops),jQ (au p.sg) (dB p.e p.zs p.ad p.k p.ch p.lf ops)]
theorem ZQ{p:PS}(h:Own p)(hl:p.lf=0):p.zs.getD 0 0=aA 4 (au p.sg):=by
 have:=h.lf
 rw[hl,iG (by rw[h.inv.zl];decide) (by decide)]at this
 exact(List.cons.inj this).1
theorem Ki{p:PS}{n:Nat}{ops:List Int}(hn:n≠0)(hd:(dh p.e ⟨p.zs,p.ad,p.k,F8,F8⟩ p.lf ops n).1=0)(hx2:p.zs.getD 0 0=aA 4 (au p.sg))(h0:lD p.ad 0=true)(hk:p.k=1)(hl:p.lf=0)(he:p.e<1000):
  om p.e p.zs p.ad p.k p.lf (au p.sg) p.lf ops n=0∧bZ p n ops 1 (ko p ops)=0:=by
 refine⟨?_,?_⟩
 ·unfold om
  rw[if_neg hn,if_neg (fun h=>h hd),hl,if_neg (by rw[h0];decide),if_neg (fun h=>h hx2.symm)]
 ·have hp:og p.zs p.ad (dB p.e p.zs p.ad p.k p.ch p.lf ops) (ko p ops) 0=true:=by
   unfold og ko
   show(lD p.ad 0&&decide ((-1:Int)<0)&&fO (p.zs.getD 0 0) _ (jm (au p.sg) (dB p.e p.zs p.ad p.k p.ch p.lf ops)) (jQ (au p.sg) (dB p.e p.zs p.ad p.k p.ch p.lf ops)))=true
   rw[h0,hx2,VA _ _ (fZ _)]
   rfl
  have hc:H9 p.zs p.ad (dB p.e p.zs p.ad p.k p.ch p.lf ops) (ko p ops) 1=0:=CJ fun j hj=>by
   obtain rfl:j=0:=by omega
   exact hp
  have hv:bX p.e p.zs p.ad p.k p.ch p.lf ops n (ko p ops) 1=0:=by
   unfold bX
   rw[if_neg hn,if_neg (fun h=>h hd),if_neg (fun h=>h hc),hk,if_neg (by decide)]
  unfold bZ
  rw[if_neg (fun h=>h hv),if_neg (fun h=>h hd),if_neg (by omega)]
theorem Yv{i a:Nat}{q:PS}(h:GV i a q)(a0:1≤a):lD q.ad 0=true:=by
 unfold lD aG
 have:=h.ad 0 (by decide)
 rw[show((0:Int).toNat)=0 from rfl,this]
 simp;omega
theorem ap0{i a:Nat}{q:PS}(h:GV i a q)(i0:1≤i)(i1:i<6)(a0:1≤a)(a1:a≤i){pr:Bool}(hp:pr=true→a=i){m:Nat}{vs:List Int}(hc:bZ q (kD pr) (opsV (nP i) (oP i) i pr) m vs=0)(d:List UInt8):
  dZ q q.lf (kD pr) (opsV (nP i) (oP i) i pr)=kT q (nP i) (oP i) i pr∧GV (i+1) (if pr=true then a+1 else a) (aJ q (kT q (nP i) (oP i) i pr) (kD pr) (opsV (nP i) (oP i) i pr) m vs d)∧
  bq (aJ q (kT q (nP i) (oP i) i pr) (kD pr) (opsV (nP i) (oP i) i pr) m vs d).zs i=fu (cO (i:Nat)):=by
 obtain⟨x,hx⟩:∃x,x=nP i:=⟨_,rfl⟩
 obtain⟨y,hy⟩:∃y,y=oP i:=⟨_,rfl⟩
 have ix:cK x=true:=hx▸PX i
 have iy:cK y=true:=hy▸ac6 i
 have hn:∀j,j<i→q.zs.getD (j*2) 0≠x:=fun j hj=>by rw[h.sg j hj,hx];exact ad7 (by omega) i1 (by omega)
 rw[Ro,←hx,←hy]
 rw[←hx,←hy]at hc
 have hdo:dZ q q.lf (kD pr) (opsV x y i pr)=kT q x y i pr:=by
  unfold dZ
  rw[aD9 h i0 i1 ix iy hn a0 a1 hp]
 have ho:=yB h.own hc d
 rw[hdo]at ho
 have zl:(kT q x y i pr).zs.length=31:=jZ h.own.inv.zl rfl
 have sl:aH (aC d)≠0:=iW _
 have z0:q.lf.toNat=0:=by rw[h.lf];rfl
 have lp:∀j,j<8→bq (fM (kT q x y i pr).zs q.lf (aH (aC d)) (aH (ak (aC d))) (aH (ak (ak (aC d)))) (aH (ak (ak (ak (aC d)))))) j=if j=0 then[(bq (kT q x y i pr).zs 0).getD 0 0,aH (aC d)]else bq (kT q x y i pr).zs j:=fun j hj=>by
  rw[rA zl h.own.inv.lf0 h.own.inv.lf1 _ _ _ _ hj,z0,pq _ (by decide)]
 have lq:∀j,j<8→bq (kT q x y i pr).zs j=if j=i then[x,y]else bq q.zs j:=fun j hj=>lS h.own.inv.zl rfl (by omega) hj
 have m0:dK q.zs 0=true:=by rw[h.mem 0 (by decide)];simp;omega
 refine⟨hdo,⟨ho,?_,fun j hj=>?_,fun j hj=>?_,fun j hj=>?_,?_,?_⟩,?_⟩
 ·rw[←h.lf];dsimp only[aJ,bG,dU,gu,iM]
 ·rw[pE]
  have hm:=Yy h i0 i1 ix iy hn hj
  have hm:dK (kT q x y i pr).zs j=decide (j<i+1):=hm
  by_cases e:j=0
  ·rw[e]at hm ⊢
   rw[K7 zl h.own.inv.lf0 h.own.inv.lf1 _ _ _ _ (by decide) sl (by rw[hm];simp)]
   simp
  ·rw[←hm]
   unfold dK
   rw[lp j hj,if_neg e]
 ·rw[pE,←pq _ (by omega),lp j (by omega)]
  by_cases e:j=0
  ·rw[if_pos e,lq 0 (by decide),if_neg (by omega),e]
   show(bq q.zs 0).getD 0 0=_
   rw[pq _ (by decide)]
   exact h.sg 0 (by omega)
  ·rw[if_neg e,lq j (by omega)]
   by_cases e2:j=i
   ·rw[if_pos e2,e2,←hx];rfl
   ·rw[if_neg e2,pq _ (by omega)]
    exact h.sg j (by omega)
 ·have e:(aJ q (kT q x y i pr) (kD pr) (opsV x y i pr) m vs d).ad=(kT q x y i pr).ad:=by dsimp only[aJ,bG,dU,gu,iM]
  rw[e]
  exact aD8 h i0 i1 ix iy hn a0 a1 hp j hj
 ·have e:(aJ q (kT q x y i pr) (kD pr) (opsV x y i pr) m vs d).k=q.k:=by dsimp only[aJ,bG,dU,gu,iM,kT]
  rw[e];exact h.k
 ·have e:(aJ q (kT q x y i pr) (kD pr) (opsV x y i pr) m vs d).e=q.e+1:=by dsimp only[aJ,bG,dU,gu,iM]
  rw[e,h.e];omega
 ·rw[pE,lp i (by omega),if_neg (by omega),lq i (by omega),if_pos rfl]
structure Full(i:Nat)(G:List (Option PS)):Prop where
 grp:Nf G
 len:G.length=i
 at':∀j,j<i→∃p,jS G j=some p∧p.lf=(j:Nat)
theorem KD{i:Nat}{G:List (Option PS)}(h:Full i G)(i0:1≤i){q:PS}(hq:jS G 0=some q)(l0:q.lf=0){n:Nat}{ops:List Int}{m:Nat}{vs:List Int}(hc:bZ q n ops m vs=0)(d:List UInt8){s:Vw}(hs:s=dZ q q.lf n ops)(hg:s.gn=F8):
  ∀j,j<i→∃p,jS (uM G 0 (aJ q s n ops m vs d) (bS q s n ops m vs d)) j=some p∧p.lf=(j:Nat)∧(j=0→p=aJ q s n ops m vs d):=fun j hj=>by
 rw[Rz (by rw[h.len];exact hj)]
 by_cases e:j=0
 ·rw[if_pos e]
  refine⟨_,rfl,?_,fun _=>rfl⟩
  rw[e]
  have:(aJ q s n ops m vs d).lf=q.lf:=by dsimp only[aJ,bG,dU,gu,iM]
  rw[this,l0];rfl
 ·rw[if_neg e]
  obtain⟨p,hp,pl⟩:=h.at' j hj
  obtain⟨_,g2⟩:=RO (h.grp.own j p hp) (h.grp.own 0 q hq) (h.grp.like j 0 p q hp hq) (h.grp.leaf j 0 p q hp hq e) hc d hs
  have hgn:s.gn.getD p.lf.toNat false=false:=by
   rw[hg]
   rcases p.lf.toNat with _|_|_|_|_|_|_|_|k<;>rfl
  obtain⟨p',k1,k2,k3,k4,k5⟩:=g2 hgn
  refine⟨p',?_,by rw[k4,pl],fun h=>absurd h e⟩
  rw[hp]
  show mJ p _=_
  unfold mJ
  rw[k1]
  rfl
structure GI(i a:Nat)(G:List (Option PS)):Prop where
 full:Full i G
 v:∀p,jS G 0=some p→GV i a p
theorem Wv(i:Nat)(i1:i<8)(j:Nat)(hj:j<8):(F8.set i true).getD j false=decide (j=i):=by
 rw[List.getD_eq_getElem?_getD,List.getElem?_set]
 by_cases e:i=j
 ·rw[if_pos e,if_pos (by simpa using i1),decide_eq_true e.symm];rfl
 ·rw[if_neg e,decide_eq_false (fun h=>e h.symm)]
  rcases j with _|_|_|_|_|_|_|_|j<;>first|rfl|omega
theorem aO6{i:Nat}(i1:i<8){zs:List Int}(h:(lX zs i).isSome=true):V9 (F8.set i true) zs=[i]:=by
 have e:V9 (F8.set i true) zs=(List.range 8).filter fun j=>decide (j=i):=by
  unfold V9
  refine List.filter_congr fun j hj=>?_
  rw[Wv i i1 j (List.mem_range.1 hj)]
  by_cases e:j=i
  ·rw[decide_eq_true e,e,h];rfl
  ·rw[decide_eq_false e];rfl
 rw[e]
 have:i=0∨i=1∨i=2∨i=3∨i=4∨i=5∨i=6∨i=7:=by omega
 rcases this with rfl|rfl|rfl|rfl|rfl|rfl|rfl|rfl<;>decide
theorem aq9(zs:List Int):V9 F8 zs=[]:=by
 unfold V9
 rw[List.filter_eq_nil_iff]
 intro j hj
 have hj:=List.mem_range.1 hj
 rcases j with _|_|_|_|_|_|_|_|j<;>first|(simp;done)|omega
theorem aM8{zs:List Int}{i:Nat}(i1:i<64)(h:bq zs i=fu (cO (i:Nat))):(lX zs i).isSome=true:=by
 unfold lX
 rw[List.find?_isSome]
 exact⟨i,List.mem_range.2 i1,decide_eq_true h⟩
theorem TT:GI 1 1 [some (aY (cO (0:Nat)))]:=by
 have g:=TY
 generalize aY (cO (0:Nat))=p at g
 have at0:∀j r,jS [some p] j=some r→j=0∧r=p:=fun j r h=>by
  rcases j with _|j
  ·exact⟨rfl,(Option.some.inj h).symm⟩
  ·cases h
 refine⟨⟨⟨fun j r h=>?_,fun j k r t h1 h2=>?_,fun j k r t h1 h2 h3=>?_⟩,rfl,fun j hj=>?_⟩,fun r h=>?_⟩
 ·rw[(at0 j r h).2];exact g.own
 ·rw[(at0 j r h1).2,(at0 k t h2).2];exact Like.refl _
 ·exact absurd ((at0 j r h1).1.trans (at0 k t h2).1.symm) h3
 ·obtain rfl:j=0:=by omega
  exact⟨p,rfl,g.lf⟩
 ·rw[(at0 0 r h).2];exact g
theorem gi_step{i a:Nat}{G:List (Option PS)}(h:GI i a G)(i0:1≤i)(i1:i<6)(a0:1≤a)(a1:a≤i){pr:Bool}(hp:pr=true→a=i){q:PS}(hq:jS G 0=some q)(d:List UInt8):
  om q.e q.zs q.ad q.k q.lf (au q.sg) q.lf (opsV (nP i) (oP i) i pr) (kD pr)=0∧bZ q (kD pr) (opsV (nP i) (oP i) i pr) 1 (ko q (opsV (nP i) (oP i) i pr))=0∧
  GI (i+1) (if pr=true then a+1 else a) (stepM G 0 (kD pr) (opsV (nP i) (oP i) i pr) 1 (ko q (opsV (nP i) (oP i) i pr)) d):=by
 have g:=h.v q hq
 have hn:∀j,j<i→q.zs.getD (j*2) 0≠nP i:=fun j hj=>by rw[g.sg j hj];exact ad7 (by omega) i1 (by omega)
 have hd:=aD9 g i0 i1 (PX i) (ac6 i) hn a0 a1 hp
 obtain⟨c1,c2⟩:=Ki (n:=kD pr) (ops:=opsV (nP i) (oP i) i pr) (by unfold kD;split<;>decide) (by rw[hd]) (ZQ g.own g.lf) (Yv g a0) g.k g.lf (by rw[g.e];omega)
 refine⟨c1,c2,?_⟩
 obtain⟨vs,hvs⟩:∃vs,vs=ko q (opsV (nP i) (oP i) i pr):=⟨_,rfl⟩
 rw[←hvs]at c2 ⊢
 obtain⟨n1,n2,n3⟩:=ap0 g i0 i1 a0 a1 hp c2 d
 have gs:=Dv h.full.grp hq (kD pr) (opsV (nP i) (oP i) i pr) 1 vs d
 have ho:=KD h.full i0 hq g.lf c2 d n1.symm rfl
 have qd:(kT q (nP i) (oP i) i pr).ng=F8.set i true:=rfl
 have hsome:=aM8 (show i<64 by omega) n3
 have hj:=aO6 (show i<8 by omega) hsome
 obtain⟨sd,hsd⟩:=Option.isSome_iff_exists.1 hsome
 obtain⟨r,k1,k2,k3,k4,_⟩:=Iy g.own c2 d n1.symm rfl (show i<8 by omega) (by rw[qd,Wv i (by omega) i (by omega)];simp) (xg hsd)
 have e:stepM G 0 (kD pr) (opsV (nP i) (oP i) i pr) 1 vs d=uM G 0 (aJ q (kT q (nP i) (oP i) i pr) (kD pr) (opsV (nP i) (oP i) i pr) 1 vs d) (bS q (kT q (nP i) (oP i) i pr) (kD pr) (opsV (nP i) (oP i) i pr) 1 vs d)++[some r]:=by
  unfold stepM
  rw[hq]
  dsimp only
  rw[if_neg (fun h=>h c2),n1,qd,hj]
  show _++[wI _ _ _ _ _ i]=_
  unfold wI
  rw[hsd]
  show _++[(fF _ _).2]=_
  rw[k1]
 rw[e]at gs ⊢
 have ln:=pI G 0 (aJ q (kT q (nP i) (oP i) i pr) (kD pr) (opsV (nP i) (oP i) i pr) 1 vs d) (bS q (kT q (nP i) (oP i) i pr) (kD pr) (opsV (nP i) (oP i) i pr) 1 vs d)
 rw[h.full.len]at ln
 have low:∀j,j<i→jS (uM G 0 (aJ q (kT q (nP i) (oP i) i pr) (kD pr) (opsV (nP i) (oP i) i pr) 1 vs d) (bS q (kT q (nP i) (oP i) i pr) (kD pr) (opsV (nP i) (oP i) i pr) 1 vs d)++[some r]) j=jS (uM G 0 (aJ q (kT q (nP i) (oP i) i pr) (kD pr) (opsV (nP i) (oP i) i pr) 1 vs d) (bS q (kT q (nP i) (oP i) i pr) (kD pr) (opsV (nP i) (oP i) i pr) 1 vs d)) j:=fun j hj=>by
  unfold jS
  rw[List.getD_eq_getElem?_getD,List.getD_eq_getElem?_getD,List.getElem?_append_left (by omega)]
 refine⟨⟨gs,by rw[List.length_append,ln];rfl,fun j hj=>?_⟩,fun p hp2=>?_⟩
 ·rcases Nat.lt_or_ge j i with o|o
  ·obtain⟨p,e1,e2,_⟩:=ho j o
   exact⟨p,by rw[low j o];exact e1,e2⟩
  ·obtain rfl:j=i:=by omega
   refine⟨r,?_,k4⟩
   unfold jS
   rw[List.getD_eq_getElem?_getD,List.getElem?_append_right (by omega),ln,Nat.sub_self]
   rfl
 ·obtain⟨p',e1,e2,e3⟩:=ho 0 (by omega)
  rw[low 0 (by omega),e1]at hp2
  rw[←Option.some.inj hp2,e3 rfl]
  exact n2
end
section
open Pm
attribute [local irreducible] cK aA au jP aC d9 fM dQ cO aH
def opsL(k:Int):List Int:=[5,0,k,0,0]
theorem bl5{i a:Nat}{q:PS}(h:GV i a q)(i0:1≤i)(a1:a≤8){k:Int}(k0:1≤k)(k1:k≤a):dh q.e ⟨q.zs,q.ad,q.k,F8,F8⟩ q.lf (opsL k) 1=(0,⟨q.zs,q.ad,k,F8,F8⟩):=by
 have z:bn q.zs q.lf=true:=by
  rw[h.lf]
  have:=Zl q.zs (w:=0) (by decide)
  rw[h.mem 0 (by decide)]at this
  rw[show(0:Int)=((0:Nat):Int)from rfl,this]
  simp;omega
 refine aA5 h.own.may (by decide) rfl z ?_ ?_
 ·show gU q.lf [5,0,k,0,0] (0+1) 0 _=_
  rw[runV_1 (d:=0) (o:=[5,0,k,0,0]) rfl ?_,runV_0]
  ·rfl
  ·show iJ k=0
   unfold iJ
   rw[if_neg (by omega)]
 ·show k≤((jq q.ad:Nat):Int)
  rw[Xh h.own.inv.al a1 h.ad]
  exact k1
theorem ao6{i a:Nat}{G:List (Option PS)}(h:GI i a G)(i0:1≤i)(i1:i<8)(a0:1≤a)(a1:a≤8){k:Int}(k0:1≤k)(k1:k≤a){q:PS}(hq:jS G 0=some q)(d:List UInt8):
  om q.e q.zs q.ad q.k q.lf (au q.sg) q.lf (opsL k) 1=0∧bZ q 1 (opsL k) 1 (ko q (opsL k))=0∧Full i (stepM G 0 1 (opsL k) 1 (ko q (opsL k)) d):=by
 have g:=h.v q hq
 have hd:=bl5 g i0 a1 k0 k1
 obtain⟨c1,c2⟩:=Ki (n:=1) (ops:=opsL k) (by decide) (by rw[hd]) (ZQ g.own g.lf) (Yv g a0) g.k g.lf (by rw[g.e];omega)
 refine⟨c1,c2,?_⟩
 obtain⟨vs,hvs⟩:∃vs,vs=ko q (opsL k):=⟨_,rfl⟩
 rw[←hvs]at c2 ⊢
 obtain⟨s,hs⟩:∃s,s=dZ q q.lf 1 (opsL k):=⟨_,rfl⟩
 have hs2:s=⟨q.zs,q.ad,k,F8,F8⟩:=by rw[hs];unfold dZ;rw[hd]
 have gs:=Dv h.full.grp hq 1 (opsL k) 1 vs d
 have ho:=KD h.full i0 hq g.lf c2 d hs (by rw[hs2])
 have e:stepM G 0 1 (opsL k) 1 vs d=uM G 0 (aJ q s 1 (opsL k) 1 vs d) (bS q s 1 (opsL k) 1 vs d):=by
  unfold stepM
  rw[hq]
  dsimp only
  rw[if_neg (fun h=>h c2),←hs,show s.ng=F8 by rw[hs2],aq9]
  simp
 rw[e]at gs ⊢
 refine⟨gs,by rw[pI,h.full.len],fun j hj=>?_⟩
 obtain⟨p,e1,e2,_⟩:=ho j hj
 exact⟨p,e1,e2⟩
def wF(n:Int):List UInt8:=UInt8.ofNat (IntKind.u8.wrap n).toNat::1::List.replicate 30 0
def iV(G:List (Option PS)):PS:=(jS G 0).getD (aY (cO (0:Nat)))
def kr(A i:Nat)(G:List (Option PS)):List (Option PS):=stepM G 0 (kD (decide (i<A))) (opsV (nP i) (oP i) i (decide (i<A))) 1 (ko (iV G) (opsV (nP i) (oP i) i (decide (i<A)))) (wF (i:Nat))
def dR(A:Nat):Nat→List (Option PS)
 |0=>[some (aY (cO (0:Nat)))]
 |i+1=>kr A (i+1) (dR A i)
def Zd(k:Int)(G:List (Option PS)):List (Option PS):=stepM G 0 1 (opsL k) 1 (ko (iV G) (opsL k)) (wF 99)
def qK(M A:Nat)(k:Int):List (Option PS):=if k>1 then Zd k (dR A (M-1))else dR A (M-1)
theorem Dq{i a:Nat}{G:List (Option PS)}(h:GI i a G)(i0:1≤i):jS G 0=some (iV G):=by
 obtain⟨p,hp,_⟩:=h.full.at' 0 (by omega)
 unfold iV
 rw[hp];rfl
theorem KI{A i:Nat}{G:List (Option PS)}(h:GI i (min i A) G)(i0:1≤i)(i1:i<6)(a0:1≤A):
  om (iV G).e (iV G).zs (iV G).ad (iV G).k (iV G).lf (au (iV G).sg) (iV G).lf (opsV (nP i) (oP i) i (decide (i<A))) (kD (decide (i<A)))=0∧
  bZ (iV G) (kD (decide (i<A))) (opsV (nP i) (oP i) i (decide (i<A))) 1 (ko (iV G) (opsV (nP i) (oP i) i (decide (i<A))))=0∧GI (i+1) (min (i+1) A) (kr A i G):=by
 obtain⟨c1,c2,c3⟩:=gi_step h i0 i1 (by omega) (by omega) (pr:=decide (i<A)) (fun e=>by have:=of_decide_eq_true e;omega) (Dq h i0) (wF (i:Nat))
 refine⟨c1,c2,?_⟩
 have e:(if decide (i<A)=true then min i A+1 else min i A)=min (i+1) A:=by
  by_cases o:i<A
  ·rw[if_pos (decide_eq_true o)];omega
  ·rw[if_neg (by simpa using o)];omega
 rw[←e]
 exact c3
theorem rZ{A:Nat}(a0:1≤A):∀i:Nat,i<6→GI (i+1) (min (i+1) A) (dR A i)
 |0,_=>by
  have:=TT
  rw[show min (0+1) A=1 by omega]
  exact this
 |i+1,h=>(KI (rZ a0 i (by omega)) (by omega) h a0).2.2
theorem F3{A i:Nat}{k:Int}{G:List (Option PS)}(h:GI i (min i A) G)(i0:1≤i)(i1:i<8)(k0:1≤k)(k1:k≤A)(k2:k≤i):
  om (iV G).e (iV G).zs (iV G).ad (iV G).k (iV G).lf (au (iV G).sg) (iV G).lf (opsL k) 1=0∧bZ (iV G) 1 (opsL k) 1 (ko (iV G) (opsL k))=0∧Full i (Zd k G):=
 ao6 h i0 i1 (by omega) (by omega) k0 (by omega) (Dq h i0) (wF 99)
theorem Dr{M A:Nat}{k:Int}(m0:1≤M)(m1:M≤6)(a0:1≤A)(a1:A≤M)(k0:1≤k)(k1:k≤A):Full M (qK M A k):=by
 have g:=rZ a0 (M-1) (by omega)
 rw[show M-1+1=M by omega]at g
 unfold qK
 by_cases o:k>1
 ·rw[if_pos o]
  exact(F3 g m0 (by omega) k0 k1 (by omega)).2.2
 ·rw[if_neg o]
  exact g.full
end
section
open Pm
attribute [local irreducible] cK aA au jP aC d9 fM dQ cO aH
end
section
open Pm
attribute [local irreducible] cK aA au jP aC d9 fM dQ cO aH
section
variable {i : Nat} {q : PS} (h : GV i 1 q) (i0 : i < 7) {w : Nat} (w0 : 1 ≤ w) (w1 : w < i) {x y : Int} (hx : cK x = true) (hy : cK y = true) (hn : ∀ j, j < i → q.zs.getD (j * 2) 0 ≠ x)
include h i0 w0 w1 hx hy hn
end
end
section
open Pm
attribute [local irreducible] cK aA au jP aC d9 fM dQ cO aH
def G8(p:PS)(fr:Int)(ops:List Int):List Int:=[p.lf,jm (au p.sg) (dB p.e p.zs p.ad p.k p.ch fr ops),jQ (au p.sg) (dB p.e p.zs p.ad p.k p.ch fr ops)]
section
variable {i : Nat} {G : List (Option PS)} (h : Full i G) (i1 : i ≤ 8) {q : PS} {f : Nat} (hf : f < i) (hq : jS G f = some q) (had : ∀ j, j < i → q.ad.getD j false = true)
include h i1 hf hq had
end
end
section
open Pm
def WI(p:PS)(fr:Int)(ops:List Int)(o:Nat):Bool:=decide (om p.e p.zs p.ad p.k p.lf (au p.sg) fr ops o=0)
def bO(G:List (Option PS))(fr:Int)(ops:List Int)(o cap:Nat):Nat→List (List Int)
 |0=>[]
 |i+1=>if(bO G fr ops o cap i).length<cap then(match jS G i with
   |some p=>if WI p fr ops o=true then bO G fr ops o cap i++[G8 p fr ops]else bO G fr ops o cap i
   |none=>bO G fr ops o cap i)else bO G fr ops o cap i
theorem u7(G:List (Option PS))(fr:Int)(ops:List Int)(o cap:Nat):∀i:Nat,(bO G fr ops o cap i).length≤cap∧(bO G fr ops o cap i).length≤i∧∀x∈bO G fr ops o cap i,x.length=3
 |0=>⟨by simp[bO],by simp[bO],by simp[bO]⟩
 |i+1=>by
  obtain⟨h1,h2,h3⟩:=u7 G fr ops o cap i
  unfold bO
  by_cases c:(bO G fr ops o cap i).length<cap
  ·rw[if_pos c]
   split
   ·split
    ·refine⟨by simp;omega,by simp;omega,fun x hx=>?_⟩
     rcases List.mem_append.1 hx with m|m
     ·exact h3 x m
     ·rw[List.mem_singleton.1 m];rfl
    ·exact⟨h1,by omega,h3⟩
   ·exact⟨h1,by omega,h3⟩
  ·rw[if_neg c]
   exact⟨h1,by omega,h3⟩
theorem tq{G:List (Option PS)}{fr:Int}{ops:List Int}{o cap i:Nat}(h:¬(bO G fr ops o cap i).length<cap):∀d:Nat,bO G fr ops o cap (i+d)=bO G fr ops o cap i
 |0=>rfl
 |d+1=>by
  have ih:=tq h d
  rw[←Nat.add_assoc]
  conv=>lhs;unfold bO
  rw[ih,if_neg h]
end
section
open Pm
def kE(ng:List Bool)(k:Nat):List Nat:=(List.range k).filter fun j=>ng.getD j false
def qM(ng:List Bool)(i:Nat):Nat:=(kE ng 8).getD i 0
theorem yV(ng:List Bool)(k:Nat):kE ng (k+1)=if ng.getD k false=true then kE ng k++[k]else kE ng k:=by
 unfold kE
 rw[List.range_succ,List.filter_append]
 by_cases h:ng.getD k false=true
 ·rw[if_pos h,List.filter_cons_of_pos (p:=fun j=>ng.getD j false) h];rfl
 ·rw[if_neg h,List.filter_cons_of_neg (p:=fun j=>ng.getD j false) h];simp
theorem ny(ng:List Bool):∀k:Nat,fP ng k=(kE ng k).length
 |0=>by simp[fP,kE]
 |k+1=>by
  rw[yV,fP]
  split
  ·rw[List.length_append,ny ng k];rfl
  ·exact ny ng k
theorem JJ(W:Nat→List Seg)(ng:List Bool):∀k i:Nat,i<fP ng k→pV W ng k i=W ((kE ng k).getD i 0)
 |0,i,h=>absurd h (by rw[fP];omega)
 |k+1,i,h=>by
  have hl:=ny ng k
  rw[pV,yV]
  rw[fP]at h
  by_cases hb:ng.getD k false=true
  ·rw[if_pos hb]at h ⊢
   rw[if_pos hb]
   by_cases hi:i=fP ng k
   ·rw[if_pos hi,hi,hl,List.getD_eq_getElem?_getD,List.getElem?_append_right (Nat.le_refl _),Nat.sub_self];rfl
   ·rw[if_neg hi,JJ W ng k i (by omega),List.getD_eq_getElem?_getD,List.getD_eq_getElem?_getD,List.getElem?_append_left (by omega)]
  ·rw[if_neg hb]at h ⊢
   rw[if_neg hb]
   exact JJ W ng k i h
theorem KZ{ng:List Bool}{i:Nat}(h:i<fP ng 8):qM ng i<8∧ng.getD (qM ng i) false=true:=by
 rw[ny]at h
 have hm:qM ng i∈kE ng 8:=by
  unfold qM
  rw[List.getD_eq_getElem?_getD,List.getElem?_eq_getElem h]
  exact List.getElem_mem h
 unfold kE at hm
 rw[List.mem_filter,List.mem_range]at hm
 exact hm
theorem ah4(ng:List Bool):fP ng 8≤8:=by
 rw[ny]
 unfold kE
 exact Nat.le_trans (List.length_filter_le _ _) (by simp)
def uE(w:Wc):List (Option PS):=match lX w.zs w.lf.toNat with
 |some s=>[(fF (cO (s:Nat)) w).2]
 |none=>[]
def iP(C:Nat→Wc):Nat→List (Option PS)
 |0=>[]
 |i+1=>iP C i++uE (C i)
theorem Ui(w:Wc):(uE w).length≤1:=by
 unfold uE
 split
 ·exact Nat.le_refl _
 ·exact Nat.zero_le _
theorem AU(C:Nat→Wc):∀n:Nat,(iP C n).length≤n
 |0=>Nat.le_refl _
 |n+1=>by
  have h1:=AU C n
  have h2:=Ui (C n)
  rw[iP,List.length_append]
  omega
theorem yR(f:Nat→Wc)(l:List Nat):∀n:Nat,n≤l.length→iP (fun i=>f (l.getD i 0)) n=(l.take n).flatMap fun j=>uE (f j)
 |0,_=>by simp[iP]
 |n+1,h=>by
  rw[iP,yR f l n (by omega),List.take_add_one,List.flatMap_append,List.getElem?_eq_getElem (by omega:n<l.length),List.getD_eq_getElem?_getD,List.getElem?_eq_getElem (by omega:n<l.length)]
  simp
theorem Y6(q':PS)(ab joint tag d:List UInt8)(ng:List Bool):iP (fun i=>nR q' ab joint tag d (qM ng i)) (fP ng 8)=(V9 ng q'.zs).map (wI q' ab joint tag d):=by
 have e:iP (fun i=>nR q' ab joint tag d (qM ng i)) (fP ng 8)=(kE ng 8).flatMap fun j=>uE (nR q' ab joint tag d j):=by
  have:=yR (nR q' ab joint tag d) (kE ng 8) (fP ng 8) (by rw[ny];exact Nat.le_refl _)
  rw[List.take_of_length_le (by rw[ny];exact Nat.le_refl _)]at this
  exact this
 have key:∀l:List Nat,((l.filter fun j=>ng.getD j false).flatMap fun j=>uE (nR q' ab joint tag d j))=(l.filter fun j=>ng.getD j false&&(lX q'.zs j).isSome).map (wI q' ab joint tag d):=fun l=>by
  induction l with
  |nil=>rfl
  |cons j l ih=>
   by_cases hb:ng.getD j false=true
   ·rw[List.filter_cons_of_pos (p:=fun j=>ng.getD j false) hb,List.flatMap_cons,ih]
    have hj:uE (nR q' ab joint tag d j)=match lX q'.zs j with
     |some s=>[(fF (cO (s:Nat)) (nR q' ab joint tag d j)).2]
     |none=>[]:=by
     unfold uE
     rfl
    rw[hj]
    cases hf:lX q'.zs j with
    |some s=>
     rw[List.filter_cons_of_pos (p:=fun j=>ng.getD j false&&(lX q'.zs j).isSome) (by rw[hb,hf];rfl),List.map_cons]
     have:wI q' ab joint tag d j=(fF (cO (s:Nat)) (nR q' ab joint tag d j)).2:=by unfold wI;rw[hf]
     rw[this]
     rfl
    |none=>
     rw[List.filter_cons_of_neg (p:=fun j=>ng.getD j false&&(lX q'.zs j).isSome) (by rw[hb,hf];decide)]
     rfl
   ·rw[List.filter_cons_of_neg (p:=fun j=>ng.getD j false) hb,List.filter_cons_of_neg (p:=fun j=>ng.getD j false&&(lX q'.zs j).isSome) (by rw[Bool.and_eq_true];exact fun h=>hb h.1),ih]
 rw[e]
 exact key _
def mF(G:List (Option PS))(fr:Nat)(q':PS)(c:CS)(j:Nat):List (Option PS):=(List.range G.length).map fun i=>if i=fr then some q' else if i<j then(jS G i).bind fun p=>mJ p c else jS G i
theorem j6(G:List (Option PS))(fr:Nat)(q':PS)(c:CS)(j:Nat):(mF G fr q' c j).length=G.length:=by unfold mF;simp
theorem Ar{G:List (Option PS)}{fr:Nat}{q':PS}{c:CS}{j i:Nat}(hi:i<G.length):jS (mF G fr q' c j) i=if i=fr then some q' else if i<j then(jS G i).bind fun p=>mJ p c else jS G i:=by
 unfold jS mF
 rw[List.getD_eq_getElem?_getD,List.getElem?_map,List.getElem?_range hi]
 rfl
theorem tookTo_0{G:List (Option PS)}{fr:Nat}(hf:fr<G.length)(q':PS)(c:CS):mF G fr q' c 0=G.set fr (some q'):=by
 refine List.ext_getElem (by rw[j6,List.length_set]) fun i h1 h2=>?_
 rw[j6]at h1
 have:=Ar (G:=G) (fr:=fr) (q':=q') (c:=c) (j:=0) h1
 unfold jS at this
 rw[List.getD_eq_getElem?_getD,List.getElem?_eq_getElem (by rw[j6];exact h1)]at this
 simp only[Option.getD_some]at this
 rw[this,List.getElem_set]
 by_cases e:i=fr
 ·rw[if_pos e,if_pos e.symm]
 ·rw[if_neg e,if_neg (show ¬i<0 by omega),if_neg (fun h=>e h.symm),List.getD_eq_getElem?_getD,List.getElem?_eq_getElem h1]
  rfl
theorem P9(G:List (Option PS))(fr:Nat)(q':PS)(c:CS):mF G fr q' c G.length=uM G fr q' c:=by
 unfold mF uM
 refine List.map_congr_left fun i hi=>?_
 rw[List.mem_range]at hi
 rw[if_pos hi]
theorem MF{G:List (Option PS)}{fr:Nat}{q':PS}{c:CS}{j:Nat}(h:j=fr∨jS G j=none∨((jS G j).bind fun p=>mJ p c)=jS G j):mF G fr q' c (j+1)=mF G fr q' c j:=by
 unfold mF
 refine List.map_congr_left fun i hi=>?_
 by_cases e:i=fr
 ·rw[if_pos e,if_pos e]
 ·rw[if_neg e,if_neg e]
  by_cases e2:i=j
  ·subst e2
   rw[if_pos (by omega),if_neg (by omega)]
   rcases h with h|h|h
   ·exact absurd h e
   ·rw[h];rfl
   ·exact h
  ·by_cases e3:i<j
   ·rw[if_pos (by omega),if_pos e3]
   ·rw[if_neg (by omega),if_neg e3]
theorem Qa{G:List (Option PS)}{fr:Nat}{q':PS}{c:CS}{j:Nat}(hj:j<G.length)(hne:j≠fr){o:Option PS}(h:((jS G j).bind fun p=>mJ p c)=o):mF G fr q' c (j+1)=(mF G fr q' c j).set j o:=by
 refine List.ext_getElem (by rw[j6,List.length_set,j6]) fun i h1 h2=>?_
 rw[j6]at h1
 have a1:=Ar (G:=G) (fr:=fr) (q':=q') (c:=c) (j:=j+1) h1
 have a2:=Ar (G:=G) (fr:=fr) (q':=q') (c:=c) (j:=j) h1
 unfold jS at a1 a2
 rw[List.getD_eq_getElem?_getD,List.getElem?_eq_getElem (by rw[j6];exact h1)]at a1 a2
 simp only[Option.getD_some]at a1 a2
 rw[a1,List.getElem_set,a2]
 by_cases e:j=i
 ·subst e
  rw[if_pos rfl,if_neg hne,if_pos (by omega)]
  exact h
 ·rw[if_neg e]
  by_cases e1:i=fr
  ·rw[if_pos e1,if_pos e1]
  ·rw[if_neg e1,if_neg e1]
   by_cases e3:i<j
   ·rw[if_pos (by omega),if_pos e3]
   ·rw[if_neg (by omega),if_neg e3]
theorem af0{G:List (Option PS)}{fr:Nat}{q:PS}(hq:jS G fr=some q){n:Nat}{ops:List Int}{m:Nat}{vs:List Int}{d:List UInt8}(h:bZ q n ops m vs≠0):stepM G fr n ops m vs d=G:=by
 unfold stepM
 rw[hq]
 dsimp only
 rw[if_pos h]
theorem Vq{G:List (Option PS)}{fr:Nat}{q:PS}(hq:jS G fr=some q){n:Nat}{ops:List Int}{m:Nat}{vs:List Int}{d:List UInt8}(h:bZ q n ops m vs=0){s:Vw}(hs:s=dZ q q.lf n ops){q':PS}(hq':q'=aJ q s n ops m vs d){c:CS}(hc:c=bS q s n ops m vs d):
  stepM G fr n ops m vs d=uM G fr q' c++iP (fun i=>nR q' (fJ (aC d)) (bT q d) (dY q'.ep) d (qM s.ng i)) (fP s.ng 8):=by
 rw[Y6]
 unfold stepM
 rw[hq]
 dsimp only
 rw[if_neg (fun e=>e h),←hs,←hq',←hc]
end
section
open Pm
def LA:Option PS→A
 |none=>.v (.pointer none)
 |some q=>.sref (dH (dN q)) 0
def gL:List (Option PS)→List A
 |[]=>[]
 |o::l=>Ab o::LA o::gL l
theorem Oe:∀G H:List (Option PS),gL (G++H)=gL G++gL H
 |[],H=>rfl
 |o::l,H=>by rw[List.cons_append,gL,gL,Oe l H];rfl
theorem TS:∀(G:List (Option PS)) (i:Nat),i<G.length→(gL G).getD (i*2) (.v undef)=Ab (jS G i)∧(gL G).getD (i*2+1) (.v undef)=LA (jS G i)
 |[],i,h=>by simp at h
 |o::l,0,_=>⟨rfl,rfl⟩
 |o::l,i+1,h=>by
  have:=TS l i (by simpa using h)
  rw[show(i+1)*2=i*2+2 by omega]
  simpa[gL,jS]using this
theorem Yp:∀(G:List (Option PS)) (i:Nat),i<G.length→((gL G).drop (i*2)).take 2=[Ab (jS G i),LA (jS G i)]
 |[],i,h=>by simp at h
 |o::l,0,_=>rfl
 |o::l,i+1,h=>by
  have:=Yp l i (by simpa using h)
  rw[show(i+1)*2=i*2+2 by omega]
  simpa[gL,jS]using this
theorem Og:∀(G:List (Option PS)) (i:Nat) (o:Option PS),i<G.length→(gL G).take (i*2)++([Ab o,LA o]++(gL G).drop (i*2+2))=gL (G.set i o)
 |[],i,o,h=>by simp at h
 |p::l,0,o,_=>rfl
 |p::l,i+1,o,h=>by
  have:=Og l i o (by simpa using h)
  rw[show(i+1)*2=i*2+2 by omega]
  simpa[gL]using this
end
end Go.Proofs.YtjdjelopkhjdnaaGreatDoor
