/-
  The document's parties: a commit, its welcomes told one by one.
-/
import Derived.Test.YtjhgelfnmhdihaaGreatDoorJ44
namespace Go.Proofs.YtjhgelfnmhdihaaGreatDoor
set_option linter.unusedVariables false
set_option linter.unusedSimpArgs false
set_option maxRecDepth 100000
set_option linter.unusedSectionVars false
open Go.RowKit
section
open Pm
attribute [local irreducible] aU aZ bR aA au dB cO aF bZ aN aT av ak aR cZ bX aQ bK gB iC aD bA aO jW dJ bW bH aH bT fU gY
def an6(p:XS)(n:Nat)(ops:List Int)(m:Nat)(vs:List Int)(d:List UInt8)(s:Vw)(own U T:List UInt8)(Z:List Int)(SS:List UInt8)(HH:List Bool):List A:=
 let pl:=aQ Z p.lf s.ng
 let bx:Nat→List UInt8:=fun j=>bK (bA Z (pl.getD j (0,0)).2) (au (gB d (j:Nat))) (dS U (pl.getD j (0,0)).1.toNat)
 let wJ:=cch p n ops m vs own U pl bx
 let tg:=ctg p s wJ T Z
 let q:=cq p s wJ T Z SS HH
 [.agg (jO (cC p n ops m vs own U pl bx tg)),.recs (gD s.ng 8) 108 (pY (cW p Z s wJ tg (cB p d Z (lg p.jK T) q)) s.ng 8),.sref (dM q) 0,.v (.int .i64 0)]
def SH(p:XS)(n:Nat)(ops:List Int)(m:Nat)(vs:List Int)(d:List UInt8):List A:=
 if bX p.e p.zs p.ad p.k p.ch p.lf ops n vs m=0 then
  if(cZ p.e ⟨p.zs,p.ad,p.k,F8,F8⟩ p.lf ops n).1=0 then
   if p.e≥1099511627776 then[.agg cSZ,.v (.slice none 0 0),.v (.pointer none),.v (.int .i64 12)]
   else an6 p n ops m vs d (cZ p.e ⟨p.zs,p.ad,p.k,F8,F8⟩ p.lf ops n).2 (aF d (sb ⟨#[108,101,97,102]⟩) []) (fU (aF d (sb ⟨#[108,101,97,102]⟩) [])) (vo (aF d (sb ⟨#[108,101,97,102]⟩) []))
    (xg p (cZ p.e ⟨p.zs,p.ad,p.k,F8,F8⟩ p.lf ops n).2 (aF d (sb ⟨#[108,101,97,102]⟩) []) (fU (aF d (sb ⟨#[108,101,97,102]⟩) []))) (AU p (aF d (sb ⟨#[108,101,97,102]⟩) []) (fU (aF d (sb ⟨#[108,101,97,102]⟩) []))) (AQ p)
  else[.agg cSZ,.v (.slice none 0 0),.v (.pointer none),.v (.int .i64 (cZ p.e ⟨p.zs,p.ad,p.k,F8,F8⟩ p.lf ops n).1)]
 else[.agg cSZ,.v (.slice none 0 0),.v (.pointer none),.v (.int .i64 (bX p.e p.zs p.ad p.k p.ch p.lf ops n vs m))]
theorem bn3{P:Program}{G:Nat→Option (List Seg)}{f:FuncId}{args l l':List A}(h:∀{S:Nat→Prop} {w:World} {vs:List Value},lW S w l vs→lW S w l' vs)(hx:lM P G f args (.t l)):lM P G f args (.t l'):=by
 intro S w vs hG ha
 refine(hx S w vs hG ha).mono ?_
 rintro e w' ⟨v,h1,⟨vs',h2,h3⟩,h4⟩
 exact⟨v,h1,⟨vs',h2,h h3⟩,h4⟩
theorem M8(p:XS)(n:Nat)(ops:List Int)(hn:n≤3000)(m:Nat)(vs:List Int)(hm:m≤3000)(d:List UInt8)(hf:aG p.lf=true)(he: -4611686018427387904≤p.e∧p.e≤4611686018427387904)(hx0:1≤p.x)(hx1:p.x<1073741789)(hy:p.y=aA 4 p.x)
  (pI:(cZ p.e ⟨p.zs,p.ad,p.k,F8,F8⟩ p.lf ops n).1=0→∀j:Nat,(cZ p.e ⟨p.zs,p.ad,p.k,F8,F8⟩ p.lf ops n).2.ng.getD j false=true→(j:Int)≠p.lf):
  aP 24 [.sref (dM p) 0,.row n [.ints .i64 (n*5) ops],.row m [.ints .i64 (m*3) vs],.agg [.bytes 32 d]] (.t (SH p n ops m vs d)):=by
 refine bn3 (fun {S w v} h=>?_) (QD p n ops hn m vs hm d hf he hx0 hx1 hy pI)
 unfold SI at h
 unfold SH
 by_cases h1:bX p.e p.zs p.ad p.k p.ch p.lf ops n vs m=0
 ·rw[if_pos h1]at h ⊢
  by_cases h2:(cZ p.e ⟨p.zs,p.ad,p.k,F8,F8⟩ p.lf ops n).1=0
  ·rw[if_pos h2]at h ⊢
   by_cases h3:p.e≥1099511627776
   ·rw[if_pos h3]at h ⊢;exact h
   ·rw[if_neg h3]at h ⊢
    unfold TH at h
    unfold an6
    cases h with
    |cons k1 k=>cases k with
     |cons k2 k=>exact .cons k1 (.cons (ab2 (fun _=>rfl) k2) k)
  ·rw[if_neg h2]at h ⊢;exact h
 ·rw[if_neg h1]at h ⊢;exact h
end
section
open Pm
theorem xZ{W W':Nat→List Seg}{ng:List Bool}(h:∀j,ng.getD j false=true→W j=W' j):∀k i,pY W ng k i=pY W' ng k i
 |0,_=>rfl
 |k+1,i=>by
  rw[pY,pY]
  by_cases hb:ng.getD k false=true
  ·rw[if_pos hb,if_pos hb,h k hb,xZ h k i]
  ·rw[if_neg hb,if_neg hb,xZ h k i]
theorem TK:∀a:Nat,a<8→∀b:Nat,b<8→a≠b→(aD (a:Int) b=(b:Int) / 2*4+1∧aO b (aD a b)=0)∨(aD (a:Int) b=(b:Int) / 4*8+3∧aO b (aD a b)=1)∨(aD (a:Int) b=7∧aO b (aD a b)=2):=by
 unfold aD aO
 decide+kernel
theorem NG{p:PS}(h:Kc p){j:Nat}(hj:j<8)(hne:(j:Int)≠p.lf):blk (sP p) (aD (j:Nat) p.lf).toNat=dS p.ab (aO p.lf (aD (j:Nat) p.lf)).toNat:=by
 obtain⟨k1,k2,k3,k4,k5,k6,k7,k8,k9⟩:=tT h.lf0 h.lf1
 have hl0:=h.lf0
 have hl1:=h.lf1
 obtain⟨n,hn⟩:=Int.eq_ofNat_of_zero_le hl0
 have hc:=TK j hj n (by omega) (by omega)
 rw[←hn]at hc
 rcases hc with⟨c,e⟩|⟨c,e⟩|⟨c,e⟩
 ·have c1:(aD (j:Nat) p.lf).toNat=n1 p.lf:=by rw[c];try rfl
  rw[e,c1,EM h k2,if_neg k8,if_neg k7,if_pos rfl];rfl
 ·have c1:(aD (j:Nat) p.lf).toNat=n2 p.lf:=by rw[c];try rfl
  rw[e,c1,EM h k3,if_neg k9,if_pos rfl];rfl
 ·have c1:(aD (j:Nat) p.lf).toNat=7:=by rw[c];rfl
  rw[e,c1,EM h (by decide),if_pos rfl];rfl
end
section
open Pm
theorem BZ(p:PS)(s:Vw)(d:List UInt8):xg (dQ p) s (aC d) (fU (aC d))=gu s.zs p.lf (aI (aC d)) (aI (ak (aC d))) (aI (ak (ak (aC d)))) (aI (ak (ak (ak (aC d))))):=by
 unfold xg gu aI
 rw[JW,JX,zL]
 dsimp only[dQ]
theorem XA{p q:PS}{d:List UInt8}(hl:q.lf=p.lf)(hs:q.sc=aC d)(ha:q.ab=fU (aC d)):AU (dQ p) (aC d) (fU (aC d))=sP q:=by
 unfold AU sP dS n1 n2
 rw[hl,hs,ha]
 dsimp only[dQ]
 rw[show 0*32=0 from rfl,show 1*32=32 from rfl,show 2*32=64 from rfl,List.drop_zero]
theorem Xv{p q:PS}(hl:q.lf=p.lf)(h1:aL q.zs (16+n1 q.lf)=true)(h2:aL q.zs (16+n2 q.lf)=true)(h3:aL q.zs 23=true):AQ (dQ p)=om q:=by
 unfold AQ om kZ
 rw[h1,h2,h3,hl]
 unfold n1 n2
 dsimp only[dQ]
theorem FQ{f g:Nat→List UInt8}:∀{k:Nat},(∀j,j<k→f j=g j)→bxB f k=bxB g k
 |0,_=>rfl
 |k+1,h=>by
  have h1:=FQ (k:=k) fun j hj=>h j (by omega)
  have h2:=h k (by omega)
  rw[bxB,bxB,h1,h2]
theorem Bq{f g:Nat→List UInt8}:∀{k:Nat},(∀j,j<k→f j=g j)→qE f k=qE g k
 |0,_=>rfl
 |k+1,h=>by
  rw[sZ,sZ,Bq (k:=k) fun j hj=>h j (by omega),h k (by omega)]
theorem Xc{p:PS}(f0:0≤p.lf)(f1:p.lf<8)(s:Vw)(d:List UInt8){Z:List Int}(hZ:Z=xg (dQ p) s (aC d) (fU (aC d))):
  aQ Z p.lf s.ng=aQ s.zs p.lf s.ng∧∀j,j<(aQ s.zs p.lf s.ng).length→bK (bA Z ((aQ Z p.lf s.ng).getD j (0,0)).2) (au (gB d (j:Nat))) (dS (fU (aC d)) ((aQ Z p.lf s.ng).getD j (0,0)).1.toNat)=qO s.zs p.lf s.ng (fU (aC d)) d j:=by
 rw[BZ]at hZ
 have h:=L6 f0 f1 s.zs (aI (aC d)) (aI (ak (aC d))) (aI (ak (ak (aC d)))) (aI (ak (ak (ak (aC d))))) s.ng
 rw[←hZ]at h
 refine⟨h,fun j hj=>?_⟩
 have hm:(aQ s.zs p.lf s.ng).getD j (0,0)∈aQ s.zs p.lf s.ng:=by rw[List.getD_eq_getElem?_getD,List.getElem?_eq_getElem hj];exact List.getElem_mem hj
 have hk:=L8 f0 f1 s.zs (aI (aC d)) (aI (ak (aC d))) (aI (ak (ak (aC d)))) (aI (ak (ak (ak (aC d))))) hm
 rw[←hZ]at hk
 rw[h,hk]
 unfold qO AP
 rfl
theorem NI{c c':CS}(he:c.e=c'.e)(hf:c.fr=c'.fr)(hn:c.n=c'.n)(ho:c.ops=c'.ops)(hm:c.m=c'.m)(hv:c.vs=c'.vs)(h0:c.sl=c'.sl)(h1:c.p0=c'.p0)(h2:c.p1=c'.p1)(h3:c.p2=c'.p2)(hk:c.k=c'.k)(hb:∀j,j<c'.k→c.bx j=c'.bx j):aT c=aT c':=by
 unfold aT lH l9
 rw[he,hf,hn,ho,hm,hv,h0,h1,h2,h3,hk,FQ hb]
theorem Q7{p:PS}(f0:0≤p.lf)(f1:p.lf<8)(s:Vw)(n:Nat)(ops:List Int)(m:Nat)(vs:List Int)(d:List UInt8){Z:List Int}(hZ:Z=xg (dQ p) s (aC d) (fU (aC d)))(tag:List UInt8)(sE sS:Int):
  aT (Xi (dQ p) n ops m vs (aC d) (fU (aC d)) (aQ Z p.lf s.ng) (fun j=>bK (bA Z ((aQ Z p.lf s.ng).getD j (0,0)).2) (au (gB d (j:Nat))) (dS (fU (aC d)) ((aQ Z p.lf s.ng).getD j (0,0)).1.toNat)) tag sE sS)=aT (iL p s n ops m vs d):=by
 obtain⟨k1,k2⟩:=Xc f0 f1 s d hZ
 refine NI rfl rfl rfl rfl rfl rfl rfl ?_ ?_ ?_ ?_ ?_
 ·dsimp only[Xi,iL];rw[JW];rfl
 ·dsimp only[Xi,iL];rw[JX];rfl
 ·dsimp only[Xi,iL];rw[zL];rfl
 ·dsimp only[Xi,iL];rw[k1]
 ·dsimp only[Xi,iL];exact k2
theorem bC4{p:PS}{s:Vw}{n:Nat}{ops:List Int}{m:Nat}{vs:List Int}{d wJ SS:List UInt8}{Z:List Int}{HH:List Bool}(hZ:Z=xg (dQ p) s (aC d) (fU (aC d)))(hc:wJ=uh p.ch (aT (iL p s n ops m vs d)))(hS:SS=sP (aH p s n ops m vs d))(hH:HH=om (aH p s n ops m vs d)):
  cq (dQ p) s wJ (vo (aC d)) Z SS HH=dQ (aH p s n ops m vs d):=by
 rw[BZ]at hZ
 obtain⟨b,hb⟩:∃b,b=aT (iL p s n ops m vs d):=⟨_,rfl⟩
 unfold dQ
 rw[←hS,←hH]
 unfold aH bC fK
 rw[←hb]at hc ⊢
 rw[hZ,hc]
 dsimp only[cq,Iy,dQ,gN,dG,iL,bT]
theorem br8{p:PS}{s:Vw}{n:Nat}{ops:List Int}{m:Nat}{vs:List Int}{d wJ:List UInt8}{Z:List Int}(hZ:Z=xg (dQ p) s (aC d) (fU (aC d)))(hc:wJ=uh p.ch (aT (iL p s n ops m vs d))):
  ctg (dQ p) s wJ (vo (aC d)) Z=eB (aH p s n ops m vs d).ep:=by
 rw[BZ]at hZ
 obtain⟨b,hb⟩:∃b,b=aT (iL p s n ops m vs d):=⟨_,rfl⟩
 unfold aH bC fK
 rw[←hb]at hc ⊢
 rw[hZ,hc]
 dsimp only[ctg,dQ,gN,dG,iL,bT]
theorem bx3{p:PS}(f0:0≤p.lf)(f1:p.lf<8){s:Vw}{n:Nat}{ops:List Int}{m:Nat}{vs:List Int}{d tg:List UInt8}{Z:List Int}(hZ:Z=xg (dQ p) s (aC d) (fU (aC d)))(ht:tg=eB (aH p s n ops m vs d).ep):
  jO (cC (dQ p) n ops m vs (aC d) (fU (aC d)) (aQ Z p.lf s.ng) (fun j=>bK (bA Z ((aQ Z p.lf s.ng).getD j (0,0)).2) (au (gB d (j:Nat))) (dS (fU (aC d)) ((aQ Z p.lf s.ng).getD j (0,0)).1.toNat)) tg)=jO (bH p s n ops m vs d):=by
 obtain⟨k1,k2⟩:=Xc f0 f1 s d hZ
 have hb:=Q7 f0 f1 s n ops m vs d hZ tg 0 0
 obtain⟨b,hb2⟩:∃b,b=aT (iL p s n ops m vs d):=⟨_,rfl⟩
 unfold cC
 rw[hb,←hb2]
 unfold bH
 dsimp only
 rw[←ht,←hb2]
 unfold jO
 dsimp only[Xi,iL]
 rw[k1]at k2
 have hr:=Bq k2
 rw[JW,JX,zL,k1,hr]
 rfl
theorem bD2{p Q:PS}{s:Vw}{d wJ tg:List UInt8}{Z:List Int}(hQ:Kc Q)(hl:Q.lf=p.lf)(he:Q.e=p.e+1)(hz:Q.zs=Z)(ha:Q.ad=s.ad)(hk:Q.k=s.k)(hc:Q.ch=wJ)(hab:Q.ab=fU (aC d))(ht:tg=eB Q.ep){j:Nat}(hj:j<8)(hne:(j:Int)≠p.lf):
  cW (dQ p) Z s wJ tg (cB (dQ p) d Z (lg p.jK (vo (aC d))) (dQ Q)) j=jr Q (fU (aC d)) (bT p d) (eB Q.ep) d j:=by
 have hB:cB (dQ p) d Z (lg p.jK (vo (aC d))) (dQ Q) j=nK Q (fU (aC d)) (bT p d) d j:=by
  have hb:=NG hQ hj (by rw[hl];exact hne)
  unfold nK bT
  rw[hz,←hab,←hb,hl]
  rfl
 unfold cW jr
 rw[hB,he,hz,ha,hk,hc,hl,ht]
 rfl
theorem an7{p:PS}(f0:0≤p.lf)(f1:p.lf<8)(s:Vw)(n:Nat)(ops:List Int)(m:Nat)(vs:List Int)(d:List UInt8)(hQ:Kc (aH p s n ops m vs d))
  (h1:aL (aH p s n ops m vs d).zs (16+n1 (aH p s n ops m vs d).lf)=true)(h2:aL (aH p s n ops m vs d).zs (16+n2 (aH p s n ops m vs d).lf)=true)(h3:aL (aH p s n ops m vs d).zs 23=true)
  (pI:∀j:Nat,s.ng.getD j false=true→j<8∧(j:Int)≠p.lf):
  an6 (dQ p) n ops m vs d s (aC d) (fU (aC d)) (vo (aC d)) (xg (dQ p) s (aC d) (fU (aC d))) (AU (dQ p) (aC d) (fU (aC d))) (AQ (dQ p))
   =[.agg (jO (bH p s n ops m vs d)),.recs (gD s.ng 8) 108 (pY (jr (aH p s n ops m vs d) (fU (aC d)) (bT p d) (eB (aH p s n ops m vs d).ep) d) s.ng 8),.sref (dM (dQ (aH p s n ops m vs d))) 0,.v (.int .i64 0)]:=by
 have hl:(aH p s n ops m vs d).lf=p.lf:=by dsimp only[aH,bC,fK,gN,dG]
 have hs:(aH p s n ops m vs d).sc=aC d:=by dsimp only[aH,bC,fK,gN,dG]
 have ha:(aH p s n ops m vs d).ab=fU (aC d):=by dsimp only[aH,bC,fK,gN,dG]
 have he:(aH p s n ops m vs d).e=p.e+1:=by dsimp only[aH,bC,fK,gN,dG]
 have had:(aH p s n ops m vs d).ad=s.ad:=by dsimp only[aH,bC,fK,gN,dG]
 have hk:(aH p s n ops m vs d).k=s.k:=by dsimp only[aH,bC,fK,gN,dG]
 have hch:(aH p s n ops m vs d).ch=uh p.ch (aT (iL p s n ops m vs d)):=by dsimp only[aH,bC,fK,gN,dG]
 have hzs:(aH p s n ops m vs d).zs=xg (dQ p) s (aC d) (fU (aC d)):=by rw[BZ];dsimp only[aH,bC,fK,gN,dG,iL]
 rw[XA hl hs ha,Xv hl h1 h2 h3]
 obtain⟨Z,hZ⟩:∃Z,Z=xg (dQ p) s (aC d) (fU (aC d)):=⟨_,rfl⟩
 rw[←hZ]at hzs ⊢
 have hb:=fun t=>Q7 f0 f1 s n ops m vs d hZ t 0 0
 have hc:cch (dQ p) n ops m vs (aC d) (fU (aC d)) (aQ Z p.lf s.ng) (fun j=>bK (bA Z ((aQ Z p.lf s.ng).getD j (0,0)).2) (au (gB d (j:Nat))) (dS (fU (aC d)) ((aQ Z p.lf s.ng).getD j (0,0)).1.toNat))=uh p.ch (aT (iL p s n ops m vs d)):=congrArg (uh p.ch) (hb _)
 have ht:=br8 hZ hc
 have hq:=bC4 hZ hc rfl rfl
 unfold an6
 dsimp only
 rw[show(dQ p).lf=p.lf from rfl,show(dQ p).jK=p.jK from rfl,hq,ht,bx3 f0 f1 hZ rfl]
 refine congrArg (fun W=>[A.agg (jO (bH p s n ops m vs d)),A.recs (gD s.ng 8) 108 W,A.sref (dM (dQ (aH p s n ops m vs d))) 0,A.v (.int .i64 0)]) ?_
 funext i
 refine xZ (fun j hj=>?_) 8 i
 obtain⟨j1,j2⟩:=pI j hj
 exact bD2 hQ hl he hzs had hk (hch.trans hc.symm) ha rfl j1 j2
end
section
open Pm
theorem wK(h:List UInt8):(aY h).e=0∧(aY h).zs=[aA 4 (au (jm h)),aI (aC h)]++List.replicate 29 0∧(aY h).ad=[true,false,false,false,false,false,false,false]∧(aY h).k=1∧(aY h).ch=zB 32∧(aY h).lf=0∧
  (aY h).sg=jm h∧(aY h).sc=aC h∧(aY h).ab=zB 96∧(aY h).ep=Oy (aC h)∧(aY h).jK=zY (Oy (aC h)):=by
 unfold aY dG eT
 exact⟨rfl,rfl,rfl,rfl,rfl,rfl,rfl,rfl,rfl,rfl,rfl⟩
theorem aS0{p:PS}{x y:Int}(h1:p.zs=[x,y]++List.replicate 29 0)(h2:p.ad.length=8)(h3:p.ch.length=32)(h4:p.lf=0)(h5:p.sg.length=32)(h6:p.sc.length=32)(h7:p.ab=zB 96)(h8:p.ep.length=32)(h9:p.jK.length=32)(hm:dU p.e p.zs p.ad p.k=true)(hx:x=aA 4 (au p.sg))(hy:y=aI p.sc):Own p:=by
 have z:∀k,k<3→dS (zB 96) k=zB 32:=fun k hk=>by
  unfold dS
  rw[List.drop_replicate,List.take_replicate,show min 32 (96-k*32)=32 by omega]
 have n:∀j:Nat,2≤j→j<31→p.zs.getD j 0=0:=fun j hj hj2=>by
  rw[h1,List.getD_eq_getElem?_getD,List.getElem?_append_right (by simp;omega),List.getElem?_replicate,if_pos (by simp;omega)]
  rfl
 have k1:aL p.zs (16+n1 p.lf)=false:=(dZ _ _).2 (n _ (by unfold n1;omega) (by rw[h4];decide))
 have k2:aL p.zs (16+n2 p.lf)=false:=(dZ _ _).2 (n _ (by unfold n2;omega) (by rw[h4];decide))
 have k3:aL p.zs 23=false:=(dZ _ _).2 (n _ (by decide) (by decide))
 refine⟨⟨by omega,by omega,by rw[h1];simp,h2,h3,h5,h6,by rw[h7];simp,h8,h9,fun _=>by rw[h7];exact z 0 (by decide),fun _=>by rw[h7];exact z 1 (by decide),fun _=>by rw[h7];exact z 2 (by decide)⟩,hm,?_,fun h=>by(rw[k1]at h;cases h),fun h=>by(rw[k2]at h;cases h),fun h=>by(rw[k3]at h;cases h)⟩
 rw[h4,h1,hx,hy]
 rfl
theorem NZ(h:List UInt8):Own (aY h):=by
 obtain⟨_,k2,k3,_,k5,k6,k7,k8,k9,k10,k11⟩:=wK h
 exact aS0 k2 (by rw[k3];rfl) (by rw[k5];simp) k6 (by rw[k7];exact MJ _) (by rw[k8];exact nV _) k9 (by rw[k10];exact Yx _) (by rw[k11];exact Lb _) (C9 h) (by rw[k7]) (by rw[k8])
theorem TJ{q:PS}(hq:Own q){n:Nat}{ops:List Int}{m:Nat}{vs:List Int}(hc:bW q n ops m vs=0)(d:List UInt8):
  aL (aH q (dJ q q.lf n ops) n ops m vs d).zs (16+n1 q.lf)=true∧aL (aH q (dJ q q.lf n ops) n ops m vs d).zs (16+n2 q.lf)=true∧aL (aH q (dJ q q.lf n ops) n ops m vs d).zs 23=true:=by
 obtain⟨h1,h2,h3⟩:=comE_0 hc
 obtain⟨g,gk,gm,_⟩:=vJ hq.inv.zl hq.inv.al h2
 have l0:=hq.inv.lf0
 have l1:=hq.inv.lf1
 have hg:Goes q.zs (dJ q q.lf n ops):=g
 rw[lC]
 generalize dJ q q.lf n ops=s at hg
 have get:=j4 hg.zl l0 l1 (aI (aC d)) (aI (ak (aC d))) (aI (ak (ak (aC d)))) (aI (ak (ak (ak (aC d)))))
 have yes:∀{k:Nat} {x:List UInt8},(gu s.zs q.lf (aI (aC d)) (aI (ak (aC d))) (aI (ak (ak (aC d)))) (aI (ak (ak (ak (aC d)))))).getD k 0=aI x→aL (gu s.zs q.lf (aI (aC d)) (aI (ak (aC d))) (aI (ak (ak (aC d)))) (aI (ak (ak (ak (aC d)))))) k=true:=fun {k x} e=>by
  cases hk:aL (gu s.zs q.lf (aI (aC d)) (aI (ak (aC d))) (aI (ak (ak (aC d)))) (aI (ak (ak (ak (aC d)))))) k with
  |true=>rfl
  |false=>exact((iZ _) (e.symm.trans ((dZ _ _).1 hk))).elim
 refine⟨yes (x:=ak (aC d)) ?_,yes (x:=ak (ak (aC d))) ?_,yes (x:=ak (ak (ak (aC d)))) ?_⟩
 ·rw[get];unfold n1 n2;rw[if_neg (by omega),if_neg (by omega),if_pos rfl]
 ·rw[get];unfold n2;rw[if_neg (by omega),if_pos rfl]
 ·rw[get,if_pos rfl]
theorem ZX{q:PS}(hq:Own q){n:Nat}{ops:List Int}(h2:(cZ q.e ⟨q.zs,q.ad,q.k,F8,F8⟩ q.lf ops n).1=0):∀j:Nat,(cZ q.e ⟨q.zs,q.ad,q.k,F8,F8⟩ q.lf ops n).2.ng.getD j false=true→j<8∧(j:Int)≠q.lf:=by
 have l0:=hq.inv.lf0
 have e:((q.lf.toNat:Nat):Int)=q.lf:=by omega
 have hst:CF q.zs q.lf.toNat (cZ q.e ⟨q.zs,q.ad,q.k,F8,F8⟩ q.lf ops n).2:=by
  have h2':=h2
  rw[←e]at h2'
  have:=(wu hq.inv.zl hq.inv.al h2').2
  rw[e]at this
  exact this
 intro j hj
 refine⟨?_,fun he=>?_⟩
 ·rcases Nat.lt_or_ge j 8 with h|h
  ·exact h
  ·rw[List.getD_eq_getElem?_getD,List.getElem?_eq_none (by rw[hst.nl];omega)]at hj
   cases hj
 ·have:j=q.lf.toNat:=by omega
  rw[this,hst.ng]at hj
  cases hj
def SG(p:PS)(n:Nat)(ops:List Int)(m:Nat)(vs:List Int)(d:List UInt8):List A:=
 if bW p n ops m vs=0 then[.agg (jO (bH p (dJ p p.lf n ops) n ops m vs d)),.recs (gD (dJ p p.lf n ops).ng 8) 108 (pY (jr (aH p (dJ p p.lf n ops) n ops m vs d) (fU (aC d)) (bT p d) (eB (aH p (dJ p p.lf n ops) n ops m vs d).ep) d) (dJ p p.lf n ops).ng 8),.sref (dM (dQ (aH p (dJ p p.lf n ops) n ops m vs d))) 0,.v (.int .i64 0)]
 else[.agg cSZ,.v (.slice none 0 0),.v (.pointer none),.v (.int .i64 (bW p n ops m vs))]
theorem aA0{p:PS}(hp:Own p)(n:Nat)(ops:List Int)(m:Nat)(vs:List Int)(d:List UInt8):SH (dQ p) n ops m vs d=SG p n ops m vs d:=by
 unfold SH SG
 by_cases hc:bW p n ops m vs=0
 ·obtain⟨h1,h2,h3⟩:=comE_0 hc
  obtain⟨k1,k2,k3⟩:=TJ hp hc d
  rw[if_pos hc,if_pos (show bX (dQ p).e (dQ p).zs (dQ p).ad (dQ p).k (dQ p).ch (dQ p).lf ops n vs m=0 from h1),if_pos (show(cZ (dQ p).e ⟨(dQ p).zs,(dQ p).ad,(dQ p).k,F8,F8⟩ (dQ p).lf ops n).1=0 from h2),if_neg (show ¬(dQ p).e≥1099511627776 from by show ¬p.e≥_;omega)]
  exact an7 hp.inv.lf0 hp.inv.lf1 (dJ p p.lf n ops) n ops m vs d (yE hp hc d).inv k1 k2 k3 (ZX hp h2)
 ·rw[if_neg hc]
  unfold bW at hc
  by_cases h1:bX p.e p.zs p.ad p.k p.ch p.lf ops n vs m=0
  ·rw[if_pos (show bX (dQ p).e (dQ p).zs (dQ p).ad (dQ p).k (dQ p).ch (dQ p).lf ops n vs m=0 from h1)]
   have e1:bW p n ops m vs=if(cZ p.e ⟨p.zs,p.ad,p.k,F8,F8⟩ p.lf ops n).1≠0 then(cZ p.e ⟨p.zs,p.ad,p.k,F8,F8⟩ p.lf ops n).1 else if p.e≥1099511627776 then 12 else 0:=by unfold bW;rw[if_neg (fun x=>x h1)]
   by_cases h2:(cZ p.e ⟨p.zs,p.ad,p.k,F8,F8⟩ p.lf ops n).1=0
   ·rw[if_pos (show(cZ (dQ p).e ⟨(dQ p).zs,(dQ p).ad,(dQ p).k,F8,F8⟩ (dQ p).lf ops n).1=0 from h2)]
    rw[if_neg (fun x=>x h2)]at e1
    rw[if_neg (fun x=>x h1),if_neg (fun x=>x h2)]at hc
    have h3:p.e≥1099511627776:=by
     by_cases h3:p.e≥1099511627776
     ·exact h3
     ·rw[if_neg h3]at hc;exact(hc rfl).elim
    rw[if_pos (show(dQ p).e≥1099511627776 from h3),e1,if_pos h3]
   ·rw[if_neg (show ¬(cZ (dQ p).e ⟨(dQ p).zs,(dQ p).ad,(dQ p).k,F8,F8⟩ (dQ p).lf ops n).1=0 from h2),e1,if_pos h2]
    rfl
  ·have e1:bW p n ops m vs=bX p.e p.zs p.ad p.k p.ch p.lf ops n vs m:=by unfold bW;rw[if_pos h1]
   rw[if_neg (show ¬bX (dQ p).e (dQ p).zs (dQ p).ad (dQ p).k (dQ p).ch (dQ p).lf ops n vs m=0 from h1),e1]
   rfl
theorem bs3(p:PS):(dQ p).y=aA 4 (dQ p).x:=by dsimp only[dQ]
theorem ai4(p:PS)(hp:Own p)(n:Nat)(ops:List Int)(hn:n≤3000)(m:Nat)(vs:List Int)(hm:m≤3000)(d:List UInt8):
  aP 24 [.sref (dM (dQ p)) 0,.row n [.ints .i64 (n*5) ops],.row m [.ints .i64 (m*3) vs],.agg [.bytes 32 d]] (.t (SG p n ops m vs d)):=by
 rw[←aA0 hp]
 obtain⟨e0,e1,_⟩:=nA.1 hp.may
 have hs:=dL p.sg
 have l0:=hp.inv.lf0
 have l1:=hp.inv.lf1
 exact M8 (dQ p) n ops hn m vs hm d (by show aG p.lf=true;simp[aG,l0,l1]) (by show -4611686018427387904≤p.e∧p.e≤4611686018427387904;omega) (by show 1≤au p.sg;omega) (by show au p.sg<1073741789;omega) (bs3 p)
  (fun h j hj=>(ZX hp h j hj).2)
end
section
open Pm
attribute [local irreducible] cO aA au jm aC dA gu dU bU aI
structure GV(i a:Nat)(q:PS):Prop where
 own:Own q
 lf:q.lf=0
 mem:∀j,j<8→dF q.zs j=decide (j<i)
 sg:∀j,j<i→q.zs.getD (j*2) 0=jX j
 ad:∀j,j<8→q.ad.getD j false=decide (j<a)
 k:q.k=1
 e:q.e=(i:Int) -1
theorem Ul:GV 1 1 (aY (bU (0:Nat))):=by
 obtain⟨k1,k2,k3,k4,_,k6,_⟩:=wK (bU (0:Nat))
 refine⟨NZ _,k6,fun j hj=>?_,fun j hj=>?_,fun j hj=>?_,k4,by rw[k1];rfl⟩
 ·rw[k2]
  unfold dF
  rw[vO]
  by_cases h:j=0
  ·have h0:jX 0≠0:=DT (JI 0)
   rw[if_pos h,h,decide_eq_true (show(0:Nat)<1 by decide)]
   exact decide_eq_true fun e=>h0 (List.cons.inj e).1
  ·rw[if_neg h,if_pos hj]
   simp;omega
 ·obtain rfl:j=0:=by omega
  rw[k2]
  rfl
 ·rw[k3]
  rcases j with _|_|_|_|_|_|_|_|j<;>first|rfl|omega
def opsV(x y:Int)(i:Nat)(pr:Bool):List Int:=[1,0,0,x,y]++if pr=true then[3,(i:Int),0,0,0]else[]
def kJ(pr:Bool):Nat:=if pr=true then 2 else 1
def kX(q:PS)(x y:Int)(i:Nat)(pr:Bool):Vw:=⟨dA q.zs [x,y] (i:Nat),if pr=true then q.ad.set i true else q.ad,q.k,F8.set i true,F8⟩
theorem runV_1{fr:Int}{ops o:List Int}{d j:Nat}{s:Vw}(ho:opAt ops j=o)(h:eX s fr o=0):gP fr ops (d+1) j s=gP fr ops d (j+1) (eG s o):=by rw[gP,ho,if_pos h]
theorem runV_0(fr:Int)(ops:List Int)(j:Nat)(s:Vw):gP fr ops 0 j s=(0,s):=by rw[gP]
theorem Ba(zs:List Int){w:Nat}(hw:w<8):bn zs (w:Int)=dF zs w:=by
 unfold bn aG
 rw[decide_eq_true (show(0:Int)≤(w:Int) by omega),decide_eq_true (show(w:Int)<8 by omega),Int.toNat_natCast]
 rfl
theorem KD{e:Int}{s s':Vw}{fr:Int}{ops:List Int}{n:Nat}(hv:dU e s.zs s.ad s.k=true)(hn:n≤4)(ho:iV ops n=false)(hm:bn s.zs fr=true)(hr:gP fr ops n 0 s=(0,s'))(hc:s'.k≤((jh s'.ad:Nat):Int)):cZ e s fr ops n=(0,s'):=by
 unfold cZ
 rw[hv,ho,hm,hr,decide_eq_false (show ¬n>4 by omega)]
 show(if((jh s'.ad:Nat):Int)<s'.k then _ else _)=_
 rw[if_neg (by omega)]
theorem aW7{ad:List Bool}{a:Nat}(hl:ad.length=8)(h:∀j,j<8→ad.getD j false=decide (j<a)):ad=(List.range 8).map fun j=>decide (j<a):=by
 refine List.ext_getElem (by simp[hl]) fun i h1 h2=>?_
 have:=h i (by omega)
 rw[List.getD_eq_getElem?_getD,List.getElem?_eq_getElem h1]at this
 simpa using this
theorem Iq{ad:List Bool}{a:Nat}(hl:ad.length=8)(ha:a≤8)(h:∀j,j<8→ad.getD j false=decide (j<a)):jh ad=a:=by
 rw[aW7 hl h]
 have:a=0∨a=1∨a=2∨a=3∨a=4∨a=5∨a=6∨a=7∨a=8:=by omega
 rcases this with rfl|rfl|rfl|rfl|rfl|rfl|rfl|rfl|rfl<;>decide
section
variable {i a : Nat} {q : PS} (h : GV i a q) (i0 : 1 ≤ i) (i1 : i < 6) {x y : Int} (hx : cO x = true) (hy : cO y = true) (hn : ∀ j, j < i → q.zs.getD (j * 2) 0 ≠ x) (a0 : 1 ≤ a) (a1 : a ≤ i) {pr : Bool} (hp : pr = true → a = i)
include h i0 i1 hx hy hn
theorem ap7:jU q.zs (x)=false:=by
 have z0:x≠0:=DT hx
 unfold jU
 rw[List.any_eq_false]
 intro j hj
 have hj:=List.mem_range.1 hj
 simp only[decide_eq_true_eq]
 rcases Nat.lt_or_ge j i with o|o
 ·exact hn j o
 ·have:=h.mem j hj
  unfold dF at this
  rw[gJ (by rw[h.own.inv.zl];decide) hj,decide_eq_false (show ¬j<i by omega)]at this
  have:=of_decide_eq_false this
  have e:q.zs.getD (j*2) 0=0:=by
   have:=Classical.not_not.1 this
   exact(List.cons.inj this).1
  rw[e];exact z0.symm
theorem ap5:jC q.zs=false:=by
 unfold jC
 rw[List.all_eq_false]
 exact⟨i,by simp;omega,by rw[h.mem i (by omega)];simp⟩
theorem ap4:dH q.zs=i:=free_at (by omega) (by rw[h.mem i (by omega)];simp) fun j hj=>by rw[h.mem j (by omega)];simpa using hj
theorem YD(ng gn:List Bool):eX ⟨q.zs,q.ad,q.k,ng,gn⟩ q.lf [1,0,0,x,y]=0:=by
 unfold eX
 rw[show([1,0,0,x,y]:List Int).getD 0 0=1 from rfl,if_pos rfl]
 show cK q.zs [x,y]=0
 unfold cK
 rw[show([x,y]:List Int).getD 0 0=x from rfl,show([x,y]:List Int).getD 1 0=y from rfl,hx,hy,ap7 h i0 i1 hx hy hn,ap5 h i0 i1 hx hy hn]
 rfl
theorem YE:eG ⟨q.zs,q.ad,q.k,F8,F8⟩ [1,0,0,x,y]=⟨dA q.zs [x,y] (i:Nat),q.ad,q.k,F8.set i true,F8⟩:=by
 unfold eG
 rw[show([1,0,0,x,y]:List Int).getD 0 0=1 from rfl,if_pos rfl]
 dsimp only
 rw[ap4 h i0 i1 hx hy hn]
 rfl
theorem YF{j:Nat}(hj:j<8):dF (dA q.zs [x,y] (i:Nat)) j=decide (j<i+1):=by
 have z0:x≠0:=DT hx
 rw[lu h.own.inv.zl rfl (by omega) hj]
 by_cases e:j=i
 ·rw[if_pos e,e]
  simp only[Nat.lt_succ_self,decide_true,decide_eq_true_eq]
  exact fun e=>z0 (List.cons.inj e).1
 ·rw[if_neg e,h.mem j hj]
  by_cases o:j<i
  ·rw[decide_eq_true o,decide_eq_true (by omega)]
  ·rw[decide_eq_false o,decide_eq_false (by omega)]
include a0 a1 hp
theorem aE8(j:Nat)(hj:j<8):(kX q x y i pr).ad.getD j false=decide (j<if pr=true then a+1 else a):=by
 unfold kX
 dsimp only
 cases pr with
 |false=>exact h.ad j hj
 |true=>
  obtain rfl:=hp rfl
  rw[if_pos rfl,if_pos rfl,List.getD_eq_getElem?_getD,List.getElem?_set]
  by_cases e:a=j
  ·rw[if_pos e,if_pos (by rw[h.own.inv.al];omega),decide_eq_true (by omega)];rfl
  ·rw[if_neg e,←List.getD_eq_getElem?_getD,h.ad j hj]
   by_cases o:j<a
   ·rw[decide_eq_true o,decide_eq_true (by omega)]
   ·rw[decide_eq_false o,decide_eq_false (by omega)]
theorem aE9:cZ q.e ⟨q.zs,q.ad,q.k,F8,F8⟩ q.lf (opsV x y i pr) (kJ pr)=(0,kX q x y i pr):=by
 have z:bn q.zs q.lf=true:=by
  rw[h.lf]
  have:=Ba q.zs (w:=0) (by decide)
  rw[h.mem 0 (by decide)]at this
  rw[show(0:Int)=((0:Nat):Int)from rfl,this]
  simp;omega
 have hc:(kX q x y i pr).k≤((jh (kX q x y i pr).ad:Nat):Int):=by
  have hl:(kX q x y i pr).ad.length=8:=by
   unfold kX
   dsimp only
   split
   ·rw[List.length_set];exact h.own.inv.al
   ·exact h.own.inv.al
  rw[Iq (a:=if pr=true then a+1 else a) hl (by split<;>omega) (aE8 h i0 i1 hx hy hn a0 a1 hp)]
  have hk:(kX q x y i pr).k=1:=h.k
  rw[hk]
  split<;>omega
 have ho:iV (opsV x y i pr) (kJ pr)=false:=by
  cases pr<;>rfl
 refine KD h.own.may (by unfold kJ;split<;>omega) ho z ?_ hc
 cases pr with
 |false=>
  show gP q.lf [1,0,0,x,y] (0+1) 0 _=_
  rw[runV_1 (d:=0) (o:=[1,0,0,x,y]) rfl (YD h i0 i1 hx hy hn _ _),YE h i0 i1 hx hy hn,runV_0]
  rfl
 |true=>
  obtain rfl:=hp rfl
  show gP q.lf [1,0,0,x,y,3,(a:Int),0,0,0] (1+1) 0 _=_
  rw[runV_1 (d:=1) (o:=[1,0,0,x,y]) rfl (YD h i0 i1 hx hy hn _ _),YE h i0 i1 hx hy hn,runV_1 (d:=0) (o:=[3,(a:Int),0,0,0]) rfl ?_,runV_0]
  ·rfl
  ·show iO (dA q.zs [x,y] (a:Nat)) q.ad (a:Int)=0
   unfold iO
   rw[Ba _ (by omega),YF h i0 i1 hx hy hn (by omega),Int.toNat_natCast,h.ad a (by omega)]
   simp
end
end
section
open Pm
attribute [local irreducible] cO aA au jm aC dA gu dU bU aI
def fZ(p:PS)(ops:List Int):List Int:=[0,jo (au p.sg) (dw p.e p.zs p.ad p.k p.ch p.lf ops),jQ (au p.sg) (dw p.e p.zs p.ad p.k p.ch p.lf ops)]
theorem Em{p:PS}(h:Own p)(hl:p.lf=0):p.zs.getD 0 0=aA 4 (au p.sg):=by
 have:=h.lf
 rw[hl,gJ (by rw[h.inv.zl];decide) (by decide)]at this
 exact(List.cons.inj this).1
theorem uD{p:PS}{n:Nat}{ops:List Int}(hn:n≠0)(hd:(cZ p.e ⟨p.zs,p.ad,p.k,F8,F8⟩ p.lf ops n).1=0)(hx2:p.zs.getD 0 0=aA 4 (au p.sg))(h0:jZ p.ad 0=true)(hk:p.k=1)(hl:p.lf=0)(he:p.e<1000):
  l8 p.e p.zs p.ad p.k p.lf (au p.sg) p.lf ops n=0∧bW p n ops 1 (fZ p ops)=0:=by
 refine⟨?_,?_⟩
 ·unfold l8
  rw[if_neg hn,if_neg (fun h=>h hd),hl,if_neg (by rw[h0];decide),if_neg (fun h=>h hx2.symm)]
 ·have hp:mU p.zs p.ad (dw p.e p.zs p.ad p.k p.ch p.lf ops) (fZ p ops) 0=true:=by
   unfold mU fZ
   show(jZ p.ad 0&&decide ((-1:Int)<0)&&fV (p.zs.getD 0 0) _ (jo (au p.sg) (dw p.e p.zs p.ad p.k p.ch p.lf ops)) (jQ (au p.sg) (dw p.e p.zs p.ad p.k p.ch p.lf ops)))=true
   rw[h0,hx2,Hw _ _ (dL _)]
   rfl
  have hc:Fx p.zs p.ad (dw p.e p.zs p.ad p.k p.ch p.lf ops) (fZ p ops) 1=0:=yD fun j hj=>by
   obtain rfl:j=0:=by omega
   exact hp
  have hv:bX p.e p.zs p.ad p.k p.ch p.lf ops n (fZ p ops) 1=0:=by
   unfold bX
   rw[if_neg hn,if_neg (fun h=>h hd),if_neg (fun h=>h hc),hk,if_neg (by decide)]
  unfold bW
  rw[if_neg (fun h=>h hv),if_neg (fun h=>h hd),if_neg (by omega)]
theorem DI{i a:Nat}{q:PS}(h:GV i a q)(a0:1≤a):jZ q.ad 0=true:=by
 unfold jZ aG
 have:=h.ad 0 (by decide)
 rw[show((0:Int).toNat)=0 from rfl,this]
 simp;omega
theorem ap6{i a:Nat}{q:PS}(h:GV i a q)(i0:1≤i)(i1:i<6)(a0:1≤a)(a1:a≤i){pr:Bool}(hp:pr=true→a=i){m:Nat}{vs:List Int}(hc:bW q (kJ pr) (opsV (jX i) (l7 i) i pr) m vs=0)(d:List UInt8):
  dJ q q.lf (kJ pr) (opsV (jX i) (l7 i) i pr)=kX q (jX i) (l7 i) i pr∧GV (i+1) (if pr=true then a+1 else a) (aH q (kX q (jX i) (l7 i) i pr) (kJ pr) (opsV (jX i) (l7 i) i pr) m vs d)∧
  bq (aH q (kX q (jX i) (l7 i) i pr) (kJ pr) (opsV (jX i) (l7 i) i pr) m vs d).zs i=eT (bU (i:Nat)):=by
 obtain⟨x,hx⟩:∃x,x=jX i:=⟨_,rfl⟩
 obtain⟨y,hy⟩:∃y,y=l7 i:=⟨_,rfl⟩
 have ix:cO x=true:=hx▸JI i
 have iy:cO y=true:=hy▸Qd i
 have hn:∀j,j<i→q.zs.getD (j*2) 0≠x:=fun j hj=>by rw[h.sg j hj,hx];exact ae2 (by omega) i1 (by omega)
 rw[I6,←hx,←hy]
 rw[←hx,←hy]at hc
 have hdo:dJ q q.lf (kJ pr) (opsV x y i pr)=kX q x y i pr:=by
  unfold dJ
  rw[aE9 h i0 i1 ix iy hn a0 a1 hp]
 have ho:=yE h.own hc d
 rw[hdo]at ho
 have zl:(kX q x y i pr).zs.length=31:=iI h.own.inv.zl rfl
 have sl:aI (aC d)≠0:=iZ _
 have z0:q.lf.toNat=0:=by rw[h.lf];rfl
 have lp:∀j,j<8→bq (gu (kX q x y i pr).zs q.lf (aI (aC d)) (aI (ak (aC d))) (aI (ak (ak (aC d)))) (aI (ak (ak (ak (aC d)))))) j=if j=0 then[(bq (kX q x y i pr).zs 0).getD 0 0,aI (aC d)]else bq (kX q x y i pr).zs j:=fun j hj=>by
  rw[nu zl h.own.inv.lf0 h.own.inv.lf1 _ _ _ _ hj,z0,lQ _ (by decide)]
 have lq:∀j,j<8→bq (kX q x y i pr).zs j=if j=i then[x,y]else bq q.zs j:=fun j hj=>jv h.own.inv.zl rfl (by omega) hj
 have m0:dF q.zs 0=true:=by rw[h.mem 0 (by decide)];simp;omega
 refine⟨hdo,⟨ho,?_,fun j hj=>?_,fun j hj=>?_,fun j hj=>?_,?_,?_⟩,?_⟩
 ·rw[←h.lf];dsimp only[aH,bC,dG,fK,gN]
 ·rw[lC]
  have hm:=YF h i0 i1 ix iy hn hj
  have hm:dF (kX q x y i pr).zs j=decide (j<i+1):=hm
  by_cases e:j=0
  ·rw[e]at hm ⊢
   rw[Lj zl h.own.inv.lf0 h.own.inv.lf1 _ _ _ _ (by decide) sl (by rw[hm];simp)]
   simp
  ·rw[←hm]
   unfold dF
   rw[lp j hj,if_neg e]
 ·rw[lC,←lQ _ (by omega),lp j (by omega)]
  by_cases e:j=0
  ·rw[if_pos e,lq 0 (by decide),if_neg (by omega),e]
   show(bq q.zs 0).getD 0 0=_
   rw[lQ _ (by decide)]
   exact h.sg 0 (by omega)
  ·rw[if_neg e,lq j (by omega)]
   by_cases e2:j=i
   ·rw[if_pos e2,e2,←hx];rfl
   ·rw[if_neg e2,lQ _ (by omega)]
    exact h.sg j (by omega)
 ·have e:(aH q (kX q x y i pr) (kJ pr) (opsV x y i pr) m vs d).ad=(kX q x y i pr).ad:=by dsimp only[aH,bC,dG,fK,gN]
  rw[e]
  exact aE8 h i0 i1 ix iy hn a0 a1 hp j hj
 ·have e:(aH q (kX q x y i pr) (kJ pr) (opsV x y i pr) m vs d).k=q.k:=by dsimp only[aH,bC,dG,fK,gN,kX]
  rw[e];exact h.k
 ·have e:(aH q (kX q x y i pr) (kJ pr) (opsV x y i pr) m vs d).e=q.e+1:=by dsimp only[aH,bC,dG,fK,gN]
  rw[e,h.e];omega
 ·rw[lC,lp i (by omega),if_neg (by omega),lq i (by omega),if_pos rfl]
structure Full(i:Nat)(G:List (Option PS)):Prop where
 FC:Ig G
 len:G.length=i
 at':∀j,j<i→∃p,iE G j=some p∧p.lf=(j:Nat)
theorem KW{i:Nat}{G:List (Option PS)}(h:Full i G)(i0:1≤i){q:PS}(hq:iE G 0=some q)(l0:q.lf=0){n:Nat}{ops:List Int}{m:Nat}{vs:List Int}(hc:bW q n ops m vs=0)(d:List UInt8){s:Vw}(hs:s=dJ q q.lf n ops)(hg:s.gn=F8):
  ∀j,j<i→∃p,iE (qd G 0 (aH q s n ops m vs d) (bH q s n ops m vs d)) j=some p∧p.lf=(j:Nat)∧(j=0→p=aH q s n ops m vs d):=fun j hj=>by
 rw[sO (by rw[h.len];exact hj)]
 by_cases e:j=0
 ·rw[if_pos e]
  refine⟨_,rfl,?_,fun _=>rfl⟩
  rw[e]
  have:(aH q s n ops m vs d).lf=q.lf:=by dsimp only[aH,bC,dG,fK,gN]
  rw[this,l0];rfl
 ·rw[if_neg e]
  obtain⟨p,hp,pl⟩:=h.at' j hj
  obtain⟨_,g2⟩:=zm (h.FC.own j p hp) (h.FC.own 0 q hq) (h.FC.like j 0 p q hp hq) (h.FC.leaf j 0 p q hp hq e) hc d hs
  have hgn:s.gn.getD p.lf.toNat false=false:=by
   rw[hg]
   rcases p.lf.toNat with _|_|_|_|_|_|_|_|k<;>rfl
  obtain⟨p',k1,k2,k3,k4,k5⟩:=g2 hgn
  refine⟨p',?_,by rw[k4,pl],fun h=>absurd h e⟩
  rw[hp]
  show kP p _=_
  unfold kP
  rw[k1]
  rfl
structure GI(i a:Nat)(G:List (Option PS)):Prop where
 full:Full i G
 v:∀p,iE G 0=some p→GV i a p
theorem Cz(i:Nat)(i1:i<8)(j:Nat)(hj:j<8):(F8.set i true).getD j false=decide (j=i):=by
 rw[List.getD_eq_getElem?_getD,List.getElem?_set]
 by_cases e:i=j
 ·rw[if_pos e,if_pos (by simpa using i1),decide_eq_true e.symm];rfl
 ·rw[if_neg e,decide_eq_false (fun h=>e h.symm)]
  rcases j with _|_|_|_|_|_|_|_|j<;>first|rfl|omega
theorem Zd{i:Nat}(i1:i<8){zs:List Int}(h:(kY zs i).isSome=true):Wu (F8.set i true) zs=[i]:=by
 have e:Wu (F8.set i true) zs=(List.range 8).filter fun j=>decide (j=i):=by
  unfold Wu
  refine List.filter_congr fun j hj=>?_
  rw[Cz i i1 j (List.mem_range.1 hj)]
  by_cases e:j=i
  ·rw[decide_eq_true e,e,h];rfl
  ·rw[decide_eq_false e];rfl
 rw[e]
 have:i=0∨i=1∨i=2∨i=3∨i=4∨i=5∨i=6∨i=7:=by omega
 rcases this with rfl|rfl|rfl|rfl|rfl|rfl|rfl|rfl<;>decide
theorem IW(zs:List Int):Wu F8 zs=[]:=by
 unfold Wu
 rw[List.filter_eq_nil_iff]
 intro j hj
 have hj:=List.mem_range.1 hj
 rcases j with _|_|_|_|_|_|_|_|j<;>first|(simp;done)|omega
theorem aO0{zs:List Int}{i:Nat}(i1:i<64)(h:bq zs i=eT (bU (i:Nat))):(kY zs i).isSome=true:=by
 unfold kY
 rw[List.find?_isSome]
 exact⟨i,List.mem_range.2 i1,decide_eq_true h⟩
theorem Uh:GI 1 1 [some (aY (bU (0:Nat)))]:=by
 have g:=Ul
 generalize aY (bU (0:Nat))=p at g
 have at0:∀j r,iE [some p] j=some r→j=0∧r=p:=fun j r h=>by
  rcases j with _|j
  ·exact⟨rfl,(Option.some.inj h).symm⟩
  ·cases h
 refine⟨⟨⟨fun j r h=>?_,fun j k r t h1 h2=>?_,fun j k r t h1 h2 h3=>?_⟩,rfl,fun j hj=>?_⟩,fun r h=>?_⟩
 ·rw[(at0 j r h).2];exact g.own
 ·rw[(at0 j r h1).2,(at0 k t h2).2];exact Like.refl _
 ·exact absurd ((at0 j r h1).1.trans (at0 k t h2).1.symm) h3
 ·obtain rfl:j=0:=by omega
  exact⟨p,rfl,g.lf⟩
 ·rw[(at0 0 r h).2];exact g
theorem gi_step{i a:Nat}{G:List (Option PS)}(h:GI i a G)(i0:1≤i)(i1:i<6)(a0:1≤a)(a1:a≤i){pr:Bool}(hp:pr=true→a=i){q:PS}(hq:iE G 0=some q)(d:List UInt8):
  l8 q.e q.zs q.ad q.k q.lf (au q.sg) q.lf (opsV (jX i) (l7 i) i pr) (kJ pr)=0∧bW q (kJ pr) (opsV (jX i) (l7 i) i pr) 1 (fZ q (opsV (jX i) (l7 i) i pr))=0∧
  GI (i+1) (if pr=true then a+1 else a) (stepM G 0 (kJ pr) (opsV (jX i) (l7 i) i pr) 1 (fZ q (opsV (jX i) (l7 i) i pr)) d):=by
 have g:=h.v q hq
 have hn:∀j,j<i→q.zs.getD (j*2) 0≠jX i:=fun j hj=>by rw[g.sg j hj];exact ae2 (by omega) i1 (by omega)
 have hd:=aE9 g i0 i1 (JI i) (Qd i) hn a0 a1 hp
 obtain⟨c1,c2⟩:=uD (n:=kJ pr) (ops:=opsV (jX i) (l7 i) i pr) (by unfold kJ;split<;>decide) (by rw[hd]) (Em g.own g.lf) (DI g a0) g.k g.lf (by rw[g.e];omega)
 refine⟨c1,c2,?_⟩
 obtain⟨vs,hvs⟩:∃vs,vs=fZ q (opsV (jX i) (l7 i) i pr):=⟨_,rfl⟩
 rw[←hvs]at c2 ⊢
 obtain⟨n1,n2,n3⟩:=ap6 g i0 i1 a0 a1 hp c2 d
 have gs:=uJ h.full.FC hq (kJ pr) (opsV (jX i) (l7 i) i pr) 1 vs d
 have ho:=KW h.full i0 hq g.lf c2 d n1.symm rfl
 have pI:(kX q (jX i) (l7 i) i pr).ng=F8.set i true:=rfl
 have hsome:=aO0 (show i<64 by omega) n3
 have hj:=Zd (show i<8 by omega) hsome
 obtain⟨sd,hsd⟩:=Option.isSome_iff_exists.1 hsome
 obtain⟨r,k1,k2,k3,k4,_⟩:=Cg g.own c2 d n1.symm rfl (show i<8 by omega) (by rw[pI,Cz i (by omega) i (by omega)];simp) (rZ hsd)
 have e:stepM G 0 (kJ pr) (opsV (jX i) (l7 i) i pr) 1 vs d=qd G 0 (aH q (kX q (jX i) (l7 i) i pr) (kJ pr) (opsV (jX i) (l7 i) i pr) 1 vs d) (bH q (kX q (jX i) (l7 i) i pr) (kJ pr) (opsV (jX i) (l7 i) i pr) 1 vs d)++[some r]:=by
  unfold stepM
  rw[hq]
  dsimp only
  rw[if_neg (fun h=>h c2),n1,pI,hj]
  show _++[tQ _ _ _ _ _ i]=_
  unfold tQ
  rw[hsd]
  show _++[(fE _ _).2]=_
  rw[k1]
 rw[e]at gs ⊢
 have ln:=lD G 0 (aH q (kX q (jX i) (l7 i) i pr) (kJ pr) (opsV (jX i) (l7 i) i pr) 1 vs d) (bH q (kX q (jX i) (l7 i) i pr) (kJ pr) (opsV (jX i) (l7 i) i pr) 1 vs d)
 rw[h.full.len]at ln
 have low:∀j,j<i→iE (qd G 0 (aH q (kX q (jX i) (l7 i) i pr) (kJ pr) (opsV (jX i) (l7 i) i pr) 1 vs d) (bH q (kX q (jX i) (l7 i) i pr) (kJ pr) (opsV (jX i) (l7 i) i pr) 1 vs d)++[some r]) j=iE (qd G 0 (aH q (kX q (jX i) (l7 i) i pr) (kJ pr) (opsV (jX i) (l7 i) i pr) 1 vs d) (bH q (kX q (jX i) (l7 i) i pr) (kJ pr) (opsV (jX i) (l7 i) i pr) 1 vs d)) j:=fun j hj=>by
  unfold iE
  rw[List.getD_eq_getElem?_getD,List.getD_eq_getElem?_getD,List.getElem?_append_left (by omega)]
 refine⟨⟨gs,by rw[List.length_append,ln];rfl,fun j hj=>?_⟩,fun p hp2=>?_⟩
 ·rcases Nat.lt_or_ge j i with o|o
  ·obtain⟨p,e1,e2,_⟩:=ho j o
   exact⟨p,by rw[low j o];exact e1,e2⟩
  ·obtain rfl:j=i:=by omega
   refine⟨r,?_,k4⟩
   unfold iE
   rw[List.getD_eq_getElem?_getD,List.getElem?_append_right (by omega),ln,Nat.sub_self]
   rfl
 ·obtain⟨p',e1,e2,e3⟩:=ho 0 (by omega)
  rw[low 0 (by omega),e1]at hp2
  rw[←Option.some.inj hp2,e3 rfl]
  exact n2
end
section
open Pm
attribute [local irreducible] cO aA au jm aC dA gu dU bU aI
def opsL(k:Int):List Int:=[5,0,k,0,0]
theorem aE6{i a:Nat}{q:PS}(h:GV i a q)(i0:1≤i)(a1:a≤8){k:Int}(k0:1≤k)(k1:k≤a):cZ q.e ⟨q.zs,q.ad,q.k,F8,F8⟩ q.lf (opsL k) 1=(0,⟨q.zs,q.ad,k,F8,F8⟩):=by
 have z:bn q.zs q.lf=true:=by
  rw[h.lf]
  have:=Ba q.zs (w:=0) (by decide)
  rw[h.mem 0 (by decide)]at this
  rw[show(0:Int)=((0:Nat):Int)from rfl,this]
  simp;omega
 refine KD h.own.may (by decide) rfl z ?_ ?_
 ·show gP q.lf [5,0,k,0,0] (0+1) 0 _=_
  rw[runV_1 (d:=0) (o:=[5,0,k,0,0]) rfl ?_,runV_0]
  ·rfl
  ·show iN k=0
   unfold iN
   rw[if_neg (by omega)]
 ·show k≤((jh q.ad:Nat):Int)
  rw[Iq h.own.inv.al a1 h.ad]
  exact k1
theorem ap3{i a:Nat}{G:List (Option PS)}(h:GI i a G)(i0:1≤i)(i1:i<8)(a0:1≤a)(a1:a≤8){k:Int}(k0:1≤k)(k1:k≤a){q:PS}(hq:iE G 0=some q)(d:List UInt8):
  l8 q.e q.zs q.ad q.k q.lf (au q.sg) q.lf (opsL k) 1=0∧bW q 1 (opsL k) 1 (fZ q (opsL k))=0∧Full i (stepM G 0 1 (opsL k) 1 (fZ q (opsL k)) d):=by
 have g:=h.v q hq
 have hd:=aE6 g i0 a1 k0 k1
 obtain⟨c1,c2⟩:=uD (n:=1) (ops:=opsL k) (by decide) (by rw[hd]) (Em g.own g.lf) (DI g a0) g.k g.lf (by rw[g.e];omega)
 refine⟨c1,c2,?_⟩
 obtain⟨vs,hvs⟩:∃vs,vs=fZ q (opsL k):=⟨_,rfl⟩
 rw[←hvs]at c2 ⊢
 obtain⟨s,hs⟩:∃s,s=dJ q q.lf 1 (opsL k):=⟨_,rfl⟩
 have hs2:s=⟨q.zs,q.ad,k,F8,F8⟩:=by rw[hs];unfold dJ;rw[hd]
 have gs:=uJ h.full.FC hq 1 (opsL k) 1 vs d
 have ho:=KW h.full i0 hq g.lf c2 d hs (by rw[hs2])
 have e:stepM G 0 1 (opsL k) 1 vs d=qd G 0 (aH q s 1 (opsL k) 1 vs d) (bH q s 1 (opsL k) 1 vs d):=by
  unfold stepM
  rw[hq]
  dsimp only
  rw[if_neg (fun h=>h c2),←hs,show s.ng=F8 by rw[hs2],IW]
  simp
 rw[e]at gs ⊢
 refine⟨gs,by rw[lD,h.full.len],fun j hj=>?_⟩
 obtain⟨p,e1,e2,_⟩:=ho j hj
 exact⟨p,e1,e2⟩
def wL(n:Int):List UInt8:=UInt8.ofNat (IntKind.u8.wrap n).toNat::1::List.replicate 30 0
def iW(G:List (Option PS)):PS:=(iE G 0).getD (aY (bU (0:Nat)))
def kG(A i:Nat)(G:List (Option PS)):List (Option PS):=stepM G 0 (kJ (decide (i<A))) (opsV (jX i) (l7 i) i (decide (i<A))) 1 (fZ (iW G) (opsV (jX i) (l7 i) i (decide (i<A)))) (wL (i:Nat))
def dV(A:Nat):Nat→List (Option PS)
 |0=>[some (aY (bU (0:Nat)))]
 |i+1=>kG A (i+1) (dV A i)
def Zk(k:Int)(G:List (Option PS)):List (Option PS):=stepM G 0 1 (opsL k) 1 (fZ (iW G) (opsL k)) (wL 99)
def pG(M A:Nat)(k:Int):List (Option PS):=if k>1 then Zk k (dV A (M-1))else dV A (M-1)
theorem Dz{i a:Nat}{G:List (Option PS)}(h:GI i a G)(i0:1≤i):iE G 0=some (iW G):=by
 obtain⟨p,hp,_⟩:=h.full.at' 0 (by omega)
 unfold iW
 rw[hp];rfl
theorem K4{A i:Nat}{G:List (Option PS)}(h:GI i (min i A) G)(i0:1≤i)(i1:i<6)(a0:1≤A):
  l8 (iW G).e (iW G).zs (iW G).ad (iW G).k (iW G).lf (au (iW G).sg) (iW G).lf (opsV (jX i) (l7 i) i (decide (i<A))) (kJ (decide (i<A)))=0∧
  bW (iW G) (kJ (decide (i<A))) (opsV (jX i) (l7 i) i (decide (i<A))) 1 (fZ (iW G) (opsV (jX i) (l7 i) i (decide (i<A))))=0∧GI (i+1) (min (i+1) A) (kG A i G):=by
 obtain⟨c1,c2,c3⟩:=gi_step h i0 i1 (by omega) (by omega) (pr:=decide (i<A)) (fun e=>by have:=of_decide_eq_true e;omega) (Dz h i0) (wL (i:Nat))
 refine⟨c1,c2,?_⟩
 have e:(if decide (i<A)=true then min i A+1 else min i A)=min (i+1) A:=by
  by_cases o:i<A
  ·rw[if_pos (decide_eq_true o)];omega
  ·rw[if_neg (by simpa using o)];omega
 rw[←e]
 exact c3
theorem r9{A:Nat}(a0:1≤A):∀i:Nat,i<6→GI (i+1) (min (i+1) A) (dV A i)
 |0,_=>by
  have:=Uh
  rw[show min (0+1) A=1 by omega]
  exact this
 |i+1,h=>(K4 (r9 a0 i (by omega)) (by omega) h a0).2.2
theorem Gh{A i:Nat}{k:Int}{G:List (Option PS)}(h:GI i (min i A) G)(i0:1≤i)(i1:i<8)(k0:1≤k)(k1:k≤A)(k2:k≤i):
  l8 (iW G).e (iW G).zs (iW G).ad (iW G).k (iW G).lf (au (iW G).sg) (iW G).lf (opsL k) 1=0∧bW (iW G) 1 (opsL k) 1 (fZ (iW G) (opsL k))=0∧Full i (Zk k G):=
 ap3 h i0 i1 (by omega) (by omega) k0 (by omega) (Dz h i0) (wL 99)
theorem DC{M A:Nat}{k:Int}(m0:1≤M)(m1:M≤6)(a0:1≤A)(a1:A≤M)(k0:1≤k)(k1:k≤A):Full M (pG M A k):=by
 have g:=r9 a0 (M-1) (by omega)
 rw[show M-1+1=M by omega]at g
 unfold pG
 by_cases o:k>1
 ·rw[if_pos o]
  exact(Gh g m0 (by omega) k0 k1 (by omega)).2.2
 ·rw[if_neg o]
  exact g.full
end
section
open Pm
def wQ(p:PS)(fr:Int)(ops:List Int):List Int:=[p.lf,jo (au p.sg) (dw p.e p.zs p.ad p.k p.ch fr ops),jQ (au p.sg) (dw p.e p.zs p.ad p.k p.ch fr ops)]
def Ti(p:PS)(fr:Int)(ops:List Int)(o:Nat):Bool:=decide (l8 p.e p.zs p.ad p.k p.lf (au p.sg) fr ops o=0)
def bE(G:List (Option PS))(fr:Int)(ops:List Int)(o cap:Nat):Nat→List (List Int)
 |0=>[]
 |i+1=>if(bE G fr ops o cap i).length<cap then(match iE G i with
   |some p=>if Ti p fr ops o=true then bE G fr ops o cap i++[wQ p fr ops]else bE G fr ops o cap i
   |none=>bE G fr ops o cap i)else bE G fr ops o cap i
theorem vw(G:List (Option PS))(fr:Int)(ops:List Int)(o cap:Nat):∀i:Nat,(bE G fr ops o cap i).length≤cap∧(bE G fr ops o cap i).length≤i∧∀x∈bE G fr ops o cap i,x.length=3
 |0=>⟨by simp[bE],by simp[bE],by simp[bE]⟩
 |i+1=>by
  obtain⟨h1,h2,h3⟩:=vw G fr ops o cap i
  unfold bE
  by_cases c:(bE G fr ops o cap i).length<cap
  ·rw[if_pos c]
   split
   ·split
    ·refine⟨by simp;omega,by simp;omega,fun x hx=>?_⟩
     rcases List.mem_append.1 hx with m|m
     ·exact h3 x m
     ·rw[List.mem_singleton.1 m];rfl
    ·exact⟨h1,by omega,h3⟩
   ·exact⟨h1,by omega,h3⟩
  ·rw[if_neg c]
   exact⟨h1,by omega,h3⟩
theorem tH{G:List (Option PS)}{fr:Int}{ops:List Int}{o cap i:Nat}(h:¬(bE G fr ops o cap i).length<cap):∀d:Nat,bE G fr ops o cap (i+d)=bE G fr ops o cap i
 |0=>rfl
 |d+1=>by
  have ih:=tH h d
  rw[←Nat.add_assoc]
  conv=>lhs;unfold bE
  rw[ih,if_neg h]
end
section
open Pm
def kK(ng:List Bool)(k:Nat):List Nat:=(List.range k).filter fun j=>ng.getD j false
def qQ(ng:List Bool)(i:Nat):Nat:=(kK ng 8).getD i 0
theorem yZ(ng:List Bool)(k:Nat):kK ng (k+1)=if ng.getD k false=true then kK ng k++[k]else kK ng k:=by
 unfold kK
 rw[List.range_succ,List.filter_append]
 by_cases h:ng.getD k false=true
 ·rw[if_pos h,List.filter_cons_of_pos (p:=fun j=>ng.getD j false) h];rfl
 ·rw[if_neg h,List.filter_cons_of_neg (p:=fun j=>ng.getD j false) h];simp
theorem nL(ng:List Bool):∀k:Nat,gD ng k=(kK ng k).length
 |0=>by simp[gD,kK]
 |k+1=>by
  rw[yZ,gD]
  split
  ·rw[List.length_append,nL ng k];rfl
  ·exact nL ng k
theorem J2(W:Nat→List Seg)(ng:List Bool):∀k i:Nat,i<gD ng k→pY W ng k i=W ((kK ng k).getD i 0)
 |0,i,h=>absurd h (by rw[gD];omega)
 |k+1,i,h=>by
  have hl:=nL ng k
  rw[pY,yZ]
  rw[gD]at h
  by_cases hb:ng.getD k false=true
  ·rw[if_pos hb]at h ⊢
   rw[if_pos hb]
   by_cases hi:i=gD ng k
   ·rw[if_pos hi,hi,hl,List.getD_eq_getElem?_getD,List.getElem?_append_right (Nat.le_refl _),Nat.sub_self];rfl
   ·rw[if_neg hi,J2 W ng k i (by omega),List.getD_eq_getElem?_getD,List.getD_eq_getElem?_getD,List.getElem?_append_left (by omega)]
  ·rw[if_neg hb]at h ⊢
   rw[if_neg hb]
   exact J2 W ng k i h
theorem Lf{ng:List Bool}{i:Nat}(h:i<gD ng 8):qQ ng i<8∧ng.getD (qQ ng i) false=true:=by
 rw[nL]at h
 have hm:qQ ng i∈kK ng 8:=by
  unfold qQ
  rw[List.getD_eq_getElem?_getD,List.getElem?_eq_getElem h]
  exact List.getElem_mem h
 unfold kK at hm
 rw[List.mem_filter,List.mem_range]at hm
 exact hm
theorem ai0(ng:List Bool):gD ng 8≤8:=by
 rw[nL]
 unfold kK
 exact Nat.le_trans (List.length_filter_le _ _) (by simp)
def uL(w:Wc):List (Option PS):=match kY w.zs w.lf.toNat with
 |some s=>[(fE (bU (s:Nat)) w).2]
 |none=>[]
def iT(C:Nat→Wc):Nat→List (Option PS)
 |0=>[]
 |i+1=>iT C i++uL (C i)
theorem Uw(w:Wc):(uL w).length≤1:=by
 unfold uL
 split
 ·exact Nat.le_refl _
 ·exact Nat.zero_le _
theorem A9(C:Nat→Wc):∀n:Nat,(iT C n).length≤n
 |0=>Nat.le_refl _
 |n+1=>by
  have h1:=A9 C n
  have h2:=Uw (C n)
  rw[iT,List.length_append]
  omega
theorem yU(f:Nat→Wc)(l:List Nat):∀n:Nat,n≤l.length→iT (fun i=>f (l.getD i 0)) n=(l.take n).flatMap fun j=>uL (f j)
 |0,_=>by simp[iT]
 |n+1,h=>by
  rw[iT,yU f l n (by omega),List.take_add_one,List.flatMap_append,List.getElem?_eq_getElem (by omega:n<l.length),List.getD_eq_getElem?_getD,List.getElem?_eq_getElem (by omega:n<l.length)]
  simp
theorem Zc(q':PS)(ab joint tag d:List UInt8)(ng:List Bool):iT (fun i=>nZ q' ab joint tag d (qQ ng i)) (gD ng 8)=(Wu ng q'.zs).map (tQ q' ab joint tag d):=by
 have e:iT (fun i=>nZ q' ab joint tag d (qQ ng i)) (gD ng 8)=(kK ng 8).flatMap fun j=>uL (nZ q' ab joint tag d j):=by
  have:=yU (nZ q' ab joint tag d) (kK ng 8) (gD ng 8) (by rw[nL];exact Nat.le_refl _)
  rw[List.take_of_length_le (by rw[nL];exact Nat.le_refl _)]at this
  exact this
 have key:∀l:List Nat,((l.filter fun j=>ng.getD j false).flatMap fun j=>uL (nZ q' ab joint tag d j))=(l.filter fun j=>ng.getD j false&&(kY q'.zs j).isSome).map (tQ q' ab joint tag d):=fun l=>by
  induction l with
  |nil=>rfl
  |cons j l ih=>
   by_cases hb:ng.getD j false=true
   ·rw[List.filter_cons_of_pos (p:=fun j=>ng.getD j false) hb,List.flatMap_cons,ih]
    have hj:uL (nZ q' ab joint tag d j)=match kY q'.zs j with
     |some s=>[(fE (bU (s:Nat)) (nZ q' ab joint tag d j)).2]
     |none=>[]:=by
     unfold uL
     rfl
    rw[hj]
    cases hf:kY q'.zs j with
    |some s=>
     rw[List.filter_cons_of_pos (p:=fun j=>ng.getD j false&&(kY q'.zs j).isSome) (by rw[hb,hf];rfl),List.map_cons]
     have:tQ q' ab joint tag d j=(fE (bU (s:Nat)) (nZ q' ab joint tag d j)).2:=by unfold tQ;rw[hf]
     rw[this]
     rfl
    |none=>
     rw[List.filter_cons_of_neg (p:=fun j=>ng.getD j false&&(kY q'.zs j).isSome) (by rw[hb,hf];decide)]
     rfl
   ·rw[List.filter_cons_of_neg (p:=fun j=>ng.getD j false) hb,List.filter_cons_of_neg (p:=fun j=>ng.getD j false&&(kY q'.zs j).isSome) (by rw[Bool.and_eq_true];exact fun h=>hb h.1),ih]
 rw[e]
 exact key _
def mM(G:List (Option PS))(fr:Nat)(q':PS)(c:CS)(j:Nat):List (Option PS):=(List.range G.length).map fun i=>if i=fr then some q' else if i<j then(iE G i).bind fun p=>kP p c else iE G i
theorem kD(G:List (Option PS))(fr:Nat)(q':PS)(c:CS)(j:Nat):(mM G fr q' c j).length=G.length:=by unfold mM;simp
theorem AA{G:List (Option PS)}{fr:Nat}{q':PS}{c:CS}{j i:Nat}(hi:i<G.length):iE (mM G fr q' c j) i=if i=fr then some q' else if i<j then(iE G i).bind fun p=>kP p c else iE G i:=by
 unfold iE mM
 rw[List.getD_eq_getElem?_getD,List.getElem?_map,List.getElem?_range hi]
 rfl
theorem tookTo_0{G:List (Option PS)}{fr:Nat}(hf:fr<G.length)(q':PS)(c:CS):mM G fr q' c 0=G.set fr (some q'):=by
 refine List.ext_getElem (by rw[kD,List.length_set]) fun i h1 h2=>?_
 rw[kD]at h1
 have:=AA (G:=G) (fr:=fr) (q':=q') (c:=c) (j:=0) h1
 unfold iE at this
 rw[List.getD_eq_getElem?_getD,List.getElem?_eq_getElem (by rw[kD];exact h1)]at this
 simp only[Option.getD_some]at this
 rw[this,List.getElem_set]
 by_cases e:i=fr
 ·rw[if_pos e,if_pos e.symm]
 ·rw[if_neg e,if_neg (show ¬i<0 by omega),if_neg (fun h=>e h.symm),List.getD_eq_getElem?_getD,List.getElem?_eq_getElem h1]
  rfl
theorem Qp(G:List (Option PS))(fr:Nat)(q':PS)(c:CS):mM G fr q' c G.length=qd G fr q' c:=by
 unfold mM qd
 refine List.map_congr_left fun i hi=>?_
 rw[List.mem_range]at hi
 rw[if_pos hi]
theorem MS{G:List (Option PS)}{fr:Nat}{q':PS}{c:CS}{j:Nat}(h:j=fr∨iE G j=none∨((iE G j).bind fun p=>kP p c)=iE G j):mM G fr q' c (j+1)=mM G fr q' c j:=by
 unfold mM
 refine List.map_congr_left fun i hi=>?_
 by_cases e:i=fr
 ·rw[if_pos e,if_pos e]
 ·rw[if_neg e,if_neg e]
  by_cases e2:i=j
  ·subst e2
   rw[if_pos (by omega),if_neg (by omega)]
   rcases h with h|h|h
   ·exact absurd h e
   ·rw[h];rfl
   ·exact h
  ·by_cases e3:i<j
   ·rw[if_pos (by omega),if_pos e3]
   ·rw[if_neg (by omega),if_neg e3]
theorem Qq{G:List (Option PS)}{fr:Nat}{q':PS}{c:CS}{j:Nat}(hj:j<G.length)(hne:j≠fr){o:Option PS}(h:((iE G j).bind fun p=>kP p c)=o):mM G fr q' c (j+1)=(mM G fr q' c j).set j o:=by
 refine List.ext_getElem (by rw[kD,List.length_set,kD]) fun i h1 h2=>?_
 rw[kD]at h1
 have a1:=AA (G:=G) (fr:=fr) (q':=q') (c:=c) (j:=j+1) h1
 have a2:=AA (G:=G) (fr:=fr) (q':=q') (c:=c) (j:=j) h1
 unfold iE at a1 a2
 rw[List.getD_eq_getElem?_getD,List.getElem?_eq_getElem (by rw[kD];exact h1)]at a1 a2
 simp only[Option.getD_some]at a1 a2
 rw[a1,List.getElem_set,a2]
 by_cases e:j=i
 ·subst e
  rw[if_pos rfl,if_neg hne,if_pos (by omega)]
  exact h
 ·rw[if_neg e]
  by_cases e1:i=fr
  ·rw[if_pos e1,if_pos e1]
  ·rw[if_neg e1,if_neg e1]
   by_cases e3:i<j
   ·rw[if_pos (by omega),if_pos e3]
   ·rw[if_neg (by omega),if_neg e3]
theorem af7{G:List (Option PS)}{fr:Nat}{q:PS}(hq:iE G fr=some q){n:Nat}{ops:List Int}{m:Nat}{vs:List Int}{d:List UInt8}(h:bW q n ops m vs≠0):stepM G fr n ops m vs d=G:=by
 unfold stepM
 rw[hq]
 dsimp only
 rw[if_pos h]
theorem VF{G:List (Option PS)}{fr:Nat}{q:PS}(hq:iE G fr=some q){n:Nat}{ops:List Int}{m:Nat}{vs:List Int}{d:List UInt8}(h:bW q n ops m vs=0){s:Vw}(hs:s=dJ q q.lf n ops){q':PS}(hq':q'=aH q s n ops m vs d){c:CS}(hc:c=bH q s n ops m vs d):
  stepM G fr n ops m vs d=qd G fr q' c++iT (fun i=>nZ q' (fU (aC d)) (bT q d) (eB q'.ep) d (qQ s.ng i)) (gD s.ng 8):=by
 rw[Zc]
 unfold stepM
 rw[hq]
 dsimp only
 rw[if_neg (fun e=>e h),←hs,←hq',←hc]
end
section
open Pm
def LV:Option PS→A
 |none=>.v (.pointer none)
 |some q=>.sref (dM (dQ q)) 0
def gL:List (Option PS)→List A
 |[]=>[]
 |o::l=>Ah o::LV o::gL l
theorem Oz:∀G H:List (Option PS),gL (G++H)=gL G++gL H
 |[],H=>rfl
 |o::l,H=>by rw[List.cons_append,gL,gL,Oz l H];rfl
theorem OA:∀(G:List (Option PS)) (i:Nat),i<G.length→(gL G).getD (i*2) (.v undef)=Ah (iE G i)∧(gL G).getD (i*2+1) (.v undef)=LV (iE G i)
 |[],i,h=>by simp at h
 |o::l,0,_=>⟨rfl,rfl⟩
 |o::l,i+1,h=>by
  have:=OA l i (by simpa using h)
  rw[show(i+1)*2=i*2+2 by omega]
  simpa[gL,iE]using this
theorem Yy:∀(G:List (Option PS)) (i:Nat),i<G.length→((gL G).drop (i*2)).take 2=[Ah (iE G i),LV (iE G i)]
 |[],i,h=>by simp at h
 |o::l,0,_=>rfl
 |o::l,i+1,h=>by
  have:=Yy l i (by simpa using h)
  rw[show(i+1)*2=i*2+2 by omega]
  simpa[gL,iE]using this
theorem OB:∀(G:List (Option PS)) (i:Nat) (o:Option PS),i<G.length→(gL G).take (i*2)++([Ah o,LV o]++(gL G).drop (i*2+2))=gL (G.set i o)
 |[],i,o,h=>by simp at h
 |p::l,0,o,_=>rfl
 |p::l,i+1,o,h=>by
  have:=OB l i o (by simpa using h)
  rw[show(i+1)*2=i*2+2 by omega]
  simpa[gL]using this
end
end Go.Proofs.YtjhgelfnmhdihaaGreatDoor
