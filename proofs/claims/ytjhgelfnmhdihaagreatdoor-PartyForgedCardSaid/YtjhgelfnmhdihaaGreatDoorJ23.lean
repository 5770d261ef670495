/-
  Views: the document's operations are the program's, where admins are members.
-/
import Derived.Test.YtjhgelfnmhdihaaGreatDoorJ22
namespace Go.Proofs.YtjhgelfnmhdihaaGreatDoor
set_option linter.unusedVariables false
set_option linter.unusedSimpArgs false
set_option maxRecDepth 100000
open Go.RowKit
section
open Pm
theorem xX{zs xs:List Int}{a:Nat}(hx:xs.length=2)(ha:a+2≤zs.length)(m:Nat):(zs.take a++(xs++zs.drop (a+2))).getD m 0=if a≤m∧m<a+2 then xs.getD (m-a) 0 else zs.getD m 0:=by
 simp only[List.getD_eq_getElem?_getD]
 have hl:(zs.take a).length=a:=by rw[List.length_take];omega
 by_cases h1:m<a
 ·rw[List.getElem?_append_left (by omega),List.getElem?_take,if_pos h1,if_neg (by omega)]
 ·rw[List.getElem?_append_right (by omega),hl]
  by_cases h2:m<a+2
  ·rw[List.getElem?_append_left (by omega),if_pos ⟨by omega,h2⟩]
  ·rw[List.getElem?_append_right (by omega),List.getElem?_drop,if_neg (by omega),hx]
   congr 2
   omega
theorem gJ{zs:List Int}(hl:16≤zs.length){j:Nat}(hj:j<8):bq zs j=[zs.getD (j*2) 0,zs.getD (j*2+1) 0]:=by
 rw[pJ zs hj]
 refine List.ext_getElem (by simp;omega) fun i h1 h2=>?_
 have hi:i=0∨i=1:=by simp at h2;omega
 rcases hi with rfl|rfl
 ·simp[List.getD_eq_getElem?_getD,show j*2<zs.length by omega]
 ·simp[List.getD_eq_getElem?_getD,show j*2+1<zs.length by omega]
theorem iI{zs xs:List Int}{i:Int}(hz:zs.length=31)(hx:xs.length=2):(dA zs xs i).length=31:=by
 unfold dA
 split
 ·next h=>
  have:=dh h
  simp[hx,hz]
  omega
 ·rfl
theorem jv{zs xs:List Int}(hz:zs.length=31)(hx:xs.length=2){i j:Nat}(hi:i<8)(hj:j<8):bq (dA zs xs (i:Nat)) j=if j=i then xs else bq zs j:=by
 have hlb:aG (i:Int)=true:=by simp[aG];omega
 unfold dA
 rw[if_pos hlb,Ab _ hj (by omega),Ab _ hj (by omega),Ab _ hj (by omega),Int.toNat_natCast]
 have hl:16≤(zs.take (i*2)++(xs++zs.drop (i*2+2))).length:=by simp[hx,hz];omega
 rw[gJ hl hj,xX hx (by omega),xX hx (by omega),gJ (by omega) hj]
 by_cases e:j=i
 ·subst e
  rw[if_pos (by omega),if_pos (by omega),if_pos rfl]
  obtain⟨a,b,rfl⟩:=two hx
  simp
 ·rw[if_neg (by omega),if_neg (by omega),if_neg e]
theorem lu{zs xs:List Int}(hz:zs.length=31)(hx:xs.length=2){i j:Nat}(hi:i<8)(hj:j<8):dF (dA zs xs (i:Nat)) j=if j=i then decide (xs≠[0,0])else dF zs j:=by
 unfold dF
 rw[jv hz hx hi hj]
 split<;>rfl
theorem kH(zs:List Int)(ad:List Bool):kV zs ad 8=true↔∀i<8,ad.getD i false=true→dF zs i=true:=by
 unfold kV
 rw[List.all_eq_true]
 constructor
 ·intro h i hi ha
  have:=h i (by simpa using hi)
  rw[ha]at this
  simpa using this
 ·intro h i hi
  have hi':i<8:=by simpa using hi
  cases ha:ad.getD i false with
  |false=>rfl
  |true=>rw[h i hi' ha];rfl
theorem iK(l:List Bool)(i j:Nat)(x:Bool):(l.set i x).getD j false=if i=j∧i<l.length then x else l.getD j false:=aK l i x false j
structure Inv(s:Vw):Prop where
 adm:kV s.zs s.ad 8=true
 zl:s.zs.length=31
 al:s.ad.length=8
def Oe(s:Vw)(fr:Int)(o:List Int):Int:=if o.getD 0 0=1 then cK s.zs [o.getD 3 0,o.getD 4 0]else iG s.zs s.ad fr o
def y8(s:Vw)(o:List Int):Vw:=
 if o.getD 0 0=1 then⟨dA s.zs [o.getD 3 0,o.getD 4 0] (dH s.zs:Nat),s.ad.set (dH s.zs) false,s.k,s.ng.set (dH s.zs) true,s.gn⟩
 else⟨tY s.zs o,tV s.ad o,tX s.k o,if o.getD 0 0=2 then s.ng.set (o.getD 1 0).toNat false else s.ng,if o.getD 0 0=2 then s.gn.set (o.getD 1 0).toNat true else s.gn⟩
theorem KR{zs:List Int}{ad:List Bool}(h:kV zs ad 8=true)(who:Int):lI ad who=mg zs ad who:=by
 unfold lI mg
 by_cases hb:0≤who∧who<8
 ·by_cases ha:ad.getD who.toNat false=true
  ·have hm:=(kH zs ad).1 h who.toNat (by omega) ha
   have hmb:bn zs who=true:=by unfold bn;simp[aG,hb.1,hb.2,hm]
   rw[if_neg (by rintro(h1|h1|h1);omega;omega;rw[ha]at h1;cases h1),if_neg (by rintro(h1|h1);rw[hmb]at h1;cases h1;rw[ha]at h1;cases h1)]
  ·have ha':ad.getD who.toNat false=false:=by simpa using ha
   rw[if_pos (.inr (.inr ha')),if_pos (.inr ha')]
 ·have hmb:bn zs who=false:=by
   cases hm:bn zs who with
   |false=>rfl
   |true=>exact absurd (fA hm) hb
  rw[if_pos (by omega),if_pos (.inl hmb)]
theorem Og{s:Vw}(h:Inv s)(fr:Int)(o:List Int):Oe s fr o=eX s fr o:=by
 unfold Oe eX iG
 split
 ·rfl
 ·split
  ·rfl
  ·split
   ·rfl
   ·split
    ·exact KR h.adm _
    ·rfl
theorem ae0{l:List Bool}{i:Nat}(h:l.getD i false=false):l.set i false=l:=by
 refine List.ext_getElem (by simp) fun j h1 h2=>?_
 rw[List.getElem_set]
 split
 ·next e=>
  subst e
  simpa[List.getD_eq_getElem?_getD,h2]using h.symm
 ·rfl
theorem errAdd_0{zs:List Int}{a b:Int}(h:cK zs [a,b]=0):jC zs=false∧cO a=true∧cO b=true:=by
 unfold cK at h
 simp only[List.getD_cons_zero,List.getD_cons_succ]at h
 split at h
 ·next h1=>
  split at h
  ·cases h
  ·split at h
   ·cases h
   ·next h3=>exact⟨by simpa using h3,by simpa using h1⟩
 ·cases h
theorem uQ{s:Vw}(h:Inv s)(fr:Int){o:List Int}(he:eX s fr o=0):y8 s o=eG s o:=by
 unfold y8 eG tY tV tX
 by_cases h1:o.getD 0 0=1
 ·rw[if_pos h1,if_pos h1]
  have he':cK s.zs [o.getD 3 0,o.getD 4 0]=0:=by unfold eX at he;rw[if_pos h1]at he;exact he
  obtain⟨hf,_⟩:=errAdd_0 he'
  obtain⟨Fp,hfm⟩:=oJ hf
  have ha:s.ad.getD (dH s.zs) false=false:=by
   cases hq:s.ad.getD (dH s.zs) false with
   |false=>rfl
   |true=>rw[(kH _ _).1 h.adm _ Fp hq]at hfm;cases hfm
  rw[ae0 ha]
 ·rw[if_neg h1,if_neg h1]
  clear he
  generalize o.getD 0 0=c at*
  generalize o.getD 1 0=w at*
  generalize o.getD 2 0=y at*
  by_cases h2:c=2
  ·simp only[h2,true_or,if_true]
  ·by_cases h3:c=3
   ·simp[h3]
   ·by_cases h4:c=4
    ·simp[h4]
    ·simp[h2,h3,h4]
theorem xH{s:Vw}(h:Inv s)(fr:Int){o:List Int}(he:eX s fr o=0):Inv (eG s o):=by
 have hA:=(kH _ _).1 h.adm
 unfold eG
 unfold eX at he
 by_cases h1:o.getD 0 0=1
 ·rw[if_pos h1]at he ⊢
  obtain⟨hf,hi1,hi2⟩:=errAdd_0 he
  obtain⟨Fp,hfm⟩:=oJ hf
  refine⟨(kH _ _).2 fun i hi ha=>?_,iI h.zl rfl,h.al⟩
  show dF (dA s.zs _ _) i=true
  rw[lu h.zl rfl Fp hi]
  split
  ·exact decide_eq_true fun e=>xC hi1 (List.cons.inj e).1
  ·exact hA i hi ha
 rw[if_neg h1]at he ⊢
 by_cases h2:o.getD 0 0=2
 ·rw[if_pos h2]at he ⊢
  unfold fC at he
  have hm:bn s.zs (o.getD 1 0)=true:=by
   cases hq:bn s.zs (o.getD 1 0)with
   |true=>rfl
   |false=>rw[if_pos (.inr hq)]at he;cases he
  obtain⟨hb0,hb1⟩:=fA hm
  obtain⟨n,hn⟩:=Int.eq_ofNat_of_zero_le hb0
  rw[hn]at hb1 ⊢
  refine⟨(kH _ _).2 fun i hi ha=>?_,iI h.zl rfl,by simp[h.al]⟩
  have ha':(s.ad.set n false).getD i false=true:=ha
  rw[iK]at ha'
  show dF (dA s.zs _ _) i=true
  rw[lu h.zl rfl (by omega) hi]
  split
  ·next e=>rw[if_pos ⟨e.symm,by rw[h.al];omega⟩]at ha';cases ha'
  ·next e=>rw[if_neg (by rintro⟨e2,_⟩;exact e e2.symm)]at ha';exact hA i hi ha'
 rw[if_neg h2]at he ⊢
 by_cases h3:o.getD 0 0=3
 ·rw[if_pos h3]at he ⊢
  unfold iO at he
  have hm:bn s.zs (o.getD 1 0)=true:=by
   cases hq:bn s.zs (o.getD 1 0)with
   |true=>rfl
   |false=>rw[if_pos (.inl hq)]at he;cases he
  refine⟨(kH _ _).2 fun i hi ha=>?_,h.zl,by simp[h.al]⟩
  have ha':(s.ad.set (o.getD 1 0).toNat true).getD i false=true:=ha
  rw[iK]at ha'
  split at ha'
  ·next e=>
   unfold bn at hm
   simp only[Bool.and_eq_true]at hm
   rw[←e.1];exact hm.2
  ·exact hA i hi ha'
 rw[if_neg h3]at he ⊢
 by_cases h4:o.getD 0 0=4
 ·rw[if_pos h4]at he ⊢
  refine⟨(kH _ _).2 fun i hi ha=>?_,h.zl,by simp[h.al]⟩
  have ha':(s.ad.set (o.getD 1 0).toNat false).getD i false=true:=ha
  rw[iK]at ha'
  split at ha'
  ·cases ha'
  ·exact hA i hi ha'
 rw[if_neg h4]at he ⊢
 exact⟨h.adm,h.zl,h.al⟩
theorem Zp{e:Int}{zs:List Int}{ad:List Bool}{k:Int}{ng gn:List Bool}(h:dU e zs ad k=true)(h1:zs.length=31)(h2:ad.length=8):Inv ⟨zs,ad,k,ng,gn⟩:=by
 unfold dU at h
 simp only[Bool.and_eq_true]at h
 exact⟨h.1.1.2,h1,h2⟩
end
end Go.Proofs.YtjhgelfnmhdihaaGreatDoor
