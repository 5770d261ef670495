/- -/
import Derived.Test.YtegalalmamofdaaGreatDoorJ22
namespace Go.Proofs.YtegalalmamofdaaGreatDoor
set_option linter.all false
set_option maxRecDepth 100000
open Go.RowKit
variable{zs xs:List Int}
section
open Pm
theorem zO{a:Nat}(hx:xs.length=2)(ha:a+2<=zs.length)(m:Nat):(zs.take a++(xs++zs.drop (a+2))).getD m 0=if a<=m/\m<a+2 then xs.getD (m-a) 0 else zs.getD m 0:=by
 simp only[List.getD_eq_getElem?_getD]
 have hl:(zs.take a).length=a:=by rw[List.length_take];omega
 by_cases h1:m<a
 ·rw[List.getElem?_append_left (by omega),List.getElem?_take,if_pos h1,if_neg (by omega)]
 ·rw[List.getElem?_append_right (by omega),hl]
  by_cases h2:m<a+2
  ·rw[List.getElem?_append_left (by omega),if_pos ⟨by omega,h2⟩]
  ·rw[List.getElem?_append_right (by omega),List.getElem?_drop,if_neg (by omega),hx]
   congr 2
   omega
theorem jg(hl:16<=zs.length){j:Nat}(hj:j<8):bZ zs j=[zs.getD (j*2) 0,zs.getD (j*2+1) 0]:=by
 rw[OM zs hj]
 refine List.ext_getElem (by simp;omega) fun i h1 h2=>?_
 have hi:i=0\/i=1:=by simp at h2;omega
 rcases hi with rfl|rfl
 ·simp[List.getD_eq_getElem?_getD,show j*2<zs.length by omega]
 ·simp[List.getD_eq_getElem?_getD,show j*2+1<zs.length by omega]
theorem oP{i:Int}(hz:zs.length=31)(hx:xs.length=2):(fM zs xs i).length=31:=by
 unfold fM
 split
 ·next h=>
  have:=ig h
  simp[hx,hz]
  omega
 ·rfl
theorem qo(hz:zs.length=31)(hx:xs.length=2){i j:Nat}(hi:i<8)(hj:j<8):bZ (fM zs xs (i:Nat)) j=if j=i then xs else bZ zs j:=by
 have hlb:aL (i:Int)=true:=by simp[aL];omega
 unfold fM
 rw[if_pos hlb,Ck _ hj (by omega),Ck _ hj (by omega),Ck _ hj (by omega),Int.toNat_natCast]
 have hl:16<=(zs.take (i*2)++(xs++zs.drop (i*2+2))).length:=by simp[hx,hz];omega
 rw[jg hl hj,zO hx (by omega),zO hx (by omega),jg (by omega) hj]
 by_cases e:j=i
 ·subst e
  rw[if_pos (by omega),if_pos (by omega),if_pos rfl]
  obtain⟨a,b,rfl⟩:=two hx
  simp
 ·rw[if_neg (by omega),if_neg (by omega),if_neg e]
theorem qI(hz:zs.length=31)(hx:xs.length=2){i j:Nat}(hi:i<8)(hj:j<8):eH (fM zs xs (i:Nat)) j=if j=i then decide (xs≠[0,0])else eH zs j:=by
 unfold eH
 rw[qo hz hx hi hj]
 split<;>rfl
theorem nK(zs:List Int)(ad:List Bool):oq zs ad 8=true↔∀i<8,ad.getD i false=true->eH zs i=true:=by
 unfold oq
 rw[List.all_eq_true]
 constructor
 ·intro h i hi ha
  have:=h i (by simpa using hi)
  rw[ha]at this
  simpa using this
 ·intro h i hi
  have hi':i<8:=by simpa using hi
  cases ha:ad.getD i false with
  |false=>rfl
  |true=>rw[h i hi' ha];rfl
theorem kM(l:List Bool)(i j:Nat)(x:Bool):(l.set i x).getD j false=if i=j/\i<l.length then x else l.getD j false:=aB l i x false j
structure Inv(s:Vw):Prop where
 adm:oq s.zs s.ad 8=true
 zl:s.zs.length=31
 al:s.ad.length=8
theorem errAdd_0{a b:Int}(h:iB zs [a,b]=0):nE zs=false/\dL a=true/\dL b=true:=by
 unfold iB at h
 simp only[List.getD_cons_zero,List.getD_cons_succ]at h
 split at h
 ·next h1=>
  split at h
  ·cases h
  ·split at h
   ·cases h
   ·next h3=>exact⟨by simpa using h3,by simpa using h1⟩
 ·cases h
theorem SS{s:Vw}(h:Inv s)(fr:Int){o:List Int}(he:je s fr o=0):Inv (iQ s o):=by
 have hA:=(nK _ _).1 h.adm
 unfold iQ
 unfold je at he
 by_cases h1:o.getD 0 0=1
 ·rw[if_pos h1]at he ⊢
  obtain⟨hf,hi1,hi2⟩:=errAdd_0 he
  obtain⟨Sm,hfm⟩:=Av hf
  refine⟨(nK _ _).2 fun i hi ha=>?_,oP h.zl rfl,h.al⟩
  show eH (fM s.zs _ _) i=true
  rw[qI h.zl rfl Sm hi]
  split
  ·exact decide_eq_true fun e=>Cg hi1 (List.cons.inj e).1
  ·exact hA i hi ha
 rw[if_neg h1]at he ⊢
 by_cases h2:o.getD 0 0=2
 ·rw[if_pos h2]at he ⊢
  unfold j5 at he
  have hm:dS s.zs (o.getD 1 0)=true:=by
   cases hq:dS s.zs (o.getD 1 0)with
   |true=>rfl
   |false=>rw[if_pos (.inr hq)]at he;cases he
  obtain⟨hb0,hb1⟩:=kP hm
  obtain⟨n,hn⟩:=Int.eq_ofNat_of_zero_le hb0
  rw[hn]at hb1 ⊢
  refine⟨(nK _ _).2 fun i hi ha=>?_,oP h.zl rfl,by simp[h.al]⟩
  have ha':(s.ad.set n false).getD i false=true:=ha
  rw[kM]at ha'
  show eH (fM s.zs _ _) i=true
  rw[qI h.zl rfl (by omega) hi]
  split
  ·next e=>rw[if_pos ⟨e.symm,by rw[h.al];omega⟩]at ha';cases ha'
  ·next e=>rw[if_neg (by rintro⟨e2,_⟩;exact e e2.symm)]at ha';exact hA i hi ha'
 rw[if_neg h2]at he ⊢
 by_cases h3:o.getD 0 0=3
 ·rw[if_pos h3]at he ⊢
  unfold lU at he
  have hm:dS s.zs (o.getD 1 0)=true:=by
   cases hq:dS s.zs (o.getD 1 0)with
   |true=>rfl
   |false=>rw[if_pos (.inl hq)]at he;cases he
  refine⟨(nK _ _).2 fun i hi ha=>?_,h.zl,by simp[h.al]⟩
  have ha':(s.ad.set (o.getD 1 0).toNat true).getD i false=true:=ha
  rw[kM]at ha'
  split at ha'
  ·next e=>
   unfold dS at hm
   simp only[Bool.and_eq_true]at hm
   rw[<-e.1];exact hm.2
  ·exact hA i hi ha'
 rw[if_neg h3]at he ⊢
 by_cases h4:o.getD 0 0=4
 ·rw[if_pos h4]at he ⊢
  refine⟨(nK _ _).2 fun i hi ha=>?_,h.zl,by simp[h.al]⟩
  have ha':(s.ad.set (o.getD 1 0).toNat false).getD i false=true:=ha
  rw[kM]at ha'
  split at ha'
  ·cases ha'
  ·exact hA i hi ha'
 rw[if_neg h4]at he ⊢
 exact⟨h.adm,h.zl,h.al⟩
end
end Go.Proofs.YtegalalmamofdaaGreatDoor
