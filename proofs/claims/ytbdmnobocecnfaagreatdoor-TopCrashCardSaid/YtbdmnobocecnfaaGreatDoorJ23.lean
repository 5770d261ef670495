/-
  Views: the document's operations are the program's, where admins are members.
-/
import Derived.Test.YtbdmnobocecnfaaGreatDoorJ22
namespace Go.Proofs.YtbdmnobocecnfaaGreatDoor
set_option linter.unusedVariables false
set_option linter.unusedSimpArgs false
set_option maxRecDepth 100000
open Go.RowKit
section
open Pm
theorem splice_get{zs xs:List Int}{a:Nat}(hx:xs.length=2)(ha:a+2≤zs.length)(m:Nat):(zs.take a++(xs++zs.drop (a+2))).getD m 0=if a≤m∧m<a+2 then xs.getD (m-a) 0 else zs.getD m 0:=by
 simp only[List.getD_eq_getElem?_getD]
 have hl:(zs.take a).length=a:=by rw[List.length_take];omega
 by_cases h1:m<a
 ·rw[List.getElem?_append_left (by omega),List.getElem?_take,if_pos h1,if_neg (by omega)]
 ·rw[List.getElem?_append_right (by omega),hl]
  by_cases h2:m<a+2
  ·rw[List.getElem?_append_left (by omega),if_pos ⟨by omega,h2⟩]
  ·rw[List.getElem?_append_right (by omega),List.getElem?_drop,if_neg (by omega),hx]
   congr 2
   omega
theorem leafP_two{zs:List Int}(hl:16≤zs.length){j:Nat}(hj:j<8):leafP zs j=[zs.getD (j*2) 0,zs.getD (j*2+1) 0]:=by
 rw[leafP_eq zs hj]
 refine List.ext_getElem (by simp;omega) fun i h1 h2=>?_
 have hi:i=0∨i=1:=by simp at h2;omega
 rcases hi with rfl|rfl
 ·simp[List.getD_eq_getElem?_getD,show j*2<zs.length by omega]
 ·simp[List.getD_eq_getElem?_getD,show j*2+1<zs.length by omega]
theorem putL_length{zs xs:List Int}{i:Int}(hz:zs.length=31)(hx:xs.length=2):(putL zs xs i).length=31:=by
 unfold putL
 split
 ·next h=>
  have:=leafB_t h
  simp[hx,hz]
  omega
 ·rfl
theorem leafP_put{zs xs:List Int}(hz:zs.length=31)(hx:xs.length=2){i j:Nat}(hi:i<8)(hj:j<8):leafP (putL zs xs (i:Nat)) j=if j=i then xs else leafP zs j:=by
 have hlb:leafB (i:Int)=true:=by simp[leafB];omega
 unfold putL
 rw[if_pos hlb,leafP_set _ hj (by omega),leafP_set _ hj (by omega),leafP_set _ hj (by omega),Int.toNat_natCast]
 have hl:16≤(zs.take (i*2)++(xs++zs.drop (i*2+2))).length:=by simp[hx,hz];omega
 rw[leafP_two hl hj,splice_get hx (by omega),splice_get hx (by omega),leafP_two (by omega) hj]
 by_cases e:j=i
 ·subst e
  rw[if_pos (by omega),if_pos (by omega),if_pos rfl]
  obtain⟨a,b,rfl⟩:=two hx
  simp
 ·rw[if_neg (by omega),if_neg (by omega),if_neg e]
theorem memL_put{zs xs:List Int}(hz:zs.length=31)(hx:xs.length=2){i j:Nat}(hi:i<8)(hj:j<8):memL (putL zs xs (i:Nat)) j=if j=i then decide (xs≠[0,0])else memL zs j:=by
 unfold memL
 rw[leafP_put hz hx hi hj]
 split<;>rfl
theorem admTo_iff(zs:List Int)(ad:List Bool):admTo zs ad 8=true↔∀i<8,ad.getD i false=true→memL zs i=true:=by
 unfold admTo
 rw[List.all_eq_true]
 constructor
 ·intro h i hi ha
  have:=h i (by simpa using hi)
  rw[ha]at this
  simpa using this
 ·intro h i hi
  have hi':i<8:=by simpa using hi
  cases ha:ad.getD i false with
  |false=>rfl
  |true=>rw[h i hi' ha];rfl
theorem getD_setB(l:List Bool)(i j:Nat)(x:Bool):(l.set i x).getD j false=if i=j∧i<l.length then x else l.getD j false:=getD_set_list l i x false j
structure Inv(s:Vw):Prop where
 adm:admTo s.zs s.ad 8=true
 zl:s.zs.length=31
 al:s.ad.length=8
theorem errAdd_0{zs:List Int}{a b:Int}(h:errAdd zs [a,b]=0):fullB zs=false∧isI a=true∧isI b=true:=by
 unfold errAdd at h
 simp only[List.getD_cons_zero,List.getD_cons_succ]at h
 split at h
 ·next h1=>
  split at h
  ·cases h
  ·split at h
   ·cases h
   ·next h3=>exact⟨by simpa using h3,by simpa using h1⟩
 ·cases h
theorem nextOp_inv{s:Vw}(h:Inv s)(fr:Int){o:List Int}(he:errOp s fr o=0):Inv (nextOp s o):=by
 have hA:=(admTo_iff _ _).1 h.adm
 unfold nextOp
 unfold errOp at he
 by_cases h1:o.getD 0 0=1
 ·rw[if_pos h1]at he ⊢
  obtain⟨hf,hi1,hi2⟩:=errAdd_0 he
  obtain⟨hf8,hfm⟩:=free_lt hf
  refine⟨(admTo_iff _ _).2 fun i hi ha=>?_,putL_length h.zl rfl,h.al⟩
  show memL (putL s.zs _ _) i=true
  rw[memL_put h.zl rfl hf8 hi]
  split
  ·exact decide_eq_true fun e=>isI_ne hi1 (List.cons.inj e).1
  ·exact hA i hi ha
 rw[if_neg h1]at he ⊢
 by_cases h2:o.getD 0 0=2
 ·rw[if_pos h2]at he ⊢
  unfold errRem at he
  have hm:memB s.zs (o.getD 1 0)=true:=by
   cases hq:memB s.zs (o.getD 1 0)with
   |true=>rfl
   |false=>rw[if_pos (.inr hq)]at he;cases he
  obtain⟨hb0,hb1⟩:=memB_bd hm
  obtain⟨n,hn⟩:=Int.eq_ofNat_of_zero_le hb0
  rw[hn]at hb1 ⊢
  refine⟨(admTo_iff _ _).2 fun i hi ha=>?_,putL_length h.zl rfl,by simp[h.al]⟩
  have ha':(s.ad.set n false).getD i false=true:=ha
  rw[getD_setB]at ha'
  show memL (putL s.zs _ _) i=true
  rw[memL_put h.zl rfl (by omega) hi]
  split
  ·next e=>rw[if_pos ⟨e.symm,by rw[h.al];omega⟩]at ha';cases ha'
  ·next e=>rw[if_neg (by rintro⟨e2,_⟩;exact e e2.symm)]at ha';exact hA i hi ha'
 rw[if_neg h2]at he ⊢
 by_cases h3:o.getD 0 0=3
 ·rw[if_pos h3]at he ⊢
  unfold errPro at he
  have hm:memB s.zs (o.getD 1 0)=true:=by
   cases hq:memB s.zs (o.getD 1 0)with
   |true=>rfl
   |false=>rw[if_pos (.inl hq)]at he;cases he
  refine⟨(admTo_iff _ _).2 fun i hi ha=>?_,h.zl,by simp[h.al]⟩
  have ha':(s.ad.set (o.getD 1 0).toNat true).getD i false=true:=ha
  rw[getD_setB]at ha'
  split at ha'
  ·next e=>
   unfold memB at hm
   simp only[Bool.and_eq_true]at hm
   rw[←e.1];exact hm.2
  ·exact hA i hi ha'
 rw[if_neg h3]at he ⊢
 by_cases h4:o.getD 0 0=4
 ·rw[if_pos h4]at he ⊢
  refine⟨(admTo_iff _ _).2 fun i hi ha=>?_,h.zl,by simp[h.al]⟩
  have ha':(s.ad.set (o.getD 1 0).toNat false).getD i false=true:=ha
  rw[getD_setB]at ha'
  split at ha'
  ·cases ha'
  ·exact hA i hi ha'
 rw[if_neg h4]at he ⊢
 exact⟨h.adm,h.zl,h.al⟩
end
end Go.Proofs.YtbdmnobocecnfaaGreatDoor
