/-
  Views: whether one may be.
-/
import Derived.Test.YtjdjelopkhjdnaaGreatDoorJ18
namespace Go.Proofs.YtjdjelopkhjdnaaGreatDoor
set_option linter.unusedVariables false
set_option linter.unusedSimpArgs false
set_option maxRecDepth 100000
open Go.RowKit
section
open Pm
attribute [local irreducible] aV aZ bQ
def ND:List A→(bP→Prop)→Prop
 |[.agg [.bools 8 ad]],K=>K (.d (.v (.int .i64 (jq ad:Nat))))
 |_,_=>False
set_option maxHeartbeats 4000000 in
theorem Xv(ad:List Bool):aQ 191 [.agg [.bools 8 ad]] (.d (.v (.int .i64 (jq ad:Nat)))):=by
 refine gY fun hl=>?_
 replace hl:ad.length=8:=hl.1.1
 refine dF (E:=uq) Tryz.func191 Tryz.ntmps191 ?_
 refine aX ?_;(try exact⟨⟩)
 refine aM.mk (gB [3,6,7] 1 (fun s=>∃k:Nat,k≤8∧s=⟨[.ah,.ah,.ah,.d (.v (.int .i64 (jq (ad.take k):Nat))),.ah,.ah,.d (.agg [.bools 8 ad]),.d (.v (.int .i64 (k:Nat))),.ah,.ah,.ah,.ah,.ah,.ah,.ah],[some (.var [.bools 8 ad])]⟩) (fun s=>8-lM s 7) rfl ⟨0,by omega,rfl⟩ ?_)
 rintro s ⟨k,hk,rfl⟩
 have hw:IntKind.i64.wrap ((k:Int)+1)=((k+1:Nat):Int):=by rw[dM (by omega) (by omega)];omega
 have hc:jq (ad.take k)≤8:=Nat.le_trans (Xi _) (by simp;omega)
 have hwc:IntKind.i64.wrap ((jq (ad.take k):Nat)+1)=((jq (ad.take k)+1:Nat):Int):=by rw[dM (by omega) (by omega)];omega
 by_cases M9:k<8
 ·have hs:=Kc ad k (by omega)
  cases hb:ad.getD k false with
  |true=>
   rw[hb,if_pos rfl]at hs
   refine aX ?_;(try exact⟨⟩)
   refine⟨⟨k+1,by omega,by rw[hs,←hwc,←hw];rfl⟩,?_⟩
   show 8- (IntKind.i64.wrap ((k:Int)+1)).toNat<8- (k:Int).toNat
   rw[hw];omega
  |false=>
   rw[hb,if_neg (by simp)]at hs
   refine aX ?_;(try exact⟨⟩)
   refine⟨⟨k+1,by omega,by rw[hs,←hw];rfl⟩,?_⟩
   show 8- (IntKind.i64.wrap ((k:Int)+1)).toNat<8- (k:Int).toNat
   rw[hw];omega
 ·obtain rfl:k=8:=by omega
  have e:ad.take 8=ad:=List.take_of_length_le (by omega)
  rw[e]
  refine aX ?_;(try exact⟨⟩)
theorem Tw:∀args K,ND args K→∃r,aQ 191 args r∧K r:=by
 intro args K h
 unfold ND at h
 split at h
 ·exact⟨_,Xv _,h⟩
 ·exact h.elim
abbrev bR(e:Int)(zs:List Int)(ad:List Bool)(k:Int)(ch:List UInt8):List Seg:=[.ints .i64 1 [e],.ints .i64 31 zs,.bools 8 ad,.ints .i64 1 [k],.bytes 32 ch]
def Hu:List A→(bP→Prop)→Prop
 |[.agg [.ints .i64 1 [e],.ints .i64 31 zs,.bools 8 ad,.ints .i64 1 [k],.bytes 32 ch]],K=>K (.d (.v (.int .i64 (jq ad:Nat))))
 |_,_=>False
set_option maxHeartbeats 4000000 in
theorem SG(e:Int)(zs:List Int)(ad:List Bool)(th:Int)(ch:List UInt8):aQ 101 [.agg (bR e zs ad th ch)] (.d (.v (.int .i64 (jq ad:Nat)))):=by
 refine gY fun hl=>?_
 replace hl:ad.length=8:=hl.1.2.2.1
 refine dF (E:=uq) Tryz.func101 Tryz.ntmps101 ?_
 refine aX ?_;(try exact⟨⟩)
 refine aM.mk (gB [1,3,4] 1 (fun s=>∃k:Nat,k≤8∧s=⟨[.ah,.ptr 0 0,.ah,.d (.v (.int .i64 (jq (ad.take k):Nat))),.d (.v (.int .i64 (k:Nat))),.ah,.ah,.ah,.ah,.ah,.ah,.ah,.ah,.ah,.ah,.ah],[some (.var (bR e zs ad th ch))]⟩) (fun s=>8-lM s 4) rfl ⟨0,by omega,rfl⟩ ?_)
 rintro s ⟨k,hk,rfl⟩
 have hw:IntKind.i64.wrap ((k:Int)+1)=((k+1:Nat):Int):=by rw[dM (by omega) (by omega)];omega
 have hc:jq (ad.take k)≤8:=Nat.le_trans (Xi _) (by simp;omega)
 have hwc:IntKind.i64.wrap ((jq (ad.take k):Nat)+1)=((jq (ad.take k)+1:Nat):Int):=by rw[dM (by omega) (by omega)];omega
 by_cases M9:k<8
 ·have hs:=Kc ad k (by omega)
  cases hb:ad.getD k false with
  |true=>
   rw[hb,if_pos rfl]at hs
   refine aX ?_;(try exact⟨⟩)
   refine⟨⟨k+1,by omega,by rw[hs,←hwc,←hw];rfl⟩,?_⟩
   show 8- (IntKind.i64.wrap ((k:Int)+1)).toNat<8- (k:Int).toNat
   rw[hw];omega
  |false=>
   rw[hb,if_neg (by simp)]at hs
   refine aX ?_;(try exact⟨⟩)
   refine⟨⟨k+1,by omega,by rw[hs,←hw];rfl⟩,?_⟩
   show 8- (IntKind.i64.wrap ((k:Int)+1)).toNat<8- (k:Int).toNat
   rw[hw];omega
 ·obtain rfl:k=8:=by omega
  have e:ad.take 8=ad:=List.take_of_length_le (by omega)
  rw[e]
  refine aX ?_;(try exact⟨⟩)
theorem Ni:∀args K,Hu args K→∃r,aQ 101 args r∧K r:=by
 intro args K h
 unfold Hu at h
 split at h
 ·exact⟨_,SG _ _ _ _ _,h⟩
 ·exact h.elim
def RS:List A→(bP→Prop)→Prop
 |[.agg [.ints .i64 1 [e],.ints .i64 31 zs,.bools 8 ad,.ints .i64 1 [k],.bytes 32 ch],.v (.int .i64 i)],K=>K (.d (.v (.bool (bn zs i))))
 |_,_=>False
set_option maxHeartbeats 4000000 in
theorem av6(e:Int)(zs:List Int)(ad:List Bool)(th:Int)(ch:List UInt8)(i:Int):aQ 63 [.agg (bR e zs ad th ch),.v (.int .i64 i)] (.d (.v (.bool (bn zs i)))):=by
 refine dF (E:=uq) Tryz.func63 Tryz.ntmps63 ?_
 by_cases h0:0≤i
 ·by_cases h1:i<8
  ·obtain⟨n,rfl⟩:=Int.eq_ofNat_of_zero_le h0
   have hn:n<8:=by omega
   have hm:bn zs (n:Int)=decide ((zs.drop (n*2)).take 2≠[0,0]):=by
    simp[bn,aG,h1,dK,o9 zs hn]
   rw[hm]
   clear hm
   refine aX ?_;(try exact⟨⟩)
   simp[bf]
  ·have hm:bn zs i=false:=by simp[bn,aG,h1]
   rw[hm]
   clear hm
   refine aX ?_;(try exact⟨⟩)
 ·have hm:bn zs i=false:=by simp[bn,aG,h0]
  rw[hm]
  clear hm
  refine aX ?_;(try exact⟨⟩)
theorem LV:∀args K,RS args K→∃r,aQ 63 args r∧K r:=by
 intro args K h
 unfold RS at h
 split at h
 ·exact⟨_,av6 _ _ _ _ _ _,h⟩
 ·exact h.elim
noncomputable def bh5:av:=aC6.add 189 Ov Ug ⟨_,Tryz.func189,by kernel_rfl,by kernel_rfl⟩
noncomputable def bh6:av:=bh5.add 191 ND Tw ⟨_,Tryz.func191,by kernel_rfl,by kernel_rfl⟩
noncomputable def bh7:av:=bh6.add 101 Hu Ni ⟨_,Tryz.func101,by kernel_rfl,by kernel_rfl⟩
noncomputable def bh8:av:=bh7.add 63 RS LV ⟨_,Tryz.func63,by kernel_rfl,by kernel_rfl⟩
noncomputable def bh9:av:=bh8.add 199 aq3 (Rj Uh) ⟨_,Tryz.func199,by kernel_rfl,by kernel_rfl⟩
noncomputable def bi0:av:=bh9.add 155 isS (Iw fun y=>ru fun w=>zT y w) ⟨_,Tryz.func155,by kernel_rfl,by kernel_rfl⟩
noncomputable def bi1:av:=bi0.add 213 UU (Ch aa2) ⟨_,Tryz.func213,by kernel_rfl,by kernel_rfl⟩
noncomputable def X5:av:=bi1.add 171 UU (Ch R7) ⟨_,Tryz.func171,by kernel_rfl,by kernel_rfl⟩
def kQ(zs:List Int)(ad:List Bool)(n:Nat):Bool:=(List.range n).all fun i=>!ad.getD i false||dK zs i
def dQ(e:Int)(zs:List Int)(ad:List Bool)(k:Int):Bool:=decide (0≤e)&&decide (e≤1099511627776)&&rQ zs&&kQ zs ad 8&&decide (1≤k)&&decide (k≤(jq ad:Nat))
theorem wR(zs:List Int)(ad:List Bool)(n:Nat):kQ zs ad (n+1)=(kQ zs ad n&&(!ad.getD n false||dK zs n)):=by
 unfold kQ
 rw[List.range_succ,List.all_append]
 simp
theorem wQ(zs:List Int)(ad:List Bool):∀(d n:Nat),kQ zs ad (n+d)=true→kQ zs ad n=true
 |0,n,h=>h
 |d+1,n,h=>by
  rw[←Nat.add_assoc,wR]at h
  simp only[Bool.and_eq_true]at h
  exact wQ zs ad d n h.1
set_option maxHeartbeats 8000000 in
theorem ag7(e:Int)(zs:List Int)(ad:List Bool)(th:Int)(ch:List UInt8):aQ 182 [.agg (bR e zs ad th ch)] (.d (.v (.bool (dQ e zs ad th)))):=by
 refine dF (E:=X5) Tryz.func182 Tryz.ntmps182 ?_
 by_cases h0:e<0
 ·have hr:dQ e zs ad th=false:=by simp[dQ];intro h;omega
  rw[hr]
  clear hr
  refine aX ?_;(try exact⟨⟩)
 by_cases h1:e>1099511627776
 ·have hr:dQ e zs ad th=false:=by simp[dQ];intros;omega
  rw[hr]
  clear hr
  refine aX ?_;(try exact⟨⟩)
 cases hT:rQ zs with
 |false=>
  have hr:dQ e zs ad th=false:=by simp[dQ,hT]
  rw[hr]
  clear hr
  refine aX ?_;(try exact⟨⟩)
 |true=>
  have hr:dQ e zs ad th=(kQ zs ad 8&&decide (1≤th)&&decide (th≤(jq ad:Nat))):=by
   have a0:decide (0≤e)=true:=decide_eq_true (by omega)
   have a1:decide (e≤1099511627776)=true:=decide_eq_true (by omega)
   simp only[dQ,hT,a0,a1,Bool.true_and]
  rw[hr]
  clear hr
  refine aX ?_;(try exact⟨⟩)
  refine aM.mk (gB [1,20,21] 1 (fun s=>∃k:Nat,k≤8∧kQ zs ad k=true∧s=⟨[.ah,.ptr 0 0,.ah,.ah,.ah,.ah,.ah,.ah,.ah,.ah,.ah,.ah,.ah,.ah,.ah,.ah,.ah,.ah,.ah,.ah,.d (.agg [.bools 8 ad]),.d (.v (.int .i64 (k:Nat))),.ah,.ah,.ah,.ah,.ah,.ah,.ah,.ah,.ah,.ah,.ah,.ah,.ah,.ah,.ah,.ah,.ah,.ah,.ah,.ah,.ah,.ah,.ah],[some (.var (bR e zs ad th ch))]⟩) (fun s=>8-lM s 21) rfl ⟨0,by omega,rfl,rfl⟩ ?_)
  rintro s ⟨k,hk,hA,rfl⟩
  have hw:IntKind.i64.wrap ((k:Int)+1)=((k+1:Nat):Int):=by rw[dM (by omega) (by omega)];omega
  by_cases M9:k<8
  ·have hs:=wR zs ad k
   have hm:bn zs (k:Int)=dK zs k:=by simp[bn,aG];omega
   rw[hA,Bool.true_and]at hs
   cases hb:ad.getD k false with
   |false=>
    rw[hb]at hs
    clear hm
    refine aX ?_;(try exact⟨⟩)
    refine⟨⟨k+1,by omega,hs,by rw[←hw];rfl⟩,?_⟩
    show 8- (IntKind.i64.wrap ((k:Int)+1)).toNat<8- (k:Int).toNat
    rw[hw];omega
   |true=>
    rw[hb]at hs
    cases hm2:dK zs k with
    |true=>
     rw[hm2]at hs hm
     clear hm2
     refine aX ?_;(try exact⟨⟩)
     refine⟨⟨k+1,by omega,hs,by rw[←hw];rfl⟩,?_⟩
     show 8- (IntKind.i64.wrap ((k:Int)+1)).toNat<8- (k:Int).toNat
     rw[hw];omega
    |false=>
     rw[hm2]at hs hm
     have hr:kQ zs ad 8=false:=by
      cases h:kQ zs ad 8 with
      |false=>rfl
      |true=>
       have:=wQ zs ad (8- (k+1)) (k+1) (by rw[show k+1+(8- (k+1))=8 by omega];exact h)
       rw[hs]at this;cases this
     rw[hr]
     clear hm2 hr hs
     refine aX ?_;(try exact⟨⟩)
     rfl
  ·obtain rfl:k=8:=by omega
   rw[hA]
   clear hA
   by_cases h2:th≥1
   ·have d1:decide (1≤th)=true:=decide_eq_true h2
    rw[d1]
    clear d1
    refine aX ?_;(try exact⟨⟩)
    simp
   ·have d1:decide (1≤th)=false:=decide_eq_false h2
    rw[d1]
    clear d1
    refine aX ?_;(try exact⟨⟩)
    simp
def Vy:List A→(bP→Prop)→Prop
 |[.agg [.ints .i64 1 [e],.ints .i64 31 zs,.bools 8 ad,.ints .i64 1 [k],.bytes 32 ch]],K=>K (.d (.v (.bool (dQ e zs ad k))))
 |_,_=>False
theorem Co{f:FuncId}(hx:∀e zs ad k ch,aQ f [.agg (bR e zs ad k ch)] (.d (.v (.bool (dQ e zs ad k))))):∀args K,Vy args K→∃r,aQ f args r∧K r:=by
 intro args K h
 unfold Vy at h
 split at h
 ·exact⟨_,hx _ _ _ _ _,h⟩
 ·exact h.elim
set_option maxHeartbeats 8000000 in
theorem R9(e:Int)(zs:List Int)(ad:List Bool)(th:Int)(ch:List UInt8):aQ 97 [.agg (bR e zs ad th ch)] (.d (.v (.bool (dQ e zs ad th)))):=by
 refine dF (E:=X5) Tryz.func97 Tryz.ntmps97 ?_
 refine aX ?_;(try exact⟨⟩)
 refine aM.mk (gB [1,3] 1 (fun s=>∃k:Nat,k≤8∧kQ zs ad k=true∧s=⟨[.ah,.ptr 0 0,.ah,.d (.v (.int .i64 (k:Nat))),.ah,.ah,.ah,.ah,.ah,.ah,.ah,.ah,.ah,.ah,.ah,.ah,.ah,.ah,.ah,.ah,.ah,.ah,.ah,.ah,.ah,.ah,.ah,.ah,.ah,.ah,.ah,.ah,.ah,.ah,.ah,.ah,.ah,.ah,.ah,.ah,.ah,.ah,.ah],[some (.var (bR e zs ad th ch))]⟩) (fun s=>8-lM s 3) rfl ⟨0,by omega,rfl,rfl⟩ ?_)
 rintro s ⟨k,hk,hA,rfl⟩
 have hw:IntKind.i64.wrap ((k:Int)+1)=((k+1:Nat):Int):=by rw[dM (by omega) (by omega)];omega
 by_cases M9:k<8
 ·have hs:=wR zs ad k
  have hm:bn zs (k:Int)=dK zs k:=by simp[bn,aG];omega
  rw[hA,Bool.true_and]at hs
  cases hb:ad.getD k false with
  |false=>
   rw[hb]at hs
   clear hm
   refine aX ?_;(try exact⟨⟩)
   refine⟨⟨k+1,by omega,hs,by rw[←hw];rfl⟩,?_⟩
   show 8- (IntKind.i64.wrap ((k:Int)+1)).toNat<8- (k:Int).toNat
   rw[hw];omega
  |true=>
   rw[hb]at hs
   cases hm2:dK zs k with
   |true=>
    rw[hm2]at hs hm
    clear hm2
    refine aX ?_;(try exact⟨⟩)
    refine⟨⟨k+1,by omega,hs,by rw[←hw];rfl⟩,?_⟩
    show 8- (IntKind.i64.wrap ((k:Int)+1)).toNat<8- (k:Int).toNat
    rw[hw];omega
   |false=>
    rw[hm2]at hs hm
    have hr:dQ e zs ad th=false:=by
     have:kQ zs ad 8=false:=by
      cases h:kQ zs ad 8 with
      |false=>rfl
      |true=>
       have:=wQ zs ad (8- (k+1)) (k+1) (by rw[show k+1+(8- (k+1))=8 by omega];exact h)
       rw[hs]at this;cases this
     simp[dQ,this]
    rw[hr]
    clear hm2 hr hs
    refine aX ?_;(try exact⟨⟩)
 ·obtain rfl:k=8:=by omega
  have hc:jq ad≤8∨True:=.inr trivial
  clear hc
  unfold dQ
  rw[hA]
  clear hA
  by_cases h0:e≥0
  ·rw[decide_eq_true (show 0≤e from h0)]
   by_cases h1:e≤1099511627776
   ·rw[decide_eq_true h1]
    cases hT:rQ zs with
    |false=>
     refine aX ?_;(try exact⟨⟩)
     rfl
    |true=>
     by_cases h2:th≥1
     ·rw[decide_eq_true (show 1≤th from h2)]
      refine aX ?_;(try exact⟨⟩)
      simp
     ·rw[decide_eq_false (show ¬1≤th from h2)]
      refine aX ?_;(try exact⟨⟩)
      rfl
   ·rw[decide_eq_false h1]
    refine aX ?_;(try exact⟨⟩)
    rfl
  ·rw[decide_eq_false (show ¬0≤e from h0)]
   refine aX ?_;(try exact⟨⟩)
   rfl
noncomputable def bi2:av:=X5.add 182 Vy (Co ag7) ⟨_,Tryz.func182,by kernel_rfl,by kernel_rfl⟩
noncomputable def bi3:av:=bi2.add 97 Vy (Co R9) ⟨_,Tryz.func97,by kernel_rfl,by kernel_rfl⟩
end
end Go.Proofs.YtjdjelopkhjdnaaGreatDoor
