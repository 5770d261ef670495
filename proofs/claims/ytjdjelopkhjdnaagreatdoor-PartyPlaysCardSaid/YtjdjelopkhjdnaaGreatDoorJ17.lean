/-
  Trees: each member below a node is under just one node of those by which it is reached.
-/
import Derived.Test.YtjdjelopkhjdnaaGreatDoorJ16
import Derived.Test.YtjdjelopkhjdnaaGreatDoorJ13
namespace Go.Proofs.YtjdjelopkhjdnaaGreatDoor
set_option linter.unusedVariables false
set_option linter.unusedSimpArgs false
set_option maxRecDepth 100000
open Go.RowKit
section
attribute [local irreducible] aV aZ bQ
def cu(l:List Int)(i:Nat):Nat:=l.countP fun m=>aI m (i:Int)
theorem Vt{n:Int}(hn:jX n=true){i:Nat}(hi:i<8):(if aI (n-gK n) (i:Int)=true then 1 else 0)+(if aI (n+gK n) (i:Int)=true then 1 else 0)=(if aI n (i:Int)=true then 1 else 0):=by
 have:i=0∨i=1∨i=2∨i=3∨i=4∨i=5∨i=6∨i=7:=by omega
 rcases seven hn with rfl|rfl|rfl|rfl|rfl|rfl|rfl<;>rcases this with rfl|rfl|rfl|rfl|rfl|rfl|rfl|rfl<;>decide
theorem EM{n:Int}(hn:jX n=false){i:Nat}(hi:i<8):aI n (i:Int)=decide (n=2*(i:Int)):=by
 have hl:aG (i:Int)=true:=by simp[aG];omega
 simp only[aI,hl,Bool.true_and]
 by_cases h0:0≤n
 ·by_cases h1:n<15
  ·simp[jX,h0,h1]at hn
   have a1:¬n=(i:Int) / 2*4+1:=by omega
   have a2:¬n=(i:Int) / 4*8+3:=by omega
   have a3:¬n=7:=by omega
   simp[a1,a2,a3]
  ·have a1:¬n=(i:Int) / 2*4+1:=by omega
   have a2:¬n=(i:Int) / 4*8+3:=by omega
   have a3:¬n=7:=by omega
   simp[a1,a2,a3]
 ·have a1:¬n=(i:Int) / 2*4+1:=by omega
  have a2:¬n=(i:Int) / 4*8+3:=by omega
  have a3:¬n=7:=by omega
  simp[a1,a2,a3]
theorem FJ(zs:List Int){i:Nat}(hi:i<8):∀(d:Nat) (n:Int),okD d n=true→cu (dI d zs n) i≤(if aI n (i:Int)=true then 1 else 0)∧(aI n (i:Int)=true→bB zs (2*(i:Int))≠0→cu (dI d zs n) i=1):=by
 have one:∀n:Int,cu [n] i=if aI n (i:Int)=true then 1 else 0:=fun n=>by simp[cu,List.countP_singleton]
 have leaf:∀(n:Int) (l:List Int),jX n=false→l=(if bB zs n=0 then[]else[n])→cu l i≤(if aI n (i:Int)=true then 1 else 0)∧(aI n (i:Int)=true→bB zs (2*(i:Int))≠0→cu l i=1):=by
  rintro n l hn rfl
  by_cases hk:bB zs n=0
  ·rw[if_pos hk]
   refine⟨by simp[cu],fun hu hk2=>?_⟩
   rw[EM hn hi]at hu
   simp at hu
   rw[←hu]at hk2
   exact absurd hk hk2
  ·rw[if_neg hk,one]
   exact⟨Nat.le_refl _,fun hu _=>by simp[hu]⟩
 intro d
 induction d with
 |zero=>
  intro n hn
  exact leaf n _ (by simpa[okD]using hn) (by simp[dI])
 |succ d ih=>
  intro n hok
  cases hn:jX n with
  |false=>exact leaf n _ hn (by simp[dI,hn])
  |true=>
   obtain⟨o1,o2⟩:=xG hn hok
   have hu:=Vt hn hi
   by_cases hk:bB zs n=0
   ·have e:dI (d+1) zs n=dI d zs (n-gK n)++dI d zs (n+gK n):=by simp[dI,hk,hn]
    have e2:cu (dI (d+1) zs n) i=cu (dI d zs (n-gK n)) i+cu (dI d zs (n+gK n)) i:=by rw[e];simp[cu]
    obtain⟨a1,a2⟩:=ih _ o1
    obtain⟨b1,b2⟩:=ih _ o2
    rw[e2]
    refine⟨by omega,fun h1 h2=>?_⟩
    rw[if_pos h1]at hu
    cases hq:aI (n-gK n) (i:Int)with
    |true=>
     rw[hq]at hu a1
     have:=a2 hq h2
     simp at hu a1
     rw[if_neg (by simp[hu])]at b1
     omega
    |false=>
     rw[hq]at hu a1
     simp at hu a1
     have:=b2 hu h2
     rw[hu]at b1
     simp at b1
     omega
   ·have e:dI (d+1) zs n=[n]:=by simp[dI,hk]
    rw[e,one]
    exact⟨Nat.le_refl _,fun h1 _=>by simp[h1]⟩
end
section
attribute [local irreducible] aV aZ bQ
def d9(zs xs:List Int)(i:Int):List Int:=
 if aG i=true then(((zs.take (i.toNat*2)++(xs++zs.drop (i.toNat*2+2))).set (16+(i / 2*4+1).toNat) 0).set (16+(i / 4*8+3).toNat) 0).set (16+7) 0 else List.replicate 31 0
def UU:List A→(bP→Prop)→Prop
 |[.agg [.ints .i64 31 zs],.v (.int .i64 i),.agg [.ints .i64 2 xs]],K=>K (.d (.agg [.ints .i64 31 (d9 zs xs i)]))
 |_,_=>False
theorem Ch{f:FuncId}(hx:∀zs i xs,aQ f [.agg [.ints .i64 31 zs],.v (.int .i64 i),.agg [.ints .i64 2 xs]] (.d (.agg [.ints .i64 31 (d9 zs xs i)]))):∀args K,UU args K→∃r,aQ f args r∧K r:=by
 intro args K h
 unfold UU at h
 split at h
 ·exact⟨_,hx _ _ _,h⟩
 ·exact h.elim
set_option maxHeartbeats 4000000 in
theorem aa2(zs:List Int)(i:Int)(xs:List Int):aQ 213 [.agg [.ints .i64 31 zs],.v (.int .i64 i),.agg [.ints .i64 2 xs]] (.d (.agg [.ints .i64 31 (d9 zs xs i)])):=by
 refine dF (E:=an5) Tryz.func213 Tryz.ntmps213 ?_
 cases h:aG i with
 |false=>
  refine ago ?_;(try exact⟨⟩)
  simp[d9,h]
 |true=>
  have h':=cZ h
  refine ago ?_;(try exact⟨⟩)
  refine aM.mk (aB 4 ?_)
  refine ago ?_;(try exact⟨⟩)
  simp[d9,h]
set_option maxHeartbeats 4000000 in
theorem R7(zs:List Int)(i:Int)(xs:List Int):aQ 171 [.agg [.ints .i64 31 zs],.v (.int .i64 i),.agg [.ints .i64 2 xs]] (.d (.agg [.ints .i64 31 (d9 zs xs i)])):=by
 refine dF (E:=an5) Tryz.func171 Tryz.ntmps171 ?_
 cases h:aG i with
 |false=>
  refine ago ?_;(try exact⟨⟩)
  simp[d9,h]
 |true=>
  have h':=cZ h
  refine ago ?_;(try exact⟨⟩)
  simp[d9,h]
noncomputable def aW5:av:=an5.add 213 UU (Ch aa2) ⟨_,Tryz.func213,by kernel_rfl,by kernel_rfl⟩
noncomputable def bv2:av:=aW5.add 171 UU (Ch R7) ⟨_,Tryz.func171,by kernel_rfl,by kernel_rfl⟩
end
section
open Pm
attribute [local irreducible] aV aZ bQ
def isS:List A→(bP→Prop)→Prop
 |[.v (.int .i64 y)],K=>K (.d (.v (.bool (cK y))))
 |_,_=>False
theorem Iw{f:FuncId}(hx:∀y,aQ f [.v (.int .i64 y)] (.d (.v (.bool (cK y))))):∀args K,isS args K→∃r,aQ f args r∧K r:=by
 intro args K h
 unfold isS at h
 split at h
 ·exact⟨_,hx _,h⟩
 ·exact h.elim
def IX:List A→(bP→Prop)→Prop
 |[.v (.int .i64 y)],K=>K (.d (.v (.bool (y.tmod 2==0))))
 |_,_=>False
theorem Us(y:Int):aQ 160 [.v (.int .i64 y)] (.d (.v (.bool (y.tmod 2==0)))):=by
 refine dF (E:=uq) Tryz.func160 Tryz.ntmps160 ?_
 refine ago ?_;(try exact⟨⟩)
theorem OI{f:FuncId}(hx:∀y,aQ f [.v (.int .i64 y)] (.d (.v (.bool (y.tmod 2==0))))):∀args K,IX args K→∃r,aQ f args r∧K r:=by
 intro args K h
 unfold IX at h
 split at h
 ·exact⟨_,hx _,h⟩
 ·exact h.elim
noncomputable def aW6:av:=bv2.add 155 isS (Iw fun y=>ru fun w=>zT y w) ⟨_,Tryz.func155,by kernel_rfl,by kernel_rfl⟩
noncomputable def aW7:av:=aW6.add 106 isS (Iw fun y=>ru fun w=>vT y w) ⟨_,Tryz.func106,by kernel_rfl,by kernel_rfl⟩
noncomputable def bv3:av:=aW7.add 160 IX (OI Us) ⟨_,Tryz.func160,by kernel_rfl,by kernel_rfl⟩
def bq(zs:List Int)(k:Nat):List Int:=((zs.take 16).drop (k*2)).take 2
def eG(zs:List Int)(k:Nat):Bool:=decide (bq zs k=[0,0])||(cK ((bq zs k).getD 0 0)&&cK ((bq zs k).getD 1 0))
def y7(zs:List Int)(k:Nat):Int:=((zs.drop 16).take 15).getD k 0
def gI(zs:List Int)(k:Nat):Bool:=decide (y7 zs k=0)||(!((k:Int).tmod 2==0)&&cK (y7 zs k))
def rQ(zs:List Int):Bool:=(List.range 8).all (eG zs)&&(List.range 15).all (gI zs)
theorem yP{zs:List Int}{k:Nat}(hk:k<8)(h:eG zs k=false):rQ zs=false:=by
 have:(List.range 8).all (eG zs)=false:=List.all_eq_false.2 ⟨k,by simpa using hk,by simp[h]⟩
 simp[rQ,this]
theorem yQ{zs:List Int}{k:Nat}(hk:k<15)(h:gI zs k=false):rQ zs=false:=by
 have:(List.range 15).all (gI zs)=false:=List.all_eq_false.2 ⟨k,by simpa using hk,by simp[h]⟩
 simp[rQ,this]
theorem Rk{zs:List Int}(h1:∀k<8,eG zs k=true)(h2:∀k<15,gI zs k=true):rQ zs=true:=by
 have e1:(List.range 8).all (eG zs)=true:=List.all_eq_true.2 fun k hk=>h1 k (by simpa using hk)
 have e2:(List.range 15).all (gI zs)=true:=List.all_eq_true.2 fun k hk=>h2 k (by simpa using hk)
 simp only[rQ,e1,e2];rfl
set_option maxHeartbeats 16000000 in
theorem Uh(zs:List Int):aQ 199 [.agg [.ints .i64 31 zs]] (.d (.v (.bool (rQ zs)))):=by
 refine dF (E:=bv3) Tryz.func199 Tryz.ntmps199 ?_
 refine aX ?_;(try exact⟨⟩)
 refine aM.mk (gB [1,8,9] 1 (fun s=>∃k:Nat,k≤8∧(∀j<k,eG zs j=true)∧s=⟨[.ah,.ptr 0 0,.ah,.ah,.ah,.ah,.ah,.ah,.d (.agg [.ints .i64 16 (zs.take 16)]),.d (.v (.int .i64 (k:Nat))),.ah,.ah,.ah,.ah,.ah,.ah,.ah,.ah,.ah,.ah,.ah,.ah,.ah,.ah,.ah,.ah,.ah,.ah,.ah,.ah,.ah,.ah,.ah,.ah,.ah,.ah,.ah,.ah,.ah,.ah,.ah,.ah,.ah,.ah,.ah],[some (.var [.ints .i64 31 zs])]⟩) (fun s=>8-lM s 9) rfl ⟨0,by omega,fun j hj=>by omega,rfl⟩ ?_)
 rintro s ⟨k,hk,hall,rfl⟩
 have hw:IntKind.i64.wrap ((k:Int)+1)=((k+1:Nat):Int):=by rw[dM (by omega) (by omega)];omega
 by_cases M9:k<8
 ·have next:eG zs k=true→∀j<k+1,eG zs j=true:=fun h j hj=>by
   by_cases e:j=k
   ·rw[e];exact h
   ·exact hall j (by omega)
  by_cases hz:((zs.take 16).drop (k*2)).take 2=[0,0]
  ·have L:eG zs k=true:=by simp[eG,bq,hz]
   refine aX ?_;(try exact⟨⟩)
   refine⟨⟨k+1,by omega,next L,by rw[←hw];rfl⟩,?_⟩
   show 8- (IntKind.i64.wrap ((k:Int)+1)).toNat<8- (k:Int).toNat
   rw[hw];omega
  ·cases ha:cK ((((zs.take 16).drop (k*2)).take 2).getD 0 0)with
   |false=>
    have L:rQ zs=false:=yP M9 (by unfold eG bq;rw[decide_eq_false hz,ha];rfl)
    refine aX ?_;(try exact⟨⟩)
    rw[L]
   |true=>
    cases hb:cK ((((zs.take 16).drop (k*2)).take 2).getD 1 0)with
    |false=>
     have L:rQ zs=false:=yP M9 (by unfold eG bq;rw[decide_eq_false hz,ha,hb];rfl)
     refine aX ?_;(try exact⟨⟩)
     rw[L]
    |true=>
     have L:eG zs k=true:=by unfold eG bq;rw[ha,hb];simp
     refine aX ?_;(try exact⟨⟩)
     refine⟨⟨k+1,by omega,next L,by rw[←hw];rfl⟩,?_⟩
     show 8- (IntKind.i64.wrap ((k:Int)+1)).toNat<8- (k:Int).toNat
     rw[hw];omega
 ·obtain rfl:k=8:=by omega
  refine aX ?_;(try exact⟨⟩)
  refine aM.mk (gB [28,29] 1 (fun s=>∃k:Nat,k≤15∧(∀j<k,gI zs j=true)∧s=⟨[.ah,.ah,.ah,.ah,.ah,.ah,.ah,.ah,.ah,.ah,.ah,.ah,.ah,.ah,.ah,.ah,.ah,.ah,.ah,.ah,.ah,.ah,.ah,.ah,.ah,.ah,.ah,.ah,.d (.agg [.ints .i64 15 ((zs.drop 16).take 15)]),.d (.v (.int .i64 (k:Nat))),.ah,.ah,.ah,.ah,.ah,.ah,.ah,.ah,.ah,.ah,.ah,.ah,.ah,.ah,.ah],[some (.var [.ints .i64 31 zs])]⟩) (fun s=>15-lM s 29) rfl ⟨0,by omega,fun j hj=>by omega,rfl⟩ ?_)
  clear M9 hw hk
  rintro s ⟨k,hk,F4,rfl⟩
  have hw:IntKind.i64.wrap ((k:Int)+1)=((k+1:Nat):Int):=by rw[dM (by omega) (by omega)];omega
  by_cases Ub:k<15
  ·have next:gI zs k=true→∀j<k+1,gI zs j=true:=fun h j hj=>by
    by_cases e:j=k
    ·rw[e];exact h
    ·exact F4 j (by omega)
   by_cases hz:((zs.drop 16).take 15).getD k 0=0
   ·have L:gI zs k=true:=by unfold gI y7;rw[hz];rfl
    have hz2:(((zs.drop 16).take 15).getD k 0 !=0)=false:=by rw[hz];rfl
    refine aX ?_;(try exact⟨⟩)
    refine⟨⟨k+1,by omega,next L,by rw[←hw];rfl⟩,?_⟩
    show 15- (IntKind.i64.wrap ((k:Int)+1)).toNat<15- (k:Int).toNat
    rw[hw];omega
   ·have hz':decide (((zs.drop 16).take 15).getD k 0=0)=false:=decide_eq_false hz
    have hz2:(((zs.drop 16).take 15).getD k 0 !=0)=true:=by rw[bne];rw[beq_eq_false_iff_ne.2 hz];rfl
    cases ha:((k:Int).tmod 2==0)with
    |true=>
     have L:rQ zs=false:=yQ Ub (by unfold gI y7;rw[hz',ha];rfl)
     refine aX ?_;(try exact⟨⟩)
     rw[L]
    |false=>
     cases hb:cK (((zs.drop 16).take 15).getD k 0)with
     |false=>
      have L:rQ zs=false:=yQ Ub (by unfold gI y7;rw[hz',hb];simp)
      refine aX ?_;(try exact⟨⟩)
      rw[L]
     |true=>
      have L:gI zs k=true:=by unfold gI y7;rw[hz',ha,hb];rfl
      refine aX ?_;(try exact⟨⟩)
      refine⟨⟨k+1,by omega,next L,by rw[←hw];rfl⟩,?_⟩
      show 15- (IntKind.i64.wrap ((k:Int)+1)).toNat<15- (k:Int).toNat
      rw[hw];omega
  ·obtain rfl:k=15:=by omega
   have L:rQ zs=true:=Rk hall F4
   refine aX ?_;(try exact⟨⟩)
   rw[L]
end
section
open Pm
attribute [local irreducible] aV aZ bQ
noncomputable def XF:av:=aV8.add 106 isS (Iw fun y=>ru fun w=>vT y w) ⟨_,Tryz.func106,by kernel_rfl,by kernel_rfl⟩
theorem o9(zs:List Int){k:Nat}(hk:k<8):bq zs k=(zs.drop (k*2)).take 2:=by
 unfold bq
 rw[List.drop_take,List.take_take]
 congr 1;omega
theorem La(zs:List Int){k:Nat}(hk:k<15):y7 zs k=zs.getD (16+k) 0:=by
 unfold y7
 simp[List.getD_eq_getElem?_getD,List.getElem?_take,hk]
set_option maxHeartbeats 16000000 in
theorem Ph(zs:List Int):aQ 170 [.agg [.ints .i64 31 zs]] (.d (.v (.bool (rQ zs)))):=by
 refine dF (E:=XF) Tryz.func170 Tryz.ntmps170 ?_
 refine aX ?_;(try exact⟨⟩)
 refine aM.mk (gB [1,3] 1 (fun s=>∃k:Nat,k≤8∧(∀j<k,eG zs j=true)∧s=⟨[.ah,.ptr 0 0,.ah,.d (.v (.int .i64 (k:Nat))),.ah,.ah,.ah,.ah,.ah,.ah,.ah,.ah,.ah,.ah,.ah,.ah,.ah,.ah,.ah,.ah,.ah,.ah,.ah,.ah,.ah,.ah,.ah,.ah,.ah,.ah,.ah,.ah,.ah,.ah,.ah,.ah,.ah,.ah,.ah,.ah,.ah,.ah,.ah,.ah,.ah,.ah,.ah,.ah,.ah,.ah,.ah],[some (.var [.ints .i64 31 zs])]⟩) (fun s=>8-lM s 3) rfl ⟨0,by omega,fun j hj=>by omega,rfl⟩ ?_)
 rintro s ⟨k,hk,hall,rfl⟩
 have hw:IntKind.i64.wrap ((k:Int)+1)=((k+1:Nat):Int):=by rw[dM (by omega) (by omega)];omega
 have goes:∀x:Int,x=IntKind.i64.wrap ((k:Int)+1)→8-x.toNat<8- (k:Int).toNat∨8≤k:=fun x hx=>by rw[hx,hw];omega
 by_cases M9:k<8
 ·have next:eG zs k=true→∀j<k+1,eG zs j=true:=fun h j hj=>by
   by_cases e:j=k
   ·rw[e];exact h
   ·exact hall j (by omega)
  by_cases hz:(zs.drop (k*2)).take 2=[0,0]
  ·have L:eG zs k=true:=by simp[eG,o9 zs M9,hz]
   refine aX ?_;(try exact⟨⟩)
   exact⟨⟨k+1,by omega,next L,by rw[←hw];rfl⟩,(goes _ rfl).resolve_right (by omega)⟩
  ·cases ha:cK (((zs.drop (k*2)).take 2).getD 0 0)with
   |false=>
    have L:rQ zs=false:=yP M9 (by unfold eG;rw[o9 zs M9,decide_eq_false hz,ha];rfl)
    refine aX ?_;(try exact⟨⟩)
    rw[L]
   |true=>
    cases hb:cK (((zs.drop (k*2)).take 2).getD 1 0)with
    |false=>
     have L:rQ zs=false:=yP M9 (by unfold eG;rw[o9 zs M9,decide_eq_false hz,ha,hb];rfl)
     refine aX ?_;(try exact⟨⟩)
     rw[L]
    |true=>
     have L:eG zs k=true:=by unfold eG;rw[o9 zs M9,ha,hb];simp
     refine aX ?_;(try exact⟨⟩)
     exact⟨⟨k+1,by omega,next L,by rw[←hw];rfl⟩,(goes _ rfl).resolve_right (by omega)⟩
 ·obtain rfl:k=8:=by omega
  refine aX ?_;(try exact⟨⟩)
  refine aM.mk (gB [1,5] 1 (fun s=>∃k:Nat,k≤15∧(∀j<k,gI zs j=true)∧s=⟨[.ah,.ptr 0 0,.ah,.ah,.ah,.d (.v (.int .i64 (k:Nat))),.ah,.ah,.ah,.ah,.ah,.ah,.ah,.ah,.ah,.ah,.ah,.ah,.ah,.ah,.ah,.ah,.ah,.ah,.ah,.ah,.ah,.ah,.ah,.ah,.ah,.ah,.ah,.ah,.ah,.ah,.ah,.ah,.ah,.ah,.ah,.ah,.ah,.ah,.ah,.ah,.ah,.ah,.ah,.ah,.ah],[some (.var [.ints .i64 31 zs])]⟩) (fun s=>15-lM s 5) rfl ⟨0,by omega,fun j hj=>by omega,rfl⟩ ?_)
  clear M9 hw hk goes
  rintro s ⟨k,hk,F4,rfl⟩
  have hw:IntKind.i64.wrap ((k:Int)+1)=((k+1:Nat):Int):=by rw[dM (by omega) (by omega)];omega
  have goes:∀x:Int,x=IntKind.i64.wrap ((k:Int)+1)→15-x.toNat<15- (k:Int).toNat∨15≤k:=fun x hx=>by rw[hx,hw];omega
  by_cases Ub:k<15
  ·have next:gI zs k=true→∀j<k+1,gI zs j=true:=fun h j hj=>by
    by_cases e:j=k
    ·rw[e];exact h
    ·exact F4 j (by omega)
   have V:=La zs Ub
   have hand:(bits .and .i64 (k:Int) 1==0)=((k:Int).tmod 2==0):=by
    have:k=0∨k=1∨k=2∨k=3∨k=4∨k=5∨k=6∨k=7∨k=8∨k=9∨k=10∨k=11∨k=12∨k=13∨k=14:=by omega
    clear F4 next goes hw V
    rcases this with rfl|rfl|rfl|rfl|rfl|rfl|rfl|rfl|rfl|rfl|rfl|rfl|rfl|rfl|rfl<;>rfl
   by_cases hz:zs.getD (16+k) 0=0
   ·have L:gI zs k=true:=by unfold gI;rw[V,hz];rfl
    have hz2:(zs.getD (16+k) 0 !=0)=false:=by rw[hz];rfl
    clear hand V
    refine aX ?_;(try exact⟨⟩)
    exact⟨⟨k+1,by omega,next L,by rw[←hw];rfl⟩,(goes _ rfl).resolve_right (by omega)⟩
   ·have hz':decide (zs.getD (16+k) 0=0)=false:=decide_eq_false hz
    have hz2:(zs.getD (16+k) 0 !=0)=true:=by rw[bne];rw[beq_eq_false_iff_ne.2 hz];rfl
    cases ha:(bits .and .i64 (k:Int) 1==0)with
    |true=>
     have L:rQ zs=false:=yQ Ub (by unfold gI;rw[V,hz',←hand,ha];rfl)
     clear hand V
     refine aX ?_;(try exact⟨⟩)
     rw[L]
    |false=>
     cases hb:cK (zs.getD (16+k) 0)with
     |false=>
      have L:rQ zs=false:=yQ Ub (by unfold gI;rw[V,hz',hb];simp)
      clear hand V
      refine aX ?_;(try exact⟨⟩)
      rw[L]
     |true=>
      have L:gI zs k=true:=by unfold gI;rw[V,hz',←hand,ha,hb];rfl
      clear hand V
      refine aX ?_;(try exact⟨⟩)
      exact⟨⟨k+1,by omega,next L,by rw[←hw];rfl⟩,(goes _ rfl).resolve_right (by omega)⟩
  ·obtain rfl:k=15:=by omega
   have L:rQ zs=true:=Rk hall F4
   refine aX ?_;(try exact⟨⟩)
   rw[L]
end
section
open Pm
attribute [local irreducible] aV aZ bQ
def aq3:List A→(bP→Prop)→Prop
 |[.agg [.ints .i64 31 zs]],K=>K (.d (.v (.bool (rQ zs))))
 |_,_=>False
theorem Rj{f:FuncId}(hx:∀zs,aQ f [.agg [.ints .i64 31 zs]] (.d (.v (.bool (rQ zs))))):∀args K,aq3 args K→∃r,aQ f args r∧K r:=by
 intro args K h
 unfold aq3 at h
 split at h
 ·exact⟨_,hx _,h⟩
 ·exact h.elim
theorem i4:cK 4=true:=by
 have h:=yN 1 (by decide) (by decide)
 have e:((pw 4 1:Nat):Int)=4:=by rw[mY];rfl
 rw[e]at h;exact h
theorem i0:cK 0=false:=by simp[cK]
end
section
open Pm
attribute [local irreducible] aV aZ bQ
noncomputable def aA6:av:=XF.add 170 aq3 (Rj Ph) ⟨_,Tryz.func170,by kernel_rfl,by kernel_rfl⟩
theorem zW(zs:List Int){i m:Nat}{x:Int}(hi:i<8)(hm:16≤m):bq (zs.set m x) i=bq zs i:=by
 unfold bq
 rw[List.take_set_of_le hm]
theorem zV(zs:List Int){i:Nat}(hi:i<8):bB zs (2*(i:Int))=zs.getD (i*2+1) 0:=by
 have a1:(0:Int)≤2*(i:Int)∧2*(i:Int)<15:=by omega
 have a2:2*(i:Int)%2=0:=by omega
 have a3:(2*(i:Int)).toNat+1=i*2+1:=by omega
 simp only[bB,a1,a2,a3,and_self,if_true]
end
end Go.Proofs.YtjdjelopkhjdnaaGreatDoor
