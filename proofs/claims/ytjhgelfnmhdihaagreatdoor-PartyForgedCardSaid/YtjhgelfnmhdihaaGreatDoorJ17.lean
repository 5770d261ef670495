/-
  Trees: each member below a node is under just one node of those by which it is reached.
-/
import Derived.Test.YtjhgelfnmhdihaaGreatDoorJ16
import Derived.Test.YtjhgelfnmhdihaaGreatDoorJ13
namespace Go.Proofs.YtjhgelfnmhdihaaGreatDoor
set_option linter.unusedVariables false
set_option linter.unusedSimpArgs false
set_option maxRecDepth 100000
open Go.RowKit
section
attribute [local irreducible] aU aZ bR
def cu(l:List Int)(i:Nat):Nat:=l.countP fun m=>aJ m (i:Int)
theorem VI{n:Int}(hn:ko n=true){i:Nat}(hi:i<8):(if aJ (n-gQ n) (i:Int)=true then 1 else 0)+(if aJ (n+gQ n) (i:Int)=true then 1 else 0)=(if aJ n (i:Int)=true then 1 else 0):=by
 have:i=0∨i=1∨i=2∨i=3∨i=4∨i=5∨i=6∨i=7:=by omega
 rcases seven hn with rfl|rfl|rfl|rfl|rfl|rfl|rfl<;>rcases this with rfl|rfl|rfl|rfl|rfl|rfl|rfl|rfl<;>decide
theorem EY{n:Int}(hn:ko n=false){i:Nat}(hi:i<8):aJ n (i:Int)=decide (n=2*(i:Int)):=by
 have hl:aG (i:Int)=true:=by simp[aG];omega
 simp only[aJ,hl,Bool.true_and]
 by_cases h0:0≤n
 ·by_cases h1:n<15
  ·simp[ko,h0,h1]at hn
   have a1:¬n=(i:Int) / 2*4+1:=by omega
   have a2:¬n=(i:Int) / 4*8+3:=by omega
   have a3:¬n=7:=by omega
   simp[a1,a2,a3]
  ·have a1:¬n=(i:Int) / 2*4+1:=by omega
   have a2:¬n=(i:Int) / 4*8+3:=by omega
   have a3:¬n=7:=by omega
   simp[a1,a2,a3]
 ·have a1:¬n=(i:Int) / 2*4+1:=by omega
  have a2:¬n=(i:Int) / 4*8+3:=by omega
  have a3:¬n=7:=by omega
  simp[a1,a2,a3]
theorem FW(zs:List Int){i:Nat}(hi:i<8):∀(d:Nat) (n:Int),okD d n=true→cu (dN d zs n) i≤(if aJ n (i:Int)=true then 1 else 0)∧(aJ n (i:Int)=true→bA zs (2*(i:Int))≠0→cu (dN d zs n) i=1):=by
 have one:∀n:Int,cu [n] i=if aJ n (i:Int)=true then 1 else 0:=fun n=>by simp[cu,List.countP_singleton]
 have leaf:∀(n:Int) (l:List Int),ko n=false→l=(if bA zs n=0 then[]else[n])→cu l i≤(if aJ n (i:Int)=true then 1 else 0)∧(aJ n (i:Int)=true→bA zs (2*(i:Int))≠0→cu l i=1):=by
  rintro n l hn rfl
  by_cases hk:bA zs n=0
  ·rw[if_pos hk]
   refine⟨by simp[cu],fun hu hk2=>?_⟩
   rw[EY hn hi]at hu
   simp at hu
   rw[←hu]at hk2
   exact absurd hk hk2
  ·rw[if_neg hk,one]
   exact⟨Nat.le_refl _,fun hu _=>by simp[hu]⟩
 intro d
 induction d with
 |zero=>
  intro n hn
  exact leaf n _ (by simpa[okD]using hn) (by simp[dN])
 |succ d ih=>
  intro n hok
  cases hn:ko n with
  |false=>exact leaf n _ hn (by simp[dN,hn])
  |true=>
   obtain⟨o1,o2⟩:=xI hn hok
   have hu:=VI hn hi
   by_cases hk:bA zs n=0
   ·have e:dN (d+1) zs n=dN d zs (n-gQ n)++dN d zs (n+gQ n):=by simp[dN,hk,hn]
    have e2:cu (dN (d+1) zs n) i=cu (dN d zs (n-gQ n)) i+cu (dN d zs (n+gQ n)) i:=by rw[e];simp[cu]
    obtain⟨a1,a2⟩:=ih _ o1
    obtain⟨b1,b2⟩:=ih _ o2
    rw[e2]
    refine⟨by omega,fun h1 h2=>?_⟩
    rw[if_pos h1]at hu
    cases hq:aJ (n-gQ n) (i:Int)with
    |true=>
     rw[hq]at hu a1
     have:=a2 hq h2
     simp at hu a1
     rw[if_neg (by simp[hu])]at b1
     omega
    |false=>
     rw[hq]at hu a1
     simp at hu a1
     have:=b2 hu h2
     rw[hu]at b1
     simp at b1
     omega
   ·have e:dN (d+1) zs n=[n]:=by simp[dN,hk]
    rw[e,one]
    exact⟨Nat.le_refl _,fun h1 _=>by simp[h1]⟩
end
section
attribute [local irreducible] aU aZ bR
def dA(zs xs:List Int)(i:Int):List Int:=
 if aG i=true then(((zs.take (i.toNat*2)++(xs++zs.drop (i.toNat*2+2))).set (16+(i / 2*4+1).toNat) 0).set (16+(i / 4*8+3).toNat) 0).set (16+7) 0 else List.replicate 31 0
def U9:List A→(bP→Prop)→Prop
 |[.agg [.ints .i64 31 zs],.v (.int .i64 i),.agg [.ints .i64 2 xs]],K=>K (.d (.agg [.ints .i64 31 (dA zs xs i)]))
 |_,_=>False
theorem Cq{f:FuncId}(hx:∀zs i xs,aP f [.agg [.ints .i64 31 zs],.v (.int .i64 i),.agg [.ints .i64 2 xs]] (.d (.agg [.ints .i64 31 (dA zs xs i)]))):∀args K,U9 args K→∃r,aP f args r∧K r:=by
 intro args K h
 unfold U9 at h
 split at h
 ·exact⟨_,hx _ _ _,h⟩
 ·exact h.elim
set_option maxHeartbeats 4000000 in
theorem aa7(zs:List Int)(i:Int)(xs:List Int):aP 225 [.agg [.ints .i64 31 zs],.v (.int .i64 i),.agg [.ints .i64 2 xs]] (.d (.agg [.ints .i64 31 (dA zs xs i)])):=by
 refine dK (E:=ao2) Tryz.func225 Tryz.ntmps225 ?_
 cases h:aG i with
 |false=>
  refine ago ?_;(try exact⟨⟩)
  simp[dA,h]
 |true=>
  have h':=dh h
  refine ago ?_;(try exact⟨⟩)
  refine aM.mk (aB 4 ?_)
  refine ago ?_;(try exact⟨⟩)
  simp[dA,h]
set_option maxHeartbeats 4000000 in
theorem Sq(zs:List Int)(i:Int)(xs:List Int):aP 190 [.agg [.ints .i64 31 zs],.v (.int .i64 i),.agg [.ints .i64 2 xs]] (.d (.agg [.ints .i64 31 (dA zs xs i)])):=by
 refine dK (E:=ao2) Tryz.func190 Tryz.ntmps190 ?_
 cases h:aG i with
 |false=>
  refine ago ?_;(try exact⟨⟩)
  simp[dA,h]
 |true=>
  have h':=dh h
  refine ago ?_;(try exact⟨⟩)
  simp[dA,h]
noncomputable def aY1:ay:=ao2.add 225 U9 (Cq aa7) ⟨_,Tryz.func225,by kernel_rfl,by kernel_rfl⟩
noncomputable def bx9:ay:=aY1.add 190 U9 (Cq Sq) ⟨_,Tryz.func190,by kernel_rfl,by kernel_rfl⟩
end
section
open Pm
attribute [local irreducible] aU aZ bR
def isS:List A→(bP→Prop)→Prop
 |[.v (.int .i64 y)],K=>K (.d (.v (.bool (cO y))))
 |_,_=>False
theorem IV{f:FuncId}(hx:∀y,aP f [.v (.int .i64 y)] (.d (.v (.bool (cO y))))):∀args K,isS args K→∃r,aP f args r∧K r:=by
 intro args K h
 unfold isS at h
 split at h
 ·exact⟨_,hx _,h⟩
 ·exact h.elim
def Jf:List A→(bP→Prop)→Prop
 |[.v (.int .i64 y)],K=>K (.d (.v (.bool (y.tmod 2==0))))
 |_,_=>False
theorem UG(y:Int):aP 177 [.v (.int .i64 y)] (.d (.v (.bool (y.tmod 2==0)))):=by
 refine dK (E:=uF) Tryz.func177 Tryz.ntmps177 ?_
 refine ago ?_;(try exact⟨⟩)
theorem O7{f:FuncId}(hx:∀y,aP f [.v (.int .i64 y)] (.d (.v (.bool (y.tmod 2==0))))):∀args K,Jf args K→∃r,aP f args r∧K r:=by
 intro args K h
 unfold Jf at h
 split at h
 ·exact⟨_,hx _,h⟩
 ·exact h.elim
noncomputable def aY2:ay:=bx9.add 175 isS (IV fun y=>rA fun w=>zZ y w) ⟨_,Tryz.func175,by kernel_rfl,by kernel_rfl⟩
noncomputable def aY3:ay:=aY2.add 144 isS (IV fun y=>rA fun w=>vY y w) ⟨_,Tryz.func144,by kernel_rfl,by kernel_rfl⟩
noncomputable def by1:ay:=aY3.add 177 Jf (O7 UG) ⟨_,Tryz.func177,by kernel_rfl,by kernel_rfl⟩
def bq(zs:List Int)(k:Nat):List Int:=((zs.take 16).drop (k*2)).take 2
def eY(zs:List Int)(k:Nat):Bool:=decide (bq zs k=[0,0])||(cO ((bq zs k).getD 0 0)&&cO ((bq zs k).getD 1 0))
def ze(zs:List Int)(k:Nat):Int:=((zs.drop 16).take 15).getD k 0
def gK(zs:List Int)(k:Nat):Bool:=decide (ze zs k=0)||(!((k:Int).tmod 2==0)&&cO (ze zs k))
def rQ(zs:List Int):Bool:=(List.range 8).all (eY zs)&&(List.range 15).all (gK zs)
theorem yS{zs:List Int}{k:Nat}(hk:k<8)(h:eY zs k=false):rQ zs=false:=by
 have:(List.range 8).all (eY zs)=false:=List.all_eq_false.2 ⟨k,by simpa using hk,by simp[h]⟩
 simp[rQ,this]
theorem yT{zs:List Int}{k:Nat}(hk:k<15)(h:gK zs k=false):rQ zs=false:=by
 have:(List.range 15).all (gK zs)=false:=List.all_eq_false.2 ⟨k,by simpa using hk,by simp[h]⟩
 simp[rQ,this]
theorem RF{zs:List Int}(h1:∀k<8,eY zs k=true)(h2:∀k<15,gK zs k=true):rQ zs=true:=by
 have e1:(List.range 8).all (eY zs)=true:=List.all_eq_true.2 fun k hk=>h1 k (by simpa using hk)
 have e2:(List.range 15).all (gK zs)=true:=List.all_eq_true.2 fun k hk=>h2 k (by simpa using hk)
 simp only[rQ,e1,e2];rfl
set_option maxHeartbeats 16000000 in
theorem Uv(zs:List Int):aP 198 [.agg [.ints .i64 31 zs]] (.d (.v (.bool (rQ zs)))):=by
 refine dK (E:=by1) Tryz.func198 Tryz.ntmps198 ?_
 refine aX ?_;(try exact⟨⟩)
 refine aM.mk (gG [1,8,9] 1 (fun s=>∃k:Nat,k≤8∧(∀j<k,eY zs j=true)∧s=⟨[.ah,.ptr 0 0,.ah,.ah,.ah,.ah,.ah,.ah,.d (.agg [.ints .i64 16 (zs.take 16)]),.d (.v (.int .i64 (k:Nat))),.ah,.ah,.ah,.ah,.ah,.ah,.ah,.ah,.ah,.ah,.ah,.ah,.ah,.ah,.ah,.ah,.ah,.ah,.ah,.ah,.ah,.ah,.ah,.ah,.ah,.ah,.ah,.ah,.ah,.ah,.ah,.ah,.ah,.ah,.ah],[some (.var [.ints .i64 31 zs])]⟩) (fun s=>8-lX s 9) rfl ⟨0,by omega,fun j hj=>by omega,rfl⟩ ?_)
 rintro s ⟨k,hk,hall,rfl⟩
 have hw:IntKind.i64.wrap ((k:Int)+1)=((k+1:Nat):Int):=by rw[dR (by omega) (by omega)];omega
 by_cases Nq:k<8
 ·have next:eY zs k=true→∀j<k+1,eY zs j=true:=fun h j hj=>by
   by_cases e:j=k
   ·rw[e];exact h
   ·exact hall j (by omega)
  by_cases hz:((zs.take 16).drop (k*2)).take 2=[0,0]
  ·have L:eY zs k=true:=by simp[eY,bq,hz]
   refine aX ?_;(try exact⟨⟩)
   refine⟨⟨k+1,by omega,next L,by rw[←hw];rfl⟩,?_⟩
   show 8- (IntKind.i64.wrap ((k:Int)+1)).toNat<8- (k:Int).toNat
   rw[hw];omega
  ·cases ha:cO ((((zs.take 16).drop (k*2)).take 2).getD 0 0)with
   |false=>
    have L:rQ zs=false:=yS Nq (by unfold eY bq;rw[decide_eq_false hz,ha];rfl)
    refine aX ?_;(try exact⟨⟩)
    rw[L]
   |true=>
    cases hb:cO ((((zs.take 16).drop (k*2)).take 2).getD 1 0)with
    |false=>
     have L:rQ zs=false:=yS Nq (by unfold eY bq;rw[decide_eq_false hz,ha,hb];rfl)
     refine aX ?_;(try exact⟨⟩)
     rw[L]
    |true=>
     have L:eY zs k=true:=by unfold eY bq;rw[ha,hb];simp
     refine aX ?_;(try exact⟨⟩)
     refine⟨⟨k+1,by omega,next L,by rw[←hw];rfl⟩,?_⟩
     show 8- (IntKind.i64.wrap ((k:Int)+1)).toNat<8- (k:Int).toNat
     rw[hw];omega
 ·obtain rfl:k=8:=by omega
  refine aX ?_;(try exact⟨⟩)
  refine aM.mk (gG [28,29] 1 (fun s=>∃k:Nat,k≤15∧(∀j<k,gK zs j=true)∧s=⟨[.ah,.ah,.ah,.ah,.ah,.ah,.ah,.ah,.ah,.ah,.ah,.ah,.ah,.ah,.ah,.ah,.ah,.ah,.ah,.ah,.ah,.ah,.ah,.ah,.ah,.ah,.ah,.ah,.d (.agg [.ints .i64 15 ((zs.drop 16).take 15)]),.d (.v (.int .i64 (k:Nat))),.ah,.ah,.ah,.ah,.ah,.ah,.ah,.ah,.ah,.ah,.ah,.ah,.ah,.ah,.ah],[some (.var [.ints .i64 31 zs])]⟩) (fun s=>15-lX s 29) rfl ⟨0,by omega,fun j hj=>by omega,rfl⟩ ?_)
  clear Nq hw hk
  rintro s ⟨k,hk,Gi,rfl⟩
  have hw:IntKind.i64.wrap ((k:Int)+1)=((k+1:Nat):Int):=by rw[dR (by omega) (by omega)];omega
  by_cases Uo:k<15
  ·have next:gK zs k=true→∀j<k+1,gK zs j=true:=fun h j hj=>by
    by_cases e:j=k
    ·rw[e];exact h
    ·exact Gi j (by omega)
   by_cases hz:((zs.drop 16).take 15).getD k 0=0
   ·have L:gK zs k=true:=by unfold gK ze;rw[hz];rfl
    have hz2:(((zs.drop 16).take 15).getD k 0 !=0)=false:=by rw[hz];rfl
    refine aX ?_;(try exact⟨⟩)
    refine⟨⟨k+1,by omega,next L,by rw[←hw];rfl⟩,?_⟩
    show 15- (IntKind.i64.wrap ((k:Int)+1)).toNat<15- (k:Int).toNat
    rw[hw];omega
   ·have hz':decide (((zs.drop 16).take 15).getD k 0=0)=false:=decide_eq_false hz
    have hz2:(((zs.drop 16).take 15).getD k 0 !=0)=true:=by rw[bne];rw[beq_eq_false_iff_ne.2 hz];rfl
    cases ha:((k:Int).tmod 2==0)with
    |true=>
     have L:rQ zs=false:=yT Uo (by unfold gK ze;rw[hz',ha];rfl)
     refine aX ?_;(try exact⟨⟩)
     rw[L]
    |false=>
     cases hb:cO (((zs.drop 16).take 15).getD k 0)with
     |false=>
      have L:rQ zs=false:=yT Uo (by unfold gK ze;rw[hz',hb];simp)
      refine aX ?_;(try exact⟨⟩)
      rw[L]
     |true=>
      have L:gK zs k=true:=by unfold gK ze;rw[hz',ha,hb];rfl
      refine aX ?_;(try exact⟨⟩)
      refine⟨⟨k+1,by omega,next L,by rw[←hw];rfl⟩,?_⟩
      show 15- (IntKind.i64.wrap ((k:Int)+1)).toNat<15- (k:Int).toNat
      rw[hw];omega
  ·obtain rfl:k=15:=by omega
   have L:rQ zs=true:=RF hall Gi
   refine aX ?_;(try exact⟨⟩)
   rw[L]
end
section
open Pm
attribute [local irreducible] aU aZ bR
noncomputable def XP:ay:=aX4.add 144 isS (IV fun y=>rA fun w=>vY y w) ⟨_,Tryz.func144,by kernel_rfl,by kernel_rfl⟩
theorem pJ(zs:List Int){k:Nat}(hk:k<8):bq zs k=(zs.drop (k*2)).take 2:=by
 unfold bq
 rw[List.drop_take,List.take_take]
 congr 1;omega
theorem Lr(zs:List Int){k:Nat}(hk:k<15):ze zs k=zs.getD (16+k) 0:=by
 unfold ze
 simp[List.getD_eq_getElem?_getD,List.getElem?_take,hk]
set_option maxHeartbeats 16000000 in
theorem PK(zs:List Int):aP 164 [.agg [.ints .i64 31 zs]] (.d (.v (.bool (rQ zs)))):=by
 refine dK (E:=XP) Tryz.func164 Tryz.ntmps164 ?_
 refine aX ?_;(try exact⟨⟩)
 refine aM.mk (gG [1,3] 1 (fun s=>∃k:Nat,k≤8∧(∀j<k,eY zs j=true)∧s=⟨[.ah,.ptr 0 0,.ah,.d (.v (.int .i64 (k:Nat))),.ah,.ah,.ah,.ah,.ah,.ah,.ah,.ah,.ah,.ah,.ah,.ah,.ah,.ah,.ah,.ah,.ah,.ah,.ah,.ah,.ah,.ah,.ah,.ah,.ah,.ah,.ah,.ah,.ah,.ah,.ah,.ah,.ah,.ah,.ah,.ah,.ah,.ah,.ah,.ah,.ah,.ah,.ah,.ah,.ah,.ah,.ah],[some (.var [.ints .i64 31 zs])]⟩) (fun s=>8-lX s 3) rfl ⟨0,by omega,fun j hj=>by omega,rfl⟩ ?_)
 rintro s ⟨k,hk,hall,rfl⟩
 have hw:IntKind.i64.wrap ((k:Int)+1)=((k+1:Nat):Int):=by rw[dR (by omega) (by omega)];omega
 have goes:∀x:Int,x=IntKind.i64.wrap ((k:Int)+1)→8-x.toNat<8- (k:Int).toNat∨8≤k:=fun x hx=>by rw[hx,hw];omega
 by_cases Nq:k<8
 ·have next:eY zs k=true→∀j<k+1,eY zs j=true:=fun h j hj=>by
   by_cases e:j=k
   ·rw[e];exact h
   ·exact hall j (by omega)
  by_cases hz:(zs.drop (k*2)).take 2=[0,0]
  ·have L:eY zs k=true:=by simp[eY,pJ zs Nq,hz]
   refine aX ?_;(try exact⟨⟩)
   exact⟨⟨k+1,by omega,next L,by rw[←hw];rfl⟩,(goes _ rfl).resolve_right (by omega)⟩
  ·cases ha:cO (((zs.drop (k*2)).take 2).getD 0 0)with
   |false=>
    have L:rQ zs=false:=yS Nq (by unfold eY;rw[pJ zs Nq,decide_eq_false hz,ha];rfl)
    refine aX ?_;(try exact⟨⟩)
    rw[L]
   |true=>
    cases hb:cO (((zs.drop (k*2)).take 2).getD 1 0)with
    |false=>
     have L:rQ zs=false:=yS Nq (by unfold eY;rw[pJ zs Nq,decide_eq_false hz,ha,hb];rfl)
     refine aX ?_;(try exact⟨⟩)
     rw[L]
    |true=>
     have L:eY zs k=true:=by unfold eY;rw[pJ zs Nq,ha,hb];simp
     refine aX ?_;(try exact⟨⟩)
     exact⟨⟨k+1,by omega,next L,by rw[←hw];rfl⟩,(goes _ rfl).resolve_right (by omega)⟩
 ·obtain rfl:k=8:=by omega
  refine aX ?_;(try exact⟨⟩)
  refine aM.mk (gG [1,5] 1 (fun s=>∃k:Nat,k≤15∧(∀j<k,gK zs j=true)∧s=⟨[.ah,.ptr 0 0,.ah,.ah,.ah,.d (.v (.int .i64 (k:Nat))),.ah,.ah,.ah,.ah,.ah,.ah,.ah,.ah,.ah,.ah,.ah,.ah,.ah,.ah,.ah,.ah,.ah,.ah,.ah,.ah,.ah,.ah,.ah,.ah,.ah,.ah,.ah,.ah,.ah,.ah,.ah,.ah,.ah,.ah,.ah,.ah,.ah,.ah,.ah,.ah,.ah,.ah,.ah,.ah,.ah],[some (.var [.ints .i64 31 zs])]⟩) (fun s=>15-lX s 5) rfl ⟨0,by omega,fun j hj=>by omega,rfl⟩ ?_)
  clear Nq hw hk goes
  rintro s ⟨k,hk,Gi,rfl⟩
  have hw:IntKind.i64.wrap ((k:Int)+1)=((k+1:Nat):Int):=by rw[dR (by omega) (by omega)];omega
  have goes:∀x:Int,x=IntKind.i64.wrap ((k:Int)+1)→15-x.toNat<15- (k:Int).toNat∨15≤k:=fun x hx=>by rw[hx,hw];omega
  by_cases Uo:k<15
  ·have next:gK zs k=true→∀j<k+1,gK zs j=true:=fun h j hj=>by
    by_cases e:j=k
    ·rw[e];exact h
    ·exact Gi j (by omega)
   have V:=Lr zs Uo
   have hand:(bits .and .i64 (k:Int) 1==0)=((k:Int).tmod 2==0):=by
    have:k=0∨k=1∨k=2∨k=3∨k=4∨k=5∨k=6∨k=7∨k=8∨k=9∨k=10∨k=11∨k=12∨k=13∨k=14:=by omega
    clear Gi next goes hw V
    rcases this with rfl|rfl|rfl|rfl|rfl|rfl|rfl|rfl|rfl|rfl|rfl|rfl|rfl|rfl|rfl<;>rfl
   by_cases hz:zs.getD (16+k) 0=0
   ·have L:gK zs k=true:=by unfold gK;rw[V,hz];rfl
    have hz2:(zs.getD (16+k) 0 !=0)=false:=by rw[hz];rfl
    clear hand V
    refine aX ?_;(try exact⟨⟩)
    exact⟨⟨k+1,by omega,next L,by rw[←hw];rfl⟩,(goes _ rfl).resolve_right (by omega)⟩
   ·have hz':decide (zs.getD (16+k) 0=0)=false:=decide_eq_false hz
    have hz2:(zs.getD (16+k) 0 !=0)=true:=by rw[bne];rw[beq_eq_false_iff_ne.2 hz];rfl
    cases ha:(bits .and .i64 (k:Int) 1==0)with
    |true=>
     have L:rQ zs=false:=yT Uo (by unfold gK;rw[V,hz',←hand,ha];rfl)
     clear hand V
     refine aX ?_;(try exact⟨⟩)
     rw[L]
    |false=>
     cases hb:cO (zs.getD (16+k) 0)with
     |false=>
      have L:rQ zs=false:=yT Uo (by unfold gK;rw[V,hz',hb];simp)
      clear hand V
      refine aX ?_;(try exact⟨⟩)
      rw[L]
     |true=>
      have L:gK zs k=true:=by unfold gK;rw[V,hz',←hand,ha,hb];rfl
      clear hand V
      refine aX ?_;(try exact⟨⟩)
      exact⟨⟨k+1,by omega,next L,by rw[←hw];rfl⟩,(goes _ rfl).resolve_right (by omega)⟩
  ·obtain rfl:k=15:=by omega
   have L:rQ zs=true:=RF hall Gi
   refine aX ?_;(try exact⟨⟩)
   rw[L]
end
section
open Pm
attribute [local irreducible] aU aZ bR
def ar2:List A→(bP→Prop)→Prop
 |[.agg [.ints .i64 31 zs]],K=>K (.d (.v (.bool (rQ zs))))
 |_,_=>False
theorem RD{f:FuncId}(hx:∀zs,aP f [.agg [.ints .i64 31 zs]] (.d (.v (.bool (rQ zs))))):∀args K,ar2 args K→∃r,aP f args r∧K r:=by
 intro args K h
 unfold ar2 at h
 split at h
 ·exact⟨_,hx _,h⟩
 ·exact h.elim
theorem i4:cO 4=true:=by
 have h:=yQ 1 (by decide) (by decide)
 have e:((pw 4 1:Nat):Int)=4:=by rw[nG];rfl
 rw[e]at h;exact h
theorem i0:cO 0=false:=by simp[cO]
end
section
open Pm
attribute [local irreducible] aU aZ bR
noncomputable def aB4:ay:=XP.add 164 ar2 (RD PK) ⟨_,Tryz.func164,by kernel_rfl,by kernel_rfl⟩
theorem Ab(zs:List Int){i m:Nat}{x:Int}(hi:i<8)(hm:16≤m):bq (zs.set m x) i=bq zs i:=by
 unfold bq
 rw[List.take_set_of_le hm]
theorem Aa(zs:List Int){i:Nat}(hi:i<8):bA zs (2*(i:Int))=zs.getD (i*2+1) 0:=by
 have a1:(0:Int)≤2*(i:Int)∧2*(i:Int)<15:=by omega
 have a2:2*(i:Int)%2=0:=by omega
 have a3:(2*(i:Int)).toNat+1=i*2+1:=by omega
 simp only[bA,a1,a2,a3,and_self,if_true]
end
end Go.Proofs.YtjhgelfnmhdihaaGreatDoor
