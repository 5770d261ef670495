/- -/
import Derived.Test.YtegalalmamofdaaGreatDoorJ16
import Derived.Test.YtegalalmamofdaaGreatDoorJ13
namespace Go.Proofs.YtegalalmamofdaaGreatDoor
set_option linter.all false
set_option maxRecDepth 100000
open Go.RowKit
set_option maxHeartbeats 8000000
section
attribute [local irreducible] aN aQ bq
def cu(l:List Int)(i:Nat):Nat:=l.countP fun m=>bf m (i:Int)
theorem Zt{n:Int}(hn:jW n=true){i:Nat}(hi:i<8):(if bf (n-iW n) (i:Int)=true then 1 else 0)+(if bf (n+iW n) (i:Int)=true then 1 else 0)=(if bf n (i:Int)=true then 1 else 0):=by
 have:i=0\/i=1\/i=2\/i=3\/i=4\/i=5\/i=6\/i=7:=by omega
 rcases seven hn with rfl|rfl|rfl|rfl|rfl|rfl|rfl<;>rcases this with rfl|rfl|rfl|rfl|rfl|rfl|rfl|rfl<;>decide
theorem Ih{n:Int}(hn:jW n=false){i:Nat}(hi:i<8):bf n (i:Int)=decide (n=2*(i:Int)):=by
 have hl:aL (i:Int)=true:=by simp[aL];omega
 simp only[bf,hl,Bool.true_and]
 by_cases h0:0<=n
 ·by_cases h1:n<15
  ·simp[jW,h0,h1]at hn
   have a1:¬n=(i:Int) / 2*4+1:=by omega
   have a2:¬n=(i:Int) / 4*8+3:=by omega
   have a3:¬n=7:=by omega
   simp[a1,a2,a3]
  ·have a1:¬n=(i:Int) / 2*4+1:=by omega
   have a2:¬n=(i:Int) / 4*8+3:=by omega
   have a3:¬n=7:=by omega
   simp[a1,a2,a3]
 ·have a1:¬n=(i:Int) / 2*4+1:=by omega
  have a2:¬n=(i:Int) / 4*8+3:=by omega
  have a3:¬n=7:=by omega
  simp[a1,a2,a3]
theorem Ju(zs:List Int){i:Nat}(hi:i<8):∀(d:Nat) (n:Int),okD d n=true->cu (eu d zs n) i<=(if bf n (i:Int)=true then 1 else 0)/\(bf n (i:Int)=true->eG zs (2*(i:Int))≠0->cu (eu d zs n) i=1):=by
 have one:∀n:Int,cu [n] i=if bf n (i:Int)=true then 1 else 0:=fun n=>by simp[cu,List.countP_singleton]
 have leaf:∀(n:Int) (l:List Int),jW n=false->l=(if eG zs n=0 then[]else[n])->cu l i<=(if bf n (i:Int)=true then 1 else 0)/\(bf n (i:Int)=true->eG zs (2*(i:Int))≠0->cu l i=1):=by
  rintro n l hn rfl
  by_cases hk:eG zs n=0
  ·rw[if_pos hk]
   refine⟨by simp[cu],fun hu hk2=>?_⟩
   rw[Ih hn hi]at hu
   simp at hu
   rw[<-hu]at hk2
   exact absurd hk hk2
  ·rw[if_neg hk,one]
   exact⟨Nat.le_refl _,fun hu _=>by simp[hu]⟩
 intro d
 induction d with
 |zero=>
  intro n hn
  exact leaf n _ (by simpa[okD]using hn) (by simp[eu])
 |succ d ih=>
  intro n hok
  cases hn:jW n with
  |false=>exact leaf n _ hn (by simp[eu,hn])
  |true=>
   obtain⟨o1,o2⟩:=Gl hn hok
   have hu:=Zt hn hi
   by_cases hk:eG zs n=0
   ·have e:eu (d+1) zs n=eu d zs (n-iW n)++eu d zs (n+iW n):=by simp[eu,hk,hn]
    have e2:cu (eu (d+1) zs n) i=cu (eu d zs (n-iW n)) i+cu (eu d zs (n+iW n)) i:=by rw[e];simp[cu]
    obtain⟨a1,a2⟩:=ih _ o1
    obtain⟨b1,b2⟩:=ih _ o2
    rw[e2]
    refine⟨by omega,fun h1 h2=>?_⟩
    rw[if_pos h1]at hu
    cases hq:bf (n-iW n) (i:Int)with
    |true=>
     rw[hq]at hu a1
     have:=a2 hq h2
     simp at hu a1
     rw[if_neg (by simp[hu])]at b1
     omega
    |false=>
     rw[hq]at hu a1
     simp at hu a1
     have:=b2 hu h2
     rw[hu]at b1
     simp at b1
     omega
   ·have e:eu (d+1) zs n=[n]:=by simp[eu,hk]
    rw[e,one]
    exact⟨Nat.le_refl _,fun h1 _=>by simp[h1]⟩
end
noncomputable section
attribute [local irreducible] aN aQ bq
def fM(zs xs:List Int)(i:Int):List Int:=
 if aL i=true then(((zs.take (i.toNat*2)++(xs++zs.drop (i.toNat*2+2))).set (16+(i / 2*4+1).toNat) 0).set (16+(i / 4*8+3).toNat) 0).set (16+7) 0 else List.replicate 31 0
def aX2:List A->(bC->Prop)->Prop
 |[.agg [.ints .i64 31 zs],.v (.int .i64 i),.agg [.ints .i64 2 xs]],K=>K (.d (.agg [.ints .i64 31 (fM zs xs i)]))
 |_,_=>False
theorem Wm{f:FuncId}(hx:∀zs i xs,aV f [.agg [.ints .i64 31 zs],.v (.int .i64 i),.agg [.ints .i64 2 xs]] (.d (.agg [.ints .i64 31 (fM zs xs i)]))):∀args K,aX2 args K->∃r,aV f args r/\K r:=by
 intro args K h
 unfold aX2 at h
 split at h
 ·exact⟨_,hx _ _ _,h⟩
 ·exact h.elim
theorem aA1(zs:List Int)(i:Int)(xs:List Int):aV 224 [.agg [.ints .i64 31 zs],.v (.int .i64 i),.agg [.ints .i64 2 xs]] (.d (.agg [.ints .i64 31 (fM zs xs i)])):=by
 refine eO (E:=bt1) Tryz.func224 Tryz.ntmps224 ?_
 cases h:aL i with
 |false=>
  refine ago ?_;(try exact⟨⟩)
  simp[fM,h]
 |true=>
  have h':=ig h
  refine ago ?_
  refine aX.mk (aH 4 ?_)
  refine ago ?_;(try exact⟨⟩)
  simp[fM,h]
def bO5:ak:=bt1.add 224 aX2 (Wm aA1) (.of Tryz.func224)
def co7:ak:=bO5
end
noncomputable section
open Pm
attribute [local irreducible] aN aQ bq
def isS:List A->(bC->Prop)->Prop
 |[.v (.int .i64 y)],K=>K (.d (.v (.bool (dL y))))
 |_,_=>False
theorem aq3{f:FuncId}(hx:∀y,aV f [.v (.int .i64 y)] (.d (.v (.bool (dL y))))):∀args K,isS args K->∃r,aV f args r/\K r:=by
 intro args K h
 unfold isS at h
 split at h
 ·exact⟨_,hx _,h⟩
 ·exact h.elim
def Md:List A->(bC->Prop)->Prop
 |[.v (.int .i64 y)],K=>K (.d (.v (.bool (y.tmod 2==0))))
 |_,_=>False
theorem Yw(y:Int):aV 175 [.v (.int .i64 y)] (.d (.v (.bool (y.tmod 2==0)))):=by
 refine eO (E:=sV) Tryz.func175 Tryz.ntmps175 ?_
 refine ago ?_;(try exact⟨⟩)
theorem Tj{f:FuncId}(hx:∀y,aV f [.v (.int .i64 y)] (.d (.v (.bool (y.tmod 2==0))))):∀args K,Md args K->∃r,aV f args r/\K r:=by
 intro args K h
 unfold Md at h
 split at h
 ·exact⟨_,hx _,h⟩
 ·exact h.elim
def bO6:ak:=co7.add 170 isS (aq3 fun y=>Ca fun w=>Ch y w) (.of Tryz.func170)
def bO7:ak:=bO6
def co8:ak:=bO7.add 175 Md (Tj Yw) (.of Tryz.func175)
def bZ(zs:List Int)(k:Nat):List Int:=((zs.take 16).drop (k*2)).take 2
def gM(zs:List Int)(k:Nat):Bool:=decide (bZ zs k=[0,0])||(dL ((bZ zs k).getD 0 0)&&dL ((bZ zs k).getD 1 0))
def wV(zs:List Int)(k:Nat):Int:=((zs.drop 16).take 15).getD k 0
def jC(zs:List Int)(k:Nat):Bool:=decide (wV zs k=0)||(!((k:Int).tmod 2==0)&&dL (wV zs k))
def wQ(zs:List Int):Bool:=(List.range 8).all (gM zs)&&(List.range 15).all (jC zs)
theorem OD{zs:List Int}{k:Nat}(hk:k<8)(h:gM zs k=false):wQ zs=false:=by
 have:(List.range 8).all (gM zs)=false:=List.all_eq_false.2 ⟨k,by simpa using hk,by simp[h]⟩
 simp[wQ,this]
theorem OE{zs:List Int}{k:Nat}(hk:k<15)(h:jC zs k=false):wQ zs=false:=by
 have:(List.range 15).all (jC zs)=false:=List.all_eq_false.2 ⟨k,by simpa using hk,by simp[h]⟩
 simp[wQ,this]
theorem aS2{zs:List Int}(h1:∀k<8,gM zs k=true)(h2:∀k<15,jC zs k=true):wQ zs=true:=by
 have e1:(List.range 8).all (gM zs)=true:=List.all_eq_true.2 fun k hk=>h1 k (by simpa using hk)
 have e2:(List.range 15).all (jC zs)=true:=List.all_eq_true.2 fun k hk=>h2 k (by simpa using hk)
 simp only[wQ,e1,e2];rfl
theorem Yi(zs:List Int):aV 209 [.agg [.ints .i64 31 zs]] (.d (.v (.bool (wQ zs)))):=by
 refine eO (E:=co8) Tryz.func209 Tryz.ntmps209 ?_
 refine dG ?_
 refine aX.mk (lG [1,8,9] 1 (fun s=>∃k:Nat,k<=8/\(∀j<k,gM zs j=true)/\s=⟨[.au,.ptr 0 0,.au,.au,.au,.au,.au,.au,.d (.agg [.ints .i64 16 (zs.take 16)]),.d (.v (.int .i64 (k:Nat))),.au,.au,.au,.au,.au,.au,.au,.au,.au,.au,.au,.au,.au,.au,.au,.au,.au,.au,.au,.au,.au,.au,.au,.au,.au,.au,.au,.au,.au,.au,.au,.au,.au,.au,.au],[some (.var [.ints .i64 31 zs])]⟩) (fun s=>8-vI s 9) rfl ⟨0,by omega,fun j hj=>by omega,rfl⟩ ?_)
 rintro s ⟨k,hk,hall,rfl⟩
 have hw:IntKind.i64.wrap ((k:Int)+1)=((k+1:Nat):Int):=by rw[gH (by omega) (by omega)];omega
 by_cases hk8:k<8
 ·have next:gM zs k=true->∀j<k+1,gM zs j=true:=fun h j hj=>by
   by_cases e:j=k
   ·rw[e];exact h
   ·exact hall j (by omega)
  by_cases hz:((zs.take 16).drop (k*2)).take 2=[0,0]
  ·have L:gM zs k=true:=by simp[gM,bZ,hz]
   refine dG ?_
   refine⟨⟨k+1,by omega,next L,by rw[<-hw];rfl⟩,?_⟩
   show 8- (IntKind.i64.wrap ((k:Int)+1)).toNat<8- (k:Int).toNat
   rw[hw];omega
  ·cases ha:dL ((((zs.take 16).drop (k*2)).take 2).getD 0 0)with
   |false=>
    have L:wQ zs=false:=OD hk8 (by unfold gM bZ;rw[decide_eq_false hz,ha];rfl)
    refine dG ?_
    rw[L]
   |true=>
    cases hb:dL ((((zs.take 16).drop (k*2)).take 2).getD 1 0)with
    |false=>
     have L:wQ zs=false:=OD hk8 (by unfold gM bZ;rw[decide_eq_false hz,ha,hb];rfl)
     refine dG ?_
     rw[L]
    |true=>
     have L:gM zs k=true:=by unfold gM bZ;rw[ha,hb];simp
     refine dG ?_
     refine⟨⟨k+1,by omega,next L,by rw[<-hw];rfl⟩,?_⟩
     show 8- (IntKind.i64.wrap ((k:Int)+1)).toNat<8- (k:Int).toNat
     rw[hw];omega
 ·obtain rfl:k=8:=by omega
  refine dG ?_
  refine aX.mk (lG [28,29] 1 (fun s=>∃k:Nat,k<=15/\(∀j<k,jC zs j=true)/\s=⟨[.au,.au,.au,.au,.au,.au,.au,.au,.au,.au,.au,.au,.au,.au,.au,.au,.au,.au,.au,.au,.au,.au,.au,.au,.au,.au,.au,.au,.d (.agg [.ints .i64 15 ((zs.drop 16).take 15)]),.d (.v (.int .i64 (k:Nat))),.au,.au,.au,.au,.au,.au,.au,.au,.au,.au,.au,.au,.au,.au,.au],[some (.var [.ints .i64 31 zs])]⟩) (fun s=>15-vI s 29) rfl ⟨0,by omega,fun j hj=>by omega,rfl⟩ ?_)
  clear hk8 hw hk
  rintro s ⟨k,hk,bl4,rfl⟩
  have hw:IntKind.i64.wrap ((k:Int)+1)=((k+1:Nat):Int):=by rw[gH (by omega) (by omega)];omega
  by_cases ce5:k<15
  ·have next:jC zs k=true->∀j<k+1,jC zs j=true:=fun h j hj=>by
    by_cases e:j=k
    ·rw[e];exact h
    ·exact bl4 j (by omega)
   by_cases hz:((zs.drop 16).take 15).getD k 0=0
   ·have L:jC zs k=true:=by unfold jC wV;rw[hz];rfl
    have hz2:(((zs.drop 16).take 15).getD k 0 !=0)=false:=by rw[hz];rfl
    refine dG ?_
    refine⟨⟨k+1,by omega,next L,by rw[<-hw];rfl⟩,?_⟩
    show 15- (IntKind.i64.wrap ((k:Int)+1)).toNat<15- (k:Int).toNat
    rw[hw];omega
   ·have hz':decide (((zs.drop 16).take 15).getD k 0=0)=false:=decide_eq_false hz
    have hz2:(((zs.drop 16).take 15).getD k 0 !=0)=true:=by rw[bne];rw[beq_eq_false_iff_ne.2 hz];rfl
    cases ha:((k:Int).tmod 2==0)with
    |true=>
     have L:wQ zs=false:=OE ce5 (by unfold jC wV;rw[hz',ha];rfl)
     refine dG ?_
     rw[L]
    |false=>
     cases hb:dL (((zs.drop 16).take 15).getD k 0)with
     |false=>
      have L:wQ zs=false:=OE ce5 (by unfold jC wV;rw[hz',hb];simp)
      refine dG ?_
      rw[L]
     |true=>
      have L:jC zs k=true:=by unfold jC wV;rw[hz',ha,hb];rfl
      refine dG ?_
      refine⟨⟨k+1,by omega,next L,by rw[<-hw];rfl⟩,?_⟩
      show 15- (IntKind.i64.wrap ((k:Int)+1)).toNat<15- (k:Int).toNat
      rw[hw];omega
  ·obtain rfl:k=15:=by omega
   have L:wQ zs=true:=aS2 hall bl4
   refine dG ?_
   rw[L]
end
section
open Pm
attribute [local irreducible] aN aQ bq
noncomputable def bs9:ak:=bN8
theorem OM(zs:List Int){k:Nat}(hk:k<8):bZ zs k=(zs.drop (k*2)).take 2:=by
 unfold bZ
 rw[List.drop_take,List.take_take]
 congr 1;omega
theorem au6(zs:List Int){k:Nat}(hk:k<15):wV zs k=zs.getD (16+k) 0:=by
 unfold wV
 simp[List.getD_eq_getElem?_getD,List.getElem?_take,hk]
end
section
open Pm
attribute [local irreducible] aN aQ bq
def bB3:List A->(bC->Prop)->Prop
 |[.agg [.ints .i64 31 zs]],K=>K (.d (.v (.bool (wQ zs))))
 |_,_=>False
theorem aS1{f:FuncId}(hx:∀zs,aV f [.agg [.ints .i64 31 zs]] (.d (.v (.bool (wQ zs))))):∀args K,bB3 args K->∃r,aV f args r/\K r:=by
 intro args K h
 unfold bB3 at h
 split at h
 ·exact⟨_,hx _,h⟩
 ·exact h.elim
theorem i4:dL 4=true:=by
 have h:=AJ 1 (by decide) (by decide)
 have e:((pw 4 1:Nat):Int)=4:=by rw[nR];rfl
 rw[e]at h;exact h
theorem i0:dL 0=false:=by simp[dL]
end
section
open Pm
attribute [local irreducible] aN aQ bq
noncomputable def bf4:ak:=bs9
theorem Ck(zs:List Int){i m:Nat}{x:Int}(hi:i<8)(hm:16<=m):bZ (zs.set m x) i=bZ zs i:=by
 unfold bZ
 rw[List.take_set_of_le hm]
theorem JY(zs:List Int){i:Nat}(hi:i<8):eG zs (2*(i:Int))=zs.getD (i*2+1) 0:=by
 have a1:(0:Int)<=2*(i:Int)/\2*(i:Int)<15:=by omega
 have a2:2*(i:Int)%2=0:=by omega
 have a3:(2*(i:Int)).toNat+1=i*2+1:=by omega
 simp only[eG,a1,a2,a3,and_self,if_true]
end
end Go.Proofs.YtegalalmamofdaaGreatDoor
