/- -/
import Derived.Test.YtegalalmamofdaaGreatDoorJ25
namespace Go.Proofs.YtegalalmamofdaaGreatDoor
set_option linter.all false
set_option maxRecDepth 100000
open Go.RowKit
variable{f:FuncId}
section
open Pm
def wE(b y:Int)(p:List UInt8):Int:=U (mK (aD (List.replicate 32 0) (sb ⟨#[115,105,103,110]⟩) [bP b,bP y,p].flatten) 8)%1073741789
def jP(x:Int)(p:List UInt8):Int:=U (mK (aD (List.replicate 32 0) (sb ⟨#[110,111,110,99,101]⟩) [bP x,p].flatten) 8)%1073741788+1
def iV(s:Int)(p:List UInt8):Int:=wE (aJ 4 (jP s p)) (aJ 4 s) p
def jI(s:Int)(p:List UInt8):Int:=(jP s p+iV s p*s)%1073741789
def mh(y:Int)(p:List UInt8)(e s:Int):Bool:=dL y&&decide (0<=e/\e<1073741789)&&decide (0<=s/\s<1073741789)&&(e==wE (eY (aJ 4 s) (aJ y (1073741789-e))) y p)
theorem aL4(b y:Int)(p:List UInt8):0<=wE b y p/\wE b y p<1073741789:=by
 unfold wE
 omega
theorem Cr(x:Int)(p:List UInt8):1<=jP x p/\jP x p<1073741789:=by
 unfold jP
 omega
theorem yw(s:Int)(p:List UInt8):0<=iV s p/\iV s p<1073741789:=aL4 _ _ _
theorem EC(s:Int)(p:List UInt8):0<=jI s p/\jI s p<1073741789:=by
 unfold jI
 omega
theorem PI(m k:Nat):pw 4 (m+1073741789*k)=pw 4 m:=by
 rw[<-CU,<-GD,FE,xw,Nat.mul_one,Nat.mod_eq_of_lt (yR _ _)]
theorem bE5(m:Nat):pw 4 (m%1073741789)=pw 4 m:=by
 have h:=PI (m%1073741789) (m / 1073741789)
 rw[Nat.mod_add_div]at h
 exact h.symm
theorem begun(x r e:Int)(hx:0<=x/\x<1073741789)(hr:0<=r/\r<1073741789)(he:0<=e/\e<1073741789):
  eY (aJ 4 ((r+e*x)%1073741789)) (aJ (aJ 4 x) (1073741789-e))=aJ 4 r:=by
 obtain⟨x,rfl⟩:=Int.eq_ofNat_of_zero_le hx.1
 obtain⟨r,rfl⟩:=Int.eq_ofNat_of_zero_le hr.1
 obtain⟨e,rfl⟩:=Int.eq_ofNat_of_zero_le he.1
 have e1:((r:Int)+e*x)%1073741789=(((r+e*x)%1073741789:Nat):Int):=by
  have hm:((e*x:Nat):Int)=(e:Int)*x:=Int.natCast_mul e x
  rw[<-hm]
  generalize e*x=m
  omega
 have e2:(1073741789- (e:Int))=((1073741789-e:Nat):Int):=by omega
 have h1:aJ 4 (((r+e*x)%1073741789:Nat):Int)=(pw 4 ((r+e*x)%1073741789):Int):=iN 4 _ (by decide) (by omega)
 have h2:aJ 4 (x:Int)=(pw 4 x:Int):=iN 4 x (by decide) (by omega)
 have h3:aJ 4 (r:Int)=(pw 4 r:Int):=iN 4 r (by decide) (by omega)
 rw[e1,e2,h1,h2,h3,iN (pw 4 x) (1073741789-e) (yR _ _) (by omega),GD,bE5,at1 _ _ (yR _ _) (yR _ _),CU]
 have e3:r+e*x+x*(1073741789-e)=r+1073741789*x:=by
  have h4:x*(1073741789-e)+x*e=x*1073741789:=by rw[<-Nat.mul_add,Nat.sub_add_cancel (by omega)]
  have h5:e*x=x*e:=Nat.mul_comm _ _
  have h6:1073741789*x=x*1073741789:=Nat.mul_comm _ _
  omega
 rw[e3,PI]
theorem ap8(s:Int)(hs:1<=s/\s<1073741789):dL (aJ 4 s)=true:=by
 obtain⟨n,rfl⟩:=Int.eq_ofNat_of_zero_le (show 0<=s by omega)
 rw[show aJ 4 (n:Int)=(pw 4 n:Int)from iN 4 n (by decide) (by omega)]
 exact AJ n (by omega) (by omega)
theorem aH3(s:Int)(p:List UInt8)(hs:1<=s/\s<1073741789):mh (aJ 4 s) p (iV s p) (jI s p)=true:=by
 have hn:=Cr s p
 have hE:=yw s p
 unfold mh
 rw[ap8 s hs,decide_eq_true hE,decide_eq_true (EC s p)]
 have h:=begun s (jP s p) (iV s p) ⟨by omega,hs.2⟩ ⟨by omega,hn.2⟩ hE
 have h2:jI s p=(jP s p+iV s p*s)%1073741789:=rfl
 rw[h2,h]
 simp[iV]
end
section
def D6(t0:TypeId):Option TI:=
 match t0 with
 |101=>some (bU 2 [.ints .i64 2 [0,0]] [0,1] [3,3] 16 true [(0,1),(1,1)])
 |103=>some (bU 3 [.ints .i64 3 [0,0,0]] [0,1] [3,101] 24 true [(0,1),(1,2)])
 |113=>some (pG 103 3)
 |116=>some (bU 43 [.ints .i64 2 [0,0],.gen 2 [.v (.slice none 0 0),.v (.slice none 0 0)],.ints .i64 4 [0,0,0,0],.gen 1 [.v (.slice none 0 0)],.bytes 32 (List.replicate 32 0),.ints .i64 2 [0,0]] [0,1,2,3,4,5,8,9,41] [3,3,32,113,3,114,50,28,101] 168 false [(0,1),(1,1),(2,1),(3,1),(4,1),(5,3),(8,1),(9,32),(41,2)])
 |168=>some (bU 108 [.ints .i64 2 [0,0],.ints .i64 1 [0],.ints .i64 31 (List.replicate 31 0),.bools 8 (List.replicate 8 false),.ints .i64 1 [0],.bytes 32 (List.replicate 32 0),.gen 1 [.v (.slice none 0 0)],.bytes 32 (List.replicate 32 0)] [0,1,2,75,76] [3,3,48,35,28] 376 false [(0,1),(1,1),(2,73),(75,1),(76,32)])
 |214=>some (bU 2 [.gen 1 [.v (.slice none 0 0)],.bools 1 [false]] [0,1] [35,4] 32 false [(0,1),(1,1)])
 |251=>some yU
 |_=>U0 t0
theorem bd8:∀t i,D6 t=some i->D7 Tryz.prog t i:=by
 intro t i h
 unfold D6 at h
 split at h<;>first|(cases h;exact Bu (by kernel_rfl))|exact yOK _ _ h
theorem bd7:∀t i,D6 t=some i->i.eq=true->EqT Tryz.prog t i:=by
 intro t i h
 unfold D6 at h
 split at h<;>first|(cases h;intro he;cases he;done)|(cases h;intro _;exact Aj (by kernel_rfl))|exact yEq _ _ h
noncomputable def ak.KR(E:ak)(Y:TypeId->Option TI)(h1:∀t i,Y t=some i->D7 E.P t i)(h2:∀t i,Y t=some i->i.eq=true->EqT E.P t i):ak:=
 { P:=E.P,Y:=Y,G:=E.G,C:=E.C,M:=E.M,B:=E.B,hB:=E.hB,hY:=h1,hC:=E.hC,Ya:=E.Ya,fr:=E.fr,hfr:=E.hfr,hF:=E.hF,hE:=h2,hM:=E.hM }
end
noncomputable section
open Pm
attribute [local irreducible] aN aQ bq aC aD aF
theorem ji{x:A}{K:List UInt8->Prop}(h:sH x K):∃b,K b/\∀{S:Nat->Prop} {w:World} {v:Value},RA S w x v->RA S w (.row b.length [.bytes b.length b]) v:=by
 unfold sH at h
 split at h
 ·next n m b=>
  obtain⟨rfl,h⟩:=h
  refine⟨b,h,fun {S w v} hv=>?_⟩
  have hl:b.length=n:=by
   cases hv with
   |row k1 k2 k3 k4 k5=>exact k1.iZ.1
  rw[hl]
  exact hv
 ·refine⟨[],h,fun {S w v} hv=>?_⟩
  cases hv with
  |row k1 k2 k3 k4 k5=>
   cases k1.qb
   exact .row (cs:=[]) (.ofBytes rfl rfl) k2 k3 k4 (.inl rfl)
 ·refine⟨[],h,fun {S w v} hv=>?_⟩
  rw[RA.plain hv]
  exact .row (cs:=[]) (.ofBytes rfl rfl) (Nat.le_refl _) (Nat.zero_le _) (fun _=>rfl) (.inl rfl)
 ·exact h.elim
def yj(g:Int->Int->Int):List A->(bC->Prop)->Prop
 |[.v (.int .i64 a),.v (.int .i64 b)],K=>K (.d (.v (.int .i64 (g a b))))
 |_,_=>False
theorem uU{g:Int->Int->Int}(h:∀a b w,Calls Tryz.prog f #[.int .i64 a,.int .i64 b] w fun e w'=>e=.returned (.int .i64 (g a b))/\w=w'):∀args K,yj g args K->∃r,aV f args r/\K r:=by
 intro args K hd
 unfold yj at hd
 split at hd
 ·exact⟨_,X0 fun w=>h _ _ w,hd⟩
 ·exact hd.elim
def U5(g:Int->Bool):List A->(bC->Prop)->Prop
 |[.v (.int .i64 a)],K=>K (.d (.v (.bool (g a))))
 |_,_=>False
theorem Nw{g:Int->Bool}(h:∀a w,Calls Tryz.prog f #[.int .i64 a] w fun e w'=>e=.returned (.bool (g a))/\w=w'):∀args K,U5 g args K->∃r,aV f args r/\K r:=by
 intro args K hd
 unfold U5 at hd
 split at hd
 ·exact⟨_,Ca fun w=>h _ w,hd⟩
 ·exact hd.elim
def Qj(g:List UInt8->Int):List A->(bC->Prop)->Prop
 |[.agg [.bytes 32 h]],K=>K (.d (.v (.int .i64 (g h))))
 |_,_=>False
theorem Hy{g:List UInt8->Int}(h:∀b,b.length=32->∀w,Calls Tryz.prog f #[HV b] w fun e w'=>e=.returned (.int .i64 (g b))/\Below w.heap.size w w'):∀args K,Qj g args K->∃r,aV f args r/\K r:=by
 intro args K hd
 unfold Qj at hd
 split at hd
 ·next b=>
  refine⟨_,fun S w vs _ ha=>?_,hd⟩
  obtain⟨v,rfl,h1⟩:=iC ha
  obtain⟨rfl,hh⟩:=xU h1
  refine(h b hh w).mono ?_
  rintro e w' ⟨rfl,hb⟩
  exact⟨_,rfl,.v _,hb⟩
 ·exact hd.elim
def Vv:List A->(bC->Prop)->Prop
 |[.v (.int .i64 n)],K=>K (.o 5 1 4 [.bytes 4 (bP n)])
 |_,_=>False
theorem Og(h:∀n w,Calls Tryz.prog f #[.int .i64 n] w fun e w'=>e=.returned (.slice (some ⟨w.heap.size,0,none⟩) 4 4)/\w'=w.alloc (.cells (HC (bP n)) 5)):∀args K,Vv args K->∃r,aV f args r/\K r:=by
 intro args K hd
 unfold Vv at hd
 split at hd
 ·next n=>
  have hl:(bP n).length=4:=by unfold bP;rfl
  refine⟨_,?_,hd⟩
  have h2:=Au (f:=f) (args:=[.v (.int .i64 n)]) (bs:=bP n) fun S w vs ha=>by
   obtain⟨v,rfl,h1⟩:=iC ha
   rw[RA.plain h1]
   refine(h n w).mono ?_
   rintro e w' ⟨rfl,rfl⟩
   exact⟨_,rfl,iA.Gm (aM.new w _ _) (Nat.le_refl _) hl.symm (by rw[hl];simp[maxLen]),Below.alloc (Below.refl _ _) (Nat.le_refl _) _⟩
  rw[hl]at h2
  exact h2
 ·exact hd.elim
def bm7(h:List UInt8):Int:=U (mK h 8)%1073741789
def bt2:ak:=ah5.KR D6 bd8 bd7
def bX9:ak:=bt2.add 163 (Qj bm7) (Hy fun b hb w=>Py b hb w) (.of Tryz.func163)
def bY0:ak:=bX9.add 119 (Qj aI) (Hy fun b hb w=>DF b hb w) (.of Tryz.func119)
def bY1:ak:=bY0
def bY2:ak:=bY1.add 64 (Qj aI) (Hy fun b hb w=>DL b hb w) (.of Tryz.func64)
def bY3:ak:=bY2.add 120 Vv (Og FH) (.of Tryz.func120)
def bY4:ak:=bY3
def bY5:ak:=bY4.add 104 (yj aJ) (uU Bg) (.of Tryz.func104)
def bY6:ak:=bY5.add 153 (yj eY) (uU LY) (.of Tryz.func153)
def bY7:ak:=bY6.add 170 (U5 dL) (Nw Ch) (.of Tryz.func170)
def bY8:ak:=bY7.add 65 (yj aJ) (uU PX) (.of Tryz.func65)
def bY9:ak:=bY8.add 108 (yj eY) (uU Ho) (.of Tryz.func108)
def bj0:ak:=bY9
attribute [local irreducible] aJ aI eY dL bP
def bq3:List A->(bC->Prop)->Prop
 |[.v (.int .i64 b),.v (.int .i64 y),x],K=>sH x fun p=>p.length<=1000000/\K (.d (.v (.int .i64 (wE b y p))))
 |_,_=>False
theorem aL3(h:∀b y p,p.length<=1000000->aV f [.v (.int .i64 b),.v (.int .i64 y),.row p.length [.bytes p.length p]] (.d (.v (.int .i64 (wE b y p))))):∀args K,bq3 args K->∃r,aV f args r/\K r:=by
 intro args K hd
 unfold bq3 at hd
 split at hd
 ·next b y x=>
  obtain⟨p,⟨hp,hd⟩,hv⟩:=ji hd
  refine⟨_,fun S w vs hG ha=>?_,hd⟩
  obtain⟨v1,v2,v3,rfl,h1,h2,h3⟩:=jH ha
  exact h b y p hp S w _ hG (.cons h1 (.cons h2 (.cons (hv h3) .nil)))
 ·exact hd.elim
set_option maxHeartbeats 1000000 in
theorem ab0(b y:Int)(p:List UInt8)(hp:p.length<=1000000):aV 121 [.v (.int .i64 b),.v (.int .i64 y),.row p.length [.bytes p.length p]] (.d (.v (.int .i64 (wE b y p)))):=by
 refine eO (E:=bj0) Tryz.func121 Tryz.ntmps121 ?_
 refine ah ?_;(try exact⟨⟩)
 simp only[wE,bm7,List.flatten_cons,List.flatten_nil,List.append_nil]
 rfl
def MG:Nat->Bk->List A->(bC->Bk->Prop)->Prop
 |0,.obj p,[],K=>∃s,p=mO s/\K (.d (.v (.int .i64 s))) (.obj (mO s))
 |_,_,_,_=>False
theorem Ud:∀pos x args K,MG pos x args K->∃r x',bV 118 pos x args r x'/\K r x':=by
 intro pos x args K hd
 unfold MG at hd
 split at hd
 ·next p=>
  obtain⟨s,rfl,hK⟩:=hd
  refine⟨_,_,fun S w r vs hr _ hx ha=>?_,hK⟩
  cases ha
  obtain⟨cs,t,h2,rfl,d,us,h3⟩:=hx
  have hb:aM w r (CD s d us) 184:=by unfold aM;rw[h2,<-h3]
  refine(Ue r s _ _ _ us w hb).mono ?_
  rintro e w' ⟨rfl,rfl⟩
  exact⟨_,rfl,.v _,⟨cs,_,h2,rfl,d,us,h3⟩,⟨rfl,rfl,rfl,Nat.le_refl _,fun _ _ _=>rfl⟩⟩
 ·exact hd.elim
def bZ0:ak:=bj0.add 121 bq3 (aL3 ab0) (.of Tryz.func121)
def bZ1:ak:=bZ0
def bZ2:ak:=bZ1.gI 62 Bh uW (.of Tryz.func62)
def ai7:ak:=bZ2.gI 118 MG Ud (.of Tryz.func118)
end
end Go.Proofs.YtegalalmamofdaaGreatDoor
