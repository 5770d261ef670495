/-
  Signatures as numbers. No program is named here.
-/
import Derived.Test.YtjdjelopkhjdnaaGreatDoorJ25
namespace Go.Proofs.YtjdjelopkhjdnaaGreatDoor
set_option linter.unusedVariables false
set_option linter.unusedSimpArgs false
set_option maxRecDepth 100000
open Go.RowKit
section
open Pm
def rT(b y:Int)(p:List UInt8):Int:=U (kF (aF (List.replicate 32 0) (sb ⟨#[115,105,103,110]⟩) [bC b,bC y,p].flatten) 8)%1073741789
def jJ(x:Int)(p:List UInt8):Int:=U (kF (aF (List.replicate 32 0) (sb ⟨#[110,111,110,99,101]⟩) [bC x,p].flatten) 8)%1073741788+1
def jm(s:Int)(p:List UInt8):Int:=rT (aA 4 (jJ s p)) (aA 4 s) p
def jQ(s:Int)(p:List UInt8):Int:=(jJ s p+jm s p*s)%1073741789
def fO(y:Int)(p:List UInt8)(e s:Int):Bool:=cK y&&decide (0≤e∧e<1073741789)&&decide (0≤s∧s<1073741789)&&(e==rT (dA (aA 4 s) (aA y (1073741789-e))) y p)
theorem ak9(b y:Int)(p:List UInt8):0≤rT b y p∧rT b y p<1073741789:=by
 unfold rT
 omega
theorem zX(x:Int)(p:List UInt8):1≤jJ x p∧jJ x p<1073741789:=by
 unfold jJ
 omega
theorem Jv(s:Int)(p:List UInt8):0≤jm s p∧jm s p<1073741789:=ak9 _ _ _
theorem ax3(s:Int)(p:List UInt8):0≤jQ s p∧jQ s p<1073741789:=by
 unfold jQ
 omega
theorem LU(m k:Nat):pw 4 (m+1073741789*k)=pw 4 m:=by
 rw[←Ah,←Ej,Dg,uR,Nat.mul_one,Nat.mod_eq_of_lt (wK _ _)]
theorem aR2(m:Nat):pw 4 (m%1073741789)=pw 4 m:=by
 have h:=LU (m%1073741789) (m / 1073741789)
 rw[Nat.mod_add_div]at h
 exact h.symm
theorem begun(x r e:Int)(hx:0≤x∧x<1073741789)(hr:0≤r∧r<1073741789)(he:0≤e∧e<1073741789):
  dA (aA 4 ((r+e*x)%1073741789)) (aA (aA 4 x) (1073741789-e))=aA 4 r:=by
 obtain⟨x,rfl⟩:=Int.eq_ofNat_of_zero_le hx.1
 obtain⟨r,rfl⟩:=Int.eq_ofNat_of_zero_le hr.1
 obtain⟨e,rfl⟩:=Int.eq_ofNat_of_zero_le he.1
 have e1:((r:Int)+e*x)%1073741789=(((r+e*x)%1073741789:Nat):Int):=by
  have hm:((e*x:Nat):Int)=(e:Int)*x:=Int.natCast_mul e x
  rw[←hm]
  generalize e*x=m
  omega
 have e2:(1073741789- (e:Int))=((1073741789-e:Nat):Int):=by omega
 have h1:aA 4 (((r+e*x)%1073741789:Nat):Int)=(pw 4 ((r+e*x)%1073741789):Int):=iY 4 _ (by decide) (by omega)
 have h2:aA 4 (x:Int)=(pw 4 x:Int):=iY 4 x (by decide) (by omega)
 have h3:aA 4 (r:Int)=(pw 4 r:Int):=iY 4 r (by decide) (by omega)
 rw[e1,e2,h1,h2,h3,iY (pw 4 x) (1073741789-e) (wK _ _) (by omega),Ej,aR2,K8 _ _ (wK _ _) (wK _ _),Ah]
 have e3:r+e*x+x*(1073741789-e)=r+1073741789*x:=by
  have h4:x*(1073741789-e)+x*e=x*1073741789:=by rw[←Nat.mul_add,Nat.sub_add_cancel (by omega)]
  have h5:e*x=x*e:=Nat.mul_comm _ _
  have h6:1073741789*x=x*1073741789:=Nat.mul_comm _ _
  omega
 rw[e3,LU]
theorem Y1(s:Int)(hs:1≤s∧s<1073741789):cK (aA 4 s)=true:=by
 obtain⟨n,rfl⟩:=Int.eq_ofNat_of_zero_le (show 0≤s by omega)
 rw[show aA 4 (n:Int)=(pw 4 n:Int)from iY 4 n (by decide) (by omega)]
 exact yN n (by omega) (by omega)
theorem ag8(s:Int)(p:List UInt8)(hs:1≤s∧s<1073741789):fO (aA 4 s) p (jm s p) (jQ s p)=true:=by
 have hn:=zX s p
 have hE:=Jv s p
 unfold fO
 rw[Y1 s hs,decide_eq_true hE,decide_eq_true (ax3 s p)]
 have h:=begun s (jJ s p) (jm s p) ⟨by omega,hs.2⟩ ⟨by omega,hn.2⟩ hE
 have h2:jQ s p=(jJ s p+jm s p*s)%1073741789:=rfl
 rw[h2,h]
 simp[jm]
end
section
def EX(t0:TypeId):Option TI:=
 match t0 with
 |63=>some (bD 2 [.ints .i64 2 [0,0]] [0,1] [3,3] 16 true [(0,1),(1,1)])
 |91=>some (bD 3 [.ints .i64 3 [0,0,0]] [0,1] [3,63] 24 true [(0,1),(1,2)])
 |45=>some (kM 91 3)
 |65=>some (bD 43 [.ints .i64 2 [0,0],.gen 2 [.v (.slice none 0 0),.v (.slice none 0 0)],.ints .i64 4 [0,0,0,0],.gen 1 [.v (.slice none 0 0)],.bytes 32 (List.replicate 32 0),.ints .i64 2 [0,0]] [0,1,2,3,4,5,8,9,41] [3,3,25,45,3,60,61,37,63] 168 false [(0,1),(1,1),(2,1),(3,1),(4,1),(5,3),(8,1),(9,32),(41,2)])
 |79=>some (bD 108 [.ints .i64 2 [0,0],.ints .i64 1 [0],.ints .i64 31 (List.replicate 31 0),.bools 8 (List.replicate 8 false),.ints .i64 1 [0],.bytes 32 (List.replicate 32 0),.gen 1 [.v (.slice none 0 0)],.bytes 32 (List.replicate 32 0)] [0,1,2,75,76] [3,3,53,77,37] 376 false [(0,1),(1,1),(2,73),(75,1),(76,32)])
 |_=>V6 t0
set_option maxRecDepth 100000 in
theorem aS8:∀t i,EX t=some i→Cu Tryz.prog t i:=by
 intro t i h
 unfold EX at h
 split at h<;>first|(cases h;exact EL (by kernel_rfl))|exact yOK _ _ h
set_option maxRecDepth 100000 in
theorem aS7:∀t i,EX t=some i→i.eq=true→EqT Tryz.prog t i:=by
 intro t i h
 unfold EX at h
 split at h<;>first|(cases h;intro he;cases he;done)|(cases h;intro _;exact C9 (by kernel_rfl))|exact yEq _ _ h
noncomputable def av.ah5(E:av)(Y:TypeId→Option TI)(h1:∀t i,Y t=some i→Cu E.P t i)(h2:∀t i,Y t=some i→i.eq=true→EqT E.P t i):av:=
 { P:=E.P,Y:=Y,G:=E.G,C:=E.C,M:=E.M,B:=E.B,hB:=E.hB,hY:=h1,hC:=E.hC,hMu:=E.hMu,fr:=E.fr,hfr:=E.hfr,hF:=E.hF,hE:=h2,hM:=E.hM }
end
section
open Pm
attribute [local irreducible] aV aZ bQ bW aF aN
theorem iw{x:A}{K:List UInt8→Prop}(h:pO x K):∃b,K b∧∀{S:Nat→Prop} {w:World} {v:Value},RA S w x v→RA S w (.row b.length [.bytes b.length b]) v:=by
 unfold pO at h
 split at h
 ·next n m b=>
  obtain⟨rfl,h⟩:=h
  refine⟨b,h,fun {S w v} hv=>?_⟩
  have hl:b.length=n:=by
   cases hv with
   |row k1 k2 k3 k4 k5=>exact k1.kG.1
  rw[hl]
  exact hv
 ·refine⟨[],h,fun {S w v} hv=>?_⟩
  cases hv with
  |row k1 k2 k3 k4 k5=>
   cases k1.oD
   exact .row (cs:=[]) (.ofBytes rfl rfl) k2 k3 k4 (.inl rfl)
 ·refine⟨[],h,fun {S w v} hv=>?_⟩
  rw[RA.plain hv]
  exact .row (cs:=[]) (.ofBytes rfl rfl) (Nat.le_refl _) (Nat.zero_le _) (fun _=>rfl) (.inl rfl)
 ·exact h.elim
def vO(g:Int→Int→Int):List A→(bP→Prop)→Prop
 |[.v (.int .i64 a),.v (.int .i64 b)],K=>K (.d (.v (.int .i64 (g a b))))
 |_,_=>False
theorem sM{f:FuncId}{g:Int→Int→Int}(h:∀a b w,Calls Tryz.prog f #[.int .i64 a,.int .i64 b] w fun e w'=>e=.returned (.int .i64 (g a b))∧w=w'):∀args K,vO g args K→∃r,aQ f args r∧K r:=by
 intro args K hd
 unfold vO at hd
 split at hd
 ·exact⟨_,TL fun w=>h _ _ w,hd⟩
 ·exact hd.elim
def FB(g:Int→Bool):List A→(bP→Prop)→Prop
 |[.v (.int .i64 a)],K=>K (.d (.v (.bool (g a))))
 |_,_=>False
theorem yx{f:FuncId}{g:Int→Bool}(h:∀a w,Calls Tryz.prog f #[.int .i64 a] w fun e w'=>e=.returned (.bool (g a))∧w=w'):∀args K,FB g args K→∃r,aQ f args r∧K r:=by
 intro args K hd
 unfold FB at hd
 split at hd
 ·exact⟨_,ru fun w=>h _ w,hd⟩
 ·exact hd.elim
def GY(g:List UInt8→Int):List A→(bP→Prop)→Prop
 |[.agg [.bytes 32 h]],K=>K (.d (.v (.int .i64 (g h))))
 |_,_=>False
theorem zy{f:FuncId}{g:List UInt8→Int}(h:∀b,b.length=32→∀w,Calls Tryz.prog f #[HV b] w fun e w'=>e=.returned (.int .i64 (g b))∧Below w.heap.size w w'):∀args K,GY g args K→∃r,aQ f args r∧K r:=by
 intro args K hd
 unfold GY at hd
 split at hd
 ·next b=>
  refine⟨_,fun S w vs _ ha=>?_,hd⟩
  obtain⟨v,rfl,h1⟩:=iL ha
  obtain⟨rfl,hh⟩:=yM h1
  refine(h b hh w).mono ?_
  rintro e w' ⟨rfl,hb⟩
  exact⟨_,rfl,.v _,hb⟩
 ·exact hd.elim
def Ky:List A→(bP→Prop)→Prop
 |[.v (.int .i64 n)],K=>K (.o 5 1 4 [.bytes 4 (bC n)])
 |_,_=>False
theorem yL{f:FuncId}(h:∀n w,Calls Tryz.prog f #[.int .i64 n] w fun e w'=>e=.returned (.slice (some ⟨w.heap.size,0,none⟩) 4 4)∧w'=w.alloc (.cells (HC (bC n)) 5)):∀args K,Ky args K→∃r,aQ f args r∧K r:=by
 intro args K hd
 unfold Ky at hd
 split at hd
 ·next n=>
  have hl:(bC n).length=4:=by unfold bC;rfl
  refine⟨_,?_,hd⟩
  have h2:=yK (f:=f) (args:=[.v (.int .i64 n)]) (bs:=bC n) fun S w vs ha=>by
   obtain⟨v,rfl,h1⟩:=iL ha
   rw[RA.plain h1]
   refine(h n w).mono ?_
   rintro e w' ⟨rfl,rfl⟩
   exact⟨_,rfl,gP.wJ (bK.new w _ _) (Nat.le_refl _) hl.symm (by rw[hl];simp[maxLen]),Below.alloc (Below.refl _ _) (Nat.le_refl _) _⟩
  rw[hl]at h2
  exact h2
 ·exact hd.elim
def Sb(h:List UInt8):Int:=U (kF h 8)%1073741789
noncomputable def aL2:av:=XM.ah5 EX aS8 aS7
noncomputable def bf0:av:=aL2.add 167 (GY Sb) (zy fun b hb w=>LK b hb w) ⟨_,Tryz.func167,by kernel_rfl,by kernel_rfl⟩
noncomputable def bf1:av:=bf0.add 91 (GY au) (zy fun b hb w=>Bd b hb w) ⟨_,Tryz.func91,by kernel_rfl,by kernel_rfl⟩
noncomputable def bf2:av:=bf1.add 178 (GY Sb) (zy fun b hb w=>L8 b hb w) ⟨_,Tryz.func178,by kernel_rfl,by kernel_rfl⟩
noncomputable def bf3:av:=bf2.add 114 (GY au) (zy fun b hb w=>Bj b hb w) ⟨_,Tryz.func114,by kernel_rfl,by kernel_rfl⟩
noncomputable def bf4:av:=bf3.add 92 Ky (yL Dh) ⟨_,Tryz.func92,by kernel_rfl,by kernel_rfl⟩
noncomputable def bf5:av:=bf4.add 109 Ky (yL Ak) ⟨_,Tryz.func109,by kernel_rfl,by kernel_rfl⟩
noncomputable def bf6:av:=bf5.add 82 (vO aA) (sM ze) ⟨_,Tryz.func82,by kernel_rfl,by kernel_rfl⟩
noncomputable def bf7:av:=bf6.add 152 (vO dA) (sM IK) ⟨_,Tryz.func152,by kernel_rfl,by kernel_rfl⟩
noncomputable def bf8:av:=bf7.add 155 (FB cK) (yx zT) ⟨_,Tryz.func155,by kernel_rfl,by kernel_rfl⟩
noncomputable def bf9:av:=bf8.add 116 (vO aA) (sM uT) ⟨_,Tryz.func116,by kernel_rfl,by kernel_rfl⟩
noncomputable def bg0:av:=bf9.add 132 (vO dA) (sM Et) ⟨_,Tryz.func132,by kernel_rfl,by kernel_rfl⟩
noncomputable def X0:av:=bg0.add 106 (FB cK) (yx vT) ⟨_,Tryz.func106,by kernel_rfl,by kernel_rfl⟩
attribute [local irreducible] aA au dA cK bC
def ak8:List A→(bP→Prop)→Prop
 |[.v (.int .i64 b),.v (.int .i64 y),x],K=>pO x fun p=>p.length≤1000000∧K (.d (.v (.int .i64 (rT b y p))))
 |_,_=>False
theorem QI{f:FuncId}(h:∀b y p,p.length≤1000000→aQ f [.v (.int .i64 b),.v (.int .i64 y),.row p.length [.bytes p.length p]] (.d (.v (.int .i64 (rT b y p))))):∀args K,ak8 args K→∃r,aQ f args r∧K r:=by
 intro args K hd
 unfold ak8 at hd
 split at hd
 ·next b y x=>
  obtain⟨p,⟨hp,hd⟩,hv⟩:=iw hd
  refine⟨_,fun S w vs hG ha=>?_,hd⟩
  obtain⟨v1,v2,v3,rfl,h1,h2,h3⟩:=jC ha
  exact h b y p hp S w _ hG (.cons h1 (.cons h2 (.cons (hv h3) .nil)))
 ·exact hd.elim
set_option maxHeartbeats 1000000 in
theorem WJ(b y:Int)(p:List UInt8)(hp:p.length≤1000000):aQ 93 [.v (.int .i64 b),.v (.int .i64 y),.row p.length [.bytes p.length p]] (.d (.v (.int .i64 (rT b y p)))):=by
 refine dF (E:=X0) Tryz.func93 Tryz.ntmps93 ?_
 refine aj ?_;(try exact⟨⟩)
 simp only[rT,Sb,List.flatten_cons,List.flatten_nil,List.append_nil]
 rfl
set_option maxHeartbeats 1000000 in
theorem U1(b y:Int)(p:List UInt8)(hp:p.length≤1000000):aQ 115 [.v (.int .i64 b),.v (.int .i64 y),.row p.length [.bytes p.length p]] (.d (.v (.int .i64 (rT b y p)))):=by
 refine dF (E:=X0) Tryz.func115 Tryz.ntmps115 ?_
 have h4:∀n,(bC n).length=4:=fun n=>by unfold bC;rfl
 have h4b:=h4 b
 have h4y:=h4 y
 clear h4
 refine aj ?_;(try exact⟨⟩)
 simp only[rT,Sb,List.flatten_cons,List.flatten_nil,List.append_nil]
 rfl
def Js:Nat→Bk→List A→(bP→Bk→Prop)→Prop
 |0,.obj p,[],K=>∃s,p=pX s∧K (.d (.v (.int .i64 s))) (.obj (pX s))
 |_,_,_,_=>False
theorem PO:∀pos x args K,Js pos x args K→∃r x',fK 90 pos x args r x'∧K r x':=by
 intro pos x args K hd
 unfold Js at hd
 split at hd
 ·next p=>
  obtain⟨s,rfl,hK⟩:=hd
  refine⟨_,_,fun S w r vs hr _ hx ha=>?_,hK⟩
  cases ha
  obtain⟨cs,t,h2,rfl,d,us,h3⟩:=hx
  have hb:bK w r (CD s d us) 167:=by unfold bK;rw[h2,←h3]
  refine(PU r s _ _ _ us w hb).mono ?_
  rintro e w' ⟨rfl,rfl⟩
  exact⟨_,rfl,.v _,⟨cs,_,h2,rfl,d,us,h3⟩,⟨rfl,rfl,rfl,Nat.le_refl _,fun _ _ _=>rfl⟩⟩
 ·exact hd.elim
noncomputable def bg1:av:=X0.add 93 ak8 (QI WJ) ⟨_,Tryz.func93,by kernel_rfl,by kernel_rfl⟩
noncomputable def bg2:av:=bg1.add 115 ak8 (QI U1) ⟨_,Tryz.func115,by kernel_rfl,by kernel_rfl⟩
noncomputable def bg3:av:=bg2.kr 35 zf sO ⟨_,Tryz.func35,by kernel_rfl,by kernel_rfl⟩
noncomputable def Kt:av:=bg3.kr 90 Js PO ⟨_,Tryz.func90,by kernel_rfl,by kernel_rfl⟩
end
end Go.Proofs.YtjdjelopkhjdnaaGreatDoor
