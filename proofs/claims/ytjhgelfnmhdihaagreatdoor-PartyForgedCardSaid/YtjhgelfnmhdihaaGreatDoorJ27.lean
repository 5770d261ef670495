/-
  Signatures as numbers. No program is named here.
-/
import Derived.Test.YtjhgelfnmhdihaaGreatDoorJ25
namespace Go.Proofs.YtjhgelfnmhdihaaGreatDoor
set_option linter.unusedVariables false
set_option linter.unusedSimpArgs false
set_option maxRecDepth 100000
open Go.RowKit
section
open Pm
def rT(b y:Int)(p:List UInt8):Int:=U (kL (aF (List.replicate 32 0) (sb ⟨#[115,105,103,110]⟩) [bD b,bD y,p].flatten) 8)%1073741789
def jP(x:Int)(p:List UInt8):Int:=U (kL (aF (List.replicate 32 0) (sb ⟨#[110,111,110,99,101]⟩) [bD x,p].flatten) 8)%1073741788+1
def jo(s:Int)(p:List UInt8):Int:=rT (aA 4 (jP s p)) (aA 4 s) p
def jQ(s:Int)(p:List UInt8):Int:=(jP s p+jo s p*s)%1073741789
def fV(y:Int)(p:List UInt8)(e s:Int):Bool:=cO y&&decide (0≤e∧e<1073741789)&&decide (0≤s∧s<1073741789)&&(e==rT (dB (aA 4 s) (aA y (1073741789-e))) y p)
theorem al5(b y:Int)(p:List UInt8):0≤rT b y p∧rT b y p<1073741789:=by
 unfold rT
 omega
theorem Ac(x:Int)(p:List UInt8):1≤jP x p∧jP x p<1073741789:=by
 unfold jP
 omega
theorem JL(s:Int)(p:List UInt8):0≤jo s p∧jo s p<1073741789:=al5 _ _ _
theorem ay2(s:Int)(p:List UInt8):0≤jQ s p∧jQ s p<1073741789:=by
 unfold jQ
 omega
theorem Mf(m k:Nat):pw 4 (m+1073741789*k)=pw 4 m:=by
 rw[←Ao,←Ev,Dn,uX,Nat.mul_one,Nat.mod_eq_of_lt (wO _ _)]
theorem aS7(m:Nat):pw 4 (m%1073741789)=pw 4 m:=by
 have h:=Mf (m%1073741789) (m / 1073741789)
 rw[Nat.mod_add_div]at h
 exact h.symm
theorem begun(x r e:Int)(hx:0≤x∧x<1073741789)(hr:0≤r∧r<1073741789)(he:0≤e∧e<1073741789):
  dB (aA 4 ((r+e*x)%1073741789)) (aA (aA 4 x) (1073741789-e))=aA 4 r:=by
 obtain⟨x,rfl⟩:=Int.eq_ofNat_of_zero_le hx.1
 obtain⟨r,rfl⟩:=Int.eq_ofNat_of_zero_le hr.1
 obtain⟨e,rfl⟩:=Int.eq_ofNat_of_zero_le he.1
 have e1:((r:Int)+e*x)%1073741789=(((r+e*x)%1073741789:Nat):Int):=by
  have hm:((e*x:Nat):Int)=(e:Int)*x:=Int.natCast_mul e x
  rw[←hm]
  generalize e*x=m
  omega
 have e2:(1073741789- (e:Int))=((1073741789-e:Nat):Int):=by omega
 have h1:aA 4 (((r+e*x)%1073741789:Nat):Int)=(pw 4 ((r+e*x)%1073741789):Int):=jd 4 _ (by decide) (by omega)
 have h2:aA 4 (x:Int)=(pw 4 x:Int):=jd 4 x (by decide) (by omega)
 have h3:aA 4 (r:Int)=(pw 4 r:Int):=jd 4 r (by decide) (by omega)
 rw[e1,e2,h1,h2,h3,jd (pw 4 x) (1073741789-e) (wO _ _) (by omega),Ev,aS7,Ll _ _ (wO _ _) (wO _ _),Ao]
 have e3:r+e*x+x*(1073741789-e)=r+1073741789*x:=by
  have h4:x*(1073741789-e)+x*e=x*1073741789:=by rw[←Nat.mul_add,Nat.sub_add_cancel (by omega)]
  have h5:e*x=x*e:=Nat.mul_comm _ _
  have h6:1073741789*x=x*1073741789:=Nat.mul_comm _ _
  omega
 rw[e3,Mf]
theorem Y7(s:Int)(hs:1≤s∧s<1073741789):cO (aA 4 s)=true:=by
 obtain⟨n,rfl⟩:=Int.eq_ofNat_of_zero_le (show 0≤s by omega)
 rw[show aA 4 (n:Int)=(pw 4 n:Int)from jd 4 n (by decide) (by omega)]
 exact yQ n (by omega) (by omega)
theorem ah4(s:Int)(p:List UInt8)(hs:1≤s∧s<1073741789):fV (aA 4 s) p (jo s p) (jQ s p)=true:=by
 have hn:=Ac s p
 have hE:=JL s p
 unfold fV
 rw[Y7 s hs,decide_eq_true hE,decide_eq_true (ay2 s p)]
 have h:=begun s (jP s p) (jo s p) ⟨by omega,hs.2⟩ ⟨by omega,hn.2⟩ hE
 have h2:jQ s p=(jP s p+jo s p*s)%1073741789:=rfl
 rw[h2,h]
 simp[jo]
end
section
def Fh(t0:TypeId):Option TI:=
 match t0 with
 |63=>some (bF 2 [.ints .i64 2 [0,0]] [0,1] [3,3] 16 true [(0,1),(1,1)])
 |99=>some (bF 3 [.ints .i64 3 [0,0,0]] [0,1] [3,63] 24 true [(0,1),(1,2)])
 |58=>some (kS 99 3)
 |65=>some (bF 43 [.ints .i64 2 [0,0],.gen 2 [.v (.slice none 0 0),.v (.slice none 0 0)],.ints .i64 4 [0,0,0,0],.gen 1 [.v (.slice none 0 0)],.bytes 32 (List.replicate 32 0),.ints .i64 2 [0,0]] [0,1,2,3,4,5,8,9,41] [3,3,25,58,3,60,61,48,63] 168 false [(0,1),(1,1),(2,1),(3,1),(4,1),(5,3),(8,1),(9,32),(41,2)])
 |88=>some (bF 108 [.ints .i64 2 [0,0],.ints .i64 1 [0],.ints .i64 31 (List.replicate 31 0),.bools 8 (List.replicate 8 false),.ints .i64 1 [0],.bytes 32 (List.replicate 32 0),.gen 1 [.v (.slice none 0 0)],.bytes 32 (List.replicate 32 0)] [0,1,2,75,76] [3,3,50,78,48] 376 false [(0,1),(1,1),(2,73),(75,1),(76,32)])
 |_=>Wq t0
set_option maxRecDepth 100000 in
theorem aU3:∀t i,Fh t=some i→CG Tryz.prog t i:=by
 intro t i h
 unfold Fh at h
 split at h<;>first|(cases h;exact EX (by kernel_rfl))|exact yOK _ _ h
set_option maxRecDepth 100000 in
theorem aU2:∀t i,Fh t=some i→i.eq=true→EqT Tryz.prog t i:=by
 intro t i h
 unfold Fh at h
 split at h<;>first|(cases h;intro he;cases he;done)|(cases h;intro _;exact Di (by kernel_rfl))|exact yEq _ _ h
noncomputable def ay.ai1(E:ay)(Y:TypeId→Option TI)(h1:∀t i,Y t=some i→CG E.P t i)(h2:∀t i,Y t=some i→i.eq=true→EqT E.P t i):ay:=
 { P:=E.P,Y:=Y,G:=E.G,C:=E.C,M:=E.M,B:=E.B,hB:=E.hB,hY:=h1,hC:=E.hC,hMu:=E.hMu,fr:=E.fr,hfr:=E.hfr,hF:=E.hF,hE:=h2,hM:=E.hM }
end
section
open Pm
attribute [local irreducible] aU aZ bR bZ aF aN
theorem iD{x:A}{K:List UInt8→Prop}(h:pV x K):∃b,K b∧∀{S:Nat→Prop} {w:World} {v:Value},RA S w x v→RA S w (.row b.length [.bytes b.length b]) v:=by
 unfold pV at h
 split at h
 ·next n m b=>
  obtain⟨rfl,h⟩:=h
  refine⟨b,h,fun {S w v} hv=>?_⟩
  have hl:b.length=n:=by
   cases hv with
   |row k1 k2 k3 k4 k5=>exact k1.kM.1
  rw[hl]
  exact hv
 ·refine⟨[],h,fun {S w v} hv=>?_⟩
  cases hv with
  |row k1 k2 k3 k4 k5=>
   cases k1.oL
   exact .row (cs:=[]) (.ofBytes rfl rfl) k2 k3 k4 (.inl rfl)
 ·refine⟨[],h,fun {S w v} hv=>?_⟩
  rw[RA.plain hv]
  exact .row (cs:=[]) (.ofBytes rfl rfl) (Nat.le_refl _) (Nat.zero_le _) (fun _=>rfl) (.inl rfl)
 ·exact h.elim
def vT(g:Int→Int→Int):List A→(bP→Prop)→Prop
 |[.v (.int .i64 a),.v (.int .i64 b)],K=>K (.d (.v (.int .i64 (g a b))))
 |_,_=>False
theorem sQ{f:FuncId}{g:Int→Int→Int}(h:∀a b w,Calls Tryz.prog f #[.int .i64 a,.int .i64 b] w fun e w'=>e=.returned (.int .i64 (g a b))∧w=w'):∀args K,vT g args K→∃r,aP f args r∧K r:=by
 intro args K hd
 unfold vT at hd
 split at hd
 ·exact⟨_,Ub fun w=>h _ _ w,hd⟩
 ·exact hd.elim
def FP(g:Int→Bool):List A→(bP→Prop)→Prop
 |[.v (.int .i64 a)],K=>K (.d (.v (.bool (g a))))
 |_,_=>False
theorem yB{f:FuncId}{g:Int→Bool}(h:∀a w,Calls Tryz.prog f #[.int .i64 a] w fun e w'=>e=.returned (.bool (g a))∧w=w'):∀args K,FP g args K→∃r,aP f args r∧K r:=by
 intro args K hd
 unfold FP at hd
 split at hd
 ·exact⟨_,rA fun w=>h _ w,hd⟩
 ·exact hd.elim
def Hq(g:List UInt8→Int):List A→(bP→Prop)→Prop
 |[.agg [.bytes 32 h]],K=>K (.d (.v (.int .i64 (g h))))
 |_,_=>False
theorem zH{f:FuncId}{g:List UInt8→Int}(h:∀b,b.length=32→∀w,Calls Tryz.prog f #[HV b] w fun e w'=>e=.returned (.int .i64 (g b))∧Below w.heap.size w w'):∀args K,Hq g args K→∃r,aP f args r∧K r:=by
 intro args K hd
 unfold Hq at hd
 split at hd
 ·next b=>
  refine⟨_,fun S w vs _ ha=>?_,hd⟩
  obtain⟨v,rfl,h1⟩:=iP ha
  obtain⟨rfl,hh⟩:=yP h1
  refine(h b hh w).mono ?_
  rintro e w' ⟨rfl,hb⟩
  exact⟨_,rfl,.v _,hb⟩
 ·exact hd.elim
def KT:List A→(bP→Prop)→Prop
 |[.v (.int .i64 n)],K=>K (.o 5 1 4 [.bytes 4 (bD n)])
 |_,_=>False
theorem yO{f:FuncId}(h:∀n w,Calls Tryz.prog f #[.int .i64 n] w fun e w'=>e=.returned (.slice (some ⟨w.heap.size,0,none⟩) 4 4)∧w'=w.alloc (.cells (HC (bD n)) 5)):∀args K,KT args K→∃r,aP f args r∧K r:=by
 intro args K hd
 unfold KT at hd
 split at hd
 ·next n=>
  have hl:(bD n).length=4:=by unfold bD;rfl
  refine⟨_,?_,hd⟩
  have h2:=yN (f:=f) (args:=[.v (.int .i64 n)]) (bs:=bD n) fun S w vs ha=>by
   obtain⟨v,rfl,h1⟩:=iP ha
   rw[RA.plain h1]
   refine(h n w).mono ?_
   rintro e w' ⟨rfl,rfl⟩
   exact⟨_,rfl,gV.wN (bM.new w _ _) (Nat.le_refl _) hl.symm (by rw[hl];simp[maxLen]),Below.alloc (Below.refl _ _) (Nat.le_refl _) _⟩
  rw[hl]at h2
  exact h2
 ·exact hd.elim
def Sw(h:List UInt8):Int:=U (kL h 8)%1073741789
noncomputable def aM4:ay:=XY.ai1 Fh aU3 aU2
noncomputable def bg6:ay:=aM4.add 185 (Hq Sw) (zH fun b hb w=>L9 b hb w) ⟨_,Tryz.func185,by kernel_rfl,by kernel_rfl⟩
noncomputable def bg7:ay:=bg6.add 116 (Hq au) (zH fun b hb w=>Bo b hb w) ⟨_,Tryz.func116,by kernel_rfl,by kernel_rfl⟩
noncomputable def bg8:ay:=bg7.add 196 (Hq Sw) (zH fun b hb w=>Mq b hb w) ⟨_,Tryz.func196,by kernel_rfl,by kernel_rfl⟩
noncomputable def bg9:ay:=bg8.add 151 (Hq au) (zH fun b hb w=>Bu b hb w) ⟨_,Tryz.func151,by kernel_rfl,by kernel_rfl⟩
noncomputable def bh0:ay:=bg9.add 117 KT (yO Dp) ⟨_,Tryz.func117,by kernel_rfl,by kernel_rfl⟩
noncomputable def bh2:ay:=bh0.add 147 KT (yO Ar) ⟨_,Tryz.func147,by kernel_rfl,by kernel_rfl⟩
noncomputable def bh3:ay:=bh2.add 104 (vT aA) (sQ zk) ⟨_,Tryz.func104,by kernel_rfl,by kernel_rfl⟩
noncomputable def bh4:ay:=bh3.add 172 (vT dB) (sQ I9) ⟨_,Tryz.func172,by kernel_rfl,by kernel_rfl⟩
noncomputable def bh5:ay:=bh4.add 175 (FP cO) (yB zZ) ⟨_,Tryz.func175,by kernel_rfl,by kernel_rfl⟩
noncomputable def bh6:ay:=bh5.add 153 (vT aA) (sQ uZ) ⟨_,Tryz.func153,by kernel_rfl,by kernel_rfl⟩
noncomputable def bh7:ay:=bh6.add 155 (vT dB) (sQ EF) ⟨_,Tryz.func155,by kernel_rfl,by kernel_rfl⟩
noncomputable def Yb:ay:=bh7.add 144 (FP cO) (yB vY) ⟨_,Tryz.func144,by kernel_rfl,by kernel_rfl⟩
attribute [local irreducible] aA au dB cO bD
def al4:List A→(bP→Prop)→Prop
 |[.v (.int .i64 b),.v (.int .i64 y),x],K=>pV x fun p=>p.length≤1000000∧K (.d (.v (.int .i64 (rT b y p))))
 |_,_=>False
theorem Q0{f:FuncId}(h:∀b y p,p.length≤1000000→aP f [.v (.int .i64 b),.v (.int .i64 y),.row p.length [.bytes p.length p]] (.d (.v (.int .i64 (rT b y p))))):∀args K,al4 args K→∃r,aP f args r∧K r:=by
 intro args K hd
 unfold al4 at hd
 split at hd
 ·next b y x=>
  obtain⟨p,⟨hp,hd⟩,hv⟩:=iD hd
  refine⟨_,fun S w vs hG ha=>?_,hd⟩
  obtain⟨v1,v2,v3,rfl,h1,h2,h3⟩:=jI ha
  exact h b y p hp S w _ hG (.cons h1 (.cons h2 (.cons (hv h3) .nil)))
 ·exact hd.elim
set_option maxHeartbeats 1000000 in
theorem WX(b y:Int)(p:List UInt8)(hp:p.length≤1000000):aP 118 [.v (.int .i64 b),.v (.int .i64 y),.row p.length [.bytes p.length p]] (.d (.v (.int .i64 (rT b y p)))):=by
 refine dK (E:=Yb) Tryz.func118 Tryz.ntmps118 ?_
 refine aj ?_;(try exact⟨⟩)
 simp only[rT,Sw,List.flatten_cons,List.flatten_nil,List.append_nil]
 rfl
set_option maxHeartbeats 1000000 in
theorem Vf(b y:Int)(p:List UInt8)(hp:p.length≤1000000):aP 152 [.v (.int .i64 b),.v (.int .i64 y),.row p.length [.bytes p.length p]] (.d (.v (.int .i64 (rT b y p)))):=by
 refine dK (E:=Yb) Tryz.func152 Tryz.ntmps152 ?_
 have h4:∀n,(bD n).length=4:=fun n=>by unfold bD;rfl
 have h4b:=h4 b
 have h4y:=h4 y
 clear h4
 refine aj ?_;(try exact⟨⟩)
 simp only[rT,Sw,List.flatten_cons,List.flatten_nil,List.append_nil]
 rfl
def JH:Nat→Bk→List A→(bP→Bk→Prop)→Prop
 |0,.obj p,[],K=>∃s,p=p9 s∧K (.d (.v (.int .i64 s))) (.obj (p9 s))
 |_,_,_,_=>False
theorem Qe:∀pos x args K,JH pos x args K→∃r x',gq 115 pos x args r x'∧K r x':=by
 intro pos x args K hd
 unfold JH at hd
 split at hd
 ·next p=>
  obtain⟨s,rfl,hK⟩:=hd
  refine⟨_,_,fun S w r vs hr _ hx ha=>?_,hK⟩
  cases ha
  obtain⟨cs,t,h2,rfl,d,us,h3⟩:=hx
  have hb:bM w r (CD s d us) 182:=by unfold bM;rw[h2,←h3]
  refine(Qf r s _ _ _ us w hb).mono ?_
  rintro e w' ⟨rfl,rfl⟩
  exact⟨_,rfl,.v _,⟨cs,_,h2,rfl,d,us,h3⟩,⟨rfl,rfl,rfl,Nat.le_refl _,fun _ _ _=>rfl⟩⟩
 ·exact hd.elim
noncomputable def bh8:ay:=Yb.add 118 al4 (Q0 WX) ⟨_,Tryz.func118,by kernel_rfl,by kernel_rfl⟩
noncomputable def bh9:ay:=bh8.add 152 al4 (Q0 Vf) ⟨_,Tryz.func152,by kernel_rfl,by kernel_rfl⟩
noncomputable def bi0:ay:=bh9.kG 48 zn sV ⟨_,Tryz.func48,by kernel_rfl,by kernel_rfl⟩
noncomputable def KQ:ay:=bi0.kG 115 JH Qe ⟨_,Tryz.func115,by kernel_rfl,by kernel_rfl⟩
end
end Go.Proofs.YtjhgelfnmhdihaaGreatDoor
