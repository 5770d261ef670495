/-
  Signatures as numbers. No program is named here.
-/
import Derived.Test.YtbdmnobocecnfaaGreatDoorJ25
namespace Go.Proofs.YtbdmnobocecnfaaGreatDoor
set_option linter.unusedVariables false
set_option linter.unusedSimpArgs false
set_option maxRecDepth 100000
open Go.RowKit
section
open Pm
def askW(b y:Int)(p:List UInt8):Int:=U (numN (deriveW (List.replicate 32 0) (sb ⟨#[115,105,103,110]⟩) [fourB b,fourB y,p].flatten) 8)%1073741789
def nonceW(x:Int)(p:List UInt8):Int:=U (numN (deriveW (List.replicate 32 0) (sb ⟨#[110,111,110,99,101]⟩) [fourB x,p].flatten) 8)%1073741788+1
def sigE(s:Int)(p:List UInt8):Int:=askW (powI 4 (nonceW s p)) (powI 4 s) p
def sigS(s:Int)(p:List UInt8):Int:=(nonceW s p+sigE s p*s)%1073741789
def verW(y:Int)(p:List UInt8)(e s:Int):Bool:=isI y&&decide (0≤e∧e<1073741789)&&decide (0≤s∧s<1073741789)&&(e==askW (mulI (powI 4 s) (powI y (1073741789-e))) y p)
theorem askW_bd(b y:Int)(p:List UInt8):0≤askW b y p∧askW b y p<1073741789:=by
 unfold askW
 omega
theorem nonceW_bd(x:Int)(p:List UInt8):1≤nonceW x p∧nonceW x p<1073741789:=by
 unfold nonceW
 omega
theorem sigE_bd(s:Int)(p:List UInt8):0≤sigE s p∧sigE s p<1073741789:=askW_bd _ _ _
theorem sigS_bd(s:Int)(p:List UInt8):0≤sigS s p∧sigS s p<1073741789:=by
 unfold sigS
 omega
theorem pw_round(m k:Nat):pw 4 (m+1073741789*k)=pw 4 m:=by
 rw[←pw_add,←pw_pw,four_Q,pw_one_base,Nat.mul_one,Nat.mod_eq_of_lt (pw_lt _ _)]
theorem pw_mod(m:Nat):pw 4 (m%1073741789)=pw 4 m:=by
 have h:=pw_round (m%1073741789) (m / 1073741789)
 rw[Nat.mod_add_div]at h
 exact h.symm
theorem begun(x r e:Int)(hx:0≤x∧x<1073741789)(hr:0≤r∧r<1073741789)(he:0≤e∧e<1073741789):
  mulI (powI 4 ((r+e*x)%1073741789)) (powI (powI 4 x) (1073741789-e))=powI 4 r:=by
 obtain⟨x,rfl⟩:=Int.eq_ofNat_of_zero_le hx.1
 obtain⟨r,rfl⟩:=Int.eq_ofNat_of_zero_le hr.1
 obtain⟨e,rfl⟩:=Int.eq_ofNat_of_zero_le he.1
 have e1:((r:Int)+e*x)%1073741789=(((r+e*x)%1073741789:Nat):Int):=by
  have hm:((e*x:Nat):Int)=(e:Int)*x:=Int.natCast_mul e x
  rw[←hm]
  generalize e*x=m
  omega
 have e2:(1073741789- (e:Int))=((1073741789-e:Nat):Int):=by omega
 have h1:powI 4 (((r+e*x)%1073741789:Nat):Int)=(pw 4 ((r+e*x)%1073741789):Int):=powI_nat 4 _ (by decide) (by omega)
 have h2:powI 4 (x:Int)=(pw 4 x:Int):=powI_nat 4 x (by decide) (by omega)
 have h3:powI 4 (r:Int)=(pw 4 r:Int):=powI_nat 4 r (by decide) (by omega)
 rw[e1,e2,h1,h2,h3,powI_nat (pw 4 x) (1073741789-e) (pw_lt _ _) (by omega),pw_pw,pw_mod,mulI_nat _ _ (pw_lt _ _) (pw_lt _ _),pw_add]
 have e3:r+e*x+x*(1073741789-e)=r+1073741789*x:=by
  have h4:x*(1073741789-e)+x*e=x*1073741789:=by rw[←Nat.mul_add,Nat.sub_add_cancel (by omega)]
  have h5:e*x=x*e:=Nat.mul_comm _ _
  have h6:1073741789*x=x*1073741789:=Nat.mul_comm _ _
  omega
 rw[e3,pw_round]
end
section
def yTab2(t0:TypeId):Option TI:=
 match t0 with
 |97=>some (tiStruct 2 [.ints .i64 2 [0,0]] [0,1] [3,3] 16 true [(0,1),(1,1)])
 |99=>some (tiStruct 3 [.ints .i64 3 [0,0,0]] [0,1] [3,97] 24 true [(0,1),(1,2)])
 |109=>some (tiSl 99 3)
 |112=>some (tiStruct 43 [.ints .i64 2 [0,0],.gen 2 [.v (.slice none 0 0),.v (.slice none 0 0)],.ints .i64 4 [0,0,0,0],.gen 1 [.v (.slice none 0 0)],.bytes 32 (List.replicate 32 0),.ints .i64 2 [0,0]] [0,1,2,3,4,5,8,9,41] [3,3,32,109,3,110,56,28,97] 168 false [(0,1),(1,1),(2,1),(3,1),(4,1),(5,3),(8,1),(9,32),(41,2)])
 |165=>some (tiStruct 108 [.ints .i64 2 [0,0],.ints .i64 1 [0],.ints .i64 31 (List.replicate 31 0),.bools 8 (List.replicate 8 false),.ints .i64 1 [0],.bytes 32 (List.replicate 32 0),.gen 1 [.v (.slice none 0 0)],.bytes 32 (List.replicate 32 0)] [0,1,2,75,76] [3,3,80,35,28] 376 false [(0,1),(1,1),(2,73),(75,1),(76,32)])
 |212=>some (tiStruct 2 [.gen 1 [.v (.slice none 0 0)],.bools 1 [false]] [0,1] [35,4] 32 false [(0,1),(1,1)])
 |249=>some tiPtr
 |_=>yTab t0
set_option maxRecDepth 100000 in
theorem yOK2:∀t i,yTab2 t=some i→TyOK Tryz.prog t i:=by
 intro t i h
 unfold yTab2 at h
 split at h<;>first|(cases h;exact tyB_spec (by kernel_rfl))|exact yOK _ _ h
set_option maxRecDepth 100000 in
theorem yEq2:∀t i,yTab2 t=some i→i.eq=true→EqT Tryz.prog t i:=by
 intro t i h
 unfold yTab2 at h
 split at h<;>first|(cases h;intro he;cases he;done)|(cases h;intro _;exact eqB_spec (by kernel_rfl))|exact yEq _ _ h
noncomputable def EnvX.withY(E:EnvX)(Y:TypeId→Option TI)(h1:∀t i,Y t=some i→TyOK E.P t i)(h2:∀t i,Y t=some i→i.eq=true→EqT E.P t i):EnvX:=
 { P:=E.P,Y:=Y,G:=E.G,C:=E.C,M:=E.M,B:=E.B,hB:=E.hB,hY:=h1,hC:=E.hC,hMu:=E.hMu,fr:=E.fr,hfr:=E.hfr,hF:=E.hF,hE:=h2,hM:=E.hM }
end
section
open Pm
attribute [local irreducible] condK LoopA regA numB deriveW numsB
theorem rowK_row{x:A}{K:List UInt8→Prop}(h:rowK x K):∃b,K b∧∀{S:Nat→Prop} {w:World} {v:Value},RA S w x v→RA S w (.row b.length [.bytes b.length b]) v:=by
 unfold rowK at h
 split at h
 ·next n m b=>
  obtain⟨rfl,h⟩:=h
  refine⟨b,h,fun {S w v} hv=>?_⟩
  have hl:b.length=n:=by
   cases hv with
   |row k1 k2 k3 k4 k5=>exact k1.toBytes.1
  rw[hl]
  exact hv
 ·refine⟨[],h,fun {S w v} hv=>?_⟩
  cases hv with
  |row k1 k2 k3 k4 k5=>
   cases k1.nil_inv
   exact .row (cs:=[]) (.ofBytes rfl rfl) k2 k3 k4 (.inl rfl)
 ·refine⟨[],h,fun {S w v} hv=>?_⟩
  rw[RA.plain hv]
  exact .row (cs:=[]) (.ofBytes rfl rfl) (Nat.le_refl _) (Nat.zero_le _) (fun _=>rfl) (.inl rfl)
 ·exact h.elim
def plain2S(g:Int→Int→Int):List A→(Res→Prop)→Prop
 |[.v (.int .i64 a),.v (.int .i64 b)],K=>K (.d (.v (.int .i64 (g a b))))
 |_,_=>False
theorem plain2S_of{f:FuncId}{g:Int→Int→Int}(h:∀a b w,Calls Tryz.prog f #[.int .i64 a,.int .i64 b] w fun e w'=>e=.returned (.int .i64 (g a b))∧w=w'):∀args K,plain2S g args K→∃r,FnO f args r∧K r:=by
 intro args K hd
 unfold plain2S at hd
 split at hd
 ·exact⟨_,fn_plain2 fun w=>h _ _ w,hd⟩
 ·exact hd.elim
def boolS(g:Int→Bool):List A→(Res→Prop)→Prop
 |[.v (.int .i64 a)],K=>K (.d (.v (.bool (g a))))
 |_,_=>False
theorem boolS_of{f:FuncId}{g:Int→Bool}(h:∀a w,Calls Tryz.prog f #[.int .i64 a] w fun e w'=>e=.returned (.bool (g a))∧w=w'):∀args K,boolS g args K→∃r,FnO f args r∧K r:=by
 intro args K hd
 unfold boolS at hd
 split at hd
 ·exact⟨_,fn_plain1 fun w=>h _ w,hd⟩
 ·exact hd.elim
def sumNS(g:List UInt8→Int):List A→(Res→Prop)→Prop
 |[.agg [.bytes 32 h]],K=>K (.d (.v (.int .i64 (g h))))
 |_,_=>False
theorem sumNS_of{f:FuncId}{g:List UInt8→Int}(h:∀b,b.length=32→∀w,Calls Tryz.prog f #[HV b] w fun e w'=>e=.returned (.int .i64 (g b))∧Below w.heap.size w w'):∀args K,sumNS g args K→∃r,FnO f args r∧K r:=by
 intro args K hd
 unfold sumNS at hd
 split at hd
 ·next b=>
  refine⟨_,fun S w vs _ ha=>?_,hd⟩
  obtain⟨v,rfl,h1⟩:=ra_one ha
  obtain⟨rfl,hh⟩:=hash_of h1
  refine(h b hh w).mono ?_
  rintro e w' ⟨rfl,hb⟩
  exact⟨_,rfl,.v _,hb⟩
 ·exact hd.elim
def fourS:List A→(Res→Prop)→Prop
 |[.v (.int .i64 n)],K=>K (.o 5 1 4 [.bytes 4 (fourB n)])
 |_,_=>False
theorem fourS_of{f:FuncId}(h:∀n w,Calls Tryz.prog f #[.int .i64 n] w fun e w'=>e=.returned (.slice (some ⟨w.heap.size,0,none⟩) 4 4)∧w'=w.alloc (.cells (HC (fourB n)) 5)):∀args K,fourS args K→∃r,FnO f args r∧K r:=by
 intro args K hd
 unfold fourS at hd
 split at hd
 ·next n=>
  have hl:(fourB n).length=4:=by unfold fourB;rfl
  refine⟨_,?_,hd⟩
  have h2:=fn_own8 (f:=f) (args:=[.v (.int .i64 n)]) (bs:=fourB n) fun S w vs ha=>by
   obtain⟨v,rfl,h1⟩:=ra_one ha
   rw[RA.plain h1]
   refine(h n w).mono ?_
   rintro e w' ⟨rfl,rfl⟩
   exact⟨_,rfl,Own8.ofBlk (Blk.new w _ _) (Nat.le_refl _) hl.symm (by rw[hl];simp[maxLen]),Below.alloc (Below.refl _ _) (Nat.le_refl _) _⟩
  rw[hl]at h2
  exact h2
 ·exact hd.elim
def scalN(h:List UInt8):Int:=U (numN h 8)%1073741789
noncomputable def envK4y:EnvX:=envK4.withY yTab2 yOK2 yEq2
noncomputable def envS0:EnvX:=envK4y.add 159 (sumNS scalN) (sumNS_of fun b hb w=>pnumber_any b hb w) ⟨_,Tryz.func159,by kernel_rfl,by kernel_rfl⟩
noncomputable def envS1:EnvX:=envS0.add 115 (sumNS scal) (sumNS_of fun b hb w=>pscalar_any b hb w) ⟨_,Tryz.func115,by kernel_rfl,by kernel_rfl⟩
noncomputable def envS2:EnvX:=envS1
noncomputable def envS3:EnvX:=envS2.add 60 (sumNS scal) (sumNS_of fun b hb w=>rscalar_any b hb w) ⟨_,Tryz.func60,by kernel_rfl,by kernel_rfl⟩
noncomputable def envS4:EnvX:=envS3.add 116 fourS (fourS_of four_any) ⟨_,Tryz.func116,by kernel_rfl,by kernel_rfl⟩
noncomputable def envS5:EnvX:=envS4
noncomputable def envS6:EnvX:=envS5.add 99 (plain2S powI) (plain2S_of pow_any) ⟨_,Tryz.func99,by kernel_rfl,by kernel_rfl⟩
noncomputable def envS7:EnvX:=envS6.add 147 (plain2S mulI) (plain2S_of mul_any) ⟨_,Tryz.func147,by kernel_rfl,by kernel_rfl⟩
noncomputable def envS8:EnvX:=envS7.add 166 (boolS isI) (boolS_of is_any) ⟨_,Tryz.func166,by kernel_rfl,by kernel_rfl⟩
noncomputable def envS9:EnvX:=envS8.add 61 (plain2S powI) (plain2S_of rpow_any) ⟨_,Tryz.func61,by kernel_rfl,by kernel_rfl⟩
noncomputable def envSa:EnvX:=envS9.add 104 (plain2S mulI) (plain2S_of rmul_any) ⟨_,Tryz.func104,by kernel_rfl,by kernel_rfl⟩
noncomputable def envSb:EnvX:=envSa
attribute [local irreducible] powI scal mulI isI fourB
def askS:List A→(Res→Prop)→Prop
 |[.v (.int .i64 b),.v (.int .i64 y),x],K=>rowK x fun p=>p.length≤1000000∧K (.d (.v (.int .i64 (askW b y p))))
 |_,_=>False
theorem askS_of{f:FuncId}(h:∀b y p,p.length≤1000000→FnO f [.v (.int .i64 b),.v (.int .i64 y),.row p.length [.bytes p.length p]] (.d (.v (.int .i64 (askW b y p))))):∀args K,askS args K→∃r,FnO f args r∧K r:=by
 intro args K hd
 unfold askS at hd
 split at hd
 ·next b y x=>
  obtain⟨p,⟨hp,hd⟩,hv⟩:=rowK_row hd
  refine⟨_,fun S w vs hG ha=>?_,hd⟩
  obtain⟨v1,v2,v3,rfl,h1,h2,h3⟩:=ra_three ha
  exact h b y p hp S w _ hG (.cons h1 (.cons h2 (.cons (hv h3) .nil)))
 ·exact hd.elim
set_option maxHeartbeats 1000000 in
theorem asked_fn(b y:Int)(p:List UInt8)(hp:p.length≤1000000):FnO 117 [.v (.int .i64 b),.v (.int .i64 y),.row p.length [.bytes p.length p]] (.d (.v (.int .i64 (askW b y p)))):=by
 refine fnA (E:=envSb) Tryz.func117 Tryz.ntmps117 ?_
 refine agow ?_;(try exact⟨⟩)
 simp only[askW,scalN,List.flatten_cons,List.flatten_nil,List.append_nil]
 rfl
def secretS:Nat→Bk→List A→(Res→Bk→Prop)→Prop
 |0,.obj p,[],K=>∃s,p=KeyP s∧K (.d (.v (.int .i64 s))) (.obj (KeyP s))
 |_,_,_,_=>False
theorem secretS_ok:∀pos x args K,secretS pos x args K→∃r x',FnMO 114 pos x args r x'∧K r x':=by
 intro pos x args K hd
 unfold secretS at hd
 split at hd
 ·next p=>
  obtain⟨s,rfl,hK⟩:=hd
  refine⟨_,_,fun S w r vs hr _ hx ha=>?_,hK⟩
  cases ha
  obtain⟨cs,t,h2,rfl,d,us,h3⟩:=hx
  have hb:Blk w r (CD s d us) 180:=by unfold Blk;rw[h2,←h3]
  refine(secret_any r s _ _ _ us w hb).mono ?_
  rintro e w' ⟨rfl,rfl⟩
  exact⟨_,rfl,.v _,⟨cs,_,h2,rfl,d,us,h3⟩,⟨rfl,rfl,rfl,Nat.le_refl _,fun _ _ _=>rfl⟩⟩
 ·exact hd.elim
noncomputable def envSc:EnvX:=envSb.add 117 askS (askS_of asked_fn) ⟨_,Tryz.func117,by kernel_rfl,by kernel_rfl⟩
noncomputable def envSd:EnvX:=envSc
noncomputable def envSe:EnvX:=envSd.addM 55 publicS publicS_ok ⟨_,Tryz.func55,by kernel_rfl,by kernel_rfl⟩
noncomputable def envSf:EnvX:=envSe.addM 114 secretS secretS_ok ⟨_,Tryz.func114,by kernel_rfl,by kernel_rfl⟩
end
end Go.Proofs.YtbdmnobocecnfaaGreatDoor
