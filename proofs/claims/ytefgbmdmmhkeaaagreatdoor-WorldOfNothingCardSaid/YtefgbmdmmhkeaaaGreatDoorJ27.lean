/-
  Signatures as numbers. No program is named here.
-/
import Derived.Test.YtefgbmdmmhkeaaaGreatDoorJ25
namespace Go.Proofs.YtefgbmdmmhkeaaaGreatDoor
set_option linter.unusedVariables false
set_option linter.unusedSimpArgs false
set_option maxRecDepth 100000
open Go.RowKit
section
open Pm
theorem pw_round(m k:Nat):pw 4 (m+1073741789*k)=pw 4 m:=by
 rw[←pw_add,←pw_pw,four_Q,pw_one_base,Nat.mul_one,Nat.mod_eq_of_lt (pw_lt _ _)]
theorem pw_mod(m:Nat):pw 4 (m%1073741789)=pw 4 m:=by
 have h:=pw_round (m%1073741789) (m / 1073741789)
 rw[Nat.mod_add_div]at h
 exact h.symm
theorem begun(x r e:Int)(hx:0≤x∧x<1073741789)(hr:0≤r∧r<1073741789)(he:0≤e∧e<1073741789):
  mulI (powI 4 ((r+e*x)%1073741789)) (powI (powI 4 x) (1073741789-e))=powI 4 r:=by
 obtain⟨x,rfl⟩:=Int.eq_ofNat_of_zero_le hx.1
 obtain⟨r,rfl⟩:=Int.eq_ofNat_of_zero_le hr.1
 obtain⟨e,rfl⟩:=Int.eq_ofNat_of_zero_le he.1
 have e1:((r:Int)+e*x)%1073741789=(((r+e*x)%1073741789:Nat):Int):=by
  have hm:((e*x:Nat):Int)=(e:Int)*x:=Int.natCast_mul e x
  rw[←hm]
  generalize e*x=m
  omega
 have e2:(1073741789- (e:Int))=((1073741789-e:Nat):Int):=by omega
 have h1:powI 4 (((r+e*x)%1073741789:Nat):Int)=(pw 4 ((r+e*x)%1073741789):Int):=powI_nat 4 _ (by decide) (by omega)
 have h2:powI 4 (x:Int)=(pw 4 x:Int):=powI_nat 4 x (by decide) (by omega)
 have h3:powI 4 (r:Int)=(pw 4 r:Int):=powI_nat 4 r (by decide) (by omega)
 rw[e1,e2,h1,h2,h3,powI_nat (pw 4 x) (1073741789-e) (pw_lt _ _) (by omega),pw_pw,pw_mod,mulI_nat _ _ (pw_lt _ _) (pw_lt _ _),pw_add]
 have e3:r+e*x+x*(1073741789-e)=r+1073741789*x:=by
  have h4:x*(1073741789-e)+x*e=x*1073741789:=by rw[←Nat.mul_add,Nat.sub_add_cancel (by omega)]
  have h5:e*x=x*e:=Nat.mul_comm _ _
  have h6:1073741789*x=x*1073741789:=Nat.mul_comm _ _
  omega
 rw[e3,pw_round]
end
section
def yTab2(t0:TypeId):Option TI:=
 match t0 with
 |83=>some (tiStruct 2 [.ints .i64 2 [0,0]] [0,1] [3,3] 16 true [(0,1),(1,1)])
 |85=>some (tiStruct 3 [.ints .i64 3 [0,0,0]] [0,1] [3,83] 24 true [(0,1),(1,2)])
 |97=>some (tiSl 85 3)
 |100=>some (tiStruct 43 [.ints .i64 2 [0,0],.gen 2 [.v (.slice none 0 0),.v (.slice none 0 0)],.ints .i64 4 [0,0,0,0],.gen 1 [.v (.slice none 0 0)],.bytes 32 (List.replicate 32 0),.ints .i64 2 [0,0]] [0,1,2,3,4,5,8,9,41] [3,3,22,97,3,98,35,66,83] 168 false [(0,1),(1,1),(2,1),(3,1),(4,1),(5,3),(8,1),(9,32),(41,2)])
 |160=>some (tiStruct 108 [.ints .i64 2 [0,0],.ints .i64 1 [0],.ints .i64 31 (List.replicate 31 0),.bools 8 (List.replicate 8 false),.ints .i64 1 [0],.bytes 32 (List.replicate 32 0),.gen 1 [.v (.slice none 0 0)],.bytes 32 (List.replicate 32 0)] [0,1,2,75,76] [3,3,80,23,66] 376 false [(0,1),(1,1),(2,73),(75,1),(76,32)])
 |209=>some (tiStruct 2 [.gen 1 [.v (.slice none 0 0)],.bools 1 [false]] [0,1] [23,4] 32 false [(0,1),(1,1)])
 |247=>some tiPtr
 |_=>yTab t0
set_option maxRecDepth 100000 in
theorem yOK2:∀t i,yTab2 t=some i→TyOK Tryz.prog t i:=by
 intro t i h
 unfold yTab2 at h
 split at h<;>first|(cases h;exact tyB_spec (by kernel_rfl))|exact yOK _ _ h
set_option maxRecDepth 100000 in
theorem yEq2:∀t i,yTab2 t=some i→i.eq=true→EqT Tryz.prog t i:=by
 intro t i h
 unfold yTab2 at h
 split at h<;>first|(cases h;intro he;cases he;done)|(cases h;intro _;exact eqB_spec (by kernel_rfl))|exact yEq _ _ h
noncomputable def EnvX.withY(E:EnvX)(Y:TypeId→Option TI)(h1:∀t i,Y t=some i→TyOK E.P t i)(h2:∀t i,Y t=some i→i.eq=true→EqT E.P t i):EnvX:=
 { P:=E.P,Y:=Y,G:=E.G,C:=E.C,M:=E.M,B:=E.B,hB:=E.hB,hY:=h1,hC:=E.hC,hMu:=E.hMu,fr:=E.fr,hfr:=E.hfr,hF:=E.hF,hE:=h2,hM:=E.hM }
end
section
open Pm
attribute [local irreducible] condK LoopA regA numB deriveW numsB
theorem rowK_row{x:A}{K:List UInt8→Prop}(h:rowK x K):∃b,K b∧∀{S:Nat→Prop} {w:World} {v:Value},RA S w x v→RA S w (.row b.length [.bytes b.length b]) v:=by
 unfold rowK at h
 split at h
 ·next n m b=>
  obtain⟨rfl,h⟩:=h
  refine⟨b,h,fun {S w v} hv=>?_⟩
  have hl:b.length=n:=by
   cases hv with
   |row k1 k2 k3 k4 k5=>exact k1.toBytes.1
  rw[hl]
  exact hv
 ·refine⟨[],h,fun {S w v} hv=>?_⟩
  cases hv with
  |row k1 k2 k3 k4 k5=>
   cases k1.nil_inv
   exact .row (cs:=[]) (.ofBytes rfl rfl) k2 k3 k4 (.inl rfl)
 ·refine⟨[],h,fun {S w v} hv=>?_⟩
  rw[RA.plain hv]
  exact .row (cs:=[]) (.ofBytes rfl rfl) (Nat.le_refl _) (Nat.zero_le _) (fun _=>rfl) (.inl rfl)
 ·exact h.elim
def boolS(g:Int→Bool):List A→(Res→Prop)→Prop
 |[.v (.int .i64 a)],K=>K (.d (.v (.bool (g a))))
 |_,_=>False
theorem boolS_of{f:FuncId}{g:Int→Bool}(h:∀a w,Calls Tryz.prog f #[.int .i64 a] w fun e w'=>e=.returned (.bool (g a))∧w=w'):∀args K,boolS g args K→∃r,FnO f args r∧K r:=by
 intro args K hd
 unfold boolS at hd
 split at hd
 ·exact⟨_,fn_plain1 fun w=>h _ w,hd⟩
 ·exact hd.elim
def fourS:List A→(Res→Prop)→Prop
 |[.v (.int .i64 n)],K=>K (.o 5 1 4 [.bytes 4 (fourB n)])
 |_,_=>False
theorem fourS_of{f:FuncId}(h:∀n w,Calls Tryz.prog f #[.int .i64 n] w fun e w'=>e=.returned (.slice (some ⟨w.heap.size,0,none⟩) 4 4)∧w'=w.alloc (.cells (HC (fourB n)) 5)):∀args K,fourS args K→∃r,FnO f args r∧K r:=by
 intro args K hd
 unfold fourS at hd
 split at hd
 ·next n=>
  have hl:(fourB n).length=4:=by unfold fourB;rfl
  refine⟨_,?_,hd⟩
  have h2:=fn_own8 (f:=f) (args:=[.v (.int .i64 n)]) (bs:=fourB n) fun S w vs ha=>by
   obtain⟨v,rfl,h1⟩:=ra_one ha
   rw[RA.plain h1]
   refine(h n w).mono ?_
   rintro e w' ⟨rfl,rfl⟩
   exact⟨_,rfl,Own8.ofBlk (Blk.new w _ _) (Nat.le_refl _) hl.symm (by rw[hl];simp[maxLen]),Below.alloc (Below.refl _ _) (Nat.le_refl _) _⟩
  rw[hl]at h2
  exact h2
 ·exact hd.elim
attribute [local irreducible] powI scal mulI isI fourB
end
end Go.Proofs.YtefgbmdmmhkeaaaGreatDoor
