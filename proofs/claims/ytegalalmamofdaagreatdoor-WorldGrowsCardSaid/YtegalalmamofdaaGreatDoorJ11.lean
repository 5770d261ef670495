/- -/
import Derived.Test.YtegalalmamofdaaGreatDoorChecked
import Derived.StillTailTactics
import Derived.Lib.QuietBelow
import Derived.Test.YtegalalmamofdaaGreatDoorJ6
import Derived.KernelRfl
import Derived.BigQuiet
import Derived.Laws.LoneSync
import Derived.RegionCalls
import Derived.Defers
import Derived.Tactics2
import Derived.RegionTactic
import Derived.ChangeAlike
import Derived.BigRegion
namespace Go.Proofs.YtegalalmamofdaaGreatDoor
set_option linter.all false
set_option maxRecDepth 100000
open Go.RowKit
set_option maxHeartbeats 8000000
variable{a b:Int}
section
def dU:Array Value:=#[.int .u8 0,.int .u8 0,.int .u8 0,.int .u8 0,.int .u8 0,.int .u8 0,.int .u8 0,.int .u8 0,.int .u8 0,.int .u8 0,.int .u8 0,.int .u8 0,.int .u8 0,.int .u8 0,.int .u8 0,.int .u8 0,
 .int .u8 0,.int .u8 0,.int .u8 0,.int .u8 0,.int .u8 0,.int .u8 0,.int .u8 0,.int .u8 0,.int .u8 0,.int .u8 0,.int .u8 0,.int .u8 0,.int .u8 0,.int .u8 0,.int .u8 0,.int .u8 0]
theorem zT:dU=HC (List.replicate 32 0):=by rfl
theorem zone:dU.all (·.oneCell')=true:=by rw[zT];exact wh _
theorem aJ5:(Tryz.prog.info? 28).map (·.size)=some dU.size:=by kernel_rfl
theorem info8:(Tryz.prog.info? 5).map (fun i=>(i.zero,i.size,i.bytes))=some (some (.int .u8 0),1,1):=by kernel_rfl
theorem be2(x:BitVec 64)(c:UInt8):bits .or .u64 (U x) (Bt c)=U (x|||w8 c):=by rw[<-bL8,bo7]
theorem Z7(x:BitVec 64):IntKind.u64.wrap (U x*256)=U (x<<<8):=Nj x 8
end
section
theorem dW{P:Program}{id:Nat}{Q:Exit->Act->World->Prop}{a:Act}{w:World}{l:List Oper}(n:Nat)(hm:P.follows .mixedOrders=true)(hB:Region.lexTailB .any l.toArray n=true)
  (h:wpStill P l.toArray w.drew (fun a'=>wpList P l.toArray Q (l.drop n) a' w.drew) (l.take n) a):(Code.region id l.toArray true).wp P Q a w:=
 wp_region_still_tail n hm hB h
theorem zR{P:Program}{c:Code}{Q:Exit->Act->World->Prop}{a:Act}{w:World}(h:∀w1,w1=w->c.wp P Q a w1):c.wp P Q a w:=h w rfl
end
section
def kV(n:Int)(s:Nat):UInt8:=UInt8.ofNat ((n / 2^s)%256).toNat
theorem xY(n:Int)(s:Nat):Bt (kV n s)=(n / 2^s)%256:=by
 unfold Bt kV
 rw[UInt8.toNat_ofNat']
 omega
def bP(n:Int):List UInt8:=[kV n 24,kV n 16,kV n 8,kV n 0]
theorem Sb(n:Int):#[Value.int .u8 (n / 16777216%256),Value.int .u8 (n / 65536%256),Value.int .u8 (n / 256%256),Value.int .u8 (n%256)]=HC (bP n):=by
 simp[HC,bP,xY]
theorem FH(n:Int)(w:World):
  Calls Tryz.prog 120 #[.int .i64 n] w fun e w'=>e=.returned (.slice (some ⟨w.heap.size,0,none⟩) 4 4)/\w'=w.alloc (.cells (HC (bP n)) 5):=by
 go_enter Tryz.func120,Tryz.ntmps120
 go_wp2
 go_ret
 exact⟨rfl,by rw[Sb]⟩
end
section
def mK(h:List UInt8):Nat->BitVec 64
 |0=>0
 |j+1=>(mK h j<<<8)|||w8 (h[j]?.getD 0)
attribute [local go_sem] be2 Z7
theorem JE(h:List UInt8)(hh:h.length=32)(w:World):
  Calls Tryz.prog 162 #[HV h] w fun e w'=>e=.returned (.int .u64 (U (mK h 8)))/\Below w.heap.size w w':=by
 have hB:=aM.new w (HC h) 28
 have hcell:∀j,j<8->∃c:UInt8,h[j]?=some c/\(w.alloc (.cells (HC h) 28)).cell? ⟨w.heap.size,j,none⟩=some (.int .u8 (Bt c)):=fun j hj=>
  ⟨h[j]'(by omega),List.getElem?_eq_getElem (by omega),(hB.cell j).trans (ql h j (by omega))⟩
 have HC0:=Lib.hid hcell
 have hsz:(HC h).size=32:=by rw[dO,hh]
 clear hB hcell
 unfold HV
 go_enter Tryz.func162,Tryz.ntmps162
 go_wp2
 go_loop [3,5,8] (fun x _ i=>∃k:Nat,k<=8/\i=.int .i64 k/\x=.int .u64 (U (mK h k))) (fun _ _ i=>8- (intOf i).toNat)
 case atStart=>exact⟨0,by omega,rfl,rfl⟩
 case round=>
  obtain⟨k,hk,rfl,rfl⟩:=hrel
  by_cases hlt:k<8
  ·obtain⟨c,hPc,hcell⟩:=HC0.out k hlt
   have hw8:IntKind.u64.wrap (Bt c)=Bt c:=IntWalk.u64_in _ (by have:=Nh c;omega)
   have HPC:=Lib.hid hPc;clear hPc
   go_wp2
   go_round
   case rel=>exact⟨k+1,by omega,by go_num,by show _=Value.int .u64 (U ((mK h k<<<8)|||w8 (h[k]?.getD 0)));rw[HPC.out];rfl⟩
   case measure=>simp[intOf];omega
  ·obtain rfl:k=8:=by omega
   go_wp2
   go_ret
   exact⟨rfl,(Below.refl _ _).next (Nat.le_refl _) _⟩
theorem TY(h:List UInt8)(hh:h.length=32)(m:Int)(hm:0<m/\m<=1073741789)(w:World):
  Calls Tryz.prog 106 #[HV h,.int .u64 m] w fun e w'=>e=.returned (.int .i64 (U (mK h 8)%m))/\Below w.heap.size w w':=by
 obtain⟨hm0,hm1⟩:=hm
 have hB:=aM.new w (HC h) 28
 have hcell:∀j,j<8->∃c:UInt8,h[j]?=some c/\(w.alloc (.cells (HC h) 28)).cell? ⟨w.heap.size,j,none⟩=some (.int .u8 (Bt c)):=fun j hj=>
  ⟨h[j]'(by omega),List.getElem?_eq_getElem (by omega),(hB.cell j).trans (ql h j (by omega))⟩
 have HC0:=Lib.hid hcell
 have hsz:(HC h).size=32:=by rw[dO,hh]
 clear hB hcell
 unfold HV
 go_enter Tryz.func106,Tryz.ntmps106
 go_wp2
 go_loop [5,6] (fun x i=>∃k:Nat,k<=8/\i=.int .i64 k/\x=.int .u64 (U (mK h k))) (fun _ i=>8- (intOf i).toNat)
 case atStart=>exact⟨0,by omega,rfl,rfl⟩
 case round=>
  obtain⟨k,hk,rfl,rfl⟩:=hrel
  by_cases hlt:k<8
  ·obtain⟨c,hPc,hcell⟩:=HC0.out k hlt
   have hw8:IntKind.u64.wrap (Bt c)=Bt c:=IntWalk.u64_in _ (by have:=Nh c;omega)
   have HPC:=Lib.hid hPc;clear hPc
   go_wp2
   go_round
   case rel=>exact⟨k+1,by omega,by go_num,by show _=Value.int .u64 (U ((mK h k<<<8)|||w8 (h[k]?.getD 0)));rw[HPC.out];rfl⟩
   case measure=>simp[intOf];omega
  ·obtain rfl:k=8:=by omega
   have hbd:=bo6 (mK h 8)
   generalize hx:U (mK h 8)=x at hbd ⊢
   have HX:=Lib.hid hx;clear hx
   have hx0:=hbd.1
   have hr0:0<=x%m:=Int.emod_nonneg _ (by omega)
   have hr1:x%m<m:=Int.emod_lt_of_pos _ hm0
   go_wp2
   go_ret
   exact⟨by rw[HX.out];rfl,(Below.refl _ _).next (Nat.le_refl _) _⟩
theorem DF(h:List UInt8)(hh:h.length=32)(w:World):
  Calls Tryz.prog 119 #[HV h] w fun e w'=>e=.returned (.int .i64 (U (mK h 8)%1073741788+1))/\Below w.heap.size w w':=by
 have hB:=aM.new w (HC h) 28
 have hsz:(Tryz.prog.info? 28).map (·.size)=some (HC h).size:=by rw[dO,hh];kernel_rfl
 have HB:=Lib.hid hB;have S1:=Lib.hid hsz;have HH:=Lib.hid hh
 clear hB hsz hh
 unfold HV
 go_enter Tryz.func119,Tryz.ntmps119
 go_wp2_with (first
  |(refine wpList_load_row rfl 28 _ rfl w.heap.size rfl 28 (HC h) (0,0) _ HB.out Tryz.underlying28 rfl S1.out ?_)
  |(go_at_call 162;refine(JE h HH.out _).mono ?_;rintro e w1 ⟨rfl,hb1⟩;have hbd:=bo6 (mK h 8);generalize hx:U (mK h 8)=x at hbd ⊢;have HX:=Lib.hid hx;clear hx;have hx0:=hbd.1;have hr0:0<=x%1073741788:=Int.emod_nonneg _ (by omega);have hr1:x%1073741788<1073741788:=Int.emod_lt_of_pos _ (by omega)))
 go_ret
 exact⟨by rw[HX.out];rfl,((Below.refl _ _).next (Nat.le_refl _) _).later hb1 (Nat.le_refl _)⟩
theorem DL(h:List UInt8)(hh:h.length=32)(w:World):
  Calls Tryz.prog 64 #[HV h] w fun e w'=>e=.returned (.int .i64 (U (mK h 8)%1073741788+1))/\Below w.heap.size w w':=by
 have hB:=aM.new w (HC h) 28
 have hsz:(Tryz.prog.info? 28).map (·.size)=some (HC h).size:=by rw[dO,hh];kernel_rfl
 have HB:=Lib.hid hB;have S1:=Lib.hid hsz;have HH:=Lib.hid hh
 clear hB hsz hh
 unfold HV
 go_enter Tryz.func64,Tryz.ntmps64
 go_wp2_with (first
  |(refine wpList_load_row rfl 28 _ rfl w.heap.size rfl 28 (HC h) (0,0) _ HB.out Tryz.underlying28 rfl S1.out ?_)
  |(go_at_call 106;refine(TY h HH.out 1073741788 (by omega) _).mono ?_;rintro e w1 ⟨rfl,hb1⟩;have hr0:0<=U (mK h 8)%1073741788:=Int.emod_nonneg _ (by omega);have hr1:U (mK h 8)%1073741788<1073741788:=Int.emod_lt_of_pos _ (by omega);generalize hx:U (mK h 8)%1073741788=x at hr0 hr1 ⊢;have HX:=Lib.hid hx;clear hx))
 go_ret
 exact⟨by rw[HX.out];rfl,((Below.refl _ _).next (Nat.le_refl _) _).later hb1 (Nat.le_refl _)⟩
theorem Py(h:List UInt8)(hh:h.length=32)(w:World):
  Calls Tryz.prog 163 #[HV h] w fun e w'=>e=.returned (.int .i64 (U (mK h 8)%1073741789))/\Below w.heap.size w w':=by
 have hB:=aM.new w (HC h) 28
 have hsz:(Tryz.prog.info? 28).map (·.size)=some (HC h).size:=by rw[dO,hh];kernel_rfl
 have HB:=Lib.hid hB;have S1:=Lib.hid hsz;have HH:=Lib.hid hh
 clear hB hsz hh
 unfold HV
 go_enter Tryz.func163,Tryz.ntmps163
 go_wp2_with (first
  |(refine wpList_load_row rfl 28 _ rfl w.heap.size rfl 28 (HC h) (0,0) _ HB.out Tryz.underlying28 rfl S1.out ?_)
  |(go_at_call 162;refine(JE h HH.out _).mono ?_;rintro e w1 ⟨rfl,hb1⟩;have hbd:=bo6 (mK h 8);generalize hx:U (mK h 8)=x at hbd ⊢;have HX:=Lib.hid hx;clear hx;have hx0:=hbd.1;have hr0:0<=x%1073741789:=Int.emod_nonneg _ (by omega);have hr1:x%1073741789<1073741789:=Int.emod_lt_of_pos _ (by omega)))
 go_ret
 exact⟨by rw[HX.out];rfl,((Below.refl _ _).next (Nat.le_refl _) _).later hb1 (Nat.le_refl _)⟩
end
section
namespace Pm
@[irreducible] def pw (b e : Nat) : Nat := b ^ e % 2147483579
theorem nR(b e:Nat):pw b e=b^e%2147483579:=by unfold pw;rfl
theorem yR(b e:Nat):pw b e<2147483579:=by rw[nR];exact Nat.mod_lt _ (by decide)
theorem bE6(b:Nat)(h:b<2147483579):pw b 1=b:=by rw[nR,Nat.pow_one,Nat.mod_eq_of_lt h]
theorem CU(b d e:Nat):pw b d*pw b e%2147483579=pw b (d+e):=by
 rw[nR,nR,nR,<-Nat.mul_mod,Nat.pow_add]
theorem GD(b d e:Nat):pw (pw b d) e=pw b (d*e):=by
 rw[nR,nR,nR,<-Nat.pow_mod,Nat.pow_mul]
theorem xw(e:Nat):pw 1 e=1:=by rw[nR,Nat.one_pow]
theorem Mw(e:Nat)(h:0<e):pw 0 e=0:=by rw[nR,Nat.zero_pow h]
def fp:Nat->Nat->Nat->Nat->Nat
 |0,y,_,_=>y
 |n+1,y,b,e=>if e=0 then y else fp n (if e%2=1 then y*b%2147483579 else y) (b*b%2147483579) (e / 2)
theorem half(b e:Nat):(b*b)^(e / 2)*b^(e%2)=b^e:=by
 rw[<-Nat.pow_two,<-Nat.pow_mul,<-Nat.pow_add];congr 1;omega
theorem step1(y b e:Nat)(h:e%2=1):(y*b%2147483579)*(b*b%2147483579)^(e / 2)%2147483579=y*b^e%2147483579:=by
 rw[Nat.mod_mul_mod,Nat.mul_mod,<-Nat.pow_mod,<-Nat.mul_mod,<-half b e,h,Nat.pow_one]
 congr 1
 rw[Nat.mul_assoc,Nat.mul_comm b]
theorem step0(y b e:Nat)(h:¬e%2=1):y*(b*b%2147483579)^(e / 2)%2147483579=y*b^e%2147483579:=by
 have h0:e%2=0:=by omega
 rw[Nat.mul_mod,<-Nat.pow_mod,<-Nat.mul_mod,<-half b e,h0,Nat.pow_zero,Nat.mul_one]
theorem Sc:∀(n y b e:Nat),e<2^n->y<2147483579->fp n y b e=y*b^e%2147483579
 |0,y,b,e,he,hy=>by
  have:e=0:=by simpa using he
  subst this
  rw[fp,Nat.pow_zero,Nat.mul_one,Nat.mod_eq_of_lt hy]
 |n+1,y,b,e,he,hy=>by
  rw[fp]
  by_cases h0:e=0
  ·subst h0;rw[if_pos rfl,Nat.pow_zero,Nat.mul_one,Nat.mod_eq_of_lt hy]
  ·rw[if_neg h0]
   by_cases h1:e%2=1
   ·rw[if_pos h1,Sc n _ _ _ (by rw[Nat.pow_succ]at he;omega) (Nat.mod_lt _ (by decide)),step1 _ _ _ h1]
   ·rw[if_neg h1,Sc n _ _ _ (by rw[Nat.pow_succ]at he;omega) hy,step0 _ _ _ h1]
theorem cg1(b e:Nat)(h:e<2^31):pw b e=fp 31 1 b e:=by
 rw[Sc 31 1 b e h (by decide),Nat.one_mul,nR]
theorem FE:pw 4 1073741789=1:=by rw[cg1 _ _ (by decide)];decide+kernel
def Ct:Nat->Nat->Bool
 |0,lo=>1073741789%lo !=0
 |d+1,lo=>Ct d lo&&Ct d (lo+2^d)
theorem rM:∀(d lo k:Nat),Ct d lo=true->lo<=k->k<lo+2^d->1073741789%k≠0
 |0,lo,k,h,h1,h2=>by
  have:k=lo:=by simp at h2;omega
  subst this
  simpa[Ct]using h
 |d+1,lo,k,h,h1,h2=>by
  rw[Ct,Bool.and_eq_true]at h
  by_cases hk:k<lo+2^d
  ·exact rM d lo k h.1 h1 hk
  ·exact rM d (lo+2^d) k h.2 (by omega) (by rw[Nat.pow_succ]at h2;omega)
theorem Gg:Ct 15 2=true:=by decide+kernel
theorem aW9(d:Nat)(h1:1<d)(h2:d<1073741789):¬d∣1073741789:=by
 intro h
 obtain⟨c,hc⟩:=h
 by_cases hd:d<32770
 ·exact rM 15 2 d Gg (by omega) (by omega) (Nat.mod_eq_zero_of_dvd ⟨c,hc⟩)
 ·have hc1:c<32770:=by
   apply Nat.lt_of_not_le;intro hcc
   have:32770*32770<=d*c:=Nat.mul_le_mul (by omega) hcc
   omega
  have hc0:1<c:=by
   rcases Nat.lt_or_ge 1 c with h|h
   ·exact h
   ·have:d*c<=d*1:=Nat.mul_le_mul_left d h
    omega
  exact rM 15 2 c Gg (by omega) (by omega) (Nat.mod_eq_zero_of_dvd ⟨d,by rw[Nat.mul_comm];exact hc⟩)
theorem XJ(e:Nat)(h1:1<=e)(h2:e<1073741789):Nat.gcd e 1073741789=1:=by
 have hd:=Nat.gcd_dvd_right e 1073741789
 have hl:Nat.gcd e 1073741789<=e:=Nat.le_of_dvd (by omega) (Nat.gcd_dvd_left e _)
 have h0:0<Nat.gcd e 1073741789:=Nat.gcd_pos_of_pos_left _ (by omega)
 rcases Nat.lt_or_ge 1 (Nat.gcd e 1073741789)with h|h
 ·exact absurd hd (aW9 _ h (by omega))
 ·omega
theorem bE4(b:Nat)(m n:Nat):pw b m=1->pw b n=1->pw b (Nat.gcd m n)=1:=by
 induction m,n using Nat.gcd.induction with
 |H0 n=>intro _ h;simpa using h
 |H1 m n hm ih=>
  intro h1 h2
  rw[Nat.gcd_rec]
  refine ih ?_ h1
  have e:n=m*(n / m)+n%m:=(Nat.div_add_mod n m).symm
  have h3:pw b (m*(n / m))=1:=by rw[<-GD,h1,xw]
  rw[e,<-CU,h3,Nat.one_mul,Nat.mod_eq_of_lt (yR _ _)]at h2
  exact h2
theorem Vx(e:Nat)(h1:1<=e)(h2:e<1073741789):pw 4 e≠1:=by
 intro h
 have:=bE4 4 e 1073741789 h FE
 rw[XJ e h1 h2,bE6 _ (by decide)]at this
 exact absurd this (by decide)
theorem Oh(e:Nat):pw (pw 4 e) 1073741789=1:=by
 rw[GD,Nat.mul_comm,<-GD,FE,xw]
theorem av9(y:Nat)(h:pw y 1073741789=1):0<y:=by
 rcases Nat.eq_zero_or_pos y with h0|h0
 ·subst h0;rw[Mw _ (by decide)]at h;exact absurd h (by decide)
 ·exact h0
def inB(a:Int):Bool:=decide (0<=a/\a<2147483579)
theorem vH(h:0<=a/\a<2147483579):inB a=true:=by unfold inB;exact decide_eq_true h
theorem Dp(h:¬(0<=a/\a<2147483579)):inB a=false:=by unfold inB;exact decide_eq_false h
def eY(a b:Int):Int:=if 0<=a/\a<2147483579/\0<=b/\b<2147483579 then a*b%2147483579 else 0
def aJ(b e:Int):Int:=if 0<=b/\b<2147483579/\0<=e/\e<=1073741789 then(pw b.toNat e.toNat:Int)else 0
def dL(y:Int):Bool:=decide (1<y/\y<2147483579/\aJ y 1073741789=1)
theorem at1(a b:Nat)(ha:a<2147483579)(hb:b<2147483579):eY a b=((a*b%2147483579:Nat):Int):=by
 unfold eY;rw[if_pos (by omega)];rfl
theorem iN(b e:Nat)(hb:b<2147483579)(he:e<=1073741789):aJ b e=(pw b e:Int):=by
 unfold aJ;rw[if_pos (by omega)];simp only[Int.toNat_natCast]
theorem mulI_bd(a b:Int):0<=eY a b/\eY a b<2147483579:=by
 unfold eY;split<;>omega
theorem aW6(a b:Int):0<=aJ a b/\aJ a b<2147483579:=by
 unfold aJ;split
 ·have:=yR a.toNat b.toNat;omega
 ·omega
theorem aR9(y:Nat)(h:y<2147483579):dL y=decide (1<y/\pw y 1073741789=1):=by
 unfold dL
 have e:aJ (y:Int) 1073741789=(pw y 1073741789:Int):=iN y 1073741789 h (by decide)
 rw[e]
 refine decide_eq_decide.2 ⟨fun⟨h1,_,h3⟩=>⟨Int.ofNat_lt.1 h1,Int.ofNat_inj.1 h3⟩,fun⟨h1,h3⟩=>⟨Int.ofNat_lt.2 h1,Int.ofNat_lt.2 h,Int.ofNat_inj.2 h3⟩⟩
theorem rH(y:Int):dL y=true↔1<y/\y<2147483579/\aJ y 1073741789=1:=by unfold dL;simp
theorem Pz(b e:Int)(h:¬(0<=b/\b<2147483579/\0<=e/\e<=1073741789)):aJ b e=0:=by unfold aJ;rw[if_neg h]
theorem AU(a b:Int)(h:¬(0<=a/\a<2147483579/\0<=b/\b<2147483579)):eY a b=0:=by unfold eY;rw[if_neg h]
theorem AJ(e:Nat)(h1:1<=e)(h2:e<1073741789):dL (pw 4 e:Int)=true:=by
 rw[aR9 _ (yR _ _)]
 have h3:=av9 _ (Oh e)
 have h4:=Vx e h1 h2
 exact decide_eq_true ⟨by omega,Oh e⟩
structure vD(b e B E Y:Int):Prop where
 b0:0<=B
 b1:B<2147483579
 e0:0<=E
 e1:E<=1073741789
 y0:0<=Y
 y1:Y<2147483579
 h:Y.toNat*B.toNat^E.toNat%2147483579=pw b.toNat e.toNat
theorem vD.start{b e:Int}(hb:0<=b/\b<2147483579)(he:0<=e/\e<=1073741789):vD b e b e 1:=
 ⟨hb.1,hb.2,he.1,he.2,by decide,by decide,by rw[show(1:Int).toNat=1 from rfl,Nat.one_mul,nR]⟩
theorem mulI_toNat(h0:0<=a)(h1:a<2147483579)(h2:0<=b)(h3:b<2147483579):(eY a b).toNat=a.toNat*b.toNat%2147483579:=by
 obtain⟨x,rfl⟩:=Int.eq_ofNat_of_zero_le h0
 obtain⟨y,rfl⟩:=Int.eq_ofNat_of_zero_le h2
 rw[at1 x y (Int.ofNat_lt.1 h1) (Int.ofNat_lt.1 h3)]
 simp only[Int.toNat_natCast]
theorem vD.odd{b e B E Y:Int}(h:vD b e B E Y)(ho:E%2=1):vD b e (eY B B) (E / 2) (eY Y B):=by
 refine⟨(mulI_bd _ _).1,(mulI_bd _ _).2,?_,?_,(mulI_bd _ _).1,(mulI_bd _ _).2,?_⟩
 ·have:=h.e0;omega
 ·have:=h.e0;have:=h.e1;omega
 ·rw[mulI_toNat h.b0 h.b1 h.b0 h.b1,mulI_toNat h.y0 h.y1 h.b0 h.b1,show(E / 2).toNat=E.toNat / 2 by have:=h.e0;omega,step1 _ _ _ (by have:=h.e0;omega),h.h]
theorem vD.even{b e B E Y:Int}(h:vD b e B E Y)(ho:¬E%2=1):vD b e (eY B B) (E / 2) Y:=by
 refine⟨(mulI_bd _ _).1,(mulI_bd _ _).2,?_,?_,h.y0,h.y1,?_⟩
 ·have:=h.e0;omega
 ·have:=h.e0;have:=h.e1;omega
 ·rw[mulI_toNat h.b0 h.b1 h.b0 h.b1,show(E / 2).toNat=E.toNat / 2 by have:=h.e0;omega,step0 _ _ _ (by have:=h.e0;omega),h.h]
theorem vD.last{b e B Y:Int}(hb:0<=b/\b<2147483579)(he:0<=e/\e<=1073741789)(h:vD b e B 0 Y):Y=aJ b e:=by
 have h2:=h.h
 have:=h.y0;have:=h.y1
 rw[show(0:Int).toNat=0 from rfl,Nat.pow_zero,Nat.mul_one,Nat.mod_eq_of_lt (by omega)]at h2
 unfold aJ
 rw[if_pos ⟨hb.1,hb.2,he.1,he.2⟩,<-h2]
 omega
theorem tests{E:Int}:(E%2=1->(E%2==1)=true)/\(¬E%2=1->(E%2==1)=false):=by
 constructor
 ·intro h;rw[h];rfl
 ·intro h;exact beq_eq_false_iff_ne.2 h
theorem bM6(h:a=b):(a==b)=true:=by rw[h];exact beq_self_eq_true b
theorem bM5(h:a≠b):(a==b)=false:=beq_eq_false_iff_ne.2 h
end Pm
end
section
open Pm
theorem EA(h:a=b):Ending.returned (.int .i64 a)=.returned (.int .i64 b):=by rw[h]
theorem Bj{a b:Bool}(h:a=b):Ending.returned (.bool a)=.returned (.bool b):=by rw[h]
theorem aY7(a:Int)(w:World)(h0:0<=a)(h1:a<2147483579):
  Calls Tryz.prog 152 #[.int .i64 a] w fun e w'=>e=.returned (.bool true)/\w=w':=by
 go_enter Tryz.func152,Tryz.ntmps152
 go_wp2
 go_ret
 exact⟨rfl,rfl⟩
theorem aY6(a:Int)(w:World)(h:¬(0<=a/\a<2147483579)):
  Calls Tryz.prog 152 #[.int .i64 a] w fun e w'=>e=.returned (.bool false)/\w=w':=by
 by_cases h0:0<=a
 ·have h1:¬a<2147483579:=fun h1=>h ⟨h0,h1⟩
  clear h
  go_enter Tryz.func152,Tryz.ntmps152
  go_wp2
  go_ret
  exact⟨rfl,rfl⟩
 ·clear h
  go_enter Tryz.func152,Tryz.ntmps152
  go_wp2
  go_ret
  exact⟨rfl,rfl⟩
theorem nS(a:Int)(w:World):
  Calls Tryz.prog 152 #[.int .i64 a] w fun e w'=>e=.returned (.bool (inB a))/\w=w':=by
 by_cases h:0<=a/\a<2147483579
 ·rw[vH h];exact aY7 a w h.1 h.2
 ·rw[Dp h];exact aY6 a w h
theorem bC1(a b:Int)(h0:0<=a)(h1:a<2147483579)(h2:0<=b)(h3:b<2147483579):0<=a*b/\a*b<=4611686018427387904:=by
 constructor
 ·exact Int.mul_nonneg h0 h2
 ·have:a*b<=2147483648*2147483648:=Int.mul_le_mul (by omega) (by omega) h2 (by omega)
  omega
theorem LY(a b:Int)(w:World):
  Calls Tryz.prog 153 #[.int .i64 a,.int .i64 b] w fun e w'=>e=.returned (.int .i64 (eY a b))/\w=w':=by
 by_cases ha:0<=a/\a<2147483579
 ·by_cases hb:0<=b/\b<2147483579
  ·have ia:=vH ha
   have ib:=vH hb
   obtain⟨a0,a1⟩:=ha
   obtain⟨b0,b1⟩:=hb
   obtain⟨m0,m1⟩:=bC1 a b a0 a1 b0 b1
   go_enter Tryz.func153,Tryz.ntmps153
   go_wp2_with (go_at_call 152;refine(nS _ _).mono ?_;rintro e w' ⟨rfl,rfl⟩)
   go_ret
   exact⟨EA (by unfold eY;rw[if_pos ⟨a0,a1,b0,b1⟩]),rfl⟩
  ·have ia:=vH ha
   have ib:=Dp hb
   have hf:eY a b=0:=AU _ _ (fun⟨_,_,h2,h3⟩=>hb ⟨h2,h3⟩)
   have HF:=Lib.hid hf;clear hf ha hb
   go_enter Tryz.func153,Tryz.ntmps153
   go_wp2_with (go_at_call 152;refine(nS _ _).mono ?_;rintro e w' ⟨rfl,rfl⟩)
   go_ret
   exact⟨EA HF.out.symm,rfl⟩
 ·have ia:=Dp ha
  have hf:eY a b=0:=AU _ _ (fun⟨h0,h1,_,_⟩=>ha ⟨h0,h1⟩)
  have HF:=Lib.hid hf;clear hf ha
  go_enter Tryz.func153,Tryz.ntmps153
  go_wp2_with (go_at_call 152;refine(nS _ _).mono ?_;rintro e w' ⟨rfl,rfl⟩)
  go_ret
  exact⟨EA HF.out.symm,rfl⟩
theorem Nn(E:Int)(h0:0<=E)(h:E<=1073741789):bits BinOp.and IntKind.i64 E 1=E%2:=by
 obtain⟨n,rfl⟩:=Int.eq_ofNat_of_zero_le h0
 have hb:(BitVec.ofInt 64 (n:Int)).toNat=n:=by
  rw[BitVec.ofInt_natCast,BitVec.toNat_ofNat];exact Nat.mod_eq_of_lt (by omega)
 have h1:(BitVec.ofInt 64 (1:Int)).toNat=1:=by decide
 show IntKind.i64.wrap ((BitVec.ofInt 64 (n:Int)&&&BitVec.ofInt 64 (1:Int)).toNat:Int)=_
 rw[BitVec.toNat_and,hb,h1,Nat.and_one_is_mod]
 exact IntWalk.i64_in _ (by omega)
theorem aW7(b e:Int)(w:World)(h:¬(0<=b/\b<2147483579/\0<=e/\e<=1073741789)):
  Calls Tryz.prog 104 #[.int .i64 b,.int .i64 e] w fun e w'=>e=.returned (.int .i64 0)/\w=w':=by
 by_cases hb:0<=b/\b<2147483579
 ·have ib:=vH hb
  by_cases he:e<0
  ·clear h hb
   go_enter Tryz.func104,Tryz.ntmps104
   go_wp2_with (go_at_call 152;refine(nS _ _).mono ?_;rintro e w' ⟨rfl,rfl⟩)
   go_ret
   exact⟨rfl,rfl⟩
  ·have he2:1073741789<e:=by omega
   clear h hb
   go_enter Tryz.func104,Tryz.ntmps104
   go_wp2_with (go_at_call 152;refine(nS _ _).mono ?_;rintro e w' ⟨rfl,rfl⟩)
   go_ret
   exact⟨rfl,rfl⟩
 ·have ib:=Dp hb
  clear h hb
  go_enter Tryz.func104,Tryz.ntmps104
  go_wp2_with (go_at_call 152;refine(nS _ _).mono ?_;rintro e w' ⟨rfl,rfl⟩)
  go_ret
  exact⟨rfl,rfl⟩
theorem bE2(b e:Int)(w:World)(hb:0<=b/\b<2147483579)(he:0<=e/\e<=1073741789):
  Calls Tryz.prog 104 #[.int .i64 b,.int .i64 e] w fun e' w'=>e'=.returned (.int .i64 (aJ b e))/\w=w':=by
 have ib:=vH hb
 have HS:=Lib.hid (vD.start hb he)
 have HL:=fun(B Y:Int) (h:vD b e B 0 Y)=>Lib.hid (vD.last hb he h)
 obtain⟨e0,e1⟩:=he
 go_enter Tryz.func104,Tryz.ntmps104
 go_wp2_with (go_at_call 152;refine(nS _ _).mono ?_;rintro e w' ⟨rfl,rfl⟩)
 go_loop [0,1,5] (fun b' e' y'=>∃B E Y:Int,b'=.int .i64 B/\e'=.int .i64 E/\y'=.int .i64 Y/\vD b e B E Y) (fun _ e' _=>(intOf e').toNat)
 case atStart=>exact⟨b,e,1,rfl,rfl,rfl,HS.out⟩
 case round=>
  obtain⟨B,E,Y,rfl,rfl,rfl,HP⟩:=hrel
  obtain⟨x0,x1⟩:=And.intro HP.e0 HP.e1
  have hand:=Nn E x0 x1
  by_cases hpos:0<E
  ·by_cases hodd:E%2=1
   ·have HN:=HP.odd hodd
    have ho:=tests.1 hodd
    clear hodd HP ib e0 e1
    go_wp2_with (go_at_call 153;refine(LY _ _ _).mono ?_;rintro e w' ⟨rfl,rfl⟩)
    go_round
    case rel=>exact⟨_,_,_,rfl,rfl,rfl,HN⟩
    case measure=>simp[intOf];omega
   ·have HN:=HP.even hodd
    have ho:=tests.2 hodd
    clear hodd HP ib e0 e1
    go_wp2_with (go_at_call 153;refine(LY _ _ _).mono ?_;rintro e w' ⟨rfl,rfl⟩)
    go_round
    case rel=>exact⟨_,_,_,rfl,rfl,rfl,HN⟩
    case measure=>simp[intOf];omega
  ·obtain rfl:E=0:=by omega
   have HY:=HL _ _ HP
   clear ib hand
   go_wp2
   go_ret
   exact⟨EA HY.out,rfl⟩
theorem Bg(b e:Int)(w:World):
  Calls Tryz.prog 104 #[.int .i64 b,.int .i64 e] w fun e' w'=>e'=.returned (.int .i64 (aJ b e))/\w=w':=by
 by_cases h:0<=b/\b<2147483579/\0<=e/\e<=1073741789
 ·exact bE2 b e w ⟨h.1,h.2.1⟩ h.2.2
 ·rw[Pz _ _ h];exact aW7 b e w h
theorem Ch(y:Int)(w:World):
  Calls Tryz.prog 170 #[.int .i64 y] w fun e' w'=>e'=.returned (.bool (dL y))/\w=w':=by
 by_cases h1:1<y
 ·by_cases h2:y<2147483579
  ·by_cases h3:aJ y 1073741789=1
   ·have HI:=Lib.hid ((rH y).2 ⟨h1,h2,h3⟩)
    have b3:=bM6 h3
    clear h3
    go_enter Tryz.func170,Tryz.ntmps170
    go_wp2_with (go_at_call 104;refine(Bg _ _ _).mono ?_;rintro e w' ⟨rfl,rfl⟩)
    go_ret
    exact⟨Bj HI.out.symm,rfl⟩
   ·have HI:=Lib.hid (Bool.eq_false_iff.2 fun h=>h3 ((rH y).1 h).2.2)
    have b3:=bM5 h3
    clear h3
    go_enter Tryz.func170,Tryz.ntmps170
    go_wp2_with (go_at_call 104;refine(Bg _ _ _).mono ?_;rintro e w' ⟨rfl,rfl⟩)
    go_ret
    exact⟨Bj HI.out.symm,rfl⟩
  ·have HI:=Lib.hid (Bool.eq_false_iff.2 fun h=>h2 ((rH y).1 h).2.1)
   go_enter Tryz.func170,Tryz.ntmps170
   go_wp2
   go_ret
   exact⟨Bj HI.out.symm,rfl⟩
 ·have HI:=Lib.hid (Bool.eq_false_iff.2 fun h=>h1 ((rH y).1 h).1)
  go_enter Tryz.func170,Tryz.ntmps170
  go_wp2
  go_ret
  exact⟨Bj HI.out.symm,rfl⟩
end
section
abbrev CK(s dn pub md us:Int):Array Value:=#[.int .i64 s,.int .u32 dn,.int .i32 0,.int .u32 0,.int .i64 pub,.int .u32 md,.int .i64 us]
theorem aM.key{w:World}{g:Nat}{t:TypeId}{s dn pub md us:Int}(h:aM w g (CK s dn pub md us) t):
  w.cell? ⟨g,0,none⟩=some (.int .i64 s)/\w.cell? ⟨g,1,none⟩=some (.int .u32 dn)/\w.cell? ⟨g,2,none⟩=some (.int .i32 0)/\w.cell? ⟨g,3,none⟩=some (.int .u32 0)/\w.cell? ⟨g,4,none⟩=some (.int .i64 pub)/\w.cell? ⟨g,5,none⟩=some (.int .u32 md)/\w.cell? ⟨g,6,none⟩=some (.int .i64 us):=
 ⟨h.cell 0,h.cell 1,h.cell 2,h.cell 3,h.cell 4,h.cell 5,h.cell 6⟩
theorem am4(h:List UInt8)(hh:h.length=32)(w:World):
  Calls Tryz.prog 78 #[HV h] w fun e w'=>∃g,e=.returned (.pointer (some ⟨g,0,none⟩))/\w.heap.size<=g/\aM w' g (CK (U (mK h 8)%1073741788+1) 0 0 0 0) 184/\Below w.heap.size w w':=by
 have hB:=aM.new w (HC h) 28
 have hsz:(Tryz.prog.info? 28).map (·.size)=some (HC h).size:=by rw[dO,hh];kernel_rfl
 have HB:=Lib.hid hB;have S1:=Lib.hid hsz;have HH:=Lib.hid hh
 clear hB hsz hh
 unfold HV
 go_enter Tryz.func78,Tryz.ntmps78
 go_wp2_with (first
  |(refine wpList_load_row rfl 28 _ rfl w.heap.size rfl 28 (HC h) (0,0) _ HB.out Tryz.underlying28 rfl S1.out ?_)
  |(go_at_call 119;refine(DF h HH.out _).mono ?_;rintro e w1 ⟨rfl,hb1⟩))
 have hB1:=((Below.refl _ w).next (Nat.le_refl _) _).later hb1 (Nat.le_refl _)
 go_ret
 exact⟨w1.heap.size,rfl,hB1.size,aM.new _ _ _,hB1.next (Nat.le_refl _) _⟩
theorem Ue(g:Nat)(s dn pub md us:Int)(w:World)(hk:aM w g (CK s dn pub md us) 184):
  Calls Tryz.prog 118 #[.pointer (some ⟨g,0,none⟩)] w fun e w'=>e=.returned (.int .i64 s)/\w=w':=by
 obtain⟨c0,c1,c2,c3,c4,c5,c6⟩:=hk.key
 clear hk
 go_enter Tryz.func118,Tryz.ntmps118
 go_wp2
 go_ret
 exact⟨rfl,rfl⟩
end
section
open Pm
theorem disable(w:World):(callFunc 67 #[]).run Tryz.prog w=.ok (.value (.tuple #[])) w:=run_call_mark0 Tryz.func67 (by kernel_rfl) (by kernel_rfl) (by kernel_rfl) .disable (by kernel_rfl) w
theorem enable(w:World):(callFunc 69 #[]).run Tryz.prog w=.ok (.value (.tuple #[])) w:=run_call_mark0 Tryz.func69 (by kernel_rfl) (by kernel_rfl) (by kernel_rfl) .enable (by kernel_rfl) w
theorem acquire(a:Addr)(w:World):(callFunc 70 #[.pointer (some a)]).run Tryz.prog w=.ok (.value (.tuple #[])) w:=run_call_marked Tryz.func70 (by kernel_rfl) (by kernel_rfl) (by kernel_rfl) .acquire (by kernel_rfl) a w
theorem releaseMerge(a:Addr)(w:World):(callFunc 72 #[.pointer (some a)]).run Tryz.prog w=.ok (.value (.tuple #[])) w:=run_call_marked Tryz.func72 (by kernel_rfl) (by kernel_rfl) (by kernel_rfl) .releaseMerge (by kernel_rfl) a w
theorem D8(a:Addr)(x:Value)(u:FrameMode)(w:World)(hc:w.cell? a=some x)(hz:w.frozen? a=false):
  CallsD Tryz.prog 105 #[.pointer (some a),.bool true] u w fun e u' w'=>u'=u/\(e=.returned (.tuple #[])/\w'=w.drew.setCell a (.int .u32 1)):=by
 have hc':w.drew.cell? a=some x:=by go_simp
 have hz':w.drew.frozen? a=false:=by go_simp
 have hst:=run_call_store (P:=Tryz.prog) Tryz.func154 (by kernel_rfl) (by kernel_rfl) (by kernel_rfl) (by kernel_rfl) (k:=.u32) (y:=1) hc' hz'
 go_enter_d Tryz.func105,Tryz.ntmps105
 go_wp2
 go_region_calls
 all_goals (go_end0;exact⟨rfl,rfl⟩)
theorem Rn(a:Addr)(x:Value)(w:World)(hc:w.cell? a=some x)(hz:w.frozen? a=false):
  Calls Tryz.prog 105 #[.pointer (some a),.bool true] w fun e w'=>e=.returned (.tuple #[])/\w'=w.drew.setCell a (.int .u32 1):=by
 have hc':w.drew.cell? a=some x:=by go_simp
 have hz':w.drew.frozen? a=false:=by go_simp
 have hst:=run_call_store (P:=Tryz.prog) Tryz.func154 (by kernel_rfl) (by kernel_rfl) (by kernel_rfl) (by kernel_rfl) (k:=.u32) (y:=1) hc' hz'
 go_enter Tryz.func105,Tryz.ntmps105
 go_wp2
 go_region_calls
 all_goals (go_end0;exact⟨rfl,rfl⟩)
theorem unlock_deferred(a:Addr)(u:FrameMode)(w:World)(hc:w.cell? a=some (.int .i32 1))(hz:w.frozen? a=false):
  CallsD Tryz.prog 27 #[.pointer (some a)] u w fun e u' w'=>u'=u/\(e=.returned (.tuple #[])/\w'=w.setCell a (.int .i32 0)):=by
 have hd:=disable
 have he:=enable
 have hr:=releaseMerge
 have hadd:=run_call_add (P:=Tryz.prog) Tryz.func73 (by kernel_rfl) (by kernel_rfl) (by kernel_rfl) .i32 (by kernel_rfl) (y:= -1) (s:=0) hc hz (by simp[go_sem];rfl)
 have hcv:=run_convert_to_unsafe (P:=Tryz.prog) (src:=138) (dst:=142) Tryz.underlying138 Tryz.underlying142 (by kernel_rfl) hc
 go_enter_d Tryz.func27,Tryz.ntmps27
 go_wp2
 go_end0
 go_wp2
 go_end0
 exact⟨rfl,rfl⟩
theorem lock_free(a:Addr)(w:World)(hc:w.cell? a=some (.int .i32 0))(hz:w.frozen? a=false):
  Calls Tryz.prog 26 #[.pointer (some a)] w fun e w'=>e=.returned (.tuple #[])/\w'=w.setCell a (.int .i32 1):=by
 have hd:=disable
 have he:=enable
 have ha:=acquire
 have hcas:=run_call_cas_hit (P:=Tryz.prog) Tryz.func68 (by kernel_rfl) (by kernel_rfl) (by kernel_rfl) .i32 (by kernel_rfl) (y:=1) hc hz
 have hc':(w.setCell a (.int .i32 1)).cell? a=some (.int .i32 1):=World.cell?_setCell_same w a _ hc
 have hcv:=run_convert_to_unsafe (P:=Tryz.prog) (src:=138) (dst:=142) Tryz.underlying138 Tryz.underlying142 (by kernel_rfl) hc'
 go_enter Tryz.func26,Tryz.ntmps26
 go_wp2
 first|go_end0|(simp only[Exit.inBlock,Exit.then];refine bodyPost_ret (results_none rfl _ _ _) rfl ?_)|refine bodyPost_ret (results_none rfl _ _ _) rfl ?_
 go_wp2
 go_end0
 exact⟨rfl,rfl⟩
theorem BO(a:Addr)(x:Int)(w:World)(hc:w.cell? a=some (.int .u32 x)):
  Calls Tryz.prog 150 #[.pointer (some a)] w fun e w'=>e=.returned (.bool (x !=0))/\w=w':=by
 have hl:=run_call_load (P:=Tryz.prog) Tryz.func208 (by kernel_rfl) (by kernel_rfl) (by kernel_rfl) .u32 (by kernel_rfl) hc
 go_enter Tryz.func150,Tryz.ntmps150
 go_wp2
 go_ret
 exact⟨rfl,rfl⟩
abbrev KC(s dn mu pub md us:Int):Array Value:=#[.int .i64 s,.int .u32 dn,.int .i32 mu,.int .u32 0,.int .i64 pub,.int .u32 md,.int .i64 us]
theorem aM.kc{w:World}{g:Nat}{t:TypeId}{s dn mu pub md us:Int}(h:aM w g (KC s dn mu pub md us) t):
  w.cell? ⟨g,0,none⟩=some (.int .i64 s)/\w.cell? ⟨g,1,none⟩=some (.int .u32 dn)/\w.cell? ⟨g,2,none⟩=some (.int .i32 mu)/\w.cell? ⟨g,4,none⟩=some (.int .i64 pub)/\w.cell? ⟨g,5,none⟩=some (.int .u32 md)/\w.cell? ⟨g,6,none⟩=some (.int .i64 us):=
 ⟨h.cell 0,h.cell 1,h.cell 2,h.cell 4,h.cell 5,h.cell 6⟩
theorem PE(p g:Nat)(t:TypeId)(s dn mu pub md us:Int)(hs:0<=s/\s<1073741789)(w:World)(hp:w.cell? ⟨p,0,none⟩=some (.pointer (some ⟨g,0,none⟩)))(hne:p≠g)(hk:aM w g (KC s dn mu pub md us) t):
  Calls Tryz.prog 103 #[.pointer (some ⟨p,0,none⟩)] w fun e w'=>e=.returned (.tuple #[])/\aM w' g (KC s dn mu (aJ 4 s) 1 us) t/\w.grownBy w' (some g):=by
 obtain⟨c0,c1,c2,c4,c5,c6⟩:=hk.kc
 have hk1:aM (w.drew.setCell ⟨g,4,none⟩ (.int .i64 (aJ 4 s))) g (KC s dn mu (aJ 4 s) md us) t:=(hk.drew.set 4 _).copy rfl
 have hg1:w.grownBy (w.drew.setCell ⟨g,4,none⟩ (.int .i64 (aJ 4 s))) (some g):=ay (lW (bH w _)) 4 _
 have hp1:(w.drew.setCell ⟨g,4,none⟩ (.int .i64 (aJ 4 s))).cell? ⟨p,0,none⟩=some (.pointer (some ⟨g,0,none⟩)):=(World.cell?_setCell_other _ ⟨g,4,none⟩ ⟨p,0,none⟩ _ (fun h=>hne (congrArg Addr.block h).symm)).trans hp
 have f4:=hk.frozen 4
 have HK:=Lib.hid hk1;have HG:=Lib.hid hg1
 clear hk hk1 hg1
 go_enter Tryz.func103,Tryz.ntmps103
 go_wp2_with fail
 refine dW 8 (by kernel_rfl) (by kernel_rfl) ?_
 still_step
 still_step
 still_step
 still_step
 still_step
 still_call (Bg 4 s _).mono (fun e w' h=>⟨h.1,h.2.symm⟩)
 still_step
 still_step
 refine wpStill_nil ?_
 go_wp2_with (go_at_call 105;refine(Rn ⟨g,5,none⟩ (.int .u32 md) _ (HK.out.cell 5) (HK.out.frozen 5)).mono ?_;rintro e w' ⟨rfl,rfl⟩)
 go_end0
 exact⟨rfl,(HK.out.drew.set 5 _).copy rfl,ay (lW HG.out) 5 _⟩
theorem aE3(p g:Nat)(t:TypeId)(s us:Int)(hs:0<=s/\s<1073741789)(w:World)(hp:w.cell? ⟨p,0,none⟩=some (.pointer (some ⟨g,0,none⟩)))(hne:p≠g)(hk:aM w g (KC s 0 0 0 0 us) t):
  Calls Tryz.prog 151 #[.pointer (some ⟨g,1,none⟩),.func (.func 103) #[] #[.pointer (some ⟨p,0,none⟩)]] w fun e w'=>e=.returned (.tuple #[])/\aM w' g (KC s 1 0 (aJ 4 s) 1 us) t/\w.grownBy w' (some g):=by
 have hk1:aM (w.setCell ⟨g,2,none⟩ (.int .i32 1)) g (KC s 0 1 0 0 us) t:=(hk.set 2 _).copy rfl
 have hg1:w.grownBy (w.setCell ⟨g,2,none⟩ (.int .i32 1)) (some g):=ay (bH w _) 2 _
 have hp1:(w.setCell ⟨g,2,none⟩ (.int .i32 1)).cell? ⟨p,0,none⟩=some (.pointer (some ⟨g,0,none⟩)):=(World.cell?_setCell_other _ ⟨g,2,none⟩ ⟨p,0,none⟩ _ (fun h=>hne (congrArg Addr.block h).symm)).trans hp
 have hnot:∀(x:Bool) (w:World),(Op.unary .not (.bool x)).run Tryz.prog w=.ok (.bool (!x)) w:=fun _ _=>rfl
 have HK:=Lib.hid hk;have HK1:=Lib.hid hk1;have KY:=Lib.hid hg1;have HP1:=Lib.hid hp1;have HS:=Lib.hid hs
 clear hk hk1 hg1 hp1 hp hs
 go_enter_defers Tryz.func151,Tryz.ntmps151
 go_wp2_with (first
  |(go_at_call 26;refine(lock_free ⟨g,2,none⟩ _ (HK.out.cell 2) (HK.out.frozen 2)).mono ?_;rintro e w' ⟨rfl,rfl⟩)
  |(go_at_call 150;refine(BO ⟨g,1,none⟩ 0 _ (HK1.out.cell 1)).mono ?_;rintro e w' ⟨rfl,rfl⟩)
  |(go_at_call 103;refine(PE p g t s 0 1 0 0 us HS.out _ HP1.out hne HK1.out).mono ?_;rintro e w2 ⟨rfl,hk2,hg2⟩))
 refine leaves_cons (f:=105) (args:=#[.pointer (some ⟨g,1,none⟩),.bool true]) (by simp) (by simp[go_sem]) ?_
 refine(D8 ⟨g,1,none⟩ (.int .u32 0) .returning _ (hk2.cell 1) (hk2.frozen 1)).mono ?_
 rintro e u' w3 ⟨rfl,rfl,hw3⟩
 have hk3:aM w3 g (KC s 1 1 (aJ 4 s) 1 us) t:=by rw[hw3];exact(hk2.drew.set 1 _).copy rfl
 have hg3:w.grownBy w3 (some g):=by rw[hw3];exact ay (lW (gQ KY.out hg2)) 1 _
 clear hw3 hk2 hg2
 refine leaves_cons (f:=27) (args:=#[.pointer (some ⟨g,2,none⟩)]) (by simp[settle]) (by simp[go_sem]) ?_
 refine(unlock_deferred ⟨g,2,none⟩ _ _ (hk3.cell 2) (hk3.frozen 2)).mono ?_
 rintro e u' w4 ⟨rfl,rfl,hw4⟩
 have hk4:aM w4 g (KC s 1 0 (aJ 4 s) 1 us) t:=by rw[hw4];exact(hk3.set 2 _).copy rfl
 have hg4:w.grownBy w4 (some g):=by rw[hw4];exact ay hg3 2 _
 clear hw4 hk3 hg3
 simp[Leaves,settle,results,Tryz.results151]
 exact⟨hk4,hg4⟩
theorem ag6(p g:Nat)(t:TypeId)(s us:Int)(hs:0<=s/\s<1073741789)(w:World)(hp:w.cell? ⟨p,0,none⟩=some (.pointer (some ⟨g,0,none⟩)))(hne:p≠g)(hk:aM w g (KC s 0 0 0 0 us) t):
  Calls Tryz.prog 102 #[.pointer (some ⟨g,1,none⟩),.func (.func 103) #[] #[.pointer (some ⟨p,0,none⟩)]] w fun e w'=>e=.returned (.tuple #[])/\aM w' g (KC s 1 0 (aJ 4 s) 1 us) t/\w.grownBy w' (some g):=by
 have hnot:∀(x:Bool) (w:World),(Op.unary .not (.bool x)).run Tryz.prog w=.ok (.bool (!x)) w:=fun _ _=>rfl
 have HK:=Lib.hid hk;have HP:=Lib.hid hp;have HS:=Lib.hid hs
 clear hk hp hs
 go_enter Tryz.func102,Tryz.ntmps102
 go_wp2_with (first
  |(go_at_call 150;refine(BO ⟨g,1,none⟩ 0 _ (HK.out.cell 1)).mono ?_;rintro e w' ⟨rfl,rfl⟩)
  |(go_at_call 151;refine(aE3 p g t s us HS.out _ HP.out hne HK.out).mono ?_;rintro e w2 ⟨rfl,hk2,hg2⟩))
 go_end0
 exact⟨rfl,hk2,hg2⟩
theorem aN8(g:Nat)(t:TypeId)(fv:Value)(s mu pub md us:Int)(w:World)(hk:aM w g (KC s 1 mu pub md us) t):
  Calls Tryz.prog 102 #[.pointer (some ⟨g,1,none⟩),fv] w fun e w'=>e=.returned (.tuple #[])/\w=w':=by
 have hnot:∀(x:Bool) (w:World),(Op.unary .not (.bool x)).run Tryz.prog w=.ok (.bool (!x)) w:=fun _ _=>rfl
 have HK:=Lib.hid hk
 clear hk
 go_enter Tryz.func102,Tryz.ntmps102
 go_wp2_with (go_at_call 150;refine(BO ⟨g,1,none⟩ 1 _ (HK.out.cell 1)).mono ?_;rintro e w' ⟨rfl,rfl⟩)
 go_end0
 exact⟨rfl,rfl⟩
theorem Mt(g:Nat)(s us:Int)(hs:0<=s/\s<1073741789)(w:World)(hk:aM w g (CK s 0 0 0 us) 184):
  Calls Tryz.prog 62 #[.pointer (some ⟨g,0,none⟩)] w fun e w'=>e=.returned (.int .i64 (aJ 4 s))/\aM w' g (CK s 1 (aJ 4 s) 1 us) 184/\w.grownBy w' (some g):=by
 have hmf:∀(fn:Fn) (first cap:Array Value) (w:World),(Instr.makeFunc fn first cap).run Tryz.prog w=.ok (.func fn first cap) w:=fun _ _ _ _=>rfl
 have hlt:=hk.lt
 have hp0:aM (w.alloc (.cells #[.pointer (some ⟨g,0,none⟩)] 106)) w.heap.size #[.pointer (some ⟨g,0,none⟩)] 106:=aM.new w _ _
 have hk0:=hk.alloc (.cells #[.pointer (some ⟨g,0,none⟩)] 106)
 have hg0:w.grownBy (w.alloc (.cells #[.pointer (some ⟨g,0,none⟩)] 106)) (some g):=jw (bH w _) ((Below.refl _ w).next (Nat.le_refl _) _)
 have HK:=Lib.hid hk0;have HP:=Lib.hid hp0;have HG:=Lib.hid hg0;have HS:=Lib.hid hs
 clear hk hk0 hp0 hg0 hs
 go_enter Tryz.func62,Tryz.ntmps62
 go_wp2_with (go_at_call 102;refine(ag6 w.heap.size g _ s us HS.out _ (HP.out.cell 0) (by omega) HK.out).mono ?_;rintro e w2 ⟨rfl,hk2,hg2⟩;have hp2:=HP.out.grown hg2 (by omega);have c0:=hp2.cell 0;have c4:=hk2.cell 4;clear hp2)
 go_ret
 exact⟨rfl,hk2,gQ HG.out hg2⟩
theorem Ms(g:Nat)(s pub md us:Int)(w:World)(hk:aM w g (CK s 1 pub md us) 184):
  Calls Tryz.prog 62 #[.pointer (some ⟨g,0,none⟩)] w fun e w'=>e=.returned (.int .i64 pub)/\Below w.heap.size w w':=by
 have hmf:∀(fn:Fn) (first cap:Array Value) (w:World),(Instr.makeFunc fn first cap).run Tryz.prog w=.ok (.func fn first cap) w:=fun _ _ _ _=>rfl
 have hp0:aM (w.alloc (.cells #[.pointer (some ⟨g,0,none⟩)] 106)) w.heap.size #[.pointer (some ⟨g,0,none⟩)] 106:=aM.new w _ _
 have hk0:=hk.alloc (.cells #[.pointer (some ⟨g,0,none⟩)] 106)
 have c0:=hp0.cell 0
 have c4:=hk0.cell 4
 have HK:=Lib.hid hk0
 clear hk hk0 hp0
 go_enter Tryz.func62,Tryz.ntmps62
 go_wp2_with (go_at_call 102;refine(aN8 g _ _ s 0 pub md us _ HK.out).mono ?_;rintro e w2 ⟨rfl,rfl⟩)
 go_ret
 exact⟨rfl,(Below.refl _ w).next (Nat.le_refl _) _⟩
end
section
theorem MC(h:a=b):Ending.returned (.int .u64 a)=.returned (.int .u64 b):=by rw[h]
theorem Wz(x:BitVec 64)(n:Int)(r l:Nat)(hl:l+r=64)(h1:1<=r)(h2:1<=l)(hn:bits .and .u64 (IntKind.u64.wrap n) 63=(l:Int))(w:World):
  Calls Tryz.prog 223 #[.int .u64 (U x),.int .i64 n] w fun e w'=>e=.returned (.int .u64 (U (x.rotateRight r)))/\w=w':=by
 have hl1:(l:Int)<=63:=by omega
 have HL:=Lib.hid hl;clear hl
 go_enter Tryz.func223,Tryz.ntmps223
 go_wp2
 go_ret
 refine⟨MC ?_,rfl⟩
 have e1:=HL.out
 have e2:64-l=r:=by omega
 have e3:l=64-r:=by omega
 rw[Nj,e2,Z8,bo7,e3,bo8 x r (by omega)]
theorem tX(x:BitVec 64)(m n:Nat)(hm1:1<=m)(hm2:m<=63)(hn1:1<=n)(hn2:n<=63)
  (km:bits .and .u64 (IntKind.u64.wrap (-(m:Int))) 63=((64-m:Nat):Int))(kn:bits .and .u64 (IntKind.u64.wrap (-(n:Int))) 63=((64-n:Nat):Int))(w:World):
  Calls Tryz.prog 207 #[.int .u64 (U x),.int .i64 m,.int .i64 n] w fun e w'=>e=.returned (.int .u64 (U (tw x m n)))/\w=w':=by
 have KM:=Lib.hid km;clear km
 have KN:=Lib.hid kn;clear kn
 have hx:=fun a b=>EO a b
 go_enter Tryz.func207,Tryz.ntmps207
 go_wp2_with fail
 refine(Wz x _ m (64-m) (by omega) hm1 (by omega) KM.out _).mono ?_
 rintro e w' ⟨rfl,rfl⟩
 go_wp2_with fail
 refine(Wz x _ n (64-n) (by omega) hn1 (by omega) KN.out _).mono ?_
 rintro e w' ⟨rfl,rfl⟩
 go_wp2_with fail
 go_ret
 exact⟨MC rfl,rfl⟩
theorem jM(x:BitVec 64)(n:Nat)(h1:1<=n)(h2:n<=63)(w:World):
  Calls Tryz.prog 109 #[.int .u64 (U x),.int .u64 n] w fun e w'=>e=.returned (.int .u64 (U (x.rotateRight n)))/\w=w':=by
 have h3:(n:Int)<=63:=by omega
 go_enter Tryz.func109,Tryz.ntmps109
 go_wp2
 go_ret
 refine⟨MC ?_,rfl⟩
 rw[Nj,Z8,bo7,be3 x n (by omega)]
end
section
theorem tw1(x:BitVec 64)(w:World):Calls Tryz.prog 207 #[.int .u64 (U x),.int .i64 19,.int .i64 28] w fun e w'=>e=.returned (.int .u64 (U (tw x 19 28)))/\w=w':=
 tX x 19 28 (by decide) (by decide) (by decide) (by decide) (by decide) (by decide) w
theorem tw2(x:BitVec 64)(w:World):Calls Tryz.prog 207 #[.int .u64 (U x),.int .i64 61,.int .i64 39] w fun e w'=>e=.returned (.int .u64 (U (tw x 61 39)))/\w=w':=
 tX x 61 39 (by decide) (by decide) (by decide) (by decide) (by decide) (by decide) w
theorem tw3(x:BitVec 64)(w:World):Calls Tryz.prog 207 #[.int .u64 (U x),.int .i64 1,.int .i64 6] w fun e w'=>e=.returned (.int .u64 (U (tw x 1 6)))/\w=w':=
 tX x 1 6 (by decide) (by decide) (by decide) (by decide) (by decide) (by decide) w
theorem tw4(x:BitVec 64)(w:World):Calls Tryz.prog 207 #[.int .u64 (U x),.int .i64 10,.int .i64 17] w fun e w'=>e=.returned (.int .u64 (U (tw x 10 17)))/\w=w':=
 tX x 10 17 (by decide) (by decide) (by decide) (by decide) (by decide) (by decide) w
theorem tw5(x:BitVec 64)(w:World):Calls Tryz.prog 207 #[.int .u64 (U x),.int .i64 7,.int .i64 41] w fun e w'=>e=.returned (.int .u64 (U (tw x 7 41)))/\w=w':=
 tX x 7 41 (by decide) (by decide) (by decide) (by decide) (by decide) (by decide) w
theorem Ul(x:W5)(w:World):
  Calls Tryz.prog 148 #[V5 x] w fun e w'=>e=.returned (V5 (ED x))/\Below w.heap.size w w':=by
 go_enter Tryz.func148,Tryz.ntmps148
 go_wp2
 refine dW 16 (by kernel_rfl) (by kernel_rfl) ?_
 simp only[List.take_succ_cons,List.take_zero,List.drop_succ_cons,List.drop_zero]
 still_step
 still_step
 still_call ((tw1 _ _).mono fun _ _ h=>⟨h.1,h.2.symm⟩)
 still_step
 still_step
 still_call ((tw2 _ _).mono fun _ _ h=>⟨h.1,h.2.symm⟩)
 still_step
 still_step
 still_call ((tw3 _ _).mono fun _ _ h=>⟨h.1,h.2.symm⟩)
 still_step
 still_step
 still_call ((tw4 _ _).mono fun _ _ h=>⟨h.1,h.2.symm⟩)
 still_step
 still_step
 still_call ((tw5 _ _).mono fun _ _ h=>⟨h.1,h.2.symm⟩)
 still_step
 refine wpStill_nil ?_
 go_wp2
 exact bodyPost_ret (v:=V5 (ED x)) (by simp[results,Tryz.results148,go_sem];exact⟨rfl,rfl,rfl,rfl,rfl⟩) rfl ⟨rfl,(((Below.refl _ _).alloc (Nat.le_refl _) _).alloc (by simp) _).drew⟩
theorem wr1:IntKind.i64.wrap 1=1:=by decide
theorem wr2:IntKind.i64.wrap 2=2:=by decide
theorem wr3:IntKind.i64.wrap 3=3:=by decide
theorem wr4:IntKind.i64.wrap 4=4:=by decide
theorem wr5:IntKind.i64.wrap 5=5:=by decide
theorem tm1:(1:Int).tmod 5=1:=by decide
theorem tm2:(2:Int).tmod 5=2:=by decide
theorem tm3:(3:Int).tmod 5=3:=by decide
theorem tm4:(4:Int).tmod 5=4:=by decide
theorem tm5:(5:Int).tmod 5=0:=by decide
attribute [local go_sem] wr1 wr2 wr3 wr4 wr5 tm1 tm2 tm3 tm4 tm5 EO be0 be1
theorem aT8(x:W5)(w:World):
  Calls Tryz.prog 149 #[V5 x] w fun e w'=>e=.returned (V5 (SL x))/\Below w.heap.size w w':=by
 go_enter Tryz.func149,Tryz.ntmps149
 go_wp2
 refine wp_loop_rounds 6 ?_
 iterate 5
  rw[rounds_succ]
  go_wp2
  refine dW 12 (by kernel_rfl) (by kernel_rfl) ?_
  simp only[List.take_succ_cons,List.take_zero,List.drop_succ_cons,List.drop_zero]
  repeat still_step
  refine wpStill_nil ?_
  go_wp2
 rw[rounds_succ]
 go_wp2
 refine wp_loop_rounds 6 ?_
 iterate 5
  rw[rounds_succ]
  go_wp2
  refine dW 10 (by kernel_rfl) (by kernel_rfl) ?_
  simp only[List.take_succ_cons,List.take_zero,List.drop_succ_cons,List.drop_zero]
  repeat still_step
  refine wpStill_nil ?_
  go_wp2
 rw[rounds_succ]
 go_wp2
 exact bodyPost_ret (v:=V5 (SL x)) (by simp[results,Tryz.results149,go_sem];exact⟨rfl,rfl,rfl,rfl,rfl⟩) rfl ⟨rfl,((((Below.refl _ _).alloc (Nat.le_refl _) _).alloc (by simp) _).alloc (by simp;omega) _).drew.drew.drew.drew.drew.drew.drew.drew.drew.drew⟩
end
section
theorem Jt(c:BitVec 64)(k:Nat)(h:k<12):bits .xor .u64 (U c) (240-15*(k:Int))=U (c^^^BitVec.ofNat 64 (240-15*k)):=by
 have e:(240-15*(k:Int))=U (BitVec.ofNat 64 (240-15*k)):=by
  rw[EN,BitVec.toNat_ofNat,Nat.mod_eq_of_lt (by omega)];omega
 rw[e,EO]
abbrev C5(x:W5):Array Value:=#[.int .u64 (U x.a),.int .u64 (U x.b),.int .u64 (U x.c),.int .u64 (U x.d),.int .u64 (U x.e)]
theorem Ie(x:W5)(w:World):
  Calls Tryz.prog 101 #[V5 x] w fun e w'=>e=.returned (V5 (jy x))/\Below w.heap.size w w':=by
 go_enter Tryz.func101,Tryz.ntmps101
 go_wp2
 go_loopw [3,4] (fun _ i wr=>∃k:Nat,k<=12/\i=.int .u64 k/\aM wr w.heap.size (C5 (vQ k x)) 128/\(∃z,aM wr (w.heap.size+1) #[z,z,z,z,z] 128)/\Below w.heap.size w wr) (fun _ i _=>12- (intOf i).toNat)
 case atStart=>
  exact⟨0,by omega,rfl,(aM.new _ _ _).alloc _,⟨_,aM.newAt _ _ (by simp)⟩,((Below.refl _ _).alloc (Nat.le_refl _) _).alloc (by simp) _⟩
 case round=>
  obtain⟨k,hk,rfl,hX,⟨z,hZ⟩,hB⟩:=hrel
  have hs:=hX.lt
  have hs2:=hZ.lt
  generalize hy:vQ k x=y at hX
  have HY:=Lib.hid hy;clear hy
  by_cases hlt:k<12
  ·have c0:=hX.cell 0
   have c1:=hX.cell 1
   have c2:=hX.cell 2
   have c3:=hX.cell 3
   have c4:=hX.cell 4
   have f:=hX.frozen
   have ks:=Jt y.c k hlt
   simp only[List.getElem?_toArray,List.getElem?_cons_zero,List.getElem?_cons_succ]at c0 c1 c2 c3 c4
   have HX:=Lib.hid hX;have HZ:=Lib.hid hZ;have HB:=Lib.hid hB
   clear hX hZ hB
   go_wp2_with fail
   refine(aT8 { y with c:=y.c^^^BitVec.ofNat 64 (240-15*k) } _).mono ?_
   rintro e w1 ⟨rfl,b1⟩
   go_wp2_with fail
   refine(Ul (SL { y with c:=y.c^^^BitVec.ofNat 64 (240-15*k) }) _).mono ?_
   rintro e w2 ⟨rfl,b2⟩
   have g:=((HX.out.set 2 (.int .u64 (U (y.c^^^BitVec.ofNat 64 (240-15*k))))).keep b1).keep b2
   have f2:=g.frozen
   have B2:Below w.heap.size w w2:=((HB.out.setCell (p:=⟨w.heap.size,2,none⟩) (Nat.le_refl _) (.int .u64 (U (y.c^^^BitVec.ofNat 64 (240-15*k))))).lift b1 (by simp;omega)).lift b2 (by have:=b1.size;simp at this;omega)
   have Z2:=((HZ.out.other ⟨w.heap.size,2,none⟩ (.int .u64 (U (y.c^^^BitVec.ofNat 64 (240-15*k)))) (by simp)).keep b1).keep b2
   have c5:=g.cell 0
   have c6:=g.cell 1
   have c7:=g.cell 2
   have c8:=g.cell 3
   have c9:=g.cell 4
   simp at c5 c6 c7 c8 c9
   have G:=Lib.hid g;have HB2:=Lib.hid B2;have HZ2:=Lib.hid Z2
   clear g B2 Z2 HX HZ HB b1 b2 c0 c1 c2 c3 c4 f ks w1
   go_wp2
   go_roundw
   case rel=>
    refine⟨k+1,by omega,by go_num,?_,⟨z,?_⟩,?_⟩
    ·show aM _ _ (C5 (bF5 k (vQ k x))) _
     rw[HY.out]
     exact G.out.Zb _ _ _ _ _
    ·exact((((HZ2.out.other _ _ (by simp)).other _ _ (by simp)).other _ _ (by simp)).other _ _ (by simp)).other _ _ (by simp)
    ·exact((((HB2.out.setCell (Nat.le_refl _) _).setCell (Nat.le_refl _) _).setCell (Nat.le_refl _) _).setCell (Nat.le_refl _) _).setCell (Nat.le_refl _) _
   case measure=>simp[intOf];omega
  ·have c0:=hX.cell 0
   have c1:=hX.cell 1
   have c2:=hX.cell 2
   have c3:=hX.cell 3
   have c4:=hX.cell 4
   have f:=hZ.frozen
   have d0:=hZ.cell 0
   have d1:=hZ.cell 1
   have d2:=hZ.cell 2
   have d3:=hZ.cell 3
   have d4:=hZ.cell 4
   simp at c0 c1 c2 c3 c4 d0 d1 d2 d3 d4
   have HZ:=Lib.hid hZ;have HB:=Lib.hid hB
   clear hX hZ hB
   go_wp2
   have hZ:=HZ.out.Zb (.int .u64 (U y.a)) (.int .u64 (U y.b)) (.int .u64 (U y.c)) (.int .u64 (U y.d)) (.int .u64 (U y.e))
   have hT:jy x=y:=by rw[<-HY.out];show vQ 12 x=vQ k x;congr 1;omega
   rw[hT]
   exact bodyPost_ret (v:=V5 y) (results_cell_row rfl _ _ _ _ _ (0,0) _ rfl hZ Tryz.underlying128 rfl (by kernel_rfl)) rfl
    ⟨rfl,((((HB.out.setCell (by simp) _).setCell (by simp) _).setCell (by simp) _).setCell (by simp) _).setCell (by simp) _⟩
end
end Go.Proofs.YtegalalmamofdaaGreatDoor
