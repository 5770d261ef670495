/- -/
import Derived.Test.YtegalalmamofdaaGreatDoorKWorldGrowsd
import Derived.Test.YtegalalmamofdaaGreatDoorKWorldGrowse
import Derived.Test.YtegalalmamofdaaGreatDoorKWorldGrowsf
namespace Go.Proofs.YtegalalmamofdaaGreatDoor
set_option linter.all false
set_option maxRecDepth 100000
open Go.RowKit
set_option maxHeartbeats 8000000
noncomputable section
open Pm
attribute [local irreducible] aN aQ bq aJ aI eY dL aD aC aF bn aY aj bR fC fu bT dH jm jO bg eG aZ mI fq eX bJ aT dB jF gU fF mh bK dS bf
def aC6:Nat->Bk->List A->(bC->Bk->Prop)->Prop
 |0,b,[.v (.int .i64 y)],K=>prM b fun p=>aL p.lf=true/\(y≠2*p.lf->0<=aZ p.lf y/\aZ p.lf y<3)/\∀h,h=vX p y->K (.d (.agg [.bytes 32 h])) (.var (aP p))
 |_,_,_,_=>False
theorem aC7:∀pos x args K,aC6 pos x args K->∃r x',bV 202 pos x args r x'/\K r x':=by
 intro pos x args K h
 unfold aC6 at h
 split at h
 ·obtain⟨p,rfl,h1,h2,h⟩:=zH h
  exact⟨_,_,P8 p _ h1 h2,h _ rfl⟩
 ·exact h.elim
def bT6:ak:=bh9.gI 202 aC6 aC7 (.of Tryz.func202)
theorem aP3(p:PS):kg p 0=p:=if_pos rfl
theorem aP4(p:PS):kg p 1=jR p:=(if_neg (by decide)).trans (if_pos rfl)
theorem aP5(p:PS):kg p 2=rF (jR p):=(if_neg (by decide)).trans (if_neg (by decide))
theorem ad5(p:PS)(h:List UInt8):dI p h 0=nY p h:=if_pos rfl
theorem ad6(p:PS)(h:List UInt8):dI p h 1=gK p h:=(if_neg (by decide)).trans (if_pos rfl)
theorem ad7(p:PS)(h:List UInt8):dI p h 2=iF p h:=(if_neg (by decide)).trans (if_neg (by decide))
theorem X7(p:PS)(k:Int)(hf:aL p.lf=true)(h0:0<=k)(h1:k<3):bV 203 0 (.var (aP p)) [.v (.int .i64 k)] (.t []) (.var (aP (kg p k.toNat))):=by
 have:k=0\/k=1\/k=2:=by omega
 rcases this with rfl|rfl|rfl
 ·rw[show(0:Int).toNat=0 from rfl,aP3];exact R7 p hf
 ·rw[show(1:Int).toNat=1 from rfl,aP4];exact R8 p hf
 ·rw[show(2:Int).toNat=2 from rfl,aP5];exact R9 p hf
def R6:Nat->Bk->List A->(bC->Bk->Prop)->Prop
 |0,b,[.v (.int .i64 k)],K=>prM b fun p=>aL p.lf=true/\0<=k/\k<3/\∀q,q=kg p k.toNat->K (.t []) (.var (aP q))
 |_,_,_,_=>False
theorem X5:∀pos x args K,R6 pos x args K->∃r x',bV 203 pos x args r x'/\K r x':=by
 intro pos x args K h
 unfold R6 at h
 split at h
 ·obtain⟨p,rfl,h1,h2,h3,h⟩:=zH h
  exact⟨_,_,X7 p _ h1 h2 h3,h _ rfl⟩
 ·exact h.elim
def bT7:ak:=bT6.gI 203 R6 X5 (.of Tryz.func203)
theorem ae0(p:PS)(k:Int)(h:List UInt8)(hf:aL p.lf=true)(h0:0<=k)(h1:k<3):bV 146 0 (.var (aP p)) [.v (.int .i64 k),.agg [.bytes 32 h]] (.t [.agg [.bytes 32 (dI p h k.toNat).2.1],.v (.bool (dI p h k.toNat).1)]) (.var (aP (dI p h k.toNat).2.2)):=by
 have:k=0\/k=1\/k=2:=by omega
 rcases this with rfl|rfl|rfl
 ·rw[show(0:Int).toNat=0 from rfl,ad5];exact Xz p h hf
 ·rw[show(1:Int).toNat=1 from rfl,ad6];exact XA p h hf
 ·rw[show(2:Int).toNat=2 from rfl,ad7];exact XB p h hf
def Lj:Nat->Bk->List A->(bC->Bk->Prop)->Prop
 |0,b,[.v (.int .i64 k),.agg [.bytes 32 h]],K=>prM b fun p=>aL p.lf=true/\0<=k/\k<3/\∀g r q,g=(dI p h k.toNat).1->r=(dI p h k.toNat).2.1->q=(dI p h k.toNat).2.2->K (.t [.agg [.bytes 32 r],.v (.bool g)]) (.var (aP q))
 |_,_,_,_=>False
theorem Rq:∀pos x args K,Lj pos x args K->∃r x',bV 146 pos x args r x'/\K r x':=by
 intro pos x args K h
 unfold Lj at h
 split at h
 ·obtain⟨p,rfl,h1,h2,h3,h⟩:=zH h
  exact⟨_,_,ae0 p _ _ h1 h2 h3,h _ _ _ rfl rfl rfl⟩
 ·exact h.elim
def Oa:ak:=bT7.gI 146 Lj Rq (.of Tryz.func146)
theorem am0(p:PS)(k:Nat):(kg p k).lf=p.lf:=by
 unfold kg rF jR
 split
 ·rfl
 ·split
  ·split<;>rfl
  ·split<;>split<;>rfl
theorem X4 (p : PS) (c : CS) (l : List (Int × Int)) (hc : lS c) (hf : aL p.lf = true) (hl : l.length <= 3000) (hp : ∀ q ∈ l, 0 <= q.1 /\ q.1 < 3 /\ (q.2 ≠ 2 * p.lf -> bf q.2 p.lf = true -> 0 <= aZ p.lf q.2 /\ aZ p.lf q.2 < 3)) :
    bV 142 0 (.var (aP p)) [.agg (kR c), .row l.length [.ints .i64 (l.length * 2) (jf l)]] (.t [.agg [.bytes 32 (qE p c l).2.1], .v (.int .i64 (qE p c l).1)]) (.var (aP (qE p c l).2.2)) := by
  obtain ⟨X, hX⟩ : ∃ X, X = ap5 p (jf l) l.length := ⟨_, rfl⟩
  have hfn := TK p (jf l) l.length hl
  rw [<- hX] at hfn
  have hx := hX.trans (ap6 p l)
  clear hX
  obtain ⟨c1, c2, c3, c4, c5, c6⟩ := id hc
  unfold qE
  cases hk : vJ c with
  | false =>
    rw [if_pos (.inl rfl)]
    clear hx
    refine Vt (E := Oa) Tryz.func142 Tryz.ntmps142 ?_
    refine GW.seq (GW.of ?_)
    refine ah ?_
    refine GW.seq (GW.region (GL.cons (t := .d (.row l.length [.ints .i64 (l.length * 2) (jf l)])) rfl (Ba (x := .tmp 2) (.inl rfl) rfl) (GL.aM4 rfl rfl rfl rfl rfl rfl rfl rfl rfl rfl (fun _ => rfl) rfl rfl (fun t h => by cases h; decide) ⟨_, rfl⟩ (Nat.le_of_ble_eq_true rfl) hfn rfl ⟨_, Tryz.func198, by kernel_rfl, by kernel_rfl⟩ (GL.of (Stop.out ?_)))))
    refine ah ?_
    refine GW.of ?_
    refine ah ?_
    intro b hb
    rw [hk] at hb
    subst hb
    refine ah ?_; (try exact⟨⟩)
    rfl
  | true =>
    by_cases hn : c.k = l.length
    · have g1 : ((c.k : Int) != (l.length : Int)) = false := by simp; omega
      by_cases hi : dQ l p.lf = l.length
      · rw [if_pos (.inr (.inr hi))]
        rw [if_pos hi] at hx
        subst hx
        clear hn hi
        refine Vt (E := Oa) Tryz.func142 Tryz.ntmps142 ?_
        refine GW.seq (GW.of ?_)
        refine ah ?_
        refine GW.seq (GW.region (GL.cons (t := .d (.row l.length [.ints .i64 (l.length * 2) (jf l)])) rfl (Ba (x := .tmp 2) (.inl rfl) rfl) (GL.aM4 rfl rfl rfl rfl rfl rfl rfl rfl rfl rfl (fun _ => rfl) rfl rfl (fun t h => by cases h; decide) ⟨_, rfl⟩ (Nat.le_of_ble_eq_true rfl) hfn rfl ⟨_, Tryz.func198, by kernel_rfl, by kernel_rfl⟩ (GL.of (Stop.out ?_)))))
        refine ah ?_
        refine GW.of ?_
        refine ah ?_
        intro b hb
        rw [hk] at hb
        subst hb
        refine ah ?_; (try exact⟨⟩)
        rfl
      · rw [if_neg (by rintro (h | h | h); · cases h
                       · exact h hn
                       · exact hi h)]
        rw [if_neg hi] at hx
        have hil : dQ l p.lf < l.length := by
          have : dQ l p.lf <= l.length := List.findIdx_le_length
          omega
        have hun : bf (l.getD (dQ l p.lf) (0, 0)).2 p.lf = true := by
          have h3 := List.findIdx_getElem (p := fun q : Int × Int => bf q.2 p.lf) (xs := l) (w := hil)
          rw [yGd, yGe hil]
          exact h3
        have hmem : l.getD (dQ l p.lf) (0, 0) ∈ l := by rw [yGd, yGe hil]; exact List.getElem_mem hil
        have h2 := Am l (dQ l p.lf) hil
        clear hi
        obtain ⟨N, hN⟩ : ∃ N, dQ l p.lf = N := ⟨_, rfl⟩
        rw [hN] at hx hil hun hmem h2 ⊢
        clear hN
        subst hx
        obtain ⟨rk, rn, hr⟩ : ∃ rk rn, l.getD N (0, 0) = (rk, rn) := ⟨_, _, rfl⟩
        rw [hr] at hun hmem h2 ⊢
        clear hr
        dsimp only at hun h2 ⊢
        obtain ⟨q0, q1, q2⟩ := hp _ hmem
        dsimp only at q0 q1 q2
        clear hp hmem
        have q3 : rn ≠ 2 * p.lf -> 0 <= aZ p.lf rn /\ aZ p.lf rn < 3 := fun h => q2 h hun
        clear q2
        have e0 : (jf l).getD (N * 2) 0 = rk := by
          have := congrArg (fun x => x.getD 0 0) h2
          simpa [yGd, List.getElem?_take, List.getElem?_drop] using this
        have e1 : (jf l).getD (N * 2 + 1) 0 = rn := by
          have := congrArg (fun x => x.getD 1 0) h2
          simpa [yGd, List.getElem?_take, List.getElem?_drop] using this
        clear h2
        have e0 := yHd e0
        have e1 := yHd e1
        have i0 : ¬ ((N : Nat) : Int) < 0 := by omega
        have i1 : ((N : Nat) : Int) < (l.length : Int) := by omega
        have i2 : ((N : Nat) : Int) < (c.k : Int) := by omega
        clear hn
        refine Vt (E := Oa) Tryz.func142 Tryz.ntmps142 ?_
        refine GW.seq (GW.of ?_)
        refine ah ?_
        refine GW.seq (GW.region (GL.cons (t := .d (.row l.length [.ints .i64 (l.length * 2) (jf l)])) rfl (Ba (x := .tmp 2) (.inl rfl) rfl) (GL.aM4 rfl rfl rfl rfl rfl rfl rfl rfl rfl rfl (fun _ => rfl) rfl rfl (fun t h => by cases h; decide) ⟨_, rfl⟩ (Nat.le_of_ble_eq_true rfl) hfn rfl ⟨_, Tryz.func198, by kernel_rfl, by kernel_rfl⟩ (GL.of (Stop.out ?_)))))
        refine ah ?_
        refine GW.of ?_
        refine ah ?_
        intro b hb
        rw [hk] at hb
        subst hb
        refine ah ?_
        refine ⟨by rw [e1.out]; exact q3, ?_⟩
        intro h hh
        refine ah ?_
        refine ⟨by have := c6 N (by omega); omega, ?_⟩
        intro e u he hu
        rw [e1.out] at hh
        rw [hh] at he hu
        by_cases hz : e = 0
        · have d1 := decide_eq_true hz
          have d2 : (e != 0) = false := by rw [hz]; rfl
          rw [<- he, if_neg (show ¬ e ≠ 0 from fun x => x hz)]
          clear hz
          refine ah ?_
          intro q hq
          rw [e0.out] at hq
          have hq : q = kg p rk.toNat := hq
          have hql : aL q.lf = true := by rw [hq, am0]; exact hf
          refine ah ?_
          intro g r q' hg hr2 hq'
          rw [e0.out] at hg hr2 hq'
          have hg : g = (dI q u rk.toNat).1 := hg
          have hr2 : r = (dI q u rk.toNat).2.1 := hr2
          have hq' : q' = (dI q u rk.toNat).2.2 := hq'
          have hu : u = fF (aI (aY (vX p rn))) (c.bx N) := hu
          rw [hq, hu] at hg hr2 hq'
          clear hq hu
          have e3 : dI (kg p rk.toNat) (fF (aI (aY (vX p rn))) (c.bx N)) rk.toNat = (g, r, q') := by rw [hg, hr2, hq']
          rw [e3]
          clear e3 hg hr2 hq'
          cases g with
          | true =>
            rw [if_pos rfl]
            refine ah ?_; (try exact⟨⟩)
            try rfl
          | false =>
            rw [if_neg (show ¬ ((false, r, q') : Bool × List UInt8 × PS).1 = true from Bool.false_ne_true)]
            refine ah ?_; (try exact⟨⟩)
            try rfl
        · have d1 := decide_eq_false hz
          have d2 : (e != 0) = true := by simpa using hz
          rw [<- he, if_pos hz]
          clear hz
          refine ah ?_; (try exact⟨⟩)
          rfl
    · have g1 : ((c.k : Int) != (l.length : Int)) = true := by simp; omega
      rw [if_pos (.inr (.inl hn))]
      clear hn hx
      refine Vt (E := Oa) Tryz.func142 Tryz.ntmps142 ?_
      refine GW.seq (GW.of ?_)
      refine ah ?_
      refine GW.seq (GW.region (GL.cons (t := .d (.row l.length [.ints .i64 (l.length * 2) (jf l)])) rfl (Ba (x := .tmp 2) (.inl rfl) rfl) (GL.aM4 rfl rfl rfl rfl rfl rfl rfl rfl rfl rfl (fun _ => rfl) rfl rfl (fun t h => by cases h; decide) ⟨_, rfl⟩ (Nat.le_of_ble_eq_true rfl) hfn rfl ⟨_, Tryz.func198, by kernel_rfl, by kernel_rfl⟩ (GL.of (Stop.out ?_)))))
      refine ah ?_
      refine GW.of ?_
      refine ah ?_
      intro b hb
      rw [hk] at hb
      subst hb
      refine ah ?_; (try exact⟨⟩)
      rfl
end
noncomputable section
open Pm
attribute [local irreducible] aN aQ bq aJ aI eY dL aD aC aF bn aY aj bR fC fu bT dH jm jO bg eG aZ mI fq eX bJ aT dB jF gU fF mh bK dS bf yA qE
def bp2:List A->(bC->Prop)->Prop
 |[x,y],K=>prK x fun p=>Ab y fun c=>jr c<=900000/\∀e,e=yA p c->K (.d (.v (.int .i64 e)))
 |_,_=>False
theorem aK5:∀args K,bp2 args K->∃r,aV 141 args r/\K r:=by
 intro args K h
 unfold bp2 at h
 split at h
 ·obtain⟨p,rfl,h⟩:=uV h
  obtain⟨c,⟨hb,h⟩,hc⟩:=lT h
  refine⟨_,fun S w vs' hG ha=>?_,h _ rfl⟩
  obtain⟨v1,v2,rfl,k1,k2⟩:=CV ha
  obtain⟨q1,q2,q3⟩:=hc k2
  exact Xe p c q2 q3 hb S w _ hG (.cons k1 (.cons q1 .nil))
 ·exact h.elim
def az2:List A->(bC->Prop)->Prop
 |[.agg [.ints .i64 31 zs],.v (.int .i64 x),.agg [.bools 8 bt]],K=>∀l,l=bT zs x bt->K (.d (.row l.length [.ints .i64 (l.length*2) (jf l)]))
 |_,_=>False
theorem az3:∀args K,az2 args K->∃r,aV 125 args r/\K r:=by
 intro args K h
 unfold az2 at h
 split at h
 ·exact⟨_,sw (Wi _ _ _),h _ rfl⟩
 ·exact h.elim
def Ml(lf:Int)(l:List (Int×Int)):Prop:=∀q∈l,0<=q.1/\q.1<3/\(q.2≠2*lf->bf q.2 lf=true->0<=aZ lf q.2/\aZ lf q.2<3)
theorem TJ{lf:Int}:(aZ lf (lf / 2*4+1)=0\/aZ lf (lf / 2*4+1)=1\/aZ lf (lf / 2*4+1)=2)/\(aZ lf (lf / 4*8+3)=0\/aZ lf (lf / 4*8+3)=1\/aZ lf (lf / 4*8+3)=2)/\(aZ lf 7=0\/aZ lf 7=1\/aZ lf 7=2):=by
 unfold aZ vV
 refine⟨?_,?_,?_⟩
 ·rw[if_pos rfl];exact .inl rfl
 ·split
  ·exact .inl rfl
  ·rw[if_pos rfl];exact .inr (.inl rfl)
 ·split
  ·exact .inl rfl
  ·split
   ·exact .inr (.inl rfl)
   ·rw[if_pos rfl];exact .inr (.inr rfl)
theorem az4{zs:List Int}{x lf:Int}{bt:List Bool}:Ml lf (bT zs x bt):=fun q hq=>by
 obtain⟨h1,h2,_,_⟩:=Px hq
 refine⟨h1,h2,fun hne hu=>?_⟩
 obtain⟨a,b,c⟩:=TJ (lf:=lf)
 rcases DW hu with e|e|e|e
 ·exact absurd e hne
 ·rw[e];omega
 ·rw[e];omega
 ·rw[e];omega
def al8:Nat->Bk->List A->(bC->Bk->Prop)->Prop
 |0,b,[x,.row n [.ints .i64 m z]],K=>prM b fun p=>Ab x fun c=>∃l,n=l.length/\m=l.length*2/\z=jf l/\aL p.lf=true/\l.length<=3000/\Ml p.lf l/\∀e u q,e=(qE p c l).1->u=(qE p c l).2.1->q=(qE p c l).2.2->K (.t [.agg [.bytes 32 u],.v (.int .i64 e)]) (.var (aP q))
 |_,_,_,_=>False
theorem al9:∀pos x args K,al8 pos x args K->∃r x',bV 142 pos x args r x'/\K r x':=by
 intro pos x args K h
 unfold al8 at h
 split at h
 ·obtain⟨p,rfl,h⟩:=zH h
  obtain⟨c,⟨l,rfl,rfl,rfl,h1,h2,h3,h⟩,hc⟩:=lT h
  refine⟨_,_,fun S w r vs hr hG hx ha=>?_,h _ _ _ rfl rfl rfl⟩
  obtain⟨v1,v2,rfl,k1,k2⟩:=CV ha
  obtain⟨q1,q2,q3⟩:=hc k1
  exact X4 p c l q2 h1 h2 h3 S w r _ hr hG hx (.cons q1 (.cons k2 .nil))
 ·exact h.elim
def bT8:ak:=Oa.add 141 bp2 aK5 (.of Tryz.func141)
def bT9:ak:=bT8.add 125 az2 az3 (.of Tryz.func125)
def ai0:ak:=bT9.gI 142 al8 al9 (.of Tryz.func142)
theorem TP(p:PS)(c:CS)(hc:lS c)(ht:c.tag.length=32)(hb:jr c<=900000)(hf:aL p.lf=true):
  aV 96 [.sref (aP p) 0,.agg (kR c)] (.t [kX (oM p c).2,.v (.int .i64 (oM p c).1)]):=by
 obtain⟨h1,h2,h3,h4,h5,h6⟩:=id hc
 obtain⟨f0,f1⟩:=ig hf
 obtain⟨E,hE⟩:∃E,E=yA p c:=⟨_,rfl⟩
 refine eO (E:=ai0) Tryz.func96 Tryz.ntmps96 ?_
 unfold oM
 rw[<-hE]
 by_cases a1:E=0
 ·have g1:(E !=0)=false:=by rw[a1];rfl
  rw[if_neg (fun x=>x a1)]
  have hm:dS p.zs c.fr=true:=(accE_0 (hE▸a1)).2.2
  obtain⟨m0,m1⟩:=kP hm
  have hfc:aL c.fr=true:=by unfold aL;simp;omega
  clear a1 hm
  by_cases a2:mI p c.fr c.n c.ops c.m c.vs=0
  ·have g2:=decide_eq_true a2
   rw[if_neg (fun x=>x a2)]
   have hy:0<=p.e:=by
    have hd:=bq1 a2
    have h:=(Ai hd).1
    unfold gF at h
    simp only[Bool.and_eq_true,decide_eq_true_eq]at h
    exact h.1.1.1.1.1
   clear a2
   obtain⟨s0,hs0⟩:∃s,s=fq p c.fr c.n c.ops:=⟨_,rfl⟩
   rw[<-hs0]
   cases a3:s0.gn.getD p.lf.toNat false with
   |true=>
    rw[if_pos rfl]
    refine ah ?_
    intro e he
    obtain rfl:e=E:=he.trans hE.symm
    clear he hE
    refine ah ?_
    intro s hs
    obtain rfl:s=s0:=hs.trans hs0.symm
    clear hs hs0
    refine ah ?_;(try exact⟨⟩)
    try rfl
   |false=>
    rw[if_neg (by decide)]
    by_cases a4:p.e>=1099511627776
    ·have g4:=decide_eq_true a4
     rw[if_pos a4]
     clear a4
     refine ah ?_
     intro e he
     obtain rfl:e=E:=he.trans hE.symm
     clear he hE
     refine ah ?_
     intro s hs
     obtain rfl:s=s0:=hs.trans hs0.symm
     clear hs hs0
     refine ah ?_;(try exact⟨⟩)
     try rfl
    ·have g4:=decide_eq_false a4
     rw[if_neg a4]
     have he0: -4611686018427387904<=p.e:=by omega
     have he1:p.e<=4611686018427387904:=by omega
     clear a4 hy
     refine ah ?_
     intro e he
     obtain rfl:e=E:=he.trans hE.symm
     clear he hE
     refine ah ?_
     intro s hs
     obtain rfl:s=s0:=hs.trans hs0.symm
     clear hs hs0
     refine ah ?_
     refine Or.inl ?_
     refine ah ?_
     intro l hl
     have hl3:l.length<=3000:=by rw[hl];have:=CJ s.zs s.ng c.fr;omega
     have hpf:Ml p.lf l:=by rw[hl];exact az4
     refine ah ?_
     rw[<-hl]
     clear hl hpf hl3
     intro er u q her hu hq
     have her:er=(qE (nu p s c) c l).1:=her
     have hu:u=(qE (nu p s c) c l).2.1:=hu
     have hq:q=(qE (nu p s c) c l).2.2:=hq
     rw[<-her,<-hu,<-hq]
     clear her hu hq
     by_cases z:er=0
     ·have d2:(er !=0)=false:=by rw[z];rfl
      rw[if_neg (show ¬er≠0 from fun x=>x z)]
      clear z
      refine ah ?_
      obtain⟨Q,hQ⟩:∃Q,Q=eT q (FU p.sD u):=⟨_,rfl⟩
      rw[<-hQ]
      by_cases y:eB Q.ep=c.tag
      ·rw[if_pos y]
       have g5:bM [Seg.bytes 32 (eB Q.ep)] [Seg.bytes 32 c.tag]=true:=by simp[bM,y]
       rw[hQ]at g5 ⊢
       have g6:(!bM [Seg.bytes 32 (eB (eT q (FU p.sD u)).ep)] [Seg.bytes 32 c.tag])=false:=by rw[g5];rfl
       clear y hQ g5
       refine ah ?_;(try exact⟨⟩)
       try rfl
      ·rw[if_neg y]
       have g5:bM [Seg.bytes 32 (eB Q.ep)] [Seg.bytes 32 c.tag]=false:=by simp[bM,y]
       rw[hQ]at g5
       have g6:(!bM [Seg.bytes 32 (eB (eT q (FU p.sD u)).ep)] [Seg.bytes 32 c.tag])=true:=by rw[g5];rfl
       clear y hQ g5
       refine ah ?_;(try exact⟨⟩)
       try rfl
     ·have d2:(er !=0)=true:=by simpa using z
      rw[if_pos z]
      clear z
      refine ah ?_;(try exact⟨⟩)
      try rfl
  ·have g2:=decide_eq_false a2
   rw[if_pos a2]
   have g3:(mI p c.fr c.n c.ops c.m c.vs !=0)=true:=by simpa using a2
   clear a2
   refine ah ?_
   intro e he
   obtain rfl:e=E:=he.trans hE.symm
   clear he hE
   refine ah ?_;(try exact⟨⟩)
   try rfl
 ·have g1:(E !=0)=true:=by simpa using a1
  rw[if_pos a1]
  clear a1
  refine ah ?_
  intro e he
  obtain rfl:e=E:=he.trans hE.symm
  clear he hE
  refine ah ?_;(try exact⟨⟩)
  try rfl
end
noncomputable section
open Pm
attribute [local irreducible] aN aQ bq aJ aI eY dL aD aC aF bn aY aj bR fC fu bT dH jm jO bg eG aZ mI fq eX bJ aT dB jF gU fF mh bK dS gF pK bZ
def wcK:A->(Wc->Prop)->Prop
 | .agg [.ints .i64 2 [lf,fr],.ints .i64 1 [e],.ints .i64 31 zs,.bools 8 ad,.ints .i64 1 [k],.bytes 32 ch,.gen 1 [x],.bytes 32 tg],K=>sH x fun b=>K ⟨lf,fr,e,zs,ad,k,ch,b,tg⟩
 |_,_=>False
theorem Qy{x:A}{K:Wc->Prop}(h:wcK x K):∃w,K w/\∀{S:Nat->Prop} {wd:World} {v:Value},RA S wd x v->RA S wd (.agg (MZ w)) v:=by
 unfold wcK at h
 split at h
 ·obtain⟨b,h,hv⟩:=ji h
  refine⟨_,h,fun {S wd v} ha=>?_⟩
  cases ha with
  |agg hl=>
   cases hl with
   |ints q1 r1=>cases r1 with
    |ints q2 r2=>cases r2 with
     |ints q3 r3=>cases r3 with
      |bools q4 r4=>cases r4 with
       |ints q5 r5=>cases r5 with
        |bytes q6 r6=>cases r6 with
         |gen g q7 r7=>cases r7 with
          |bytes q8 r8=>
           cases r8
           cases g with
           |cons gx gx1 g1=>
            cases g1
            exact .agg (.ints q1 (.ints q2 (.ints q3 (.bools q4 (.ints q5 (.bytes q6 (.gen (.cons (hv gx) gx1 .nil) rfl (.bytes q8 .nil))))))))
 ·exact h.elim
theorem SI(w:Wc)(h1:aL w.lf=true):aV 147 [.agg (MZ w)] (.d (.v (.int .i64 (vB w)))):=by
 refine eO (E:=ai0) Tryz.func147 Tryz.ntmps147 ?_
 refine ah ?_;(try exact⟨⟩)
 try rfl
def as7:List A->(bC->Prop)->Prop
 |[x],K=>wcK x fun w=>aL w.lf=true/\∀m,m=vB w->K (.d (.v (.int .i64 m)))
 |_,_=>False
theorem as8:∀args K,as7 args K->∃r,aV 147 args r/\K r:=by
 intro args K h
 unfold as7 at h
 split at h
 ·obtain⟨c,⟨h1,h⟩,hc⟩:=Qy h
  refine⟨_,fun S w vs' hG ha=>?_,h _ rfl⟩
  obtain⟨v1,rfl,k1⟩:=iC ha
  exact SI c h1 S w _ hG (.cons (hc k1) .nil)
 ·exact h.elim
def bU0:ak:=ai0.add 147 as7 as8 (.of Tryz.func147)
def bi0:ak:=bU0.add 156 aH0 (MU Ut) (.of Tryz.func156)
theorem bare_0{w:Wc}(h:vB w=0):yJ w=true:=by unfold yJ;rw[h];rfl
theorem bare_1{w:Wc}(h:vB w=1):yJ w=!dJ w.zs (16+n1 w.lf):=by unfold yJ;rw[h];simp
theorem bare_2{w:Wc}(h:vB w=2):yJ w=(!dJ w.zs (16+n1 w.lf)&& !dJ w.zs (16+n2 w.lf)):=by unfold yJ;rw[h];simp
theorem SC{zs:List Int}{j:Nat}(h:j<8):bZ zs j=List.take 2 (List.drop (j*2) zs):=by
 unfold bZ
 rw[List.drop_take,List.take_take,show min 2 (16-j*2)=2 by omega]
theorem aO6(h:List UInt8)(w:Wc):aV 144 [.agg [.bytes 32 h],.agg (MZ w)] (.d (.v (.bool (nD h w)))):=by
 refine eO (E:=bi0) Tryz.func144 Tryz.ntmps144 ?_
 cases a1:gF w.e w.zs w.ad w.k with
 |false=>
  rw[show nD h w=false by unfold nD;rw[a1];rfl]
  refine ah ?_;(try exact⟨⟩)
 |true=>
  by_cases a2:w.lf<0
  ·rw[show nD h w=false by unfold nD aL;simp;omega]
   refine ah ?_;(try exact⟨⟩)
  ·by_cases a3:w.lf>=8
   ·rw[show nD h w=false by unfold nD aL;simp;omega]
    refine ah ?_;(try exact⟨⟩)
   ·have hlb:aL w.lf=true:=by unfold aL;simp;omega
    by_cases a4:w.lf=w.fr
    ·rw[show nD h w=false by unfold nD;simp[a4]]
     have g4:(w.lf==w.fr)=true:=by simpa using a4
     clear a4
     refine ah ?_;(try exact⟨⟩)
    ·have g4:(w.lf==w.fr)=false:=by simpa using a4
     refine ah ?_
     intro L hL
     have eL:nD h w=(decide (List.take 2 (List.drop (w.lf.toNat*2) w.zs)=L)&&(dS w.zs w.fr&&yJ w)):=by
      unfold nD
      rw[a1,hlb,decide_eq_true a4,SC (by omega),<-hL]
      rfl
     rw[eL]
     clear eL hL a4
     by_cases a5:List.take 2 (List.drop (w.lf.toNat*2) w.zs)=L
     ·have g5:(!bM [Seg.ints .i64 2 (List.take 2 (List.drop (w.lf.toNat*2) w.zs))] [Seg.ints .i64 2 L])=false:=by simp[bM,a5]
      have hm8:=nQ w.zs 8
      have hin:=Et w.zs w.fr
      rw[decide_eq_true a5]
      clear a5
      cases a6:dS w.zs w.fr with
      |false=>
       rw[a6]at hin
       refine ah ?_;(try exact⟨⟩)
       rfl
      |true=>
       rw[a6]at hin
       obtain⟨m0,m1⟩:=kP a6
       obtain⟨k,hk,hp,_⟩:=meets (a:=w.lf) (b:=w.fr) (by omega) (by omega) m0 m1 (by simpa using g4)
       have hw:vB w=(k:Int):=hp
       clear hp a6
       refine ah ?_
       intro m hm
       have hm:m=(k:Int):=hm.trans hw
       rcases(show k=0\/k=1\/k=2 by omega)with rfl|rfl|rfl
       ·rw[bare_0 hw]
        obtain rfl:m=0:=hm
        clear hm hw
        refine ah ?_
        refine aX.mk (aH 4 ?_)
        refine ah ?_;(try exact⟨⟩)
        rfl
       ·rw[bare_1 hw]
        obtain rfl:m=1:=hm
        clear hm hw
        cases a7:dJ w.zs (16+n1 w.lf)with
        |true=>
         have g7:(w.zs.getD (16+(w.lf / 2*4+1).toNat) 0 !=0)=true:=a7
         refine ah ?_
         refine aX.mk (aH 4 ?_)
         refine ah ?_;(try exact⟨⟩)
         rfl
        |false=>
         have g7:(w.zs.getD (16+(w.lf / 2*4+1).toNat) 0 !=0)=false:=a7
         refine ah ?_
         refine aX.mk (aH 4 ?_)
         refine ah ?_;(try exact⟨⟩)
         rfl
       ·rw[bare_2 hw]
        obtain rfl:m=2:=hm
        clear hm hw
        cases a7:dJ w.zs (16+n1 w.lf)with
        |true=>
         have g7:(w.zs.getD (16+(w.lf / 2*4+1).toNat) 0 !=0)=true:=a7
         refine ah ?_
         refine aX.mk (aH 4 ?_)
         refine ah ?_;(try exact⟨⟩)
         rfl
        |false=>
         have g7:(w.zs.getD (16+(w.lf / 2*4+1).toNat) 0 !=0)=false:=a7
         cases a8:dJ w.zs (16+n2 w.lf)with
         |true=>
          have g8:(w.zs.getD (16+(w.lf / 4*8+3).toNat) 0 !=0)=true:=a8
          refine ah ?_
          refine aX.mk (aH 4 ?_)
          refine ah ?_;(try exact⟨⟩)
          rfl
         |false=>
          have g8:(w.zs.getD (16+(w.lf / 4*8+3).toNat) 0 !=0)=false:=a8
          refine ah ?_
          refine aX.mk (aH 4 ?_)
          refine ah ?_;(try exact⟨⟩)
          rfl
     ·have g5:(!bM [Seg.ints .i64 2 (List.take 2 (List.drop (w.lf.toNat*2) w.zs))] [Seg.ints .i64 2 L])=true:=by simp[bM,a5]
      rw[decide_eq_false a5]
      refine ah ?_;(try exact⟨⟩)
      rfl
def ak7:List A->(bC->Prop)->Prop
 |[.agg [.bytes 32 h],x],K=>wcK x fun w=>∀b,b=nD h w->K (.d (.v (.bool b)))
 |_,_=>False
theorem ak8:∀args K,ak7 args K->∃r,aV 144 args r/\K r:=by
 intro args K h
 unfold ak7 at h
 split at h
 ·obtain⟨c,h,hc⟩:=Qy h
  refine⟨_,fun S w vs' hG ha=>?_,h _ rfl⟩
  obtain⟨v1,v2,rfl,k1,k2⟩:=CV ha
  exact aO6 _ c S w _ hG (.cons k1 (.cons (hc k2) .nil))
 ·exact h.elim
def bU1:ak:=bi0.add 144 ak7 ak8 (.of Tryz.func144)
theorem aS6(h:List UInt8)(w:Wc)(hb:w.bx.length<=1000000):aV 98 [.agg [.bytes 32 h],.agg (MZ w)] (.t [kX (yM h w).2,.v (.int .i64 (yM h w).1)]):=by
 refine eO (E:=bU1) Tryz.func98 Tryz.ntmps98 ?_
 unfold yM
 cases a1:nD h w with
 |false=>
  rw[if_pos rfl]
  refine ah ?_
  intro b hb
  obtain rfl:b=false:=hb.trans a1
  refine ah ?_;(try exact⟨⟩)
  rfl
 |true=>
  rw[if_neg (show ¬true=false by decide)]
  obtain⟨q1,q2,q3,q4,q5,q6,q7⟩:=XT a1
  have hlb:aL w.lf=true:=by unfold aL;simp;omega
  obtain⟨m0,m1⟩:=kP q6
  obtain⟨k,hk,hp,_⟩:=meets (a:=w.lf) (b:=w.fr) (by omega) (by omega) m0 m1 q4
  have hw:vB w=(k:Int):=hp
  clear q1 q5 q6 q7 hp
  by_cases a2:gU (aI (aY (aK h))) w.bx=0
  ·have g2:=decide_eq_true a2
   rw[if_neg (show ¬gU (aI (aY (aK h))) w.bx≠0 from fun x=>x a2)]
   have hBl:=YI a2
   clear a2
   by_cases a3:w.bx.length-12=64
   ·rw[if_neg (show ¬w.bx.length-12≠64 from fun x=>x a3)]
    refine ah ?_
    intro b hb
    obtain rfl:b=true:=hb.trans a1
    clear hb a1
    refine ah ?_
    refine Or.inl ?_
    refine ah ?_
    intro m hm
    have hm:m=vB w:=hm
    have m2:0<=m:=by rw[hm,hw];omega
    have m3:m<3:=by rw[hm,hw];omega
    refine ah ?_
    rw[a3]
    refine ah ?_
    intro g r q hg hr hq
    have e32:List.take 32 (List.drop 32 (fF (aI (aY (aK h))) w.bx))=List.drop 32 (fF (aI (aY (aK h))) w.bx):=List.take_of_length_le (by rw[List.length_drop,hBl,a3];exact yLr _)
    have hg:g=(dI (sF h w) (List.drop 32 (fF (aI (aY (aK h))) w.bx)) (vB w).toNat).1:=by rw[<-e32,<-hm];exact hg
    have hq:q=(dI (sF h w) (List.drop 32 (fF (aI (aY (aK h))) w.bx)) (vB w).toNat).2.2:=by rw[<-e32,<-hm];exact hq
    rw[<-hg,<-hq]
    clear hg hr hq e32 hBl
    cases g with
    |true=>
     rw[if_pos rfl]
     by_cases y:eB (eT q (List.take 32 (fF (aI (aY (aK h))) w.bx))).ep=w.tg
     ·rw[if_pos y]
      have g5:bM [Seg.bytes 32 (eB (eT q (List.take 32 (fF (aI (aY (aK h))) w.bx))).ep)] [Seg.bytes 32 w.tg]=true:=by simp[bM,y]
      have g6:(!bM [Seg.bytes 32 (eB (eT q (List.take 32 (fF (aI (aY (by0 h).sc)) w.bx))).ep)] [Seg.bytes 32 w.tg])=false:=congrArg not g5
      clear y g5
      refine ah ?_;(try exact⟨⟩)
      rfl
     ·rw[if_neg y]
      have g5:bM [Seg.bytes 32 (eB (eT q (List.take 32 (fF (aI (aY (aK h))) w.bx))).ep)] [Seg.bytes 32 w.tg]=false:=by
       show(decide (eB (eT q (List.take 32 (fF (aI (aY (aK h))) w.bx))).ep=w.tg)&&true)=false
       rw[decide_eq_false y]
       rfl
      have g6:(!bM [Seg.bytes 32 (eB (eT q (List.take 32 (fF (aI (aY (by0 h).sc)) w.bx))).ep)] [Seg.bytes 32 w.tg])=true:=congrArg not g5
      clear y g5
      refine ah ?_;(try exact⟨⟩)
      rfl
    |false=>
     rw[if_neg (show ¬false=true by decide)]
     refine ah ?_;(try exact⟨⟩)
     rfl
   ·rw[if_pos a3]
    have g3:(((w.bx.length-12:Nat):Int) !=64)=true:=by simp;omega
    clear a3
    refine ah ?_
    intro b hb
    obtain rfl:b=true:=hb.trans a1
    clear hb a1
    refine ah ?_
    refine Or.inl ?_
    refine ah ?_;(try exact⟨⟩)
    rfl
  ·have g2:=decide_eq_false a2
   rw[if_pos a2]
   have g3:(gU (aI (aY (aK h))) w.bx !=0)=true:=by simpa using a2
   clear a2
   refine ah ?_
   intro b hb
   obtain rfl:b=true:=hb.trans a1
   clear hb a1
   refine ah ?_
   refine Or.inl ?_
   refine ah ?_;(try exact⟨⟩)
   rfl
end
end Go.Proofs.YtegalalmamofdaaGreatDoor
