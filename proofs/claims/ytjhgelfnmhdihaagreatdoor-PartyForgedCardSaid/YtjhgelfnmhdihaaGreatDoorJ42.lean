/-
  Parties: a commit is followed.
-/
import Derived.Test.YtjhgelfnmhdihaaGreatDoorJ41
namespace Go.Proofs.YtjhgelfnmhdihaaGreatDoor
set_option linter.unusedVariables false
set_option linter.unusedSimpArgs false
set_option maxRecDepth 100000
open Go.RowKit
section
open Pm
attribute [local irreducible] aU aZ bR aA au dB cO aF bZ aN aT av ak aR cZ bX aQ bK gB iC aD bA aO jW dJ bW bH aH bT fU bJ bg fV bG bn aJ
def ad5:Nat→Bk→List A→(bP→Bk→Prop)→Prop
 |0,b,[.v (.int .i64 y)],K=>prM b fun p=>aG p.lf=true∧(y≠2*p.lf→0≤aO p.lf y∧aO p.lf y<3)∧∀h,h=lF p y→K (.d (.agg [.bytes 32 h])) (.var (bN p))
 |_,_,_,_=>False
theorem ad6:∀pos x args K,ad5 pos x args K→∃r x',gq 130 pos x args r x'∧K r x':=by
 intro pos x args K h
 unfold ad5 at h
 split at h
 ·obtain⟨p,rfl,h1,h2,h⟩:=xQ h
  exact⟨_,_,MH p _ h1 h2,h _ rfl⟩
 ·exact h.elim
noncomputable def bc9:ay:=aC6.kG 130 ad5 ad6 ⟨_,Tryz.func130,by kernel_rfl,by kernel_rfl⟩
theorem ao9(p:PS):gX p 0=p:=if_pos rfl
theorem ap0(p:PS):gX p 1=jT p:=(if_neg (by decide)).trans (if_pos rfl)
theorem ap1(p:PS):gX p 2=qm (jT p):=(if_neg (by decide)).trans (if_neg (by decide))
theorem Xl(p:PS)(h:List UInt8):aW p h 0=iR p h:=if_pos rfl
theorem Xm(p:PS)(h:List UInt8):aW p h 1=dX p h:=(if_neg (by decide)).trans (if_pos rfl)
theorem Xn(p:PS)(h:List UInt8):aW p h 2=fu p h:=(if_neg (by decide)).trans (if_neg (by decide))
theorem Ue(p:PS)(k:Int)(hf:aG p.lf=true)(h0:0≤k)(h1:k<3):gq 131 0 (.var (bN p)) [.v (.int .i64 k)] (.t []) (.var (bN (gX p k.toNat))):=by
 have:k=0∨k=1∨k=2:=by omega
 rcases this with rfl|rfl|rfl
 ·rw[show(0:Int).toNat=0 from rfl,ao9];exact Ou p hf
 ·rw[show(1:Int).toNat=1 from rfl,ap0];exact Ov p hf
 ·rw[show(2:Int).toNat=2 from rfl,ap1];exact Ow p hf
def Ot:Nat→Bk→List A→(bP→Bk→Prop)→Prop
 |0,b,[.v (.int .i64 k)],K=>prM b fun p=>aG p.lf=true∧0≤k∧k<3∧∀q,q=gX p k.toNat→K (.t []) (.var (bN q))
 |_,_,_,_=>False
theorem Ud:∀pos x args K,Ot pos x args K→∃r x',gq 131 pos x args r x'∧K r x':=by
 intro pos x args K h
 unfold Ot at h
 split at h
 ·obtain⟨p,rfl,h1,h2,h3,h⟩:=xQ h
  exact⟨_,_,Ue p _ h1 h2 h3,h _ rfl⟩
 ·exact h.elim
noncomputable def bd0:ay:=bc9.kG 131 Ot Ud ⟨_,Tryz.func131,by kernel_rfl,by kernel_rfl⟩
theorem Xo(p:PS)(k:Int)(h:List UInt8)(hf:aG p.lf=true)(h0:0≤k)(h1:k<3):gq 86 0 (.var (bN p)) [.v (.int .i64 k),.agg [.bytes 32 h]] (.t [.agg [.bytes 32 (aW p h k.toNat).2.1],.v (.bool (aW p h k.toNat).1)]) (.var (bN (aW p h k.toNat).2.2)):=by
 have:k=0∨k=1∨k=2:=by omega
 rcases this with rfl|rfl|rfl
 ·rw[show(0:Int).toNat=0 from rfl,Xl];exact TB p h hf
 ·rw[show(1:Int).toNat=1 from rfl,Xm];exact TD p h hf
 ·rw[show(2:Int).toNat=2 from rfl,Xn];exact TF p h hf
def Ip:Nat→Bk→List A→(bP→Bk→Prop)→Prop
 |0,b,[.v (.int .i64 k),.agg [.bytes 32 h]],K=>prM b fun p=>aG p.lf=true∧0≤k∧k<3∧∀g r q,g=(aW p h k.toNat).1→r=(aW p h k.toNat).2.1→q=(aW p h k.toNat).2.2→K (.t [.agg [.bytes 32 r],.v (.bool g)]) (.var (bN q))
 |_,_,_,_=>False
theorem NQ:∀pos x args K,Ip pos x args K→∃r x',gq 86 pos x args r x'∧K r x':=by
 intro pos x args K h
 unfold Ip at h
 split at h
 ·obtain⟨p,rfl,h1,h2,h3,h⟩:=xQ h
  exact⟨_,_,Xo p _ _ h1 h2 h3,h _ _ _ rfl rfl rfl⟩
 ·exact h.elim
noncomputable def KP:ay:=bd0.kG 86 Ip NQ ⟨_,Tryz.func86,by kernel_rfl,by kernel_rfl⟩
theorem Yv(p:PS)(k:Nat):(gX p k).lf=p.lf:=by
 unfold gX qm jT
 split
 ·rfl
 ·split
  ·split<;>rfl
  ·split<;>split<;>rfl
set_option maxHeartbeats 4000000 in
theorem Uc (p : PS) (c : CS) (l : List (Int × Int)) (hc : qL c) (hf : aG p.lf = true) (hl : l.length ≤ 3000) (hp : ∀ q ∈ l, 0 ≤ q.1 ∧ q.1 < 3 ∧ (q.2 ≠ 2 * p.lf → aJ q.2 p.lf = true → 0 ≤ aO p.lf q.2 ∧ aO p.lf q.2 < 3)) :
    gq 58 0 (.var (bN p)) [.agg (gZ c), .row l.length [.ints .i64 (l.length * 2) (bI l)]] (.t [.agg [.bytes 32 (pF p c l).2.1], .v (.int .i64 (pF p c l).1)]) (.var (bN (pF p c l).2.2)) := by
  obtain ⟨X, hX⟩ : ∃ X, X = Y5 p (bI l) l.length := ⟨_, rfl⟩
  have hfn := Pw p (bI l) l.length hl
  rw [← hX] at hfn
  have hx := hX.trans (La p l)
  clear hX
  obtain ⟨c1, c2, c3, c4, c5, c6⟩ := id hc
  unfold pF
  cases hk : lZ c with
  | false =>
    rw [if_pos (.inl rfl)]
    clear hx
    refine Rq (E := KP) Tryz.func58 Tryz.ntmps58 ?_
    refine GW.seq (GW.of ?_)
    refine aj ?_; (try exact⟨⟩)
    refine GW.seq (GW.region (GL.cons (t := .d (.row l.length [.ints .i64 (l.length * 2) (bI l)])) rfl (zf (x := .tmp 2) (.inl rfl) rfl) (GL.am5 rfl rfl rfl rfl rfl rfl rfl rfl rfl rfl (fun _ => rfl) rfl rfl (fun t h => by cases h; decide) ⟨_, rfl⟩ (Nat.le_of_ble_eq_true rfl) hfn rfl ⟨_, Tryz.func125, by kernel_rfl, by kernel_rfl⟩ (GL.of (Stop.out ?_)))))
    refine aj ?_; (try exact⟨⟩)
    refine GW.of ?_
    refine aj ?_; (try exact⟨⟩)
    intro b hb
    rw [hk] at hb
    subst hb
    refine aj ?_; (try exact⟨⟩)
    rfl
  | true =>
    by_cases hn : c.k = l.length
    · have g1 : ((c.k : Int) != (l.length : Int)) = false := by simp; omega
      by_cases hi : dD l p.lf = l.length
      · rw [if_pos (.inr (.inr hi))]
        rw [if_pos hi] at hx
        subst hx
        clear hn hi
        refine Rq (E := KP) Tryz.func58 Tryz.ntmps58 ?_
        refine GW.seq (GW.of ?_)
        refine aj ?_; (try exact⟨⟩)
        refine GW.seq (GW.region (GL.cons (t := .d (.row l.length [.ints .i64 (l.length * 2) (bI l)])) rfl (zf (x := .tmp 2) (.inl rfl) rfl) (GL.am5 rfl rfl rfl rfl rfl rfl rfl rfl rfl rfl (fun _ => rfl) rfl rfl (fun t h => by cases h; decide) ⟨_, rfl⟩ (Nat.le_of_ble_eq_true rfl) hfn rfl ⟨_, Tryz.func125, by kernel_rfl, by kernel_rfl⟩ (GL.of (Stop.out ?_)))))
        refine aj ?_; (try exact⟨⟩)
        refine GW.of ?_
        refine aj ?_; (try exact⟨⟩)
        intro b hb
        rw [hk] at hb
        subst hb
        refine aj ?_; (try exact⟨⟩)
        rfl
      · rw [if_neg (by rintro (h | h | h); · cases h
                       · exact h hn
                       · exact hi h)]
        rw [if_neg hi] at hx
        have hil : dD l p.lf < l.length := by
          have : dD l p.lf ≤ l.length := List.findIdx_le_length
          omega
        have hun : aJ (l.getD (dD l p.lf) (0, 0)).2 p.lf = true := by
          have h3 := List.findIdx_getElem (p := fun q : Int × Int => aJ q.2 p.lf) (xs := l) (w := hil)
          rw [List.getD_eq_getElem?_getD, List.getElem?_eq_getElem hil]
          exact h3
        have hmem : l.getD (dD l p.lf) (0, 0) ∈ l := by rw [List.getD_eq_getElem?_getD, List.getElem?_eq_getElem hil]; exact List.getElem_mem hil
        have h2 := uH l (dD l p.lf) hil
        clear hi
        obtain ⟨N, hN⟩ : ∃ N, dD l p.lf = N := ⟨_, rfl⟩
        rw [hN] at hx hil hun hmem h2 ⊢
        clear hN
        subst hx
        obtain ⟨rk, rn, hr⟩ : ∃ rk rn, l.getD N (0, 0) = (rk, rn) := ⟨_, _, rfl⟩
        rw [hr] at hun hmem h2 ⊢
        clear hr
        dsimp only at hun h2 ⊢
        obtain ⟨q0, q1, q2⟩ := hp _ hmem
        dsimp only at q0 q1 q2
        clear hp hmem
        have q3 : rn ≠ 2 * p.lf → 0 ≤ aO p.lf rn ∧ aO p.lf rn < 3 := fun h => q2 h hun
        clear q2
        have e0 : (bI l).getD (N * 2) 0 = rk := by
          have := congrArg (fun x => x.getD 0 0) h2
          simpa [List.getD_eq_getElem?_getD, List.getElem?_take, List.getElem?_drop] using this
        have e1 : (bI l).getD (N * 2 + 1) 0 = rn := by
          have := congrArg (fun x => x.getD 1 0) h2
          simpa [List.getD_eq_getElem?_getD, List.getElem?_take, List.getElem?_drop] using this
        clear h2
        have e0 := Lib.hid e0
        have e1 := Lib.hid e1
        have i0 : ¬ ((N : Nat) : Int) < 0 := by omega
        have i1 : ((N : Nat) : Int) < (l.length : Int) := by omega
        have i2 : ((N : Nat) : Int) < (c.k : Int) := by omega
        clear hn
        refine Rq (E := KP) Tryz.func58 Tryz.ntmps58 ?_
        refine GW.seq (GW.of ?_)
        refine aj ?_; (try exact⟨⟩)
        refine GW.seq (GW.region (GL.cons (t := .d (.row l.length [.ints .i64 (l.length * 2) (bI l)])) rfl (zf (x := .tmp 2) (.inl rfl) rfl) (GL.am5 rfl rfl rfl rfl rfl rfl rfl rfl rfl rfl (fun _ => rfl) rfl rfl (fun t h => by cases h; decide) ⟨_, rfl⟩ (Nat.le_of_ble_eq_true rfl) hfn rfl ⟨_, Tryz.func125, by kernel_rfl, by kernel_rfl⟩ (GL.of (Stop.out ?_)))))
        refine aj ?_; (try exact⟨⟩)
        refine GW.of ?_
        refine aj ?_; (try exact⟨⟩)
        intro b hb
        rw [hk] at hb
        subst hb
        refine aj ?_; (try exact⟨⟩)
        refine ⟨by rw [e1.out]; exact q3, ?_⟩
        intro h hh
        refine aj ?_; (try exact⟨⟩)
        refine ⟨by have := c6 N (by omega); omega, ?_⟩
        intro e u he hu
        rw [e1.out] at hh
        rw [hh] at he hu
        by_cases hz : e = 0
        · have d1 := decide_eq_true hz
          have d2 : (e != 0) = false := by rw [hz]; rfl
          rw [← he, if_neg (show ¬ e ≠ 0 from fun x => x hz)]
          clear hz
          refine aj ?_; (try exact⟨⟩)
          intro q hq
          rw [e0.out] at hq
          have hq : q = gX p rk.toNat := hq
          have hql : aG q.lf = true := by rw [hq, Yv]; exact hf
          refine aj ?_; (try exact⟨⟩)
          intro g r q' hg hr2 hq'
          rw [e0.out] at hg hr2 hq'
          have hg : g = (aW q u rk.toNat).1 := hg
          have hr2 : r = (aW q u rk.toNat).2.1 := hr2
          have hq' : q' = (aW q u rk.toNat).2.2 := hq'
          have hu : u = bg (au (av (lF p rn))) (c.bx N) := hu
          rw [hq, hu] at hg hr2 hq'
          clear hq hu
          have e3 : aW (gX p rk.toNat) (bg (au (av (lF p rn))) (c.bx N)) rk.toNat = (g, r, q') := by rw [hg, hr2, hq']
          rw [e3]
          clear e3 hg hr2 hq'
          cases g with
          | true =>
            rw [if_pos rfl]
            refine aj ?_; (try exact⟨⟩)
            try rfl
          | false =>
            rw [if_neg (show ¬ ((false, r, q') : Bool × List UInt8 × PS).1 = true from Bool.false_ne_true)]
            refine aj ?_; (try exact⟨⟩)
            try rfl
        · have d1 := decide_eq_false hz
          have d2 : (e != 0) = true := by simpa using hz
          rw [← he, if_pos hz]
          clear hz
          refine aj ?_; (try exact⟨⟩)
          rfl
    · have g1 : ((c.k : Int) != (l.length : Int)) = true := by simp; omega
      rw [if_pos (.inr (.inl hn))]
      clear hn hx
      refine Rq (E := KP) Tryz.func58 Tryz.ntmps58 ?_
      refine GW.seq (GW.of ?_)
      refine aj ?_; (try exact⟨⟩)
      refine GW.seq (GW.region (GL.cons (t := .d (.row l.length [.ints .i64 (l.length * 2) (bI l)])) rfl (zf (x := .tmp 2) (.inl rfl) rfl) (GL.am5 rfl rfl rfl rfl rfl rfl rfl rfl rfl rfl (fun _ => rfl) rfl rfl (fun t h => by cases h; decide) ⟨_, rfl⟩ (Nat.le_of_ble_eq_true rfl) hfn rfl ⟨_, Tryz.func125, by kernel_rfl, by kernel_rfl⟩ (GL.of (Stop.out ?_)))))
      refine aj ?_; (try exact⟨⟩)
      refine GW.of ?_
      refine aj ?_; (try exact⟨⟩)
      intro b hb
      rw [hk] at hb
      subst hb
      refine aj ?_; (try exact⟨⟩)
      rfl
end
section
open Pm
attribute [local irreducible] aU aZ bR aA au dB cO aF bZ aN aT av ak aR cZ bX aQ bK gB iC aD bA aO jW dJ bW bH aH bT fU bJ bg fV bG bn aJ qb pF
def aI9:List A→(bP→Prop)→Prop
 |[x,y],K=>Ww x fun p=>pz y fun c=>eD c≤900000∧∀e,e=qb p c→K (.d (.v (.int .i64 e)))
 |_,_=>False
theorem ak8:∀args K,aI9 args K→∃r,aP 57 args r∧K r:=by
 intro args K h
 unfold aI9 at h
 split at h
 ·obtain⟨p,rfl,h⟩:=qW h
  obtain⟨c,⟨hb,h⟩,hc⟩:=gI h
  refine⟨_,fun S w vs' hG ha=>?_,h _ rfl⟩
  obtain⟨v1,v2,rfl,k1,k2⟩:=lT ha
  obtain⟨q1,q2,q3⟩:=hc k2
  exact Ta p c q2 q3 hb S w _ hG (.cons k1 (.cons q1 .nil))
 ·exact h.elim
def Z6:List A→(bP→Prop)→Prop
 |[.agg [.ints .i64 31 zs],.v (.int .i64 x),.agg [.bools 8 bt]],K=>∀l,l=aQ zs x bt→K (.d (.row l.length [.ints .i64 (l.length*2) (bI l)]))
 |_,_=>False
theorem Z7:∀args K,Z6 args K→∃r,aP 59 args r∧K r:=by
 intro args K h
 unfold Z6 at h
 split at h
 ·exact⟨_,mZ (R6 _ _ _),h _ rfl⟩
 ·exact h.elim
def Jq(lf:Int)(l:List (Int×Int)):Prop:=∀q∈l,0≤q.1∧q.1<3∧(q.2≠2*lf→aJ q.2 lf=true→0≤aO lf q.2∧aO lf q.2<3)
theorem Pv{lf:Int}:(aO lf (lf / 2*4+1)=0∨aO lf (lf / 2*4+1)=1∨aO lf (lf / 2*4+1)=2)∧(aO lf (lf / 4*8+3)=0∨aO lf (lf / 4*8+3)=1∨aO lf (lf / 4*8+3)=2)∧(aO lf 7=0∨aO lf 7=1∨aO lf 7=2):=by
 unfold aO qc
 refine⟨?_,?_,?_⟩
 ·rw[if_pos rfl];exact .inl rfl
 ·split
  ·exact .inl rfl
  ·rw[if_pos rfl];exact .inr (.inl rfl)
 ·split
  ·exact .inl rfl
  ·split
   ·exact .inr (.inl rfl)
   ·rw[if_pos rfl];exact .inr (.inr rfl)
theorem Z8{zs:List Int}{x lf:Int}{bt:List Bool}:Jq lf (aQ zs x bt):=fun q hq=>by
 obtain⟨h1,h2,_,_⟩:=zh hq
 refine⟨h1,h2,fun hne hu=>?_⟩
 obtain⟨a,b,c⟩:=Pv (lf:=lf)
 rcases qK hu with e|e|e|e
 ·exact absurd e hne
 ·rw[e];omega
 ·rw[e];omega
 ·rw[e];omega
def Yt:Nat→Bk→List A→(bP→Bk→Prop)→Prop
 |0,b,[x,.row n [.ints .i64 m z]],K=>prM b fun p=>pz x fun c=>∃l,n=l.length∧m=l.length*2∧z=bI l∧aG p.lf=true∧l.length≤3000∧Jq p.lf l∧∀e u q,e=(pF p c l).1→u=(pF p c l).2.1→q=(pF p c l).2.2→K (.t [.agg [.bytes 32 u],.v (.int .i64 e)]) (.var (bN q))
 |_,_,_,_=>False
theorem Yu:∀pos x args K,Yt pos x args K→∃r x',gq 58 pos x args r x'∧K r x':=by
 intro pos x args K h
 unfold Yt at h
 split at h
 ·obtain⟨p,rfl,h⟩:=xQ h
  obtain⟨c,⟨l,rfl,rfl,rfl,h1,h2,h3,h⟩,hc⟩:=gI h
  refine⟨_,_,fun S w r vs hr hG hx ha=>?_,h _ _ _ rfl rfl rfl⟩
  obtain⟨v1,v2,rfl,k1,k2⟩:=lT ha
  obtain⟨q1,q2,q3⟩:=hc k1
  exact Uc p c l q2 h1 h2 h3 S w r _ hr hG hx (.cons q1 (.cons k2 .nil))
 ·exact h.elim
noncomputable def bd1:ay:=KP.add 57 aI9 ak8 ⟨_,Tryz.func57,by kernel_rfl,by kernel_rfl⟩
noncomputable def bd2:ay:=bd1.add 59 Z6 Z7 ⟨_,Tryz.func59,by kernel_rfl,by kernel_rfl⟩
noncomputable def X3:ay:=bd2.kG 58 Yt Yu ⟨_,Tryz.func58,by kernel_rfl,by kernel_rfl⟩
set_option maxHeartbeats 4000000 in
theorem PD(p:PS)(c:CS)(hc:qL c)(ht:c.tag.length=32)(hb:eD c≤900000)(hf:aG p.lf=true):
  aP 22 [.sref (bN p) 0,.agg (gZ c)] (.t [Ah (eF p c).2,.v (.int .i64 (eF p c).1)]):=by
 obtain⟨h1,h2,h3,h4,h5,h6⟩:=id hc
 obtain⟨f0,f1⟩:=dh hf
 obtain⟨E,hE⟩:∃E,E=qb p c:=⟨_,rfl⟩
 refine dK (E:=X3) Tryz.func22 Tryz.ntmps22 ?_
 unfold eF
 rw[←hE]
 by_cases a1:E=0
 ·have g1:(E !=0)=false:=by rw[a1];rfl
  rw[if_neg (fun x=>x a1)]
  have hm:bn p.zs c.fr=true:=(accE_0 (hE▸a1)).2.2
  obtain⟨m0,m1⟩:=fA hm
  have hfc:aG c.fr=true:=by unfold aG;simp;omega
  clear a1 hm
  by_cases a2:jW p c.fr c.n c.ops c.m c.vs=0
  ·have g2:=decide_eq_true a2
   rw[if_neg (fun x=>x a2)]
   have hy:0≤p.e:=by
    have hd:=aJ2 a2
    have h:=(yH hd).1
    unfold dU at h
    simp only[Bool.and_eq_true,decide_eq_true_eq]at h
    exact h.1.1.1.1.1
   clear a2
   obtain⟨s0,hs0⟩:∃s,s=dJ p c.fr c.n c.ops:=⟨_,rfl⟩
   rw[←hs0]
   cases a3:s0.gn.getD p.lf.toNat false with
   |true=>
    rw[if_pos rfl]
    refine aj ?_;(try exact⟨⟩)
    intro e he
    obtain rfl:e=E:=he.trans hE.symm
    clear he hE
    refine aj ?_;(try exact⟨⟩)
    intro s hs
    obtain rfl:s=s0:=hs.trans hs0.symm
    clear hs hs0
    refine aj ?_;(try exact⟨⟩)
    try rfl
   |false=>
    rw[if_neg (by decide)]
    by_cases a4:p.e≥1099511627776
    ·have g4:=decide_eq_true a4
     rw[if_pos a4]
     clear a4
     refine aj ?_;(try exact⟨⟩)
     intro e he
     obtain rfl:e=E:=he.trans hE.symm
     clear he hE
     refine aj ?_;(try exact⟨⟩)
     intro s hs
     obtain rfl:s=s0:=hs.trans hs0.symm
     clear hs hs0
     refine aj ?_;(try exact⟨⟩)
     try rfl
    ·have g4:=decide_eq_false a4
     rw[if_neg a4]
     have he0: -4611686018427387904≤p.e:=by omega
     have he1:p.e≤4611686018427387904:=by omega
     clear a4 hy
     refine aj ?_;(try exact⟨⟩)
     intro e he
     obtain rfl:e=E:=he.trans hE.symm
     clear he hE
     refine aj ?_;(try exact⟨⟩)
     intro s hs
     obtain rfl:s=s0:=hs.trans hs0.symm
     clear hs hs0
     refine aj ?_;(try exact⟨⟩)
     refine Or.inl ?_
     refine aj ?_;(try exact⟨⟩)
     intro l hl
     have hl3:l.length≤3000:=by rw[hl];have:=oW s.zs s.ng c.fr;omega
     have hpf:Jq p.lf l:=by rw[hl];exact Z8
     refine aj ?_;(try exact⟨⟩)
     rw[←hl]
     clear hl hpf hl3
     intro er u q her hu hq
     have her:er=(pF (fK p s c) c l).1:=her
     have hu:u=(pF (fK p s c) c l).2.1:=hu
     have hq:q=(pF (fK p s c) c l).2.2:=hq
     rw[←her,←hu,←hq]
     clear her hu hq
     by_cases z:er=0
     ·have d2:(er !=0)=false:=by rw[z];rfl
      rw[if_neg (show ¬er≠0 from fun x=>x z)]
      clear z
      refine aj ?_;(try exact⟨⟩)
      obtain⟨Q,hQ⟩:∃Q,Q=bC q (lg p.jK u):=⟨_,rfl⟩
      rw[←hQ]
      by_cases y:eB Q.ep=c.tag
      ·rw[if_pos y]
       have g5:bf [Seg.bytes 32 (eB Q.ep)] [Seg.bytes 32 c.tag]=true:=by simp[bf,y]
       rw[hQ]at g5 ⊢
       have g6:(!bf [Seg.bytes 32 (eB (bC q (lg p.jK u)).ep)] [Seg.bytes 32 c.tag])=false:=by rw[g5];rfl
       clear y hQ g5
       refine aj ?_;(try exact⟨⟩)
       try rfl
      ·rw[if_neg y]
       have g5:bf [Seg.bytes 32 (eB Q.ep)] [Seg.bytes 32 c.tag]=false:=by simp[bf,y]
       rw[hQ]at g5
       have g6:(!bf [Seg.bytes 32 (eB (bC q (lg p.jK u)).ep)] [Seg.bytes 32 c.tag])=true:=by rw[g5];rfl
       clear y hQ g5
       refine aj ?_;(try exact⟨⟩)
       try rfl
     ·have d2:(er !=0)=true:=by simpa using z
      rw[if_pos z]
      clear z
      refine aj ?_;(try exact⟨⟩)
      try rfl
  ·have g2:=decide_eq_false a2
   rw[if_pos a2]
   have g3:(jW p c.fr c.n c.ops c.m c.vs !=0)=true:=by simpa using a2
   clear a2
   refine aj ?_;(try exact⟨⟩)
   intro e he
   obtain rfl:e=E:=he.trans hE.symm
   clear he hE
   refine aj ?_;(try exact⟨⟩)
   try rfl
 ·have g1:(E !=0)=true:=by simpa using a1
  rw[if_pos a1]
  clear a1
  refine aj ?_;(try exact⟨⟩)
  intro e he
  obtain rfl:e=E:=he.trans hE.symm
  clear he hE
  refine aj ?_;(try exact⟨⟩)
  try rfl
end
section
open Pm
attribute [local irreducible] aU aZ bR aA au dB cO aF bZ aN aT av ak aR cZ bX aQ bK gB iC aD bA aO jW dJ bW bH aH bT fU bJ bg fV bG bn dU eT bq
def wcK:A→(Wc→Prop)→Prop
 | .agg [.ints .i64 2 [lf,fr],.ints .i64 1 [e],.ints .i64 31 zs,.bools 8 ad,.ints .i64 1 [k],.bytes 32 ch,.gen 1 [x],.bytes 32 tg],K=>pV x fun b=>K ⟨lf,fr,e,zs,ad,k,ch,b,tg⟩
 |_,_=>False
theorem zM{x:A}{K:Wc→Prop}(h:wcK x K):∃w,K w∧∀{S:Nat→Prop} {wd:World} {v:Value},RA S wd x v→RA S wd (.agg (jH w)) v:=by
 unfold wcK at h
 split at h
 ·obtain⟨b,h,hv⟩:=iD h
  refine⟨_,h,fun {S wd v} ha=>?_⟩
  cases ha with
  |agg hl=>
   cases hl with
   |ints q1 r1=>cases r1 with
    |ints q2 r2=>cases r2 with
     |ints q3 r3=>cases r3 with
      |bools q4 r4=>cases r4 with
       |ints q5 r5=>cases r5 with
        |bytes q6 r6=>cases r6 with
         |gen g q7 r7=>cases r7 with
          |bytes q8 r8=>
           cases r8
           cases g with
           |cons gx gx1 g1=>
            cases g1
            exact .agg (.ints q1 (.ints q2 (.ints q3 (.bools q4 (.ints q5 (.bytes q6 (.gen (.cons (hv gx) gx1 .nil) rfl (.bytes q8 .nil))))))))
 ·exact h.elim
set_option maxHeartbeats 1000000 in
theorem OX(w:Wc)(h1:aG w.lf=true):aP 87 [.agg (jH w)] (.d (.v (.int .i64 (jB w)))):=by
 refine dK (E:=X3) Tryz.func87 Tryz.ntmps87 ?_
 refine aj ?_;(try exact⟨⟩)
 try rfl
def Zq:List A→(bP→Prop)→Prop
 |[x],K=>wcK x fun w=>aG w.lf=true∧∀m,m=jB w→K (.d (.v (.int .i64 m)))
 |_,_=>False
theorem Zr:∀args K,Zq args K→∃r,aP 87 args r∧K r:=by
 intro args K h
 unfold Zq at h
 split at h
 ·obtain⟨c,⟨h1,h⟩,hc⟩:=zM h
  refine⟨_,fun S w vs' hG ha=>?_,h _ rfl⟩
  obtain⟨v1,rfl,k1⟩:=iP ha
  exact OX c h1 S w _ hG (.cons (hc k1) .nil)
 ·exact h.elim
noncomputable def bd3:ay:=X3.add 87 Zq Zr ⟨_,Tryz.func87,by kernel_rfl,by kernel_rfl⟩
noncomputable def X4:ay:=bd3.add 157 VN (Cx ah3) ⟨_,Tryz.func157,by kernel_rfl,by kernel_rfl⟩
theorem bare_0{w:Wc}(h:jB w=0):oC w=true:=by unfold oC;rw[h];rfl
theorem bare_1{w:Wc}(h:jB w=1):oC w=!aL w.zs (16+n1 w.lf):=by unfold oC;rw[h];simp
theorem bare_2{w:Wc}(h:jB w=2):oC w=(!aL w.zs (16+n1 w.lf)&& !aL w.zs (16+n2 w.lf)):=by unfold oC;rw[h];simp
theorem xD{zs:List Int}{j:Nat}(h:j<8):bq zs j=List.take 2 (List.drop (j*2) zs):=by
 unfold bq
 rw[List.drop_take,List.take_take,show min 2 (16-j*2)=2 by omega]
set_option maxHeartbeats 4000000 in
theorem ao4(h:List UInt8)(w:Wc):aP 83 [.agg [.bytes 32 h],.agg (jH w)] (.d (.v (.bool (ji h w)))):=by
 refine dK (E:=X4) Tryz.func83 Tryz.ntmps83 ?_
 cases a1:dU w.e w.zs w.ad w.k with
 |false=>
  rw[show ji h w=false by unfold ji;rw[a1];rfl]
  refine aj ?_;(try exact⟨⟩)
 |true=>
  by_cases a2:w.lf<0
  ·rw[show ji h w=false by unfold ji aG;simp;omega]
   refine aj ?_;(try exact⟨⟩)
  ·by_cases a3:w.lf≥8
   ·rw[show ji h w=false by unfold ji aG;simp;omega]
    refine aj ?_;(try exact⟨⟩)
   ·have hlb:aG w.lf=true:=by unfold aG;simp;omega
    by_cases a4:w.lf=w.fr
    ·rw[show ji h w=false by unfold ji;simp[a4]]
     have g4:(w.lf==w.fr)=true:=by simpa using a4
     clear a4
     refine aj ?_;(try exact⟨⟩)
    ·have g4:(w.lf==w.fr)=false:=by simpa using a4
     refine aj ?_;(try exact⟨⟩)
     intro L hL
     have eL:ji h w=(decide (List.take 2 (List.drop (w.lf.toNat*2) w.zs)=L)&&(bn w.zs w.fr&&oC w)):=by
      unfold ji
      rw[a1,hlb,decide_eq_true a4,xD (by omega),←hL]
      rfl
     rw[eL]
     clear eL hL a4
     by_cases a5:List.take 2 (List.drop (w.lf.toNat*2) w.zs)=L
     ·have g5:(!bf [Seg.ints .i64 2 (List.take 2 (List.drop (w.lf.toNat*2) w.zs))] [Seg.ints .i64 2 L])=false:=by simp[bf,a5]
      have hm8:=nC w.zs 8
      have hin:=Cj w.zs w.fr
      rw[decide_eq_true a5]
      clear a5
      cases a6:bn w.zs w.fr with
      |false=>
       rw[a6]at hin
       refine aj ?_;(try exact⟨⟩)
       rfl
      |true=>
       rw[a6]at hin
       obtain⟨m0,m1⟩:=fA a6
       obtain⟨k,hk,hp,_⟩:=meets (a:=w.lf) (b:=w.fr) (by omega) (by omega) m0 m1 (by simpa using g4)
       have hw:jB w=(k:Int):=hp
       clear hp a6
       refine aj ?_;(try exact⟨⟩)
       intro m hm
       have hm:m=(k:Int):=hm.trans hw
       rcases(show k=0∨k=1∨k=2 by omega)with rfl|rfl|rfl
       ·rw[bare_0 hw]
        obtain rfl:m=0:=hm
        clear hm hw
        refine aj ?_;(try exact⟨⟩)
        refine aM.mk (aB 4 ?_)
        refine aj ?_;(try exact⟨⟩)
        rfl
       ·rw[bare_1 hw]
        obtain rfl:m=1:=hm
        clear hm hw
        cases a7:aL w.zs (16+n1 w.lf)with
        |true=>
         have g7:(w.zs.getD (16+(w.lf / 2*4+1).toNat) 0 !=0)=true:=a7
         refine aj ?_;(try exact⟨⟩)
         refine aM.mk (aB 4 ?_)
         refine aj ?_;(try exact⟨⟩)
         rfl
        |false=>
         have g7:(w.zs.getD (16+(w.lf / 2*4+1).toNat) 0 !=0)=false:=a7
         refine aj ?_;(try exact⟨⟩)
         refine aM.mk (aB 4 ?_)
         refine aj ?_;(try exact⟨⟩)
         rfl
       ·rw[bare_2 hw]
        obtain rfl:m=2:=hm
        clear hm hw
        cases a7:aL w.zs (16+n1 w.lf)with
        |true=>
         have g7:(w.zs.getD (16+(w.lf / 2*4+1).toNat) 0 !=0)=true:=a7
         refine aj ?_;(try exact⟨⟩)
         refine aM.mk (aB 4 ?_)
         refine aj ?_;(try exact⟨⟩)
         rfl
        |false=>
         have g7:(w.zs.getD (16+(w.lf / 2*4+1).toNat) 0 !=0)=false:=a7
         cases a8:aL w.zs (16+n2 w.lf)with
         |true=>
          have g8:(w.zs.getD (16+(w.lf / 4*8+3).toNat) 0 !=0)=true:=a8
          refine aj ?_;(try exact⟨⟩)
          refine aM.mk (aB 4 ?_)
          refine aj ?_;(try exact⟨⟩)
          rfl
         |false=>
          have g8:(w.zs.getD (16+(w.lf / 4*8+3).toNat) 0 !=0)=false:=a8
          refine aj ?_;(try exact⟨⟩)
          refine aM.mk (aB 4 ?_)
          refine aj ?_;(try exact⟨⟩)
          rfl
     ·have g5:(!bf [Seg.ints .i64 2 (List.take 2 (List.drop (w.lf.toNat*2) w.zs))] [Seg.ints .i64 2 L])=true:=by simp[bf,a5]
      rw[decide_eq_false a5]
      refine aj ?_;(try exact⟨⟩)
      rfl
def Yk:List A→(bP→Prop)→Prop
 |[.agg [.bytes 32 h],x],K=>wcK x fun w=>∀b,b=ji h w→K (.d (.v (.bool b)))
 |_,_=>False
theorem Yl:∀args K,Yk args K→∃r,aP 83 args r∧K r:=by
 intro args K h
 unfold Yk at h
 split at h
 ·obtain⟨c,h,hc⟩:=zM h
  refine⟨_,fun S w vs' hG ha=>?_,h _ rfl⟩
  obtain⟨v1,v2,rfl,k1,k2⟩:=lT ha
  exact ao4 _ c S w _ hG (.cons k1 (.cons (hc k2) .nil))
 ·exact h.elim
noncomputable def bd4:ay:=X4.add 83 Yk Yl ⟨_,Tryz.func83,by kernel_rfl,by kernel_rfl⟩
set_option maxHeartbeats 4000000 in
theorem ar7(h:List UInt8)(w:Wc)(hb:w.bx.length≤1000000):aP 33 [.agg [.bytes 32 h],.agg (jH w)] (.t [Ah (fE h w).2,.v (.int .i64 (fE h w).1)]):=by
 refine dK (E:=bd4) Tryz.func33 Tryz.ntmps33 ?_
 unfold fE
 cases a1:ji h w with
 |false=>
  rw[if_pos rfl]
  refine aj ?_;(try exact⟨⟩)
  intro b hb
  obtain rfl:b=false:=hb.trans a1
  refine aj ?_;(try exact⟨⟩)
  rfl
 |true=>
  rw[if_neg (show ¬true=false by decide)]
  obtain⟨q1,q2,q3,q4,q5,q6,q7⟩:=TV a1
  have hlb:aG w.lf=true:=by unfold aG;simp;omega
  obtain⟨m0,m1⟩:=fA q6
  obtain⟨k,hk,hp,_⟩:=meets (a:=w.lf) (b:=w.fr) (by omega) (by omega) m0 m1 q4
  have hw:jB w=(k:Int):=hp
  clear q1 q5 q6 q7 hp
  by_cases a2:bJ (au (av (aC h))) w.bx=0
  ·have g2:=decide_eq_true a2
   rw[if_neg (show ¬bJ (au (av (aC h))) w.bx≠0 from fun x=>x a2)]
   have hBl:=oV a2
   clear a2
   by_cases a3:w.bx.length-12=64
   ·rw[if_neg (show ¬w.bx.length-12≠64 from fun x=>x a3)]
    refine aj ?_;(try exact⟨⟩)
    intro b hb
    obtain rfl:b=true:=hb.trans a1
    clear hb a1
    refine aj ?_;(try exact⟨⟩)
    refine Or.inl ?_
    refine aj ?_;(try exact⟨⟩)
    intro m hm
    have hm:m=jB w:=hm
    have m2:0≤m:=by rw[hm,hw];omega
    have m3:m<3:=by rw[hm,hw];omega
    refine aj ?_;(try exact⟨⟩)
    rw[a3]
    refine aj ?_;(try exact⟨⟩)
    intro g r q hg hr hq
    have e32:List.take 32 (List.drop 32 (bg (au (av (aC h))) w.bx))=List.drop 32 (bg (au (av (aC h))) w.bx):=List.take_of_length_le (by rw[List.length_drop,hBl,a3];exact Nat.le_refl _)
    have hg:g=(aW (jF h w) (List.drop 32 (bg (au (av (aC h))) w.bx)) (jB w).toNat).1:=by rw[←e32,←hm];exact hg
    have hq:q=(aW (jF h w) (List.drop 32 (bg (au (av (aC h))) w.bx)) (jB w).toNat).2.2:=by rw[←e32,←hm];exact hq
    rw[←hg,←hq]
    clear hg hr hq e32 hBl
    cases g with
    |true=>
     rw[if_pos rfl]
     by_cases y:eB (bC q (List.take 32 (bg (au (av (aC h))) w.bx))).ep=w.tg
     ·rw[if_pos y]
      have g5:bf [Seg.bytes 32 (eB (bC q (List.take 32 (bg (au (av (aC h))) w.bx))).ep)] [Seg.bytes 32 w.tg]=true:=by simp[bf,y]
      have g6:(!bf [Seg.bytes 32 (eB (bC q (List.take 32 (bg (au (av (by0 h).sc)) w.bx))).ep)] [Seg.bytes 32 w.tg])=false:=congrArg not g5
      clear y g5
      refine aj ?_;(try exact⟨⟩)
      rfl
     ·rw[if_neg y]
      have g5:bf [Seg.bytes 32 (eB (bC q (List.take 32 (bg (au (av (aC h))) w.bx))).ep)] [Seg.bytes 32 w.tg]=false:=by
       show(decide (eB (bC q (List.take 32 (bg (au (av (aC h))) w.bx))).ep=w.tg)&&true)=false
       rw[decide_eq_false y]
       rfl
      have g6:(!bf [Seg.bytes 32 (eB (bC q (List.take 32 (bg (au (av (by0 h).sc)) w.bx))).ep)] [Seg.bytes 32 w.tg])=true:=congrArg not g5
      clear y g5
      refine aj ?_;(try exact⟨⟩)
      rfl
    |false=>
     rw[if_neg (show ¬false=true by decide)]
     refine aj ?_;(try exact⟨⟩)
     rfl
   ·rw[if_pos a3]
    have g3:(((w.bx.length-12:Nat):Int) !=64)=true:=by simp;omega
    clear a3
    refine aj ?_;(try exact⟨⟩)
    intro b hb
    obtain rfl:b=true:=hb.trans a1
    clear hb a1
    refine aj ?_;(try exact⟨⟩)
    refine Or.inl ?_
    refine aj ?_;(try exact⟨⟩)
    rfl
  ·have g2:=decide_eq_false a2
   rw[if_pos a2]
   have g3:(bJ (au (av (aC h))) w.bx !=0)=true:=by simpa using a2
   clear a2
   refine aj ?_;(try exact⟨⟩)
   intro b hb
   obtain rfl:b=true:=hb.trans a1
   clear hb a1
   refine aj ?_;(try exact⟨⟩)
   refine Or.inl ?_
   refine aj ?_;(try exact⟨⟩)
   rfl
end
end Go.Proofs.YtjhgelfnmhdihaaGreatDoor
