/-
  Parties: a commit is followed.
-/
import Derived.Test.YtjdjelopkhjdnaaGreatDoorJ41
namespace Go.Proofs.YtjdjelopkhjdnaaGreatDoor
set_option linter.unusedVariables false
set_option linter.unusedSimpArgs false
set_option maxRecDepth 100000
open Go.RowKit
section
open Pm
attribute [local irreducible] aV aZ bQ aA au dA cK aF bW aN aU ay ak aT dh bX aR bI fU iC aD bB aP jR dZ bZ bS aJ bT fJ bH bg fO bE bn aI
def ac7:Nat→Bk→List A→(bP→Bk→Prop)→Prop
 |0,b,[.v (.int .i64 y)],K=>prM b fun p=>aG p.lf=true∧(y≠2*p.lf→0≤aP p.lf y∧aP p.lf y<3)∧∀h,h=kW p y→K (.d (.agg [.bytes 32 h])) (.var (bL p))
 |_,_,_,_=>False
theorem ac8:∀pos x args K,ac7 pos x args K→∃r x',fK 126 pos x args r x'∧K r x':=by
 intro pos x args K h
 unfold ac7 at h
 split at h
 ·obtain⟨p,rfl,h1,h2,h⟩:=xO h
  exact⟨_,_,Mk p _ h1 h2,h _ rfl⟩
 ·exact h.elim
noncomputable def ba5:av:=aB8.kr 126 ac7 ac8 ⟨_,Tryz.func126,by kernel_rfl,by kernel_rfl⟩
theorem ao2(p:PS):gT p 0=p:=if_pos rfl
theorem ao3(p:PS):gT p 1=jM p:=(if_neg (by decide)).trans (if_pos rfl)
theorem ao4(p:PS):gT p 2=qc (jM p):=(if_neg (by decide)).trans (if_neg (by decide))
theorem W9(p:PS)(h:List UInt8):aW p h 0=iO p h:=if_pos rfl
theorem Xa(p:PS)(h:List UInt8):aW p h 1=dS p h:=(if_neg (by decide)).trans (if_pos rfl)
theorem Xb(p:PS)(h:List UInt8):aW p h 2=eU p h:=(if_neg (by decide)).trans (if_neg (by decide))
theorem TP(p:PS)(k:Int)(hf:aG p.lf=true)(h0:0≤k)(h1:k<3):fK 127 0 (.var (bL p)) [.v (.int .i64 k)] (.t []) (.var (bL (gT p k.toNat))):=by
 have:k=0∨k=1∨k=2:=by omega
 rcases this with rfl|rfl|rfl
 ·rw[show(0:Int).toNat=0 from rfl,ao2];exact N9 p hf
 ·rw[show(1:Int).toNat=1 from rfl,ao3];exact Oa p hf
 ·rw[show(2:Int).toNat=2 from rfl,ao4];exact Ob p hf
def N8:Nat→Bk→List A→(bP→Bk→Prop)→Prop
 |0,b,[.v (.int .i64 k)],K=>prM b fun p=>aG p.lf=true∧0≤k∧k<3∧∀q,q=gT p k.toNat→K (.t []) (.var (bL q))
 |_,_,_,_=>False
theorem TN:∀pos x args K,N8 pos x args K→∃r x',fK 127 pos x args r x'∧K r x':=by
 intro pos x args K h
 unfold N8 at h
 split at h
 ·obtain⟨p,rfl,h1,h2,h3,h⟩:=xO h
  exact⟨_,_,TP p _ h1 h2 h3,h _ rfl⟩
 ·exact h.elim
noncomputable def ba6:av:=ba5.kr 127 N8 TN ⟨_,Tryz.func127,by kernel_rfl,by kernel_rfl⟩
theorem Xc(p:PS)(k:Int)(h:List UInt8)(hf:aG p.lf=true)(h0:0≤k)(h1:k<3):fK 128 0 (.var (bL p)) [.v (.int .i64 k),.agg [.bytes 32 h]] (.t [.agg [.bytes 32 (aW p h k.toNat).2.1],.v (.bool (aW p h k.toNat).1)]) (.var (bL (aW p h k.toNat).2.2)):=by
 have:k=0∨k=1∨k=2:=by omega
 rcases this with rfl|rfl|rfl
 ·rw[show(0:Int).toNat=0 from rfl,W9];exact Tg p h hf
 ·rw[show(1:Int).toNat=1 from rfl,Xa];exact Ti p h hf
 ·rw[show(2:Int).toNat=2 from rfl,Xb];exact Tj p h hf
def Ia:Nat→Bk→List A→(bP→Bk→Prop)→Prop
 |0,b,[.v (.int .i64 k),.agg [.bytes 32 h]],K=>prM b fun p=>aG p.lf=true∧0≤k∧k<3∧∀g r q,g=(aW p h k.toNat).1→r=(aW p h k.toNat).2.1→q=(aW p h k.toNat).2.2→K (.t [.agg [.bytes 32 r],.v (.bool g)]) (.var (bL q))
 |_,_,_,_=>False
theorem Ny:∀pos x args K,Ia pos x args K→∃r x',fK 128 pos x args r x'∧K r x':=by
 intro pos x args K h
 unfold Ia at h
 split at h
 ·obtain⟨p,rfl,h1,h2,h3,h⟩:=xO h
  exact⟨_,_,Xc p _ _ h1 h2 h3,h _ _ _ rfl rfl rfl⟩
 ·exact h.elim
noncomputable def Kr:av:=ba6.kr 128 Ia Ny ⟨_,Tryz.func128,by kernel_rfl,by kernel_rfl⟩
theorem Ym(p:PS)(k:Nat):(gT p k).lf=p.lf:=by
 unfold gT qc jM
 split
 ·rfl
 ·split
  ·split<;>rfl
  ·split<;>split<;>rfl
set_option maxHeartbeats 4000000 in
theorem TM (p : PS) (c : CS) (l : List (Int × Int)) (hc : qH c) (hf : aG p.lf = true) (hl : l.length ≤ 3000) (hp : ∀ q ∈ l, 0 ≤ q.1 ∧ q.1 < 3 ∧ (q.2 ≠ 2 * p.lf → aI q.2 p.lf = true → 0 ≤ aP p.lf q.2 ∧ aP p.lf q.2 < 3)) :
    fK 61 0 (.var (bL p)) [.agg (gW c), .row l.length [.ints .i64 (l.length * 2) (bF l)]] (.t [.agg [.bytes 32 (o7 p c l).2.1], .v (.int .i64 (o7 p c l).1)]) (.var (bL (o7 p c l).2.2)) := by
  obtain ⟨X, hX⟩ : ∃ X, X = YZ p (bF l) l.length := ⟨_, rfl⟩
  have hfn := O8 p (bF l) l.length hl
  rw [← hX] at hfn
  have hx := hX.trans (KS p l)
  clear hX
  obtain ⟨c1, c2, c3, c4, c5, c6⟩ := id hc
  unfold o7
  cases hk : lQ c with
  | false =>
    rw [if_pos (.inl rfl)]
    clear hx
    refine Q7 (E := Kr) Tryz.func61 Tryz.ntmps61 ?_
    refine GW.seq (GW.of ?_)
    refine aj ?_; (try exact⟨⟩)
    refine GW.seq (GW.region (GL.cons (t := .d (.row l.length [.ints .i64 (l.length * 2) (bF l)])) rfl (y8 (x := .tmp 2) (.inl rfl) rfl) (GL.al8 rfl rfl rfl rfl rfl rfl rfl rfl rfl rfl (fun _ => rfl) rfl rfl (fun t h => by cases h; decide) ⟨_, rfl⟩ (Nat.le_of_ble_eq_true rfl) hfn rfl ⟨_, Tryz.func121, by kernel_rfl, by kernel_rfl⟩ (GL.of (Stop.out ?_)))))
    refine aj ?_; (try exact⟨⟩)
    refine GW.of ?_
    refine aj ?_; (try exact⟨⟩)
    intro b hb
    rw [hk] at hb
    subst hb
    refine aj ?_; (try exact⟨⟩)
    rfl
  | true =>
    by_cases hn : c.k = l.length
    · have g1 : ((c.k : Int) != (l.length : Int)) = false := by simp; omega
      by_cases hi : dz l p.lf = l.length
      · rw [if_pos (.inr (.inr hi))]
        rw [if_pos hi] at hx
        subst hx
        clear hn hi
        refine Q7 (E := Kr) Tryz.func61 Tryz.ntmps61 ?_
        refine GW.seq (GW.of ?_)
        refine aj ?_; (try exact⟨⟩)
        refine GW.seq (GW.region (GL.cons (t := .d (.row l.length [.ints .i64 (l.length * 2) (bF l)])) rfl (y8 (x := .tmp 2) (.inl rfl) rfl) (GL.al8 rfl rfl rfl rfl rfl rfl rfl rfl rfl rfl (fun _ => rfl) rfl rfl (fun t h => by cases h; decide) ⟨_, rfl⟩ (Nat.le_of_ble_eq_true rfl) hfn rfl ⟨_, Tryz.func121, by kernel_rfl, by kernel_rfl⟩ (GL.of (Stop.out ?_)))))
        refine aj ?_; (try exact⟨⟩)
        refine GW.of ?_
        refine aj ?_; (try exact⟨⟩)
        intro b hb
        rw [hk] at hb
        subst hb
        refine aj ?_; (try exact⟨⟩)
        rfl
      · rw [if_neg (by rintro (h | h | h); · cases h
                       · exact h hn
                       · exact hi h)]
        rw [if_neg hi] at hx
        have hil : dz l p.lf < l.length := by
          have : dz l p.lf ≤ l.length := List.findIdx_le_length
          omega
        have hun : aI (l.getD (dz l p.lf) (0, 0)).2 p.lf = true := by
          have h3 := List.findIdx_getElem (p := fun q : Int × Int => aI q.2 p.lf) (xs := l) (w := hil)
          rw [List.getD_eq_getElem?_getD, List.getElem?_eq_getElem hil]
          exact h3
        have hmem : l.getD (dz l p.lf) (0, 0) ∈ l := by rw [List.getD_eq_getElem?_getD, List.getElem?_eq_getElem hil]; exact List.getElem_mem hil
        have h2 := uy l (dz l p.lf) hil
        clear hi
        obtain ⟨N, hN⟩ : ∃ N, dz l p.lf = N := ⟨_, rfl⟩
        rw [hN] at hx hil hun hmem h2 ⊢
        clear hN
        subst hx
        obtain ⟨rk, rn, hr⟩ : ∃ rk rn, l.getD N (0, 0) = (rk, rn) := ⟨_, _, rfl⟩
        rw [hr] at hun hmem h2 ⊢
        clear hr
        dsimp only at hun h2 ⊢
        obtain ⟨q0, q1, q2⟩ := hp _ hmem
        dsimp only at q0 q1 q2
        clear hp hmem
        have q3 : rn ≠ 2 * p.lf → 0 ≤ aP p.lf rn ∧ aP p.lf rn < 3 := fun h => q2 h hun
        clear q2
        have e0 : (bF l).getD (N * 2) 0 = rk := by
          have := congrArg (fun x => x.getD 0 0) h2
          simpa [List.getD_eq_getElem?_getD, List.getElem?_take, List.getElem?_drop] using this
        have e1 : (bF l).getD (N * 2 + 1) 0 = rn := by
          have := congrArg (fun x => x.getD 1 0) h2
          simpa [List.getD_eq_getElem?_getD, List.getElem?_take, List.getElem?_drop] using this
        clear h2
        have e0 := Lib.hid e0
        have e1 := Lib.hid e1
        have i0 : ¬ ((N : Nat) : Int) < 0 := by omega
        have i1 : ((N : Nat) : Int) < (l.length : Int) := by omega
        have i2 : ((N : Nat) : Int) < (c.k : Int) := by omega
        clear hn
        refine Q7 (E := Kr) Tryz.func61 Tryz.ntmps61 ?_
        refine GW.seq (GW.of ?_)
        refine aj ?_; (try exact⟨⟩)
        refine GW.seq (GW.region (GL.cons (t := .d (.row l.length [.ints .i64 (l.length * 2) (bF l)])) rfl (y8 (x := .tmp 2) (.inl rfl) rfl) (GL.al8 rfl rfl rfl rfl rfl rfl rfl rfl rfl rfl (fun _ => rfl) rfl rfl (fun t h => by cases h; decide) ⟨_, rfl⟩ (Nat.le_of_ble_eq_true rfl) hfn rfl ⟨_, Tryz.func121, by kernel_rfl, by kernel_rfl⟩ (GL.of (Stop.out ?_)))))
        refine aj ?_; (try exact⟨⟩)
        refine GW.of ?_
        refine aj ?_; (try exact⟨⟩)
        intro b hb
        rw [hk] at hb
        subst hb
        refine aj ?_; (try exact⟨⟩)
        refine ⟨by rw [e1.out]; exact q3, ?_⟩
        intro h hh
        refine aj ?_; (try exact⟨⟩)
        refine ⟨by have := c6 N (by omega); omega, ?_⟩
        intro e u he hu
        rw [e1.out] at hh
        rw [hh] at he hu
        by_cases hz : e = 0
        · have d1 := decide_eq_true hz
          have d2 : (e != 0) = false := by rw [hz]; rfl
          rw [← he, if_neg (show ¬ e ≠ 0 from fun x => x hz)]
          clear hz
          refine aj ?_; (try exact⟨⟩)
          intro q hq
          rw [e0.out] at hq
          have hq : q = gT p rk.toNat := hq
          have hql : aG q.lf = true := by rw [hq, Ym]; exact hf
          refine aj ?_; (try exact⟨⟩)
          intro g r q' hg hr2 hq'
          rw [e0.out] at hg hr2 hq'
          have hg : g = (aW q u rk.toNat).1 := hg
          have hr2 : r = (aW q u rk.toNat).2.1 := hr2
          have hq' : q' = (aW q u rk.toNat).2.2 := hq'
          have hu : u = bg (au (ay (kW p rn))) (c.bx N) := hu
          rw [hq, hu] at hg hr2 hq'
          clear hq hu
          have e3 : aW (gT p rk.toNat) (bg (au (ay (kW p rn))) (c.bx N)) rk.toNat = (g, r, q') := by rw [hg, hr2, hq']
          rw [e3]
          clear e3 hg hr2 hq'
          cases g with
          | true =>
            rw [if_pos rfl]
            refine aj ?_; (try exact⟨⟩)
            try rfl
          | false =>
            rw [if_neg (show ¬ ((false, r, q') : Bool × List UInt8 × PS).1 = true from Bool.false_ne_true)]
            refine aj ?_; (try exact⟨⟩)
            try rfl
        · have d1 := decide_eq_false hz
          have d2 : (e != 0) = true := by simpa using hz
          rw [← he, if_pos hz]
          clear hz
          refine aj ?_; (try exact⟨⟩)
          rfl
    · have g1 : ((c.k : Int) != (l.length : Int)) = true := by simp; omega
      rw [if_pos (.inr (.inl hn))]
      clear hn hx
      refine Q7 (E := Kr) Tryz.func61 Tryz.ntmps61 ?_
      refine GW.seq (GW.of ?_)
      refine aj ?_; (try exact⟨⟩)
      refine GW.seq (GW.region (GL.cons (t := .d (.row l.length [.ints .i64 (l.length * 2) (bF l)])) rfl (y8 (x := .tmp 2) (.inl rfl) rfl) (GL.al8 rfl rfl rfl rfl rfl rfl rfl rfl rfl rfl (fun _ => rfl) rfl rfl (fun t h => by cases h; decide) ⟨_, rfl⟩ (Nat.le_of_ble_eq_true rfl) hfn rfl ⟨_, Tryz.func121, by kernel_rfl, by kernel_rfl⟩ (GL.of (Stop.out ?_)))))
      refine aj ?_; (try exact⟨⟩)
      refine GW.of ?_
      refine aj ?_; (try exact⟨⟩)
      intro b hb
      rw [hk] at hb
      subst hb
      refine aj ?_; (try exact⟨⟩)
      rfl
end
section
open Pm
attribute [local irreducible] aV aZ bQ aA au dA cK aF bW aN aU ay ak aT dh bX aR bI fU iC aD bB aP jR dZ bZ bS aJ bT fJ bH bg fO bE bn aI qX o7
def aH7:List A→(bP→Prop)→Prop
 |[x,y],K=>Wd x fun p=>oW y fun c=>eD c≤900000∧∀e,e=qX p c→K (.d (.v (.int .i64 e)))
 |_,_=>False
theorem ak2:∀args K,aH7 args K→∃r,aQ 60 args r∧K r:=by
 intro args K h
 unfold aH7 at h
 split at h
 ·obtain⟨p,rfl,h⟩:=qQ h
  obtain⟨c,⟨hb,h⟩,hc⟩:=gG h
  refine⟨_,fun S w vs' hG ha=>?_,h _ rfl⟩
  obtain⟨v1,v2,rfl,k1,k2⟩:=lH ha
  obtain⟨q1,q2,q3⟩:=hc k2
  exact SE p c q2 q3 hb S w _ hG (.cons k1 (.cons q1 .nil))
 ·exact h.elim
def ZW:List A→(bP→Prop)→Prop
 |[.agg [.ints .i64 31 zs],.v (.int .i64 x),.agg [.bools 8 bt]],K=>∀l,l=aR zs x bt→K (.d (.row l.length [.ints .i64 (l.length*2) (bF l)]))
 |_,_=>False
theorem ZX:∀args K,ZW args K→∃r,aQ 62 args r∧K r:=by
 intro args K h
 unfold ZW at h
 split at h
 ·exact⟨_,mQ (RI _ _ _),h _ rfl⟩
 ·exact h.elim
def Jb(lf:Int)(l:List (Int×Int)):Prop:=∀q∈l,0≤q.1∧q.1<3∧(q.2≠2*lf→aI q.2 lf=true→0≤aP lf q.2∧aP lf q.2<3)
theorem O7{lf:Int}:(aP lf (lf / 2*4+1)=0∨aP lf (lf / 2*4+1)=1∨aP lf (lf / 2*4+1)=2)∧(aP lf (lf / 4*8+3)=0∨aP lf (lf / 4*8+3)=1∨aP lf (lf / 4*8+3)=2)∧(aP lf 7=0∨aP lf 7=1∨aP lf 7=2):=by
 unfold aP pY
 refine⟨?_,?_,?_⟩
 ·rw[if_pos rfl];exact .inl rfl
 ·split
  ·exact .inl rfl
  ·rw[if_pos rfl];exact .inr (.inl rfl)
 ·split
  ·exact .inl rfl
  ·split
   ·exact .inr (.inl rfl)
   ·rw[if_pos rfl];exact .inr (.inr rfl)
theorem ZY{zs:List Int}{x lf:Int}{bt:List Bool}:Jb lf (aR zs x bt):=fun q hq=>by
 obtain⟨h1,h2,_,_⟩:=y9 hq
 refine⟨h1,h2,fun hne hu=>?_⟩
 obtain⟨a,b,c⟩:=O7 (lf:=lf)
 rcases qG hu with e|e|e|e
 ·exact absurd e hne
 ·rw[e];omega
 ·rw[e];omega
 ·rw[e];omega
def Yk:Nat→Bk→List A→(bP→Bk→Prop)→Prop
 |0,b,[x,.row n [.ints .i64 m z]],K=>prM b fun p=>oW x fun c=>∃l,n=l.length∧m=l.length*2∧z=bF l∧aG p.lf=true∧l.length≤3000∧Jb p.lf l∧∀e u q,e=(o7 p c l).1→u=(o7 p c l).2.1→q=(o7 p c l).2.2→K (.t [.agg [.bytes 32 u],.v (.int .i64 e)]) (.var (bL q))
 |_,_,_,_=>False
theorem Yl:∀pos x args K,Yk pos x args K→∃r x',fK 61 pos x args r x'∧K r x':=by
 intro pos x args K h
 unfold Yk at h
 split at h
 ·obtain⟨p,rfl,h⟩:=xO h
  obtain⟨c,⟨l,rfl,rfl,rfl,h1,h2,h3,h⟩,hc⟩:=gG h
  refine⟨_,_,fun S w r vs hr hG hx ha=>?_,h _ _ _ rfl rfl rfl⟩
  obtain⟨v1,v2,rfl,k1,k2⟩:=lH ha
  obtain⟨q1,q2,q3⟩:=hc k1
  exact TM p c l q2 h1 h2 h3 S w r _ hr hG hx (.cons q1 (.cons k2 .nil))
 ·exact h.elim
noncomputable def ba7:av:=Kr.add 60 aH7 ak2 ⟨_,Tryz.func60,by kernel_rfl,by kernel_rfl⟩
noncomputable def ba8:av:=ba7.add 62 ZW ZX ⟨_,Tryz.func62,by kernel_rfl,by kernel_rfl⟩
noncomputable def XQ:av:=ba8.kr 61 Yk Yl ⟨_,Tryz.func61,by kernel_rfl,by kernel_rfl⟩
set_option maxHeartbeats 4000000 in
theorem Pd(p:PS)(c:CS)(hc:qH c)(ht:c.tag.length=32)(hb:eD c≤900000)(hf:aG p.lf=true):
  aQ 15 [.sref (bL p) 0,.agg (gW c)] (.t [Ab (gD p c).2,.v (.int .i64 (gD p c).1)]):=by
 obtain⟨h1,h2,h3,h4,h5,h6⟩:=id hc
 obtain⟨f0,f1⟩:=cZ hf
 obtain⟨E,hE⟩:∃E,E=qX p c:=⟨_,rfl⟩
 refine dF (E:=XQ) Tryz.func15 Tryz.ntmps15 ?_
 unfold gD
 rw[←hE]
 by_cases a1:E=0
 ·have g1:(E !=0)=false:=by rw[a1];rfl
  rw[if_neg (fun x=>x a1)]
  have hm:bn p.zs c.fr=true:=(accE_0 (hE▸a1)).2.2
  obtain⟨m0,m1⟩:=eX hm
  have hfc:aG c.fr=true:=by unfold aG;simp;omega
  clear a1 hm
  by_cases a2:jR p c.fr c.n c.ops c.m c.vs=0
  ·have g2:=decide_eq_true a2
   rw[if_neg (fun x=>x a2)]
   have hy:0≤p.e:=by
    have hd:=aI0 a2
    have h:=(yE hd).1
    unfold dQ at h
    simp only[Bool.and_eq_true,decide_eq_true_eq]at h
    exact h.1.1.1.1.1
   clear a2
   obtain⟨s0,hs0⟩:∃s,s=dZ p c.fr c.n c.ops:=⟨_,rfl⟩
   rw[←hs0]
   cases a3:s0.gn.getD p.lf.toNat false with
   |true=>
    rw[if_pos rfl]
    refine aj ?_;(try exact⟨⟩)
    intro e he
    obtain rfl:e=E:=he.trans hE.symm
    clear he hE
    refine aj ?_;(try exact⟨⟩)
    intro s hs
    obtain rfl:s=s0:=hs.trans hs0.symm
    clear hs hs0
    refine aj ?_;(try exact⟨⟩)
    try rfl
   |false=>
    rw[if_neg (by decide)]
    by_cases a4:p.e≥1099511627776
    ·have g4:=decide_eq_true a4
     rw[if_pos a4]
     clear a4
     refine aj ?_;(try exact⟨⟩)
     intro e he
     obtain rfl:e=E:=he.trans hE.symm
     clear he hE
     refine aj ?_;(try exact⟨⟩)
     intro s hs
     obtain rfl:s=s0:=hs.trans hs0.symm
     clear hs hs0
     refine aj ?_;(try exact⟨⟩)
     try rfl
    ·have g4:=decide_eq_false a4
     rw[if_neg a4]
     have he0: -4611686018427387904≤p.e:=by omega
     have he1:p.e≤4611686018427387904:=by omega
     clear a4 hy
     refine aj ?_;(try exact⟨⟩)
     intro e he
     obtain rfl:e=E:=he.trans hE.symm
     clear he hE
     refine aj ?_;(try exact⟨⟩)
     intro s hs
     obtain rfl:s=s0:=hs.trans hs0.symm
     clear hs hs0
     refine aj ?_;(try exact⟨⟩)
     refine Or.inl ?_
     refine aj ?_;(try exact⟨⟩)
     intro l hl
     have hl3:l.length≤3000:=by rw[hl];have:=oM s.zs s.ng c.fr;omega
     have hpf:Jb p.lf l:=by rw[hl];exact ZY
     refine aj ?_;(try exact⟨⟩)
     rw[←hl]
     clear hl hpf hl3
     intro er u q her hu hq
     have her:er=(o7 (gu p s c) c l).1:=her
     have hu:u=(o7 (gu p s c) c l).2.1:=hu
     have hq:q=(o7 (gu p s c) c l).2.2:=hq
     rw[←her,←hu,←hq]
     clear her hu hq
     by_cases z:er=0
     ·have d2:(er !=0)=false:=by rw[z];rfl
      rw[if_neg (show ¬er≠0 from fun x=>x z)]
      clear z
      refine aj ?_;(try exact⟨⟩)
      obtain⟨Q,hQ⟩:∃Q,Q=bG q (kV p.jE u):=⟨_,rfl⟩
      rw[←hQ]
      by_cases y:dY Q.ep=c.tag
      ·rw[if_pos y]
       have g5:bf [Seg.bytes 32 (dY Q.ep)] [Seg.bytes 32 c.tag]=true:=by simp[bf,y]
       rw[hQ]at g5 ⊢
       have g6:(!bf [Seg.bytes 32 (dY (bG q (kV p.jE u)).ep)] [Seg.bytes 32 c.tag])=false:=by rw[g5];rfl
       clear y hQ g5
       refine aj ?_;(try exact⟨⟩)
       try rfl
      ·rw[if_neg y]
       have g5:bf [Seg.bytes 32 (dY Q.ep)] [Seg.bytes 32 c.tag]=false:=by simp[bf,y]
       rw[hQ]at g5
       have g6:(!bf [Seg.bytes 32 (dY (bG q (kV p.jE u)).ep)] [Seg.bytes 32 c.tag])=true:=by rw[g5];rfl
       clear y hQ g5
       refine aj ?_;(try exact⟨⟩)
       try rfl
     ·have d2:(er !=0)=true:=by simpa using z
      rw[if_pos z]
      clear z
      refine aj ?_;(try exact⟨⟩)
      try rfl
  ·have g2:=decide_eq_false a2
   rw[if_pos a2]
   have g3:(jR p c.fr c.n c.ops c.m c.vs !=0)=true:=by simpa using a2
   clear a2
   refine aj ?_;(try exact⟨⟩)
   intro e he
   obtain rfl:e=E:=he.trans hE.symm
   clear he hE
   refine aj ?_;(try exact⟨⟩)
   try rfl
 ·have g1:(E !=0)=true:=by simpa using a1
  rw[if_pos a1]
  clear a1
  refine aj ?_;(try exact⟨⟩)
  intro e he
  obtain rfl:e=E:=he.trans hE.symm
  clear he hE
  refine aj ?_;(try exact⟨⟩)
  try rfl
end
section
open Pm
attribute [local irreducible] aV aZ bQ aA au dA cK aF bW aN aU ay ak aT dh bX aR bI fU iC aD bB aP jR dZ bZ bS aJ bT fJ bH bg fO bE bn dQ fu bq
def wcK:A→(Wc→Prop)→Prop
 | .agg [.ints .i64 2 [lf,fr],.ints .i64 1 [e],.ints .i64 31 zs,.bools 8 ad,.ints .i64 1 [k],.bytes 32 ch,.gen 1 [x],.bytes 32 tg],K=>pO x fun b=>K ⟨lf,fr,e,zs,ad,k,ch,b,tg⟩
 |_,_=>False
theorem zF{x:A}{K:Wc→Prop}(h:wcK x K):∃w,K w∧∀{S:Nat→Prop} {wd:World} {v:Value},RA S wd x v→RA S wd (.agg (jB w)) v:=by
 unfold wcK at h
 split at h
 ·obtain⟨b,h,hv⟩:=iw h
  refine⟨_,h,fun {S wd v} ha=>?_⟩
  cases ha with
  |agg hl=>
   cases hl with
   |ints q1 r1=>cases r1 with
    |ints q2 r2=>cases r2 with
     |ints q3 r3=>cases r3 with
      |bools q4 r4=>cases r4 with
       |ints q5 r5=>cases r5 with
        |bytes q6 r6=>cases r6 with
         |gen g q7 r7=>cases r7 with
          |bytes q8 r8=>
           cases r8
           cases g with
           |cons gx gx1 g1=>
            cases g1
            exact .agg (.ints q1 (.ints q2 (.ints q3 (.bools q4 (.ints q5 (.bytes q6 (.gen (.cons (hv gx) gx1 .nil) rfl (.bytes q8 .nil))))))))
 ·exact h.elim
set_option maxHeartbeats 1000000 in
theorem OA(w:Wc)(h1:aG w.lf=true):aQ 139 [.agg (jB w)] (.d (.v (.int .i64 (jr w)))):=by
 refine dF (E:=XQ) Tryz.func139 Tryz.ntmps139 ?_
 refine aj ?_;(try exact⟨⟩)
 try rfl
def Zj:List A→(bP→Prop)→Prop
 |[x],K=>wcK x fun w=>aG w.lf=true∧∀m,m=jr w→K (.d (.v (.int .i64 m)))
 |_,_=>False
theorem Zk:∀args K,Zj args K→∃r,aQ 139 args r∧K r:=by
 intro args K h
 unfold Zj at h
 split at h
 ·obtain⟨c,⟨h1,h⟩,hc⟩:=zF h
  refine⟨_,fun S w vs' hG ha=>?_,h _ rfl⟩
  obtain⟨v1,rfl,k1⟩:=iL ha
  exact OA c h1 S w _ hG (.cons (hc k1) .nil)
 ·exact h.elim
noncomputable def ba9:av:=XQ.add 139 Zj Zk ⟨_,Tryz.func139,by kernel_rfl,by kernel_rfl⟩
noncomputable def XR:av:=ba9.add 182 Vy (Co ag7) ⟨_,Tryz.func182,by kernel_rfl,by kernel_rfl⟩
theorem bare_0{w:Wc}(h:jr w=0):nZ w=true:=by unfold nZ;rw[h];rfl
theorem bare_1{w:Wc}(h:jr w=1):nZ w=!aL w.zs (16+n1 w.lf):=by unfold nZ;rw[h];simp
theorem bare_2{w:Wc}(h:jr w=2):nZ w=(!aL w.zs (16+n1 w.lf)&& !aL w.zs (16+n2 w.lf)):=by unfold nZ;rw[h];simp
theorem xB{zs:List Int}{j:Nat}(h:j<8):bq zs j=List.take 2 (List.drop (j*2) zs):=by
 unfold bq
 rw[List.drop_take,List.take_take,show min 2 (16-j*2)=2 by omega]
set_option maxHeartbeats 4000000 in
theorem an7(h:List UInt8)(w:Wc):aQ 137 [.agg [.bytes 32 h],.agg (jB w)] (.d (.v (.bool (jd h w)))):=by
 refine dF (E:=XR) Tryz.func137 Tryz.ntmps137 ?_
 cases a1:dQ w.e w.zs w.ad w.k with
 |false=>
  rw[show jd h w=false by unfold jd;rw[a1];rfl]
  refine aj ?_;(try exact⟨⟩)
 |true=>
  by_cases a2:w.lf<0
  ·rw[show jd h w=false by unfold jd aG;simp;omega]
   refine aj ?_;(try exact⟨⟩)
  ·by_cases a3:w.lf≥8
   ·rw[show jd h w=false by unfold jd aG;simp;omega]
    refine aj ?_;(try exact⟨⟩)
   ·have hlb:aG w.lf=true:=by unfold aG;simp;omega
    by_cases a4:w.lf=w.fr
    ·rw[show jd h w=false by unfold jd;simp[a4]]
     have g4:(w.lf==w.fr)=true:=by simpa using a4
     clear a4
     refine aj ?_;(try exact⟨⟩)
    ·have g4:(w.lf==w.fr)=false:=by simpa using a4
     refine aj ?_;(try exact⟨⟩)
     intro L hL
     have eL:jd h w=(decide (List.take 2 (List.drop (w.lf.toNat*2) w.zs)=L)&&(bn w.zs w.fr&&nZ w)):=by
      unfold jd
      rw[a1,hlb,decide_eq_true a4,xB (by omega),←hL]
      rfl
     rw[eL]
     clear eL hL a4
     by_cases a5:List.take 2 (List.drop (w.lf.toNat*2) w.zs)=L
     ·have g5:(!bf [Seg.ints .i64 2 (List.take 2 (List.drop (w.lf.toNat*2) w.zs))] [Seg.ints .i64 2 L])=false:=by simp[bf,a5]
      have hm8:=mW w.zs 8
      have hin:=Ca w.zs w.fr
      rw[decide_eq_true a5]
      clear a5
      cases a6:bn w.zs w.fr with
      |false=>
       rw[a6]at hin
       refine aj ?_;(try exact⟨⟩)
       rfl
      |true=>
       rw[a6]at hin
       obtain⟨m0,m1⟩:=eX a6
       obtain⟨k,hk,hp,_⟩:=meets (a:=w.lf) (b:=w.fr) (by omega) (by omega) m0 m1 (by simpa using g4)
       have hw:jr w=(k:Int):=hp
       clear hp a6
       refine aj ?_;(try exact⟨⟩)
       intro m hm
       have hm:m=(k:Int):=hm.trans hw
       rcases(show k=0∨k=1∨k=2 by omega)with rfl|rfl|rfl
       ·rw[bare_0 hw]
        obtain rfl:m=0:=hm
        clear hm hw
        refine aj ?_;(try exact⟨⟩)
        refine aM.mk (aB 4 ?_)
        refine aj ?_;(try exact⟨⟩)
        rfl
       ·rw[bare_1 hw]
        obtain rfl:m=1:=hm
        clear hm hw
        cases a7:aL w.zs (16+n1 w.lf)with
        |true=>
         have g7:(w.zs.getD (16+(w.lf / 2*4+1).toNat) 0 !=0)=true:=a7
         refine aj ?_;(try exact⟨⟩)
         refine aM.mk (aB 4 ?_)
         refine aj ?_;(try exact⟨⟩)
         rfl
        |false=>
         have g7:(w.zs.getD (16+(w.lf / 2*4+1).toNat) 0 !=0)=false:=a7
         refine aj ?_;(try exact⟨⟩)
         refine aM.mk (aB 4 ?_)
         refine aj ?_;(try exact⟨⟩)
         rfl
       ·rw[bare_2 hw]
        obtain rfl:m=2:=hm
        clear hm hw
        cases a7:aL w.zs (16+n1 w.lf)with
        |true=>
         have g7:(w.zs.getD (16+(w.lf / 2*4+1).toNat) 0 !=0)=true:=a7
         refine aj ?_;(try exact⟨⟩)
         refine aM.mk (aB 4 ?_)
         refine aj ?_;(try exact⟨⟩)
         rfl
        |false=>
         have g7:(w.zs.getD (16+(w.lf / 2*4+1).toNat) 0 !=0)=false:=a7
         cases a8:aL w.zs (16+n2 w.lf)with
         |true=>
          have g8:(w.zs.getD (16+(w.lf / 4*8+3).toNat) 0 !=0)=true:=a8
          refine aj ?_;(try exact⟨⟩)
          refine aM.mk (aB 4 ?_)
          refine aj ?_;(try exact⟨⟩)
          rfl
         |false=>
          have g8:(w.zs.getD (16+(w.lf / 4*8+3).toNat) 0 !=0)=false:=a8
          refine aj ?_;(try exact⟨⟩)
          refine aM.mk (aB 4 ?_)
          refine aj ?_;(try exact⟨⟩)
          rfl
     ·have g5:(!bf [Seg.ints .i64 2 (List.take 2 (List.drop (w.lf.toNat*2) w.zs))] [Seg.ints .i64 2 L])=true:=by simp[bf,a5]
      rw[decide_eq_false a5]
      refine aj ?_;(try exact⟨⟩)
      rfl
def Yb:List A→(bP→Prop)→Prop
 |[.agg [.bytes 32 h],x],K=>wcK x fun w=>∀b,b=jd h w→K (.d (.v (.bool b)))
 |_,_=>False
theorem Yc:∀args K,Yb args K→∃r,aQ 137 args r∧K r:=by
 intro args K h
 unfold Yb at h
 split at h
 ·obtain⟨c,h,hc⟩:=zF h
  refine⟨_,fun S w vs' hG ha=>?_,h _ rfl⟩
  obtain⟨v1,v2,rfl,k1,k2⟩:=lH ha
  exact an7 _ c S w _ hG (.cons k1 (.cons (hc k2) .nil))
 ·exact h.elim
noncomputable def bb4:av:=XR.add 137 Yb Yc ⟨_,Tryz.func137,by kernel_rfl,by kernel_rfl⟩
set_option maxHeartbeats 4000000 in
theorem aq8(h:List UInt8)(w:Wc)(hb:w.bx.length≤1000000):aQ 67 [.agg [.bytes 32 h],.agg (jB w)] (.t [Ab (fF h w).2,.v (.int .i64 (fF h w).1)]):=by
 refine dF (E:=bb4) Tryz.func67 Tryz.ntmps67 ?_
 unfold fF
 cases a1:jd h w with
 |false=>
  rw[if_pos rfl]
  refine aj ?_;(try exact⟨⟩)
  intro b hb
  obtain rfl:b=false:=hb.trans a1
  refine aj ?_;(try exact⟨⟩)
  rfl
 |true=>
  rw[if_neg (show ¬true=false by decide)]
  obtain⟨q1,q2,q3,q4,q5,q6,q7⟩:=TG a1
  have hlb:aG w.lf=true:=by unfold aG;simp;omega
  obtain⟨m0,m1⟩:=eX q6
  obtain⟨k,hk,hp,_⟩:=meets (a:=w.lf) (b:=w.fr) (by omega) (by omega) m0 m1 q4
  have hw:jr w=(k:Int):=hp
  clear q1 q5 q6 q7 hp
  by_cases a2:bH (au (ay (aC h))) w.bx=0
  ·have g2:=decide_eq_true a2
   rw[if_neg (show ¬bH (au (ay (aC h))) w.bx≠0 from fun x=>x a2)]
   have hBl:=oL a2
   clear a2
   by_cases a3:w.bx.length-12=64
   ·rw[if_neg (show ¬w.bx.length-12≠64 from fun x=>x a3)]
    refine aj ?_;(try exact⟨⟩)
    intro b hb
    obtain rfl:b=true:=hb.trans a1
    clear hb a1
    refine aj ?_;(try exact⟨⟩)
    refine Or.inl ?_
    refine aj ?_;(try exact⟨⟩)
    intro m hm
    have hm:m=jr w:=hm
    have m2:0≤m:=by rw[hm,hw];omega
    have m3:m<3:=by rw[hm,hw];omega
    refine aj ?_;(try exact⟨⟩)
    rw[a3]
    refine aj ?_;(try exact⟨⟩)
    intro g r q hg hr hq
    have e32:List.take 32 (List.drop 32 (bg (au (ay (aC h))) w.bx))=List.drop 32 (bg (au (ay (aC h))) w.bx):=List.take_of_length_le (by rw[List.length_drop,hBl,a3];exact Nat.le_refl _)
    have hg:g=(aW (jy h w) (List.drop 32 (bg (au (ay (aC h))) w.bx)) (jr w).toNat).1:=by rw[←e32,←hm];exact hg
    have hq:q=(aW (jy h w) (List.drop 32 (bg (au (ay (aC h))) w.bx)) (jr w).toNat).2.2:=by rw[←e32,←hm];exact hq
    rw[←hg,←hq]
    clear hg hr hq e32 hBl
    cases g with
    |true=>
     rw[if_pos rfl]
     by_cases y:dY (bG q (List.take 32 (bg (au (ay (aC h))) w.bx))).ep=w.tg
     ·rw[if_pos y]
      have g5:bf [Seg.bytes 32 (dY (bG q (List.take 32 (bg (au (ay (aC h))) w.bx))).ep)] [Seg.bytes 32 w.tg]=true:=by simp[bf,y]
      have g6:(!bf [Seg.bytes 32 (dY (bG q (List.take 32 (bg (au (ay (by0 h).sc)) w.bx))).ep)] [Seg.bytes 32 w.tg])=false:=congrArg not g5
      clear y g5
      refine aj ?_;(try exact⟨⟩)
      rfl
     ·rw[if_neg y]
      have g5:bf [Seg.bytes 32 (dY (bG q (List.take 32 (bg (au (ay (aC h))) w.bx))).ep)] [Seg.bytes 32 w.tg]=false:=by
       show(decide (dY (bG q (List.take 32 (bg (au (ay (aC h))) w.bx))).ep=w.tg)&&true)=false
       rw[decide_eq_false y]
       rfl
      have g6:(!bf [Seg.bytes 32 (dY (bG q (List.take 32 (bg (au (ay (by0 h).sc)) w.bx))).ep)] [Seg.bytes 32 w.tg])=true:=congrArg not g5
      clear y g5
      refine aj ?_;(try exact⟨⟩)
      rfl
    |false=>
     rw[if_neg (show ¬false=true by decide)]
     refine aj ?_;(try exact⟨⟩)
     rfl
   ·rw[if_pos a3]
    have g3:(((w.bx.length-12:Nat):Int) !=64)=true:=by simp;omega
    clear a3
    refine aj ?_;(try exact⟨⟩)
    intro b hb
    obtain rfl:b=true:=hb.trans a1
    clear hb a1
    refine aj ?_;(try exact⟨⟩)
    refine Or.inl ?_
    refine aj ?_;(try exact⟨⟩)
    rfl
  ·have g2:=decide_eq_false a2
   rw[if_pos a2]
   have g3:(bH (au (ay (aC h))) w.bx !=0)=true:=by simpa using a2
   clear a2
   refine aj ?_;(try exact⟨⟩)
   intro b hb
   obtain rfl:b=true:=hb.trans a1
   clear hb a1
   refine aj ?_;(try exact⟨⟩)
   refine Or.inl ?_
   refine aj ?_;(try exact⟨⟩)
   rfl
end
end Go.Proofs.YtjdjelopkhjdnaaGreatDoor
