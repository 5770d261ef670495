/-
 The statement of PartyForks is proved: whatever the input, the law's call returns true, and each argument reads behind it as before. The listed package variables hold what the program's text lays (the card ties them).
-/
import Derived.Test.YtjhgelfnmhdihaaGreatDoorJ52
import Derived.Test.YtjhgelfnmhdihaaGreatDoorDg
import Derived.Test.YtjhgelfnmhdihaaGreatDoorCards
import Derived.Test.YtjhgelfnmhdihaaGreatDoorTie
import Derived.ShutString
import Derived.ChangeOld
import Derived.Below
import Derived.SevenTiedAt
namespace Go.Proofs.YtjhgelfnmhdihaaGreatDoor
set_option linter.unusedSectionVars false
set_option linter.unusedVariables false
set_option linter.unusedSimpArgs false
set_option maxRecDepth 100000
open Go.RowKit
section
open Pm
attribute [local irreducible] cO aA au jm aC dA gu dU bU aI
end
section
open Pm
theorem El{p:PS}(h:Own p):bn p.zs p.lf=true:=by
 have l0:=h.inv.lf0
 have l1:=h.inv.lf1
 have e:p.lf=((p.lf.toNat:Nat):Int):=by omega
 rw[e,Ba _ (by omega)]
 unfold dF
 rw[h.lf]
 exact decide_eq_true fun e=>DT (DU _ (dL p.sg)) (List.cons.inj e).1
theorem as8{p:PS}(h:Own p)(he:p.e<1099511627776):bW p 0 [] 0 []=0∧dJ p p.lf 0 []=⟨p.zs,p.ad,p.k,F8,F8⟩:=by
 have hd:=KE (e:=p.e) (s:=⟨p.zs,p.ad,p.k,F8,F8⟩) (fr:=p.lf) h.may (El h)
 refine⟨?_,?_⟩
 ·have hc:bX p.e p.zs p.ad p.k p.ch p.lf [] 0 [] 0=0:=by unfold bX;rw[if_pos rfl,if_pos rfl]
  unfold bW
  rw[if_neg (fun h=>h hc),hd,if_neg (fun h=>h rfl),if_neg (by omega)]
 ·unfold dJ;rw[hd]
theorem F8_0(k:Nat):F8.getD k false=false:=by rcases k with _|_|_|_|_|_|_|_|k<;>rfl
theorem Zv(p:PS)(s:Vw)(n:Nat)(ops:List Int)(m:Nat)(vs:List Int)(d:List UInt8):(aH p s n ops m vs d).e=p.e+1:=by dsimp only[aH,bC,dG,fK,gN]
theorem Lp{p q:PS}(hp:Own p)(hq:Own q)(hl:Like p q)(hne:p.lf≠q.lf)(he:q.e<1099511627776)(d:List UInt8):
  ∃p',eF p (bH q (dJ q q.lf 0 []) 0 [] 0 [] d)=(0,some p')∧Own p'∧Like p' (aH q (dJ q q.lf 0 []) 0 [] 0 [] d)∧p'.lf=p.lf∧p'.e=p.e+1:=by
 obtain⟨c1,c2⟩:=as8 hq he
 obtain⟨_,g⟩:=zm hp hq hl hne c1 d rfl
 obtain⟨p',k1,k2,k3,k4,k5⟩:=g (by rw[c2];exact F8_0 _)
 exact⟨p',k1,k2,k3,k4,by rw[k3.e,Zv,hl.e]⟩
theorem Mc{p:PS}{c:CS}(h:c.e≠p.e):eF p c=(5,none):=by
 have e:qb p c=5:=by unfold qb;rw[if_pos h]
 unfold eF
 rw[e,if_pos (by decide)]
theorem bt8{a b p:PS}(ha:Own a)(hb:Own b)(hp:Own p)(la:Like p a)(lb:Like p b)(na:p.lf≠a.lf)(nb:p.lf≠b.lf)(he:p.e<1099511627776)(da db:List UInt8):
  bW a 0 [] 0 []=0∧bW b 0 [] 0 []=0∧∃p' q',eF p (bH a (dJ a a.lf 0 []) 0 [] 0 [] da)=(0,some p')∧Own p'∧
   eF p' (bH b (dJ b b.lf 0 []) 0 [] 0 [] db)=(5,none)∧eF p' (bH a (dJ a a.lf 0 []) 0 [] 0 [] da)=(5,none)∧
   eF p (bH b (dJ b b.lf 0 []) 0 [] 0 [] db)=(0,some q')∧Own q'∧q'.e=p'.e:=by
 have ea:a.e<1099511627776:=by rw[←la.e];exact he
 have eb:b.e<1099511627776:=by rw[←lb.e];exact he
 obtain⟨p',a1,a2,a3,a4,a5⟩:=Lp hp ha la na ea da
 obtain⟨q',b1,b2,b3,b4,b5⟩:=Lp hp hb lb nb eb db
 refine⟨(as8 ha ea).1,(as8 hb eb).1,p',q',a1,a2,Mc ?_,Mc ?_,b1,b2,by rw[a5,b5]⟩
 ·rw[NR,a5,lb.e];omega
 ·rw[NR,a5,la.e];omega
end
section
open Go.ChangeShapes Pm
theorem pr_eq{α β:Type}{a c:α}{b d:β}{x:α×β}(h:(a,b)=x)(k:x=(c,d)):a=c∧b=d:=by
 have:=h.trans k
 exact⟨congrArg Prod.fst this,congrArg Prod.snd this⟩
theorem own_lfB{p:PS}(h:Own p):aG p.lf=true:=by
 have:=h.inv.lf0
 have:=h.inv.lf1
 unfold aG
 simp;omega
theorem groupM_e{M:Nat}(m0:1≤M)(m1:M≤6){i:Nat}{p:PS}(hp:iE (pG M 1 1) i=some p):p.e<1099511627776:=by
 have g:=r9 (A:=1) (by omega) (M-1) (by omega)
 rw[show M-1+1=M by omega,show min M 1=1 by omega]at g
 have e:pG M 1 1=dV 1 (M-1):=by unfold pG;rw[if_neg (by decide)]
 rw[e]at hp
 have hf:=Dz g (by omega)
 have lk:=g.full.FC.like _ _ _ _ hp hf
 rw[lk.e,(g.v _ hf).e]
 omega
attribute [local irreducible] aU aZ bR aA au dB cO aF bZ aN aT av ak aR cZ bX aQ bK gB iC aD bA aO jW dJ bW bH aH bT fU bJ bg gY aJ nk qP kF bn fV eD dU eT bq aC bU fE dQ eF wH bE dV stepM wE uo aY iW pG Oh
set_option maxHeartbeats 4000000 in
theorem partyForks_fn(M a b:Int):aP 11 [.v (.int .i64 M),.v (.int .i64 a),.v (.int .i64 b)] (.d (.v (.bool true))):=by
 refine dK (E:=Oc) Tryz.func11 Tryz.ntmps11 ?_
 by_cases m1:M<3
 ·refine aj ?_;(try exact⟨⟩)
 by_cases m2:M>5
 ·refine aj ?_;(try exact⟨⟩)
 obtain⟨m,rfl⟩:=Int.eq_ofNat_of_zero_le (show 0≤M by omega)
 have gf:=DC (M:=m) (A:=1) (k:=1) (by omega) (by omega) (by omega) (by omega) (by omega) (by omega)
 obtain⟨p0,h0,l0⟩:=gf.at' 0 (by omega)
 obtain⟨p1,h1,l1⟩:=gf.at' 1 (by omega)
 obtain⟨p2,h2,l2⟩:=gf.at' 2 (by omega)
 have o0:=gf.FC.own _ _ h0
 have o1:=gf.FC.own _ _ h1
 have o2:=gf.FC.own _ _ h2
 obtain⟨ha0,ha1⟩:=JU a
 obtain⟨hb0,hb1⟩:=JU b
 obtain⟨da,hda⟩:∃da,da=UInt8.ofNat (IntKind.u8.wrap a).toNat::UInt8.ofNat 1::List.replicate 30 (0:UInt8):=⟨_,rfl⟩
 obtain⟨db,hdb⟩:∃db,db=UInt8.ofNat (IntKind.u8.wrap b).toNat::UInt8.ofNat 2::List.replicate 30 (0:UInt8):=⟨_,rfl⟩
 obtain⟨k1,k2,p',q',k3,k4,k5,k6,k7,k8,k9⟩:=bt8 o0 o1 o2 (gf.FC.like _ _ _ _ h2 h0) (gf.FC.like _ _ _ _ h2 h1) (by rw[l2,l0];decide) (by rw[l2,l1];decide) (groupM_e (by omega) (by omega) h2) da db
 have K1:=Lib.hid k1
 have K2:=Lib.hid k2
 have K3:=Lib.hid k3
 have K5:=Lib.hid k5
 have K6:=Lib.hid k6
 have K7:=Lib.hid k7
 have K9:=Lib.hid k9
 have HA:=Lib.hid hda
 have HB:=Lib.hid hdb
 have bp:=own_lfB k4
 clear k1 k2 k3 k4 k5 k6 k7 k8 k9 hda hdb
 have b0:=own_lfB o0
 have b1:=own_lfB o1
 have b2:=own_lfB o2
 have gl:=gf.len
 have n1:(pG m 1 1).length≠0:=by rw[gl];omega
 have n2:pG m 1 1≠[]:=fun e=>n1 (by rw[e];rfl)
 have i2:(2:Int)<((pG m 1 1).length:Int):=by rw[gl];omega
 have v0:=(OA (pG m 1 1) 0 (by omega)).1
 have v1:=(OA (pG m 1 1) 1 (by omega)).1
 have v2:=(OA (pG m 1 1) 2 (by omega)).1
 rw[h0]at v0
 rw[h1]at v1
 rw[h2]at v2
 have v0:(gL (pG m 1 1)).getD 0 (.v undef)=.sref (bN p0) 0:=v0
 have v1:(gL (pG m 1 1)).getD 2 (.v undef)=.sref (bN p1) 0:=v1
 have v2:(gL (pG m 1 1)).getD 4 (.v undef)=.sref (bN p2) 0:=v2
 obtain⟨H,hH⟩:∃H,H=pG m 1 1:=⟨_,rfl⟩
 rw[←hH]at n1 n2 i2 v0 v1 v2 gl
 have HH:=Lib.hid hH
 clear hH gf h0 h1 h2 l0 l1 l2 o0 o1 o2
 refine aj ?_;(try exact⟨⟩)
 intro H' K5
 obtain rfl:H'=H:=by rw[HH.out,K5];rfl
 clear K5
 refine aj ?_;(try exact⟨⟩)
 rw[v0]
 refine aj ?_;(try exact⟨⟩)
 intro e he
 obtain rfl:e=0:=he.trans K1.out
 clear he
 refine aj ?_;(try exact⟨⟩)
 intro s c q N C hs hc hq hN hC
 obtain⟨y1,y2,y3,y4,y5⟩:=am6 hc (by decide) (by decide)
 have C1:=Lib.hid (show c=bH p0 (dJ p0 p0.lf 0 []) 0 [] 0 [] da by rw[hc,hs,HA.out];rfl)
 clear hs hc hq hN hC
 refine aj ?_;(try exact⟨⟩)
 rw[v1]
 refine aj ?_;(try exact⟨⟩)
 intro e he
 obtain rfl:e=0:=he.trans K2.out
 clear he
 refine aj ?_;(try exact⟨⟩)
 intro s d q N C hs hc hq hN hC
 obtain⟨z1,z2,z3,z4,z5⟩:=am6 hc (by decide) (by decide)
 have D1:=Lib.hid (show d=bH p1 (dJ p1 p1.lf 0 []) 0 [] 0 [] db by rw[hc,hs,HB.out];rfl)
 clear hs hc hq hN hC
 refine aj ?_;(try exact⟨⟩)
 rw[v2]
 refine aj ?_;(try exact⟨⟩)
 intro e o heo
 obtain⟨rfl,rfl⟩:=pr_eq heo (show eF p2 c=(0,some p')from C1.out▸K3.out)
 clear heo
 refine aj ?_;(try exact⟨⟩)
 intro e o heo
 obtain⟨rfl,rfl⟩:=pr_eq heo (show eF p' d=(5,none)from D1.out▸K5.out)
 clear heo
 refine aj ?_;(try exact⟨⟩)
 intro e o heo
 obtain⟨rfl,rfl⟩:=pr_eq heo (show eF p' c=(5,none)from C1.out▸K6.out)
 clear heo
 refine aj ?_;(try exact⟨⟩)
 rw[v2]
 refine aj ?_;(try exact⟨⟩)
 intro e o heo
 obtain⟨rfl,rfl⟩:=pr_eq heo (show eF p2 d=(0,some q')from D1.out▸K7.out)
 clear heo
 have qe:(q'.e==p'.e)=true:=by rw[K9.out];simp
 refine aj ?_;(try exact⟨⟩)
theorem partyForks_walk{w:World}(M:Int)(hM:(Lit.int .i64 M).wf=true)(a:Int)(ha:(Lit.int .i64 a).wf=true)(b:Int)(hb:(Lit.int .i64 b).wf=true)(hG:SV gTab (fun _=>True) w):
  Calls Tryz.prog 11 #[.int .i64 M,.int .i64 a,.int .i64 b] w fun e w'=>e=.returned (.bool true)∧Below w.heap.size w w':=
 Uz (partyForks_fn M a b) hG (.cons (.v _) (.cons (.v _) (.cons (.v _) .nil)))
end
end Go.Proofs.YtjhgelfnmhdihaaGreatDoor
namespace Go.Proofs.YtjhgelfnmhdihaaGreatDoor.lawPartyForks
open Go.ChangeShapes Go.WideShapes Go.ChangeAt Go.RowKit
open Go.ChangeMaps (open_string shut_string)
set_option linter.unusedVariables false
theorem own:ownKnob Tryz.prog.godebug=none:=by kernel_rfl
theorem laidOut:laidOutB Tryz.prog=true:=by kernel_rfl
set_option maxRecDepth 100000 in
theorem lifted (os : Os) (started : os.Started) (H : Type) (enc : TypeId × Value → H) :
    ReturnsInHanded {} Tryz.checked os 11 .any (fun w args => (Rows.partyForksSpec.pre enc Tryz.prog Tryz.f11 [] false w args ∧ laidMetH Tryz.prog aG0 w) ∧ sizedMet enc Tryz.prog Tryz.f11 (OpenSpec.ofChange Rows.partyForksSpec) false w args)
      (Rows.partyForksSpec.post enc Tryz.prog Tryz.f11 false true false false) := by
  refine returnsInHanded_of_change_and (C := Tryz.checked) (X := fun w _ => laidMetH Tryz.prog aG0 w) (fun _ _ _ hh h => h.of_heap hh) own started (by kernel_rfl) Tryz.func11
    (ChangeSpec.witness_shaped (enc := enc) (C := Tryz.checked) (os := os) (X := fun w _ => laidMetH Tryz.prog aG0 w) false (World.doorLaid Tryz.prog 19 os) #[.int .i64 0, .int .i64 0, .int .i64 0] 8 rfl (World.shaped_of_RefB (by kernel_rfl) (by kernel_rfl)) (by kernel_rfl) (by kernel_rfl) (by kernel_rfl) (aX2 os _)) ?_
  intro W base args ds gs before hval0 hW hcnd hsz0 hL _
  have hsz : (DataW.weightsEach Tryz.prog (Tryz.f11.params.toList ++ Rows.partyForksSpec.plain.varTypes Tryz.prog) (ds ++ gs)).all (· ≤ reachBytes) = true := hsz0
  have hval : ∀ (j : Nat) t v, Tryz.f11.params[j]? = some t → args[j]? = some v → Value.okWide Tryz.prog W .any base t v := hval0
  have hW' := hW
  obtain ⟨p, q, hA0, hV, rfl, hfz, hnd⟩ := hW
  have hA : DataW.TrodAll enc Tryz.prog W 0 (fun _ => true) true Tryz.f11.params.toList args.toList ds p := hA0
  rw [Tryz.params11] at hA hval hsz
  obtain ⟨v0, vs0, d0, ds0, p0, q0, hargs, rfl, rfl, h0, r0⟩ := trodAll_cons hA
  obtain ⟨v1, vs1, d1, ds1, p1, q1, rfl, rfl, rfl, h1, r1⟩ := trodAll_cons r0
  obtain ⟨v2, vs2, d2, ds2, p2, q2, rfl, rfl, rfl, h2, r2⟩ := trodAll_cons r1
  obtain ⟨rfl, rfl, rfl⟩ := trodAll_nil r2
  obtain rfl : args = #[v0, v1, v2] := by cases args; simp_all
  obtain ⟨rfl, rfl⟩ := trodVars_none hV
  have k0 := h0
  have lt0 : ∀ x ∈ p0, x.block < W.heap.size := by obtain ⟨m, hm⟩ := k0; exact DataW.trod_lt m _ _ _ hm
  obtain ⟨a0, rfl, rfl, rfl, w0⟩ := open_int Tryz.underlying3 (hval 0 3 v0 rfl rfl) h0
  have k1 := h1
  have lt1 : ∀ x ∈ p1, x.block < W.heap.size := by obtain ⟨m, hm⟩ := k1; exact DataW.trod_lt m _ _ _ hm
  obtain ⟨a1, rfl, rfl, rfl, w1⟩ := open_int Tryz.underlying3 (hval 1 3 v1 rfl rfl) h1
  have k2 := h2
  have lt2 : ∀ x ∈ p2, x.block < W.heap.size := by obtain ⟨m, hm⟩ := k2; exact DataW.trod_lt m _ _ _ hm
  obtain ⟨a2, rfl, rfl, rfl, w2⟩ := open_int Tryz.underlying3 (hval 2 3 v2 rfl rfl) h2
  clear hA0 hval0
  refine (partyForks_walk a0 w0 a1 w1 a2 w2 (w := W) (aE7 hL)).mono fun e W' ⟨he, zS⟩ => ?_
  subst he
  exact ⟨_, rfl, _, _, _, [], _, [], hW', trodAll_mk1 (shut_bool Tryz.underlying4 _), (trodAll_cons_mk (Below.trod laidOut (by kernel_rfl) (of_decide_eq_true (by kernel_rfl)) k0 zS lt0) (trodAll_cons_mk (Below.trod laidOut (by kernel_rfl) (of_decide_eq_true (by kernel_rfl)) k1 zS lt1) (trodAll_cons_mk (Below.trod laidOut (by kernel_rfl) (of_decide_eq_true (by kernel_rfl)) k2 zS lt2) trodAll_mk0))), rfl, zS.frame _, fun h => by cases h⟩
theorem over:Rows.partyForksRow.holds Tryz.pinned (OpenSpec.ofChange Rows.partyForksSpec):=
 OpenClaim.holds_of_wide 11 Tryz.f11 rfl rfl rfl rfl rfl rfl rfl ⟨rfl,rfl,rfl,rfl,rfl⟩ rfl rfl rfl rfl rfl (by kernel_rfl) Tryz.func11 (by kernel_rfl)
  (of_decide_eq_true (by kernel_rfl)) (by unfold Func.isWrapper;first|(rw[if_pos (by decide+kernel)];kernel_rfl)|(rw[if_neg (by decide+kernel)];exact⟨rfl,rfl⟩))
  (fun os started H enc _=>lifted os started H enc)
theorem proved:Rows.PartyForksCardSaid:=
 Claim7.holds_tied_plain_at .later [] [.data,.data] true _ false
  over (fun _ h=>by cases h) (by kernel_rfl) (fun _ h=>by cases h) partyForks_row_tie rfl ⟨rfl,rfl⟩ (by kernel_rfl) rfl
  (fun f fn hf hfn=>by
   obtain rfl:f=11:=Option.some.inj ((show Tryz.prog.funcNamed "curia/curialaw13.PartyForks"=some 11 by kernel_rfl).symm.trans hf) |>.symm
   obtain rfl:fn=Tryz.f11:=(Option.some.inj (Tryz.func11.symm.trans hfn)).symm
   exact⟨by kernel_rfl,fun j t ht=>by
    rw[Tryz.params11]at ht
    have hm:t∈[3,3,3]:=by simpa using Array.mem_of_getElem? ht
    have hall:([3,3,3].all fun u=>!Tryz.prog.wantsStandIn u)=true:=by kernel_rfl
    exact(show Tryz.prog.wantsStandIn t=false by simpa using List.all_eq_true.1 hall t hm)⟩)
  (by kernel_rfl)
end Go.Proofs.YtjhgelfnmhdihaaGreatDoor.lawPartyForks
