/-
 The statement of PartyOwn is proved: whatever the input, the law's call returns true, and each argument reads behind it as before. The listed package variables hold what the program's text lays (the card ties them).
-/
import Derived.Test.YtjhgelfnmhdihaaGreatDoorJ52
import Derived.Test.YtjhgelfnmhdihaaGreatDoorDg
import Derived.Test.YtjhgelfnmhdihaaGreatDoorCards
import Derived.Test.YtjhgelfnmhdihaaGreatDoorTie
import Derived.ShutString
import Derived.ChangeOld
import Derived.Below
import Derived.SevenTiedAt
namespace Go.Proofs.YtjhgelfnmhdihaaGreatDoor
set_option linter.unusedSectionVars false
set_option linter.unusedVariables false
set_option linter.unusedSimpArgs false
set_option maxRecDepth 100000
open Go.RowKit
section
open Pm
attribute [local irreducible] cO aA au jm aC dA gu dU bU aI
end
section
open Pm
theorem El{p:PS}(h:Own p):bn p.zs p.lf=true:=by
 have l0:=h.inv.lf0
 have l1:=h.inv.lf1
 have e:p.lf=((p.lf.toNat:Nat):Int):=by omega
 rw[e,Ba _ (by omega)]
 unfold dF
 rw[h.lf]
 exact decide_eq_true fun e=>DT (DU _ (dL p.sg)) (List.cons.inj e).1
theorem as8{p:PS}(h:Own p)(he:p.e<1099511627776):bW p 0 [] 0 []=0∧dJ p p.lf 0 []=⟨p.zs,p.ad,p.k,F8,F8⟩:=by
 have hd:=KE (e:=p.e) (s:=⟨p.zs,p.ad,p.k,F8,F8⟩) (fr:=p.lf) h.may (El h)
 refine⟨?_,?_⟩
 ·have hc:bX p.e p.zs p.ad p.k p.ch p.lf [] 0 [] 0=0:=by unfold bX;rw[if_pos rfl,if_pos rfl]
  unfold bW
  rw[if_neg (fun h=>h hc),hd,if_neg (fun h=>h rfl),if_neg (by omega)]
 ·unfold dJ;rw[hd]
theorem Zv(p:PS)(s:Vw)(n:Nat)(ops:List Int)(m:Nat)(vs:List Int)(d:List UInt8):(aH p s n ops m vs d).e=p.e+1:=by dsimp only[aH,bC,dG,fK,gN]
end
section
open Go.ChangeShapes Pm
theorem own_lfB{p:PS}(h:Own p):aG p.lf=true:=by
 have:=h.inv.lf0
 have:=h.inv.lf1
 unfold aG
 simp;omega
theorem groupM_e{M:Nat}(m0:1≤M)(m1:M≤6){i:Nat}{p:PS}(hp:iE (pG M 1 1) i=some p):p.e<1099511627776:=by
 have g:=r9 (A:=1) (by omega) (M-1) (by omega)
 rw[show M-1+1=M by omega,show min M 1=1 by omega]at g
 have e:pG M 1 1=dV 1 (M-1):=by unfold pG;rw[if_neg (by decide)]
 rw[e]at hp
 have hf:=Dz g (by omega)
 have lk:=g.full.FC.like _ _ _ _ hp hf
 rw[lk.e,(g.v _ hf).e]
 omega
attribute [local irreducible] aU aZ bR aA au dB cO aF bZ aN aT av ak aR cZ bX aQ bK gB iC aD bA aO jW dJ bW bH aH bT fU bJ bg gY aJ nk qP kF bn fV eD dU eT bq aC bU fE dQ eF wH bE dV stepM wE uo aY iW pG Oh
end
section
open Go.ChangeShapes Pm
theorem groupM_e0{M:Nat}(m0:1≤M)(m1:M≤6){i:Nat}{p:PS}(hp:iE (pG M 1 1) i=some p):0≤p.e:=by
 have g:=r9 (A:=1) (by omega) (M-1) (by omega)
 rw[show M-1+1=M by omega,show min M 1=1 by omega]at g
 have e:pG M 1 1=dV 1 (M-1):=by unfold pG;rw[if_neg (by decide)]
 rw[e]at hp
 have hf:=Dz g (by omega)
 have lk:=g.full.FC.like _ _ _ _ hp hf
 rw[lk.e,(g.v _ hf).e]
 omega
attribute [local irreducible] aU aZ bR aA au dB cO aF bZ aN aT av ak aR cZ bX aQ bK gB iC aD bA aO jW dJ bW bH aH bT fU bJ bg gY aJ nk qP kF bn fV eD dU eT bq aC bU fE dQ eF wH bE dV stepM wE uo aY iW pG Oh
set_option maxHeartbeats 4000000 in
theorem partyOwn_fn(M dr:Int):aP 9 [.v (.int .i64 M),.v (.int .i64 dr)] (.d (.v (.bool true))):=by
 refine dK (E:=Oc) Tryz.func9 Tryz.ntmps9 ?_
 by_cases m1:M<1
 ·refine aj ?_;(try exact⟨⟩)
 by_cases m2:M>4
 ·refine aj ?_;(try exact⟨⟩)
 obtain⟨m,rfl⟩:=Int.eq_ofNat_of_zero_le (show 0≤M by omega)
 have gf:=DC (M:=m) (A:=1) (k:=1) (by omega) (by omega) (by omega) (by omega) (by omega) (by omega)
 obtain⟨p,hp,lp⟩:=gf.at' 0 (by omega)
 have op:=gf.FC.own _ _ hp
 obtain⟨hw0,hw1⟩:=JU dr
 have he:=groupM_e (by omega) (by omega) hp
 have E0:=Lib.hid (groupM_e0 (by omega) (by omega) hp)
 have E1:=Lib.hid he
 have bp:=own_lfB op
 have He:=Lib.hid he
 have gl:=gf.len
 have n1:(pG m 1 1).length≠0:=by rw[gl];omega
 have n2:pG m 1 1≠[]:=fun e=>n1 (by rw[e];rfl)
 have i2:(0:Int)<((pG m 1 1).length:Int):=by rw[gl];omega
 have v0:=(OA (pG m 1 1) 0 (by omega)).1
 rw[hp]at v0
 have v0:(gL (pG m 1 1)).getD 0 (.v undef)=.sref (bN p) 0:=v0
 obtain⟨H,hH⟩:∃H,H=pG m 1 1:=⟨_,rfl⟩
 rw[←hH]at n1 n2 i2 v0 gl
 have HH:=Lib.hid hH
 have c0:=Lib.hid (as8 op he).1
 clear hH gf hp lp op he
 refine aj ?_;(try exact⟨⟩)
 intro H' K5
 obtain rfl:H'=H:=by rw[HH.out,K5];rfl
 clear K5
 refine aj ?_;(try exact⟨⟩)
 rw[v0]
 refine aj ?_;(try exact⟨⟩)
 refine Or.inr ?_
 refine aj ?_;(try exact⟨⟩)
 intro e he
 obtain rfl:e=0:=he.trans c0.out
 clear he
 refine aj ?_;(try exact⟨⟩)
 intro s c q N C hs hc hq hN hC
 obtain⟨y1,y2,y3,y4,y5⟩:=am6 hc (by decide) (by decide)
 have QE:=Lib.hid (show q.e=p.e+1 from hq▸Zv _ _ _ _ _ _ _)
 have HS:=Lib.hid hs
 have HC:=Lib.hid hc
 have HQ:=Lib.hid hq
 clear hs hc hq hN hC
 refine aj ?_;(try exact⟨⟩)
 intro e he
 obtain rfl:e=0:=he.trans c0.out
 clear he
 refine aj ?_;(try exact⟨⟩)
 intro s2 c2 q2 N2 C2 hs hc hq hN hC
 obtain rfl:s2=s:=hs.trans HS.out.symm
 obtain rfl:c2=c:=hc.trans HC.out.symm
 obtain rfl:q2=q:=hq.trans HQ.out.symm
 clear hs hc hq hN hC
 have ew:(q2.e==IntKind.i64.wrap (p.e+1))=true:=by
  have h0:=E0.out
  have h1:=E1.out
  rw[dR (by omega) (by omega),QE.out]
  simp
 refine aj ?_;(try exact⟨⟩)
theorem partyOwn_walk{w:World}(M:Int)(hM:(Lit.int .i64 M).wf=true)(a:Int)(ha:(Lit.int .i64 a).wf=true)(hG:SV gTab (fun _=>True) w):
  Calls Tryz.prog 9 #[.int .i64 M,.int .i64 a] w fun e w'=>e=.returned (.bool true)∧Below w.heap.size w w':=
 Uz (partyOwn_fn M a) hG (.cons (.v _) (.cons (.v _) .nil))
end
end Go.Proofs.YtjhgelfnmhdihaaGreatDoor
namespace Go.Proofs.YtjhgelfnmhdihaaGreatDoor.lawPartyOwn
open Go.ChangeShapes Go.WideShapes Go.ChangeAt Go.RowKit
open Go.ChangeMaps (open_string shut_string)
set_option linter.unusedVariables false
theorem own:ownKnob Tryz.prog.godebug=none:=by kernel_rfl
theorem laidOut:laidOutB Tryz.prog=true:=by kernel_rfl
set_option maxRecDepth 100000 in
theorem lifted (os : Os) (started : os.Started) (H : Type) (enc : TypeId × Value → H) :
    ReturnsInHanded {} Tryz.checked os 9 .any (fun w args => (Rows.partyOwnSpec.pre enc Tryz.prog Tryz.f9 [] false w args ∧ laidMetH Tryz.prog aG0 w) ∧ sizedMet enc Tryz.prog Tryz.f9 (OpenSpec.ofChange Rows.partyOwnSpec) false w args)
      (Rows.partyOwnSpec.post enc Tryz.prog Tryz.f9 false true false false) := by
  refine returnsInHanded_of_change_and (C := Tryz.checked) (X := fun w _ => laidMetH Tryz.prog aG0 w) (fun _ _ _ hh h => h.of_heap hh) own started (by kernel_rfl) Tryz.func9
    (ChangeSpec.witness_shaped (enc := enc) (C := Tryz.checked) (os := os) (X := fun w _ => laidMetH Tryz.prog aG0 w) false (World.doorLaid Tryz.prog 19 os) #[.int .i64 0, .int .i64 0] 8 rfl (World.shaped_of_RefB (by kernel_rfl) (by kernel_rfl)) (by kernel_rfl) (by kernel_rfl) (by kernel_rfl) (aX2 os _)) ?_
  intro W base args ds gs before hval0 hW hcnd hsz0 hL _
  have hsz : (DataW.weightsEach Tryz.prog (Tryz.f9.params.toList ++ Rows.partyOwnSpec.plain.varTypes Tryz.prog) (ds ++ gs)).all (· ≤ reachBytes) = true := hsz0
  have hval : ∀ (j : Nat) t v, Tryz.f9.params[j]? = some t → args[j]? = some v → Value.okWide Tryz.prog W .any base t v := hval0
  have hW' := hW
  obtain ⟨p, q, hA0, hV, rfl, hfz, hnd⟩ := hW
  have hA : DataW.TrodAll enc Tryz.prog W 0 (fun _ => true) true Tryz.f9.params.toList args.toList ds p := hA0
  rw [Tryz.params9] at hA hval hsz
  obtain ⟨v0, vs0, d0, ds0, p0, q0, hargs, rfl, rfl, h0, r0⟩ := trodAll_cons hA
  obtain ⟨v1, vs1, d1, ds1, p1, q1, rfl, rfl, rfl, h1, r1⟩ := trodAll_cons r0
  obtain ⟨rfl, rfl, rfl⟩ := trodAll_nil r1
  obtain rfl : args = #[v0, v1] := by cases args; simp_all
  obtain ⟨rfl, rfl⟩ := trodVars_none hV
  have k0 := h0
  have lt0 : ∀ x ∈ p0, x.block < W.heap.size := by obtain ⟨m, hm⟩ := k0; exact DataW.trod_lt m _ _ _ hm
  obtain ⟨a0, rfl, rfl, rfl, w0⟩ := open_int Tryz.underlying3 (hval 0 3 v0 rfl rfl) h0
  have k1 := h1
  have lt1 : ∀ x ∈ p1, x.block < W.heap.size := by obtain ⟨m, hm⟩ := k1; exact DataW.trod_lt m _ _ _ hm
  obtain ⟨a1, rfl, rfl, rfl, w1⟩ := open_int Tryz.underlying3 (hval 1 3 v1 rfl rfl) h1
  clear hA0 hval0
  refine (partyOwn_walk a0 w0 a1 w1 (w := W) (aE7 hL)).mono fun e W' ⟨he, zS⟩ => ?_
  subst he
  exact ⟨_, rfl, _, _, _, [], _, [], hW', trodAll_mk1 (shut_bool Tryz.underlying4 _), (trodAll_cons_mk (Below.trod laidOut (by kernel_rfl) (of_decide_eq_true (by kernel_rfl)) k0 zS lt0) (trodAll_cons_mk (Below.trod laidOut (by kernel_rfl) (of_decide_eq_true (by kernel_rfl)) k1 zS lt1) trodAll_mk0)), rfl, zS.frame _, fun h => by cases h⟩
theorem over:Rows.partyOwnRow.holds Tryz.pinned (OpenSpec.ofChange Rows.partyOwnSpec):=
 OpenClaim.holds_of_wide 9 Tryz.f9 rfl rfl rfl rfl rfl rfl rfl ⟨rfl,rfl,rfl,rfl,rfl⟩ rfl rfl rfl rfl rfl (by kernel_rfl) Tryz.func9 (by kernel_rfl)
  (of_decide_eq_true (by kernel_rfl)) (by unfold Func.isWrapper;first|(rw[if_pos (by decide+kernel)];kernel_rfl)|(rw[if_neg (by decide+kernel)];exact⟨rfl,rfl⟩))
  (fun os started H enc _=>lifted os started H enc)
theorem proved:Rows.PartyOwnCardSaid:=
 Claim7.holds_tied_plain_at .later [] [.data,.data] true _ false
  over (fun _ h=>by cases h) (by kernel_rfl) (fun _ h=>by cases h) partyOwn_row_tie rfl ⟨rfl,rfl⟩ (by kernel_rfl) rfl
  (fun f fn hf hfn=>by
   obtain rfl:f=9:=Option.some.inj ((show Tryz.prog.funcNamed "curia/curialaw13.PartyOwn"=some 9 by kernel_rfl).symm.trans hf) |>.symm
   obtain rfl:fn=Tryz.f9:=(Option.some.inj (Tryz.func9.symm.trans hfn)).symm
   exact⟨by kernel_rfl,fun j t ht=>by
    rw[Tryz.params9]at ht
    have hm:t∈[3,3]:=by simpa using Array.mem_of_getElem? ht
    have hall:([3,3].all fun u=>!Tryz.prog.wantsStandIn u)=true:=by kernel_rfl
    exact(show Tryz.prog.wantsStandIn t=false by simpa using List.all_eq_true.1 hall t hm)⟩)
  (by kernel_rfl)
end Go.Proofs.YtjhgelfnmhdihaaGreatDoor.lawPartyOwn
