/-
 The statement of PartyNew is proved: whatever the input, the law's call returns true, and each argument reads behind it as before. The listed package variables hold what the program's text lays (the card ties them).
-/
import Derived.Test.YtjhgelfnmhdihaaGreatDoorJ52
import Derived.Test.YtjhgelfnmhdihaaGreatDoorDg
import Derived.Test.YtjhgelfnmhdihaaGreatDoorCards
import Derived.Test.YtjhgelfnmhdihaaGreatDoorTie
import Derived.ShutString
import Derived.ChangeOld
import Derived.Below
import Derived.SevenTiedAt
namespace Go.Proofs.YtjhgelfnmhdihaaGreatDoor
set_option linter.unusedSectionVars false
set_option linter.unusedVariables false
set_option linter.unusedSimpArgs false
set_option maxRecDepth 100000
open Go.RowKit
section
open Pm
attribute [local irreducible] cO aA au jm aC dA gu dU bU aI
end
section
open Pm
theorem El{p:PS}(h:Own p):bn p.zs p.lf=true:=by
 have l0:=h.inv.lf0
 have l1:=h.inv.lf1
 have e:p.lf=((p.lf.toNat:Nat):Int):=by omega
 rw[e,Ba _ (by omega)]
 unfold dF
 rw[h.lf]
 exact decide_eq_true fun e=>DT (DU _ (dL p.sg)) (List.cons.inj e).1
theorem as8{p:PS}(h:Own p)(he:p.e<1099511627776):bW p 0 [] 0 []=0∧dJ p p.lf 0 []=⟨p.zs,p.ad,p.k,F8,F8⟩:=by
 have hd:=KE (e:=p.e) (s:=⟨p.zs,p.ad,p.k,F8,F8⟩) (fr:=p.lf) h.may (El h)
 refine⟨?_,?_⟩
 ·have hc:bX p.e p.zs p.ad p.k p.ch p.lf [] 0 [] 0=0:=by unfold bX;rw[if_pos rfl,if_pos rfl]
  unfold bW
  rw[if_neg (fun h=>h hc),hd,if_neg (fun h=>h rfl),if_neg (by omega)]
 ·unfold dJ;rw[hd]
theorem bq8{p:PS}(h:Own p)(he:p.e<1099511627776)(d:List UInt8){j:Nat}(hj:j<8):
  (aH p (dJ p p.lf 0 []) 0 [] 0 [] d).zs.getD (j*2) 0=p.zs.getD (j*2) 0∧((j:Int)≠p.lf→(aH p (dJ p p.lf 0 []) 0 [] 0 [] d).zs.getD (j*2+1) 0=p.zs.getD (j*2+1) 0):=by
 obtain⟨c1,c2⟩:=as8 h he
 have l0:=h.inv.lf0
 have l1:=h.inv.lf1
 have get:=j4 h.inv.zl l0 l1 (aI (aC d)) (aI (ak (aC d))) (aI (ak (ak (aC d)))) (aI (ak (ak (ak (aC d)))))
 rw[c2,lC]
 refine⟨?_,fun hne=>?_⟩
 ·rw[get,if_neg (by omega),if_neg (by unfold n2;omega),if_neg (by unfold n1;omega),if_neg (by omega)]
 ·rw[get,if_neg (by omega),if_neg (by unfold n2;omega),if_neg (by unfold n1;omega),if_neg (by omega)]
end
section
open Go.ChangeShapes Pm
theorem own_lfB{p:PS}(h:Own p):aG p.lf=true:=by
 have:=h.inv.lf0
 have:=h.inv.lf1
 unfold aG
 simp;omega
theorem groupM_e{M:Nat}(m0:1≤M)(m1:M≤6){i:Nat}{p:PS}(hp:iE (pG M 1 1) i=some p):p.e<1099511627776:=by
 have g:=r9 (A:=1) (by omega) (M-1) (by omega)
 rw[show M-1+1=M by omega,show min M 1=1 by omega]at g
 have e:pG M 1 1=dV 1 (M-1):=by unfold pG;rw[if_neg (by decide)]
 rw[e]at hp
 have hf:=Dz g (by omega)
 have lk:=g.full.FC.like _ _ _ _ hp hf
 rw[lk.e,(g.v _ hf).e]
 omega
attribute [local irreducible] aU aZ bR aA au dB cO aF bZ aN aT av ak aR cZ bX aQ bK gB iC aD bA aO jW dJ bW bH aH bT fU bJ bg gY aJ nk qP kF bn fV eD dU eT bq aC bU fE dQ eF wH bE dV stepM wE uo aY iW pG Oh
end
section
open Go.ChangeShapes Pm
theorem new_view{p:PS}(h:Own p)(he:p.e<1099511627776){f:Nat}(hl:p.lf=(f:Nat))(hf:f<8)(d:List UInt8){c:CS}{q:PS}(hc:c=bH p (dJ p p.lf 0 []) 0 [] 0 [] d)(hq:q=aH p (dJ p p.lf 0 []) 0 [] 0 [] d):
  (∀j,j<8→q.zs.getD (j*2) 0=p.zs.getD (j*2) 0∧(j≠f→q.zs.getD (j*2+1) 0=p.zs.getD (j*2+1) 0))∧c.fr=(f:Nat)∧q.zs.getD (f*2+1) 0=c.sl∧q.zs.getD 23 0=c.p2∧q.ad=p.ad∧q.k=p.k∧(∀j,j<8→j≠f→(q.zs.drop (j*2)).take 2=(p.zs.drop (j*2)).take 2):=by
 obtain⟨c1,c2⟩:=as8 h he
 have l0:=h.inv.lf0
 have l1:=h.inv.lf1
 have get:=j4 h.inv.zl l0 l1 (aI (aC d)) (aI (ak (aC d))) (aI (ak (ak (aC d)))) (aI (ak (ak (ak (aC d)))))
 have hz:q.zs=gu p.zs p.lf (aI (aC d)) (aI (ak (aC d))) (aI (ak (ak (aC d)))) (aI (ak (ak (ak (aC d))))):=by rw[hq,lC,c2]
 have hown:Own q:=by rw[hq];exact yE h c1 d
 have key:∀j,j<8→q.zs.getD (j*2) 0=p.zs.getD (j*2) 0∧(j≠f→q.zs.getD (j*2+1) 0=p.zs.getD (j*2+1) 0):=fun j hj=>by
  rw[hq]
  obtain⟨a,b⟩:=bq8 h he d hj
  exact⟨a,fun e=>b (by rw[hl];omega)⟩
 refine⟨key,by rw[hc,Ir,hl],?_,?_,?_,?_,fun j hj hne=>?_⟩
 ·rw[hz,get,hl,Int.toNat_natCast,if_neg (by omega),if_neg (by unfold n2;omega),if_neg (by unfold n1;omega),if_pos rfl,hc]
  dsimp only[bH,iL]
 ·rw[hz,get,if_pos rfl,hc]
  dsimp only[bH,iL]
 ·rw[hq,c2]
  dsimp only[aH,bC,dG,fK,gN]
 ·rw[hq,c2]
  dsimp only[aH,bC,dG,fK,gN]
 ·obtain⟨a,b⟩:=key j hj
  rw[←pJ q.zs hj,←pJ p.zs hj,gJ (by rw[hown.inv.zl];decide) hj,gJ (by rw[h.inv.zl];decide) hj,a,b hne]
attribute [local irreducible] aU aZ bR aA au dB cO aF bZ aN aT av ak aR cZ bX aQ bK gB iC aD bA aO jW dJ bW bH aH bT fU bJ bg gY aJ nk qP kF bn fV eD dU eT bq aC bU fE dQ eF wH bE dV stepM wE uo aY iW pG Oh
set_option maxHeartbeats 4000000 in
theorem partyNew_fn(M fr dr:Int):aP 13 [.v (.int .i64 M),.v (.int .i64 fr),.v (.int .i64 dr)] (.d (.v (.bool true))):=by
 refine dK (E:=Oc) Tryz.func13 Tryz.ntmps13 ?_
 by_cases m1:M<1
 ·refine aj ?_;(try exact⟨⟩)
 by_cases m2:M>5
 ·refine aj ?_;(try exact⟨⟩)
 by_cases w1:fr<0
 ·refine aj ?_;(try exact⟨⟩)
 by_cases w2:fr≥M
 ·refine aj ?_;(try exact⟨⟩)
 obtain⟨m,rfl⟩:=Int.eq_ofNat_of_zero_le (show 0≤M by omega)
 obtain⟨f,rfl⟩:=Int.eq_ofNat_of_zero_le (show 0≤fr by omega)
 have gf:=DC (M:=m) (A:=1) (k:=1) (by omega) (by omega) (by omega) (by omega) (by omega) (by omega)
 obtain⟨p,hp,lp⟩:=gf.at' f (by omega)
 have op:=gf.FC.own _ _ hp
 obtain⟨hw0,hw1⟩:=JU dr
 have he:=groupM_e (by omega) (by omega) hp
 have NL:=fun(d:List UInt8) (j:Nat) (hj:j<8)=>bq8 op he d hj
 have bp:=own_lfB op
 have gl:=gf.len
 have n1:(pG m 1 1).length≠0:=by rw[gl];omega
 have n2:pG m 1 1≠[]:=fun e=>n1 (by rw[e];rfl)
 have i2:(f:Int)<((pG m 1 1).length:Int):=by rw[gl];omega
 have v0:=(OA (pG m 1 1) f (by omega)).1
 rw[hp]at v0
 have v0:(gL (pG m 1 1)).getD (f*2) (.v undef)=.sref (bN p) 0:=v0
 obtain⟨H,hH⟩:∃H,H=pG m 1 1:=⟨_,rfl⟩
 rw[←hH]at n1 n2 i2 v0 gl
 have HH:=Lib.hid hH
 have HN:=Lib.hid NL
 have c0:=Lib.hid (as8 op he).1
 have DN:=Lib.hid (as8 op he).2
 have OW:=Lib.hid op
 have LP:=Lib.hid lp
 have HE:=Lib.hid he
 have Fp:f<8:=by omega
 clear hH gf hp lp op NL he
 refine aj ?_;(try exact⟨⟩)
 intro H' K5
 obtain rfl:H'=H:=by rw[HH.out,K5];rfl
 clear K5
 refine aj ?_;(try exact⟨⟩)
 rw[v0]
 refine aj ?_;(try exact⟨⟩)
 intro e hee
 obtain rfl:e=0:=hee.trans c0.out
 clear hee
 refine aj ?_;(try exact⟨⟩)
 intro s c q N C hs hc hq hN hC
 have ng:s.ng=F8:=by rw[hs];exact congrArg Vw.ng DN.out
 obtain rfl:N=0:=by rw[hN,ng];rfl
 obtain⟨d,hd⟩:∃d,d=UInt8.ofNat (IntKind.u8.wrap dr).toNat::UInt8.ofNat 3::List.replicate 30 (0:UInt8):=⟨_,rfl⟩
 have hq:q=aH p (dJ p p.lf 0 []) 0 [] 0 [] d:=by rw[hq,hs,hd];rfl
 have hc:c=bH p (dJ p p.lf 0 []) 0 [] 0 [] d:=by rw[hc,hs,hd];rfl
 obtain⟨w1,w2,w3,w4,w5,w6,w7⟩:=new_view OW.out HE.out LP.out Fp d hc hq
 have W1:=Lib.hid w1
 have W7:=Lib.hid w7
 clear hs hc hq hN hC ng hd w1 w7
 have c1:(c.fr !=(f:Int))=false:=by rw[w2];simp
 have z23:(q.zs.getD 23 0==c.p2)=true:=by rw[w4];simp
 have zf:(q.zs.getD (f*2+1) 0==c.sl)=true:=by rw[w3];simp
 have za:q.ad=p.ad:=w5
 have zk:(q.k==p.k)=true:=by rw[w6];simp
 refine aj ?_;(try exact⟨⟩)
 rw[v0]
 refine aj ?_;(try exact⟨⟩)
 refine aM.mk (bV [1,8,12,13,14] [0,1,2] 8 (fun j=>⟨[.ah,.d (.v (.int .i64 (f:Nat))),.ah,.ah,.ah,.ah,.ah,.ah,.ptr 0 0,.ah,.ah,.ah,.ptr 1 0,.ptr 2 0,.d (.v (.int .i64 (j:Nat))),.ah,.ah,.ah,.ah,.ah,.ah,.ah,.ah,.ah,.ah,.ah,.ah,.ah,.ah,.ah,.ah,.ah,.ah,.ah,.ah,.ah,.ah,.ah,.ah,.ah,.ah,.ah,.ah,.ah,.ah,.ah,.ah,.ah,.ah,.ah,.ah,.ah,.ah,.ah,.ah,.ah,.ah,.ah,.ah,.ah,.ah,.ah,.ah,.ah,.ah,.ah,.ah,.ah,.ah,.ah,.ah,.ah,.ah,.ah,.ah,.ah,.ah,.ah,.ah,.ah,.ah,.ah,.ah,.ah,.ah,.ah,.ah,.ah,.ah,.ah,.ah,.ah,.ah,.ah,.ah,.ah,.ah,.ah,.ah,.ah,.ah,.ah,.ah,.ah,.ah,.ah,.ah,.ah,.ah,.ah,.ah,.ah,.ah,.ah,.ah,.ah,.ah,.ah,.ah,.ah,.ah,.ah,.ah,.ah,.ah,.ah,.ah,.ah,.ah,.ah,.ah,.ah,.ah,.ah,.ah,.ah,.ah,.ah,.ah,.ah,.ah,.ah,.ah,.ah],[some (.var (jO c)),some (.var (bS p.e p.zs p.ad p.k p.ch)),some (.var (bS q.e q.zs q.ad q.k q.ch))]⟩) ?_)
 intro j hj hl
 by_cases h:j<8
 ·have i1:(j:Int)<8:=by omega
  obtain⟨e1,e2⟩:=W1.out j h
  have b1:(q.zs.getD (j*2) 0 !=p.zs.getD (j*2) 0)=false:=by rw[e1];simp
  by_cases jf:j=f
  ·have c2:((j:Int) !=(f:Int))=false:=by simp[jf]
   clear jf e1 e2
   refine aj ?_;(try exact⟨⟩)
   refine hl.go h [1,8,12,13,14] [0,1,2] ?_
   rfl
  ·have c2:((j:Int) !=(f:Int))=true:=by simp;omega
   have E3:=Lib.hid (W7.out j h jf)
   clear jf e1 e2
   refine aj ?_;(try exact⟨⟩)
   rw[E3.out]
   refine aj ?_;(try exact⟨⟩)
   refine hl.go h [1,8,12,13,14] [0,1,2] ?_
   rfl
 ·obtain rfl:j=8:=by omega
  have i1:¬(8:Int)<8:=by omega
  refine aj ?_;(try exact⟨⟩)
  rw[za]
  refine aj ?_;(try exact⟨⟩)
theorem partyNew_walk{w:World}(M:Int)(hM:(Lit.int .i64 M).wf=true)(a:Int)(ha:(Lit.int .i64 a).wf=true)(b:Int)(hb:(Lit.int .i64 b).wf=true)(hG:SV gTab (fun _=>True) w):
  Calls Tryz.prog 13 #[.int .i64 M,.int .i64 a,.int .i64 b] w fun e w'=>e=.returned (.bool true)∧Below w.heap.size w w':=
 Uz (partyNew_fn M a b) hG (.cons (.v _) (.cons (.v _) (.cons (.v _) .nil)))
end
end Go.Proofs.YtjhgelfnmhdihaaGreatDoor
namespace Go.Proofs.YtjhgelfnmhdihaaGreatDoor.lawPartyNew
open Go.ChangeShapes Go.WideShapes Go.ChangeAt Go.RowKit
open Go.ChangeMaps (open_string shut_string)
set_option linter.unusedVariables false
theorem own:ownKnob Tryz.prog.godebug=none:=by kernel_rfl
theorem laidOut:laidOutB Tryz.prog=true:=by kernel_rfl
set_option maxRecDepth 100000 in
theorem lifted (os : Os) (started : os.Started) (H : Type) (enc : TypeId × Value → H) :
    ReturnsInHanded {} Tryz.checked os 13 .any (fun w args => (Rows.partyNewSpec.pre enc Tryz.prog Tryz.f13 [] false w args ∧ laidMetH Tryz.prog aG0 w) ∧ sizedMet enc Tryz.prog Tryz.f13 (OpenSpec.ofChange Rows.partyNewSpec) false w args)
      (Rows.partyNewSpec.post enc Tryz.prog Tryz.f13 false true false false) := by
  refine returnsInHanded_of_change_and (C := Tryz.checked) (X := fun w _ => laidMetH Tryz.prog aG0 w) (fun _ _ _ hh h => h.of_heap hh) own started (by kernel_rfl) Tryz.func13
    (ChangeSpec.witness_shaped (enc := enc) (C := Tryz.checked) (os := os) (X := fun w _ => laidMetH Tryz.prog aG0 w) false (World.doorLaid Tryz.prog 19 os) #[.int .i64 0, .int .i64 0, .int .i64 0] 8 rfl (World.shaped_of_RefB (by kernel_rfl) (by kernel_rfl)) (by kernel_rfl) (by kernel_rfl) (by kernel_rfl) (aX2 os _)) ?_
  intro W base args ds gs before hval0 hW hcnd hsz0 hL _
  have hsz : (DataW.weightsEach Tryz.prog (Tryz.f13.params.toList ++ Rows.partyNewSpec.plain.varTypes Tryz.prog) (ds ++ gs)).all (· ≤ reachBytes) = true := hsz0
  have hval : ∀ (j : Nat) t v, Tryz.f13.params[j]? = some t → args[j]? = some v → Value.okWide Tryz.prog W .any base t v := hval0
  have hW' := hW
  obtain ⟨p, q, hA0, hV, rfl, hfz, hnd⟩ := hW
  have hA : DataW.TrodAll enc Tryz.prog W 0 (fun _ => true) true Tryz.f13.params.toList args.toList ds p := hA0
  rw [Tryz.params13] at hA hval hsz
  obtain ⟨v0, vs0, d0, ds0, p0, q0, hargs, rfl, rfl, h0, r0⟩ := trodAll_cons hA
  obtain ⟨v1, vs1, d1, ds1, p1, q1, rfl, rfl, rfl, h1, r1⟩ := trodAll_cons r0
  obtain ⟨v2, vs2, d2, ds2, p2, q2, rfl, rfl, rfl, h2, r2⟩ := trodAll_cons r1
  obtain ⟨rfl, rfl, rfl⟩ := trodAll_nil r2
  obtain rfl : args = #[v0, v1, v2] := by cases args; simp_all
  obtain ⟨rfl, rfl⟩ := trodVars_none hV
  have k0 := h0
  have lt0 : ∀ x ∈ p0, x.block < W.heap.size := by obtain ⟨m, hm⟩ := k0; exact DataW.trod_lt m _ _ _ hm
  obtain ⟨a0, rfl, rfl, rfl, w0⟩ := open_int Tryz.underlying3 (hval 0 3 v0 rfl rfl) h0
  have k1 := h1
  have lt1 : ∀ x ∈ p1, x.block < W.heap.size := by obtain ⟨m, hm⟩ := k1; exact DataW.trod_lt m _ _ _ hm
  obtain ⟨a1, rfl, rfl, rfl, w1⟩ := open_int Tryz.underlying3 (hval 1 3 v1 rfl rfl) h1
  have k2 := h2
  have lt2 : ∀ x ∈ p2, x.block < W.heap.size := by obtain ⟨m, hm⟩ := k2; exact DataW.trod_lt m _ _ _ hm
  obtain ⟨a2, rfl, rfl, rfl, w2⟩ := open_int Tryz.underlying3 (hval 2 3 v2 rfl rfl) h2
  clear hA0 hval0
  refine (partyNew_walk a0 w0 a1 w1 a2 w2 (w := W) (aE7 hL)).mono fun e W' ⟨he, zS⟩ => ?_
  subst he
  exact ⟨_, rfl, _, _, _, [], _, [], hW', trodAll_mk1 (shut_bool Tryz.underlying4 _), (trodAll_cons_mk (Below.trod laidOut (by kernel_rfl) (of_decide_eq_true (by kernel_rfl)) k0 zS lt0) (trodAll_cons_mk (Below.trod laidOut (by kernel_rfl) (of_decide_eq_true (by kernel_rfl)) k1 zS lt1) (trodAll_cons_mk (Below.trod laidOut (by kernel_rfl) (of_decide_eq_true (by kernel_rfl)) k2 zS lt2) trodAll_mk0))), rfl, zS.frame _, fun h => by cases h⟩
theorem over:Rows.partyNewRow.holds Tryz.pinned (OpenSpec.ofChange Rows.partyNewSpec):=
 OpenClaim.holds_of_wide 13 Tryz.f13 rfl rfl rfl rfl rfl rfl rfl ⟨rfl,rfl,rfl,rfl,rfl⟩ rfl rfl rfl rfl rfl (by kernel_rfl) Tryz.func13 (by kernel_rfl)
  (of_decide_eq_true (by kernel_rfl)) (by unfold Func.isWrapper;first|(rw[if_pos (by decide+kernel)];kernel_rfl)|(rw[if_neg (by decide+kernel)];exact⟨rfl,rfl⟩))
  (fun os started H enc _=>lifted os started H enc)
theorem proved:Rows.PartyNewCardSaid:=
 Claim7.holds_tied_plain_at .later [] [.data,.data] true _ false
  over (fun _ h=>by cases h) (by kernel_rfl) (fun _ h=>by cases h) partyNew_row_tie rfl ⟨rfl,rfl⟩ (by kernel_rfl) rfl
  (fun f fn hf hfn=>by
   obtain rfl:f=13:=Option.some.inj ((show Tryz.prog.funcNamed "curia/curialaw13.PartyNew"=some 13 by kernel_rfl).symm.trans hf) |>.symm
   obtain rfl:fn=Tryz.f13:=(Option.some.inj (Tryz.func13.symm.trans hfn)).symm
   exact⟨by kernel_rfl,fun j t ht=>by
    rw[Tryz.params13]at ht
    have hm:t∈[3,3,3]:=by simpa using Array.mem_of_getElem? ht
    have hall:([3,3,3].all fun u=>!Tryz.prog.wantsStandIn u)=true:=by kernel_rfl
    exact(show Tryz.prog.wantsStandIn t=false by simpa using List.all_eq_true.1 hall t hm)⟩)
  (by kernel_rfl)
end Go.Proofs.YtjhgelfnmhdihaaGreatDoor.lawPartyNew
