/-
 The statement of PartyExports is proved: whatever the input, the law's call returns true, and each argument reads behind it as before. The listed package variables hold what the program's text lays (the card ties them).
-/
import Derived.Test.YtjhgelfnmhdihaaGreatDoorJ52
import Derived.Test.YtjhgelfnmhdihaaGreatDoorDg
import Derived.Test.YtjhgelfnmhdihaaGreatDoorCards
import Derived.Test.YtjhgelfnmhdihaaGreatDoorTie
import Derived.ShutString
import Derived.ChangeOld
import Derived.Below
import Derived.SevenTiedAt
namespace Go.Proofs.YtjhgelfnmhdihaaGreatDoor
set_option linter.unusedVariables false
set_option linter.unusedSimpArgs false
set_option maxRecDepth 100000
open Go.RowKit
section
open Go.ChangeShapes Pm
attribute [local irreducible] aU aZ bR aA au dB cO aF bZ aN aT av ak aR cZ bX aQ bK gB iC aD bA aO jW dJ bW bH aH bT fU bJ bg gY aJ nk qP kF bn fV eD dU eT bq aC bU fE dQ eF wH bE dV stepM wE uo aY iW pG Oh
set_option maxHeartbeats 4000000 in
theorem partyExports_fn(M:Int)(l:ByteArray)(who:Int):aP 12 [.v (.int .i64 M),.v (.string l),.v (.int .i64 who)] (.d (.v (.bool true))):=by
 refine dK (E:=Oc) Tryz.func12 Tryz.ntmps12 ?_
 by_cases m1:M<1
 ·refine aj ?_;(try exact⟨⟩)
 by_cases m2:M>4
 ·refine aj ?_;(try exact⟨⟩)
 by_cases l1:(l.size:Int)>50
 ·refine aj ?_;(try exact⟨⟩)
 by_cases w1:who<0
 ·refine aj ?_;(try exact⟨⟩)
 by_cases w2:who≥M
 ·refine aj ?_;(try exact⟨⟩)
 have gf:=DC (M:=M.toNat) (A:=1) (k:=1) (by omega) (by omega) (by omega) (by omega) (by omega) (by omega)
 have hl0:l.size≤1000000:=by omega
 refine aj ?_;(try exact⟨⟩)
 intro H hH
 rw[show(1:Int).toNat=1 from rfl]at hH
 rw[←hH]at gf
 clear hH
 obtain⟨p,hp,_⟩:=gf.at' who.toNat (by omega)
 obtain⟨q,hq,_⟩:=gf.at' 0 (by omega)
 have gl:=gf.len
 have lk:=gf.FC.like _ _ p q hp hq
 have hep:p.ep=q.ep:=lk.ep
 have n1:H.length≠0:=by rw[gl];omega
 have n2:H≠[]:=fun e=>n1 (by rw[e];rfl)
 have w3:who<(H.length:Int):=by rw[gl];omega
 have w4:0≤who:=by omega
 have v1:=(OA H who.toNat (by omega)).1
 have v2:=(OA H who.toNat (by omega)).2
 have z1:=(OA H 0 (by omega)).1
 rw[hp]at v1 v2
 rw[hq]at z1
 have v1:(gL H).getD (who.toNat*2) (.v undef)=.sref (bN p) 0:=v1
 have v2:(gL H).getD (who.toNat*2+1) (.v undef)=.sref (dM (dQ p)) 0:=v2
 have z1:(gL H).getD 0 (.v undef)=.sref (bN q) 0:=z1
 have xe:=(tJ p).2.2.2.2.2.2.2.2.1
 clear gf lk hp hq
 refine aj ?_;(try exact⟨⟩)
 rw[v1]
 refine aj ?_;(try exact⟨⟩)
 rw[v2]
 refine aj ?_;(try exact⟨⟩)
 rw[v1]
 refine aj ?_;(try exact⟨⟩)
 rw[z1]
 refine aj ?_;(try exact⟨⟩)
theorem partyExports_walk{w:World}(M:Int)(hM:(Lit.int .i64 M).wf=true)(l:ByteArray)(hl:l.size≤maxLen)(k:Int)(hk:(Lit.int .i64 k).wf=true)(hG:SV gTab (fun _=>True) w):
  Calls Tryz.prog 12 #[.int .i64 M,.string l,.int .i64 k] w fun e w'=>e=.returned (.bool true)∧Below w.heap.size w w':=
 Uz (partyExports_fn M l k) hG (.cons (.v _) (.cons (.v _) (.cons (.v _) .nil)))
end
end Go.Proofs.YtjhgelfnmhdihaaGreatDoor
namespace Go.Proofs.YtjhgelfnmhdihaaGreatDoor.lawPartyExports
open Go.ChangeShapes Go.WideShapes Go.ChangeAt Go.RowKit
open Go.ChangeMaps (open_string shut_string)
set_option linter.unusedVariables false
theorem own:ownKnob Tryz.prog.godebug=none:=by kernel_rfl
theorem laidOut:laidOutB Tryz.prog=true:=by kernel_rfl
set_option maxRecDepth 100000 in
theorem lifted (os : Os) (started : os.Started) (H : Type) (enc : TypeId × Value → H) :
    ReturnsInHanded {} Tryz.checked os 12 .any (fun w args => (Rows.partyExportsSpec.pre enc Tryz.prog Tryz.f12 [] false w args ∧ laidMetH Tryz.prog aG0 w) ∧ sizedMet enc Tryz.prog Tryz.f12 (OpenSpec.ofChange Rows.partyExportsSpec) false w args)
      (Rows.partyExportsSpec.post enc Tryz.prog Tryz.f12 false true false false) := by
  refine returnsInHanded_of_change_and (C := Tryz.checked) (X := fun w _ => laidMetH Tryz.prog aG0 w) (fun _ _ _ hh h => h.of_heap hh) own started (by kernel_rfl) Tryz.func12
    (ChangeSpec.witness_shaped (enc := enc) (C := Tryz.checked) (os := os) (X := fun w _ => laidMetH Tryz.prog aG0 w) false (World.doorLaid Tryz.prog 19 os) #[.int .i64 0, .string ByteArray.empty, .int .i64 0] 8 rfl (World.shaped_of_RefB (by kernel_rfl) (by kernel_rfl)) (by kernel_rfl) (by kernel_rfl) (by kernel_rfl) (aX2 os _)) ?_
  intro W base args ds gs before hval0 hW hcnd hsz0 hL _
  have hsz : (DataW.weightsEach Tryz.prog (Tryz.f12.params.toList ++ Rows.partyExportsSpec.plain.varTypes Tryz.prog) (ds ++ gs)).all (· ≤ reachBytes) = true := hsz0
  have hval : ∀ (j : Nat) t v, Tryz.f12.params[j]? = some t → args[j]? = some v → Value.okWide Tryz.prog W .any base t v := hval0
  have hW' := hW
  obtain ⟨p, q, hA0, hV, rfl, hfz, hnd⟩ := hW
  have hA : DataW.TrodAll enc Tryz.prog W 0 (fun _ => true) true Tryz.f12.params.toList args.toList ds p := hA0
  rw [Tryz.params12] at hA hval hsz
  obtain ⟨v0, vs0, d0, ds0, p0, q0, hargs, rfl, rfl, h0, r0⟩ := trodAll_cons hA
  obtain ⟨v1, vs1, d1, ds1, p1, q1, rfl, rfl, rfl, h1, r1⟩ := trodAll_cons r0
  obtain ⟨v2, vs2, d2, ds2, p2, q2, rfl, rfl, rfl, h2, r2⟩ := trodAll_cons r1
  obtain ⟨rfl, rfl, rfl⟩ := trodAll_nil r2
  obtain rfl : args = #[v0, v1, v2] := by cases args; simp_all
  obtain ⟨rfl, rfl⟩ := trodVars_none hV
  have k0 := h0
  have lt0 : ∀ x ∈ p0, x.block < W.heap.size := by obtain ⟨m, hm⟩ := k0; exact DataW.trod_lt m _ _ _ hm
  obtain ⟨a0, rfl, rfl, rfl, w0⟩ := open_int Tryz.underlying3 (hval 0 3 v0 rfl rfl) h0
  have k1 := h1
  have lt1 : ∀ x ∈ p1, x.block < W.heap.size := by obtain ⟨m, hm⟩ := k1; exact DataW.trod_lt m _ _ _ hm
  obtain ⟨a1, rfl, rfl, rfl, w1⟩ := open_string Tryz.underlying9 (hval 1 9 v1 rfl rfl) h1
  have k2 := h2
  have lt2 : ∀ x ∈ p2, x.block < W.heap.size := by obtain ⟨m, hm⟩ := k2; exact DataW.trod_lt m _ _ _ hm
  obtain ⟨a2, rfl, rfl, rfl, w2⟩ := open_int Tryz.underlying3 (hval 2 3 v2 rfl rfl) h2
  clear hA0 hval0
  refine (partyExports_walk a0 w0 a1 w1 a2 w2 (w := W) (aE7 hL)).mono fun e W' ⟨he, zS⟩ => ?_
  subst he
  exact ⟨_, rfl, _, _, _, [], _, [], hW', trodAll_mk1 (shut_bool Tryz.underlying4 _), (trodAll_cons_mk (Below.trod laidOut (by kernel_rfl) (of_decide_eq_true (by kernel_rfl)) k0 zS lt0) (trodAll_cons_mk (Below.trod laidOut (by kernel_rfl) (of_decide_eq_true (by kernel_rfl)) k1 zS lt1) (trodAll_cons_mk (Below.trod laidOut (by kernel_rfl) (of_decide_eq_true (by kernel_rfl)) k2 zS lt2) trodAll_mk0))), rfl, zS.frame _, fun h => by cases h⟩
theorem over:Rows.partyExportsRow.holds Tryz.pinned (OpenSpec.ofChange Rows.partyExportsSpec):=
 OpenClaim.holds_of_wide 12 Tryz.f12 rfl rfl rfl rfl rfl rfl rfl ⟨rfl,rfl,rfl,rfl,rfl⟩ rfl rfl rfl rfl rfl (by kernel_rfl) Tryz.func12 (by kernel_rfl)
  (of_decide_eq_true (by kernel_rfl)) (by unfold Func.isWrapper;first|(rw[if_pos (by decide+kernel)];kernel_rfl)|(rw[if_neg (by decide+kernel)];exact⟨rfl,rfl⟩))
  (fun os started H enc _=>lifted os started H enc)
theorem proved:Rows.PartyExportsCardSaid:=
 Claim7.holds_tied_plain_at .later [] [.data,.data] true _ false
  over (fun _ h=>by cases h) (by kernel_rfl) (fun _ h=>by cases h) partyExports_row_tie rfl ⟨rfl,rfl⟩ (by kernel_rfl) rfl
  (fun f fn hf hfn=>by
   obtain rfl:f=12:=Option.some.inj ((show Tryz.prog.funcNamed "curia/curialaw13.PartyExports"=some 12 by kernel_rfl).symm.trans hf) |>.symm
   obtain rfl:fn=Tryz.f12:=(Option.some.inj (Tryz.func12.symm.trans hfn)).symm
   exact⟨by kernel_rfl,fun j t ht=>by
    rw[Tryz.params12]at ht
    have hm:t∈[3,9,3]:=by simpa using Array.mem_of_getElem? ht
    have hall:([3,9,3].all fun u=>!Tryz.prog.wantsStandIn u)=true:=by kernel_rfl
    exact(show Tryz.prog.wantsStandIn t=false by simpa using List.all_eq_true.1 hall t hm)⟩)
  (by kernel_rfl)
end Go.Proofs.YtjhgelfnmhdihaaGreatDoor.lawPartyExports
