/-
  Approvals: what they come to.
-/
import Derived.Test.YtpemaphgmfaioaaGreatK6
import Derived.Test.YtpemaphgmfaioaaGreatY9
namespace Go.Proofs.YtpemaphgmfaioaaGreat
set_option maxRecDepth 100000
open Go.RowKit Pm
set_option linter.unusedVariables false
set_option linter.unusedSimpArgs false
attribute [local irreducible] condK LoopA regA powI scal isI putL doR mayV numsB viewHV numB deriveW fourB mulI askW nonceW sigE sigS verW

/-- is an admin there? -/
def admB (ad : List Bool) (i : Int) : Bool := leafB i && ad.getD i.toNat false
/-- what is approved -/
def paperV (e : Int) (zs : List Int) (ad : List Bool) (k : Int) (ch : List UInt8) (fr : Int) (ops : List Int) : List UInt8 := deriveW (viewHV e zs ad k ch) (sb ⟨#[118, 111, 116, 101]⟩) (numB fr ++ numsB ops)
theorem paperV_length (e : Int) (zs : List Int) (ad : List Bool) (k : Int) (ch : List UInt8) (fr : Int) (ops : List Int) : (paperV e zs ad k ch fr ops).length = 32 := by
  rw [paperV, deriveW]; exact sumW_length _
def paperS : List A → (Res → Prop) → Prop
  | [.agg [.ints .i64 1 [e], .ints .i64 31 zs, .bools 8 ad, .ints .i64 1 [k], .bytes 32 ch], .v (.int .i64 fr), x], K => opsK x fun n ops => K (.d (.agg [.bytes 32 (paperV e zs ad k ch fr ops)]))
  | _, _ => False
theorem paperS_of {f : FuncId} (hx : ∀ e zs ad k ch fr ops n, ops.length = n * 5 → n ≤ 1000000 → FnO f [.agg (vSegs e zs ad k ch), .v (.int .i64 fr), .row n [.ints .i64 (n * 5) ops]] (.d (.agg [.bytes 32 (paperV e zs ad k ch fr ops)]))) : ∀ args K, paperS args K → ∃ r, FnO f args r ∧ K r := by
  intro args K h
  unfold paperS at h
  split at h
  · next e zs ad k ch fr x =>
    obtain ⟨n, ops, hn, h, hv⟩ := opsK_spec h
    refine ⟨_, fun S w vs hG ha => ?_, h⟩
    obtain ⟨v1, v2, v3, rfl, h1, h2, h3⟩ := ra_three ha
    exact fn_lens (fun hl => hx e zs ad k ch fr ops n hl.2.1.1 hn) S w _ hG (.cons h1 (.cons h2 (.cons (hv h3) .nil)))
  · exact h.elim
attribute [local irreducible] paperV
noncomputable def envO0 : EnvX := envSh.add 31 vHashS (vHashS_of vHash_ok) ⟨_, Tryz.func31, by kernel_rfl, by kernel_rfl⟩
noncomputable def envO1 : EnvX := envO0.add 35 vHashS (vHashS_of rvHash_ok) ⟨_, Tryz.func35, by kernel_rfl, by kernel_rfl⟩
noncomputable def envO2 : EnvX := envO1.add 33 opsBS (opsBS_of ops_ok) ⟨_, Tryz.func33, by kernel_rfl, by kernel_rfl⟩
noncomputable def envO3 : EnvX := envO2.add 38 opsBS (opsBS_of rops_ok) ⟨_, Tryz.func38, by kernel_rfl, by kernel_rfl⟩
noncomputable def envO4 : EnvX := envO3.add 21 applyN (applyN_of apply_ok) ⟨_, Tryz.func21, by kernel_rfl, by kernel_rfl⟩
noncomputable def envO5 : EnvX := envO4.add 19 applyN (applyN_of rapply_ok) ⟨_, Tryz.func19, by kernel_rfl, by kernel_rfl⟩
set_option maxHeartbeats 1000000 in
theorem paper_fn (e : Int) (zs : List Int) (ad : List Bool) (k : Int) (ch : List UInt8) (fr : Int) (ops : List Int) (n : Nat) (ho : ops.length = n * 5) (hn : n ≤ 1000000) :
    FnO 13 [.agg (vSegs e zs ad k ch), .v (.int .i64 fr), .row n [.ints .i64 (n * 5) ops]] (.d (.agg [.bytes 32 (paperV e zs ad k ch fr ops)])) := by
  refine fnA (E := envO5) Tryz.func13 Tryz.ntmps13 ?_
  refine agow ?_; (try with_reducible exact True.intro)
  generalize hp : ptsOf _ _ _ = o
  obtain rfl : o = some [.own 2 8, .own 3 (n * 40)] := hp.symm.trans (ptsOf_cons rfl (ptOf_own rfl rfl) (ptsOf_cons rfl (ptOf_own rfl rfl) ptsOf_nil))
  clear hp
  refine agow ?_; (try with_reducible exact True.intro)
  rw [paperV]
set_option maxHeartbeats 1000000 in
theorem rpaper_fn (e : Int) (zs : List Int) (ad : List Bool) (k : Int) (ch : List UInt8) (fr : Int) (ops : List Int) (n : Nat) (ho : ops.length = n * 5) (hn : n ≤ 1000000) :
    FnO 14 [.agg (vSegs e zs ad k ch), .v (.int .i64 fr), .row n [.ints .i64 (n * 5) ops]] (.d (.agg [.bytes 32 (paperV e zs ad k ch fr ops)])) := by
  refine fnA (E := envO5) Tryz.func14 Tryz.ntmps14 ?_
  have h1 : (numB fr).length = 8 := numB_length fr
  have h2 : (numsB ops).length = n * 40 := by rw [numsB_length, ho]; omega
  refine agow ?_; (try with_reducible exact True.intro)
  generalize hp : ptsOf _ _ _ = o
  obtain rfl : o = some [.own 2 8, .own 3 (n * 40)] := hp.symm.trans (ptsOf_cons rfl (ptOf_own rfl rfl) (ptsOf_cons rfl (ptOf_own rfl rfl) ptsOf_nil))
  clear hp
  refine agow ?_; (try with_reducible exact True.intro)
  rw [paperV]
noncomputable def envO6 : EnvX := envO5.add 13 paperS (paperS_of paper_fn) ⟨_, Tryz.func13, by kernel_rfl, by kernel_rfl⟩
noncomputable def envO7 : EnvX := envO6.add 14 paperS (paperS_of rpaper_fn) ⟨_, Tryz.func14, by kernel_rfl, by kernel_rfl⟩
def admS : List A → (Res → Prop) → Prop
  | [.agg [.ints .i64 1 [e], .ints .i64 31 zs, .bools 8 ad, .ints .i64 1 [k], .bytes 32 ch], .v (.int .i64 i)], K => K (.d (.v (.bool (admB ad i))))
  | _, _ => False
theorem admS_of {f : FuncId} (hx : ∀ e zs ad k ch i, FnO f [.agg (vSegs e zs ad k ch), .v (.int .i64 i)] (.d (.v (.bool (admB ad i))))) : ∀ args K, admS args K → ∃ r, FnO f args r ∧ K r := by
  intro args K h
  unfold admS at h
  split at h
  · exact ⟨_, hx _ _ _ _ _ _, h⟩
  · exact h.elim
theorem adm_t {ad : List Bool} {i : Int} (h0 : 0 ≤ i) (h1 : i < 8) : admB ad i = ad.getD i.toNat false := by
  unfold admB leafB; rw [decide_eq_true h0, decide_eq_true h1]; rfl
theorem adm_lo {ad : List Bool} {i : Int} (h : ¬ 0 ≤ i) : admB ad i = false := by
  unfold admB leafB; rw [decide_eq_false h]; rfl
theorem adm_hi {ad : List Bool} {i : Int} (h : ¬ i < 8) : admB ad i = false := by
  unfold admB leafB; rw [decide_eq_false h, Bool.and_false]; rfl
set_option maxHeartbeats 1000000 in
theorem isAdmin_fn (e : Int) (zs : List Int) (ad : List Bool) (k : Int) (ch : List UInt8) (i : Int) : FnO 22 [.agg (vSegs e zs ad k ch), .v (.int .i64 i)] (.d (.v (.bool (admB ad i)))) := by
  refine fnA (E := envO5) Tryz.func22 Tryz.ntmps22 ?_
  by_cases h0 : 0 ≤ i
  · by_cases h1 : i < 8
    · rw [adm_t h0 h1]
      refine agow ?_; (try with_reducible exact True.intro)
    · rw [adm_hi h1]
      refine agow ?_; (try with_reducible exact True.intro)
  · rw [adm_lo h0]
    refine agow ?_; (try with_reducible exact True.intro)
set_option maxHeartbeats 1000000 in
theorem radmin_fn (e : Int) (zs : List Int) (ad : List Bool) (k : Int) (ch : List UInt8) (i : Int) : FnO 26 [.agg (vSegs e zs ad k ch), .v (.int .i64 i)] (.d (.v (.bool (admB ad i)))) := by
  refine fnA (E := envO5) Tryz.func26 Tryz.ntmps26 ?_
  by_cases h0 : 0 ≤ i
  · by_cases h1 : i < 8
    · rw [adm_t h0 h1]
      refine agow ?_; (try with_reducible exact True.intro)
    · rw [adm_hi h1]
      refine agow ?_; (try with_reducible exact True.intro)
  · rw [adm_lo h0]
    refine agow ?_; (try with_reducible exact True.intro)
noncomputable def envO8 : EnvX := envO7.add 22 admS (admS_of isAdmin_fn) ⟨_, Tryz.func22, by kernel_rfl, by kernel_rfl⟩
noncomputable def envO9 : EnvX := envO8.add 26 admS (admS_of radmin_fn) ⟨_, Tryz.func26, by kernel_rfl, by kernel_rfl⟩
end Go.Proofs.YtpemaphgmfaioaaGreat
