/-
  Approvals: what the laws stand on.
-/
import Derived.Test.YtpemaphgmfaioaaGreatO3r
import Derived.Test.YtpemaphgmfaioaaGreatU3
namespace Go.Proofs.YtpemaphgmfaioaaGreat
set_option maxRecDepth 100000
open Go.RowKit Pm
set_option linter.unusedVariables false
set_option linter.unusedSimpArgs false
attribute [local irreducible] condK LoopA regA powI scal isI putL doR mayV numsB viewHV numB deriveW fourB mulI askW nonceW sigE sigS verW paperV admB someZ someA keyB keyV chkV appE

/-- an approval, either way -/
def appM : Nat → Bk → List A → (Res → Bk → Prop) → Prop
  | 2, .obj P, [.agg [.ints .i64 1 [e], .ints .i64 31 zs, .bools 8 ad, .ints .i64 1 [k], .bytes 32 ch], .v (.int .i64 who), .v (.int .i64 fr), x], K =>
    ∃ s, P = KeyP s ∧ 1 ≤ s ∧ s < 1073741789 ∧ opsK x fun n ops => StopC (condK (decide (appE e zs ad k who s fr ops n = 0))
      (K (.t [.agg [.ints .i64 3 [who, sigE s (paperV e zs ad k ch fr ops), sigS s (paperV e zs ad k ch fr ops)]], .v (.int .i64 0)]) (.obj (KeyP s)))
      (K (.t [.agg [.ints .i64 3 [0, 0, 0]], .v (.int .i64 (appE e zs ad k who s fr ops n))]) (.obj (KeyP s))))
  | _, _, _, _ => False
theorem appM_ok : ∀ pos x args K, appM pos x args K → ∃ r x', FnMO 9 pos x args r x' ∧ K r x' := by
  intro pos x args K h
  unfold appM at h
  split at h
  · next P e zs ad k ch who fr y =>
    obtain ⟨s, rfl, h1, h2, h⟩ := h
    obtain ⟨n, ops, hn, h, hv⟩ := opsK_spec h
    have h := h.out
    refine ⟨.t (appS e zs ad k ch who s fr ops n), .obj (KeyP s), fun S w r vs hr hG hx ha => ?_, ?_⟩
    · cases ha with | cons a1 a => cases a with | cons a2 a => cases a with | cons a3 a => cases a with | cons a4 a =>
      cases a
      exact approve_fn e zs ad k ch who s ⟨h1, h2⟩ fr ops n hn S w r _ hr hG hx (.cons a1 (.cons a2 (.cons a3 (.cons (hv a4) .nil))))
    · unfold appS
      by_cases he : appE e zs ad k who s fr ops n = 0
      · rw [decide_eq_true he, condK_true] at h
        rw [if_pos he]
        exact h
      · rw [decide_eq_false he, condK_false] at h
        rw [if_neg he]
        exact h
  · exact h.elim
def rappS : List A → (Res → Prop) → Prop
  | [.agg [.ints .i64 1 [e], .ints .i64 31 zs, .bools 8 ad, .ints .i64 1 [k], .bytes 32 ch], .v (.int .i64 who), .agg [.ints .i64 2 [s, y]], .v (.int .i64 fr), x], K =>
    1 ≤ s ∧ s < 1073741789 ∧ y = powI 4 s ∧ opsK x fun n ops => StopC (condK (decide (appE e zs ad k who s fr ops n = 0))
      (K (.t [.agg [.ints .i64 3 [who, sigE s (paperV e zs ad k ch fr ops), sigS s (paperV e zs ad k ch fr ops)]], .v (.int .i64 0)]))
      (K (.t [.agg [.ints .i64 3 [0, 0, 0]], .v (.int .i64 (appE e zs ad k who s fr ops n))])))
  | _, _ => False
theorem rappS_ok : ∀ args K, rappS args K → ∃ r, FnO 11 args r ∧ K r := by
  intro args K h
  unfold rappS at h
  split at h
  · next e zs ad k ch who s y fr x =>
    obtain ⟨h1, h2, rfl, h⟩ := h
    obtain ⟨n, ops, hn, h, hv⟩ := opsK_spec h
    have h := h.out
    refine ⟨.t (appS e zs ad k ch who s fr ops n), fun S w vs hG ha => ?_, ?_⟩
    · cases ha with | cons a1 a => cases a with | cons a2 a => cases a with | cons a3 a => cases a with | cons a4 a => cases a with | cons a5 a =>
      cases a
      exact rapprove_fn e zs ad k ch who s ⟨h1, h2⟩ fr ops n hn S w _ hG (.cons a1 (.cons a2 (.cons a3 (.cons a4 (.cons (hv a5) .nil)))))
    · unfold appS
      by_cases he : appE e zs ad k who s fr ops n = 0
      · rw [decide_eq_true he, condK_true] at h
        rw [if_pos he]
        exact h
      · rw [decide_eq_false he, condK_false] at h
        rw [if_neg he]
        exact h
  · exact h.elim
/-- whether approvals are enough -/
def chkS : List A → (Res → Prop) → Prop
  | [.agg [.ints .i64 1 [e], .ints .i64 31 zs, .bools 8 ad, .ints .i64 1 [k], .bytes 32 ch], .v (.int .i64 fr), x, y], K => opsK x fun n ops => votK y fun m vs => K (.d (.v (.int .i64 (chkV e zs ad k ch fr ops n vs m))))
  | _, _ => False
theorem chkS_of {f : FuncId} (hx : ∀ e zs ad k ch fr ops n, n ≤ 1000000 → ∀ vs m, m ≤ 1000000 → vs.length = m * 3 → FnO f [.agg (vSegs e zs ad k ch), .v (.int .i64 fr), .row n [.ints .i64 (n * 5) ops], .row m [.ints .i64 (m * 3) vs]] (.d (.v (.int .i64 (chkV e zs ad k ch fr ops n vs m))))) : ∀ args K, chkS args K → ∃ r, FnO f args r ∧ K r := by
  intro args K h
  unfold chkS at h
  split at h
  · next e zs ad k ch fr x y =>
    obtain ⟨n, ops, hn, h, hv⟩ := opsK_spec h
    obtain ⟨m, vs, hm, h, hu⟩ := votK_spec h
    refine ⟨_, fun S w vs' hG ha => ?_, h⟩
    cases ha with | cons a1 a => cases a with | cons a2 a => cases a with | cons a3 a => cases a with | cons a4 a =>
    cases a
    exact fn_lens (fun hl => hx e zs ad k ch fr ops n hn vs m hm hl.2.2.1.1) S w _ hG (.cons a1 (.cons a2 (.cons (hv a3) (.cons (hu a4) .nil))))
  · exact h.elim
noncomputable def envP0 : EnvX := envOa.addM 9 appM appM_ok ⟨_, Tryz.func9, by kernel_rfl, by kernel_rfl⟩
noncomputable def envP1 : EnvX := envP0.add 11 rappS rappS_ok ⟨_, Tryz.func11, by kernel_rfl, by kernel_rfl⟩
noncomputable def envP2 : EnvX := envP1.add 15 chkS (chkS_of check_fn) ⟨_, Tryz.func15, by kernel_rfl, by kernel_rfl⟩
noncomputable def envP3 : EnvX := envP2.add 16 chkS (chkS_of rcheck_fn) ⟨_, Tryz.func16, by kernel_rfl, by kernel_rfl⟩
noncomputable def envP4 : EnvX := envP3.add 20 seedS seedS_ok ⟨_, Tryz.func20, by kernel_rfl, by kernel_rfl⟩
noncomputable def envP5 : EnvX := envP4.add 18 someFS someFS_ok ⟨_, Tryz.func18, by kernel_rfl, by kernel_rfl⟩
theorem chk_none (e : Int) (zs : List Int) (ad : List Bool) (k : Int) (ch : List UInt8) (fr : Int) (ops vs : List Int) : chkV e zs ad k ch fr ops 0 vs 0 = 0 := by simp [chkV]
theorem chk_some (e : Int) (zs : List Int) (ad : List Bool) (k : Int) (ch : List UInt8) (fr : Int) (ops vs : List Int) : chkV e zs ad k ch fr ops 0 vs 1 = 8 := by simp [chkV]
set_option maxHeartbeats 1000000 in
theorem oknown_ok : FnO 17 [] (.d (.v (.bool true))) := by
  refine fnA (E := envP5) Tryz.func17 Tryz.ntmps17 ?_
  have c0 := chk_none
  have c1 := chk_some
  refine agox ?_; (try with_reducible exact True.intro)
  simp [eqSegs]
def oknownS : List A → (Res → Prop) → Prop
  | [], K => K (.d (.v (.bool true)))
  | _, _ => False
theorem oknownS_ok : ∀ args K, oknownS args K → ∃ r, FnO 17 args r ∧ K r := by
  intro args K h
  unfold oknownS at h
  split at h
  · exact ⟨_, oknown_ok, h⟩
  · exact h.elim
def manyBS : List A → (Res → Prop) → Prop
  | [.row n [.ints .i64 _ zs], .row m [.ints .i64 _ vs]], K => K (.d (.v (.bool (decide ((n : Int) > 20) || decide ((m : Int) > 20)))))
  | _, _ => False
set_option maxHeartbeats 1000000 in
theorem many_fn (zs vs : List Int) (n m i j : Nat) : FnO 8 [.row n [.ints .i64 i zs], .row m [.ints .i64 j vs]] (.d (.v (.bool (decide ((n : Int) > 20) || decide ((m : Int) > 20))))) := by
  refine fnA (E := envP5) Tryz.func8 Tryz.ntmps8 ?_
  by_cases h : (n : Int) > 20
  · rw [decide_eq_true h, Bool.true_or]
    refine agox ?_; (try with_reducible exact True.intro)
  · rw [decide_eq_false h, Bool.false_or]
    refine agox ?_; (try with_reducible exact True.intro)
theorem manyBS_ok : ∀ args K, manyBS args K → ∃ r, FnO 8 args r ∧ K r := by
  intro args K h
  unfold manyBS at h
  split at h
  · exact ⟨_, many_fn _ _ _ _ _ _, h⟩
  · exact h.elim
noncomputable def envP6 : EnvX := envP5.add 17 oknownS oknownS_ok ⟨_, Tryz.func17, by kernel_rfl, by kernel_rfl⟩
noncomputable def envP7 : EnvX := envP6.add 8 manyBS manyBS_ok ⟨_, Tryz.func8, by kernel_rfl, by kernel_rfl⟩
end Go.Proofs.YtpemaphgmfaioaaGreat
