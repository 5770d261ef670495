/-
  Approvals: who approves, and what.
-/
import Derived.Test.YtpemaphgmfaioaaGreatO4
import Derived.Test.YtpemaphgmfaioaaGreatU4
import Derived.Test.YtpemaphgmfaioaaGreatP9
namespace Go.Proofs.YtpemaphgmfaioaaGreat
set_option maxRecDepth 100000
open Go.RowKit Pm
set_option linter.unusedVariables false
set_option linter.unusedSimpArgs false
attribute [local irreducible] condK LoopA regA powI scal isI putL doR mayV numsB viewHV numB deriveW fourB mulI askW nonceW sigE sigS verW paperV admB someZ someA keyB keyV chkV appE

set_option maxHeartbeats 2000000 in
theorem voteTells_ok (e : Int) (zs : List Int) (ad : List Bool) (k : Int) (ch : List UInt8) (who : Int) (h : List UInt8) (fr : Int) (ops : List Int) (n : Nat) (hn : n ≤ 140737488351232) (vs : List Int) (m : Nat) (hm : m ≤ 140737488351232) :
    FnO 3 [.agg (vSegs e zs ad k ch), .v (.int .i64 who), .agg [.bytes 32 h], .v (.int .i64 fr), .row n [.ints .i64 (n * 5) ops], .row m [.ints .i64 (m * 3) vs]] (.d (.v (.bool true))) := by
  refine fnA (E := envP7) Tryz.func3 Tryz.ntmps3 ?_
  by_cases h1 : (n : Int) > 20
  · refine agox ?_; (try with_reducible exact True.intro)
  by_cases h2 : (m : Int) > 20
  · refine agox ?_; (try with_reducible exact True.intro)
  have h3 : n ≤ 20 := by omega
  have h4 : m ≤ 20 := by omega
  obtain ⟨b1, b2⟩ := scal_bd h
  by_cases he : appE e zs ad k who (scal h) fr ops n = 0
  · have he1 := decide_eq_true he
    clear he
    refine agox ?_; (try with_reducible exact True.intro)
    trace_state
  · have he1 := decide_eq_false he
    clear he
    refine agox ?_; (try with_reducible exact True.intro)
    trace_state
theorem key_at (m a k j : Nat) (hj : j < m) (hm : m ≤ 8) : powI 4 (scal (keyB (j : Nat))) = (someZ (min m 8)).getD ((j : Int).toNat * 2) 0 := by
  rw [show min m 8 = m by omega, Int.toNat_natCast, someZ_get j (by omega) m hm, if_pos hj, keyV]
theorem adm_at (m a : Nat) (j : Nat) (hj : j < m) (ha : j < a) (hm : m ≤ 8) : admB (someA (a : Nat) (min m 8)) (j : Nat) = true := by
  rw [show min m 8 = m by omega, adm_t (by omega) (by omega), Int.toNat_natCast, someA_get _ j (by omega) m hm, decide_eq_true hj, decide_eq_true (show ((j : Nat) : Int) < (a : Nat) by omega)]; rfl
/-- what an admin of some view errs by -/
theorem app_some (m a : Nat) (k : Int) (j : Nat) (hj : j < m) (ha : j < a) (hm : m ≤ 8) (fr : Int) (ops : List Int) (n : Nat) (hn : n ≠ 0) : appE 0 (someZ (min m 8)) (someA (a : Nat) (min m 8)) k (j : Nat) (scal (keyB (j : Nat))) fr ops n = (doR 0 ⟨someZ (min m 8), someA (a : Nat) (min m 8), k, F8, F8⟩ fr ops n).1 := by
  unfold appE
  rw [if_neg hn]
  by_cases hd : (doR 0 ⟨someZ (min m 8), someA (a : Nat) (min m 8), k, F8, F8⟩ fr ops n).1 = 0
  · rw [if_neg (fun h => h hd), adm_at m a j hj ha hm, if_neg (by decide), ← key_at m a 0 j hj hm, if_neg (fun h => h rfl), hd]
  · rw [if_pos hd]
theorem chk_err (e : Int) (zs : List Int) (ad : List Bool) (k : Int) (ch : List UInt8) (fr : Int) (ops : List Int) (n : Nat) (vs : List Int) (m : Nat) (hn : n ≠ 0) (hd : (doR e ⟨zs, ad, k, F8, F8⟩ fr ops n).1 ≠ 0) : chkV e zs ad k ch fr ops n vs m = (doR e ⟨zs, ad, k, F8, F8⟩ fr ops n).1 := by
  unfold chkV
  rw [if_neg hn, if_pos hd]
set_option maxHeartbeats 2000000 in
theorem voteRefused_ok (o : List Int) (who : Int) :
    FnO 7 [.agg [.ints .i64 5 o], .v (.int .i64 who)] (.d (.v (.bool true))) := by
  refine fnA (E := envP7) Tryz.func7 Tryz.ntmps7 ?_
  obtain ⟨b1, b2⟩ := scal_bd (keyB 0)
  have e1 : appE 0 (someZ (min 3 8)) (someA 2 (min 3 8)) 1 0 (scal (keyB 0)) 0 o 1 = (doR 0 ⟨someZ (min 3 8), someA 2 (min 3 8), 1, F8, F8⟩ 0 o 1).1 := app_some 3 2 1 0 (by decide) (by decide) (by decide) 0 o 1 (by decide)
  have e2 := chk_err 0 (someZ (min 3 8)) (someA 2 (min 3 8)) 1 Z32 0 o 1 [who, 0, 0] 1 (by decide)
  rw [← e1] at e2
  clear e1
  by_cases he : appE 0 (someZ (min 3 8)) (someA 2 (min 3 8)) 1 0 (scal (keyB 0)) 0 o 1 = 0
  · have he1 := decide_eq_true he
    have he2 := beq_iff_eq.2 he
    clear he e2
    refine agox ?_; (try with_reducible exact True.intro)
    trace_state
  · have he1 := decide_eq_false he
    have he2 := beq_eq_false_iff_ne.2 he
    have e3 := beq_iff_eq.2 (e2 he)
    clear he e2
    refine agox ?_; (try with_reducible exact True.intro)
    trace_state
theorem gok_nil6 {w : World} : GOK gTab (fun _ => True) w := fun q l e => by cases (show (none : Option (List Seg)) = some l from e)
theorem voteTells_walk {w : World} (v : Value) (hv : ∃ (e : Int) (zs : List Int) (ad : List Bool) (k : Int) (ch : List UInt8), RA (fun _ => True) w (.agg (vSegs e zs ad k ch)) v) (who : Int) (hw : (Lit.int .i64 who).wf = true) (h : List UInt8) (hh : h.length = 32) (fr : Int) (hf : (Lit.int .i64 fr).wf = true) (l : Value) (n : Nat) (zs : List Int) (hn : n ≤ 140737488351232) (hl : RA (fun _ => True) w (.row n [.ints .i64 (n * 5) zs]) l) (l' : Value) (n' : Nat) (zs' : List Int) (hn' : n' ≤ 140737488351232) (hl' : RA (fun _ => True) w (.row n' [.ints .i64 (n' * 3) zs']) l') :
    Calls Tryz.prog 3 #[v, .int .i64 who, HV h, .int .i64 fr, l, l'] w fun e w' => e = .returned (.bool true) ∧ Below w.heap.size w w' := by
  obtain ⟨e, ys, ad, k, ch, hv⟩ := hv
  exact law_of_fn (voteTells_ok e ys ad k ch who h fr zs n hn zs' n' hn') gok_nil6 (.cons hv (.cons (.v _) (.cons (ra_hash hh) (.cons (.v _) (.cons hl (.cons hl' .nil))))))
theorem voteRefused_walk {w : World} (o : List Int) (ho : o.length = 5) (who : Int) (hw : (Lit.int .i64 who).wf = true) :
    Calls Tryz.prog 7 #[.agg (o.map (Value.int .i64)).toArray, .int .i64 who] w fun e w' => e = .returned (.bool true) ∧ Below w.heap.size w w' :=
  law_of_fn (voteRefused_ok o who) gok_nil6 (.cons (ra_ints ho) (.cons (.v _) .nil))
end Go.Proofs.YtpemaphgmfaioaaGreat
