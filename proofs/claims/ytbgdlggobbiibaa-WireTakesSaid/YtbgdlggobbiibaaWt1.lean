/-
  The law of bytes taken: as a commit, as a welcome, or refused.
-/
import Derived.Test.YtbgdlggobbiibaaRw4
import Derived.Test.YtbgdlggobbiibaaRdb
namespace Go.Proofs.Ytbgdlggobbiibaa
set_option maxRecDepth 100000
open Go.RowKit Pm
set_option linter.unusedVariables false
set_option linter.unusedSimpArgs false
attribute [local irreducible] condK LoopA regA numB numsB wlB wlN wlR mayW okW owRes wlOf flagsB okC okRes cOf commitB commitN mayB

theorem okRes_cases (b : List UInt8) : (okRes b = .t [.agg (cSegs (cOf b)), .v (.int .i64 0)]) ∨ okRes b = .t [commit0, .v (.int .i64 2)] := by
  unfold okRes
  split
  · exact .inl rfl
  · exact .inr rfl
theorem owRes_cases (b : List UInt8) : (owRes b = .t [.agg (wlSegs (wlOf b)), .v (.int .i64 0)]) ∨ owRes b = .t [welcome0, .v (.int .i64 2)] := by
  unfold owRes
  split
  · exact .inl rfl
  · exact .inr rfl
theorem wlOf_ok (b : List UInt8) : WSok (wlOf b) := by unfold wlOf; exact wlRd_ok _
def csQ : CS := ⟨0, 0, 0, [], 0, [], 0, 0, 0, 0, 0, fun _ => [], List.replicate 32 0, 0, 0⟩
theorem csQ_ok : CSok csQ := ⟨by decide, by decide, by decide, rfl, rfl, fun j hj => by cases hj⟩
theorem ra_twoQ {S : Nat → Prop} {w : World} {a b : A} {vs : List Value} (h : RAs S w [a, b] vs) : ∃ x y, vs = [x, y] ∧ RA S w a x ∧ RA S w b y := by
  cases h with | cons h r => cases r with | cons h2 r => cases r; exact ⟨_, _, rfl, h, h2⟩
theorem ra_nilRow {S : Nat → Prop} {w : World} {v : Value} {l : List Seg} (h : RA S w nilA v) (hl : RL S w l []) : RA S w (.row 0 l) v := by
  rw [RA.plain h]
  exact .row hl (Nat.le_refl _) (Nat.zero_le _) (fun _ => rfl) (.inl rfl)
theorem ra_nilRecs {S : Nat → Prop} {w : World} {v : Value} {n : Nat} {f : Nat → List Seg} (h : RA S w nilA v) : RA S w (.recs 0 n f) v := by
  rw [RA.plain h]
  exact .recs (cs := fun _ => []) (fun j hj => by omega) (Nat.le_refl _) (Nat.zero_le _) (fun _ => rfl) (.inl rfl)
theorem ra_commit0 {S : Nat → Prop} {w : World} {v : Value} (h : RA S w commit0 v) : RA S w (.agg (cSegs csQ)) v := by
  cases h with
  | agg h =>
    cases h with
    | ints k1 h =>
      cases h with
      | gen g1 k2 h =>
        cases h with
        | ints k3 h =>
          cases h with
          | gen g4 k4 h =>
            cases g1 with
            | cons a1 b1 r1 =>
              cases r1 with
              | cons a2 b2 r2 =>
                cases g4 with
                | cons a3 b3 r3 =>
                  refine .agg (.ints k1 (.gen (.cons ?_ b1 (.cons ?_ b2 r2)) rfl (.ints k3 (.gen (.cons ?_ b3 r3) rfl h))))
                  · exact ra_nilRow a1 (.ints rfl .nil)
                  · exact ra_nilRow a2 (.ints rfl .nil)
                  · exact ra_nilRecs a3
theorem same0_fn : FnO 8 [commit0, commit0] (.d (.v (.bool true))) := by
  intro S w vs hG ha
  obtain ⟨v1, v2, rfl, k1, k2⟩ := ra_twoQ ha
  have := rsame_ok csQ csQ csQ_ok csQ_ok S w _ hG (.cons (ra_commit0 k1) (.cons (ra_commit0 k2) .nil))
  rw [sameB_refl] at this
  exact this
def sameT : List A → (Res → Prop) → Prop
  | [a, b], K => (∃ c, a = .agg (cSegs c) ∧ b = .agg (cSegs c) ∧ CSok c ∧ K (.d (.v (.bool true)))) ∨ (a = commit0 ∧ b = commit0 ∧ K (.d (.v (.bool true))))
  | _, _ => False
theorem sameT_ok : ∀ args K, sameT args K → ∃ r, FnO 8 args r ∧ K r := by
  intro args K h
  unfold sameT at h
  split at h
  · rcases h with ⟨c, rfl, rfl, hc, h⟩ | ⟨rfl, rfl, h⟩
    · have := rsame_ok c c hc hc
      rw [sameB_refl] at this
      exact ⟨_, this, h⟩
    · exact ⟨_, same0_fn, h⟩
  · exact h.elim
set_option maxHeartbeats 4000000 in
theorem welcomes0_fn : FnO 9 [welcome0, welcome0] (.d (.v (.bool true))) := by
  refine fnA (E := envS2) Try.func9 Try.ntmps9 ?_
  refine agow ?_; (try with_reducible exact True.intro)
  rfl
def wlcT : List A → (Res → Prop) → Prop
  | [a, b], K => (∃ w, a = .agg (wlSegs w) ∧ b = .agg (wlSegs w) ∧ WSok w ∧ K (.d (.v (.bool true)))) ∨ (a = welcome0 ∧ b = welcome0 ∧ K (.d (.v (.bool true))))
  | _, _ => False
theorem wlcT_ok : ∀ args K, wlcT args K → ∃ r, FnO 9 args r ∧ K r := by
  intro args K h
  unfold wlcT at h
  split at h
  · rcases h with ⟨w, rfl, rfl, hc, h⟩ | ⟨rfl, rfl, h⟩
    · exact ⟨_, welcomes_ok w hc, h⟩
    · exact ⟨_, welcomes0_fn, h⟩
  · exact h.elim
/-- bytes, taken -/
def takeT (res : List UInt8 → Res) : List A → (Res → Prop) → Prop
  | [.row n [.bytes m b]], K => n = b.length ∧ m = b.length ∧ b.length ≤ 6000 ∧ K (res b)
  | _, _ => False
theorem takeT_of {f : FuncId} {res : List UInt8 → Res} (h : ∀ b : List UInt8, b.length ≤ 6000 → FnO f [.row b.length [.bytes b.length b]] (res b)) : ∀ args K, takeT res args K → ∃ r, FnO f args r ∧ K r := by
  intro args K hd
  unfold takeT at hd
  split at hd
  · obtain ⟨rfl, rfl, h1, hd⟩ := hd
    exact ⟨_, h _ h1, hd⟩
  · exact hd.elim
noncomputable def envT3 : EnvX := envS4.add 8 sameT sameT_ok ⟨_, Try.func8, by kernel_rfl, by kernel_rfl⟩
noncomputable def envT4 : EnvX := envT3.add 9 wlcT wlcT_ok ⟨_, Try.func9, by kernel_rfl, by kernel_rfl⟩
noncomputable def envT5 : EnvX := envT4.add 4 (takeT okRes) (takeT_of fun b hb => wtoCommit_ok b (by omega)) ⟨_, Try.func4, by kernel_rfl, by kernel_rfl⟩
noncomputable def envT6 : EnvX := envT5.add 5 (takeT okRes) (takeT_of rtoCommit_ok) ⟨_, Try.func5, by kernel_rfl, by kernel_rfl⟩
noncomputable def envT7 : EnvX := envT6.add 6 (takeT owRes) (takeT_of fun b hb => wtoWelcome_ok b (by omega)) ⟨_, Try.func6, by kernel_rfl, by kernel_rfl⟩
noncomputable def envT8 : EnvX := envT7.add 7 (takeT owRes) (takeT_of rtoWelcome_ok) ⟨_, Try.func7, by kernel_rfl, by kernel_rfl⟩
set_option maxHeartbeats 8000000 in
theorem wireTakes_ok (b : List UInt8) : FnO 3 [.row b.length [.bytes b.length b]] (.d (.v (.bool true))) := by
  refine fnA (E := envT8) Try.func3 Try.ntmps3 ?_
  by_cases h0 : (b.length : Int) > 5000
  · refine agow ?_; (try with_reducible exact True.intro)
  have hc := cOf_ok b
  have hw := wlOf_ok b
  rcases okRes_cases b with e1 | e1 <;> rcases owRes_cases b with e2 | e2
  · refine agow ?_; (try with_reducible exact True.intro)
    rw [List.nil_append, e1]
    refine agow ?_; (try with_reducible exact True.intro)
    rw [e1]
    refine agow ?_; (try with_reducible exact True.intro)
    rw [List.nil_append, e2]
    refine agow ?_; (try with_reducible exact True.intro)
    rw [e2]
    refine agow ?_; (try with_reducible exact True.intro)
    refine Or.inl ⟨cOf b, rfl, rfl, hc, ?_⟩
    refine agow ?_; (try with_reducible exact True.intro)
    refine Or.inl ⟨wlOf b, rfl, rfl, hw, ?_⟩
    refine agow ?_; (try with_reducible exact True.intro)
  · refine agow ?_; (try with_reducible exact True.intro)
    rw [List.nil_append, e1]
    refine agow ?_; (try with_reducible exact True.intro)
    rw [e1]
    refine agow ?_; (try with_reducible exact True.intro)
    rw [List.nil_append, e2]
    refine agow ?_; (try with_reducible exact True.intro)
    rw [e2]
    refine agow ?_; (try with_reducible exact True.intro)
    refine Or.inl ⟨cOf b, rfl, rfl, hc, ?_⟩
    refine agow ?_; (try with_reducible exact True.intro)
    refine Or.inr ⟨rfl, rfl, ?_⟩
    refine agow ?_; (try with_reducible exact True.intro)
  · refine agow ?_; (try with_reducible exact True.intro)
    rw [List.nil_append, e1]
    refine agow ?_; (try with_reducible exact True.intro)
    rw [e1]
    refine agow ?_; (try with_reducible exact True.intro)
    rw [List.nil_append, e2]
    refine agow ?_; (try with_reducible exact True.intro)
    rw [e2]
    refine agow ?_; (try with_reducible exact True.intro)
    refine Or.inr ⟨rfl, rfl, ?_⟩
    refine agow ?_; (try with_reducible exact True.intro)
    refine Or.inl ⟨wlOf b, rfl, rfl, hw, ?_⟩
    refine agow ?_; (try with_reducible exact True.intro)
  · refine agow ?_; (try with_reducible exact True.intro)
    rw [List.nil_append, e1]
    refine agow ?_; (try with_reducible exact True.intro)
    rw [e1]
    refine agow ?_; (try with_reducible exact True.intro)
    rw [List.nil_append, e2]
    refine agow ?_; (try with_reducible exact True.intro)
    rw [e2]
    refine agow ?_; (try with_reducible exact True.intro)
    refine Or.inr ⟨rfl, rfl, ?_⟩
    refine agow ?_; (try with_reducible exact True.intro)
    refine Or.inr ⟨rfl, rfl, ?_⟩
    refine agow ?_; (try with_reducible exact True.intro)
theorem wireTakes_walk {w : World} (a : Option Addr) (l c : Nat) (bs : List UInt8) (hp : Arg8 w a l c bs) :
    Calls Try.prog 3 #[.slice a l c] w fun e w' => e = .returned (.bool true) ∧ Below w.heap.size w w' :=
  law_of_fn (wireTakes_ok bs) gok_none12 (.cons (ra_arg8 hp) .nil)
end Go.Proofs.Ytbgdlggobbiibaa
