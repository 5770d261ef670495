/-
  Signatures, as the machine without memory calls them.
-/
import Derived.Test.YtpemaphgmfaioaaGreatHK
import Derived.Test.YtpemaphgmfaioaaGreatHPair
import Derived.Test.YtpemaphgmfaioaaGreatY8
namespace Go.Proofs.YtpemaphgmfaioaaGreat
set_option maxRecDepth 100000
open Go.RowKit Pm
set_option linter.unusedVariables false
set_option linter.unusedSimpArgs false
attribute [local irreducible] condK LoopA regA numB deriveW numsB

theorem rowK_row {x : A} {K : List UInt8 → Prop} (h : rowK x K) : ∃ b, K b ∧ ∀ {S : Nat → Prop} {w : World} {v : Value}, RA S w x v → RA S w (.row b.length [.bytes b.length b]) v := by
  unfold rowK at h
  split at h
  · next n m b =>
    obtain ⟨rfl, h⟩ := h
    refine ⟨b, h, fun {S w v} hv => ?_⟩
    have hl : b.length = n := by
      cases hv with
      | row k1 k2 k3 k4 k5 => exact k1.toBytes.1
    rw [hl]
    exact hv
  · refine ⟨[], h, fun {S w v} hv => ?_⟩
    cases hv with
    | row k1 k2 k3 k4 k5 =>
      cases k1.nil_inv
      exact .row (cs := []) (.ofBytes rfl rfl) k2 k3 k4 (.inl rfl)
  · refine ⟨[], h, fun {S w v} hv => ?_⟩
    rw [RA.plain hv]
    exact .row (cs := []) (.ofBytes rfl rfl) (Nat.le_refl _) (Nat.zero_le _) (fun _ => rfl) (.inl rfl)
  · exact h.elim
def plain2S (g : Int → Int → Int) : List A → (Res → Prop) → Prop
  | [.v (.int .i64 a), .v (.int .i64 b)], K => K (.d (.v (.int .i64 (g a b))))
  | _, _ => False
theorem plain2S_of {f : FuncId} {g : Int → Int → Int} (h : ∀ a b w, Calls Tryz.prog f #[.int .i64 a, .int .i64 b] w fun e w' => e = .returned (.int .i64 (g a b)) ∧ w = w') : ∀ args K, plain2S g args K → ∃ r, FnO f args r ∧ K r := by
  intro args K hd
  unfold plain2S at hd
  split at hd
  · exact ⟨_, fn_plain2 fun w => h _ _ w, hd⟩
  · exact hd.elim
def boolS (g : Int → Bool) : List A → (Res → Prop) → Prop
  | [.v (.int .i64 a)], K => K (.d (.v (.bool (g a))))
  | _, _ => False
theorem boolS_of {f : FuncId} {g : Int → Bool} (h : ∀ a w, Calls Tryz.prog f #[.int .i64 a] w fun e w' => e = .returned (.bool (g a)) ∧ w = w') : ∀ args K, boolS g args K → ∃ r, FnO f args r ∧ K r := by
  intro args K hd
  unfold boolS at hd
  split at hd
  · exact ⟨_, fn_plain1 fun w => h _ w, hd⟩
  · exact hd.elim
/-- a number out of a sum -/
def sumNS (g : List UInt8 → Int) : List A → (Res → Prop) → Prop
  | [.agg [.bytes 32 h]], K => K (.d (.v (.int .i64 (g h))))
  | _, _ => False
theorem sumNS_of {f : FuncId} {g : List UInt8 → Int} (h : ∀ b, b.length = 32 → ∀ w, Calls Tryz.prog f #[HV b] w fun e w' => e = .returned (.int .i64 (g b)) ∧ Below w.heap.size w w') : ∀ args K, sumNS g args K → ∃ r, FnO f args r ∧ K r := by
  intro args K hd
  unfold sumNS at hd
  split at hd
  · next b =>
    refine ⟨_, fun S w vs _ ha => ?_, hd⟩
    obtain ⟨v, rfl, h1⟩ := ra_one ha
    obtain ⟨rfl, hh⟩ := hash_of h1
    refine (h b hh w).mono ?_
    rintro e w' ⟨rfl, hb⟩
    exact ⟨_, rfl, .v _, hb⟩
  · exact hd.elim
def fourS : List A → (Res → Prop) → Prop
  | [.v (.int .i64 n)], K => K (.o 5 1 4 [.bytes 4 (fourB n)])
  | _, _ => False
theorem fourS_of {f : FuncId} (h : ∀ n w, Calls Tryz.prog f #[.int .i64 n] w fun e w' => e = .returned (.slice (some ⟨w.heap.size, 0, none⟩) 4 4) ∧ w' = w.alloc (.cells (HC (fourB n)) 5)) : ∀ args K, fourS args K → ∃ r, FnO f args r ∧ K r := by
  intro args K hd
  unfold fourS at hd
  split at hd
  · next n =>
    have hl : (fourB n).length = 4 := by unfold fourB; rfl
    refine ⟨_, ?_, hd⟩
    have h2 := fn_own8 (f := f) (args := [.v (.int .i64 n)]) (bs := fourB n) fun S w vs ha => by
      obtain ⟨v, rfl, h1⟩ := ra_one ha
      rw [RA.plain h1]
      refine (h n w).mono ?_
      rintro e w' ⟨rfl, rfl⟩
      exact ⟨_, rfl, Own8.ofBlk (Blk.new w _ _) (Nat.le_refl _) hl.symm (by rw [hl]; simp [maxLen]), Below.alloc (Below.refl _ _) (Nat.le_refl _) _⟩
    rw [hl] at h2
    exact h2
  · exact hd.elim
def scalN (h : List UInt8) : Int := U (numN h 8) % 1073741789
noncomputable def envK4y : EnvX := envK4.withY yTab2 yOK2 yEq2
noncomputable def envS0 : EnvX := envK4y.add 87 (sumNS scalN) (sumNS_of fun b hb w => pnumber_any b hb w) ⟨_, Tryz.func87, by kernel_rfl, by kernel_rfl⟩
noncomputable def envS1 : EnvX := envS0.add 25 (sumNS scal) (sumNS_of fun b hb w => pscalar_any b hb w) ⟨_, Tryz.func25, by kernel_rfl, by kernel_rfl⟩
noncomputable def envS2 : EnvX := envS1.add 88 (sumNS scalN) (sumNS_of fun b hb w => rnumber_any b hb w) ⟨_, Tryz.func88, by kernel_rfl, by kernel_rfl⟩
noncomputable def envS3 : EnvX := envS2.add 28 (sumNS scal) (sumNS_of fun b hb w => rscalar_any b hb w) ⟨_, Tryz.func28, by kernel_rfl, by kernel_rfl⟩
noncomputable def envS4 : EnvX := envS3.add 54 fourS (fourS_of four_any) ⟨_, Tryz.func54, by kernel_rfl, by kernel_rfl⟩
noncomputable def envS5 : EnvX := envS4.add 57 fourS (fourS_of rfour_any) ⟨_, Tryz.func57, by kernel_rfl, by kernel_rfl⟩
noncomputable def envS6 : EnvX := envS5.add 51 (plain2S powI) (plain2S_of pow_any) ⟨_, Tryz.func51, by kernel_rfl, by kernel_rfl⟩
noncomputable def envS7 : EnvX := envS6.add 72 (plain2S mulI) (plain2S_of mul_any) ⟨_, Tryz.func72, by kernel_rfl, by kernel_rfl⟩
noncomputable def envS8 : EnvX := envS7.add 70 (boolS isI) (boolS_of is_any) ⟨_, Tryz.func70, by kernel_rfl, by kernel_rfl⟩
noncomputable def envS9 : EnvX := envS8.add 29 (plain2S powI) (plain2S_of rpow_any) ⟨_, Tryz.func29, by kernel_rfl, by kernel_rfl⟩
noncomputable def envSa : EnvX := envS9.add 61 (plain2S mulI) (plain2S_of rmul_any) ⟨_, Tryz.func61, by kernel_rfl, by kernel_rfl⟩
noncomputable def envSb : EnvX := envSa.add 73 (boolS isI) (boolS_of ris_any) ⟨_, Tryz.func73, by kernel_rfl, by kernel_rfl⟩
attribute [local irreducible] powI scal mulI isI fourB
def askS : List A → (Res → Prop) → Prop
  | [.v (.int .i64 b), .v (.int .i64 y), x], K => rowK x fun p => p.length ≤ 1000000 ∧ K (.d (.v (.int .i64 (askW b y p))))
  | _, _ => False
theorem askS_of {f : FuncId} (h : ∀ b y p, p.length ≤ 1000000 → FnO f [.v (.int .i64 b), .v (.int .i64 y), .row p.length [.bytes p.length p]] (.d (.v (.int .i64 (askW b y p))))) : ∀ args K, askS args K → ∃ r, FnO f args r ∧ K r := by
  intro args K hd
  unfold askS at hd
  split at hd
  · next b y x =>
    obtain ⟨p, ⟨hp, hd⟩, hv⟩ := rowK_row hd
    refine ⟨_, fun S w vs hG ha => ?_, hd⟩
    obtain ⟨v1, v2, v3, rfl, h1, h2, h3⟩ := ra_three ha
    exact h b y p hp S w _ hG (.cons h1 (.cons h2 (.cons (hv h3) .nil)))
  · exact hd.elim
set_option maxHeartbeats 1000000 in
theorem asked_fn (b y : Int) (p : List UInt8) (hp : p.length ≤ 1000000) : FnO 55 [.v (.int .i64 b), .v (.int .i64 y), .row p.length [.bytes p.length p]] (.d (.v (.int .i64 (askW b y p)))) := by
  refine fnA (E := envSb) Tryz.func55 Tryz.ntmps55 ?_
  refine agow ?_; (try with_reducible exact True.intro)
  simp only [askW, scalN, List.flatten_cons, List.flatten_nil, List.append_nil]
  rfl
set_option maxHeartbeats 1000000 in
theorem rasked_fn (b y : Int) (p : List UInt8) (hp : p.length ≤ 1000000) : FnO 58 [.v (.int .i64 b), .v (.int .i64 y), .row p.length [.bytes p.length p]] (.d (.v (.int .i64 (askW b y p)))) := by
  refine fnA (E := envSb) Tryz.func58 Tryz.ntmps58 ?_
  have h4 : ∀ n, (fourB n).length = 4 := fun n => by unfold fourB; rfl
  have h4b := h4 b
  have h4y := h4 y
  clear h4
  refine agow ?_; (try with_reducible exact True.intro)
  simp only [askW, scalN, List.flatten_cons, List.flatten_nil, List.append_nil]
  rfl
def secretS : Nat → Bk → List A → (Res → Bk → Prop) → Prop
  | 0, .obj p, [], K => ∃ s, p = KeyP s ∧ K (.d (.v (.int .i64 s))) (.obj (KeyP s))
  | _, _, _, _ => False
theorem secretS_ok : ∀ pos x args K, secretS pos x args K → ∃ r x', FnMO 53 pos x args r x' ∧ K r x' := by
  intro pos x args K hd
  unfold secretS at hd
  split at hd
  · next p =>
    obtain ⟨s, rfl, hK⟩ := hd
    refine ⟨_, _, fun S w r vs hr _ hx ha => ?_, hK⟩
    cases ha
    obtain ⟨cs, t, h2, rfl, d, us, h3⟩ := hx
    have hb : Blk w r (CD s d us) 88 := by unfold Blk; rw [h2, ← h3]
    refine (secret_any r s _ _ _ us w hb).mono ?_
    rintro e w' ⟨rfl, rfl⟩
    exact ⟨_, rfl, .v _, ⟨cs, _, h2, rfl, d, us, h3⟩, ⟨rfl, rfl, rfl, Nat.le_refl _, fun _ _ _ => rfl⟩⟩
  · exact hd.elim
noncomputable def envSc : EnvX := envSb.add 55 askS (askS_of asked_fn) ⟨_, Tryz.func55, by kernel_rfl, by kernel_rfl⟩
noncomputable def envSd : EnvX := envSc.add 58 askS (askS_of rasked_fn) ⟨_, Tryz.func58, by kernel_rfl, by kernel_rfl⟩
noncomputable def envSe : EnvX := envSd.addM 23 publicS publicS_ok ⟨_, Tryz.func23, by kernel_rfl, by kernel_rfl⟩
noncomputable def envSf : EnvX := envSe.addM 53 secretS secretS_ok ⟨_, Tryz.func53, by kernel_rfl, by kernel_rfl⟩
end Go.Proofs.YtpemaphgmfaioaaGreat
