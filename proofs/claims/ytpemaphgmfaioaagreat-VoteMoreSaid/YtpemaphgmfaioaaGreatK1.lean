/-
  Sums, keys: what was walked of them, as the machine without memory calls it.
-/
import Derived.Test.YtpemaphgmfaioaaGreatY7
import Derived.Test.YtpemaphgmfaioaaGreatHA2
import Derived.Test.YtpemaphgmfaioaaGreatHPair
import Derived.Test.YtpemaphgmfaioaaGreatHSumR
namespace Go.Proofs.YtpemaphgmfaioaaGreat
set_option maxRecDepth 100000
open Go.RowKit Pm
set_option linter.unusedVariables false
set_option linter.unusedSimpArgs false

/-- one row of bytes that is handed in -/
def rowK : A → (List UInt8 → Prop) → Prop
  | .row n [.bytes m b], K => n = m ∧ K b
  | .row 0 [], K => K []
  | .v (.slice none 0 0), K => K []
  | _, _ => False
def listK : List A → (List (List UInt8) → Prop) → Prop
  | [], K => K []
  | a :: r, K => rowK a fun b => listK r fun L => K (b :: L)
/-- rows of bytes that are handed in -/
def rowsOfK : A → (List (List UInt8) → Prop) → Prop
  | .row n [.gen m rs], K => n = m ∧ listK rs K
  | .v (.slice none 0 0), K => K []
  | _, _ => False
theorem rowK_spec {x : A} {K : List UInt8 → Prop} (h : rowK x K) : ∃ b, K b ∧ ∀ {S : Nat → Prop} {w : World} {v : Value}, RA S w x v → ∃ a n c, v = .slice a n c ∧ Row8 w a n b ∧ (a = none → c = 0) := by
  unfold rowK at h
  split at h
  · next n m b =>
    obtain ⟨rfl, h⟩ := h
    refine ⟨b, h, fun {S w v} hv => ?_⟩
    cases hv with
    | row k1 k2 k3 k4 k5 =>
      rename_i c cs ad
      obtain ⟨e1, e2⟩ := k1.toBytes
      refine ⟨ad, _, c, rfl, ⟨e1.symm, by rw [e1]; exact Nat.le_trans k2 k3, ?_⟩, k4⟩
      rcases k5 with k5 | ⟨q, o', k6, _, _, k7⟩
      · left; rw [e2] at k5; exact List.map_eq_nil_iff.1 k5
      · refine .inr ⟨q, o', k6, fun i hi => ?_⟩
        subst e2
        rw [k7 i (by simpa [HL] using hi)]
        simp [HL]
  · refine ⟨[], h, fun {S w v} hv => ?_⟩
    cases hv with
    | row k1 k2 k3 k4 k5 => exact ⟨_, _, _, rfl, Row8.nil _ _, k4⟩
  · refine ⟨[], h, fun {S w v} hv => ?_⟩
    rw [RA.plain hv]
    exact ⟨none, 0, 0, rfl, Row8.nil _ _, fun _ => rfl⟩
  · exact h.elim
theorem listK_spec : ∀ {l : List A} {K : List (List UInt8) → Prop}, listK l K → ∃ L, K L ∧ L.length = l.length ∧ ∀ {S : Nat → Prop} {w : World} {vs : List Value}, RG S w l vs → ∀ (i : Nat) (h : i < L.length), ∃ a n c, vs[i]? = some (.slice a n c) ∧ Row8 w a n L[i] ∧ (a = none → c = 0)
  | [], K, h => ⟨[], h, rfl, fun _ i hi => by simp at hi⟩
  | a :: r, K, h => by
    obtain ⟨b, h1, h2⟩ := rowK_spec h
    obtain ⟨L, h3, h4, h5⟩ := listK_spec h1
    refine ⟨b :: L, h3, by simp [h4], fun {S w vs} hv i hi => ?_⟩
    cases hv with
    | cons k1 k2 k3 =>
      cases i with
      | zero =>
        obtain ⟨a', n, c, rfl, h6, h7⟩ := h2 k1
        exact ⟨a', n, c, rfl, h6, h7⟩
      | succ i => simpa using h5 k3 i (by simpa using hi)
theorem rowsOfK_spec {x : A} {K : List (List UInt8) → Prop} (h : rowsOfK x K) : ∃ L, K L ∧ ∀ {S : Nat → Prop} {w : World} {v : Value}, RA S w x v → ∃ a n c, v = .slice a n c ∧ RowR w a n L ∧ (a = none → c = 0) ∧
    (L = [] ∨ ∃ b off, a = some ⟨b, off, none⟩ ∧ ∀ (i : Nat) (h : i < L.length), ∃ a' l' c', w.cell? ⟨b, off + i, none⟩ = some (.slice a' l' c') ∧ Row8 w a' l' L[i] ∧ (a' = none → c' = 0)) := by
  unfold rowsOfK at h
  split at h
  · next n m rs =>
    obtain ⟨rfl, h⟩ := h
    obtain ⟨L, h1, h2, h3⟩ := listK_spec h
    refine ⟨L, h1, fun {S w v} hv => ?_⟩
    cases hv with
    | row k1 k2 k3 k4 k5 =>
      rename_i c cs ad
      obtain ⟨e1, e2⟩ := k1.toGen
      have hl : L.length = n := by rw [h2, e1]
      have key : L = [] ∨ ∃ b off, ad = some ⟨b, off, none⟩ ∧ ∀ (i : Nat) (h : i < L.length), ∃ a' l' c', w.cell? ⟨b, off + i, none⟩ = some (.slice a' l' c') ∧ Row8 w a' l' L[i] ∧ (a' = none → c' = 0) := by
        rcases k5 with k5 | ⟨q, o', k6, _, _, k7⟩
        · left
          have := e2.len
          rw [k5] at this
          exact List.length_eq_zero_iff.1 (by rw [h2]; exact this.symm)
        · refine .inr ⟨q, o', k6, fun i hi => ?_⟩
          obtain ⟨a', l', c', e3, e4, e5⟩ := h3 e2 i hi
          obtain ⟨e6, e7⟩ := List.getElem?_eq_some_iff.1 e3
          exact ⟨a', l', c', by rw [k7 i e6, e7], e4, e5⟩
      refine ⟨ad, _, c, rfl, ⟨hl.symm, by rw [hl]; exact Nat.le_trans k2 k3, ?_⟩, k4, key⟩
      rcases key with h0 | ⟨b, off, h4, h5⟩
      · exact .inl h0
      · exact .inr ⟨b, off, h4, fun i hi => by obtain ⟨a', l', c', e1, e2, _⟩ := h5 i hi; exact ⟨a', l', c', e1, e2⟩⟩
  · refine ⟨[], h, fun {S w v} hv => ?_⟩
    rw [RA.plain hv]
    exact ⟨none, 0, 0, rfl, ⟨rfl, by simp, .inl rfl⟩, fun _ => rfl, .inl rfl⟩
  · exact h.elim
theorem hash_of {S : Nat → Prop} {w : World} {h : List UInt8} {v : Value} (hv : RA S w (.agg [.bytes 32 h]) v) : v = HV h ∧ h.length = 32 := by
  cases hv with
  | agg k =>
    obtain ⟨e1, e2⟩ := k.toBytes
    subst e2
    exact ⟨rfl, e1⟩
theorem ra_hash {S : Nat → Prop} {w : World} {h : List UInt8} (hl : h.length = 32) : RA S w (.agg [.bytes 32 h]) (HV h) := .agg (.ofBytes hl rfl)
theorem ra_one {S : Nat → Prop} {w : World} {a : A} {vs : List Value} (h : RAs S w [a] vs) : ∃ v, vs = [v] ∧ RA S w a v := by
  cases h with | cons h r => cases r; exact ⟨_, rfl, h⟩
theorem ra_three {S : Nat → Prop} {w : World} {a b c : A} {vs : List Value} (h : RAs S w [a, b, c] vs) : ∃ x y z, vs = [x, y, z] ∧ RA S w a x ∧ RA S w b y ∧ RA S w c z := by
  cases h with | cons h r => cases r with | cons h2 r => cases r with | cons h3 r => cases r; exact ⟨_, _, _, rfl, h, h2, h3⟩

def deriveS : List A → (Res → Prop) → Prop
  | [.agg [.bytes 32 h], .v (.string s), x], K => s.size ≤ 1000000 ∧ rowsOfK x fun L => K (.d (.agg [.bytes 32 (deriveW h (sb s) L.flatten)]))
  | _, _ => False
theorem deriveS_ok : ∀ args K, deriveS args K → ∃ r, FnO 30 args r ∧ K r := by
  intro args K hd
  unfold deriveS at hd
  split at hd
  · next h s x =>
    obtain ⟨hs, hd⟩ := hd
    obtain ⟨L, hK, hL⟩ := rowsOfK_spec hd
    refine ⟨_, fun S w vs _ ha => ?_, hK⟩
    obtain ⟨v1, v2, v3, rfl, h1, h2, h3⟩ := ra_three ha
    obtain ⟨rfl, hh⟩ := hash_of h1
    rw [RA.plain h2]
    obtain ⟨a, n, c, rfl, h4, _⟩ := hL h3
    refine (derive_any h hh s (by unfold maxLen; omega) a n c L w h4).mono ?_
    rintro e w' ⟨rfl, hb⟩
    exact ⟨_, rfl, ra_hash (sumW_length _), hb⟩
  · exact hd.elim
def rderiveS : List A → (Res → Prop) → Prop
  | [.agg [.bytes 32 h], .v (.string s), x], K => s.size ≤ 1000000 ∧ rowK x fun b => b.length ≤ 100000000 ∧ K (.d (.agg [.bytes 32 (deriveW h (sb s) b)]))
  | _, _ => False
theorem rderiveS_ok : ∀ args K, rderiveS args K → ∃ r, FnO 34 args r ∧ K r := by
  intro args K hd
  unfold rderiveS at hd
  split at hd
  · next h s x =>
    obtain ⟨hs, hd⟩ := hd
    obtain ⟨b, ⟨hbl, hK⟩, hL⟩ := rowK_spec hd
    refine ⟨_, fun S w vs _ ha => ?_, hK⟩
    obtain ⟨v1, v2, v3, rfl, h1, h2, h3⟩ := ra_three ha
    obtain ⟨rfl, hh⟩ := hash_of h1
    rw [RA.plain h2]
    obtain ⟨a, n, c, rfl, h4, h5⟩ := hL h3
    refine (rderive_any h hh s a n c b w h4 h5 (by omega)).mono ?_
    rintro e w' ⟨rfl, hb⟩
    exact ⟨_, rfl, ra_hash (sumW_length _), hb⟩
  · exact hd.elim

/-- a key's secret number, out of a sum -/
def scal (h : List UInt8) : Int := U (numN h 8) % 1073741788 + 1
theorem scal_bd (h : List UInt8) : 1 ≤ scal h ∧ scal h < 1073741789 := by
  unfold scal
  have := Int.emod_nonneg (U (numN h 8)) (show (1073741788 : Int) ≠ 0 by decide)
  have := Int.emod_lt_of_pos (U (numN h 8)) (show (0 : Int) < 1073741788 by decide)
  omega
/-- a key as the program keeps it: its secret number -/
def KeyP (s : Int) (cs : List Value) (t : TypeId) : Prop := t = 88 ∧ ∃ d us, cs.toArray = CD s d us
def fromS : List A → (Res → Prop) → Prop
  | [.agg [.bytes 32 h]], K => K (.p (.obj (KeyP (scal h))))
  | _, _ => False
theorem fromS_ok : ∀ args K, fromS args K → ∃ r, FnO 10 args r ∧ K r := by
  intro args K hd
  unfold fromS at hd
  split at hd
  · next h =>
    refine ⟨_, fun S w vs _ ha => ?_, hd⟩
    obtain ⟨v, rfl, h1⟩ := ra_one ha
    obtain ⟨rfl, hh⟩ := hash_of h1
    refine (from_any h hh w).mono ?_
    rintro e w' ⟨g, rfl, hg, hb, hB⟩
    exact ⟨_, rfl, ⟨g, rfl, hg, (CK (U (numN h 8) % 1073741788 + 1) 0 0 0 0).toList, _, hb, rfl, false, 0, rfl⟩, hB⟩
  · exact hd.elim
def publicS : Nat → Bk → List A → (Res → Bk → Prop) → Prop
  | 0, .obj p, [], K => ∃ s, p = KeyP s ∧ 0 ≤ s ∧ s < 1073741789 ∧ K (.d (.v (.int .i64 (powI 4 s)))) (.obj (KeyP s))
  | _, _, _, _ => False
theorem publicS_ok : ∀ pos x args K, publicS pos x args K → ∃ r x', FnMO 23 pos x args r x' ∧ K r x' := by
  intro pos x args K hd
  unfold publicS at hd
  split at hd
  · next p =>
    obtain ⟨s, rfl, h0, h1, hK⟩ := hd
    refine ⟨_, _, fun S w r vs hr _ hx ha => ?_, hK⟩
    cases ha
    obtain ⟨cs, t, h2, rfl, d, us, h3⟩ := hx
    have hb : Blk w r (CD s d us) 88 := by unfold Blk; rw [h2, ← h3]
    refine (public_st r s us d ⟨h0, h1⟩ w hb).mono ?_
    rintro e w' ⟨rfl, h4, h5⟩
    exact ⟨_, rfl, .v _, ⟨(CD s true us).toList, _, h4, rfl, true, us, rfl⟩, h5⟩
  · exact hd.elim
def rfromS : List A → (Res → Prop) → Prop
  | [.agg [.bytes 32 h]], K => K (.d (.agg [.ints .i64 2 [scal h, powI 4 (scal h)]]))
  | _, _ => False
theorem rfromS_ok : ∀ args K, rfromS args K → ∃ r, FnO 12 args r ∧ K r := by
  intro args K hd
  unfold rfromS at hd
  split at hd
  · next h =>
    refine ⟨_, fun S w vs _ ha => ?_, hd⟩
    obtain ⟨v, rfl, h1⟩ := ra_one ha
    obtain ⟨rfl, hh⟩ := hash_of h1
    refine (rfrom_any h hh w).mono ?_
    rintro e w' ⟨rfl, hB⟩
    exact ⟨_, rfl, ra_ints (zs := [scal h, powI 4 (scal h)]) rfl, hB⟩
  · exact hd.elim
end Go.Proofs.YtpemaphgmfaioaaGreat
