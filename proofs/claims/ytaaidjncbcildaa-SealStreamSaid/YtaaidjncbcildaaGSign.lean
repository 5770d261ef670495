/-
  Signatures as numbers. No program is named here.
-/
import Derived.Test.YtaaidjncbcildaaGBase
import Derived.Test.YtaaidjncbcildaaGPow
import Derived.Test.YtaaidjncbcildaaGSum
import Derived.Test.YtaaidjncbcildaaGPair
import Derived.Test.YtaaidjncbcildaaGSumR
namespace Go.Proofs.Ytaaidjncbcildaa
set_option maxRecDepth 100000
open Go.RowKit Pm
set_option linter.unusedVariables false

/-- what a signature has to answer -/
def askW (b y : Int) (p : List UInt8) : Int := U (numN (deriveW (List.replicate 32 0) (sb ⟨#[115, 105, 103, 110]⟩) [fourB b, fourB y, p].flatten) 8) % 1073741789
/-- the number that nobody may know -/
def nonceW (x : Int) (p : List UInt8) : Int := U (numN (deriveW (List.replicate 32 0) (sb ⟨#[110, 111, 110, 99, 101]⟩) [fourB x, p].flatten) 8) % 1073741788 + 1
def sigE (s : Int) (p : List UInt8) : Int := askW (powI 4 (nonceW s p)) (powI 4 s) p
def sigS (s : Int) (p : List UInt8) : Int := (nonceW s p + sigE s p * s) % 1073741789
/-- whether a signature holds -/
def verW (y : Int) (p : List UInt8) (e s : Int) : Bool := isI y && decide (0 ≤ e ∧ e < 1073741789) && decide (0 ≤ s ∧ s < 1073741789) && (e == askW (mulI (powI 4 s) (powI y (1073741789 - e))) y p)

theorem askW_bd (b y : Int) (p : List UInt8) : 0 ≤ askW b y p ∧ askW b y p < 1073741789 := by
  unfold askW
  omega
theorem nonceW_bd (x : Int) (p : List UInt8) : 1 ≤ nonceW x p ∧ nonceW x p < 1073741789 := by
  unfold nonceW
  omega
theorem sigE_bd (s : Int) (p : List UInt8) : 0 ≤ sigE s p ∧ sigE s p < 1073741789 := askW_bd _ _ _
theorem sigS_bd (s : Int) (p : List UInt8) : 0 ≤ sigS s p ∧ sigS s p < 1073741789 := by
  unfold sigS
  omega

theorem pw_round (m k : Nat) : pw 4 (m + 1073741789 * k) = pw 4 m := by
  rw [← pw_add, ← pw_pw, four_Q, pw_one_base, Nat.mul_one, Nat.mod_eq_of_lt (pw_lt _ _)]
theorem pw_mod (m : Nat) : pw 4 (m % 1073741789) = pw 4 m := by
  have h := pw_round (m % 1073741789) (m / 1073741789)
  rw [Nat.mod_add_div] at h
  exact h.symm
/-- the point that a signature began with -/
theorem begun (x r e : Int) (hx : 0 ≤ x ∧ x < 1073741789) (hr : 0 ≤ r ∧ r < 1073741789) (he : 0 ≤ e ∧ e < 1073741789) :
    mulI (powI 4 ((r + e * x) % 1073741789)) (powI (powI 4 x) (1073741789 - e)) = powI 4 r := by
  obtain ⟨x, rfl⟩ := Int.eq_ofNat_of_zero_le hx.1
  obtain ⟨r, rfl⟩ := Int.eq_ofNat_of_zero_le hr.1
  obtain ⟨e, rfl⟩ := Int.eq_ofNat_of_zero_le he.1
  have e1 : ((r : Int) + e * x) % 1073741789 = (((r + e * x) % 1073741789 : Nat) : Int) := by
    have hm : ((e * x : Nat) : Int) = (e : Int) * x := Int.natCast_mul e x
    rw [← hm]
    generalize e * x = m
    omega
  have e2 : (1073741789 - (e : Int)) = ((1073741789 - e : Nat) : Int) := by omega
  have h1 : powI 4 (((r + e * x) % 1073741789 : Nat) : Int) = (pw 4 ((r + e * x) % 1073741789) : Int) := powI_nat 4 _ (by decide) (by omega)
  have h2 : powI 4 (x : Int) = (pw 4 x : Int) := powI_nat 4 x (by decide) (by omega)
  have h3 : powI 4 (r : Int) = (pw 4 r : Int) := powI_nat 4 r (by decide) (by omega)
  rw [e1, e2, h1, h2, h3, powI_nat (pw 4 x) (1073741789 - e) (pw_lt _ _) (by omega), pw_pw, pw_mod, mulI_nat _ _ (pw_lt _ _) (pw_lt _ _), pw_add]
  have e3 : r + e * x + x * (1073741789 - e) = r + 1073741789 * x := by
    have h4 : x * (1073741789 - e) + x * e = x * 1073741789 := by rw [← Nat.mul_add, Nat.sub_add_cancel (by omega)]
    have h5 : e * x = x * e := Nat.mul_comm _ _
    have h6 : 1073741789 * x = x * 1073741789 := Nat.mul_comm _ _
    omega
  rw [e3, pw_round]
theorem isI_pubS (s : Int) (hs : 1 ≤ s ∧ s < 1073741789) : isI (powI 4 s) = true := by
  obtain ⟨n, rfl⟩ := Int.eq_ofNat_of_zero_le (show 0 ≤ s by omega)
  rw [show powI 4 (n : Int) = (pw 4 n : Int) from powI_nat 4 n (by decide) (by omega)]
  exact isI_four n (by omega) (by omega)
theorem verW_own (s : Int) (p : List UInt8) (hs : 1 ≤ s ∧ s < 1073741789) : verW (powI 4 s) p (sigE s p) (sigS s p) = true := by
  have hn := nonceW_bd s p
  have hE := sigE_bd s p
  unfold verW
  rw [isI_pubS s hs, decide_eq_true hE, decide_eq_true (sigS_bd s p)]
  have h := begun s (nonceW s p) (sigE s p) ⟨by omega, hs.2⟩ ⟨by omega, hn.2⟩ hE
  have h2 : sigS s p = (nonceW s p + sigE s p * s) % 1073741789 := rfl
  rw [h2, h]
  simp [sigE]
end Go.Proofs.Ytaaidjncbcildaa

/-
  Signatures: the walks of asked, Sign, Verify, the program's and the document's.
-/
namespace Go.Proofs.Ytaaidjncbcildaa
set_option maxRecDepth 100000
open Go.RowKit Pm
set_option linter.unusedVariables false
set_option linter.unusedSimpArgs false

theorem four_b (n : Int) (w : World) : Calls Try.prog 24 #[.int .i64 n] w fun e w' => e = .returned (.slice (some ⟨w.heap.size, 0, none⟩) 4 4) ∧ Blk w' w.heap.size (HC (fourB n)) 5 ∧ Below w.heap.size w w' := by
  refine (four_any n w).mono ?_
  rintro e w' ⟨rfl, rfl⟩
  exact ⟨rfl, Blk.new _ _ _, (Below.refl _ _).next (Nat.le_refl _) _⟩
theorem rfour_b (n : Int) (w : World) : Calls Try.prog 21 #[.int .i64 n] w fun e w' => e = .returned (.slice (some ⟨w.heap.size, 0, none⟩) 4 4) ∧ Blk w' w.heap.size (HC (fourB n)) 5 ∧ Below w.heap.size w w' := by
  refine (rfour_any n w).mono ?_
  rintro e w' ⟨rfl, rfl⟩
  exact ⟨rfl, Blk.new _ _ _, (Below.refl _ _).next (Nat.le_refl _) _⟩
theorem cell_grown {w w' : World} {g : Nat} (h : w.grownBy w' (some g)) {x : Addr} {v : Value} (hx : w.cell? x = some v) (hne : x.block ≠ g) : w'.cell? x = some v := by
  have hlt := block_lt_of_cell hx
  have hb := h.block x.block hlt (fun e => hne (by injection e))
  unfold World.cell? at *
  rw [hb]; exact hx
/-- bytes are no key -/
theorem no_key {w : World} {g : Nat} {t : TypeId} {s us : Int} {d : Bool} (hk : Blk w g (CD s d us) t) {x : Addr} {z : Int} (hx : w.cell? x = some (.int .u8 z)) : x.block ≠ g := by
  rintro rfl
  unfold Blk at hk
  unfold World.cell? at hx
  rw [hk] at hx
  simp only [CD, CK] at hx
  split at hx
  · cases hx
  · rcases x with ⟨b, o, sp⟩
    match o with
    | 0 => simp at hx
    | 1 => simp at hx
    | 2 => simp at hx
    | 3 => simp at hx
    | 4 => simp at hx
    | 5 => simp at hx
    | 6 => simp at hx
    | n + 7 => simp at hx
theorem Row8.key {w w' : World} {g : Nat} {t : TypeId} {s us : Int} {d : Bool} {a : Option Addr} {l : Nat} {p : List UInt8} (h : Row8 w a l p) (hk : Blk w g (CD s d us) t) (hg : w.grownBy w' (some g)) : Row8 w' a l p := by
  refine ⟨h.len_eq, h.small, ?_⟩
  rcases h.cells with h1 | ⟨b, off, rfl, hc⟩
  · exact .inl h1
  · exact .inr ⟨b, off, rfl, fun i hi => cell_grown hg (hc i hi) (no_key hk (hc i hi))⟩
theorem Arg8.key {w w' : World} {g : Nat} {t : TypeId} {s us : Int} {d : Bool} {a : Option Addr} {l c : Nat} {p : List UInt8} (h : Arg8 w a l c p) (hk : Blk w g (CD s d us) t) (hg : w.grownBy w' (some g)) : Arg8 w' a l c p := ⟨h.row.key hk hg, h.nil, h.le, h.small⟩

end Go.Proofs.Ytaaidjncbcildaa

/-
  Signatures: the walk of Sign, the program's.
-/
namespace Go.Proofs.Ytaaidjncbcildaa
set_option maxRecDepth 100000
open Go.RowKit Pm
set_option linter.unusedVariables false
set_option linter.unusedSimpArgs false

end Go.Proofs.Ytaaidjncbcildaa

/-
  Signatures: the walks of Verify, the program's and the document's, and of the document's Sign.
-/
namespace Go.Proofs.Ytaaidjncbcildaa
set_option maxRecDepth 100000
open Go.RowKit Pm
set_option linter.unusedVariables false
set_option linter.unusedSimpArgs false

theorem verW_y {y e s : Int} {p : List UInt8} (h : isI y = false) : verW y p e s = false := by unfold verW; rw [h]; simp
theorem verW_e {y e s : Int} {p : List UInt8} (h : ¬ (0 ≤ e ∧ e < 1073741789)) : verW y p e s = false := by unfold verW; rw [decide_eq_false h]; simp
theorem verW_s {y e s : Int} {p : List UInt8} (h : ¬ (0 ≤ s ∧ s < 1073741789)) : verW y p e s = false := by unfold verW; rw [decide_eq_false h]; simp
theorem verW_all {y e s : Int} {p : List UInt8} (hy : isI y = true) (he : 0 ≤ e ∧ e < 1073741789) (hs : 0 ≤ s ∧ s < 1073741789) : verW y p e s = (e == askW (mulI (powI 4 s) (powI y (1073741789 - e))) y p) := by
  unfold verW; rw [hy, decide_eq_true he, decide_eq_true hs]; simp

end Go.Proofs.Ytaaidjncbcildaa

/-
  Signatures: the walk of the document's Sign.
-/
namespace Go.Proofs.Ytaaidjncbcildaa
set_option maxRecDepth 100000
open Go.RowKit Pm
set_option linter.unusedVariables false
set_option linter.unusedSimpArgs false

end Go.Proofs.Ytaaidjncbcildaa
